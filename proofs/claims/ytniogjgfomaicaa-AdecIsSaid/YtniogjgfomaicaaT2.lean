/-
  What the functions do: contracts, and their questions answered. No condition but what its theorems ask.
-/
import Derived.Test.YtniogjgfomaicaaT1
namespace Go.Proofs.Ytniogjgfomaicaa.Wd
open Go.Proofs.Ytniogjgfomaicaa.Eng Go.Proofs.Ytniogjgfomaicaa.Sen Go.RowKit
set_option linter.defProp false
set_option linter.unusedVariables false
set_option linter.unusedSimpArgs false
set_option maxRecDepth 1000000
open Go.Value (int string slice bool)
open Go.IntKind (i64 u64 u8 u32 i32)
open _root_.List (length take drop)
open _root_.ByteArray (size)
open _root_.Int (toNat)
noncomputable section
def ctN(σ:Type) (args:σ->List AV) (pre:σ->Prop) (mem:σ->PF) (β:Type) (post:σ->β->Prop) (pm:σ->β->PF) (r:σ->β->AV):CtR where
 σ:=σ
 args:=args
 h:=λ_=>[]
 m:=1
 pre:=pre
 mem:=mem
 β:=λ_=>β
 post:=post
 pm:=pm
 r:=r
 h':=λ_ _=>[]
 m':=1
def z5x(n:Int):Prop:=0<=n/\n<18446744073709551616
def zbn:CtR:=ctN (Int×Int×Int) (λ⟨v,f,b⟩=>[.sv (.int .u64 v), .sv (.int .i64 f), .sv (.int .i64 b)]) (λ⟨v,f,b⟩=>z5x v/\1<=f/\f<=62/\0<=b/\b<=2000) (λ_=>{}) Int (λ_ r=>z5x r) (λ_ _=>{}) λ_ r=> .sv (.int .u64 r)
def zvi:zbn.σ->WayF:=λ⟨v,f,b⟩=>{
 ann:=λ_ _ _=>some {σ:=Nat,pre:=λe=>e<=63,t:=λe=>[(7, .sv (.int .i64 (e:Int)))],h:=λ_=>[],more:=0,μ:=λe=>e,keep:=[0,1,2,6]}
 cut:=λi _ _=>match i with
  |7=>some {σ:=Nat,pre:=λe=>e<=63,t:=λe=>[(7, .sv (.int .i64 (e:Int)))],h:=λ_=>[],more:=0,μ:=λ_=>0,keep:=[0,1,2,6,8]}
  |15=>some {σ:=Int×Int,t:=λ⟨e,m⟩=>[(7, .sv (.int .i64 e)),(8, .sv (.int .u64 m))],pre:=λ⟨e,m⟩=>0<=e/\e<=63,h:=λ_=>[],more:=0,μ:=λ_=>0,keep:=[1,2,6]}
  |_=>none}
def ztb(n:Int):Prop:= -9223372036854775808<=n/\n<9223372036854775808
def zbj:CtR:=ctN Int (λv=>[.sv (.int .i64 v)]) ztb (λ_=>{}) Int (λ_ r=>0<=r/\r<4294967296) (λ_ _=>{}) λ_ r=> .sv (.int .u32 r)
def z6y:CtR:=ctN Int (λv=>[.sv (.int .i64 v)]) ztb (λ_=>{}) Int (λ_ r=>z5x r) (λ_ _=>{}) λ_ r=> .sv (.int .u64 r)
def j09:CtR:=ctN ByteArray (λs=>[.sv (.string s)]) (λs=>s.size<1000000) (λ_=>{}) (ByteArray×Bool) (λs ⟨r,b⟩=>r.size<=s.size) (λ_ _=>{}) λ_ ⟨r,b⟩=> .tup [.sv (.string r), .sv (.bool b)]
def j3y:j09.σ->WayF:=λs=>{
 ann:=λ_ _ _=>some {σ:=ByteArray×ByteArray,pre:=λ⟨q,u⟩=>q.size+u.size<=s.size,t:=λ⟨q,u⟩=>[(4, .sv (.string q)),(0, .sv (.string u))],h:=λ_=>[],more:=0,μ:=λ⟨q,u⟩=>u.size,keep:=[]}}
def kIx(k:ByteArray):List ByteArray->Nat
 | []=>0
 |a::l=>if qfa a k=true then kIx k l+1 else 0
def z18(k:ByteArray) (ks:List ByteArray):Bool:=decide (ks[kIx k ks]? =some k)
def z2f(k:ByteArray) (ks:List ByteArray) (l:List PV) (w:PV):List PV:=if z18 k ks=true then l.set (kIx k ks) w else l.take (kIx k ks)++w::l.drop (kIx k ks)
def qb3(k:ByteArray) (ks:List ByteArray):List ByteArray:=if z18 k ks=true then ks else ks.take (kIx k ks)++k::ks.drop (kIx k ks)
def ztx:CtR:=ctN (GV×ByteArray×GV) (λ⟨v,k,w⟩=>[v.av, .sv (.string k),w.av]) (λ⟨v,k,w⟩=>v.ks.length=v.l.length/\v.l.length<1000000) (λ⟨v,k,w⟩=>⟨true,λp=>v.ok p/\w.ok p,λ_ _ h e=>⟨GV.ok_mono h e.1,GV.ok_mono h e.2⟩⟩) GV (λ⟨v,k,w⟩ u=>u.pv= .mk v.n v.s (z2f k v.ks (GV.pvs v.l) w.pv) (qb3 k v.ks) v.b) (λ_ u=>vM u) λ_ u=>u.av
def j3x:ztx.σ->WayF:=λ⟨v,k,w⟩=>{
 ann:=λ_ _ _=>some {σ:=Nat,pre:=λj=>j<=v.ks.length/\j+kIx k (v.ks.drop j)=kIx k v.ks,t:=λj=>[(7, .sv (.int .i64 (j:Int)))],h:=λ_=>[],more:=0,μ:=λj=>v.ks.length- j,keep:=[1,3,5,6]}
 cut:=λi _ _=>match i with
  |4=>some {σ:=Nat,pre:=λj=>j=kIx k v.ks/\j<=v.ks.length,t:=λj=>[(7, .sv (.int .i64 (j:Int)))],h:=λ_=>[],more:=0,μ:=λ_=>0,keep:=[1,3,5,6]}
  |8=>some {σ:=Unit,pre:=λj=>z18 k v.ks=false,t:=λj=>[],h:=λ_=>[],more:=0,μ:=λ_=>0,keep:=[1,3,5,6,7]}
  |_=>none
 pub:=λi k=>match i,k with
  |7,1=>[48]
  |10,1=>[79]
  |_,_=>[]}
def j08:Ct:=ctP (SV×Int) (λ⟨x,t⟩=>[scA x, .sv (.int .i64 t)]) (λ_=>True) (λ_=>{}) λ⟨x,t⟩=> .sv (.bool (decide (0<=t)&&decide (t<(x.2.1:Int))))
def z1r(S:List AT):Prop:=∀a∈S,1<=a.k/\a.k<=14
def okQ(a:AT) (n:Nat) (ks:List ByteArray) (b:Int):Bool:=if a.k=9 then decide (n=a.fs.length)else if a.k=14 then decide (0<=b/\b<a.brs.length/\n=1)else if a.k=13 then decide (n=ks.length)&&z2i ks else true
def inF(S:List AT) (a:AT) (v:GV):Bool:=okQ a v.l.length v.ks v.b&&PV.fitL S (z2j a v.b) 0 (GV.pvs v.l)
def nB(k:Int):Bool:=decide (k=2\/k=3\/k=4\/k=5\/k=6\/k=10)
def z0x(S:List AT) (a:AT) (v:GV):Bool:=if a.k=1 then true else if isN a.k=true then okN a v.n else if isT a.k=true then okT a v.s else inF S a v
def z3r:Ct:=ctP FtS (λ⟨S,x,t,v⟩=>[scA x, .sv (.int .i64 t),v.av]) (λ⟨S,x,t,v⟩=>small S/\z1r S/\v.pv.sm) (λ⟨S,x,t,v⟩=>svM S x v) λ⟨S,x,t,v⟩=> .sv (.bool (PV.fits S t v.pv))
def z8c:Ct:=ctP FpS (λ⟨S,x,a,v⟩=>[scA x,a.av,v.av]) (λ⟨S,x,a,v⟩=>small S/\z1r S/\a.fs.length<1000000/\v.pv.sm/\isQ a.k=true) (λ⟨S,x,a,v⟩=>jdx S x a v) λ⟨S,x,a,v⟩=> .sv (.bool (inF S a v))
def zA:AT:=⟨0,mkS [],(none,0,0),[],0,(none,0,0),[],false,mkS [],0,(none,0,0),[],(none,0,0),[]⟩
def atS(S:List AT) (t:Int):AT:=(S[t.toNat]?).getD zA
def b46(k:Int):Bool:=decide (k=4)||decide (k=6)
def z9q(a:AT) (v:GV):Bool:=(decide (a.k≠13)&&decide (0<v.ks.length))|| (decide (a.k≠14)&&decide (v.b≠0))
def zlh:FtS->WayF:=λ⟨S,x,t,v⟩=>{
 cut:=λi _ _=>match i with
  |14=>some {σ:=Unit,t:=λ_=>[(46, .sv (.bool (decide ((atS S t).k=4))))],h:=λ_=>[],more:=0,μ:=λ_=>0,keep:=[3,5,6,7,8,9,10,11,22]}
  |15=>some {σ:=Unit,t:=λ_=>[(46, .sv (.bool (b46 (atS S t).k)))],h:=λ_=>[],more:=0,μ:=λ_=>0,keep:=[3,5,6,7,8,9,10,11,22]}
  |26=>some {σ:=Unit,t:=λ_=>[(8, .sv (.bool (nB (atS S t).k))),(9, .sv (.bool (isT (atS S t).k))),(10, .sv (.bool (isQ (atS S t).k))),(11, .sv (.bool (z0x S (atS S t) v)))],h:=λ_=>[],more:=0,μ:=λ_=>0,keep:=[3,5,6,7]}
  |27=>some {σ:=Unit,t:=λ_=>[(96, .sv (.bool (z9q (atS S t) v)))],h:=λ_=>[],more:=0,μ:=λ_=>0,keep:=[3,5,6,7,8,9,10,11]}
  |_=>none}
def zlk:FpS->WayF:=λ⟨S,x,a,v⟩=>{
  ann:=λid _ _=>match id with
    |1=>some {σ:=Nat,pre:=λj=>j<=v.ks.length/\z2i v.ks=(if j=0 then z2i v.ks else z2i (v.ks.drop (j- 1)))/\(∀(h:0<j) (h2:j<=v.ks.length),vld v.ks[j- 1]=true),t:=λj=>[(7, .sv (.int .i64 (j:Int)))],h:=λ_=>[],more:=0,μ:=λj=>v.ks.length- j,keep:=[3,4,5,6]}
    |_=>some {σ:=Nat,pre:=λj=>j<=v.l.length/\PV.fitL S (z2j a v.b) j ((GV.pvs v.l).drop j)=PV.fitL S (z2j a v.b) 0 (GV.pvs v.l),t:=λj=>[(8, .sv (.int .i64 (j:Int)))],h:=λ_=>[],more:=0,μ:=λj=>v.l.length- j,keep:=[3,4,5,6]}
  cut :=λi t _=>match i with
    |15=>some {σ:=Unit,pre:=λ_=>a.k≠14/\okQ a v.l.length v.ks v.b=true,t:=λ_=>[],h:=λ_=>[],more:=0,μ:=λ_=>0,keep:=[3,4,5,6]}
    | 21=>match slI t 8 with
      |some i=>some {σ:=Unit,t:=λ_=>[(9, .sv (.int .i64 (z2j a v.b i.toNat)))],h:=λ_=>[],more:=0,μ:=λ_=>0,keep:=[3,4,5,6,8]}
      |none=>none
    |_=>none}
def zn8:FtS->Nat:=λ⟨S,x,t,v⟩=>SizeOf.sizeOf v
def zte:FpS->Nat:=λ⟨S,x,a,v⟩=>SizeOf.sizeOf v
section
open Go.Proofs.Ytniogjgfomaicaa.Rv
inductive Rs(α:Type)where
 |no (k:Nat)
 |ok (a:α)
def Rs.bind{α β:Type}:Rs α->(α->Rs β)->Rs β
 | .no k,_=> .no k
 | .ok a,f=>f a
def z0o{α β:Type} (a:α) (f:α->Rs β):(Rs.ok a).bind f=f a:=rfl
def z1n{α β:Type} (k:Nat) (f:α->Rs β):(Rs.no k).bind f= .no k:=rfl
def j1o{α β γ:Type} (r:Rs α) (f:α->Rs β) (g:β->Rs γ):(r.bind f).bind g=r.bind λa=>(f a).bind g:=by cases r<;>rfl
def btP(D:ByteArray) (i:Nat) (k:Int):ByteArray×Int×Int:=if k<0\/(D.size:Int)- i<k then(mkS [],2,i)else(D.extract i (i+k.toNat),0,i+k)
def txP(D:ByteArray) (i:Nat):ByteArray×Int×Int:=if(lgR D i).2.1≠0 then(mkS [],((lgR D i).2.1:Nat),((lgR D i).2.2:Nat))else if 5000<(lgR D i).1 then(mkS [],3,((lgR D i).2.2:Nat))else btP D (lgR D i).2.2 (lgR D i).1
def vlE(t:ByteArray×Int×Int):Int:=if t.2.1=0/\vld t.1=false then 2 else t.2.1
def rsT(t:ByteArray×Int×Int) (e:Int):Rs (ByteArray×Nat):=if e=0 then .ok (t.1,t.2.2.toNat)else .no (e- 1).toNat
def lgX(D:ByteArray) (i:Nat):Rs (Int×Nat):=if(lgR D i).2.1=0 then .ok ((lgR D i).1,(lgR D i).2.2)else .no ((lgR D i).2.1- 1)
def btX(D:ByteArray) (i:Nat) (k:Int):Rs (ByteArray×Nat):=rsT (btP D i k) (btP D i k).2.1
def txX(D:ByteArray) (i:Nat):Rs (ByteArray×Nat):=rsT (txP D i) (txP D i).2.1
def vlX(D:ByteArray) (i:Nat):Rs (ByteArray×Nat):=rsT (txP D i) (vlE (txP D i))
def ixX(D:ByteArray) (i:Nat) (o:Int):Rs (Int×Nat):=if chE D i o=0 then .ok ((lgR D i).1,(lgR D i).2.2)else .no (chE D i o- 1)
def pvN(n:Int):PV:= .mk n (mkS []) [] [] 0
def pvS(s:ByteArray):PV:= .mk 0 s [] [] 0
def loS(s:ByteArray):Int:=(loL s.data.toList:Nat)
def lfX(a:AT) (D:ByteArray) (i:Nat):Rs (PV×Nat):=
 if a.k=1 then .ok (pvN 0,i)else
 if a.k=2 then(btX D i 1).bind λr=>if 1<loS r.1 then .no 1 else .ok (pvN (loS r.1),r.2)else
 if a.k=3 then(lgX D i).bind λr=>if r.1< -2147483648\/2147483648<=r.1 then .no 1 else .ok (pvN (r.1 % 18446744073709551616),r.2)else
 if a.k=4 then(lgX D i).bind λr=> .ok (pvN (r.1 % 18446744073709551616),r.2)else
 if a.k=5 then(btX D i 4).bind λr=> .ok (pvN (loS r.1),r.2)else
 if a.k=6 then(btX D i 8).bind λr=> .ok (pvN (loS r.1),r.2)else
 if a.k=7 then(txX D i).bind λr=> .ok (pvS r.1,r.2)else
 if a.k=8 then(vlX D i).bind λr=> .ok (pvS r.1,r.2)else
 if a.k=10 then(ixX D i a.sys.length).bind λr=> .ok (pvN r.1,r.2)else
 if a.k=11 then(btX D i a.sz).bind λr=> .ok (pvS r.1,r.2)else .no 0
abbrev RdT:=Rs (PV×Nat×Nat)
def z6u(g:Int->Nat->Nat->RdT):List Int->List PV->Nat->Nat->Rs (List PV×Nat×Nat)
 | [],l,n,c=> .ok (l,n,c)
 |t::ts,l,n,c=>(g t n c).bind λr=>z6u g ts (l++[r.1]) r.2.1 r.2.2
abbrev StI:=List ByteArray×List PV
def itX(g:Nat->Nat->RdT) (D:ByteArray) (mp:Bool) (st:StI) (n c:Nat):Rs (StI×Nat×Nat):=
 if mp=true then(vlX D n).bind λk=>(g k.2 c).bind λr=> .ok ((qb3 k.1 st.1,z2f k.1 st.1 st.2 r.1),r.2)
 else(g n c).bind λr=> .ok ((st.1,st.2++[r.1]),r.2)
def z6s(g:Nat->Nat->RdT) (D:ByteArray) (mp:Bool):Nat->StI->Nat->Nat->Rs (StI×Nat×Nat)
 |0,st,n,c=> .ok (st,n,c)
 |k+1,st,n,c=>(itX g D mp st n c).bind λr=>z6s g D mp k r.1 r.2.1 r.2.2
def hdX(D:ByteArray) (n:Nat):Rs (Int×Int×Nat):=(lgX D n).bind λr=>if 0<=r.1 then .ok (r.1, -1,r.2)else if r.1= -9223372036854775808 then .no 1 else(lgX D r.2).bind λq=>if q.1<0 then .no 1 else .ok (-r.1,q.1,q.2)
def bkE(n1:Nat) (z:Int) (n2:Nat):Bool:=decide (0<=z)&&decide ((n2:Int)- n1≠z)
def bkX(g:Nat->Nat->RdT) (D:ByteArray) (mp:Bool):Nat->StI->Nat->Nat->Rs (StI×Nat×Nat)
 |0,_,_,_=> .no 1
 |f+1,st,n,c=>(hdX D n).bind λh=>if h.1=0 then .ok (st,h.2.2,c)else(z6s g D mp h.1.toNat st h.2.2 c).bind λr=>if bkE h.2.2 h.2.1 r.2.1=true then .no 1 else bkX g D mp f r.1 r.2.1 r.2.2
def rcX(g:Int->Nat->Nat->RdT) (a:AT) (n c:Nat):RdT:=(z6u g (a.fs.map AF.ty) [] n c).bind λr=> .ok (.mk 0 (mkS []) r.1 [] 0,r.2)
def unX(g:Int->Nat->Nat->RdT) (D:ByteArray) (a:AT) (n c:Nat):RdT:=(ixX D n a.brs.length).bind λb=>(g (a.brs.getD b.1.toNat 0) b.2 c).bind λr=> .ok (.mk 0 (mkS []) [r.1] [] b.1,r.2)
def bvX(g:Int->Nat->Nat->RdT) (D:ByteArray) (a:AT) (n c:Nat):RdT:=(bkX (g a.it) D (decide (a.k=13)) (D.size+1- n) ([],[]) n c).bind λr=> .ok (.mk 0 (mkS []) r.1.2 r.1.1 0,r.2)
def vaX(g:Int->Nat->Nat->RdT) (D:ByteArray) (a:AT) (n c:Nat):RdT:=
 if a.k=9 then rcX g a n c else if a.k=14 then unX g D a n c else if a.k=12\/a.k=13 then bvX g D a n c else(lfX a D n).bind λr=> .ok (r.1,r.2,c)
def dvX(S:List AT) (D:ByteArray):Nat->Int->Nat->Nat->RdT
  |0,_,_,_=> .no 2
  | f+1,t,n,c=>if 2000<c+1 then .no 2 else match S[t.toNat]? with
    |none=> .no 0
    |some a=>vaX (λt n c=>dvX S D f t n c) D a n (c+1)
def agD(R:RdT) (v:PV) (n c e:Int):Prop:=match R with
 | .no k=>e=k+1
 | .ok r=>e=0/\v=r.1/\n=r.2.1/\c=r.2.2
def okS(S:List AT):Prop:=small S/\z1r S/\∀a∈S,(∀f∈a.fs,0<=f.ty/\f.ty<S.length)/\(∀b∈a.brs,0<=b/\b<S.length)/\(a.k=12\/a.k=13->0<=a.it/\a.it<S.length)/\(a.k=11->0<=a.sz/\a.sz<1000000)
def z63(D:ByteArray) (i m:Nat):(D.extract i m).data.toList=(D.data.toList.drop i).take (m- i):=by
 rw[ByteArray.data_extract,Array.toList_extract]
variable {D:ByteArray}
def z29{i:Nat} {k:Int} (h:i<=D.size):(0<=(btP D i k).2.1/\(btP D i k).2.1<=2)/\((i:Int)<=(btP D i k).2.2/\(btP D i k).2.2<=D.size)/\((btP D i k).2.1=0->0<=k/\(btP D i k).2.2=i+k/\((btP D i k).1.size:Int)=k):=by
 unfold btP
 split
 ·refine⟨⟨by show(0:Int)<=2;decide,by show(2:Int)<=2;decide⟩,⟨Int.le_refl _,by show(i:Int)<=_;omega⟩,λh=>absurd (show(2:Int)=0 from h) (by decide)⟩
 ·refine⟨⟨by show(0:Int)<=0;decide,by show(0:Int)<=2;decide⟩,⟨by show(i:Int)<=i+k;omega,by show(i:Int)+k<=_;omega⟩,λ_=>⟨by omega,rfl,?_⟩⟩
  show((D.extract i (i+k.toNat)).size:Int)=k
  rw[ByteArray.size_extract];omega
def z3m{i:Nat} (h:i<=D.size):(0<=(txP D i).2.1/\(txP D i).2.1<=3)/\((i:Int)<=(txP D i).2.2/\(txP D i).2.2<=D.size)/\((txP D i).1.size:Int)<=5000:=by
 have f:=z10 D i h
 unfold txP
 split
 ·exact⟨⟨by show(0:Int)<=(_:Nat);omega,by show((_:Nat):Int)<=3;omega⟩,⟨by show(i:Int)<=(_:Nat);omega,by show((_:Nat):Int)<=_;omega⟩,by show((0:Nat):Int)<=5000;decide⟩
 split
 ·exact⟨⟨by show(0:Int)<=3;decide,by show(3:Int)<=3;decide⟩,⟨by show(i:Int)<=(_:Nat);omega,by show((_:Nat):Int)<=_;omega⟩,by show((0:Nat):Int)<=5000;decide⟩
 ·have g:=z29 (k:=(lgR D i).1) (show(lgR D i).2.2<=D.size by omega)
  refine⟨⟨g.1.1,by omega⟩,⟨by omega,g.2.1.2⟩,?_⟩
  by_cases h0:(btP D (lgR D i).2.2 (lgR D i).1).2.1=0
  ·have:=g.2.2 h0;omega
  ·unfold btP at h0⊢
   split
   ·show((0:Nat):Int)<=5000;decide
   ·rename_i hh;rw[if_neg hh]at h0;exact absurd rfl h0
end
section
variable (x0 x1 x2:Int) (x3:Nat) (x4:Int×Int)
 abbrev zxp:=Jb ((↑x3:Int)- 1)/\∃(i0:Nat),x0=x0/\x1=x1/\(↑i0:Int)=(↑x3:Int)- 1/\x2=x2/\i0<=63/\i0<x3/\True
 def zf5:=0<=x4.1/\x4.1<=63
 def j8o:=Jb (x0- (↑x3:Int))/\0<=x0- (↑x3:Int)/\∃(i0:Int×Int),x0=x0/\i0.1=(↑x3:Int)/\x1=x1/\i0.2=shP BinOp.shl u64 x2 (x0- (↑x3:Int))/\(zf5 i0)/\True
 abbrev zq6:=shP BinOp.shl u64 1 ((↑x3:Int)- x0)
 def zq5:=∃(i0:Int×Int),x0=x0/\i0.1=(↑x3:Int)/\x1=x1/\i0.2=IntKind.wrap u64 (shP BinOp.shr u64 x2 ((↑x3:Int)- x0)+1)/\(zf5 i0)/\True
 def zq7:=∃(i0:Int×Int),x0=x0/\i0.1=(↑x3:Int)/\x1=x1/\i0.2=shP BinOp.shr u64 x2 ((↑x3:Int)- x0)/\(zf5 i0)/\True
 def j8m:=(2:Int)≠0/\Ji (Int.tmod (shP BinOp.shr u64 x0 ((↑x3:Int)- x1)) (2:Int)=1) (zq5 x1 x2 x0 x3) (zq7 x1 x2 x0 x3)
 def j8l:=Ji (Int.tmod x0 (zq6 x1 x3)=shP BinOp.shl u64 1 ((↑x3:Int)- x1- 1)) (j8m x0 x1 x2 x3) (zq7 x1 x2 x0 x3)
 def j8k:=Jb ((↑x3:Int)- x0)/\Jb ((↑x3:Int)- x0- 1)/\0<=(↑x3:Int)- x0- 1/\0<=(↑x3:Int)- x0/\shP BinOp.shl u64 1 ((↑x3:Int)- x0)≠0/\0<=(↑x3:Int)- x0/\Ji (shP BinOp.shl u64 1 ((↑x3:Int)- x0- 1)<Int.tmod x1 (zq6 x0 x3)) (zq5 x0 x2 x1 x3) (j8l x1 x0 x2 x3)
 def j8n:=Jb (x4.1+x0)/\0<=x1/\0<=x1/\∃(i0:Int),i0=IntKind.wrap u64 (shP BinOp.shl u64 (IntKind.wrap u64 (x4.1+x0)) x1+IntKind.wrap u64 (x4.2- shP BinOp.shl u64 1 x1))/\z5x i0/\True
 def j8j:=(Ji ((↑x3:Int)<=x0) (j8o x0 x1 x2 x3) (j8k x0 x2 x1 x3))/\∀(i5:Int×Int),zf5 i5->j8n x1 x0 i5
 def j8i:=(∃(i0:Nat),x0=x0/\x1=x1/\(↑i0:Int)=(↑x3:Int)/\x2=x2/\i0<=63/\True)/\∀(i1:Nat),i1<=63->j8j x1 x2 x0 i1
 def j8h:=0<=(↑x3:Int)/\Ji (shP BinOp.shr u64 x0 (↑x3:Int)=0) (zxp x0 x1 x2 x3) (j8i x0 x1 x2 x3)
 def j8g:=(∃(i0:Nat),x0=x0/\x1=x1/\(↑i0:Int)=63/\x2=x2/\i0<=63/\True)/\∀(i1:Nat),i1<=63->j8h x0 x1 x2 i1
 def j8f:=Ji (x0=0) (∃(i0:Int),i0=0/\z5x i0/\True) (j8g x0 x1 x2)
end
def zh5(v f b:Int):qm3 P (qh2 []) (qi5 []) Try.f72 zbn (zvi) ⟨v,f,b⟩=(z5x v/\1<=f/\f<=62/\0<=b/\b<=2000->j8f v f b):=by kernel_rfl
def znc:=λv f b=>Eq.trans (zh5 v f b) (by delta Ji Jb Jt Jf zxp zf5 j8o zq6 zq5 zq7 j8m j8l j8k j8n j8j j8i j8h j8g j8f;exact rfl)
section
variable (x0:Int) (x1:Int×Int×Int) (x2:Prop)
 abbrev j2r:=x1.2.1=23/\x1.2.2=127/\(z5x x1.1/\1<=x1.2.1/\x1.2.1<=62/\0<=x1.2.2/\x1.2.2<=2000)/\x2
 def j8q:=Jb (x0+1)/\∃(i0:Int),i0=IntKind.wrap i64 ((0:Int)- (x0+1))/\∃(i1:Int×Int×Int),i1.1=IntKind.wrap u64 (IntKind.wrap u64 i0+1)/\j2r i1 (∀(i2:Int),z5x i2->∃(i3:Int),i3=qbu BinOp.or u32 2147483648 (IntKind.wrap u32 i2)/\(0<=i3/\i3<4294967296)/\True)
 def j8p:=Ji (x0<0) (j8q x0) (∃(i4:Int×Int×Int),i4.1=IntKind.wrap u64 x0/\j2r i4 (∀(i5:Int),z5x i5->∃(i6:Int),i6=IntKind.wrap u32 i5/\(0<=i6/\i6<4294967296)/\True))
end
def zc4(v:Int):qm3 P (qh2 []) (qi5 [(72,zbn)]) Try.f59 zbj (λ_=>{}) v=(ztb v->j8p v):=by kernel_rfl
def zgh:=λv=>Eq.trans (zc4 v) (by delta Ji Jb Jt Jf j2r j8q j8p;exact rfl)
section
variable (x0:Int) (x1:Int×Int×Int) (x2:Prop)
 abbrev j2s:=x1.2.1=52/\x1.2.2=1023/\(z5x x1.1/\1<=x1.2.1/\x1.2.1<=62/\0<=x1.2.2/\x1.2.2<=2000)/\x2
 def j8s:=Jb (x0+1)/\∃(i0:Int),i0=IntKind.wrap i64 ((0:Int)- (x0+1))/\∃(i1:Int×Int×Int),i1.1=IntKind.wrap u64 (IntKind.wrap u64 i0+1)/\j2s i1 (∀(i2:Int),z5x i2->∃(i3:Int),i3=qbu BinOp.or u64 9223372036854775808 i2/\z5x i3/\True)
 def j8r:=Ji (x0<0) (j8s x0) (∃(i4:Int×Int×Int),i4.1=IntKind.wrap u64 x0/\j2s i4 (∀(i5:Int),z5x i5->∃(i6:Int),i6=i5/\z5x i6/\True))
end
def za1(v:Int):qm3 P (qh2 []) (qi5 [(72,zbn)]) Try.f60 z6y (λ_=>{}) v=(ztb v->j8r v):=by kernel_rfl
def zbv:=λv=>Eq.trans (za1 v) (by delta Ji Jb Jt Jf j2s j8s j8r;exact rfl)
def zd2(s:ByteArray):qm2 P (qh2 [(24,z2w)]) Try.f73 z2w (λ_=>{}) s=(ByteArray.size s<(9223372036854775808:Nat)->s=s/\ByteArray.size s<(9223372036854775808:Nat)/\(↑(ptV s):Int)=(↑(ptV s):Int)/\(↑(frt s):Int)=(↑(frt s):Int)/\True):=by kernel_rfl
section
variable (x0:ByteArray) (x1:ByteArray×ByteArray)
 abbrev j2t:=∃(i0:ByteArray×Bool),i0.1=mkS []/\i0.2=false/\size i0.1<=size x0/\True
 def j8w:=Ji (255<(↑(ptV x1.2):Int)) (j2t x0) (∃i1,size i1=1/\qi8 [int u8 (IntKind.wrap u8 (↑(ptV x1.2):Int))] 0 (q1h i1)/\size x1.1+size i1<=9223372036854775807/\(0<=(↑(frt x1.2):Int)/\(↑(frt x1.2):Int)<=(↑(size x1.2):Int))/\∃(i2:ByteArray×ByteArray),i2.2=ByteArray.extract x1.2 (toNat (↑(frt x1.2):Int)) (size x1.2)/\i2.1=x1.1++i1/\size i2.1+size i2.2<=size x0/\size i2.2<size x1.2/\True)
 def j8v:=x1.2=x1.2/\size x1.2<9223372036854775808/\Ji ((↑(frt x1.2):Int)=0) (j2t x0) (j8w x0 x1)
 def j8u:=Ji (0<(↑(size x1.2):Int)) (j8v x0 x1) (∃(i4:ByteArray×Bool),i4.1=x1.1/\i4.2=true/\size i4.1<=size x0/\True)
 def j8t:=(∃(i0:ByteArray×ByteArray),i0.2=x0/\i0.1=mkS []/\size i0.1+size i0.2<=size x0/\True)/\∀(i1:ByteArray×ByteArray),size i1.1+size i1.2<=size x0->j8u x0 i1
end
def znr(s:ByteArray):qm3 P (qh2 [(73,z2w)]) (qi5 []) Try.f61 j09 (j3y) s=(size s<1000000->j8t s):=by kernel_rfl
def zur:=λs=>Eq.trans (znr s) (by delta Ji Jt Jf j2t j8w j8v j8u j8t;exact rfl)
section
variable (x0:ByteArray) (x1 x2:GV) (x3:Nat) (x4:Prop) (x5:Nat->Option Obj) (x6:Nat) (x7:Option Addr) (x8 x9:List Value) (x10:GV)
 abbrev z3d:=True/\GV.ok x1 x5/\GV.ok x2 x5
 def zq8:=GV.n x1=GV.n x1/\GV.s x1=GV.s x1/\(GV.x x1).1=(GV.x x1).1/\(GV.x x1).2.1=(GV.x x1).2.1/\(GV.x x1).2.2=(GV.x x1).2.2/\(GV.y x1).1=(GV.y x1).1/\(GV.y x1).2.1=(GV.y x1).2.1/\(GV.y x1).2.2=(GV.y x1).2.2/\GV.b x1=GV.b x1/\x4
 def ztl:=zq8 x1 (zq8 x2 ((∀i0,z3d x1 x2 i0->z3d x1 x2 i0)/\x4))
 def zja:=x3<=length (GV.ks x1)/\x3+kIx x0 (drop x3 (GV.ks x1))=kIx x0 (GV.ks x1)
 abbrev z6k:=(GV.y x1).2.1
 abbrev zf7:=(↑x3:Int)<(↑(z6k x1):Int)
 def zqb:=(∀i0,z3d x1 x2 i0->q3p i0 (adr (GV.y x1).1 (toNat (↑x3:Int)*1)) [string x0])
 def zxq:=Jb ((↑x3:Int)+1)/\∃(i0:Nat),x0=x0/\(↑i0:Int)=(↑x3:Int)+1/\ztl x1 x2 ((zja x0 x1 i0)/\length (GV.ks x1)- i0<length (GV.ks x1)- x3/\True)
 def zqc:=∃(i0:Nat),x0=x0/\(↑i0:Int)=(↑x3:Int)/\ztl x1 x2 ((i0=kIx x0 (GV.ks x1)/\i0<=length (GV.ks x1))/\True)
 def j92:=(0<=(↑x3:Int)/\zf7 x1 x3)/\(GV.y x1).1≠noA/\∃i0,zqb i0 x1 x2 x3/\(qfa i0 x0=true->zxq x0 x1 x2 x3)/\(qfa i0 x0=false->zqc x0 x1 x2 x3)
 abbrev j91:=Ji (zf7 x1 x3) (j92 x0 x1 x2 x3) (zqc x0 x1 x2 x3)
 abbrev z7n:=(GV.x x1).2.1
 abbrev z5p:=(GV.x x1).2.2
 abbrev z5o:=(GV.y x1).2.2
 def j2u:=(z3d x1 x2 x5)/\(0:Nat)+(GV.x x1).2.1<=x3/\qik x5 x7 (take (((0:Nat)+(GV.x x1).2.1)*nat_lit 5) (spl ([]++x8) ((0:Nat)+toNat (↑x6:Int)*5) [int u64 (GV.n x2),string (GV.s x2),slice (GV.x x2).1 (z7n x2) (z5p x2),slice (GV.y x2).1 (z6k x2) (z5o x2),int i64 (GV.b x2)]))
 def zqa:=GV.b x1=GV.b x2/\GV.pv x1=PV.mk (GV.n x2) (GV.s x2) (z2f x0 (GV.ks x2) (GV.pvs (GV.l x2)) (GV.pv x10)) (qb3 x0 (GV.ks x2)) (GV.b x2)/\x4
 def j90:=(0<=(↑x3:Int)/\zf7 x1 x3)/\(GV.y x1).1≠noA/\∃i0,zqb i0 x1 x2 x3/\Ji (i0=x0) (∃i2,length i2=(GV.x x1).2.1*5/\(∀i3,z3d x1 x2 i3->qik i3 (GV.x x1).1 i2)/\qmd i2/\((0:Nat)+(GV.x x1).2.1)*80<=140737488355328/\(0<=(↑x3:Int)/\(↑x3:Int)<(↑((0:Nat)+(GV.x x1).2.1):Int))/\(0:Nat)+toNat (↑x3:Int)*5+length [int u64 (GV.n x2),string (GV.s x2),slice (GV.x x2).1 (z7n x2) (z5p x2),slice (GV.y x2).1 (z6k x2) (z5o x2),int i64 (GV.b x2)]<=length ([]++i2)/\∀(i4 i5 i6:Nat) (i7:Option Addr) (i8 i9:Nat),(∃i10,j2u x1 x2 i9 i10 x3 i7 i2)->∃(i11:GV),GV.n i11=GV.n x1/\GV.s i11=GV.s x1/\(GV.x i11).1=i7/\(GV.x i11).2.1=0+(GV.x x1).2.1/\(GV.x i11).2.2=i9/\(GV.y i11).1=(GV.y x1).1/\(GV.y i11).2.1=(GV.y x1).2.1/\(GV.y i11).2.2=(GV.y x1).2.2/\zqa x0 i11 x1 ((∀i12,j2u x1 x2 i9 i12 x3 i7 i2->GV.ok i11 i12)/\True) x2) (∃(i13:Unit),x0=x0/\(↑x3:Int)=(↑x3:Int)/\ztl x1 x2 (z18 x0 (GV.ks x1)=false/\True))
 abbrev zf6:=nat_lit 0+(x3- nat_lit 0)+nat_lit 1
 abbrev zqd:=slice (GV.y x1).1 (z6k x1) (z5o x1)
 abbrev z7m:=slice (GV.x x1).1 (z7n x1) (z5p x1)
 def j0s:=(z3d x1 x2 x5)/\nat_lit 0+(x3- nat_lit 0)+nat_lit 1+((GV.x x1).2.1- x3)<=x6/\qik x5 x7 (take ((nat_lit 0+(x3- nat_lit 0)+nat_lit 1+((GV.x x1).2.1- x3))*nat_lit 5) ([]++x8++[int u64 (GV.n x2),string (GV.s x2),slice (GV.x x2).1 (z7n x2) (z5p x2),slice (GV.y x2).1 (z6k x2) (z5o x2),int i64 (GV.b x2)]++x9))
 def zq9:=nat_lit 0+(x3- nat_lit 0)+nat_lit 1+((GV.y x1).2.1- x3)<=x6/\qik x5 x7 (take ((nat_lit 0+(x3- nat_lit 0)+nat_lit 1+((GV.y x1).2.1- x3))*nat_lit 1) ([]++x8++[string x0]++x9))
 def j8z:=(GV.y x1).2.1<=(GV.y x1).2.2/\(0<=(↑x3:Int)/\(↑x3:Int)<=(↑(z5o x1):Int))/\∃i0,length i0=(x3- nat_lit 0)*1/\(∀i1,z3d x1 x2 i1->qik i1 (slA (GV.y x1).1 (z5o x1) (nat_lit 0) 1) i0)/\qmd i0/\(nat_lit 0+(x3- nat_lit 0))*16<=140737488355328/\length ([]++i0)=(nat_lit 0+(x3- nat_lit 0))*1/\(zf6 x3)*16<=140737488355328/\(GV.y x1).2.1<=(GV.y x1).2.2/\(0<=(↑x3:Int)/\(↑x3:Int)<=(↑(z6k x1):Int))/\length ([]++i0++[string x0])=(zf6 x3)*1/\∃i2,length i2=((GV.y x1).2.1- x3)*1/\(∀i3,z3d x1 x2 i3->qik i3 (slA (GV.y x1).1 (z5o x1) x3 1) i2)/\qmd i2/\(nat_lit 0+(x3- nat_lit 0)+nat_lit 1+((GV.y x1).2.1- x3))*16<=140737488355328/\AV.sv (zqd x1)=AV.sv (zqd x1)/\AV.sv (zqd x1)=AV.sv (zqd x1)/\(GV.x x1).2.1<=(GV.x x1).2.2/\(0<=(↑x3:Int)/\(↑x3:Int)<=(↑(z5p x1):Int))/\∃i4,length i4=(x3- nat_lit 0)*5/\(∀i5,z3d x1 x2 i5->qik i5 (slA (GV.x x1).1 (z5p x1) (nat_lit 0) 5) i4)/\qmd i4/\(nat_lit 0+(x3- nat_lit 0))*80<=140737488355328/\length ([]++i4)=(nat_lit 0+(x3- nat_lit 0))*5/\(zf6 x3)*80<=140737488355328/\(GV.x x1).2.1<=(GV.x x1).2.2/\(0<=(↑x3:Int)/\(↑x3:Int)<=(↑(z7n x1):Int))/\length ([]++i4++[int u64 (GV.n x2),string (GV.s x2),slice (GV.x x2).1 (z7n x2) (z5p x2),slice (GV.y x2).1 (z6k x2) (z5o x2),int i64 (GV.b x2)])=(zf6 x3)*5/\∃i6,length i6=((GV.x x1).2.1- x3)*5/\(∀i7,z3d x1 x2 i7->qik i7 (slA (GV.x x1).1 (z5p x1) x3 5) i6)/\qmd i6/\(nat_lit 0+(x3- nat_lit 0)+nat_lit 1+((GV.x x1).2.1- x3))*80<=140737488355328/\AV.agg [AV.sv (int u64 (GV.n x2)),AV.sv (string (GV.s x2)),AV.sv (z7m x2),AV.sv (zqd x2),AV.sv (int i64 (GV.b x2))]=AV.agg [AV.sv (int u64 (GV.n x2)),AV.sv (string (GV.s x2)),AV.sv (z7m x2),AV.sv (zqd x2),AV.sv (int i64 (GV.b x2))]/\AV.sv (z7m x1)=AV.sv (z7m x1)/\AV.sv (z7m x1)=AV.sv (z7m x1)/\∀(i8 i9 i10:Nat) (i11:Option Addr) (i12 i13:Nat),(∃i14,j0s x1 x2 x3 i14 i13 i11 i4 i6)->∀(i15 i16 i17:Nat) (i18:Option Addr) (i19 i20:Nat),(∃i21,(j0s x1 x2 x3 i21 i13 i11 i4 i6)/\zq9 x0 x1 x3 i21 i20 i18 i0 i2)->∃(i22:GV),GV.n i22=GV.n x1/\GV.s i22=GV.s x1/\(GV.x i22).1=i11/\(GV.x i22).2.1=nat_lit 0+(x3- nat_lit 0)+nat_lit 1+((GV.x x1).2.1- x3)/\(GV.x i22).2.2=i13/\(GV.y i22).1=i18/\(GV.y i22).2.1=nat_lit 0+(x3- nat_lit 0)+nat_lit 1+((GV.y x1).2.1- x3)/\(GV.y i22).2.2=i20/\zqa x0 i22 x1 ((∀i23,(j0s x1 x2 x3 i23 i13 i11 i4 i6)/\zq9 x0 x1 x3 i23 i20 i18 i0 i2->GV.ok i22 i23)/\True) x2
 def j8y:=(Ji (zf7 x1 x3) (j90 x0 x1 x2 x3) (∃(i15:Unit),x0=x0/\(↑x3:Int)=(↑x3:Int)/\ztl x1 x2 (z18 x0 (GV.ks x1)=false/\True)))/\∀(i17:Unit),z18 x0 (GV.ks x1)=false->j8z x0 x1 x2 x3
 def j8x:=((∃(i0:Nat),x0=x0/\(↑i0:Int)=0/\ztl x1 x2 ((zja x0 x1 i0)/\True))/\∀(i2:Nat),zja x0 x1 i2->j91 x0 x1 x2 i2)/\∀(i11:Nat),i11=kIx x0 (GV.ks x1)/\i11<=length (GV.ks x1)->j8y x0 x1 x2 i11
end
def zno(v:GV) (k:ByteArray) (w:GV):qm3 P (qh2 []) (qi5 []) Try.f74 ztx (j3x) ⟨v,k,w⟩=(length (GV.ks v)=length (GV.l v)/\length (GV.l v)<1000000->(∃(p:Pub),z3d v w p)->j8x k v w):=by kernel_rfl
def put_eq:=λv k w=>Eq.trans (zno v k w) (by delta Ji Jb Jt Jf z3d zq8 ztl zja z6k zf7 zqb zxq zqc j92 j91 z7n z5p z5o j2u zqa j90 zf6 zqd z7m j0s zq9 j8z j8y j8x;exact rfl)
def j1w(x:Int):IntKind.u64.wrap x=x % 18446744073709551616:=by
 unfold IntKind.wrap;simp[IntKind.bits,IntKind.signed]
def zee(x:Int):IntKind.u32.wrap x=x % 4294967296:=by
 unfold IntKind.wrap;simp[IntKind.bits,IntKind.signed]
def z1y(x:Int):z5x (IntKind.u64.wrap x):=by
 rw[j1w];unfold z5x;omega
def znz:∀k:Nat,k<64->shP .shl .u64 1 (k:Int)≠0:=by decide+kernel
def jdy(v:Int):shP .shr .u64 v 0=v:=by
 show v.fdiv (2 ^ min (0:Int).toNat IntKind.u64.bits)=v
 rw[show min (0:Int).toNat IntKind.u64.bits=0 from rfl]
 show v.fdiv 1=v
 exact Int.fdiv_one v
def jdo(c:Nat) (h:c<256):q1h (mkS [c])=[.int .u8 (c:Nat)]:=by
 simp[q1h,mkS]
 omega
def qd1:q22 P 72 zbn:=by
 refine qlb mixed (qee qlq) (qf7 qlp) (W:=zvi) Try.func72 (by kernel_rfl) (show 1<=1 by decide) (show 1<=1 by decide) (λs=>by kernel_rfl) λ⟨(v:Int),(f:Int),(b:Int)⟩=>(znc v f b).mpr ?_
 rintro⟨hv,hf1,hf2,hb1,hb2⟩
 simp only[sbS,exists_const,forall_const,Int.toNat_natCast]
 have nz:∀e:Nat,¬v=0->shP .shr .u64 v (e:Int)=0->e≠0:=λe h0 hs h=>by
  subst h;rw[show((0:Nat):Int)=0 from rfl,jdy]at hs;exact h0 hs
 refine⟨λh0=>⟨0,rfl,by unfold z5x;omega⟩,λh0=>⟨⟨63,rfl,by omega⟩,λe he=>⟨by omega,λhs=> ?_,λhs=>⟨⟨e,rfl,he⟩,λk hk=> ?_⟩⟩⟩⟩
 ·have:=nz e h0 hs
  exact⟨⟨by omega,by omega⟩,e- 1,by omega,by omega,by omega⟩
 ·clear nz
  have hk0:(0:Int)<=k:=by omega
  refine⟨⟨λhle=>⟨⟨by omega,by omega⟩,by omega,⟨k,_⟩,rfl,rfl,hk0,by omega⟩,λhgt=>⟨⟨by omega,by omega⟩,⟨by omega,by omega⟩,by omega,by omega,?_,by omega,λ_=>⟨⟨k,_⟩,rfl,rfl,hk0,by omega⟩,λ_=>⟨λ_=>⟨by decide,λ_=>⟨⟨k,_⟩,rfl,rfl,hk0,by omega⟩,λ_=>⟨⟨k,_⟩,rfl,rfl,hk0,by omega⟩⟩,λ_=>⟨⟨k,_⟩,rfl,rfl,hk0,by omega⟩⟩⟩⟩,?_⟩
  ·obtain⟨m,hm⟩:=Int.eq_ofNat_of_zero_le (show 0<=(k:Int)- f by omega)
   rw[hm];exact znz m (by omega)
  ·rintro⟨a,m⟩ ⟨ha1,ha2⟩
   simp only at ha1 ha2⊢
   exact⟨⟨by omega,by omega⟩,by omega,by omega,_,rfl,z1y _⟩
def zgi:q22 P 59 zbj:=by
 refine qlb mixed (qee qlq) (qf7 (qig qd1 qlp)) (W:=λ_=>{}) Try.func59 (by kernel_rfl) (show 1<=1 by decide) (show 1<=1 by decide) (λs=>by kernel_rfl) λ(v:Int)=>(zgh v).mpr ?_
 rintro⟨hv1,hv2⟩
 simp only[sbS,exists_const,forall_const,Int.toNat_natCast]
 refine⟨λh=>⟨⟨by omega,by omega⟩,_,rfl,⟨_,23,127⟩,rfl,rfl,rfl,⟨z1y _,(by show(1:Int)<=23;decide),(by show(23:Int)<=62;decide),(by show(0:Int)<=127;decide),(by show(127:Int)<=2000;decide)⟩,λb hb=>⟨_,rfl,?_⟩⟩,λh=>⟨⟨_,23,127⟩,rfl,rfl,rfl,⟨z1y _,(by show(1:Int)<=23;decide),(by show(23:Int)<=62;decide),(by show(0:Int)<=127;decide),(by show(127:Int)<=2000;decide)⟩,λb hb=>⟨_,rfl,?_⟩⟩⟩
 ·show 0<=IntKind.u32.wrap _/\IntKind.u32.wrap _<4294967296
  rw[zee];omega
 ·rw[zee];omega
def zbw:q22 P 60 z6y:=by
 refine qlb mixed (qee qlq) (qf7 (qig qd1 qlp)) (W:=λ_=>{}) Try.func60 (by kernel_rfl) (show 1<=1 by decide) (show 1<=1 by decide) (λs=>by kernel_rfl) λ(v:Int)=>(zbv v).mpr ?_
 rintro⟨hv1,hv2⟩
 simp only[sbS,exists_const,forall_const,Int.toNat_natCast]
 refine⟨λh=>⟨⟨by omega,by omega⟩,_,rfl,⟨_,52,1023⟩,rfl,rfl,rfl,⟨z1y _,(by show(1:Int)<=52;decide),(by show(52:Int)<=62;decide),(by show(0:Int)<=1023;decide),(by show(1023:Int)<=2000;decide)⟩,λb hb=>⟨_,rfl,?_⟩⟩,λh=>⟨⟨_,52,1023⟩,rfl,rfl,rfl,⟨z1y _,(by show(1:Int)<=52;decide),(by show(52:Int)<=62;decide),(by show(0:Int)<=1023;decide),(by show(1023:Int)<=2000;decide)⟩,λb hb=>⟨b,rfl,hb⟩⟩⟩
 exact z1y _
def zd3:q5k P 73 z2w:=by
 refine qm5 mixed (qee (qih z91 qlq)) (W:=λ_=>{}) Try.func73 (by kernel_rfl) (by decide) (by decide) (λs=>by kernel_rfl) λ(s:ByteArray)=>(zd2 s).mpr ?_
 intro h
 exact⟨rfl,h,rfl,rfl,trivial⟩
def zus:q22 P 61 j09:=by
 refine qlb mixed (qee (qih zd3 qlq)) (qf7 qlp) (W:=j3y) Try.func61 (by kernel_rfl) (show 1<=1 by decide) (show 1<=1 by decide) (λs=>by kernel_rfl) λ(s:ByteArray)=>(zur s).mpr ?_
 intro hs
 simp only[sbS,exists_const,forall_const,Int.toNat_natCast]
 refine⟨⟨⟨mkS [],s⟩,rfl,rfl,by show 0+s.size<=_;omega⟩,?_⟩
 rintro⟨q,u⟩ hq
 simp only at hq⊢
 refine⟨λh=>⟨by omega,λh0=>⟨⟨mkS [],false⟩,rfl,rfl,Nat.zero_le _⟩,λh0=>⟨λhp=>⟨⟨mkS [],false⟩,rfl,rfl,Nat.zero_le _⟩,λhp=> ?_⟩⟩,λh=>⟨⟨q,true⟩,rfl,rfl,by show q.size<=_;omega⟩⟩
 have hf:=zc7 u
 have hc:IntKind.u8.wrap (ptV u:Int)=((ptV u:Nat):Int):=by rw[zie];omega
 rw[hc]
 have hz:(mkS [ptV u]).size=1:=rfl
 refine⟨mkS [ptV u],rfl,?_,by omega,⟨by omega,by omega⟩,⟨q++mkS [ptV u],u.extract (frt u) u.size⟩,rfl,rfl,?_,?_⟩
 ·intro j w hj
  rw[jdo _ (by omega)]at hj;rw[Nat.zero_add];exact hj
 ·show(q++mkS [ptV u]).size+(u.extract (frt u) u.size).size<=s.size
  rw[ByteArray.size_append,ByteArray.size_extract,hz];omega
 ·show(u.extract (frt u) u.size).size<u.size
  rw[ByteArray.size_extract];omega
section
def zfv{x:Addr} (h:x.spot=none) (k:Nat):(x.add k).spot=none:=by
 unfold Addr.add;split
 ·exact h
 ·rfl
variable {a:Option Addr}
def ztn(h:Pl a) (c l sz:Nat):Pl (slA a c l sz):=trivial
def z3l{p:Pub} {c l sz:Nat} {vs us:List Value} (h:qik p a vs) (hl:l<=c) (hlen:vs.length<=c*sz) (hu:∀(j:Nat) v,us[j]? =some v->vs[l*sz+j]? =some v):qik p (slA a c l sz) us:=by
  have hp:Pl a:=Sen.rowP_Pl h
  cases us with
  |nil=>exact .inl ⟨rfl,ztn hp c l sz⟩
  | cons u us=>
    have h0:=hu 0 u rfl
    rcases h with⟨rfl,_⟩|⟨x,rfl,hs,hc⟩
    · simp at h0
    · have hne:c≠l:=λe=>by
        subst e
        have:=(List.getElem?_eq_some_iff.mp h0).1
        omega
      refine .inr ⟨x.add (l*sz),?_,zfv hs _,λj v hj=> ?_⟩
      · unfold slA;rw[if_neg hne];rfl
      · have:=hc (l*sz+j) v (hu j v hj)
        rw[Addr.add_add];exact this
def GV.oks_iff:∀{l:List GV} {p:Pub},GV.oks l p↔∀v∈l,v.ok p
  | [],p=>by unfold GV.oks;simp
  | v::l,p=>by
    unfold GV.oks
    rw[GV.oks_iff (l:=l)]
    simp
variable {α:Type}
def z2o{f:α->List Value} (l:List α) (k:Nat):z00 f l=z00 f (l.take k)++z00 f (l.drop k):=by
 rw[←z05,List.take_append_drop]
def z94{f:α->List Value} (l:List α) (k:Nat):∀(j:Nat) v,(z00 f (l.take k))[j]? =some v->(z00 f l)[j]? =some v:=λj v h=>by
 rw[z2o l k,List.getElem?_append_left (List.getElem?_eq_some_iff.mp h).1];exact h
def z96{f:α->List Value} {e:Nat} (hf:∀x,(f x).length=e) (l:List α) (k:Nat) (hk:k<=l.length):∀(j:Nat) v,(z00 f (l.drop k))[j]? =some v->(z00 f l)[k*e+j]? =some v:=λj v h=>by
 rw[z2o l k]
 have:(z00 f (l.take k)).length=k*e:=by rw[z01 hf,List.length_take,Nat.min_eq_left hk]
 rw[←this,List.getElem?_append_right (Nat.le_add_right _ _),Nat.add_sub_cancel_left];exact h
def z1x{α:Type} {f:α->List Value} (h:∀x,∀v∈f x,v.oneCell'=true):∀l,qmd (z00 f l)
  | []=>λv hv=>by cases hv
  | x::l=>λv hv=>by
    rcases List.mem_append.1 hv with hv|hv
    · exact h x v hv
    · exact z1x h l v hv
def zl5:∀(x:ByteArray),∀v∈txV x,v.oneCell'=true:=λx v hv=>by
 simp[txV]at hv;subst hv;rfl
def zcw:∀(x:GV),∀v∈x.cells,v.oneCell'=true:=λx v hv=>by
 simp[GV.cells]at hv
 rcases hv with rfl|rfl|rfl|rfl|rfl<;>rfl
def zl1(k:ByteArray):∀l,kIx k l<=l.length
  | []=>Nat.zero_le _
  | a::l=>by
    rw[kIx];split
    · have:=zl1 k l;rw[List.length_cons];omega
    · exact Nat.zero_le _
def z7b:∀(xs A B C:List Value),B.length=xs.length->spl (A++(B++C)) A.length xs=A++(xs++C)
  | [],A,B,C,h=>by
    have:B=[]:=List.length_eq_zero_iff.mp h
    subst this;rfl
  |x::xs,A,[],C,h=>by simp at h
  | x ::xs,A,b::B,C,h=>by
    rw[spl]
    have e:(A++(b::B++C)).set A.length x=(A++[x])++(B++C):=by
      clear h
      induction A with
      |nil=>rfl
      |cons a A ih=>rw[List.cons_append,List.length_cons,List.set_cons_succ,ih];rfl
    rw[e,show A.length+1=(A++[x]).length by simp,z7b xs (A++[x]) B C (by simpa using h)]
    simp
def z95{f:α->List Value} {e:Nat} (hf:∀x,(f x).length=e) (l:List α) (k:Nat) (hk:k<l.length) (x:α):z00 f (l.set k x)=spl (z00 f l) (0+k*e) (f x):=by
 rw[List.set_eq_take_append_cons_drop,if_pos hk,z05]
 show _++(f x++_)=_
 have h1:z00 f l=z00 f (l.take k)++(f l[k]++z00 f (l.drop (k+1))):=by
  conv=>lhs;rw[z2o l k,List.drop_eq_getElem_cons hk]
  rfl
 have h2:(z00 f (l.take k)).length=k*e:=by rw[z01 hf,List.length_take,Nat.min_eq_left (Nat.le_of_lt hk)]
 rw[h1,Nat.zero_add,←h2]
 exact(z7b _ _ _ _ ((hf _).trans (hf _).symm)).symm
def zl6:q22 P 74 ztx:=by
 refine qlb mixed (qee qlq) (qf7 qlp) (W:=j3x) Try.func74 (by kernel_rfl) (show 1<=1 by decide) (show 1<=1 by decide) (λs=>by kernel_rfl) λ⟨v,k,w⟩=>(put_eq v k w).mpr ?_
 rintro⟨hkl,hl⟩ ⟨p,_,hp,hw⟩
 have hv:=hp
 have vo:=λq (h:v.ok q)=>(by rw[GV.ok_eq]at h;exact h:slP GV.cells v.x v.l q/\slP txV v.y v.ks q/\GV.oks v.l q)
 have xl:v.x.2.1=v.l.length:=(vo p hp).1.1
 have yl:v.y.2.1=v.ks.length:=(vo p hp).2.1.1
 have xc:v.l.length<=v.x.2.2:=by have:=(vo p hp).1.2.1;omega
 have yc:v.ks.length<=v.y.2.2:=by have:=(vo p hp).2.1.2.1;omega
 simp only[sbS,exists_const,forall_const,Int.toNat_natCast,xl,yl]
 have kd:∀s,s<v.ks.length->kIx k (v.ks.drop s)=if qfa (v.ks[s]!) k=true then kIx k (v.ks.drop (s+1))+1 else 0:=λs hs=>by
  rw[List.drop_eq_getElem_cons hs,kIx,getElem!_pos v.ks s hs]
 have kat:∀s (hs:s<v.ks.length),v.ks[s]! =v.ks[s]:=λs hs=>getElem!_pos v.ks s hs
 have txc:=λs (hs:s<v.ks.length) q (h:v.ok q)=>(show v.y.1≠noA/\q3p q (adr v.y.1 (s*1)) [.string v.ks[s]]from z0w z0t (by decide) (vo q h).2.1 hs)
 refine⟨⟨⟨0,rfl,Nat.zero_le _,Nat.zero_add _⟩,λs ⟨hs,hk⟩=>⟨λhlt=> ?_,λhge=>⟨s,rfl,?_,hs⟩⟩⟩,λs ⟨hs,hsl⟩=>⟨⟨λhlt=> ?_,λhge=> ?_⟩,λhno=> ?_⟩⟩
 ·have hlt:s<v.ks.length:=by omega
  have hd:=kd s hlt
  rw[kat s hlt]at hd
  refine⟨⟨by omega,by omega⟩,(txc s hlt p hp).1,v.ks[s],λq hq=>(txc s hlt q hq.1).2,λhl1=>⟨⟨by omega,by omega⟩,s+1,by omega,⟨by omega,by rw[if_pos hl1]at hd;omega⟩,by omega⟩,λhl1=>⟨s,rfl,by rw[if_neg (by rw[hl1];decide)]at hd;omega,hs⟩⟩
 ·rw[List.drop_of_length_le (by omega),kIx]at hk;omega
 ·have hlt:s<v.ks.length:=by omega
  have hll:s<v.l.length:=by omega
  refine⟨⟨by omega,by omega⟩,(txc s hlt p hp).1,v.ks[s],λq hq=>(txc s hlt q hq.1).2,λhe=> ?_,λhe=> ?_⟩
  ·have hh:z18 k v.ks=true:=by
    unfold z18;rw[←hs,List.getElem?_eq_getElem hlt,he];exact decide_eq_true rfl
   refine⟨z00 GV.cells v.l,z01 z0f _,λq hq=>(vo q hq.1).1.2.2,z1x zcw _,by omega,⟨by omega,by omega⟩,by rw[List.nil_append,z01 z0f];show 0+s*5+5<=_;omega,λa c _=>⟨.mk v.n v.s (a,0+v.l.length,c) (v.l.set s w) v.y v.ks v.b,rfl,rfl,rfl,rfl,rfl,rfl,yl,rfl,rfl,?_,λq hq=> ?_⟩⟩
   ·rw[GV.pv]
    show PV.mk v.n v.s (GV.pvs (v.l.set s w)) v.ks v.b=_
    unfold z2f qb3
    rw[hh,if_pos rfl,if_pos rfl,←hs,GV.pvs_map,GV.pvs_map,List.map_set]
   ·have h2:=hq.2.2
    rw[List.nil_append]at h2
    change qik q a (List.take ((0+v.l.length)*5) (spl (z00 GV.cells v.l) (0+s*5) w.cells))at h2
    rw[←z95 z0f v.l s hll w,List.take_of_length_le (by rw[z01 z0f,List.length_set];omega)]at h2
    unfold GV.ok
    refine⟨⟨by show 0+v.l.length=_;rw[List.length_set];omega,hq.2.1,h2⟩,(vo q hq.1.1).2.1,GV.oks_iff.2 λx hx=> ?_⟩
    rcases List.mem_or_eq_of_mem_set hx with hx|rfl
    ·exact GV.oks_iff.1 (vo q hq.1.1).2.2 x hx
    ·exact hq.1.2
  ·unfold z18;rw[←hs,List.getElem?_eq_getElem hlt];exact decide_eq_false λh=>he (Option.some.inj h)
 ·unfold z18;rw[←hs,List.getElem?_eq_none (by omega)];rfl
 ·have hsl2:s<=v.l.length:=by omega
  have tl:(v.ks.take s).length=s:=by rw[List.length_take];omega
  have tl2:(v.l.take s).length=s:=by rw[List.length_take];omega
  have r1:(z00 txV (v.ks.take s)).length=s*1:=by rw[z01 z0t,tl]
  have r2:(z00 txV (v.ks.drop s)).length=(v.ks.length- s)*1:=by rw[z01 z0t,List.length_drop]
  have r3:(z00 GV.cells (v.l.take s)).length=s*5:=by rw[z01 z0f,tl2]
  have r4:(z00 GV.cells (v.l.drop s)).length=(v.l.length- s)*5:=by rw[z01 z0f,List.length_drop]
  refine⟨yc,⟨by omega,by omega⟩,z00 txV (v.ks.take s),by rw[r1];omega,λq hq=>z3l (vo q hq.1).2.1.2.2 (Nat.zero_le _) (by rw[z01 z0t];omega) (λj x hj=>by rw[Nat.zero_mul,Nat.zero_add];exact z94 _ _ j x hj),z1x zl5 _,by omega,by rw[List.nil_append,r1];omega,by omega,yc,⟨by omega,by omega⟩,by rw[List.length_append,List.nil_append,r1];show s*1+1=_;omega,z00 txV (v.ks.drop s),r2,λq hq=>z3l (vo q hq.1).2.1.2.2 (by omega) (by rw[z01 z0t];omega) (z96 z0t _ _ hsl),z1x zl5 _,by omega,xc,⟨by omega,by omega⟩,z00 GV.cells (v.l.take s),by rw[r3];omega,λq hq=>z3l (vo q hq.1).1.2.2 (Nat.zero_le _) (by rw[z01 z0f];omega) (λj x hj=>by rw[Nat.zero_mul,Nat.zero_add];exact z94 _ _ j x hj),z1x zcw _,by omega,by rw[List.nil_append,r3];omega,by omega,xc,⟨by omega,by omega⟩,by rw[List.length_append,List.nil_append,r3];show s*5+5=_;omega,z00 GV.cells (v.l.drop s),r4,λq hq=>z3l (vo q hq.1).1.2.2 (by omega) (by rw[z01 z0f];omega) (z96 z0f _ _ hsl2),z1x zcw _,by omega,λa c _ a2 c2 _=> ?_⟩
  have hx:(v.l.take s++w::v.l.drop s).length=0+(s- 0)+1+(v.l.length- s):=by simp;omega
  have hy:(v.ks.take s++k::v.ks.drop s).length=0+(s- 0)+1+(v.ks.length- s):=by simp;omega
  refine⟨.mk v.n v.s (a,0+(s- 0)+1+(v.l.length- s),c) (v.l.take s++w::v.l.drop s) (a2,0+(s- 0)+1+(v.ks.length- s),c2) (v.ks.take s++k::v.ks.drop s) v.b,rfl,rfl,rfl,rfl,rfl,rfl,rfl,rfl,rfl,?_,λq hq=> ?_⟩
  ·rw[GV.pv]
   unfold z2f qb3
   rw[hno,if_neg (by decide),if_neg (by decide),←hs,GV.pvs_map,GV.pvs_map,List.map_append,List.map_cons,List.map_take,List.map_drop]
  ·unfold GV.ok
   refine⟨⟨hx.symm,hq.1.2.1,?_⟩,⟨hy.symm,hq.2.1,?_⟩,GV.oks_iff.2 λx hx=> ?_⟩
   ·have h2:=hq.1.2.2
    rw[List.take_of_length_le (by simp only[List.length_append,List.nil_append,r3,r4];show s*5+5+_<=_;omega)]at h2
    rw[z05]
    simp only[List.nil_append,List.append_assoc]at h2
    exact h2
   ·have h2:=hq.2.2
    rw[List.take_of_length_le (by simp only[List.length_append,List.nil_append,r1,r2];show s*1+1+_<=_;omega)]at h2
    rw[z05]
    simp only[List.nil_append,List.append_assoc]at h2
    exact h2
   ·have ho:=GV.oks_iff.1 (vo q hq.1.1.1).2.2
    rcases List.mem_append.1 hx with hx|hx
    ·exact ho x (List.mem_of_mem_take hx)
    ·rcases List.mem_cons.1 hx with rfl|hx
     ·exact hq.1.1.2
     ·exact ho x (List.mem_of_mem_drop hx)
end
abbrev VlS:=List AT×SV×Int×Int×GJ×Int
abbrev VlB:=Int×Int×GV
def vlO(x:SV) (all:Int):List (Nat×AO):=[(1, .cells 92 (some 0) false [svA x, .sv (.int .i64 all)])]
def z0l(all:Int):VlB->Prop:=λ⟨all',e,v⟩=>all<=all'/\all'<=2001/\(e=0->all'<=2000)
def sgM(S:List AT) (x:SV) (g:GJ):PF:=⟨true,λp=>z0a S x p/\g.ok p,λ_ _ h e=>⟨z0s h e.1,GJ.ok_mono h e.2⟩⟩
def jdw(S:List AT) (x:SV) (a:AT) (g:GJ):PF:=⟨true,λp=>z0a S x p/\a.ok p/\g.ok p,λ_ _ h e=>⟨z0s h e.1,AT.ok_mono h e.2.1,GJ.ok_mono h e.2.2⟩⟩
def cVl:CtR where
 σ:=VlS
 args:=λ⟨S,x,all,t,g,d⟩=>[.ptr 1 0, .sv (.int .i64 t),g.av, .sv (.int .i64 d)]
 h:=λ⟨S,x,all,t,g,d⟩=>vlO x all
 m:=2
 pre:=λ⟨S,x,all,t,g,d⟩=>z0v S/\(0<=t/\t<S.length)/\g.wf/\(0<=all/\all<=2000)/\1<=d/\d<=21
 mem:=λ⟨S,x,all,t,g,d⟩=>sgM S x g
 β:=λ_=>VlB
 post:=λ⟨S,x,all,t,g,d⟩ b=>z0l all b
 pm:=λ_ ⟨all',e,v⟩=>vM v
 r:=λ_ ⟨all',e,v⟩=> .tup [v.av, .sv (.int .i64 e)]
 h':=λ⟨S,x,all,t,g,d⟩ ⟨all',e,v⟩=>vlO x all'
 m':=2
def z65:VlS->Nat:=λ⟨S,x,all,t,g,d⟩=>2*(25- d).toNat
abbrev VqS:=List AT×SV×Int×AT×GJ×Int
def cVq(k:AT->GJ->Prop):CtR where
 σ:=VqS
 args:=λ⟨S,x,all,a,g,d⟩=>[.ptr 1 0,a.av,g.av, .sv (.int .i64 d)]
 h:=λ⟨S,x,all,a,g,d⟩=>vlO x all
 m:=2
 pre:=λ⟨S,x,all,a,g,d⟩=>z0v S/\a∈S/\k a g/\g.wf/\(0<=all/\all<=2000)/\1<=d/\d<=20
 mem:=λ⟨S,x,all,a,g,d⟩=>jdw S x a g
 β:=λ_=>VlB
 post:=λ⟨S,x,all,a,g,d⟩ b=>z0l all b
 pm:=λ_ ⟨all',e,v⟩=>vM v
 r:=λ_ ⟨all',e,v⟩=> .tup [v.av, .sv (.int .i64 e)]
 h':=λ⟨S,x,all,a,g,d⟩ ⟨all',e,v⟩=>vlO x all'
 m':=2
def z8y:VqS->Nat:=λ⟨S,x,all,a,g,d⟩=>2*(25- d).toNat
def zmx(a:AT) (g:GJ):Prop:=a.k=12
def isMap(a:AT) (g:GJ):Prop:=a.k=13/\g.k=6
def zgu(a:AT) (g:GJ):Prop:=a.k=12\/a.k=13/\g.k=6
def isRec(a:AT) (g:GJ):Prop:=a.k=9
def jds(t:T AV) (h:T AO):Option Int:=match t.get 10 with
  | some (.ptr b _)=>match h.get b with
    | some (.cells _ _ _ (v::_))=>match gi v with
      |some (_,k)=>some k
      |none=>none
    |_=>none
  |_=>none
def bq(a b gk k:Int):Bool:=decide (k=a)&&decide (gk=b)
def bI(gk gn k:Int):Bool:=decide (k=3)&&(decide (gk=3)&&(decide (-2147483648<=gn)&&decide (gn<2147483648)))
def bN(gk gn k:Int):Bool:=bI gk gn k||bq 4 3 gk k
def bT(gk k:Int):Bool:=(decide (k=7)||decide (k=11))&&decide (gk=4)
def bP(gk k:Int):Bool:=bq 12 5 gk k||bq 13 6 gk k
def cbK(f:Int->Bool) (i:Nat) (keep:List Nat) (t:T AV) (h:T AO):Option LT:=match jds t h with
 |some k=>some {σ:=Unit,t:=λ_=>[(i, .sv (.bool (f k)))],h:=λ_=>[],more:=0,μ:=λ_=>0,keep:=keep}
 |none=>none
def wVl:VlS->WayF:=λ⟨S,x,all,t,g,d⟩=>{
 ann:=λ_ _ _=>some {σ:=Nat,t:=λj=>[(14, .sv (.int .i64 (j:Int)))],h:=λ_=>[],more:=0,μ:=λj=>1000- j,keep:=[0,3,6,8,10,11]}
 pubE:=[250]
 spl:=λi=>match i with
  |35=>some 8
  |_=>none
 flo:=λi=>match i with
  |35=>some (12,[8])
  |_=>none
 cut:=λi t h=>match i with
  |7=>cbK (bq 1 1 g.k) 45 [0,3,6,8,10,11] t h
  |9=>cbK (bq 2 2 g.k) 55 [0,3,6,8,10,11] t h
  |11=>cbK (bI g.k g.n) 68 [0,3,6,8,10,11] t h
  |12=>cbK (bN g.k g.n) 68 [0,3,6,8,10,11] t h
  |14=>cbK (bq 5 3 g.k) 95 [0,3,6,8,10,11] t h
  |16=>cbK (bq 6 3 g.k) 107 [0,3,6,8,10,11] t h
  |18=>cbK (bq 8 4 g.k) 118 [0,3,6,8,10,11] t h
  |20=>cbK (bT g.k) 130 [0,3,6,8,10,11] t h
  |22=>some {σ:=Bool,t:=λb=>[(162, .sv (.bool b))],h:=λ_=>[],more:=0,μ:=λ_=>0,keep:=[8,12]}
  |24=>cbK (bq 10 4 g.k) 165 [0,3,6,8,10,11] t h
  |30=>cbK (bq 12 5 g.k) 192 [0,3,6,8,10,11] t h
  |31=>cbK (bP g.k) 192 [0,3,6,8,10,11] t h
  |33=>cbK (bq 9 6 g.k) 216 [0,3,6,8,10,11] t h
  |37=>some {σ:=Unit,t:=λ_=>[],h:=λ_=>[],more:=0,μ:=λ_=>0,keep:=[8]}
  |36=>some {σ:=VlB,t:=λ⟨all',e,v⟩=>[(16, .sv (.int .i64 e)),(15, .ptr 50 0)],h:=λ⟨all',e,v⟩=>[(50, .cells 35 (some 0) false [.sv (.int .u64 v.n), .sv (.string v.s),svA v.x,svA v.y, .sv (.int .i64 v.b)])]++vlO x all',pre:=z0l all,mem:=λ⟨all',e,v⟩=>vM v,more:=60,μ:=λ_=>0,keep:=[8]}
  |_=>none}
def avO(v:GV):AO:= .cells 35 (some 0) false [.sv (.int .u64 v.n), .sv (.string v.s),svA v.x,svA v.y, .sv (.int .i64 v.b)]
def rwO(r n k:Nat):AO:= .cells 35 (some 0) false [.int .u64 0, .str [], .ssl r 0 n 5 k, .nsl, .int .i64 0]
def gsM(fs:List GV):PF:=⟨true,GV.oks fs,λ_ _ h e=>GV.oks_mono h e⟩
def j3u(x:SV) (all:Int) (pt es:Nat) (keep:List Nat):LT:={σ:=VlB,t:=λ⟨all',e,v⟩=>[(es, .sv (.int .i64 e)),(pt, .ptr 50 0)],h:=λ⟨all',e,v⟩=>[(50,avO v)]++vlO x all',pre:=z0l all,mem:=λ⟨all',e,v⟩=>vM v,more:=60,μ:=λ_=>0,keep:=keep}
def zia(h:T AO):Int:=match h.get 1 with
 |some (.cells _ _ _ [_, .sv (.int _ a)])=>a
 |_=>0
def wPa:VqS->WayF:=λ⟨S,x,all,a,g,d⟩=>{
 ann:=λ_ _ _=>some {σ:=Nat×Int×List GV,pre:=λ⟨j,all',fs⟩=>j<=g.l.length/\(all<=all'/\all'<=2000)/\fs.length=j,mem:=λ⟨j,all',fs⟩=>gsM fs,t:=λ⟨j,all',fs⟩=>[(11, .sv (.int .i64 (j:Int)))],h:=λ⟨j,all',fs⟩=>vlO x all'++[(5,rwO 6 fs.length 7),(6, .row 35 0 (z00 GV.cells fs))],more:=2,μ:=λ⟨j,all',fs⟩=>g.l.length- j,keep:=[0,3,5,6,8,10]}
 pubE:=[57]
 spl:=λi=>match i with
  |5=>some 10
  |10=>some 7
  |_=>none
 flo:=λi=>match i with
  |5=>some (14,[10])
  |_=>none
 cut:=λi _ h=>match i with
  |6=>some (j3u x (zia h) 12 13 [0,3,5,6,8,10,11])
  |_=>none}
def wPm:VqS->WayF:=λ⟨S,x,all,a,g,d⟩=>{
 ann:=λ_ _ _=>some {σ:=Nat×Int×GV,pre:=λ⟨j,all',v⟩=>j<=g.l.length/\(all<=all'/\all'<=2000)/\v.ks.length=v.l.length/\v.l.length<=j,mem:=λ⟨j,all',v⟩=>vM v,t:=λ⟨j,all',v⟩=>[(11, .sv (.int .i64 (j:Int)))],h:=λ⟨j,all',v⟩=>vlO x all'++[(5,avO v)],more:=0,μ:=λ⟨j,all',v⟩=>g.l.length- j,keep:=[0,3,5,6,8,10]}
 spl:=λi=>match i with
  |5=>some 10
  |10=>some 7
  |_=>none
 flo:=λi=>match i with
  |5=>some (14,[10])
  |_=>none
 cut:=λi _ h=>match i with
  |6=>some (j3u x (zia h) 12 13 [0,3,5,6,8,10,11])
  |_=>none}
def jnO(g:GJ):AO:= .cells 52 (some 0) false [.sv (.int .i64 g.k), .sv (.int .i64 g.n), .sv (.string g.s),svA g.y,svA g.x]
def wRe:VqS->WayF:=λ⟨S,x,all,a,g,d⟩=>{
 ann:=λ_ _ _=>some {σ:=Nat×Int×List GV,pre:=λ⟨j,all',fs⟩=>j<=a.fs.length/\(all<=all'/\all'<=2000)/\fs.length=j,mem:=λ⟨j,all',fs⟩=>gsM fs,t:=λ⟨j,all',fs⟩=>[(11, .sv (.int .i64 (j:Int)))],h:=λ⟨j,all',fs⟩=>vlO x all'++[(5,rwO 6 fs.length 7),(6, .row 35 0 (z00 GV.cells fs))],more:=2,μ:=λ⟨j,all',fs⟩=>a.fs.length- j,keep:=[0,3,5,6,8,10]}
 pubE:=[65]
 cut:=λi _ h=>match i with
  |11=>some {σ:=GJ,pre:=λc=>c.wf,mem:=gM,t:=λc=>[(13, .ptr 50 0)],h:=λc=>[(50,jnO c)],more:=60,μ:=λ_=>0,keep:=[0,3,5,6,8,10,11,12]}
  |_=>none}
def kIt(k:Int):Bool:=decide (k=3\/k=4)
def kPa(k:Int):Bool:=decide (k=12\/k=13)
def j1m(t:T AV) (k:Nat):Option Nat:=match t.get k with
 |some (.ptr b _)=>some b
 |_=>none
def jdv(h:T AO) (vb n:Nat):AO:=match h.get vb with
 |some (.cells ty fz g [a,b,_,d,e])=> .cells ty fz g [a,b, .ssl 40 0 n 5 41,d,e]
 |_=> .cells 0 none false []
def rvM(S:List AT) (x y:SV) (D:ByteArray):PF:=⟨true,λp=>z0a S x p/\(y.2.1=D.size/\qil p y.1 y.2.1 y.2.2 (q1h D)),λ_ _ h e=>⟨z0s h e.1,e.2.1,q5g h e.2.2⟩⟩
def gvX(S:List AT) (D:ByteArray) (dp:Int):Int->Nat->Nat->RdT:=λt n c=>dvX S D (20- dp).toNat t n c
def kdP(a:AT):Prop:=a.k=12\/a.k=13
def thn{α:Type} (R0:Rs α) (e:Int) (q:Prop):Prop:=(e=0/\q)\/∃k:Nat,e=k+1/\R0= .no k
abbrev RsB:=Rs (StI×Nat×Nat)
def rbR(S:List AT) (a:AT) (dp:Int) (D:ByteArray) (n all:Int):RsB:=bkX (gvX S D dp a.it) D (decide (a.k=13)) (D.size+1- n.toNat) ([],[]) n.toNat all.toNat
def rbK(S:List AT) (a:AT) (dp:Int) (D:ByteArray) (F:Nat) (st:Int) (sz:Int) (r:StI×Nat×Nat):RsB:=if bkE st.toNat sz r.2.1=true then .no 1 else bkX (gvX S D dp a.it) D (decide (a.k=13)) F r.1 r.2.1 r.2.2
section
variable (x0 x1:Int) (x2:SV) (x3:List AT) (x4:GJ) (x5:Int) (x6:Nat) (x7:ByteArray) (x8:Option Addr) (x9:Nat) (x10:Int) (x11:Option Addr) (x12 x13:Nat) (x14:Bool) (x15:ByteArray) (x16:Int) (x17:Option Addr) (x18 x19:Nat) (x20:Option Addr) (x21 x22 x23:Nat) (x24:Prop) (x25:VlB) (x26 x27:Int) (x28:ByteArray×Bool) (x29:VqS) (x30:VlB) (x31:Nat->Option Obj)
 abbrev z1g:=True/\z0a x3 x2 x31/\GJ.ok x4 x31
 abbrev zqm:=Jb (x0+1)
 def zax:=GV.n x25.2.2=0/\GV.s x25.2.2=mkS []/\x24
 def zql:=(GV.y x25.2.2).1=noA/\(GV.y x25.2.2).2.1=0/\(GV.y x25.2.2).2.2=0/\GV.b x25.2.2=0/\x24
 def zf8:=x2.1=x2.1/\x2.2.1=x2.2.1/\x2.2.2=x2.2.2/\x24
 def z40:=(GV.x x25.2.2).1=noA/\(GV.x x25.2.2).2.1=0/\(GV.x x25.2.2).2.2=0/\zql (x25.2.1=x1/\zf8 x2 (x25.1=x0+1/\z0l x0 x25/\(∀i0,z1g x2 x3 x4 i0->GV.ok x25.2.2 i0)/\True)) x25
 def z1f:=decide (GJ.k x4=3)=decide (GJ.k x4=3)
 def z1e:=zf8 x2 (x0+1=x0+1/\GJ.k x4=GJ.k x4/\GJ.n x4=GJ.n x4/\GJ.s x4=GJ.s x4/\(GJ.y x4).1=(GJ.y x4).1/\(GJ.y x4).2.1=(GJ.y x4).2.1/\(GJ.y x4).2.2=(GJ.y x4).2.2/\(GJ.x x4).1=(GJ.x x4).1/\(GJ.x x4).2.1=(GJ.x x4).2.1/\(GJ.x x4).2.2=(GJ.x x4).2.2/\x1=x1/\x7=x7/\x8=x8/\x6=x6/\x9=x9/\x5=x5/\x11=x11/\x12=x12/\x13=x13/\x14=x14/\x15=x15/\x10=x10/\x17=x17/\x18=x18/\x19=x19/\x20=x20/\x21=x21/\x22=x22/\(∀i0,z1g x2 x3 x4 i0->z1g x2 x3 x4 i0)/\True/\x24)
 def z7o:=(Ji (x0=x26) (∃(i0:Unit),x1=x1/\z1f x4/\bq x26 x27 (GJ.k x4) x0=decide (GJ.k x4=x27)/\z1e x5 x0 x2 x3 x4 x10 x6 x7 x8 x9 x16 x11 x12 x13 x14 x15 x17 x18 x19 x20 x21 x22 True) (∃(i1:Unit),x1=x1/\z1f x4/\bq x26 x27 (GJ.k x4) x0=false/\z1e x5 x0 x2 x3 x4 x10 x6 x7 x8 x9 x16 x11 x12 x13 x14 x15 x17 x18 x19 x20 x21 x22 True))
 def zqj:=(Ji (x0=x26) (∃(i0:Unit),x1=x1/\bq x26 x27 (GJ.k x4) x0=decide (GJ.k x4=x27)/\z1f x4/\z1e x5 x0 x2 x3 x4 x10 x6 x7 x8 x9 x16 x11 x12 x13 x14 x15 x17 x18 x19 x20 x21 x22 True) (∃(i1:Unit),x1=x1/\bq x26 x27 (GJ.k x4) x0=false/\z1f x4/\z1e x5 x0 x2 x3 x4 x10 x6 x7 x8 x9 x16 x11 x12 x13 x14 x15 x17 x18 x19 x20 x21 x22 True))
 def zqn:=∃(i0:VlB),GV.n i0.2.2=IntKind.wrap u64 (GJ.n x4)/\GV.s i0.2.2=mkS []/\z40 x0 0 x2 x3 x4 i0
 def zyc:=Ji ((-2147483648:Int)<=GJ.n x4) (∃(i0:Unit),x0=x0/\z1f x4/\bI (GJ.k x4) (GJ.n x4) x1=decide (GJ.n x4<2147483648)/\z1e x5 x1 x2 x3 x4 x10 x6 x7 x8 x9 x16 x11 x12 x13 x14 x15 x17 x18 x19 x20 x21 x22 True) (∃(i1:Unit),x0=x0/\z1f x4/\bI (GJ.k x4) (GJ.n x4) x1=false/\z1e x5 x1 x2 x3 x4 x10 x6 x7 x8 x9 x16 x11 x12 x13 x14 x15 x17 x18 x19 x20 x21 x22 True)
 def zy8:=Ji (GJ.k x4=3) (zyc x0 x1 x2 x3 x4 x5 x6 x7 x8 x9 x10 x11 x12 x13 x14 x15 x16 x17 x18 x19 x20 x21 x22) (∃(i2:Unit),x0=x0/\z1f x4/\bI (GJ.k x4) (GJ.n x4) x1=false/\z1e x5 x1 x2 x3 x4 x10 x6 x7 x8 x9 x16 x11 x12 x13 x14 x15 x17 x18 x19 x20 x21 x22 True)
 def zyd:=Ji (x0=4) (∃(i0:Unit),x1=x1/\z1f x4/\bN (GJ.k x4) (GJ.n x4) x0=decide (GJ.k x4=3)/\z1e x5 x0 x2 x3 x4 x10 x6 x7 x8 x9 x16 x11 x12 x13 x14 x15 x17 x18 x19 x20 x21 x22 True) (∃(i1:Unit),x1=x1/\z1f x4/\bN (GJ.k x4) (GJ.n x4) x0=false/\z1e x5 x0 x2 x3 x4 x10 x6 x7 x8 x9 x16 x11 x12 x13 x14 x15 x17 x18 x19 x20 x21 x22 True)
 def zyb:=(bI (GJ.k x4) (GJ.n x4) x0=true->∃(i0:Unit),x1=x1/\z1f x4/\bN (GJ.k x4) (GJ.n x4) x0=bI (GJ.k x4) (GJ.n x4) x0/\z1e x5 x0 x2 x3 x4 x10 x6 x7 x8 x9 x16 x11 x12 x13 x14 x15 x17 x18 x19 x20 x21 x22 True)/\(bI (GJ.k x4) (GJ.n x4) x0=false->zyd x0 x1 x2 x3 x4 x5 x6 x7 x8 x9 x10 x11 x12 x13 x14 x15 x16 x17 x18 x19 x20 x21 x22)
 def zyf:=Ji (x0=11) (∃(i0:Unit),x1=x1/\z1f x4/\bT (GJ.k x4) x0=decide (GJ.k x4=4)/\z1e x5 x0 x2 x3 x4 x10 x6 x7 x8 x9 x16 x11 x12 x13 x14 x15 x17 x18 x19 x20 x21 x22 True) (∃(i1:Unit),x1=x1/\z1f x4/\bT (GJ.k x4) x0=false/\z1e x5 x0 x2 x3 x4 x10 x6 x7 x8 x9 x16 x11 x12 x13 x14 x15 x17 x18 x19 x20 x21 x22 True)
 def z7p:=zf8 x2 (x0+1=x0+1/\(∀i0,z1g x2 x3 x4 i0->z1g x2 x3 x4 i0)/\True/\True)
 def zye:=Ji (x0=7) (∃(i0:Bool),x28.1=x28.1/\i0=true/\z7p x1 x2 x3 x4) (∃(i1:Bool),x28.1=x28.1/\i1=decide ((↑(size x28.1):Int)=x5)/\z7p x1 x2 x3 x4)
 def zyh:=(x14=true->∃(i0:VlB),GV.n i0.2.2=0/\GV.s i0.2.2=x28.1/\z40 x0 0 x2 x3 x4 i0)/\(x14=false->∃(i1:Unit),z7p x0 x2 x3 x4)
 def zy5:=((x28.2=true->zye x0 x1 x2 x3 x4 x5 x28)/\(x28.2=false->∃(i4:Bool),x28.1=x28.1/\i4=false/\z7p x1 x2 x3 x4))/\∀(i6:Bool),True->zyh x1 x2 x3 x4 i6 x28
 def zy9:=(0<=(↑x6:Int)/\(↑x6:Int)<(↑x9:Int))/\x8≠noA/\∃i0,(∀i1,z1g x2 x3 x4 i1->q3p i1 (adr x8 (toNat (↑x6:Int)*1)) [string i0])/\Ji (i0=GJ.s x4) (∃(i2:VlB),GV.n i2.2.2=IntKind.wrap u64 (↑x6:Int)/\GV.s i2.2.2=mkS []/\z40 x0 0 x2 x3 x4 i2) (Jb ((↑x6:Int)+1)/\∃(i3:Nat),x1=x1/\z1f x4/\(↑i3:Int)=(↑x6:Int)+1/\z1e x0 x5 x2 x3 x4 x10 x12 x7 x11 x13 x16 x8 x9 x18 x14 x15 x17 x19 x21 x20 x22 x23 ((1000:Nat)- i3<1000- x6/\True))
 def zy7:=Ji ((↑x6:Int)<(↑x9:Int)) (zy9 x0 x1 x2 x3 x4 x5 x6 x7 x8 x9 x10 x11 x12 x13 x14 x15 x16 x17 x18 x19 x20 x21 x22 x23) (∃(i4:Unit),z7p x0 x2 x3 x4)
 def zy6:=(∃(i0:Nat),x0=x0/\z1f x4/\(↑i0:Int)=0/\z1e x1 x5 x2 x3 x4 x10 x6 x7 x8 x9 x16 x11 x12 x13 x14 x15 x17 x18 x19 x20 x21 x22 True)/\∀(i1:Nat),True->zy7 x1 x0 x2 x3 x4 x5 i1 x7 x11 x12 x10 x8 x6 x9 x14 x15 x16 x17 x13 x18 x20 x19 x21 x22
 def zyg:=Ji (x0=13) (∃(i0:Unit),x1=x1/\z1f x4/\bP (GJ.k x4) x0=decide (GJ.k x4=6)/\z1e x5 x0 x2 x3 x4 x10 x6 x7 x8 x9 x16 x11 x12 x13 x14 x15 x17 x18 x19 x20 x21 x22 True) (∃(i1:Unit),x1=x1/\z1f x4/\bP (GJ.k x4) x0=false/\z1e x5 x0 x2 x3 x4 x10 x6 x7 x8 x9 x16 x11 x12 x13 x14 x15 x17 x18 x19 x20 x21 x22 True)
 def zya:=(bq 12 5 (GJ.k x4) x0=true->∃(i0:Unit),x1=x1/\z1f x4/\bP (GJ.k x4) x0=bq 12 5 (GJ.k x4) x0/\z1e x5 x0 x2 x3 x4 x10 x6 x7 x8 x9 x16 x11 x12 x13 x14 x15 x17 x18 x19 x20 x21 x22 True)/\(bq 12 5 (GJ.k x4) x0=false->zyg x0 x1 x2 x3 x4 x5 x6 x7 x8 x9 x10 x11 x12 x13 x14 x15 x16 x17 x18 x19 x20 x21 x22)
 def zqf:=AT.k x29.2.2.2.1=x0/\AT.nm x29.2.2.2.1=x7/\(AT.al x29.2.2.2.1).1=x8/\(AT.al x29.2.2.2.1).2.1=x6/\(AT.al x29.2.2.2.1).2.2=x9/\AT.it x29.2.2.2.1=x1/\(AT.sy x29.2.2.2.1).1=x11/\(AT.sy x29.2.2.2.1).2.1=x12/\(AT.sy x29.2.2.2.1).2.2=x13/\AT.hd x29.2.2.2.1=x14/\AT.df x29.2.2.2.1=x15/\AT.sz x29.2.2.2.1=x5/\(AT.f x29.2.2.2.1).1=x17/\(AT.f x29.2.2.2.1).2.1=x18/\(AT.f x29.2.2.2.1).2.2=x19/\(AT.br x29.2.2.2.1).1=x20/\(AT.br x29.2.2.2.1).2.1=x21/\(AT.br x29.2.2.2.1).2.2=x22/\GJ.k x29.2.2.2.2.1=GJ.k x4/\GJ.n x29.2.2.2.2.1=GJ.n x4/\GJ.s x29.2.2.2.2.1=GJ.s x4/\(GJ.y x29.2.2.2.2.1).1=(GJ.y x4).1/\(GJ.y x29.2.2.2.2.1).2.1=(GJ.y x4).2.1/\(GJ.y x29.2.2.2.2.1).2.2=(GJ.y x4).2.2/\(GJ.x x29.2.2.2.2.1).1=(GJ.x x4).1/\(GJ.x x29.2.2.2.2.1).2.1=(GJ.x x4).2.1/\(GJ.x x29.2.2.2.2.1).2.2=(GJ.x x4).2.2/\x29.2.2.2.2.2=x10/\x29.2.1.1=x2.1/\x29.2.1.2.1=x2.2.1/\x29.2.1.2.2=x2.2.2/\x29.2.2.1=x16+1/\x24
 def zqk:=GJ.wf x29.2.2.2.2.1/\(0<=x29.2.2.1/\x29.2.2.1<=2000)/\1<=x29.2.2.2.2.2/\x29.2.2.2.2.2<=20
 def zqh:=GV.n x25.2.2=GV.n x30.2.2/\GV.s x25.2.2=GV.s x30.2.2/\(GV.x x25.2.2).1=(GV.x x30.2.2).1/\(GV.x x25.2.2).2.1=(GV.x x30.2.2).2.1/\(GV.x x25.2.2).2.2=(GV.x x30.2.2).2.2/\(GV.y x25.2.2).1=(GV.y x30.2.2).1/\(GV.y x25.2.2).2.1=(GV.y x30.2.2).2.1/\(GV.y x25.2.2).2.2=(GV.y x30.2.2).2.2/\GV.b x25.2.2=GV.b x30.2.2/\x24
 def zqg:=(∀i0,z1g x2 x3 x4 i0->z0a x29.1 x29.2.1 i0/\AT.ok x29.2.2.2.1 i0/\GJ.ok x29.2.2.2.2.1 i0)/\∀(i1:VlB),z0l x29.2.2.1 i1->(∃i2,(z1g x2 x3 x4 i2)/\GV.ok i1.2.2 i2)->∃(i3:VlB),zqh (i3.2.1=i1.2.1/\x2.1=x29.2.1.1/\x2.2.1=x29.2.1.2.1/\x2.2.2=x29.2.1.2.2/\i3.1=i1.1/\z0l x0 i3/\(∀i4,(z1g x2 x3 x4 i4)/\GV.ok i1.2.2 i4->GV.ok i3.2.2 i4)/\True) i3 i1
 def zqe:=((0:Int)<=0/\0<(↑x6:Int))/\x8≠noA/\∃(i0:Int),(∀i1,z1g x2 x3 x4 i1->q3p i1 (adr x8 ((0:Nat)*1)) [int i64 i0])/\zqm x0/\∃(i2:VlS),i2.2.2.2.1=i0/\GJ.k i2.2.2.2.2.1=GJ.k x4/\GJ.n i2.2.2.2.2.1=GJ.n x4/\GJ.s i2.2.2.2.2.1=GJ.s x4/\(GJ.y i2.2.2.2.2.1).1=(GJ.y x4).1/\(GJ.y i2.2.2.2.2.1).2.1=(GJ.y x4).2.1/\(GJ.y i2.2.2.2.2.1).2.2=(GJ.y x4).2.2/\(GJ.x i2.2.2.2.2.1).1=(GJ.x x4).1/\(GJ.x i2.2.2.2.2.1).2.1=(GJ.x x4).2.1/\(GJ.x i2.2.2.2.2.1).2.2=(GJ.x x4).2.2/\i2.2.2.2.2.2=x0+1/\i2.2.1.1=x2.1/\i2.2.1.2.1=x2.2.1/\i2.2.1.2.2=x2.2.2/\i2.2.2.1=x1+1/\(z65 i2<x9/\z0v i2.1/\(0<=i2.2.2.2.1/\i2.2.2.2.1<(↑(length i2.1):Int))/\GJ.wf i2.2.2.2.2.1/\(0<=i2.2.2.1/\i2.2.2.1<=2000)/\1<=i2.2.2.2.2.2/\i2.2.2.2.2.2<=21)/\(∀i3,z1g x2 x3 x4 i3->z0a i2.1 i2.2.1 i3/\GJ.ok i2.2.2.2.2.1 i3)/\∀(i4:VlB),z0l i2.2.2.1 i4->(∃i5,(z1g x2 x3 x4 i5)/\GV.ok i4.2.2 i5)->∃(i6:VlB),i6.2.1=i4.2.1/\x2.1=i2.2.1.1/\x2.2.1=i2.2.1.2.1/\x2.2.2=i2.2.1.2.2/\i6.1=i4.1/\zqh ((∀i7,(z1g x2 x3 x4 i7)/\GV.ok i4.2.2 i7->z1g x2 x3 x4 i7)/\(∀i8,(z1g x2 x3 x4 i8)/\GV.ok i4.2.2 i8->GV.ok i6.2.2 i8)/\z0l x1 i6/\True) i6 i4
 def zqi:=((z1g x2 x3 x4 x31)/\GV.ok x25.2.2 x31)/\q3p x31 (Addr.mk x6 x9 none) [int u64 (GV.n x25.2.2),string (GV.s x25.2.2),slice (GV.x x25.2.2).1 (GV.x x25.2.2).2.1 (GV.x x25.2.2).2.2,slice (GV.y x25.2.2).1 (GV.y x25.2.2).2.1 (GV.y x25.2.2).2.2,int i64 (GV.b x25.2.2)]
 def zy4:=((zqe x0 x1 x2 x3 x4 x6 x8 x9)/\zqe x0 x1 x2 x3 x4 x6 x8 x9)/\∀(i18:VlB),z0l x1 i18->(∃i19,(z1g x2 x3 x4 i19)/\GV.ok i18.2.2 i19)->∀(i20 i21 i22:Nat),(∃i23,zqi x2 x3 x4 i20 i21 i18 i23)->∃(i24:VlB),zax ((GV.x i24.2.2).1=some (Addr.mk i20 (i21+nat_lit 0) none)/\(GV.x i24.2.2).2.1=nat_lit 1/\(GV.x i24.2.2).2.2=nat_lit 1/\zql (i24.2.1=i18.2.1/\zf8 x2 (i24.1=i18.1/\z0l x1 i24/\(∀i25,zqi x2 x3 x4 i20 i21 i18 i25->GV.ok i24.2.2 i25)/\True)) i24) i24
 def zy3:=Ji (x0=14) (zy4 x1 x5 x2 x3 x4 x6 x8 x9) (∃(i26:Unit),z7p x5 x2 x3 x4)
 def zy2:=(bq 9 6 (GJ.k x4) x0=true->∃(i0:VqS),zqf x0 x1 x2 x4 x5 x6 x7 x8 x9 x10 x11 x12 x13 x14 x15 x16 x17 x18 x19 x20 x21 x22 ((z8y i0<x23+1/\z0v i0.1/\i0.2.2.2.1∈i0.1/\isRec i0.2.2.2.1 i0.2.2.2.2.1/\zqk i0)/\zqg x16 x2 x3 x4 i0) i0)/\(bq 9 6 (GJ.k x4) x0=false->zy3 x0 x10 x2 x3 x4 x16 x21 x20 x23)
 def zy1:=z7o x0 x1 x2 x3 x4 x5 x6 x7 x8 x9 x10 x11 x12 x13 x14 x15 x16 x17 x18 x19 x20 x21 x22 9 6/\∀(i2:Unit),True->zy2 x0 x10 x2 x3 x4 x16 x6 x7 x8 x9 x1 x11 x12 x13 x14 x15 x5 x17 x18 x19 x20 x21 x22 x23
 def zy0:=(bP (GJ.k x4) x0=true->∃(i0:VqS),zqf x0 x1 x2 x4 x5 x6 x7 x8 x9 x10 x11 x12 x13 x14 x15 x16 x17 x18 x19 x20 x21 x22 ((z8y i0<x23+1/\z0v i0.1/\i0.2.2.2.1∈i0.1/\zgu i0.2.2.2.1 i0.2.2.2.2.1/\zqk i0)/\zqg x16 x2 x3 x4 i0) i0)/\(bP (GJ.k x4) x0=false->zy1 x0 x10 x2 x3 x4 x16 x6 x7 x8 x9 x1 x11 x12 x13 x14 x15 x5 x17 x18 x19 x20 x21 x22 x23)
 def zxz:=(z7o x0 x1 x2 x3 x4 x5 x6 x7 x8 x9 x10 x11 x12 x13 x14 x15 x16 x17 x18 x19 x20 x21 x22 12 5/\∀(i2:Unit),True->zya x0 x1 x2 x3 x4 x5 x6 x7 x8 x9 x10 x11 x12 x13 x14 x15 x16 x17 x18 x19 x20 x21 x22)/\∀(i6:Unit),True->zy0 x0 x10 x2 x3 x4 x16 x6 x7 x8 x9 x1 x11 x12 x13 x14 x15 x5 x17 x18 x19 x20 x21 x22 x23
 def zxy:=(bq 10 4 (GJ.k x4) x0=true->zy6 x1 x5 x2 x3 x4 x0 x6 x7 x8 x9 x10 x11 x12 x13 x14 x15 x16 x17 x18 x19 x20 x21 x22)/\(bq 10 4 (GJ.k x4) x0=false->zxz x0 x1 x2 x3 x4 x5 x6 x7 x8 x9 x10 x11 x12 x13 x14 x15 x16 x17 x18 x19 x20 x21 x22 x23)
 def zxx:=z7o x0 x1 x2 x3 x4 x5 x6 x7 x8 x9 x10 x11 x12 x13 x14 x15 x16 x17 x18 x19 x20 x21 x22 10 4/\∀(i4:Unit),True->zxy x0 x1 x2 x3 x4 x5 x6 x7 x8 x9 x10 x11 x12 x13 x14 x15 x16 x17 x18 x19 x20 x21 x22 x23
 def zxw:=(bT (GJ.k x4) x0=true->∃i0,i0=GJ.s x4/\size i0<1000000/\∀(i1:ByteArray×Bool),size i1.1<=size i0->zy5 x0 x1 x2 x3 x4 x5 i1)/\(bT (GJ.k x4) x0=false->zxx x0 x10 x2 x3 x4 x1 x6 x7 x8 x9 x16 x11 x12 x13 x14 x15 x5 x17 x18 x19 x20 x21 x22 x23)
 def zxv:=(Ji (x0=7) (∃(i0:Unit),x1=x1/\z1f x4/\bT (GJ.k x4) x0=decide (GJ.k x4=4)/\z1e x5 x0 x2 x3 x4 x10 x6 x7 x8 x9 x16 x11 x12 x13 x14 x15 x17 x18 x19 x20 x21 x22 True) (zyf x0 x1 x2 x3 x4 x5 x6 x7 x8 x9 x10 x11 x12 x13 x14 x15 x16 x17 x18 x19 x20 x21 x22))/\∀(i6:Unit),True->zxw x0 x5 x2 x3 x4 x16 x6 x7 x8 x9 x1 x11 x12 x13 x14 x15 x10 x17 x18 x19 x20 x21 x22 x23
 def zxu:=(bq 8 4 (GJ.k x4) x0=true->∃(i0:VlB),GV.n i0.2.2=0/\GV.s i0.2.2=GJ.s x4/\z40 x1 0 x2 x3 x4 i0)/\(bq 8 4 (GJ.k x4) x0=false->zxv x0 x5 x2 x3 x4 x1 x6 x7 x8 x9 x10 x11 x12 x13 x14 x15 x16 x17 x18 x19 x20 x21 x22 x23)
 def zxt:=z7o x0 x1 x2 x3 x4 x5 x6 x7 x8 x9 x10 x11 x12 x13 x14 x15 x16 x17 x18 x19 x20 x21 x22 8 4/\∀(i4:Unit),True->zxu x0 x5 x2 x3 x4 x1 x6 x7 x8 x9 x10 x11 x12 x13 x14 x15 x16 x17 x18 x19 x20 x21 x22 x23
 def zxs:=(bq 6 3 (GJ.k x4) x0=true->∃(i0:Int),i0=GJ.n x4/\ztb i0/\∀(i1:Int),z5x i1->∃(i2:VlB),GV.n i2.2.2=i1/\GV.s i2.2.2=mkS []/\z40 x1 0 x2 x3 x4 i2)/\(bq 6 3 (GJ.k x4) x0=false->zxt x0 x5 x2 x3 x4 x1 x6 x7 x8 x9 x10 x11 x12 x13 x14 x15 x16 x17 x18 x19 x20 x21 x22 x23)
 def zxr:=z7o x0 x1 x2 x3 x4 x5 x6 x7 x8 x9 x10 x11 x12 x13 x14 x15 x16 x17 x18 x19 x20 x21 x22 6 3/\∀(i4:Unit),True->zxs x0 x5 x2 x3 x4 x1 x6 x7 x8 x9 x10 x11 x12 x13 x14 x15 x16 x17 x18 x19 x20 x21 x22 x23
 def j9c:=(bq 5 3 (GJ.k x4) x0=true->∃(i0:Int),i0=GJ.n x4/\ztb i0/\∀(i1:Int),0<=i1/\i1<4294967296->(0<=i1/\i1<=18446744073709551615)/\∃(i2:VlB),GV.n i2.2.2=i1/\GV.s i2.2.2=mkS []/\z40 x1 0 x2 x3 x4 i2)/\(bq 5 3 (GJ.k x4) x0=false->zxr x0 x5 x2 x3 x4 x1 x6 x7 x8 x9 x10 x11 x12 x13 x14 x15 x16 x17 x18 x19 x20 x21 x22 x23)
 def j9b:=zqj x0 x1 x2 x3 x4 x5 x6 x7 x8 x9 x10 x11 x12 x13 x14 x15 x16 x17 x18 x19 x20 x21 x22 5 3/\∀(i4:Unit),True->j9c x0 x5 x2 x3 x4 x1 x6 x7 x8 x9 x10 x11 x12 x13 x14 x15 x16 x17 x18 x19 x20 x21 x22 x23
 def j9a:=(bN (GJ.k x4) (GJ.n x4) x0=true->zqn x1 x2 x3 x4)/\(bN (GJ.k x4) (GJ.n x4) x0=false->j9b x0 x5 x2 x3 x4 x1 x6 x7 x8 x9 x10 x11 x12 x13 x14 x15 x16 x17 x18 x19 x20 x21 x22 x23)
 def j99:=((Ji (x0=3) (zy8 x1 x0 x2 x3 x4 x5 x6 x7 x8 x9 x10 x11 x12 x13 x14 x15 x16 x17 x18 x19 x20 x21 x22) (∃(i6:Unit),x1=x1/\z1f x4/\bI (GJ.k x4) (GJ.n x4) x0=false/\z1e x5 x0 x2 x3 x4 x10 x6 x7 x8 x9 x16 x11 x12 x13 x14 x15 x17 x18 x19 x20 x21 x22 True))/\∀(i8:Unit),True->zyb x0 x1 x2 x3 x4 x5 x6 x7 x8 x9 x10 x11 x12 x13 x14 x15 x16 x17 x18 x19 x20 x21 x22)/\∀(i15:Unit),True->j9a x0 x5 x2 x3 x4 x1 x6 x7 x8 x9 x10 x11 x12 x13 x14 x15 x16 x17 x18 x19 x20 x21 x22 x23
 def j98:=(bq 2 2 (GJ.k x4) x0=true->zqn x1 x2 x3 x4)/\(bq 2 2 (GJ.k x4) x0=false->j99 x0 x5 x2 x3 x4 x1 x6 x7 x8 x9 x10 x11 x12 x13 x14 x15 x16 x17 x18 x19 x20 x21 x22 x23)
 def j97:=zqj x0 x1 x2 x3 x4 x5 x6 x7 x8 x9 x10 x11 x12 x13 x14 x15 x16 x17 x18 x19 x20 x21 x22 2 2/\∀(i4:Unit),True->j98 x0 x5 x2 x3 x4 x1 x6 x7 x8 x9 x10 x11 x12 x13 x14 x15 x16 x17 x18 x19 x20 x21 x22 x23
 def j96:=(bq 1 1 (GJ.k x4) x0=true->∃(i0:VlB),zax (z40 x1 0 x2 x3 x4 i0) i0)/\(bq 1 1 (GJ.k x4) x0=false->j97 x0 x5 x2 x3 x4 x1 x6 x7 x8 x9 x10 x11 x12 x13 x14 x15 x16 x17 x18 x19 x20 x21 x22 x23)
 def j95:=(0<=x0/\x0<(↑x2.2.1:Int))/\x2.1≠noA/\∃(i0:Int),∃i1,∃i2,∃(i3:Nat),∃(i4:Nat),∃(i5:Int),∃i6,∃(i7:Nat),∃(i8:Nat),∃(i9:Bool),∃i10,∃(i11:Int),∃i12,∃(i13:Nat),∃(i14:Nat),∃i15,∃(i16:Nat),∃(i17:Nat),(∀i18,z1g x2 x3 x4 i18->q3p i18 (adr x2.1 (toNat x0*10)) [int i64 i0,string i1,slice i2 i3 i4,int i64 i5,slice i6 i7 i8,bool i9,string i10,int i64 i11,slice i12 i13 i14,slice i15 i16 i17])/\(z7o i0 x1 x2 x3 x4 x5 i3 i1 i2 i4 i5 i6 i7 i8 i9 i10 i11 i12 i13 i14 i15 i16 i17 1 1/\∀(i23:Unit),True->j96 i0 x5 x2 x3 x4 x1 i3 i1 i2 i4 i5 i6 i7 i8 i9 i10 i11 i12 i13 i14 i15 i16 i17 x6)/\∀(i169:Unit),True->∃(i170:VlB),zax (z40 x5 7 x2 x3 x4 i170) i170
 def j94:=Ji (2000<x0+1) (∃(i0:VlB),zax (z40 x0 3 x2 x3 x4 i0) i0) (j95 x1 x5 x2 x3 x4 x0 x6)
 def j93:=zqm x0/\Ji (20<x1) (∃(i0:VlB),zax (z40 x0 3 x2 x3 x4 i0) i0) (j94 x0 x5 x2 x3 x4 x1 x6)
end
def zvb(n:Nat) (S:List AT) (x:SV) (all t:Int) (g:GJ) (d:Int):qm3 P (qh2 []) (qi5 [(37,cVl.below z65 n),(62,(cVq zgu).below z8y (n+1)),(63,(cVq isRec).below z8y (n+1)),(59,zbj),(60,z6y),(61,j09)]) Try.f37 (cVl.below z65 (n+1)) (wVl) ⟨S,x,all,t,g,d⟩=(z65 (S,x,all,t,g,d)<n+1/\z0v S/\(0<=t/\t<(↑(length S):Int))/\GJ.wf g/\(0<=all/\all<=2000)/\1<=d/\d<=21->(∃(p:Pub),z1g x S g p)->j93 all d x S g t n):=by kernel_rfl
def j1u:=λn S x all t g d=>Eq.trans (zvb n S x all t g d) (by delta Ji Jb Jt Jf z1g zqm zax zql zf8 z40 z1f z1e z7o zqj zqn zyc zy8 zyd zyb zyf z7p zye zyh zy5 zy9 zy7 zy6 zyg zya zqf zqk zqh zqg zqe zqi zy4 zy3 zy2 zy1 zy0 zxz zxy zxx zxw zxv zxu zxt zxs zxr j9c j9b j9a j99 j98 j97 j96 j95 j94 j93;exact rfl)
section
variable (x0:Int) (x1:SV) (x2:Int) (x3:GJ) (x4:AT) (x5:List AT) (x6:Nat) (x7:Nat×Int×List GV) (x8:VlB) (x9:Prop) (x10:Nat->Option Obj)
 abbrev z7q:=True/\z0a x5 x1 x10/\AT.ok x4 x10/\GJ.ok x3 x10
 def zf9:=x1.1=x1.1/\x1.2.1=x1.2.1/\x1.2.2=x1.2.2/\x9
 def j0u:=GJ.k x3=GJ.k x3/\GJ.n x3=GJ.n x3/\GJ.s x3=GJ.s x3/\(GJ.y x3).1=(GJ.y x3).1/\(GJ.y x3).2.1=(GJ.y x3).2.1/\(GJ.y x3).2.2=(GJ.y x3).2.2/\(GJ.x x3).1=(GJ.x x3).1/\(GJ.x x3).2.1=(GJ.x x3).2.1/\(GJ.x x3).2.2=(GJ.x x3).2.2/\x9
 def j0t:=AT.k x4=AT.k x4/\AT.nm x4=AT.nm x4/\(AT.al x4).1=(AT.al x4).1/\(AT.al x4).2.1=(AT.al x4).2.1/\(AT.al x4).2.2=(AT.al x4).2.2/\AT.it x4=AT.it x4/\(AT.sy x4).1=(AT.sy x4).1/\(AT.sy x4).2.1=(AT.sy x4).2.1/\(AT.sy x4).2.2=(AT.sy x4).2.2/\AT.hd x4=AT.hd x4/\AT.df x4=AT.df x4/\AT.sz x4=AT.sz x4/\(AT.f x4).1=(AT.f x4).1/\(AT.f x4).2.1=(AT.f x4).2.1/\(AT.f x4).2.2=(AT.f x4).2.2/\(AT.br x4).1=(AT.br x4).1/\(AT.br x4).2.1=(AT.br x4).2.1/\(AT.br x4).2.2=(AT.br x4).2.2/\x9
 def zjb:=x7.1<=length (GJ.l x3)/\(x0<=x7.2.1/\x7.2.1<=2000)/\length x7.2.2=x7.1
 def z28:=(z7q x1 x3 x4 x5 x10)/\GV.oks x7.2.2 x10
 abbrev zqp:=(↑x7.1:Int)<(↑(GJ.y x3).2.1:Int)
 abbrev j2w:=zia (T.n (T.n (T.n T.e (some (AO.cells 52 (some 0) false [AV.sv (int i64 (GJ.k x3)),AV.sv (int i64 (GJ.n x3)),AV.sv (string (GJ.s x3)),AV.sv (slice (GJ.y x3).1 (GJ.y x3).2.1 (GJ.y x3).2.2),AV.sv (slice (GJ.x x3).1 (GJ.x x3).2.1 (GJ.x x3).2.2)])) T.e) (some (AO.cells (92:TypeId) (some 0) false [AV.sv (slice x1.1 x1.2.1 x1.2.2),AV.sv (int i64 x7.2.1)])) (T.n T.e (some (AO.cells (35:TypeId) (some 0) false [AV.int u64 0,AV.str [],AV.ssl (nat_lit 6) (nat_lit 0) (length x7.2.2) (nat_lit 5) (nat_lit 7),AV.nsl,AV.int i64 0])) T.e)) none (T.n (T.n T.e (some (AO.cells 35 (some 0) false [AV.int u64 0,AV.str (List.map UInt8.toNat (Array.toList (ByteArray.data (mkS [])))),AV.nsl,AV.nsl,AV.int i64 0])) T.e) (some (AO.cells 45 (some 0) false [AV.sv (int i64 (AT.k x4)),AV.sv (string (AT.nm x4)),AV.sv (slice (AT.al x4).1 (AT.al x4).2.1 (AT.al x4).2.2),AV.sv (int i64 (AT.it x4)),AV.sv (slice (AT.sy x4).1 (AT.sy x4).2.1 (AT.sy x4).2.2),AV.sv (bool (AT.hd x4)),AV.sv (string (AT.df x4)),AV.sv (int i64 (AT.sz x4)),AV.sv (slice (AT.f x4).1 (AT.f x4).2.1 (AT.f x4).2.2),AV.sv (slice (AT.br x4).1 (AT.br x4).2.1 (AT.br x4).2.2)])) (T.n T.e (some (AO.row (35:TypeId) (nat_lit 0) (z00 GV.cells x7.2.2))) T.e)))
 def j2v:=(0<=(↑x7.1:Int)/\zqp x3 x7)/\(GJ.y x3).1≠noA/\∃(i0:Int),∃(i1:Int),∃i2,∃i3,∃(i4:Nat),∃(i5:Nat),∃i6,∃(i7:Nat),∃(i8:Nat),(∀i9,z28 x1 x3 x4 x5 x7 i9->q3p i9 (adr (GJ.y x3).1 (toNat (↑x7.1:Int)*5)) [int i64 i0,int i64 i1,string i2,slice i3 i4 i5,slice i6 i7 i8])/\Jb (x0+1)/\∃(i10:VlS),i10.2.2.2.1=AT.it x4/\GJ.k i10.2.2.2.2.1=i0/\GJ.n i10.2.2.2.2.1=i1/\GJ.s i10.2.2.2.2.1=i2/\(GJ.y i10.2.2.2.2.1).1=i3/\(GJ.y i10.2.2.2.2.1).2.1=i4/\(GJ.y i10.2.2.2.2.1).2.2=i5/\(GJ.x i10.2.2.2.2.1).1=i6/\(GJ.x i10.2.2.2.2.1).2.1=i7/\(GJ.x i10.2.2.2.2.1).2.2=i8/\i10.2.2.2.2.2=x0+1/\i10.2.1.1=x1.1/\i10.2.1.2.1=x1.2.1/\i10.2.1.2.2=x1.2.2/\i10.2.2.1=x7.2.1/\(z65 i10<x6/\z0v i10.1/\(0<=i10.2.2.2.1/\i10.2.2.2.1<(↑(length i10.1):Int))/\GJ.wf i10.2.2.2.2.1/\(0<=i10.2.2.1/\i10.2.2.1<=2000)/\1<=i10.2.2.2.2.2/\i10.2.2.2.2.2<=21)/\(∀i11,z28 x1 x3 x4 x5 x7 i11->z0a i10.1 i10.2.1 i11/\GJ.ok i10.2.2.2.2.1 i11)/\∀(i12:VlB),z0l i10.2.2.1 i12->(∃i13,(z28 x1 x3 x4 x5 x7 i13)/\GV.ok i12.2.2 i13)->∃(i14:VlB),x0=x0/\(↑x7.1:Int)=(↑x7.1:Int)/\i14.2.1=i12.2.1/\x1.1=i10.2.1.1/\x1.2.1=i10.2.1.2.1/\x1.2.2=i10.2.1.2.2/\i14.1=i12.1/\j0u x3 (length x7.2.2=length x7.2.2/\j0t x4 (z00 GV.cells x7.2.2=z00 GV.cells x7.2.2/\GV.n i14.2.2=GV.n i12.2.2/\GV.s i14.2.2=GV.s i12.2.2/\(GV.x i14.2.2).1=(GV.x i12.2.2).1/\(GV.x i14.2.2).2.1=(GV.x i12.2.2).2.1/\(GV.x i14.2.2).2.2=(GV.x i12.2.2).2.2/\(GV.y i14.2.2).1=(GV.y i12.2.2).1/\(GV.y i14.2.2).2.1=(GV.y i12.2.2).2.1/\(GV.y i14.2.2).2.2=(GV.y i12.2.2).2.2/\GV.b i14.2.2=GV.b i12.2.2/\(∀i15,(z28 x1 x3 x4 x5 x7 i15)/\GV.ok i12.2.2 i15->z28 x1 x3 x4 x5 x7 i15)/\(∀i16,(z28 x1 x3 x4 x5 x7 i16)/\GV.ok i12.2.2 i16->GV.ok i14.2.2 i16)/\z0l (j2w x1 x3 x4 x7) i14/\True))
 def zqo:=(GV.y x8.2.2).1=noA/\(GV.y x8.2.2).2.1=0/\(GV.y x8.2.2).2.2=0/\GV.b x8.2.2=0/\x9
 def j9i:=length (z00 GV.cells x7.2.2)=length x7.2.2*5/\(length x7.2.2+nat_lit 1)*80<=140737488355328/\Jb ((↑x7.1:Int)+1)/\∃(i0:Nat×Int×List GV),x0=x0/\(↑i0.1:Int)=(↑x7.1:Int)+1/\zf9 x1 (i0.2.1=x8.1/\j0u x3 (length i0.2.2=length x7.2.2+nat_lit 1/\j0t x4 (z00 GV.cells i0.2.2=z00 GV.cells x7.2.2++[int u64 (GV.n x8.2.2),string (GV.s x8.2.2),slice (GV.x x8.2.2).1 (GV.x x8.2.2).2.1 (GV.x x8.2.2).2.2,slice (GV.y x8.2.2).1 (GV.y x8.2.2).2.1 (GV.y x8.2.2).2.2,int i64 (GV.b x8.2.2)]/\(∀i1,(z28 x1 x3 x4 x5 x7 i1)/\GV.ok x8.2.2 i1->z7q x1 x3 x4 x5 i1)/\(∀i2,(z28 x1 x3 x4 x5 x7 i2)/\GV.ok x8.2.2 i2->GV.oks i0.2.2 i2)/\(zjb x2 x3 i0)/\length (GJ.l x3)- i0.1<length (GJ.l x3)- x7.1/\True)))
 def zyi:=(0<=(↑x7.1:Int)/\(↑x7.1:Int)<(↑(GJ.x x3).2.1:Int))/\(GJ.x x3).1≠noA/\∃i0,(∀i1,(z28 x1 x3 x4 x5 x7 i1)/\GV.ok x8.2.2 i1->q3p i1 (adr (GJ.x x3).1 (toNat (↑x7.1:Int)*1)) [string i0])/\∃(i2:GV×ByteArray×GV),GV.n i2.1=0/\GV.s i2.1=mkS []/\False
 def j9h:=Ji (AT.k x4=12) (j9i x0 x1 x2 x3 x4 x5 x7 x8) (zyi x1 x3 x4 x5 x7 x8)
 def j9g:=((!decide (x8.2.1=0))=true->∃(i0:VlB),GV.n i0.2.2=0/\GV.s i0.2.2=mkS []/\(GV.x i0.2.2).1=noA/\(GV.x i0.2.2).2.1=0/\(GV.x i0.2.2).2.2=0/\zqo i0 (i0.2.1=x8.2.1/\zf9 x1 (i0.1=x8.1/\z0l x0 i0/\(∀i1,(z28 x1 x3 x4 x5 x7 i1)/\GV.ok x8.2.2 i1->GV.ok i0.2.2 i1)/\True)))/\((!decide (x8.2.1=0))=false->j9h x2 x1 x0 x3 x4 x5 x7 x8)
 def j9f:=((j2v x0 x1 x3 x4 x5 x6 x7)/\j2v x0 x1 x3 x4 x5 x6 x7)/\∀(i34:VlB),z0l (j2w x1 x3 x4 x7) i34->(∃i35,(z28 x1 x3 x4 x5 x7 i35)/\GV.ok i34.2.2 i35)->j9g x2 x1 x0 x3 x4 x5 x7 i34
 def j9e:=Ji (zqp x3 x7) (j9f x0 x1 x2 x3 x4 x5 x6 x7) (∀(i44 i45 i46:Nat) (i47:Option Addr) (i48 i49:Nat),(∃i50,(z28 x1 x3 x4 x5 x7 i50)/\length x7.2.2<=i49/\qik i50 i47 (take (length x7.2.2*nat_lit 5) (z00 GV.cells x7.2.2)))->∃(i51:VlB),GV.n i51.2.2=0/\GV.s i51.2.2=mkS []/\(GV.x i51.2.2).1=i47/\(GV.x i51.2.2).2.1=length x7.2.2/\(GV.x i51.2.2).2.2=i49/\zqo i51 (i51.2.1=0/\zf9 x1 (i51.1=x7.2.1/\z0l x2 i51/\(∀i52,(z28 x1 x3 x4 x5 x7 i52)/\length x7.2.2<=i49/\qik i52 i47 (take (length x7.2.2*nat_lit 5) (z00 GV.cells x7.2.2))->GV.ok i51.2.2 i52)/\True)))
 def j9d:=(∃(i0:Nat×Int×List GV),x0=x0/\(↑i0.1:Int)=0/\zf9 x1 (i0.2.1=x2/\j0u x3 (length i0.2.2=0/\j0t x4 ((∀i1,z7q x1 x3 x4 x5 i1->z7q x1 x3 x4 x5 i1)/\(∀i2,z7q x1 x3 x4 x5 i2->GV.oks i0.2.2 i2)/\(zjb x2 x3 i0)/\True))))/\∀(i3:Nat×Int×List GV),zjb x2 x3 i3->(∃i4,z28 x1 x3 x4 x5 i3 i4)->j9e x0 x1 x2 x3 x4 x5 x6 i3
end
def zcx(n:Nat) (S:List AT) (x:SV) (all:Int) (a:AT) (g:GJ) (d:Int):qm3 P (qh2 []) (qi5 [(37,cVl.below z65 n),(74,ztx)]) Try.f62 ((cVq zmx).below z8y (n+1)) (wPa) ⟨S,x,all,a,g,d⟩=(z8y (S,x,all,a,g,d)<n+1/\z0v S/\a∈S/\zmx a g/\GJ.wf g/\(0<=all/\all<=2000)/\1<=d/\d<=20->(∃(p:Pub),z7q x g a S p)->j9d d x all g a S n):=by kernel_rfl
def zh8:=λn S x all a g d=>Eq.trans (zcx n S x all a g d) (by delta Ji Jb Jt Jf z7q zf9 j0u j0t zjb z28 zqp j2w j2v zqo j9i zyi j9h j9g j9f j9e j9d;exact rfl)
section
variable (x0:Int) (x1:SV) (x2:Int) (x3:GJ) (x4:AT) (x5:List AT) (x6:Nat) (x7:Nat×Int×GV) (x8:VlB) (x9:GV) (x10:Prop) (x11:Nat->Option Obj)
 abbrev z7r:=True/\z0a x5 x1 x11/\AT.ok x4 x11/\GJ.ok x3 x11
 def zfa:=x1.1=x1.1/\x1.2.1=x1.2.1/\x1.2.2=x1.2.2/\x10
 def zjc:=GJ.k x3=GJ.k x3/\GJ.n x3=GJ.n x3/\GJ.s x3=GJ.s x3/\(GJ.y x3).1=(GJ.y x3).1/\(GJ.y x3).2.1=(GJ.y x3).2.1/\(GJ.y x3).2.2=(GJ.y x3).2.2/\(GJ.x x3).1=(GJ.x x3).1/\(GJ.x x3).2.1=(GJ.x x3).2.1/\(GJ.x x3).2.2=(GJ.x x3).2.2/\x10
 def j0v:=AT.k x4=AT.k x4/\AT.nm x4=AT.nm x4/\(AT.al x4).1=(AT.al x4).1/\(AT.al x4).2.1=(AT.al x4).2.1/\(AT.al x4).2.2=(AT.al x4).2.2/\AT.it x4=AT.it x4/\(AT.sy x4).1=(AT.sy x4).1/\(AT.sy x4).2.1=(AT.sy x4).2.1/\(AT.sy x4).2.2=(AT.sy x4).2.2/\AT.hd x4=AT.hd x4/\AT.df x4=AT.df x4/\AT.sz x4=AT.sz x4/\(AT.f x4).1=(AT.f x4).1/\(AT.f x4).2.1=(AT.f x4).2.1/\(AT.f x4).2.2=(AT.f x4).2.2/\(AT.br x4).1=(AT.br x4).1/\(AT.br x4).2.1=(AT.br x4).2.1/\(AT.br x4).2.2=(AT.br x4).2.2/\x10
 def zjd:=x7.1<=length (GJ.l x3)/\(x0<=x7.2.1/\x7.2.1<=2000)/\length (GV.ks x7.2.2)=length (GV.l x7.2.2)/\length (GV.l x7.2.2)<=x7.1
 def z23:=(z7r x1 x3 x4 x5 x11)/\GV.ok x7.2.2 x11
 abbrev zqq:=(↑x7.1:Int)<(↑(GJ.y x3).2.1:Int)
 abbrev j2y:=zia (T.n (T.n (T.n T.e (some (AO.cells 52 (some 0) false [AV.sv (int i64 (GJ.k x3)),AV.sv (int i64 (GJ.n x3)),AV.sv (string (GJ.s x3)),AV.sv (slice (GJ.y x3).1 (GJ.y x3).2.1 (GJ.y x3).2.2),AV.sv (slice (GJ.x x3).1 (GJ.x x3).2.1 (GJ.x x3).2.2)])) T.e) (some (AO.cells (92:TypeId) (some 0) false [AV.sv (slice x1.1 x1.2.1 x1.2.2),AV.sv (int i64 x7.2.1)])) (T.n T.e (some (AO.cells (35:TypeId) (some 0) false [AV.sv (int u64 (GV.n x7.2.2)),AV.sv (string (GV.s x7.2.2)),AV.sv (slice (GV.x x7.2.2).1 (GV.x x7.2.2).2.1 (GV.x x7.2.2).2.2),AV.sv (slice (GV.y x7.2.2).1 (GV.y x7.2.2).2.1 (GV.y x7.2.2).2.2),AV.sv (int i64 (GV.b x7.2.2))])) T.e)) none (T.n (T.n T.e (some (AO.cells 35 (some 0) false [AV.int u64 0,AV.str (List.map UInt8.toNat (Array.toList (ByteArray.data (mkS [])))),AV.nsl,AV.nsl,AV.int i64 0])) T.e) (some (AO.cells 45 (some 0) false [AV.sv (int i64 (AT.k x4)),AV.sv (string (AT.nm x4)),AV.sv (slice (AT.al x4).1 (AT.al x4).2.1 (AT.al x4).2.2),AV.sv (int i64 (AT.it x4)),AV.sv (slice (AT.sy x4).1 (AT.sy x4).2.1 (AT.sy x4).2.2),AV.sv (bool (AT.hd x4)),AV.sv (string (AT.df x4)),AV.sv (int i64 (AT.sz x4)),AV.sv (slice (AT.f x4).1 (AT.f x4).2.1 (AT.f x4).2.2),AV.sv (slice (AT.br x4).1 (AT.br x4).2.1 (AT.br x4).2.2)])) T.e))
 def j2x:=(0<=(↑x7.1:Int)/\zqq x3 x7)/\(GJ.y x3).1≠noA/\∃(i0:Int),∃(i1:Int),∃i2,∃i3,∃(i4:Nat),∃(i5:Nat),∃i6,∃(i7:Nat),∃(i8:Nat),(∀i9,z23 x1 x3 x4 x5 x7 i9->q3p i9 (adr (GJ.y x3).1 (toNat (↑x7.1:Int)*5)) [int i64 i0,int i64 i1,string i2,slice i3 i4 i5,slice i6 i7 i8])/\Jb (x0+1)/\∃(i10:VlS),i10.2.2.2.1=AT.it x4/\GJ.k i10.2.2.2.2.1=i0/\GJ.n i10.2.2.2.2.1=i1/\GJ.s i10.2.2.2.2.1=i2/\(GJ.y i10.2.2.2.2.1).1=i3/\(GJ.y i10.2.2.2.2.1).2.1=i4/\(GJ.y i10.2.2.2.2.1).2.2=i5/\(GJ.x i10.2.2.2.2.1).1=i6/\(GJ.x i10.2.2.2.2.1).2.1=i7/\(GJ.x i10.2.2.2.2.1).2.2=i8/\i10.2.2.2.2.2=x0+1/\i10.2.1.1=x1.1/\i10.2.1.2.1=x1.2.1/\i10.2.1.2.2=x1.2.2/\i10.2.2.1=x7.2.1/\(z65 i10<x6/\z0v i10.1/\(0<=i10.2.2.2.1/\i10.2.2.2.1<(↑(length i10.1):Int))/\GJ.wf i10.2.2.2.2.1/\(0<=i10.2.2.1/\i10.2.2.1<=2000)/\1<=i10.2.2.2.2.2/\i10.2.2.2.2.2<=21)/\(∀i11,z23 x1 x3 x4 x5 x7 i11->z0a i10.1 i10.2.1 i11/\GJ.ok i10.2.2.2.2.1 i11)/\∀(i12:VlB),z0l i10.2.2.1 i12->(∃i13,(z23 x1 x3 x4 x5 x7 i13)/\GV.ok i12.2.2 i13)->∃(i14:VlB),x0=x0/\(↑x7.1:Int)=(↑x7.1:Int)/\i14.2.1=i12.2.1/\x1.1=i10.2.1.1/\x1.2.1=i10.2.1.2.1/\x1.2.2=i10.2.1.2.2/\i14.1=i12.1/\zjc x3 (GV.n x7.2.2=GV.n x7.2.2/\GV.s x7.2.2=GV.s x7.2.2/\(GV.x x7.2.2).1=(GV.x x7.2.2).1/\(GV.x x7.2.2).2.1=(GV.x x7.2.2).2.1/\(GV.x x7.2.2).2.2=(GV.x x7.2.2).2.2/\(GV.y x7.2.2).1=(GV.y x7.2.2).1/\(GV.y x7.2.2).2.1=(GV.y x7.2.2).2.1/\(GV.y x7.2.2).2.2=(GV.y x7.2.2).2.2/\GV.b x7.2.2=GV.b x7.2.2/\j0v x4 (GV.n i14.2.2=GV.n i12.2.2/\GV.s i14.2.2=GV.s i12.2.2/\(GV.x i14.2.2).1=(GV.x i12.2.2).1/\(GV.x i14.2.2).2.1=(GV.x i12.2.2).2.1/\(GV.x i14.2.2).2.2=(GV.x i12.2.2).2.2/\(GV.y i14.2.2).1=(GV.y i12.2.2).1/\(GV.y i14.2.2).2.1=(GV.y i12.2.2).2.1/\(GV.y i14.2.2).2.2=(GV.y i12.2.2).2.2/\GV.b i14.2.2=GV.b i12.2.2/\(∀i15,(z23 x1 x3 x4 x5 x7 i15)/\GV.ok i12.2.2 i15->z23 x1 x3 x4 x5 x7 i15)/\(∀i16,(z23 x1 x3 x4 x5 x7 i16)/\GV.ok i12.2.2 i16->GV.ok i14.2.2 i16)/\z0l (j2y x1 x3 x4 x7) i14/\True))
 def j9p:=Jb ((↑x7.1:Int)+1)/\∃(i0:Nat×Int×GV),x0=x0/\(↑i0.1:Int)=(↑x7.1:Int)+1/\zfa x1 (i0.2.1=x8.1/\zjc x3 (GV.n i0.2.2=GV.n x9/\GV.s i0.2.2=GV.s x9/\(GV.x i0.2.2).1=(GV.x x9).1/\(GV.x i0.2.2).2.1=(GV.x x9).2.1/\(GV.x i0.2.2).2.2=(GV.x x9).2.2/\(GV.y i0.2.2).1=(GV.y x9).1/\(GV.y i0.2.2).2.1=(GV.y x9).2.1/\(GV.y i0.2.2).2.2=(GV.y x9).2.2/\GV.b i0.2.2=GV.b x9/\j0v x4 ((∀i1,((z23 x1 x3 x4 x5 x7 i1)/\GV.ok x8.2.2 i1)/\GV.ok x9 i1->z7r x1 x3 x4 x5 i1)/\(∀i2,((z23 x1 x3 x4 x5 x7 i2)/\GV.ok x8.2.2 i2)/\GV.ok x9 i2->GV.ok i0.2.2 i2)/\(zjd x2 x3 i0)/\length (GJ.l x3)- i0.1<length (GJ.l x3)- x7.1/\True)))
 def j9o:=(0<=(↑x7.1:Int)/\(↑x7.1:Int)<(↑(GJ.x x3).2.1:Int))/\(GJ.x x3).1≠noA/\∃i0,(∀i1,(z23 x1 x3 x4 x5 x7 i1)/\GV.ok x8.2.2 i1->q3p i1 (adr (GJ.x x3).1 (toNat (↑x7.1:Int)*1)) [string i0])/\∃(i2:GV×ByteArray×GV),GV.n i2.1=GV.n x7.2.2/\GV.s i2.1=GV.s x7.2.2/\(GV.x i2.1).1=(GV.x x7.2.2).1/\(GV.x i2.1).2.1=(GV.x x7.2.2).2.1/\(GV.x i2.1).2.2=(GV.x x7.2.2).2.2/\(GV.y i2.1).1=(GV.y x7.2.2).1/\(GV.y i2.1).2.1=(GV.y x7.2.2).2.1/\(GV.y i2.1).2.2=(GV.y x7.2.2).2.2/\GV.b i2.1=GV.b x7.2.2/\i2.2.1=i0/\GV.n i2.2.2=GV.n x8.2.2/\GV.s i2.2.2=GV.s x8.2.2/\(GV.x i2.2.2).1=(GV.x x8.2.2).1/\(GV.x i2.2.2).2.1=(GV.x x8.2.2).2.1/\(GV.x i2.2.2).2.2=(GV.x x8.2.2).2.2/\(GV.y i2.2.2).1=(GV.y x8.2.2).1/\(GV.y i2.2.2).2.1=(GV.y x8.2.2).2.1/\(GV.y i2.2.2).2.2=(GV.y x8.2.2).2.2/\GV.b i2.2.2=GV.b x8.2.2/\(length (GV.ks i2.1)=length (GV.l i2.1)/\length (GV.l i2.1)<1000000)/\(∀i3,(z23 x1 x3 x4 x5 x7 i3)/\GV.ok x8.2.2 i3->GV.ok i2.1 i3/\GV.ok i2.2.2 i3)/\∀(i4:GV),GV.pv i4=PV.mk (GV.n i2.1) (GV.s i2.1) (z2f i2.2.1 (GV.ks i2.1) (GV.pvs (GV.l i2.1)) (GV.pv i2.2.2)) (qb3 i2.2.1 (GV.ks i2.1)) (GV.b i2.1)->(∃i5,((z23 x1 x3 x4 x5 x7 i5)/\GV.ok x8.2.2 i5)/\GV.ok i4 i5)->j9p x0 x1 x2 x3 x4 x5 x7 x8 i4
 def j9n:=Ji (AT.k x4=12) (False) (j9o x0 x1 x2 x3 x4 x5 x7 x8)
 def j9m:=((!decide (x8.2.1=0))=true->∃(i0:VlB),GV.n i0.2.2=0/\GV.s i0.2.2=mkS []/\(GV.x i0.2.2).1=noA/\(GV.x i0.2.2).2.1=0/\(GV.x i0.2.2).2.2=0/\(GV.y i0.2.2).1=noA/\(GV.y i0.2.2).2.1=0/\(GV.y i0.2.2).2.2=0/\GV.b i0.2.2=0/\i0.2.1=x8.2.1/\zfa x1 (i0.1=x8.1/\z0l x0 i0/\(∀i1,(z23 x1 x3 x4 x5 x7 i1)/\GV.ok x8.2.2 i1->GV.ok i0.2.2 i1)/\True))/\((!decide (x8.2.1=0))=false->j9n x2 x1 x0 x3 x4 x5 x7 x8)
 def j9l:=((j2x x0 x1 x3 x4 x5 x6 x7)/\j2x x0 x1 x3 x4 x5 x6 x7)/\∀(i34:VlB),z0l (j2y x1 x3 x4 x7) i34->(∃i35,(z23 x1 x3 x4 x5 x7 i35)/\GV.ok i34.2.2 i35)->j9m x2 x1 x0 x3 x4 x5 x7 i34
 def j9k:=Ji (zqq x3 x7) (j9l x0 x1 x2 x3 x4 x5 x6 x7) (∃(i47:VlB),GV.n i47.2.2=GV.n x7.2.2/\GV.s i47.2.2=GV.s x7.2.2/\(GV.x i47.2.2).1=(GV.x x7.2.2).1/\(GV.x i47.2.2).2.1=(GV.x x7.2.2).2.1/\(GV.x i47.2.2).2.2=(GV.x x7.2.2).2.2/\(GV.y i47.2.2).1=(GV.y x7.2.2).1/\(GV.y i47.2.2).2.1=(GV.y x7.2.2).2.1/\(GV.y i47.2.2).2.2=(GV.y x7.2.2).2.2/\GV.b i47.2.2=GV.b x7.2.2/\i47.2.1=0/\zfa x1 (i47.1=x7.2.1/\z0l x2 i47/\(∀i48,z23 x1 x3 x4 x5 x7 i48->GV.ok i47.2.2 i48)/\True))
 def j9j:=(∃(i0:Nat×Int×GV),x0=x0/\(↑i0.1:Int)=0/\zfa x1 (i0.2.1=x2/\zjc x3 (GV.n i0.2.2=0/\GV.s i0.2.2=mkS []/\(GV.x i0.2.2).1=noA/\(GV.x i0.2.2).2.1=0/\(GV.x i0.2.2).2.2=0/\(GV.y i0.2.2).1=noA/\(GV.y i0.2.2).2.1=0/\(GV.y i0.2.2).2.2=0/\GV.b i0.2.2=0/\j0v x4 ((∀i1,z7r x1 x3 x4 x5 i1->z7r x1 x3 x4 x5 i1)/\(∀i2,z7r x1 x3 x4 x5 i2->GV.ok i0.2.2 i2)/\(zjd x2 x3 i0)/\True))))/\∀(i3:Nat×Int×GV),zjd x2 x3 i3->(∃i4,z23 x1 x3 x4 x5 i3 i4)->j9k x0 x1 x2 x3 x4 x5 x6 i3
end
def zcy(n:Nat) (S:List AT) (x:SV) (all:Int) (a:AT) (g:GJ) (d:Int):qm3 P (qh2 []) (qi5 [(37,cVl.below z65 n),(74,ztx)]) Try.f62 ((cVq isMap).below z8y (n+1)) (wPm) ⟨S,x,all,a,g,d⟩=(z8y (S,x,all,a,g,d)<n+1/\z0v S/\a∈S/\isMap a g/\GJ.wf g/\(0<=all/\all<=2000)/\1<=d/\d<=20->(∃(p:Pub),z7r x g a S p)->j9j d x all g a S n):=by kernel_rfl
def zha:=λn S x all a g d=>Eq.trans (zcy n S x all a g d) (by delta Ji Jb Jt Jf z7r zfa zjc j0v zjd z23 zqq j2y j2x j9p j9o j9n j9m j9l j9k j9j;exact rfl)
section
variable (x0:Int) (x1:SV) (x2:Int) (x3:GJ) (x4:AT) (x5:List AT) (x6:Nat) (x7:Nat×Int×List GV) (x8:GJ) (x9:Int) (x10:VlB) (x11:VlS) (x12:Bool) (x13:ByteArray) (x14:Option Addr) (x15:Nat) (x16 x17:Int) (x18:ByteArray) (x19:Option Addr) (x20 x21:Nat) (x22:Option Addr) (x23 x24:Nat) (x25:Prop) (x26:Nat->Option Obj) (x27:GJ×ByteArray)
 abbrev z7s:=True/\z0a x5 x1 x26/\AT.ok x4 x26/\GJ.ok x3 x26
 def zay:=x1.1=x1.1/\x1.2.1=x1.2.1/\x1.2.2=x1.2.2/\x25
 def zyk:=GJ.k x3=GJ.k x3/\GJ.n x3=GJ.n x3/\GJ.s x3=GJ.s x3/\(GJ.y x3).1=(GJ.y x3).1/\(GJ.y x3).2.1=(GJ.y x3).2.1/\(GJ.y x3).2.2=(GJ.y x3).2.2/\(GJ.x x3).1=(GJ.x x3).1/\(GJ.x x3).2.1=(GJ.x x3).2.1/\(GJ.x x3).2.2=(GJ.x x3).2.2/\x25
 def zyj:=AT.k x4=AT.k x4/\AT.nm x4=AT.nm x4/\(AT.al x4).1=(AT.al x4).1/\(AT.al x4).2.1=(AT.al x4).2.1/\(AT.al x4).2.2=(AT.al x4).2.2/\AT.it x4=AT.it x4/\(AT.sy x4).1=(AT.sy x4).1/\(AT.sy x4).2.1=(AT.sy x4).2.1/\(AT.sy x4).2.2=(AT.sy x4).2.2/\AT.hd x4=AT.hd x4/\AT.df x4=AT.df x4/\AT.sz x4=AT.sz x4/\(AT.f x4).1=(AT.f x4).1/\(AT.f x4).2.1=(AT.f x4).2.1/\(AT.f x4).2.2=(AT.f x4).2.2/\(AT.br x4).1=(AT.br x4).1/\(AT.br x4).2.1=(AT.br x4).2.1/\(AT.br x4).2.2=(AT.br x4).2.2/\x25
 def zje:=x7.1<=length (AT.fs x4)/\(x0<=x7.2.1/\x7.2.1<=2000)/\length x7.2.2=x7.1
 def z6v:=(z7s x1 x3 x4 x5 x26)/\GV.oks x7.2.2 x26
 abbrev zqv:=(↑x7.1:Int)<(↑(AT.f x4).2.1:Int)
 def zqs:=(GV.y x10.2.2).1=noA/\(GV.y x10.2.2).2.1=0/\(GV.y x10.2.2).2.2=0/\GV.b x10.2.2=0/\x25
 def zqr:=GV.n x10.2.2=0/\GV.s x10.2.2=mkS []/\(GV.x x10.2.2).1=noA/\(GV.x x10.2.2).2.1=0/\(GV.x x10.2.2).2.2=0/\zqs x10 x25
 def zqu:=(∀i0,z6v x1 x3 x4 x5 x7 i0->z6v x1 x3 x4 x5 x7 i0)/\(∀i1,z6v x1 x3 x4 x5 x7 i1->GJ.ok x8 i1)/\GJ.wf x8/\True
 def j9v:=((!x12)=true->∃(i0:VlB),zqr i0 (i0.2.1=7/\zay x1 (i0.1=x7.2.1/\z0l x0 i0/\(∀i1,z6v x1 x3 x4 x5 x7 i1->GV.ok i0.2.2 i1)/\True)))/\((!x12)=false->∃(i2:GJ),x2=x2/\(↑x7.1:Int)=(↑x7.1:Int)/\zay x1 (x7.2.1=x7.2.1/\zyk x3 (length x7.2.2=length x7.2.2/\zyj x4 (x13=x13/\x14=x14/\x6=x6/\x15=x15/\x9=x9/\x12=x12/\x16=x16/\x17=x17/\x18=x18/\x19=x19/\x20=x20/\x21=x21/\x22=x22/\x23=x23/\x24=x24/\z00 GV.cells x7.2.2=z00 GV.cells x7.2.2/\GJ.k i2=x16/\GJ.n i2=x17/\GJ.s i2=x18/\(GJ.y i2).1=x19/\(GJ.y i2).2.1=x20/\(GJ.y i2).2.2=x21/\(GJ.x i2).1=x22/\(GJ.x i2).2.1=x23/\(GJ.x i2).2.2=x24/\zqu x1 x3 x4 x5 x7 i2))))
 abbrev z4d:=Option.getD (z0c x27.2 x27.1) zJ
 def zqt:=x1.1=x11.2.1.1/\x1.2.1=x11.2.1.2.1/\x1.2.2=x11.2.1.2.2/\x25
 def j9w:=length (z00 GV.cells x7.2.2)=length x7.2.2*5/\(length x7.2.2+nat_lit 1)*80<=140737488355328/\Jb ((↑x7.1:Int)+1)/\∃(i0:Nat×Int×List GV),x0=x0/\(↑i0.1:Int)=(↑x7.1:Int)+1/\zqt x1 x11 (i0.2.1=x10.1/\zyk x3 (length i0.2.2=length x7.2.2+nat_lit 1/\zyj x4 (z00 GV.cells i0.2.2=z00 GV.cells x7.2.2++[int u64 (GV.n x10.2.2),string (GV.s x10.2.2),slice (GV.x x10.2.2).1 (GV.x x10.2.2).2.1 (GV.x x10.2.2).2.2,slice (GV.y x10.2.2).1 (GV.y x10.2.2).2.1 (GV.y x10.2.2).2.2,int i64 (GV.b x10.2.2)]/\(∀i1,((z6v x1 x3 x4 x5 x7 i1)/\GJ.ok x8 i1)/\GV.ok x10.2.2 i1->z7s x1 x3 x4 x5 i1)/\(∀i2,((z6v x1 x3 x4 x5 x7 i2)/\GJ.ok x8 i2)/\GV.ok x10.2.2 i2->GV.oks i0.2.2 i2)/\(zje x2 x4 i0)/\length (AT.fs x4)- i0.1<length (AT.fs x4)- x7.1/\True)))
 def j9u:=((!decide (x10.2.1=0))=true->∃(i0:VlB),zqr i0 (i0.2.1=x10.2.1/\zqt x1 x11 (i0.1=x10.1/\z0l x0 i0/\(∀i1,((z6v x1 x3 x4 x5 x7 i1)/\GJ.ok x8 i1)/\GV.ok x10.2.2 i1->GV.ok i0.2.2 i1)/\True)))/\((!decide (x10.2.1=0))=false->j9w x2 x1 x0 x3 x4 x5 x7 x8 x10 x11)
 def j9t:=Jb (x0+1)/\∃(i0:VlS),i0.2.2.2.1=x2/\GJ.k i0.2.2.2.2.1=GJ.k x3/\GJ.n i0.2.2.2.2.1=GJ.n x3/\GJ.s i0.2.2.2.2.1=GJ.s x3/\(GJ.y i0.2.2.2.2.1).1=(GJ.y x3).1/\(GJ.y i0.2.2.2.2.1).2.1=(GJ.y x3).2.1/\(GJ.y i0.2.2.2.2.1).2.2=(GJ.y x3).2.2/\(GJ.x i0.2.2.2.2.1).1=(GJ.x x3).1/\(GJ.x i0.2.2.2.2.1).2.1=(GJ.x x3).2.1/\(GJ.x i0.2.2.2.2.1).2.2=(GJ.x x3).2.2/\i0.2.2.2.2.2=x0+1/\i0.2.1.1=x1.1/\i0.2.1.2.1=x1.2.1/\i0.2.1.2.2=x1.2.2/\i0.2.2.1=x7.2.1/\(z65 i0<x6/\z0v i0.1/\(0<=i0.2.2.2.1/\i0.2.2.2.1<(↑(length i0.1):Int))/\GJ.wf i0.2.2.2.2.1/\(0<=i0.2.2.1/\i0.2.2.1<=2000)/\1<=i0.2.2.2.2.2/\i0.2.2.2.2.2<=21)/\(∀i1,(z6v x1 x8 x4 x5 x7 i1)/\GJ.ok x3 i1->z0a i0.1 i0.2.1 i1/\GJ.ok i0.2.2.2.2.1 i1)/\∀(i2:VlB),z0l i0.2.2.1 i2->(∃i3,((z6v x1 x8 x4 x5 x7 i3)/\GJ.ok x3 i3)/\GV.ok i2.2.2 i3)->j9u x9 x1 x0 x8 x4 x5 x7 x3 i2 i0
 def j9s:=(0<=(↑x7.1:Int)/\zqv x4 x7)/\(AT.f x4).1≠noA/\∃i0,∃i1,∃(i2:Nat),∃(i3:Nat),∃(i4:Int),∃(i5:Bool),∃(i6:Int),∃(i7:Int),∃i8,∃i9,∃(i10:Nat),∃(i11:Nat),∃i12,∃(i13:Nat),∃(i14:Nat),(∀i15,z6v x1 x3 x4 x5 x7 i15->q3p i15 (adr (AT.f x4).1 (toNat (↑x7.1:Int)*9)) [string i0,slice i1 i2 i3,int i64 i4,bool i5,int i64 i6,int i64 i7,string i8,slice i9 i10 i11,slice i12 i13 i14])/\∃(i16:GJ×ByteArray),GJ.k i16.1=GJ.k x3/\GJ.n i16.1=GJ.n x3/\GJ.s i16.1=GJ.s x3/\(GJ.y i16.1).1=(GJ.y x3).1/\(GJ.y i16.1).2.1=(GJ.y x3).2.1/\(GJ.y i16.1).2.2=(GJ.y x3).2.2/\(GJ.x i16.1).1=(GJ.x x3).1/\(GJ.x i16.1).2.1=(GJ.x x3).2.1/\(GJ.x i16.1).2.2=(GJ.x x3).2.2/\i16.2=i0/\GJ.wf i16.1/\(∀i17,z6v x1 x3 x4 x5 x7 i17->GJ.ok i16.1 i17)/\(((!Option.isSome (z0c i16.2 i16.1))=true->j9v x0 x1 x2 x3 x4 x5 i2 x7 i4 i5 i0 i1 i3 i6 i7 i8 i9 i10 i11 i12 i13 i14)/\((!Option.isSome (z0c i16.2 i16.1))=false->∃(i23:GJ),x2=x2/\(↑x7.1:Int)=(↑x7.1:Int)/\zay x1 (x7.2.1=x7.2.1/\zyk x3 (length x7.2.2=length x7.2.2/\zyj x4 (i0=i0/\i1=i1/\i2=i2/\i3=i3/\i4=i4/\i5=i5/\i6=i6/\i7=i7/\i8=i8/\i9=i9/\i10=i10/\i11=i11/\i12=i12/\i13=i13/\i14=i14/\z00 GV.cells x7.2.2=z00 GV.cells x7.2.2/\GJ.k i23=GJ.k (z4d i16)/\GJ.n i23=GJ.n (z4d i16)/\GJ.s i23=GJ.s (z4d i16)/\(GJ.y i23).1=(GJ.y (z4d i16)).1/\(GJ.y i23).2.1=(GJ.y (z4d i16)).2.1/\(GJ.y i23).2.2=(GJ.y (z4d i16)).2.2/\(GJ.x i23).1=(GJ.x (z4d i16)).1/\(GJ.x i23).2.1=(GJ.x (z4d i16)).2.1/\(GJ.x i23).2.2=(GJ.x (z4d i16)).2.2/\zqu x1 x3 x4 x5 x7 i23)))))/\∀(i26:GJ),GJ.wf i26->(∃i27,(z6v x1 x3 x4 x5 x7 i27)/\GJ.ok i26 i27)->j9t x2 x1 i4 i26 x4 x5 x6 x7 x3 x0
 def j9r:=Ji (zqv x4 x7) (j9s x0 x1 x2 x3 x4 x5 x6 x7) (∀(i37 i38 i39:Nat) (i40:Option Addr) (i41 i42:Nat),(∃i43,(z6v x1 x3 x4 x5 x7 i43)/\length x7.2.2<=i42/\qik i43 i40 (take (length x7.2.2*nat_lit 5) (z00 GV.cells x7.2.2)))->∃(i44:VlB),GV.n i44.2.2=0/\GV.s i44.2.2=mkS []/\(GV.x i44.2.2).1=i40/\(GV.x i44.2.2).2.1=length x7.2.2/\(GV.x i44.2.2).2.2=i42/\zqs i44 (i44.2.1=0/\zay x1 (i44.1=x7.2.1/\z0l x0 i44/\(∀i45,(z6v x1 x3 x4 x5 x7 i45)/\length x7.2.2<=i42/\qik i45 i40 (take (length x7.2.2*nat_lit 5) (z00 GV.cells x7.2.2))->GV.ok i44.2.2 i45)/\True)))
 def j9q:=(∃(i0:Nat×Int×List GV),x0=x0/\(↑i0.1:Int)=0/\zay x1 (i0.2.1=x2/\zyk x3 (length i0.2.2=0/\zyj x4 ((∀i1,z7s x1 x3 x4 x5 i1->z7s x1 x3 x4 x5 i1)/\(∀i2,z7s x1 x3 x4 x5 i2->GV.oks i0.2.2 i2)/\(zje x2 x4 i0)/\True))))/\∀(i3:Nat×Int×List GV),zje x2 x4 i3->(∃i4,z6v x1 x3 x4 x5 i3 i4)->j9r x2 x1 x0 x3 x4 x5 x6 i3
end
def zhn(n:Nat) (S:List AT) (x:SV) (all:Int) (a:AT) (g:GJ) (d:Int):qm3 P (qh2 [(28,z45)]) (qi5 [(37,cVl.below z65 n)]) Try.f63 ((cVq isRec).below z8y (n+1)) (wRe) ⟨S,x,all,a,g,d⟩=(z8y (S,x,all,a,g,d)<n+1/\z0v S/\a∈S/\isRec a g/\GJ.wf g/\(0<=all/\all<=2000)/\1<=d/\d<=20->(∃(p:Pub),z7s x g a S p)->j9q d x all g a S n):=by kernel_rfl
def znt:=λn S x all a g d=>Eq.trans (zhn n S x all a g d) (by delta Ji Jb Jt Jf z7s zay zyk zyj zje z6v zqv zqs zqr zqu j9v z4d zqt j9w j9u j9t j9s j9r j9q;exact rfl)
section
variable {p:Pub}
def z1w{a:AT} (h:a.ok p):a.al.2.1=a.als.length/\a.sy.2.1=a.sys.length/\a.f.2.1=a.fs.length/\a.br.2.1=a.brs.length:=⟨h.1.1,h.2.1.1,h.2.2.1.1,h.2.2.2.1.1⟩
variable {g:GJ}
def z3g(h:g.ok p):g.y.2.1=g.l.length/\g.x.2.1=g.nm.length:=by rw[GJ.ok_eq]at h;exact⟨h.1.1,h.2.1.1⟩
def z4k(h:g.ok p) {j:Nat} (hj:j<g.l.length):(g.y.1≠noA/\q3p p (adr g.y.1 (j*5)) g.l[j].cells)/\g.l[j].ok p:=by
 rw[GJ.ok_eq]at h;exact⟨z0w z2y (by decide) h.1 hj,GJ.oks_at h.2.2 hj⟩
def zkv(h:g.ok p) {j:Nat} (hj:j<g.nm.length):g.x.1≠noA/\q3p p (adr g.x.1 (j*1)) [.string g.nm[j]]:=by
 rw[GJ.ok_eq]at h;exact z0w z0t (by decide) h.2.1 hj
def z2n:∀{l m:List GV} {p:Pub},GV.oks l p->GV.oks m p->GV.oks (l++m) p:=λh1 h2=>GV.oks_iff.2 λv hv=>(List.mem_append.1 hv).elim (GV.oks_iff.1 h1 v) (GV.oks_iff.1 h2 v)
def z1q{v:GV} (h:v.ok p):GV.oks [v] p:=GV.oks_iff.2 λw hw=>by simp at hw;subst hw;exact h
def zV:GV:= .mk 0 (mkS []) (none,0,0) [] (none,0,0) [] 0
def z1d(p:Pub):zV.ok p:=by unfold zV GV.ok;exact⟨z06,z06,by unfold GV.oks;trivial⟩
def znp(k:ByteArray) (ks:List ByteArray) (l:List PV) (w:PV) (h:ks.length=l.length):(qb3 k ks).length=(z2f k ks l w).length/\(z2f k ks l w).length<=l.length+1:=by
 have hi:=zl1 k ks
 unfold qb3 z2f
 split
 ·rw[List.length_set];omega
 ·simp only[List.length_append,List.length_take,List.length_cons,List.length_drop];omega
def zh9(n:Nat) (hv:q22 P 37 (cVl.below z65 n)):q22 P 62 ((cVq zmx).below z8y (n+1)):=by
 refine qlb mixed (qee qlq) (qf7 (qig hv (qig zl6 qlp))) (W:=wPa) Try.func62 (by kernel_rfl) (show 1<=2 by decide) (show 2<=2 by decide) (λs=>by kernel_rfl) λ⟨S,(x:SV),(all:Int),a,g,(d:Int)⟩=>(zh8 n S x all a g d).mpr ?_
 rintro⟨hmu,hS,haS,hk,hg,⟨hal0,hal1⟩,hd1,hd2⟩ ⟨p,_,hx,ha,hgo⟩
 have hmu:2*(25- d).toNat<n+1:=hmu
 have hk:a.k=12:=hk
 obtain⟨gl,gnl⟩:=z3g hgo
 have hgw:=hg
 rw[GJ.wf_eq]at hgw
 obtain⟨_,hgl,_,_,_,_,hgs⟩:=hgw
 have hat:=(hS.2 a haS).2.1 (.inl hk)
 simp only[sbS,exists_const,forall_const,Int.toNat_natCast,gl,gnl]
 refine⟨⟨⟨0,all,[]⟩,rfl,rfl,rfl,λq hq=>GV.oks_iff.2 λv h=>(by cases h),Nat.zero_le _,⟨by show all<=all;omega,hal1⟩,rfl⟩,?_⟩
 rintro⟨j,al,fs⟩ ⟨hj,⟨hl0,hl1⟩,hfl⟩ ⟨p1,hp1,hfs1⟩
 simp only at hj hl0 hl1 hfl hfs1⊢
 refine⟨λhlt=>⟨⟨?xa,?xb⟩,?_⟩,λhge=> ?_⟩
 case xa|xb=>
  have hjl:j<g.l.length:=by omega
  have hw:g.l[j].wf:=GJ.wfs_at hgs hjl
  refine⟨⟨by omega,by omega⟩,(z4k hgo hjl).1.1,g.l[j].k,g.l[j].n,g.l[j].s,g.l[j].y.1,g.l[j].y.2.1,g.l[j].y.2.2,g.l[j].x.1,g.l[j].x.2.1,g.l[j].x.2.2,λq hq=>(z4k hq.1.2.2 hjl).1.2,⟨by omega,by omega⟩,⟨S,x,al,a.it,g.l[j],d+1⟩,rfl,rfl,rfl,rfl,rfl,rfl,rfl,rfl,rfl,rfl,rfl,rfl,rfl,rfl,rfl,⟨by show 2*(25- (d+1)).toNat<n;omega,hS,hat,hw,⟨by show 0<=al;omega,hl1⟩,by show 1<=d+1;omega,by show d+1<=21;omega⟩,λq hq=>⟨hq.1.1,(z4k hq.1.2.2 hjl).2⟩,?_⟩
  rintro⟨a2,e,w⟩ hb _
  exact⟨⟨a2,e,w⟩,rfl,rfl,rfl,rfl,rfl,rfl,rfl,rfl,rfl,rfl,rfl,rfl,rfl,rfl,λq hq=>hq.1,λq hq=>hq.2,hb⟩
 ·rintro⟨a2,e,w⟩ hb _
  have hb:al<=a2/\a2<=2001/\(e=0->a2<=2000):=hb
  simp only
  refine⟨λhe=>⟨⟨a2,e,zV⟩,rfl,rfl,rfl,rfl,rfl,rfl,rfl,rfl,rfl,rfl,rfl,⟨by show all<=a2;omega,hb.2⟩,λq hq=>z1d q⟩,λhe=>⟨λ_=>⟨z01 z0f fs,by omega,⟨by omega,by omega⟩,⟨j+1,a2,fs++[w]⟩,by show((j+1:Nat):Int)=_;omega,rfl,by simp,by rw[z05];rfl,λq hq=>hq.1.1,λq hq=>z2n hq.1.2 (z1q hq.2),⟨by show j+1<=_;omega,⟨by show all<=a2;omega,hb.2.2 he⟩,by show(fs++[w]).length=j+1;simp[hfl]⟩,by show _- (j+1)<_;omega⟩,λh=>absurd hk h⟩⟩
 ·intro a6 c _
  refine⟨⟨al,0, .mk 0 (mkS []) (a6,fs.length,c) fs (none,0,0) [] 0⟩,rfl,rfl,rfl,rfl,rfl,rfl,rfl,rfl,rfl,rfl,rfl,⟨by show all<=al;omega,by show al<=2001;omega,λ_=>hl1⟩,λq hq=> ?_⟩
  have h2:=hq.2.2
  rw[List.take_of_length_le (by rw[z01 z0f];exact Nat.le_refl _)]at h2
  show GV.ok _ q
  unfold GV.ok
  exact⟨⟨rfl,hq.2.1,h2⟩,z06,hq.1.2⟩
def zhb(n:Nat) (hv:q22 P 37 (cVl.below z65 n)):q22 P 62 ((cVq isMap).below z8y (n+1)):=by
 refine qlb mixed (qee qlq) (qf7 (qig hv (qig zl6 qlp))) (W:=wPm) Try.func62 (by kernel_rfl) (show 1<=2 by decide) (show 2<=2 by decide) (λs=>by kernel_rfl) λ⟨S,(x:SV),(all:Int),a,g,(d:Int)⟩=>(zha n S x all a g d).mpr ?_
 rintro⟨hmu,hS,haS,hk,hg,⟨hal0,hal1⟩,hd1,hd2⟩ ⟨p,_,hx,ha,hgo⟩
 have hmu:2*(25- d).toNat<n+1:=hmu
 obtain⟨hk,hgk⟩:=hk
 obtain⟨gl,gnl⟩:=z3g hgo
 have hgw:=hg
 rw[GJ.wf_eq]at hgw
 obtain⟨_,hgl,_,hnsz,_,hnl,hgs⟩:=hgw
 have hnl:=hnl hgk
 have hat:=(hS.2 a haS).2.1 (.inr hk)
 simp only[sbS,exists_const,forall_const,Int.toNat_natCast,gl,gnl]
 refine⟨⟨⟨0,all,zV⟩,rfl,rfl,rfl,rfl,rfl,rfl,rfl,rfl,rfl,rfl,rfl,λq hq=>z1d q,Nat.zero_le _,⟨by show all<=all;omega,hal1⟩,rfl,Nat.zero_le _⟩,?_⟩
 rintro⟨j,al,v⟩ ⟨hj,⟨hl0,hl1⟩,hvk,hvl⟩ ⟨p1,hp1,hv1⟩
 simp only at hj hl0 hl1 hvk hvl hv1⊢
 refine⟨λhlt=>⟨⟨?xa,?xb⟩,?_⟩,λhge=> ?_⟩
 case xa|xb=>
  have hjl:j<g.l.length:=by omega
  have hw:g.l[j].wf:=GJ.wfs_at hgs hjl
  refine⟨⟨by omega,by omega⟩,(z4k hgo hjl).1.1,g.l[j].k,g.l[j].n,g.l[j].s,g.l[j].y.1,g.l[j].y.2.1,g.l[j].y.2.2,g.l[j].x.1,g.l[j].x.2.1,g.l[j].x.2.2,λq hq=>(z4k hq.1.2.2 hjl).1.2,⟨by omega,by omega⟩,⟨S,x,al,a.it,g.l[j],d+1⟩,rfl,rfl,rfl,rfl,rfl,rfl,rfl,rfl,rfl,rfl,rfl,rfl,rfl,rfl,rfl,⟨by show 2*(25- (d+1)).toNat<n;omega,hS,hat,hw,⟨by show 0<=al;omega,hl1⟩,by show 1<=d+1;omega,by show d+1<=21;omega⟩,λq hq=>⟨hq.1.1,(z4k hq.1.2.2 hjl).2⟩,?_⟩
  rintro⟨a2,e,w⟩ hb _
  exact⟨⟨a2,e,w⟩,rfl,rfl,rfl,rfl,rfl,rfl,rfl,rfl,rfl,rfl,rfl,rfl,rfl,rfl,λq hq=>hq.1,λq hq=>hq.2,hb⟩
 ·rintro⟨a2,e,w⟩ hb _
  have hb:al<=a2/\a2<=2001/\(e=0->a2<=2000):=hb
  simp only
  refine⟨λhe=>⟨⟨a2,e,zV⟩,rfl,rfl,rfl,rfl,rfl,rfl,rfl,rfl,rfl,rfl,rfl,⟨by show all<=a2;omega,hb.2⟩,λq hq=>z1d q⟩,λhe=>⟨λh=>by omega,λ_=> ?_⟩⟩
  have hjn:j<g.nm.length:=by omega
  refine⟨⟨by omega,by omega⟩,(zkv hgo hjn).1,g.nm[j],λq hq=>(zkv hq.1.1.2.2 hjn).2,⟨v,g.nm[j],w⟩,rfl,rfl,rfl,rfl,rfl,rfl,rfl,rfl,rfl,rfl,rfl,rfl,rfl,rfl,rfl,rfl,rfl,rfl,rfl,⟨hvk,by show v.l.length<_;omega⟩,λq hq=>⟨hq.1.2,hq.2⟩,?_⟩
  intro b hb2 _
  have hb2:b.pv=PV.mk v.n v.s (z2f g.nm[j] v.ks (GV.pvs v.l) w.pv) (qb3 g.nm[j] v.ks) v.b:=hb2
  rw[GV.pv_eq]at hb2
  injection hb2 with _ _ e1 e2 _
  have hpl:=znp g.nm[j] v.ks (GV.pvs v.l) w.pv (by rw[GV.pvs_len];exact hvk)
  rw[←e1,←e2,GV.pvs_len,GV.pvs_len]at hpl
  exact⟨⟨by omega,by omega⟩,⟨j+1,a2,b⟩,by show((j+1:Nat):Int)=_;omega,rfl,rfl,rfl,rfl,rfl,rfl,rfl,rfl,rfl,rfl,λq hq=>hq.1.1.1,λq hq=>hq.2,⟨by show j+1<=_;omega,⟨by show all<=a2;omega,hb.2.2 he⟩,hpl.1,by show b.l.length<=j+1;omega⟩,by show _- (j+1)<_;omega⟩
 ·exact⟨⟨al,0,v⟩,rfl,rfl,rfl,rfl,rfl,rfl,rfl,rfl,rfl,rfl,rfl,⟨by show all<=al;omega,by show al<=2001;omega,λ_=>hl1⟩,λq hq=>hq.2⟩
def znu(n:Nat) (hv:q22 P 37 (cVl.below z65 n)):q22 P 63 ((cVq isRec).below z8y (n+1)):=by
 refine qlb mixed (qee (qih z27 qlq)) (qf7 (qig hv qlp)) (W:=wRe) Try.func63 (by kernel_rfl) (show 1<=2 by decide) (show 2<=2 by decide) (λs=>by kernel_rfl) λ⟨S,(x:SV),(all:Int),a,g,(d:Int)⟩=>(znt n S x all a g d).mpr ?_
 rintro⟨hmu,hS,haS,hk,hg,⟨hal0,hal1⟩,hd1,hd2⟩ ⟨p,_,hx,ha,hgo⟩
 have hmu:2*(25- d).toNat<n+1:=hmu
 obtain⟨gl,gnl⟩:=z3g hgo
 obtain⟨_,_,afl,_⟩:=z1w ha
 have hgf:=hS.2 a haS
 have hf30:=hgf.2.2.2.2.2.2.2.1
 have hfg:=hgf.2.2.2.2.1
 simp only[sbS,exists_const,forall_const,Int.toNat_natCast,gl,gnl,afl]
 refine⟨⟨⟨0,all,[]⟩,rfl,rfl,rfl,λq hq=>GV.oks_iff.2 λv h=>(by cases h),Nat.zero_le _,⟨by show all<=all;omega,hal1⟩,rfl⟩,?_⟩
 rintro⟨j,al,fs⟩ ⟨hj,⟨hl0,hl1⟩,hfl⟩ ⟨p1,hp1,hfs1⟩
 simp only at hj hl0 hl1 hfl hfs1⊢
 refine⟨λhlt=> ?_,λhge=> ?_⟩
 ·have hjf:j<a.fs.length:=by omega
  have hff:=hfg _ (List.getElem_mem hjf)
  have fok:=λq (h:a.ok q)=>h.2.2.2.2 a.fs[j] (List.getElem_mem hjf)
  generalize hfj:a.fs[j]=f at*
  have fat:=λq (h:a.ok q)=>(show a.f.1≠noA/\q3p q (adr a.f.1 (j*9)) f.cells by rw[←hfj];exact z8o h hjf)
  obtain⟨cw,cok⟩:=z12 f.nm hg
  refine⟨⟨by omega,by omega⟩,(fat p ha).1,f.nm,f.al.1,f.al.2.1,f.al.2.2,f.ty,f.hd,f.df.k,f.df.n,f.df.s,f.df.y.1,f.df.y.2.1,f.df.y.2.2,f.df.x.1,f.df.x.2.1,f.df.x.2.2,λq hq=>(fat q hq.1.2.1).2,⟨g,f.nm⟩,rfl,rfl,rfl,rfl,gl,rfl,rfl,gnl,rfl,rfl,hg,λq hq=>hq.1.2.2,?_⟩
  simp only
  generalize (z0c f.nm g).getD zJ=cj at*
  refine⟨⟨λhno=>⟨λ_=>⟨⟨al,7,zV⟩,rfl,rfl,rfl,rfl,rfl,rfl,rfl,rfl,rfl,rfl,rfl,⟨by show all<=al;omega,by show al<=2001;omega,λ_=>hl1⟩,λq hq=>z1d q⟩,λ_=>⟨f.df,rfl,rfl,rfl,rfl,rfl,rfl,rfl,rfl,rfl,λq hq=>(fok q hq.1.2.1).2,hff.2⟩⟩,λhyes=>⟨cj,rfl,rfl,rfl,rfl,rfl,rfl,rfl,rfl,rfl,λq hq=>cok q hq.1.2.2,cw⟩⟩,?_⟩
  intro c hcw _
  refine⟨⟨by omega,by omega⟩,⟨S,x,al,f.ty,c,d+1⟩,rfl,rfl,rfl,rfl,rfl,rfl,rfl,rfl,rfl,rfl,rfl,rfl,rfl,rfl,rfl,⟨by show 2*(25- (d+1)).toNat<n;omega,hS,hff.1,hcw,⟨by show 0<=al;omega,hl1⟩,by show 1<=d+1;omega,by show d+1<=21;omega⟩,λq hq=>⟨hq.1.1.1,hq.2⟩,?_⟩
  rintro⟨a2,e,w⟩ hb _
  have hb:al<=a2/\a2<=2001/\(e=0->a2<=2000):=hb
  simp only[true_and]
  refine⟨λhe=>⟨⟨a2,e,zV⟩,rfl,rfl,rfl,rfl,rfl,rfl,rfl,rfl,rfl,rfl,rfl,⟨by show all<=a2;omega,hb.2⟩,λq hq=>z1d q⟩,λhe=>⟨z01 z0f fs,by omega,⟨by omega,by omega⟩,⟨j+1,a2,fs++[w]⟩,by show((j+1:Nat):Int)=_;omega,rfl,by simp,by rw[z05];rfl,λq hq=>hq.1.1.1,λq hq=>z2n hq.1.1.2 (z1q hq.2),⟨by show j+1<=_;omega,⟨by show all<=a2;omega,hb.2.2 he⟩,by show(fs++[w]).length=j+1;simp[hfl]⟩,by show _- (j+1)<_;omega⟩⟩
 ·intro a6 c _
  refine⟨⟨al,0, .mk 0 (mkS []) (a6,fs.length,c) fs (none,0,0) [] 0⟩,rfl,rfl,rfl,rfl,rfl,rfl,rfl,rfl,rfl,rfl,rfl,⟨by show all<=al;omega,by show al<=2001;omega,λ_=>hl1⟩,λq hq=> ?_⟩
  have h2:=hq.2.2
  rw[List.take_of_length_le (by rw[z01 z0f];exact Nat.le_refl _)]at h2
  show GV.ok _ q
  unfold GV.ok
  exact⟨⟨rfl,hq.2.1,h2⟩,z06,hq.1.2⟩
end
section
variable {S:List AT} {D:ByteArray}
def j1b{t dp all:Int} {n:Nat} (h1:1<=dp) (h2:dp<=21) (h3:0<=all) (h:20<dp\/2000<all+1):dvX S D (21- dp).toNat t n all.toNat= .no 2:=by
 rcases h with h|h
 ·rw[show(21- dp).toNat=0 by omega];rfl
 ·cases(21- dp).toNat with
  |zero=>rfl
  |succ f=>rw[dvX,if_pos (by omega)]
def zu2{dp all:Int} {j n:Nat} (hj:j<S.length) (h1:1<=dp) (h2:¬20<dp) (h3:0<=all) (h:¬2000<all+1):dvX S D (21- dp).toNat ((j:Nat):Int) n all.toNat=vaX (gvX S D dp) D S[j] n (all+1).toNat:=by
 rw[show(21- dp).toNat=(20- dp).toNat+1 by omega,dvX,if_neg (by omega),Int.toNat_natCast,List.getElem?_eq_getElem hj,show(all+1).toNat=all.toNat+1 by omega]
 rfl
def j1n(l:List GV) (v:GV):GV.pvs (l++[v])=GV.pvs l++[v.pv]:=by rw[GV.pvs_map,GV.pvs_map];simp
def zkw{fs:List GV} {a:Option Addr} {c:Nat} {q:Pub} (h1:GV.oks fs q) (h2:fs.length<=c) (h3:qik q a (List.take (fs.length*5) (z00 GV.cells fs))):(GV.mk 0 (mkS []) (a,fs.length,c) fs (none,0,0) [] 0).ok q:=by
 rw[List.take_of_length_le (by rw[z01 z0f];exact Nat.le_refl _)]at h3
 unfold GV.ok
 exact⟨⟨rfl,h2,h3⟩,z06,h1⟩
variable {g:Int->Nat->Nat->RdT} {ts:List Int} {l:List PV}
def zuu{n c:Nat} {i:Nat} (h:ts.length<=i):z6u g (ts.drop i) l n c= .ok (l,n,c):=by rw[List.drop_of_length_le h];rfl
def zut{n c:Nat} {i:Nat} (h:i<ts.length):z6u g (ts.drop i) l n c=(g ts[i] n c).bind λr=>z6u g (ts.drop (i+1)) (l++[r.1]) r.2.1 r.2.2:=by rw[List.drop_eq_getElem_cons h,z6u]
def zm5{α:Type} {R:RdT} {f:PV×Nat×Nat->Rs α} {R0:Rs α} {v:PV} {n c e:Int} (h:agD R v n c e) (hR:R.bind f=R0):thn R0 e (f (v,n.toNat,c.toNat)=R0):=by
  cases R with
  |no k=>exact .inr ⟨k,h,hR.symm⟩
  | ok r=>
    obtain⟨rfl,rfl,rfl,rfl⟩:=h
    exact .inl ⟨rfl,hR⟩
def rsL(N:Int) (s:ByteArray) (n e:Int):Rs (PV×Nat):=if e=0 then .ok (.mk N s [] [] 0,n.toNat)else .no (e- 1).toNat
end
def zbt(l:List AV) (h:T AO):Option (Int×DcS):=match l with
  | .ptr id _::k::_=>match j1a h id with
    | some d=>match gi k with
      |some (_,n)=>some (n,d)
      |none=>none
    |none=>none
  |_=>none
def z3q:Ct where
 σ:=Int×DcS
 args:=λ⟨k,x,s,i,c⟩=>[.ptr 1 0, .sv (.int .i64 k)]
 h:=λ⟨k,x,s,i,c⟩=>dcd x s i c
 m:=2
 pre:=λ⟨k,d⟩=>z0h d/\ -9223372036854775808<=k/\k<9223372036854775808
 find:=some zbt
 r:=λ⟨k,x,s,i,c⟩=> .tup [.sv (.string (btP s i.toNat k).1), .sv (.int .i64 (btP s i.toNat k).2.1)]
 h':=λ⟨k,x,s,i,c⟩=>dcd x s (btP s i.toNat k).2.2 c
 m':=2
 g:=λ_=>none
def z4v:Ct where
 σ:=Int×DcS
 args:=λ⟨k,x,s,i,c⟩=>[.ptr 1 0, .sv (.int .i64 k)]
 h:=λ⟨k,x,s,i,c⟩=>dcd x s i c
 m:=2
 pre:=λ⟨k,d⟩=>z0h d/\0<=k/\k<=8
 find:=some zbt
 r:=λ⟨k,x,s,i,c⟩=> .tup [.sv (.int .u64 (loS (btP s i.toNat k).1)), .sv (.int .i64 (btP s i.toNat k).2.1)]
 h':=λ⟨k,x,s,i,c⟩=>dcd x s (btP s i.toNat k).2.2 c
 m':=2
 g:=λ_=>none
def ze5:z4v.σ->WayF:=λ⟨k,x,s,i,c⟩=>{
 ann:=λ_ _ _=>some {σ:=Nat,pre:=λj=>j<=(btP s i.toNat k).1.size,t:=λj=>[(8, .sv (.int .u64 (loL ((btP s i.toNat k).1.data.toList.take j):Nat))),(18, .sv (.int .i64 (j:Nat)))],h:=λ_=>[],more:=0,μ:=λj=>(btP s i.toNat k).1.size- j,keep:=[6,7,17]}}
def z8g:Ct where
 σ:=DcS
 args:=λ⟨x,s,i,c⟩=>[.ptr 1 0]
 h:=λ⟨x,s,i,c⟩=>dcd x s i c
 m:=2
 pre:=z0h
 find:=some z8j
 r:=λ⟨x,s,i,c⟩=> .tup [.sv (.string (txP s i.toNat).1), .sv (.int .i64 (txP s i.toNat).2.1)]
 h':=λ⟨x,s,i,c⟩=>dcd x s (txP s i.toNat).2.2 c
 m':=2
 g:=λ_=>none
def z50:Ct where
 σ:=DcS
 args:=λ⟨x,s,i,c⟩=>[.ptr 1 0]
 h:=λ⟨x,s,i,c⟩=>dcd x s i c
 m:=2
 pre:=z0h
 find:=some z8j
 r:=λ⟨x,s,i,c⟩=> .tup [.sv (.string (txP s i.toNat).1), .sv (.int .i64 (vlE (txP s i.toNat)))]
 h':=λ⟨x,s,i,c⟩=>dcd x s (txP s i.toNat).2.2 c
 m':=2
 g:=λ_=>none
def zh1(k:Int):Prop:=k≠9/\k≠14/\k≠12/\k≠13
def atM(a:AT):PF:=⟨true,λp=>a.ok p,λ_ _ h e=>AT.ok_mono h e⟩
abbrev PlB:=Int×ByteArray×Int×Int
def z4x:CtR where
 σ:=DcS×AT
 args:=λ⟨⟨x,s,i,c⟩,a⟩=>[.ptr 1 0,a.av]
 h:=λ⟨⟨x,s,i,c⟩,a⟩=>dcd x s i c
 m:=2
 pre:=λ⟨d,a⟩=>z0h d/\zh1 a.k/\(1<=a.k/\a.k<=14)/\a.sys.length<1000000/\(a.k=11->0<=a.sz/\a.sz<1000000)
 mem:=λ⟨d,a⟩=>atM a
 β:=λ_=>PlB
 post:=λ⟨⟨x,s,i,c⟩,a⟩ ⟨N,r,e',i'⟩=>lfX a s i.toNat=rsL N r i' e'/\0<=e'/\i<=i'/\i'<=s.size
 pm:=λ_ _=>{}
 r:=λ_ ⟨N,r,e',i'⟩=> .tup [(GV.mk N r (none,0,0) [] (none,0,0) [] 0).av, .sv (.int .i64 e')]
 h':=λ⟨⟨x,s,i,c⟩,a⟩ ⟨N,r,e',i'⟩=>dcd x s i' c
 m':=2
def ze7:z4x.σ->WayF:=λ⟨⟨x,s,i,c⟩,a⟩=>{
 cut:=λi tt _=>match i with
  |10=>swc kIt 23 9 [0,3,4,5,9,23] tt
  |_=>none}
abbrev VpS:=List AT×DcS×Int×Int
abbrev VpB:=GV×Int×Int×Int
def vpM(S:List AT) (x:SV):PF:=⟨true,λp=>z0a S x p,λ_ _ h e=>z0s h e⟩
def zof(s:ByteArray) (i c:Int):VpB->Prop:=λ⟨r,e',i',c'⟩=>(i<=i'/\i'<=s.size)/\(c<=c'/\c'<=2001)/\(e'=0->c'<=2000)
def inT(S:List AT) (t:Int):Prop:=0<=t/\t<S.length
def z1u(S:List AT) (R:RdT) (s:ByteArray) (i c t:Int) (b:VpB):Prop:=(inT S t->agD R b.1.pv b.2.2.1 b.2.2.2 b.2.1/\c+1<=b.2.2.2)/\(¬inT S t->b.2.1=1)/\zof s i c b
def z3s:CtR where
 σ:=VpS
 args:=λ⟨S,⟨x,s,i,c⟩,t,dp⟩=>[.ptr 1 0, .sv (.int .i64 t), .sv (.int .i64 dp)]
 h:=λ⟨S,⟨x,s,i,c⟩,t,dp⟩=>dcd x s i c
 m:=2
 pre:=λ⟨S,⟨x,s,i,c⟩,t,dp⟩=>okS S/\z0h ⟨x,s,i,c⟩/\(0<=c/\c<=2000)/\1<=dp/\dp<=21
 mem:=λ⟨S,⟨x,s,i,c⟩,t,dp⟩=>vpM S x
 β:=λ_=>VpB
 post:=λ⟨S,⟨x,s,i,c⟩,t,dp⟩ b=>z1u S (dvX S s (21- dp).toNat t i.toNat c.toNat) s i c t b
 pm:=λ_ ⟨r,e',i',c'⟩=>vM r
 r:=λ_ ⟨r,e',i',c'⟩=> .tup [r.av, .sv (.int .i64 e')]
 h':=λ⟨S,⟨x,s,i,c⟩,t,dp⟩ ⟨r,e',i',c'⟩=>dcd x s i' c'
 m':=2
def zaa:VpS->Nat:=λ⟨S,_,t,dp⟩=>(25- dp).toNat
abbrev PpS:=List AT×DcS×AT×Int
def ppM(S:List AT) (x:SV) (a:AT):PF:=⟨true,λp=>z0a S x p/\a.ok p,λ_ _ h e=>⟨z0s h e.1,AT.ok_mono h e.2⟩⟩
def zb6(κ:AT->Prop) (R:(Int->Nat->Nat->RdT)->ByteArray->AT->Nat->Nat->RdT):CtR where
 σ:=PpS
 args:=λ⟨S,⟨x,s,i,c⟩,a,dp⟩=>[.ptr 1 0,a.av, .sv (.int .i64 dp)]
 h:=λ⟨S,⟨x,s,i,c⟩,a,dp⟩=>dcd x s i c
 m:=2
 pre:=λ⟨S,⟨x,s,i,c⟩,a,dp⟩=>okS S/\a∈S/\κ a/\z0h ⟨x,s,i,c⟩/\(0<=c/\c<=2000)/\1<=dp/\dp<=20
 mem:=λ⟨S,⟨x,s,i,c⟩,a,dp⟩=>ppM S x a
 β:=λ_=>VpB
 post:=λ⟨S,⟨x,s,i,c⟩,a,dp⟩ b=>agD (R (gvX S s dp) s a i.toNat c.toNat) b.1.pv b.2.2.1 b.2.2.2 b.2.1/\zof s i c b
 pm:=λ_ ⟨r,e',i',c'⟩=>vM r
 r:=λ_ ⟨r,e',i',c'⟩=> .tup [r.av, .sv (.int .i64 e')]
 h':=λ⟨S,⟨x,s,i,c⟩,a,dp⟩ ⟨r,e',i',c'⟩=>dcd x s i' c'
 m':=2
def z6t:PpS->Nat:=λ⟨S,_,a,dp⟩=>(25- dp).toNat
def kd9(a:AT):Prop:=a.k=9
def ztc(a:AT):Prop:=a.k=14
def rcD(g:Int->Nat->Nat->RdT) (D:ByteArray) (a:AT) (n c:Nat):RdT:=rcX g a n c
def zvo:VpS->WayF:=λ⟨S,⟨x,s,i,c⟩,t,dp⟩=>{
 cut:=λi tt _=>match i with
  |13=>swc kPa 62 48 [0,1,2,6,7,8,48,62] tt
  |_=>none}
def rpI(S:List AT) (a:AT) (s:ByteArray) (dp i c:Int) (j:Nat) (i1 c1:Int) (fs:List GV):Prop:=(j<=a.fs.length/\fs.length=j)/\(i<=i1/\i1<=s.size)/\(c<=c1/\c1<=2000)/\z6u (gvX S s dp) ((a.fs.map AF.ty).drop j) (GV.pvs fs) i1.toNat c1.toNat=z6u (gvX S s dp) (a.fs.map AF.ty) [] i.toNat c.toNat
def zvk:PpS->WayF:=λ⟨S,⟨x,s,i,c⟩,a,dp⟩=>{
 pubE:=[40]
 ann:=λ_ tt hh=>match j1m tt 8 with
  |some vb=>some {σ:=Nat×Int×Int×List GV,pre:=λ⟨j,i1,c1,fs⟩=>rpI S a s dp i c j i1 c1 fs,mem:=λ⟨j,i1,c1,fs⟩=>gsM fs,t:=λ⟨j,i1,c1,fs⟩=>[(16, .sv (.int .i64 (j:Nat)))],h:=λ⟨j,i1,c1,fs⟩=>dcd x s i1 c1++[(vb,jdv hh vb fs.length),(40, .row 35 0 (z00 GV.cells fs))],more:=60,μ:=λ⟨j,i1,c1,fs⟩=>a.fs.length- j,keep:=[0,2,4,6,7,8,14,15]}
  |none=>none}
def zvn:PpS->WayF:=λ_=>{pubE:=[42]}
section
variable (x0:Int) (x1:ByteArray) (x2:Int) (x3:SV) (x4:Int) (x5:Prop)
 abbrev zlw:=decide (x0<0)=decide (x0<0)
 def zyl:=zlw x0/\zlw x0/\zlw x0/\zlw x0/\zlw x0/\x5
 def j2z:=(btP x1 (toNat x0) x2).2.1=x4/\x3.1=x3.1/\x3.2.1=x3.2.1/\x3.2.2=x3.2.2/\x1=x1/\x5
 def j0w:=(btP x1 (toNat x0) x2).1=mkS []/\j2z x0 x1 x2 x3 2 ((btP x1 (toNat x0) x2).2.2=x0/\x4=x4/\True)
 def ja1:=zlw x0/\zyl x0 (zyl x0 (Ji (x0<0) (j0w x2 x1 x0 x3 x4) (False)))
 def ja0:=Jb (x0+x2)/\(0<=x0/\x0<=x0+x2/\x0+x2<=(↑(size x1):Int))/\(btP x1 (toNat x0) x2).1=ByteArray.extract x1 (toNat x0) (toNat (x0+x2))/\j2z x0 x1 x2 x3 0 ((btP x1 (toNat x0) x2).2.2=x0+x2/\x4=x4/\True)
 def j9z:=Ji ((↑(size x1):Int)- x0<x2) (j0w x0 x1 x2 x3 x4) (ja0 x0 x1 x2 x3 x4)
 def j9y:=zyl x0 (zyl x0 (Jb ((↑(size x1):Int)- x2)/\zlw x0/\Ji (x0<0) (j0w x2 x1 x0 x3 x4) (j9z x2 x1 x0 x3 x4)))
 def j9x:=Ji (x0<0) (ja1 x0 x1 x2 x3 x4) (j9y x0 x1 x2 x3 x4)
end
def z9u(k:Int) (x:SV) (s:ByteArray) (i c:Int):qm2 P (λ_=>none) Try.f46 z3q (λ_=>{}) ⟨k,x,s,i,c⟩=(z0h (x,s,i,c)/\(-9223372036854775808:Int)<=k/\k<9223372036854775808->j9x k s i x c):=by kernel_rfl
def zbg:=λk x s i c=>Eq.trans (z9u k x s i c) (by delta Ji Jb Jt Jf zlw zyl j2z j0w ja1 ja0 j9z j9y j9x;exact rfl)
section
variable (x0:Int) (x1:SV) (x2:ByteArray) (x3 x4:Int) (x5:Nat) (x6:Prop)
 abbrev j31:=x1.1=x1.1/\x1.2.1=x1.2.1/\x1.2.2=x1.2.2/\x6
 abbrev zb8:=(btP x2 (toNat x0) x3).1
 abbrev zyn:=(↑(size (zb8 x0 x2 x3)):Int)
 def j30:=(btP x2 (toNat x0) x3).2.1=(btP x2 (toNat x0) x3).2.1/\(zyn x0 x2 x3)=(zyn x0 x2 x3)/\x6
 abbrev zym:=(↑(loL (take x5 (Array.toList (ByteArray.data (zb8 x0 x2 x3))))):Int)
 def j0x:=j31 x1 (x2=x2/\(btP x2 (toNat x0) x3).2.2=(btP x2 (toNat x0) x3).2.2/\x4=x4/\x6)
 def ja4:=(0<=(↑x5:Int)/\(↑x5:Int)<(zyn x0 x2 x3))/\(0<=(↑(bat (zb8 x0 x2 x3) (toNat (↑x5:Int))):Int)/\(↑(bat (zb8 x0 x2 x3) (toNat (↑x5:Int))):Int)<=18446744073709551615)/\0<=IntKind.wrap u64 ((8:Int)*IntKind.wrap u64 (↑x5:Int))/\Jb ((↑x5:Int)+1)/\∃(i0:Nat),j30 x0 x2 x3 ((zym x0 x2 x3 i0)=qbu BinOp.or u64 (zym x0 x2 x3 x5) (shP BinOp.shl u64 (↑(bat (zb8 x0 x2 x3) (toNat (↑x5:Int))):Int) (IntKind.wrap u64 ((8:Int)*IntKind.wrap u64 (↑x5:Int))))/\(btP x2 (toNat x0) x3).1=(btP x2 (toNat x0) x3).1/\(↑i0:Int)=(↑x5:Int)+1/\j0x x0 x1 x2 x3 x4 (i0<=size (zb8 x0 x2 x3)/\size (zb8 x0 x2 x3)- i0<size (zb8 x0 x2 x3)- x5/\True))
 def ja5:=loS (zb8 x0 x2 x3)=(zym x0 x2 x3 x5)/\(btP x2 (toNat x0) x3).2.1=(btP x2 (toNat x0) x3).2.1/\j0x x0 x1 x2 x3 x4 True
 def ja3:=Ji ((↑x5:Int)<(zyn x0 x2 x3)) (ja4 x0 x1 x2 x3 x4 x5) (ja5 x0 x1 x2 x3 x4 x5)
 def ja2:=x0=x0/\j31 x1 (x2=x2/\x3=x3/\x4=x4/\(z0h ((x1.1,x1.2.1,x1.2.2),x2,x3,x4)/\(-9223372036854775808:Int)<=x0/\x0<9223372036854775808)/\(∃(i0:Nat),j30 x3 x2 x0 ((zym x3 x2 x0 i0)=0/\(btP x2 (toNat x3) x0).1=(btP x2 (toNat x3) x0).1/\(↑i0:Int)=0/\j0x x3 x1 x2 x0 x4 (i0<=size (zb8 x3 x2 x0)/\True)))/\∀(i1:Nat),i1<=size (zb8 x3 x2 x0)->ja3 x3 x1 x2 x0 x4 i1)
end
def za5(k:Int) (x:SV) (s:ByteArray) (i c:Int):qm2 P (qh2 [(46,z3q)]) Try.f42 z4v (ze5) ⟨k,x,s,i,c⟩=(z0h (x,s,i,c)/\0<=k/\k<=8->ja2 k x s i c):=by kernel_rfl
def zc1:=λk x s i c=>Eq.trans (za5 k x s i c) (by delta Ji Jb Jt Jf j31 zb8 zyn j30 zym j0x ja4 ja5 ja3 ja2;exact rfl)
section
variable (x0:SV) (x1:ByteArray) (x2 x3:Int) (x4:Prop)
 abbrev ztm:=x0.1=x0.1/\x0.2.1=x0.2.1/\x0.2.2=x0.2.2/\x1=x1/\x4
 abbrev j0z:=(↑(lgR x1 (toNat x2)).2.1:Int)
 abbrev zqx:=(txP x1 (toNat x2)).2
 abbrev zqw:=(↑(lgR x1 (toNat x2)).2.2:Int)
 def ja9:=(txP x1 (toNat x2)).1=mkS []/\(zqx x1 x2).1=(j0z x1 x2)/\ztm x0 x1 ((zqx x1 x2).2=(zqw x1 x2)/\x3=x3/\True)
 def jaa:=(txP x1 (toNat x2)).1=mkS []/\(zqx x1 x2).1=3/\ztm x0 x1 ((zqx x1 x2).2=(zqw x1 x2)/\x3=x3/\True)
 abbrev j0y:=btP x1 (toNat (zqw x1 x2)) (lgR x1 (toNat x2)).1
 def ja8:=(lgR x1 (toNat x2)).1=(lgR x1 (toNat x2)).1/\ztm x0 x1 ((zqw x1 x2)=(zqw x1 x2)/\x3=x3/\(z0h ((x0.1,x0.2.1,x0.2.2),x1,(zqw x1 x2),x3)/\(-9223372036854775808:Int)<=(lgR x1 (toNat x2)).1/\(lgR x1 (toNat x2)).1<9223372036854775808)/\(txP x1 (toNat x2)).1=(j0y x1 x2).1/\(zqx x1 x2).1=(j0y x1 x2).2.1/\ztm x0 x1 ((zqx x1 x2).2=(j0y x1 x2).2.2/\x3=x3/\True))
 def ja7:=Ji (5000<(lgR x1 (toNat x2)).1) (jaa x0 x1 x2 x3) (ja8 x0 x1 x2 x3)
 def ja6:=ztm x0 x1 (x2=x2/\x3=x3/\z0h ((x0.1,x0.2.1,x0.2.2),x1,x2,x3)/\((!decide ((j0z x1 x2)=0))=true->ja9 x0 x1 x2 x3)/\((!decide ((j0z x1 x2)=0))=false->ja7 x0 x1 x2 x3))
end
def zdn(x:SV) (s:ByteArray) (i c:Int):qm2 P (qh2 [(43,z9v),(46,z3q)]) Try.f44 z8g (λ_=>{}) ⟨x,s,i,c⟩=(z0h (x,s,i,c)->ja6 x s i c):=by kernel_rfl
def zhx:=λx s i c=>Eq.trans (zdn x s i c) (by delta Ji Jt Jf ztm j0z zqx zqw ja9 jaa j0y ja8 ja7 ja6;exact rfl)
section
variable (x0:SV) (x1:ByteArray) (x2 x3:Int) (x4:Prop)
 abbrev j10:=x0.1=x0.1/\x0.2.1=x0.2.1/\x0.2.2=x0.2.2/\x1=x1/\x4
 abbrev zqy:=(txP x1 (toNat x2)).2
 def j11:=(txP x1 (toNat x2)).1=(txP x1 (toNat x2)).1
 def jad:=j11 x1 x2/\vlE (txP x1 (toNat x2))=2/\j10 x0 x1 ((zqy x1 x2).2=(zqy x1 x2).2/\x3=x3/\True)
 def j32:=j11 x1 x2/\vlE (txP x1 (toNat x2))=(zqy x1 x2).1/\j10 x0 x1 ((zqy x1 x2).2=(zqy x1 x2).2/\x3=x3/\True)
 def jac:=j11 x1 x2/\size (txP x1 (toNat x2)).1<9223372036854775808/\((!vld (txP x1 (toNat x2)).1)=true->jad x0 x1 x2 x3)/\((!vld (txP x1 (toNat x2)).1)=false->j32 x0 x1 x2 x3)
 def jab:=j10 x0 x1 (x2=x2/\x3=x3/\z0h ((x0.1,x0.2.1,x0.2.2),x1,x2,x3)/\Ji ((zqy x1 x2).1=0) (jac x0 x1 x2 x3) (j32 x0 x1 x2 x3))
end
def zal(x:SV) (s:ByteArray) (i c:Int):qm2 P (qh2 [(44,z8g),(68,z2a)]) Try.f45 z50 (λ_=>{}) ⟨x,s,i,c⟩=(z0h (x,s,i,c)->jab x s i c):=by kernel_rfl
def zdv:=λx s i c=>Eq.trans (zal x s i c) (by delta Ji Jt Jf j10 zqy j11 jad j32 jac jab;exact rfl)
section
variable (x0:AT) (x1:SV) (x2:ByteArray) (x3 x4:Int) (x5:PlB) (x6:Prop) (x7:Int)
 abbrev z11:=GV.mk x5.1 x5.2.1 (noA,(0:Nat),(0:Nat)) [] (noA,(0:Nat),(0:Nat)) [] 0
 def zfb:=(GV.x (z11 x5)).1=noA/\(GV.x (z11 x5)).2.1=0/\(GV.x (z11 x5)).2.2=0/\(GV.y (z11 x5)).1=noA/\(GV.y (z11 x5)).2.1=0/\(GV.y (z11 x5)).2.2=0/\GV.b (z11 x5)=0/\x6
 def z1v:=x1.1=x1.1/\x1.2.1=x1.2.1/\x1.2.2=x1.2.2/\x2=x2/\x6
 def z41:=(lfX x0 x2 (toNat x3)=rsL x5.1 x5.2.1 x5.2.2.2 x5.2.2.1/\0<=x5.2.2.1/\x3<=x5.2.2.2/\x5.2.2.2<=(↑(size x2):Int))/\True
 def zr1:=∃(i0:PlB),GV.n (z11 i0)=0/\GV.s (z11 i0)=mkS []/\zfb i0 (i0.2.2.1=x7/\z1v x1 x2 (i0.2.2.2=x3/\x4=x4/\z41 x0 x2 x3 i0))
 abbrev z7t:=z0h ((x1.1,x1.2.1,x1.2.2),x2,x3,x4)
 abbrev z7u:=btP x2 (toNat x3) 1
 def zyr:=(1:Int)=1/\z1v x1 x2 (x3=x3/\x4=x4/\(z7t x1 x2 x3 x4/\(0:Int)<=1/\(1:Int)<=8)/\Ji (1<loS (z7u x2 x3).1) (∃(i0:PlB),GV.n (z11 i0)=loS (z7u x2 x3).1/\GV.s (z11 i0)=mkS []/\zfb i0 (i0.2.2.1=2/\z1v x1 x2 (i0.2.2.2=(z7u x2 x3).2.2/\x4=x4/\z41 x0 x2 x3 i0))) (∃(i1:PlB),GV.n (z11 i1)=loS (z7u x2 x3).1/\GV.s (z11 i1)=mkS []/\zfb i1 (i1.2.2.1=(z7u x2 x3).2.1/\z1v x1 x2 (i1.2.2.2=(z7u x2 x3).2.2/\x4=x4/\z41 x0 x2 x3 i1))))
 def zqz:=∃(i0:Unit),kIt (AT.k x0)=decide (AT.k x0=x7)/\AT.k x0=AT.k x0/\z1v x1 x2 (x3=x3/\x4=x4/\AT.k x0=AT.k x0/\AT.nm x0=AT.nm x0/\(AT.al x0).1=(AT.al x0).1/\(AT.al x0).2.1=(AT.al x0).2.1/\(AT.al x0).2.2=(AT.al x0).2.2/\AT.it x0=AT.it x0/\(AT.sy x0).1=(AT.sy x0).1/\(AT.sy x0).2.1=(AT.sy x0).2.1/\(AT.sy x0).2.2=(AT.sy x0).2.2/\AT.hd x0=AT.hd x0/\AT.df x0=AT.df x0/\AT.sz x0=AT.sz x0/\(AT.f x0).1=(AT.f x0).1/\(AT.f x0).2.1=(AT.f x0).2.1/\(AT.f x0).2.2=(AT.f x0).2.2/\(AT.br x0).1=(AT.br x0).1/\(AT.br x0).2.1=(AT.br x0).2.1/\(AT.br x0).2.2=(AT.br x0).2.2/\(∀i1,True/\AT.ok x0 i1->True/\AT.ok x0 i1)/\True/\True)
 def zr2:= !decide ((lgR x2 (toNat x3)).1=IntKind.wrap i32 (lgR x2 (toNat x3)).1)
 def zr3:=GV.n (z11 x5)=IntKind.wrap u64 (lgR x2 (toNat x3)).1/\GV.s (z11 x5)=mkS []/\x6
 def zr0:=∃(i0:PlB),zr3 x2 x3 i0 (zfb i0 (i0.2.2.1=(↑(lgR x2 (toNat x3)).2.1:Int)/\z1v x1 x2 (i0.2.2.2=(↑(lgR x2 (toNat x3)).2.2:Int)/\x4=x4/\z41 x0 x2 x3 i0)))
 def zyq:=Jb (IntKind.wrap i32 (lgR x2 (toNat x3)).1)/\((zr2 x2 x3)=true->∃(i0:PlB),zr3 x2 x3 i0 (zfb i0 (i0.2.2.1=2/\z1v x1 x2 (i0.2.2.2=(↑(lgR x2 (toNat x3)).2.2:Int)/\x4=x4/\z41 x0 x2 x3 i0))))/\((zr2 x2 x3)=false->zr0 x0 x1 x2 x3 x4)
 def zyo:=z1v x1 x2 (x3=x3/\x4=x4/\z7t x1 x2 x3 x4/\Ji (AT.k x0=3) (zyq x0 x1 x2 x3 x4) (zr0 x0 x1 x2 x3 x4))
 def j33:=x7=x7/\z1v x1 x2 (x3=x3/\x4=x4/\(z7t x1 x2 x3 x4/\0<=x7/\x7<=8)/\∃(i0:PlB),GV.n (z11 i0)=loS (btP x2 (toNat x3) x7).1/\GV.s (z11 i0)=mkS []/\zfb i0 (i0.2.2.1=(btP x2 (toNat x3) x7).2.1/\z1v x1 x2 (i0.2.2.2=(btP x2 (toNat x3) x7).2.2/\x4=x4/\z41 x0 x2 x3 i0)))
 def zyt:=AT.sz x0=AT.sz x0/\z1v x1 x2 (x3=x3/\x4=x4/\(z7t x1 x2 x3 x4/\(-9223372036854775808:Int)<=AT.sz x0/\AT.sz x0<9223372036854775808)/\∃(i0:PlB),GV.n (z11 i0)=0/\GV.s (z11 i0)=(btP x2 (toNat x3) (AT.sz x0)).1/\zfb i0 (i0.2.2.1=(btP x2 (toNat x3) (AT.sz x0)).2.1/\z1v x1 x2 (i0.2.2.2=(btP x2 (toNat x3) (AT.sz x0)).2.2/\x4=x4/\z41 x0 x2 x3 i0)))
 def zys:=Ji (AT.k x0=11) (zyt x0 x1 x2 x3 x4) (zr1 x0 x1 x2 x3 x4 1)
 def zyp:=Ji (AT.k x0=8) (z1v x1 x2 (x3=x3/\x4=x4/\z7t x1 x2 x3 x4/\∃(i0:PlB),GV.n (z11 i0)=0/\GV.s (z11 i0)=(txP x2 (toNat x3)).1/\zfb i0 (i0.2.2.1=vlE (txP x2 (toNat x3))/\z1v x1 x2 (i0.2.2.2=(txP x2 (toNat x3)).2.2/\x4=x4/\z41 x0 x2 x3 i0)))) (zys x0 x1 x2 x3 x4)
 def jal:=Ji (AT.k x0=7) (z1v x1 x2 (x3=x3/\x4=x4/\z7t x1 x2 x3 x4/\∃(i0:PlB),GV.n (z11 i0)=0/\GV.s (z11 i0)=(txP x2 (toNat x3)).1/\zfb i0 (i0.2.2.1=(txP x2 (toNat x3)).2.1/\z1v x1 x2 (i0.2.2.2=(txP x2 (toNat x3)).2.2/\x4=x4/\z41 x0 x2 x3 i0)))) (zyp x0 x1 x2 x3 x4)
 def jak:=Ji (AT.k x0=10) (∃(i0:Int×DcS),i0.1=(↑(AT.sy x0).2.1:Int)/\i0.2.1.1=x1.1/\i0.2.1.2.1=x1.2.1/\i0.2.1.2.2=x1.2.2/\i0.2.2.1=x2/\i0.2.2.2.1=x3/\i0.2.2.2.2=x4/\z0h i0.2/\∃(i1:PlB),GV.n (z11 i1)=IntKind.wrap u64 (lgR i0.2.2.1 (toNat i0.2.2.2.1)).1/\GV.s (z11 i1)=mkS []/\zfb i1 (i1.2.2.1=(↑(chE i0.2.2.1 (toNat i0.2.2.2.1) i0.1):Int)/\x1.1=i0.2.1.1/\x1.2.1=i0.2.1.2.1/\x1.2.2=i0.2.1.2.2/\x2=i0.2.2.1/\i1.2.2.2=(↑(lgR i0.2.2.1 (toNat i0.2.2.2.1)).2.2:Int)/\x4=i0.2.2.2.2/\z41 x0 x2 x3 i1)) (jal x0 x1 x2 x3 x4)
 def jaj:=Ji (AT.k x0=6) (j33 x0 x1 x2 x3 x4 8) (jak x0 x1 x2 x3 x4)
 def jai:=Ji (AT.k x0=5) (j33 x0 x1 x2 x3 x4 4) (jaj x0 x1 x2 x3 x4)
 def jah:=(kIt (AT.k x0)=true->zyo x0 x1 x2 x3 x4)/\(kIt (AT.k x0)=false->jai x0 x1 x2 x3 x4)
 def jag:=(Ji (AT.k x0=3) (zqz x0 x1 x2 x3 x4 3) (zqz x0 x1 x2 x3 x4 4))/\∀(i4:Unit),True->jah x0 x1 x2 x3 x4
 def jaf:=Ji (AT.k x0=2) (zyr x0 x1 x2 x3 x4) (jag x0 x1 x2 x3 x4)
 def jae:=Ji (AT.k x0=1) (zr1 x0 x1 x2 x3 x4 0) (jaf x0 x1 x2 x3 x4)
end
def zad(x:SV) (s:ByteArray) (i c:Int) (a:AT):qm3 P (qh2 [(42,z4v),(43,z9v),(41,z4u),(44,z8g),(45,z50),(46,z3q)]) (qi5 []) Try.f23 z4x (ze7) ⟨⟨x,s,i,c⟩,a⟩=(z0h (x,s,i,c)/\zh1 (AT.k a)/\(1<=AT.k a/\AT.k a<=14)/\length (AT.sys a)<1000000/\(AT.k a=11->0<=AT.sz a/\AT.sz a<1000000)->(∃(p:Pub),True/\AT.ok a p)->jae a x s i c):=by kernel_rfl
def zd0:=λx s i c a=>Eq.trans (zad x s i c a) (by delta Ji Jb Jt Jf z11 zfb z1v z41 zr1 z7t z7u zyr zqz zr2 zr3 zr0 zyq zyo j33 zyt zys zyp jal jak jaj jai jah jag jaf jae;exact rfl)
section
variable (x0:Int) (x1:SV) (x2:ByteArray) (x3 x4:Int) (x5:List AT) (x6:Int) (x7:Nat) (x8:Int) (x9:ByteArray) (x10:Option Addr) (x11:Nat) (x12:Int) (x13:Option Addr) (x14 x15:Nat) (x16:Bool) (x17:ByteArray) (x18:Int) (x19:Option Addr) (x20 x21:Nat) (x22:Option Addr) (x23 x24 x25:Nat) (x26:VpB) (x27:PpS) (x28:Prop) (x29:PlB) (x30:Int)
 abbrev zr5:=x1.1=x1.1/\x1.2.1=x1.2.1/\x1.2.2=x1.2.2/\x28
 def zfc:=GV.n x26.1=0/\GV.s x26.1=mkS []/\(GV.x x26.1).1=noA/\(GV.x x26.1).2.1=0/\(GV.x x26.1).2.2=0/\(GV.y x26.1).1=noA/\(GV.y x26.1).2.1=0/\(GV.y x26.1).2.2=0/\GV.b x26.1=0/\x26.2.1=x3/\zr5 x1 (x2=x2/\x26.2.2.1=x0/\x28)
 def zaz:=z1u x5 (dvX x5 x2 (toNat ((21:Int)- x0)) x3 (toNat x4) (toNat x6)) x2 x4 x6 x3 x26/\(∀i0,True/\z0a x5 x1 i0->GV.ok x26.1 i0)/\True
 def j13:=AT.k x27.2.2.1=x0/\AT.nm x27.2.2.1=x2/\(AT.al x27.2.2.1).1=x10/\(AT.al x27.2.2.1).2.1=x7/\(AT.al x27.2.2.1).2.2=x11/\AT.it x27.2.2.1=x3/\(AT.sy x27.2.2.1).1=x13/\(AT.sy x27.2.2.1).2.1=x14/\(AT.sy x27.2.2.1).2.2=x15/\AT.hd x27.2.2.1=x16/\AT.df x27.2.2.1=x9/\AT.sz x27.2.2.1=x4/\(AT.f x27.2.2.1).1=x19/\(AT.f x27.2.2.1).2.1=x20/\(AT.f x27.2.2.1).2.2=x21/\(AT.br x27.2.2.1).1=x22/\(AT.br x27.2.2.1).2.1=x23/\(AT.br x27.2.2.1).2.2=x24/\x27.2.2.2=x6/\x27.2.1.1.1=x1.1/\x27.2.1.1.2.1=x1.2.1/\x27.2.1.1.2.2=x1.2.2/\x27.2.1.2.1=x17/\x27.2.1.2.2.1=x8/\x27.2.1.2.2.2=x12+1/\x28
 def zjh:=z6t x27<x7+1/\okS x27.1/\x27.2.2.1∈x27.1/\x28
 def zjf:=z0h (x27.2.1.1,x27.2.1.2.1,x27.2.1.2.2.1,x27.2.1.2.2.2)/\(0<=x27.2.1.2.2.2/\x27.2.1.2.2.2<=2000)/\1<=x27.2.2.2/\x27.2.2.2<=20
 def zjg:=(∀i0,True/\z0a x5 x1 i0->z0a x27.1 x27.2.1.1 i0/\AT.ok x27.2.2.1 i0)
 abbrev zjj:=gvX x27.1 x27.2.1.2.1 x27.2.2.2
 abbrev zji:=zof x27.2.1.2.1 x27.2.1.2.2.1 x27.2.1.2.2.2 x26
 def j12:=(∃i0,(True/\z0a x5 x1 i0)/\GV.ok x26.1 i0)->∃(i1:VpB),GV.n i1.1=GV.n x26.1/\GV.s i1.1=GV.s x26.1/\(GV.x i1.1).1=(GV.x x26.1).1/\(GV.x i1.1).2.1=(GV.x x26.1).2.1/\(GV.x i1.1).2.2=(GV.x x26.1).2.2/\(GV.y i1.1).1=(GV.y x26.1).1/\(GV.y i1.1).2.1=(GV.y x26.1).2.1/\(GV.y i1.1).2.2=(GV.y x26.1).2.2/\GV.b i1.1=GV.b x26.1/\i1.2.1=x26.2.1/\x1.1=x27.2.1.1.1/\x1.2.1=x27.2.1.1.2.1/\x1.2.2=x27.2.1.1.2.2/\x2=x27.2.1.2.1/\i1.2.2.1=x26.2.2.1/\i1.2.2.2=x26.2.2.2/\z1u x5 (dvX x5 x2 (toNat ((21:Int)- x0)) x3 (toNat x4) (toNat x6)) x2 x4 x6 x3 i1/\(∀i2,(True/\z0a x5 x1 i2)/\GV.ok x26.1 i2->GV.ok i1.1 i2)/\True
 def zr4:=∃(i0:Unit),x0=x0/\x3=x3/\x4=x4/\kPa x4=decide (x4=x30)/\zr5 x1 (x2=x2/\x6=x6/\x8+1=x8+1/\x4=x4/\x9=x9/\x10=x10/\x7=x7/\x11=x11/\x12=x12/\x13=x13/\x14=x14/\x15=x15/\x16=x16/\x17=x17/\x18=x18/\x19=x19/\x20=x20/\x21=x21/\x22=x22/\x23=x23/\x24=x24/\(∀i1,True/\z0a x5 x1 i1->True/\z0a x5 x1 i1)/\True/\True)
 abbrev z4e:=GV.mk x29.1 x29.2.1 (noA,(0:Nat),(0:Nat)) [] (noA,(0:Nat),(0:Nat)) [] 0
 def jat:=Ji (x0=14) (∃(i0:PpS),j13 x0 x1 x2 x3 x4 x6 x7 x8 x9 x10 x11 x12 x13 x14 x15 x16 x17 x19 x20 x21 x22 x23 x24 i0 ((zjh x25 i0 (ztc i0.2.2.1/\zjf i0))/\zjg x1 x5 i0/\∀(i2:VpB),agD (unX (zjj i0) i0.2.1.2.1 i0.2.2.1 (toNat i0.2.1.2.2.1) (toNat i0.2.1.2.2.2)) (GV.pv i2.1) i2.2.2.1 i2.2.2.2 i2.2.1/\zji i2 i0->j12 x6 x1 x17 x18 x8 x5 x12 i2 i0)) (∃(i6:DcS×AT),AT.k i6.2=x0/\AT.nm i6.2=x2/\(AT.al i6.2).1=x10/\(AT.al i6.2).2.1=x7/\(AT.al i6.2).2.2=x11/\AT.it i6.2=x3/\(AT.sy i6.2).1=x13/\(AT.sy i6.2).2.1=x14/\(AT.sy i6.2).2.2=x15/\AT.hd i6.2=x16/\AT.df i6.2=x9/\AT.sz i6.2=x4/\(AT.f i6.2).1=x19/\(AT.f i6.2).2.1=x20/\(AT.f i6.2).2.2=x21/\(AT.br i6.2).1=x22/\(AT.br i6.2).2.1=x23/\(AT.br i6.2).2.2=x24/\i6.1.1.1=x1.1/\i6.1.1.2.1=x1.2.1/\i6.1.1.2.2=x1.2.2/\i6.1.2.1=x17/\i6.1.2.2.1=x8/\i6.1.2.2.2=x12+1/\(z0h i6.1/\zh1 (AT.k i6.2)/\(1<=AT.k i6.2/\AT.k i6.2<=14)/\length (AT.sys i6.2)<1000000/\(AT.k i6.2=11->0<=AT.sz i6.2/\AT.sz i6.2<1000000))/\(∀i7,True/\z0a x5 x1 i7->AT.ok i6.2 i7)/\∀(i8:PlB),lfX i6.2 i6.1.2.1 (toNat i6.1.2.2.1)=rsL i8.1 i8.2.1 i8.2.2.2 i8.2.2.1/\0<=i8.2.2.1/\i6.1.2.2.1<=i8.2.2.2/\i8.2.2.2<=(↑(size i6.1.2.1):Int)->∃(i9:VpB),GV.n i9.1=GV.n (z4e i8)/\GV.s i9.1=GV.s (z4e i8)/\(GV.x i9.1).1=(GV.x (z4e i8)).1/\(GV.x i9.1).2.1=(GV.x (z4e i8)).2.1/\(GV.x i9.1).2.2=(GV.x (z4e i8)).2.2/\(GV.y i9.1).1=(GV.y (z4e i8)).1/\(GV.y i9.1).2.1=(GV.y (z4e i8)).2.1/\(GV.y i9.1).2.2=(GV.y (z4e i8)).2.2/\GV.b i9.1=GV.b (z4e i8)/\i9.2.1=i8.2.2.1/\x1.1=i6.1.1.1/\x1.2.1=i6.1.1.2.1/\x1.2.2=i6.1.1.2.2/\x17=i6.1.2.1/\i9.2.2.1=i8.2.2.2/\i9.2.2.2=i6.1.2.2.2/\zaz x6 x1 x17 x18 x8 x5 x12 i9)
 def jas:=(kPa x0=true->∃(i0:PpS),j13 x0 x1 x2 x3 x4 x6 x7 x8 x9 x10 x11 x12 x13 x14 x15 x16 x17 x19 x20 x21 x22 x23 x24 i0 ((zjh x25 i0 (kdP i0.2.2.1/\zjf i0))/\zjg x1 x5 i0/\∀(i2:VpB),agD (bvX (zjj i0) i0.2.1.2.1 i0.2.2.1 (toNat i0.2.1.2.2.1) (toNat i0.2.1.2.2.2)) (GV.pv i2.1) i2.2.2.1 i2.2.2.2 i2.2.1/\zji i2 i0->j12 x6 x1 x17 x18 x8 x5 x12 i2 i0))/\(kPa x0=false->jat x0 x1 x2 x3 x4 x5 x6 x7 x8 x9 x10 x11 x12 x13 x14 x15 x16 x17 x18 x19 x20 x21 x22 x23 x24 x25)
 def jar:=(Ji (x0=12) (zr4 x3 x1 x2 x4 x0 x5 x6 x7 x8 x9 x10 x11 x12 x13 x14 x15 x16 x17 x18 x19 x20 x21 x22 x23 x24 12) (zr4 x3 x1 x2 x4 x0 x5 x6 x7 x8 x9 x10 x11 x12 x13 x14 x15 x16 x17 x18 x19 x20 x21 x22 x23 x24 13))/\∀(i4:Unit),True->jas x0 x1 x9 x12 x18 x5 x4 x7 x6 x17 x10 x11 x8 x13 x14 x15 x16 x2 x3 x19 x20 x21 x22 x23 x24 x25
 def jaq:=(0<=x0/\x0<(↑x1.2.1:Int))/\x1.1≠noA/\∃(i0:Int),∃i1,∃i2,∃(i3:Nat),∃(i4:Nat),∃(i5:Int),∃i6,∃(i7:Nat),∃(i8:Nat),∃(i9:Bool),∃i10,∃(i11:Int),∃i12,∃(i13:Nat),∃(i14:Nat),∃i15,∃(i16:Nat),∃(i17:Nat),(∀i18,True/\z0a x5 x1 i18->q3p i18 (adr x1.1 (toNat x0*10)) [int i64 i0,string i1,slice i2 i3 i4,int i64 i5,slice i6 i7 i8,bool i9,string i10,int i64 i11,slice i12 i13 i14,slice i15 i16 i17])/\Ji (i0=9) (∃(i19:PpS),j13 i0 x1 i1 i5 i11 x3 i3 x4 i10 i2 i4 x6 i6 i7 i8 i9 x2 i12 i13 i14 i15 i16 i17 i19 ((zjh x7 i19 (kd9 i19.2.2.1/\zjf i19))/\zjg x1 x5 i19/\∀(i21:VpB),agD (rcD (zjj i19) i19.2.1.2.1 i19.2.2.1 (toNat i19.2.1.2.2.1) (toNat i19.2.1.2.2.2)) (GV.pv i21.1) i21.2.2.1 i21.2.2.2 i21.2.1/\zji i21 i19->j12 x3 x1 x2 x0 x4 x5 x6 i21 i19)) (jar i0 x1 x2 x0 x3 x5 x4 i3 x6 i1 i2 i4 i5 i6 i7 i8 i9 i10 i11 i12 i13 i14 i15 i16 i17 x7)
 def jap:=Ji (2000<x0+1) (∃(i0:VpB),zfc x3 x1 x2 3 i0 (i0.2.2.2=x0+1/\zaz x4 x1 x2 x6 x3 x5 x0 i0)) (jaq x6 x1 x2 x4 x3 x5 x0 x7)
 def jao:=Jb (x0+1)/\Ji (20<x3) (∃(i0:VpB),zfc x4 x1 x2 3 i0 (i0.2.2.2=x0+1/\zaz x3 x1 x2 x6 x4 x5 x0 i0)) (jap x0 x1 x2 x4 x3 x5 x6 x7)
 def jan:=Ji ((↑x1.2.1:Int)<=x0) (∃(i0:VpB),zfc x3 x1 x2 1 i0 (i0.2.2.2=x4/\zaz x6 x1 x2 x0 x3 x5 x4 i0)) (jao x4 x1 x2 x6 x3 x5 x0 x7)
 def jam:=Ji (x0<0) (∃(i0:VpB),zfc x3 x1 x2 1 i0 (i0.2.2.2=x4/\zaz x6 x1 x2 x0 x3 x5 x4 i0)) (jan x0 x1 x2 x3 x4 x5 x6 x7)
end
def zi7(n:Nat) (S:List AT) (x:SV) (s:ByteArray) (i c t dp:Int):qm3 P (qh2 []) (qi5 [(20,(zb6 kd9 rcD).below z6t (n+1)),(21,(zb6 kdP bvX).below z6t (n+1)),(22,(zb6 ztc unX).below z6t (n+1)),(23,z4x)]) Try.f13 (z3s.below zaa (n+1)) (zvo) ⟨S,⟨x,s,i,c⟩,t,dp⟩=(zaa (S,(x,s,i,c),t,dp)<n+1/\okS S/\z0h (x,s,i,c)/\(0<=c/\c<=2000)/\1<=dp/\dp<=21->(∃(p:Pub),True/\z0a S x p)->jam t x s i c S dp n):=by kernel_rfl
def zod:=λn S x s i c t dp=>Eq.trans (zi7 n S x s i c t dp) (by delta Ji Jb Jt Jf zr5 zfc zaz j13 zjh zjf zjg zjj zji j12 zr4 z4e jat jas jar jaq jap jao jan jam;exact rfl)
section
variable (x0:AT) (x1:Int) (x2:SV) (x3:ByteArray) (x4 x5:Int) (x6:List AT) (x7:Nat) (x8:Nat×Int×Int×List GV) (x9:VpB) (x10:VpS) (x11:Prop) (x12:Nat->Option Obj) (x13:Option Addr)
 abbrev zra:=(↑(AT.f x0).2.1:Int)
 def j14:=(AT.f x0).1=(AT.f x0).1/\(AT.f x0).2.1=(AT.f x0).2.1/\(AT.f x0).2.2=(AT.f x0).2.2/\x11
 def zr8:=x2.1=x2.1/\x2.2.1=x2.2.1/\x2.2.2=x2.2.2/\x11
 def j34:=AT.k x0=AT.k x0/\AT.nm x0=AT.nm x0/\(AT.al x0).1=(AT.al x0).1/\(AT.al x0).2.1=(AT.al x0).2.1/\(AT.al x0).2.2=(AT.al x0).2.2/\AT.it x0=AT.it x0/\(AT.sy x0).1=(AT.sy x0).1/\(AT.sy x0).2.1=(AT.sy x0).2.1/\(AT.sy x0).2.2=(AT.sy x0).2.2/\AT.hd x0=AT.hd x0/\AT.df x0=AT.df x0/\AT.sz x0=AT.sz x0/\j14 x0 ((AT.br x0).1=(AT.br x0).1/\(AT.br x0).2.1=(AT.br x0).2.1/\(AT.br x0).2.2=(AT.br x0).2.2/\x11)
 def zfu:=(True/\z0a x6 x2 x12/\AT.ok x0 x12)/\GV.oks x8.2.2.2 x12
 def j35:=(GV.y x9.1).1=noA/\(GV.y x9.1).2.1=0/\(GV.y x9.1).2.2=0/\GV.b x9.1=0/\x11
 def zr6:=x2.1=x10.2.1.1.1/\x2.2.1=x10.2.1.1.2.1/\x2.2.2=x10.2.1.1.2.2/\x3=x10.2.1.2.1/\x11
 def zr7:=(agD (rcD (gvX x6 x3 x1) x3 x0 (toNat x4) (toNat x5)) (GV.pv x9.1) x9.2.2.1 x9.2.2.2 x9.2.1/\zof x3 x4 x5 x9)
 def jay:=length (z00 GV.cells x8.2.2.2)=length x8.2.2.2*5/\(length x8.2.2.2+nat_lit 1)*80<=140737488355328/\Jb ((↑x8.1:Int)+1)/\∃(i0:Nat×Int×Int×List GV),(zra x0)=(zra x0)/\x1=x1/\(↑i0.1:Int)=(↑x8.1:Int)+1/\j14 x0 (zr6 x2 x3 x10 (i0.2.1=x9.2.2.1/\i0.2.2.1=x9.2.2.2/\j34 x0 (length i0.2.2.2=length x8.2.2.2+nat_lit 1/\z00 GV.cells i0.2.2.2=z00 GV.cells x8.2.2.2++[int u64 (GV.n x9.1),string (GV.s x9.1),slice (GV.x x9.1).1 (GV.x x9.1).2.1 (GV.x x9.1).2.2,slice (GV.y x9.1).1 (GV.y x9.1).2.1 (GV.y x9.1).2.2,int i64 (GV.b x9.1)]/\(∀i1,(zfu x0 x2 x6 x8 i1)/\GV.ok x9.1 i1->True/\z0a x6 x2 i1/\AT.ok x0 i1)/\(∀i2,(zfu x0 x2 x6 x8 i2)/\GV.ok x9.1 i2->GV.oks i0.2.2.2 i2)/\rpI x6 x0 x3 x1 x4 x5 i0.1 i0.2.1 i0.2.2.1 i0.2.2.2/\length (AT.fs x0)- i0.1<length (AT.fs x0)- x8.1/\True)))
 def jax:=((!decide (x9.2.1=0))=true->∃(i0:VpB),GV.n i0.1=0/\GV.s i0.1=mkS []/\(GV.x i0.1).1=noA/\(GV.x i0.1).2.1=0/\(GV.x i0.1).2.2=0/\j35 i0 (i0.2.1=x9.2.1/\zr6 x2 x3 x10 (i0.2.2.1=x9.2.2.1/\i0.2.2.2=x9.2.2.2/\zr7 x0 x1 x3 x4 x5 x6 i0/\(∀i1,(zfu x0 x2 x6 x8 i1)/\GV.ok x9.1 i1->GV.ok i0.1 i1)/\True)))/\((!decide (x9.2.1=0))=false->jay x0 x1 x2 x3 x4 x5 x6 x8 x9 x10)
 def jaw:=(0<=(↑x8.1:Int)/\(↑x8.1:Int)<(zra x0))/\(AT.f x0).1≠noA/\∃i0,∃i1,∃(i2:Nat),∃(i3:Nat),∃(i4:Int),∃(i5:Bool),∃(i6:Int),∃(i7:Int),∃i8,∃i9,∃(i10:Nat),∃(i11:Nat),∃i12,∃(i13:Nat),∃(i14:Nat),(∀i15,zfu x0 x2 x6 x8 i15->q3p i15 (adr (AT.f x0).1 (toNat (↑x8.1:Int)*9)) [string i0,slice i1 i2 i3,int i64 i4,bool i5,int i64 i6,int i64 i7,string i8,slice i9 i10 i11,slice i12 i13 i14])/\Jb (x1+1)/\∃(i16:VpS),i16.2.2.1=i4/\i16.2.2.2=x1+1/\i16.2.1.1.1=x2.1/\i16.2.1.1.2.1=x2.2.1/\i16.2.1.1.2.2=x2.2.2/\i16.2.1.2.1=x3/\i16.2.1.2.2.1=x8.2.1/\i16.2.1.2.2.2=x8.2.2.1/\(zaa i16<x7/\okS i16.1/\z0h (i16.2.1.1,i16.2.1.2.1,i16.2.1.2.2.1,i16.2.1.2.2.2)/\(0<=i16.2.1.2.2.2/\i16.2.1.2.2.2<=2000)/\1<=i16.2.2.2/\i16.2.2.2<=21)/\(∀i17,zfu x0 x2 x6 x8 i17->z0a i16.1 i16.2.1.1 i17)/\∀(i18:VpB),z1u i16.1 (dvX i16.1 i16.2.1.2.1 (toNat ((21:Int)- i16.2.2.2)) i16.2.2.1 (toNat i16.2.1.2.2.1) (toNat i16.2.1.2.2.2)) i16.2.1.2.1 i16.2.1.2.2.1 i16.2.1.2.2.2 i16.2.2.1 i18->(∃i19,(zfu x0 x2 x6 x8 i19)/\GV.ok i18.1 i19)->jax x0 x1 x2 x3 x4 x5 x6 x8 i18 i16
 def zr9:=length x8.2.2.2<=x7/\qik x12 x13 (take (length x8.2.2.2*nat_lit 5) (z00 GV.cells x8.2.2.2))
 def jav:=Ji ((↑x8.1:Int)<(zra x0)) (jaw x0 x1 x2 x3 x4 x5 x6 x7 x8) (∀(i25 i26 i27:Nat) (i28:Option Addr) (i29 i30:Nat),(∃i31,(zfu x0 x2 x6 x8 i31)/\zr9 i30 x8 i31 i28)->∃(i32:VpB),GV.n i32.1=0/\GV.s i32.1=mkS []/\(GV.x i32.1).1=i28/\(GV.x i32.1).2.1=length x8.2.2.2/\(GV.x i32.1).2.2=i30/\j35 i32 (i32.2.1=0/\zr8 x2 (x3=x3/\i32.2.2.1=x8.2.1/\i32.2.2.2=x8.2.2.1/\zr7 x0 x1 x3 x4 x5 x6 i32/\(∀i33,(zfu x0 x2 x6 x8 i33)/\zr9 i30 x8 i33 i28->GV.ok i32.1 i33)/\True)))
 def jau:=(∃(i0:Nat×Int×Int×List GV),(zra x0)=(zra x0)/\x1=x1/\(↑i0.1:Int)=0/\j14 x0 (zr8 x2 (x3=x3/\i0.2.1=x4/\i0.2.2.1=x5/\j34 x0 (length i0.2.2.2=0/\(∀i1,True/\z0a x6 x2 i1/\AT.ok x0 i1->True/\z0a x6 x2 i1/\AT.ok x0 i1)/\(∀i2,True/\z0a x6 x2 i2/\AT.ok x0 i2->GV.oks i0.2.2.2 i2)/\rpI x6 x0 x3 x1 x4 x5 i0.1 i0.2.1 i0.2.2.1 i0.2.2.2/\True))))/\∀(i3:Nat×Int×Int×List GV),rpI x6 x0 x3 x1 x4 x5 i3.1 i3.2.1 i3.2.2.1 i3.2.2.2->(∃i4,zfu x0 x2 x6 i3 i4)->jav x0 x1 x2 x3 x4 x5 x6 x7 i3
end
def zd7(n:Nat) (S:List AT) (x:SV) (s:ByteArray) (i c:Int) (a:AT) (dp:Int):qm3 P (qh2 []) (qi5 [(13,z3s.below zaa n)]) Try.f20 ((zb6 kd9 rcD).below z6t (n+1)) (zvk) ⟨S,⟨x,s,i,c⟩,a,dp⟩=(z6t (S,(x,s,i,c),a,dp)<n+1/\okS S/\a∈S/\kd9 a/\z0h (x,s,i,c)/\(0<=c/\c<=2000)/\1<=dp/\dp<=20->(∃(p:Pub),True/\z0a S x p/\AT.ok a p)->jau a dp x s i c S n):=by kernel_rfl
def zhj:=λn S x s i c a dp=>Eq.trans (zd7 n S x s i c a dp) (by delta Ji Jb Jt Jf zra j14 zr8 j34 zfu j35 zr6 zr7 jay jax jaw zr9 jav jau;exact rfl)
section
variable (x0:Int×DcS) (x1:AT) (x2:List AT) (x3:SV) (x4:Int) (x5:Nat) (x6:ByteArray) (x7 x8:Int) (x9:VpB) (x10:VpS) (x11:Nat->Option Obj) (x12:Nat) (x13:VpB) (x14:Prop)
 abbrev j15:=(↑(chE x0.2.2.1 (toNat x0.2.2.2.1) x0.1):Int)
 def j3a:=(GV.y x9.1).1=noA/\(GV.y x9.1).2.1=0/\(GV.y x9.1).2.2=0/\x14
 def j38:=GV.n x9.1=0/\GV.s x9.1=mkS []/\(GV.x x9.1).1=noA/\(GV.x x9.1).2.1=0/\(GV.x x9.1).2.2=0/\j3a x9 (GV.b x9.1=0/\x14)
 abbrev zrb:=lgR x0.2.2.1 (toNat x0.2.2.2.1)
 def j39:=(agD (unX (gvX x2 x6 x4) x6 x1 (toNat x7) (toNat x8)) (GV.pv x9.1) x9.2.2.1 x9.2.2.2 x9.2.1/\zof x6 x7 x8 x9)
 def j37:=x3.1=x10.2.1.1.1/\x3.2.1=x10.2.1.1.2.1/\x3.2.2=x10.2.1.1.2.2/\x6=x10.2.1.2.1/\x9.2.2.1=x13.2.2.1/\x9.2.2.2=x13.2.2.2/\j39 x1 x2 x4 x6 x7 x8 x9/\x14
 def j36:=((True/\z0a x2 x3 x11/\AT.ok x1 x11)/\GV.ok x9.1 x11)/\q3p x11 (Addr.mk x5 x12 none) [int u64 (GV.n x9.1),string (GV.s x9.1),slice (GV.x x9.1).1 (GV.x x9.1).2.1 (GV.x x9.1).2.2,slice (GV.y x9.1).1 (GV.y x9.1).2.1 (GV.y x9.1).2.2,int i64 (GV.b x9.1)]
 def jb0:=((!decide (x9.2.1=0))=true->∃(i0:VpB),j38 i0 (i0.2.1=x9.2.1/\j37 x1 x2 x3 x4 x6 x7 x8 i0 x10 x9 ((∀i1,(True/\z0a x2 x3 i1/\AT.ok x1 i1)/\GV.ok x9.1 i1->GV.ok i0.1 i1)/\True)))/\((!decide (x9.2.1=0))=false->∀(i2 i3 i4:Nat),(∃i5,j36 x1 x2 x3 i2 x9 i5 i3)->∃(i6:VpB),GV.n i6.1=0/\GV.s i6.1=mkS []/\(GV.x i6.1).1=some (Addr.mk i2 (i3+nat_lit 0) none)/\(GV.x i6.1).2.1=nat_lit 1/\(GV.x i6.1).2.2=nat_lit 1/\j3a i6 (GV.b i6.1=(zrb x0).1/\i6.2.1=0/\j37 x1 x2 x3 x4 x6 x7 x8 i6 x10 x9 ((∀i7,j36 x1 x2 x3 i2 x9 i7 i3->GV.ok i6.1 i7)/\True)))
 def jaz:=(0<=(zrb x0).1/\(zrb x0).1<(↑(AT.br x1).2.1:Int))/\(AT.br x1).1≠noA/\∃(i0:Int),(∀i1,True/\z0a x2 x3 i1/\AT.ok x1 i1->q3p i1 (adr (AT.br x1).1 (toNat (zrb x0).1*1)) [int i64 i0])/\Jb (x4+1)/\∃(i2:VpS),i2.2.2.1=i0/\i2.2.2.2=x4+1/\i2.2.1.1.1=x0.2.1.1/\i2.2.1.1.2.1=x0.2.1.2.1/\i2.2.1.1.2.2=x0.2.1.2.2/\i2.2.1.2.1=x0.2.2.1/\i2.2.1.2.2.1=(↑(zrb x0).2.2:Int)/\i2.2.1.2.2.2=x0.2.2.2.2/\(zaa i2<x5/\okS i2.1/\z0h (i2.2.1.1,i2.2.1.2.1,i2.2.1.2.2.1,i2.2.1.2.2.2)/\(0<=i2.2.1.2.2.2/\i2.2.1.2.2.2<=2000)/\1<=i2.2.2.2/\i2.2.2.2<=21)/\(∀i3,True/\z0a x2 x3 i3/\AT.ok x1 i3->z0a i2.1 i2.2.1.1 i3)/\∀(i4:VpB),z1u i2.1 (dvX i2.1 i2.2.1.2.1 (toNat ((21:Int)- i2.2.2.2)) i2.2.2.1 (toNat i2.2.1.2.2.1) (toNat i2.2.1.2.2.2)) i2.2.1.2.1 i2.2.1.2.2.1 i2.2.1.2.2.2 i2.2.2.1 i4->(∃i5,(True/\z0a x2 x3 i5/\AT.ok x1 i5)/\GV.ok i4.1 i5)->jb0 x0 x1 x2 x3 x4 x6 x7 x8 i4 i2
end
def zi3(n:Nat) (S:List AT) (x:SV) (s:ByteArray) (i c:Int) (a:AT) (dp:Int):qm3 P (qh2 [(41,z4u)]) (qi5 [(13,z3s.below zaa n)]) Try.f22 ((zb6 ztc unX).below z6t (n+1)) (zvn) ⟨S,⟨x,s,i,c⟩,a,dp⟩=(z6t (S,(x,s,i,c),a,dp)<n+1/\okS S/\a∈S/\ztc a/\z0h (x,s,i,c)/\(0<=c/\c<=2000)/\1<=dp/\dp<=20->(∃(p:Pub),True/\z0a S x p/\AT.ok a p)->∃(s_1:Int×DcS),s_1.1=(↑(AT.br a).2.1:Int)/\s_1.2.1.1=x.1/\s_1.2.1.2.1=x.2.1/\s_1.2.1.2.2=x.2.2/\s_1.2.2.1=s/\s_1.2.2.2.1=i/\s_1.2.2.2.2=c/\z0h s_1.2/\((!decide ((j15 s_1)=0))=true->∃(b:VpB),j38 b (b.2.1=(j15 s_1)/\x.1=s_1.2.1.1/\x.2.1=s_1.2.1.2.1/\x.2.2=s_1.2.1.2.2/\s=s_1.2.2.1/\b.2.2.1=(↑(zrb s_1).2.2:Int)/\b.2.2.2=s_1.2.2.2.2/\j39 a S dp s i c b/\(∀(p:Pub),True/\z0a S x p/\AT.ok a p->GV.ok b.1 p)/\True))/\((!decide ((j15 s_1)=0))=false->jaz s_1 a S x dp n s i c)):=by kernel_rfl
def zob:=λn S x s i c a dp=>Eq.trans (zi3 n S x s i c a dp) (by delta Jb j15 j3a j38 zrb j39 j37 j36 jb0 jaz;exact rfl)
open Go.Proofs.Ytniogjgfomaicaa.Rv
def z3p:q5k P 46 z3q:=by
 refine qm5 mixed z0p (W:=λ_=>{}) Try.func46 (by kernel_rfl) (by decide) (by decide) (λs=>by kernel_rfl) λ⟨(k:Int),(x:SV),s,(i:Int),(c:Int)⟩=>(zbg k x s i c).mpr ?_
 rintro⟨⟨h1,h2,h3⟩,h4,h5⟩
 simp only[decide_eq_true_eq,decide_eq_false_iff_not,true_and,and_true,eq_self]
 have bad:(k<0\/(s.size:Int)- i<k)->btP s i.toNat k=(mkS [],2,i):=λh=>by
  unfold btP;rw[if_pos (by omega),Int.toNat_of_nonneg h1]
 refine⟨λh=>⟨λ_=>by rw[bad (.inl h)];exact⟨rfl,rfl,rfl⟩,λg=>absurd h g⟩,λh=>⟨⟨by omega,by omega⟩,λg=>absurd g h,λ_=>⟨λg=>by rw[bad (.inr g)];exact⟨rfl,rfl,rfl⟩,λg=>⟨⟨by omega,by omega⟩,⟨h1,by omega,by omega⟩,?_⟩⟩⟩⟩
 unfold btP
 rw[if_neg (by omega),Int.toNat_of_nonneg h1,show(i+k).toNat=i.toNat+k.toNat by omega]
 exact⟨rfl,rfl,rfl⟩
def zcs:∀(l:List UInt8) (j:Nat) (h:j<l.length),loL (l.take (j+1))=loL (l.take j)+256 ^ j*l[j].toNat
  |c::l,0,_=>by simp[loL]
  | c::l,j+1,h=>by
    have hj:j<l.length:=by simpa using h
    have:=zcs l j hj
    rw[List.take_succ_cons,List.take_succ_cons,loL,loL,this,List.getElem_cons_succ,Nat.pow_succ,Nat.mul_add]
    rw[show 256 ^ j*256*l[j].toNat=256*(256 ^ j*l[j].toNat)by rw[Nat.mul_comm (256 ^ j) 256,Nat.mul_assoc]]
    omega
def znh(v b j:Nat) (hv:v<256 ^ j) (hj:j<8) (hb:b<256):qbu .or .u64 (v:Int) (shP .shl .u64 (b:Int) (IntKind.wrap .u64 (8*IntKind.wrap .u64 (j:Int))))=((v+256 ^ j*b:Nat):Int):=by
 have hw:IntKind.wrap .u64 (8*IntKind.wrap .u64 (j:Int))=((8*j:Nat):Int):=by rw[wrap_u64,wrap_u64];omega
 have hp:(2:Nat) ^ (8*j)=256 ^ j:=by rw[Nat.pow_mul]
 have h7:256 ^ j<=256 ^ 7:=Nat.pow_le_pow_right (by decide) (by omega)
 have h56:(256:Nat) ^ 7=72057594037927936:=by decide
 have hbb:256 ^ j*b<=256 ^ j*255:=Nat.mul_le_mul_left _ (by omega)
 have hs:shP .shl .u64 (b:Int) (IntKind.wrap .u64 (8*IntKind.wrap .u64 (j:Int)))=((256 ^ j*b:Nat):Int):=by
  rw[hw]
  show IntKind.wrap .u64 ((b:Int)*2 ^ min ((8*j:Nat):Int).toNat 64)=_
  rw[wrap_u64,Int.toNat_natCast,Nat.min_eq_left (by omega)]
  have:((b:Int)*2 ^ (8*j))=((256 ^ j*b:Nat):Int):=by rw[←hp,Nat.mul_comm];norm_cast;exact Nat.mul_comm _ _
  rw[this];omega
 rw[hs]
 show IntKind.wrap .u64 (BitVec.ofInt 64 (v:Int)|||BitVec.ofInt 64 ((256 ^ j*b:Nat):Int)).toNat=_
 rw[BitVec.toNat_or,z1s _ (by omega),z1s _ (by omega)]
 have:=Nat.two_pow_add_eq_or_of_lt (b:=v) (i:=8*j) (by rw[hp];exact hv) b
 rw[hp]at this
 rw[Nat.or_comm,←this,wrap_u64];omega
def zc2:q5k P 42 z4v:=by
 refine qm5 mixed (qee (qih z3p qlq)) (W:=ze5) Try.func42 (by kernel_rfl) (by decide) (by decide) (λs=>by kernel_rfl) λ⟨(k:Int),(x:SV),s,(i:Int),(c:Int)⟩=>(zc1 k x s i c).mpr ?_
 rintro⟨h1,h4,h5⟩
 have hf:=z29 (D:=s) (i:=i.toNat) (k:=k) (by have:=h1.1;have:=h1.2.1;omega)
 have hz:(btP s i.toNat k).1.size<=8:=by
  by_cases h:(btP s i.toNat k).2.1=0
  ·have:=hf.2.2 h;omega
  ·unfold btP at h⊢
   split
   ·show 0<=8;decide
   ·rename_i hh;rw[if_neg hh]at h;exact absurd rfl h
 generalize btP s i.toNat k=T at*
 obtain⟨r,e1,m⟩:=T
 simp only[decide_eq_true_eq,decide_eq_false_iff_not,true_and,and_true,eq_self]at hz⊢
 have hlen:r.data.toList.length=r.size:=rfl
 refine⟨⟨h1,by omega,by omega⟩,⟨0,rfl,rfl,Nat.zero_le _⟩,λj hj=>⟨λhlt=> ?_,λhge=> ?_⟩⟩
 ·have hjr:j<r.size:=by omega
  have hb:=z25 r j
  have hl:=z8x (r.data.toList.take j)
  rw[List.length_take,hlen,Nat.min_eq_left (by omega)]at hl
  refine⟨⟨by omega,by omega⟩,⟨by omega,by rw[Int.toNat_natCast];omega⟩,by rw[wrap_u64,wrap_u64];omega,⟨by omega,by omega⟩,j+1,?_,by omega,by omega,by omega⟩
  rw[Int.toNat_natCast,znh _ _ _ hl (by omega) hb,zcs _ _ (by rw[hlen];exact hjr),ztq hjr]
  rfl
 ·have:j=r.size:=by omega
  subst this
  unfold loS
  rw[←hlen,List.take_length]
def z99:q5k P 44 z8g:=by
 refine qm5 mixed (qee (qih z54 (qih z3p qlq))) (W:=λ_=>{}) Try.func44 (by kernel_rfl) (by decide) (by decide) (λs=>by kernel_rfl) λ⟨(x:SV),s,(i:Int),(c:Int)⟩=>(zhx x s i c).mpr ?_
 intro h
 have hf:=z10 s i.toNat (by have:=h.1;have:=h.2.1;omega)
 simp only[decide_eq_true_eq,decide_eq_false_iff_not,Bool.not_eq_true',Bool.not_eq_false',true_and,and_true,eq_self]
 unfold txP
 refine⟨h,λhe=> ?_,λhe=>⟨λh5=> ?_,λh5=>⟨⟨⟨by show(0:Int)<=(_:Nat);omega,by show((_:Nat):Int)<=_;omega,h.2.2⟩,by omega,by omega⟩,?_⟩⟩⟩
 ·rw[if_pos (by omega)];exact⟨rfl,rfl,rfl⟩
 ·rw[if_neg (by omega),if_pos h5];exact⟨rfl,rfl,rfl⟩
 ·rw[if_neg (by omega),if_neg h5,Int.toNat_natCast];exact⟨rfl,rfl,rfl⟩
def z6e:q5k P 45 z50:=by
 refine qm5 mixed (qee (qih z99 (qih zi9 qlq))) (W:=λ_=>{}) Try.func45 (by kernel_rfl) (by decide) (by decide) (λs=>by kernel_rfl) λ⟨(x:SV),s,(i:Int),(c:Int)⟩=>(zdv x s i c).mpr ?_
 intro h
 have hf:=z3m (D:=s) (i:=i.toNat) (by have:=h.1;have:=h.2.1;omega)
 simp only[decide_eq_true_eq,decide_eq_false_iff_not,Bool.not_eq_true',Bool.not_eq_false',true_and,and_true,eq_self]
 unfold vlE
 refine⟨h,λhe=>⟨by omega,λhv=> ?_,λhv=> ?_⟩,λhe=> ?_⟩
 ·rw[if_pos ⟨he,hv⟩]
 ·rw[if_neg (by rw[hv];simp)]
 ·rw[if_neg (λq=>he q.1)]
open Go.Proofs.Ytniogjgfomaicaa.Rv
def plB{a:AT} {s:ByteArray} {n:Nat} {N e' i' i:Int} {r:ByteArray} (h1:lfX a s n=rsL N r i' e') (h2:0<=e') (h3:i<=i') (h4:i'<=s.size):∃b:PlB,(GV.mk b.1 b.2.1 (noA,0,0) [] (noA,0,0) [] 0).n=N/\(GV.mk b.1 b.2.1 (noA,0,0) [] (noA,0,0) [] 0).s=r/\(GV.mk b.1 b.2.1 (noA,0,0) [] (noA,0,0) [] 0).x.1=noA/\(GV.mk b.1 b.2.1 (noA,0,0) [] (noA,0,0) [] 0).x.2.1=0/\(GV.mk b.1 b.2.1 (noA,0,0) [] (noA,0,0) [] 0).x.2.2=0/\(GV.mk b.1 b.2.1 (noA,0,0) [] (noA,0,0) [] 0).y.1=noA/\(GV.mk b.1 b.2.1 (noA,0,0) [] (noA,0,0) [] 0).y.2.1=0/\(GV.mk b.1 b.2.1 (noA,0,0) [] (noA,0,0) [] 0).y.2.2=0/\(GV.mk b.1 b.2.1 (noA,0,0) [] (noA,0,0) [] 0).b=0/\b.2.2.1=e'/\b.2.2.2=i'/\lfX a s n=rsL b.1 b.2.1 b.2.2.2 b.2.2.1/\0<=b.2.2.1/\i<=b.2.2.2/\b.2.2.2<=s.size:=
 ⟨(N,r,e',i'),rfl,rfl,rfl,rfl,rfl,rfl,rfl,rfl,rfl,rfl,rfl,h1,h2,h3,h4⟩
def zts{D:ByteArray} {i:Nat} {k:Int} (h:(btP D i k).2.1≠0):(btP D i k).1=mkS []:=by
 unfold btP at h⊢
 split
 ·rfl
 ·rename_i hh;rw[if_neg hh]at h;exact absurd rfl h
def zef{v:Int}:v=IntKind.wrap .i32 v↔¬(v< -2147483648\/2147483648<=v):=by
 simp[IntKind.wrap,IntKind.bits,IntKind.signed];omega
def zmv(v:Int): -9223372036854775808<=IntKind.wrap .i32 v/\IntKind.wrap .i32 v<=9223372036854775807:=by
 simp[IntKind.wrap,IntKind.bits,IntKind.signed];omega
def zd1:q22 P 23 z4x:=by
 refine qlb mixed (qee (qih zc2 (qih z54 (qih z62 (qih z99 (qih z6e (qih z3p qlq))))))) (qf7 qlp) (W:=ze7) Try.func23 (by kernel_rfl) (show 1<=2 by decide) (show 2<=2 by decide) (λs=>by kernel_rfl) λ⟨⟨(x:SV),s,(i:Int),(c:Int)⟩,a⟩=>(zd0 x s i c a).mpr ?_
 rintro⟨h,hl,hk,hsy,hsz⟩ ⟨p,_,ha⟩
 obtain⟨_,syl,_,_⟩:=z1w ha
 have hi:=h.1
 have hi2:=h.2.1
 simp only[sbS,exists_const,forall_const,Int.toNat_natCast]
 have lg:=z10 s i.toNat (by omega)
 have hp:z0h ((x.1,x.2.1,x.2.2),s,i,c):=h
 have low:∀k:Int,lfX a s i.toNat=(btX s i.toNat k).bind (λr=> .ok (pvN (loS r.1),r.2))->_:=λk hl=>(by
  have hf:=z29 (D:=s) (i:=i.toNat) (k:=k) (by omega)
  unfold btX rsT at hl
  exact plB (i:=i) (N:=loS (btP s i.toNat k).1) (r:=mkS []) (e':=(btP s i.toNat k).2.1) (i':=(btP s i.toNat k).2.2) (by
   rw[hl];unfold rsL
   by_cases h:(btP s i.toNat k).2.1=0
   ·rw[if_pos h,if_pos h];rfl
   ·rw[if_neg h,if_neg h];rfl) hf.1.1 (by omega) hf.2.1.2)
 have txt:∀(t:ByteArray×Int×Int) (e:Int),0<=e->i<=t.2.2->t.2.2<=s.size->lfX a s i.toNat=(rsT t e).bind (λr=> .ok (pvS r.1,r.2))->_:=λt e h0 h1 h2 hl=>plB (i:=i) (N:=0) (r:=t.1) (e':=e) (i':=t.2.2) (by
   rw[hl];unfold rsT rsL
   by_cases h:e=0
   ·rw[if_pos h,if_pos h];rfl
   ·rw[if_neg h,if_neg h];rfl) h0 h1 h2
 refine⟨λk1=>plB (r:=mkS []) (by unfold lfX;rw[if_pos k1];rfl) (Int.le_refl _) (Int.le_refl _) hi2,λk1=>⟨λk2=>⟨⟨hp,by decide,by decide⟩,?_⟩,λk2=>⟨⟨λh=>by unfold kIt;exact z2l (by omega),λh=>by unfold kIt;exact z2l (by omega)⟩,λhI=>⟨hp,?_⟩,λhI=> ?_⟩⟩⟩
 ·have hf:=z29 (D:=s) (i:=i.toNat) (k:=1) (by omega)
  have hl:lfX a s i.toNat=(btX s i.toNat 1).bind λr=>if 1<loS r.1 then .no 1 else .ok (pvN (loS r.1),r.2):=by unfold lfX;rw[if_neg k1,if_pos k2]
  unfold btX rsT at hl
  have her:=zts (D:=s) (i:=i.toNat) (k:=1)
  generalize btP s i.toNat 1=T at*
  obtain⟨r,e1,m⟩:=T
  simp only at hf hl her⊢
  refine⟨λh1=>plB (r:=mkS []) ?_ (by decide) (by omega) hf.2.1.2,λh1=>plB (r:=mkS []) ?_ hf.1.1 (by omega) hf.2.1.2⟩
  ·have h0:e1=0:=by
    by_cases h0:e1=0
    ·exact h0
    ·rw[her h0]at h1;exact absurd h1 (by decide)
   rw[if_pos h0,z0o,if_pos h1]at hl
   rw[hl];rfl
  ·by_cases h0:e1=0
   ·rw[if_pos h0,z0o,if_neg h1]at hl
    rw[hl,h0];rfl
   ·rw[if_neg h0,z1n]at hl
    rw[hl];unfold rsL;rw[if_neg h0]
 ·unfold kIt at hI
  rw[decide_eq_true_eq]at hI
  have h3:a.k=3->lfX a s i.toNat=(lgX s i.toNat).bind λr=>if r.1< -2147483648\/2147483648<=r.1 then .no 1 else .ok (pvN (r.1 % 18446744073709551616),r.2):=λh=>by unfold lfX;rw[if_neg k1,if_neg k2,if_pos h]
  have h4:¬a.k=3->lfX a s i.toNat=(lgX s i.toNat).bind λr=> .ok (pvN (r.1 % 18446744073709551616),r.2):=λh=>by unfold lfX;rw[if_neg k1,if_neg k2,if_neg h,if_pos (by omega)]
  have hz:(lgR s i.toNat).2.1≠0->(lgR s i.toNat).1=0:=λh=>by
   unfold lgR verr at h
   unfold lgR vval
   simp only at h⊢
   cases hv:vdec (s.data.toList.drop i.toNat) 0 0 with
   |none=>rfl
   |some w=>rw[hv]at h;exact absurd rfl h
  unfold lgX at h3 h4
  have hr:=zmv (lgR s i.toNat).1
  generalize lgR s i.toNat=T at*
  obtain⟨v,e1,m⟩:=T
  simp only[wrap_u64]at lg h3 h4 hz hr⊢
  rw[zef]
  refine⟨λk3=>⟨hr,λhb=>plB (r:=mkS []) ?_ (by decide) (by omega) (by omega),λhg=>plB (r:=mkS []) ?_ (by omega) (by omega) (by omega)⟩,λk3=>plB (r:=mkS []) ?_ (by omega) (by omega) (by omega)⟩
  ·have hb:=Classical.not_not.1 hb
   have h0:e1=0:=by
    by_cases h0:e1=0
    ·exact h0
    ·have:=hz h0;omega
   rw[h3 k3,if_pos h0,z0o,if_pos hb];rfl
  ·rw[h3 k3];unfold rsL
   by_cases h0:e1=0
   ·rw[if_pos h0,z0o,if_neg hg,if_pos (by omega),Int.toNat_natCast];rfl
   ·rw[if_neg h0,z1n,if_neg (by omega)];congr 1;omega
  ·rw[h4 k3];unfold rsL
   by_cases h0:e1=0
   ·rw[if_pos h0,z0o,if_pos (by omega),Int.toNat_natCast];rfl
   ·rw[if_neg h0,z1n,if_neg (by omega)];congr 1;omega
 unfold kIt at hI
 rw[decide_eq_false_iff_not]at hI
 have k34:¬a.k=3/\¬a.k=4:=by omega
 refine⟨λk5=>⟨⟨hp,by decide,by decide⟩,low 4 (by unfold lfX;rw[if_neg k1,if_neg k2,if_neg k34.1,if_neg k34.2,if_pos k5])⟩,λk5=>⟨λk6=>⟨⟨hp,by decide,by decide⟩,low 8 (by unfold lfX;rw[if_neg k1,if_neg k2,if_neg k34.1,if_neg k34.2,if_neg k5,if_pos k6])⟩,λk6=>⟨λk10=> ?_,λk10=>⟨λk7=>⟨hp,?_⟩,λk7=>⟨λk8=>⟨hp,?_⟩,λk8=>⟨λk11=> ?_,λk11=> ?_⟩⟩⟩⟩⟩⟩
 ·refine⟨⟨(a.sy.2.1:Int),x,s,i,c⟩,rfl,rfl,rfl,rfl,rfl,rfl,rfl,h,?_⟩
  have hl:lfX a s i.toNat=(ixX s i.toNat a.sys.length).bind λr=> .ok (pvN r.1,r.2):=by unfold lfX;rw[if_neg k1,if_neg k2,if_neg k34.1,if_neg k34.2,if_neg k5,if_neg k6,if_neg (by omega),if_neg (by omega),if_pos k10]
  unfold ixX at hl
  rw[←syl]at hl
  simp only[true_and,and_true,eq_self,wrap_u64]
  refine plB (r:=mkS []) ?_ (by omega) (by omega) (by omega)
  rw[hl]
  unfold rsL
  by_cases h1:chE s i.toNat a.sy.2.1=0
  ·have hrr:0<=(lgR s i.toNat).1:=by unfold chE at h1;split at h1<;>omega
   rw[if_pos h1,if_pos (by omega),z0o,Int.emod_eq_of_lt hrr (by omega),Int.toNat_natCast]
   rfl
  ·rw[if_neg h1,if_neg (by omega),z1n]
   congr 1;omega
 ·have hf:=z3m (D:=s) (i:=i.toNat) (by omega)
  exact txt _ _ hf.1.1 (by omega) hf.2.1.2 (by unfold lfX;rw[if_neg k1,if_neg k2,if_neg k34.1,if_neg k34.2,if_neg k5,if_neg k6,if_pos k7];rfl)
 ·have hf:=z3m (D:=s) (i:=i.toNat) (by omega)
  exact txt _ _ (by unfold vlE;split<;>omega) (by omega) hf.2.1.2 (by unfold lfX;rw[if_neg k1,if_neg k2,if_neg k34.1,if_neg k34.2,if_neg k5,if_neg k6,if_neg k7,if_pos k8];rfl)
 ·have hz:=hsz k11
  refine⟨⟨hp,by omega,by omega⟩,?_⟩
  have hf:=z29 (D:=s) (i:=i.toNat) (k:=a.sz) (by omega)
  exact txt _ _ hf.1.1 (by omega) hf.2.1.2 (by unfold lfX;rw[if_neg k1,if_neg k2,if_neg k34.1,if_neg k34.2,if_neg k5,if_neg k6,if_neg k7,if_neg k8,if_neg k10,if_pos k11];rfl)
 ·exact absurd hl (by unfold zh1;omega)
def ze2{S:List AT} {R:RdT} {s:ByteArray} {i c t:Int} {b:VpB} (h:inT S t) (h1:agD R b.1.pv b.2.2.1 b.2.2.2 b.2.1) (h2:zof s i (c+1) b):z1u S R s i c t b:=by
 obtain⟨r,e',i',c'⟩:=b
 obtain⟨a1,⟨a2,a3⟩,a4⟩:=h2
 exact⟨λ_=>⟨h1,a2⟩,λg=>absurd h g,a1,⟨by omega,a3⟩,a4⟩
def zoe(n:Nat) (hr:q22 P 20 ((zb6 kd9 rcD).below z6t (n+1))) (hb:q22 P 21 ((zb6 kdP bvX).below z6t (n+1))) (hu:q22 P 22 ((zb6 ztc unX).below z6t (n+1))):q22 P 13 (z3s.below zaa (n+1)):=by
 refine qlb mixed (qee qlq) (qf7 (qig hr (qig hb (qig hu (qig zd1 qlp))))) (W:=zvo) Try.func13 (by kernel_rfl) (show 1<=2 by decide) (show 2<=2 by decide) (λs=>by kernel_rfl) λ⟨S,⟨(x:SV),s,(i:Int),(c:Int)⟩,(t:Int),(dp:Int)⟩=>(zod n S x s i c t dp).mpr ?_
 rintro⟨hmu,hok,h,⟨hc0,hc1⟩,hp1,hp2⟩ ⟨p,_,hx⟩
 have hmu:(25- dp).toNat<n+1:=hmu
 have hi:=h.1
 have hi2:=h.2.1
 have xs:x.2.1=S.length:=hx.1.1
 simp only[sbS,exists_const,forall_const,Int.toNat_natCast]
 have out:∀b:VpB,b=(zV,1,i,c)->¬inT S t->z1u S (dvX S s (21- dp).toNat t i.toNat c.toNat) s i c t b:=λb hb h=>by
  subst hb
  exact⟨λg=>absurd g h,λ_=>rfl,⟨Int.le_refl _,hi2⟩,⟨Int.le_refl _,by show c<=2001;omega⟩,λg=>absurd (show(1:Int)=0 from g) (by decide)⟩
 refine⟨λh0=>⟨⟨zV,1,i,c⟩,rfl,rfl,rfl,rfl,rfl,rfl,rfl,rfl,rfl,rfl,rfl,rfl,out _ rfl (by unfold inT;omega),λq _=>z1d q⟩,λh0=>⟨λh1=>⟨⟨zV,1,i,c⟩,rfl,rfl,rfl,rfl,rfl,rfl,rfl,rfl,rfl,rfl,rfl,rfl,out _ rfl (by unfold inT;omega),λq _=>z1d q⟩,λh1=>⟨⟨by omega,by omega⟩,?_⟩⟩⟩
 have hin:inT S t:=by unfold inT;omega
 have lim:∀b:VpB,b=(zV,3,i,c+1)->(20<dp\/2000<c+1)->z1u S (dvX S s (21- dp).toNat t i.toNat c.toNat) s i c t b:=λb hb h=>by
  subst hb
  rw[j1b hp1 hp2 hc0 h]
  exact ze2 hin rfl ⟨⟨Int.le_refl _,hi2⟩,⟨Int.le_refl _,by show c+1<=2001;omega⟩,λg=>absurd (show(3:Int)=0 from g) (by decide)⟩
 refine⟨λh20=>⟨⟨zV,3,i,c+1⟩,rfl,rfl,rfl,rfl,rfl,rfl,rfl,rfl,rfl,rfl,rfl,rfl,lim _ rfl (.inl h20),λq _=>z1d q⟩,λh20=>⟨λhA=>⟨⟨zV,3,i,c+1⟩,rfl,rfl,rfl,rfl,rfl,rfl,rfl,rfl,rfl,rfl,rfl,rfl,lim _ rfl (.inr hA),λq _=>z1d q⟩,λhA=> ?_⟩⟩
 obtain⟨j,rfl⟩:=Int.eq_ofNat_of_zero_le hin.1
 have hj:j<S.length:=by have:=hin.2;omega
 rw[zu2 hj hp1 h20 hc0 hA]
 have htp:=λq (hq:z0a S x q)=>z9e hq hj
 have hao:=λq (hq:z0a S x q)=>hq.2 S[j] (List.getElem_mem hj)
 have hkd:=hok.2.1 S[j] (List.getElem_mem hj)
 have hrg:=hok.2.2 S[j] (List.getElem_mem hj)
 have sm:=hok.1.2 S[j] (List.getElem_mem hj)
 refine⟨⟨by omega,by omega⟩,(htp p hx).1,S[j].k,S[j].nm,S[j].al.1,S[j].al.2.1,S[j].al.2.2,S[j].it,S[j].sy.1,S[j].sy.2.1,S[j].sy.2.2,S[j].hd,S[j].df,S[j].sz,S[j].f.1,S[j].f.2.1,S[j].f.2.2,S[j].br.1,S[j].br.2.1,S[j].br.2.2,λq hq=>(htp q hq).2,?_⟩
 have hcc:0<=c+1/\c+1<=2000:=by omega
 have hdd:1<=dp/\dp<=20:=by omega
 refine⟨λk9=> ?_,λk9=>⟨⟨λh=>by unfold kPa;exact z2l (by omega),λh=>by unfold kPa;exact z2l (by omega)⟩,λkp=> ?_,λkp=>⟨λk14=> ?_,λk14=> ?_⟩⟩⟩
 ·have hva:vaX (gvX S s dp) s S[j] i.toNat (c+1).toNat=rcD (gvX S s dp) s S[j] i.toNat (c+1).toNat:=by unfold vaX rcD;rw[if_pos k9]
  rw[hva]
  refine⟨⟨S,⟨x,s,i,c+1⟩,S[j],dp⟩,?_⟩
  simp only[true_and,and_true,eq_self]
  refine⟨⟨hmu,hok,List.getElem_mem hj,k9,h,hcc,hdd⟩,λq hq=>⟨hq,hao q hq⟩,?_⟩
  rintro⟨r,e',i',c'⟩ ⟨g1,g2⟩ _
  exact⟨⟨r,e',i',c'⟩,rfl,rfl,rfl,rfl,rfl,rfl,rfl,rfl,rfl,rfl,rfl,rfl,ze2 hin g1 g2,λq hq=>hq.2⟩
 ·unfold kPa at kp
  rw[decide_eq_true_eq]at kp
  have hva:vaX (gvX S s dp) s S[j] i.toNat (c+1).toNat=bvX (gvX S s dp) s S[j] i.toNat (c+1).toNat:=by unfold vaX;rw[if_neg k9,if_neg (by omega),if_pos kp]
  rw[hva]
  refine⟨⟨S,⟨x,s,i,c+1⟩,S[j],dp⟩,?_⟩
  simp only[true_and,and_true,eq_self]
  refine⟨⟨hmu,hok,List.getElem_mem hj,kp,h,hcc,hdd⟩,λq hq=>⟨hq,hao q hq⟩,?_⟩
  rintro⟨r,e',i',c'⟩ ⟨g1,g2⟩ _
  exact⟨⟨r,e',i',c'⟩,rfl,rfl,rfl,rfl,rfl,rfl,rfl,rfl,rfl,rfl,rfl,rfl,ze2 hin g1 g2,λq hq=>hq.2⟩
 ·have hva:vaX (gvX S s dp) s S[j] i.toNat (c+1).toNat=unX (gvX S s dp) s S[j] i.toNat (c+1).toNat:=by unfold vaX;rw[if_neg k9,if_pos k14]
  rw[hva]
  refine⟨⟨S,⟨x,s,i,c+1⟩,S[j],dp⟩,?_⟩
  simp only[true_and,and_true,eq_self]
  refine⟨⟨hmu,hok,List.getElem_mem hj,k14,h,hcc,hdd⟩,λq hq=>⟨hq,hao q hq⟩,?_⟩
  rintro⟨r,e',i',c'⟩ ⟨g1,g2⟩ _
  exact⟨⟨r,e',i',c'⟩,rfl,rfl,rfl,rfl,rfl,rfl,rfl,rfl,rfl,rfl,rfl,rfl,ze2 hin g1 g2,λq hq=>hq.2⟩
 ·unfold kPa at kp
  rw[decide_eq_false_iff_not]at kp
  refine⟨⟨⟨x,s,i,c+1⟩,S[j]⟩,?_⟩
  simp only[true_and,and_true,eq_self]
  refine⟨⟨h,⟨k9,k14,by omega,by omega⟩,hkd,sm.2.2,hrg.2.2.2⟩,λq hq=>hao q hq,?_⟩
  rintro⟨N,r,e',i'⟩ ⟨g1,g2,g3,g4⟩
  refine⟨⟨.mk N r (none,0,0) [] (none,0,0) [] 0,e',i',c+1⟩,rfl,rfl,rfl,rfl,rfl,rfl,rfl,rfl,rfl,rfl,rfl,rfl,ze2 hin ?_ ⟨⟨g3,g4⟩,⟨Int.le_refl _,by show c+1<=2001;omega⟩,λ_=>hcc.2⟩,λq _=> ?_⟩
  ·unfold vaX
   rw[if_neg k9,if_neg k14,if_neg kp,g1]
   unfold rsL
   have g2:0<=e':=g2
   have g3:i<=i':=g3
   split
   ·rw[z0o];exact⟨by assumption,by rw[GV.pv,GV.pvs],by show i'=((i'.toNat:Nat):Int);omega,by show c+1=(((c+1).toNat:Nat):Int);omega⟩
   ·rename_i hne;have hne:¬e'=0:=hne;rw[z1n];show e'=(((e'- 1).toNat:Nat):Int)+1;omega
  ·unfold GV.ok GV.oks;exact⟨z06,z06,trivial⟩
def zhk(n:Nat) (hv:q22 P 13 (z3s.below zaa n)):q22 P 20 ((zb6 kd9 rcD).below z6t (n+1)):=by
 refine qlb mixed (qee qlq) (qf7 (qig hv qlp)) (W:=zvk) Try.func20 (by kernel_rfl) (show 1<=2 by decide) (show 2<=2 by decide) (λs=>by kernel_rfl) λ⟨S,⟨(x:SV),s,(i:Int),(c:Int)⟩,a,(dp:Int)⟩=>(zhj n S x s i c a dp).mpr ?_
 rintro⟨hmu,hok,haS,hk,h,⟨hc0,hc1⟩,hp1,hp2⟩ ⟨p,_,hx,ha⟩
 have hmu:(25- dp).toNat<n+1:=hmu
 have hi:=h.1
 have hi2:=h.2.1
 obtain⟨_,_,fl,_⟩:=z1w ha
 have hrg:=hok.2.2 a haS
 have sm:=hok.1.2 a haS
 simp only[sbS,exists_const,forall_const,Int.toNat_natCast,fl]
 refine⟨⟨⟨0,i,c,[]⟩,rfl,rfl,rfl,rfl,λq _=>GV.oks_iff.2 λw hw=>(by cases hw),⟨⟨Nat.zero_le _,rfl⟩,⟨Int.le_refl _,hi2⟩,⟨Int.le_refl _,hc1⟩,rfl⟩⟩,?_⟩
 rintro⟨j,i1,c1,fs⟩ ⟨⟨r1,r2⟩,⟨r3,r4⟩,⟨r5,r6⟩,r7⟩ ⟨p2,hp2',hfs⟩
 simp only at r1 r2 r3 r4 r5 r6 r7 hfs⊢
 have rc:∀(R:RdT) (v:PV) (e' i' c':Int),thn (z6u (gvX S s dp) (a.fs.map AF.ty) [] i.toNat c.toNat) e' (z6u (gvX S s dp) (a.fs.map AF.ty) [] i.toNat c.toNat= .ok (GV.pvs fs,i'.toNat,c'.toNat))->0<=i'->0<=c'->v= .mk 0 (mkS []) (GV.pvs fs) [] 0\/e'≠0->agD (rcD (gvX S s dp) s a i.toNat c.toNat) v i' c' e':=λ_ v e' i' c' ht h0 h1 hv=>by
  unfold rcD rcX
  rcases ht with⟨q1,q2⟩|⟨k,q1,q2⟩
  ·rw[q2,z0o]
   exact⟨q1,hv.resolve_right (λg=>g q1),by show i'=((i'.toNat:Nat):Int);omega,by show c'=((c'.toNat:Nat):Int);omega⟩
  ·rw[q2,z1n];exact q1
 refine⟨λhlt=> ?_,λhge a6 cc _=>⟨⟨.mk 0 (mkS []) (a6,fs.length,cc) fs (none,0,0) [] 0,0,i1,c1⟩,rfl,rfl,rfl,rfl,rfl,rfl,rfl,rfl,rfl,rfl,rfl,rfl,⟨?_,⟨r3,r4⟩,⟨r5,by show c1<=2001;omega⟩,λ_=>r6⟩,λq hq=>zkw hq.1.2 hq.2.1 hq.2.2⟩⟩
 ·have hif:j<a.fs.length:=by omega
  rw[zut (by rw[List.length_map];exact hif),List.getElem_map]at r7
  have hft:=hrg.1 _ (List.getElem_mem hif)
  have hfa:=λq (hq:a.ok q)=>z8o hq hif
  generalize a.fs[j]=f at*
  refine⟨⟨by omega,by omega⟩,(hfa p ha).1,f.nm,f.al.1,f.al.2.1,f.al.2.2,f.ty,f.hd,f.df.k,f.df.n,f.df.s,f.df.y.1,f.df.y.2.1,f.df.y.2.2,f.df.x.1,f.df.x.2.1,f.df.x.2.2,λq hq=>(hfa q hq.1.2).2,⟨by omega,by omega⟩,⟨S,⟨x,s,i1,c1⟩,f.ty,dp+1⟩,rfl,rfl,rfl,rfl,rfl,rfl,rfl,rfl,⟨by show(25- (dp+1)).toNat<n;omega,hok,⟨by show 0<=i1;omega,r4,h.2.2⟩,⟨by show 0<=c1;omega,r6⟩,by show 1<=dp+1;omega,by show dp+1<=21;omega⟩,λq hq=>hq.1.1,?_⟩
  rintro⟨r,e',i',c'⟩ ⟨g1,_,⟨g2,g3⟩,⟨g4,g5⟩,g6⟩ _
  obtain⟨g7,g8⟩:=g1 hft
  have g2:i1<=i':=g2
  have g4:c1<=c':=g4
  have g5:c'<=2001:=g5
  have g7:agD (dvX S s (21- (dp+1)).toNat f.ty i1.toNat c1.toNat) r.pv i' c' e':=g7
  rw[show(21- (dp+1)).toNat=(20- dp).toNat by omega]at g7
  have hag:=zm5 g7 r7
  simp only[true_and,and_true]
  refine⟨λhne=>⟨⟨zV,e',i',c'⟩,rfl,rfl,rfl,rfl,rfl,rfl,rfl,rfl,rfl,rfl,rfl,rfl,⟨rc (.no 0) _ e' i' c' ?_ (by omega) (by omega) (.inr hne),⟨by show i<=i';omega,g3⟩,⟨by show c<=c';omega,g5⟩,λg=>absurd g hne⟩,λq _=>z1d q⟩,λhe=> ?_⟩
  ·rcases hag with⟨w,_⟩|w
   ·exact absurd w hne
   ·exact .inr w
  ·have w2:z6u (gvX S s dp) ((a.fs.map AF.ty).drop (j+1)) (GV.pvs fs++[r.pv]) i'.toNat c'.toNat=z6u (gvX S s dp) (a.fs.map AF.ty) [] i.toNat c.toNat:=by
    rcases hag with⟨_,w⟩|⟨k,w,_⟩
    ·exact w
    ·omega
   refine⟨z01 z0f fs,by omega,⟨by omega,by omega⟩,⟨j+1,i',c',fs++[r]⟩,by show((j+1:Nat):Int)=_;omega,?_⟩
   simp only[true_and,and_true,eq_self]
   refine⟨by simp,by rw[z05];rfl,λq hq=>hq.1.1,λq hq=>z2n hq.1.2 (z1q hq.2),⟨⟨by omega,by simp[r2]⟩,⟨by omega,g3⟩,⟨by omega,g6 he⟩,by rw[j1n];exact w2⟩,by omega⟩
 ·rw[zuu (by rw[List.length_map];omega)]at r7
  exact rc (.no 0) _ 0 i1 c1 (.inl ⟨rfl,r7.symm⟩) (by omega) (by omega) (.inl (by rw[GV.pv]))
def zoc(n:Nat) (hv:q22 P 13 (z3s.below zaa n)):q22 P 22 ((zb6 ztc unX).below z6t (n+1)):=by
 refine qlb mixed (qee (qih z62 qlq)) (qf7 (qig hv qlp)) (W:=zvn) Try.func22 (by kernel_rfl) (show 1<=2 by decide) (show 2<=2 by decide) (λs=>by kernel_rfl) λ⟨S,⟨(x:SV),s,(i:Int),(c:Int)⟩,a,(dp:Int)⟩=>(zob n S x s i c a dp).mpr ?_
 rintro⟨hmu,hok,haS,hk,h,⟨hc0,hc1⟩,hp1,hp2⟩ ⟨p,_,hx,ha⟩
 have hmu:(25- dp).toNat<n+1:=hmu
 have hi:=h.1
 have hi2:=h.2.1
 obtain⟨_,_,_,bl⟩:=z1w ha
 have hrg:=hok.2.2 a haS
 have sm:=hok.1.2 a haS
 have hf:=z10 s i.toNat (by omega)
 simp only[sbS,exists_const,forall_const,Int.toNat_natCast,bl]
 refine⟨⟨(a.brs.length:Int),x,s,i,c⟩,?_⟩
 simp only[true_and,and_true,eq_self]
 refine⟨h,λhne=>⟨⟨zV,(chE s i.toNat a.brs.length:Nat),((lgR s i.toNat).2.2:Nat),c⟩,rfl,rfl,rfl,rfl,rfl,rfl,rfl,rfl,rfl,rfl,rfl,rfl,⟨?_,⟨by show i<=((_:Nat):Int);omega,by show((_:Nat):Int)<=_;omega⟩,⟨Int.le_refl _,by show c<=2001;omega⟩,λg=>absurd g hne⟩,λq _=>z1d q⟩,λhe=> ?_⟩
 ·unfold unX ixX
  rw[if_neg (by omega),z1n]
  show((chE s i.toNat a.brs.length:Nat):Int)=((chE s i.toNat a.brs.length- 1:Nat):Int)+1
  omega
 have h1:chE s i.toNat a.brs.length=0:=by omega
 have hrr:0<=(lgR s i.toNat).1/\(lgR s i.toNat).1<a.brs.length:=by unfold chE at h1;split at h1<;>omega
 obtain⟨b,hb⟩:=Int.eq_ofNat_of_zero_le hrr.1
 have hbl:b<a.brs.length:=by omega
 have hba:=λq (hq:a.ok q)=>z60 hq hbl
 have hbr:=hrg.2.1 a.brs[b] (List.getElem_mem hbl)
 have hgd:a.brs.getD b 0=a.brs[b]:=by rw[List.getD_eq_getElem?_getD,List.getElem?_eq_getElem hbl];rfl
 have hun:unX (gvX S s dp) s a i.toNat c.toNat=(dvX S s (20- dp).toNat a.brs[b] (lgR s i.toNat).2.2 c.toNat).bind λr=> .ok (.mk 0 (mkS []) [r.1] [] b,r.2):=by
  unfold unX ixX
  rw[if_pos h1,z0o]
  simp only[hb,Int.toNat_natCast,hgd]
  rfl
 rw[hun]
 simp only[hb,Int.toNat_natCast]
 refine⟨⟨by omega,by omega⟩,(hba p ha).1,a.brs[b],λq hq=>(hba q hq.2).2,⟨by omega,by omega⟩,⟨S,⟨x,s,((lgR s i.toNat).2.2:Nat),c⟩,a.brs[b],dp+1⟩,rfl,rfl,rfl,rfl,rfl,rfl,rfl,rfl,⟨by show(25- (dp+1)).toNat<n;omega,hok,⟨by show(0:Int)<=(((lgR s i.toNat).2.2:Nat):Int);omega,by show(((lgR s i.toNat).2.2:Nat):Int)<=s.size;omega,h.2.2⟩,⟨hc0,hc1⟩,by show 1<=dp+1;omega,by show dp+1<=21;omega⟩,λq hq=>hq.1,?_⟩
 rintro⟨r,e',i',c'⟩ ⟨g1,_,⟨g2,g3⟩,⟨g4,g5⟩,g6⟩ _
 obtain⟨g7,g8⟩:=g1 hbr
 have g2:((lgR s i.toNat).2.2:Nat)<=i':=g2
 have g4:c<=c':=g4
 have g5:c'<=2001:=g5
 have g7:agD (dvX S s (21- (dp+1)).toNat a.brs[b] (((lgR s i.toNat).2.2:Nat):Int).toNat c.toNat) r.pv i' c' e':=g7
 rw[show(21- (dp+1)).toNat=(20- dp).toNat by omega,Int.toNat_natCast]at g7
 simp only[true_and,and_true]
 refine⟨λhne=>⟨⟨zV,e',i',c'⟩,rfl,rfl,rfl,rfl,rfl,rfl,rfl,rfl,rfl,rfl,rfl,rfl,⟨?_,⟨by show i<=i';omega,g3⟩,⟨g4,g5⟩,λg=>absurd g hne⟩,λq _=>z1d q⟩,λhe b2 s2 _=>⟨⟨.mk 0 (mkS []) (some ⟨b2,s2+0,none⟩,1,1) [r] (none,0,0) [] b,0,i',c'⟩,rfl,rfl,rfl,rfl,rfl,rfl,rfl,rfl,rfl,rfl,rfl,rfl,⟨?_,⟨by show i<=i';omega,g3⟩,⟨g4,g5⟩,λ_=>g6 he⟩,λq hq=> ?_⟩⟩
 ·revert g7
  cases dvX S s (20- dp).toNat a.brs[b] (lgR s i.toNat).2.2 c.toNat with
  |no k=>exactλg=>g
  |ok w=>exactλg=>absurd g.1 hne
 ·revert g7
  cases dvX S s (20- dp).toNat a.brs[b] (lgR s i.toNat).2.2 c.toNat with
  |no k=>intro g;have g:e'=k+1:=g;have he:e'=0:=he;omega
  |ok w=>exactλ⟨q1,q2,q3,q4⟩=>⟨rfl,by rw[GV.pv,GV.pvs,GV.pvs,q2],q3,q4⟩
 ·unfold GV.ok
  exact⟨⟨rfl,Nat.le_refl _, .inr ⟨_,rfl,rfl,hq.2⟩⟩,z06,z1q hq.1.2⟩
def meK(ks:List ByteArray) (j:Nat):List MapEntry:=match ks with
 | []=>[]
 |k::l=>⟨.string k, .int .i64 (j:Nat),j⟩::meK l (j+1)
def kyV(k:ByteArray):List Value:=[.string k]
def itH(b r q m:Nat) (fs:List GV) (ks:List ByteArray):List (Nat×AO):=[(b, .cells 97 (some 0) false [.ssl r 0 fs.length 5 (r+1), .ssl q 0 ks.length 1 (q+1), .map m]),(r, .row 35 0 (z00 GV.cells fs)),(q, .row 9 0 (z00 kyV ks)),(m, .mrow (meK ks 0) ks.length)]
def rpl(k:ByteArray) (v:PV) (p:ByteArray×PV):ByteArray×PV:=if p.1=k then(k,v)else p
def z1z(mp:Bool) (ks:List ByteArray) (vs:List PV) (st:StI):Prop:=if mp=true then ks.Nodup/\ks.length=vs.length/\st.1.length=st.2.length/\st.1.Pairwise (λa b=>qfa a b=true)/\(st.1.zip st.2).Perm (ks.zip vs)else ks=[]/\st=([],vs)
def agI(mp:Bool) (R:Rs (StI×Nat×Nat)) (ks:List ByteArray) (vs:List PV) (n c e:Int):Prop:=match R with
 | .no k=>e=k+1
 | .ok r=>e=0/\z1z mp ks vs r.1/\n=r.2.1/\c=r.2.2
abbrev zly:=PpS×List GV×List ByteArray
abbrev ItB:=List GV×List ByteArray×Int×Int×Int
def itM(S:List AT) (x:SV) (a:AT) (fs:List GV):PF:=⟨true,λp=>(z0a S x p/\a.ok p)/\GV.oks fs p,λ_ _ h e=>⟨⟨z0s h e.1.1,AT.ok_mono h e.1.2⟩,GV.oks_mono h e.2⟩⟩
def zmz:zly->Prop:=λ⟨⟨S,⟨x,s,i,c⟩,a,dp⟩,fs,ks⟩=>okS S/\a∈S/\kdP a/\z0h ⟨x,s,i,c⟩/\(0<=c/\c<=2000)/\(1<=dp/\dp<=20)/\(fs.length:Int)<=c/\(ks.length:Int)<=c/\∃st,z1z (decide (a.k=13)) ks (GV.pvs fs) st
def z4m:zly->ItB->Prop:=λ⟨⟨S,⟨x,s,i,c⟩,a,dp⟩,fs,ks⟩ ⟨fs',ks',e',i',c'⟩=>(∀st,z1z (decide (a.k=13)) ks (GV.pvs fs) st->agI (decide (a.k=13)) (itX (gvX S s dp a.it) s (decide (a.k=13)) st i.toNat c.toNat) ks' (GV.pvs fs') i' c' e')/\(i<=i'/\i'<=s.size)/\(c<=c'/\c'<=2001)/\(e'=0->c+1<=c'/\c'<=2000)/\(fs'.length:Int)<=c'/\(ks'.length:Int)<=c'
def z8d:CtR where
 σ:=zly
 args:=λ⟨⟨S,⟨x,s,i,c⟩,a,dp⟩,fs,ks⟩=>[.ptr 1 0,a.av, .ptr 2 0, .sv (.int .i64 dp)]
 h:=λ⟨⟨S,⟨x,s,i,c⟩,a,dp⟩,fs,ks⟩=>dcd x s i c++itH 2 3 5 7 fs ks
 m:=8
 pre:=λz=>zmz z
 mem:=λ⟨⟨S,⟨x,s,i,c⟩,a,dp⟩,fs,ks⟩=>itM S x a fs
 β:=λ_=>ItB
 post:=λz b=>z4m z b
 pm:=λ_ ⟨fs',ks',e',i',c'⟩=>gsM fs'
 r:=λ_ ⟨fs',ks',e',i',c'⟩=> .sv (.int .i64 e')
 h':=λ⟨⟨S,⟨x,s,i,c⟩,a,dp⟩,fs,ks⟩ ⟨fs',ks',e',i',c'⟩=>dcd x s i' c'++itH 2 8 10 7 fs' ks'
 m':=12
def ztf:zly->Nat:=λ⟨⟨S,_,a,dp⟩,_⟩=>(25- dp).toNat
def zll:zly->WayF:=λ_=>{}
def cIv:CtR where
 σ:=List GV×List ByteArray
 args:=λ_=>[.ptr 2 0]
 h:=λ⟨fs,ks⟩=>itH 2 3 5 7 fs ks
 m:=8
 pre:=λ⟨fs,ks⟩=>fs.length<=2001/\ks.length<=2001/\∃mp st,z1z mp ks (GV.pvs fs) st
 mem:=λ⟨fs,ks⟩=>gsM fs
 β:=λ_=>GV
 post:=λ⟨fs,ks⟩ r=>∀mp st,z1z mp ks (GV.pvs fs) st->r.pv= .mk 0 (mkS []) st.2 st.1 0
 pm:=λ_ r=>vM r
 r:=λ_ r=>r.av
 h':=λ_ _=>[]
 m':=8
def pbO(S:List AT) (a:AT) (s:ByteArray) (dp i c:Int) (F:Nat) (i1 c1:Int) (fs:List GV) (ks:List ByteArray):Prop:=(i<=i1/\i1<=s.size)/\(c<=c1/\c1<=2000)/\((fs.length:Int)<=c1/\(ks.length:Int)<=c1)/\s.size<F+i1/\∃st,z1z (decide (a.k=13)) ks (GV.pvs fs) st/\bkX (gvX S s dp a.it) s (decide (a.k=13)) F st i1.toNat c1.toNat=rbR S a dp s i c
def enR(st0 sz en:Int):Prop:=sz= -1/\en= -1\/0<=sz/\en=st0+(if 9223372036854775807- st0<sz then 9223372036854775807- st0 else sz)
def pbN(S:List AT) (a:AT) (s:ByteArray) (dp i c:Int) (F:Nat) (st0 c0 en cnt:Int) (j:Nat) (i1 c1:Int) (fs:List GV) (ks:List ByteArray):Prop:=(j:Int)<=cnt/\(i<=i1/\(0<=st0/\st0<=i1)/\i1<=s.size)/\(c<=c1/\c1<=2000)/\((fs.length:Int)<=c1/\(ks.length:Int)<=c1)/\s.size<F+st0/\∃sz st,enR st0 sz en/\z1z (decide (a.k=13)) ks (GV.pvs fs) st/\(z6s (gvX S s dp a.it) s (decide (a.k=13)) (cnt- j).toNat st i1.toNat c1.toNat).bind (rbK S a dp s F st0 sz)=rbR S a dp s i c
def jdt(h:T AO) (id:Nat):Option Nat:=match h.get id with
 |some (.cells _ _ _ [_,_, .map m])=>some m
 |_=>none
def zve :PpS->WayF:=λ⟨S,⟨x,s,i,c⟩,a,dp⟩=>{
  ann :=λid tt hh=>match j1m tt 8 with
    | some vb=>match jdt hh vb with
      | some m=>match id with
        |0=>some {σ:=Nat×Int×Int×List GV×List ByteArray,pre:=λ⟨F,i1,c1,fs,ks⟩=>pbO S a s dp i c F i1 c1 fs ks,mem:=λ⟨F,i1,c1,fs,ks⟩=>gsM fs,t:=λ_=>[],h:=λ⟨F,i1,c1,fs,ks⟩=>dcd x s i1 c1++itH vb 40 42 m fs ks,more:=60,μ:=λ⟨F,i1,c1,fs,ks⟩=>(s.size+1- i1).toNat,keep:=[0,2,4,6,7,8]}
        | _=>match slI tt 30,slI tt 10,j1a hh 1 with
          |some cn,some en,some (_,_,st0,c0)=>some {σ:=Nat×Nat×Int×Int×List GV×List ByteArray,pre:=λ⟨F,j,i1,c1,fs,ks⟩=>pbN S a s dp i c F st0 c0 en cn j i1 c1 fs ks,mem:=λ⟨F,j,i1,c1,fs,ks⟩=>gsM fs,t:=λ⟨F,j,i1,c1,fs,ks⟩=>[(31, .sv (.int .i64 (j:Nat)))],h:=λ⟨F,j,i1,c1,fs,ks⟩=>dcd x s i1 c1++itH vb 40 42 m fs ks,more:=60,μ:=λ⟨F,j,i1,c1,fs,ks⟩=>cn.toNat- j,keep:=[0,2,4,6,7,8,10,30]}
          |_,_,_=>none
      |none=>none
    |none=>none}
section
variable (x0:Int) (x1:SV) (x2:ByteArray) (x3 x4:Int) (x5:AT) (x6:List AT) (x7:Nat) (x8:Nat×Int×Int×List GV×List ByteArray) (x9:Nat×Nat×Int×Int×List GV×List ByteArray) (x10:ItB) (x11:zly) (x12:Prop) (x13:VpB) (x14:Nat->Option Obj)
 abbrev z6l:=x1.1=x1.1/\x1.2.1=x1.2.1/\x1.2.2=x1.2.2/\x2=x2/\x12
 def zyu:=AT.k x5=AT.k x5/\AT.nm x5=AT.nm x5/\(AT.al x5).1=(AT.al x5).1/\(AT.al x5).2.1=(AT.al x5).2.1/\(AT.al x5).2.2=(AT.al x5).2.2/\AT.it x5=AT.it x5/\(AT.sy x5).1=(AT.sy x5).1/\(AT.sy x5).2.1=(AT.sy x5).2.1/\(AT.sy x5).2.2=(AT.sy x5).2.2/\AT.hd x5=AT.hd x5/\AT.df x5=AT.df x5/\AT.sz x5=AT.sz x5/\(AT.f x5).1=(AT.f x5).1/\(AT.f x5).2.1=(AT.f x5).2.1/\(AT.f x5).2.2=(AT.f x5).2.2/\(AT.br x5).1=(AT.br x5).1/\(AT.br x5).2.1=(AT.br x5).2.1/\(AT.br x5).2.2=(AT.br x5).2.2/\x12
 def z42:=(True/\z0a x6 x1 x14/\AT.ok x5 x14)/\GV.oks x8.2.2.2.1 x14
 abbrev z3e:=(hdR x2 (toNat x8.2.1)).2
 def zjk:=GV.n x13.1=0/\GV.s x13.1=mkS []/\(GV.x x13.1).1=noA/\(GV.x x13.1).2.1=0/\(GV.x x13.1).2.2=0/\(GV.y x13.1).1=noA/\(GV.y x13.1).2.1=0/\(GV.y x13.1).2.2=0/\GV.b x13.1=0/\x12
 abbrev zb0:=(↑(z3e x2 x8).2.2:Int)
 def zfd:=(agD (bvX (gvX x6 x2 x0) x2 x5 (toNat x3) (toNat x4)) (GV.pv x13.1) x13.2.2.1 x13.2.2.2 x13.2.1/\zof x2 x3 x4 x13)
 def zrf:=(z3e x2 x8).1=(z3e x2 x8).1/\(hdR x2 (toNat x8.2.1)).1=(hdR x2 (toNat x8.2.1)).1/\x12
 abbrev zrd:=pbN x6 x5 x2 x0 x3 x4 x9.1 (zb0 x2 x8) x8.2.2.1 (z3e x2 x8).1 (hdR x2 (toNat x8.2.1)).1 x9.2.1 x9.2.2.1 x9.2.2.2.1 x9.2.2.2.2.1 x9.2.2.2.2.2
 def z4f:=(z42 x1 x5 x6 x8 x14)/\GV.oks x9.2.2.2.2.1 x14
 def zre:=x1.1=x11.1.2.1.1.1/\x1.2.1=x11.1.2.1.1.2.1/\x1.2.2=x11.1.2.1.1.2.2/\x2=x11.1.2.1.2.1/\x12
 def jb9:=Jb ((↑x9.2.1:Int)+1)/\∃(i0:Nat×Nat×Int×Int×List GV×List ByteArray),(↑i0.2.1:Int)=(↑x9.2.1:Int)+1/\x0=x0/\zrf x2 x8 (zre x1 x2 x11 (i0.2.2.1=x10.2.2.2.1/\i0.2.2.2.1=x10.2.2.2.2/\length i0.2.2.2.2.1=length x10.1/\length i0.2.2.2.2.2=length x10.2.1/\zyu x5 (meK i0.2.2.2.2.2 (0:Nat)=meK x10.2.1 0/\length i0.2.2.2.2.2=length x10.2.1/\z00 GV.cells i0.2.2.2.2.1=z00 GV.cells x10.1/\z00 kyV i0.2.2.2.2.2=z00 kyV x10.2.1/\(∀i1,(z4f x1 x5 x6 x8 x9 i1)/\GV.oks x10.1 i1->z42 x1 x5 x6 x8 i1)/\(∀i2,(z4f x1 x5 x6 x8 x9 i2)/\GV.oks x10.1 i2->GV.oks i0.2.2.2.2.1 i2)/\zrd x0 x2 x3 x4 x5 x6 x8 i0/\toNat (hdR x2 (toNat x8.2.1)).1- i0.2.1<toNat (hdR x2 (toNat x8.2.1)).1- x9.2.1/\True)))
 def jb7:=((!decide (x10.2.2.1=0))=true->∃(i0:VpB),zjk (i0.2.1=x10.2.2.1/\zre x1 x2 x11 (i0.2.2.1=x10.2.2.2.1/\i0.2.2.2=x10.2.2.2.2/\zfd x0 x2 x3 x4 x5 x6 i0/\(∀i1,(z4f x1 x5 x6 x8 x9 i1)/\GV.oks x10.1 i1->GV.ok i0.1 i1)/\True)) i0)/\((!decide (x10.2.2.1=0))=false->jb9 x0 x1 x2 x3 x4 x5 x6 x8 x9 x10 x11)
 def zrc:=∃(i0:Nat×Int×Int×List GV×List ByteArray),x0=x0/\z6l x1 x2 (i0.2.1=x9.2.2.1/\i0.2.2.1=x9.2.2.2.1/\length i0.2.2.2.1=length x9.2.2.2.2.1/\length i0.2.2.2.2=length x9.2.2.2.2.2/\zyu x5 (meK i0.2.2.2.2 (0:Nat)=meK x9.2.2.2.2.2 0/\length i0.2.2.2.2=length x9.2.2.2.2.2/\z00 GV.cells i0.2.2.2.1=z00 GV.cells x9.2.2.2.2.1/\z00 kyV i0.2.2.2.2=z00 kyV x9.2.2.2.2.2/\(∀i1,z4f x1 x5 x6 x8 x9 i1->True/\z0a x6 x1 i1/\AT.ok x5 i1)/\(∀i2,z4f x1 x5 x6 x8 x9 i2->GV.oks i0.2.2.2.1 i2)/\pbO x6 x5 x2 x0 x3 x4 i0.1 i0.2.1 i0.2.2.1 i0.2.2.2.1 i0.2.2.2.2/\toNat ((↑(size x2):Int)+1- i0.2.1)<toNat ((↑(size x2):Int)+1- x8.2.1)/\True))
 def jb8:=((!decide (x9.2.2.1=(z3e x2 x8).1))=true->∃(i0:VpB),zjk (i0.2.1=2/\z6l x1 x2 (i0.2.2.1=x9.2.2.1/\i0.2.2.2=x9.2.2.2.1/\zfd x0 x2 x3 x4 x5 x6 i0/\(∀i1,z4f x1 x5 x6 x8 x9 i1->GV.ok i0.1 i1)/\True)) i0)/\((!decide (x9.2.2.1=(z3e x2 x8).1))=false->zrc x0 x1 x2 x3 x4 x5 x6 x8 x9)
 def jb6:=Ji (0<=(z3e x2 x8).1) (jb8 x0 x1 x2 x3 x4 x5 x6 x8 x9) (zrc x0 x1 x2 x3 x4 x5 x6 x8 x9)
 def jb5:=Ji ((↑x9.2.1:Int)<(hdR x2 (toNat x8.2.1)).1) (∃(i0:zly),AT.k i0.1.2.2.1=AT.k x5/\AT.nm i0.1.2.2.1=AT.nm x5/\(AT.al i0.1.2.2.1).1=(AT.al x5).1/\(AT.al i0.1.2.2.1).2.1=(AT.al x5).2.1/\(AT.al i0.1.2.2.1).2.2=(AT.al x5).2.2/\AT.it i0.1.2.2.1=AT.it x5/\(AT.sy i0.1.2.2.1).1=(AT.sy x5).1/\(AT.sy i0.1.2.2.1).2.1=(AT.sy x5).2.1/\(AT.sy i0.1.2.2.1).2.2=(AT.sy x5).2.2/\AT.hd i0.1.2.2.1=AT.hd x5/\AT.df i0.1.2.2.1=AT.df x5/\AT.sz i0.1.2.2.1=AT.sz x5/\(AT.f i0.1.2.2.1).1=(AT.f x5).1/\(AT.f i0.1.2.2.1).2.1=(AT.f x5).2.1/\(AT.f i0.1.2.2.1).2.2=(AT.f x5).2.2/\(AT.br i0.1.2.2.1).1=(AT.br x5).1/\(AT.br i0.1.2.2.1).2.1=(AT.br x5).2.1/\(AT.br i0.1.2.2.1).2.2=(AT.br x5).2.2/\i0.1.2.2.2=x0/\i0.1.2.1.1.1=x1.1/\i0.1.2.1.1.2.1=x1.2.1/\i0.1.2.1.1.2.2=x1.2.2/\i0.1.2.1.2.1=x2/\i0.1.2.1.2.2.1=x9.2.2.1/\i0.1.2.1.2.2.2=x9.2.2.2.1/\z00 GV.cells i0.2.1=z00 GV.cells x9.2.2.2.2.1/\meK i0.2.2 (0:Nat)=meK x9.2.2.2.2.2 0/\length i0.2.2=length x9.2.2.2.2.2/\z00 kyV i0.2.2=z00 kyV x9.2.2.2.2.2/\length i0.2.1=length x9.2.2.2.2.1/\length i0.2.2=length x9.2.2.2.2.2/\(ztf i0<x7+1/\zmz i0)/\(∀i1,z4f x1 x5 x6 x8 x9 i1->(z0a i0.1.1 i0.1.2.1.1 i1/\AT.ok i0.1.2.2.1 i1)/\GV.oks i0.2.1 i1)/\∀(i2:ItB),z4m i0 i2->(∃i3,(z4f x1 x5 x6 x8 x9 i3)/\GV.oks i2.1 i3)->jb7 x0 x1 x2 x3 x4 x5 x6 x8 x9 i2 i0) (jb6 x0 x1 x2 x3 x4 x5 x6 x8 x9)
 def jb4:=(∃(i0:Nat×Nat×Int×Int×List GV×List ByteArray),(↑i0.2.1:Int)=0/\x0=x0/\zrf x2 x8 (z6l x1 x2 (i0.2.2.1=(zb0 x2 x8)/\i0.2.2.2.1=x8.2.2.1/\length i0.2.2.2.2.1=length x8.2.2.2.1/\length i0.2.2.2.2.2=length x8.2.2.2.2/\zyu x5 (meK i0.2.2.2.2.2 (0:Nat)=meK x8.2.2.2.2 0/\length i0.2.2.2.2.2=length x8.2.2.2.2/\z00 GV.cells i0.2.2.2.2.1=z00 GV.cells x8.2.2.2.1/\z00 kyV i0.2.2.2.2.2=z00 kyV x8.2.2.2.2/\(∀i1,z42 x1 x5 x6 x8 i1->z42 x1 x5 x6 x8 i1)/\(∀i2,z42 x1 x5 x6 x8 i2->GV.oks i0.2.2.2.2.1 i2)/\zrd x0 x2 x3 x4 x5 x6 x8 i0/\True))))/\∀(i3:Nat×Nat×Int×Int×List GV×List ByteArray),pbN x6 x5 x2 x0 x3 x4 i3.1 (zb0 x2 x8) x8.2.2.1 (z3e x2 x8).1 (hdR x2 (toNat x8.2.1)).1 i3.2.1 i3.2.2.1 i3.2.2.2.1 i3.2.2.2.2.1 i3.2.2.2.2.2->(∃i4,z4f x1 x5 x6 x8 i3 i4)->jb5 x0 x1 x2 x3 x4 x5 x6 x7 x8 i3
 def jb3:=Ji ((hdR x2 (toNat x8.2.1)).1=0) (∃(i0:List GV×List ByteArray),z00 GV.cells i0.1=z00 GV.cells x8.2.2.2.1/\meK i0.2 (0:Nat)=meK x8.2.2.2.2 0/\length i0.2=length x8.2.2.2.2/\z00 kyV i0.2=z00 kyV x8.2.2.2.2/\length i0.1=length x8.2.2.2.1/\length i0.2=length x8.2.2.2.2/\(length i0.1<=2001/\length i0.2<=2001/\∃(i1:Bool),∃(i2:StI),z1z i1 i0.2 (GV.pvs i0.1) i2)/\(∀i3,z42 x1 x5 x6 x8 i3->GV.oks i0.1 i3)/\∀(i4:GV),(∀(i5:Bool) (i6:StI),z1z i5 i0.2 (GV.pvs i0.1) i6->GV.pv i4=PV.mk 0 (mkS []) i6.2 i6.1 0)->(∃i7,(z42 x1 x5 x6 x8 i7)/\GV.ok i4 i7)->∃(i8:VpB),GV.n i8.1=GV.n i4/\GV.s i8.1=GV.s i4/\(GV.x i8.1).1=(GV.x i4).1/\(GV.x i8.1).2.1=(GV.x i4).2.1/\(GV.x i8.1).2.2=(GV.x i4).2.2/\(GV.y i8.1).1=(GV.y i4).1/\(GV.y i8.1).2.1=(GV.y i4).2.1/\(GV.y i8.1).2.2=(GV.y i4).2.2/\GV.b i8.1=GV.b i4/\i8.2.1=0/\z6l x1 x2 (i8.2.2.1=(zb0 x2 x8)/\i8.2.2.2=x8.2.2.1/\zfd x0 x2 x3 x4 x5 x6 i8/\(∀i9,(z42 x1 x5 x6 x8 i9)/\GV.ok i4 i9->GV.ok i8.1 i9)/\True)) (jb4 x0 x1 x2 x3 x4 x5 x6 x7 x8)
 def jb2:=z6l x1 x2 (x8.2.1=x8.2.1/\x8.2.2.1=x8.2.2.1/\z0h ((x1.1,x1.2.1,x1.2.2),x2,x8.2.1,x8.2.2.1)/\((!decide ((z3e x2 x8).2.1=0))=true->∃(i0:VpB),zjk (i0.2.1=(z3e x2 x8).2.1/\z6l x1 x2 (i0.2.2.1=(zb0 x2 x8)/\i0.2.2.2=x8.2.2.1/\zfd x0 x2 x3 x4 x5 x6 i0/\(∀i1,z42 x1 x5 x6 x8 i1->GV.ok i0.1 i1)/\True)) i0)/\((!decide ((z3e x2 x8).2.1=0))=false->jb3 x0 x1 x2 x3 x4 x5 x6 x7 x8))
 def jb1:=(∃(i0:Nat×Int×Int×List GV×List ByteArray),x0=x0/\z6l x1 x2 (i0.2.1=x3/\i0.2.2.1=x4/\length i0.2.2.2.1=0/\length i0.2.2.2.2=0/\zyu x5 (meK i0.2.2.2.2 (0:Nat)=[]/\length i0.2.2.2.2=nat_lit 0/\(∀i1,True/\z0a x6 x1 i1/\AT.ok x5 i1->True/\z0a x6 x1 i1/\AT.ok x5 i1)/\(∀i2,True/\z0a x6 x1 i2/\AT.ok x5 i2->GV.oks i0.2.2.2.1 i2)/\pbO x6 x5 x2 x0 x3 x4 i0.1 i0.2.1 i0.2.2.1 i0.2.2.2.1 i0.2.2.2.2/\True)))/\∀(i3:Nat×Int×Int×List GV×List ByteArray),pbO x6 x5 x2 x0 x3 x4 i3.1 i3.2.1 i3.2.2.1 i3.2.2.2.1 i3.2.2.2.2->(∃i4,z42 x1 x5 x6 i3 i4)->jb2 x0 x1 x2 x3 x4 x5 x6 x7 i3
end
def zfx(n:Nat) (S:List AT) (x:SV) (s:ByteArray) (i c:Int) (a:AT) (dp:Int):qm3 P (qh2 [(38,zme)]) (qi5 [(40,z8d.below ztf (n+1)),(39,cIv)]) Try.f21 ((zb6 kdP bvX).below z6t (n+1)) (zve) ⟨S,⟨x,s,i,c⟩,a,dp⟩=(z6t (S,(x,s,i,c),a,dp)<n+1/\okS S/\a∈S/\kdP a/\z0h (x,s,i,c)/\(0<=c/\c<=2000)/\1<=dp/\dp<=20->(∃(p:Pub),True/\z0a S x p/\AT.ok a p)->jb1 dp x s i c a S n):=by kernel_rfl
def zma:=λn S x s i c a dp=>Eq.trans (zfx n S x s i c a dp) (by delta Ji Jb Jt Jf z6l zyu z42 z3e zjk zb0 zfd zrf zrd z4f zre jb9 jb7 zrc jb8 jb6 jb5 jb4 jb3 jb2 jb1;exact rfl)
def zac(n:Nat) (hv:q22 P 37 (cVl.below z65 n)):q22 P 62 ((cVq zgu).below z8y (n+1)):=by
 have hA:=zh9 n hv
 have hM:=zhb n hv
 refine⟨hA.1,hA.2.1,hA.2.2.1,λs=> ?_⟩
 obtain⟨h0,e0,rA⟩:=hA.2.2.2 s
 obtain⟨h1,e1,rM⟩:=hM.2.2.2 s
 have e:h1=h0:=Option.some.inj (e1.symm.trans e0)
 subst e
 refine⟨h1,e0,λF I w vs a1 a2 a3 a4 hp a5 a6 a7=> ?_⟩
 obtain⟨m,p1,p2,p3,p4⟩:=hp
 rcases p3 with h|h
 ·exact rA F I w vs a1 a2 a3 a4 ⟨m,p1,p2,h,p4⟩ a5 a6 a7
 ·exact rM F I w vs a1 a2 a3 a4 ⟨m,p1,p2,h,p4⟩ a5 a6 a7
def j1v(n:Nat) (hv:q22 P 37 (cVl.below z65 n)):q22 P 37 (cVl.below z65 (n+1)):=by
 refine qlb mixed (qee qlq) (qf7 (qig hv (qig (zac n hv) (qig (znu n hv) (qig zgi (qig zbw (qig zus qlp))))))) (W:=wVl) Try.func37 (by kernel_rfl) (show 1<=2 by decide) (show 2<=2 by decide) (λs=>by kernel_rfl) λ⟨S,(x:SV),(all:Int),(t:Int),g,(d:Int)⟩=>(j1u n S x all t g d).mpr ?_
 rintro⟨hmu,hS,⟨ht0,ht1⟩,hg,⟨hal0,hal1⟩,hd1,hd2⟩ ⟨p,_,hx,hgo⟩
 have hmu:2*(25- d).toNat<n+1:=hmu
 obtain⟨gl,gnl⟩:=z3g hgo
 obtain⟨j,rfl⟩:=Int.eq_ofNat_of_zero_le ht0
 have hj:j<S.length:=by omega
 have sl:x.2.1=S.length:=hx.1.1
 have hat:=λq (hq:z0a S x q/\g.ok q)=>z9e hq.1 hj
 have hao:=λq (hq:z0a S x q/\g.ok q)=>hq.1.2 S[j] (List.getElem_mem hj)
 have hgd:=hS.2 S[j] (List.getElem_mem hj)
 simp only[sbS,exists_const,forall_const,Int.toNat_natCast,sl]
 refine⟨⟨by omega,by omega⟩,λh20=>⟨⟨all+1,3,zV⟩,rfl,rfl,rfl,rfl,rfl,rfl,rfl,rfl,rfl,rfl,rfl,⟨by show all<=all+1;omega,by show all+1<=2001;omega,λh=>(by have h:(3:Int)=0:=h;omega)⟩,λq hq=>z1d q⟩,λh20=>⟨λh2=>⟨⟨all+1,3,zV⟩,rfl,rfl,rfl,rfl,rfl,rfl,rfl,rfl,rfl,rfl,rfl,⟨by show all<=all+1;omega,by show all+1<=2001;omega,λh=>(by have h:(3:Int)=0:=h;omega)⟩,λq hq=>z1d q⟩,λh2=> ?_⟩⟩
 refine⟨⟨by omega,by omega⟩,(hat p ⟨hx,hgo⟩).1,S[j].k,S[j].nm,S[j].al.1,S[j].al.2.1,S[j].al.2.2,S[j].it,S[j].sy.1,S[j].sy.2.1,S[j].sy.2.2,S[j].hd,S[j].df,S[j].sz,S[j].f.1,S[j].f.2.1,S[j].f.2.2,S[j].br.1,S[j].br.2.1,S[j].br.2.2,λq hq=>(hat q hq).2,?_⟩
 have hmem:=List.getElem_mem hj
 obtain⟨_,syl,_,brl⟩:=z1w (hao p ⟨hx,hgo⟩)
 generalize S[j]=a at*
 simp only[syl,brl]
 have ret:∀(nn:Int) (ss:ByteArray) (ee:Int),∃b:VlB,b.snd.snd.n=nn/\b.snd.snd.s=ss/\b.snd.snd.x.fst=noA/\b.snd.snd.x.snd.fst=0/\b.snd.snd.x.snd.snd=0/\b.snd.snd.y.fst=noA/\b.snd.snd.y.snd.fst=0/\b.snd.snd.y.snd.snd=0/\b.snd.snd.b=0/\b.snd.fst=ee/\b.fst=all+1/\z0l all b/\∀(p:Nat->Option Obj),z0a S x p/\g.ok p->b.snd.snd.ok p:=λnn ss ee=>⟨⟨all+1,ee, .mk nn ss (none,0,0) [] (none,0,0) [] 0⟩,rfl,rfl,rfl,rfl,rfl,rfl,rfl,rfl,rfl,rfl,rfl,⟨by show all<=all+1;omega,by show all+1<=2001;omega,λ_=>by show all+1<=2000;omega⟩,λq _=>by show GV.ok _ q;unfold GV.ok;exact⟨z06,z06,by unfold GV.oks;trivial⟩⟩
 have q1:∀{k b gk:Int},a.k=k->bq k b gk a.k=decide (gk=b):=λ{k b gk} h=>by unfold bq;rw[decide_eq_true h];rfl
 have q0:∀{k b gk:Int},¬a.k=k->bq k b gk a.k=false:=λ{k b gk} h=>by unfold bq;rw[decide_eq_false h];rfl
 have qk:∀{k b:Int},bq k b g.k a.k=true->a.k=k/\g.k=b:=λ{k b} h=>by
  unfold bq at h;rw[Bool.and_eq_true,decide_eq_true_eq,decide_eq_true_eq]at h;exact h
 have gn:=hg
 rw[GJ.wf_eq]at gn
 obtain⟨gsz,_,_,_,⟨gn0,gn1⟩,_,_⟩:=gn
 refine⟨⟨⟨λh=>q1 h,λh=>q0 h⟩,λ_=>ret _ _ _,λ_=>⟨⟨λh=>q1 h,λh=>q0 h⟩,λ_=>ret _ _ _,λ_=>⟨⟨⟨λh=>⟨λh2=>⟨λh3=> ?_,λh3=> ?_⟩,λh2=> ?_⟩,λh=> ?_⟩,λh=> ?_,λh=>⟨λh2=> ?_,λh2=> ?_⟩⟩,λ_=>ret _ _ _,λ_=>⟨⟨λh=>q1 h,λh=>q0 h⟩,λ_=>⟨g.n,rfl,⟨gn0,gn1⟩,λb hb=>⟨⟨by omega,by omega⟩,ret _ _ _⟩⟩,λ_=>⟨⟨λh=>q1 h,λh=>q0 h⟩,λ_=>⟨g.n,rfl,⟨gn0,gn1⟩,λb hb=>ret _ _ _⟩,λ_=>⟨⟨λh=>q1 h,λh=>q0 h⟩,λ_=>ret _ _ _,λ_=>⟨⟨λh=> ?_,λh=>⟨λh2=> ?_,λh2=> ?_⟩⟩,λ_=>⟨g.s,rfl,by omega,λb hb=>⟨⟨λ_=>⟨λ_=>⟨_,rfl⟩,λ_=>⟨_,rfl⟩⟩,λ_=>⟨_,rfl⟩⟩,λs hs=>ret _ _ _⟩⟩,λ_=>⟨⟨λh=>q1 h,λh=>q0 h⟩,λhE=>⟨⟨0,rfl⟩,λi hi=> ?_⟩,λ_=>⟨⟨⟨λh=>q1 h,λh=>q0 h⟩,λh=> ?_,λh=>⟨λh2=> ?_,λh2=> ?_⟩⟩,λhP=> ?_,λ_=>⟨⟨λh=>q1 h,λh=>q0 h⟩,λhR=> ?_,λ_ h14=>⟨⟨?xa,?xb⟩,?_⟩⟩⟩⟩⟩⟩⟩⟩⟩⟩⟩,ret _ _ _⟩
 ·unfold bI;rw[decide_eq_true h,decide_eq_true h2,decide_eq_true h3];rfl
 ·unfold bI;rw[decide_eq_true h,decide_eq_true h2,decide_eq_false h3];rfl
 ·unfold bI;rw[decide_eq_true h,decide_eq_false h2];rfl
 ·unfold bI;rw[decide_eq_false h];rfl
 ·unfold bN;rw[h];rfl
 ·unfold bN;rw[h,Bool.false_or];exact q1 h2
 ·unfold bN;rw[h,Bool.false_or];exact q0 h2
 ·unfold bT;rw[decide_eq_true h,Bool.true_or,Bool.true_and]
 ·unfold bT;rw[decide_eq_true h2,Bool.or_true,Bool.true_and]
 ·unfold bT;rw[decide_eq_false h,decide_eq_false h2];rfl
 ·have hi':i<a.sys.length:=by omega
  have ty:=λq (hq:z0a S x q/\g.ok q)=>zoa (hao q hq).2.1 hi'
  have h30:=hgd.2.2.2.2.2.2.2.2.2
  exact⟨⟨by omega,by omega⟩,(ty p ⟨hx,hgo⟩).1,a.sys[i],λq hq=>(ty q hq).2,λ_=>ret _ _ _,λ_=>⟨⟨by omega,by omega⟩,i+1,by omega,by omega⟩⟩
 ·unfold bP;rw[h];rfl
 ·unfold bP;rw[h,Bool.false_or];exact q1 h2
 ·unfold bP;rw[h,Bool.false_or];exact q0 h2
 ·have hpar:zgu a g:=by
   unfold bP at hP
   rw[Bool.or_eq_true]at hP
   rcases hP with h|h
   ·exact .inl (qk h).1
   ·exact .inr (qk h)
  refine⟨⟨S,x,all+1,a,g,d⟩,rfl,rfl,rfl,rfl,rfl,rfl,rfl,syl,rfl,rfl,rfl,rfl,rfl,rfl,rfl,rfl,brl,rfl,rfl,rfl,rfl,rfl,rfl,rfl,rfl,rfl,rfl,rfl,rfl,sl,rfl,rfl,⟨hmu,hS,hmem,hpar,hg,⟨by show 0<=all+1;omega,by show all+1<=2000;omega⟩,hd1,by show d<=20;omega⟩,λq hq=>⟨hq.1,hao q hq,hq.2⟩,?_⟩
  rintro⟨a2,e,w⟩ hb _
  have hb:all+1<=a2/\a2<=2001/\(e=0->a2<=2000):=hb
  exact⟨⟨a2,e,w⟩,rfl,rfl,rfl,rfl,rfl,rfl,rfl,rfl,rfl,rfl,rfl,sl.symm,rfl,rfl,⟨by show all<=a2;omega,hb.2⟩,λq hq=>hq.2⟩
 ·have hrec:isRec a g:=(qk hR).1
  refine⟨⟨S,x,all+1,a,g,d⟩,rfl,rfl,rfl,rfl,rfl,rfl,rfl,syl,rfl,rfl,rfl,rfl,rfl,rfl,rfl,rfl,brl,rfl,rfl,rfl,rfl,rfl,rfl,rfl,rfl,rfl,rfl,rfl,rfl,sl,rfl,rfl,⟨hmu,hS,hmem,hrec,hg,⟨by show 0<=all+1;omega,by show all+1<=2000;omega⟩,hd1,by show d<=20;omega⟩,λq hq=>⟨hq.1,hao q hq,hq.2⟩,?_⟩
  rintro⟨a2,e,w⟩ hb _
  have hb:all+1<=a2/\a2<=2001/\(e=0->a2<=2000):=hb
  exact⟨⟨a2,e,w⟩,rfl,rfl,rfl,rfl,rfl,rfl,rfl,rfl,rfl,rfl,rfl,sl.symm,rfl,rfl,⟨by show all<=a2;omega,hb.2⟩,λq hq=>hq.2⟩
 case xa|xb=>
  have h0:0<a.brs.length:=List.length_pos_iff.2 (hgd.2.2.2.1 h14)
  have hbr:=hgd.2.2.1 _ (List.getElem_mem h0)
  refine⟨⟨by omega,by omega⟩,(z60 (hao p ⟨hx,hgo⟩) h0).1,a.brs[0],λq hq=>(z60 (hao q hq) h0).2,⟨by omega,by omega⟩,⟨S,x,all+1,a.brs[0],g,d+1⟩,rfl,rfl,rfl,rfl,rfl,rfl,rfl,rfl,rfl,rfl,rfl,rfl,sl,rfl,rfl,⟨by show 2*(25- (d+1)).toNat<n;omega,hS,hbr,hg,⟨by show 0<=all+1;omega,by show all+1<=2000;omega⟩,by show 1<=d+1;omega,by show d+1<=21;omega⟩,λq hq=>hq,?_⟩
  rintro⟨a2,e,w⟩ hb _
  have hb:all+1<=a2/\a2<=2001/\(e=0->a2<=2000):=hb
  exact⟨⟨a2,e,w⟩,rfl,rfl,sl.symm,rfl,rfl,rfl,rfl,rfl,rfl,rfl,rfl,rfl,rfl,rfl,λq hq=>hq.1,λq hq=>hq.2,⟨by show all<=a2;omega,hb.2⟩⟩
 ·rintro⟨a2,e,w⟩ hb _ b s1 _
  refine⟨⟨a2,e, .mk 0 (mkS []) (some ⟨b,s1+0,none⟩,1,1) [w] (none,0,0) [] 0⟩,rfl,rfl,rfl,rfl,rfl,rfl,rfl,rfl,rfl,rfl,rfl,hb,λq hq=> ?_⟩
  show GV.ok _ q
  unfold GV.ok
  refine⟨⟨rfl,Nat.le_refl _, .inr ⟨⟨b,s1+0,none⟩,rfl,rfl,λi v hi=> ?_⟩⟩,z06,z1q hq.1.2⟩
  rw[z00,z00,List.append_nil]at hi
  exact hq.2 i v hi
def zlg:∀n,q22 P 37 (cVl.below z65 n)
 |0=>CtR.below_zero (by decide) (by decide) (Sen.enters_of Try.func37 (by kernel_rfl)) λs=>rfl
 |n+1=>j1v n (zlg n)
def zvc:q22 P 37 cVl:=CtR.of_below zlg
def zmw(x:SV) (t:Int):qm2 P (λ_=>none) Try.f14 j08 (λ_=>{}) ⟨x,t⟩=(True->(decide ((0:Int)<=t)=true->(decide ((0:Int)<=t)&&decide (t<(↑(Prod.fst (Prod.snd x)):Int)))=decide (t<(↑(Prod.fst (Prod.snd x)):Int))/\True)/\(decide ((0:Int)<=t)=false->(decide ((0:Int)<=t)&&decide (t<(↑(Prod.fst (Prod.snd x)):Int)))=false/\True)):=by kernel_rfl
section
variable (x0:Int) (x1:SV) (x2:List AT) (x3:GV) (x4:Nat) (x5:Int) (x6:ByteArray) (x7:Option Addr) (x8:Nat) (x9:Int) (x10:Option Addr) (x11 x12:Nat) (x13:Bool) (x14:ByteArray) (x15:Int) (x16:Option Addr) (x17 x18:Nat) (x19:Option Addr) (x20 x21 x22:Nat) (x23:Prop) (x24:(Option Addr×Nat×Nat)×Int)
 abbrev zrj:= !(decide (0<=x24.2)&&decide (x24.2<(↑x24.1.2.1:Int)))
 def zb2:=PV.fits x2 x0 (GV.pv x3)=false/\True
 def z5q:=x1.1=x1.1/\x1.2.1=x1.2.1/\x1.2.2=x1.2.2/\GV.n x3=GV.n x3/\GV.s x3=GV.s x3/\(GV.x x3).1=(GV.x x3).1/\(GV.x x3).2.1=(GV.x x3).2.1/\(GV.x x3).2.2=(GV.x x3).2.2/\(GV.y x3).1=(GV.y x3).1/\(GV.y x3).2.1=(GV.y x3).2.1/\(GV.y x3).2.2=(GV.y x3).2.2/\GV.b x3=GV.b x3/\x0=x0/\x6=x6/\x7=x7/\x4=x4/\x8=x8/\x5=x5/\x10=x10/\x11=x11/\x12=x12/\x13=x13/\x14=x14/\x9=x9/\x16=x16/\x17=x17/\x18=x18/\x19=x19/\x20=x20/\x21=x21/\(∀i0,True/\z0a x2 x1 i0/\GV.ok x3 i0->True/\z0a x2 x1 i0/\GV.ok x3 i0)/\True/\True
 def z6m:=isT (AT.k (atS x2 x0))=false/\nB (AT.k (atS x2 x0))=true/\isQ (AT.k (atS x2 x0))=false/\x23
 abbrev zb1:=(-2147483648:Int)<=IntKind.wrap i64 (GV.n x3)
 def z7v:=decide (zb1 x3)=decide (zb1 x3)
 def zyy:=z7v x3/\z7v x3/\z7v x3/\Ji (zb1 x3) (∃(i0:Unit),z0x x2 (atS x2 x0) x3=decide (IntKind.wrap i64 (GV.n x3)<2147483648)/\z6m x0 x2 (z5q x5 x1 x2 x3 x4 x9 x6 x7 x8 x15 x10 x11 x12 x13 x14 x16 x17 x18 x19 x20 x21)) (∃(i1:Unit),z0x x2 (atS x2 x0) x3=false/\z6m x0 x2 (z5q x5 x1 x2 x3 x4 x9 x6 x7 x8 x15 x10 x11 x12 x13 x14 x16 x17 x18 x19 x20 x21))
 def zyx:=Ji (zb1 x3) (zyy x0 x1 x2 x3 x4 x5 x6 x7 x8 x9 x10 x11 x12 x13 x14 x15 x16 x17 x18 x19 x20 x21) (z7v x3/\z7v x3/\z7v x3/\Ji (zb1 x3) (∃(i2:Unit),False) (∃(i3:Unit),z0x x2 (atS x2 x0) x3=false/\z6m x0 x2 (z5q x5 x1 x2 x3 x4 x9 x6 x7 x8 x15 x10 x11 x12 x13 x14 x16 x17 x18 x19 x20 x21)))
 def zz3:=Ji (AT.k (atS x2 x0)=4) (∃(i0:Unit),x5=x5/\b46 (AT.k (atS x2 x0))=decide (AT.k (atS x2 x0)=4)/\z5q x5 x1 x2 x3 x4 x9 x6 x7 x8 x15 x10 x11 x12 x13 x14 x16 x17 x18 x19 x20 x21) (∃(i1:Unit),x5=x5/\b46 (AT.k (atS x2 x0))=decide (x5=6)/\z5q x5 x1 x2 x3 x4 x9 x6 x7 x8 x15 x10 x11 x12 x13 x14 x16 x17 x18 x19 x20 x21)
 def zjm:=isT (AT.k (atS x2 x0))=true/\nB (AT.k (atS x2 x0))=false/\isQ (AT.k (atS x2 x0))=false/\x23
 def zyw:=Ji (x0=11) (∃(i0:Unit),z0x x2 (atS x2 x5) x3=decide ((↑(size (GV.s x3)):Int)=x9)/\zjm x5 x2 (z5q x0 x1 x2 x3 x4 x15 x6 x7 x8 x9 x10 x11 x12 x13 x14 x16 x17 x18 x19 x20 x21)) (∃(i1:FpS),i1.2.1.1=x1.1/\i1.2.1.2.1=x1.2.1/\i1.2.1.2.2=x1.2.2/\AT.k i1.2.2.1=x0/\AT.nm i1.2.2.1=x6/\(AT.al i1.2.2.1).1=x7/\(AT.al i1.2.2.1).2.1=x4/\(AT.al i1.2.2.1).2.2=x8/\AT.it i1.2.2.1=x15/\(AT.sy i1.2.2.1).1=x10/\(AT.sy i1.2.2.1).2.1=x11/\(AT.sy i1.2.2.1).2.2=x12/\AT.hd i1.2.2.1=x13/\AT.df i1.2.2.1=x14/\AT.sz i1.2.2.1=x9/\(AT.f i1.2.2.1).1=x16/\(AT.f i1.2.2.1).2.1=x17/\(AT.f i1.2.2.1).2.2=x18/\(AT.br i1.2.2.1).1=x19/\(AT.br i1.2.2.1).2.1=x20/\(AT.br i1.2.2.1).2.2=x21/\GV.n i1.2.2.2=GV.n x3/\GV.s i1.2.2.2=GV.s x3/\(GV.x i1.2.2.2).1=(GV.x x3).1/\(GV.x i1.2.2.2).2.1=(GV.x x3).2.1/\(GV.x i1.2.2.2).2.2=(GV.x x3).2.2/\(GV.y i1.2.2.2).1=(GV.y x3).1/\(GV.y i1.2.2.2).2.1=(GV.y x3).2.1/\(GV.y i1.2.2.2).2.2=(GV.y x3).2.2/\GV.b i1.2.2.2=GV.b x3/\(zte i1<x22+1/\small i1.1/\z1r i1.1/\length (AT.fs i1.2.2.1)<1000000/\PV.sm (GV.pv i1.2.2.2)/\isQ (AT.k i1.2.2.1)=true)/\(∀i2,True/\z0a x2 x1 i2/\GV.ok x3 i2->z0a i1.1 i1.2.1 i2/\AT.ok i1.2.2.1 i2/\GV.ok i1.2.2.2 i2)/\∃(i3:Unit),z0x x2 (atS x2 x5) x3=inF i1.1 i1.2.2.1 i1.2.2.2/\isT (AT.k (atS x2 x5))=false/\nB (AT.k (atS x2 x5))=false/\isQ (AT.k (atS x2 x5))=true/\z5q x0 x1 x2 x3 x4 x15 x6 x7 x8 x9 x10 x11 x12 x13 x14 x16 x17 x18 x19 x20 x21)
 def zyv:=Ji (x0=8) (GV.s x3=GV.s x3/\size (GV.s x3)<9223372036854775808/\∃(i0:Unit),z0x x2 (atS x2 x5) x3=vld (GV.s x3)/\zjm x5 x2 (z5q x0 x1 x2 x3 x4 x9 x6 x7 x8 x15 x10 x11 x12 x13 x14 x16 x17 x18 x19 x20 x21)) (zyw x0 x1 x2 x3 x4 x5 x6 x7 x8 x15 x10 x11 x12 x13 x14 x9 x16 x17 x18 x19 x20 x21 x22)
 def jbi:=Ji (x0=7) (∃(i0:Unit),z0x x2 (atS x2 x5) x3=true/\zjm x5 x2 (z5q x0 x1 x2 x3 x4 x9 x6 x7 x8 x15 x10 x11 x12 x13 x14 x16 x17 x18 x19 x20 x21)) (zyv x0 x1 x2 x3 x4 x5 x6 x7 x8 x9 x10 x11 x12 x13 x14 x15 x16 x17 x18 x19 x20 x21 x22)
 def jbh:=Ji (x0=10) (∃(i0:Unit),z0x x2 (atS x2 x5) x3=decide (GV.n x3<IntKind.wrap u64 (↑x4:Int))/\z6m x5 x2 (z5q x0 x1 x2 x3 x8 x9 x6 x7 x11 x15 x10 x4 x12 x13 x14 x16 x17 x18 x19 x20 x21)) (jbi x0 x1 x2 x3 x8 x5 x6 x7 x11 x9 x10 x4 x12 x13 x14 x15 x16 x17 x18 x19 x20 x21 x22)
 def jbg:=Ji (x0=5) (∃(i0:Unit),z0x x2 (atS x2 x5) x3=decide (GV.n x3<4294967296)/\z6m x5 x2 (z5q x0 x1 x2 x3 x4 x9 x6 x7 x8 x15 x10 x11 x12 x13 x14 x16 x17 x18 x19 x20 x21)) (jbh x0 x1 x2 x3 x11 x5 x6 x7 x4 x9 x10 x8 x12 x13 x14 x15 x16 x17 x18 x19 x20 x21 x22)
 def jbe:=(b46 (AT.k (atS x2 x0))=true->∃(i0:Unit),z0x x2 (atS x2 x0) x3=true/\z6m x0 x2 (z5q x5 x1 x2 x3 x4 x9 x6 x7 x8 x15 x10 x11 x12 x13 x14 x16 x17 x18 x19 x20 x21))/\(b46 (AT.k (atS x2 x0))=false->jbg x5 x1 x2 x3 x4 x0 x6 x7 x8 x9 x10 x11 x12 x13 x14 x15 x16 x17 x18 x19 x20 x21 x22)
 def jbd:=((∃(i0:Unit),x0=x0/\decide (AT.k (atS x2 x5)=4)=decide (x0=4)/\z5q x0 x1 x2 x3 x4 x9 x6 x7 x8 x15 x10 x11 x12 x13 x14 x16 x17 x18 x19 x20 x21)/\∀(i1:Unit),True->zz3 x5 x1 x2 x3 x4 x0 x6 x7 x8 x9 x10 x11 x12 x13 x14 x15 x16 x17 x18 x19 x20 x21)/\∀(i4:Unit),True->jbe x5 x1 x2 x3 x4 x0 x6 x7 x8 x9 x10 x11 x12 x13 x14 x15 x16 x17 x18 x19 x20 x21 x22
 def jbc:=Ji (x0=3) (zyx x5 x1 x2 x3 x4 x0 x6 x7 x8 x9 x10 x11 x12 x13 x14 x15 x16 x17 x18 x19 x20 x21) (jbd x0 x1 x2 x3 x4 x5 x6 x7 x8 x9 x10 x11 x12 x13 x14 x15 x16 x17 x18 x19 x20 x21 x22)
 def jbb:=Ji (x0=2) (∃(i0:Unit),z0x x2 (atS x2 x5) x3=decide (GV.n x3<=1)/\z6m x5 x2 (z5q x0 x1 x2 x3 x4 x9 x6 x7 x8 x15 x10 x11 x12 x13 x14 x16 x17 x18 x19 x20 x21)) (jbc x0 x1 x2 x3 x4 x5 x6 x7 x8 x9 x10 x11 x12 x13 x14 x15 x16 x17 x18 x19 x20 x21 x22)
 def zjl:=z0x x2 (atS x2 x0) x3=z0x x2 (atS x2 x0) x3/\isT (AT.k (atS x2 x0))=isT (AT.k (atS x2 x0))/\nB (AT.k (atS x2 x0))=nB (AT.k (atS x2 x0))/\x23
 def zrg:=((!decide (x0=14))=true->∃(i0:Unit),zjl x5 x2 x3 (z9q (atS x2 x5) x3= !decide (GV.b x3=0)/\isQ (AT.k (atS x2 x5))=isQ (AT.k (atS x2 x5))/\z5q x0 x1 x2 x3 x4 x9 x6 x7 x8 x15 x10 x11 x12 x13 x14 x16 x17 x18 x19 x20 x21))/\((!decide (x0=14))=false->∃(i1:Unit),zjl x5 x2 x3 (z9q (atS x2 x5) x3=false/\isQ (AT.k (atS x2 x5))=isQ (AT.k (atS x2 x5))/\z5q x0 x1 x2 x3 x4 x9 x6 x7 x8 x15 x10 x11 x12 x13 x14 x16 x17 x18 x19 x20 x21))
 def zz0:=Ji (0<(↑(GV.y x3).2.1:Int)) (∃(i0:Unit),zjl x0 x2 x3 (z9q (atS x2 x0) x3=true/\isQ (AT.k (atS x2 x0))=isQ (AT.k (atS x2 x0))/\z5q x5 x1 x2 x3 x4 x9 x6 x7 x8 x15 x10 x11 x12 x13 x14 x16 x17 x18 x19 x20 x21)) (zrg x5 x1 x2 x3 x4 x0 x6 x7 x8 x9 x10 x11 x12 x13 x14 x15 x16 x17 x18 x19 x20 x21)
 def zri:=(isQ (AT.k (atS x2 x0))=true->PV.fits x2 x0 (GV.pv x3)=true/\True)/\(isQ (AT.k (atS x2 x0))=false->PV.fits x2 x0 (GV.pv x3)=decide ((↑(GV.x x3).2.1:Int)=0)/\True)
 def zz5:=Ji (GV.s x3=mkS []) (zri x0 x2 x3) (zb2 x0 x2 x3)
 def zrh:=(isT (AT.k (atS x2 x0))=true->zri x0 x2 x3)/\(isT (AT.k (atS x2 x0))=false->zz5 x0 x2 x3)
 def zz4:=Ji (GV.n x3=0) (zrh x0 x2 x3) (zb2 x0 x2 x3)
 def zz2:=(nB (AT.k (atS x2 x0))=true->zrh x0 x2 x3)/\(nB (AT.k (atS x2 x0))=false->zz4 x0 x2 x3)
 def zz1:=(z0x x2 (atS x2 x0) x3=true->zz2 x0 x2 x3)/\(z0x x2 (atS x2 x0) x3=false->zb2 x0 x2 x3)
 def zyz:=(z9q (atS x2 x0) x3=true->zb2 x0 x2 x3)/\(z9q (atS x2 x0) x3=false->zz1 x0 x2 x3)
 def jbf:=(((!decide (x0=13))=true->zz0 x5 x1 x2 x3 x4 x0 x6 x7 x8 x9 x10 x11 x12 x13 x14 x15 x16 x17 x18 x19 x20 x21)/\((!decide (x0=13))=false->zrg x0 x1 x2 x3 x4 x5 x6 x7 x8 x9 x10 x11 x12 x13 x14 x15 x16 x17 x18 x19 x20 x21))/\∀(i5:Unit),True->zyz x5 x2 x3
 def jba:=(0<=x0/\x0<(↑x1.2.1:Int))/\x1.1≠noA/\∃(i0:Int),∃i1,∃i2,∃(i3:Nat),∃(i4:Nat),∃(i5:Int),∃i6,∃(i7:Nat),∃(i8:Nat),∃(i9:Bool),∃i10,∃(i11:Int),∃i12,∃(i13:Nat),∃(i14:Nat),∃i15,∃(i16:Nat),∃(i17:Nat),(∀i18,True/\z0a x2 x1 i18/\GV.ok x3 i18->q3p i18 (adr x1.1 (toNat x0*10)) [int i64 i0,string i1,slice i2 i3 i4,int i64 i5,slice i6 i7 i8,bool i9,string i10,int i64 i11,slice i12 i13 i14,slice i15 i16 i17])/\(Ji (i0=1) (∃(i19:Unit),z0x x2 (atS x2 x0) x3=true/\isT (AT.k (atS x2 x0))=false/\nB (AT.k (atS x2 x0))=false/\isQ (AT.k (atS x2 x0))=false/\z5q i0 x1 x2 x3 i3 i5 i1 i2 i4 i11 i6 i7 i8 i9 i10 i12 i13 i14 i15 i16 i17) (jbb i0 x1 x2 x3 i3 x0 i1 i2 i4 i5 i6 i7 i8 i9 i10 i11 i12 i13 i14 i15 i16 i17 x4))/\∀(i54:Unit),True->jbf i0 x1 x2 x3 i3 x0 i1 i2 i4 i5 i6 i7 i8 i9 i10 i11 i12 i13 i14 i15 i16 i17
end
def zbz(n:Nat) (S:List AT) (x:SV) (t:Int) (v:GV):qm2 P (qh2 [(14,j08),(15,z2a),(16,z8c.below zte (n+1))]) Try.f8 (z3r.below zn8 (n+1)) (zlh) ⟨S,x,t,v⟩=(zn8 (S,x,t,v)<n+1/\small S/\z1r S/\PV.sm (GV.pv v)->(∃(p:Pub),True/\z0a S x p/\GV.ok v p)->∃(s:(Option Addr×Nat×Nat)×Int),s.1.1=x.1/\s.1.2.1=x.2.1/\s.1.2.2=x.2.2/\s.2=t/\True/\((zrj s)=true->zb2 t S v)/\((zrj s)=false->jba t x S v n)):=by kernel_rfl
def zga:=λn S x t v=>Eq.trans (zbz n S x t v) (by delta Ji Jt Jf zrj zb2 z5q z6m zb1 z7v zyy zyx zz3 zjm zyw zyv jbi jbh jbg jbe jbd jbc jbb zjl zrg zz0 zri zz5 zrh zz4 zz2 zz1 zyz jbf jba;exact rfl)
section
variable (x0:SV) (x1:GV) (x2:AT) (x3:List AT) (x4:Prop) (x5 x6:Nat) (x7:FtS) (x8:Int) (x9:ByteArray) (x10 x11:Option Addr) (x12 x13:Nat) (x14:Int) (x15:Nat) (x16:Nat->Option Obj)
 abbrev z44:=True/\z0a x3 x0 x16/\AT.ok x2 x16/\GV.ok x1 x16
 abbrev z2v:=(↑(GV.x x1).2.1:Int)
 def zb9:=x0.1=x0.1/\x0.2.1=x0.2.1/\x0.2.2=x0.2.2/\GV.n x1=GV.n x1/\GV.s x1=GV.s x1/\(GV.x x1).1=(GV.x x1).1/\(GV.x x1).2.1=(GV.x x1).2.1/\(GV.x x1).2.2=(GV.x x1).2.2/\(GV.y x1).1=(GV.y x1).1/\(GV.y x1).2.1=(GV.y x1).2.1/\(GV.y x1).2.2=(GV.y x1).2.2/\GV.b x1=GV.b x1/\AT.k x2=AT.k x2/\AT.nm x2=AT.nm x2/\(AT.al x2).1=(AT.al x2).1/\(AT.al x2).2.1=(AT.al x2).2.1/\(AT.al x2).2.2=(AT.al x2).2.2/\AT.it x2=AT.it x2/\(AT.sy x2).1=(AT.sy x2).1/\(AT.sy x2).2.1=(AT.sy x2).2.1/\(AT.sy x2).2.2=(AT.sy x2).2.2/\AT.hd x2=AT.hd x2/\AT.df x2=AT.df x2/\AT.sz x2=AT.sz x2/\(AT.f x2).1=(AT.f x2).1/\(AT.f x2).2.1=(AT.f x2).2.1/\(AT.f x2).2.2=(AT.f x2).2.2/\(AT.br x2).1=(AT.br x2).1/\(AT.br x2).2.1=(AT.br x2).2.1/\(AT.br x2).2.2=(AT.br x2).2.2/\(∀i0,z44 x0 x1 x2 x3 i0->z44 x0 x1 x2 x3 i0)/\x4
 def zff:=AT.k x2≠14/\okQ x2 (length (GV.l x1)) (GV.ks x1) (GV.b x1)=true
 def zza:=((!decide ((z2v x1)=(↑(AT.f x2).2.1:Int)))=true->inF x3 x2 x1=false/\True)/\((!decide ((z2v x1)=(↑(AT.f x2).2.1:Int)))=false->∃(i0:Unit),zb9 x0 x1 x2 x3 ((zff x1 x2)/\True))
 abbrev z7x:=(↑(GV.y x1).2.1:Int)
 abbrev zb3:=x5<=length (GV.ks x1)/\(z2i (GV.ks x1)=if x5=0 then z2i (GV.ks x1)else z2i (drop (x5- 1) (GV.ks x1)))/\x4
 def zrn:=(∀i0,z44 x0 x1 x2 x3 i0->q3p i0 (adr (GV.y x1).1 (toNat (↑x5:Int)*1)) [string x9])
 def zrm:=((!vld x9)=true->inF x3 x2 x1=false/\True)/\((!vld x9)=false->False)
 def zze:=(!vld x9)= !vld x9/\(!vld x9)= !vld x9/\(!vld x9)= !vld x9/\zrm x1 x2 x3 x9
 def z16:=decide (0<(↑x5:Int))=decide (0<(↑x5:Int))
 abbrev zfe:=Jb ((↑x5:Int)+1)
 def zjo:=length (GV.ks x1)- x5<length (GV.ks x1)- x6/\True
 def z43:=decide (0<=GV.b x1)=decide (0<=GV.b x1)
 abbrev z7w:=GV.b x1<(↑(AT.br x2).2.1:Int)
 def z7y:=decide (z7w x1 x2)=decide (z7w x1 x2)
 def z2u:=decide ((z2v x1)=1)=decide ((z2v x1)=1)
 def zjp:=z2u x1/\z2u x1/\z2u x1/\z2u x1/\z2u x1/\x4
 def zrl:=x7.2.1.1=x0.1/\x7.2.1.2.1=x0.2.1/\x7.2.1.2.2=x0.2.2/\x4
 def zrk:=GV.n x7.2.2.2=x8/\GV.s x7.2.2.2=x9/\(GV.x x7.2.2.2).1=x10/\(GV.x x7.2.2.2).2.1=x5/\(GV.x x7.2.2.2).2.2=x6/\(GV.y x7.2.2.2).1=x11/\(GV.y x7.2.2.2).2.1=x12/\(GV.y x7.2.2.2).2.2=x13/\GV.b x7.2.2.2=x14/\(zn8 x7<x15/\small x7.1/\z1r x7.1/\PV.sm (GV.pv x7.2.2.2))/\(∀i0,z44 x0 x1 x2 x3 i0->z0a x7.1 x7.2.1 i0/\GV.ok x7.2.2.2 i0)/\x4
 def jbp:=zjp x1 ((0<=GV.b x1/\z7w x1 x2)/\(AT.br x2).1≠noA/\z2u x1/\∃(i0:Int),(∀i1,z44 x0 x1 x2 x3 i1->q3p i1 (adr (AT.br x2).1 (toNat (GV.b x1)*1)) [int i64 i0])/\z2u x1/\z2u x1/\z2u x1/\((0:Int)<=0/\0<(z2v x1))/\(GV.x x1).1≠noA/\z2u x1/\∃(i2:Int),∃i3,∃i4,∃(i5:Nat),∃(i6:Nat),∃i7,∃(i8:Nat),∃(i9:Nat),∃(i10:Int),(∀i11,z44 x0 x1 x2 x3 i11->q3p i11 (adr (GV.x x1).1 ((0:Nat)*5)) [int u64 i2,string i3,slice i4 i5 i6,slice i7 i8 i9,int i64 i10])/\z2u x1/\∃(i12:FtS),zrl x0 (i12.2.2.1=i0/\zrk x0 x1 x2 x3 (Ji ((z2v x1)=1) (inF x3 x2 x1=PV.fits i12.1 i12.2.2.1 (GV.pv i12.2.2.2)/\True) (inF x3 x2 x1=false/\True)) i5 i6 i12 i2 i3 i4 i7 i8 i9 i10 x5) i12)
 def zzb:=z2u x1/\zjp x1 (zjp x1 (Ji ((z2v x1)=1) (False) (inF x3 x2 x1=false/\True)))
 def jbo:=Ji ((z2v x1)=1) (jbp x0 x1 x2 x3 x5) (zzb x1 x2 x3)
 def jbn:=z7y x1 x2/\z7y x1 x2/\z7y x1 x2/\Ji (z7w x1 x2) (jbo x0 x1 x2 x3 x5) (inF x3 x2 x1=false/\True)
 def zzc:=z7y x1 x2/\z7y x1 x2/\z7y x1 x2/\Ji (z7w x1 x2) (False) (inF x3 x2 x1=false/\True)
 abbrev jbm:=Ji (z7w x1 x2) (jbn x0 x1 x2 x3 x5) (zzc x1 x2 x3)
 def jbl:=z43 x1/\z43 x1/\z43 x1/\z43 x1/\z43 x1/\Ji (0<=GV.b x1) (jbm x0 x1 x2 x3 x5) (inF x3 x2 x1=false/\True)
 def zzd:=z43 x1/\z43 x1/\z43 x1/\z43 x1/\z43 x1/\Ji (0<=GV.b x1) (False) (inF x3 x2 x1=false/\True)
 def jbk:=Ji (0<=GV.b x1) (jbl x0 x1 x2 x3 x5) (zzd x1 x2 x3)
 def jbj:=Ji (AT.k x2=14) (jbk x0 x1 x2 x3 x5) (∃(i14:Unit),zb9 x0 x1 x2 x3 ((zff x1 x2)/\True))
 def zjn:=x5<=length (GV.l x1)/\PV.fitL x3 (z2j x2 (GV.b x1)) x5 (drop x5 (GV.pvs (GV.l x1)))=PV.fitL x3 (z2j x2 (GV.b x1)) 0 (GV.pvs (GV.l x1))
 def zz8:=(0<=(↑x5:Int)/\(↑x5:Int)<(↑(AT.f x2).2.1:Int))/\(AT.f x2).1≠noA/\∃(i0:Int),(∀i1,z44 x0 x1 x2 x3 i1->q3p i1 (Addr.add (adr (AT.f x2).1 (toNat (↑x5:Int)*9)) 2) [int i64 i0])/\∃(i2:Unit),z2j x2 (GV.b x1) (toNat (↑x5:Int))=i0/\(↑x5:Int)=(↑x5:Int)/\zb9 x0 x1 x2 x3 (True/\True)
 def zz9:=zfe x5/\∃(i0:Nat),(↑i0:Int)=(↑x5:Int)+1/\zb9 x0 x1 x2 x3 ((zjn x1 x2 x3 i0)/\length (GV.l x1)- i0<length (GV.l x1)- x5/\True)
 def zz7:=(0<=(↑x5:Int)/\(↑x5:Int)<(z2v x1))/\(GV.x x1).1≠noA/\∃(i0:Int),∃i1,∃i2,∃(i3:Nat),∃(i4:Nat),∃i5,∃(i6:Nat),∃(i7:Nat),∃(i8:Int),(∀i9,z44 x0 x1 x2 x3 i9->q3p i9 (adr (GV.x x1).1 (toNat (↑x5:Int)*5)) [int u64 i0,string i1,slice i2 i3 i4,slice i5 i6 i7,int i64 i8])/\∃(i10:FtS),zrl x0 (i10.2.2.1=z2j x2 (GV.b x1) (toNat (↑x5:Int))/\zrk x0 x1 x2 x3 (((!PV.fits i10.1 i10.2.2.1 (GV.pv i10.2.2.2))=true->inF x3 x2 x1=false/\True)/\((!PV.fits i10.1 i10.2.2.1 (GV.pv i10.2.2.2))=false->zz9 x0 x1 x2 x3 x5)) i3 i4 i10 i0 i1 i2 i5 i6 i7 i8 x6) i10
 def zz6:=(Ji (AT.k x2=9) (zz8 x0 x1 x2 x3 x5) (∃(i3:Unit),z2j x2 (GV.b x1) (toNat (↑x5:Int))=AT.it x2/\(↑x5:Int)=(↑x5:Int)/\zb9 x0 x1 x2 x3 (True/\True)))/\∀(i4:Unit),True->zz7 x0 x1 x2 x3 x5 x6
 def jbr:=Ji ((↑x5:Int)<(z2v x1)) (zz6 x0 x1 x2 x3 x5 x6) (inF x3 x2 x1=true/\True)
 def jbq:=(∃(i0:Nat),(↑i0:Int)=0/\zb9 x0 x1 x2 x3 ((zjn x1 x2 x3 i0)/\True))/\∀(i1:Nat),zjn x1 x2 x3 i1->jbr x0 x1 x2 x3 i1 x5
end
def zcb(n:Nat) (S:List AT) (x:SV) (a:AT) (v:GV):qm2 P (qh2 [(15,z2a),(8,z3r.below zn8 n)]) Try.f16 (z8c.below zte (n+1)) (zlk) ⟨S,x,a,v⟩=(zte (S,x,a,v)<n+1/\small S/\z1r S/\length (AT.fs a)<1000000/\PV.sm (GV.pv v)/\isQ (AT.k a)=true->(∃(p:Pub),z44 x v a S p)->(Ji (AT.k a=9) (zza x v a S) (Ji (AT.k a=13) (((!decide ((z2v v)=(z7x v)))=true->inF S a v=false/\True)/\((!decide ((z2v v)=(z7x v)))=false->(∃(s:Nat),(↑s:Int)=0/\zb9 x v a S ((zb3 v (∀(h:0<s) (h2:s<=length (GV.ks v)),vld (GV.ks v)[s- 1]=true) s)/\True))/\∀(s:Nat),(zb3 v (∀(h:0<s) (h2:s<=length (GV.ks v)),vld (GV.ks v)[s- 1]=true) s)->Ji ((↑s:Int)<(z7x v)) ((0<=(↑s:Int)/\(↑s:Int)<(z7x v))/\(GV.y v).1≠noA/\∃(s_1:ByteArray),zrn x v a S s s_1/\s_1=s_1/\size s_1<9223372036854775808/\((!vld s_1)=true->zze v a S s_1)/\((!vld s_1)=false->(!vld s_1)= !vld s_1/\(!vld s_1)= !vld s_1/\Ji (0<(↑s:Int)) (z16 s/\z16 s/\z16 s/\(0<=(↑s:Int)/\(↑s:Int)<(z7x v))/\(GV.y v).1≠noA/\z16 s/\∃(s_2:ByteArray),zrn x v a S s s_2/\z16 s/\z16 s/\z16 s/\z16 s/\Jb ((↑s:Int)- 1)/\z16 s/\(0<=(↑s:Int)- 1/\(↑s:Int)- 1<(z7x v))/\(GV.y v).1≠noA/\z16 s/\∃(s_3:ByteArray),(∀(p:Pub),z44 x v a S p->q3p p (adr (GV.y v).1 (toNat ((↑s:Int)- 1)*1)) [string s_3])/\z16 s/\(!vld s_1)= !vld s_1/\Ji (0<(↑s:Int)) (((!vld s_1)=true->inF S a v=false/\True)/\((!vld s_1)=false->((qfa s_2 s_3||decide (s_2=s_3))=true->inF S a v=false/\True)/\((qfa s_2 s_3||decide (s_2=s_3))=false->zfe s/\∃(s_4:Nat),(↑s_4:Int)=(↑s:Int)+1/\zb9 x v a S ((zb3 v (∀(h:0<s_4) (h2:s_4<=length (GV.ks v)),vld (GV.ks v)[s_4- 1]=true) s_4)/\zjo v s_4 s)))) (((!vld s_1)=true->inF S a v=false/\True)/\((!vld s_1)=false->zfe s/\∃(s_4:Nat),(↑s_4:Int)=(↑s:Int)+1/\zb9 x v a S ((zb3 v (∀(h:0<s_4) (h2:s_4<=length (GV.ks v)),vld (GV.ks v)[s_4- 1]=true) s_4)/\zjo v s_4 s)))) (z16 s/\z16 s/\z16 s/\z16 s/\z16 s/\z16 s/\z16 s/\z16 s/\z16 s/\z16 s/\z16 s/\(!vld s_1)= !vld s_1/\Ji (0<(↑s:Int)) (zrm v a S s_1) (((!vld s_1)=true->inF S a v=false/\True)/\((!vld s_1)=false->zfe s/\∃(s_2:Nat),(↑s_2:Int)=(↑s:Int)+1/\zb9 x v a S ((zb3 v (∀(h:0<s_2) (h2:s_2<=length (GV.ks v)),vld (GV.ks v)[s_2- 1]=true) s_2)/\zjo v s_2 s)))))) (∃(s:Unit),zb9 x v a S ((zff v a)/\True)))) (jbj x v a S n)))/\∀(s:Unit),zff v a->jbq x v a S n):=by kernel_rfl
def zgs:=λn S x a v=>Eq.trans (zcb n S x a v) (by delta Ji Jb Jt Jf z44 z2v zb9 zff zza z7x zb3 zrn zrm zze z16 zfe zjo z43 z7w z7y z2u zjp zrl zrk jbp zzb jbo jbn zzc jbm jbl zzd jbk jbj zjn zz8 zz9 zz7 zz6 jbr jbq;exact rfl)
def zcd:q5k P 14 j08:=by
 refine qm5 mixed z0p (W:=λ_=>{}) Try.func14 (by kernel_rfl) (by decide) (by decide) (λs=>by kernel_rfl) λ⟨(x:SV),(t:Int)⟩=>(zmw x t).mpr ?_
 intro _
 simp only[sbS,Int.toNat_natCast]
 refine⟨λh=> ?_,λh=> ?_⟩
 ·rw[decide_eq_true h];rfl
 ·rw[decide_eq_false h];rfl
def z6x:∀x y:List UInt8,(Op.bytesLess x y||decide (x=y))= !Op.bytesLess y x
  | [],[]=>by simp[Op.bytesLess]
  | [],b::y=>by simp[Op.bytesLess]
  |a::x,[]=>by simp[Op.bytesLess]
  | a ::x,b::y=>by
    have ih:=z6x x y
    rw[Op.bytesLess,Op.bytesLess]
    have tri:a<b\/a=b\/b<a:=by
      rcases Nat.lt_trichotomy a.toNat b.toNat with h|h|h
      · exact .inl (UInt8.lt_iff_toNat_lt.2 h)
      · exact .inr (.inl (UInt8.toNat_inj.1 h))
      · exact .inr (.inr (UInt8.lt_iff_toNat_lt.2 h))
    rcases tri with h|h|h
    · have h2:¬b<a:=UInt8.lt_asymm h
      have h3:¬b=a:=λe=>by subst e;exact UInt8.lt_irrefl _ h
      simp[h,h2,h3]
    · subst h
      have h2:¬a<a:=UInt8.lt_irrefl a
      simp[h2]
      rw[←ih]
    · have h2:¬a<b:=UInt8.lt_asymm h
      have h3:¬a=b:=λe=>by subst e;exact UInt8.lt_irrefl _ h
      simp[h,h2,h3]
def z1a(x y:ByteArray):(qfa x y=true\/x=y)↔qfa y x=false:=by
 have h:=z6x x.toList y.toList
 have e:=qk3 x y
 unfold qfa
 by_cases hxy:x=y
 ·have:x.toList=y.toList:=by rw[hxy]
  rw[decide_eq_true this,Bool.or_true]at h
  simp[hxy]
  rw[hxy]at h
  simpa using h.symm
 ·have:¬x.toList=y.toList:=λg=>by rw[g]at e;simp at e;exact hxy e
  rw[decide_eq_false this,Bool.or_false]at h
  rw[h];simp[hxy]
def zgt (n:Nat) (hf:q5k P 8 (z3r.below zn8 n)):q5k P 16 (z8c.below zte (n+1)):=by
  refine qm5 mixed (qee (qih z6f (qih hf qlq))) (W:=zlk) Try.func16 (by kernel_rfl) (show 1<=1 by decide) (show 1<=1 by decide) (λs=>by kernel_rfl) λ⟨S,(x:SV),a,v⟩=>(zgs n S x a v).mpr ?_
  rintro⟨hmu,hS,hkS,haf,hv,hq⟩ ⟨p,_,hx,ha,hvo⟩
  have hmu:SizeOf.sizeOf v<n+1:=hmu
  have xl:=GV.x_len hvo
  have yl:=GV.y_len hvo
  have fl:a.f.2.1=a.fs.length:=ha.2.2.1.1
  have bl:a.br.2.1=a.brs.length:=ha.2.2.2.1.1
  have hvs:=hv
  rw[GV.sm_eq]at hvs
  obtain⟨_,_,vl,kl,hsz,_⟩:=hvs
  have txs:∀q,v.ok q->slP txV v.y v.ks q:=λq h=>by rw[GV.ok_eq]at h;exact h.2.1
  simp only[sbS,exists_const,forall_const,Int.toNat_natCast,xl,yl,fl,bl,Bool.or_eq_true,Bool.or_eq_false_iff]
  have bad:okQ a v.l.length v.ks v.b=false->inF S a v=false:=λh=>by unfold inF;rw[h];rfl
  have child:∀{j:Nat} (hj:j<v.l.length),SizeOf.sizeOf v.l[j]<n:=λ{j} hj=>by
    have h1:=zdd hj
    have:SizeOf.sizeOf v.l<SizeOf.sizeOf v:=by cases v;simp[GV.l];omega
    omega
  have fdrop:∀{j:Nat} (hj:j<v.l.length),PV.fitL S (z2j a v.b) j ((GV.pvs v.l).drop j)=(PV.fits S (z2j a v.b j) (v.l[j]).pv&&PV.fitL S (z2j a v.b) (j+1) ((GV.pvs v.l).drop (j+1))):=λ{j} hj=>by
    have:=zby (S:=S) (f:=z2j a v.b) (l:=GV.pvs v.l) (j:=j) (by rw[GV.pvs_len];exact hj)
    rw[z93 hj]at this;exact this
  have fend:PV.fitL S (z2j a v.b) v.l.length ((GV.pvs v.l).drop v.l.length)=true:=by
    rw[List.drop_of_length_le (by rw[GV.pvs_len];exact Nat.le_refl _),PV.fitL]
  have ok9:a.k=9->okQ a v.l.length v.ks v.b=decide (v.l.length=a.fs.length):=λh=>by unfold okQ;rw[if_pos h]
  have ok14:a.k=14->okQ a v.l.length v.ks v.b=decide (0<=v.b/\v.b<a.brs.length/\v.l.length=1):=λh=>by unfold okQ;rw[if_neg (by omega),if_pos h]
  have ok13:a.k=13->okQ a v.l.length v.ks v.b=(decide (v.l.length=v.ks.length)&&z2i v.ks):=λh=>by unfold okQ;rw[if_neg (by omega),if_neg (by omega),if_pos h]
  have ok12:¬a.k=9->¬a.k=13->¬a.k=14->okQ a v.l.length v.ks v.b=true:=λh1 h2 h3=>by unfold okQ;rw[if_neg h1,if_neg h3,if_neg h2]
  refine⟨⟨λh9=>⟨λh=>bad (by rw[ok9 h9];exact decide_eq_false (by omega)),λh=>⟨by omega,by rw[ok9 h9];exact decide_eq_true (by omega)⟩⟩,λh9=>⟨λh13=>⟨λh=>bad (by rw[ok13 h13,decide_eq_false (by omega)];rfl),λh=>⟨⟨0,rfl,Nat.zero_le _,rfl,λh=>absurd h (by omega)⟩,?_⟩⟩,λh13=>⟨λh14=> ?_,λh14=>⟨h14,ok12 h9 h13 h14⟩⟩⟩⟩,?_⟩
  · rintro j ⟨hj,hk,hvv⟩
    have bad13:z2i v.ks=false->inF S a v=false:=λg=>bad (by rw[ok13 h13,g,Bool.and_false])
    refine⟨λhlt=> ?_,λhge=>⟨by omega,?_⟩⟩
    · have hjk:j<v.ks.length:=by omega
      have tx:=λq (hq:z0a S x q/\a.ok q/\v.ok q)=>zoa (txs q hq.2.2) hjk
      have hsj:=hsz _ (List.getElem_mem hjk)
      have bv:vld v.ks[j]=false->inF S a v=false:=λhb=>bad13 (z8u hjk hb)
      have t0:=tx p ⟨hx,ha,hvo⟩
      refine⟨⟨by omega,by omega⟩,t0.1,v.ks[j],λq hq=>(tx q hq).2,hsj,λhb=>⟨λ_=>bv hb,λh=>by rw[hb]at h;cases h⟩,λhg=>⟨λh0=> ?_,λh0=>⟨λh=>absurd h h0,λ_=>⟨λhb=>bv hb,λ_=> ?_⟩⟩⟩⟩
      · have hj1:j- 1<v.ks.length:=by omega
        have e:((j:Int)- 1).toNat=j- 1:=by omega
        rw[e]
        have tx1:=λq (hq:z0a S x q/\a.ok q/\v.ok q)=>zoa (txs q hq.2.2) hj1
        have kd:=zcl (ks:=v.ks) (j:=j- 1) (by omega)
        simp only[show j- 1+1=j by omega]at kd
        rw[if_neg (by omega)]at hk
        refine⟨⟨by omega,by omega⟩,t0.1,v.ks[j],λq hq=>(tx q hq).2,⟨by omega,by omega⟩,⟨by omega,by omega⟩,t0.1,v.ks[j- 1],λq hq=>(tx1 q hq).2,λ_=>⟨λhb=>bv hb,λ_=>⟨λhl=> ?_,λhl=> ?_⟩⟩,λh=>absurd h0 h⟩
        · have:=(z1a _ _).1 hl
          exact bad13 (by rw[hk,kd,this,Bool.and_false];rfl)
        · have:qfa v.ks[j- 1] v.ks[j]=true:=by
            cases hb:qfa v.ks[j- 1] v.ks[j]with
            |true=>rfl
            | false=>
              rcases(z1a _ _).2 hb with g|g
              · rw[hl.1]at g;cases g
              · exact absurd g hl.2
          refine⟨⟨by omega,by omega⟩,j+1,by omega,⟨by omega,?_,λ_ _=>hg⟩,by omega⟩
          rw[if_neg (by omega),Nat.add_sub_cancel,hk,kd,this,hvv (by omega) (by omega)];rfl
      · obtain rfl:j=0:=by omega
        exact⟨⟨by omega,by omega⟩,1,rfl,⟨by omega,by simp,λ_ _=>hg⟩,by omega⟩
    · obtain rfl:j=v.ks.length:=by omega
      have:z2i v.ks=true:=by
        by_cases h0:v.ks.length=0
        · rw[List.length_eq_zero_iff]at h0;rw[h0,z2i]
        · rw[if_neg h0]at hk
          have:=hvv (by omega) (Nat.le_refl _)
          rw[hk,List.drop_eq_getElem_cons (by omega),show v.ks.length- 1+1=v.ks.length by omega,List.drop_length,z2i]
          exact this
      rw[ok13 h13,this,Bool.and_true];exact decide_eq_true (by omega)
  · have bd:¬(0<=v.b/\v.b<a.brs.length/\v.l.length=1)->inF S a v=false:=λh=>bad (by rw[ok14 h14];exact decide_eq_false h)
    refine⟨λd1=>⟨λ_=>⟨λd2=>⟨λ_=>⟨λd3=> ?_,λd3=>⟨λh=>d3 h,λ_=>bd (by omega)⟩⟩,λh=>absurd d2 h⟩,λd2=>⟨λh=>d2 h,λ_=>bd (by omega)⟩⟩,λh=>absurd d1 h⟩,λd1=>⟨λh=>d1 h,λ_=>bd (by omega)⟩⟩
    have hl1:v.l.length=1:=by omega
    have h0:0<v.l.length:=by omega
    obtain⟨b,hb⟩:=Int.eq_ofNat_of_zero_le d1
    have hbl:b<a.brs.length:=by omega
    have hbt:v.b.toNat=b:=by omega
    rw[hbt]
    have hty:z2j a v.b 0=a.brs[b]:=by
      unfold z2j
      rw[if_neg h9,if_pos h14,hbt,List.getD_eq_getElem?_getD,List.getElem?_eq_getElem hbl];rfl
    have hd:=fdrop h0
    have fe:=fend
    rw[hl1]at fe
    rw[List.drop_zero,hty,Nat.zero_add,fe,Bool.and_true]at hd
    have hin:inF S a v=PV.fits S a.brs[b] (v.l[0]).pv:=by
      unfold inF;rw[ok14 h14,decide_eq_true ⟨d1,d2,hl1⟩,hd];rfl
    refine⟨⟨by omega,by omega⟩,(z60 ha hbl).1,a.brs[b],λq hq=>(z60 hq.2.1 hbl).2,⟨by omega,by omega⟩,(GV.cells_at hvo h0).1,v.l[0].n,v.l[0].s,v.l[0].x.1,v.l[0].x.2.1,v.l[0].x.2.2,v.l[0].y.1,v.l[0].y.2.1,v.l[0].y.2.2,v.l[0].b,λq hq=>(GV.cells_at hq.2.2 h0).2,⟨S,x,a.brs[b],v.l[0]⟩,rfl,rfl,rfl,rfl,rfl,rfl,rfl,rfl,rfl,rfl,rfl,rfl,rfl,⟨child h0,hS,hkS,GV.sm_at hv h0⟩,λq hq=>⟨hq.1,GV.ok_at hq.2.2 h0⟩,?_⟩
    exact⟨λ_=>hin,λh=>absurd d3 h⟩
  · rintro⟨h14,hok⟩
    refine⟨⟨0,rfl,Nat.zero_le _,by simp⟩,?_⟩
    rintro j ⟨hj,ht⟩
    refine⟨λhlt=> ?_,λhge=> ?_⟩
    · have hjl:j<v.l.length:=by omega
      have hd:=fdrop hjl
      refine⟨⟨λh9=> ?_,λh9=>by unfold z2j;rw[if_neg h9,if_neg h14]⟩,⟨by omega,by omega⟩,(GV.cells_at hvo hjl).1,v.l[j].n,v.l[j].s,v.l[j].x.1,v.l[j].x.2.1,v.l[j].x.2.2,v.l[j].y.1,v.l[j].y.2.1,v.l[j].y.2.2,v.l[j].b,λq hq=>(GV.cells_at hq.2.2 hjl).2,⟨S,x,z2j a v.b j,v.l[j]⟩,rfl,rfl,rfl,rfl,rfl,rfl,rfl,rfl,rfl,rfl,rfl,rfl,rfl,⟨child hjl,hS,hkS,GV.sm_at hv hjl⟩,λq hq=>⟨hq.1,GV.ok_at hq.2.2 hjl⟩,λhb=> ?_,λhb=>⟨⟨by omega,by omega⟩,j+1,by omega,⟨by omega,?_⟩,by omega⟩⟩
      · have hjf:j<a.fs.length:=by
          rw[ok9 h9]at hok;have:=of_decide_eq_true hok;omega
        have fa:=λq (hq:z0a S x q/\a.ok q/\v.ok q)=>z8o hq.2.1 hjf
        refine⟨⟨by omega,by omega⟩,(fa p ⟨hx,ha,hvo⟩).1,a.fs[j].ty,λq hq=> ?_,by unfold z2j;rw[if_pos h9,List.getElem?_eq_getElem hjf]⟩
        intro i w hi
        cases i with
        |zero=>have:=(fa q hq).2 2 w hi;rw[Addr.add_add];exact this
        |succ i=>simp at hi
      · unfold inF;rw[←ht,hd,hb,Bool.false_and,Bool.and_false]
      · rw[←ht,hd,hb,Bool.true_and]
    · obtain rfl:j=v.l.length:=by omega
      unfold inF
      rw[hok,←ht,fend];rfl
def zgb(n:Nat) (hf:q5k P 16 (z8c.below zte (n+1))):q5k P 8 (z3r.below zn8 (n+1)):=by
  refine qm5 mixed (qee (qih zcd (qih z6f (qih hf qlq)))) (W:=zlh) Try.func8 (by kernel_rfl) (show 1<=1 by decide) (show 1<=1 by decide) (λs=>by kernel_rfl) λ⟨S,(x:SV),(t:Int),v⟩=>(zga n S x t v).mpr ?_
  rintro⟨hmu,hS,hkS,hv⟩ ⟨p,_,hx,hvo⟩
  have hmu:SizeOf.sizeOf v<n+1:=hmu
  have xl:=GV.x_len hvo
  have yl:=GV.y_len hvo
  have sl:x.2.1=S.length:=hx.1.1
  have hvs:=hv
  rw[GV.sm_eq]at hvs
  obtain⟨hn,hs,vl,kl,hsz,_⟩:=hvs
  simp only[sbS,exists_const,forall_const,Int.toNat_natCast,xl,yl,sl]
  have hfit:PV.fits S t v.pv=if t<0\/S.length<=t then false else match S[t.toNat]? with
    |none=>false
    | some a=>if isN a.k=true then okN a v.n&&decide (v.s.size=0)&&zti v.l.length v.ks.length v.b else
      if isT a.k=true then okT a v.s&&decide (v.n=0)&&zti v.l.length v.ks.length v.b else
      if isQ a.k=true then okP a v.l.length v.ks v.b&&PV.fitL S (z2j a v.b) 0 (GV.pvs v.l)&&decide (v.n=0)&&decide (v.s.size=0)else false:=by
    rw[GV.pv_eq,PV.fits,GV.pvs_len]<;>rfl
  refine⟨⟨x,t⟩,rfl,sl,rfl,rfl,?_⟩
  simp only[sl]
  refine⟨λh=> ?_,λh=> ?_⟩
  · rw[hfit,if_pos]
    by_cases h1:0<=t
    · rw[decide_eq_true h1,Bool.true_and]at h;have:=of_decide_eq_false h;omega
    · omega
  rw[Bool.and_eq_true,decide_eq_true_eq,decide_eq_true_eq]at h
  obtain⟨j,rfl⟩:=Int.eq_ofNat_of_zero_le h.1
  have hj:j<S.length:=by omega
  have hae:atS S (j:Int)=S[j]:=by unfold atS;rw[Int.toNat_natCast,List.getElem?_eq_getElem hj];rfl
  rw[if_neg (by omega)]at hfit
  rw[hae]
  simp only[Int.toNat_natCast,List.getElem?_eq_getElem hj]at hfit⊢
  have hat:=λq (hq:z0a S x q/\v.ok q)=>z9e hq.1 hj
  have hao:=λq (hq:z0a S x q/\v.ok q)=>hq.1.2 S[j] (List.getElem_mem hj)
  have hsm:=hS.2 S[j] (List.getElem_mem hj)
  have hkk:=hkS S[j] (List.getElem_mem hj)
  have syl:S[j].sy.2.1=S[j].sys.length:=(hao p ⟨hx,hvo⟩).2.1.1
  refine⟨⟨by omega,by omega⟩,(hat p ⟨hx,hvo⟩).1,S[j].k,S[j].nm,S[j].al.1,S[j].al.2.1,S[j].al.2.2,S[j].it,S[j].sy.1,S[j].sy.2.1,S[j].sy.2.2,S[j].hd,S[j].df,S[j].sz,S[j].f.1,S[j].f.2.1,S[j].f.2.2,S[j].br.1,S[j].br.2.1,S[j].br.2.2,λq hq=>(hat q hq).2,?_⟩
  have hao2:=λq (hq:z0a S x q/\v.ok q)=>hao q hq
  generalize S[j]=a at*
  clear hat hao hae
  have w64:IntKind.wrap .i64 v.n=if v.n<9223372036854775808 then v.n else v.n- 18446744073709551616:=by
    unfold IntKind.wrap;simp[IntKind.bits,IntKind.signed];omega
  have u64:IntKind.wrap .u64 (a.sys.length:Int)=a.sys.length:=by rw[zei];omega
  simp only[syl,u64]
  have kinds:a.k=1\/a.k=2\/a.k=3\/a.k=4\/a.k=5\/a.k=6\/a.k=7\/a.k=8\/a.k=9\/a.k=10\/a.k=11\/a.k=12\/a.k=13\/a.k=14:=by omega
  have hin:isQ a.k=true->z0x S a v=inF S a v:=λh=>by
    unfold isQ at h
    have h:=of_decide_eq_true h
    unfold z0x isN isT
    rw[if_neg (by omega),if_neg (by simp;omega),if_neg (by simp;omega)]
  have hbadB:z9q a v=true↔(a.k≠13/\0<v.ks.length)\/(a.k≠14/\v.b≠0):=by
    unfold z9q;simp
  have hbadF:z9q a v=false↔¬((a.k≠13/\0<v.ks.length)\/(a.k≠14/\v.b≠0)):=by
    rw[←hbadB];simp
  have sE:(v.s=mkS [])↔v.s.size=0:=zn7
  have key:PV.fits S (j:Int) v.pv=(!z9q a v&&z0x S a v&&(nB a.k||decide (v.n=0))&&(isT a.k||decide (v.s=mkS []))&&(isQ a.k||decide (v.l.length=0))):=by
    rw[hfit,Bool.eq_iff_iff]
    by_cases hN:isN a.k=true
    · have hk1:=of_decide_eq_true hN
      have hT:isT a.k=false:=decide_eq_false (by omega)
      have hQ:isQ a.k=false:=decide_eq_false (by omega)
      rw[if_pos hN,hT,hQ]
      have hok:(z0x S a v&&(nB a.k||decide (v.n=0)))=okN a v.n:=by
        unfold z0x
        by_cases h1:a.k=1
        · rw[if_pos h1];unfold nB okN;rw[if_pos h1,decide_eq_false (by omega)];rfl
        · rw[if_neg h1,if_pos hN];unfold nB;rw[decide_eq_true (by omega)];simp
      have e:(!z9q a v&&z0x S a v&&(nB a.k||decide (v.n=0))&&(false||decide (v.s=mkS []))&&(false||decide (v.l.length=0)))=(!z9q a v&&(z0x S a v&&(nB a.k||decide (v.n=0)))&&(false||decide (v.s=mkS []))&&(false||decide (v.l.length=0))):=by simp only[Bool.and_assoc]
      rw[e,hok]
      unfold zti
      simp only[Bool.and_eq_true,Bool.or_eq_true,Bool.not_eq_true',decide_eq_true_eq,hbadF,sE,Bool.false_eq_true,false_or]
      constructor
      · rintro⟨⟨h1,h2⟩,⟨h3,h4⟩,h5⟩;exact⟨⟨⟨by omega,h1⟩,h2⟩,h3⟩
      · rintro⟨⟨⟨h1,h2⟩,h3⟩,h4⟩;exact⟨⟨h2,h3⟩,⟨h4,by omega⟩,by omega⟩
    · rw [if_neg hN]
      have hN':isN a.k=false:=by simpa using hN
      have nn:nB a.k=false:=by
        have:=of_decide_eq_false hN'
        exact decide_eq_false (by omega)
      by_cases hT:isT a.k=true
      · have hk1:=of_decide_eq_true hT
        have hQ:isQ a.k=false:=decide_eq_false (by omega)
        have hok:z0x S a v=okT a v.s:=by unfold z0x;rw[if_neg (by omega),if_neg hN,if_pos hT]
        rw[if_pos hT,hQ,nn,hT,hok]
        unfold zti
        simp only[Bool.and_eq_true,Bool.or_eq_true,Bool.not_eq_true',decide_eq_true_eq,hbadF,sE,Bool.false_eq_true,false_or,true_or,and_true]
        constructor
        · rintro⟨⟨h1,h2⟩,⟨h3,h4⟩,h5⟩;exact⟨⟨⟨by omega,h1⟩,h2⟩,h3⟩
        · rintro⟨⟨⟨h1,h2⟩,h3⟩,h4⟩;exact⟨⟨h2,h3⟩,⟨h4,by omega⟩,by omega⟩
      · have hT':isT a.k=false:=by simpa using hT
        have hQ:isQ a.k=true:=by
          have h1:=of_decide_eq_false hT'
          have h2:=of_decide_eq_false hN'
          exact decide_eq_true (by omega)
        have hk1:=of_decide_eq_true hQ
        rw[if_neg hT,if_pos hQ,hQ,nn,hT',hin hQ]
        have hop:okP a v.l.length v.ks v.b=(!z9q a v&&okQ a v.l.length v.ks v.b):=by
          unfold okP okQ
          by_cases hb:v.ks.length>0/\a.k≠13\/v.b≠0/\a.k≠14
          · rw[if_pos hb,hbadB.2 (by omega)];rfl
          · rw[if_neg hb,hbadF.2 (by omega)];rfl
        unfold inF
        rw[hop]
        simp only[Bool.and_eq_true,Bool.or_eq_true,Bool.not_eq_true',decide_eq_true_eq,hbadF,sE,Bool.false_eq_true,false_or,true_or,and_true]
        constructor
        · rintro⟨⟨⟨⟨h1,h2⟩,h3⟩,h4⟩,h5⟩;exact⟨⟨⟨h1,h2,h3⟩,h4⟩,h5⟩
        · rintro⟨⟨⟨h1,h2,h3⟩,h4⟩,h5⟩;exact⟨⟨⟨⟨h1,h2⟩,h3⟩,h4⟩,h5⟩
  have tri:∀k:Int,a.k=k->(isN k=true\/isT k=true)->z0x S a v=(if k=1 then true else if isN k=true then okN a v.n else okT a v.s)/\isT a.k=isT k/\nB a.k=nB k/\isQ a.k=isQ k:=λk hk hh=>by
    subst hk
    refine⟨?_,rfl,rfl,rfl⟩
    unfold z0x
    by_cases h1:a.k=1
    · rw[if_pos h1,if_pos h1]
    · rw[if_neg h1,if_neg h1]
      by_cases hN:isN a.k=true
      · rw[if_pos hN,if_pos hN]
      · rw[if_neg hN,if_neg hN,if_pos (hh.resolve_left hN)]
  have oN:∀k:Int,a.k=k->okN a v.n=(if k=1 then decide (v.n=0)else if k=2 then decide (v.n<=1)else if k=3 then decide (v.n<2147483648\/18446744071562067968<=v.n)else if k=5 then decide (v.n<4294967296)else if k=10 then decide (v.n<a.sys.length)else true):=λk hk=>by subst hk;rfl
  have oT:∀k:Int,a.k=k->okT a v.s=(if k=8 then vld v.s else if k=11 then decide ((v.s.size:Int)=a.sz)else true):=λk hk=>by subst hk;rfl
  clear hfit
  refine⟨⟨λh1=> ?_,λh1=>⟨λh2=> ?_,λh2=>⟨λh3=>⟨λh5=>⟨λ_=> ?_,λh=>absurd h5 h⟩,λh5=>⟨λh=>absurd h h5,λ_=> ?_⟩⟩,λh3=>⟨⟨trivial,λh4=> ?_,λh4=> ?_⟩,λh46=> ?_,λh46=>⟨λh5=> ?_,λh5=>⟨λh10=> ?_,λh10=>⟨λh7=> ?_,λh7=>⟨λh8=>⟨hs,?_⟩,λh8=>⟨λh11=> ?_,λh11=> ?_⟩⟩⟩⟩⟩⟩⟩⟩⟩,⟨λh13=>⟨λhk=> ?_,λhk=>⟨λh14=> ?_,λh14=> ?_⟩⟩,λh13=>⟨λh14=> ?_,λh14=> ?_⟩⟩,λhB=> ?_,λhB=>⟨λho=>⟨λhn'=>⟨λht=>⟨λhq=> ?_,λhq=> ?_⟩,λht=>⟨λhs'=>⟨λhq=> ?_,λhq=> ?_⟩,λhs'=> ?_⟩⟩,λhn'=>⟨λhn0=>⟨λht=>⟨λhq=> ?_,λhq=> ?_⟩,λht=>⟨λhs'=>⟨λhq=> ?_,λhq=> ?_⟩,λhs'=> ?_⟩⟩,λhn0=> ?_⟩⟩,λho=> ?_⟩⟩
  · have:=tri 1 h1 (.inl rfl);exact this
  · have:=tri 2 h2 (.inl rfl);rw[oN 2 h2]at this;exact this
  · have:=tri 3 h3 (.inl rfl);rw[oN 3 h3]at this
    refine⟨this.1.trans ?_,this.2⟩
    show decide (v.n<2147483648\/18446744071562067968<=v.n)=_
    rw[w64]at h5⊢
    split at h5<;>exact z2l (by omega)
  · have:=tri 3 h3 (.inl rfl);rw[oN 3 h3]at this
    refine⟨this.1.trans ?_,this.2⟩
    show decide (v.n<2147483648\/18446744071562067968<=v.n)=_
    rw[w64]at h5
    split at h5<;>exact decide_eq_false (by omega)
  · unfold b46;rw[h4];rfl
  · unfold b46;rw[decide_eq_false h4];rfl
  · unfold b46 at h46
    rw[Bool.or_eq_true,decide_eq_true_eq,decide_eq_true_eq]at h46
    rcases h46 with h|h
    · have:=tri 4 h (.inl rfl);rw[oN 4 h]at this;exact this
    · have:=tri 6 h (.inl rfl);rw[oN 6 h]at this;exact this
  · have:=tri 5 h5 (.inl rfl);rw[oN 5 h5]at this;exact this
  · have:=tri 10 h10 (.inl rfl);rw[oN 10 h10]at this;exact this
  · have:=tri 7 h7 (.inr rfl);rw[oT 7 h7]at this;exact this
  · have:=tri 8 h8 (.inr rfl);rw[oT 8 h8]at this;exact this
  · have:=tri 11 h11 (.inr rfl);rw[oT 11 h11]at this;exact this
  · have hb6:¬a.k=4/\¬a.k=6:=by
      unfold b46 at h46
      rw[Bool.or_eq_false_iff,decide_eq_false_iff_not,decide_eq_false_iff_not]at h46;exact h46
    have hQ:isQ a.k=true:=decide_eq_true (by omega)
    refine⟨⟨S,x,a,v⟩,rfl,sl,rfl,rfl,rfl,rfl,rfl,rfl,rfl,rfl,syl,rfl,rfl,rfl,rfl,rfl,rfl,rfl,rfl,rfl,rfl,rfl,rfl,rfl,xl,rfl,rfl,yl,rfl,rfl,⟨hmu,hS,hkS,hsm.1,hv,hQ⟩,λq hq=>⟨hq.1,hao2 q hq,hq.2⟩,hin hQ,decide_eq_false (by unfold isQ at hQ;have:=of_decide_eq_true hQ;omega),decide_eq_false (by unfold isQ at hQ;have:=of_decide_eq_true hQ;omega),hQ⟩
  · exact hbadB.2 (.inl ⟨h13,by omega⟩)
  · by_cases hb:v.b=0
    · rw[decide_eq_true hb];exact hbadF.2 (by omega)
    · rw[decide_eq_false hb];exact hbadB.2 (.inr ⟨h14,hb⟩)
  · exact hbadF.2 (by omega)
  · by_cases hb:v.b=0
    · rw[decide_eq_true hb];exact hbadF.2 (by omega)
    · rw[decide_eq_false hb];exact hbadB.2 (.inr ⟨h14,hb⟩)
  · exact hbadF.2 (by omega)
  · rw[key,hB];rfl
  all_goals first
    | (rw[key,hB,ho,hn',ht,hq];simp[hn0,hs'];done)
    | (rw[key,hB,ho,hn',ht];simp[hn0,hs'];done)
    | (rw[key,hB,ho,hn',ht,hq];simp[hn0];done)
    | (rw[key,hB,ho,hn',ht,hq];simp[hs'];done)
    | (rw[key,hB,ho,hn',ht];simp[hs'];done)
    | (rw[key,hB,ho,hn',ht,hq];simp;done)
    | (rw[key,hB,ho,hn'];simp[hn0];done)
    | (rw[key,hB,ho];simp;done)
def zca:∀n,q5k P 8 (z3r.below zn8 n)
 |0=>Ct.below_zero (by decide) (by decide) (Sen.enters_of Try.func8 (by kernel_rfl)) λs=>⟨rfl,rfl⟩
 |n+1=>zgb n (zgt n (zca n))
def zc0:q5k P 8 z3r:=Ct.of_below zca
def nmO(N:List ByteArray) (r k:Nat):List (Nat×AO):=[(2, .cells 33 (some 0) false [.ssl r 0 N.length 1 k]),(r, .row 9 0 (z00 txV N))]
abbrev TrS:=SV×List Int×Int×Int×List ByteArray
abbrev TrB:=GJ×Int×List ByteArray
def znb(L:List Int) (n:Int) (N:List ByteArray):Prop:=N.length<=n+1/\∀t∈N,t.size<100
def z0y(L:List Int) (n:Int) (N:List ByteArray):TrB->Prop:=λ⟨g,n',N'⟩=>g.wf/\n<=n'/\n'<=L.length/\N.length<=N'.length/\N'.length+n<=N.length+n'/\∀t∈N',t.size<100
def z2r(most:Int):TrS->Prop:=λ⟨x,L,n,d,N⟩=>0<=n/\n<=L.length/\z0q L/\0<=d/\d<=most/\znb L n N
def trM:TrS->PF:=λ⟨x,L,n,d,N⟩=>byM x L
def z46:CtR where
 σ:=TrS
 args:=λ⟨x,L,n,d,N⟩=>[.ptr 1 0, .sv (.int .i64 d), .ptr 2 0]
 h:=λ⟨x,L,n,d,N⟩=>pkO x n++nmO N 3 4
 m:=5
 pre:=z2r 4
 mem:=trM
 β:=λ_=>TrB
 post:=λ⟨x,L,n,d,N⟩ b=>z0y L n N b
 pm:=λ_ ⟨g,n',N'⟩=>gM g
 r:=λ_ ⟨g,n',N'⟩=>g.av
 h':=λ⟨x,L,n,d,N⟩ ⟨g,n',N'⟩=>pkO x n'++nmO N' 5 6
 m':=7
def z8h:CtR:={z46 with pre:=z2r 3}
def z1h:CtR where
 σ:=ByteArray×TrS
 args:=λ⟨s,x,L,n,d,N⟩=>[.ptr 1 0, .sv (.string s), .sv (.int .i64 d), .ptr 2 0]
 h:=λ⟨s,x,L,n,d,N⟩=>pkO x n++nmO N 3 4
 m:=5
 pre:=λ⟨s,t⟩=>s.size<100/\z2r 3 t
 mem:=λ⟨s,t⟩=>trM t
 β:=λ_=>TrB
 post:=λ⟨s,x,L,n,d,N⟩ b=>z0y L n N b
 pm:=λ_ ⟨g,n',N'⟩=>gM g
 r:=λ_ ⟨g,n',N'⟩=>g.av
 h':=λ⟨s,x,L,n,d,N⟩ ⟨g,n',N'⟩=>pkO x n'++nmO N' 5 6
 m':=7
def z47:TrS->Nat:=λ⟨x,L,n,d,N⟩=>(10- d).toNat
def zn9:ByteArray×TrS->Nat:=λ⟨s,t⟩=>z47 t
def zvm:TrS->WayF:=λ⟨x,L,n,d,N⟩=>{
  cut :=λi t _=>match i with
    |4=>some {σ:=Int,pre:=λk=>0<=k/\k<20/\(8<=k->d<=3/\n<L.length),t:=λk=>[(7, .sv (.int .i64 k))],h:=λ_=>pkO x (z07 L n),more:=0,μ:=λ_=>0,keep:=[0,1,2,6]}
    | 15=>match slI t 7 with
      |some k=>some {σ:=Unit,pre:=λ_=>14<=k,t:=λ_=>[],h:=λ_=>[],more:=0,μ:=λ_=>0,keep:=[0,1,2,6,7]}
      |none=>none
    |_=>none
  pub:=λi k=>match i,k with
    |8,9=>[42]
    |10,9=>[54]
    |18,9=>[113]
    |20,7=>[120]
    |24,1=>[147]
    |_,_=>[]}
def zls:TrS->WayF:=λ_=>{
 pub:=λi k=>match i,k with
  |7,1=>[40]
  |_,_=>[]}
abbrev RlS:=Int×Int×List ByteArray×List GJ
def zho(L:List Int) (n0:Int) (N0:List ByteArray) (m:Int):RlS->Prop:=λ⟨i,n,N,fs⟩=>0<=i/\i<=m/\m<5/\(fs.length:Int)=i/\GJ.wfs fs/\n0<=n/\n<=L.length/\N0.length<=N.length/\N.length+n0<=N0.length+n/\∀t∈N,t.size<100
def fsM(fs:List GJ):PF:=⟨true,GJ.oks fs,λ_ _ h e=>GJ.oks_mono h e⟩
def z9n:ByteArray×TrS->WayF:=λ⟨s,x,L,n0,d,N0⟩=>{
 ann:=λ_ t _=>match slI t 11 with
  |some m=>some {σ:=RlS,pre:=zho L n0 N0 m,mem:=λ⟨i,n,N,fs⟩=>fsM fs,t:=λ⟨i,n,N,fs⟩=>[(10, .sv (.int .i64 i))],h:=λ⟨i,n,N,fs⟩=>pkO x n++nmO N 9 10++[(6, .cells 52 (some 0) false [.int .i64 5, .int .i64 0, .str [], .ssl 7 0 fs.length 5 8, .nsl]),(7, .row 52 0 (z00 GJ.cells fs))],more:=4,μ:=λ⟨i,n,N,fs⟩=>(m- i).toNat,keep:=[0,1,2,3,8,9,11],del:=[3]}
  |none=>none
 pub:=λi k=>match i,k with
  |9,3=>[56]
  |_,_=>[]
 pubE:=[1000008]}
section
variable (x0:Int) (x1:SV) (x2:List Int) (x3:Int) (x4:List ByteArray) (x5:Int) (x6:Nat) (x7:ByteArray) (x8:List Int) (x9:Nat) (x10:List Int) (x11:Nat->Option Obj) (x12:TrB) (x13:TrS) (x14:Nat) (x15:Option Addr) (x16:Prop) (x17:Nat) (x18:TrB)
 abbrev z24:=x1.1=x1.1/\x1.2.1=x1.2.1/\x1.2.2=x1.2.2/\x16
 def zfi:=0<x0/\x0<1000000/\z0q x2
 def zb4:=(∀i0,True/\slP byV x1 x2 i0->slP byV (x1.1,x1.2.1,x1.2.2) x8 i0)
 def zfh:=z00 txV x4=z00 txV x4/\length x4=length x4/\(∀i0,True/\slP byV x1 x2 i0->True/\slP byV x1 x2 i0)/\x16
 def zjx:=0<=x0/\x0<20/\(8<=x0->x3<=3/\x5<(↑(length x2):Int))
 def zro:=(8:Int)≠0/\∃(i0:Int),x0=x0/\i0=Int.tmod (z0u x2 x3 20) 8/\z24 x1 (z07 x8 x3=z07 x2 x3/\zfh x1 x8 x4 ((zjx i0 x8 x0 x3)/\True))
 def zrt:=GJ.k x12.1=4/\GJ.n x12.1=0/\GJ.s x12.1=x7/\(GJ.y x12.1).1=noA/\(GJ.y x12.1).2.1=0/\(GJ.y x12.1).2.2=0/\(GJ.x x12.1).1=noA/\(GJ.x x12.1).2.1=0/\(GJ.x x12.1).2.2=0/\x16
 def zry:=z00 txV x12.2.2=z00 txV x4/\length x12.2.2=length x4/\z0y x2 x0 x4 x12/\(∀i0,True/\slP byV x1 x2 i0->GJ.ok x12.1 i0)/\True
 def zzl:=(0<=x0/\x0<(↑(nat_lit 8):Int))/\∃i0,qi8 [string (mkS [105,110,116]),string (mkS [108,111,110,103]),string (mkS [115,116,114,105,110,103]),string (mkS [98,121,116,101,115]),string (mkS [98,111,111,108,101,97,110]),string (mkS [110,117,108,108]),string (mkS [102,108,111,97,116]),string (mkS [100,111,117,98,108,101])] (nat_lit 0+toNat x0*1) [string i0]/\i0=i0/\True/\∃(i1:TrB),zrt i0 i1 (z24 x1 (i1.2.1=z07 x2 x3/\zry x3 x1 x2 x4 i1))
 def zs2:=True/\Jb (x0+1)/\x16
 def zjv:=x13.1.1=x1.1/\x13.1.2.1=x1.2.1/\x13.1.2.2=x1.2.2/\x13.2.2.1=z07 x2 x0/\z00 txV x13.2.2.2.2=z00 txV x4/\length x13.2.2.2.2=length x4/\x16
 def zjz:=(∀i0,True/\slP byV x1 x2 i0->slP byV x13.1 x13.2.1 i0)
 def zfj:=∃i0,(True/\slP byV x1 x2 i0)/\GJ.ok x12.1 i0
 def zjt:=((True/\slP byV x1 x2 x11)/\GJ.ok x12.1 x11)/\q3p x11 (Addr.mk x6 x9 none) [int i64 4,int i64 0,string (mkS [97,114,114,97,121]),slice noA 0 0,slice noA 0 0,int i64 (GJ.k x12.1),int i64 (GJ.n x12.1),string (GJ.s x12.1),slice (GJ.y x12.1).1 (GJ.y x12.1).2.1 (GJ.y x12.1).2.2,slice (GJ.x x12.1).1 (GJ.x x12.1).2.1 (GJ.x x12.1).2.2]
 abbrev zb5:=mkS [116,121,112,101]
 abbrev zs0:=q3p x11 (Addr.mk x6 x9 none) [string (zb5),string (mkS [105,116,101,109,115])]
 def zjy:=GJ.k x12.1=6/\GJ.n x12.1=0/\GJ.s x12.1=mkS []/\x16
 abbrev z7z:=Addr.mk x6 (x9+nat_lit 0) none
 def zs3:=x12.2.1=x18.2.1/\z00 txV x12.2.2=z00 txV x18.2.2/\length x12.2.2=length x18.2.2/\x16
 def zrv:=x1.1=x13.1.1/\x1.2.1=x13.1.2.1/\x1.2.2=x13.1.2.2/\zs3 x12 x16 x18
 def zrp:=zjy x12 ((GJ.y x12.1).1=some (z7z x6 x9)/\(GJ.y x12.1).2.1=nat_lit 2/\(GJ.y x12.1).2.2=nat_lit 2/\(GJ.x x12.1).1=some (z7z x14 x17)/\(GJ.x x12.1).2.1=nat_lit 2/\(GJ.x x12.1).2.2=nat_lit 2/\zrv x1 x12 x13 x16 x18)
 def zzh:=True/\∀(i0 i1 i2:Nat),(∃i3,zjt x1 x2 i0 i1 i3 x12)->∀(i4 i5 i6:Nat),(∃i7,(zjt x1 x2 i0 i1 i7 x12)/\zs0 i4 i5 i7)->∃(i8:TrB),zrp x1 i0 i1 i8 x13 i4 (z0y x2 x0 x4 i8/\(∀i9,(zjt x1 x2 i0 i1 i9 x12)/\zs0 i4 i5 i9->GJ.ok i8.1 i9)/\True) i5 x12
 def zzf:=mkS [97,114,114,97,121]=mkS [97,114,114,97,121]/\zs2 x0 (∃(i0:TrS),i0.2.2.2.1=x0+1/\zjv x3 x1 x2 x4 i0 ((z47 i0<x6/\z2r 4 i0)/\zjz x1 x2 i0/\∀(i2:TrB),z0y i0.2.1 i0.2.2.1 i0.2.2.2.2 i2->(zfj x1 x2 i2)->zzh x3 x1 x2 x4 i2 i0))
 def zju:=((True/\slP byV x1 x2 x11)/\GJ.ok x12.1 x11)/\q3p x11 (Addr.mk x6 x9 none) [int i64 4,int i64 0,string (mkS [109,97,112]),slice noA 0 0,slice noA 0 0,int i64 (GJ.k x12.1),int i64 (GJ.n x12.1),string (GJ.s x12.1),slice (GJ.y x12.1).1 (GJ.y x12.1).2.1 (GJ.y x12.1).2.2,slice (GJ.x x12.1).1 (GJ.x x12.1).2.1 (GJ.x x12.1).2.2]
 abbrev zrz:=q3p x11 (Addr.mk x6 x9 none) [string (zb5),string (mkS [118,97,108,117,101,115])]
 def zzi:=True/\∀(i0 i1 i2:Nat),(∃i3,zju x1 x2 i0 i1 i3 x12)->∀(i4 i5 i6:Nat),(∃i7,(zju x1 x2 i0 i1 i7 x12)/\zrz i4 i5 i7)->∃(i8:TrB),zrp x1 i0 i1 i8 x13 i4 (z0y x2 x0 x4 i8/\(∀i9,(zju x1 x2 i0 i1 i9 x12)/\zrz i4 i5 i9->GJ.ok i8.1 i9)/\True) i5 x12
 def zzg:=mkS [109,97,112]=mkS [109,97,112]/\zs2 x0 (∃(i0:TrS),i0.2.2.2.1=x0+1/\zjv x3 x1 x2 x4 i0 ((z47 i0<x6/\z2r 4 i0)/\zjz x1 x2 i0/\∀(i2:TrB),z0y i0.2.1 i0.2.2.1 i0.2.2.2.2 i2->(zfj x1 x2 i2)->zzi x3 x1 x2 x4 i2 i0))
 def zrq:=GJ.k x12.1=GJ.k x18.1/\GJ.n x12.1=GJ.n x18.1/\GJ.s x12.1=GJ.s x18.1/\(GJ.y x12.1).1=(GJ.y x18.1).1/\(GJ.y x12.1).2.1=(GJ.y x18.1).2.1/\(GJ.y x12.1).2.2=(GJ.y x18.1).2.2/\(GJ.x x12.1).1=(GJ.x x18.1).1/\(GJ.x x12.1).2.1=(GJ.x x18.1).2.1/\(GJ.x x12.1).2.2=(GJ.x x18.1).2.2/\x16
 def zk1:=0<=z07 x2 x0/\z07 x2 x0<=(↑(length x8):Int)/\x16
 def zzk:=Ji (0<(↑(length x4):Int)) (∃(i0:List Int),(↑(length x4):Int)=(↑(length x4):Int)/\z24 x1 (z07 x2 x0=z07 x2 x0/\(zk1 x0 x2 i0 (0<(↑(length x4):Int)/\(↑(length x4):Int)<1000000/\z0q i0))/\zb4 x1 x2 i0/\(0<=z0u i0 (z07 x2 x0) (↑(length x4):Int)/\z0u i0 (z07 x2 x0) (↑(length x4):Int)<(↑(length x4):Int))/\∃i2,qi8 (z00 txV x4) (nat_lit 0+toNat (z0u i0 (z07 x2 x0) (↑(length x4):Int))*nat_lit 1) [string i2]/\i2=i2/\True/\AV.ssl (nat_lit 3) (nat_lit 0) (length x4) (nat_lit 1) (nat_lit 4)=AV.ssl (nat_lit 3) (nat_lit 0) (length x4) (nat_lit 1) (nat_lit 4)/\∃(i3:TrB),zrt i2 i3 (z24 x1 (i3.2.1=z07 i0 (z07 x2 x0)/\zry x0 x1 x2 x4 i3)))) (∃(i5:Unit),x3=x3/\x5=x5/\z24 x1 (z07 x2 x0=z07 x2 x0/\zfh x1 x2 x4 (14<=x5/\True)))
 def zzj:=Ji (x0=14) (zzk x3 x1 x2 x5 x4 x0) (∃(i7:Unit),x5=x5/\x0=x0/\z24 x1 (z07 x2 x3=z07 x2 x3/\zfh x1 x2 x4 (14<=x0/\True)))
 def jc1:=Ji (x0<14) (∃(i0:TrS),i0.2.2.2.1=x3/\zjv x5 x1 x2 x4 i0 ((z47 i0<x6+1/\z2r 3 i0)/\zjz x1 x2 i0/\∀(i2:TrB),z0y i0.2.1 i0.2.2.1 i0.2.2.2.2 i2->(zfj x1 x2 i2)->∃(i4:TrB),zrq i4 (zrv x1 i4 i0 (z0y x2 x5 x4 i4/\(∀i5,(True/\slP byV x1 x2 i5)/\GJ.ok i2.1 i5->GJ.ok i4.1 i5)/\True) i2) i2)) (zzj x0 x1 x2 x5 x4 x3)
 def jby:=Ji (x0=10) (zzg x3 x1 x2 x5 x4 x6) (jc1 x0 x1 x2 x3 x4 x5 x6)
 def jbx:=Ji (x0<10) (zzf x3 x1 x2 x5 x4 x6) (jby x0 x1 x2 x3 x4 x5 x6)
 def zjs:=(True/\slP byV x1 x2 x11)/\q3p x11 (Addr.mk x6 x9 none) [int i64 4,int i64 0,string (mkS [102,105,120,101,100]),slice noA 0 0,slice noA 0 0,int i64 4,int i64 0,string (mkS [78]++x7),slice noA 0 0,slice noA 0 0,int i64 3,int i64 (z0u x8 (z07 x2 x0) 4),string (mkS []),slice noA 0 0,slice noA 0 0]
 abbrev zk0:=mkS [110,97,109,101]
 abbrev zrx:=q3p x11 (Addr.mk x6 x9 none) [string (zb5),string (zk0),string (mkS [115,105,122,101])]
 def zrs:=zjy x12 ((GJ.y x12.1).1=some (z7z x6 x9)/\(GJ.y x12.1).2.1=nat_lit 3/\(GJ.y x12.1).2.2=nat_lit 3/\(GJ.x x12.1).1=some (z7z x14 x17)/\(GJ.x x12.1).2.1=nat_lit 3/\(GJ.x x12.1).2.2=nat_lit 3/\x16)
 def zjw:=z00 txV x12.2.2=z00 txV x4++[string (mkS [78]++x7)]/\length x12.2.2=length x4+nat_lit 1/\z0y x2 x0 x4 x12/\x16
 def jc0:=mkS [102,105,120,101,100]=mkS [102,105,120,101,100]/\True/\mkS [78]++x7=mkS [78]++x7/\True/\∃(i0:List Int),(4:Int)=4/\z24 x1 (z07 x2 x0=z07 x2 x0/\(zk1 x0 x2 i0 (zfi 4 i0))/\zb4 x1 x2 i0/\True/\∀(i2 i3 i4:Nat),(∃i5,zjs x0 x1 x2 i2 x7 i0 i3 i5)->∀(i6 i7 i8:Nat),(∃i9,(zjs x0 x1 x2 i2 x7 i0 i3 i9)/\zrx i6 i7 i9)->∃(i10:TrB),zrs i2 i3 i10 i6 (z24 x1 (i10.2.1=z07 i0 (z07 x2 x0)/\zjw x0 x2 x4 x7 i10 ((∀i11,(zjs x0 x1 x2 i2 x7 i0 i3 i11)/\zrx i6 i7 i11->GJ.ok i10.1 i11)/\True))) i7)
 def zfg:=(True/\slP byV x1 x2 x11)/\q3p x11 (Addr.mk x6 x9 none) [int i64 4,int i64 0,string (mkS [88]),slice noA 0 0,slice noA 0 0,int i64 4,int i64 0,string (mkS [89]),slice noA 0 0,slice noA 0 0,int i64 4,int i64 0,string (mkS [90]),slice noA 0 0,slice noA 0 0]
 abbrev zrw:=Int.rec (λ(i0:Nat)=>(λ(i1:Nat)=>(λ(i2:Nat)=>i2) i1) i0) (λ(i3:Nat)=>(λ(i4:Nat)=>(λ(i5:Nat)=>(0:Nat)) i4) i3) ((1:Int)+z0u x2 (z07 x8 x0) 3)- nat_lit 0
 def zjq:=(zfg x1 x2 x6 x9 x11)/\nat_lit 4<=x14/\qik x11 x15 (take (nat_lit 4*nat_lit 5) ([int i64 4,int i64 0,string (mkS [101,110,117,109]),slice noA 0 0,slice noA 0 0,int i64 4,int i64 0,string (mkS [78]++x7),slice noA 0 0,slice noA 0 0,int i64 5,int i64 0,string (mkS []),slice (slA (some (z7z x6 x9)) (nat_lit 3) (nat_lit 0) 5) (zrw x0 x8 x2) (nat_lit 3- nat_lit 0),slice noA 0 0]++[int i64 4,int i64 0,string (mkS [88]),slice noA 0 0,slice noA 0 0]))
 abbrev zs1:=mkS [115,121,109,98,111,108,115]
 abbrev zrr:=take (nat_lit 4*nat_lit 1) ([string (zb5),string (zk0),string (zs1)]++[string (mkS [100,101,102,97,117,108,116])])
 def jbz:=(nat_lit 3+1)*16<=140737488355328/\mkS [88]=mkS [88]/\True/\(nat_lit 3+1)*80<=140737488355328/\∀(i0 i1 i2:Nat) (i3:Option Addr) (i4 i5:Nat),(∃i6,zjq x0 x1 x2 x6 x7 x8 x9 i6 i5 i3)->∀(i13 i14 i15:Nat) (i16:Option Addr) (i17 i18:Nat),(∃i19,(zjq x0 x1 x2 x6 x7 x8 x9 i19 i5 i3)/\nat_lit 4<=i18/\qik i19 i16 (zrr))->∃(i26:TrB),zjy i26 ((GJ.y i26.1).1=i3/\(GJ.y i26.1).2.1=nat_lit 4/\(GJ.y i26.1).2.2=i5/\(GJ.x i26.1).1=i16/\(GJ.x i26.1).2.1=nat_lit 4/\(GJ.x i26.1).2.2=i18/\z24 x1 (i26.2.1=z07 x10 (z07 x8 (z07 x2 x0))/\zjw x0 x2 x4 x7 i26 ((∀i27,(zjq x0 x1 x2 x6 x7 x8 x9 i27 i5 i3)/\nat_lit 4<=i18/\qik i27 i16 (zrr)->GJ.ok i26.1 i27)/\True)))
 def zjr:=(zfg x1 x2 x6 x9 x11)/\q3p x11 (Addr.mk x14 x17 none) [int i64 4,int i64 0,string (mkS [101,110,117,109]),slice noA 0 0,slice noA 0 0,int i64 4,int i64 0,string (mkS [78]++x7),slice noA 0 0,slice noA 0 0,int i64 5,int i64 0,string (mkS []),slice (slA (some (z7z x6 x9)) (nat_lit 3) (nat_lit 0) 5) (zrw x0 x8 x2) (nat_lit 3- nat_lit 0),slice noA 0 0]
 abbrev zru:=q3p x11 (Addr.mk x6 x9 none) [string (zb5),string (zk0),string (zs1)]
 def jbw:=nat_lit 3<=nat_lit 3/\((0:Int)<=1+z0u x2 (z07 x8 x0) 3/\(1:Int)+z0u x2 (z07 x8 x0) (3:Int)<=(↑(nat_lit 3):Int))/\mkS [101,110,117,109]=mkS [101,110,117,109]/\True/\mkS [78]++x7=mkS [78]++x7/\True/\True/\∃(i0:List Int),(2:Int)=2/\z24 x1 (z07 x2 (z07 x8 x0)=z07 x2 (z07 x8 x0)/\(0<=z07 x2 (z07 x8 x0)/\z07 x2 (z07 x8 x0)<=(↑(length i0):Int)/\zfi 2 i0)/\(∀i1,zfg x1 x8 x6 x9 i1->slP byV (x1.1,x1.2.1,x1.2.2) i0 i1)/\Ji (z0u i0 (z07 x2 (z07 x8 x0)) (2:Int)=0) (jbz x0 x1 x8 x4 x6 x7 x2 x9 i0) (∀(i36 i37 i38:Nat),(∃i39,zjr x0 x1 x8 x6 x7 x2 x9 i39 i36 i37)->∀(i46 i47 i48:Nat),(∃i49,(zjr x0 x1 x8 x6 x7 x2 x9 i49 i36 i37)/\zru i46 i47 i49)->∃(i56:TrB),zrs i36 i37 i56 i46 (z24 x1 (i56.2.1=z07 i0 (z07 x2 (z07 x8 x0))/\zjw x0 x8 x4 x7 i56 ((∀i57,(zjr x0 x1 x8 x6 x7 x2 x9 i57 i36 i37)/\zru i46 i47 i57->GJ.ok i56.1 i57)/\True))) i47))
 def jbv:=mkS [88]=mkS [88]/\True/\mkS [89]=mkS [89]/\True/\mkS [90]=mkS [90]/\True/\∃(i0:List Int),(3:Int)=3/\z24 x1 (z07 x2 x0=z07 x2 x0/\(zk1 x0 x2 i0 (zfi 3 i0))/\zb4 x1 x2 i0/\((-9223372036854775808:Int)<=1+z0u i0 (z07 x2 x0) 3/\(1:Int)+z0u i0 (z07 x2 x0) (3:Int)<=9223372036854775807)/\∀(i2 i3 i4:Nat),(∃i5,zfg x1 x2 i2 i3 i5)->jbw x0 x1 i0 x4 i2 x7 x2 i3)
 def jbu:=Ji (x0=16) (jbv x3 x1 x2 x4 x7) (∃(i70:ByteArray×TrS),i70.1=mkS [78]++x7/\i70.2.2.2.2.1=x5/\i70.2.1.1=x1.1/\i70.2.1.2.1=x1.2.1/\i70.2.1.2.2=x1.2.2/\i70.2.2.2.1=z07 x2 x3/\z00 txV i70.2.2.2.2.2=z00 txV x4++[string (mkS [78]++x7)]/\length i70.2.2.2.2.2=length x4+nat_lit 1/\(zn9 i70<x6+1/\size i70.1<100/\z2r 3 i70.2)/\(∀i71,True/\slP byV x1 x2 i71->slP byV i70.2.1 i70.2.2.1 i71)/\∀(i72:TrB),z0y i70.2.2.1 i70.2.2.2.1 i70.2.2.2.2.2 i72->(zfj x1 x2 i72)->∃(i74:TrB),zrq i74 (x1.1=i70.2.1.1/\x1.2.1=i70.2.1.2.1/\x1.2.2=i70.2.1.2.2/\zs3 i74 (z0y x2 x3 x4 i74/\(∀i75,(True/\slP byV x1 x2 i75)/\GJ.ok i72.1 i75->GJ.ok i74.1 i75)/\True) i72) i72)
 def jbt:=(26:Int)≠0/\((-9223372036854775808:Int)<=97+Int.tmod (↑(length x4):Int) 26/\(97:Int)+Int.tmod (↑(length x4):Int) (26:Int)<=9223372036854775807)/\∃i0,size i0=1/\qi8 [int u8 (IntKind.wrap u8 ((97:Int)+Int.tmod (↑(length x4):Int) 26))] 0 (q1h i0)/\size (mkS [78])+size i0<=9223372036854775807/\length (z00 txV x4)=length x4*1/\(length x4+nat_lit 1)*16<=140737488355328/\Ji (x0=15) (jc0 x3 x1 x2 x4 i0) (jbu x0 x1 x2 x3 x4 x5 x6 i0)
 def jbs:=(Ji (x0<8) (zzl x0 x1 x2 x3 x4) (jbx x0 x1 x2 x5 x4 x3 x6))/\∀(i46:Unit),14<=x0->jbt x0 x1 x2 x3 x4 x5 x6
end
def zi1(c:Nat) (x:SV) (L:List Int) (n d:Int) (N:List ByteArray):qm3 P (qh2 [(32,zt9),(56,zmg),(35,z9x),(34,z4i)]) (qi5 [(33,z46.below z47 c),(57,z8h.below z47 (c+1)),(18,z1h.below zn9 (c+1))]) Try.f33 (z46.below z47 (c+1)) (zvm) ⟨x,L,n,d,N⟩=(z47 (x,L,n,d,N)<c+1/\z2r 4 (x,L,n,d,N)->(∃(p:Pub),True/\slP byV x L p)->∃(b:List Int),(20:Int)=20/\z24 x (n=n/\(0<=n/\n<=(↑(length b):Int)/\zfi 20 b)/\zb4 x L b/\(Ji (3<d) (zro d x b n N L) (∃(b_1:List Int),z24 x (z07 b n=z07 b n/\True/\zb4 x L b_1/\Ji ((↑(length b_1):Int)<=z07 b n) (zro d x b n N L) (∃(s:Int),d=d/\s=z0u b n 20/\z24 x (z07 L n=z07 b n/\zfh x L N ((zjx s L d n)/\True))))))/\∀(s:Int),zjx s L d n->jbs s x L n N d c)):=by kernel_rfl
def zo7:=λc x L n d N=>Eq.trans (zi1 c x L n d N) (by delta Ji Jb Jt Jf z24 zfi zb4 zfh zjx zro zrt zry zzl zs2 zjv zjz zfj zjt zb5 zs0 zjy z7z zs3 zrv zrp zzh zzf zju zrz zzi zzg zrq zk1 zzk zzj jc1 jby jbx zjs zk0 zrx zrs zjw jc0 zfg zrw zjq zs1 zrr jbz zjr zru jbw jbv jbu jbt jbs;exact rfl)
section
variable (x0:SV) (x1:Int) (x2:List Int) (x3:Int) (x4:List ByteArray) (x5:Nat) (x6:TrB) (x7:ByteArray) (x8:TrS) (x9:List Int) (x10:TrB) (x11:Prop) (x12:Nat->Option Obj) (x13:Option Addr) (x14:Nat)
 abbrev zs6:=(2:Int)=2/\x0.1=x0.1/\x0.2.1=x0.2.1/\x0.2.2=x0.2.2/\x11
 def zs8:=(∀i0,True/\slP byV x0 x2 i0->slP byV (x0.1,x0.2.1,x0.2.2) x9 i0)
 abbrev zsa:=Jb (x1+1)
 def zs7:=x8.2.2.2.1=x1+1/\x8.1.1=x0.1/\x8.1.2.1=x0.2.1/\x8.1.2.2=x0.2.2/\x11
 def zs5:=z00 txV x8.2.2.2.2=z00 txV x4/\length x8.2.2.2.2=length x4/\(z47 x8<x5/\z2r 4 x8)/\(∀i0,True/\slP byV x0 x2 i0->slP byV x8.1 x8.2.1 i0)/\x11
 def z6n:=(True/\slP byV x0 x2 x12)/\GJ.ok x6.1 x12
 abbrev zfl:=mkS [110,117,108,108]
 abbrev j16:=[int i64 4,int i64 0,string (zfl),slice noA 0 0,slice noA 0 0]++[int i64 4,int i64 0,string x7,slice noA 0 0,slice noA 0 0]
 def j3b:=(z6n x0 x2 x6 x12)/\nat_lit 3<=x5/\qik x12 x13 (take (nat_lit 3*nat_lit 5) ([int i64 4,int i64 0,string (zfl),slice noA 0 0,slice noA 0 0]++[int i64 4,int i64 0,string x7,slice noA 0 0,slice noA 0 0]++[int i64 (GJ.k x6.1),int i64 (GJ.n x6.1),string (GJ.s x6.1),slice (GJ.y x6.1).1 (GJ.y x6.1).2.1 (GJ.y x6.1).2.2,slice (GJ.x x6.1).1 (GJ.x x6.1).2.1 (GJ.x x6.1).2.2]))
 def zfk:=GJ.k x6.1=5/\GJ.n x6.1=0/\GJ.s x6.1=mkS []/\x11
 def zzm:=(GJ.x x6.1).1=noA/\(GJ.x x6.1).2.1=0/\(GJ.x x6.1).2.2=0/\x0.1=x8.1.1/\x0.2.1=x8.1.2.1/\x0.2.2=x8.1.2.2/\x6.2.1=x10.2.1/\z00 txV x6.2.2=z00 txV x10.2.2/\length x6.2.2=length x10.2.2/\z0y x2 x1 x4 x6/\x11
 def jc6:=length (j16 x7)=nat_lit 2*5/\(nat_lit 2+nat_lit 1)*80<=140737488355328/\∀(i0 i1 i2:Nat) (i3:Option Addr) (i4 i5:Nat),(∃i6,j3b x0 x2 i5 x6 x7 i6 i3)->∃(i7:TrB),zfk i7 ((GJ.y i7.1).1=i3/\(GJ.y i7.1).2.1=nat_lit 3/\(GJ.y i7.1).2.2=i5/\zzm x0 x1 x2 x4 i7 x8 x6 ((∀i8,j3b x0 x2 i5 x6 x7 i8 i3->GJ.ok i7.1 i8)/\True))
 def zs9:=(GJ.y x6.1).1=x13/\(GJ.y x6.1).2.1=nat_lit 2/\(GJ.y x6.1).2.2=x5/\x11
 def jc3:=Ji (GJ.k x6.1=6) (jc6 x0 x1 x2 x4 x6 x7 x8) (∀(i9 i10 i11:Nat) (i12:Option Addr) (i13 i14:Nat),(∃i15,(z6n x0 x2 x6 i15)/\nat_lit 2<=i14/\qik i15 i12 (take (nat_lit 2*nat_lit 5) (j16 x7)))->∃(i16:TrB),zfk i16 (zs9 i14 i16 (zzm x0 x1 x2 x4 i16 x8 x6 ((∀i17,(z6n x0 x2 x6 i17)/\nat_lit 2<=i14/\qik i17 i12 (take (nat_lit 2*nat_lit 5) (j16 x7))->GJ.ok i16.1 i17)/\True)) i12))
 def j3c:=(z6n x0 x2 x6 x12)/\nat_lit 2<=x5/\qik x12 x13 (take (nat_lit 2*nat_lit 5) ([int i64 4,int i64 0,string (zfl),slice noA 0 0,slice noA 0 0]++[int i64 (GJ.k x6.1),int i64 (GJ.n x6.1),string (GJ.s x6.1),slice (GJ.y x6.1).1 (GJ.y x6.1).2.1 (GJ.y x6.1).2.2,slice (GJ.x x6.1).1 (GJ.x x6.1).2.1 (GJ.x x6.1).2.2]))
 def jc7:=(nat_lit 1+1)*80<=140737488355328/\∀(i0 i1 i2:Nat) (i3:Option Addr) (i4 i5:Nat),(∃i6,j3c x0 x2 i5 x6 i6 i3)->∃(i7:TrB),zfk i7 (zs9 i5 i7 (zzm x0 x1 x2 x4 i7 x8 x6 ((∀i8,j3c x0 x2 i5 x6 i8 i3->GJ.ok i7.1 i8)/\True)) i3)
 def zs4:=(z6n x0 x2 x6 x12)/\q3p x12 (Addr.mk x5 x14 none) [int i64 4,int i64 0,string (zfl),slice noA 0 0,slice noA 0 0]
 def jc5:=Ji (GJ.k x6.1=6) (jc7 x0 x1 x2 x4 x6 x8) (∀(i9 i10 i11:Nat),(∃i12,zs4 x0 x2 i9 x6 i12 i10)->∃(i13:TrB),zfk i13 ((GJ.y i13.1).1=some (Addr.mk i9 (i10+nat_lit 0) none)/\(GJ.y i13.1).2.1=nat_lit 1/\(GJ.y i13.1).2.2=nat_lit 1/\zzm x0 x1 x2 x4 i13 x8 x6 ((∀i14,zs4 x0 x2 i9 x6 i14 i10->GJ.ok i13.1 i14)/\True)))
 def jc4:=zsa x1/\∃(i0:TrS),zs7 x0 x1 i0 (i0.2.2.1=z07 x2 x3/\zs5 x0 x9 x4 x5 i0 (∀(i2:TrB),z0y i0.2.1 i0.2.2.1 i0.2.2.2.2 i2->(∃i3,z6n x0 x9 i2 i3)->jc5 x0 x3 x9 x4 i2 i0))
 def jc2:=mkS [110,117,108,108]=mkS [110,117,108,108]/\True/\∃(i0:List Int),zs6 x0 (x1=x1/\(0<=x1/\x1<=(↑(length i0):Int)/\(0:Int)<2/\(2:Int)<1000000/\z0q i0)/\zs8 x0 x2 i0/\Ji (z0u i0 x1 (2:Int)=0) (∃(i2:List Int),zs6 x0 (z07 i0 x1=z07 i0 x1/\(0<=z07 i0 x1/\z07 i0 x1<=(↑(length i2):Int)/\(0:Int)<2/\(2:Int)<1000000/\z0q i2)/\zs8 x0 x2 i2/\(0<=z0u i2 (z07 i0 x1) 2/\z0u i2 (z07 i0 x1) (2:Int)<(↑(2:Nat):Int))/\∃i4,qi8 [string (mkS [105,110,116]),string (mkS [115,116,114,105,110,103])] ((0:Nat)+toNat (z0u i2 (z07 i0 x1) 2)*1) [string i4]/\i4=i4/\True/\(nat_lit 1+1)*80<=140737488355328/\zsa x3/\∃(i5:TrS),zs7 x0 x3 i5 (i5.2.2.1=z07 i2 (z07 i0 x1)/\zs5 x0 x2 x4 x5 i5 (∀(i7:TrB),z0y i5.2.1 i5.2.2.1 i5.2.2.2.2 i7->(∃i8,z6n x0 x2 i7 i8)->jc3 x0 x1 x2 x4 i7 i4 i5)))) (jc4 x0 x3 i0 x1 x4 x5 x2))
end
def zdu(c:Nat) (x:SV) (L:List Int) (n d:Int) (N:List ByteArray):qm3 P (qh2 [(32,zt9),(35,z9x)]) (qi5 [(33,z46.below z47 c)]) Try.f57 (z8h.below z47 (c+1)) (zls) ⟨x,L,n,d,N⟩=(z47 (x,L,n,d,N)<c+1/\z2r 3 (x,L,n,d,N)->(∃(p:Pub),True/\slP byV x L p)->jc2 x n L d N c):=by kernel_rfl
def union_eq:=λc x L n d N=>Eq.trans (zdu c x L n d N) (by delta Ji Jb Jt Jf zs6 zs8 zsa zs7 zs5 z6n zfl j16 j3b zfk zzm jc6 zs9 jc3 j3c jc7 zs4 jc5 jc4 jc2;exact rfl)
section
variable (x0:RlS) (x1:List Int) (x2 x3:Int) (x4:SV) (x5:Nat) (x6:List Int) (x7:ByteArray) (x8:List ByteArray) (x9:TrB) (x10:TrS) (x11:ByteArray) (x12:List Int) (x13:List Int×GJ) (x14 x15:Option Addr) (x16:Nat) (x17:Nat->Option Obj) (x18 x19:Nat) (x20:Prop) (x21:RlS)
 abbrev zk5:=x4.1=x4.1/\x4.2.1=x4.2.1/\x4.2.2=x4.2.2/\x20
 def z5r:=(True/\slP byV x4 x1 x17)/\GJ.oks x0.2.2.2 x17
 abbrev zsh:=slice (GJ.y x9.1).1 (GJ.y x9.1).2.1 (GJ.y x9.1).2.2
 abbrev zsi:=slice (GJ.x x9.1).1 (GJ.x x9.1).2.1 (GJ.x x9.1).2.2
 def zsb:=AV.agg [AV.sv (int i64 (GJ.k x9.1)),AV.sv (int i64 (GJ.n x9.1)),AV.sv (string (GJ.s x9.1)),AV.sv (zsh x9),AV.sv (zsi x9)]=AV.agg [AV.sv (int i64 (GJ.k x9.1)),AV.sv (int i64 (GJ.n x9.1)),AV.sv (string (GJ.s x9.1)),AV.sv (zsh x9),AV.sv (zsi x9)]
 def zsf:=x10.1.1=x10.1.1/\x10.1.2.1=x10.1.2.1/\x10.1.2.2=x10.1.2.2/\x20
 def zzn:=slP byV (x10.1.1,x10.1.2.1,x10.1.2.2) x13.1 x17/\GJ.ok x13.2 x17
 abbrev zfm:=z26 x13.2 x13.1 (z07 x1 x9.2.1)
 def zzo:=((z5r x0 x1 x4 x17)/\GJ.ok x9.1 x17)/\nat_lit 3<=x5/\qik x17 x14 (take (nat_lit 3*nat_lit 5) ([int i64 4,int i64 0,string (mkS [102]++x7),slice noA 0 0,slice noA 0 0,int i64 (GJ.k x9.1),int i64 (GJ.n x9.1),string (GJ.s x9.1),slice (GJ.y x9.1).1 (GJ.y x9.1).2.1 (GJ.y x9.1).2.2,slice (GJ.x x9.1).1 (GJ.x x9.1).2.1 (GJ.x x9.1).2.2]++[int i64 (zfm x6 x9 x13).1,int i64 (zfm x6 x9 x13).2.1,string (zfm x6 x9 x13).2.2.1,slice noA 0 0,slice noA 0 0]))
 abbrev zk7:=mkS [110,97,109,101]
 abbrev zk6:=mkS [116,121,112,101]
 def zk3:=nat_lit 3<=x5/\qik x17 x14 (take (nat_lit 3*nat_lit 1) ([string (zk7),string (zk6)]++[string (mkS [100,101,102,97,117,108,116])]))
 def zsd:=length (z00 GJ.cells x0.2.2.2)=length x0.2.2.2*5/\(length x0.2.2.2+nat_lit 1)*80<=140737488355328/\Jb (x0.1+1)/\x20
 def zse:=z0u x1 x2 (5:Int)=z0u x1 x2 5/\x3=x3/\x0.1=x21.1+1/\x4.1=x10.1.1/\x4.2.1=x10.1.2.1/\x4.2.2=x10.1.2.2/\x20
 def zsg:=z00 txV x0.2.2.1=z00 txV x9.2.2/\length x0.2.2.1=length x9.2.2/\length x0.2.2.2=length x21.2.2.2+nat_lit 1/\x20
 def zsj:=zho x1 x2 x8 (z0u x6 x2 5) x0/\toNat (z0u x6 x2 5- x0.1)<toNat (z0u x6 x2 5- x21.1)/\True
 def jcd:=zsd x0 (∃(i0:RlS),x7=x7/\zse i0 x1 x2 x3 x4 x10 (i0.2.1=(zfm x6 x9 x13).2.2.2/\z00 GJ.cells i0.2.2.2=z00 GJ.cells x0.2.2.2++[int i64 6,int i64 0,string (mkS []),slice x14 (nat_lit 3) x5,slice x15 (nat_lit 3) x16]/\zsg i0 x9 ((∀i1,(zzo x0 x12 x4 x5 x6 x11 x9 x13 x14 i1)/\zk3 x16 x15 i1->True/\slP byV x4 x12 i1)/\(∀i2,(zzo x0 x12 x4 x5 x6 x11 x9 x13 x14 i2)/\zk3 x16 x15 i2->GJ.oks i0.2.2.2 i2)/\zsj i0 x12 x2 x1 x8 x0) x0) x0)
 def jcb:=(nat_lit 2+1)*16<=140737488355328/\∃(i0:List Int×GJ),GJ.k i0.2=GJ.k x9.1/\GJ.n i0.2=GJ.n x9.1/\GJ.s i0.2=GJ.s x9.1/\(GJ.y i0.2).1=(GJ.y x9.1).1/\(GJ.y i0.2).2.1=(GJ.y x9.1).2.1/\(GJ.y i0.2).2.2=(GJ.y x9.1).2.2/\(GJ.x i0.2).1=(GJ.x x9.1).1/\(GJ.x i0.2).2.1=(GJ.x x9.1).2.1/\(GJ.x i0.2).2.2=(GJ.x x9.1).2.2/\zsf x10 (z07 x1 x9.2.1=z07 x1 x9.2.1/\(0<=z07 x1 x9.2.1/\z07 x1 x9.2.1<=(↑(length i0.1):Int)/\z0q i0.1/\GJ.wf i0.2)/\(∀i1,(z5r x0 x6 x4 i1)/\GJ.ok x9.1 i1->zzn x10 i0 i1)/\(nat_lit 2+1)*80<=140737488355328/\zsb x9/\∀(i2 i3 i4:Nat) (i5:Option Addr) (i6 i7:Nat),(∃i8,zzo x0 x6 x4 i7 x1 x7 x9 i0 i5 i8)->∀(i9 i10 i11:Nat) (i12:Option Addr) (i13 i14:Nat),(∃i15,(zzo x0 x6 x4 i7 x1 x7 x9 i0 i5 i15)/\zk3 i14 i12 i15)->jcd x0 x12 x2 x3 x4 i7 x1 x11 x8 x9 x10 x7 x6 i0 i5 i12 i14)
 def zzp:=((z5r x0 x1 x4 x17)/\GJ.ok x9.1 x17)/\q3p x17 (Addr.mk x5 x16 none) [int i64 4,int i64 0,string (mkS [102]++x7),slice noA 0 0,slice noA 0 0,int i64 (GJ.k x9.1),int i64 (GJ.n x9.1),string (GJ.s x9.1),slice (GJ.y x9.1).1 (GJ.y x9.1).2.1 (GJ.y x9.1).2.2,slice (GJ.x x9.1).1 (GJ.x x9.1).2.1 (GJ.x x9.1).2.2]
 abbrev zk4:=q3p x17 (Addr.mk x5 x16 none) [string (zk7),string (zk6)]
 def jce:=zsd x0 (∃(i0:RlS),x7=x7/\zse i0 x1 x2 x3 x4 x10 (i0.2.1=z07 x6 x9.2.1/\z00 GJ.cells i0.2.2.2=z00 GJ.cells x0.2.2.2++[int i64 6,int i64 0,string (mkS []),slice (some (Addr.mk x5 (x16+nat_lit 0) none)) (nat_lit 2) (nat_lit 2),slice (some (Addr.mk x18 (x19+nat_lit 0) none)) (nat_lit 2) (nat_lit 2)]/\zsg i0 x9 ((∀i1,(zzp x0 x12 x4 x5 x11 x9 x16 i1)/\zk4 x18 x19 i1->True/\slP byV x4 x12 i1)/\(∀i2,(zzp x0 x12 x4 x5 x11 x9 x16 i2)/\zk4 x18 x19 i2->GJ.oks i0.2.2.2 i2)/\zsj i0 x12 x2 x1 x8 x0) x0) x0)
 def jca:=((-9223372036854775808:Int)<=97+x0.1/\(97:Int)+x0.1<=9223372036854775807)/\∃i0,size i0=1/\qi8 [int u8 (IntKind.wrap u8 ((97:Int)+x0.1))] 0 (q1h i0)/\size (mkS [102])+size i0<=9223372036854775807/\mkS [102]++i0=mkS [102]++i0/\True/\True/\zsb x9/\∃(i1:List Int),(3:Int)=3/\zsf x10 (x9.2.1=x9.2.1/\(0<=x9.2.1/\x9.2.1<=(↑(length i1):Int)/\(0:Int)<3/\(3:Int)<1000000/\z0q i1)/\(∀i2,(z5r x0 x1 x4 i2)/\GJ.ok x9.1 i2->slP byV (x10.1.1,x10.1.2.1,x10.1.2.2) i1 i2)/\Ji (z0u i1 x9.2.1 (3:Int)=0) (jcb x0 i1 x2 x3 x4 x1 i0 x8 x9 x10 x7 x6) (∀(i22 i23 i24:Nat),(∃i25,zzp x0 x1 x4 i22 i0 x9 i23 i25)->∀(i26 i27 i28:Nat),(∃i29,(zzp x0 x1 x4 i22 i0 x9 i23 i29)/\zk4 i26 i27 i29)->jce x0 x6 x2 x3 x4 i22 i1 x7 x8 x9 x10 i0 x1 i23 i26 i27))
 def jc9:=Jb (x2+1)/\∃(i0:TrS),i0.2.2.2.1=x2+1/\i0.1.1=x4.1/\i0.1.2.1=x4.2.1/\i0.1.2.2=x4.2.2/\i0.2.2.1=x0.2.1/\z00 txV i0.2.2.2.2=z00 txV x0.2.2.1/\length i0.2.2.2.2=length x0.2.2.1/\(z47 i0<x5/\z2r 4 i0)/\(∀i1,z5r x0 x1 x4 i1->slP byV i0.1 i0.2.1 i1)/\∀(i2:TrB),z0y i0.2.1 i0.2.2.1 i0.2.2.2.2 i2->(∃i3,(z5r x0 x1 x4 i3)/\GJ.ok i2.1 i3)->jca x0 x1 x3 x2 x4 x6 x7 x8 i2 i0
 def zk2:=AV.agg [AV.int i64 5,AV.int i64 0,AV.str [],AV.ssl (nat_lit 7) (nat_lit 0) (length x0.2.2.2) (nat_lit 5) (nat_lit 8),AV.nsl]=AV.agg [AV.int i64 5,AV.int i64 0,AV.str [],AV.ssl (nat_lit 7) (nat_lit 0) (length x0.2.2.2) (nat_lit 5) (nat_lit 8),AV.nsl]
 def zsk:=(z5r x0 x1 x4 x17)/\length x0.2.2.2<=x5/\qik x17 x14 (take (length x0.2.2.2*nat_lit 5) (z00 GJ.cells x0.2.2.2))
 def j17:=(zsk x0 x1 x4 x5 x14 x17)/\q3p x17 (Addr.mk x16 x18 none) [int i64 4,int i64 0,string (mkS [114,101,99,111,114,100]),slice noA 0 0,slice noA 0 0,int i64 4,int i64 0,string x7,slice noA 0 0,slice noA 0 0,int i64 4,int i64 0,string (mkS [115]),slice noA 0 0,slice noA 0 0,int i64 5,int i64 0,string (mkS []),slice x14 (length x0.2.2.2) x5,slice noA 0 0]
 abbrev zsc:=q3p x17 (Addr.mk x5 x16 none) [string (zk6),string (zk7),string (mkS [110,97,109,101,115,112,97,99,101]),string (mkS [102,105,101,108,100,115])]
 def jcc:=mkS [114,101,99,111,114,100]=mkS [114,101,99,111,114,100]/\True/\x7=x7/\True/\mkS [115]=mkS [115]/\True/\True/\zk2 x0/\zk2 x0/\zk2 x0/\∀(i0 i1 i2:Nat) (i3:Option Addr) (i4 i5:Nat),(∃i6,zsk x0 x1 x4 i5 i3 i6)->∀(i7 i8 i9:Nat),(∃i10,j17 x0 x1 x4 i5 x7 i3 i7 i10 i8)->∀(i11 i12 i13:Nat),(∃i14,(j17 x0 x1 x4 i5 x7 i3 i7 i14 i8)/\zsc i11 i12 i14)->∃(i15:TrB),GJ.k i15.1=6/\GJ.n i15.1=0/\GJ.s i15.1=mkS []/\(GJ.y i15.1).1=some (Addr.mk i7 (i8+nat_lit 0) none)/\(GJ.y i15.1).2.1=nat_lit 4/\(GJ.y i15.1).2.2=nat_lit 4/\(GJ.x i15.1).1=some (Addr.mk i11 (i12+nat_lit 0) none)/\(GJ.x i15.1).2.1=nat_lit 4/\(GJ.x i15.1).2.2=nat_lit 4/\zk5 x4 (i15.2.1=x0.2.1/\z00 txV i15.2.2=z00 txV x0.2.2.1/\length i15.2.2=length x0.2.2.1/\z0y x1 x2 x8 i15/\(∀i16,(j17 x0 x1 x4 i5 x7 i3 i7 i16 i8)/\zsc i11 i12 i16->GJ.ok i15.1 i16)/\True)
 def jc8:=Ji (x0.1<z0u x1 x2 5) (jc9 x0 x6 x3 x2 x4 x5 x1 x7 x8) (jcc x0 x6 x2 x4 x7 x8)
end
def zhl(c:Nat) (s:ByteArray) (x:SV) (L:List Int) (n d:Int) (N:List ByteArray):qm3 P (qh2 [(32,zt9),(35,z9x),(34,z4i),(36,z3i)]) (qi5 [(33,z46.below z47 c)]) Try.f18 (z1h.below zn9 (c+1)) (z9n) ⟨s,x,L,n,d,N⟩=(zn9 (s,x,L,n,d,N)<c+1/\size s<100/\z2r 3 (x,L,n,d,N)->(∃(p:Pub),True/\slP byV x L p)->∃(b:List Int),(5:Int)=5/\zk5 x (n=n/\(0<=n/\n<=(↑(length b):Int)/\(0:Int)<5/\(5:Int)<1000000/\z0q b)/\(∀(p:Pub),True/\slP byV x L p->slP byV (x.1,x.2.1,x.2.2) b p)/\(∃(s_1:RlS),s=s/\z0u b n (5:Int)=z0u b n 5/\d=d/\s_1.1=0/\zk5 x (s_1.2.1=z07 b n/\z00 txV s_1.2.2.1=z00 txV N/\length s_1.2.2.1=length N/\length s_1.2.2.2=0/\(∀(p:Pub),True/\slP byV x L p->True/\slP byV x L p)/\(∀(p:Pub),True/\slP byV x L p->GJ.oks s_1.2.2.2 p)/\zho L n N (z0u b n 5) s_1/\True))/\∀(s_1:RlS),zho L n N (z0u b n 5) s_1->(∃(p:Pub),z5r s_1 L x p)->jc8 s_1 b n d x c L s N)):=by kernel_rfl
def zns:=λc s x L n d N=>Eq.trans (zhl c s x L n d N) (by delta Ji Jb Jt Jf zk5 z5r zsh zsi zsb zsf zzn zfm zzo zk7 zk6 zk3 zsd zse zsg zsj jcd jcb zzp zk4 jce jca jc9 zk2 zsk j17 zsc jcc jc8;exact rfl)
section
def leaf(k n:Int) (s:ByteArray):GJ:= .mk k n s (none,0,0) [] (none,0,0) []
variable {s:ByteArray} {p:Pub}
def z08{k n:Int}:(leaf k n s).ok p:=by
 unfold leaf;rw[GJ.ok];exact⟨z06,z06,by rw[GJ.oks];trivial⟩
def z09{k n:Int} (h:s.size<1000) (h0: -9223372036854775808<=n) (h1:n<9223372036854775808):(leaf k n s).wf:=by
 unfold leaf;rw[GJ.wf];exact⟨h,by decide,by decide,λt ht=>(by cases ht),⟨h0,h1⟩,λ_=>rfl,by rw[GJ.wfs];trivial⟩
variable {l:List GJ}
def z02{g:GJ} (h1:g.ok p) (h2:GJ.oks l p):GJ.oks (g::l) p:=by rw[GJ.oks];exact⟨h1,h2⟩
def z0m:GJ.oks [] p:=by rw[GJ.oks];trivial
def z03{g:GJ} (h1:g.wf) (h2:GJ.wfs l):GJ.wfs (g::l):=by rw[GJ.wfs];exact⟨h1,h2⟩
def z0n:GJ.wfs []:=by rw[GJ.wfs];trivial
variable {α:Type}
def z30{f:α->List Value} {l:List α} {a:Option Addr} {n c:Nat} (hn:n=l.length) (h:qil p a n c (z00 f l)):slP f (a,n,c) l p:=⟨hn,h⟩
def z0k{f:α->List Value} {l:List α} {b s n c:Nat} (hn:n=l.length) (hc:n<=c) (h:q3p p ⟨b,s,none⟩ (z00 f l)):slP f (some ⟨b,s+0,none⟩,n,c) l p:=⟨hn,hc, .inr ⟨_,rfl,rfl,h⟩⟩
def lsJ(x:SV) (l:List GJ):GJ:= .mk 5 0 (mkS []) x l (none,0,0) []
variable {x:SV}
def z3v(h1:slP GJ.cells x l p) (h2:GJ.oks l p):(lsJ x l).ok p:=by
 unfold lsJ;rw[GJ.ok];exact⟨h1,z06,h2⟩
def z3w(h1:l.length<1000) (h2:GJ.wfs l):(lsJ x l).wf:=by
 unfold lsJ;rw[GJ.wf];exact⟨by decide,h1,Nat.zero_le _,λt ht=>(by cases ht),⟨by omega,by omega⟩,λh=>absurd h (by decide),h2⟩
def tbJ(x:SV) (l:List GJ) (y:SV) (nm:List ByteArray):GJ:= .mk 6 0 (mkS []) x l y nm
variable {nm:List ByteArray}
def z31{y:SV} (h1:slP GJ.cells x l p) (h3:slP txV y nm p) (h2:GJ.oks l p):(tbJ x l y nm).ok p:=by
 unfold tbJ;rw[GJ.ok];exact⟨h1,h3,h2⟩
def z32{y:SV} (h1:l.length<1000) (h3:nm.length=l.length) (h4:∀t∈nm,t.size<1000) (h2:GJ.wfs l):(tbJ x l y nm).wf:=by
 unfold tbJ;rw[GJ.wf];exact⟨by decide,h1,by omega,h4,⟨by omega,by omega⟩,λ_=>h3,h2⟩
variable {L:List Int}
def zh6{n:Int} (h:n<L.length):z07 L n=n+1:=by unfold z07;rw[if_neg (by omega)]
def zh7{n m:Int} (h:z0u L n m≠0):n<L.length:=by
 unfold z0u at h
 split at h
 ·exact absurd rfl h
 ·omega
def zkl(c:Nat) (h:c<256):q1h (mkS [c])=[.int .u8 (c:Nat)]:=by
 simp[q1h,mkS]
 omega
def zeh(n:Nat):IntKind.wrap .u8 (97+(n:Int).tmod 26)=((97+n % 26:Nat):Int):=by
 rw[zie,Int.tmod_eq_emod_of_nonneg (by omega)];omega
def z3t{α:Type} {f:α->List Value} {l:List α} {p:Pub} {x:Addr} (k:Nat) (h:q3p p x (z00 f l)):q3p p x (z00 f (l.take k)):=λj v hj=>by
 refine h j v ?_
 conv at hj=>lhs;rw[show z00 f (l.take k)=z00 f (l.take k)from rfl]
 have e:z00 f l=z00 f (l.take k)++z00 f (l.drop k):=by rw[←z05,List.take_append_drop]
 rw[e,List.getElem?_append_left (List.getElem?_eq_some_iff.mp hj).1];exact hj
def slH(b s:Nat) (r:Int):SV:=(slA (some ⟨b,s+0,none⟩) 3 0 5,(@Int.rec (λ_=>Nat) (λa=>a) (λ_=>0) (1+r))- 0,3- 0)
def syL(r:Int):List GJ:=[leaf 4 0 (mkS [88]),leaf 4 0 (mkS [89]),leaf 4 0 (mkS [90])].take (1+r).toNat
def zv3{b s:Nat} {r:Int} (h0:0<=r) (h1:r<3) (h:q3p p ⟨b,s,none⟩ (z00 GJ.cells [leaf 4 0 (mkS [88]),leaf 4 0 (mkS [89]),leaf 4 0 (mkS [90])])):slP GJ.cells (slH b s r) (syL r) p/\GJ.oks (syL r) p:=by
 have:r=0\/r=1\/r=2:=by omega
 rcases this with rfl|rfl|rfl
 ·exact⟨⟨rfl,show 1<=3 by decide, .inr ⟨⟨b,s,none⟩,rfl,rfl,z3t 1 h⟩⟩,z02 z08 z0m⟩
 ·exact⟨⟨rfl,show 2<=3 by decide, .inr ⟨⟨b,s,none⟩,rfl,rfl,z3t 2 h⟩⟩,z02 z08 (z02 z08 z0m)⟩
 ·exact⟨⟨rfl,show 3<=3 by decide, .inr ⟨⟨b,s,none⟩,rfl,rfl,h⟩⟩,z02 z08 (z02 z08 (z02 z08 z0m))⟩
def zhr{r:Int} (h0:0<=r) (h1:r<3):(syL r).length<1000/\GJ.wfs (syL r):=by
 have:r=0\/r=1\/r=2:=by omega
 rcases this with rfl|rfl|rfl
 ·exact⟨by decide,z03 (z09 (by decide) (by omega) (by omega)) z0n⟩
 ·exact⟨by decide,z03 (z09 (by decide) (by omega) (by omega)) (z03 (z09 (by decide) (by omega) (by omega)) z0n)⟩
 ·exact⟨by decide,z03 (z09 (by decide) (by omega) (by omega)) (z03 (z09 (by decide) (by omega) (by omega)) (z03 (z09 (by decide) (by omega) (by omega)) z0n))⟩
def zi4(c:Nat) (ht:q22 P 33 (z46.below z47 c)):q22 P 57 (z8h.below z47 (c+1)):=by
 refine qlb mixed (qee (qih z8z (qih z5a qlq))) (qf7 (qig ht qlp)) (W:=zls) Try.func57 (by kernel_rfl) (show 1<=5 by decide) (show 5<=7 by decide) (λs=>by kernel_rfl) λ⟨(x:SV),(L:List Int),(n:Int),(d:Int),N⟩=>(union_eq c x L n d N).mpr ?_
 rintro⟨hmu,hn0,hn1,hL,hd0,hd1,hN,hNs⟩ ⟨p,_,hp⟩
 have hmu:(10- d).toNat<c+1:=hmu
 simp only[sbS,Int.toNat_natCast]
 have nb:=z1i hn1
 refine⟨L,⟨hn0,hn1,by omega,by omega,hL⟩,λq hq=>hq,λh0=> ?_,λh0=> ?_⟩
 ·have nb2:=z1i nb.2.1
  have hr:=z19 (n:=z07 L n) (m:=2) hL (by omega)
  obtain⟨s,hs,hsz⟩:∃s:ByteArray,(∀(j:Nat) (v:Value),[Value.string s][j]? =some v->[Value.string (mkS [105,110,116]),Value.string (mkS [115,116,114,105,110,103])][0+(z0u L (z07 L n) 2).toNat*1+j]? =some v)/\s.size<1000:=by
   have:z0u L (z07 L n) 2=0\/z0u L (z07 L n) 2=1:=by omega
   rcases this with e|e
   ·rw[e];exact⟨mkS [105,110,116],λj v hj=>by cases j with|zero=>exact hj|succ j=>simp at hj,by decide⟩
   ·rw[e];exact⟨mkS [115,116,114,105,110,103],λj v hj=>by cases j with|zero=>exact hj|succ j=>simp at hj,by decide⟩
  refine⟨L,⟨by omega,nb.2.1,by omega,by omega,hL⟩,λq hq=>hq,hr,s,hs,by decide,by omega,⟨x,L,z07 L (z07 L n),d+1,N⟩,rfl,rfl,rfl,rfl,rfl,rfl,rfl,⟨?_,by omega,nb2.2.1,hL,by omega,by omega,by omega,hNs⟩,λq hq=>hq,?_⟩
  ·show(10- (d+1)).toNat<c;omega
  rintro⟨g,n',N'⟩ ⟨hw,p1,p2,p3,p4,p5⟩ _
  simp only at p1 p2 p3 p4
  refine⟨λhk=>⟨rfl,by decide,λ_ _ _ a m cc _=>⟨⟨lsJ (a,3,cc) [leaf 4 0 (mkS [110,117,108,108]),leaf 4 0 s,g],n',N'⟩,rfl,rfl,rfl,rfl,rfl,rfl,rfl,rfl,rfl,rfl,rfl,rfl,rfl,rfl,rfl,⟨?_,by omega,p2,p3,by omega,p5⟩,λq hq=> ?_⟩⟩,λhk _ _ _ a m cc _=>⟨⟨lsJ (a,2,cc) [leaf 4 0 (mkS [110,117,108,108]),leaf 4 0 s],n',N'⟩,rfl,rfl,rfl,rfl,rfl,rfl,rfl,rfl,rfl,rfl,rfl,rfl,rfl,rfl,rfl,⟨?_,by omega,p2,p3,by omega,p5⟩,λq hq=> ?_⟩⟩
  ·exact z3w (by simp) (z03 (z09 (by decide) (by omega) (by omega)) (z03 (z09 hsz (by omega) (by omega)) (z03 hw z0n)))
  ·exact z3v (z30 rfl hq.2) (z02 z08 (z02 z08 (z02 hq.1.2 z0m)))
  ·exact z3w (by simp) (z03 (z09 (by decide) (by omega) (by omega)) (z03 (z09 hsz (by omega) (by omega)) z0n))
  ·exact z3v (z30 rfl hq.2) (z02 z08 (z02 z08 z0m))
 ·refine⟨by omega,⟨x,L,z07 L n,d+1,N⟩,rfl,rfl,rfl,rfl,rfl,rfl,rfl,⟨?_,by omega,nb.2.1,hL,by omega,by omega,by omega,hNs⟩,λq hq=>hq,?_⟩
  ·show(10- (d+1)).toNat<c;omega
  rintro⟨g,n',N'⟩ ⟨hw,p1,p2,p3,p4,p5⟩ _
  simp only at p1 p2 p3 p4
  refine⟨λhk=>⟨by decide,λ_ _ _ a m cc _=>⟨⟨lsJ (a,2,cc) [leaf 4 0 (mkS [110,117,108,108]),g],n',N'⟩,rfl,rfl,rfl,rfl,rfl,rfl,rfl,rfl,rfl,rfl,rfl,rfl,rfl,rfl,rfl,⟨?_,by omega,p2,p3,by omega,p5⟩,λq hq=> ?_⟩⟩,λhk b2 s2 _ _=>⟨⟨lsJ (some ⟨b2,s2+0,none⟩,1,1) [leaf 4 0 (mkS [110,117,108,108])],n',N'⟩,rfl,rfl,rfl,rfl,rfl,rfl,rfl,rfl,rfl,rfl,rfl,rfl,rfl,rfl,rfl,⟨?_,by omega,p2,p3,by omega,p5⟩,λq hq=> ?_⟩⟩
  ·exact z3w (by simp) (z03 (z09 (by decide) (by omega) (by omega)) (z03 hw z0n))
  ·exact z3v (z30 rfl hq.2) (z02 z08 (z02 hq.1.2 z0m))
  ·exact z3w (by simp) (z03 (z09 (by decide) (by omega) (by omega)) z0n)
  ·exact z3v (z0k rfl (Nat.le_refl _) hq.2) (z02 z08 z0m)
def zo8(c:Nat) (ht:q22 P 33 (z46.below z47 c)) (hu:q22 P 57 (z8h.below z47 (c+1))) (hr:q22 P 18 (z1h.below zn9 (c+1))):q22 P 33 (z46.below z47 (c+1)):=by
 refine qlb mixed (qee (qih z8z (qih znj (qih z5a (qih z98 qlq))))) (qf7 (qig ht (qig hu (qig hr qlp)))) (W:=zvm) Try.func33 (by kernel_rfl) (show 1<=5 by decide) (show 5<=7 by decide) (λs=>by kernel_rfl) λ⟨(x:SV),(L:List Int),(n:Int),(d:Int),N⟩=>(zo7 c x L n d N).mpr ?_
 rintro⟨hmu,hn0,hn1,hL,hd0,hd1,hN,hNs⟩ ⟨p,_,hp⟩
 have hmu:(10- d).toNat<c+1:=hmu
 simp only[sbS,Int.toNat_natCast,exists_const]
 have nb:=z1i hn1
 have hLl:=hL.1
 have hr0:=z19 (n:=n) (m:=20) hL (by omega)
 have small8:3<d->(8:Int)≠0/\∃s,s=(z0u L n 20).tmod 8/\z07 L n=z07 L n/\0<=s/\s<20/\(8<=s->d<=3/\n<L.length):=λh=>by
  have e:(z0u L n 20).tmod 8=z0u L n 20 % 8:=Int.tmod_eq_emod_of_nonneg hr0.1
  exact⟨by decide,_,rfl,rfl,by omega,by omega,λh=>by omega⟩
 have small9:(8:Int)≠0/\∃s,s=(z0u L n 20).tmod 8/\z07 L n=z07 L n/\0<=s/\s<20/\(8<=s->d<=3/\n<L.length):=by
  have e:(z0u L n 20).tmod 8=z0u L n 20 % 8:=Int.tmod_eq_emod_of_nonneg hr0.1
  exact⟨by decide,_,rfl,rfl,by omega,by omega,λh=>by omega⟩
 refine⟨L,⟨hn0,hn1,by omega,by omega,hL⟩,λq hq=>hq,⟨small8,λhd3=>⟨L,λq hq=>hq,λ_=>small9,λ_=>⟨_,rfl,rfl,hr0.1,hr0.2,λh=>⟨by omega,zh7 (m:=20) (by omega)⟩⟩⟩⟩,?_⟩
 rintro k ⟨hk0,hk1,hk2⟩
 refine⟨⟨λh8=> ?_,λh8=>⟨λh10=> ?_,λh10=>⟨λh1=> ?_,λh1=>⟨λh14=> ?_,λh14=>⟨λe14=>⟨λhN0=> ?_,λ_=>by omega⟩,λ_=>by omega⟩⟩⟩⟩⟩,?_⟩
 ·obtain⟨s,hs,hsz⟩:∃s:ByteArray,(∀(j:Nat) (v:Value),[Value.string s][j]? =some v->[Value.string (mkS [105,110,116]),Value.string (mkS [108,111,110,103]),Value.string (mkS [115,116,114,105,110,103]),Value.string (mkS [98,121,116,101,115]),Value.string (mkS [98,111,111,108,101,97,110]),Value.string (mkS [110,117,108,108]),Value.string (mkS [102,108,111,97,116]),Value.string (mkS [100,111,117,98,108,101])][0+k.toNat*1+j]? =some v)/\s.size<1000:=by
   have:k=0\/k=1\/k=2\/k=3\/k=4\/k=5\/k=6\/k=7:=by omega
   rcases this with rfl|rfl|rfl|rfl|rfl|rfl|rfl|rfl
   all_goals refine⟨_,λj v hj=>by cases j with|zero=>exact hj|succ j=>simp at hj,by decide⟩
  exact⟨⟨hk0,h8⟩,s,hs,⟨leaf 4 0 s,z07 L n,N⟩,rfl,rfl,rfl,rfl,rfl,rfl,rfl,rfl,rfl,rfl,rfl,rfl,⟨z09 hsz (by omega) (by omega),nb.1,nb.2.1,Nat.le_refl _,by omega,hNs⟩,λq hq=>z08⟩
 ·have hd:=hk2 (by omega)
  refine⟨by omega,⟨x,L,z07 L n,d+1,N⟩,rfl,rfl,rfl,rfl,rfl,rfl,rfl,⟨?_,by omega,nb.2.1,hL,by omega,by omega,by omega,hNs⟩,λq hq=>hq,?_⟩
  ·show(10- (d+1)).toNat<c;omega
  rintro⟨g,n',N'⟩ ⟨hw,p1,p2,p3,p4,p5⟩ _ b1 s1 u1 _ b2 s2 u2 _
  simp only at p1 p2 p3 p4
  exact⟨⟨tbJ (some ⟨b1,s1+0,none⟩,2,2) [leaf 4 0 (mkS [97,114,114,97,121]),g] (some ⟨b2,s2+0,none⟩,2,2) [mkS [116,121,112,101],mkS [105,116,101,109,115]],n',N'⟩,rfl,rfl,rfl,rfl,rfl,rfl,rfl,rfl,rfl,rfl,rfl,rfl,rfl,rfl,rfl,⟨z32 (by simp) rfl (by decide) (z03 (z09 (by decide) (by omega) (by omega)) (z03 hw z0n)),by omega,p2,p3,by omega,p5⟩,λq hq=>z31 (z0k rfl (Nat.le_refl _) hq.1.2) (z0k rfl (Nat.le_refl _) hq.2) (z02 z08 (z02 hq.1.1.2 z0m))⟩
 ·have hd:=hk2 (by omega)
  refine⟨by omega,⟨x,L,z07 L n,d+1,N⟩,rfl,rfl,rfl,rfl,rfl,rfl,rfl,⟨?_,by omega,nb.2.1,hL,by omega,by omega,by omega,hNs⟩,λq hq=>hq,?_⟩
  ·show(10- (d+1)).toNat<c;omega
  rintro⟨g,n',N'⟩ ⟨hw,p1,p2,p3,p4,p5⟩ _ b1 s1 u1 _ b2 s2 u2 _
  simp only at p1 p2 p3 p4
  exact⟨⟨tbJ (some ⟨b1,s1+0,none⟩,2,2) [leaf 4 0 (mkS [109,97,112]),g] (some ⟨b2,s2+0,none⟩,2,2) [mkS [116,121,112,101],mkS [118,97,108,117,101,115]],n',N'⟩,rfl,rfl,rfl,rfl,rfl,rfl,rfl,rfl,rfl,rfl,rfl,rfl,rfl,rfl,rfl,⟨z32 (by simp) rfl (by decide) (z03 (z09 (by decide) (by omega) (by omega)) (z03 hw z0n)),by omega,p2,p3,by omega,p5⟩,λq hq=>z31 (z0k rfl (Nat.le_refl _) hq.1.2) (z0k rfl (Nat.le_refl _) hq.2) (z02 z08 (z02 hq.1.1.2 z0m))⟩
 ·have hd:=hk2 (by omega)
  refine⟨⟨x,L,z07 L n,d,N⟩,rfl,rfl,rfl,rfl,rfl,rfl,rfl,⟨?_,by omega,nb.2.1,hL,by omega,by omega,by omega,hNs⟩,λq hq=>hq,?_⟩
  ·show(10- d).toNat<c+1;omega
  rintro⟨g,n',N'⟩ ⟨hw,p1,p2,p3,p4,p5⟩ _
  simp only at p1 p2 p3 p4
  exact⟨⟨g,n',N'⟩,rfl,rfl,rfl,rfl,rfl,rfl,rfl,rfl,rfl,rfl,rfl,rfl,rfl,rfl,rfl,⟨hw,by omega,p2,p3,by omega,p5⟩,λq hq=>hq.2⟩
 ·have hd:=hk2 (by omega)
  have hN0:0<N.length:=by omega
  have nb2:=z1i nb.2.1
  have hr:=z19 (n:=z07 L n) (m:=N.length) hL (by omega)
  obtain⟨i,hi⟩:=Int.eq_ofNat_of_zero_le hr.1
  have hil:i<N.length:=by omega
  refine⟨L,⟨by omega,nb.2.1,by omega,by omega,hL⟩,λq hq=>hq,hr,N[i],?_,⟨leaf 4 0 N[i],z07 L (z07 L n),N⟩,rfl,rfl,rfl,rfl,rfl,rfl,rfl,rfl,rfl,rfl,rfl,rfl,⟨z09 (by have:=hNs N[i] (List.getElem_mem _);omega) (by omega) (by omega),by omega,nb2.2.1,Nat.le_refl _,by omega,hNs⟩,λq hq=>z08⟩
  rw[hi,Int.toNat_natCast]
  intro j v hj
  cases j with
  |zero=>rw[Nat.zero_add,z1t z0t N i hil 0 (by decide)];exact hj
  |succ j=>simp at hj
 intro _ h14
 have hd:=hk2 (by omega)
 have e26:(N.length:Int).tmod 26=(N.length:Int) % 26:=Int.tmod_eq_emod_of_nonneg (by omega)
 have hz:(mkS [97+N.length % 26]).size=1:=rfl
 have hn2:(mkS [78]++mkS [97+N.length % 26]).size=2:=by rw[ByteArray.size_append,hz];rfl
 have hnl:n<L.length:=hd.2
 have hnn:=zh6 hnl
 refine⟨by decide,by omega,mkS [97+N.length % 26],rfl,?_,by rw[hz];decide,z01 z0t N,by omega,?_⟩
 ·intro j v hj
  rw[zkl _ (by omega)]at hj
  rw[zeh,Nat.zero_add];exact hj
 have hN':∀t∈N++[(mkS [78]++mkS [97+N.length % 26])],t.size<100:=λt ht=>by
  rcases List.mem_append.1 ht with h|h
  ·exact hNs t h
  ·simp at h;rw[h];omega
 have hNl:(N++[(mkS [78]++mkS [97+N.length % 26])]).length=N.length+1:=by simp
 have hNr:z00 txV (N++[(mkS [78]++mkS [97+N.length % 26])])=z00 txV N++[Value.string (mkS [78]++mkS [97+N.length % 26])]:=by rw[z05];rfl
 generalize (mkS [78]++mkS [97+N.length % 26])=name at*
 generalize N++[name]=N1 at*
 have nb2:=z1i nb.2.1
 refine⟨λh15=> ?_,λh15=>⟨λh16=> ?_,λh16=> ?_⟩⟩
 ·have hr4:=z19 (n:=z07 L n) (m:=4) hL (by omega)
  refine⟨L,⟨by omega,nb.2.1,by omega,by omega,hL⟩,λq hq=>hq,λb1 s1 u1 _ b2 s2 u2 _=>⟨⟨tbJ (some ⟨b1,s1+0,none⟩,3,3) [leaf 4 0 (mkS [102,105,120,101,100]),leaf 4 0 name,leaf 3 (z0u L (z07 L n) 4) (mkS [])] (some ⟨b2,s2+0,none⟩,3,3) [mkS [116,121,112,101],mkS [110,97,109,101],mkS [115,105,122,101]],z07 L (z07 L n),N1⟩,rfl,rfl,rfl,rfl,rfl,rfl,rfl,rfl,rfl,rfl,hNr,hNl,⟨?_,by omega,nb2.2.1,by omega,by omega,hN'⟩,λq hq=> ?_⟩⟩
  ·exact z32 (by simp) rfl (by decide) (z03 (z09 (by decide) (by omega) (by omega)) (z03 (z09 (by omega) (by omega) (by omega)) (z03 (z09 (by decide) (by omega) (by omega)) z0n)))
  ·exact z31 (z0k rfl (Nat.le_refl _) hq.1.2) (z0k rfl (Nat.le_refl _) hq.2) (z02 z08 (z02 z08 (z02 z08 z0m)))
 ·have hr3:=z19 (n:=z07 L n) (m:=3) hL (by omega)
  have nb3:=z1i nb2.2.1
  generalize hrr:z0u L (z07 L n) 3=r at hr3
  refine⟨L,⟨by omega,nb.2.1,by omega,by omega,hL⟩,λq hq=>hq,?_⟩
  rw[hrr]
  refine⟨by omega,λb1 s1 u1 _=>⟨Nat.le_refl _,by omega,L,⟨by omega,nb2.2.1,by omega,by omega,hL⟩,λq hq=>hq.1,?_,?_⟩⟩
  ·refineλ_=>⟨by decide,by decide,λ_ _ _ a _ cc _ _ _ _ a2 _ cc2 _=>⟨⟨tbJ (a,4,cc) [leaf 4 0 (mkS [101,110,117,109]),leaf 4 0 name,lsJ (slH b1 s1 r) (syL r),leaf 4 0 (mkS [88])] (a2,4,cc2) [mkS [116,121,112,101],mkS [110,97,109,101],mkS [115,121,109,98,111,108,115],mkS [100,101,102,97,117,108,116]],z07 L (z07 L (z07 L n)),N1⟩,rfl,rfl,rfl,rfl,rfl,rfl,rfl,rfl,rfl,rfl,hNr,hNl,⟨?_,by omega,nb3.2.1,by omega,by omega,hN'⟩,λq hq=> ?_⟩⟩
   ·exact z32 (by simp) rfl (by decide) (z03 (z09 (by decide) (by omega) (by omega)) (z03 (z09 (by omega) (by omega) (by omega)) (z03 (z3w (zhr hr3.1 hr3.2).1 (zhr hr3.1 hr3.2).2) (z03 (z09 (by decide) (by omega) (by omega)) z0n))))
   ·have hsy:=zv3 (b:=b1) (s:=s1) hr3.1 hr3.2 hq.1.1.2
    exact z31 (z30 rfl hq.1.2) (z30 rfl hq.2) (z02 z08 (z02 z08 (z02 (z3v hsy.1 hsy.2) (z02 z08 z0m))))
  ·refineλ_ b3 s3 _ _ b4 s4 _ _=>⟨⟨tbJ (some ⟨b3,s3+0,none⟩,3,3) [leaf 4 0 (mkS [101,110,117,109]),leaf 4 0 name,lsJ (slH b1 s1 r) (syL r)] (some ⟨b4,s4+0,none⟩,3,3) [mkS [116,121,112,101],mkS [110,97,109,101],mkS [115,121,109,98,111,108,115]],z07 L (z07 L (z07 L n)),N1⟩,rfl,rfl,rfl,rfl,rfl,rfl,rfl,rfl,rfl,rfl,hNr,hNl,⟨?_,by omega,nb3.2.1,by omega,by omega,hN'⟩,λq hq=> ?_⟩
   ·exact z32 (by simp) rfl (by decide) (z03 (z09 (by decide) (by omega) (by omega)) (z03 (z09 (by omega) (by omega) (by omega)) (z03 (z3w (zhr hr3.1 hr3.2).1 (zhr hr3.1 hr3.2).2) z0n)))
   ·have hsy:=zv3 (b:=b1) (s:=s1) hr3.1 hr3.2 hq.1.1.2
    exact z31 (z0k rfl (Nat.le_refl _) hq.1.2) (z0k rfl (Nat.le_refl _) hq.2) (z02 z08 (z02 z08 (z02 (z3v hsy.1 hsy.2) z0m)))
 ·refine⟨⟨name,x,L,z07 L n,d,N1⟩,rfl,rfl,rfl,rfl,rfl,rfl,hNr,hNl,⟨?_,by show name.size<100;omega,by omega,nb.2.1,hL,hd0,hd.1,by omega,hN'⟩,λq hq=>hq,?_⟩
  ·show(10- d).toNat<c+1;omega
  rintro⟨g,n',N'⟩ ⟨hw,p1,p2,p3,p4,p5⟩ _
  simp only at p1 p2 p3 p4
  exact⟨⟨g,n',N'⟩,rfl,rfl,rfl,rfl,rfl,rfl,rfl,rfl,rfl,rfl,rfl,rfl,rfl,rfl,rfl,⟨hw,by omega,p2,by omega,by omega,p5⟩,λq hq=>hq.2⟩
end
def z77:∀{l m:List GJ} {p:Pub},GJ.oks l p->GJ.oks m p->GJ.oks (l++m) p
  | [],m,p,h1,h2=>h2
  | g::l,m,p,h1,h2=>by
    rw[GJ.oks]at h1
    exact z02 h1.1 (z77 h1.2 h2)
def z7d:∀{l m:List GJ},GJ.wfs l->GJ.wfs m->GJ.wfs (l++m)
  | [],m,h1,h2=>h2
  | g::l,m,h1,h2=>by
    rw[GJ.wfs]at h1
    exact z03 h1.1 (z7d h1.2 h2)
def zd8(c:Nat) (ht:q22 P 33 (z46.below z47 c)):q22 P 18 (z1h.below zn9 (c+1)):=by
 refine qlb mixed (qee (qih z8z (qih z5a (qih z98 (qih zmo qlq))))) (qf7 (qig ht qlp)) (W:=z9n) Try.func18 (by kernel_rfl) (show 1<=5 by decide) (show 5<=7 by decide) (λs=>by kernel_rfl) λ⟨s,(x:SV),(L:List Int),(n:Int),(d:Int),N⟩=>(zns c s x L n d N).mpr ?_
 rintro⟨hmu,hss,hn0,hn1,hL,hd0,hd1,hN,hNs⟩ ⟨p,_,hp⟩
 have hmu:(10- d).toNat<c+1:=hmu
 simp only[sbS,Int.toNat_natCast,exists_const]
 have nb:=z1i hn1
 have hLl:=hL.1
 have hr5:=z19 (n:=n) (m:=5) hL (by omega)
 refine⟨L,⟨hn0,hn1,by omega,by omega,hL⟩,λq hq=>hq,⟨⟨0,z07 L n,N,[]⟩,rfl,rfl,rfl,rfl,rfl,λq hq=>z0m,by omega,by omega,by omega,rfl,z0n,nb.1,nb.2.1,Nat.le_refl _,by omega,hNs⟩,?_⟩
 rintro⟨i,n1,N1,fs⟩ ⟨i0,i1,i2,hfl,hfw,q1,q2,q3,q4,q5⟩ _
 simp only at i0 i1 i2 hfl hfw q1 q2 q3 q4 q5⊢
 refine⟨λhlt=>⟨by omega,⟨x,L,n1,d+1,N1⟩,rfl,rfl,rfl,rfl,rfl,rfl,rfl,⟨?_,by omega,q2,hL,by omega,by omega,by omega,q5⟩,λq hq=>hq.1,?_⟩,λhge=> ?_⟩
 ·show(10- (d+1)).toNat<c;omega
 ·rintro⟨g,n2,N2⟩ ⟨hw,p1,p2,p3,p4,p5⟩ _
  simp only at p1 p2 p3 p4
  have hr3:=z19 (n:=n2) (m:=3) hL (by omega)
  have nb2:=z1i p2
  have dfb:=zmm (g:=g) (L:=L) (n:=z07 L n2) hL nb2.2.1
  obtain⟨e,rfl⟩:=Int.eq_ofNat_of_zero_le i0
  have hz:(mkS [97+e]).size=1:=rfl
  have hsz:(mkS [102]++mkS [97+e]).size=2:=by rw[ByteArray.size_append,hz];rfl
  refine⟨by omega,mkS [97+e],rfl,?_,by rw[hz];decide,L,⟨by show 0<=n2;omega,p2,by omega,by omega,hL⟩,λq hq=>hq.1.1,λh0=>⟨by decide,⟨L,g⟩,rfl,rfl,rfl,rfl,rfl,rfl,rfl,rfl,rfl,⟨by show 0<=z07 L n2;omega,nb2.2.1,hL,hw⟩,λq hq=>⟨hq.1.1,hq.2⟩,by decide,λ_ _ _ a _ cc _ _ _ _ a2 _ cc2 _=>⟨z01 z2y fs,by omega,by omega,⟨(e:Int)+1,(z26 g L (z07 L n2)).2.2.2,N2,fs++[tbJ (a,3,cc) [leaf 4 0 (mkS [102]++mkS [97+e]),g,leaf (z26 g L (z07 L n2)).1 (z26 g L (z07 L n2)).2.1 (z26 g L (z07 L n2)).2.2.1] (a2,3,cc2) [mkS [110,97,109,101],mkS [116,121,112,101],mkS [100,101,102,97,117,108,116]]]⟩,rfl,rfl,rfl,rfl,rfl,?_,rfl,rfl,by simp,λq hq=>hq.1.1.1.1,λq hq=> ?_,?_,?_⟩⟩,λh0 b3 s3 _ _ b4 s4 _ _=>⟨z01 z2y fs,by omega,by omega,⟨(e:Int)+1,z07 L n2,N2,fs++[tbJ (some ⟨b3,s3+0,none⟩,2,2) [leaf 4 0 (mkS [102]++mkS [97+e]),g] (some ⟨b4,s4+0,none⟩,2,2) [mkS [110,97,109,101],mkS [116,121,112,101]]]⟩,rfl,rfl,rfl,rfl,rfl,?_,rfl,rfl,by simp,λq hq=>hq.1.1.1.1,λq hq=> ?_,?_,?_⟩⟩
  ·intro j v hj
   rw[zkl _ (by omega)]at hj
   rw[show IntKind.wrap .u8 (97+(e:Int))=((97+e:Nat):Int)by rw[zie];omega,Nat.zero_add];exact hj
  ·rw[z05];rfl
  ·exact z77 hq.1.1.1.2 (z02 (z31 (z30 rfl hq.1.2) (z30 rfl hq.2) (z02 z08 (z02 hq.1.1.2 (z02 z08 z0m)))) z0m)
  ·refine⟨by omega,by omega,i2,by rw[List.length_append];show((fs.length+1:Nat):Int)=_;omega,z7d hfw (z03 (z32 (by simp) rfl (by decide) (z03 (z09 (by omega) (by omega) (by omega)) (z03 hw (z03 (z09 (by omega) (by omega) (by omega)) z0n)))) z0n),by omega,dfb.1.2,by omega,by omega,p5⟩
  ·show(z0u L n 5- ((e:Int)+1)).toNat<_;omega
  ·rw[z05];rfl
  ·exact z77 hq.1.1.1.2 (z02 (z31 (z0k rfl (Nat.le_refl _) hq.1.2) (z0k rfl (Nat.le_refl _) hq.2) (z02 z08 (z02 hq.1.1.2 z0m))) z0m)
  ·refine⟨by omega,by omega,i2,by rw[List.length_append];show((fs.length+1:Nat):Int)=_;omega,z7d hfw (z03 (z32 (by simp) rfl (by decide) (z03 (z09 (by omega) (by omega) (by omega)) (z03 hw z0n))) z0n),by omega,nb2.2.1,by omega,by omega,p5⟩
  ·show(z0u L n 5- ((e:Int)+1)).toNat<_;omega
 ·intro _ _ _ a _ cc _ b3 s3 _ _ b4 s4 _ _
  refine⟨⟨tbJ (some ⟨b3,s3+0,none⟩,4,4) [leaf 4 0 (mkS [114,101,99,111,114,100]),leaf 4 0 s,leaf 4 0 (mkS [115]),lsJ (a,fs.length,cc) fs] (some ⟨b4,s4+0,none⟩,4,4) [mkS [116,121,112,101],mkS [110,97,109,101],mkS [110,97,109,101,115,112,97,99,101],mkS [102,105,101,108,100,115]],n1,N1⟩,rfl,rfl,rfl,rfl,rfl,rfl,rfl,rfl,rfl,rfl,rfl,rfl,⟨?_,q1,q2,q3,q4,q5⟩,λq hq=> ?_⟩
  ·exact z32 (by simp) rfl (by decide) (z03 (z09 (by decide) (by omega) (by omega)) (z03 (z09 (by omega) (by omega) (by omega)) (z03 (z09 (by decide) (by omega) (by omega)) (z03 (z3w (by omega) hfw) z0n))))
  ·have e1:List.take (fs.length*5) (z00 GJ.cells fs)=z00 GJ.cells fs:=List.take_of_length_le (by rw[z01 z2y];exact Nat.le_refl _)
   have e2:=hq.1.1.2
   rw[e1]at e2
   exact z31 (z0k rfl (Nat.le_refl _) hq.1.2) (z0k rfl (Nat.le_refl _) hq.2) (z02 z08 (z02 z08 (z02 z08 (z02 (z3v (z30 rfl e2) hq.1.1.1.2) z0m))))
def z2e:∀c,q22 P 33 (z46.below z47 c)/\q22 P 18 (z1h.below zn9 c)
 |0=>⟨CtR.below_zero (by decide) (by decide) (Sen.enters_of Try.func33 (by kernel_rfl)) λs=>rfl,CtR.below_zero (by decide) (by decide) (Sen.enters_of Try.func18 (by kernel_rfl)) λs=>rfl⟩
 |c+1=>⟨zo8 c (z2e c).1 (zi4 c (z2e c).1) (zd8 c (z2e c).1),zd8 c (z2e c).1⟩
def zhm:q22 P 18 z1h:=CtR.of_below λc=>(z2e c).2
def z71:CtR:=ctN (List AT×SV×Int×GJ) (λ⟨S,x,t,g⟩=>[scA x, .sv (.int .i64 t),g.av]) (λ⟨S,x,t,g⟩=>z0v S/\g.wf) (λ⟨S,x,t,g⟩=>sgM S x g) (Int×GV) (λ_ _=>True) (λ_ ⟨e,v⟩=>vM v) λ_ ⟨e,v⟩=> .tup [v.av, .sv (.int .i64 e)]
def sM(S:List AT) (x:SV):PF:=⟨true,z0a S x,λ_ _ h e=>z0s h e⟩
def z4t:CtR:=ctN (List AT×SV) (λ⟨S,x⟩=>[scA x]) (λ⟨S,x⟩=>z0v S) (λ⟨S,x⟩=>sM S x) (Int×Int×Int) (λ_ _=>True) (λ_ _=>{}) λ_ ⟨e,t,i⟩=> .tup [.sv (.int .i64 e), .sv (.int .i64 t), .sv (.int .i64 i)]
def ze4:z4t.σ->WayF:=λ⟨S,x⟩=>{
 ann:=λid t _=>match id with
  |0=>some {σ:=Nat,pre:=λj=>j<=S.length,t:=λj=>[(5, .sv (.int .i64 (j:Int)))],h:=λ_=>[],more:=0,μ:=λj=>S.length- j,keep:=[1]}
  |_=>some {σ:=Nat,t:=λk=>[(6, .sv (.int .i64 (k:Int)))],h:=λ_=>[],more:=0,μ:=λk=>100- k,keep:=[1,5]}}
abbrev RcS:=SV×List Int×Int
def zae:RcS->Prop:=λ⟨x,L,n⟩=>0<=n/\n<=L.length/\z0q L
def z4y:CtR where
 σ:=RcS
 args:=λ⟨x,L,n⟩=>[.ptr 1 0]
 h:=λ⟨x,L,n⟩=>pkO x n
 m:=2
 pre:=zae
 mem:=λ⟨x,L,n⟩=>byM x L
 β:=λ_=>GJ×Int
 post:=λ⟨x,L,n⟩ ⟨g,n'⟩=>g.wf/\n<=n'/\n'<=L.length
 pm:=λ_ ⟨g,n'⟩=>gM g
 r:=λ_ ⟨g,n'⟩=>g.av
 h':=λ⟨x,L,n⟩ ⟨g,n'⟩=>pkO x n'
 m':=2
def zmd:CtR where
 σ:=RcS
 args:=λ⟨x,L,n⟩=>[.ptr 1 0]
 h:=λ⟨x,L,n⟩=>pkO x n
 m:=2
 pre:=zae
 mem:=λ⟨x,L,n⟩=>byM x L
 β:=λ_=>List AT×SV×Bool×Int
 post:=λ⟨x,L,n⟩ ⟨S,y,b,n'⟩=>z0v S/\(b=true->S≠[])/\n<=n'/\n'<=L.length
 pm:=λ_ ⟨S,y,b,n'⟩=>sM S y
 r:=λ_ ⟨S,y,b,n'⟩=> .tup [scA y, .sv (.bool b)]
 h':=λ⟨x,L,n⟩ ⟨S,y,b,n'⟩=>pkO x n'
 m':=2
end
end Go.Proofs.Ytniogjgfomaicaa.Wd
