/-
  What the functions do: contracts, and their questions answered. No condition but what its theorems ask.
-/
import Derived.Test.YtniogjgfomaicaaGreatT1
namespace Go.Proofs.YtniogjgfomaicaaGreat.Wd
open Go.Proofs.YtniogjgfomaicaaGreat.Eng Go.Proofs.YtniogjgfomaicaaGreat.Sen Go.RowKit
set_option linter.defProp false
set_option linter.unusedVariables false
set_option linter.unusedSimpArgs false
set_option maxRecDepth 1000000
open Go.Value (int string slice bool)
open Go.IntKind (i64 u64 u8 u32 i32)
open _root_.List (length take drop)
open _root_.ByteArray (size)
open _root_.Int (toNat)
noncomputable section
def zok:q1q P 18 NZ:=by
 refine zt (qcn qjr) (qde (qgo zk1 qjq)) (W:=zva) Tryz.func18 λg=>(zoj g).mpr ?_;rintro hg ⟨p,_,hp⟩;simp only[qH,exists_const,forall_const,Int.toNat_natCast];refine⟨⟨[],0,g,mkS [],1⟩,rfl,rfl,rfl,rfl,rfl,rfl,rfl,rfl,rfl,rfl,rfl,rfl,rfl,⟨Nat.zero_le _,hg,by decide,by decide,by show((0:Nat):Int)<=_;decide⟩,λq hq=>hq,?_⟩;rintro⟨T,e,r⟩ ⟨⟨hT,hT2⟩,hr⟩ _;simp only at hT hT2 hr⊢;rw[List.nil_append]at hT hT2 hr;refine⟨λhne=>⟨⟨[],(none,0,0),e⟩,rfl,rfl,rfl,rfl,⟨⟨Nat.zero_le _,λa ha=>(by cases ha)⟩,λh=>absurd h hne⟩,λq hq=>⟨qY,λa ha=>(by cases ha)⟩⟩,λhe=> ?_⟩;intro a c _;obtain⟨_,hg2⟩:=hT2 he;refine⟨⟨T,(a,T.length,c),0⟩,rfl,rfl,rfl,rfl,⟨⟨hT,hg2⟩,λ_ h=> ?_⟩,λq hq=>⟨⟨rfl,hq.2.1,?_⟩,hq.1.2⟩⟩
 ·have h:T=[]:=h;subst h;have:=hr he;simp at this;omega
 ·have:=hq.2.2;rw[List.nil_append,List.take_of_length_le (by rw[qv z21];exact Nat.le_refl _)]at this;exact this
def uQ(σ:Type) (args:σ->List AV) (pre:σ->Prop) (mem:σ->PF) (β:Type) (post:σ->β->Prop) (pm:σ->β->PF) (r:σ->β->AV):CtR where
 σ:=σ
 args:=args
 h:=λ_=>[]
 m:=1
 pre:=pre
 mem:=mem
 β:=λ_=>β
 post:=post
 pm:=pm
 r:=r
 h':=λ_ _=>[]
 m':=1
def kN(n:Int):Prop:=0<=n/\n<18446744073709551616
def WV:CtR:=uQ (Int×Int×Int) (λ⟨v,f,b⟩=>[.sv (.int .u64 v), .sv (.int .i64 f), .sv (.int .i64 b)]) (λ⟨v,f,b⟩=>kN v/\1<=f/\f<=62/\0<=b/\b<=2000) (λ_=>{}) Int (λ_ r=>kN r) (λ_ _=>{}) λ_ r=> .sv (.int .u64 r)
def OC:WV.σ->WayF:=λ⟨v,f,b⟩=>{
 ann:=λ_ _ _=>some {σ:=Nat,pre:=λe=>e<=63,t:=λe=>[(7, .sv (.int .i64 (e:Int)))],h:=λ_=>[],more:=0,μ:=λe=>e,keep:=[0,1,2,6]}
 cut:=λi _ _=>match i with
  |7=>some {σ:=Nat,pre:=λe=>e<=63,t:=λe=>[(7, .sv (.int .i64 (e:Int)))],h:=λ_=>[],more:=0,μ:=λ_=>0,keep:=[0,1,2,6,8]}
  |15=>some {σ:=Int×Int,t:=λ⟨e,m⟩=>[(7, .sv (.int .i64 e)),(8, .sv (.int .u64 m))],pre:=λ⟨e,m⟩=>0<=e/\e<=63,h:=λ_=>[],more:=0,μ:=λ_=>0,keep:=[1,2,6]}
  |_=>none}
def KH(n:Int):Prop:= -9223372036854775808<=n/\n<9223372036854775808
def NX:CtR:=uQ Int (λv=>[.sv (.int .i64 v)]) KH (λ_=>{}) Int (λ_ r=>0<=r/\r<4294967296) (λ_ _=>{}) λ_ r=> .sv (.int .u32 r)
def Nu:CtR:=uQ Int (λv=>[.sv (.int .i64 v)]) KH (λ_=>{}) Int (λ_ r=>kN r) (λ_ _=>{}) λ_ r=> .sv (.int .u64 r)
def Xj:CtR:=uQ IV (λs=>[.sv (.string s)]) (λs=>s.size<1000000) (λ_=>{}) (IV×Bool) (λs ⟨r,b⟩=>r.size<=s.size) (λ_ _=>{}) λ_ ⟨r,b⟩=> .tup [.sv (.string r), .sv (.bool b)]
def bK:Xj.σ->WayF:=λs=>{
 ann:=λ_ _ _=>some {σ:=IV×IV,pre:=λ⟨q,u⟩=>q.size+u.size<=s.size,t:=λ⟨q,u⟩=>[(4, .sv (.string q)),(0, .sv (.string u))],h:=λ_=>[],more:=0,μ:=λ⟨q,u⟩=>u.size,keep:=[]}}
def zE(k:IV):List IV->Nat
 | []=>0
 |a::l=>if qdg a k=true then zE k l+1 else 0
def kD(k:IV) (ks:List IV):Bool:=decide (ks[zE k ks]? =some k)
def zH(k:IV) (ks:List IV) (l:List PV) (w:PV):List PV:=if kD k ks=true then l.set (zE k ks) w else l.take (zE k ks)++w::l.drop (zE k ks)
def qO(k:IV) (ks:List IV):List IV:=if kD k ks=true then ks else ks.take (zE k ks)++k::ks.drop (zE k ks)
def Kh:CtR:=uQ (GV×IV×GV) (λ⟨v,k,w⟩=>[v.av, .sv (.string k),w.av]) (λ⟨v,k,w⟩=>v.ks.length=v.l.length/\v.l.length<1000000) (λ⟨v,k,w⟩=>⟨true,λp=>v.ok p/\w.ok p,λ_ _ h e=>⟨GV.ok_mono h e.1,GV.ok_mono h e.2⟩⟩) GV (λ⟨v,k,w⟩ u=>u.pv= .mk v.n v.s (zH k v.ks (GV.pvs v.l) w.pv) (qO k v.ks) v.b) (λ_ u=>vM u) λ_ u=>u.av
def bJ:Kh.σ->WayF:=λ⟨v,k,w⟩=>{
 ann:=λ_ _ _=>some {σ:=Nat,pre:=λj=>j<=v.ks.length/\j+zE k (v.ks.drop j)=zE k v.ks,t:=λj=>[(7, .sv (.int .i64 (j:Int)))],h:=λ_=>[],more:=0,μ:=λj=>v.ks.length- j,keep:=[1,3,5,6]}
 cut:=λi _ _=>match i with
  |4=>some {σ:=Nat,pre:=λj=>j=zE k v.ks/\j<=v.ks.length,t:=λj=>[(7, .sv (.int .i64 (j:Int)))],h:=λ_=>[],more:=0,μ:=λ_=>0,keep:=[1,3,5,6]}
  |8=>some {σ:=Unit,pre:=λj=>kD k v.ks=false,t:=λj=>[],h:=λ_=>[],more:=0,μ:=λ_=>0,keep:=[1,3,5,6,7]}
  |_=>none
 pub:=λi k=>match i,k with
  |7,1=>[48]
  |10,1=>[79]
  |_,_=>[]}
def KG:Ct:=ZH (SV×Int) (λ⟨x,t⟩=>[kx x, .sv (.int .i64 t)]) (λ_=>True) (λ_=>{}) λ⟨x,t⟩=> .sv (.bool (decide (0<=t)&&decide (t<(x.2.1:Int))))
def ui(S:List AT):Prop:=∀a∈S,1<=a.k/\a.k<=14
def vY(a:AT) (n:Nat) (ks:List IV) (b:Int):Bool:=if a.k=9 then decide (n=a.fs.length)else if a.k=14 then decide (0<=b/\b<a.brs.length/\n=1)else if a.k=13 then decide (n=ks.length)&&zo ks else true
def zS(S:List AT) (a:AT) (v:GV):Bool:=vY a v.l.length v.ks v.b&&PV.fitL S (qo a v.b) 0 (GV.pvs v.l)
def nB(k:Int):Bool:=decide (k=2\/k=3\/k=4\/k=5\/k=6\/k=10)
def ja(S:List AT) (a:AT) (v:GV):Bool:=if a.k=1 then true else if zd a.k=true then km a v.n else if qS a.k=true then vZ a v.s else zS S a v
def Jx:Ct:=ZH jO (λ⟨S,x,t,v⟩=>[kx x, .sv (.int .i64 t),v.av]) (λ⟨S,x,t,v⟩=>small S/\ui S/\v.pv.sm) (λ⟨S,x,t,v⟩=>S8 S x v) λ⟨S,x,t,v⟩=> .sv (.bool (PV.fits S t v.pv))
def Ha:Ct:=ZH U7 (λ⟨S,x,a,v⟩=>[kx x,a.av,v.av]) (λ⟨S,x,a,v⟩=>small S/\ui S/\a.fs.length<1000000/\v.pv.sm/\qq a.k=true) (λ⟨S,x,a,v⟩=>jve S x a v) λ⟨S,x,a,v⟩=> .sv (.bool (zS S a v))
def zA:AT:=⟨0,mkS [],(none,0,0),[],0,(none,0,0),[],false,mkS [],0,(none,0,0),[],(none,0,0),[]⟩
def qe(S:List AT) (t:Int):AT:=(S[t.toNat]?).getD zA
def xM(k:Int):Bool:=decide (k=4)||decide (k=6)
def yP(a:AT) (v:GV):Bool:=(decide (a.k≠13)&&decide (0<v.ks.length))|| (decide (a.k≠14)&&decide (v.b≠0))
def zv9:jO->WayF:=λ⟨S,x,t,v⟩=>{
 cut:=λi _ _=>match i with
  |14=>some {σ:=Unit,t:=λ_=>[(46, .sv (.bool (decide ((qe S t).k=4))))],h:=λ_=>[],more:=0,μ:=λ_=>0,keep:=[3,5,6,7,8,9,10,11,22]}
  |15=>some {σ:=Unit,t:=λ_=>[(46, .sv (.bool (xM (qe S t).k)))],h:=λ_=>[],more:=0,μ:=λ_=>0,keep:=[3,5,6,7,8,9,10,11,22]}
  |26=>some {σ:=Unit,t:=λ_=>[(8, .sv (.bool (nB (qe S t).k))),(9, .sv (.bool (qS (qe S t).k))),(10, .sv (.bool (qq (qe S t).k))),(11, .sv (.bool (ja S (qe S t) v)))],h:=λ_=>[],more:=0,μ:=λ_=>0,keep:=[3,5,6,7]}
  |27=>some {σ:=Unit,t:=λ_=>[(96, .sv (.bool (yP (qe S t) v)))],h:=λ_=>[],more:=0,μ:=λ_=>0,keep:=[3,5,6,7,8,9,10,11]}
  |_=>none}
def zvc:U7->WayF:=λ⟨S,x,a,v⟩=>{
  ann:=λid _ _=>match id with
    |1=>some {σ:=Nat,pre:=λj=>j<=v.ks.length/\zo v.ks=(if j=0 then zo v.ks else zo (v.ks.drop (j- 1)))/\(∀(h:0<j) (h2:j<=v.ks.length),qu v.ks[j- 1]=true),t:=λj=>[(7, .sv (.int .i64 (j:Int)))],h:=λ_=>[],more:=0,μ:=λj=>v.ks.length- j,keep:=[3,4,5,6]}
    |_=>some {σ:=Nat,pre:=λj=>j<=v.l.length/\PV.fitL S (qo a v.b) j ((GV.pvs v.l).drop j)=PV.fitL S (qo a v.b) 0 (GV.pvs v.l),t:=λj=>[(8, .sv (.int .i64 (j:Int)))],h:=λ_=>[],more:=0,μ:=λj=>v.l.length- j,keep:=[3,4,5,6]}
  cut :=λi t _=>match i with
    |15=>some {σ:=Unit,pre:=λ_=>a.k≠14/\vY a v.l.length v.ks v.b=true,t:=λ_=>[],h:=λ_=>[],more:=0,μ:=λ_=>0,keep:=[3,4,5,6]}
    | 21=>match jT t 8 with
      |some i=>some {σ:=Unit,t:=λ_=>[(9, .sv (.int .i64 (qo a v.b i.toNat)))],h:=λ_=>[],more:=0,μ:=λ_=>0,keep:=[3,4,5,6,8]}
      |none=>none
    |_=>none}
def Km:jO->Nat:=λ⟨S,x,t,v⟩=>SizeOf.sizeOf v
def KL:U7->Nat:=λ⟨S,x,a,v⟩=>SizeOf.sizeOf v
section
open Go.Proofs.YtniogjgfomaicaaGreat.Rv
inductive Rs(α:Type)where
 |no (k:Nat)
 |ok (a:α)
def Rs.bind{α β:Type}:Rs α->(α->Rs β)->Rs β
 | .no k,_=> .no k
 | .ok a,f=>f a
def qT{α β:Type} (a:α) (f:α->Rs β):(Rs.ok a).bind f=f a:=rfl
def kG{α β:Type} (k:Nat) (f:α->Rs β):(Rs.no k).bind f= .no k:=rfl
def jge{α β γ:Type} (r:Rs α) (f:α->Rs β) (g:β->Rs γ):(r.bind f).bind g=r.bind λa=>(f a).bind g:=by cases r<;>rfl
def qz(D:IV) (i:Nat) (k:Int):IV×Int×Int:=if k<0\/(D.size:Int)- i<k then(mkS [],2,i)else(D.extract i (i+k.toNat),0,i+k)
def qL(D:IV) (i:Nat):IV×Int×Int:=if(qb D i).2.1≠0 then(mkS [],((qb D i).2.1:Nat),((qb D i).2.2:Nat))else if 5000<(qb D i).1 then(mkS [],3,((qb D i).2.2:Nat))else qz D (qb D i).2.2 (qb D i).1
def vO(t:IV×Int×Int):Int:=if t.2.1=0/\qu t.1=false then 2 else t.2.1
def wo(t:IV×Int×Int) (e:Int):Rs (IV×Nat):=if e=0 then .ok (t.1,t.2.2.toNat)else .no (e- 1).toNat
def ym(D:IV) (i:Nat):Rs (Int×Nat):=if(qb D i).2.1=0 then .ok ((qb D i).1,(qb D i).2.2)else .no ((qb D i).2.1- 1)
def uO(D:IV) (i:Nat) (k:Int):Rs (IV×Nat):=wo (qz D i k) (qz D i k).2.1
def Gv(D:IV) (i:Nat):Rs (IV×Nat):=wo (qL D i) (qL D i).2.1
def Wy(D:IV) (i:Nat):Rs (IV×Nat):=wo (qL D i) (vO (qL D i))
def QO(D:IV) (i:Nat) (o:Int):Rs (Int×Nat):=if kR D i o=0 then .ok ((qb D i).1,(qb D i).2.2)else .no (kR D i o- 1)
def yq(n:Int):PV:= .mk n (mkS []) [] [] 0
def YT(s:IV):PV:= .mk 0 s [] [] 0
def kk(s:IV):Int:=(jP s.data.toList:Nat)
def ji(a:AT) (D:IV) (i:Nat):Rs (PV×Nat):=
 if a.k=1 then .ok (yq 0,i)else
 if a.k=2 then(uO D i 1).bind λr=>if 1<kk r.1 then .no 1 else .ok (yq (kk r.1),r.2)else
 if a.k=3 then(ym D i).bind λr=>if r.1< -2147483648\/2147483648<=r.1 then .no 1 else .ok (yq (r.1 % 18446744073709551616),r.2)else
 if a.k=4 then(ym D i).bind λr=> .ok (yq (r.1 % 18446744073709551616),r.2)else
 if a.k=5 then(uO D i 4).bind λr=> .ok (yq (kk r.1),r.2)else
 if a.k=6 then(uO D i 8).bind λr=> .ok (yq (kk r.1),r.2)else
 if a.k=7 then(Gv D i).bind λr=> .ok (YT r.1,r.2)else
 if a.k=8 then(Wy D i).bind λr=> .ok (YT r.1,r.2)else
 if a.k=10 then(QO D i a.sys.length).bind λr=> .ok (yq r.1,r.2)else
 if a.k=11 then(uO D i a.sz).bind λr=> .ok (YT r.1,r.2)else .no 0
abbrev zy:=Rs (PV×Nat×Nat)
def vU(g:Int->Nat->Nat->zy):List Int->List PV->Nat->Nat->Rs (List PV×Nat×Nat)
 | [],l,n,c=> .ok (l,n,c)
 |t::ts,l,n,c=>(g t n c).bind λr=>vU g ts (l++[r.1]) r.2.1 r.2.2
abbrev jG:=List IV×List PV
def yk(g:Nat->Nat->zy) (D:IV) (mp:Bool) (st:jG) (n c:Nat):Rs (jG×Nat×Nat):=
 if mp=true then(Wy D n).bind λk=>(g k.2 c).bind λr=> .ok ((qO k.1 st.1,zH k.1 st.1 st.2 r.1),r.2)
 else(g n c).bind λr=> .ok ((st.1,st.2++[r.1]),r.2)
def vS(g:Nat->Nat->zy) (D:IV) (mp:Bool):Nat->jG->Nat->Nat->Rs (jG×Nat×Nat)
 |0,st,n,c=> .ok (st,n,c)
 |k+1,st,n,c=>(yk g D mp st n c).bind λr=>vS g D mp k r.1 r.2.1 r.2.2
def YA(D:IV) (n:Nat):Rs (Int×Int×Nat):=(ym D n).bind λr=>if 0<=r.1 then .ok (r.1, -1,r.2)else if r.1= -9223372036854775808 then .no 1 else(ym D r.2).bind λq=>if q.1<0 then .no 1 else .ok (-r.1,q.1,q.2)
def xN(n1:Nat) (z:Int) (n2:Nat):Bool:=decide (0<=z)&&decide ((n2:Int)- n1≠z)
def vV(g:Nat->Nat->zy) (D:IV) (mp:Bool):Nat->jG->Nat->Nat->Rs (jG×Nat×Nat)
 |0,_,_,_=> .no 1
 |f+1,st,n,c=>(YA D n).bind λh=>if h.1=0 then .ok (st,h.2.2,c)else(vS g D mp h.1.toNat st h.2.2 c).bind λr=>if xN h.2.2 h.2.1 r.2.1=true then .no 1 else vV g D mp f r.1 r.2.1 r.2.2
def Gn(g:Int->Nat->Nat->zy) (a:AT) (n c:Nat):zy:=(vU g (a.fs.map AF.ty) [] n c).bind λr=> .ok (.mk 0 (mkS []) r.1 [] 0,r.2)
def wu(g:Int->Nat->Nat->zy) (D:IV) (a:AT) (n c:Nat):zy:=(QO D n a.brs.length).bind λb=>(g (a.brs.getD b.1.toNat 0) b.2 c).bind λr=> .ok (.mk 0 (mkS []) [r.1] [] b.1,r.2)
def uP(g:Int->Nat->Nat->zy) (D:IV) (a:AT) (n c:Nat):zy:=(vV (g a.it) D (decide (a.k=13)) (D.size+1- n) ([],[]) n c).bind λr=> .ok (.mk 0 (mkS []) r.1.2 r.1.1 0,r.2)
def wv(g:Int->Nat->Nat->zy) (D:IV) (a:AT) (n c:Nat):zy:=
 if a.k=9 then Gn g a n c else if a.k=14 then wu g D a n c else if a.k=12\/a.k=13 then uP g D a n c else(ji a D n).bind λr=> .ok (r.1,r.2,c)
def zk(S:List AT) (D:IV):Nat->Int->Nat->Nat->zy
  |0,_,_,_=> .no 2
  | f+1,t,n,c=>if 2000<c+1 then .no 2 else match S[t.toNat]? with
    |none=> .no 0
    |some a=>wv (λt n c=>zk S D f t n c) D a n (c+1)
def j5(R:zy) (v:PV) (n c e:Int):Prop:=match R with
 | .no k=>e=k+1
 | .ok r=>e=0/\v=r.1/\n=r.2.1/\c=r.2.2
def jI(S:List AT):Prop:=small S/\ui S/\∀a∈S,(∀f∈a.fs,0<=f.ty/\f.ty<S.length)/\(∀b∈a.brs,0<=b/\b<S.length)/\(a.k=12\/a.k=13->0<=a.it/\a.it<S.length)/\(a.k=11->0<=a.sz/\a.sz<1000000)
def z8t(D:IV) (i m:Nat):(D.extract i m).data.toList=(D.data.toList.drop i).take (m- i):=by rw[ByteArray.data_extract,Array.toList_extract]
variable {D:IV}
def WC{i:Nat} {k:Int} (h:i<=D.size):(0<=(qz D i k).2.1/\(qz D i k).2.1<=2)/\((i:Int)<=(qz D i k).2.2/\(qz D i k).2.2<=D.size)/\((qz D i k).2.1=0->0<=k/\(qz D i k).2.2=i+k/\((qz D i k).1.size:Int)=k):=by
 unfold qz;split
 ·refine⟨⟨by show(0:Int)<=2;decide,by show(2:Int)<=2;decide⟩,⟨Int.le_refl _,by show(i:Int)<=_;omega⟩,λh=>absurd (show(2:Int)=0 from h) (by decide)⟩
 ·refine⟨⟨by show(0:Int)<=0;decide,by show(0:Int)<=2;decide⟩,⟨by show(i:Int)<=i+k;omega,by show(i:Int)+k<=_;omega⟩,λ_=>⟨by omega,rfl,?_⟩⟩;show((D.extract i (i+k.toNat)).size:Int)=k;rw[ByteArray.size_extract];omega
def GH{i:Nat} (h:i<=D.size):(0<=(qL D i).2.1/\(qL D i).2.1<=3)/\((i:Int)<=(qL D i).2.2/\(qL D i).2.2<=D.size)/\((qL D i).1.size:Int)<=5000:=by
 have f:=xm D i h;unfold qL;split
 ·exact⟨⟨by show(0:Int)<=(_:Nat);omega,by show((_:Nat):Int)<=3;omega⟩,⟨by show(i:Int)<=(_:Nat);omega,by show((_:Nat):Int)<=_;omega⟩,by show((0:Nat):Int)<=5000;decide⟩
 split
 ·exact⟨⟨by show(0:Int)<=3;decide,by show(3:Int)<=3;decide⟩,⟨by show(i:Int)<=(_:Nat);omega,by show((_:Nat):Int)<=_;omega⟩,by show((0:Nat):Int)<=5000;decide⟩
 ·have g:=WC (k:=(qb D i).1) (show(qb D i).2.2<=D.size by omega);refine⟨⟨g.1.1,by omega⟩,⟨by omega,g.2.1.2⟩,?_⟩;by_cases h0:(qz D (qb D i).2.2 (qb D i).1).2.1=0
  ·have:=g.2.2 h0;omega
  ·unfold qz at h0⊢;split
   ·show((0:Nat):Int)<=5000;decide
   ·rename_i hh;rw[if_neg hh]at h0;exact absurd rfl h0
end
section
variable (a c e:Int) (b:Nat) (g:Int×Int)
 abbrev PQ:=Jb ((↑b:Int)- 1)/\∃(d:Nat),a=a/\c=c/\(↑d:Int)=(↑b:Int)- 1/\e=e/\d<=63/\d<b/\True
 def Ui:=0<=g.1/\g.1<=63
 def fZ:=Jb (a- (↑b:Int))/\0<=a- (↑b:Int)/\∃(d:Int×Int),a=a/\d.1=(↑b:Int)/\c=c/\d.2=shP BinOp.shl u64 e (a- (↑b:Int))/\(Ui d)/\True
 abbrev RD:=shP BinOp.shl u64 1 ((↑b:Int)- a)
 def RC:=∃(d:Int×Int),a=a/\d.1=(↑b:Int)/\c=c/\d.2=IntKind.wrap u64 (shP BinOp.shr u64 e ((↑b:Int)- a)+1)/\(Ui d)/\True
 def RE:=∃(d:Int×Int),a=a/\d.1=(↑b:Int)/\c=c/\d.2=shP BinOp.shr u64 e ((↑b:Int)- a)/\(Ui d)/\True
 def fX:=(2:Int)≠0/\Ji (Int.tmod (shP BinOp.shr u64 a ((↑b:Int)- c)) (2:Int)=1) (RC c e a b) (RE c e a b)
 def fW:=Ji (Int.tmod a (RD c b)=shP BinOp.shl u64 1 ((↑b:Int)- c- 1)) (fX a c e b) (RE c e a b)
 def fV:=Jb ((↑b:Int)- a)/\Jb ((↑b:Int)- a- 1)/\0<=(↑b:Int)- a- 1/\0<=(↑b:Int)- a/\shP BinOp.shl u64 1 ((↑b:Int)- a)≠0/\0<=(↑b:Int)- a/\Ji (shP BinOp.shl u64 1 ((↑b:Int)- a- 1)<Int.tmod c (RD a b)) (RC a e c b) (fW c a e b)
 def fY:=Jb (g.1+a)/\0<=c/\0<=c/\∃(d:Int),d=IntKind.wrap u64 (shP BinOp.shl u64 (IntKind.wrap u64 (g.1+a)) c+IntKind.wrap u64 (g.2- shP BinOp.shl u64 1 c))/\kN d/\True
 def fU:=(Ji ((↑b:Int)<=a) (fZ a c e b) (fV a e c b))/\∀(h:Int×Int),Ui h->fY c a h
 def fT:=(∃(d:Nat),a=a/\c=c/\(↑d:Int)=(↑b:Int)/\e=e/\d<=63/\True)/\∀(f:Nat),f<=63->fU c e a f
 def fS:=0<=(↑b:Int)/\Ji (shP BinOp.shr u64 a (↑b:Int)=0) (PQ a c e b) (fT a c e b)
 def fR:=(∃(d:Nat),a=a/\c=c/\(↑d:Int)=63/\e=e/\d<=63/\True)/\∀(f:Nat),f<=63->fS a c e f
 def fQ:=Ji (a=0) (∃(d:Int),d=0/\kN d/\True) (fR a c e)
end
def zpa(v f b:Int):qk4 P (qfa []) (qgc []) Tryz.f125 WV (OC) ⟨v,f,b⟩=(kN v/\1<=f/\f<=62/\0<=b/\b<=2000->fQ v f b):=by kernel_rfl
def zxx:=λv f b=>Eq.trans (zpa v f b) (by delta Ji Jb Jt Jf PQ Ui fZ RD RC RE fX fW fV fY fU fT fS fR fQ;exact rfl)
section
variable (b:Int) (a:Int×Int×Int) (j:Prop)
 abbrev DJ:=a.2.1=23/\a.2.2=127/\(kN a.1/\1<=a.2.1/\a.2.1<=62/\0<=a.2.2/\a.2.2<=2000)/\j
 def ga:=Jb (b+1)/\∃(e:Int),e=IntKind.wrap i64 ((0:Int)- (b+1))/\∃(f:Int×Int×Int),f.1=IntKind.wrap u64 (IntKind.wrap u64 e+1)/\DJ f (∀(g:Int),kN g->∃(c:Int),c=qaf BinOp.or u32 2147483648 (IntKind.wrap u32 g)/\(0<=c/\c<4294967296)/\True)
 def f_:=Ji (b<0) (ga b) (∃(h:Int×Int×Int),h.1=IntKind.wrap u64 b/\DJ h (∀(i:Int),kN i->∃(d:Int),d=IntKind.wrap u32 i/\(0<=d/\d<4294967296)/\True))
end
def zhw(v:Int):qk4 P (qfa []) (qgc [(125,WV)]) Tryz.f108 NX (λ_=>{}) v=(KH v->f_ v):=by kernel_rfl
def zof:=λv=>Eq.trans (zhw v) (by delta Ji Jb Jt Jf DJ ga f_;exact rfl)
section
variable (b:Int) (a:Int×Int×Int) (j:Prop)
 abbrev DK:=a.2.1=52/\a.2.2=1023/\(kN a.1/\1<=a.2.1/\a.2.1<=62/\0<=a.2.2/\a.2.2<=2000)/\j
 def gg:=Jb (b+1)/\∃(c:Int),c=IntKind.wrap i64 ((0:Int)- (b+1))/\∃(d:Int×Int×Int),d.1=IntKind.wrap u64 (IntKind.wrap u64 c+1)/\DK d (∀(e:Int),kN e->∃(f:Int),f=qaf BinOp.or u64 9223372036854775808 e/\kN f/\True)
 def gf:=Ji (b<0) (gg b) (∃(g:Int×Int×Int),g.1=IntKind.wrap u64 b/\DK g (∀(h:Int),kN h->∃(i:Int),i=h/\kN i/\True))
end
def zer(v:Int):qk4 P (qfa []) (qgc [(125,WV)]) Tryz.f109 Nu (λ_=>{}) v=(KH v->gf v):=by kernel_rfl
def zhj:=λv=>Eq.trans (zer v) (by delta Ji Jb Jt Jf DK gg gf;exact rfl)
def zj5(s:IV):qk3 P (qfa [(96,Zc)]) Tryz.f126 Zc (λ_=>{}) s=(ByteArray.size s<(9223372036854775808:Nat)->s=s/\ByteArray.size s<(9223372036854775808:Nat)/\(↑(jR s):Int)=(↑(jR s):Int)/\(↑(qE s):Int)=(↑(qE s):Int)/\True):=by kernel_rfl
section
variable (b:IV) (a:IV×IV)
 abbrev DL:=∃(c:IV×Bool),c.1=mkS []/\c.2=false/\size c.1<=size b/\True
 def gz:=Ji (255<(↑(jR a.2):Int)) (DL b) (∃d,size d=1/\qgf [int u8 (IntKind.wrap u8 (↑(jR a.2):Int))] 0 (q18 d)/\size a.1+size d<=9223372036854775807/\(0<=(↑(qE a.2):Int)/\(↑(qE a.2):Int)<=(↑(size a.2):Int))/\∃(e:IV×IV),e.2=ByteArray.extract a.2 (toNat (↑(qE a.2):Int)) (size a.2)/\e.1=a.1++d/\size e.1+size e.2<=size b/\size e.2<size a.2/\True)
 def gu:=a.2=a.2/\size a.2<9223372036854775808/\Ji ((↑(qE a.2):Int)=0) (DL b) (gz b a)
 def gq:=Ji (0<(↑(size a.2):Int)) (gu b a) (∃(f:IV×Bool),f.1=a.1/\f.2=true/\size f.1<=size b/\True)
 def gp:=(∃(c:IV×IV),c.2=b/\c.1=mkS []/\size c.1+size c.2<=size b/\True)/\∀(d:IV×IV),size d.1+size d.2<=size b->gq b d
end
def zye(s:IV):qk4 P (qfa [(126,Zc)]) (qgc []) Tryz.f110 Xj (bK) s=(size s<1000000->gp s):=by kernel_rfl
def j73:=λs=>Eq.trans (zye s) (by delta Ji Jt Jf DL gz gu gq gp;exact rfl)
section
variable (e:IV) (a c:GV) (d:Nat) (G:Prop) (t:Nat->Option Obj) (H:Nat) (I:Option Addr) (J L:List Value) (F:GV)
 abbrev z54:=True/\GV.ok a t/\GV.ok c t
 def RF:=GV.n a=GV.n a/\GV.s a=GV.s a/\(GV.x a).1=(GV.x a).1/\(GV.x a).2.1=(GV.x a).2.1/\(GV.x a).2.2=(GV.x a).2.2/\(GV.y a).1=(GV.y a).1/\(GV.y a).2.1=(GV.y a).2.1/\(GV.y a).2.2=(GV.y a).2.2/\GV.b a=GV.b a/\G
 def KR:=RF a (RF c ((∀g,z54 a c g->z54 a c g)/\G))
 def Le:=d<=length (GV.ks a)/\d+zE e (drop d (GV.ks a))=zE e (GV.ks a)
 abbrev Zn:=(GV.y a).2.1
 abbrev Uk:=(↑d:Int)<(↑(Zn a):Int)
 def RI:=(∀g,z54 a c g->q37 g (adr (GV.y a).1 (toNat (↑d:Int)*1)) [string e])
 def PS:=Jb ((↑d:Int)+1)/\∃(g:Nat),e=e/\(↑g:Int)=(↑d:Int)+1/\KR a c ((Le e a g)/\length (GV.ks a)- g<length (GV.ks a)- d/\True)
 def RJ:=∃(g:Nat),e=e/\(↑g:Int)=(↑d:Int)/\KR a c ((g=zE e (GV.ks a)/\g<=length (GV.ks a))/\True)
 def gF:=(0<=(↑d:Int)/\Uk a d)/\(GV.y a).1≠noA/\∃g,RI g a c d/\(qdg g e=true->PS e a c d)/\(qdg g e=false->RJ e a c d)
 abbrev gE:=Ji (Uk a d) (gF e a c d) (RJ e a c d)
 abbrev JP:=(GV.x a).2.1
 abbrev z87:=(GV.x a).2.2
 abbrev Qo:=(GV.y a).2.2
 def DM:=(z54 a c t)/\(0:Nat)+(GV.x a).2.1<=d/\qgs t I (take (((0:Nat)+(GV.x a).2.1)*nat_lit 5) (spl ([]++J) ((0:Nat)+toNat (↑H:Int)*5) [int u64 (GV.n c),string (GV.s c),slice (GV.x c).1 (JP c) (z87 c),slice (GV.y c).1 (Zn c) (Qo c),int i64 (GV.b c)]))
 def RH:=GV.b a=GV.b c/\GV.pv a=PV.mk (GV.n c) (GV.s c) (zH e (GV.ks c) (GV.pvs (GV.l c)) (GV.pv F)) (qO e (GV.ks c)) (GV.b c)/\G
 def gD:=(0<=(↑d:Int)/\Uk a d)/\(GV.y a).1≠noA/\∃g,RI g a c d/\Ji (g=e) (∃i,length i=(GV.x a).2.1*5/\(∀z,z54 a c z->qgs z (GV.x a).1 i)/\qkd i/\((0:Nat)+(GV.x a).2.1)*80<=140737488355328/\(0<=(↑d:Int)/\(↑d:Int)<(↑((0:Nat)+(GV.x a).2.1):Int))/\(0:Nat)+toNat (↑d:Int)*5+length [int u64 (GV.n c),string (GV.s c),slice (GV.x c).1 (JP c) (z87 c),slice (GV.y c).1 (Zn c) (Qo c),int i64 (GV.b c)]<=length ([]++i)/\∀(k E r:Nat) (u:Option Addr) (i8 A:Nat),(∃v,DM a c A v d u i)->∃(f:GV),GV.n f=GV.n a/\GV.s f=GV.s a/\(GV.x f).1=u/\(GV.x f).2.1=0+(GV.x a).2.1/\(GV.x f).2.2=A/\(GV.y f).1=(GV.y a).1/\(GV.y f).2.1=(GV.y a).2.1/\(GV.y f).2.2=(GV.y a).2.2/\RH e f a ((∀m,DM a c A m d u i->GV.ok f m)/\True) c) (∃(j:Unit),e=e/\(↑d:Int)=(↑d:Int)/\KR a c (kD e (GV.ks a)=false/\True))
 abbrev Uj:=nat_lit 0+(d- nat_lit 0)+nat_lit 1
 abbrev ZL:=slice (GV.y a).1 (Zn a) (Qo a)
 abbrev JO:=slice (GV.x a).1 (JP a) (z87 a)
 def XG:=(z54 a c t)/\nat_lit 0+(d- nat_lit 0)+nat_lit 1+((GV.x a).2.1- d)<=H/\qgs t I (take ((nat_lit 0+(d- nat_lit 0)+nat_lit 1+((GV.x a).2.1- d))*nat_lit 5) ([]++J++[int u64 (GV.n c),string (GV.s c),slice (GV.x c).1 (JP c) (z87 c),slice (GV.y c).1 (Zn c) (Qo c),int i64 (GV.b c)]++L))
 def RG:=nat_lit 0+(d- nat_lit 0)+nat_lit 1+((GV.y a).2.1- d)<=H/\qgs t I (take ((nat_lit 0+(d- nat_lit 0)+nat_lit 1+((GV.y a).2.1- d))*nat_lit 1) ([]++J++[string e]++L))
 def gC:=(GV.y a).2.1<=(GV.y a).2.2/\(0<=(↑d:Int)/\(↑d:Int)<=(↑(Qo a):Int))/\∃g,length g=(d- nat_lit 0)*1/\(∀K,z54 a c K->qgs K (slA (GV.y a).1 (Qo a) (nat_lit 0) 1) g)/\qkd g/\(nat_lit 0+(d- nat_lit 0))*16<=140737488355328/\length ([]++g)=(nat_lit 0+(d- nat_lit 0))*1/\(Uj d)*16<=140737488355328/\(GV.y a).2.1<=(GV.y a).2.2/\(0<=(↑d:Int)/\(↑d:Int)<=(↑(Zn a):Int))/\length ([]++g++[string e])=(Uj d)*1/\∃i,length i=((GV.y a).2.1- d)*1/\(∀z,z54 a c z->qgs z (slA (GV.y a).1 (Qo a) d 1) i)/\qkd i/\(nat_lit 0+(d- nat_lit 0)+nat_lit 1+((GV.y a).2.1- d))*16<=140737488355328/\AV.sv (ZL a)=AV.sv (ZL a)/\AV.sv (ZL a)=AV.sv (ZL a)/\(GV.x a).2.1<=(GV.x a).2.2/\(0<=(↑d:Int)/\(↑d:Int)<=(↑(z87 a):Int))/\∃k,length k=(d- nat_lit 0)*5/\(∀E,z54 a c E->qgs E (slA (GV.x a).1 (z87 a) (nat_lit 0) 5) k)/\qkd k/\(nat_lit 0+(d- nat_lit 0))*80<=140737488355328/\length ([]++k)=(nat_lit 0+(d- nat_lit 0))*5/\(Uj d)*80<=140737488355328/\(GV.x a).2.1<=(GV.x a).2.2/\(0<=(↑d:Int)/\(↑d:Int)<=(↑(JP a):Int))/\length ([]++k++[int u64 (GV.n c),string (GV.s c),slice (GV.x c).1 (JP c) (z87 c),slice (GV.y c).1 (Zn c) (Qo c),int i64 (GV.b c)])=(Uj d)*5/\∃r,length r=((GV.x a).2.1- d)*5/\(∀u,z54 a c u->qgs u (slA (GV.x a).1 (z87 a) d 5) r)/\qkd r/\(nat_lit 0+(d- nat_lit 0)+nat_lit 1+((GV.x a).2.1- d))*80<=140737488355328/\AV.agg [AV.sv (int u64 (GV.n c)),AV.sv (string (GV.s c)),AV.sv (JO c),AV.sv (ZL c),AV.sv (int i64 (GV.b c))]=AV.agg [AV.sv (int u64 (GV.n c)),AV.sv (string (GV.s c)),AV.sv (JO c),AV.sv (ZL c),AV.sv (int i64 (GV.b c))]/\AV.sv (JO a)=AV.sv (JO a)/\AV.sv (JO a)=AV.sv (JO a)/\∀(i8 A v:Nat) (f:Option Addr) (m j:Nat),(∃B,XG a c d B j f k r)->∀(C i16 D:Nat) (o:Option Addr) (M p:Nat),(∃w,(XG a c d w j f k r)/\RG e a d w p o g i)->∃(h:GV),GV.n h=GV.n a/\GV.s h=GV.s a/\(GV.x h).1=f/\(GV.x h).2.1=nat_lit 0+(d- nat_lit 0)+nat_lit 1+((GV.x a).2.1- d)/\(GV.x h).2.2=j/\(GV.y h).1=o/\(GV.y h).2.1=nat_lit 0+(d- nat_lit 0)+nat_lit 1+((GV.y a).2.1- d)/\(GV.y h).2.2=p/\RH e h a ((∀q,(XG a c d q j f k r)/\RG e a d q p o g i->GV.ok h q)/\True) c
 def gB:=(Ji (Uk a d) (gD e a c d) (∃(C:Unit),e=e/\(↑d:Int)=(↑d:Int)/\KR a c (kD e (GV.ks a)=false/\True)))/\∀(D:Unit),kD e (GV.ks a)=false->gC e a c d
 def gA:=((∃(g:Nat),e=e/\(↑g:Int)=0/\KR a c ((Le e a g)/\True))/\∀(i:Nat),Le e a i->gE e a c i)/\∀(f:Nat),f=zE e (GV.ks a)/\f<=length (GV.ks a)->gB e a c f
end
def zyb(v:GV) (k:IV) (w:GV):qk4 P (qfa []) (qgc []) Tryz.f24 Kh (bJ) ⟨v,k,w⟩=(length (GV.ks v)=length (GV.l v)/\length (GV.l v)<1000000->(∃(p:Pub),z54 v w p)->gA k v w):=by kernel_rfl
def put_eq:=λv k w=>Eq.trans (zyb v k w) (by delta Ji Jb Jt Jf z54 RF KR Le Zn Uk RI PS RJ gF gE JP z87 Qo DM RH gD Uj ZL JO XG RG gC gB gA;exact rfl)
def Ir(x:Int):IntKind.u64.wrap x=x % 18446744073709551616:=by unfold IntKind.wrap;simp[IntKind.bits,IntKind.signed]
def zkz(x:Int):IntKind.u32.wrap x=x % 4294967296:=by unfold IntKind.wrap;simp[IntKind.bits,IntKind.signed]
def z37(x:Int):kN (IntKind.u64.wrap x):=by rw[Ir];unfold kN;omega
def zyp:∀k:Nat,k<64->shP .shl .u64 1 (k:Int)≠0:=by decide+kernel
def jvg(v:Int):shP .shr .u64 v 0=v:=by show v.fdiv (2 ^ min (0:Int).toNat IntKind.u64.bits)=v;rw[show min (0:Int).toNat IntKind.u64.bits=0 from rfl];show v.fdiv 1=v;exact Int.fdiv_one v
def bB(c:Nat) (h:c<256):q18 (mkS [c])=[.int .u8 (c:Nat)]:=by simp[q18,mkS];omega
def Wj:q1q P 125 WV:=by
 refine zt (qcn qjr) (qde qjq) (W:=OC) Tryz.func125 λ⟨(v:Int),(f:Int),(b:Int)⟩=>(zxx v f b).mpr ?_;rintro⟨hv,hf1,hf2,hb1,hb2⟩;simp only[qH,exists_const,forall_const,Int.toNat_natCast];have nz:∀e:Nat,¬v=0->shP .shr .u64 v (e:Int)=0->e≠0:=λe h0 hs h=>by subst h;rw[show((0:Nat):Int)=0 from rfl,jvg]at hs;exact h0 hs
 refine⟨λh0=>⟨0,rfl,by unfold kN;omega⟩,λh0=>⟨⟨63,rfl,by omega⟩,λe he=>⟨by omega,λhs=> ?_,λhs=>⟨⟨e,rfl,he⟩,λk hk=> ?_⟩⟩⟩⟩
 ·have:=nz e h0 hs;exact⟨⟨by omega,by omega⟩,e- 1,by omega,by omega,by omega⟩
 ·clear nz;have hk0:(0:Int)<=k:=by omega
  refine⟨⟨λhle=>⟨⟨by omega,by omega⟩,by omega,⟨k,_⟩,rfl,rfl,hk0,by omega⟩,λhgt=>⟨⟨by omega,by omega⟩,⟨by omega,by omega⟩,by omega,by omega,?_,by omega,λ_=>⟨⟨k,_⟩,rfl,rfl,hk0,by omega⟩,λ_=>⟨λ_=>⟨by decide,λ_=>⟨⟨k,_⟩,rfl,rfl,hk0,by omega⟩,λ_=>⟨⟨k,_⟩,rfl,rfl,hk0,by omega⟩⟩,λ_=>⟨⟨k,_⟩,rfl,rfl,hk0,by omega⟩⟩⟩⟩,?_⟩
  ·obtain⟨m,hm⟩:=Int.eq_ofNat_of_zero_le (show 0<=(k:Int)- f by omega);rw[hm];exact zyp m (by omega)
  ·rintro⟨a,m⟩ ⟨ha1,ha2⟩;simp only at ha1 ha2⊢;exact⟨⟨by omega,by omega⟩,by omega,by omega,_,rfl,z37 _⟩
def zog:q1q P 108 NX:=by
 refine zt (qcn qjr) (qde (qgo Wj qjq)) (W:=λ_=>{}) Tryz.func108 λ(v:Int)=>(zof v).mpr ?_;rintro⟨hv1,hv2⟩;simp only[qH,exists_const,forall_const,Int.toNat_natCast];refine⟨λh=>⟨⟨by omega,by omega⟩,_,rfl,⟨_,23,127⟩,rfl,rfl,rfl,⟨z37 _,(by show(1:Int)<=23;decide),(by show(23:Int)<=62;decide),(by show(0:Int)<=127;decide),(by show(127:Int)<=2000;decide)⟩,λb hb=>⟨_,rfl,?_⟩⟩,λh=>⟨⟨_,23,127⟩,rfl,rfl,rfl,⟨z37 _,(by show(1:Int)<=23;decide),(by show(23:Int)<=62;decide),(by show(0:Int)<=127;decide),(by show(127:Int)<=2000;decide)⟩,λb hb=>⟨_,rfl,?_⟩⟩⟩
 ·show 0<=IntKind.u32.wrap _/\IntKind.u32.wrap _<4294967296;rw[zkz];omega
 ·rw[zkz];omega
def zhk:q1q P 109 Nu:=by refine zt (qcn qjr) (qde (qgo Wj qjq)) (W:=λ_=>{}) Tryz.func109 λ(v:Int)=>(zhj v).mpr ?_;rintro⟨hv1,hv2⟩;simp only[qH,exists_const,forall_const,Int.toNat_natCast];refine⟨λh=>⟨⟨by omega,by omega⟩,_,rfl,⟨_,52,1023⟩,rfl,rfl,rfl,⟨z37 _,(by show(1:Int)<=52;decide),(by show(52:Int)<=62;decide),(by show(0:Int)<=1023;decide),(by show(1023:Int)<=2000;decide)⟩,λb hb=>⟨_,rfl,?_⟩⟩,λh=>⟨⟨_,52,1023⟩,rfl,rfl,rfl,⟨z37 _,(by show(1:Int)<=52;decide),(by show(52:Int)<=62;decide),(by show(0:Int)<=1023;decide),(by show(1023:Int)<=2000;decide)⟩,λb hb=>⟨b,rfl,hb⟩⟩⟩;exact z37 _
def zj6:q4p P 126 Zc:=by refine qF (qcn (qgp zdk qjr)) (W:=λ_=>{}) Tryz.func126 λ(s:IV)=>(zj5 s).mpr ?_;intro h;exact⟨rfl,h,rfl,rfl,trivial⟩
def j74:q1q P 110 Xj:=by
 refine zt (qcn (qgp zj6 qjr)) (qde qjq) (W:=bK) Tryz.func110 λ(s:IV)=>(j73 s).mpr ?_;intro hs;simp only[qH,exists_const,forall_const,Int.toNat_natCast];refine⟨⟨⟨mkS [],s⟩,rfl,rfl,by show 0+s.size<=_;omega⟩,?_⟩;rintro⟨q,u⟩ hq;simp only at hq⊢;refine⟨λh=>⟨by omega,λh0=>⟨⟨mkS [],false⟩,rfl,rfl,Nat.zero_le _⟩,λh0=>⟨λhp=>⟨⟨mkS [],false⟩,rfl,rfl,Nat.zero_le _⟩,λhp=> ?_⟩⟩,λh=>⟨⟨q,true⟩,rfl,rfl,by show q.size<=_;omega⟩⟩;have hf:=N6 u;have hc:IntKind.u8.wrap (jR u:Int)=((jR u:Nat):Int):=by rw[VP];omega
 rw[hc];have hz:(mkS [jR u]).size=1:=rfl;refine⟨mkS [jR u],rfl,?_,by omega,⟨by omega,by omega⟩,⟨q++mkS [jR u],u.extract (qE u) u.size⟩,rfl,rfl,?_,?_⟩
 ·intro j w hj;rw[bB _ (by omega)]at hj;rw[Nat.zero_add];exact hj
 ·show(q++mkS [jR u]).size+(u.extract (qE u) u.size).size<=s.size;rw[ByteArray.size_append,ByteArray.size_extract,hz];omega
 ·show(u.extract (qE u) u.size).size<u.size;rw[ByteArray.size_extract];omega
section
def znj{x:Addr} (h:x.spot=none) (k:Nat):(x.add k).spot=none:=by
 unfold Addr.add;split
 ·exact h
 ·rfl
variable {a:Option Addr}
def j5r(h:Pl a) (c l sz:Nat):Pl (slA a c l sz):=trivial
def GG{p:Pub} {c l sz:Nat} {vs us:List Value} (h:qgs p a vs) (hl:l<=c) (hlen:vs.length<=c*sz) (hu:∀(j:Nat) v,us[j]? =some v->vs[l*sz+j]? =some v):qgs p (slA a c l sz) us:=by
  have hp:Pl a:=Sen.rowP_Pl h;cases us with
  |nil=>exact .inl ⟨rfl,j5r hp c l sz⟩
  | cons u us=>
    have h0:=hu 0 u rfl;rcases h with⟨rfl,_⟩|⟨x,rfl,hs,hc⟩
    · simp at h0
    · have hne:c≠l:=λe=>by subst e;have:=(List.getElem?_eq_some_iff.mp h0).1;omega
      refine .inr ⟨x.add (l*sz),?_,znj hs _,λj v hj=> ?_⟩
      · unfold slA;rw[if_neg hne];rfl
      · have:=hc (l*sz+j) v (hu j v hj);rw[Addr.add_add];exact this
def GV.oks_iff:∀{l:List GV} {p:Pub},GV.oks l p↔∀v∈l,v.ok p
  | [],p=>by unfold GV.oks;simp
  | v::l,p=>by unfold GV.oks;rw[GV.oks_iff (l:=l)];simp
variable {α:Type}
def S_{f:α->List Value} (l:List α) (k:Nat):qa f l=qa f (l.take k)++qa f (l.drop k):=by rw[←zx,List.take_append_drop]
def zdo{f:α->List Value} (l:List α) (k:Nat):∀(j:Nat) v,(qa f (l.take k))[j]? =some v->(qa f l)[j]? =some v:=λj v h=>by rw[S_ l k,List.getElem?_append_left (List.getElem?_eq_some_iff.mp h).1];exact h
def zdp{f:α->List Value} {e:Nat} (hf:∀x,(f x).length=e) (l:List α) (k:Nat) (hk:k<=l.length):∀(j:Nat) v,(qa f (l.drop k))[j]? =some v->(qa f l)[k*e+j]? =some v:=λj v h=>by
 rw[S_ l k];have:(qa f (l.take k)).length=k*e:=by rw[qv hf,List.length_take,Nat.min_eq_left hk]
 rw[←this,List.getElem?_append_right (Nat.le_add_right _ _),Nat.add_sub_cancel_left];exact h
def Jq{α:Type} {f:α->List Value} (h:∀x,∀v∈f x,v.oneCell'=true):∀l,qkd (qa f l)
  | []=>λv hv=>by cases hv
  | x::l=>λv hv=>by
    rcases List.mem_append.1 hv with hv|hv
    · exact h x v hv
    · exact Jq h l v hv
def zuy:∀(x:IV),∀v∈qp x,v.oneCell'=true:=λx v hv=>by simp[qp]at hv;subst hv;rfl
def N9:∀(x:GV),∀v∈x.cells,v.oneCell'=true:=λx v hv=>by simp[GV.cells]at hv;rcases hv with rfl|rfl|rfl|rfl|rfl<;>rfl
def zup(k:IV):∀l,zE k l<=l.length
  | []=>Nat.zero_le _
  | a::l=>by
    rw[zE];split
    · have:=zup k l;rw[List.length_cons];omega
    · exact Nat.zero_le _
def NM:∀(xs A B C:List Value),B.length=xs.length->spl (A++(B++C)) A.length xs=A++(xs++C)
  | [],A,B,C,h=>by have:B=[]:=List.length_eq_zero_iff.mp h;subst this;rfl
  |x::xs,A,[],C,h=>by simp at h
  | x ::xs,A,b::B,C,h=>by
    rw[spl];have e:(A++(b::B++C)).set A.length x=(A++[x])++(B++C):=by
      clear h;induction A with
      |nil=>rfl
      |cons a A ih=>rw[List.cons_append,List.length_cons,List.set_cons_succ,ih];rfl
    rw[e,show A.length+1=(A++[x]).length by simp,NM xs (A++[x]) B C (by simpa using h)];simp
def Nk{f:α->List Value} {e:Nat} (hf:∀x,(f x).length=e) (l:List α) (k:Nat) (hk:k<l.length) (x:α):qa f (l.set k x)=spl (qa f l) (0+k*e) (f x):=by
 rw[List.set_eq_take_append_cons_drop,if_pos hk,zx];show _++(f x++_)=_;have h1:qa f l=qa f (l.take k)++(f l[k]++qa f (l.drop (k+1))):=by
  conv=>lhs;rw[S_ l k,List.drop_eq_getElem_cons hk]
  rfl
 have h2:(qa f (l.take k)).length=k*e:=by rw[qv hf,List.length_take,Nat.min_eq_left (Nat.le_of_lt hk)]
 rw[h1,Nat.zero_add,←h2];exact(NM _ _ _ _ ((hf _).trans (hf _).symm)).symm
def Hs:q1q P 24 Kh:=by
 refine zt (qcn qjr) (qde qjq) (W:=bJ) Tryz.func24 λ⟨v,k,w⟩=>(put_eq v k w).mpr ?_;rintro⟨hkl,hl⟩ ⟨p,_,hp,hw⟩;have hv:=hp;have vo:=λq (h:v.ok q)=>(by rw[GV.ok_eq]at h;exact h:qc GV.cells v.x v.l q/\qc qp v.y v.ks q/\GV.oks v.l q);have xl:v.x.2.1=v.l.length:=(vo p hp).1.1;have yl:v.y.2.1=v.ks.length:=(vo p hp).2.1.1;have xc:v.l.length<=v.x.2.2:=by have:=(vo p hp).1.2.1;omega
 have yc:v.ks.length<=v.y.2.2:=by have:=(vo p hp).2.1.2.1;omega
 simp only[qH,exists_const,forall_const,Int.toNat_natCast,xl,yl];have kd:∀s,s<v.ks.length->zE k (v.ks.drop s)=if qdg (v.ks[s]!) k=true then zE k (v.ks.drop (s+1))+1 else 0:=λs hs=>by rw[List.drop_eq_getElem_cons hs,zE,getElem!_pos v.ks s hs]
 have kat:∀s (hs:s<v.ks.length),v.ks[s]! =v.ks[s]:=λs hs=>getElem!_pos v.ks s hs;have txc:=λs (hs:s<v.ks.length) q (h:v.ok q)=>(show v.y.1≠noA/\q37 q (adr v.y.1 (s*1)) [.string v.ks[s]]from z17 jV (by decide) (vo q h).2.1 hs);refine⟨⟨⟨0,rfl,Nat.zero_le _,Nat.zero_add _⟩,λs ⟨hs,hk⟩=>⟨λhlt=> ?_,λhge=>⟨s,rfl,?_,hs⟩⟩⟩,λs ⟨hs,hsl⟩=>⟨⟨λhlt=> ?_,λhge=> ?_⟩,λhno=> ?_⟩⟩
 ·have hlt:s<v.ks.length:=by omega
  have hd:=kd s hlt;rw[kat s hlt]at hd;refine⟨⟨by omega,by omega⟩,(txc s hlt p hp).1,v.ks[s],λq hq=>(txc s hlt q hq.1).2,λhl1=>⟨⟨by omega,by omega⟩,s+1,by omega,⟨by omega,by rw[if_pos hl1]at hd;omega⟩,by omega⟩,λhl1=>⟨s,rfl,by rw[if_neg (by rw[hl1];decide)]at hd;omega,hs⟩⟩
 ·rw[List.drop_of_length_le (by omega),zE]at hk;omega
 ·have hlt:s<v.ks.length:=by omega
  have hll:s<v.l.length:=by omega
  refine⟨⟨by omega,by omega⟩,(txc s hlt p hp).1,v.ks[s],λq hq=>(txc s hlt q hq.1).2,λhe=> ?_,λhe=> ?_⟩
  ·have hh:kD k v.ks=true:=(by unfold kD;rw[←hs,List.getElem?_eq_getElem hlt,he];exact decide_eq_true rfl);refine⟨qa GV.cells v.l,qv zr _,λq hq=>(vo q hq.1).1.2.2,Jq N9 _,by omega,⟨by omega,by omega⟩,by rw[List.nil_append,qv zr];show 0+s*5+5<=_;omega,λa c _=>⟨.mk v.n v.s (a,0+v.l.length,c) (v.l.set s w) v.y v.ks v.b,rfl,rfl,rfl,rfl,rfl,rfl,yl,rfl,rfl,?_,λq hq=> ?_⟩⟩
   ·rw[GV.pv];show PV.mk v.n v.s (GV.pvs (v.l.set s w)) v.ks v.b=_;unfold zH qO;rw[hh,if_pos rfl,if_pos rfl,←hs,GV.pvs_map,GV.pvs_map,List.map_set]
   ·have h2:=hq.2.2;rw[List.nil_append]at h2;change qgs q a (List.take ((0+v.l.length)*5) (spl (qa GV.cells v.l) (0+s*5) w.cells))at h2;rw[←Nk zr v.l s hll w,List.take_of_length_le (by rw[qv zr,List.length_set];omega)]at h2;unfold GV.ok;refine⟨⟨by show 0+v.l.length=_;rw[List.length_set];omega,hq.2.1,h2⟩,(vo q hq.1.1).2.1,GV.oks_iff.2 λx hx=> ?_⟩;rcases List.mem_or_eq_of_mem_set hx with hx|rfl
    ·exact GV.oks_iff.1 (vo q hq.1.1).2.2 x hx
    ·exact hq.1.2
  ·unfold kD;rw[←hs,List.getElem?_eq_getElem hlt];exact decide_eq_false λh=>he (Option.some.inj h)
 ·unfold kD;rw[←hs,List.getElem?_eq_none (by omega)];rfl
 ·have hsl2:s<=v.l.length:=by omega
  have tl:(v.ks.take s).length=s:=by rw[List.length_take];omega
  have tl2:(v.l.take s).length=s:=by rw[List.length_take];omega
  have r1:(qa qp (v.ks.take s)).length=s*1:=by rw[qv jV,tl]
  have r2:(qa qp (v.ks.drop s)).length=(v.ks.length- s)*1:=by rw[qv jV,List.length_drop]
  have r3:(qa GV.cells (v.l.take s)).length=s*5:=by rw[qv zr,tl2]
  have r4:(qa GV.cells (v.l.drop s)).length=(v.l.length- s)*5:=by rw[qv zr,List.length_drop]
  refine⟨yc,⟨by omega,by omega⟩,qa qp (v.ks.take s),by rw[r1];omega,λq hq=>GG (vo q hq.1).2.1.2.2 (Nat.zero_le _) (by rw[qv jV];omega) (λj x hj=>by rw[Nat.zero_mul,Nat.zero_add];exact zdo _ _ j x hj),Jq zuy _,by omega,by rw[List.nil_append,r1];omega,by omega,yc,⟨by omega,by omega⟩,by rw[List.length_append,List.nil_append,r1];show s*1+1=_;omega,qa qp (v.ks.drop s),r2,λq hq=>GG (vo q hq.1).2.1.2.2 (by omega) (by rw[qv jV];omega) (zdp jV _ _ hsl),Jq zuy _,by omega,xc,⟨by omega,by omega⟩,qa GV.cells (v.l.take s),by rw[r3];omega,λq hq=>GG (vo q hq.1).1.2.2 (Nat.zero_le _) (by rw[qv zr];omega) (λj x hj=>by rw[Nat.zero_mul,Nat.zero_add];exact zdo _ _ j x hj),Jq N9 _,by omega,by rw[List.nil_append,r3];omega,by omega,xc,⟨by omega,by omega⟩,by rw[List.length_append,List.nil_append,r3];show s*5+5=_;omega,qa GV.cells (v.l.drop s),r4,λq hq=>GG (vo q hq.1).1.2.2 (by omega) (by rw[qv zr];omega) (zdp zr _ _ hsl2),Jq N9 _,by omega,λa c _ a2 c2 _=> ?_⟩;have hx:(v.l.take s++w::v.l.drop s).length=0+(s- 0)+1+(v.l.length- s):=by simp;omega
  have hy:(v.ks.take s++k::v.ks.drop s).length=0+(s- 0)+1+(v.ks.length- s):=by simp;omega
  refine⟨.mk v.n v.s (a,0+(s- 0)+1+(v.l.length- s),c) (v.l.take s++w::v.l.drop s) (a2,0+(s- 0)+1+(v.ks.length- s),c2) (v.ks.take s++k::v.ks.drop s) v.b,rfl,rfl,rfl,rfl,rfl,rfl,rfl,rfl,rfl,?_,λq hq=> ?_⟩
  ·rw[GV.pv];unfold zH qO;rw[hno,if_neg (by decide),if_neg (by decide),←hs,GV.pvs_map,GV.pvs_map,List.map_append,List.map_cons,List.map_take,List.map_drop]
  ·unfold GV.ok;refine⟨⟨hx.symm,hq.1.2.1,?_⟩,⟨hy.symm,hq.2.1,?_⟩,GV.oks_iff.2 λx hx=> ?_⟩
   ·have h2:=hq.1.2.2;rw[List.take_of_length_le (by simp only[List.length_append,List.nil_append,r3,r4];show s*5+5+_<=_;omega)]at h2;rw[zx];simp only[List.nil_append,List.append_assoc]at h2;exact h2
   ·have h2:=hq.2.2;rw[List.take_of_length_le (by simp only[List.length_append,List.nil_append,r1,r2];show s*1+1+_<=_;omega)]at h2;rw[zx];simp only[List.nil_append,List.append_assoc]at h2;exact h2
   ·have ho:=GV.oks_iff.1 (vo q hq.1.1.1).2.2;rcases List.mem_append.1 hx with hx|hx
    ·exact ho x (List.mem_of_mem_take hx)
    ·rcases List.mem_cons.1 hx with rfl|hx
     ·exact hq.1.1.2
     ·exact ho x (List.mem_of_mem_drop hx)
end
abbrev xI:=List AT×SV×Int×Int×GJ×Int
abbrev qV:=Int×Int×GV
def Qb(x:SV) (all:Int):List (Nat×AO):=[(1, .cells 130 (some 0) false [z_ x, .sv (.int .i64 all)])]
def jg(all:Int):qV->Prop:=λ⟨all',e,v⟩=>all<=all'/\all'<=2001/\(e=0->all'<=2000)
def tU(S:List AT) (x:SV) (g:GJ):PF:=⟨true,λp=>qd S x p/\g.ok p,λ_ _ h e=>⟨yC h e.1,GJ.ok_mono h e.2⟩⟩
def jvd(S:List AT) (x:SV) (a:AT) (g:GJ):PF:=⟨true,λp=>qd S x p/\a.ok p/\g.ok p,λ_ _ h e=>⟨yC h e.1,AT.ok_mono h e.2.1,GJ.ok_mono h e.2.2⟩⟩
def vW:CtR where
 σ:=xI
 args:=λ⟨S,x,all,t,g,d⟩=>[.ptr 1 0, .sv (.int .i64 t),g.av, .sv (.int .i64 d)]
 h:=λ⟨S,x,all,t,g,d⟩=>Qb x all
 m:=2
 pre:=λ⟨S,x,all,t,g,d⟩=>qx S/\(0<=t/\t<S.length)/\g.wf/\(0<=all/\all<=2000)/\1<=d/\d<=21
 mem:=λ⟨S,x,all,t,g,d⟩=>tU S x g
 β:=λ_=>qV
 post:=λ⟨S,x,all,t,g,d⟩ b=>jg all b
 pm:=λ_ ⟨all',e,v⟩=>vM v
 r:=λ_ ⟨all',e,v⟩=> .tup [v.av, .sv (.int .i64 e)]
 h':=λ⟨S,x,all,t,g,d⟩ ⟨all',e,v⟩=>Qb x all'
 m':=2
def z91:xI->Nat:=λ⟨S,x,all,t,g,d⟩=>2*(25- d).toNat
abbrev QL:=List AT×SV×Int×AT×GJ×Int
def xO(k:AT->GJ->Prop):CtR where
 σ:=QL
 args:=λ⟨S,x,all,a,g,d⟩=>[.ptr 1 0,a.av,g.av, .sv (.int .i64 d)]
 h:=λ⟨S,x,all,a,g,d⟩=>Qb x all
 m:=2
 pre:=λ⟨S,x,all,a,g,d⟩=>qx S/\a∈S/\k a g/\g.wf/\(0<=all/\all<=2000)/\1<=d/\d<=20
 mem:=λ⟨S,x,all,a,g,d⟩=>jvd S x a g
 β:=λ_=>qV
 post:=λ⟨S,x,all,a,g,d⟩ b=>jg all b
 pm:=λ_ ⟨all',e,v⟩=>vM v
 r:=λ_ ⟨all',e,v⟩=> .tup [v.av, .sv (.int .i64 e)]
 h':=λ⟨S,x,all,a,g,d⟩ ⟨all',e,v⟩=>Qb x all'
 m':=2
def yg:QL->Nat:=λ⟨S,x,all,a,g,d⟩=>2*(25- d).toNat
def Ik(a:AT) (g:GJ):Prop:=a.k=12
def isMap(a:AT) (g:GJ):Prop:=a.k=13/\g.k=6
def HH(a:AT) (g:GJ):Prop:=a.k=12\/a.k=13/\g.k=6
def isRec(a:AT) (g:GJ):Prop:=a.k=9
def jv9(t:T AV) (h:T AO):Option Int:=match t.get 10 with
  | some (.ptr b _)=>match h.get b with
    | some (.cells _ _ _ (v::_))=>match gi v with
      |some (_,k)=>some k
      |none=>none
    |_=>none
  |_=>none
def bq(a b gk k:Int):Bool:=decide (k=a)&&decide (gk=b)
def bI(gk gn k:Int):Bool:=decide (k=3)&&(decide (gk=3)&&(decide (-2147483648<=gn)&&decide (gn<2147483648)))
def bN(gk gn k:Int):Bool:=bI gk gn k||bq 4 3 gk k
def bT(gk k:Int):Bool:=(decide (k=7)||decide (k=11))&&decide (gk=4)
def bP(gk k:Int):Bool:=bq 12 5 gk k||bq 13 6 gk k
def yV(f:Int->Bool) (i:Nat) (keep:List Nat) (t:T AV) (h:T AO):Option LT:=match jv9 t h with
 |some k=>some {σ:=Unit,t:=λ_=>[(i, .sv (.bool (f k)))],h:=λ_=>[],more:=0,μ:=λ_=>0,keep:=keep}
 |none=>none
def wVl:xI->WayF:=λ⟨S,x,all,t,g,d⟩=>{
 ann:=λ_ _ _=>some {σ:=Nat,t:=λj=>[(14, .sv (.int .i64 (j:Int)))],h:=λ_=>[],more:=0,μ:=λj=>1000- j,keep:=[0,3,6,8,10,11]}
 pubE:=[250]
 spl:=λi=>match i with
  |35=>some 8
  |_=>none
 flo:=λi=>match i with
  |35=>some (12,[8])
  |_=>none
 cut:=λi t h=>match i with
  |7=>yV (bq 1 1 g.k) 45 [0,3,6,8,10,11] t h
  |9=>yV (bq 2 2 g.k) 55 [0,3,6,8,10,11] t h
  |11=>yV (bI g.k g.n) 68 [0,3,6,8,10,11] t h
  |12=>yV (bN g.k g.n) 68 [0,3,6,8,10,11] t h
  |14=>yV (bq 5 3 g.k) 95 [0,3,6,8,10,11] t h
  |16=>yV (bq 6 3 g.k) 107 [0,3,6,8,10,11] t h
  |18=>yV (bq 8 4 g.k) 118 [0,3,6,8,10,11] t h
  |20=>yV (bT g.k) 130 [0,3,6,8,10,11] t h
  |22=>some {σ:=Bool,t:=λb=>[(162, .sv (.bool b))],h:=λ_=>[],more:=0,μ:=λ_=>0,keep:=[8,12]}
  |24=>yV (bq 10 4 g.k) 165 [0,3,6,8,10,11] t h
  |30=>yV (bq 12 5 g.k) 192 [0,3,6,8,10,11] t h
  |31=>yV (bP g.k) 192 [0,3,6,8,10,11] t h
  |33=>yV (bq 9 6 g.k) 216 [0,3,6,8,10,11] t h
  |37=>some {σ:=Unit,t:=λ_=>[],h:=λ_=>[],more:=0,μ:=λ_=>0,keep:=[8]}
  |36=>some {σ:=qV,t:=λ⟨all',e,v⟩=>[(16, .sv (.int .i64 e)),(15, .ptr 50 0)],h:=λ⟨all',e,v⟩=>[(50, .cells 36 (some 0) false [.sv (.int .u64 v.n), .sv (.string v.s),z_ v.x,z_ v.y, .sv (.int .i64 v.b)])]++Qb x all',pre:=jg all,mem:=λ⟨all',e,v⟩=>vM v,more:=60,μ:=λ_=>0,keep:=[8]}
  |_=>none}
def MO(v:GV):AO:= .cells 36 (some 0) false [.sv (.int .u64 v.n), .sv (.string v.s),z_ v.x,z_ v.y, .sv (.int .i64 v.b)]
def S3(r n k:Nat):AO:= .cells 36 (some 0) false [.int .u64 0, .str [], .ssl r 0 n 5 k, .nsl, .int .i64 0]
def wV(fs:List GV):PF:=⟨true,GV.oks fs,λ_ _ h e=>GV.oks_mono h e⟩
def bC(x:SV) (all:Int) (pt es:Nat) (keep:List Nat):LT:={σ:=qV,t:=λ⟨all',e,v⟩=>[(es, .sv (.int .i64 e)),(pt, .ptr 50 0)],h:=λ⟨all',e,v⟩=>[(50,MO v)]++Qb x all',pre:=jg all,mem:=λ⟨all',e,v⟩=>vM v,more:=60,μ:=λ_=>0,keep:=keep}
def HM(h:T AO):Int:=match h.get 1 with
 |some (.cells _ _ _ [_, .sv (.int _ a)])=>a
 |_=>0
def t_:QL->WayF:=λ⟨S,x,all,a,g,d⟩=>{
 ann:=λ_ _ _=>some {σ:=Nat×Int×List GV,pre:=λ⟨j,all',fs⟩=>j<=g.l.length/\(all<=all'/\all'<=2000)/\fs.length=j,mem:=λ⟨j,all',fs⟩=>wV fs,t:=λ⟨j,all',fs⟩=>[(11, .sv (.int .i64 (j:Int)))],h:=λ⟨j,all',fs⟩=>Qb x all'++[(5,S3 6 fs.length 7),(6, .row 36 0 (qa GV.cells fs))],more:=2,μ:=λ⟨j,all',fs⟩=>g.l.length- j,keep:=[0,3,5,6,8,10]}
 pubE:=[57]
 spl:=λi=>match i with
  |5=>some 10
  |10=>some 7
  |_=>none
 flo:=λi=>match i with
  |5=>some (14,[10])
  |_=>none
 cut:=λi _ h=>match i with
  |6=>some (bC x (HM h) 12 13 [0,3,5,6,8,10,11])
  |_=>none}
def wPm:QL->WayF:=λ⟨S,x,all,a,g,d⟩=>{
 ann:=λ_ _ _=>some {σ:=Nat×Int×GV,pre:=λ⟨j,all',v⟩=>j<=g.l.length/\(all<=all'/\all'<=2000)/\v.ks.length=v.l.length/\v.l.length<=j,mem:=λ⟨j,all',v⟩=>vM v,t:=λ⟨j,all',v⟩=>[(11, .sv (.int .i64 (j:Int)))],h:=λ⟨j,all',v⟩=>Qb x all'++[(5,MO v)],more:=0,μ:=λ⟨j,all',v⟩=>g.l.length- j,keep:=[0,3,5,6,8,10]}
 spl:=λi=>match i with
  |5=>some 10
  |10=>some 7
  |_=>none
 flo:=λi=>match i with
  |5=>some (14,[10])
  |_=>none
 cut:=λi _ h=>match i with
  |6=>some (bC x (HM h) 12 13 [0,3,5,6,8,10,11])
  |_=>none}
def jnO(g:GJ):AO:= .cells 62 (some 0) false [.sv (.int .i64 g.k), .sv (.int .i64 g.n), .sv (.string g.s),z_ g.y,z_ g.x]
def wRe:QL->WayF:=λ⟨S,x,all,a,g,d⟩=>{
 ann:=λ_ _ _=>some {σ:=Nat×Int×List GV,pre:=λ⟨j,all',fs⟩=>j<=a.fs.length/\(all<=all'/\all'<=2000)/\fs.length=j,mem:=λ⟨j,all',fs⟩=>wV fs,t:=λ⟨j,all',fs⟩=>[(11, .sv (.int .i64 (j:Int)))],h:=λ⟨j,all',fs⟩=>Qb x all'++[(5,S3 6 fs.length 7),(6, .row 36 0 (qa GV.cells fs))],more:=2,μ:=λ⟨j,all',fs⟩=>a.fs.length- j,keep:=[0,3,5,6,8,10]}
 pubE:=[65]
 cut:=λi _ h=>match i with
  |11=>some {σ:=GJ,pre:=λc=>c.wf,mem:=gM,t:=λc=>[(13, .ptr 50 0)],h:=λc=>[(50,jnO c)],more:=60,μ:=λ_=>0,keep:=[0,3,5,6,8,10,11,12]}
  |_=>none}
section
variable (c w:Int) (d:SV) (v:List AT) (a:GJ) (C:Int) (B:Nat) (G:IV) (E:Option Addr) (F:Nat) (g:Int) (l:Option Addr) (m o:Nat) (e:Bool) (p:IV) (h:Int) (q:Option Addr) (r t:Nat) (i:Option Addr) (j u I:Nat) (S:Prop) (D:qV) (T U:Int) (K:IV×Bool) (z:QL) (O:qV) (V:Nat->Option Obj)
 abbrev j3:=True/\qd v d V/\GJ.ok a V
 abbrev RU:=Jb (c+1)
 def V0:=GV.n D.2.2=0/\GV.s D.2.2=mkS []/\S
 def RT:=(GV.y D.2.2).1=noA/\(GV.y D.2.2).2.1=0/\(GV.y D.2.2).2.2=0/\GV.b D.2.2=0/\S
 def Ul:=d.1=d.1/\d.2.1=d.2.1/\d.2.2=d.2.2/\S
 def ur:=(GV.x D.2.2).1=noA/\(GV.x D.2.2).2.1=0/\(GV.x D.2.2).2.2=0/\RT (D.2.1=w/\Ul d (D.1=c+1/\jg c D/\(∀A,j3 d v a A->GV.ok D.2.2 A)/\True)) D
 def j1:=decide (GJ.k a=3)=decide (GJ.k a=3)
 def z28:=Ul d (c+1=c+1/\GJ.k a=GJ.k a/\GJ.n a=GJ.n a/\GJ.s a=GJ.s a/\(GJ.y a).1=(GJ.y a).1/\(GJ.y a).2.1=(GJ.y a).2.1/\(GJ.y a).2.2=(GJ.y a).2.2/\(GJ.x a).1=(GJ.x a).1/\(GJ.x a).2.1=(GJ.x a).2.1/\(GJ.x a).2.2=(GJ.x a).2.2/\w=w/\G=G/\E=E/\B=B/\F=F/\C=C/\l=l/\m=m/\o=o/\e=e/\p=p/\g=g/\q=q/\r=r/\t=t/\i=i/\j=j/\u=u/\(∀A,j3 d v a A->j3 d v a A)/\True/\S)
 def JQ:=(Ji (c=T) (∃(A:Unit),w=w/\j1 a/\bq T U (GJ.k a) c=decide (GJ.k a=U)/\z28 C c d v a g B G E F h l m o e p q r t i j u True) (∃(J:Unit),w=w/\j1 a/\bq T U (GJ.k a) c=false/\z28 C c d v a g B G E F h l m o e p q r t i j u True))
 def RQ:=(Ji (c=T) (∃(A:Unit),w=w/\bq T U (GJ.k a) c=decide (GJ.k a=U)/\j1 a/\z28 C c d v a g B G E F h l m o e p q r t i j u True) (∃(J:Unit),w=w/\bq T U (GJ.k a) c=false/\j1 a/\z28 C c d v a g B G E F h l m o e p q r t i j u True))
 def RV:=∃(A:qV),GV.n A.2.2=IntKind.wrap u64 (GJ.n a)/\GV.s A.2.2=mkS []/\ur c 0 d v a A
 def Cd:=Ji ((-2147483648:Int)<=GJ.n a) (∃(A:Unit),c=c/\j1 a/\bI (GJ.k a) (GJ.n a) w=decide (GJ.n a<2147483648)/\z28 C w d v a g B G E F h l m o e p q r t i j u True) (∃(J:Unit),c=c/\j1 a/\bI (GJ.k a) (GJ.n a) w=false/\z28 C w d v a g B G E F h l m o e p q r t i j u True)
 def P_:=Ji (GJ.k a=3) (Cd c w d v a C B G E F g l m o e p h q r t i j u) (∃(H:Unit),c=c/\j1 a/\bI (GJ.k a) (GJ.n a) w=false/\z28 C w d v a g B G E F h l m o e p q r t i j u True)
 def Ce:=Ji (c=4) (∃(A:Unit),w=w/\j1 a/\bN (GJ.k a) (GJ.n a) c=decide (GJ.k a=3)/\z28 C c d v a g B G E F h l m o e p q r t i j u True) (∃(J:Unit),w=w/\j1 a/\bN (GJ.k a) (GJ.n a) c=false/\z28 C c d v a g B G E F h l m o e p q r t i j u True)
 def Cc:=(bI (GJ.k a) (GJ.n a) c=true->∃(A:Unit),w=w/\j1 a/\bN (GJ.k a) (GJ.n a) c=bI (GJ.k a) (GJ.n a) c/\z28 C c d v a g B G E F h l m o e p q r t i j u True)/\(bI (GJ.k a) (GJ.n a) c=false->Ce c w d v a C B G E F g l m o e p h q r t i j u)
 def Cg:=Ji (c=11) (∃(A:Unit),w=w/\j1 a/\bT (GJ.k a) c=decide (GJ.k a=4)/\z28 C c d v a g B G E F h l m o e p q r t i j u True) (∃(J:Unit),w=w/\j1 a/\bT (GJ.k a) c=false/\z28 C c d v a g B G E F h l m o e p q r t i j u True)
 def JR:=Ul d (c+1=c+1/\(∀A,j3 d v a A->j3 d v a A)/\True/\True)
 def Cf:=Ji (c=7) (∃(A:Bool),K.1=K.1/\A=true/\JR w d v a) (∃(J:Bool),K.1=K.1/\J=decide ((↑(size K.1):Int)=C)/\JR w d v a)
 def Ci:=(e=true->∃(A:qV),GV.n A.2.2=0/\GV.s A.2.2=K.1/\ur c 0 d v a A)/\(e=false->∃(J:Unit),JR c d v a)
 def P8:=((K.2=true->Cf c w d v a C K)/\(K.2=false->∃(L:Bool),K.1=K.1/\L=false/\JR w d v a))/\∀(R:Bool),True->Ci w d v a R K
 def Ca:=(0<=(↑B:Int)/\(↑B:Int)<(↑F:Int))/\E≠noA/\∃A,(∀J,j3 d v a J->q37 J (adr E (toNat (↑B:Int)*1)) [string A])/\Ji (A=GJ.s a) (∃(H:qV),GV.n H.2.2=IntKind.wrap u64 (↑B:Int)/\GV.s H.2.2=mkS []/\ur c 0 d v a H) (Jb ((↑B:Int)+1)/\∃(Q:Nat),w=w/\j1 a/\(↑Q:Int)=(↑B:Int)+1/\z28 c C d v a g m G l o h E F r e p q t j i u I ((1000:Nat)- Q<1000- B/\True))
 def P':=Ji ((↑B:Int)<(↑F:Int)) (Ca c w d v a C B G E F g l m o e p h q r t i j u I) (∃(L:Unit),JR c d v a)
 def P9:=(∃(A:Nat),c=c/\j1 a/\(↑A:Int)=0/\z28 w C d v a g B G E F h l m o e p q r t i j u True)/\∀(J:Nat),True->P' w c d v a C J G l m g E B F e p h q o r i t j u
 def Ch:=Ji (c=13) (∃(A:Unit),w=w/\j1 a/\bP (GJ.k a) c=decide (GJ.k a=6)/\z28 C c d v a g B G E F h l m o e p q r t i j u True) (∃(J:Unit),w=w/\j1 a/\bP (GJ.k a) c=false/\z28 C c d v a g B G E F h l m o e p q r t i j u True)
 def Cb:=(bq 12 5 (GJ.k a) c=true->∃(A:Unit),w=w/\j1 a/\bP (GJ.k a) c=bq 12 5 (GJ.k a) c/\z28 C c d v a g B G E F h l m o e p q r t i j u True)/\(bq 12 5 (GJ.k a) c=false->Ch c w d v a C B G E F g l m o e p h q r t i j u)
 def RL:=AT.k z.2.2.2.1=c/\AT.nm z.2.2.2.1=G/\(AT.al z.2.2.2.1).1=E/\(AT.al z.2.2.2.1).2.1=B/\(AT.al z.2.2.2.1).2.2=F/\AT.it z.2.2.2.1=w/\(AT.sy z.2.2.2.1).1=l/\(AT.sy z.2.2.2.1).2.1=m/\(AT.sy z.2.2.2.1).2.2=o/\AT.hd z.2.2.2.1=e/\AT.df z.2.2.2.1=p/\AT.sz z.2.2.2.1=C/\(AT.f z.2.2.2.1).1=q/\(AT.f z.2.2.2.1).2.1=r/\(AT.f z.2.2.2.1).2.2=t/\(AT.br z.2.2.2.1).1=i/\(AT.br z.2.2.2.1).2.1=j/\(AT.br z.2.2.2.1).2.2=u/\GJ.k z.2.2.2.2.1=GJ.k a/\GJ.n z.2.2.2.2.1=GJ.n a/\GJ.s z.2.2.2.2.1=GJ.s a/\(GJ.y z.2.2.2.2.1).1=(GJ.y a).1/\(GJ.y z.2.2.2.2.1).2.1=(GJ.y a).2.1/\(GJ.y z.2.2.2.2.1).2.2=(GJ.y a).2.2/\(GJ.x z.2.2.2.2.1).1=(GJ.x a).1/\(GJ.x z.2.2.2.2.1).2.1=(GJ.x a).2.1/\(GJ.x z.2.2.2.2.1).2.2=(GJ.x a).2.2/\z.2.2.2.2.2=g/\z.2.1.1=d.1/\z.2.1.2.1=d.2.1/\z.2.1.2.2=d.2.2/\z.2.2.1=h+1/\S
 def RS:=GJ.wf z.2.2.2.2.1/\(0<=z.2.2.1/\z.2.2.1<=2000)/\1<=z.2.2.2.2.2/\z.2.2.2.2.2<=20
 def RN:=GV.n D.2.2=GV.n O.2.2/\GV.s D.2.2=GV.s O.2.2/\(GV.x D.2.2).1=(GV.x O.2.2).1/\(GV.x D.2.2).2.1=(GV.x O.2.2).2.1/\(GV.x D.2.2).2.2=(GV.x O.2.2).2.2/\(GV.y D.2.2).1=(GV.y O.2.2).1/\(GV.y D.2.2).2.1=(GV.y O.2.2).2.1/\(GV.y D.2.2).2.2=(GV.y O.2.2).2.2/\GV.b D.2.2=GV.b O.2.2/\S
 def RM:=(∀A,j3 d v a A->qd z.1 z.2.1 A/\AT.ok z.2.2.2.1 A/\GJ.ok z.2.2.2.2.1 A)/\∀(J:qV),jg z.2.2.1 J->(∃H,(j3 d v a H)/\GV.ok J.2.2 H)->∃(Q:qV),RN (Q.2.1=J.2.1/\d.1=z.2.1.1/\d.2.1=z.2.1.2.1/\d.2.2=z.2.1.2.2/\Q.1=J.1/\jg c Q/\(∀L,(j3 d v a L)/\GV.ok J.2.2 L->GV.ok Q.2.2 L)/\True) Q J
 def RK:=((0:Int)<=0/\0<(↑B:Int))/\E≠noA/\∃(A:Int),(∀J,j3 d v a J->q37 J (adr E ((0:Nat)*1)) [int i64 A])/\RU c/\∃(H:xI),H.2.2.2.1=A/\GJ.k H.2.2.2.2.1=GJ.k a/\GJ.n H.2.2.2.2.1=GJ.n a/\GJ.s H.2.2.2.2.1=GJ.s a/\(GJ.y H.2.2.2.2.1).1=(GJ.y a).1/\(GJ.y H.2.2.2.2.1).2.1=(GJ.y a).2.1/\(GJ.y H.2.2.2.2.1).2.2=(GJ.y a).2.2/\(GJ.x H.2.2.2.2.1).1=(GJ.x a).1/\(GJ.x H.2.2.2.2.1).2.1=(GJ.x a).2.1/\(GJ.x H.2.2.2.2.1).2.2=(GJ.x a).2.2/\H.2.2.2.2.2=c+1/\H.2.1.1=d.1/\H.2.1.2.1=d.2.1/\H.2.1.2.2=d.2.2/\H.2.2.1=w+1/\(z91 H<F/\qx H.1/\(0<=H.2.2.2.1/\H.2.2.2.1<(↑(length H.1):Int))/\GJ.wf H.2.2.2.2.1/\(0<=H.2.2.1/\H.2.2.1<=2000)/\1<=H.2.2.2.2.2/\H.2.2.2.2.2<=21)/\(∀Q,j3 d v a Q->qd H.1 H.2.1 Q/\GJ.ok H.2.2.2.2.1 Q)/\∀(L:qV),jg H.2.2.1 L->(∃i5,(j3 d v a i5)/\GV.ok L.2.2 i5)->∃(R:qV),R.2.1=L.2.1/\d.1=H.2.1.1/\d.2.1=H.2.1.2.1/\d.2.2=H.2.1.2.2/\R.1=L.1/\RN ((∀i7,(j3 d v a i7)/\GV.ok L.2.2 i7->j3 d v a i7)/\(∀i8,(j3 d v a i8)/\GV.ok L.2.2 i8->GV.ok R.2.2 i8)/\jg w R/\True) R L
 def RO:=((j3 d v a V)/\GV.ok D.2.2 V)/\q37 V (Addr.mk B F none) [int u64 (GV.n D.2.2),string (GV.s D.2.2),slice (GV.x D.2.2).1 (GV.x D.2.2).2.1 (GV.x D.2.2).2.2,slice (GV.y D.2.2).1 (GV.y D.2.2).2.1 (GV.y D.2.2).2.2,int i64 (GV.b D.2.2)]
 def P7:=((RK c w d v a B E F)/\RK c w d v a B E F)/\∀(M:qV),jg w M->(∃i19,(j3 d v a i19)/\GV.ok M.2.2 i19)->∀(i20 i21 i22:Nat),(∃i23,RO d v a i20 i21 M i23)->∃(N:qV),V0 ((GV.x N.2.2).1=some (Addr.mk i20 (i21+nat_lit 0) none)/\(GV.x N.2.2).2.1=nat_lit 1/\(GV.x N.2.2).2.2=nat_lit 1/\RT (N.2.1=M.2.1/\Ul d (N.1=M.1/\jg w N/\(∀i25,RO d v a i20 i21 M i25->GV.ok N.2.2 i25)/\True)) N) N
 def P6:=Ji (c=14) (P7 w C d v a B E F) (∃(i26:Unit),JR C d v a)
 def P5:=(bq 9 6 (GJ.k a) c=true->∃(A:QL),RL c w d a C B G E F g l m o e p h q r t i j u ((yg A<I+1/\qx A.1/\A.2.2.2.1∈A.1/\isRec A.2.2.2.1 A.2.2.2.2.1/\RS A)/\RM h d v a A) A)/\(bq 9 6 (GJ.k a) c=false->P6 c g d v a h j i I)
 def P4:=JQ c w d v a C B G E F g l m o e p h q r t i j u 9 6/\∀(H:Unit),True->P5 c g d v a h B G E F w l m o e p C q r t i j u I
 def P3:=(bP (GJ.k a) c=true->∃(A:QL),RL c w d a C B G E F g l m o e p h q r t i j u ((yg A<I+1/\qx A.1/\A.2.2.2.1∈A.1/\HH A.2.2.2.1 A.2.2.2.2.1/\RS A)/\RM h d v a A) A)/\(bP (GJ.k a) c=false->P4 c g d v a h B G E F w l m o e p C q r t i j u I)
 def P2:=(JQ c w d v a C B G E F g l m o e p h q r t i j u 12 5/\∀(H:Unit),True->Cb c w d v a C B G E F g l m o e p h q r t i j u)/\∀(R:Unit),True->P3 c g d v a h B G E F w l m o e p C q r t i j u I
 def P1:=(bq 10 4 (GJ.k a) c=true->P9 w C d v a c B G E F g l m o e p h q r t i j u)/\(bq 10 4 (GJ.k a) c=false->P2 c w d v a C B G E F g l m o e p h q r t i j u I)
 def P0:=JQ c w d v a C B G E F g l m o e p h q r t i j u 10 4/\∀(L:Unit),True->P1 c w d v a C B G E F g l m o e p h q r t i j u I
 def PZ:=(bT (GJ.k a) c=true->∃A,A=GJ.s a/\size A<1000000/\∀(J:IV×Bool),size J.1<=size A->P8 c w d v a C J)/\(bT (GJ.k a) c=false->P0 c g d v a w B G E F h l m o e p C q r t i j u I)
 def PY:=(Ji (c=7) (∃(A:Unit),w=w/\j1 a/\bT (GJ.k a) c=decide (GJ.k a=4)/\z28 C c d v a g B G E F h l m o e p q r t i j u True) (Cg c w d v a C B G E F g l m o e p h q r t i j u))/\∀(R:Unit),True->PZ c C d v a h B G E F w l m o e p g q r t i j u I
 def PX:=(bq 8 4 (GJ.k a) c=true->∃(A:qV),GV.n A.2.2=0/\GV.s A.2.2=GJ.s a/\ur w 0 d v a A)/\(bq 8 4 (GJ.k a) c=false->PY c C d v a w B G E F g l m o e p h q r t i j u I)
 def PW:=JQ c w d v a C B G E F g l m o e p h q r t i j u 8 4/\∀(L:Unit),True->PX c C d v a w B G E F g l m o e p h q r t i j u I
 def PU:=(bq 6 3 (GJ.k a) c=true->∃(A:Int),A=GJ.n a/\KH A/\∀(J:Int),kN J->∃(H:qV),GV.n H.2.2=J/\GV.s H.2.2=mkS []/\ur w 0 d v a H)/\(bq 6 3 (GJ.k a) c=false->PW c C d v a w B G E F g l m o e p h q r t i j u I)
 def PT:=JQ c w d v a C B G E F g l m o e p h q r t i j u 6 3/\∀(L:Unit),True->PU c C d v a w B G E F g l m o e p h q r t i j u I
 def gQ:=(bq 5 3 (GJ.k a) c=true->∃(A:Int),A=GJ.n a/\KH A/\∀(J:Int),0<=J/\J<4294967296->(0<=J/\J<=18446744073709551615)/\∃(H:qV),GV.n H.2.2=J/\GV.s H.2.2=mkS []/\ur w 0 d v a H)/\(bq 5 3 (GJ.k a) c=false->PT c C d v a w B G E F g l m o e p h q r t i j u I)
 def gP:=RQ c w d v a C B G E F g l m o e p h q r t i j u 5 3/\∀(L:Unit),True->gQ c C d v a w B G E F g l m o e p h q r t i j u I
 def gO:=(bN (GJ.k a) (GJ.n a) c=true->RV w d v a)/\(bN (GJ.k a) (GJ.n a) c=false->gP c C d v a w B G E F g l m o e p h q r t i j u I)
 def gN:=((Ji (c=3) (P_ w c d v a C B G E F g l m o e p h q r t i j u) (∃(R:Unit),w=w/\j1 a/\bI (GJ.k a) (GJ.n a) c=false/\z28 C c d v a g B G E F h l m o e p q r t i j u True))/\∀(i8:Unit),True->Cc c w d v a C B G E F g l m o e p h q r t i j u)/\∀(W:Unit),True->gO c C d v a w B G E F g l m o e p h q r t i j u I
 def gL:=(bq 2 2 (GJ.k a) c=true->RV w d v a)/\(bq 2 2 (GJ.k a) c=false->gN c C d v a w B G E F g l m o e p h q r t i j u I)
 def gK:=RQ c w d v a C B G E F g l m o e p h q r t i j u 2 2/\∀(L:Unit),True->gL c C d v a w B G E F g l m o e p h q r t i j u I
 def gJ:=(bq 1 1 (GJ.k a) c=true->∃(A:qV),V0 (ur w 0 d v a A) A)/\(bq 1 1 (GJ.k a) c=false->gK c C d v a w B G E F g l m o e p h q r t i j u I)
 def gI:=(0<=c/\c<(↑d.2.1:Int))/\d.1≠noA/\∃(A:Int),∃J,∃H,∃(Q:Nat),∃(L:Nat),∃(i5:Int),∃R,∃(i7:Nat),∃(i8:Nat),∃(i9:Bool),∃Y,∃(Z:Int),∃i12,∃(i13:Nat),∃(i14:Nat),∃W,∃(i16:Nat),∃(i17:Nat),(∀M,j3 d v a M->q37 M (adr d.1 (toNat c*10)) [int i64 A,string J,slice H Q L,int i64 i5,slice R i7 i8,bool i9,string Y,int i64 Z,slice i12 i13 i14,slice W i16 i17])/\(JQ A w d v a C Q J H L i5 R i7 i8 i9 Y Z i12 i13 i14 W i16 i17 1 1/\∀(i23:Unit),True->gJ A C d v a w Q J H L i5 R i7 i8 i9 Y Z i12 i13 i14 W i16 i17 B)/\∀(i169:Unit),True->∃(X:qV),V0 (ur C 7 d v a X) X
 def gH:=Ji (2000<c+1) (∃(A:qV),V0 (ur c 3 d v a A) A) (gI w C d v a c B)
 def gG:=RU c/\Ji (20<w) (∃(A:qV),V0 (ur c 3 d v a A) A) (gH c C d v a w B)
end
def j7t(n:Nat) (S:List AT) (x:SV) (all t:Int) (g:GJ) (d:Int):qk4 P (qfa []) (qgc [(74,vW.below z91 n),(111,(xO HH).below yg (n+1)),(112,(xO isRec).below yg (n+1)),(108,NX),(109,Nu),(110,Xj)]) Tryz.f74 (vW.below z91 (n+1)) (wVl) ⟨S,x,all,t,g,d⟩=(z91 (S,x,all,t,g,d)<n+1/\qx S/\(0<=t/\t<(↑(length S):Int))/\GJ.wf g/\(0<=all/\all<=2000)/\1<=d/\d<=21->(∃(p:Pub),j3 x S g p)->gG all d x S g t n):=by kernel_rfl
def jgj:=λn S x all t g d=>Eq.trans (j7t n S x all t g d) (by delta Ji Jb Jt Jf j3 RU V0 RT Ul ur j1 z28 JQ RQ RV Cd P_ Ce Cc Cg JR Cf Ci P8 Ca P' P9 Ch Cb RL RS RN RM RK RO P7 P6 P5 P4 P3 P2 P1 P0 PZ PY PX PW PU PT gQ gP gO gN gL gK gJ gI gH gG;exact rfl)
section
variable (t:Int) (h:SV) (w:Int) (c:GJ) (a:AT) (m:List AT) (J:Nat) (g:Nat×Int×List GV) (p:qV) (L:Prop) (v:Nat->Option Obj)
 abbrev JS:=True/\qd m h v/\AT.ok a v/\GJ.ok c v
 def Um:=h.1=h.1/\h.2.1=h.2.1/\h.2.2=h.2.2/\L
 def XI:=GJ.k c=GJ.k c/\GJ.n c=GJ.n c/\GJ.s c=GJ.s c/\(GJ.y c).1=(GJ.y c).1/\(GJ.y c).2.1=(GJ.y c).2.1/\(GJ.y c).2.2=(GJ.y c).2.2/\(GJ.x c).1=(GJ.x c).1/\(GJ.x c).2.1=(GJ.x c).2.1/\(GJ.x c).2.2=(GJ.x c).2.2/\L
 def XH:=AT.k a=AT.k a/\AT.nm a=AT.nm a/\(AT.al a).1=(AT.al a).1/\(AT.al a).2.1=(AT.al a).2.1/\(AT.al a).2.2=(AT.al a).2.2/\AT.it a=AT.it a/\(AT.sy a).1=(AT.sy a).1/\(AT.sy a).2.1=(AT.sy a).2.1/\(AT.sy a).2.2=(AT.sy a).2.2/\AT.hd a=AT.hd a/\AT.df a=AT.df a/\AT.sz a=AT.sz a/\(AT.f a).1=(AT.f a).1/\(AT.f a).2.1=(AT.f a).2.1/\(AT.f a).2.2=(AT.f a).2.2/\(AT.br a).1=(AT.br a).1/\(AT.br a).2.1=(AT.br a).2.1/\(AT.br a).2.2=(AT.br a).2.2/\L
 def Lf:=g.1<=length (GJ.l c)/\(t<=g.2.1/\g.2.1<=2000)/\length g.2.2=g.1
 def vP:=(JS h c a m v)/\GV.oks g.2.2 v
 abbrev RX:=(↑g.1:Int)<(↑(GJ.y c).2.1:Int)
 abbrev DO:=HM (T.n (T.n (T.n T.e (some (AO.cells 62 (some 0) false [AV.sv (int i64 (GJ.k c)),AV.sv (int i64 (GJ.n c)),AV.sv (string (GJ.s c)),AV.sv (slice (GJ.y c).1 (GJ.y c).2.1 (GJ.y c).2.2),AV.sv (slice (GJ.x c).1 (GJ.x c).2.1 (GJ.x c).2.2)])) T.e) (some (AO.cells (130:TypeId) (some 0) false [AV.sv (slice h.1 h.2.1 h.2.2),AV.sv (int i64 g.2.1)])) (T.n T.e (some (AO.cells (36:TypeId) (some 0) false [AV.int u64 0,AV.str [],AV.ssl (nat_lit 6) (nat_lit 0) (length g.2.2) (nat_lit 5) (nat_lit 7),AV.nsl,AV.int i64 0])) T.e)) none (T.n (T.n T.e (some (AO.cells 36 (some 0) false [AV.int u64 0,AV.str (List.map UInt8.toNat (Array.toList (ByteArray.data (mkS [])))),AV.nsl,AV.nsl,AV.int i64 0])) T.e) (some (AO.cells 55 (some 0) false [AV.sv (int i64 (AT.k a)),AV.sv (string (AT.nm a)),AV.sv (slice (AT.al a).1 (AT.al a).2.1 (AT.al a).2.2),AV.sv (int i64 (AT.it a)),AV.sv (slice (AT.sy a).1 (AT.sy a).2.1 (AT.sy a).2.2),AV.sv (bool (AT.hd a)),AV.sv (string (AT.df a)),AV.sv (int i64 (AT.sz a)),AV.sv (slice (AT.f a).1 (AT.f a).2.1 (AT.f a).2.2),AV.sv (slice (AT.br a).1 (AT.br a).2.1 (AT.br a).2.2)])) (T.n T.e (some (AO.row (36:TypeId) (nat_lit 0) (qa GV.cells g.2.2))) T.e)))
 def DN:=(0<=(↑g.1:Int)/\RX c g)/\(GJ.y c).1≠noA/\∃(j:Int),∃(r:Int),∃u,∃F,∃(K:Nat),∃(M:Nat),∃N,∃(O:Nat),∃(i8:Nat),(∀Q,vP h c a m g Q->q37 Q (adr (GJ.y c).1 (toNat (↑g.1:Int)*5)) [int i64 j,int i64 r,string u,slice F K M,slice N O i8])/\Jb (t+1)/\∃(d:xI),d.2.2.2.1=AT.it a/\GJ.k d.2.2.2.2.1=j/\GJ.n d.2.2.2.2.1=r/\GJ.s d.2.2.2.2.1=u/\(GJ.y d.2.2.2.2.1).1=F/\(GJ.y d.2.2.2.2.1).2.1=K/\(GJ.y d.2.2.2.2.1).2.2=M/\(GJ.x d.2.2.2.2.1).1=N/\(GJ.x d.2.2.2.2.1).2.1=O/\(GJ.x d.2.2.2.2.1).2.2=i8/\d.2.2.2.2.2=t+1/\d.2.1.1=h.1/\d.2.1.2.1=h.2.1/\d.2.1.2.2=h.2.2/\d.2.2.1=g.2.1/\(z91 d<J/\qx d.1/\(0<=d.2.2.2.1/\d.2.2.2.1<(↑(length d.1):Int))/\GJ.wf d.2.2.2.2.1/\(0<=d.2.2.1/\d.2.2.1<=2000)/\1<=d.2.2.2.2.2/\d.2.2.2.2.2<=21)/\(∀z,vP h c a m g z->qd d.1 d.2.1 z/\GJ.ok d.2.2.2.2.1 z)/\∀(i:qV),jg d.2.2.1 i->(∃G,(vP h c a m g G)/\GV.ok i.2.2 G)->∃(o:qV),t=t/\(↑g.1:Int)=(↑g.1:Int)/\o.2.1=i.2.1/\h.1=d.2.1.1/\h.2.1=d.2.1.2.1/\h.2.2=d.2.1.2.2/\o.1=i.1/\XI c (length g.2.2=length g.2.2/\XH a (qa GV.cells g.2.2=qa GV.cells g.2.2/\GV.n o.2.2=GV.n i.2.2/\GV.s o.2.2=GV.s i.2.2/\(GV.x o.2.2).1=(GV.x i.2.2).1/\(GV.x o.2.2).2.1=(GV.x i.2.2).2.1/\(GV.x o.2.2).2.2=(GV.x i.2.2).2.2/\(GV.y o.2.2).1=(GV.y i.2.2).1/\(GV.y o.2.2).2.1=(GV.y i.2.2).2.1/\(GV.y o.2.2).2.2=(GV.y i.2.2).2.2/\GV.b o.2.2=GV.b i.2.2/\(∀A,(vP h c a m g A)/\GV.ok i.2.2 A->vP h c a m g A)/\(∀i16,(vP h c a m g i16)/\GV.ok i.2.2 i16->GV.ok o.2.2 i16)/\jg (DO h c a g) o/\True))
 def RW:=(GV.y p.2.2).1=noA/\(GV.y p.2.2).2.1=0/\(GV.y p.2.2).2.2=0/\GV.b p.2.2=0/\L
 def gW:=length (qa GV.cells g.2.2)=length g.2.2*5/\(length g.2.2+nat_lit 1)*80<=140737488355328/\Jb ((↑g.1:Int)+1)/\∃(j:Nat×Int×List GV),t=t/\(↑j.1:Int)=(↑g.1:Int)+1/\Um h (j.2.1=p.1/\XI c (length j.2.2=length g.2.2+nat_lit 1/\XH a (qa GV.cells j.2.2=qa GV.cells g.2.2++[int u64 (GV.n p.2.2),string (GV.s p.2.2),slice (GV.x p.2.2).1 (GV.x p.2.2).2.1 (GV.x p.2.2).2.2,slice (GV.y p.2.2).1 (GV.y p.2.2).2.1 (GV.y p.2.2).2.2,int i64 (GV.b p.2.2)]/\(∀r,(vP h c a m g r)/\GV.ok p.2.2 r->JS h c a m r)/\(∀u,(vP h c a m g u)/\GV.ok p.2.2 u->GV.oks j.2.2 u)/\(Lf w c j)/\length (GJ.l c)- j.1<length (GJ.l c)- g.1/\True)))
 def Cj:=(0<=(↑g.1:Int)/\(↑g.1:Int)<(↑(GJ.x c).2.1:Int))/\(GJ.x c).1≠noA/\∃j,(∀r,(vP h c a m g r)/\GV.ok p.2.2 r->q37 r (adr (GJ.x c).1 (toNat (↑g.1:Int)*1)) [string j])/\∃(u:GV×IV×GV),GV.n u.1=0/\GV.s u.1=mkS []/\False
 def gV:=Ji (AT.k a=12) (gW t h w c a m g p) (Cj h c a m g p)
 def gU:=((!decide (p.2.1=0))=true->∃(j:qV),GV.n j.2.2=0/\GV.s j.2.2=mkS []/\(GV.x j.2.2).1=noA/\(GV.x j.2.2).2.1=0/\(GV.x j.2.2).2.2=0/\RW j (j.2.1=p.2.1/\Um h (j.1=p.1/\jg t j/\(∀r,(vP h c a m g r)/\GV.ok p.2.2 r->GV.ok j.2.2 r)/\True)))/\((!decide (p.2.1=0))=false->gV w h t c a m g p)
 def gT:=((DN t h c a m J g)/\DN t h c a m J g)/\∀(B:qV),jg (DO h c a g) B->(∃H,(vP h c a m g H)/\GV.ok B.2.2 H)->gU w h t c a m g B
 def gS:=Ji (RX c g) (gT t h w c a m J g) (∀(R S U:Nat) (C:Option Addr) (V D:Nat),(∃I,(vP h c a m g I)/\length g.2.2<=D/\qgs I C (take (length g.2.2*nat_lit 5) (qa GV.cells g.2.2)))->∃(q:qV),GV.n q.2.2=0/\GV.s q.2.2=mkS []/\(GV.x q.2.2).1=C/\(GV.x q.2.2).2.1=length g.2.2/\(GV.x q.2.2).2.2=D/\RW q (q.2.1=0/\Um h (q.1=g.2.1/\jg w q/\(∀E,(vP h c a m g E)/\length g.2.2<=D/\qgs E C (take (length g.2.2*nat_lit 5) (qa GV.cells g.2.2))->GV.ok q.2.2 E)/\True)))
 def gR:=(∃(j:Nat×Int×List GV),t=t/\(↑j.1:Int)=0/\Um h (j.2.1=w/\XI c (length j.2.2=0/\XH a ((∀r,JS h c a m r->JS h c a m r)/\(∀u,JS h c a m u->GV.oks j.2.2 u)/\(Lf w c j)/\True))))/\∀(F:Nat×Int×List GV),Lf w c F->(∃K,vP h c a m F K)->gS t h w c a m J F
end
def zj0(n:Nat) (S:List AT) (x:SV) (all:Int) (a:AT) (g:GJ) (d:Int):qk4 P (qfa []) (qgc [(74,vW.below z91 n),(24,Kh)]) Tryz.f111 ((xO Ik).below yg (n+1)) (t_) ⟨S,x,all,a,g,d⟩=(yg (S,x,all,a,g,d)<n+1/\qx S/\a∈S/\Ik a g/\GJ.wf g/\(0<=all/\all<=2000)/\1<=d/\d<=20->(∃(p:Pub),JS x g a S p)->gR d x all g a S n):=by kernel_rfl
def zpe:=λn S x all a g d=>Eq.trans (zj0 n S x all a g d) (by delta Ji Jb Jt Jf JS Um XI XH Lf vP RX DO DN RW gW Cj gV gU gT gS gR;exact rfl)
section
variable (u:Int) (h:SV) (z:Int) (d:GJ) (c:AT) (o:List AT) (K:Nat) (a:Nat×Int×GV) (r:qV) (A:GV) (F:Prop) (w:Nat->Option Obj)
 abbrev JT:=True/\qd o h w/\AT.ok c w/\GJ.ok d w
 def Un:=h.1=h.1/\h.2.1=h.2.1/\h.2.2=h.2.2/\F
 def Lg:=GJ.k d=GJ.k d/\GJ.n d=GJ.n d/\GJ.s d=GJ.s d/\(GJ.y d).1=(GJ.y d).1/\(GJ.y d).2.1=(GJ.y d).2.1/\(GJ.y d).2.2=(GJ.y d).2.2/\(GJ.x d).1=(GJ.x d).1/\(GJ.x d).2.1=(GJ.x d).2.1/\(GJ.x d).2.2=(GJ.x d).2.2/\F
 def XJ:=AT.k c=AT.k c/\AT.nm c=AT.nm c/\(AT.al c).1=(AT.al c).1/\(AT.al c).2.1=(AT.al c).2.1/\(AT.al c).2.2=(AT.al c).2.2/\AT.it c=AT.it c/\(AT.sy c).1=(AT.sy c).1/\(AT.sy c).2.1=(AT.sy c).2.1/\(AT.sy c).2.2=(AT.sy c).2.2/\AT.hd c=AT.hd c/\AT.df c=AT.df c/\AT.sz c=AT.sz c/\(AT.f c).1=(AT.f c).1/\(AT.f c).2.1=(AT.f c).2.1/\(AT.f c).2.2=(AT.f c).2.2/\(AT.br c).1=(AT.br c).1/\(AT.br c).2.1=(AT.br c).2.1/\(AT.br c).2.2=(AT.br c).2.2/\F
 def Lh:=a.1<=length (GJ.l d)/\(u<=a.2.1/\a.2.1<=2000)/\length (GV.ks a.2.2)=length (GV.l a.2.2)/\length (GV.l a.2.2)<=a.1
 def vt:=(JT h d c o w)/\GV.ok a.2.2 w
 abbrev RY:=(↑a.1:Int)<(↑(GJ.y d).2.1:Int)
 abbrev DQ:=HM (T.n (T.n (T.n T.e (some (AO.cells 62 (some 0) false [AV.sv (int i64 (GJ.k d)),AV.sv (int i64 (GJ.n d)),AV.sv (string (GJ.s d)),AV.sv (slice (GJ.y d).1 (GJ.y d).2.1 (GJ.y d).2.2),AV.sv (slice (GJ.x d).1 (GJ.x d).2.1 (GJ.x d).2.2)])) T.e) (some (AO.cells (130:TypeId) (some 0) false [AV.sv (slice h.1 h.2.1 h.2.2),AV.sv (int i64 a.2.1)])) (T.n T.e (some (AO.cells (36:TypeId) (some 0) false [AV.sv (int u64 (GV.n a.2.2)),AV.sv (string (GV.s a.2.2)),AV.sv (slice (GV.x a.2.2).1 (GV.x a.2.2).2.1 (GV.x a.2.2).2.2),AV.sv (slice (GV.y a.2.2).1 (GV.y a.2.2).2.1 (GV.y a.2.2).2.2),AV.sv (int i64 (GV.b a.2.2))])) T.e)) none (T.n (T.n T.e (some (AO.cells 36 (some 0) false [AV.int u64 0,AV.str (List.map UInt8.toNat (Array.toList (ByteArray.data (mkS [])))),AV.nsl,AV.nsl,AV.int i64 0])) T.e) (some (AO.cells 55 (some 0) false [AV.sv (int i64 (AT.k c)),AV.sv (string (AT.nm c)),AV.sv (slice (AT.al c).1 (AT.al c).2.1 (AT.al c).2.2),AV.sv (int i64 (AT.it c)),AV.sv (slice (AT.sy c).1 (AT.sy c).2.1 (AT.sy c).2.2),AV.sv (bool (AT.hd c)),AV.sv (string (AT.df c)),AV.sv (int i64 (AT.sz c)),AV.sv (slice (AT.f c).1 (AT.f c).2.1 (AT.f c).2.2),AV.sv (slice (AT.br c).1 (AT.br c).2.1 (AT.br c).2.2)])) T.e))
 def DP:=(0<=(↑a.1:Int)/\RY d a)/\(GJ.y d).1≠noA/\∃(i:Int),∃(t:Int),∃j,∃v,∃(B:Nat),∃(G:Nat),∃L,∃(M:Nat),∃(i8:Nat),(∀N,vt h d c o a N->q37 N (adr (GJ.y d).1 (toNat (↑a.1:Int)*5)) [int i64 i,int i64 t,string j,slice v B G,slice L M i8])/\Jb (u+1)/\∃(g:xI),g.2.2.2.1=AT.it c/\GJ.k g.2.2.2.2.1=i/\GJ.n g.2.2.2.2.1=t/\GJ.s g.2.2.2.2.1=j/\(GJ.y g.2.2.2.2.1).1=v/\(GJ.y g.2.2.2.2.1).2.1=B/\(GJ.y g.2.2.2.2.1).2.2=G/\(GJ.x g.2.2.2.2.1).1=L/\(GJ.x g.2.2.2.2.1).2.1=M/\(GJ.x g.2.2.2.2.1).2.2=i8/\g.2.2.2.2.2=u+1/\g.2.1.1=h.1/\g.2.1.2.1=h.2.1/\g.2.1.2.2=h.2.2/\g.2.2.1=a.2.1/\(z91 g<K/\qx g.1/\(0<=g.2.2.2.1/\g.2.2.2.1<(↑(length g.1):Int))/\GJ.wf g.2.2.2.2.1/\(0<=g.2.2.1/\g.2.2.1<=2000)/\1<=g.2.2.2.2.2/\g.2.2.2.2.2<=21)/\(∀C,vt h d c o a C->qd g.1 g.2.1 C/\GJ.ok g.2.2.2.2.1 C)/\∀(m:qV),jg g.2.2.1 m->(∃H,(vt h d c o a H)/\GV.ok m.2.2 H)->∃(p:qV),u=u/\(↑a.1:Int)=(↑a.1:Int)/\p.2.1=m.2.1/\h.1=g.2.1.1/\h.2.1=g.2.1.2.1/\h.2.2=g.2.1.2.2/\p.1=m.1/\Lg d (GV.n a.2.2=GV.n a.2.2/\GV.s a.2.2=GV.s a.2.2/\(GV.x a.2.2).1=(GV.x a.2.2).1/\(GV.x a.2.2).2.1=(GV.x a.2.2).2.1/\(GV.x a.2.2).2.2=(GV.x a.2.2).2.2/\(GV.y a.2.2).1=(GV.y a.2.2).1/\(GV.y a.2.2).2.1=(GV.y a.2.2).2.1/\(GV.y a.2.2).2.2=(GV.y a.2.2).2.2/\GV.b a.2.2=GV.b a.2.2/\XJ c (GV.n p.2.2=GV.n m.2.2/\GV.s p.2.2=GV.s m.2.2/\(GV.x p.2.2).1=(GV.x m.2.2).1/\(GV.x p.2.2).2.1=(GV.x m.2.2).2.1/\(GV.x p.2.2).2.2=(GV.x m.2.2).2.2/\(GV.y p.2.2).1=(GV.y m.2.2).1/\(GV.y p.2.2).2.1=(GV.y m.2.2).2.1/\(GV.y p.2.2).2.2=(GV.y m.2.2).2.2/\GV.b p.2.2=GV.b m.2.2/\(∀D,(vt h d c o a D)/\GV.ok m.2.2 D->vt h d c o a D)/\(∀i16,(vt h d c o a i16)/\GV.ok m.2.2 i16->GV.ok p.2.2 i16)/\jg (DQ h d c a) p/\True))
 def ia:=Jb ((↑a.1:Int)+1)/\∃(i:Nat×Int×GV),u=u/\(↑i.1:Int)=(↑a.1:Int)+1/\Un h (i.2.1=r.1/\Lg d (GV.n i.2.2=GV.n A/\GV.s i.2.2=GV.s A/\(GV.x i.2.2).1=(GV.x A).1/\(GV.x i.2.2).2.1=(GV.x A).2.1/\(GV.x i.2.2).2.2=(GV.x A).2.2/\(GV.y i.2.2).1=(GV.y A).1/\(GV.y i.2.2).2.1=(GV.y A).2.1/\(GV.y i.2.2).2.2=(GV.y A).2.2/\GV.b i.2.2=GV.b A/\XJ c ((∀t,((vt h d c o a t)/\GV.ok r.2.2 t)/\GV.ok A t->JT h d c o t)/\(∀j,((vt h d c o a j)/\GV.ok r.2.2 j)/\GV.ok A j->GV.ok i.2.2 j)/\(Lh z d i)/\length (GJ.l d)- i.1<length (GJ.l d)- a.1/\True)))
 def h_:=(0<=(↑a.1:Int)/\(↑a.1:Int)<(↑(GJ.x d).2.1:Int))/\(GJ.x d).1≠noA/\∃i,(∀t,(vt h d c o a t)/\GV.ok r.2.2 t->q37 t (adr (GJ.x d).1 (toNat (↑a.1:Int)*1)) [string i])/\∃(j:GV×IV×GV),GV.n j.1=GV.n a.2.2/\GV.s j.1=GV.s a.2.2/\(GV.x j.1).1=(GV.x a.2.2).1/\(GV.x j.1).2.1=(GV.x a.2.2).2.1/\(GV.x j.1).2.2=(GV.x a.2.2).2.2/\(GV.y j.1).1=(GV.y a.2.2).1/\(GV.y j.1).2.1=(GV.y a.2.2).2.1/\(GV.y j.1).2.2=(GV.y a.2.2).2.2/\GV.b j.1=GV.b a.2.2/\j.2.1=i/\GV.n j.2.2=GV.n r.2.2/\GV.s j.2.2=GV.s r.2.2/\(GV.x j.2.2).1=(GV.x r.2.2).1/\(GV.x j.2.2).2.1=(GV.x r.2.2).2.1/\(GV.x j.2.2).2.2=(GV.x r.2.2).2.2/\(GV.y j.2.2).1=(GV.y r.2.2).1/\(GV.y j.2.2).2.1=(GV.y r.2.2).2.1/\(GV.y j.2.2).2.2=(GV.y r.2.2).2.2/\GV.b j.2.2=GV.b r.2.2/\(length (GV.ks j.1)=length (GV.l j.1)/\length (GV.l j.1)<1000000)/\(∀v,(vt h d c o a v)/\GV.ok r.2.2 v->GV.ok j.1 v/\GV.ok j.2.2 v)/\∀(B:GV),GV.pv B=PV.mk (GV.n j.1) (GV.s j.1) (zH j.2.1 (GV.ks j.1) (GV.pvs (GV.l j.1)) (GV.pv j.2.2)) (qO j.2.1 (GV.ks j.1)) (GV.b j.1)->(∃G,((vt h d c o a G)/\GV.ok r.2.2 G)/\GV.ok B G)->ia u h z d c o a r B
 def hZ:=Ji (AT.k c=12) (False) (h_ u h z d c o a r)
 def hY:=((!decide (r.2.1=0))=true->∃(i:qV),GV.n i.2.2=0/\GV.s i.2.2=mkS []/\(GV.x i.2.2).1=noA/\(GV.x i.2.2).2.1=0/\(GV.x i.2.2).2.2=0/\(GV.y i.2.2).1=noA/\(GV.y i.2.2).2.1=0/\(GV.y i.2.2).2.2=0/\GV.b i.2.2=0/\i.2.1=r.2.1/\Un h (i.1=r.1/\jg u i/\(∀t,(vt h d c o a t)/\GV.ok r.2.2 t->GV.ok i.2.2 t)/\True))/\((!decide (r.2.1=0))=false->hZ z h u d c o a r)
 def g_:=((DP u h d c o K a)/\DP u h d c o K a)/\∀(E:qV),jg (DQ h d c a) E->(∃I,(vt h d c o a I)/\GV.ok E.2.2 I)->hY z h u d c o a E
 def gZ:=Ji (RY d a) (g_ u h z d c o K a) (∃(q:qV),GV.n q.2.2=GV.n a.2.2/\GV.s q.2.2=GV.s a.2.2/\(GV.x q.2.2).1=(GV.x a.2.2).1/\(GV.x q.2.2).2.1=(GV.x a.2.2).2.1/\(GV.x q.2.2).2.2=(GV.x a.2.2).2.2/\(GV.y q.2.2).1=(GV.y a.2.2).1/\(GV.y q.2.2).2.1=(GV.y a.2.2).2.1/\(GV.y q.2.2).2.2=(GV.y a.2.2).2.2/\GV.b q.2.2=GV.b a.2.2/\q.2.1=0/\Un h (q.1=a.2.1/\jg z q/\(∀J,vt h d c o a J->GV.ok q.2.2 J)/\True))
 def gY:=(∃(i:Nat×Int×GV),u=u/\(↑i.1:Int)=0/\Un h (i.2.1=z/\Lg d (GV.n i.2.2=0/\GV.s i.2.2=mkS []/\(GV.x i.2.2).1=noA/\(GV.x i.2.2).2.1=0/\(GV.x i.2.2).2.2=0/\(GV.y i.2.2).1=noA/\(GV.y i.2.2).2.1=0/\(GV.y i.2.2).2.2=0/\GV.b i.2.2=0/\XJ c ((∀t,JT h d c o t->JT h d c o t)/\(∀j,JT h d c o j->GV.ok i.2.2 j)/\(Lh z d i)/\True))))/\∀(v:Nat×Int×GV),Lh z d v->(∃B,vt h d c o v B)->gZ u h z d c o K v
end
def zj1(n:Nat) (S:List AT) (x:SV) (all:Int) (a:AT) (g:GJ) (d:Int):qk4 P (qfa []) (qgc [(74,vW.below z91 n),(24,Kh)]) Tryz.f111 ((xO isMap).below yg (n+1)) (wPm) ⟨S,x,all,a,g,d⟩=(yg (S,x,all,a,g,d)<n+1/\qx S/\a∈S/\isMap a g/\GJ.wf g/\(0<=all/\all<=2000)/\1<=d/\d<=20->(∃(p:Pub),JT x g a S p)->gY d x all g a S n):=by kernel_rfl
def zpg:=λn S x all a g d=>Eq.trans (zj1 n S x all a g d) (by delta Ji Jb Jt Jf JT Un Lg XJ Lh vt RY DQ DP ia h_ hZ hY g_ gZ gY;exact rfl)
section
variable (p:Int) (h:SV) (q:Int) (c:GJ) (a:AT) (i:List AT) (U:Nat) (d:Nat×Int×List GV) (E:GJ) (x9:Int) (g:qV) (r:xI) (D:Bool) (Z:IV) (x14:Option Addr) (x15:Nat) (K L:Int) (M:IV) (N:Option Addr) (O Q:Nat) (R:Option Addr) (S T:Nat) (t:Prop) (v:Nat->Option Obj) (x27:GJ×IV)
 abbrev JU:=True/\qd i h v/\AT.ok a v/\GJ.ok c v
 def V1:=h.1=h.1/\h.2.1=h.2.1/\h.2.2=h.2.2/\t
 def YH:=GJ.k c=GJ.k c/\GJ.n c=GJ.n c/\GJ.s c=GJ.s c/\(GJ.y c).1=(GJ.y c).1/\(GJ.y c).2.1=(GJ.y c).2.1/\(GJ.y c).2.2=(GJ.y c).2.2/\(GJ.x c).1=(GJ.x c).1/\(GJ.x c).2.1=(GJ.x c).2.1/\(GJ.x c).2.2=(GJ.x c).2.2/\t
 def YG:=AT.k a=AT.k a/\AT.nm a=AT.nm a/\(AT.al a).1=(AT.al a).1/\(AT.al a).2.1=(AT.al a).2.1/\(AT.al a).2.2=(AT.al a).2.2/\AT.it a=AT.it a/\(AT.sy a).1=(AT.sy a).1/\(AT.sy a).2.1=(AT.sy a).2.1/\(AT.sy a).2.2=(AT.sy a).2.2/\AT.hd a=AT.hd a/\AT.df a=AT.df a/\AT.sz a=AT.sz a/\(AT.f a).1=(AT.f a).1/\(AT.f a).2.1=(AT.f a).2.1/\(AT.f a).2.2=(AT.f a).2.2/\(AT.br a).1=(AT.br a).1/\(AT.br a).2.1=(AT.br a).2.1/\(AT.br a).2.2=(AT.br a).2.2/\t
 def Li:=d.1<=length (AT.fs a)/\(p<=d.2.1/\d.2.1<=2000)/\length d.2.2=d.1
 def vC:=(JU h c a i v)/\GV.oks d.2.2 v
 abbrev R5:=(↑d.1:Int)<(↑(AT.f a).2.1:Int)
 def R1:=(GV.y g.2.2).1=noA/\(GV.y g.2.2).2.1=0/\(GV.y g.2.2).2.2=0/\GV.b g.2.2=0/\t
 def RZ:=GV.n g.2.2=0/\GV.s g.2.2=mkS []/\(GV.x g.2.2).1=noA/\(GV.x g.2.2).2.1=0/\(GV.x g.2.2).2.2=0/\R1 g t
 def R4:=(∀e,vC h c a i d e->vC h c a i d e)/\(∀j,vC h c a i d j->GJ.ok E j)/\GJ.wf E/\True
 def il:=((!D)=true->∃(e:qV),RZ e (e.2.1=7/\V1 h (e.1=d.2.1/\jg p e/\(∀j,vC h c a i d j->GV.ok e.2.2 j)/\True)))/\((!D)=false->∃(l:GJ),q=q/\(↑d.1:Int)=(↑d.1:Int)/\V1 h (d.2.1=d.2.1/\YH c (length d.2.2=length d.2.2/\YG a (Z=Z/\x14=x14/\U=U/\x15=x15/\x9=x9/\D=D/\K=K/\L=L/\M=M/\N=N/\O=O/\Q=Q/\R=R/\S=S/\T=T/\qa GV.cells d.2.2=qa GV.cells d.2.2/\GJ.k l=K/\GJ.n l=L/\GJ.s l=M/\(GJ.y l).1=N/\(GJ.y l).2.1=O/\(GJ.y l).2.2=Q/\(GJ.x l).1=R/\(GJ.x l).2.1=S/\(GJ.x l).2.2=T/\R4 h c a i d l))))
 abbrev xz:=Option.getD (qm x27.2 x27.1) zJ
 def R3:=h.1=r.2.1.1/\h.2.1=r.2.1.2.1/\h.2.2=r.2.1.2.2/\t
 def im:=length (qa GV.cells d.2.2)=length d.2.2*5/\(length d.2.2+nat_lit 1)*80<=140737488355328/\Jb ((↑d.1:Int)+1)/\∃(e:Nat×Int×List GV),p=p/\(↑e.1:Int)=(↑d.1:Int)+1/\R3 h r (e.2.1=g.1/\YH c (length e.2.2=length d.2.2+nat_lit 1/\YG a (qa GV.cells e.2.2=qa GV.cells d.2.2++[int u64 (GV.n g.2.2),string (GV.s g.2.2),slice (GV.x g.2.2).1 (GV.x g.2.2).2.1 (GV.x g.2.2).2.2,slice (GV.y g.2.2).1 (GV.y g.2.2).2.1 (GV.y g.2.2).2.2,int i64 (GV.b g.2.2)]/\(∀j,((vC h c a i d j)/\GJ.ok E j)/\GV.ok g.2.2 j->JU h c a i j)/\(∀l,((vC h c a i d l)/\GJ.ok E l)/\GV.ok g.2.2 l->GV.oks e.2.2 l)/\(Li q a e)/\length (AT.fs a)- e.1<length (AT.fs a)- d.1/\True)))
 def ik:=((!decide (g.2.1=0))=true->∃(e:qV),RZ e (e.2.1=g.2.1/\R3 h r (e.1=g.1/\jg p e/\(∀j,((vC h c a i d j)/\GJ.ok E j)/\GV.ok g.2.2 j->GV.ok e.2.2 j)/\True)))/\((!decide (g.2.1=0))=false->im q h p c a i d E g r)
 def ij:=Jb (p+1)/\∃(e:xI),e.2.2.2.1=q/\GJ.k e.2.2.2.2.1=GJ.k c/\GJ.n e.2.2.2.2.1=GJ.n c/\GJ.s e.2.2.2.2.1=GJ.s c/\(GJ.y e.2.2.2.2.1).1=(GJ.y c).1/\(GJ.y e.2.2.2.2.1).2.1=(GJ.y c).2.1/\(GJ.y e.2.2.2.2.1).2.2=(GJ.y c).2.2/\(GJ.x e.2.2.2.2.1).1=(GJ.x c).1/\(GJ.x e.2.2.2.2.1).2.1=(GJ.x c).2.1/\(GJ.x e.2.2.2.2.1).2.2=(GJ.x c).2.2/\e.2.2.2.2.2=p+1/\e.2.1.1=h.1/\e.2.1.2.1=h.2.1/\e.2.1.2.2=h.2.2/\e.2.2.1=d.2.1/\(z91 e<U/\qx e.1/\(0<=e.2.2.2.1/\e.2.2.2.1<(↑(length e.1):Int))/\GJ.wf e.2.2.2.2.1/\(0<=e.2.2.1/\e.2.2.1<=2000)/\1<=e.2.2.2.2.2/\e.2.2.2.2.2<=21)/\(∀j,(vC h E a i d j)/\GJ.ok c j->qd e.1 e.2.1 j/\GJ.ok e.2.2.2.2.1 j)/\∀(l:qV),jg e.2.2.1 l->(∃u,((vC h E a i d u)/\GJ.ok c u)/\GV.ok l.2.2 u)->ik x9 h p E a i d c l e
 def ig:=(0<=(↑d.1:Int)/\R5 a d)/\(AT.f a).1≠noA/\∃e,∃j,∃(l:Nat),∃(u:Nat),∃(G:Int),∃(i5:Bool),∃(i6:Int),∃(i7:Int),∃i8,∃i9,∃(w:Nat),∃(z:Nat),∃A,∃(B:Nat),∃(C:Nat),(∀V,vC h c a i d V->q37 V (adr (AT.f a).1 (toNat (↑d.1:Int)*9)) [string e,slice j l u,int i64 G,bool i5,int i64 i6,int i64 i7,string i8,slice i9 w z,slice A B C])/\∃(i16:GJ×IV),GJ.k i16.1=GJ.k c/\GJ.n i16.1=GJ.n c/\GJ.s i16.1=GJ.s c/\(GJ.y i16.1).1=(GJ.y c).1/\(GJ.y i16.1).2.1=(GJ.y c).2.1/\(GJ.y i16.1).2.2=(GJ.y c).2.2/\(GJ.x i16.1).1=(GJ.x c).1/\(GJ.x i16.1).2.1=(GJ.x c).2.1/\(GJ.x i16.1).2.2=(GJ.x c).2.2/\i16.2=e/\GJ.wf i16.1/\(∀W,vC h c a i d W->GJ.ok i16.1 W)/\(((!Option.isSome (qm i16.2 i16.1))=true->il p h q c a i l d G i5 e j u i6 i7 i8 i9 w z A B C)/\((!Option.isSome (qm i16.2 i16.1))=false->∃(m:GJ),q=q/\(↑d.1:Int)=(↑d.1:Int)/\V1 h (d.2.1=d.2.1/\YH c (length d.2.2=length d.2.2/\YG a (e=e/\j=j/\l=l/\u=u/\G=G/\i5=i5/\i6=i6/\i7=i7/\i8=i8/\i9=i9/\w=w/\z=z/\A=A/\B=B/\C=C/\qa GV.cells d.2.2=qa GV.cells d.2.2/\GJ.k m=GJ.k (xz i16)/\GJ.n m=GJ.n (xz i16)/\GJ.s m=GJ.s (xz i16)/\(GJ.y m).1=(GJ.y (xz i16)).1/\(GJ.y m).2.1=(GJ.y (xz i16)).2.1/\(GJ.y m).2.2=(GJ.y (xz i16)).2.2/\(GJ.x m).1=(GJ.x (xz i16)).1/\(GJ.x m).2.1=(GJ.x (xz i16)).2.1/\(GJ.x m).2.2=(GJ.x (xz i16)).2.2/\R4 h c a i d m)))))/\∀(F:GJ),GJ.wf F->(∃X,(vC h c a i d X)/\GJ.ok F X)->ij q h G F a i U d c p
 def ie:=Ji (R5 a d) (ig p h q c a i U d) (∀(i37 i38 i39:Nat) (H:Option Addr) (i41 I:Nat),(∃Y,(vC h c a i d Y)/\length d.2.2<=I/\qgs Y H (take (length d.2.2*nat_lit 5) (qa GV.cells d.2.2)))->∃(o:qV),GV.n o.2.2=0/\GV.s o.2.2=mkS []/\(GV.x o.2.2).1=H/\(GV.x o.2.2).2.1=length d.2.2/\(GV.x o.2.2).2.2=I/\R1 o (o.2.1=0/\V1 h (o.1=d.2.1/\jg p o/\(∀J,(vC h c a i d J)/\length d.2.2<=I/\qgs J H (take (length d.2.2*nat_lit 5) (qa GV.cells d.2.2))->GV.ok o.2.2 J)/\True)))
 def ib:=(∃(e:Nat×Int×List GV),p=p/\(↑e.1:Int)=0/\V1 h (e.2.1=q/\YH c (length e.2.2=0/\YG a ((∀j,JU h c a i j->JU h c a i j)/\(∀l,JU h c a i l->GV.oks e.2.2 l)/\(Li q a e)/\True))))/\∀(u:Nat×Int×List GV),Li q a u->(∃G,vC h c a i u G)->ie q h p c a i U u
end
def zpv(n:Nat) (S:List AT) (x:SV) (all:Int) (a:AT) (g:GJ) (d:Int):qk4 P (qfa [(66,z64)]) (qgc [(74,vW.below z91 n)]) Tryz.f112 ((xO isRec).below yg (n+1)) (wRe) ⟨S,x,all,a,g,d⟩=(yg (S,x,all,a,g,d)<n+1/\qx S/\a∈S/\isRec a g/\GJ.wf g/\(0<=all/\all<=2000)/\1<=d/\d<=20->(∃(p:Pub),JU x g a S p)->ib d x all g a S n):=by kernel_rfl
def zyg:=λn S x all a g d=>Eq.trans (zpv n S x all a g d) (by delta Ji Jb Jt Jf JU V1 YH YG Li vC R5 R1 RZ R4 il xz R3 im ik ij ig ie ib;exact rfl)
section
variable {p:Pub}
def yE{a:AT} (h:a.ok p):a.al.2.1=a.als.length/\a.sy.2.1=a.sys.length/\a.f.2.1=a.fs.length/\a.br.2.1=a.brs.length:=⟨h.1.1,h.2.1.1,h.2.2.1.1,h.2.2.2.1.1⟩
variable {g:GJ}
def z58(h:g.ok p):g.y.2.1=g.l.length/\g.x.2.1=g.nm.length:=by rw[GJ.ok_eq]at h;exact⟨h.1.1,h.2.1.1⟩
def VB(h:g.ok p) {j:Nat} (hj:j<g.l.length):(g.y.1≠noA/\q37 p (adr g.y.1 (j*5)) g.l[j].cells)/\g.l[j].ok p:=by rw[GJ.ok_eq]at h;exact⟨z17 Ze (by decide) h.1 hj,GJ.oks_at h.2.2 hj⟩
def zuj(h:g.ok p) {j:Nat} (hj:j<g.nm.length):g.x.1≠noA/\q37 p (adr g.x.1 (j*1)) [.string g.nm[j]]:=by rw[GJ.ok_eq]at h;exact z17 jV (by decide) h.2.1 hj
def Qe:∀{l m:List GV} {p:Pub},GV.oks l p->GV.oks m p->GV.oks (l++m) p:=λh1 h2=>GV.oks_iff.2 λv hv=>(List.mem_append.1 hv).elim (GV.oks_iff.1 h1 v) (GV.oks_iff.1 h2 v)
def yF{v:GV} (h:v.ok p):GV.oks [v] p:=GV.oks_iff.2 λw hw=>by simp at hw;subst hw;exact h
def zV:GV:= .mk 0 (mkS []) (none,0,0) [] (none,0,0) [] 0
def jD(p:Pub):zV.ok p:=by unfold zV GV.ok;exact⟨qY,qY,by unfold GV.oks;trivial⟩
def zj9(k:IV) (ks:List IV) (l:List PV) (w:PV) (h:ks.length=l.length):(qO k ks).length=(zH k ks l w).length/\(zH k ks l w).length<=l.length+1:=by
 have hi:=zup k ks;unfold qO zH;split
 ·rw[List.length_set];omega
 ·simp only[List.length_append,List.length_take,List.length_cons,List.length_drop];omega
def zpf(n:Nat) (hv:q1q P 74 (vW.below z91 n)):q1q P 111 ((xO Ik).below yg (n+1)):=by
 refine zt (qcn qjr) (qde (qgo hv (qgo Hs qjq))) (W:=t_) Tryz.func111 λ⟨S,(x:SV),(all:Int),a,g,(d:Int)⟩=>(zpe n S x all a g d).mpr ?_;rintro⟨hmu,hS,haS,hk,hg,⟨hal0,hal1⟩,hd1,hd2⟩ ⟨p,_,hx,ha,hgo⟩;have hmu:2*(25- d).toNat<n+1:=hmu;have hk:a.k=12:=hk;obtain⟨gl,gnl⟩:=z58 hgo;have hgw:=hg;rw[GJ.wf_eq]at hgw;obtain⟨_,hgl,_,_,_,_,hgs⟩:=hgw;have hat:=(hS.2 a haS).2.1 (.inl hk);simp only[qH,exists_const,forall_const,Int.toNat_natCast,gl,gnl];refine⟨⟨⟨0,all,[]⟩,rfl,rfl,rfl,λq hq=>GV.oks_iff.2 λv h=>(by cases h),Nat.zero_le _,⟨by show all<=all;omega,hal1⟩,rfl⟩,?_⟩;rintro⟨j,al,fs⟩ ⟨hj,⟨hl0,hl1⟩,hfl⟩ ⟨p1,hp1,hfs1⟩;simp only at hj hl0 hl1 hfl hfs1⊢;refine⟨λhlt=>⟨⟨?xa,?xb⟩,?_⟩,λhge=> ?_⟩;case xa|xb=>
  have hjl:j<g.l.length:=by omega
  have hw:g.l[j].wf:=GJ.wfs_at hgs hjl;refine⟨⟨by omega,by omega⟩,(VB hgo hjl).1.1,g.l[j].k,g.l[j].n,g.l[j].s,g.l[j].y.1,g.l[j].y.2.1,g.l[j].y.2.2,g.l[j].x.1,g.l[j].x.2.1,g.l[j].x.2.2,λq hq=>(VB hq.1.2.2 hjl).1.2,⟨by omega,by omega⟩,⟨S,x,al,a.it,g.l[j],d+1⟩,rfl,rfl,rfl,rfl,rfl,rfl,rfl,rfl,rfl,rfl,rfl,rfl,rfl,rfl,rfl,⟨by show 2*(25- (d+1)).toNat<n;omega,hS,hat,hw,⟨by show 0<=al;omega,hl1⟩,by show 1<=d+1;omega,by show d+1<=21;omega⟩,λq hq=>⟨hq.1.1,(VB hq.1.2.2 hjl).2⟩,?_⟩;rintro⟨a2,e,w⟩ hb _;exact⟨⟨a2,e,w⟩,rfl,rfl,rfl,rfl,rfl,rfl,rfl,rfl,rfl,rfl,rfl,rfl,rfl,rfl,λq hq=>hq.1,λq hq=>hq.2,hb⟩
 ·rintro⟨a2,e,w⟩ hb _;have hb:al<=a2/\a2<=2001/\(e=0->a2<=2000):=hb;simp only;refine⟨λhe=>⟨⟨a2,e,zV⟩,rfl,rfl,rfl,rfl,rfl,rfl,rfl,rfl,rfl,rfl,rfl,⟨by show all<=a2;omega,hb.2⟩,λq hq=>jD q⟩,λhe=>⟨λ_=>⟨qv zr fs,by omega,⟨by omega,by omega⟩,⟨j+1,a2,fs++[w]⟩,by show((j+1:Nat):Int)=_;omega,rfl,by simp,by rw[zx];rfl,λq hq=>hq.1.1,λq hq=>Qe hq.1.2 (yF hq.2),⟨by show j+1<=_;omega,⟨by show all<=a2;omega,hb.2.2 he⟩,by show(fs++[w]).length=j+1;simp[hfl]⟩,by show _- (j+1)<_;omega⟩,λh=>absurd hk h⟩⟩
 ·intro a6 c _;refine⟨⟨al,0, .mk 0 (mkS []) (a6,fs.length,c) fs (none,0,0) [] 0⟩,rfl,rfl,rfl,rfl,rfl,rfl,rfl,rfl,rfl,rfl,rfl,⟨by show all<=al;omega,by show al<=2001;omega,λ_=>hl1⟩,λq hq=> ?_⟩;have h2:=hq.2.2;rw[List.take_of_length_le (by rw[qv zr];exact Nat.le_refl _)]at h2;show GV.ok _ q;unfold GV.ok;exact⟨⟨rfl,hq.2.1,h2⟩,qY,hq.1.2⟩
def zph(n:Nat) (hv:q1q P 74 (vW.below z91 n)):q1q P 111 ((xO isMap).below yg (n+1)):=by
 refine zt (qcn qjr) (qde (qgo hv (qgo Hs qjq))) (W:=wPm) Tryz.func111 λ⟨S,(x:SV),(all:Int),a,g,(d:Int)⟩=>(zpg n S x all a g d).mpr ?_;rintro⟨hmu,hS,haS,hk,hg,⟨hal0,hal1⟩,hd1,hd2⟩ ⟨p,_,hx,ha,hgo⟩;have hmu:2*(25- d).toNat<n+1:=hmu;obtain⟨hk,hgk⟩:=hk;obtain⟨gl,gnl⟩:=z58 hgo;have hgw:=hg;rw[GJ.wf_eq]at hgw;obtain⟨_,hgl,_,hnsz,_,hnl,hgs⟩:=hgw;have hnl:=hnl hgk;have hat:=(hS.2 a haS).2.1 (.inr hk);simp only[qH,exists_const,forall_const,Int.toNat_natCast,gl,gnl];refine⟨⟨⟨0,all,zV⟩,rfl,rfl,rfl,rfl,rfl,rfl,rfl,rfl,rfl,rfl,rfl,λq hq=>jD q,Nat.zero_le _,⟨by show all<=all;omega,hal1⟩,rfl,Nat.zero_le _⟩,?_⟩;rintro⟨j,al,v⟩ ⟨hj,⟨hl0,hl1⟩,hvk,hvl⟩ ⟨p1,hp1,hv1⟩;simp only at hj hl0 hl1 hvk hvl hv1⊢;refine⟨λhlt=>⟨⟨?xa,?xb⟩,?_⟩,λhge=> ?_⟩;case xa|xb=>
  have hjl:j<g.l.length:=by omega
  have hw:g.l[j].wf:=GJ.wfs_at hgs hjl;refine⟨⟨by omega,by omega⟩,(VB hgo hjl).1.1,g.l[j].k,g.l[j].n,g.l[j].s,g.l[j].y.1,g.l[j].y.2.1,g.l[j].y.2.2,g.l[j].x.1,g.l[j].x.2.1,g.l[j].x.2.2,λq hq=>(VB hq.1.2.2 hjl).1.2,⟨by omega,by omega⟩,⟨S,x,al,a.it,g.l[j],d+1⟩,rfl,rfl,rfl,rfl,rfl,rfl,rfl,rfl,rfl,rfl,rfl,rfl,rfl,rfl,rfl,⟨by show 2*(25- (d+1)).toNat<n;omega,hS,hat,hw,⟨by show 0<=al;omega,hl1⟩,by show 1<=d+1;omega,by show d+1<=21;omega⟩,λq hq=>⟨hq.1.1,(VB hq.1.2.2 hjl).2⟩,?_⟩;rintro⟨a2,e,w⟩ hb _;exact⟨⟨a2,e,w⟩,rfl,rfl,rfl,rfl,rfl,rfl,rfl,rfl,rfl,rfl,rfl,rfl,rfl,rfl,λq hq=>hq.1,λq hq=>hq.2,hb⟩
 ·rintro⟨a2,e,w⟩ hb _;have hb:al<=a2/\a2<=2001/\(e=0->a2<=2000):=hb;simp only;refine⟨λhe=>⟨⟨a2,e,zV⟩,rfl,rfl,rfl,rfl,rfl,rfl,rfl,rfl,rfl,rfl,rfl,⟨by show all<=a2;omega,hb.2⟩,λq hq=>jD q⟩,λhe=>⟨λh=>by omega,λ_=> ?_⟩⟩;have hjn:j<g.nm.length:=by omega
  refine⟨⟨by omega,by omega⟩,(zuj hgo hjn).1,g.nm[j],λq hq=>(zuj hq.1.1.2.2 hjn).2,⟨v,g.nm[j],w⟩,rfl,rfl,rfl,rfl,rfl,rfl,rfl,rfl,rfl,rfl,rfl,rfl,rfl,rfl,rfl,rfl,rfl,rfl,rfl,⟨hvk,by show v.l.length<_;omega⟩,λq hq=>⟨hq.1.2,hq.2⟩,?_⟩;intro b hb2 _;have hb2:b.pv=PV.mk v.n v.s (zH g.nm[j] v.ks (GV.pvs v.l) w.pv) (qO g.nm[j] v.ks) v.b:=hb2;rw[GV.pv_eq]at hb2;injection hb2 with _ _ e1 e2 _
  have hpl:=zj9 g.nm[j] v.ks (GV.pvs v.l) w.pv (by rw[GV.pvs_len];exact hvk);rw[←e1,←e2,GV.pvs_len,GV.pvs_len]at hpl;exact⟨⟨by omega,by omega⟩,⟨j+1,a2,b⟩,by show((j+1:Nat):Int)=_;omega,rfl,rfl,rfl,rfl,rfl,rfl,rfl,rfl,rfl,rfl,λq hq=>hq.1.1.1,λq hq=>hq.2,⟨by show j+1<=_;omega,⟨by show all<=a2;omega,hb.2.2 he⟩,hpl.1,by show b.l.length<=j+1;omega⟩,by show _- (j+1)<_;omega⟩
 ·exact⟨⟨al,0,v⟩,rfl,rfl,rfl,rfl,rfl,rfl,rfl,rfl,rfl,rfl,rfl,⟨by show all<=al;omega,by show al<=2001;omega,λ_=>hl1⟩,λq hq=>hq.2⟩
def zyh(n:Nat) (hv:q1q P 74 (vW.below z91 n)):q1q P 112 ((xO isRec).below yg (n+1)):=by
 refine zt (qcn (qgp Ju qjr)) (qde (qgo hv qjq)) (W:=wRe) Tryz.func112 λ⟨S,(x:SV),(all:Int),a,g,(d:Int)⟩=>(zyg n S x all a g d).mpr ?_;rintro⟨hmu,hS,haS,hk,hg,⟨hal0,hal1⟩,hd1,hd2⟩ ⟨p,_,hx,ha,hgo⟩;have hmu:2*(25- d).toNat<n+1:=hmu;obtain⟨gl,gnl⟩:=z58 hgo;obtain⟨_,_,afl,_⟩:=yE ha;have hgf:=hS.2 a haS;have hf30:=hgf.2.2.2.2.2.2.2.1;have hfg:=hgf.2.2.2.2.1;simp only[qH,exists_const,forall_const,Int.toNat_natCast,gl,gnl,afl];refine⟨⟨⟨0,all,[]⟩,rfl,rfl,rfl,λq hq=>GV.oks_iff.2 λv h=>(by cases h),Nat.zero_le _,⟨by show all<=all;omega,hal1⟩,rfl⟩,?_⟩;rintro⟨j,al,fs⟩ ⟨hj,⟨hl0,hl1⟩,hfl⟩ ⟨p1,hp1,hfs1⟩;simp only at hj hl0 hl1 hfl hfs1⊢;refine⟨λhlt=> ?_,λhge=> ?_⟩
 ·have hjf:j<a.fs.length:=by omega
  have hff:=hfg _ (List.getElem_mem hjf);have fok:=λq (h:a.ok q)=>h.2.2.2.2 a.fs[j] (List.getElem_mem hjf);generalize hfj:a.fs[j]=f at*;have fat:=λq (h:a.ok q)=>(show a.f.1≠noA/\q37 q (adr a.f.1 (j*9)) f.cells by rw[←hfj];exact wB h hjf);obtain⟨cw,cok⟩:=wx f.nm hg;refine⟨⟨by omega,by omega⟩,(fat p ha).1,f.nm,f.al.1,f.al.2.1,f.al.2.2,f.ty,f.hd,f.df.k,f.df.n,f.df.s,f.df.y.1,f.df.y.2.1,f.df.y.2.2,f.df.x.1,f.df.x.2.1,f.df.x.2.2,λq hq=>(fat q hq.1.2.1).2,⟨g,f.nm⟩,rfl,rfl,rfl,rfl,gl,rfl,rfl,gnl,rfl,rfl,hg,λq hq=>hq.1.2.2,?_⟩;simp only;generalize (qm f.nm g).getD zJ=cj at*;refine⟨⟨λhno=>⟨λ_=>⟨⟨al,7,zV⟩,rfl,rfl,rfl,rfl,rfl,rfl,rfl,rfl,rfl,rfl,rfl,⟨by show all<=al;omega,by show al<=2001;omega,λ_=>hl1⟩,λq hq=>jD q⟩,λ_=>⟨f.df,rfl,rfl,rfl,rfl,rfl,rfl,rfl,rfl,rfl,λq hq=>(fok q hq.1.2.1).2,hff.2⟩⟩,λhyes=>⟨cj,rfl,rfl,rfl,rfl,rfl,rfl,rfl,rfl,rfl,λq hq=>cok q hq.1.2.2,cw⟩⟩,?_⟩;intro c hcw _;refine⟨⟨by omega,by omega⟩,⟨S,x,al,f.ty,c,d+1⟩,rfl,rfl,rfl,rfl,rfl,rfl,rfl,rfl,rfl,rfl,rfl,rfl,rfl,rfl,rfl,⟨by show 2*(25- (d+1)).toNat<n;omega,hS,hff.1,hcw,⟨by show 0<=al;omega,hl1⟩,by show 1<=d+1;omega,by show d+1<=21;omega⟩,λq hq=>⟨hq.1.1.1,hq.2⟩,?_⟩;rintro⟨a2,e,w⟩ hb _;have hb:al<=a2/\a2<=2001/\(e=0->a2<=2000):=hb;simp only[true_and];refine⟨λhe=>⟨⟨a2,e,zV⟩,rfl,rfl,rfl,rfl,rfl,rfl,rfl,rfl,rfl,rfl,rfl,⟨by show all<=a2;omega,hb.2⟩,λq hq=>jD q⟩,λhe=>⟨qv zr fs,by omega,⟨by omega,by omega⟩,⟨j+1,a2,fs++[w]⟩,by show((j+1:Nat):Int)=_;omega,rfl,by simp,by rw[zx];rfl,λq hq=>hq.1.1.1,λq hq=>Qe hq.1.1.2 (yF hq.2),⟨by show j+1<=_;omega,⟨by show all<=a2;omega,hb.2.2 he⟩,by show(fs++[w]).length=j+1;simp[hfl]⟩,by show _- (j+1)<_;omega⟩⟩
 ·intro a6 c _;refine⟨⟨al,0, .mk 0 (mkS []) (a6,fs.length,c) fs (none,0,0) [] 0⟩,rfl,rfl,rfl,rfl,rfl,rfl,rfl,rfl,rfl,rfl,rfl,⟨by show all<=al;omega,by show al<=2001;omega,λ_=>hl1⟩,λq hq=> ?_⟩;have h2:=hq.2.2;rw[List.take_of_length_le (by rw[qv zr];exact Nat.le_refl _)]at h2;show GV.ok _ q;unfold GV.ok;exact⟨⟨rfl,hq.2.1,h2⟩,qY,hq.1.2⟩
end
def zf8(n:Nat) (hv:q1q P 74 (vW.below z91 n)):q1q P 111 ((xO HH).below yg (n+1)):=by
 have hA:=zpf n hv;have hM:=zph n hv;refine⟨hA.1,hA.2.1,hA.2.2.1,λs=> ?_⟩;obtain⟨h0,e0,rA⟩:=hA.2.2.2 s;obtain⟨h1,e1,rM⟩:=hM.2.2.2 s;have e:h1=h0:=Option.some.inj (e1.symm.trans e0);subst e;refine⟨h1,e0,λF I w vs a1 a2 a3 a4 hp a5 a6 a7=> ?_⟩;obtain⟨m,p1,p2,p3,p4⟩:=hp;rcases p3 with h|h
 ·exact rA F I w vs a1 a2 a3 a4 ⟨m,p1,p2,h,p4⟩ a5 a6 a7
 ·exact rM F I w vs a1 a2 a3 a4 ⟨m,p1,p2,h,p4⟩ a5 a6 a7
def jgk(n:Nat) (hv:q1q P 74 (vW.below z91 n)):q1q P 74 (vW.below z91 (n+1)):=by
 refine zt (qcn qjr) (qde (qgo hv (qgo (zf8 n hv) (qgo (zyh n hv) (qgo zog (qgo zhk (qgo j74 qjq))))))) (W:=wVl) Tryz.func74 λ⟨S,(x:SV),(all:Int),(t:Int),g,(d:Int)⟩=>(jgj n S x all t g d).mpr ?_;rintro⟨hmu,hS,⟨ht0,ht1⟩,hg,⟨hal0,hal1⟩,hd1,hd2⟩ ⟨p,_,hx,hgo⟩;have hmu:2*(25- d).toNat<n+1:=hmu;obtain⟨gl,gnl⟩:=z58 hgo;obtain⟨j,rfl⟩:=Int.eq_ofNat_of_zero_le ht0;have hj:j<S.length:=by omega
 have sl:x.2.1=S.length:=hx.1.1;have hat:=λq (hq:qd S x q/\g.ok q)=>wC hq.1 hj;have hao:=λq (hq:qd S x q/\g.ok q)=>hq.1.2 S[j] (List.getElem_mem hj);have hgd:=hS.2 S[j] (List.getElem_mem hj);simp only[qH,exists_const,forall_const,Int.toNat_natCast,sl];refine⟨⟨by omega,by omega⟩,λh20=>⟨⟨all+1,3,zV⟩,rfl,rfl,rfl,rfl,rfl,rfl,rfl,rfl,rfl,rfl,rfl,⟨by show all<=all+1;omega,by show all+1<=2001;omega,λh=>(by have h:(3:Int)=0:=h;omega)⟩,λq hq=>jD q⟩,λh20=>⟨λh2=>⟨⟨all+1,3,zV⟩,rfl,rfl,rfl,rfl,rfl,rfl,rfl,rfl,rfl,rfl,rfl,⟨by show all<=all+1;omega,by show all+1<=2001;omega,λh=>(by have h:(3:Int)=0:=h;omega)⟩,λq hq=>jD q⟩,λh2=> ?_⟩⟩;refine⟨⟨by omega,by omega⟩,(hat p ⟨hx,hgo⟩).1,S[j].k,S[j].nm,S[j].al.1,S[j].al.2.1,S[j].al.2.2,S[j].it,S[j].sy.1,S[j].sy.2.1,S[j].sy.2.2,S[j].hd,S[j].df,S[j].sz,S[j].f.1,S[j].f.2.1,S[j].f.2.2,S[j].br.1,S[j].br.2.1,S[j].br.2.2,λq hq=>(hat q hq).2,?_⟩;have hmem:=List.getElem_mem hj;obtain⟨_,syl,_,brl⟩:=yE (hao p ⟨hx,hgo⟩);generalize S[j]=a at*;simp only[syl,brl];have ret:∀(nn:Int) (ss:IV) (ee:Int),∃b:qV,b.snd.snd.n=nn/\b.snd.snd.s=ss/\b.snd.snd.x.fst=noA/\b.snd.snd.x.snd.fst=0/\b.snd.snd.x.snd.snd=0/\b.snd.snd.y.fst=noA/\b.snd.snd.y.snd.fst=0/\b.snd.snd.y.snd.snd=0/\b.snd.snd.b=0/\b.snd.fst=ee/\b.fst=all+1/\jg all b/\∀(p:Nat->Option Obj),qd S x p/\g.ok p->b.snd.snd.ok p:=λnn ss ee=>⟨⟨all+1,ee, .mk nn ss (none,0,0) [] (none,0,0) [] 0⟩,rfl,rfl,rfl,rfl,rfl,rfl,rfl,rfl,rfl,rfl,rfl,⟨by show all<=all+1;omega,by show all+1<=2001;omega,λ_=>by show all+1<=2000;omega⟩,λq _=>by show GV.ok _ q;unfold GV.ok;exact⟨qY,qY,by unfold GV.oks;trivial⟩⟩;have q1:∀{k b gk:Int},a.k=k->bq k b gk a.k=decide (gk=b):=λ{k b gk} h=>by unfold bq;rw[decide_eq_true h];rfl
 have q0:∀{k b gk:Int},¬a.k=k->bq k b gk a.k=false:=λ{k b gk} h=>by unfold bq;rw[decide_eq_false h];rfl
 have qk:∀{k b:Int},bq k b g.k a.k=true->a.k=k/\g.k=b:=λ{k b} h=>by unfold bq at h;rw[Bool.and_eq_true,decide_eq_true_eq,decide_eq_true_eq]at h;exact h
 have gn:=hg;rw[GJ.wf_eq]at gn;obtain⟨gsz,_,_,_,⟨gn0,gn1⟩,_,_⟩:=gn;refine⟨⟨⟨λh=>q1 h,λh=>q0 h⟩,λ_=>ret _ _ _,λ_=>⟨⟨λh=>q1 h,λh=>q0 h⟩,λ_=>ret _ _ _,λ_=>⟨⟨⟨λh=>⟨λh2=>⟨λh3=> ?_,λh3=> ?_⟩,λh2=> ?_⟩,λh=> ?_⟩,λh=> ?_,λh=>⟨λh2=> ?_,λh2=> ?_⟩⟩,λ_=>ret _ _ _,λ_=>⟨⟨λh=>q1 h,λh=>q0 h⟩,λ_=>⟨g.n,rfl,⟨gn0,gn1⟩,λb hb=>⟨⟨by omega,by omega⟩,ret _ _ _⟩⟩,λ_=>⟨⟨λh=>q1 h,λh=>q0 h⟩,λ_=>⟨g.n,rfl,⟨gn0,gn1⟩,λb hb=>ret _ _ _⟩,λ_=>⟨⟨λh=>q1 h,λh=>q0 h⟩,λ_=>ret _ _ _,λ_=>⟨⟨λh=> ?_,λh=>⟨λh2=> ?_,λh2=> ?_⟩⟩,λ_=>⟨g.s,rfl,by omega,λb hb=>⟨⟨λ_=>⟨λ_=>⟨_,rfl⟩,λ_=>⟨_,rfl⟩⟩,λ_=>⟨_,rfl⟩⟩,λs hs=>ret _ _ _⟩⟩,λ_=>⟨⟨λh=>q1 h,λh=>q0 h⟩,λhE=>⟨⟨0,rfl⟩,λi hi=> ?_⟩,λ_=>⟨⟨⟨λh=>q1 h,λh=>q0 h⟩,λh=> ?_,λh=>⟨λh2=> ?_,λh2=> ?_⟩⟩,λhP=> ?_,λ_=>⟨⟨λh=>q1 h,λh=>q0 h⟩,λhR=> ?_,λ_ h14=>⟨⟨?xa,?xb⟩,?_⟩⟩⟩⟩⟩⟩⟩⟩⟩⟩⟩,ret _ _ _⟩
 ·unfold bI;rw[decide_eq_true h,decide_eq_true h2,decide_eq_true h3];rfl
 ·unfold bI;rw[decide_eq_true h,decide_eq_true h2,decide_eq_false h3];rfl
 ·unfold bI;rw[decide_eq_true h,decide_eq_false h2];rfl
 ·unfold bI;rw[decide_eq_false h];rfl
 ·unfold bN;rw[h];rfl
 ·unfold bN;rw[h,Bool.false_or];exact q1 h2
 ·unfold bN;rw[h,Bool.false_or];exact q0 h2
 ·unfold bT;rw[decide_eq_true h,Bool.true_or,Bool.true_and]
 ·unfold bT;rw[decide_eq_true h2,Bool.or_true,Bool.true_and]
 ·unfold bT;rw[decide_eq_false h,decide_eq_false h2];rfl
 ·have hi':i<a.sys.length:=by omega
  have ty:=λq (hq:qd S x q/\g.ok q)=>WX (hao q hq).2.1 hi';have h30:=hgd.2.2.2.2.2.2.2.2.2;exact⟨⟨by omega,by omega⟩,(ty p ⟨hx,hgo⟩).1,a.sys[i],λq hq=>(ty q hq).2,λ_=>ret _ _ _,λ_=>⟨⟨by omega,by omega⟩,i+1,by omega,by omega⟩⟩
 ·unfold bP;rw[h];rfl
 ·unfold bP;rw[h,Bool.false_or];exact q1 h2
 ·unfold bP;rw[h,Bool.false_or];exact q0 h2
 ·have hpar:HH a g:=by
   unfold bP at hP;rw[Bool.or_eq_true]at hP;rcases hP with h|h
   ·exact .inl (qk h).1
   ·exact .inr (qk h)
  refine⟨⟨S,x,all+1,a,g,d⟩,rfl,rfl,rfl,rfl,rfl,rfl,rfl,syl,rfl,rfl,rfl,rfl,rfl,rfl,rfl,rfl,brl,rfl,rfl,rfl,rfl,rfl,rfl,rfl,rfl,rfl,rfl,rfl,rfl,sl,rfl,rfl,⟨hmu,hS,hmem,hpar,hg,⟨by show 0<=all+1;omega,by show all+1<=2000;omega⟩,hd1,by show d<=20;omega⟩,λq hq=>⟨hq.1,hao q hq,hq.2⟩,?_⟩;rintro⟨a2,e,w⟩ hb _;have hb:all+1<=a2/\a2<=2001/\(e=0->a2<=2000):=hb;exact⟨⟨a2,e,w⟩,rfl,rfl,rfl,rfl,rfl,rfl,rfl,rfl,rfl,rfl,rfl,sl.symm,rfl,rfl,⟨by show all<=a2;omega,hb.2⟩,λq hq=>hq.2⟩
 ·have hrec:isRec a g:=(qk hR).1;refine⟨⟨S,x,all+1,a,g,d⟩,rfl,rfl,rfl,rfl,rfl,rfl,rfl,syl,rfl,rfl,rfl,rfl,rfl,rfl,rfl,rfl,brl,rfl,rfl,rfl,rfl,rfl,rfl,rfl,rfl,rfl,rfl,rfl,rfl,sl,rfl,rfl,⟨hmu,hS,hmem,hrec,hg,⟨by show 0<=all+1;omega,by show all+1<=2000;omega⟩,hd1,by show d<=20;omega⟩,λq hq=>⟨hq.1,hao q hq,hq.2⟩,?_⟩;rintro⟨a2,e,w⟩ hb _;have hb:all+1<=a2/\a2<=2001/\(e=0->a2<=2000):=hb;exact⟨⟨a2,e,w⟩,rfl,rfl,rfl,rfl,rfl,rfl,rfl,rfl,rfl,rfl,rfl,sl.symm,rfl,rfl,⟨by show all<=a2;omega,hb.2⟩,λq hq=>hq.2⟩
 case xa|xb=>
  have h0:0<a.brs.length:=List.length_pos_iff.2 (hgd.2.2.2.1 h14);have hbr:=hgd.2.2.1 _ (List.getElem_mem h0);refine⟨⟨by omega,by omega⟩,(z22 (hao p ⟨hx,hgo⟩) h0).1,a.brs[0],λq hq=>(z22 (hao q hq) h0).2,⟨by omega,by omega⟩,⟨S,x,all+1,a.brs[0],g,d+1⟩,rfl,rfl,rfl,rfl,rfl,rfl,rfl,rfl,rfl,rfl,rfl,rfl,sl,rfl,rfl,⟨by show 2*(25- (d+1)).toNat<n;omega,hS,hbr,hg,⟨by show 0<=all+1;omega,by show all+1<=2000;omega⟩,by show 1<=d+1;omega,by show d+1<=21;omega⟩,λq hq=>hq,?_⟩;rintro⟨a2,e,w⟩ hb _;have hb:all+1<=a2/\a2<=2001/\(e=0->a2<=2000):=hb;exact⟨⟨a2,e,w⟩,rfl,rfl,sl.symm,rfl,rfl,rfl,rfl,rfl,rfl,rfl,rfl,rfl,rfl,rfl,λq hq=>hq.1,λq hq=>hq.2,⟨by show all<=a2;omega,hb.2⟩⟩
 ·rintro⟨a2,e,w⟩ hb _ b s1 _;refine⟨⟨a2,e, .mk 0 (mkS []) (some ⟨b,s1+0,none⟩,1,1) [w] (none,0,0) [] 0⟩,rfl,rfl,rfl,rfl,rfl,rfl,rfl,rfl,rfl,rfl,rfl,hb,λq hq=> ?_⟩;show GV.ok _ q;unfold GV.ok;refine⟨⟨rfl,Nat.le_refl _, .inr ⟨⟨b,s1+0,none⟩,rfl,rfl,λi v hi=> ?_⟩⟩,qY,yF hq.1.2⟩;rw[qa,qa,List.append_nil]at hi;exact hq.2 i v hi
def zv8:∀n,q1q P 74 (vW.below z91 n)
 |0=>CtR.below_zero (by decide) (by decide) (Sen.enters_of Tryz.func74 (by kernel_rfl)) λs=>rfl
 |n+1=>jgk n (zv8 n)
def j7u:q1q P 74 vW:=CtR.of_below zv8
def zx5(x:SV) (t:Int):qk3 P (λ_=>none) Tryz.f30 KG (λ_=>{}) ⟨x,t⟩=(True->(decide ((0:Int)<=t)=true->(decide ((0:Int)<=t)&&decide (t<(↑(Prod.fst (Prod.snd x)):Int)))=decide (t<(↑(Prod.fst (Prod.snd x)):Int))/\True)/\(decide ((0:Int)<=t)=false->(decide ((0:Int)<=t)&&decide (t<(↑(Prod.fst (Prod.snd x)):Int)))=false/\True)):=by kernel_rfl
section
variable (d:Int) (w:SV) (a:List AT) (c:GV) (z:Nat) (u:Int) (B:IV) (C:Option Addr) (D:Nat) (A:Int) (e:Option Addr) (g h:Nat) (i:Bool) (j:IV) (t:Int) (l:Option Addr) (m o:Nat) (p:Option Addr) (q r F:Nat) (Q:Prop) (R:(Option Addr×Nat×Nat)×Int)
 abbrev R9:= !(decide (0<=R.2)&&decide (R.2<(↑R.1.2.1:Int)))
 def V5:=PV.fits a d (GV.pv c)=false/\True
 def kh:=w.1=w.1/\w.2.1=w.2.1/\w.2.2=w.2.2/\GV.n c=GV.n c/\GV.s c=GV.s c/\(GV.x c).1=(GV.x c).1/\(GV.x c).2.1=(GV.x c).2.1/\(GV.x c).2.2=(GV.x c).2.2/\(GV.y c).1=(GV.y c).1/\(GV.y c).2.1=(GV.y c).2.1/\(GV.y c).2.2=(GV.y c).2.2/\GV.b c=GV.b c/\d=d/\B=B/\C=C/\z=z/\D=D/\u=u/\e=e/\g=g/\h=h/\i=i/\j=j/\A=A/\l=l/\m=m/\o=o/\p=p/\q=q/\r=r/\(∀E,True/\qd a w E/\GV.ok c E->True/\qd a w E/\GV.ok c E)/\True/\True
 def Zo:=qS (AT.k (qe a d))=false/\nB (AT.k (qe a d))=true/\qq (AT.k (qe a d))=false/\Q
 abbrev V4:=(-2147483648:Int)<=IntKind.wrap i64 (GV.n c)
 def JV:=decide (V4 c)=decide (V4 c)
 def Cn:=JV c/\JV c/\JV c/\Ji (V4 c) (∃(E:Unit),ja a (qe a d) c=decide (IntKind.wrap i64 (GV.n c)<2147483648)/\Zo d a (kh u w a c z A B C D t e g h i j l m o p q r)) (∃(v:Unit),ja a (qe a d) c=false/\Zo d a (kh u w a c z A B C D t e g h i j l m o p q r))
 def Cm:=Ji (V4 c) (Cn d w a c z u B C D A e g h i j t l m o p q r) (JV c/\JV c/\JV c/\Ji (V4 c) (∃(G:Unit),False) (∃(S:Unit),ja a (qe a d) c=false/\Zo d a (kh u w a c z A B C D t e g h i j l m o p q r)))
 def Cs:=Ji (AT.k (qe a d)=4) (∃(E:Unit),u=u/\xM (AT.k (qe a d))=decide (AT.k (qe a d)=4)/\kh u w a c z A B C D t e g h i j l m o p q r) (∃(v:Unit),u=u/\xM (AT.k (qe a d))=decide (u=6)/\kh u w a c z A B C D t e g h i j l m o p q r)
 def Lk:=qS (AT.k (qe a d))=true/\nB (AT.k (qe a d))=false/\qq (AT.k (qe a d))=false/\Q
 def Cl:=Ji (d=11) (∃(E:Unit),ja a (qe a u) c=decide ((↑(size (GV.s c)):Int)=A)/\Lk u a (kh d w a c z t B C D A e g h i j l m o p q r)) (∃(v:U7),v.2.1.1=w.1/\v.2.1.2.1=w.2.1/\v.2.1.2.2=w.2.2/\AT.k v.2.2.1=d/\AT.nm v.2.2.1=B/\(AT.al v.2.2.1).1=C/\(AT.al v.2.2.1).2.1=z/\(AT.al v.2.2.1).2.2=D/\AT.it v.2.2.1=t/\(AT.sy v.2.2.1).1=e/\(AT.sy v.2.2.1).2.1=g/\(AT.sy v.2.2.1).2.2=h/\AT.hd v.2.2.1=i/\AT.df v.2.2.1=j/\AT.sz v.2.2.1=A/\(AT.f v.2.2.1).1=l/\(AT.f v.2.2.1).2.1=m/\(AT.f v.2.2.1).2.2=o/\(AT.br v.2.2.1).1=p/\(AT.br v.2.2.1).2.1=q/\(AT.br v.2.2.1).2.2=r/\GV.n v.2.2.2=GV.n c/\GV.s v.2.2.2=GV.s c/\(GV.x v.2.2.2).1=(GV.x c).1/\(GV.x v.2.2.2).2.1=(GV.x c).2.1/\(GV.x v.2.2.2).2.2=(GV.x c).2.2/\(GV.y v.2.2.2).1=(GV.y c).1/\(GV.y v.2.2.2).2.1=(GV.y c).2.1/\(GV.y v.2.2.2).2.2=(GV.y c).2.2/\GV.b v.2.2.2=GV.b c/\(KL v<F+1/\small v.1/\ui v.1/\length (AT.fs v.2.2.1)<1000000/\PV.sm (GV.pv v.2.2.2)/\qq (AT.k v.2.2.1)=true)/\(∀G,True/\qd a w G/\GV.ok c G->qd v.1 v.2.1 G/\AT.ok v.2.2.1 G/\GV.ok v.2.2.2 G)/\∃(S:Unit),ja a (qe a u) c=zS v.1 v.2.2.1 v.2.2.2/\qS (AT.k (qe a u))=false/\nB (AT.k (qe a u))=false/\qq (AT.k (qe a u))=true/\kh d w a c z t B C D A e g h i j l m o p q r)
 def Ck:=Ji (d=8) (GV.s c=GV.s c/\size (GV.s c)<9223372036854775808/\∃(E:Unit),ja a (qe a u) c=qu (GV.s c)/\Lk u a (kh d w a c z A B C D t e g h i j l m o p q r)) (Cl d w a c z u B C D t e g h i j A l m o p q r F)
 def iB:=Ji (d=7) (∃(E:Unit),ja a (qe a u) c=true/\Lk u a (kh d w a c z A B C D t e g h i j l m o p q r)) (Ck d w a c z u B C D A e g h i j t l m o p q r F)
 def iA:=Ji (d=10) (∃(E:Unit),ja a (qe a u) c=decide (GV.n c<IntKind.wrap u64 (↑z:Int))/\Zo u a (kh d w a c D A B C g t e z h i j l m o p q r)) (iB d w a c D u B C g A e z h i j t l m o p q r F)
 def iz:=Ji (d=5) (∃(E:Unit),ja a (qe a u) c=decide (GV.n c<4294967296)/\Zo u a (kh d w a c z A B C D t e g h i j l m o p q r)) (iA d w a c g u B C z A e D h i j t l m o p q r F)
 def iw:=(xM (AT.k (qe a d))=true->∃(E:Unit),ja a (qe a d) c=true/\Zo d a (kh u w a c z A B C D t e g h i j l m o p q r))/\(xM (AT.k (qe a d))=false->iz u w a c z d B C D A e g h i j t l m o p q r F)
 def iv:=((∃(E:Unit),d=d/\decide (AT.k (qe a u)=4)=decide (d=4)/\kh d w a c z A B C D t e g h i j l m o p q r)/\∀(v:Unit),True->Cs u w a c z d B C D A e g h i j t l m o p q r)/\∀(T:Unit),True->iw u w a c z d B C D A e g h i j t l m o p q r F
 def iu:=Ji (d=3) (Cm u w a c z d B C D A e g h i j t l m o p q r) (iv d w a c z u B C D A e g h i j t l m o p q r F)
 def ir:=Ji (d=2) (∃(E:Unit),ja a (qe a u) c=decide (GV.n c<=1)/\Zo u a (kh d w a c z A B C D t e g h i j l m o p q r)) (iu d w a c z u B C D A e g h i j t l m o p q r F)
 def Lj:=ja a (qe a d) c=ja a (qe a d) c/\qS (AT.k (qe a d))=qS (AT.k (qe a d))/\nB (AT.k (qe a d))=nB (AT.k (qe a d))/\Q
 def R6:=((!decide (d=14))=true->∃(E:Unit),Lj u a c (yP (qe a u) c= !decide (GV.b c=0)/\qq (AT.k (qe a u))=qq (AT.k (qe a u))/\kh d w a c z A B C D t e g h i j l m o p q r))/\((!decide (d=14))=false->∃(v:Unit),Lj u a c (yP (qe a u) c=false/\qq (AT.k (qe a u))=qq (AT.k (qe a u))/\kh d w a c z A B C D t e g h i j l m o p q r))
 def Cp:=Ji (0<(↑(GV.y c).2.1:Int)) (∃(E:Unit),Lj d a c (yP (qe a d) c=true/\qq (AT.k (qe a d))=qq (AT.k (qe a d))/\kh u w a c z A B C D t e g h i j l m o p q r)) (R6 u w a c z d B C D A e g h i j t l m o p q r)
 def R8:=(qq (AT.k (qe a d))=true->PV.fits a d (GV.pv c)=true/\True)/\(qq (AT.k (qe a d))=false->PV.fits a d (GV.pv c)=decide ((↑(GV.x c).2.1:Int)=0)/\True)
 def Cv:=Ji (GV.s c=mkS []) (R8 d a c) (V5 d a c)
 def R7:=(qS (AT.k (qe a d))=true->R8 d a c)/\(qS (AT.k (qe a d))=false->Cv d a c)
 def Cu:=Ji (GV.n c=0) (R7 d a c) (V5 d a c)
 def Cr:=(nB (AT.k (qe a d))=true->R7 d a c)/\(nB (AT.k (qe a d))=false->Cu d a c)
 def Cq:=(ja a (qe a d) c=true->Cr d a c)/\(ja a (qe a d) c=false->V5 d a c)
 def Co:=(yP (qe a d) c=true->V5 d a c)/\(yP (qe a d) c=false->Cq d a c)
 def iy:=(((!decide (d=13))=true->Cp u w a c z d B C D A e g h i j t l m o p q r)/\((!decide (d=13))=false->R6 d w a c z u B C D A e g h i j t l m o p q r))/\∀(U:Unit),True->Co u a c
 def iq:=(0<=d/\d<(↑w.2.1:Int))/\w.1≠noA/\∃(E:Int),∃v,∃G,∃(S:Nat),∃(T:Nat),∃(U:Int),∃V,∃(W:Nat),∃(i8:Nat),∃(X:Bool),∃H,∃(I:Int),∃J,∃(K:Nat),∃(L:Nat),∃M,∃(i16:Nat),∃(N:Nat),(∀O,True/\qd a w O/\GV.ok c O->q37 O (adr w.1 (toNat d*10)) [int i64 E,string v,slice G S T,int i64 U,slice V W i8,bool X,string H,int i64 I,slice J K L,slice M i16 N])/\(Ji (E=1) (∃(Y:Unit),ja a (qe a d) c=true/\qS (AT.k (qe a d))=false/\nB (AT.k (qe a d))=false/\qq (AT.k (qe a d))=false/\kh E w a c S U v G T I V W i8 X H J K L M i16 N) (ir E w a c S d v G T U V W i8 X H I J K L M i16 N z))/\∀(Z:Unit),True->iy E w a c S d v G T U V W i8 X H I J K L M i16 N
end
def zhq(n:Nat) (S:List AT) (x:SV) (t:Int) (v:GV):qk3 P (qfa [(30,KG),(59,Qh),(79,Ha.below KL (n+1))]) Tryz.f40 (Jx.below Km (n+1)) (zv9) ⟨S,x,t,v⟩=(Km (S,x,t,v)<n+1/\small S/\ui S/\PV.sm (GV.pv v)->(∃(p:Pub),True/\qd S x p/\GV.ok v p)->∃(s:(Option Addr×Nat×Nat)×Int),s.1.1=x.1/\s.1.2.1=x.2.1/\s.1.2.2=x.2.2/\s.2=t/\True/\((R9 s)=true->V5 t S v)/\((R9 s)=false->iq t x S v n)):=by kernel_rfl
def zo8:=λn S x t v=>Eq.trans (zhq n S x t v) (by delta Ji Jt Jf R9 V5 kh Zo V4 JV Cn Cm Cs Lk Cl Ck iB iA iz iw iv iu ir Lj R6 Cp R8 Cv R7 Cu Cr Cq Co iy iq;exact rfl)
section
variable (g:SV) (a:GV) (c:AT) (d:List AT) (C:Prop) (e D:Nat) (j:jO) (L:Int) (p:IV) (E F:Option Addr) (G H:Nat) (I:Int) (J:Nat) (q:Nat->Option Obj)
 abbrev uv:=True/\qd d g q/\AT.ok c q/\GV.ok a q
 abbrev yO:=(↑(GV.x a).2.1:Int)
 def wO:=g.1=g.1/\g.2.1=g.2.1/\g.2.2=g.2.2/\GV.n a=GV.n a/\GV.s a=GV.s a/\(GV.x a).1=(GV.x a).1/\(GV.x a).2.1=(GV.x a).2.1/\(GV.x a).2.2=(GV.x a).2.2/\(GV.y a).1=(GV.y a).1/\(GV.y a).2.1=(GV.y a).2.1/\(GV.y a).2.2=(GV.y a).2.2/\GV.b a=GV.b a/\AT.k c=AT.k c/\AT.nm c=AT.nm c/\(AT.al c).1=(AT.al c).1/\(AT.al c).2.1=(AT.al c).2.1/\(AT.al c).2.2=(AT.al c).2.2/\AT.it c=AT.it c/\(AT.sy c).1=(AT.sy c).1/\(AT.sy c).2.1=(AT.sy c).2.1/\(AT.sy c).2.2=(AT.sy c).2.2/\AT.hd c=AT.hd c/\AT.df c=AT.df c/\AT.sz c=AT.sz c/\(AT.f c).1=(AT.f c).1/\(AT.f c).2.1=(AT.f c).2.1/\(AT.f c).2.2=(AT.f c).2.2/\(AT.br c).1=(AT.br c).1/\(AT.br c).2.1=(AT.br c).2.1/\(AT.br c).2.2=(AT.br c).2.2/\(∀h,uv g a c d h->uv g a c d h)/\C
 def Uq:=AT.k c≠14/\vY c (length (GV.l a)) (GV.ks a) (GV.b a)=true
 def CA:=((!decide ((yO a)=(↑(AT.f c).2.1:Int)))=true->zS d c a=false/\True)/\((!decide ((yO a)=(↑(AT.f c).2.1:Int)))=false->∃(h:Unit),wO g a c d ((Uq a c)/\True))
 abbrev JX:=(↑(GV.y a).2.1:Int)
 abbrev V6:=e<=length (GV.ks a)/\(zo (GV.ks a)=if e=0 then zo (GV.ks a)else zo (drop (e- 1) (GV.ks a)))/\C
 def Tb:=(∀h,uv g a c d h->q37 h (adr (GV.y a).1 (toNat (↑e:Int)*1)) [string p])
 def Ta:=((!qu p)=true->zS d c a=false/\True)/\((!qu p)=false->False)
 def CE:=(!qu p)= !qu p/\(!qu p)= !qu p/\(!qu p)= !qu p/\Ta a c d p
 def jE:=decide (0<(↑e:Int))=decide (0<(↑e:Int))
 abbrev Uo:=Jb ((↑e:Int)+1)
 def Lm:=length (GV.ks a)- e<length (GV.ks a)- D/\True
 def uu:=decide (0<=GV.b a)=decide (0<=GV.b a)
 abbrev JW:=GV.b a<(↑(AT.br c).2.1:Int)
 def JY:=decide (JW a c)=decide (JW a c)
 def yN:=decide ((yO a)=1)=decide ((yO a)=1)
 def Ln:=yN a/\yN a/\yN a/\yN a/\yN a/\C
 def R_:=j.2.1.1=g.1/\j.2.1.2.1=g.2.1/\j.2.1.2.2=g.2.2/\C
 def R':=GV.n j.2.2.2=L/\GV.s j.2.2.2=p/\(GV.x j.2.2.2).1=E/\(GV.x j.2.2.2).2.1=e/\(GV.x j.2.2.2).2.2=D/\(GV.y j.2.2.2).1=F/\(GV.y j.2.2.2).2.1=G/\(GV.y j.2.2.2).2.2=H/\GV.b j.2.2.2=I/\(Km j<J/\small j.1/\ui j.1/\PV.sm (GV.pv j.2.2.2))/\(∀h,uv g a c d h->qd j.1 j.2.1 h/\GV.ok j.2.2.2 h)/\C
 def iJ:=Ln a ((0<=GV.b a/\JW a c)/\(AT.br c).1≠noA/\yN a/\∃(h:Int),(∀o,uv g a c d o->q37 o (adr (AT.br c).1 (toNat (GV.b a)*1)) [int i64 h])/\yN a/\yN a/\yN a/\((0:Int)<=0/\0<(yO a))/\(GV.x a).1≠noA/\yN a/\∃(r:Int),∃t,∃u,∃(w:Nat),∃(z:Nat),∃A,∃(i8:Nat),∃(B:Nat),∃(i:Int),(∀v,uv g a c d v->q37 v (adr (GV.x a).1 ((0:Nat)*5)) [int u64 r,string t,slice u w z,slice A i8 B,int i64 i])/\yN a/\∃(m:jO),R_ g (m.2.2.1=h/\R' g a c d (Ji ((yO a)=1) (zS d c a=PV.fits m.1 m.2.2.1 (GV.pv m.2.2.2)/\True) (zS d c a=false/\True)) w z m r t u A i8 B i e) m)
 def CB:=yN a/\Ln a (Ln a (Ji ((yO a)=1) (False) (zS d c a=false/\True)))
 def iI:=Ji ((yO a)=1) (iJ g a c d e) (CB a c d)
 def iH:=JY a c/\JY a c/\JY a c/\Ji (JW a c) (iI g a c d e) (zS d c a=false/\True)
 def CC:=JY a c/\JY a c/\JY a c/\Ji (JW a c) (False) (zS d c a=false/\True)
 abbrev iG:=Ji (JW a c) (iH g a c d e) (CC a c d)
 def iE:=uu a/\uu a/\uu a/\uu a/\uu a/\Ji (0<=GV.b a) (iG g a c d e) (zS d c a=false/\True)
 def CD:=uu a/\uu a/\uu a/\uu a/\uu a/\Ji (0<=GV.b a) (False) (zS d c a=false/\True)
 def iD:=Ji (0<=GV.b a) (iE g a c d e) (CD a c d)
 def iC:=Ji (AT.k c=14) (iD g a c d e) (∃(K:Unit),wO g a c d ((Uq a c)/\True))
 def Ll:=e<=length (GV.l a)/\PV.fitL d (qo c (GV.b a)) e (drop e (GV.pvs (GV.l a)))=PV.fitL d (qo c (GV.b a)) 0 (GV.pvs (GV.l a))
 def Cy:=(0<=(↑e:Int)/\(↑e:Int)<(↑(AT.f c).2.1:Int))/\(AT.f c).1≠noA/\∃(h:Int),(∀o,uv g a c d o->q37 o (Addr.add (adr (AT.f c).1 (toNat (↑e:Int)*9)) 2) [int i64 h])/\∃(r:Unit),qo c (GV.b a) (toNat (↑e:Int))=h/\(↑e:Int)=(↑e:Int)/\wO g a c d (True/\True)
 def Cz:=Uo e/\∃(h:Nat),(↑h:Int)=(↑e:Int)+1/\wO g a c d ((Ll a c d h)/\length (GV.l a)- h<length (GV.l a)- e/\True)
 def Cx:=(0<=(↑e:Int)/\(↑e:Int)<(yO a))/\(GV.x a).1≠noA/\∃(h:Int),∃o,∃r,∃(t:Nat),∃(u:Nat),∃w,∃(z:Nat),∃(A:Nat),∃(i8:Int),(∀B,uv g a c d B->q37 B (adr (GV.x a).1 (toNat (↑e:Int)*5)) [int u64 h,string o,slice r t u,slice w z A,int i64 i8])/\∃(i:jO),R_ g (i.2.2.1=qo c (GV.b a) (toNat (↑e:Int))/\R' g a c d (((!PV.fits i.1 i.2.2.1 (GV.pv i.2.2.2))=true->zS d c a=false/\True)/\((!PV.fits i.1 i.2.2.1 (GV.pv i.2.2.2))=false->Cz g a c d e)) t u i h o r w z A i8 D) i
 def Cw:=(Ji (AT.k c=9) (Cy g a c d e) (∃(t:Unit),qo c (GV.b a) (toNat (↑e:Int))=AT.it c/\(↑e:Int)=(↑e:Int)/\wO g a c d (True/\True)))/\∀(u:Unit),True->Cx g a c d e D
 def iL:=Ji ((↑e:Int)<(yO a)) (Cw g a c d e D) (zS d c a=true/\True)
 def iK:=(∃(h:Nat),(↑h:Int)=0/\wO g a c d ((Ll a c d h)/\True))/\∀(o:Nat),Ll a c d o->iL g a c d o e
end
def zi3(n:Nat) (S:List AT) (x:SV) (a:AT) (v:GV):qk3 P (qfa [(59,Qh),(40,Jx.below Km n)]) Tryz.f79 (Ha.below KL (n+1)) (zvc) ⟨S,x,a,v⟩=(KL (S,x,a,v)<n+1/\small S/\ui S/\length (AT.fs a)<1000000/\PV.sm (GV.pv v)/\qq (AT.k a)=true->(∃(p:Pub),uv x v a S p)->(Ji (AT.k a=9) (CA x v a S) (Ji (AT.k a=13) (((!decide ((yO v)=(JX v)))=true->zS S a v=false/\True)/\((!decide ((yO v)=(JX v)))=false->(∃(s:Nat),(↑s:Int)=0/\wO x v a S ((V6 v (∀(h:0<s) (h2:s<=length (GV.ks v)),qu (GV.ks v)[s- 1]=true) s)/\True))/\∀(s:Nat),(V6 v (∀(h:0<s) (h2:s<=length (GV.ks v)),qu (GV.ks v)[s- 1]=true) s)->Ji ((↑s:Int)<(JX v)) ((0<=(↑s:Int)/\(↑s:Int)<(JX v))/\(GV.y v).1≠noA/\∃(s_1:IV),Tb x v a S s s_1/\s_1=s_1/\size s_1<9223372036854775808/\((!qu s_1)=true->CE v a S s_1)/\((!qu s_1)=false->(!qu s_1)= !qu s_1/\(!qu s_1)= !qu s_1/\Ji (0<(↑s:Int)) (jE s/\jE s/\jE s/\(0<=(↑s:Int)/\(↑s:Int)<(JX v))/\(GV.y v).1≠noA/\jE s/\∃(s_2:IV),Tb x v a S s s_2/\jE s/\jE s/\jE s/\jE s/\Jb ((↑s:Int)- 1)/\jE s/\(0<=(↑s:Int)- 1/\(↑s:Int)- 1<(JX v))/\(GV.y v).1≠noA/\jE s/\∃(s_3:IV),(∀(p:Pub),uv x v a S p->q37 p (adr (GV.y v).1 (toNat ((↑s:Int)- 1)*1)) [string s_3])/\jE s/\(!qu s_1)= !qu s_1/\Ji (0<(↑s:Int)) (((!qu s_1)=true->zS S a v=false/\True)/\((!qu s_1)=false->((qdg s_2 s_3||decide (s_2=s_3))=true->zS S a v=false/\True)/\((qdg s_2 s_3||decide (s_2=s_3))=false->Uo s/\∃(s_4:Nat),(↑s_4:Int)=(↑s:Int)+1/\wO x v a S ((V6 v (∀(h:0<s_4) (h2:s_4<=length (GV.ks v)),qu (GV.ks v)[s_4- 1]=true) s_4)/\Lm v s_4 s)))) (((!qu s_1)=true->zS S a v=false/\True)/\((!qu s_1)=false->Uo s/\∃(s_4:Nat),(↑s_4:Int)=(↑s:Int)+1/\wO x v a S ((V6 v (∀(h:0<s_4) (h2:s_4<=length (GV.ks v)),qu (GV.ks v)[s_4- 1]=true) s_4)/\Lm v s_4 s)))) (jE s/\jE s/\jE s/\jE s/\jE s/\jE s/\jE s/\jE s/\jE s/\jE s/\jE s/\(!qu s_1)= !qu s_1/\Ji (0<(↑s:Int)) (Ta v a S s_1) (((!qu s_1)=true->zS S a v=false/\True)/\((!qu s_1)=false->Uo s/\∃(s_2:Nat),(↑s_2:Int)=(↑s:Int)+1/\wO x v a S ((V6 v (∀(h:0<s_2) (h2:s_2<=length (GV.ks v)),qu (GV.ks v)[s_2- 1]=true) s_2)/\Lm v s_2 s)))))) (∃(s:Unit),wO x v a S ((Uq v a)/\True)))) (iC x v a S n)))/\∀(s:Unit),Uq v a->iK x v a S n):=by kernel_rfl
def zoq:=λn S x a v=>Eq.trans (zi3 n S x a v) (by delta Ji Jb Jt Jf uv yO wO Uq CA JX V6 Tb Ta CE jE Uo Lm uu JW JY yN Ln R_ R' iJ CB iI iH CC iG iE CD iD iC Ll Cy Cz Cx Cw iL iK;exact rfl)
def GZ:q4p P 30 KG:=by
 refine qF jz (W:=λ_=>{}) Tryz.func30 λ⟨(x:SV),(t:Int)⟩=>(zx5 x t).mpr ?_;intro _;simp only[qH,Int.toNat_natCast];refine⟨λh=> ?_,λh=> ?_⟩
 ·rw[decide_eq_true h];rfl
 ·rw[decide_eq_false h];rfl
def Ns:∀x y:List UInt8,(Op.bytesLess x y||decide (x=y))= !Op.bytesLess y x
  | [],[]=>by simp[Op.bytesLess]
  | [],b::y=>by simp[Op.bytesLess]
  |a::x,[]=>by simp[Op.bytesLess]
  | a ::x,b::y=>by
    have ih:=Ns x y;rw[Op.bytesLess,Op.bytesLess];have tri:a<b\/a=b\/b<a:=by
      rcases Nat.lt_trichotomy a.toNat b.toNat with h|h|h
      · exact .inl (UInt8.lt_iff_toNat_lt.2 h)
      · exact .inr (.inl (UInt8.toNat_inj.1 h))
      · exact .inr (.inr (UInt8.lt_iff_toNat_lt.2 h))
    rcases tri with h|h|h
    · have h2:¬b<a:=UInt8.lt_asymm h;have h3:¬b=a:=λe=>(by subst e;exact UInt8.lt_irrefl _ h);simp[h,h2,h3]
    · subst h;have h2:¬a<a:=UInt8.lt_irrefl a;simp[h2];rw[←ih]
    · have h2:¬a<b:=UInt8.lt_asymm h;have h3:¬a=b:=λe=>(by subst e;exact UInt8.lt_irrefl _ h);simp[h,h2,h3]
def uk(x y:IV):(qdg x y=true\/x=y)↔qdg y x=false:=by
 have h:=Ns x.toList y.toList;have e:=qi5 x y;unfold qdg;by_cases hxy:x=y
 ·have:x.toList=y.toList:=by rw[hxy]
  rw[decide_eq_true this,Bool.or_true]at h;simp[hxy];rw[hxy]at h;simpa using h.symm
 ·have:¬x.toList=y.toList:=λg=>by rw[g]at e;simp at e;exact hxy e
  rw[decide_eq_false this,Bool.or_false]at h;rw[h];simp[hxy]
def zor (n:Nat) (hf:q4p P 40 (Jx.below Km n)):q4p P 79 (Ha.below KL (n+1)):=by
  refine qF (qcn (qgp z9d (qgp hf qjr))) (W:=zvc) Tryz.func79 λ⟨S,(x:SV),a,v⟩=>(zoq n S x a v).mpr ?_;rintro⟨hmu,hS,hkS,haf,hv,hq⟩ ⟨p,_,hx,ha,hvo⟩;have hmu:SizeOf.sizeOf v<n+1:=hmu;have xl:=GV.x_len hvo;have yl:=GV.y_len hvo;have fl:a.f.2.1=a.fs.length:=ha.2.2.1.1;have bl:a.br.2.1=a.brs.length:=ha.2.2.2.1.1;have hvs:=hv;rw[GV.sm_eq]at hvs;obtain⟨_,_,vl,kl,hsz,_⟩:=hvs;have txs:∀q,v.ok q->qc qp v.y v.ks q:=λq h=>by rw[GV.ok_eq]at h;exact h.2.1
  simp only[qH,exists_const,forall_const,Int.toNat_natCast,xl,yl,fl,bl,Bool.or_eq_true,Bool.or_eq_false_iff];have bad:vY a v.l.length v.ks v.b=false->zS S a v=false:=λh=>by unfold zS;rw[h];rfl
  have child:∀{j:Nat} (hj:j<v.l.length),SizeOf.sizeOf v.l[j]<n:=λ{j} hj=>by have h1:=NL hj;have:SizeOf.sizeOf v.l<SizeOf.sizeOf v:=(by cases v;simp[GV.l];omega);omega
  have fdrop:∀{j:Nat} (hj:j<v.l.length),PV.fitL S (qo a v.b) j ((GV.pvs v.l).drop j)=(PV.fits S (qo a v.b j) (v.l[j]).pv&&PV.fitL S (qo a v.b) (j+1) ((GV.pvs v.l).drop (j+1))):=λ{j} hj=>by have:=zhp (S:=S) (f:=qo a v.b) (l:=GV.pvs v.l) (j:=j) (by rw[GV.pvs_len];exact hj);rw[Zg hj]at this;exact this
  have fend:PV.fitL S (qo a v.b) v.l.length ((GV.pvs v.l).drop v.l.length)=true:=by rw[List.drop_of_length_le (by rw[GV.pvs_len];exact Nat.le_refl _),PV.fitL]
  have ok9:a.k=9->vY a v.l.length v.ks v.b=decide (v.l.length=a.fs.length):=λh=>by unfold vY;rw[if_pos h]
  have ok14:a.k=14->vY a v.l.length v.ks v.b=decide (0<=v.b/\v.b<a.brs.length/\v.l.length=1):=λh=>by unfold vY;rw[if_neg (by omega),if_pos h]
  have ok13:a.k=13->vY a v.l.length v.ks v.b=(decide (v.l.length=v.ks.length)&&zo v.ks):=λh=>by unfold vY;rw[if_neg (by omega),if_neg (by omega),if_pos h]
  have ok12:¬a.k=9->¬a.k=13->¬a.k=14->vY a v.l.length v.ks v.b=true:=λh1 h2 h3=>by unfold vY;rw[if_neg h1,if_neg h3,if_neg h2]
  refine⟨⟨λh9=>⟨λh=>bad (by rw[ok9 h9];exact decide_eq_false (by omega)),λh=>⟨by omega,by rw[ok9 h9];exact decide_eq_true (by omega)⟩⟩,λh9=>⟨λh13=>⟨λh=>bad (by rw[ok13 h13,decide_eq_false (by omega)];rfl),λh=>⟨⟨0,rfl,Nat.zero_le _,rfl,λh=>absurd h (by omega)⟩,?_⟩⟩,λh13=>⟨λh14=> ?_,λh14=>⟨h14,ok12 h9 h13 h14⟩⟩⟩⟩,?_⟩
  · rintro j ⟨hj,hk,hvv⟩;have bad13:zo v.ks=false->zS S a v=false:=λg=>bad (by rw[ok13 h13,g,Bool.and_false]);refine⟨λhlt=> ?_,λhge=>⟨by omega,?_⟩⟩
    · have hjk:j<v.ks.length:=(by omega);have tx:=λq (hq:qd S x q/\a.ok q/\v.ok q)=>WX (txs q hq.2.2) hjk;have hsj:=hsz _ (List.getElem_mem hjk);have bv:qu v.ks[j]=false->zS S a v=false:=λhb=>bad13 (zd8 hjk hb);have t0:=tx p ⟨hx,ha,hvo⟩;refine⟨⟨by omega,by omega⟩,t0.1,v.ks[j],λq hq=>(tx q hq).2,hsj,λhb=>⟨λ_=>bv hb,λh=>by rw[hb]at h;cases h⟩,λhg=>⟨λh0=> ?_,λh0=>⟨λh=>absurd h h0,λ_=>⟨λhb=>bv hb,λ_=> ?_⟩⟩⟩⟩
      · have hj1:j- 1<v.ks.length:=(by omega);have e:((j:Int)- 1).toNat=j- 1:=(by omega);rw[e];have tx1:=λq (hq:qd S x q/\a.ok q/\v.ok q)=>WX (txs q hq.2.2) hj1;have kd:=zid (ks:=v.ks) (j:=j- 1) (by omega);simp only[show j- 1+1=j by omega]at kd;rw[if_neg (by omega)]at hk;refine⟨⟨by omega,by omega⟩,t0.1,v.ks[j],λq hq=>(tx q hq).2,⟨by omega,by omega⟩,⟨by omega,by omega⟩,t0.1,v.ks[j- 1],λq hq=>(tx1 q hq).2,λ_=>⟨λhb=>bv hb,λ_=>⟨λhl=> ?_,λhl=> ?_⟩⟩,λh=>absurd h0 h⟩
        · have:=(uk _ _).1 hl;exact bad13 (by rw[hk,kd,this,Bool.and_false];rfl)
        · have:qdg v.ks[j- 1] v.ks[j]=true:=by
            cases hb:qdg v.ks[j- 1] v.ks[j]with
            |true=>rfl
            | false=>
              rcases(uk _ _).2 hb with g|g
              · rw[hl.1]at g;cases g
              · exact absurd g hl.2
          refine⟨⟨by omega,by omega⟩,j+1,by omega,⟨by omega,?_,λ_ _=>hg⟩,by omega⟩;rw[if_neg (by omega),Nat.add_sub_cancel,hk,kd,this,hvv (by omega) (by omega)];rfl
      · obtain rfl:j=0:=(by omega);exact⟨⟨by omega,by omega⟩,1,rfl,⟨by omega,by simp,λ_ _=>hg⟩,by omega⟩
    · obtain rfl:j=v.ks.length:=(by omega);have:zo v.ks=true:=by
        by_cases h0:v.ks.length=0
        · rw[List.length_eq_zero_iff]at h0;rw[h0,zo]
        · rw[if_neg h0]at hk;have:=hvv (by omega) (Nat.le_refl _);rw[hk,List.drop_eq_getElem_cons (by omega),show v.ks.length- 1+1=v.ks.length by omega,List.drop_length,zo];exact this
      rw[ok13 h13,this,Bool.and_true];exact decide_eq_true (by omega)
  · have bd:¬(0<=v.b/\v.b<a.brs.length/\v.l.length=1)->zS S a v=false:=λh=>bad (by rw[ok14 h14];exact decide_eq_false h);refine⟨λd1=>⟨λ_=>⟨λd2=>⟨λ_=>⟨λd3=> ?_,λd3=>⟨λh=>d3 h,λ_=>bd (by omega)⟩⟩,λh=>absurd d2 h⟩,λd2=>⟨λh=>d2 h,λ_=>bd (by omega)⟩⟩,λh=>absurd d1 h⟩,λd1=>⟨λh=>d1 h,λ_=>bd (by omega)⟩⟩;have hl1:v.l.length=1:=(by omega);have h0:0<v.l.length:=(by omega);obtain⟨b,hb⟩:=Int.eq_ofNat_of_zero_le d1;have hbl:b<a.brs.length:=(by omega);have hbt:v.b.toNat=b:=(by omega);rw[hbt];have hty:qo a v.b 0=a.brs[b]:=(by unfold qo;rw[if_neg h9,if_pos h14,hbt,List.getD_eq_getElem?_getD,List.getElem?_eq_getElem hbl];rfl);have hd:=fdrop h0;have fe:=fend;rw[hl1]at fe;rw[List.drop_zero,hty,Nat.zero_add,fe,Bool.and_true]at hd;have hin:zS S a v=PV.fits S a.brs[b] (v.l[0]).pv:=(by unfold zS;rw[ok14 h14,decide_eq_true ⟨d1,d2,hl1⟩,hd];rfl);refine⟨⟨by omega,by omega⟩,(z22 ha hbl).1,a.brs[b],λq hq=>(z22 hq.2.1 hbl).2,⟨by omega,by omega⟩,(GV.cells_at hvo h0).1,v.l[0].n,v.l[0].s,v.l[0].x.1,v.l[0].x.2.1,v.l[0].x.2.2,v.l[0].y.1,v.l[0].y.2.1,v.l[0].y.2.2,v.l[0].b,λq hq=>(GV.cells_at hq.2.2 h0).2,⟨S,x,a.brs[b],v.l[0]⟩,rfl,rfl,rfl,rfl,rfl,rfl,rfl,rfl,rfl,rfl,rfl,rfl,rfl,⟨child h0,hS,hkS,GV.sm_at hv h0⟩,λq hq=>⟨hq.1,GV.ok_at hq.2.2 h0⟩,?_⟩;exact⟨λ_=>hin,λh=>absurd d3 h⟩
  · rintro⟨h14,hok⟩;refine⟨⟨0,rfl,Nat.zero_le _,by simp⟩,?_⟩;rintro j ⟨hj,ht⟩;refine⟨λhlt=> ?_,λhge=> ?_⟩
    · have hjl:j<v.l.length:=(by omega);have hd:=fdrop hjl;refine⟨⟨λh9=> ?_,λh9=>by unfold qo;rw[if_neg h9,if_neg h14]⟩,⟨by omega,by omega⟩,(GV.cells_at hvo hjl).1,v.l[j].n,v.l[j].s,v.l[j].x.1,v.l[j].x.2.1,v.l[j].x.2.2,v.l[j].y.1,v.l[j].y.2.1,v.l[j].y.2.2,v.l[j].b,λq hq=>(GV.cells_at hq.2.2 hjl).2,⟨S,x,qo a v.b j,v.l[j]⟩,rfl,rfl,rfl,rfl,rfl,rfl,rfl,rfl,rfl,rfl,rfl,rfl,rfl,⟨child hjl,hS,hkS,GV.sm_at hv hjl⟩,λq hq=>⟨hq.1,GV.ok_at hq.2.2 hjl⟩,λhb=> ?_,λhb=>⟨⟨by omega,by omega⟩,j+1,by omega,⟨by omega,?_⟩,by omega⟩⟩
      · have hjf:j<a.fs.length:=by rw[ok9 h9]at hok;have:=of_decide_eq_true hok;omega
        have fa:=λq (hq:qd S x q/\a.ok q/\v.ok q)=>wB hq.2.1 hjf;refine⟨⟨by omega,by omega⟩,(fa p ⟨hx,ha,hvo⟩).1,a.fs[j].ty,λq hq=> ?_,by unfold qo;rw[if_pos h9,List.getElem?_eq_getElem hjf]⟩;intro i w hi;cases i with
        |zero=>have:=(fa q hq).2 2 w hi;rw[Addr.add_add];exact this
        |succ i=>simp at hi
      · unfold zS;rw[←ht,hd,hb,Bool.false_and,Bool.and_false]
      · rw[←ht,hd,hb,Bool.true_and]
    · obtain rfl:j=v.l.length:=(by omega);unfold zS;rw[hok,←ht,fend];rfl
def zo9(n:Nat) (hf:q4p P 79 (Ha.below KL (n+1))):q4p P 40 (Jx.below Km (n+1)):=by
  refine qF (qcn (qgp GZ (qgp z9d (qgp hf qjr)))) (W:=zv9) Tryz.func40 λ⟨S,(x:SV),(t:Int),v⟩=>(zo8 n S x t v).mpr ?_;rintro⟨hmu,hS,hkS,hv⟩ ⟨p,_,hx,hvo⟩;have hmu:SizeOf.sizeOf v<n+1:=hmu;have xl:=GV.x_len hvo;have yl:=GV.y_len hvo;have sl:x.2.1=S.length:=hx.1.1;have hvs:=hv;rw[GV.sm_eq]at hvs;obtain⟨hn,hs,vl,kl,hsz,_⟩:=hvs;simp only[qH,exists_const,forall_const,Int.toNat_natCast,xl,yl,sl];have hfit:PV.fits S t v.pv=if t<0\/S.length<=t then false else match S[t.toNat]? with
    |none=>false
    | some a=>if zd a.k=true then km a v.n&&decide (v.s.size=0)&&xE v.l.length v.ks.length v.b else
      if qS a.k=true then vZ a v.s&&decide (v.n=0)&&xE v.l.length v.ks.length v.b else
      if qq a.k=true then ko a v.l.length v.ks v.b&&PV.fitL S (qo a v.b) 0 (GV.pvs v.l)&&decide (v.n=0)&&decide (v.s.size=0)else false:=by rw[GV.pv_eq,PV.fits,GV.pvs_len]<;>rfl
  refine⟨⟨x,t⟩,rfl,sl,rfl,rfl,?_⟩;simp only[sl];refine⟨λh=> ?_,λh=> ?_⟩
  · rw[hfit,if_pos];by_cases h1:0<=t
    · rw[decide_eq_true h1,Bool.true_and]at h;have:=of_decide_eq_false h;omega
    · omega
  rw[Bool.and_eq_true,decide_eq_true_eq,decide_eq_true_eq]at h;obtain⟨j,rfl⟩:=Int.eq_ofNat_of_zero_le h.1;have hj:j<S.length:=by omega
  have hae:qe S (j:Int)=S[j]:=by unfold qe;rw[Int.toNat_natCast,List.getElem?_eq_getElem hj];rfl
  rw[if_neg (by omega)]at hfit;rw[hae];simp only[Int.toNat_natCast,List.getElem?_eq_getElem hj]at hfit⊢;have hat:=λq (hq:qd S x q/\v.ok q)=>wC hq.1 hj;have hao:=λq (hq:qd S x q/\v.ok q)=>hq.1.2 S[j] (List.getElem_mem hj);have hsm:=hS.2 S[j] (List.getElem_mem hj);have hkk:=hkS S[j] (List.getElem_mem hj);have syl:S[j].sy.2.1=S[j].sys.length:=(hao p ⟨hx,hvo⟩).2.1.1;refine⟨⟨by omega,by omega⟩,(hat p ⟨hx,hvo⟩).1,S[j].k,S[j].nm,S[j].al.1,S[j].al.2.1,S[j].al.2.2,S[j].it,S[j].sy.1,S[j].sy.2.1,S[j].sy.2.2,S[j].hd,S[j].df,S[j].sz,S[j].f.1,S[j].f.2.1,S[j].f.2.2,S[j].br.1,S[j].br.2.1,S[j].br.2.2,λq hq=>(hat q hq).2,?_⟩;have hao2:=λq (hq:qd S x q/\v.ok q)=>hao q hq;generalize S[j]=a at*;clear hat hao hae;have w64:IntKind.wrap .i64 v.n=if v.n<9223372036854775808 then v.n else v.n- 18446744073709551616:=by unfold IntKind.wrap;simp[IntKind.bits,IntKind.signed];omega
  have u64:IntKind.wrap .u64 (a.sys.length:Int)=a.sys.length:=by rw[zl3];omega
  simp only[syl,u64];have kinds:a.k=1\/a.k=2\/a.k=3\/a.k=4\/a.k=5\/a.k=6\/a.k=7\/a.k=8\/a.k=9\/a.k=10\/a.k=11\/a.k=12\/a.k=13\/a.k=14:=by omega
  have hin:qq a.k=true->ja S a v=zS S a v:=λh=>by unfold qq at h;have h:=of_decide_eq_true h;unfold ja zd qS;rw[if_neg (by omega),if_neg (by simp;omega),if_neg (by simp;omega)]
  have hbadB:yP a v=true↔(a.k≠13/\0<v.ks.length)\/(a.k≠14/\v.b≠0):=by unfold yP;simp
  have hbadF:yP a v=false↔¬((a.k≠13/\0<v.ks.length)\/(a.k≠14/\v.b≠0)):=by rw[←hbadB];simp
  have sE:(v.s=mkS [])↔v.s.size=0:=zxq;have key:PV.fits S (j:Int) v.pv=(!yP a v&&ja S a v&&(nB a.k||decide (v.n=0))&&(qS a.k||decide (v.s=mkS []))&&(qq a.k||decide (v.l.length=0))):=by
    rw[hfit,Bool.eq_iff_iff];by_cases hN:zd a.k=true
    · have hk1:=of_decide_eq_true hN;have hT:qS a.k=false:=decide_eq_false (by omega);have hQ:qq a.k=false:=decide_eq_false (by omega);rw[if_pos hN,hT,hQ];have hok:(ja S a v&&(nB a.k||decide (v.n=0)))=km a v.n:=by
        unfold ja;by_cases h1:a.k=1
        · rw[if_pos h1];unfold nB km;rw[if_pos h1,decide_eq_false (by omega)];rfl
        · rw[if_neg h1,if_pos hN];unfold nB;rw[decide_eq_true (by omega)];simp
      have e:(!yP a v&&ja S a v&&(nB a.k||decide (v.n=0))&&(false||decide (v.s=mkS []))&&(false||decide (v.l.length=0)))=(!yP a v&&(ja S a v&&(nB a.k||decide (v.n=0)))&&(false||decide (v.s=mkS []))&&(false||decide (v.l.length=0))):=(by simp only[Bool.and_assoc]);rw[e,hok];unfold xE;simp only[Bool.and_eq_true,Bool.or_eq_true,Bool.not_eq_true',decide_eq_true_eq,hbadF,sE,Bool.false_eq_true,false_or];constructor
      · rintro⟨⟨h1,h2⟩,⟨h3,h4⟩,h5⟩;exact⟨⟨⟨by omega,h1⟩,h2⟩,h3⟩
      · rintro⟨⟨⟨h1,h2⟩,h3⟩,h4⟩;exact⟨⟨h2,h3⟩,⟨h4,by omega⟩,by omega⟩
    · rw [if_neg hN];have hN':zd a.k=false:=(by simpa using hN);have nn:nB a.k=false:=by have:=of_decide_eq_false hN';exact decide_eq_false (by omega)
      by_cases hT:qS a.k=true
      · have hk1:=of_decide_eq_true hT;have hQ:qq a.k=false:=decide_eq_false (by omega);have hok:ja S a v=vZ a v.s:=(by unfold ja;rw[if_neg (by omega),if_neg hN,if_pos hT]);rw[if_pos hT,hQ,nn,hT,hok];unfold xE;simp only[Bool.and_eq_true,Bool.or_eq_true,Bool.not_eq_true',decide_eq_true_eq,hbadF,sE,Bool.false_eq_true,false_or,true_or,and_true];constructor
        · rintro⟨⟨h1,h2⟩,⟨h3,h4⟩,h5⟩;exact⟨⟨⟨by omega,h1⟩,h2⟩,h3⟩
        · rintro⟨⟨⟨h1,h2⟩,h3⟩,h4⟩;exact⟨⟨h2,h3⟩,⟨h4,by omega⟩,by omega⟩
      · have hT':qS a.k=false:=(by simpa using hT);have hQ:qq a.k=true:=by have h1:=of_decide_eq_false hT';have h2:=of_decide_eq_false hN';exact decide_eq_true (by omega)
        have hk1:=of_decide_eq_true hQ;rw[if_neg hT,if_pos hQ,hQ,nn,hT',hin hQ];have hop:ko a v.l.length v.ks v.b=(!yP a v&&vY a v.l.length v.ks v.b):=by
          unfold ko vY;by_cases hb:v.ks.length>0/\a.k≠13\/v.b≠0/\a.k≠14
          · rw[if_pos hb,hbadB.2 (by omega)];rfl
          · rw[if_neg hb,hbadF.2 (by omega)];rfl
        unfold zS;rw[hop];simp only[Bool.and_eq_true,Bool.or_eq_true,Bool.not_eq_true',decide_eq_true_eq,hbadF,sE,Bool.false_eq_true,false_or,true_or,and_true];constructor
        · rintro⟨⟨⟨⟨h1,h2⟩,h3⟩,h4⟩,h5⟩;exact⟨⟨⟨h1,h2,h3⟩,h4⟩,h5⟩
        · rintro⟨⟨⟨h1,h2,h3⟩,h4⟩,h5⟩;exact⟨⟨⟨⟨h1,h2⟩,h3⟩,h4⟩,h5⟩
  have tri:∀k:Int,a.k=k->(zd k=true\/qS k=true)->ja S a v=(if k=1 then true else if zd k=true then km a v.n else vZ a v.s)/\qS a.k=qS k/\nB a.k=nB k/\qq a.k=qq k:=λk hk hh=>by
    subst hk;refine⟨?_,rfl,rfl,rfl⟩;unfold ja;by_cases h1:a.k=1
    · rw[if_pos h1,if_pos h1]
    · rw[if_neg h1,if_neg h1];by_cases hN:zd a.k=true
      · rw[if_pos hN,if_pos hN]
      · rw[if_neg hN,if_neg hN,if_pos (hh.resolve_left hN)]
  have oN:∀k:Int,a.k=k->km a v.n=(if k=1 then decide (v.n=0)else if k=2 then decide (v.n<=1)else if k=3 then decide (v.n<2147483648\/18446744071562067968<=v.n)else if k=5 then decide (v.n<4294967296)else if k=10 then decide (v.n<a.sys.length)else true):=λk hk=>by subst hk;rfl
  have oT:∀k:Int,a.k=k->vZ a v.s=(if k=8 then qu v.s else if k=11 then decide ((v.s.size:Int)=a.sz)else true):=λk hk=>by subst hk;rfl
  clear hfit;refine⟨⟨λh1=> ?_,λh1=>⟨λh2=> ?_,λh2=>⟨λh3=>⟨λh5=>⟨λ_=> ?_,λh=>absurd h5 h⟩,λh5=>⟨λh=>absurd h h5,λ_=> ?_⟩⟩,λh3=>⟨⟨trivial,λh4=> ?_,λh4=> ?_⟩,λh46=> ?_,λh46=>⟨λh5=> ?_,λh5=>⟨λh10=> ?_,λh10=>⟨λh7=> ?_,λh7=>⟨λh8=>⟨hs,?_⟩,λh8=>⟨λh11=> ?_,λh11=> ?_⟩⟩⟩⟩⟩⟩⟩⟩⟩,⟨λh13=>⟨λhk=> ?_,λhk=>⟨λh14=> ?_,λh14=> ?_⟩⟩,λh13=>⟨λh14=> ?_,λh14=> ?_⟩⟩,λhB=> ?_,λhB=>⟨λho=>⟨λhn'=>⟨λht=>⟨λhq=> ?_,λhq=> ?_⟩,λht=>⟨λhs'=>⟨λhq=> ?_,λhq=> ?_⟩,λhs'=> ?_⟩⟩,λhn'=>⟨λhn0=>⟨λht=>⟨λhq=> ?_,λhq=> ?_⟩,λht=>⟨λhs'=>⟨λhq=> ?_,λhq=> ?_⟩,λhs'=> ?_⟩⟩,λhn0=> ?_⟩⟩,λho=> ?_⟩⟩
  · have:=tri 1 h1 (.inl rfl);exact this
  · have:=tri 2 h2 (.inl rfl);rw[oN 2 h2]at this;exact this
  · have:=tri 3 h3 (.inl rfl);rw[oN 3 h3]at this;refine⟨this.1.trans ?_,this.2⟩;show decide (v.n<2147483648\/18446744071562067968<=v.n)=_;rw[w64]at h5⊢;split at h5<;>exact kA (by omega)
  · have:=tri 3 h3 (.inl rfl);rw[oN 3 h3]at this;refine⟨this.1.trans ?_,this.2⟩;show decide (v.n<2147483648\/18446744071562067968<=v.n)=_;rw[w64]at h5;split at h5<;>exact decide_eq_false (by omega)
  · unfold xM;rw[h4];rfl
  · unfold xM;rw[decide_eq_false h4];rfl
  · unfold xM at h46;rw[Bool.or_eq_true,decide_eq_true_eq,decide_eq_true_eq]at h46;rcases h46 with h|h
    · have:=tri 4 h (.inl rfl);rw[oN 4 h]at this;exact this
    · have:=tri 6 h (.inl rfl);rw[oN 6 h]at this;exact this
  · have:=tri 5 h5 (.inl rfl);rw[oN 5 h5]at this;exact this
  · have:=tri 10 h10 (.inl rfl);rw[oN 10 h10]at this;exact this
  · have:=tri 7 h7 (.inr rfl);rw[oT 7 h7]at this;exact this
  · have:=tri 8 h8 (.inr rfl);rw[oT 8 h8]at this;exact this
  · have:=tri 11 h11 (.inr rfl);rw[oT 11 h11]at this;exact this
  · have hb6:¬a.k=4/\¬a.k=6:=(by unfold xM at h46;rw[Bool.or_eq_false_iff,decide_eq_false_iff_not,decide_eq_false_iff_not]at h46;exact h46);have hQ:qq a.k=true:=decide_eq_true (by omega);refine⟨⟨S,x,a,v⟩,rfl,sl,rfl,rfl,rfl,rfl,rfl,rfl,rfl,rfl,syl,rfl,rfl,rfl,rfl,rfl,rfl,rfl,rfl,rfl,rfl,rfl,rfl,rfl,xl,rfl,rfl,yl,rfl,rfl,⟨hmu,hS,hkS,hsm.1,hv,hQ⟩,λq hq=>⟨hq.1,hao2 q hq,hq.2⟩,hin hQ,decide_eq_false (by unfold qq at hQ;have:=of_decide_eq_true hQ;omega),decide_eq_false (by unfold qq at hQ;have:=of_decide_eq_true hQ;omega),hQ⟩
  · exact hbadB.2 (.inl ⟨h13,by omega⟩)
  · by_cases hb:v.b=0
    · rw[decide_eq_true hb];exact hbadF.2 (by omega)
    · rw[decide_eq_false hb];exact hbadB.2 (.inr ⟨h14,hb⟩)
  · exact hbadF.2 (by omega)
  · by_cases hb:v.b=0
    · rw[decide_eq_true hb];exact hbadF.2 (by omega)
    · rw[decide_eq_false hb];exact hbadB.2 (.inr ⟨h14,hb⟩)
  · exact hbadF.2 (by omega)
  · rw[key,hB];rfl
  all_goals first
    | (rw[key,hB,ho,hn',ht,hq];simp[hn0,hs'];done)
    | (rw[key,hB,ho,hn',ht];simp[hn0,hs'];done)
    | (rw[key,hB,ho,hn',ht,hq];simp[hn0];done)
    | (rw[key,hB,ho,hn',ht,hq];simp[hs'];done)
    | (rw[key,hB,ho,hn',ht];simp[hs'];done)
    | (rw[key,hB,ho,hn',ht,hq];simp;done)
    | (rw[key,hB,ho,hn'];simp[hn0];done)
    | (rw[key,hB,ho];simp;done)
def zi2:∀n,q4p P 40 (Jx.below Km n)
 |0=>Ct.below_zero (by decide) (by decide) (Sen.enters_of Tryz.func40 (by kernel_rfl)) λs=>⟨rfl,rfl⟩
 |n+1=>zo9 n (zor n (zi2 n))
def zhr:q4p P 40 Jx:=Ct.of_below zi2
def YR(N:List IV) (r k:Nat):List (Nat×AO):=[(2, .cells 34 (some 0) false [.ssl r 0 N.length 1 k]),(r, .row 9 0 (qa qp N))]
abbrev jW:=SV×List Int×Int×Int×List IV
abbrev zQ:=GJ×Int×List IV
def zxw(L:List Int) (n:Int) (N:List IV):Prop:=N.length<=n+1/\∀t∈N,t.size<100
def kE(L:List Int) (n:Int) (N:List IV):zQ->Prop:=λ⟨g,n',N'⟩=>g.wf/\n<=n'/\n'<=L.length/\N.length<=N'.length/\N'.length+n<=N.length+n'/\∀t∈N',t.size<100
def yK(most:Int):jW->Prop:=λ⟨x,L,n,d,N⟩=>0<=n/\n<=L.length/\zM L/\0<=d/\d<=most/\zxw L n N
def tX:jW->PF:=λ⟨x,L,n,d,N⟩=>Yr x L
def xq:CtR where
 σ:=jW
 args:=λ⟨x,L,n,d,N⟩=>[.ptr 1 0, .sv (.int .i64 d), .ptr 2 0]
 h:=λ⟨x,L,n,d,N⟩=>jc x n++YR N 3 4
 m:=5
 pre:=yK 4
 mem:=tX
 β:=λ_=>zQ
 post:=λ⟨x,L,n,d,N⟩ b=>kE L n N b
 pm:=λ_ ⟨g,n',N'⟩=>gM g
 r:=λ_ ⟨g,n',N'⟩=>g.av
 h':=λ⟨x,L,n,d,N⟩ ⟨g,n',N'⟩=>jc x n'++YR N' 5 6
 m':=7
def Hg:CtR:={xq with pre:=yK 3}
def Jp:CtR where
 σ:=IV×jW
 args:=λ⟨s,x,L,n,d,N⟩=>[.ptr 1 0, .sv (.string s), .sv (.int .i64 d), .ptr 2 0]
 h:=λ⟨s,x,L,n,d,N⟩=>jc x n++YR N 3 4
 m:=5
 pre:=λ⟨s,t⟩=>s.size<100/\yK 3 t
 mem:=λ⟨s,t⟩=>tX t
 β:=λ_=>zQ
 post:=λ⟨s,x,L,n,d,N⟩ b=>kE L n N b
 pm:=λ_ ⟨g,n',N'⟩=>gM g
 r:=λ_ ⟨g,n',N'⟩=>g.av
 h':=λ⟨s,x,L,n,d,N⟩ ⟨g,n',N'⟩=>jc x n'++YR N' 5 6
 m':=7
def z66:jW->Nat:=λ⟨x,L,n,d,N⟩=>(10- d).toNat
def Ko:IV×jW->Nat:=λ⟨s,t⟩=>z66 t
def OG:jW->WayF:=λ⟨x,L,n,d,N⟩=>{
  cut :=λi t _=>match i with
    |4=>some {σ:=Int,pre:=λk=>0<=k/\k<20/\(8<=k->d<=3/\n<L.length),t:=λk=>[(7, .sv (.int .i64 k))],h:=λ_=>jc x (qh L n),more:=0,μ:=λ_=>0,keep:=[0,1,2,6]}
    | 15=>match jT t 7 with
      |some k=>some {σ:=Unit,pre:=λ_=>14<=k,t:=λ_=>[],h:=λ_=>[],more:=0,μ:=λ_=>0,keep:=[0,1,2,6,7]}
      |none=>none
    |_=>none
  pub:=λi k=>match i,k with
    |8,9=>[42]
    |10,9=>[54]
    |18,9=>[113]
    |20,7=>[120]
    |24,1=>[147]
    |_,_=>[]}
def zvk:jW->WayF:=λ_=>{
 pub:=λi k=>match i,k with
  |7,1=>[40]
  |_,_=>[]}
abbrev QJ:=Int×Int×List IV×List GJ
def HJ(L:List Int) (n0:Int) (N0:List IV) (m:Int):QJ->Prop:=λ⟨i,n,N,fs⟩=>0<=i/\i<=m/\m<5/\(fs.length:Int)=i/\GJ.wfs fs/\n0<=n/\n<=L.length/\N0.length<=N.length/\N.length+n0<=N0.length+n/\∀t∈N,t.size<100
def fsM(fs:List GJ):PF:=⟨true,GJ.oks fs,λ_ _ h e=>GJ.oks_mono h e⟩
def ze7:IV×jW->WayF:=λ⟨s,x,L,n0,d,N0⟩=>{
 ann:=λ_ t _=>match jT t 11 with
  |some m=>some {σ:=QJ,pre:=HJ L n0 N0 m,mem:=λ⟨i,n,N,fs⟩=>fsM fs,t:=λ⟨i,n,N,fs⟩=>[(10, .sv (.int .i64 i))],h:=λ⟨i,n,N,fs⟩=>jc x n++YR N 9 10++[(6, .cells 62 (some 0) false [.int .i64 5, .int .i64 0, .str [], .ssl 7 0 fs.length 5 8, .nsl]),(7, .row 62 0 (qa GJ.cells fs))],more:=4,μ:=λ⟨i,n,N,fs⟩=>(m- i).toNat,keep:=[0,1,2,3,8,9,11],del:=[3]}
  |none=>none
 pub:=λi k=>match i,k with
  |9,3=>[56]
  |_,_=>[]
 pubE:=[1000008]}
section
variable (e:Int) (c:SV) (b:List Int) (l:Int) (f:List IV) (A:Int) (i:Nat) (r:IV) (q:List Int) (t:Nat) (Z:List Int) (h:Nat->Option Obj) (a:zQ) (m:jW) (L:Nat) (x15:Option Addr) (p:Prop) (U:Nat) (o:zQ)
 abbrev vu:=c.1=c.1/\c.2.1=c.2.1/\c.2.2=c.2.2/\p
 def Ut:=0<e/\e<1000000/\zM b
 def V7:=(∀d,True/\qc qn c b d->qc qn (c.1,c.2.1,c.2.2) q d)
 def Us:=qa qp f=qa qp f/\length f=length f/\(∀d,True/\qc qn c b d->True/\qc qn c b d)/\p
 def Lw:=0<=e/\e<20/\(8<=e->l<=3/\A<(↑(length b):Int))
 def Tc:=(8:Int)≠0/\∃(d:Int),e=e/\d=Int.tmod (ql b l 20) 8/\vu c (qh q l=qh b l/\Us c q f ((Lw d q e l)/\True))
 def Th:=GJ.k a.1=4/\GJ.n a.1=0/\GJ.s a.1=r/\(GJ.y a.1).1=noA/\(GJ.y a.1).2.1=0/\(GJ.y a.1).2.2=0/\(GJ.x a.1).1=noA/\(GJ.x a.1).2.1=0/\(GJ.x a.1).2.2=0/\p
 def Tm:=qa qp a.2.2=qa qp f/\length a.2.2=length f/\kE b e f a/\(∀d,True/\qc qn c b d->GJ.ok a.1 d)/\True
 def CM:=(0<=e/\e<(↑(nat_lit 8):Int))/\∃d,qgf [string (mkS [105,110,116]),string (mkS [108,111,110,103]),string (mkS [115,116,114,105,110,103]),string (mkS [98,121,116,101,115]),string (mkS [98,111,111,108,101,97,110]),string (mkS [110,117,108,108]),string (mkS [102,108,111,97,116]),string (mkS [100,111,117,98,108,101])] (nat_lit 0+toNat e*1) [string d]/\d=d/\True/\∃(z:zQ),Th d z (vu c (z.2.1=qh b l/\Tm l c b f z))
 def Tq:=True/\Jb (e+1)/\p
 def Lu:=m.1.1=c.1/\m.1.2.1=c.2.1/\m.1.2.2=c.2.2/\m.2.2.1=qh b e/\qa qp m.2.2.2.2=qa qp f/\length m.2.2.2.2=length f/\p
 def Ly:=(∀d,True/\qc qn c b d->qc qn m.1 m.2.1 d)
 def Uu:=∃d,(True/\qc qn c b d)/\GJ.ok a.1 d
 def Ls:=((True/\qc qn c b h)/\GJ.ok a.1 h)/\q37 h (Addr.mk i t none) [int i64 4,int i64 0,string (mkS [97,114,114,97,121]),slice noA 0 0,slice noA 0 0,int i64 (GJ.k a.1),int i64 (GJ.n a.1),string (GJ.s a.1),slice (GJ.y a.1).1 (GJ.y a.1).2.1 (GJ.y a.1).2.2,slice (GJ.x a.1).1 (GJ.x a.1).2.1 (GJ.x a.1).2.2]
 abbrev V8:=mkS [116,121,112,101]
 abbrev To:=q37 h (Addr.mk i t none) [string (V8),string (mkS [105,116,101,109,115])]
 def Lx:=GJ.k a.1=6/\GJ.n a.1=0/\GJ.s a.1=mkS []/\p
 abbrev JZ:=Addr.mk i (t+nat_lit 0) none
 def Tr:=a.2.1=o.2.1/\qa qp a.2.2=qa qp o.2.2/\length a.2.2=length o.2.2/\p
 def Tj:=c.1=m.1.1/\c.2.1=m.1.2.1/\c.2.2=m.1.2.2/\Tr a p o
 def Td:=Lx a ((GJ.y a.1).1=some (JZ i t)/\(GJ.y a.1).2.1=nat_lit 2/\(GJ.y a.1).2.2=nat_lit 2/\(GJ.x a.1).1=some (JZ L U)/\(GJ.x a.1).2.1=nat_lit 2/\(GJ.x a.1).2.2=nat_lit 2/\Tj c a m p o)
 def CH:=True/\∀(d z j:Nat),(∃u,Ls c b d z u a)->∀(B v S:Nat),(∃D,(Ls c b d z D a)/\To B v D)->∃(i8:zQ),Td c d z i8 m B (kE b e f i8/\(∀E,(Ls c b d z E a)/\To B v E->GJ.ok i8.1 E)/\True) v a
 def CF:=mkS [97,114,114,97,121]=mkS [97,114,114,97,121]/\Tq e (∃(d:jW),d.2.2.2.1=e+1/\Lu l c b f d ((z66 d<i/\yK 4 d)/\Ly c b d/\∀(j:zQ),kE d.2.1 d.2.2.1 d.2.2.2.2 j->(Uu c b j)->CH l c b f j d))
 def Lt:=((True/\qc qn c b h)/\GJ.ok a.1 h)/\q37 h (Addr.mk i t none) [int i64 4,int i64 0,string (mkS [109,97,112]),slice noA 0 0,slice noA 0 0,int i64 (GJ.k a.1),int i64 (GJ.n a.1),string (GJ.s a.1),slice (GJ.y a.1).1 (GJ.y a.1).2.1 (GJ.y a.1).2.2,slice (GJ.x a.1).1 (GJ.x a.1).2.1 (GJ.x a.1).2.2]
 abbrev Tn:=q37 h (Addr.mk i t none) [string (V8),string (mkS [118,97,108,117,101,115])]
 def CI:=True/\∀(d z j:Nat),(∃u,Lt c b d z u a)->∀(B v S:Nat),(∃D,(Lt c b d z D a)/\Tn B v D)->∃(i8:zQ),Td c d z i8 m B (kE b e f i8/\(∀E,(Lt c b d z E a)/\Tn B v E->GJ.ok i8.1 E)/\True) v a
 def CG:=mkS [109,97,112]=mkS [109,97,112]/\Tq e (∃(d:jW),d.2.2.2.1=e+1/\Lu l c b f d ((z66 d<i/\yK 4 d)/\Ly c b d/\∀(j:zQ),kE d.2.1 d.2.2.1 d.2.2.2.2 j->(Uu c b j)->CI l c b f j d))
 def Te:=GJ.k a.1=GJ.k o.1/\GJ.n a.1=GJ.n o.1/\GJ.s a.1=GJ.s o.1/\(GJ.y a.1).1=(GJ.y o.1).1/\(GJ.y a.1).2.1=(GJ.y o.1).2.1/\(GJ.y a.1).2.2=(GJ.y o.1).2.2/\(GJ.x a.1).1=(GJ.x o.1).1/\(GJ.x a.1).2.1=(GJ.x o.1).2.1/\(GJ.x a.1).2.2=(GJ.x o.1).2.2/\p
 def LA:=0<=qh b e/\qh b e<=(↑(length q):Int)/\p
 def CL:=Ji (0<(↑(length f):Int)) (∃(d:List Int),(↑(length f):Int)=(↑(length f):Int)/\vu c (qh b e=qh b e/\(LA e b d (0<(↑(length f):Int)/\(↑(length f):Int)<1000000/\zM d))/\V7 c b d/\(0<=ql d (qh b e) (↑(length f):Int)/\ql d (qh b e) (↑(length f):Int)<(↑(length f):Int))/\∃j,qgf (qa qp f) (nat_lit 0+toNat (ql d (qh b e) (↑(length f):Int))*nat_lit 1) [string j]/\j=j/\True/\AV.ssl (nat_lit 3) (nat_lit 0) (length f) (nat_lit 1) (nat_lit 4)=AV.ssl (nat_lit 3) (nat_lit 0) (length f) (nat_lit 1) (nat_lit 4)/\∃(u:zQ),Th j u (vu c (u.2.1=qh d (qh b e)/\Tm e c b f u)))) (∃(v:Unit),l=l/\A=A/\vu c (qh b e=qh b e/\Us c b f (14<=A/\True)))
 def CJ:=Ji (e=14) (CL l c b A f e) (∃(D:Unit),A=A/\e=e/\vu c (qh b l=qh b l/\Us c b f (14<=e/\True)))
 def jps:=Ji (e<14) (∃(d:jW),d.2.2.2.1=l/\Lu A c b f d ((z66 d<i+1/\yK 3 d)/\Ly c b d/\∀(j:zQ),kE d.2.1 d.2.2.1 d.2.2.2.2 j->(Uu c b j)->∃(B:zQ),Te B (Tj c B d (kE b A f B/\(∀v,(True/\qc qn c b v)/\GJ.ok j.1 v->GJ.ok B.1 v)/\True) j) j)) (CJ e c b A f l)
 def iS:=Ji (e=10) (CG l c b A f i) (jps e c b l f A i)
 def iR:=Ji (e<10) (CF l c b A f i) (iS e c b l f A i)
 def Lr:=(True/\qc qn c b h)/\q37 h (Addr.mk i t none) [int i64 4,int i64 0,string (mkS [102,105,120,101,100]),slice noA 0 0,slice noA 0 0,int i64 4,int i64 0,string (mkS [78]++r),slice noA 0 0,slice noA 0 0,int i64 3,int i64 (ql q (qh b e) 4),string (mkS []),slice noA 0 0,slice noA 0 0]
 abbrev Lz:=mkS [110,97,109,101]
 abbrev Tl:=q37 h (Addr.mk i t none) [string (V8),string (Lz),string (mkS [115,105,122,101])]
 def Tg:=Lx a ((GJ.y a.1).1=some (JZ i t)/\(GJ.y a.1).2.1=nat_lit 3/\(GJ.y a.1).2.2=nat_lit 3/\(GJ.x a.1).1=some (JZ L U)/\(GJ.x a.1).2.1=nat_lit 3/\(GJ.x a.1).2.2=nat_lit 3/\p)
 def Lv:=qa qp a.2.2=qa qp f++[string (mkS [78]++r)]/\length a.2.2=length f+nat_lit 1/\kE b e f a/\p
 def iV:=mkS [102,105,120,101,100]=mkS [102,105,120,101,100]/\True/\mkS [78]++r=mkS [78]++r/\True/\∃(d:List Int),(4:Int)=4/\vu c (qh b e=qh b e/\(LA e b d (Ut 4 d))/\V7 c b d/\True/\∀(j u B:Nat),(∃v,Lr e c b j r d u v)->∀(S D i8:Nat),(∃E,(Lr e c b j r d u E)/\Tl S D E)->∃(F:zQ),Tg j u F S (vu c (F.2.1=qh d (qh b e)/\Lv e b f r F ((∀M,(Lr e c b j r d u M)/\Tl S D M->GJ.ok F.1 M)/\True))) D)
 def Ur:=(True/\qc qn c b h)/\q37 h (Addr.mk i t none) [int i64 4,int i64 0,string (mkS [88]),slice noA 0 0,slice noA 0 0,int i64 4,int i64 0,string (mkS [89]),slice noA 0 0,slice noA 0 0,int i64 4,int i64 0,string (mkS [90]),slice noA 0 0,slice noA 0 0]
 abbrev Tk:=Int.rec (λ(d:Nat)=>(λ(z:Nat)=>(λ(j:Nat)=>j) z) d) (λ(u:Nat)=>(λ(B:Nat)=>(λ(v:Nat)=>(0:Nat)) B) u) ((1:Int)+ql b (qh q e) 3)- nat_lit 0
 def Lo:=(Ur c b i t h)/\nat_lit 4<=L/\qgs h x15 (take (nat_lit 4*nat_lit 5) ([int i64 4,int i64 0,string (mkS [101,110,117,109]),slice noA 0 0,slice noA 0 0,int i64 4,int i64 0,string (mkS [78]++r),slice noA 0 0,slice noA 0 0,int i64 5,int i64 0,string (mkS []),slice (slA (some (JZ i t)) (nat_lit 3) (nat_lit 0) 5) (Tk e q b) (nat_lit 3- nat_lit 0),slice noA 0 0]++[int i64 4,int i64 0,string (mkS [88]),slice noA 0 0,slice noA 0 0]))
 abbrev Tp:=mkS [115,121,109,98,111,108,115]
 abbrev Tf:=take (nat_lit 4*nat_lit 1) ([string (V8),string (Lz),string (Tp)]++[string (mkS [100,101,102,97,117,108,116])])
 def iU:=(nat_lit 3+1)*16<=140737488355328/\mkS [88]=mkS [88]/\True/\(nat_lit 3+1)*80<=140737488355328/\∀(d z j:Nat) (u:Option Addr) (B v:Nat),(∃S,Lo e c b i r q t S v u)->∀(i13 i14 i15:Nat) (i16:Option Addr) (i17 N:Nat),(∃V,(Lo e c b i r q t V v u)/\nat_lit 4<=N/\qgs V i16 (Tf))->∃(w:zQ),Lx w ((GJ.y w.1).1=u/\(GJ.y w.1).2.1=nat_lit 4/\(GJ.y w.1).2.2=v/\(GJ.x w.1).1=i16/\(GJ.x w.1).2.1=nat_lit 4/\(GJ.x w.1).2.2=N/\vu c (w.2.1=qh Z (qh q (qh b e))/\Lv e b f r w ((∀O,(Lo e c b i r q t O v u)/\nat_lit 4<=N/\qgs O i16 (Tf)->GJ.ok w.1 O)/\True)))
 def Lp:=(Ur c b i t h)/\q37 h (Addr.mk L U none) [int i64 4,int i64 0,string (mkS [101,110,117,109]),slice noA 0 0,slice noA 0 0,int i64 4,int i64 0,string (mkS [78]++r),slice noA 0 0,slice noA 0 0,int i64 5,int i64 0,string (mkS []),slice (slA (some (JZ i t)) (nat_lit 3) (nat_lit 0) 5) (Tk e q b) (nat_lit 3- nat_lit 0),slice noA 0 0]
 abbrev Ti:=q37 h (Addr.mk i t none) [string (V8),string (Lz),string (Tp)]
 def iQ:=nat_lit 3<=nat_lit 3/\((0:Int)<=1+ql b (qh q e) 3/\(1:Int)+ql b (qh q e) (3:Int)<=(↑(nat_lit 3):Int))/\mkS [101,110,117,109]=mkS [101,110,117,109]/\True/\mkS [78]++r=mkS [78]++r/\True/\True/\∃(d:List Int),(2:Int)=2/\vu c (qh b (qh q e)=qh b (qh q e)/\(0<=qh b (qh q e)/\qh b (qh q e)<=(↑(length d):Int)/\Ut 2 d)/\(∀z,Ur c q i t z->qc qn (c.1,c.2.1,c.2.2) d z)/\Ji (ql d (qh b (qh q e)) (2:Int)=0) (iU e c q f i r b t d) (∀(G H i38:Nat),(∃Y,Lp e c q i r b t Y G H)->∀(I Q i48:Nat),(∃W,(Lp e c q i r b t W G H)/\Ti I Q W)->∃(J:zQ),Tg G H J I (vu c (J.2.1=qh d (qh b (qh q e))/\Lv e q f r J ((∀R,(Lp e c q i r b t R G H)/\Ti I Q R->GJ.ok J.1 R)/\True))) Q))
 def iP:=mkS [88]=mkS [88]/\True/\mkS [89]=mkS [89]/\True/\mkS [90]=mkS [90]/\True/\∃(d:List Int),(3:Int)=3/\vu c (qh b e=qh b e/\(LA e b d (Ut 3 d))/\V7 c b d/\((-9223372036854775808:Int)<=1+ql d (qh b e) 3/\(1:Int)+ql d (qh b e) (3:Int)<=9223372036854775807)/\∀(j u B:Nat),(∃v,Ur c b j u v)->iQ e c d f j r b u)
 def iO:=Ji (e=16) (iP l c b f r) (∃(g:IV×jW),g.1=mkS [78]++r/\g.2.2.2.2.1=A/\g.2.1.1=c.1/\g.2.1.2.1=c.2.1/\g.2.1.2.2=c.2.2/\g.2.2.2.1=qh b l/\qa qp g.2.2.2.2.2=qa qp f++[string (mkS [78]++r)]/\length g.2.2.2.2.2=length f+nat_lit 1/\(Ko g<i+1/\size g.1<100/\yK 3 g.2)/\(∀X,True/\qc qn c b X->qc qn g.2.1 g.2.2.1 X)/\∀(C:zQ),kE g.2.2.1 g.2.2.2.1 g.2.2.2.2.2 C->(Uu c b C)->∃(K:zQ),Te K (c.1=g.2.1.1/\c.2.1=g.2.1.2.1/\c.2.2=g.2.1.2.2/\Tr K (kE b l f K/\(∀T,(True/\qc qn c b T)/\GJ.ok C.1 T->GJ.ok K.1 T)/\True) C) C)
 def iN:=(26:Int)≠0/\((-9223372036854775808:Int)<=97+Int.tmod (↑(length f):Int) 26/\(97:Int)+Int.tmod (↑(length f):Int) (26:Int)<=9223372036854775807)/\∃d,size d=1/\qgf [int u8 (IntKind.wrap u8 ((97:Int)+Int.tmod (↑(length f):Int) 26))] 0 (q18 d)/\size (mkS [78])+size d<=9223372036854775807/\length (qa qp f)=length f*1/\(length f+nat_lit 1)*16<=140737488355328/\Ji (e=15) (iV l c b f d) (iO e c b l f A i d)
 def iM:=(Ji (e<8) (CM e c b l f) (iR e c b A f l i))/\∀(I:Unit),14<=e->iN e c b l f A i
end
def zqa(c:Nat) (x:SV) (L:List Int) (n d:Int) (N:List IV):qk4 P (qfa [(23,Qz),(22,WW),(72,VK),(71,Vz)]) (qgc [(70,xq.below z66 c),(106,Hg.below z66 (c+1)),(33,Jp.below Ko (c+1))]) Tryz.f70 (xq.below z66 (c+1)) (OG) ⟨x,L,n,d,N⟩=(z66 (x,L,n,d,N)<c+1/\yK 4 (x,L,n,d,N)->(∃(p:Pub),True/\qc qn x L p)->∃(b:List Int),(20:Int)=20/\vu x (n=n/\(0<=n/\n<=(↑(length b):Int)/\Ut 20 b)/\V7 x L b/\(Ji (3<d) (Tc d x b n N L) (∃(b_1:List Int),vu x (qh b n=qh b n/\True/\V7 x L b_1/\Ji ((↑(length b_1):Int)<=qh b n) (Tc d x b n N L) (∃(s:Int),d=d/\s=ql b n 20/\vu x (qh L n=qh b n/\Us x L N ((Lw s L d n)/\True))))))/\∀(s:Int),Lw s L d n->iM s x L n N d c)):=by kernel_rfl
def zyx:=λc x L n d N=>Eq.trans (zqa c x L n d N) (by delta Ji Jb Jt Jf vu Ut V7 Us Lw Tc Th Tm CM Tq Lu Ly Uu Ls V8 To Lx JZ Tr Tj Td CH CF Lt Tn CI CG Te LA CL CJ jps iS iR Lr Lz Tl Tg Lv iV Ur Tk Lo Tp Tf iU Lp Ti iQ iP iO iN iM;exact rfl)
section
variable (b:SV) (e:Int) (d:List Int) (D:Int) (l:List IV) (u:Nat) (a:zQ) (v:IV) (f:jW) (F:List Int) (z:zQ) (p:Prop) (g:Nat->Option Obj) (A:Option Addr) (I:Nat)
 abbrev Tv:=(2:Int)=2/\b.1=b.1/\b.2.1=b.2.1/\b.2.2=b.2.2/\p
 def Tx:=(∀c,True/\qc qn b d c->qc qn (b.1,b.2.1,b.2.2) F c)
 abbrev Tz:=Jb (e+1)
 def Tw:=f.2.2.2.1=e+1/\f.1.1=b.1/\f.1.2.1=b.2.1/\f.1.2.2=b.2.2/\p
 def Tu:=qa qp f.2.2.2.2=qa qp l/\length f.2.2.2.2=length l/\(z66 f<u/\yK 4 f)/\(∀c,True/\qc qn b d c->qc qn f.1 f.2.1 c)/\p
 def Zp:=(True/\qc qn b d g)/\GJ.ok a.1 g
 abbrev Uw:=mkS [110,117,108,108]
 abbrev XK:=[int i64 4,int i64 0,string (Uw),slice noA 0 0,slice noA 0 0]++[int i64 4,int i64 0,string v,slice noA 0 0,slice noA 0 0]
 def DR:=(Zp b d a g)/\nat_lit 3<=u/\qgs g A (take (nat_lit 3*nat_lit 5) ([int i64 4,int i64 0,string (Uw),slice noA 0 0,slice noA 0 0]++[int i64 4,int i64 0,string v,slice noA 0 0,slice noA 0 0]++[int i64 (GJ.k a.1),int i64 (GJ.n a.1),string (GJ.s a.1),slice (GJ.y a.1).1 (GJ.y a.1).2.1 (GJ.y a.1).2.2,slice (GJ.x a.1).1 (GJ.x a.1).2.1 (GJ.x a.1).2.2]))
 def Uv:=GJ.k a.1=5/\GJ.n a.1=0/\GJ.s a.1=mkS []/\p
 def YI:=(GJ.x a.1).1=noA/\(GJ.x a.1).2.1=0/\(GJ.x a.1).2.2=0/\b.1=f.1.1/\b.2.1=f.1.2.1/\b.2.2=f.1.2.2/\a.2.1=z.2.1/\qa qp a.2.2=qa qp z.2.2/\length a.2.2=length z.2.2/\kE d e l a/\p
 def i_:=length (XK v)=nat_lit 2*5/\(nat_lit 2+nat_lit 1)*80<=140737488355328/\∀(c J o:Nat) (t:Option Addr) (B i:Nat),(∃H,DR b d i a v H t)->∃(j:zQ),Uv j ((GJ.y j.1).1=t/\(GJ.y j.1).2.1=nat_lit 3/\(GJ.y j.1).2.2=i/\YI b e d l j f a ((∀i8,DR b d i a v i8 t->GJ.ok j.1 i8)/\True))
 def Ty:=(GJ.y a.1).1=A/\(GJ.y a.1).2.1=nat_lit 2/\(GJ.y a.1).2.2=u/\p
 def iX:=Ji (GJ.k a.1=6) (i_ b e d l a v f) (∀(E r G:Nat) (q:Option Addr) (h m:Nat),(∃C,(Zp b d a C)/\nat_lit 2<=m/\qgs C q (take (nat_lit 2*nat_lit 5) (XK v)))->∃(i16:zQ),Uv i16 (Ty m i16 (YI b e d l i16 f a ((∀w,(Zp b d a w)/\nat_lit 2<=m/\qgs w q (take (nat_lit 2*nat_lit 5) (XK v))->GJ.ok i16.1 w)/\True)) q))
 def DS:=(Zp b d a g)/\nat_lit 2<=u/\qgs g A (take (nat_lit 2*nat_lit 5) ([int i64 4,int i64 0,string (Uw),slice noA 0 0,slice noA 0 0]++[int i64 (GJ.k a.1),int i64 (GJ.n a.1),string (GJ.s a.1),slice (GJ.y a.1).1 (GJ.y a.1).2.1 (GJ.y a.1).2.2,slice (GJ.x a.1).1 (GJ.x a.1).2.1 (GJ.x a.1).2.2]))
 def la:=(nat_lit 1+1)*80<=140737488355328/\∀(c J o:Nat) (t:Option Addr) (B i:Nat),(∃H,DS b d i a H t)->∃(j:zQ),Uv j (Ty i j (YI b e d l j f a ((∀i8,DS b d i a i8 t->GJ.ok j.1 i8)/\True)) t)
 def Ts:=(Zp b d a g)/\q37 g (Addr.mk u I none) [int i64 4,int i64 0,string (Uw),slice noA 0 0,slice noA 0 0]
 def iZ:=Ji (GJ.k a.1=6) (la b e d l a f) (∀(E r G:Nat),(∃q,Ts b d E a q r)->∃(h:zQ),Uv h ((GJ.y h.1).1=some (Addr.mk E (r+nat_lit 0) none)/\(GJ.y h.1).2.1=nat_lit 1/\(GJ.y h.1).2.2=nat_lit 1/\YI b e d l h f a ((∀m,Ts b d E a m r->GJ.ok h.1 m)/\True)))
 def iY:=Tz e/\∃(c:jW),Tw b e c (c.2.2.1=qh d D/\Tu b F l u c (∀(o:zQ),kE c.2.1 c.2.2.1 c.2.2.2.2 o->(∃t,Zp b F o t)->iZ b D F l o c))
 def iW:=mkS [110,117,108,108]=mkS [110,117,108,108]/\True/\∃(c:List Int),Tv b (e=e/\(0<=e/\e<=(↑(length c):Int)/\(0:Int)<2/\(2:Int)<1000000/\zM c)/\Tx b d c/\Ji (ql c e (2:Int)=0) (∃(o:List Int),Tv b (qh c e=qh c e/\(0<=qh c e/\qh c e<=(↑(length o):Int)/\(0:Int)<2/\(2:Int)<1000000/\zM o)/\Tx b d o/\(0<=ql o (qh c e) 2/\ql o (qh c e) (2:Int)<(↑(2:Nat):Int))/\∃B,qgf [string (mkS [105,110,116]),string (mkS [115,116,114,105,110,103])] ((0:Nat)+toNat (ql o (qh c e) 2)*1) [string B]/\B=B/\True/\(nat_lit 1+1)*80<=140737488355328/\Tz D/\∃(i:jW),Tw b D i (i.2.2.1=qh o (qh c e)/\Tu b d l u i (∀(j:zQ),kE i.2.1 i.2.2.1 i.2.2.2.2 j->(∃i8,Zp b d j i8)->iX b e d l j B i)))) (iY b D c e l u d))
end
def zk6(c:Nat) (x:SV) (L:List Int) (n d:Int) (N:List IV):qk4 P (qfa [(23,Qz),(72,VK)]) (qgc [(70,xq.below z66 c)]) Tryz.f106 (Hg.below z66 (c+1)) (zvk) ⟨x,L,n,d,N⟩=(z66 (x,L,n,d,N)<c+1/\yK 3 (x,L,n,d,N)->(∃(p:Pub),True/\qc qn x L p)->iW x n L d N c):=by kernel_rfl
def union_eq:=λc x L n d N=>Eq.trans (zk6 c x L n d N) (by delta Ji Jb Jt Jf Tv Tx Tz Tw Tu Zp Uw XK DR Uv YI i_ Ty iX DS la Ts iZ iY iW;exact rfl)
section
variable (b:QJ) (g:List Int) (m E:Int) (e:SV) (u:Nat) (q:List Int) (o:IV) (B:List IV) (a:zQ) (d:jW) (z:IV) (p:List Int) (j:List Int×GJ) (t K:Option Addr) (l:Nat) (h:Nat->Option Obj) (D L:Nat) (A:Prop) (M:QJ)
 abbrev LF:=e.1=e.1/\e.2.1=e.2.1/\e.2.2=e.2.2/\A
 def Qp:=(True/\qc qn e g h)/\GJ.oks b.2.2.2 h
 abbrev TG:=slice (GJ.y a.1).1 (GJ.y a.1).2.1 (GJ.y a.1).2.2
 abbrev TH:=slice (GJ.x a.1).1 (GJ.x a.1).2.1 (GJ.x a.1).2.2
 def TA:=AV.agg [AV.sv (int i64 (GJ.k a.1)),AV.sv (int i64 (GJ.n a.1)),AV.sv (string (GJ.s a.1)),AV.sv (TG a),AV.sv (TH a)]=AV.agg [AV.sv (int i64 (GJ.k a.1)),AV.sv (int i64 (GJ.n a.1)),AV.sv (string (GJ.s a.1)),AV.sv (TG a),AV.sv (TH a)]
 def TE:=d.1.1=d.1.1/\d.1.2.1=d.1.2.1/\d.1.2.2=d.1.2.2/\A
 def CN:=qc qn (d.1.1,d.1.2.1,d.1.2.2) j.1 h/\GJ.ok j.2 h
 abbrev Ux:=zP j.2 j.1 (qh g a.2.1)
 def YJ:=((Qp b g e h)/\GJ.ok a.1 h)/\nat_lit 3<=u/\qgs h t (take (nat_lit 3*nat_lit 5) ([int i64 4,int i64 0,string (mkS [102]++o),slice noA 0 0,slice noA 0 0,int i64 (GJ.k a.1),int i64 (GJ.n a.1),string (GJ.s a.1),slice (GJ.y a.1).1 (GJ.y a.1).2.1 (GJ.y a.1).2.2,slice (GJ.x a.1).1 (GJ.x a.1).2.1 (GJ.x a.1).2.2]++[int i64 (Ux q a j).1,int i64 (Ux q a j).2.1,string (Ux q a j).2.2.1,slice noA 0 0,slice noA 0 0]))
 abbrev LH:=mkS [110,97,109,101]
 abbrev LG:=mkS [116,121,112,101]
 def LC:=nat_lit 3<=u/\qgs h t (take (nat_lit 3*nat_lit 1) ([string (LH),string (LG)]++[string (mkS [100,101,102,97,117,108,116])]))
 def TC:=length (qa GJ.cells b.2.2.2)=length b.2.2.2*5/\(length b.2.2.2+nat_lit 1)*80<=140737488355328/\Jb (b.1+1)/\A
 def TD:=ql g m (5:Int)=ql g m 5/\E=E/\b.1=M.1+1/\e.1=d.1.1/\e.2.1=d.1.2.1/\e.2.2=d.1.2.2/\A
 def TF:=qa qp b.2.2.1=qa qp a.2.2/\length b.2.2.1=length a.2.2/\length b.2.2.2=length M.2.2.2+nat_lit 1/\A
 def TI:=HJ g m B (ql q m 5) b/\toNat (ql q m 5- b.1)<toNat (ql q m 5- M.1)/\True
 def lp:=TC b (∃(c:QJ),o=o/\TD c g m E e d (c.2.1=(Ux q a j).2.2.2/\qa GJ.cells c.2.2.2=qa GJ.cells b.2.2.2++[int i64 6,int i64 0,string (mkS []),slice t (nat_lit 3) u,slice K (nat_lit 3) l]/\TF c a ((∀i,(YJ b p e u q z a j t i)/\LC l K i->True/\qc qn e p i)/\(∀r,(YJ b p e u q z a j t r)/\LC l K r->GJ.oks c.2.2.2 r)/\TI c p m g B b) b) b)
 def lk:=(nat_lit 2+1)*16<=140737488355328/\∃(c:List Int×GJ),GJ.k c.2=GJ.k a.1/\GJ.n c.2=GJ.n a.1/\GJ.s c.2=GJ.s a.1/\(GJ.y c.2).1=(GJ.y a.1).1/\(GJ.y c.2).2.1=(GJ.y a.1).2.1/\(GJ.y c.2).2.2=(GJ.y a.1).2.2/\(GJ.x c.2).1=(GJ.x a.1).1/\(GJ.x c.2).2.1=(GJ.x a.1).2.1/\(GJ.x c.2).2.2=(GJ.x a.1).2.2/\TE d (qh g a.2.1=qh g a.2.1/\(0<=qh g a.2.1/\qh g a.2.1<=(↑(length c.1):Int)/\zM c.1/\GJ.wf c.2)/\(∀i,(Qp b q e i)/\GJ.ok a.1 i->CN d c i)/\(nat_lit 2+1)*80<=140737488355328/\TA a/\∀(r F X:Nat) (G:Option Addr) (U H:Nat),(∃i8,YJ b q e H g o a c G i8)->∀(Y N C:Nat) (v:Option Addr) (S w:Nat),(∃f,(YJ b q e H g o a c G f)/\LC w v f)->lp b p m E e H g z B a d o q c G v w)
 def YK:=((Qp b g e h)/\GJ.ok a.1 h)/\q37 h (Addr.mk u l none) [int i64 4,int i64 0,string (mkS [102]++o),slice noA 0 0,slice noA 0 0,int i64 (GJ.k a.1),int i64 (GJ.n a.1),string (GJ.s a.1),slice (GJ.y a.1).1 (GJ.y a.1).2.1 (GJ.y a.1).2.2,slice (GJ.x a.1).1 (GJ.x a.1).2.1 (GJ.x a.1).2.2]
 abbrev LD:=q37 h (Addr.mk u l none) [string (LH),string (LG)]
 def lq:=TC b (∃(c:QJ),o=o/\TD c g m E e d (c.2.1=qh q a.2.1/\qa GJ.cells c.2.2.2=qa GJ.cells b.2.2.2++[int i64 6,int i64 0,string (mkS []),slice (some (Addr.mk u (l+nat_lit 0) none)) (nat_lit 2) (nat_lit 2),slice (some (Addr.mk D (L+nat_lit 0) none)) (nat_lit 2) (nat_lit 2)]/\TF c a ((∀i,(YK b p e u z a l i)/\LD D L i->True/\qc qn e p i)/\(∀r,(YK b p e u z a l r)/\LD D L r->GJ.oks c.2.2.2 r)/\TI c p m g B b) b) b)
 def lf:=((-9223372036854775808:Int)<=97+b.1/\(97:Int)+b.1<=9223372036854775807)/\∃c,size c=1/\qgf [int u8 (IntKind.wrap u8 ((97:Int)+b.1))] 0 (q18 c)/\size (mkS [102])+size c<=9223372036854775807/\mkS [102]++c=mkS [102]++c/\True/\True/\TA a/\∃(i:List Int),(3:Int)=3/\TE d (a.2.1=a.2.1/\(0<=a.2.1/\a.2.1<=(↑(length i):Int)/\(0:Int)<3/\(3:Int)<1000000/\zM i)/\(∀r,(Qp b g e r)/\GJ.ok a.1 r->qc qn (d.1.1,d.1.2.1,d.1.2.2) i r)/\Ji (ql i a.2.1 (3:Int)=0) (lk b i m E e g c B a d o q) (∀(I J V:Nat),(∃T,YK b g e I c a J T)->∀(O Q W:Nat),(∃R,(YK b g e I c a J R)/\LD O Q R)->lq b q m E e I i o B a d c g J O Q))
 def ld:=Jb (m+1)/\∃(c:jW),c.2.2.2.1=m+1/\c.1.1=e.1/\c.1.2.1=e.2.1/\c.1.2.2=e.2.2/\c.2.2.1=b.2.1/\qa qp c.2.2.2.2=qa qp b.2.2.1/\length c.2.2.2.2=length b.2.2.1/\(z66 c<u/\yK 4 c)/\(∀i,Qp b g e i->qc qn c.1 c.2.1 i)/\∀(r:zQ),kE c.2.1 c.2.2.1 c.2.2.2.2 r->(∃F,(Qp b g e F)/\GJ.ok r.1 F)->lf b g E m e q o B r c
 def LB:=AV.agg [AV.int i64 5,AV.int i64 0,AV.str [],AV.ssl (nat_lit 7) (nat_lit 0) (length b.2.2.2) (nat_lit 5) (nat_lit 8),AV.nsl]=AV.agg [AV.int i64 5,AV.int i64 0,AV.str [],AV.ssl (nat_lit 7) (nat_lit 0) (length b.2.2.2) (nat_lit 5) (nat_lit 8),AV.nsl]
 def TJ:=(Qp b g e h)/\length b.2.2.2<=u/\qgs h t (take (length b.2.2.2*nat_lit 5) (qa GJ.cells b.2.2.2))
 def XL:=(TJ b g e u t h)/\q37 h (Addr.mk l D none) [int i64 4,int i64 0,string (mkS [114,101,99,111,114,100]),slice noA 0 0,slice noA 0 0,int i64 4,int i64 0,string o,slice noA 0 0,slice noA 0 0,int i64 4,int i64 0,string (mkS [115]),slice noA 0 0,slice noA 0 0,int i64 5,int i64 0,string (mkS []),slice t (length b.2.2.2) u,slice noA 0 0]
 abbrev TB:=q37 h (Addr.mk u l none) [string (LG),string (LH),string (mkS [110,97,109,101,115,112,97,99,101]),string (mkS [102,105,101,108,100,115])]
 def ll:=mkS [114,101,99,111,114,100]=mkS [114,101,99,111,114,100]/\True/\o=o/\True/\mkS [115]=mkS [115]/\True/\True/\LB b/\LB b/\LB b/\∀(c i r:Nat) (F:Option Addr) (X G:Nat),(∃U,TJ b g e G F U)->∀(H i8 Y:Nat),(∃N,XL b g e G o F H N i8)->∀(C v S:Nat),(∃w,(XL b g e G o F H w i8)/\TB C v w)->∃(f:zQ),GJ.k f.1=6/\GJ.n f.1=0/\GJ.s f.1=mkS []/\(GJ.y f.1).1=some (Addr.mk H (i8+nat_lit 0) none)/\(GJ.y f.1).2.1=nat_lit 4/\(GJ.y f.1).2.2=nat_lit 4/\(GJ.x f.1).1=some (Addr.mk C (v+nat_lit 0) none)/\(GJ.x f.1).2.1=nat_lit 4/\(GJ.x f.1).2.2=nat_lit 4/\LF e (f.2.1=b.2.1/\qa qp f.2.2=qa qp b.2.2.1/\length f.2.2=length b.2.2.1/\kE g m B f/\(∀i16,(XL b g e G o F H i16 i8)/\TB C v i16->GJ.ok f.1 i16)/\True)
 def lb:=Ji (b.1<ql g m 5) (ld b q E m e u g o B) (ll b q m e o B)
end
def zpt(c:Nat) (s:IV) (x:SV) (L:List Int) (n d:Int) (N:List IV):qk4 P (qfa [(23,Qz),(72,VK),(71,Vz),(73,GC)]) (qgc [(70,xq.below z66 c)]) Tryz.f33 (Jp.below Ko (c+1)) (ze7) ⟨s,x,L,n,d,N⟩=(Ko (s,x,L,n,d,N)<c+1/\size s<100/\yK 3 (x,L,n,d,N)->(∃(p:Pub),True/\qc qn x L p)->∃(b:List Int),(5:Int)=5/\LF x (n=n/\(0<=n/\n<=(↑(length b):Int)/\(0:Int)<5/\(5:Int)<1000000/\zM b)/\(∀(p:Pub),True/\qc qn x L p->qc qn (x.1,x.2.1,x.2.2) b p)/\(∃(s_1:QJ),s=s/\ql b n (5:Int)=ql b n 5/\d=d/\s_1.1=0/\LF x (s_1.2.1=qh b n/\qa qp s_1.2.2.1=qa qp N/\length s_1.2.2.1=length N/\length s_1.2.2.2=0/\(∀(p:Pub),True/\qc qn x L p->True/\qc qn x L p)/\(∀(p:Pub),True/\qc qn x L p->GJ.oks s_1.2.2.2 p)/\HJ L n N (ql b n 5) s_1/\True))/\∀(s_1:QJ),HJ L n N (ql b n 5) s_1->(∃(p:Pub),Qp s_1 L x p)->lb s_1 b n d x c L s N)):=by kernel_rfl
def zyf:=λc s x L n d N=>Eq.trans (zpt c s x L n d N) (by delta Ji Jb Jt Jf LF Qp TG TH TA TE CN Ux YJ LH LG LC TC TD TF TI lp lk YK LD lq lf ld LB TJ XL TB ll lb;exact rfl)
section
def leaf(k n:Int) (s:IV):GJ:= .mk k n s (none,0,0) [] (none,0,0) []
variable {s:IV} {p:Pub}
def zW{k n:Int}:(leaf k n s).ok p:=by unfold leaf;rw[GJ.ok];exact⟨qY,qY,by rw[GJ.oks];trivial⟩
def zX{k n:Int} (h:s.size<1000) (h0: -9223372036854775808<=n) (h1:n<9223372036854775808):(leaf k n s).wf:=by unfold leaf;rw[GJ.wf];exact⟨h,by decide,by decide,λt ht=>(by cases ht),⟨h0,h1⟩,λ_=>rfl,by rw[GJ.wfs];trivial⟩
variable {l:List GJ}
def q_{g:GJ} (h1:g.ok p) (h2:GJ.oks l p):GJ.oks (g::l) p:=by rw[GJ.oks];exact⟨h1,h2⟩
def kB:GJ.oks [] p:=by rw[GJ.oks];trivial
def za{g:GJ} (h1:g.wf) (h2:GJ.wfs l):GJ.wfs (g::l):=by rw[GJ.wfs];exact⟨h1,h2⟩
def kC:GJ.wfs []:=by rw[GJ.wfs];trivial
variable {α:Type}
def Zh{f:α->List Value} {l:List α} {a:Option Addr} {n c:Nat} (hn:n=l.length) (h:qgt p a n c (qa f l)):qc f (a,n,c) l p:=⟨hn,h⟩
def yD{f:α->List Value} {l:List α} {b s n c:Nat} (hn:n=l.length) (hc:n<=c) (h:q37 p ⟨b,s,none⟩ (qa f l)):qc f (some ⟨b,s+0,none⟩,n,c) l p:=⟨hn,hc, .inr ⟨_,rfl,rfl,h⟩⟩
def wX(x:SV) (l:List GJ):GJ:= .mk 5 0 (mkS []) x l (none,0,0) []
variable {x:SV}
def JA(h1:qc GJ.cells x l p) (h2:GJ.oks l p):(wX x l).ok p:=by unfold wX;rw[GJ.ok];exact⟨h1,qY,h2⟩
def JB(h1:l.length<8) (h2:GJ.wfs l):(wX x l).wf:=by unfold wX;rw[GJ.wf];exact⟨by decide,h1,Nat.zero_le _,λt ht=>(by cases ht),⟨by omega,by omega⟩,λh=>absurd h (by decide),h2⟩
def wq(x:SV) (l:List GJ) (y:SV) (nm:List IV):GJ:= .mk 6 0 (mkS []) x l y nm
variable {nm:List IV}
def Zi{y:SV} (h1:qc GJ.cells x l p) (h3:qc qp y nm p) (h2:GJ.oks l p):(wq x l y nm).ok p:=by unfold wq;rw[GJ.ok];exact⟨h1,h3,h2⟩
def Zj{y:SV} (h1:l.length<8) (h3:nm.length=l.length) (h4:∀t∈nm,t.size<1000) (h2:GJ.wfs l):(wq x l y nm).wf:=by unfold wq;rw[GJ.wf];exact⟨by decide,h1,by omega,h4,⟨by omega,by omega⟩,λ_=>h3,h2⟩
variable {L:List Int}
def zpc{n:Int} (h:n<L.length):qh L n=n+1:=by unfold qh;rw[if_neg (by omega)]
def zpd{n m:Int} (h:ql L n m≠0):n<L.length:=by
 unfold ql at h;split at h
 ·exact absurd rfl h
 ·omega
def zu9(c:Nat) (h:c<256):q18 (mkS [c])=[.int .u8 (c:Nat)]:=by simp[q18,mkS];omega
def zl2(n:Nat):IntKind.wrap .u8 (97+(n:Int).tmod 26)=((97+n % 26:Nat):Int):=by rw[VP,Int.tmod_eq_emod_of_nonneg (by omega)];omega
def z5m{α:Type} {f:α->List Value} {l:List α} {p:Pub} {x:Addr} (k:Nat) (h:q37 p x (qa f l)):q37 p x (qa f (l.take k)):=λj v hj=>by
 refine h j v ?_;conv at hj=>lhs;rw[show qa f (l.take k)=qa f (l.take k)from rfl]
 have e:qa f l=qa f (l.take k)++qa f (l.drop k):=by rw[←zx,List.take_append_drop]
 rw[e,List.getElem?_append_left (List.getElem?_eq_some_iff.mp hj).1];exact hj
def S5(b s:Nat) (r:Int):SV:=(slA (some ⟨b,s+0,none⟩) 3 0 5,(@Int.rec (λ_=>Nat) (λa=>a) (λ_=>0) (1+r))- 0,3- 0)
def Vt(r:Int):List GJ:=[leaf 4 0 (mkS [88]),leaf 4 0 (mkS [89]),leaf 4 0 (mkS [90])].take (1+r).toNat
def Ow{b s:Nat} {r:Int} (h0:0<=r) (h1:r<3) (h:q37 p ⟨b,s,none⟩ (qa GJ.cells [leaf 4 0 (mkS [88]),leaf 4 0 (mkS [89]),leaf 4 0 (mkS [90])])):qc GJ.cells (S5 b s r) (Vt r) p/\GJ.oks (Vt r) p:=by
 have:r=0\/r=1\/r=2:=by omega
 rcases this with rfl|rfl|rfl
 ·exact⟨⟨rfl,show 1<=3 by decide, .inr ⟨⟨b,s,none⟩,rfl,rfl,z5m 1 h⟩⟩,q_ zW kB⟩
 ·exact⟨⟨rfl,show 2<=3 by decide, .inr ⟨⟨b,s,none⟩,rfl,rfl,z5m 2 h⟩⟩,q_ zW (q_ zW kB)⟩
 ·exact⟨⟨rfl,show 3<=3 by decide, .inr ⟨⟨b,s,none⟩,rfl,rfl,h⟩⟩,q_ zW (q_ zW (q_ zW kB))⟩
def HK{r:Int} (h0:0<=r) (h1:r<3):(Vt r).length<8/\GJ.wfs (Vt r):=by
 have:r=0\/r=1\/r=2:=by omega
 rcases this with rfl|rfl|rfl
 ·exact⟨by decide,za (zX (by decide) (by omega) (by omega)) kC⟩
 ·exact⟨by decide,za (zX (by decide) (by omega) (by omega)) (za (zX (by decide) (by omega) (by omega)) kC)⟩
 ·exact⟨by decide,za (zX (by decide) (by omega) (by omega)) (za (zX (by decide) (by omega) (by omega)) (za (zX (by decide) (by omega) (by omega)) kC))⟩
def zqd(c:Nat) (ht:q1q P 70 (xq.below z66 c)):q1q P 106 (Hg.below z66 (c+1)):=by
 refine zt (qcn (qgp JC (qgp G6 qjr))) (qde (qgo ht qjq)) (W:=zvk) Tryz.func106 λ⟨(x:SV),(L:List Int),(n:Int),(d:Int),N⟩=>(union_eq c x L n d N).mpr ?_;rintro⟨hmu,hn0,hn1,hL,hd0,hd1,hN,hNs⟩ ⟨p,_,hp⟩;have hmu:(10- d).toNat<c+1:=hmu;simp only[qH,Int.toNat_natCast];have nb:=v_ hn1;refine⟨L,⟨hn0,hn1,by omega,by omega,hL⟩,λq hq=>hq,λh0=> ?_,λh0=> ?_⟩
 ·have nb2:=v_ nb.2.1;have hr:=yd (n:=qh L n) (m:=2) hL (by omega);obtain⟨s,hs,hsz⟩:∃s:IV,(∀(j:Nat) (v:Value),[Value.string s][j]? =some v->[Value.string (mkS [105,110,116]),Value.string (mkS [115,116,114,105,110,103])][0+(ql L (qh L n) 2).toNat*1+j]? =some v)/\s.size<1000:=by
   have:ql L (qh L n) 2=0\/ql L (qh L n) 2=1:=(by omega);rcases this with e|e
   ·rw[e];exact⟨mkS [105,110,116],λj v hj=>by cases j with|zero=>exact hj|succ j=>simp at hj,by decide⟩
   ·rw[e];exact⟨mkS [115,116,114,105,110,103],λj v hj=>by cases j with|zero=>exact hj|succ j=>simp at hj,by decide⟩
  refine⟨L,⟨by omega,nb.2.1,by omega,by omega,hL⟩,λq hq=>hq,hr,s,hs,by decide,by omega,⟨x,L,qh L (qh L n),d+1,N⟩,rfl,rfl,rfl,rfl,rfl,rfl,rfl,⟨?_,by omega,nb2.2.1,hL,by omega,by omega,by omega,hNs⟩,λq hq=>hq,?_⟩
  ·show(10- (d+1)).toNat<c;omega
  rintro⟨g,n',N'⟩ ⟨hw,p1,p2,p3,p4,p5⟩ _;simp only at p1 p2 p3 p4;refine⟨λhk=>⟨rfl,by decide,λ_ _ _ a m cc _=>⟨⟨wX (a,3,cc) [leaf 4 0 (mkS [110,117,108,108]),leaf 4 0 s,g],n',N'⟩,rfl,rfl,rfl,rfl,rfl,rfl,rfl,rfl,rfl,rfl,rfl,rfl,rfl,rfl,rfl,⟨?_,by omega,p2,p3,by omega,p5⟩,λq hq=> ?_⟩⟩,λhk _ _ _ a m cc _=>⟨⟨wX (a,2,cc) [leaf 4 0 (mkS [110,117,108,108]),leaf 4 0 s],n',N'⟩,rfl,rfl,rfl,rfl,rfl,rfl,rfl,rfl,rfl,rfl,rfl,rfl,rfl,rfl,rfl,⟨?_,by omega,p2,p3,by omega,p5⟩,λq hq=> ?_⟩⟩
  ·exact JB (by simp) (za (zX (by decide) (by omega) (by omega)) (za (zX hsz (by omega) (by omega)) (za hw kC)))
  ·exact JA (Zh rfl hq.2) (q_ zW (q_ zW (q_ hq.1.2 kB)))
  ·exact JB (by simp) (za (zX (by decide) (by omega) (by omega)) (za (zX hsz (by omega) (by omega)) kC))
  ·exact JA (Zh rfl hq.2) (q_ zW (q_ zW kB))
 ·refine⟨by omega,⟨x,L,qh L n,d+1,N⟩,rfl,rfl,rfl,rfl,rfl,rfl,rfl,⟨?_,by omega,nb.2.1,hL,by omega,by omega,by omega,hNs⟩,λq hq=>hq,?_⟩
  ·show(10- (d+1)).toNat<c;omega
  rintro⟨g,n',N'⟩ ⟨hw,p1,p2,p3,p4,p5⟩ _;simp only at p1 p2 p3 p4;refine⟨λhk=>⟨by decide,λ_ _ _ a m cc _=>⟨⟨wX (a,2,cc) [leaf 4 0 (mkS [110,117,108,108]),g],n',N'⟩,rfl,rfl,rfl,rfl,rfl,rfl,rfl,rfl,rfl,rfl,rfl,rfl,rfl,rfl,rfl,⟨?_,by omega,p2,p3,by omega,p5⟩,λq hq=> ?_⟩⟩,λhk b2 s2 _ _=>⟨⟨wX (some ⟨b2,s2+0,none⟩,1,1) [leaf 4 0 (mkS [110,117,108,108])],n',N'⟩,rfl,rfl,rfl,rfl,rfl,rfl,rfl,rfl,rfl,rfl,rfl,rfl,rfl,rfl,rfl,⟨?_,by omega,p2,p3,by omega,p5⟩,λq hq=> ?_⟩⟩
  ·exact JB (by simp) (za (zX (by decide) (by omega) (by omega)) (za hw kC))
  ·exact JA (Zh rfl hq.2) (q_ zW (q_ hq.1.2 kB))
  ·exact JB (by simp) (za (zX (by decide) (by omega) (by omega)) kC)
  ·exact JA (yD rfl (Nat.le_refl _) hq.2) (q_ zW kB)
def zyy(c:Nat) (ht:q1q P 70 (xq.below z66 c)) (hu:q1q P 106 (Hg.below z66 (c+1))) (hr:q1q P 33 (Jp.below Ko (c+1))):q1q P 70 (xq.below z66 (c+1)):=by
 refine zt (qcn (qgp JC (qgp NI (qgp G6 (qgp zdr qjr))))) (qde (qgo ht (qgo hu (qgo hr qjq)))) (W:=OG) Tryz.func70 λ⟨(x:SV),(L:List Int),(n:Int),(d:Int),N⟩=>(zyx c x L n d N).mpr ?_;rintro⟨hmu,hn0,hn1,hL,hd0,hd1,hN,hNs⟩ ⟨p,_,hp⟩;have hmu:(10- d).toNat<c+1:=hmu;simp only[qH,Int.toNat_natCast,exists_const];have nb:=v_ hn1;have hLl:=hL.1;have hr0:=yd (n:=n) (m:=20) hL (by omega);have small8:3<d->(8:Int)≠0/\∃s,s=(ql L n 20).tmod 8/\qh L n=qh L n/\0<=s/\s<20/\(8<=s->d<=3/\n<L.length):=λh=>by have e:(ql L n 20).tmod 8=ql L n 20 % 8:=Int.tmod_eq_emod_of_nonneg hr0.1;exact⟨by decide,_,rfl,rfl,by omega,by omega,λh=>by omega⟩
 have small9:(8:Int)≠0/\∃s,s=(ql L n 20).tmod 8/\qh L n=qh L n/\0<=s/\s<20/\(8<=s->d<=3/\n<L.length):=by have e:(ql L n 20).tmod 8=ql L n 20 % 8:=Int.tmod_eq_emod_of_nonneg hr0.1;exact⟨by decide,_,rfl,rfl,by omega,by omega,λh=>by omega⟩
 refine⟨L,⟨hn0,hn1,by omega,by omega,hL⟩,λq hq=>hq,⟨small8,λhd3=>⟨L,λq hq=>hq,λ_=>small9,λ_=>⟨_,rfl,rfl,hr0.1,hr0.2,λh=>⟨by omega,zpd (m:=20) (by omega)⟩⟩⟩⟩,?_⟩;rintro k ⟨hk0,hk1,hk2⟩;refine⟨⟨λh8=> ?_,λh8=>⟨λh10=> ?_,λh10=>⟨λh1=> ?_,λh1=>⟨λh14=> ?_,λh14=>⟨λe14=>⟨λhN0=> ?_,λ_=>by omega⟩,λ_=>by omega⟩⟩⟩⟩⟩,?_⟩
 ·obtain⟨s,hs,hsz⟩:∃s:IV,(∀(j:Nat) (v:Value),[Value.string s][j]? =some v->[Value.string (mkS [105,110,116]),Value.string (mkS [108,111,110,103]),Value.string (mkS [115,116,114,105,110,103]),Value.string (mkS [98,121,116,101,115]),Value.string (mkS [98,111,111,108,101,97,110]),Value.string (mkS [110,117,108,108]),Value.string (mkS [102,108,111,97,116]),Value.string (mkS [100,111,117,98,108,101])][0+k.toNat*1+j]? =some v)/\s.size<1000:=by have:k=0\/k=1\/k=2\/k=3\/k=4\/k=5\/k=6\/k=7:=(by omega);rcases this with rfl|rfl|rfl|rfl|rfl|rfl|rfl|rfl;all_goals refine⟨_,λj v hj=>by cases j with|zero=>exact hj|succ j=>simp at hj,by decide⟩
  exact⟨⟨hk0,h8⟩,s,hs,⟨leaf 4 0 s,qh L n,N⟩,rfl,rfl,rfl,rfl,rfl,rfl,rfl,rfl,rfl,rfl,rfl,rfl,⟨zX hsz (by omega) (by omega),nb.1,nb.2.1,Nat.le_refl _,by omega,hNs⟩,λq hq=>zW⟩
 ·have hd:=hk2 (by omega);refine⟨by omega,⟨x,L,qh L n,d+1,N⟩,rfl,rfl,rfl,rfl,rfl,rfl,rfl,⟨?_,by omega,nb.2.1,hL,by omega,by omega,by omega,hNs⟩,λq hq=>hq,?_⟩
  ·show(10- (d+1)).toNat<c;omega
  rintro⟨g,n',N'⟩ ⟨hw,p1,p2,p3,p4,p5⟩ _ b1 s1 u1 _ b2 s2 u2 _;simp only at p1 p2 p3 p4;exact⟨⟨wq (some ⟨b1,s1+0,none⟩,2,2) [leaf 4 0 (mkS [97,114,114,97,121]),g] (some ⟨b2,s2+0,none⟩,2,2) [mkS [116,121,112,101],mkS [105,116,101,109,115]],n',N'⟩,rfl,rfl,rfl,rfl,rfl,rfl,rfl,rfl,rfl,rfl,rfl,rfl,rfl,rfl,rfl,⟨Zj (by simp) rfl (by decide) (za (zX (by decide) (by omega) (by omega)) (za hw kC)),by omega,p2,p3,by omega,p5⟩,λq hq=>Zi (yD rfl (Nat.le_refl _) hq.1.2) (yD rfl (Nat.le_refl _) hq.2) (q_ zW (q_ hq.1.1.2 kB))⟩
 ·have hd:=hk2 (by omega);refine⟨by omega,⟨x,L,qh L n,d+1,N⟩,rfl,rfl,rfl,rfl,rfl,rfl,rfl,⟨?_,by omega,nb.2.1,hL,by omega,by omega,by omega,hNs⟩,λq hq=>hq,?_⟩
  ·show(10- (d+1)).toNat<c;omega
  rintro⟨g,n',N'⟩ ⟨hw,p1,p2,p3,p4,p5⟩ _ b1 s1 u1 _ b2 s2 u2 _;simp only at p1 p2 p3 p4;exact⟨⟨wq (some ⟨b1,s1+0,none⟩,2,2) [leaf 4 0 (mkS [109,97,112]),g] (some ⟨b2,s2+0,none⟩,2,2) [mkS [116,121,112,101],mkS [118,97,108,117,101,115]],n',N'⟩,rfl,rfl,rfl,rfl,rfl,rfl,rfl,rfl,rfl,rfl,rfl,rfl,rfl,rfl,rfl,⟨Zj (by simp) rfl (by decide) (za (zX (by decide) (by omega) (by omega)) (za hw kC)),by omega,p2,p3,by omega,p5⟩,λq hq=>Zi (yD rfl (Nat.le_refl _) hq.1.2) (yD rfl (Nat.le_refl _) hq.2) (q_ zW (q_ hq.1.1.2 kB))⟩
 ·have hd:=hk2 (by omega);refine⟨⟨x,L,qh L n,d,N⟩,rfl,rfl,rfl,rfl,rfl,rfl,rfl,⟨?_,by omega,nb.2.1,hL,by omega,by omega,by omega,hNs⟩,λq hq=>hq,?_⟩
  ·show(10- d).toNat<c+1;omega
  rintro⟨g,n',N'⟩ ⟨hw,p1,p2,p3,p4,p5⟩ _;simp only at p1 p2 p3 p4;exact⟨⟨g,n',N'⟩,rfl,rfl,rfl,rfl,rfl,rfl,rfl,rfl,rfl,rfl,rfl,rfl,rfl,rfl,rfl,⟨hw,by omega,p2,p3,by omega,p5⟩,λq hq=>hq.2⟩
 ·have hd:=hk2 (by omega);have hN0:0<N.length:=by omega
  have nb2:=v_ nb.2.1;have hr:=yd (n:=qh L n) (m:=N.length) hL (by omega);obtain⟨i,hi⟩:=Int.eq_ofNat_of_zero_le hr.1;have hil:i<N.length:=by omega
  refine⟨L,⟨by omega,nb.2.1,by omega,by omega,hL⟩,λq hq=>hq,hr,N[i],?_,⟨leaf 4 0 N[i],qh L (qh L n),N⟩,rfl,rfl,rfl,rfl,rfl,rfl,rfl,rfl,rfl,rfl,rfl,rfl,⟨zX (by have:=hNs N[i] (List.getElem_mem _);omega) (by omega) (by omega),by omega,nb2.2.1,Nat.le_refl _,by omega,hNs⟩,λq hq=>zW⟩;rw[hi,Int.toNat_natCast];intro j v hj;cases j with
  |zero=>rw[Nat.zero_add,Zb jV N i hil 0 (by decide)];exact hj
  |succ j=>simp at hj
 intro _ h14;have hd:=hk2 (by omega);have e26:(N.length:Int).tmod 26=(N.length:Int) % 26:=Int.tmod_eq_emod_of_nonneg (by omega);have hz:(mkS [97+N.length % 26]).size=1:=rfl;have hn2:(mkS [78]++mkS [97+N.length % 26]).size=2:=by rw[ByteArray.size_append,hz];rfl
 have hnl:n<L.length:=hd.2;have hnn:=zpc hnl;refine⟨by decide,by omega,mkS [97+N.length % 26],rfl,?_,by rw[hz];decide,qv jV N,by omega,?_⟩
 ·intro j v hj;rw[zu9 _ (by omega)]at hj;rw[zl2,Nat.zero_add];exact hj
 have hN':∀t∈N++[(mkS [78]++mkS [97+N.length % 26])],t.size<100:=λt ht=>by
  rcases List.mem_append.1 ht with h|h
  ·exact hNs t h
  ·simp at h;rw[h];omega
 have hNl:(N++[(mkS [78]++mkS [97+N.length % 26])]).length=N.length+1:=by simp
 have hNr:qa qp (N++[(mkS [78]++mkS [97+N.length % 26])])=qa qp N++[Value.string (mkS [78]++mkS [97+N.length % 26])]:=by rw[zx];rfl
 generalize (mkS [78]++mkS [97+N.length % 26])=name at*;generalize N++[name]=N1 at*;have nb2:=v_ nb.2.1;refine⟨λh15=> ?_,λh15=>⟨λh16=> ?_,λh16=> ?_⟩⟩
 ·have hr4:=yd (n:=qh L n) (m:=4) hL (by omega);refine⟨L,⟨by omega,nb.2.1,by omega,by omega,hL⟩,λq hq=>hq,λb1 s1 u1 _ b2 s2 u2 _=>⟨⟨wq (some ⟨b1,s1+0,none⟩,3,3) [leaf 4 0 (mkS [102,105,120,101,100]),leaf 4 0 name,leaf 3 (ql L (qh L n) 4) (mkS [])] (some ⟨b2,s2+0,none⟩,3,3) [mkS [116,121,112,101],mkS [110,97,109,101],mkS [115,105,122,101]],qh L (qh L n),N1⟩,rfl,rfl,rfl,rfl,rfl,rfl,rfl,rfl,rfl,rfl,hNr,hNl,⟨?_,by omega,nb2.2.1,by omega,by omega,hN'⟩,λq hq=> ?_⟩⟩
  ·exact Zj (by simp) rfl (by decide) (za (zX (by decide) (by omega) (by omega)) (za (zX (by omega) (by omega) (by omega)) (za (zX (by decide) (by omega) (by omega)) kC)))
  ·exact Zi (yD rfl (Nat.le_refl _) hq.1.2) (yD rfl (Nat.le_refl _) hq.2) (q_ zW (q_ zW (q_ zW kB)))
 ·have hr3:=yd (n:=qh L n) (m:=3) hL (by omega);have nb3:=v_ nb2.2.1;generalize hrr:ql L (qh L n) 3=r at hr3;refine⟨L,⟨by omega,nb.2.1,by omega,by omega,hL⟩,λq hq=>hq,?_⟩;rw[hrr];refine⟨by omega,λb1 s1 u1 _=>⟨Nat.le_refl _,by omega,L,⟨by omega,nb2.2.1,by omega,by omega,hL⟩,λq hq=>hq.1,?_,?_⟩⟩
  ·refineλ_=>⟨by decide,by decide,λ_ _ _ a _ cc _ _ _ _ a2 _ cc2 _=>⟨⟨wq (a,4,cc) [leaf 4 0 (mkS [101,110,117,109]),leaf 4 0 name,wX (S5 b1 s1 r) (Vt r),leaf 4 0 (mkS [88])] (a2,4,cc2) [mkS [116,121,112,101],mkS [110,97,109,101],mkS [115,121,109,98,111,108,115],mkS [100,101,102,97,117,108,116]],qh L (qh L (qh L n)),N1⟩,rfl,rfl,rfl,rfl,rfl,rfl,rfl,rfl,rfl,rfl,hNr,hNl,⟨?_,by omega,nb3.2.1,by omega,by omega,hN'⟩,λq hq=> ?_⟩⟩
   ·exact Zj (by simp) rfl (by decide) (za (zX (by decide) (by omega) (by omega)) (za (zX (by omega) (by omega) (by omega)) (za (JB (HK hr3.1 hr3.2).1 (HK hr3.1 hr3.2).2) (za (zX (by decide) (by omega) (by omega)) kC))))
   ·have hsy:=Ow (b:=b1) (s:=s1) hr3.1 hr3.2 hq.1.1.2;exact Zi (Zh rfl hq.1.2) (Zh rfl hq.2) (q_ zW (q_ zW (q_ (JA hsy.1 hsy.2) (q_ zW kB))))
  ·refineλ_ b3 s3 _ _ b4 s4 _ _=>⟨⟨wq (some ⟨b3,s3+0,none⟩,3,3) [leaf 4 0 (mkS [101,110,117,109]),leaf 4 0 name,wX (S5 b1 s1 r) (Vt r)] (some ⟨b4,s4+0,none⟩,3,3) [mkS [116,121,112,101],mkS [110,97,109,101],mkS [115,121,109,98,111,108,115]],qh L (qh L (qh L n)),N1⟩,rfl,rfl,rfl,rfl,rfl,rfl,rfl,rfl,rfl,rfl,hNr,hNl,⟨?_,by omega,nb3.2.1,by omega,by omega,hN'⟩,λq hq=> ?_⟩
   ·exact Zj (by simp) rfl (by decide) (za (zX (by decide) (by omega) (by omega)) (za (zX (by omega) (by omega) (by omega)) (za (JB (HK hr3.1 hr3.2).1 (HK hr3.1 hr3.2).2) kC)))
   ·have hsy:=Ow (b:=b1) (s:=s1) hr3.1 hr3.2 hq.1.1.2;exact Zi (yD rfl (Nat.le_refl _) hq.1.2) (yD rfl (Nat.le_refl _) hq.2) (q_ zW (q_ zW (q_ (JA hsy.1 hsy.2) kB)))
 ·refine⟨⟨name,x,L,qh L n,d,N1⟩,rfl,rfl,rfl,rfl,rfl,rfl,hNr,hNl,⟨?_,by show name.size<100;omega,by omega,nb.2.1,hL,hd0,hd.1,by omega,hN'⟩,λq hq=>hq,?_⟩
  ·show(10- d).toNat<c+1;omega
  rintro⟨g,n',N'⟩ ⟨hw,p1,p2,p3,p4,p5⟩ _;simp only at p1 p2 p3 p4;exact⟨⟨g,n',N'⟩,rfl,rfl,rfl,rfl,rfl,rfl,rfl,rfl,rfl,rfl,rfl,rfl,rfl,rfl,rfl,⟨hw,by omega,p2,by omega,by omega,p5⟩,λq hq=>hq.2⟩
end
def NH:∀{l m:List GJ} {p:Pub},GJ.oks l p->GJ.oks m p->GJ.oks (l++m) p
  | [],m,p,h1,h2=>h2
  | g::l,m,p,h1,h2=>by rw[GJ.oks]at h1;exact q_ h1.1 (NH h1.2 h2)
def NO:∀{l m:List GJ},GJ.wfs l->GJ.wfs m->GJ.wfs (l++m)
  | [],m,h1,h2=>h2
  | g::l,m,h1,h2=>by rw[GJ.wfs]at h1;exact za h1.1 (NO h1.2 h2)
def zji(c:Nat) (ht:q1q P 70 (xq.below z66 c)):q1q P 33 (Jp.below Ko (c+1)):=by
 refine zt (qcn (qgp JC (qgp G6 (qgp zdr (qgp zwr qjr))))) (qde (qgo ht qjq)) (W:=ze7) Tryz.func33 λ⟨s,(x:SV),(L:List Int),(n:Int),(d:Int),N⟩=>(zyf c s x L n d N).mpr ?_;rintro⟨hmu,hss,hn0,hn1,hL,hd0,hd1,hN,hNs⟩ ⟨p,_,hp⟩;have hmu:(10- d).toNat<c+1:=hmu;simp only[qH,Int.toNat_natCast,exists_const];have nb:=v_ hn1;have hLl:=hL.1;have hr5:=yd (n:=n) (m:=5) hL (by omega);refine⟨L,⟨hn0,hn1,by omega,by omega,hL⟩,λq hq=>hq,⟨⟨0,qh L n,N,[]⟩,rfl,rfl,rfl,rfl,rfl,λq hq=>kB,by omega,by omega,by omega,rfl,kC,nb.1,nb.2.1,Nat.le_refl _,by omega,hNs⟩,?_⟩;rintro⟨i,n1,N1,fs⟩ ⟨i0,i1,i2,hfl,hfw,q1,q2,q3,q4,q5⟩ _;simp only at i0 i1 i2 hfl hfw q1 q2 q3 q4 q5⊢;refine⟨λhlt=>⟨by omega,⟨x,L,n1,d+1,N1⟩,rfl,rfl,rfl,rfl,rfl,rfl,rfl,⟨?_,by omega,q2,hL,by omega,by omega,by omega,q5⟩,λq hq=>hq.1,?_⟩,λhge=> ?_⟩
 ·show(10- (d+1)).toNat<c;omega
 ·rintro⟨g,n2,N2⟩ ⟨hw,p1,p2,p3,p4,p5⟩ _;simp only at p1 p2 p3 p4;have hr3:=yd (n:=n2) (m:=3) hL (by omega);have nb2:=v_ p2;have dfb:=zwp (g:=g) (L:=L) (n:=qh L n2) hL nb2.2.1;obtain⟨e,rfl⟩:=Int.eq_ofNat_of_zero_le i0;have hz:(mkS [97+e]).size=1:=rfl;have hsz:(mkS [102]++mkS [97+e]).size=2:=by rw[ByteArray.size_append,hz];rfl
  refine⟨by omega,mkS [97+e],rfl,?_,by rw[hz];decide,L,⟨by show 0<=n2;omega,p2,by omega,by omega,hL⟩,λq hq=>hq.1.1,λh0=>⟨by decide,⟨L,g⟩,rfl,rfl,rfl,rfl,rfl,rfl,rfl,rfl,rfl,⟨by show 0<=qh L n2;omega,nb2.2.1,hL,hw⟩,λq hq=>⟨hq.1.1,hq.2⟩,by decide,λ_ _ _ a _ cc _ _ _ _ a2 _ cc2 _=>⟨qv Ze fs,by omega,by omega,⟨(e:Int)+1,(zP g L (qh L n2)).2.2.2,N2,fs++[wq (a,3,cc) [leaf 4 0 (mkS [102]++mkS [97+e]),g,leaf (zP g L (qh L n2)).1 (zP g L (qh L n2)).2.1 (zP g L (qh L n2)).2.2.1] (a2,3,cc2) [mkS [110,97,109,101],mkS [116,121,112,101],mkS [100,101,102,97,117,108,116]]]⟩,rfl,rfl,rfl,rfl,rfl,?_,rfl,rfl,by simp,λq hq=>hq.1.1.1.1,λq hq=> ?_,?_,?_⟩⟩,λh0 b3 s3 _ _ b4 s4 _ _=>⟨qv Ze fs,by omega,by omega,⟨(e:Int)+1,qh L n2,N2,fs++[wq (some ⟨b3,s3+0,none⟩,2,2) [leaf 4 0 (mkS [102]++mkS [97+e]),g] (some ⟨b4,s4+0,none⟩,2,2) [mkS [110,97,109,101],mkS [116,121,112,101]]]⟩,rfl,rfl,rfl,rfl,rfl,?_,rfl,rfl,by simp,λq hq=>hq.1.1.1.1,λq hq=> ?_,?_,?_⟩⟩
  ·intro j v hj;rw[zu9 _ (by omega)]at hj;rw[show IntKind.wrap .u8 (97+(e:Int))=((97+e:Nat):Int)by rw[VP];omega,Nat.zero_add];exact hj
  ·rw[zx];rfl
  ·exact NH hq.1.1.1.2 (q_ (Zi (Zh rfl hq.1.2) (Zh rfl hq.2) (q_ zW (q_ hq.1.1.2 (q_ zW kB)))) kB)
  ·refine⟨by omega,by omega,i2,by rw[List.length_append];show((fs.length+1:Nat):Int)=_;omega,NO hfw (za (Zj (by simp) rfl (by decide) (za (zX (by omega) (by omega) (by omega)) (za hw (za (zX (by omega) (by omega) (by omega)) kC)))) kC),by omega,dfb.1.2,by omega,by omega,p5⟩
  ·show(ql L n 5- ((e:Int)+1)).toNat<_;omega
  ·rw[zx];rfl
  ·exact NH hq.1.1.1.2 (q_ (Zi (yD rfl (Nat.le_refl _) hq.1.2) (yD rfl (Nat.le_refl _) hq.2) (q_ zW (q_ hq.1.1.2 kB))) kB)
  ·refine⟨by omega,by omega,i2,by rw[List.length_append];show((fs.length+1:Nat):Int)=_;omega,NO hfw (za (Zj (by simp) rfl (by decide) (za (zX (by omega) (by omega) (by omega)) (za hw kC))) kC),by omega,nb2.2.1,by omega,by omega,p5⟩
  ·show(ql L n 5- ((e:Int)+1)).toNat<_;omega
 ·intro _ _ _ a _ cc _ b3 s3 _ _ b4 s4 _ _;refine⟨⟨wq (some ⟨b3,s3+0,none⟩,4,4) [leaf 4 0 (mkS [114,101,99,111,114,100]),leaf 4 0 s,leaf 4 0 (mkS [115]),wX (a,fs.length,cc) fs] (some ⟨b4,s4+0,none⟩,4,4) [mkS [116,121,112,101],mkS [110,97,109,101],mkS [110,97,109,101,115,112,97,99,101],mkS [102,105,101,108,100,115]],n1,N1⟩,rfl,rfl,rfl,rfl,rfl,rfl,rfl,rfl,rfl,rfl,rfl,rfl,⟨?_,q1,q2,q3,q4,q5⟩,λq hq=> ?_⟩
  ·exact Zj (by simp) rfl (by decide) (za (zX (by decide) (by omega) (by omega)) (za (zX (by omega) (by omega) (by omega)) (za (zX (by decide) (by omega) (by omega)) (za (JB (by omega) hfw) kC))))
  ·have e1:List.take (fs.length*5) (qa GJ.cells fs)=qa GJ.cells fs:=List.take_of_length_le (by rw[qv Ze];exact Nat.le_refl _);have e2:=hq.1.1.2;rw[e1]at e2;exact Zi (yD rfl (Nat.le_refl _) hq.1.2) (yD rfl (Nat.le_refl _) hq.2) (q_ zW (q_ zW (q_ zW (q_ (JA (Zh rfl e2) hq.1.1.1.2) kB))))
def z41:∀c,q1q P 70 (xq.below z66 c)/\q1q P 33 (Jp.below Ko c)
 |0=>⟨CtR.below_zero (by decide) (by decide) (Sen.enters_of Tryz.func70 (by kernel_rfl)) λs=>rfl,CtR.below_zero (by decide) (by decide) (Sen.enters_of Tryz.func33 (by kernel_rfl)) λs=>rfl⟩
 |c+1=>⟨zyy c (z41 c).1 (zqd c (z41 c).1) (zji c (z41 c).1),zji c (z41 c).1⟩
def zpu:q1q P 33 Jp:=CtR.of_below λc=>(z41 c).2
def Nz:CtR:=uQ (List AT×SV×Int×GJ) (λ⟨S,x,t,g⟩=>[kx x, .sv (.int .i64 t),g.av]) (λ⟨S,x,t,g⟩=>qx S/\g.wf) (λ⟨S,x,t,g⟩=>tU S x g) (Int×GV) (λ_ _=>True) (λ_ ⟨e,v⟩=>vM v) λ_ ⟨e,v⟩=> .tup [v.av, .sv (.int .i64 e)]
def sM(S:List AT) (x:SV):PF:=⟨true,qd S x,λ_ _ h e=>yC h e⟩
def GQ:CtR:=uQ (List AT×SV) (λ⟨S,x⟩=>[kx x]) (λ⟨S,x⟩=>qx S) (λ⟨S,x⟩=>sM S x) (Int×Int×Int) (λ_ _=>True) (λ_ _=>{}) λ_ ⟨e,t,i⟩=> .tup [.sv (.int .i64 e), .sv (.int .i64 t), .sv (.int .i64 i)]
def zkh:GQ.σ->WayF:=λ⟨S,x⟩=>{
 ann:=λid t _=>match id with
  |0=>some {σ:=Nat,pre:=λj=>j<=S.length,t:=λj=>[(5, .sv (.int .i64 (j:Int)))],h:=λ_=>[],more:=0,μ:=λj=>S.length- j,keep:=[1]}
  |_=>some {σ:=Nat,t:=λk=>[(6, .sv (.int .i64 (k:Int)))],h:=λ_=>[],more:=0,μ:=λk=>100- k,keep:=[1,5]}}
abbrev Kw:=SV×List Int×Int
def VN:Kw->Prop:=λ⟨x,L,n⟩=>0<=n/\n<=L.length/\zM L
def z77:CtR where
 σ:=Kw
 args:=λ⟨x,L,n⟩=>[.ptr 1 0]
 h:=λ⟨x,L,n⟩=>jc x n
 m:=2
 pre:=VN
 mem:=λ⟨x,L,n⟩=>Yr x L
 β:=λ_=>GJ×Int
 post:=λ⟨x,L,n⟩ ⟨g,n'⟩=>g.wf/\n<=n'/\n'<=L.length
 pm:=λ_ ⟨g,n'⟩=>gM g
 r:=λ_ ⟨g,n'⟩=>g.av
 h':=λ⟨x,L,n⟩ ⟨g,n'⟩=>jc x n'
 m':=2
def If:CtR where
 σ:=Kw
 args:=λ⟨x,L,n⟩=>[.ptr 1 0]
 h:=λ⟨x,L,n⟩=>jc x n
 m:=2
 pre:=VN
 mem:=λ⟨x,L,n⟩=>Yr x L
 β:=λ_=>List AT×SV×Bool×Int
 post:=λ⟨x,L,n⟩ ⟨S,y,b,n'⟩=>qx S/\(b=true->S≠[])/\n<=n'/\n'<=L.length
 pm:=λ_ ⟨S,y,b,n'⟩=>sM S y
 r:=λ_ ⟨S,y,b,n'⟩=> .tup [kx y, .sv (.bool b)]
 h':=λ⟨x,L,n⟩ ⟨S,y,b,n'⟩=>jc x n'
 m':=2
section
variable (a:qV) (i:List AT) (j:SV) (k:GJ) (d:Int×GV) (l:Prop) (h:(Option Addr×Nat×Nat)×Int)
 def DU:= !(decide (0<=h.2)&&decide (h.2<(↑h.1.2.1:Int)))
 def DT:=GV.n d.2=0/\GV.s d.2=mkS []/\(GV.x d.2).1=noA/\(GV.x d.2).2.1=0/\(GV.x d.2).2.2=0/\(GV.y d.2).1=noA/\(GV.y d.2).2.1=0/\(GV.y d.2).2.2=0/\GV.b d.2=0/\l
 def lr:=((!decide (a.2.1=0))=true->∃(g:Int×GV),DT g (g.1=a.2.1/\True/\(∀e,(True/\qd i j e/\GJ.ok k e)/\GV.ok a.2.2 e->GV.ok g.2 e)/\True))/\((!decide (a.2.1=0))=false->∃(c:Int×GV),GV.n c.2=GV.n a.2.2/\GV.s c.2=GV.s a.2.2/\(GV.x c.2).1=(GV.x a.2.2).1/\(GV.x c.2).2.1=(GV.x a.2.2).2.1/\(GV.x c.2).2.2=(GV.x a.2.2).2.2/\(GV.y c.2).1=(GV.y a.2.2).1/\(GV.y c.2).2.1=(GV.y a.2.2).2.1/\(GV.y c.2).2.2=(GV.y a.2.2).2.2/\GV.b c.2=GV.b a.2.2/\c.1=0/\True/\(∀f,(True/\qd i j f/\GJ.ok k f)/\GV.ok a.2.2 f->GV.ok c.2 f)/\True)
end
def zfk(S:List AT) (x:SV) (t:Int) (g:GJ):qk4 P (qfa [(30,KG)]) (qgc [(74,vW)]) Tryz.f34 Nz (λ_=>{}) ⟨S,x,t,g⟩=(qx S/\GJ.wf g->(∃(p:Pub),True/\qd S x p/\GJ.ok g p)->∃(s:(Option Addr×Nat×Nat)×Int),s.1.1=x.1/\s.1.2.1=x.2.1/\s.1.2.2=x.2.2/\s.2=t/\True/\((DU s)=true->∃(b:Int×GV),DT b (b.1=1/\True/\(∀(p:Pub),True/\qd S x p/\GJ.ok g p->GV.ok b.2 p)/\True))/\((DU s)=false->∃(s:xI),s.2.2.2.1=t/\GJ.k s.2.2.2.2.1=GJ.k g/\GJ.n s.2.2.2.2.1=GJ.n g/\GJ.s s.2.2.2.2.1=GJ.s g/\(GJ.y s.2.2.2.2.1).1=(GJ.y g).1/\(GJ.y s.2.2.2.2.1).2.1=(GJ.y g).2.1/\(GJ.y s.2.2.2.2.1).2.2=(GJ.y g).2.2/\(GJ.x s.2.2.2.2.1).1=(GJ.x g).1/\(GJ.x s.2.2.2.2.1).2.1=(GJ.x g).2.1/\(GJ.x s.2.2.2.2.1).2.2=(GJ.x g).2.2/\s.2.2.2.2.2=1/\s.2.1.1=x.1/\s.2.1.2.1=x.2.1/\s.2.1.2.2=x.2.2/\s.2.2.1=0/\(qx s.1/\(0<=s.2.2.2.1/\s.2.2.2.1<(↑(length s.1):Int))/\GJ.wf s.2.2.2.2.1/\(0<=s.2.2.1/\s.2.2.1<=2000)/\1<=s.2.2.2.2.2/\s.2.2.2.2.2<=21)/\(∀(p:Pub),True/\qd S x p/\GJ.ok g p->qd s.1 s.2.1 p/\GJ.ok s.2.2.2.2.1 p)/\∀(b:qV),jg s.2.2.1 b->(∃(p:Pub),(True/\qd S x p/\GJ.ok g p)/\GV.ok b.2.2 p)->lr b S x g)):=by kernel_rfl
def zk9:=λS x t g=>Eq.trans (zfk S x t g) (by delta DU DT lr;exact rfl)
section
variable (a:SV) (e:List AT) (d f:Nat) (A:Int×GV) (C:Prop) (H:Option Addr) (I:Nat)
 abbrev TK:=a.1=a.1/\a.2.1=a.2.1/\a.2.2=a.2.2/\C
 def YL:=TK a ((∀c,True/\qd e a c->True/\qd e a c)/\C)
 abbrev LJ:=(↑d:Int)<(↑a.2.1:Int)
 def TL:=(∀c,True/\qd e a c->q37 c (Addr.add (adr a.1 (toNat (↑d:Int)*10)) 8) [slice H f I])
 abbrev LI:=Jb ((↑d:Int)+1)
 def lD:=LI d/\∃(c:Nat),(↑f:Int)=(↑f:Int)/\(↑c:Int)=(↑d:Int)+1/\YL a e (True/\(100:Nat)- c<100- d/\True)
 def lB:=LI d/\∃(c:Nat),(↑f:Int)=(↑f:Int)/\(↑c:Int)=(↑d:Int)+1/\TK a ((∀g,(True/\qd e a g)/\GV.ok A.2 g->True/\qd e a g)/\True/\(100:Nat)- c<100- d/\True)
 def lA:=((!decide (A.1=0))=true->∃(c:Int×Int×Int),c.1=A.1/\c.2.1=(↑d:Int)/\c.2.2=(↑f:Int)/\True/\True)/\((!decide (A.1=0))=false->lB a e f d A)
 def lz:=(0<=(↑d:Int)/\LJ a d)/\a.1≠noA/\∃c,∃(g:Nat),∃(h:Nat),TL a e d g c h/\(0<=(↑f:Int)/\(↑f:Int)<(↑g:Int))/\c≠noA/\∃D,∃E,∃(F:Nat),∃(G:Nat),∃(i8:Int),∃(B:Bool),∃(l:Int),∃(m:Int),∃o,∃p,∃(q:Nat),∃(r:Nat),∃i16,∃(t:Nat),∃(u:Nat),(∀v,True/\qd e a v->q37 v (adr c (toNat (↑f:Int)*9)) [string D,slice E F G,int i64 i8,bool B,int i64 l,int i64 m,string o,slice p q r,slice i16 t u])/\((!B)=true->lD a e f d)/\((!B)=false->∃(b:List AT×(Option Addr×Nat×Nat)×Int×GJ),b.2.1.1=a.1/\b.2.1.2.1=a.2.1/\b.2.1.2.2=a.2.2/\b.2.2.1=i8/\GJ.k b.2.2.2=l/\GJ.n b.2.2.2=m/\GJ.s b.2.2.2=o/\(GJ.y b.2.2.2).1=p/\(GJ.y b.2.2.2).2.1=q/\(GJ.y b.2.2.2).2.2=r/\(GJ.x b.2.2.2).1=i16/\(GJ.x b.2.2.2).2.1=t/\(GJ.x b.2.2.2).2.2=u/\(qx b.1/\GJ.wf b.2.2.2)/\(∀i,True/\qd e a i->qd b.1 b.2.1 i/\GJ.ok b.2.2.2 i)/\∀(w:Int×GV),True->(∃z,(True/\qd e a z)/\GV.ok w.2 z)->lA a e d f w)
 def lC:=LI d/\∃(c:Nat),(↑c:Int)=(↑d:Int)+1/\YL a e (c<=length e/\length e- c<length e- d/\True)
 def ly:=(0<=(↑d:Int)/\LJ a d)/\a.1≠noA/\∃c,∃(g:Nat),∃(h:Nat),TL a e d g c h/\Ji ((↑f:Int)<(↑g:Int)) (lz a e d f) (lC a e d)
 def lx:=(∃(c:Nat),(↑d:Int)=(↑d:Int)/\(↑c:Int)=0/\YL a e (True/\True))/\∀(h:Nat),True->ly a e d h
 def lv:=Ji (LJ a d) (lx a e d) (∃(j:Int×Int×Int),j.1=0/\j.2.1=0/\j.2.2=0/\True/\True)
 def lu:=(∃(c:Nat),(↑c:Int)=0/\YL a e (c<=length e/\True))/\∀(h:Nat),h<=length e->lv a e h
end
def zeo(S:List AT) (x:SV):qk4 P (qfa []) (qgc [(34,Nz)]) Tryz.f20 GQ (zkh) ⟨S,x⟩=(qx S->(∃(p:Pub),True/\qd S x p)->lu x S):=by kernel_rfl
def zhd:=λS x=>Eq.trans (zeo S x) (by delta Ji Jb Jt Jf TK YL LJ TL LI lD lB lA lz lC ly lx lv lu;exact rfl)
def zfd(x:SV) (L:List Int) (n:Int):qk2 P (qfa []) (qgc [(33,Jp)]) Tryz.f19 z77 (λ_=>{}) ⟨x,L,n⟩=(VN (x,L,n)->(∃(p:Pub),True/\qc qn x L p)->∃(s:IV×jW),s.1=mkS [84,111,112]/\s.2.2.2.2.1=0/\s.2.1.1=x.1/\s.2.1.2.1=x.2.1/\s.2.1.2.2=x.2.2/\s.2.2.2.1=n/\qa qp s.2.2.2.2.2=[string (mkS [84,111,112])]/\length s.2.2.2.2.2=nat_lit 1/\(size s.1<100/\yK 3 s.2)/\(∀(p:Pub),True/\qc qn x L p->qc qn s.2.1 s.2.2.1 p)/\∀(b:zQ),kE s.2.2.1 s.2.2.2.1 s.2.2.2.2.2 b->(∃(p:Pub),(True/\qc qn x L p)/\GJ.ok b.1 p)->∃(b_1:GJ×Int),GJ.k b_1.1=GJ.k b.1/\GJ.n b_1.1=GJ.n b.1/\GJ.s b_1.1=GJ.s b.1/\(GJ.y b_1.1).1=(GJ.y b.1).1/\(GJ.y b_1.1).2.1=(GJ.y b.1).2.1/\(GJ.y b_1.1).2.2=(GJ.y b.1).2.2/\(GJ.x b_1.1).1=(GJ.x b.1).1/\(GJ.x b_1.1).2.1=(GJ.x b.1).2.1/\(GJ.x b_1.1).2.2=(GJ.x b.1).2.2/\x.1=s.2.1.1/\x.2.1=s.2.1.2.1/\x.2.2=s.2.1.2.2/\b_1.2=b.2.1/\(GJ.wf b_1.1/\n<=b_1.2/\b_1.2<=(↑(length L):Int))/\(∀(p:Pub),(True/\qc qn x L p)/\GJ.ok b.1 p->GJ.ok b_1.1 p)/\True):=by kernel_rfl
section
variable (a:List AT×(Option Addr×Nat×Nat)×Int) (d:SV) (f:Kw) (g:GJ×Int) (k:Int) (h:List Int) (b:List AT×(Option Addr×Nat×Nat)×Bool×Int) (m:Prop)
 def DW:=b.2.1.1=a.2.1.1/\b.2.1.2.1=a.2.1.2.1/\b.2.1.2.2=a.2.1.2.2/\m
 def DV:=d.1=f.1.1/\d.2.1=f.1.2.1/\d.2.2=f.1.2.2/\b.2.2.2=g.2/\(qx b.1/\(b.2.2.1=true->b.1≠[])/\k<=b.2.2.2/\b.2.2.2<=(↑(length h):Int))/\(∀c,((True/\qc qn d h c)/\GJ.ok g.1 c)/\qd a.1 a.2.1 c->qd b.1 b.2.1 c)/\True
 def lE:=((!decide (a.2.2=0))=true->∃(c:List AT×(Option Addr×Nat×Nat)×Bool×Int),DW a c (c.2.2.1=false/\DV a d f g k h c))/\((!decide (a.2.2=0))=false->∃(e:List AT×Option Addr×Nat×Nat),e.2.1=a.2.1.1/\e.2.2.1=a.2.1.2.1/\e.2.2.2=a.2.1.2.2/\qx e.1/\(∀i,((True/\qc qn d h i)/\GJ.ok g.1 i)/\qd a.1 a.2.1 i->qd e.1 e.2 i)/\∀(l:Int×Int×Int),True->∃(j:List AT×(Option Addr×Nat×Nat)×Bool×Int),DW a j (j.2.2.1=decide (l.1=0)/\DV a d f g k h j))
end
def znr(x:SV) (L:List Int) (n:Int):qk4 P (qfa []) (qgc [(19,z77),(18,NZ),(20,GQ)]) Tryz.f9 If (λ_=>{}) ⟨x,L,n⟩=(VN (x,L,n)->(∃(p:Pub),True/\qc qn x L p)->∃(s:Kw),s.1.1=x.1/\s.1.2.1=x.2.1/\s.1.2.2=x.2.2/\s.2.2=n/\VN s/\(∀(p:Pub),True/\qc qn x L p->qc qn s.1 s.2.1 p)/\∀(b:GJ×Int),GJ.wf b.1/\s.2.2<=b.2/\b.2<=(↑(length s.2.1):Int)->(∃(p:Pub),(True/\qc qn x L p)/\GJ.ok b.1 p)->∃(s_1:GJ),GJ.k s_1=GJ.k b.1/\GJ.n s_1=GJ.n b.1/\GJ.s s_1=GJ.s b.1/\(GJ.y s_1).1=(GJ.y b.1).1/\(GJ.y s_1).2.1=(GJ.y b.1).2.1/\(GJ.y s_1).2.2=(GJ.y b.1).2.2/\(GJ.x s_1).1=(GJ.x b.1).1/\(GJ.x s_1).2.1=(GJ.x b.1).2.1/\(GJ.x s_1).2.2=(GJ.x b.1).2.2/\GJ.wf s_1/\(∀(p:Pub),(True/\qc qn x L p)/\GJ.ok b.1 p->GJ.ok s_1 p)/\∀(b_1:List AT×(Option Addr×Nat×Nat)×Int),qx b_1.1/\(b_1.2.2=0->b_1.1≠[])->(∃(p:Pub),((True/\qc qn x L p)/\GJ.ok b.1 p)/\qd b_1.1 b_1.2.1 p)->lE b_1 x s b n L):=by kernel_rfl
def zw6:=λx L n=>Eq.trans (znr x L n) (by delta DW DV lE;exact rfl)
def zka:q1q P 34 Nz:=by refine zt (qcn (qgp GZ qjr)) (qde (qgo j7u qjq)) (W:=λ_=>{}) Tryz.func34 λ⟨S,(x:SV),(t:Int),g⟩=>(zk9 S x t g).mpr ?_;rintro⟨hS,hg⟩ ⟨p,_,hx,hgo⟩;have sl:x.2.1=S.length:=hx.1.1;simp only[qH,exists_const,forall_const,Int.toNat_natCast];refine⟨⟨x,t⟩,rfl,rfl,rfl,rfl,λh=>⟨⟨1,zV⟩,rfl,rfl,rfl,rfl,rfl,rfl,rfl,rfl,rfl,rfl,λq hq=>jD q⟩,λh=> ?_⟩;simp only[sl,Bool.and_eq_true,decide_eq_true_eq]at h;refine⟨⟨S,x,0,t,g,1⟩,rfl,rfl,rfl,rfl,rfl,rfl,rfl,rfl,rfl,rfl,rfl,rfl,rfl,rfl,rfl,⟨hS,h,hg,⟨(by show(0:Int)<=0;decide),(by show(0:Int)<=2000;decide)⟩,(by show(1:Int)<=1;decide),(by show(1:Int)<=21;decide)⟩,λq hq=>hq,?_⟩;rintro⟨a,e,v⟩ _ _;exact⟨λ_=>⟨⟨e,zV⟩,rfl,rfl,rfl,rfl,rfl,rfl,rfl,rfl,rfl,rfl,λq hq=>jD q⟩,λ_=>⟨⟨0,v⟩,rfl,rfl,rfl,rfl,rfl,rfl,rfl,rfl,rfl,rfl,λq hq=>hq.2⟩⟩
def zhe:q1q P 20 GQ:=by
  refine zt (qcn qjr) (qde (qgo zka qjq)) (W:=zkh) Tryz.func20 λ⟨S,(x:SV)⟩=>(zhd S x).mpr ?_;rintro hS ⟨p,_,hx⟩;have sl:x.2.1=S.length:=hx.1.1;have h60:=hS.1;simp only[qH,exists_const,forall_const,Int.toNat_natCast,sl];refine⟨⟨0,rfl,Nat.zero_le _⟩,?_⟩;rintro j hj;refine⟨λhlt=>⟨⟨0,rfl⟩,λk=> ?_⟩,λhge=>⟨⟨0,0,0⟩,rfl,rfl,rfl⟩⟩;have hjl:j<S.length:=by omega
  have hat:=λq (hq:qd S x q)=>wC hq hjl;have hao:=λq (hq:qd S x q)=>hq.2 S[j] (List.getElem_mem hjl);have hgd:=hS.2 S[j] (List.getElem_mem hjl);generalize S[j]=a at*;obtain⟨_,_,fl,_⟩:=yE (hao p hx);have hf30:=hgd.2.2.2.2.2.2.2.1;have c8:∀q,qd S x q->q37 q ((adr x.1 (j*10)).add 8) [.slice a.f.1 a.fs.length a.f.2.2]:=λq hq i v hi=>by
    cases i with
    | zero=>
      rw[←fl]at hi;have:=(hat q hq).2 8 v hi;rw[Addr.add_add];exact this
    |succ i=>simp at hi
  refine⟨⟨by omega,by omega⟩,(hat p hx).1,a.f.1,a.fs.length,a.f.2.2,c8,λhk=>⟨⟨by omega,by omega⟩,(hat p hx).1,a.f.1,a.fs.length,a.f.2.2,c8,⟨by omega,by omega⟩,?_⟩,λhk=>⟨⟨by omega,by omega⟩,j+1,by omega,by omega,by omega⟩⟩;have hkl:k<a.fs.length:=by omega
  have hff:=hgd.2.2.2.2.1 _ (List.getElem_mem hkl);have fok:=λq (hq:qd S x q)=>(hao q hq).2.2.2.2 a.fs[k] (List.getElem_mem hkl);have fat:=λq (hq:qd S x q)=>wB (hao q hq) hkl;have hk100:k<100:=by omega
  generalize a.fs[k]=f at*;refine⟨(fat p hx).1,f.nm,f.al.1,f.al.2.1,f.al.2.2,f.ty,f.hd,f.df.k,f.df.n,f.df.s,f.df.y.1,f.df.y.2.1,f.df.y.2.2,f.df.x.1,f.df.x.2.1,f.df.x.2.2,λq hq=>(fat q hq).2,λ_=>⟨⟨by omega,by omega⟩,k+1,by omega,by omega⟩,λ_=>⟨⟨S,x,f.ty,f.df⟩,rfl,sl,rfl,rfl,rfl,rfl,rfl,rfl,rfl,rfl,rfl,rfl,rfl,⟨hS,hff.2⟩,λq hq=>⟨hq,(fok q hq).2⟩,?_⟩⟩;rintro⟨e,v⟩ _;exact⟨λ_=>⟨⟨e,j,k⟩,rfl,rfl,rfl⟩,λ_=>⟨⟨by omega,by omega⟩,k+1,by omega,λq hq=>hq.1,by omega⟩⟩
def zfe:q1q P 19 z77:=by refine qja mixed (qcn qjr) (qde (qgo zpu qjq)) (W:=λ_=>{}) Tryz.func19 (by kernel_rfl) (show 1<=2 by decide) (show 2<=2 by decide) (λs=>by kernel_rfl) λ⟨(x:SV),L,(n:Int)⟩=>(zfd x L n).mpr ?_;rintro⟨hn0,hn1,hL⟩ ⟨p,_,hx⟩;simp only[qH,exists_const,forall_const,Int.toNat_natCast];refine⟨⟨mkS [84,111,112],x,L,n,0,[mkS [84,111,112]]⟩,rfl,rfl,rfl,rfl,rfl,rfl,rfl,rfl,⟨(by show(3:Nat)<100;decide),⟨hn0,hn1,hL,(by show(0:Int)<=0;decide),(by show(0:Int)<=3;decide),(by show((1:Nat):Int)<=n+1;omega),λt ht=>(by simp at ht;subst ht;show 3<100;decide)⟩⟩,λq hq=>hq,?_⟩;rintro⟨g,n',N'⟩ ⟨hw,h1,h2,_⟩ _;exact⟨⟨g,n'⟩,rfl,rfl,rfl,rfl,rfl,rfl,rfl,rfl,rfl,rfl,rfl,rfl,rfl,⟨hw,h1,h2⟩,λq hq=>hq.2⟩
def zw7:q1q P 9 If:=by refine zt (qcn qjr) (qde (qgo zfe (qgo zok (qgo zhe qjq)))) (W:=λ_=>{}) Tryz.func9 λ⟨(x:SV),L,(n:Int)⟩=>(zw6 x L n).mpr ?_;rintro⟨hn0,hn1,hL⟩ ⟨p,_,hx⟩;simp only[qH,exists_const,forall_const,Int.toNat_natCast];refine⟨⟨x,L,n⟩,rfl,rfl,rfl,rfl,⟨hn0,hn1,hL⟩,λq hq=>hq,?_⟩;rintro⟨g,n'⟩ ⟨hw,h1,h2⟩ _;refine⟨g,rfl,rfl,rfl,rfl,rfl,rfl,rfl,rfl,rfl,hw,λq hq=>hq.2,?_⟩;rintro⟨S,y,e⟩ ⟨hS,hne⟩ _;simp only at hS hne⊢;refine⟨λhe=>⟨⟨S,y,false,n'⟩,rfl,rfl,rfl,rfl,trivial,trivial,trivial,rfl,⟨hS,λh=>(by cases h),h1,h2⟩,λq hq=>hq.2⟩,λhe=>⟨⟨S,y⟩,rfl,rfl,rfl,hS,λq hq=>hq.2,?_⟩⟩;rintro⟨e2,t,i⟩;exact⟨⟨S,y,decide (e2=0),n'⟩,rfl,rfl,rfl,rfl,trivial,trivial,trivial,rfl,⟨hS,λ_=>hne he,h1,h2⟩,λq hq=>hq.2⟩
section
def qg(R:List Int) (t:Int):Int:=R.getD t.toNat (-1)
def kj(a:AT):Int:=if a.k=9\/a.k=14 then -1 else 0
def kZ(R:List Int):List Int->Int->Int
 | [],m=>m
 |b::l,m=>kZ R l (if 0<=qg R b/\(m<0\/qg R b<m)then qg R b else m)
def kM(R:List Int):List AF->Int->Int
 | [],m=>m+1
 |f::l,m=>if qg R f.ty<0 then -1 else kM R l (if m<qg R f.ty then qg R f.ty else m)
def v7(R:List Int) (a:AT):Int:=if a.k=14 then(if kZ R a.brs (-1)<0 then -1 else kZ R a.brs (-1)+1)else kM R a.fs 0
def wk(S:List AT) (R:List Int):List Int:=List.zipWith (λa r=>if 0<=r then r else v7 R a) S R
def zL(S:List AT):Nat->List Int
 |0=>S.map kj
 |k+1=>wk S (zL S k)
def qB(S:List AT):List Int:=zL S (S.length+1)
def yi(R B:List Int):Nat->Nat->Nat->Nat
 |0,i,m=>m
 |c+1,i,m=>yi R B c (i+1) (if 0<=qg R (B.getD i 0)/\(qg R (B.getD m 0)<0\/qg R (B.getD i 0)<qg R (B.getD m 0))then i else m)
def zu(R B:List Int):Nat:=yi R B B.length 0 0
def ky(a b:Int):Int:=if 1000000<a+b then 1000000 else a+b
def wfs(W:List Int) (i:Nat):List AF->List Int
 | []=>W
 |f::l=>wfs (W.set i (ky (qg W i) (qg W f.ty))) i l
def wU(R W:List Int) (i:Nat) (a:AT):List Int:=if a.k=14 then(W.set i 1).set i (ky (qg (W.set i 1) i) (qg (W.set i 1) (a.brs.getD (zu R a.brs) 0)))else W.set i 1
def w1(R W:List Int) (i:Nat) (a:AT):List Int:=wfs (wU R W i a) i a.fs
def QE(S:List AT) (R:List Int) (k:Int):Nat->Nat->List Int->List Int
 |0,i,W=>W
 |c+1,i,W=>QE S R k c (i+1) (if qg R i=k then w1 R W i (S.getD i zA)else W)
def wall(S:List AT) (R:List Int):Nat->Int->List Int->List Int
 |0,k,W=>W
 |c+1,k,W=>wall S R c (k+1) (QE S R k S.length 0 W)
def wts(S:List AT) (R:List Int):List Int:=wall S R (S.length+1) 0 (List.replicate S.length 0)
def zT(S:List AT) (t:Int):Bool:=(decide (0<=t)&&decide (t<(S.length:Int)))&&decide (0<=qg (qB S) t)&&decide (qg (wts S (qB S)) t<=2000)
def NK(R:List Int) (i:Nat):qg R i=R.getD i (-1):=by unfold qg;rw[Int.toNat_natCast]
variable {R:List Int}
def wy{i:Nat} (h:i<R.length):qg R i=R[i]:=by rw[NK,List.getD_eq_getElem?_getD,List.getElem?_eq_getElem h];rfl
def zyd{i:Nat} (h:i<R.length):qg R i∈R:=by rw[wy h];exact List.getElem_mem h
def G4(S:List AT) (R:List Int) (h:R.length=S.length):(wk S R).length=S.length:=by unfold wk;simp[h]
def Za(S:List AT):∀k,(zL S k).length=S.length
 |0=>by rw[zL];simp
 |k+1=>by rw[zL];exact G4 S _ (Za S k)
variable {S:List AT}
def Ia(h:R.length=S.length) {i:Nat} (hi:i<S.length):qg (wk S R) i=if 0<=qg R i then qg R i else v7 R S[i]:=by rw[wy (by rw[G4 S R h];exact hi),wy (by omega)];unfold wk;simp
def Nt(R:List Int):∀(l:List Int) (m:Int), -1<=m-> -1<=kZ R l m/\(0<=kZ R l m->kZ R l m=m\/∃b∈l,qg R b=kZ R l m)
  | [],m,h=>by rw[kZ];exact⟨h,λ_=> .inl rfl⟩
  | b ::l,m,h=>by
    rw[kZ];split;next hc=>
      obtain⟨h1,h2⟩:=Nt R l (qg R b) (by omega);refine⟨h1,λh0=> .inr ?_⟩;rcases h2 h0 with e|⟨c,hcm,e⟩
      · exact⟨b,List.mem_cons_self,e.symm⟩
      · exact⟨c,List.mem_cons_of_mem _ hcm,e⟩
    next hc=>
      obtain⟨h1,h2⟩:=Nt R l m h;refine⟨h1,λh0=> ?_⟩;rcases h2 h0 with e|⟨c,hcm,e⟩
      · exact .inl e
      · exact .inr ⟨c,List.mem_cons_of_mem _ hcm,e⟩
def NF (R:List Int):∀(l:List AF) (m:Int),0<=m->kM R l m= -1\/(m<kM R l m/\(∀f∈l,0<=qg R f.ty/\qg R f.ty<kM R l m)/\(kM R l m=m+1\/∃f∈l,qg R f.ty+1=kM R l m))
  | [],m,h=>by rw[kM];exact .inr ⟨by omega,λf hf=>(by cases hf), .inl rfl⟩
  | g :: l, m,h=>by
    rw[kM];split
    · exact .inl rfl
    next hg =>
      split;next hm=>
        rcases NF R l (qg R g.ty) (by omega)with e|⟨h1,h2,h3⟩
        · exact .inl e
        · refine .inr ⟨by omega,λf hf=> ?_, .inr ?_⟩
          · rcases List.mem_cons.1 hf with rfl|hf
            · exact⟨by omega,h1⟩
            · exact h2 f hf
          · rcases h3 with e|⟨f,hf,e⟩
            · exact⟨g,List.mem_cons_self,e.symm⟩
            · exact⟨f,List.mem_cons_of_mem _ hf,e⟩
      next hm=>
        rcases NF R l m h with e|⟨h1,h2,h3⟩
        · exact .inl e
        · refine .inr ⟨h1,λf hf=> ?_,?_⟩
          · rcases List.mem_cons.1 hf with rfl|hf
            · exact⟨by omega,by omega⟩
            · exact h2 f hf
          · rcases h3 with e|⟨f,hf,e⟩
            · exact .inl e
            · exact .inr ⟨f,List.mem_cons_of_mem _ hf,e⟩
def yh(S:List AT) (R:List Int) (K:Int):Prop:=R.length=S.length/\∀(i:Nat) (h:i<S.length),(-1<=qg R i/\qg R i<=K)/\(S[i].k≠9->S[i].k≠14->qg R i=0)/\(S[i].k=9->0<=qg R i->∀f∈S[i].fs,0<=qg R f.ty/\qg R f.ty<qg R i)/\(S[i].k=14->0<=qg R i->∃b∈S[i].brs,0<=qg R b/\qg R b<qg R i)/\(2<=qg R i->∃j,j<S.length/\qg R j+1=qg R i)
def vj{n:Nat} {t:Int} (h:0<=t/\t<n):∃j:Nat,j<n/\t=(j:Int):=by obtain⟨j,rfl⟩:=Int.eq_ofNat_of_zero_le h.1;exact⟨j,by omega,rfl⟩
def zng {K:Int} (hS:qx S) (h:yh S R K) (hK:0<=K):yh S (wk S R) (K+1):=by
 obtain⟨hl,h⟩:=h;refine⟨G4 S R hl,λi hi=> ?_⟩;have hg:=hS.2 S[i] (List.getElem_mem hi);have keep:∀t:Int,(0<=t/\t<(S.length:Int))->0<=qg R t->qg (wk S R) t=qg R t:=λt ht h0=>by obtain⟨j,hj,rfl⟩:=vj ht;rw[Ia hl hj,if_pos h0]
 have hb:∀t:Int,(0<=t/\t<(S.length:Int))->qg R t<=K:=λt ht=>by obtain⟨j,hj,rfl⟩:=vj ht;exact(h j hj).1.2
 obtain⟨⟨b1,b2⟩,p1,p2,p3,p4⟩:=h i hi;have fty:=λf (hf:f∈S[i].fs)=>(hg.2.2.2.2.1 f hf).1;have bty:=hg.2.2.1;rw[Ia hl hi];split;next h0=>
  refine⟨⟨b1,by omega⟩,p1,λhk _ f hf=> ?_,λhk _=> ?_,λh2=> ?_⟩
  ·have:=p2 hk h0 f hf;rw[keep _ (fty f hf) this.1];exact this
  ·obtain⟨b,hbm,q1,q2⟩:=p3 hk h0;exact⟨b,hbm,by rw[keep _ (bty b hbm) q1];exact⟨q1,q2⟩⟩
  ·obtain⟨j,hj,e⟩:=p4 h2;exact⟨j,hj,by rw[keep j ⟨by omega,by omega⟩ (by omega)];exact e⟩
 next h0 =>
  unfold v7;by_cases hk14:S[i].k=14
  ·rw [if_pos hk14];obtain⟨c1,c2⟩:=Nt R S[i].brs (-1) (by omega);split;next hn=>exact⟨⟨by omega,by omega⟩,λ_ h=>absurd hk14 h,λh=>absurd h (by omega),λ_ h=>absurd h (by omega),λh=>absurd h (by omega)⟩
   next hn=>
    rcases c2 (by omega)with e|⟨b,hbm,e⟩
    ·omega
    ·have:=hb b (bty b hbm);refine⟨⟨by omega,by omega⟩,λ_ h=>absurd hk14 h,λh=>absurd h (by omega),λ_ _=>⟨b,hbm,?_⟩,λh2=> ?_⟩
     ·rw[keep _ (bty b hbm) (by omega)];omega
     ·obtain⟨j,hj,rfl⟩:=vj (bty b hbm);exact⟨j,hj,by rw[keep j ⟨by omega,by omega⟩ (by omega)];omega⟩
  ·rw [if_neg hk14];by_cases hk9:S[i].k=9
   ·rcases NF R S[i].fs 0 (by omega)with e|⟨h1,h2,h3⟩
    ·rw[e];exact⟨⟨by omega,by omega⟩,λh=>absurd hk9 h,λ_ h=>absurd h (by omega),λh=>absurd h hk14,λh=>absurd h (by omega)⟩
    ·refine⟨⟨by omega,?_⟩,λh=>absurd hk9 h,λ_ _ f hf=> ?_,λh=>absurd h hk14,λh2'=> ?_⟩
     ·rcases h3 with e|⟨f,hf,e⟩
      ·omega
      ·have:=hb f.ty (fty f hf);omega
     ·have:=h2 f hf;rw[keep _ (fty f hf) this.1];exact this
     ·rcases h3 with e|⟨f,hf,e⟩
      ·omega
      ·have:=h2 f hf;obtain⟨j,hj,ej⟩:=vj (fty f hf);rw[ej]at this e;exact⟨j,hj,by rw[keep j ⟨by omega,by omega⟩ this.1];omega⟩
   ·exact absurd (p1 hk9 hk14) (by omega)
def znh(S:List AT):yh S (S.map kj) 0:=by
 refine⟨by simp,λi hi=> ?_⟩;have e:qg (S.map kj) i=kj S[i]:=by rw[wy (by simpa using hi)];simp
 rw[e];unfold kj;split;next h=>exact⟨⟨by omega,by omega⟩,λh1 h2=>by omega,λ_ h=>absurd h (by omega),λ_ h=>absurd h (by omega),λh=>absurd h (by omega)⟩
 next h=>exact⟨⟨by omega,by omega⟩,λ_ _=>rfl,λh1=>absurd (Or.inl h1) h,λh1=>absurd (Or.inr h1) h,λh=>absurd h (by omega)⟩
def Ie{S:List AT} (hS:qx S):∀k:Nat,yh S (zL S k) k
  |0=>znh S
  | k+1=>by have:=zng hS (Ie hS k) (by omega);rw[zL];exact this
def VF(hS:qx S):yh S (qB S) (S.length+1):=by have:=Ie hS (S.length+1);unfold qB;exact this
def zdi:∀{l R:List Int},l.Nodup->(∀x∈l,x∈R)->l.length<=R.length
  | [],R,_,_=>Nat.zero_le _
  | x::l,R,hn,h=>by rw[List.nodup_cons]at hn;have hx:=h x List.mem_cons_self;have:=zdi (l:=l) (R:=R.erase x) hn.2 λy hy=>(List.mem_erase_of_ne (λe=>by subst e;exact hn.1 hy)).2 (h y (List.mem_cons_of_mem _ hy));rw[List.length_erase_of_mem hx]at this;have h0:0<R.length:=List.length_pos_of_mem hx;rw[List.length_cons];omega
def jgd{S:List AT} {R:List Int} {K:Int} (h:yh S R K) {i:Nat} (hi:i<S.length):qg R i<=S.length:=by
  obtain⟨hl,h⟩:=h;have down:∀d:Nat,∀j,j<S.length->qg R j=d->∀m:Nat,1<=m->m<=d->(m:Int)∈R:=by
    intro d;induction d with
    |zero=>intro j hj e m h1 h2;omega
    | succ d ih=>
      intro j hj e m h1 h2;by_cases hm:m=d+1
      · have:=zyd (R:=R) (i:=j) (by omega);rw[e]at this;rw[hm];exact this
      · obtain⟨j2,hj2,e2⟩:=(h j hj).2.2.2.2 (by omega);exact ih j2 hj2 (by omega) m h1 (by omega)
  by_cases h0:qg R i<=0
  · omega
  obtain⟨d,hd⟩:=Int.eq_ofNat_of_zero_le (show 0<=qg R i by omega);have hs:=down d i hi hd;have:=zdi (l:=(List.range d).map λ(m:Nat)=>((m+1:Nat):Int)) (R:=R) (by unfold List.Nodup;rw[List.pairwise_map];exact(List.nodup_range (n:=d)).imp λ{a b} h e=>h (by simp at e;omega)) λx hx=>by obtain⟨m,hm,rfl⟩:=List.mem_map.1 hx;rw[List.mem_range]at hm;exact hs (m+1) (by omega) (by omega)
  simp at this;omega
end
section
def Hi(R B:List Int):∀(c i m:Nat),c+i=B.length->m<B.length->yi R B c i m<B.length/\(0<=qg R (B.getD m 0)->0<=qg R (B.getD (yi R B c i m) 0)/\qg R (B.getD (yi R B c i m) 0)<=qg R (B.getD m 0))/\∀j,i<=j->j<B.length->0<=qg R (B.getD j 0)->0<=qg R (B.getD (yi R B c i m) 0)/\qg R (B.getD (yi R B c i m) 0)<=qg R (B.getD j 0)
  |0,i,m,h,hm=>by rw[yi];exact⟨hm,λh=>⟨h,by omega⟩,λj h1 h2=>by omega⟩
  | c + 1,i,m,h,hm=>by
    rw[yi];split;next hc=>
      obtain⟨h1,h2,h3⟩:=Hi R B c (i+1) i (by omega) (by omega);have h2:=h2 hc.1;refine⟨h1,λh0=>⟨h2.1,by omega⟩,λj hj1 hj2 hj3=> ?_⟩;by_cases e:j=i
      · subst e;exact h2
      · exact h3 j (by omega) hj2 hj3
    next hc=>
      obtain⟨h1,h2,h3⟩:=Hi R B c (i+1) m (by omega) hm;refine⟨h1,h2,λj hj1 hj2 hj3=> ?_⟩;by_cases e:j=i
      · subst e;have:=h2 (by omega);exact⟨this.1,by omega⟩
      · exact h3 j (by omega) hj2 hj3
def Hh{R B:List Int} (h:B≠[]):zu R B<B.length:=by have:0<B.length:=List.length_pos_iff.2 h;exact(Hi R B B.length 0 0 (by omega) this).1
def WE{B:List Int} {i:Nat} (h:i<B.length):B.getD i 0∈B:=by rw[List.getD_eq_getElem?_getD,List.getElem?_eq_getElem h];exact List.getElem_mem h
variable {S:List AT} {R:List Int} {K:Int}
def GX(h:yh S R K) {i:Nat} (hi:i<S.length) (hk:S[i].k=14) (h0:0<=qg R i):zu R S[i].brs<S[i].brs.length/\0<=qg R (S[i].brs.getD (zu R S[i].brs) 0)/\qg R (S[i].brs.getD (zu R S[i].brs) 0)<qg R i:=by
 obtain⟨b,hb,h1,h2⟩:=(h.2 i hi).2.2.2.1 hk h0;obtain⟨j,hj,rfl⟩:=List.getElem_of_mem hb;have:=(Hi R S[i].brs S[i].brs.length 0 0 (by omega) (by omega)).2.2 j (by omega) hj;have ej:S[i].brs.getD j 0=S[i].brs[j]:=by rw[List.getD_eq_getElem?_getD,List.getElem?_eq_getElem hj];rfl
 rw[ej]at this;have:=this h1;exact⟨Hh (λe=>by rw[e]at hj;simp at hj),this.1,Int.lt_of_le_of_lt this.2 h2⟩
variable {W:List Int}
def Qf{i j:Nat} (hi:i<W.length) (v:Int):qg (W.set i v) j=if j=i then v else qg W j:=by
 rw[NK,NK,List.getD_eq_getElem?_getD,List.getD_eq_getElem?_getD];by_cases h:j=i
 ·subst h;rw[List.getElem?_set_self hi,if_pos rfl];rfl
 ·rw[List.getElem?_set_ne (λe=>h e.symm),if_neg h]
def Vw{i:Nat} {t:Int} (hi:i<W.length) (v:Int) (ht:0<=t):qg (W.set i v) t=if t=i then v else qg W t:=by
 obtain⟨j,rfl⟩:=Int.eq_ofNat_of_zero_le ht;rw[Qf hi];by_cases h:j=i
 ·subst h;rw[if_pos rfl,if_pos rfl]
 ·rw[if_neg h,if_neg (by omega)]
def WB(n:Nat) (W:List Int):Prop:=W.length=n/\∀i,i<n->0<=qg W i/\qg W i<=1000000
def Hz{n:Nat} (h:WB n W) {t:Int} (ht:0<=t/\t<n):0<=qg W t/\qg W t<=1000000:=by obtain⟨j,hj,rfl⟩:=vj ht;exact h.2 j hj
def Vy{n:Nat} (h:WB n W) {i:Nat} (hi:i<n) {v:Int} (hv:0<=v/\v<=1000000):WB n (W.set i v):=by
 refine⟨by rw[List.length_set];exact h.1,λj hj=> ?_⟩;rw[Qf (by have:=h.1;omega)];split
 ·exact hv
 ·exact h.2 j hj
def Hx{a b:Int} (ha:0<=a) (hb:0<=b):0<=ky a b/\ky a b<=1000000:=by unfold ky;split<;>omega
def jh(W:List Int):List AF->Int
 | []=>0
 |f::l=>qg W f.ty+jh W l
def VL(n:Nat) (l:List AF):Prop:=∀f∈l,0<=f.ty/\f.ty<n
def Nm{n:Nat} {W:List Int} (h:WB n W):∀{l:List AF},VL n l->0<=jh W l
  | [],_=>Int.le_refl _
  | f::l,hl=>by have h1:=Hz h (hl f List.mem_cons_self);have h2:=Nm h (l:=l) λg hg=>hl g (List.mem_cons_of_mem _ hg);rw[jh];omega
def Gx{W V:List Int}:∀{l:List AF},(∀f∈l,qg V f.ty=qg W f.ty)->jh V l=jh W l
 | [],_=>rfl
 |f::l,h=>by rw[jh,jh,h f List.mem_cons_self,Gx λg hg=>h g (List.mem_cons_of_mem _ hg)]
def zjq{n:Nat} {W:List Int} (h:WB n W):∀{l:List AF},VL n l->∀f∈l,qg W f.ty<=jh W l
  | g::l,hl,f,hf=>by
    have h2:=Nm h (l:=l) λg hg=>hl g (List.mem_cons_of_mem _ hg);have h1:=Hz h (hl g List.mem_cons_self);rw[jh];rcases List.mem_cons.1 hf with rfl|hf
    · omega
    · have:=zjq h (λg hg=>hl g (List.mem_cons_of_mem _ hg)) f hf;omega
def zvn{n:Nat} {i:Nat} (hi:i<n):∀{l:List AF} {W:List Int},WB n W->VL n l->WB n (wfs W i l)/\(∀t:Int,0<=t->t≠i->qg (wfs W i l) t=qg W t)/\qg W i<=qg (wfs W i l) i/\((∀f∈l,f.ty≠i)->ky (qg W i) (jh W l)<=qg (wfs W i l) i)
  | [],W,h,hl=>by rw[wfs,jh];refine⟨h,λ_ _ _=>rfl,Int.le_refl _,λ_=> ?_⟩;have:=h.2 i hi;unfold ky;split<;>omega
  | f ::l,W,h,hl=>by
    have hil:i<W.length:=by have:=h.1;omega
    have h1:=Hz h (hl f List.mem_cons_self);have h0:=h.2 i hi;have hw:=Vy h hi (Hx h0.1 h1.1);have hl2:VL n l:=λg hg=>hl g (List.mem_cons_of_mem _ hg);obtain⟨a1,a2,a3,a4⟩:=zvn hi hw hl2;rw[Qf hil,if_pos rfl]at a3 a4;rw[wfs];refine⟨a1,λt ht hne=> ?_,?_,λhne=> ?_⟩
    · rw[a2 t ht hne,Vw hil _ ht,if_neg hne]
    · refine Int.le_trans ?_ a3;unfold ky;split<;>omega
    · have a4:=a4 λg hg=>hne g (List.mem_cons_of_mem _ hg);have e:jh (W.set i (ky (qg W i) (qg W f.ty))) l=jh W l:=Gx λg hg=>(by rw[Vw hil _ (hl2 g hg).1,if_neg (hne g (List.mem_cons_of_mem _ hg))]);rw[e]at a4;have hp:=Nm h hl2;refine Int.le_trans ?_ a4;rw[jh];unfold ky
      (repeat' split)<;>omega
def WI(R W:List Int) (i:Nat) (a:AT):Prop:=1<=qg W i/\(a.k=9->ky 1 (jh W a.fs)<=qg W i)/\(a.k=14->ky 1 (qg W (a.brs.getD (zu R a.brs) 0))<=qg W i)
def jgl{R W:List Int} (hS:qx S) (h:yh S R K) (hW:WB S.length W) {i:Nat} (hi:i<S.length) (h0:0<=qg R i):WB S.length (w1 R W i S[i])/\(∀t:Int,0<=t->t≠i->qg (w1 R W i S[i]) t=qg W t)/\WI R (w1 R W i S[i]) i S[i]:=by
 have hg:=hS.2 S[i] (List.getElem_mem hi);have hf:VL S.length S[i].fs:=λf hf=>(hg.2.2.2.2.1 f hf).1;have hil:i<W.length:=by have:=hW.1;omega
 have hr:=h.2 i hi;have A:WB S.length (wU R W i S[i])/\(∀t:Int,0<=t->t≠i->qg (wU R W i S[i]) t=qg W t)/\1<=qg (wU R W i S[i]) i/\(S[i].k≠14->qg (wU R W i S[i]) i=1)/\(S[i].k=14->qg (wU R W i S[i]) i=ky 1 (qg W (S[i].brs.getD (zu R S[i].brs) 0))):=by
  have hw1:=Vy hW hi (v:=1) (by omega);have hil1:i<(W.set i 1).length:=by rw[List.length_set];exact hil
  unfold wU;split;next hk=>
   obtain⟨c1,c2,c3⟩:=GX h hi hk h0;have hb:=hg.2.2.1 _ (WE c1);have hne:S[i].brs.getD (zu R S[i].brs) 0≠(i:Int):=λe=>(by rw[e]at c3;omega);have e1:qg (W.set i 1) i=1:=(by rw[Qf hil,if_pos rfl]);have e2:qg (W.set i 1) (S[i].brs.getD (zu R S[i].brs) 0)=qg W (S[i].brs.getD (zu R S[i].brs) 0):=(by rw[Vw hil _ hb.1,if_neg hne]);rw[e1,e2];have hv:=Hz hW hb;refine⟨Vy hw1 hi (Hx (by omega) hv.1),λt ht hne=> ?_,?_,λh=>absurd hk h,λ_=> ?_⟩
   ·rw[Vw hil1 _ ht,if_neg hne,Vw hil _ ht,if_neg hne]
   ·rw[Qf hil1,if_pos rfl];unfold ky;split<;>omega
   ·rw[Qf hil1,if_pos rfl]
  next hk=>
   refine⟨hw1,λt ht hne=>by rw[Vw hil _ ht,if_neg hne],by rw[Qf hil,if_pos rfl];exact Int.le_refl _,λ_=>by rw[Qf hil,if_pos rfl],λh=>absurd h hk⟩
 obtain⟨A1,A2,A3,A4,A5⟩:=A;obtain⟨b1,b2,b3,b4⟩:=zvn hi A1 hf;unfold w1;refine⟨b1,λt ht hne=>by rw[b2 t ht hne,A2 t ht hne],by omega,λhk=> ?_,λhk=> ?_⟩
 ·have hlt:=hr.2.2.1 hk h0;have hne:∀f∈S[i].fs,f.ty≠(i:Int):=λf hf e=>by have:=hlt f hf;rw[e]at this;omega
  have b4:=b4 hne;rw[A4 (by omega)]at b4;rw[Gx (W:=wU R W i S[i]) λf hfm=>b2 f.ty (hf f hfm).1 (hne f hfm)];exact b4
 ·obtain⟨c1,c2,c3⟩:=GX h hi hk h0;have hb:=hg.2.2.1 _ (WE c1);have hne:S[i].brs.getD (zu R S[i].brs) 0≠(i:Int):=λe=>by rw[e]at c3;omega
  rw[b2 _ hb.1 hne,A2 _ hb.1 hne,←A5 hk];exact b3
def WK(S:List AT) (R:List Int) (k:Int) (i:Nat) (W:List Int):Prop:=WB S.length W/\∀(j:Nat) (h:j<S.length),0<=qg R j->(qg R j<k\/qg R j=k/\j<i)->WI R W j S[j]
def zvy{R W:List Int} {K k:Int} (hS:qx S) (h:yh S R K) (hk:0<=k) {i:Nat} (hi:i<S.length) (hW:WK S R k i W):WK S R k (i+1) (if qg R i=k then w1 R W i (S.getD i zA)else W):=by
 have e:S.getD i zA=S[i]:=by rw[List.getD_eq_getElem?_getD,List.getElem?_eq_getElem hi];rfl
 rw[e];split;next hr=>
  obtain⟨a1,a2,a3⟩:=jgl hS h hW.1 hi (by omega);refine⟨a1,λj hj h0 hc=> ?_⟩;by_cases hji:j=i
  ·subst hji;exact a3
  have hw:=hW.2 j hj h0 (by omega);have hr9:=λh9=>(h.2 j hj).2.2.1 h9 h0;have hgf:=λf (hf:f∈S[j].fs)=>((hS.2 S[j] (List.getElem_mem hj)).2.2.2.2.1 f hf).1.1;have hgb:=λb (hb:b∈S[j].brs)=>((hS.2 S[j] (List.getElem_mem hj)).2.2.1 b hb).1;have hij:(j:Int)≠(i:Int):=by omega
  have hj0:0<=(j:Int):=by omega
  have hrk:qg R j<=k:=by omega
  rw[←hr]at hrk;have ne:∀t:Int,qg R t<qg R j->t≠(i:Int):=λt h1 e=>by rw[e]at h1;exact absurd hrk (Int.not_le.2 h1)
  refine⟨by rw[a2 j hj0 hij];exact hw.1,λh9=> ?_,λh14=> ?_⟩
  ·rw[Gx (W:=W) λf hf=>a2 f.ty (hgf f hf) (ne _ (hr9 h9 f hf).2),a2 j hj0 hij];exact hw.2.1 h9
  ·obtain⟨c1,c2,c3⟩:=GX h hj h14 h0;rw[a2 _ (hgb _ (WE c1)) (ne _ c3),a2 j hj0 hij];exact hw.2.2 h14
 next hr=>exact⟨hW.1,λj hj h0 hc=>hW.2 j hj h0 (by
  by_cases hji:j=i
  ·subst hji;omega
  ·omega)⟩
def zl4{S:List AT} {R:List Int} {K k:Int} (hS:qx S) (h:yh S R K) (hk:0<=k):∀(c i:Nat) (W:List Int),c+i=S.length->WK S R k i W->WK S R (k+1) 0 (QE S R k c i W)
  | 0,i,W,hc,hW=>by rw[QE];exact⟨hW.1,λj hj h0 hc=>hW.2 j hj h0 (by omega)⟩
  | c+1,i,W,hc,hW=>by rw[QE];exact zl4 hS h hk c (i+1) _ (by omega) (zvy hS h hk (by omega) hW)
def zku{S:List AT} {R:List Int} {K:Int} (hS:qx S) (h:yh S R K):∀(c:Nat) (k:Int) (W:List Int),0<=k->WK S R k 0 W->WK S R (k+c) 0 (wall S R c k W)
  |0,k,W,hk,hW=>by rw[wall];simpa using hW
  | c+1,k,W,hk,hW=>by rw[wall];have:=zku hS h c (k+1) _ (by omega) (zl4 hS h hk S.length 0 W (by omega) hW);rw[show k+((c+1:Nat):Int)=k+1+c by omega];exact this
def Hy(hS:qx S) (h:yh S R K):WB S.length (wts S R)/\∀(j:Nat) (hj:j<S.length),0<=qg R j->WI R (wts S R) j S[j]:=by have h0:WK S R 0 0 (List.replicate S.length 0):=⟨⟨by simp,λi hi=>by rw[wy (by simpa using hi)];simp⟩,λj hj h1 h2=>by omega⟩;have:=zku hS h (S.length+1) 0 _ (by omega) h0;refine⟨this.1,λj hj h1=>this.2 j hj h1 (.inl ?_)⟩;have:=jgd h hj;omega
def uj{t:Int}:zT S t=true↔(0<=t/\t<(S.length:Int))/\0<=qg (qB S) t/\qg (wts S (qB S)) t<=2000:=by unfold zT;simp[and_assoc]
def ND{S:List AT} (hS:qx S) {i:Nat} (hi:i<S.length) (hk:S[i].k=9) (h:zT S i=true):1+jh (wts S (qB S)) S[i].fs<=qg (wts S (qB S)) i/\∀f∈S[i].fs,zT S f.ty=true:=by
 obtain⟨_,h1,h2⟩:=uj.1 h;have hR:=VF hS;obtain⟨w1,w2⟩:=Hy hS hR;have hw:=(w2 i hi h1).2.1 hk;have hg:=hS.2 S[i] (List.getElem_mem hi);have hf:VL S.length S[i].fs:=λf hf=>(hg.2.2.2.2.1 f hf).1;have e:1+jh (wts S (qB S)) S[i].fs<=qg (wts S (qB S)) i:=by unfold ky at hw;split at hw<;>omega
 refine⟨e,λf hfm=>uj.2 ⟨hf f hfm,((hR.2 i hi).2.2.1 hk h1 f hfm).1,?_⟩⟩;have:=zjq w1 hf f hfm;omega
def zis(hS:qx S) {i:Nat} (hi:i<S.length) (hk:S[i].k=14) (h:zT S i=true):1+qg (wts S (qB S)) (S[i].brs.getD (zu (qB S) S[i].brs) 0)<=qg (wts S (qB S)) i:=by obtain⟨_,h1,h2⟩:=uj.1 h;have hR:=VF hS;obtain⟨w1,w2⟩:=Hy hS hR;have hw:=(w2 i hi h1).2.2 hk;unfold ky at hw;split at hw<;>omega
end
section
def qA:List IV->Nat
 | []=>0
 |k::l=>k.size+10+qA l
mutual
def PV.wt:PV->Nat
 | .mk n s l ks b=>30+0*s.size+qA ks+PV.wts l
def PV.wts:List PV->Nat
 | []=>0
 |v::l=>PV.wt v+PV.wts l
end
def wG(n:Int) (s:IV) (l:List PV) (ks:List IV) (b:Int):(PV.mk n s l ks b).wt=30+0*s.size+qA ks+PV.wts l:=by rw[PV.wt]
def JF:zV.pv= .mk 0 (mkS []) [] [] 0:=by unfold zV;rw[GV.pv,GV.pvs]
def jQ:(mkS []).size=0:=rfl
def xn:∀(l m:List PV),PV.wts (l++m)=PV.wts l+PV.wts m
 | [],m=>by rw[PV.wts];simp
 |v::l,m=>by rw[List.cons_append,PV.wts,PV.wts,xn l m];omega
def Jw(v:PV):PV.wts [v]=PV.wt v:=by rw[PV.wts,PV.wts];rfl
def zvq:∀v:PV,30<=PV.wt v
 | .mk n s l ks b=>by rw[PV.wt];omega
def NQ:∀l:List PV,30*l.length<=PV.wts l
  | []=>by simp
  | v::l=>by have:=NQ l;have:=zvq v;rw[PV.wts,List.length_cons];omega
def G0:∀{l:List IV} {k:IV},k∈l->k.size<=qA l
  | a::l,v,h=>by
    rw[qA];rcases List.mem_cons.1 h with rfl|h
    · omega
    · have:=G0 h;omega
def NC:∀(l m:List IV),qA (l++m)=qA l+qA m
 | [],m=>by rw[qA];simp
 |v::l,m=>by rw[List.cons_append,qA,qA,NC l m];omega
def WA(l:List PV) (k:Nat):PV.wts (l.take k)+PV.wts (l.drop k)=PV.wts l:=by rw[←xn,List.take_append_drop]
variable {l:List PV}
def zz6{k:Nat} (h:k<l.length) (w:PV):PV.wts (l.set k w)+PV.wt l[k]=PV.wts l+PV.wt w:=by have e:=WA l k;rw[List.drop_eq_getElem_cons h,PV.wts]at e;rw[List.set_eq_take_append_cons_drop,if_pos h,xn,PV.wts];omega
def WM:∀{l:List PV},PV.sms l↔∀v∈l,v.sm
 | []=>by unfold PV.sms;simp
 |v::l=>by unfold PV.sms;rw[WM (l:=l)];simp
mutual
def PV.nar:PV->Prop
 | .mk n s l ks b=>s.size<=1000000/\l.length<=1000/\ks.length<=1000/\PV.nars l
def PV.nars:List PV->Prop
 | []=>True
 |v::l=>PV.nar v/\PV.nars l
end
def Nh:∀{l:List PV},PV.nars l↔∀v∈l,v.nar
 | []=>by unfold PV.nars;simp
 |v::l=>by unfold PV.nars;rw[Nh (l:=l)];simp
def PV.sn(v:PV):Prop:=v.sm/\v.nar
variable {s:IV} {ks:List IV}
def wE{n:Int} {b:Int} (hn:0<=n/\n<18446744073709551616) (hs:s.size<=1000000) (hl:l.length<=1000) (hk:ks.length<=1000) (hks:∀k∈ks,k.size<9223372036854775808) (h:∀v∈l,v.sn):(PV.mk n s l ks b).sn:=⟨by rw[PV.sm];exact⟨hn,by omega,by omega,by omega,hks,WM.2 λv hv=>(h v hv).1⟩,by rw[PV.nar];exact⟨hs,hl,hk,Nh.2 λv hv=>(h v hv).2⟩⟩
def Ov{n:Int} {b:Int} (h:(PV.mk n s l ks b).sn):(0<=n/\n<18446744073709551616)/\s.size<=1000000/\l.length<=1000/\ks.length<=1000/\(∀k∈ks,k.size<9223372036854775808)/\∀v∈l,v.sn:=by obtain⟨h1,h2⟩:=h;rw[PV.sm]at h1;rw[PV.nar]at h2;exact⟨h1.1,h2.1,h2.2.1,h2.2.2.1,h1.2.2.2.2.1,λv hv=>⟨WM.1 h1.2.2.2.2.2 v hv,Nh.1 h2.2.2.2 v hv⟩⟩
mutual
def PV.ss:PV->Prop
 | .mk n s l ks b=>s.size<=1000001/\PV.sss l
def PV.sss:List PV->Prop
 | []=>True
 |v::l=>PV.ss v/\PV.sss l
end
def NN:∀{l:List PV},PV.sss l↔∀v∈l,v.ss
 | []=>by unfold PV.sss;simp
 |v::l=>by unfold PV.sss;rw[NN (l:=l)];simp
mutual
def zux:∀{v:PV},v.nar->v.ss
  | .mk n s l ks b,h=>by rw[PV.nar]at h;rw[PV.ss];exact⟨by omega,nars_sss h.2.2.2⟩
def nars_sss:∀{l:List PV},PV.nars l->PV.sss l
  | [],_=>by unfold PV.sss;trivial
  | v::l,h=>by unfold PV.nars at h;unfold PV.sss;exact⟨zux h.1,nars_sss h.2⟩
end
def PV.sz(v:PV):Prop:=v.sm/\v.ss
def PV.sn.sz{v:PV} (h:v.sn):v.sz:=⟨h.1,zux h.2⟩
def GF{S:List AT} {f:Nat->Int}:∀{l:List PV} {i:Nat},(∀(j:Nat) (h:j<l.length),PV.fits S (f (i+j)) l[j]=true)->PV.fitL S f i l=true
  | [],i,h=>by rw[PV.fitL]
  | v ::l,i,h=>by
    rw[PV.fitL];have h0:=h 0 (by simp);have:=GF (S:=S) (f:=f) (l:=l) (i:=i+1) λj hj=>by have:=h (j+1) (by simp;omega);rw[show i+1+j=i+(j+1)by omega];simpa using this
    rw[this];simpa using h0
variable {S:List AT}
def zcx{f:Nat->Int} {t:Int} (hf:∀i,f i=t) {l:List PV} (h:∀v∈l,PV.fits S t v=true):PV.fitL S f 0 l=true:=
 GF λj hj=>by rw[hf];exact h _ (List.getElem_mem hj)
variable {i:Nat}
def j6g(hi:i<S.length) {n:Int} (hk:zd S[i].k=true) (h:km S[i] n=true):PV.fits S i (.mk n (mkS []) [] [] 0)=true:=by rw[PV.fits,if_neg (by omega)];simp only[Int.toNat_natCast,List.getElem?_eq_getElem hi];rw[if_pos hk,h];rfl
def j6h(hi:i<S.length) {s:IV} (hk:qS S[i].k=true) (h:vZ S[i] s=true):PV.fits S i (.mk 0 s [] [] 0)=true:=by
 have hn:zd S[i].k=false:=by unfold qS at hk;have:=of_decide_eq_true hk;unfold zd;exact decide_eq_false (by omega)
 rw[PV.fits,if_neg (by omega)];simp only[Int.toNat_natCast,List.getElem?_eq_getElem hi];rw[if_neg (by rw[hn];decide),if_pos hk,h];rfl
def Hl(hi:i<S.length) {l:List PV} {ks:List IV} {b:Int} (hk:qq S[i].k=true) (h:ko S[i] l.length ks b=true) (hl:PV.fitL S (qo S[i] b) 0 l=true):PV.fits S i (.mk 0 (mkS []) l ks b)=true:=by
 have hq:=hk;unfold qq at hq;have hq:=of_decide_eq_true hq;have hn:zd S[i].k=false:=by unfold zd;exact decide_eq_false (by omega)
 have ht:qS S[i].k=false:=by unfold qS;exact decide_eq_false (by omega)
 rw[PV.fits,if_neg (by omega)];simp only[Int.toNat_natCast,List.getElem?_eq_getElem hi];rw[if_neg (by rw[hn];decide),if_neg (by rw[ht];decide),if_pos hk,h,hl];rfl
def zoc(hi:i<S.length) (hk:S[i].k=9) {l:List PV} (hl:l.length=S[i].fs.length) (h:∀(j:Nat) (h1:j<l.length) (h2:j<S[i].fs.length),PV.fits S (S[i].fs[j]).ty l[j]=true):PV.fits S i (.mk 0 (mkS []) l [] 0)=true:=by
 refine Hl hi (by unfold qq;exact decide_eq_true (.inl hk)) ?_ (GF λj hj=> ?_)
 ·unfold ko;rw[if_neg (by simp),if_pos hk];exact decide_eq_true hl
 ·have e:qo S[i] 0 (0+j)=(S[i].fs[j]'(by omega)).ty:=by unfold qo;rw[if_pos hk,Nat.zero_add,List.getElem?_eq_getElem (by omega)]
  rw[e];exact h j hj (by omega)
def zod(hi:i<S.length) (hk:S[i].k=14) {b:Nat} (hb:b<S[i].brs.length) {v:PV} (h:PV.fits S (S[i].brs.getD b 0) v=true):PV.fits S i (.mk 0 (mkS []) [v] [] b)=true:=by
 refine Hl hi (by unfold qq;exact decide_eq_true (by omega)) ?_ (GF λj hj=> ?_)
 ·unfold ko;rw[if_neg (by simp[hk]),if_neg (by omega),if_pos hk];exact decide_eq_true ⟨by omega,by omega,rfl⟩
 ·obtain rfl:j=0:=by simp at hj;exact hj
  have e:qo S[i] (b:Int) (0+0)=S[i].brs.getD b 0:=by unfold qo;rw[if_neg (by omega),if_pos hk,Int.toNat_natCast]
  rw[e];exact h
def zoa(hi:i<S.length) (hk:S[i].k=12) {l:List PV} (h:∀v∈l,PV.fits S S[i].it v=true):PV.fits S i (.mk 0 (mkS []) l [] 0)=true:=by
 refine Hl hi (by unfold qq;exact decide_eq_true (by omega)) ?_ (zcx (λj=> ?_) h)
 ·unfold ko;rw[if_neg (by simp),if_neg (by omega),if_neg (by omega),if_neg (by omega)]
 ·unfold qo;rw[if_neg (by omega),if_neg (by omega)]
def zob(hi:i<S.length) (hk:S[i].k=13) {l:List PV} {ks:List IV} (hl:ks.length=l.length) (hks:zo ks=true) (h:∀v∈l,PV.fits S S[i].it v=true):PV.fits S i (.mk 0 (mkS []) l ks 0)=true:=by
 refine Hl hi (by unfold qq;exact decide_eq_true (by omega)) ?_ (zcx (λj=> ?_) h)
 ·unfold ko;rw[if_neg (by omega),if_neg (by omega),if_neg (by omega),if_pos hk,hks,decide_eq_true hl.symm];rfl
 ·unfold qo;rw[if_neg (by omega),if_neg (by omega)]
def ZK(a:IV):List IV->Bool
 | []=>true
 |j::_=>qdg a j
def z25(a:IV) (l:List IV):zo (a::l)=(qu a&&ZK a l&&zo l):=by
 cases l with
 |nil=>rw[zo,ZK,zo];simp
 |cons j l=>rw[zo,ZK]
def GA(k a:IV) (l:List IV):qO k (a::l)=if qdg a k=true then a::qO k l else if a=k then a::l else k::a::l:=by
 unfold qO kD;rw[zE];by_cases h:qdg a k=true
 ·rw[if_pos h,if_pos h];simp only[List.getElem?_cons_succ,List.take_succ_cons,List.drop_succ_cons];split<;>rfl
 ·rw[if_neg h,if_neg h];simp only[List.getElem?_cons_zero,List.take_zero,List.drop_zero,List.nil_append,decide_eq_true_eq,Option.some.injEq]
def zy6{a k:IV} {l:List IV} (h:qdg a k=true) (hl:ZK a l=true):ZK a (qO k l)=true:=by
  cases l with
  |nil=>unfold qO kD;simp[zE,ZK,h]
  | cons j l=>
    rw[GA];split
    · exact hl
    · split
      · exact hl
      · exact h
def zd9{k:IV} (hk:qu k=true):∀{l:List IV},zo l=true->zo (qO k l)=true
  | [],_=>by unfold qO kD;simp[zE,zo,hk]
  | a ::l,h=>by
    have h0:=h;rw[z25,Bool.and_eq_true,Bool.and_eq_true]at h;obtain⟨⟨h1,h2⟩,h3⟩:=h;rw[GA];split;next hl=>rw[z25,h1,zy6 hl h2,zd9 hk h3];rfl
    next hl=>
      split
      · exact h0
      next hne=>
        rw[z25,hk,h0];rw[ZK];rcases(uk k a).2 (by simpa using hl)with g|g
        · rw[g];rfl
        · exact absurd g.symm hne
variable {k:IV}
def zpo{w v:PV} (h:v∈zH k ks l w):v=w\/v∈l:=by
 unfold zH at h;split at h
 ·rcases List.mem_or_eq_of_mem_set h with h|h
  ·exact .inr h
  ·exact .inl h
 ·rcases List.mem_append.1 h with h|h
  ·exact .inr (List.mem_of_mem_take h)
  ·rcases List.mem_cons.1 h with h|h
   ·exact .inl h
   ·exact .inr (List.mem_of_mem_drop h)
def zdl{x:IV} (h:x∈qO k ks):x=k\/x∈ks:=by
 unfold qO at h;split at h
 ·exact .inr h
 ·rcases List.mem_append.1 h with h|h
  ·exact .inr (List.mem_of_mem_take h)
  ·rcases List.mem_cons.1 h with h|h
   ·exact .inl h
   ·exact .inr (List.mem_of_mem_drop h)
def zy9{w:PV}:PV.wts (zH k ks l w)<=PV.wts l+PV.wt w:=by
 unfold zH;split
 ·by_cases h:zE k ks<l.length
  ·have:=zz6 h w;omega
  ·rw[List.set_eq_of_length_le (by omega)];omega
 ·have:=WA l (zE k ks);rw[xn,PV.wts];omega
def zy7:qA (qO k ks)<=qA ks+k.size+10:=by
 unfold qO;split
 ·omega
 ·have:qA (ks.take (zE k ks))+qA (ks.drop (zE k ks))=qA ks:=by rw[←NC,List.take_append_drop]
  rw[NC,qA];omega
end
def QQ(k:Int):Bool:=decide (k=3\/k=4)
def QR(k:Int):Bool:=decide (k=12\/k=13)
def Df(t:T AV) (k:Nat):Option Nat:=match t.get k with
 |some (.ptr b _)=>some b
 |_=>none
def jvc(h:T AO) (vb n:Nat):AO:=match h.get vb with
 |some (.cells ty fz g [a,b,_,d,e])=> .cells ty fz g [a,b, .ssl 40 0 n 5 41,d,e]
 |_=> .cells 0 none false []
def rvM(S:List AT) (x y:SV) (D:IV):PF:=⟨true,λp=>qd S x p/\(y.2.1=D.size/\qgt p y.1 y.2.1 y.2.2 (q18 D)),λ_ _ h e=>⟨yC h e.1,e.2.1,q4n h e.2.2⟩⟩
def qX(S:List AT) (D:IV) (dp:Int):Int->Nat->Nat->zy:=λt n c=>zk S D (20- dp).toNat t n c
def ZX(a:AT):Prop:=a.k=12\/a.k=13
def tW{α:Type} (R0:Rs α) (e:Int) (q:Prop):Prop:=(e=0/\q)\/∃k:Nat,e=k+1/\R0= .no k
abbrev Yn:=Rs (jG×Nat×Nat)
def Jj(S:List AT) (a:AT) (dp:Int) (D:IV) (n all:Int):Yn:=vV (qX S D dp a.it) D (decide (a.k=13)) (D.size+1- n.toNat) ([],[]) n.toNat all.toNat
def Jh(S:List AT) (a:AT) (dp:Int) (D:IV) (F:Nat) (st:Int) (sz:Int) (r:jG×Nat×Nat):Yn:=if xN st.toNat sz r.2.1=true then .no 1 else vV (qX S D dp a.it) D (decide (a.k=13)) F r.1 r.2.1 r.2.2
section
variable {S:List AT} {D:IV}
def jfz{t dp all:Int} {n:Nat} (h1:1<=dp) (h2:dp<=21) (h3:0<=all) (h:20<dp\/2000<all+1):zk S D (21- dp).toNat t n all.toNat= .no 2:=by
 rcases h with h|h
 ·rw[show(21- dp).toNat=0 by omega];rfl
 ·cases(21- dp).toNat with
  |zero=>rfl
  |succ f=>rw[zk,if_pos (by omega)]
def j6e{dp all:Int} {j n:Nat} (hj:j<S.length) (h1:1<=dp) (h2:¬20<dp) (h3:0<=all) (h:¬2000<all+1):zk S D (21- dp).toNat ((j:Nat):Int) n all.toNat=wv (qX S D dp) D S[j] n (all+1).toNat:=by rw[show(21- dp).toNat=(20- dp).toNat+1 by omega,zk,if_neg (by omega),Int.toNat_natCast,List.getElem?_eq_getElem hj,show(all+1).toNat=all.toNat+1 by omega];rfl
def Dg(l:List GV) (v:GV):GV.pvs (l++[v])=GV.pvs l++[v.pv]:=by rw[GV.pvs_map,GV.pvs_map];simp
def zuk{fs:List GV} {a:Option Addr} {c:Nat} {q:Pub} (h1:GV.oks fs q) (h2:fs.length<=c) (h3:qgs q a (List.take (fs.length*5) (qa GV.cells fs))):(GV.mk 0 (mkS []) (a,fs.length,c) fs (none,0,0) [] 0).ok q:=by rw[List.take_of_length_le (by rw[qv zr];exact Nat.le_refl _)]at h3;unfold GV.ok;exact⟨⟨rfl,h2,h3⟩,qY,h1⟩
variable {g:Int->Nat->Nat->zy} {ts:List Int} {l:List PV}
def j76{n c:Nat} {i:Nat} (h:ts.length<=i):vU g (ts.drop i) l n c= .ok (l,n,c):=by rw[List.drop_of_length_le h];rfl
def j75{n c:Nat} {i:Nat} (h:i<ts.length):vU g (ts.drop i) l n c=(g ts[i] n c).bind λr=>vU g (ts.drop (i+1)) (l++[r.1]) r.2.1 r.2.2:=by rw[List.drop_eq_getElem_cons h,vU]
def zw4{α:Type} {R:zy} {f:PV×Nat×Nat->Rs α} {R0:Rs α} {v:PV} {n c e:Int} (h:j5 R v n c e) (hR:R.bind f=R0):tW R0 e (f (v,n.toNat,c.toNat)=R0):=by
  cases R with
  |no k=>exact .inr ⟨k,h,hR.symm⟩
  | ok r=>
    obtain⟨rfl,rfl,rfl,rfl⟩:=h;exact .inl ⟨rfl,hR⟩
def wm(N:Int) (s:IV) (n e:Int):Rs (PV×Nat):=if e=0 then .ok (.mk N s [] [] 0,n.toNat)else .no (e- 1).toNat
end
def zhh(l:List AV) (h:T AO):Option (Int×kQ):=match l with
  | .ptr id _::k::_=>match Dd h id with
    | some d=>match gi k with
      |some (_,n)=>some (n,d)
      |none=>none
    |none=>none
  |_=>none
def WH:Ct where
 σ:=Int×kQ
 args:=λ⟨k,x,s,i,c⟩=>[.ptr 1 0, .sv (.int .i64 k)]
 h:=λ⟨k,x,s,i,c⟩=>jm x s i c
 m:=2
 pre:=λ⟨k,d⟩=>qW d/\ -9223372036854775808<=k/\k<9223372036854775808
 find:=some zhh
 r:=λ⟨k,x,s,i,c⟩=> .tup [.sv (.string (qz s i.toNat k).1), .sv (.int .i64 (qz s i.toNat k).2.1)]
 h':=λ⟨k,x,s,i,c⟩=>jm x s (qz s i.toNat k).2.2 c
 m':=2
 g:=λ_=>none
def GR:Ct where
 σ:=Int×kQ
 args:=λ⟨k,x,s,i,c⟩=>[.ptr 1 0, .sv (.int .i64 k)]
 h:=λ⟨k,x,s,i,c⟩=>jm x s i c
 m:=2
 pre:=λ⟨k,d⟩=>qW d/\0<=k/\k<=8
 find:=some zhh
 r:=λ⟨k,x,s,i,c⟩=> .tup [.sv (.int .u64 (kk (qz s i.toNat k).1)), .sv (.int .i64 (qz s i.toNat k).2.1)]
 h':=λ⟨k,x,s,i,c⟩=>jm x s (qz s i.toNat k).2.2 c
 m':=2
 g:=λ_=>none
def zkj:GR.σ->WayF:=λ⟨k,x,s,i,c⟩=>{
 ann:=λ_ _ _=>some {σ:=Nat,pre:=λj=>j<=(qz s i.toNat k).1.size,t:=λj=>[(8, .sv (.int .u64 (jP ((qz s i.toNat k).1.data.toList.take j):Nat))),(18, .sv (.int .i64 (j:Nat)))],h:=λ_=>[],more:=0,μ:=λj=>(qz s i.toNat k).1.size- j,keep:=[6,7,17]}}
def Hf:Ct where
 σ:=kQ
 args:=λ⟨x,s,i,c⟩=>[.ptr 1 0]
 h:=λ⟨x,s,i,c⟩=>jm x s i c
 m:=2
 pre:=qW
 find:=some Hj
 r:=λ⟨x,s,i,c⟩=> .tup [.sv (.string (qL s i.toNat).1), .sv (.int .i64 (qL s i.toNat).2.1)]
 h':=λ⟨x,s,i,c⟩=>jm x s (qL s i.toNat).2.2 c
 m':=2
 g:=λ_=>none
def z79:Ct where
 σ:=kQ
 args:=λ⟨x,s,i,c⟩=>[.ptr 1 0]
 h:=λ⟨x,s,i,c⟩=>jm x s i c
 m:=2
 pre:=qW
 find:=some Hj
 r:=λ⟨x,s,i,c⟩=> .tup [.sv (.string (qL s i.toNat).1), .sv (.int .i64 (vO (qL s i.toNat)))]
 h':=λ⟨x,s,i,c⟩=>jm x s (qL s i.toNat).2.2 c
 m':=2
 g:=λ_=>none
def HI(k:Int):Prop:=k≠9/\k≠14/\k≠12/\k≠13
def atM(a:AT):PF:=⟨true,λp=>a.ok p,λ_ _ h e=>AT.ok_mono h e⟩
abbrev vD:=Int×IV×Int×Int
def z75:CtR where
 σ:=kQ×AT
 args:=λ⟨⟨x,s,i,c⟩,a⟩=>[.ptr 1 0,a.av]
 h:=λ⟨⟨x,s,i,c⟩,a⟩=>jm x s i c
 m:=2
 pre:=λ⟨d,a⟩=>qW d/\HI a.k/\(1<=a.k/\a.k<=14)/\a.sys.length<1000000/\(a.k=11->0<=a.sz/\a.sz<1000000)
 mem:=λ⟨d,a⟩=>atM a
 β:=λ_=>vD
 post:=λ⟨⟨x,s,i,c⟩,a⟩ ⟨N,r,e',i'⟩=>ji a s i.toNat=wm N r i' e'/\0<=e'/\i<=i'/\i'<=s.size
 pm:=λ_ _=>{}
 r:=λ_ ⟨N,r,e',i'⟩=> .tup [(GV.mk N r (none,0,0) [] (none,0,0) [] 0).av, .sv (.int .i64 e')]
 h':=λ⟨⟨x,s,i,c⟩,a⟩ ⟨N,r,e',i'⟩=>jm x s i' c
 m':=2
def zkm:z75.σ->WayF:=λ⟨⟨x,s,i,c⟩,a⟩=>{
 cut:=λi tt _=>match i with
  |10=>Jk QQ 23 9 [0,3,4,5,9,23] tt
  |_=>none}
abbrev wR:=List AT×kQ×Int×Int
abbrev zj:=GV×Int×Int×Int
def vpM(S:List AT) (x:SV):PF:=⟨true,λp=>qd S x p,λ_ _ h e=>yC h e⟩
def Kr(s:IV) (i c:Int):zj->Prop:=λ⟨r,e',i',c'⟩=>(i<=i'/\i'<=s.size)/\(c<=c'/\c'<=2001)/\(e'=0->c'<=2000)
def uR(S:List AT) (t:Int):Prop:=0<=t/\t<S.length
def um(S:List AT) (R:zy) (s:IV) (i c t:Int) (b:zj):Prop:=(uR S t->j5 R b.1.pv b.2.2.1 b.2.2.2 b.2.1/\c+1<=b.2.2.2)/\(¬uR S t->b.2.1=1)/\Kr s i c b
def uo:CtR where
 σ:=wR
 args:=λ⟨S,⟨x,s,i,c⟩,t,dp⟩=>[.ptr 1 0, .sv (.int .i64 t), .sv (.int .i64 dp)]
 h:=λ⟨S,⟨x,s,i,c⟩,t,dp⟩=>jm x s i c
 m:=2
 pre:=λ⟨S,⟨x,s,i,c⟩,t,dp⟩=>jI S/\qW ⟨x,s,i,c⟩/\(0<=c/\c<=2000)/\1<=dp/\dp<=21
 mem:=λ⟨S,⟨x,s,i,c⟩,t,dp⟩=>vpM S x
 β:=λ_=>zj
 post:=λ⟨S,⟨x,s,i,c⟩,t,dp⟩ b=>um S (zk S s (21- dp).toNat t i.toNat c.toNat) s i c t b
 pm:=λ_ ⟨r,e',i',c'⟩=>vM r
 r:=λ_ ⟨r,e',i',c'⟩=> .tup [r.av, .sv (.int .i64 e')]
 h':=λ⟨S,⟨x,s,i,c⟩,t,dp⟩ ⟨r,e',i',c'⟩=>jm x s i' c'
 m':=2
def yR:wR->Nat:=λ⟨S,_,t,dp⟩=>(25- dp).toNat
abbrev uJ:=List AT×kQ×AT×Int
def ppM(S:List AT) (x:SV) (a:AT):PF:=⟨true,λp=>qd S x p/\a.ok p,λ_ _ h e=>⟨yC h e.1,AT.ok_mono h e.2⟩⟩
def wM(κ:AT->Prop) (R:(Int->Nat->Nat->zy)->IV->AT->Nat->Nat->zy):CtR where
 σ:=uJ
 args:=λ⟨S,⟨x,s,i,c⟩,a,dp⟩=>[.ptr 1 0,a.av, .sv (.int .i64 dp)]
 h:=λ⟨S,⟨x,s,i,c⟩,a,dp⟩=>jm x s i c
 m:=2
 pre:=λ⟨S,⟨x,s,i,c⟩,a,dp⟩=>jI S/\a∈S/\κ a/\qW ⟨x,s,i,c⟩/\(0<=c/\c<=2000)/\1<=dp/\dp<=20
 mem:=λ⟨S,⟨x,s,i,c⟩,a,dp⟩=>ppM S x a
 β:=λ_=>zj
 post:=λ⟨S,⟨x,s,i,c⟩,a,dp⟩ b=>j5 (R (qX S s dp) s a i.toNat c.toNat) b.1.pv b.2.2.1 b.2.2.2 b.2.1/\Kr s i c b
 pm:=λ_ ⟨r,e',i',c'⟩=>vM r
 r:=λ_ ⟨r,e',i',c'⟩=> .tup [r.av, .sv (.int .i64 e')]
 h':=λ⟨S,⟨x,s,i,c⟩,a,dp⟩ ⟨r,e',i',c'⟩=>jm x s i' c'
 m':=2
def vB:uJ->Nat:=λ⟨S,_,a,dp⟩=>(25- dp).toNat
def KV(a:AT):Prop:=a.k=9
def KI(a:AT):Prop:=a.k=14
def xg(g:Int->Nat->Nat->zy) (D:IV) (a:AT) (n c:Nat):zy:=Gn g a n c
def OI:wR->WayF:=λ⟨S,⟨x,s,i,c⟩,t,dp⟩=>{
 cut:=λi tt _=>match i with
  |13=>Jk QR 62 48 [0,1,2,6,7,8,48,62] tt
  |_=>none}
def Gr(S:List AT) (a:AT) (s:IV) (dp i c:Int) (j:Nat) (i1 c1:Int) (fs:List GV):Prop:=(j<=a.fs.length/\fs.length=j)/\(i<=i1/\i1<=s.size)/\(c<=c1/\c1<=2000)/\vU (qX S s dp) ((a.fs.map AF.ty).drop j) (GV.pvs fs) i1.toNat c1.toNat=vU (qX S s dp) (a.fs.map AF.ty) [] i.toNat c.toNat
def OE:uJ->WayF:=λ⟨S,⟨x,s,i,c⟩,a,dp⟩=>{
 pubE:=[40]
 ann:=λ_ tt hh=>match Df tt 8 with
  |some vb=>some {σ:=Nat×Int×Int×List GV,pre:=λ⟨j,i1,c1,fs⟩=>Gr S a s dp i c j i1 c1 fs,mem:=λ⟨j,i1,c1,fs⟩=>wV fs,t:=λ⟨j,i1,c1,fs⟩=>[(16, .sv (.int .i64 (j:Nat)))],h:=λ⟨j,i1,c1,fs⟩=>jm x s i1 c1++[(vb,jvc hh vb fs.length),(40, .row 36 0 (qa GV.cells fs))],more:=60,μ:=λ⟨j,i1,c1,fs⟩=>a.fs.length- j,keep:=[0,2,4,6,7,8,14,15]}
  |none=>none}
def OH:uJ->WayF:=λ_=>{pubE:=[42]}
section
variable (a:Int) (c:IV) (b:Int) (d:SV) (e:Int) (f:Prop)
 abbrev ZD:=decide (a<0)=decide (a<0)
 def YM:=ZD a/\ZD a/\ZD a/\ZD a/\ZD a/\f
 def DX:=(qz c (toNat a) b).2.1=e/\d.1=d.1/\d.2.1=d.2.1/\d.2.2=d.2.2/\c=c/\f
 def XM:=(qz c (toNat a) b).1=mkS []/\DX a c b d 2 ((qz c (toNat a) b).2.2=a/\e=e/\True)
 def lJ:=ZD a/\YM a (YM a (Ji (a<0) (XM b c a d e) (False)))
 def lI:=Jb (a+b)/\(0<=a/\a<=a+b/\a+b<=(↑(size c):Int))/\(qz c (toNat a) b).1=ByteArray.extract c (toNat a) (toNat (a+b))/\DX a c b d 0 ((qz c (toNat a) b).2.2=a+b/\e=e/\True)
 def lH:=Ji ((↑(size c):Int)- a<b) (XM a c b d e) (lI a c b d e)
 def lG:=YM a (YM a (Jb ((↑(size c):Int)- b)/\ZD a/\Ji (a<0) (XM b c a d e) (lH b c a d e)))
 def lF:=Ji (a<0) (lJ a c b d e) (lG a c b d e)
end
def zej(k:Int) (x:SV) (s:IV) (i c:Int):qk3 P (λ_=>none) Tryz.f89 WH (λ_=>{}) ⟨k,x,s,i,c⟩=(qW (x,s,i,c)/\(-9223372036854775808:Int)<=k/\k<9223372036854775808->lF k s i x c):=by kernel_rfl
def zh1:=λk x s i c=>Eq.trans (zej k x s i c) (by delta Ji Jb Jt Jf ZD YM DX XM lJ lI lH lG lF;exact rfl)
section
variable (b:Int) (d:SV) (a:IV) (c f:Int) (e:Nat) (h:Prop)
 abbrev DZ:=d.1=d.1/\d.2.1=d.2.1/\d.2.2=d.2.2/\h
 abbrev wP:=(qz a (toNat b) c).1
 abbrev YO:=(↑(size (wP b a c)):Int)
 def DY:=(qz a (toNat b) c).2.1=(qz a (toNat b) c).2.1/\(YO b a c)=(YO b a c)/\h
 abbrev YN:=(↑(jP (take e (Array.toList (ByteArray.data (wP b a c))))):Int)
 def XN:=DZ d (a=a/\(qz a (toNat b) c).2.2=(qz a (toNat b) c).2.2/\f=f/\h)
 def lM:=(0<=(↑e:Int)/\(↑e:Int)<(YO b a c))/\(0<=(↑(bat (wP b a c) (toNat (↑e:Int))):Int)/\(↑(bat (wP b a c) (toNat (↑e:Int))):Int)<=18446744073709551615)/\0<=IntKind.wrap u64 ((8:Int)*IntKind.wrap u64 (↑e:Int))/\Jb ((↑e:Int)+1)/\∃(g:Nat),DY b a c ((YN b a c g)=qaf BinOp.or u64 (YN b a c e) (shP BinOp.shl u64 (↑(bat (wP b a c) (toNat (↑e:Int))):Int) (IntKind.wrap u64 ((8:Int)*IntKind.wrap u64 (↑e:Int))))/\(qz a (toNat b) c).1=(qz a (toNat b) c).1/\(↑g:Int)=(↑e:Int)+1/\XN b d a c f (g<=size (wP b a c)/\size (wP b a c)- g<size (wP b a c)- e/\True))
 def lO:=kk (wP b a c)=(YN b a c e)/\(qz a (toNat b) c).2.1=(qz a (toNat b) c).2.1/\XN b d a c f True
 def lL:=Ji ((↑e:Int)<(YO b a c)) (lM b d a c f e) (lO b d a c f e)
 def lK:=b=b/\DZ d (a=a/\c=c/\f=f/\(qW ((d.1,d.2.1,d.2.2),a,c,f)/\(-9223372036854775808:Int)<=b/\b<9223372036854775808)/\(∃(g:Nat),DY c a b ((YN c a b g)=0/\(qz a (toNat c) b).1=(qz a (toNat c) b).1/\(↑g:Int)=0/\XN c d a b f (g<=size (wP c a b)/\True)))/\∀(i:Nat),i<=size (wP c a b)->lL c d a b f i)
end
def zex(k:Int) (x:SV) (s:IV) (i c:Int):qk3 P (qfa [(89,WH)]) Tryz.f85 GR (zkj) ⟨k,x,s,i,c⟩=(qW (x,s,i,c)/\0<=k/\k<=8->lK k x s i c):=by kernel_rfl
def zht:=λk x s i c=>Eq.trans (zex k x s i c) (by delta Ji Jb Jt Jf DZ wP YO DY YN XN lM lO lL lK;exact rfl)
section
variable (c:SV) (a:IV) (b d:Int) (e:Prop)
 abbrev KT:=c.1=c.1/\c.2.1=c.2.1/\c.2.2=c.2.2/\a=a/\e
 abbrev XP:=(↑(qb a (toNat b)).2.1:Int)
 abbrev ZN:=(qL a (toNat b)).2
 abbrev ZM:=(↑(qb a (toNat b)).2.2:Int)
 def lS:=(qL a (toNat b)).1=mkS []/\(ZN a b).1=(XP a b)/\KT c a ((ZN a b).2=(ZM a b)/\d=d/\True)
 def lT:=(qL a (toNat b)).1=mkS []/\(ZN a b).1=3/\KT c a ((ZN a b).2=(ZM a b)/\d=d/\True)
 abbrev XO:=qz a (toNat (ZM a b)) (qb a (toNat b)).1
 def lR:=(qb a (toNat b)).1=(qb a (toNat b)).1/\KT c a ((ZM a b)=(ZM a b)/\d=d/\(qW ((c.1,c.2.1,c.2.2),a,(ZM a b),d)/\(-9223372036854775808:Int)<=(qb a (toNat b)).1/\(qb a (toNat b)).1<9223372036854775808)/\(qL a (toNat b)).1=(XO a b).1/\(ZN a b).1=(XO a b).2.1/\KT c a ((ZN a b).2=(XO a b).2.2/\d=d/\True))
 def lQ:=Ji (5000<(qb a (toNat b)).1) (lT c a b d) (lR c a b d)
 def lP:=KT c a (b=b/\d=d/\qW ((c.1,c.2.1,c.2.2),a,b,d)/\((!decide ((XP a b)=0))=true->lS c a b d)/\((!decide ((XP a b)=0))=false->lQ c a b d))
end
def zjy(x:SV) (s:IV) (i c:Int):qk3 P (qfa [(86,VI),(89,WH)]) Tryz.f87 Hf (λ_=>{}) ⟨x,s,i,c⟩=(qW (x,s,i,c)->lP x s i c):=by kernel_rfl
def zq6:=λx s i c=>Eq.trans (zjy x s i c) (by delta Ji Jt Jf KT XP ZN ZM lS lT XO lR lQ lP;exact rfl)
section
variable (c:SV) (a:IV) (b d:Int) (e:Prop)
 abbrev XQ:=c.1=c.1/\c.2.1=c.2.1/\c.2.2=c.2.2/\a=a/\e
 abbrev ZO:=(qL a (toNat b)).2
 def XR:=(qL a (toNat b)).1=(qL a (toNat b)).1
 def lW:=XR a b/\vO (qL a (toNat b))=2/\XQ c a ((ZO a b).2=(ZO a b).2/\d=d/\True)
 def D0:=XR a b/\vO (qL a (toNat b))=(ZO a b).1/\XQ c a ((ZO a b).2=(ZO a b).2/\d=d/\True)
 def lV:=XR a b/\size (qL a (toNat b)).1<9223372036854775808/\((!qu (qL a (toNat b)).1)=true->lW c a b d)/\((!qu (qL a (toNat b)).1)=false->D0 c a b d)
 def lU:=XQ c a (b=b/\d=d/\qW ((c.1,c.2.1,c.2.2),a,b,d)/\Ji ((ZO a b).1=0) (lV c a b d) (D0 c a b d))
end
def zfj(x:SV) (s:IV) (i c:Int):qk3 P (qfa [(87,Hf),(90,Qh)]) Tryz.f88 z79 (λ_=>{}) ⟨x,s,i,c⟩=(qW (x,s,i,c)->lU x s i c):=by kernel_rfl
def zk7:=λx s i c=>Eq.trans (zfj x s i c) (by delta Ji Jt Jf XQ ZO XR lW D0 lV lU;exact rfl)
section
variable (a:AT) (h:SV) (c:IV) (d g:Int) (i:vD) (m:Prop) (l:Int)
 abbrev jj:=GV.mk i.1 i.2.1 (noA,(0:Nat),(0:Nat)) [] (noA,(0:Nat),(0:Nat)) [] 0
 def uF:=(GV.x (jj i)).1=noA/\(GV.x (jj i)).2.1=0/\(GV.x (jj i)).2.2=0/\(GV.y (jj i)).1=noA/\(GV.y (jj i)).2.1=0/\(GV.y (jj i)).2.2=0/\GV.b (jj i)=0/\m
 def kY:=h.1=h.1/\h.2.1=h.2.1/\h.2.2=h.2.2/\c=c/\m
 def ux:=(ji a c (toNat d)=wm i.1 i.2.1 i.2.2.2 i.2.2.1/\0<=i.2.2.1/\d<=i.2.2.2/\i.2.2.2<=(↑(size c):Int))/\True
 def TO:=∃(e:vD),GV.n (jj e)=0/\GV.s (jj e)=mkS []/\uF e (e.2.2.1=l/\kY h c (e.2.2.2=d/\g=g/\ux a c d e))
 abbrev J0:=qW ((h.1,h.2.1,h.2.2),c,d,g)
 abbrev J1:=qz c (toNat d) 1
 def CR:=(1:Int)=1/\kY h c (d=d/\g=g/\(J0 h c d g/\(0:Int)<=1/\(1:Int)<=8)/\Ji (1<kk (J1 c d).1) (∃(e:vD),GV.n (jj e)=kk (J1 c d).1/\GV.s (jj e)=mkS []/\uF e (e.2.2.1=2/\kY h c (e.2.2.2=(J1 c d).2.2/\g=g/\ux a c d e))) (∃(j:vD),GV.n (jj j)=kk (J1 c d).1/\GV.s (jj j)=mkS []/\uF j (j.2.2.1=(J1 c d).2.1/\kY h c (j.2.2.2=(J1 c d).2.2/\g=g/\ux a c d j))))
 def TM:=∃(e:Unit),QQ (AT.k a)=decide (AT.k a=l)/\AT.k a=AT.k a/\kY h c (d=d/\g=g/\AT.k a=AT.k a/\AT.nm a=AT.nm a/\(AT.al a).1=(AT.al a).1/\(AT.al a).2.1=(AT.al a).2.1/\(AT.al a).2.2=(AT.al a).2.2/\AT.it a=AT.it a/\(AT.sy a).1=(AT.sy a).1/\(AT.sy a).2.1=(AT.sy a).2.1/\(AT.sy a).2.2=(AT.sy a).2.2/\AT.hd a=AT.hd a/\AT.df a=AT.df a/\AT.sz a=AT.sz a/\(AT.f a).1=(AT.f a).1/\(AT.f a).2.1=(AT.f a).2.1/\(AT.f a).2.2=(AT.f a).2.2/\(AT.br a).1=(AT.br a).1/\(AT.br a).2.1=(AT.br a).2.1/\(AT.br a).2.2=(AT.br a).2.2/\(∀j,True/\AT.ok a j->True/\AT.ok a j)/\True/\True)
 def TP:= !decide ((qb c (toNat d)).1=IntKind.wrap i32 (qb c (toNat d)).1)
 def TQ:=GV.n (jj i)=IntKind.wrap u64 (qb c (toNat d)).1/\GV.s (jj i)=mkS []/\m
 def TN:=∃(e:vD),TQ c d e (uF e (e.2.2.1=(↑(qb c (toNat d)).2.1:Int)/\kY h c (e.2.2.2=(↑(qb c (toNat d)).2.2:Int)/\g=g/\ux a c d e)))
 def CQ:=Jb (IntKind.wrap i32 (qb c (toNat d)).1)/\((TP c d)=true->∃(e:vD),TQ c d e (uF e (e.2.2.1=2/\kY h c (e.2.2.2=(↑(qb c (toNat d)).2.2:Int)/\g=g/\ux a c d e))))/\((TP c d)=false->TN a h c d g)
 def CO:=kY h c (d=d/\g=g/\J0 h c d g/\Ji (AT.k a=3) (CQ a h c d g) (TN a h c d g))
 def D2:=l=l/\kY h c (d=d/\g=g/\(J0 h c d g/\0<=l/\l<=8)/\∃(e:vD),GV.n (jj e)=kk (qz c (toNat d) l).1/\GV.s (jj e)=mkS []/\uF e (e.2.2.1=(qz c (toNat d) l).2.1/\kY h c (e.2.2.2=(qz c (toNat d) l).2.2/\g=g/\ux a c d e)))
 def CT:=AT.sz a=AT.sz a/\kY h c (d=d/\g=g/\(J0 h c d g/\(-9223372036854775808:Int)<=AT.sz a/\AT.sz a<9223372036854775808)/\∃(e:vD),GV.n (jj e)=0/\GV.s (jj e)=(qz c (toNat d) (AT.sz a)).1/\uF e (e.2.2.1=(qz c (toNat d) (AT.sz a)).2.1/\kY h c (e.2.2.2=(qz c (toNat d) (AT.sz a)).2.2/\g=g/\ux a c d e)))
 def CS:=Ji (AT.k a=11) (CT a h c d g) (TO a h c d g 1)
 def CP:=Ji (AT.k a=8) (kY h c (d=d/\g=g/\J0 h c d g/\∃(e:vD),GV.n (jj e)=0/\GV.s (jj e)=(qL c (toNat d)).1/\uF e (e.2.2.1=vO (qL c (toNat d))/\kY h c (e.2.2.2=(qL c (toNat d)).2.2/\g=g/\ux a c d e)))) (CS a h c d g)
 def mg:=Ji (AT.k a=7) (kY h c (d=d/\g=g/\J0 h c d g/\∃(e:vD),GV.n (jj e)=0/\GV.s (jj e)=(qL c (toNat d)).1/\uF e (e.2.2.1=(qL c (toNat d)).2.1/\kY h c (e.2.2.2=(qL c (toNat d)).2.2/\g=g/\ux a c d e)))) (CP a h c d g)
 def me:=Ji (AT.k a=10) (∃(e:Int×kQ),e.1=(↑(AT.sy a).2.1:Int)/\e.2.1.1=h.1/\e.2.1.2.1=h.2.1/\e.2.1.2.2=h.2.2/\e.2.2.1=c/\e.2.2.2.1=d/\e.2.2.2.2=g/\qW e.2/\∃(j:vD),GV.n (jj j)=IntKind.wrap u64 (qb e.2.2.1 (toNat e.2.2.2.1)).1/\GV.s (jj j)=mkS []/\uF j (j.2.2.1=(↑(kR e.2.2.1 (toNat e.2.2.2.1) e.1):Int)/\h.1=e.2.1.1/\h.2.1=e.2.1.2.1/\h.2.2=e.2.1.2.2/\c=e.2.2.1/\j.2.2.2=(↑(qb e.2.2.1 (toNat e.2.2.2.1)).2.2:Int)/\g=e.2.2.2.2/\ux a c d j)) (mg a h c d g)
 def mb:=Ji (AT.k a=6) (D2 a h c d g 8) (me a h c d g)
 def ma:=Ji (AT.k a=5) (D2 a h c d g 4) (mb a h c d g)
 def l_:=(QQ (AT.k a)=true->CO a h c d g)/\(QQ (AT.k a)=false->ma a h c d g)
 def lZ:=(Ji (AT.k a=3) (TM a h c d g 3) (TM a h c d g 4))/\∀(o:Unit),True->l_ a h c d g
 def lY:=Ji (AT.k a=2) (CR a h c d g) (lZ a h c d g)
 def lX:=Ji (AT.k a=1) (TO a h c d g 0) (lY a h c d g)
end
def zf9(x:SV) (s:IV) (i c:Int) (a:AT):qk4 P (qfa [(85,GR),(86,VI),(84,z72),(87,Hf),(88,z79),(89,WH)]) (qgc []) Tryz.f45 z75 (zkm) ⟨⟨x,s,i,c⟩,a⟩=(qW (x,s,i,c)/\HI (AT.k a)/\(1<=AT.k a/\AT.k a<=14)/\length (AT.sys a)<1000000/\(AT.k a=11->0<=AT.sz a/\AT.sz a<1000000)->(∃(p:Pub),True/\AT.ok a p)->lX a x s i c):=by kernel_rfl
def zj3:=λx s i c a=>Eq.trans (zf9 x s i c a) (by delta Ji Jb Jt Jf jj uF kY ux TO J0 J1 CR TM TP TQ TN CQ CO D2 CT CS CP mg me mb ma l_ lZ lY lX;exact rfl)
section
variable (h:Int) (c:SV) (i:IV) (m j:Int) (l:List AT) (q:Int) (L:Nat) (N:Int) (O:IV) (v:Option Addr) (w:Nat) (p:Int) (z:Option Addr) (A B:Nat) (C:Bool) (o:IV) (J:Int) (D:Option Addr) (E F:Nat) (G:Option Addr) (H I Q:Nat) (e:zj) (a:uJ) (R:Prop) (x29:vD) (x30:Int)
 abbrev TT:=c.1=c.1/\c.2.1=c.2.1/\c.2.2=c.2.2/\R
 def Uy:=GV.n e.1=0/\GV.s e.1=mkS []/\(GV.x e.1).1=noA/\(GV.x e.1).2.1=0/\(GV.x e.1).2.2=0/\(GV.y e.1).1=noA/\(GV.y e.1).2.1=0/\(GV.y e.1).2.2=0/\GV.b e.1=0/\e.2.1=m/\TT c (i=i/\e.2.2.1=h/\R)
 def V9:=um l (zk l i (toNat ((21:Int)- h)) m (toNat j) (toNat q)) i j q m e/\(∀d,True/\qd l c d->GV.ok e.1 d)/\True
 def XT:=AT.k a.2.2.1=h/\AT.nm a.2.2.1=i/\(AT.al a.2.2.1).1=v/\(AT.al a.2.2.1).2.1=L/\(AT.al a.2.2.1).2.2=w/\AT.it a.2.2.1=m/\(AT.sy a.2.2.1).1=z/\(AT.sy a.2.2.1).2.1=A/\(AT.sy a.2.2.1).2.2=B/\AT.hd a.2.2.1=C/\AT.df a.2.2.1=O/\AT.sz a.2.2.1=j/\(AT.f a.2.2.1).1=D/\(AT.f a.2.2.1).2.1=E/\(AT.f a.2.2.1).2.2=F/\(AT.br a.2.2.1).1=G/\(AT.br a.2.2.1).2.1=H/\(AT.br a.2.2.1).2.2=I/\a.2.2.2=q/\a.2.1.1.1=c.1/\a.2.1.1.2.1=c.2.1/\a.2.1.1.2.2=c.2.2/\a.2.1.2.1=o/\a.2.1.2.2.1=N/\a.2.1.2.2.2=p+1/\R
 def LM:=vB a<L+1/\jI a.1/\a.2.2.1∈a.1/\R
 def LK:=qW (a.2.1.1,a.2.1.2.1,a.2.1.2.2.1,a.2.1.2.2.2)/\(0<=a.2.1.2.2.2/\a.2.1.2.2.2<=2000)/\1<=a.2.2.2/\a.2.2.2<=20
 def LL:=(∀d,True/\qd l c d->qd a.1 a.2.1.1 d/\AT.ok a.2.2.1 d)
 abbrev LO:=qX a.1 a.2.1.2.1 a.2.2.2
 abbrev LN:=Kr a.2.1.2.1 a.2.1.2.2.1 a.2.1.2.2.2 e
 def XS:=(∃d,(True/\qd l c d)/\GV.ok e.1 d)->∃(t:zj),GV.n t.1=GV.n e.1/\GV.s t.1=GV.s e.1/\(GV.x t.1).1=(GV.x e.1).1/\(GV.x t.1).2.1=(GV.x e.1).2.1/\(GV.x t.1).2.2=(GV.x e.1).2.2/\(GV.y t.1).1=(GV.y e.1).1/\(GV.y t.1).2.1=(GV.y e.1).2.1/\(GV.y t.1).2.2=(GV.y e.1).2.2/\GV.b t.1=GV.b e.1/\t.2.1=e.2.1/\c.1=a.2.1.1.1/\c.2.1=a.2.1.1.2.1/\c.2.2=a.2.1.1.2.2/\i=a.2.1.2.1/\t.2.2.1=e.2.2.1/\t.2.2.2=e.2.2.2/\um l (zk l i (toNat ((21:Int)- h)) m (toNat j) (toNat q)) i j q m t/\(∀u,(True/\qd l c u)/\GV.ok e.1 u->GV.ok t.1 u)/\True
 def TS:=∃(d:Unit),h=h/\m=m/\j=j/\QR j=decide (j=x30)/\TT c (i=i/\q=q/\N+1=N+1/\j=j/\O=O/\v=v/\L=L/\w=w/\p=p/\z=z/\A=A/\B=B/\C=C/\o=o/\J=J/\D=D/\E=E/\F=F/\G=G/\H=H/\I=I/\(∀t,True/\qd l c t->True/\qd l c t)/\True/\True)
 abbrev xA:=GV.mk x29.1 x29.2.1 (noA,(0:Nat),(0:Nat)) [] (noA,(0:Nat),(0:Nat)) [] 0
 def mr:=Ji (h=14) (∃(d:uJ),XT h c i m j q L N O v w p z A B C o D E F G H I d ((LM Q d (KI d.2.2.1/\LK d))/\LL c l d/\∀(u:zj),j5 (wu (LO d) d.2.1.2.1 d.2.2.1 (toNat d.2.1.2.2.1) (toNat d.2.1.2.2.2)) (GV.pv u.1) u.2.2.1 u.2.2.2 u.2.1/\LN u d->XS q c o J N l p u d)) (∃(g:kQ×AT),AT.k g.2=h/\AT.nm g.2=i/\(AT.al g.2).1=v/\(AT.al g.2).2.1=L/\(AT.al g.2).2.2=w/\AT.it g.2=m/\(AT.sy g.2).1=z/\(AT.sy g.2).2.1=A/\(AT.sy g.2).2.2=B/\AT.hd g.2=C/\AT.df g.2=O/\AT.sz g.2=j/\(AT.f g.2).1=D/\(AT.f g.2).2.1=E/\(AT.f g.2).2.2=F/\(AT.br g.2).1=G/\(AT.br g.2).2.1=H/\(AT.br g.2).2.2=I/\g.1.1.1=c.1/\g.1.1.2.1=c.2.1/\g.1.1.2.2=c.2.2/\g.1.2.1=o/\g.1.2.2.1=N/\g.1.2.2.2=p+1/\(qW g.1/\HI (AT.k g.2)/\(1<=AT.k g.2/\AT.k g.2<=14)/\length (AT.sys g.2)<1000000/\(AT.k g.2=11->0<=AT.sz g.2/\AT.sz g.2<1000000))/\(∀Z,True/\qd l c Z->AT.ok g.2 Z)/\∀(i8:vD),ji g.2 g.1.2.1 (toNat g.1.2.2.1)=wm i8.1 i8.2.1 i8.2.2.2 i8.2.2.1/\0<=i8.2.2.1/\g.1.2.2.1<=i8.2.2.2/\i8.2.2.2<=(↑(size g.1.2.1):Int)->∃(K:zj),GV.n K.1=GV.n (xA i8)/\GV.s K.1=GV.s (xA i8)/\(GV.x K.1).1=(GV.x (xA i8)).1/\(GV.x K.1).2.1=(GV.x (xA i8)).2.1/\(GV.x K.1).2.2=(GV.x (xA i8)).2.2/\(GV.y K.1).1=(GV.y (xA i8)).1/\(GV.y K.1).2.1=(GV.y (xA i8)).2.1/\(GV.y K.1).2.2=(GV.y (xA i8)).2.2/\GV.b K.1=GV.b (xA i8)/\K.2.1=i8.2.2.1/\c.1=g.1.1.1/\c.2.1=g.1.1.2.1/\c.2.2=g.1.1.2.2/\o=g.1.2.1/\K.2.2.1=i8.2.2.2/\K.2.2.2=g.1.2.2.2/\V9 q c o J N l p K)
 def mq:=(QR h=true->∃(d:uJ),XT h c i m j q L N O v w p z A B C o D E F G H I d ((LM Q d (ZX d.2.2.1/\LK d))/\LL c l d/\∀(u:zj),j5 (uP (LO d) d.2.1.2.1 d.2.2.1 (toNat d.2.1.2.2.1) (toNat d.2.1.2.2.2)) (GV.pv u.1) u.2.2.1 u.2.2.2 u.2.1/\LN u d->XS q c o J N l p u d))/\(QR h=false->mr h c i m j l q L N O v w p z A B C o J D E F G H I Q)
 def mo:=(Ji (h=12) (TS m c i j h l q L N O v w p z A B C o J D E F G H I 12) (TS m c i j h l q L N O v w p z A B C o J D E F G H I 13))/\∀(i4:Unit),True->mq h c O p J l j L q o v w N z A B C i m D E F G H I Q
 def mn:=(0<=h/\h<(↑c.2.1:Int))/\c.1≠noA/\∃(d:Int),∃t,∃u,∃(i3:Nat),∃(i4:Nat),∃(i5:Int),∃g,∃(Z:Nat),∃(i8:Nat),∃(K:Bool),∃S,∃(T:Int),∃U,∃(V:Nat),∃(W:Nat),∃X,∃(i16:Nat),∃(Y:Nat),(∀i18,True/\qd l c i18->q37 i18 (adr c.1 (toNat h*10)) [int i64 d,string t,slice u i3 i4,int i64 i5,slice g Z i8,bool K,string S,int i64 T,slice U V W,slice X i16 Y])/\Ji (d=9) (∃(r:uJ),XT d c t i5 T m i3 j S u i4 q g Z i8 K i U V W X i16 Y r ((LM L r (KV r.2.2.1/\LK r))/\LL c l r/\∀(M:zj),j5 (xg (LO r) r.2.1.2.1 r.2.2.1 (toNat r.2.1.2.2.1) (toNat r.2.1.2.2.2)) (GV.pv M.1) M.2.2.1 M.2.2.2 M.2.1/\LN M r->XS m c i h j l q M r)) (mo d c i h m l j i3 q t u i4 i5 g Z i8 K S T U V W X i16 Y L)
 def mm:=Ji (2000<h+1) (∃(d:zj),Uy m c i 3 d (d.2.2.2=h+1/\V9 j c i q m l h d)) (mn q c i j m l h L)
 def mj:=Jb (h+1)/\Ji (20<m) (∃(d:zj),Uy j c i 3 d (d.2.2.2=h+1/\V9 m c i q j l h d)) (mm h c i j m l q L)
 def mi:=Ji ((↑c.2.1:Int)<=h) (∃(d:zj),Uy m c i 1 d (d.2.2.2=j/\V9 q c i h m l j d)) (mj j c i q m l h L)
 def mh:=Ji (h<0) (∃(d:zj),Uy m c i 1 d (d.2.2.2=j/\V9 q c i h m l j d)) (mi h c i m j l q L)
end
def zqg(n:Nat) (S:List AT) (x:SV) (s:IV) (i c t dp:Int):qk4 P (qfa []) (qgc [(42,(wM KV xg).below vB (n+1)),(43,(wM ZX uP).below vB (n+1)),(44,(wM KI wu).below vB (n+1)),(45,z75)]) Tryz.f27 (uo.below yR (n+1)) (OI) ⟨S,⟨x,s,i,c⟩,t,dp⟩=(yR (S,(x,s,i,c),t,dp)<n+1/\jI S/\qW (x,s,i,c)/\(0<=c/\c<=2000)/\1<=dp/\dp<=21->(∃(p:Pub),True/\qd S x p)->mh t x s i c S dp n):=by kernel_rfl
def zz1:=λn S x s i c t dp=>Eq.trans (zqg n S x s i c t dp) (by delta Ji Jb Jt Jf TT Uy V9 XT LM LK LL LO LN XS TS xA mr mq mo mn mm mj mi mh;exact rfl)
section
variable (a:AT) (j:Int) (d:SV) (i:IV) (o p:Int) (h:List AT) (G:Nat) (e:Nat×Int×Int×List GV) (g:zj) (m:wR) (q:Prop) (t:Nat->Option Obj) (M:Option Addr)
 abbrev ZP:=(↑(AT.f a).2.1:Int)
 def XU:=(AT.f a).1=(AT.f a).1/\(AT.f a).2.1=(AT.f a).2.1/\(AT.f a).2.2=(AT.f a).2.2/\q
 def TW:=d.1=d.1/\d.2.1=d.2.1/\d.2.2=d.2.2/\q
 def D3:=AT.k a=AT.k a/\AT.nm a=AT.nm a/\(AT.al a).1=(AT.al a).1/\(AT.al a).2.1=(AT.al a).2.1/\(AT.al a).2.2=(AT.al a).2.2/\AT.it a=AT.it a/\(AT.sy a).1=(AT.sy a).1/\(AT.sy a).2.1=(AT.sy a).2.1/\(AT.sy a).2.2=(AT.sy a).2.2/\AT.hd a=AT.hd a/\AT.df a=AT.df a/\AT.sz a=AT.sz a/\XU a ((AT.br a).1=(AT.br a).1/\(AT.br a).2.1=(AT.br a).2.1/\(AT.br a).2.2=(AT.br a).2.2/\q)
 def xH:=(True/\qd h d t/\AT.ok a t)/\GV.oks e.2.2.2 t
 def D4:=(GV.y g.1).1=noA/\(GV.y g.1).2.1=0/\(GV.y g.1).2.2=0/\GV.b g.1=0/\q
 def TU:=d.1=m.2.1.1.1/\d.2.1=m.2.1.1.2.1/\d.2.2=m.2.1.1.2.2/\i=m.2.1.2.1/\q
 def TV:=(j5 (xg (qX h i j) i a (toNat o) (toNat p)) (GV.pv g.1) g.2.2.1 g.2.2.2 g.2.1/\Kr i o p g)
 def mA:=length (qa GV.cells e.2.2.2)=length e.2.2.2*5/\(length e.2.2.2+nat_lit 1)*80<=140737488355328/\Jb ((↑e.1:Int)+1)/\∃(c:Nat×Int×Int×List GV),(ZP a)=(ZP a)/\j=j/\(↑c.1:Int)=(↑e.1:Int)+1/\XU a (TU d i m (c.2.1=g.2.2.1/\c.2.2.1=g.2.2.2/\D3 a (length c.2.2.2=length e.2.2.2+nat_lit 1/\qa GV.cells c.2.2.2=qa GV.cells e.2.2.2++[int u64 (GV.n g.1),string (GV.s g.1),slice (GV.x g.1).1 (GV.x g.1).2.1 (GV.x g.1).2.2,slice (GV.y g.1).1 (GV.y g.1).2.1 (GV.y g.1).2.2,int i64 (GV.b g.1)]/\(∀l,(xH a d h e l)/\GV.ok g.1 l->True/\qd h d l/\AT.ok a l)/\(∀r,(xH a d h e r)/\GV.ok g.1 r->GV.oks c.2.2.2 r)/\Gr h a i j o p c.1 c.2.1 c.2.2.1 c.2.2.2/\length (AT.fs a)- c.1<length (AT.fs a)- e.1/\True)))
 def mz:=((!decide (g.2.1=0))=true->∃(c:zj),GV.n c.1=0/\GV.s c.1=mkS []/\(GV.x c.1).1=noA/\(GV.x c.1).2.1=0/\(GV.x c.1).2.2=0/\D4 c (c.2.1=g.2.1/\TU d i m (c.2.2.1=g.2.2.1/\c.2.2.2=g.2.2.2/\TV a j i o p h c/\(∀l,(xH a d h e l)/\GV.ok g.1 l->GV.ok c.1 l)/\True)))/\((!decide (g.2.1=0))=false->mA a j d i o p h e g m)
 def my:=(0<=(↑e.1:Int)/\(↑e.1:Int)<(ZP a))/\(AT.f a).1≠noA/\∃c,∃l,∃(r:Nat),∃(u:Nat),∃(F:Int),∃(S:Bool),∃(T:Int),∃(U:Int),∃i8,∃V,∃(H:Nat),∃(I:Nat),∃J,∃(K:Nat),∃(L:Nat),(∀B,xH a d h e B->q37 B (adr (AT.f a).1 (toNat (↑e.1:Int)*9)) [string c,slice l r u,int i64 F,bool S,int i64 T,int i64 U,string i8,slice V H I,slice J K L])/\Jb (j+1)/\∃(i16:wR),i16.2.2.1=F/\i16.2.2.2=j+1/\i16.2.1.1.1=d.1/\i16.2.1.1.2.1=d.2.1/\i16.2.1.1.2.2=d.2.2/\i16.2.1.2.1=i/\i16.2.1.2.2.1=e.2.1/\i16.2.1.2.2.2=e.2.2.1/\(yR i16<G/\jI i16.1/\qW (i16.2.1.1,i16.2.1.2.1,i16.2.1.2.2.1,i16.2.1.2.2.2)/\(0<=i16.2.1.2.2.2/\i16.2.1.2.2.2<=2000)/\1<=i16.2.2.2/\i16.2.2.2<=21)/\(∀C,xH a d h e C->qd i16.1 i16.2.1.1 C)/\∀(v:zj),um i16.1 (zk i16.1 i16.2.1.2.1 (toNat ((21:Int)- i16.2.2.2)) i16.2.2.1 (toNat i16.2.1.2.2.1) (toNat i16.2.1.2.2.2)) i16.2.1.2.1 i16.2.1.2.2.1 i16.2.1.2.2.2 i16.2.2.1 v->(∃D,(xH a d h e D)/\GV.ok v.1 D)->mz a j d i o p h e v i16
 def TX:=length e.2.2.2<=G/\qgs t M (take (length e.2.2.2*nat_lit 5) (qa GV.cells e.2.2.2))
 def mw:=Ji ((↑e.1:Int)<(ZP a)) (my a j d i o p h G e) (∀(N O Q:Nat) (w:Option Addr) (R z:Nat),(∃E,(xH a d h e E)/\TX z e E w)->∃(i32:zj),GV.n i32.1=0/\GV.s i32.1=mkS []/\(GV.x i32.1).1=w/\(GV.x i32.1).2.1=length e.2.2.2/\(GV.x i32.1).2.2=z/\D4 i32 (i32.2.1=0/\TW d (i=i/\i32.2.2.1=e.2.1/\i32.2.2.2=e.2.2.1/\TV a j i o p h i32/\(∀A,(xH a d h e A)/\TX z e A w->GV.ok i32.1 A)/\True)))
 def mu:=(∃(c:Nat×Int×Int×List GV),(ZP a)=(ZP a)/\j=j/\(↑c.1:Int)=0/\XU a (TW d (i=i/\c.2.1=o/\c.2.2.1=p/\D3 a (length c.2.2.2=0/\(∀l,True/\qd h d l/\AT.ok a l->True/\qd h d l/\AT.ok a l)/\(∀r,True/\qd h d r/\AT.ok a r->GV.oks c.2.2.2 r)/\Gr h a i j o p c.1 c.2.1 c.2.2.1 c.2.2.2/\True))))/\∀(u:Nat×Int×Int×List GV),Gr h a i j o p u.1 u.2.1 u.2.2.1 u.2.2.2->(∃F,xH a d h u F)->mw a j d i o p h G u
end
def zjh(n:Nat) (S:List AT) (x:SV) (s:IV) (i c:Int) (a:AT) (dp:Int):qk4 P (qfa []) (qgc [(27,uo.below yR n)]) Tryz.f42 ((wM KV xg).below vB (n+1)) (OE) ⟨S,⟨x,s,i,c⟩,a,dp⟩=(vB (S,(x,s,i,c),a,dp)<n+1/\jI S/\a∈S/\KV a/\qW (x,s,i,c)/\(0<=c/\c<=2000)/\1<=dp/\dp<=20->(∃(p:Pub),True/\qd S x p/\AT.ok a p)->mu a dp x s i c S n):=by kernel_rfl
def zpr:=λn S x s i c a dp=>Eq.trans (zjh n S x s i c a dp) (by delta Ji Jb Jt Jf ZP XU TW D3 xH D4 TU TV mA mz my TX mw mu;exact rfl)
section
variable (d:Int×kQ) (e:AT) (h:List AT) (g:SV) (q:Int) (B:Nat) (l:IV) (r t:Int) (c:zj) (f:wR) (j:Nat->Option Obj) (z:Nat) (v:zj) (p:Prop)
 abbrev XV:=(↑(kR d.2.2.1 (toNat d.2.2.2.1) d.1):Int)
 def D9:=(GV.y c.1).1=noA/\(GV.y c.1).2.1=0/\(GV.y c.1).2.2=0/\p
 def D7:=GV.n c.1=0/\GV.s c.1=mkS []/\(GV.x c.1).1=noA/\(GV.x c.1).2.1=0/\(GV.x c.1).2.2=0/\D9 c (GV.b c.1=0/\p)
 abbrev ZQ:=qb d.2.2.1 (toNat d.2.2.2.1)
 def D8:=(j5 (wu (qX h l q) l e (toNat r) (toNat t)) (GV.pv c.1) c.2.2.1 c.2.2.2 c.2.1/\Kr l r t c)
 def D6:=g.1=f.2.1.1.1/\g.2.1=f.2.1.1.2.1/\g.2.2=f.2.1.1.2.2/\l=f.2.1.2.1/\c.2.2.1=v.2.2.1/\c.2.2.2=v.2.2.2/\D8 e h q l r t c/\p
 def D5:=((True/\qd h g j/\AT.ok e j)/\GV.ok c.1 j)/\q37 j (Addr.mk B z none) [int u64 (GV.n c.1),string (GV.s c.1),slice (GV.x c.1).1 (GV.x c.1).2.1 (GV.x c.1).2.2,slice (GV.y c.1).1 (GV.y c.1).2.1 (GV.y c.1).2.2,int i64 (GV.b c.1)]
 def mC:=((!decide (c.2.1=0))=true->∃(m:zj),D7 m (m.2.1=c.2.1/\D6 e h g q l r t m f c ((∀k,(True/\qd h g k/\AT.ok e k)/\GV.ok c.1 k->GV.ok m.1 k)/\True)))/\((!decide (c.2.1=0))=false->∀(a o w:Nat),(∃u,D5 e h g a c u o)->∃(i:zj),GV.n i.1=0/\GV.s i.1=mkS []/\(GV.x i.1).1=some (Addr.mk a (o+nat_lit 0) none)/\(GV.x i.1).2.1=nat_lit 1/\(GV.x i.1).2.2=nat_lit 1/\D9 i (GV.b i.1=(ZQ d).1/\i.2.1=0/\D6 e h g q l r t i f c ((∀A,D5 e h g a c A o->GV.ok i.1 A)/\True)))
 def mB:=(0<=(ZQ d).1/\(ZQ d).1<(↑(AT.br e).2.1:Int))/\(AT.br e).1≠noA/\∃(m:Int),(∀k,True/\qd h g k/\AT.ok e k->q37 k (adr (AT.br e).1 (toNat (ZQ d).1*1)) [int i64 m])/\Jb (q+1)/\∃(a:wR),a.2.2.1=m/\a.2.2.2=q+1/\a.2.1.1.1=d.2.1.1/\a.2.1.1.2.1=d.2.1.2.1/\a.2.1.1.2.2=d.2.1.2.2/\a.2.1.2.1=d.2.2.1/\a.2.1.2.2.1=(↑(ZQ d).2.2:Int)/\a.2.1.2.2.2=d.2.2.2.2/\(yR a<B/\jI a.1/\qW (a.2.1.1,a.2.1.2.1,a.2.1.2.2.1,a.2.1.2.2.2)/\(0<=a.2.1.2.2.2/\a.2.1.2.2.2<=2000)/\1<=a.2.2.2/\a.2.2.2<=21)/\(∀o,True/\qd h g o/\AT.ok e o->qd a.1 a.2.1.1 o)/\∀(w:zj),um a.1 (zk a.1 a.2.1.2.1 (toNat ((21:Int)- a.2.2.2)) a.2.2.1 (toNat a.2.1.2.2.1) (toNat a.2.1.2.2.2)) a.2.1.2.1 a.2.1.2.2.1 a.2.1.2.2.2 a.2.2.1 w->(∃u,(True/\qd h g u/\AT.ok e u)/\GV.ok w.1 u)->mC d e h g q l r t w a
end
def zqc(n:Nat) (S:List AT) (x:SV) (s:IV) (i c:Int) (a:AT) (dp:Int):qk4 P (qfa [(84,z72)]) (qgc [(27,uo.below yR n)]) Tryz.f44 ((wM KI wu).below vB (n+1)) (OH) ⟨S,⟨x,s,i,c⟩,a,dp⟩=(vB (S,(x,s,i,c),a,dp)<n+1/\jI S/\a∈S/\KI a/\qW (x,s,i,c)/\(0<=c/\c<=2000)/\1<=dp/\dp<=20->(∃(p:Pub),True/\qd S x p/\AT.ok a p)->∃(s_1:Int×kQ),s_1.1=(↑(AT.br a).2.1:Int)/\s_1.2.1.1=x.1/\s_1.2.1.2.1=x.2.1/\s_1.2.1.2.2=x.2.2/\s_1.2.2.1=s/\s_1.2.2.2.1=i/\s_1.2.2.2.2=c/\qW s_1.2/\((!decide ((XV s_1)=0))=true->∃(b:zj),D7 b (b.2.1=(XV s_1)/\x.1=s_1.2.1.1/\x.2.1=s_1.2.1.2.1/\x.2.2=s_1.2.1.2.2/\s=s_1.2.2.1/\b.2.2.1=(↑(ZQ s_1).2.2:Int)/\b.2.2.2=s_1.2.2.2.2/\D8 a S dp s i c b/\(∀(p:Pub),True/\qd S x p/\AT.ok a p->GV.ok b.1 p)/\True))/\((!decide ((XV s_1)=0))=false->mB s_1 a S x dp n s i c)):=by kernel_rfl
def zyz:=λn S x s i c a dp=>Eq.trans (zqc n S x s i c a dp) (by delta Jb XV D9 D7 ZQ D8 D6 D5 mC mB;exact rfl)
end
end Go.Proofs.YtniogjgfomaicaaGreat.Wd
