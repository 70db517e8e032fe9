/-
  What the functions do: contracts, and their questions answered. No condition but what its theorems ask.
-/
import Derived.Test.YtpanaicglidfjaaT7
namespace Go.Proofs.Ytpanaicglidfjaa.Wd
open Go.Proofs.Ytpanaicglidfjaa.Eng Go.Proofs.Ytpanaicglidfjaa.Sen Go.RowKit
set_option linter.defProp false
set_option linter.unusedVariables false
set_option linter.unusedSimpArgs false
set_option maxRecDepth 1000000
noncomputable section
def inM(y:SV) (R:List Int):PF:=⟨true,slP inV y R,λ_ _ h e=>q0i h e⟩
def inL(R:List Int):List SV->PF
 | [y]=>inM y R
 |_=>{}
def gIn(R:List Int):GS:=some {β:=Unit,ks:=[1],pre:=λ_=>True,mem:=λ_ xs=>inL R xs}
def srM(S:List AT) (x y:SV) (R:List Int):PF:=⟨true,λp=>q0l S x p/\slP inV y R p,λ_ _ h e=>⟨q2e h e.1,q0i h e.2⟩⟩
def arM(a:AT) (y:SV) (R:List Int):PF:=⟨true,λp=>a.ok p/\slP inV y R p,λ_ _ h e=>⟨AT.ok_mono h e.1,q0i h e.2⟩⟩
def rkOK(n:Nat) (R:List Int):Prop:=R.length=n/\∀t:Int,0<=t/\t<n-> -1<=rAt R t/\rAt R t<=100
def rid:AV->Option Nat
 | .ssl r _ _ _ _=>some r
 | .msl r _ _=>some r
 |_=>none
def ridS(t:T AV) (k:Nat):Option Nat:=match t.get k with
 |some a=>rid a
 |none=>none
def ptrS(t:T AV) (k:Nat):Option Nat:=match t.get k with
 |some (.ptr b _)=>some b
 |_=>none
abbrev RdS:=List AT×SV×Int×SV×List Int
def qio:Ct:=ctP RdS (λ⟨S,x,t,y,R⟩=>[scA x, .sv (.int .i64 t),svA y]) (λ⟨S,x,t,y,R⟩=>q0j S/\rkOK S.length R/\0<=t/\t<S.length) (λ⟨S,x,t,y,R⟩=>srM S x y R) λ⟨S,x,t,y,R⟩=> .sv (.int .i64 (rkd R (atS S t)))
def qqq:RdS->WayF:=λ⟨S,x,t,y,R⟩=>{
 ann:=λid _ _=>match id with
  |0=>some {σ:=Nat×Int,pre:=λ⟨j,m⟩=>j<=(atS S t).brs.length/\(-1<=m/\m<=100)/\qfv R ((atS S t).brs.drop j) m=qfv R (atS S t).brs (-1),t:=λ⟨j,m⟩=>[(9, .sv (.int .i64 (j:Int))),(8, .sv (.int .i64 m))],h:=λ_=>[],more:=0,μ:=λ⟨j,m⟩=>(atS S t).brs.length- j,keep:=[2,7]}
  |_=>some {σ:=Nat×Int,pre:=λ⟨j,m⟩=>j<=(atS S t).fs.length/\(0<=m/\m<=100)/\qeh R ((atS S t).fs.drop j) m=qeh R (atS S t).fs 0,t:=λ⟨j,m⟩=>[(12, .sv (.int .i64 (j:Int))),(11, .sv (.int .i64 m))],h:=λ_=>[],more:=0,μ:=λ⟨j,m⟩=>(atS S t).fs.length- j,keep:=[2,7]}}
def qe0:Ct where
 σ:=List AT×SV
 args:=λ⟨S,x⟩=>[scA x]
 h:=λ_=>[]
 m:=1
 pre:=λ⟨S,x⟩=>q0j S
 mem:=λ⟨S,x⟩=>sM S x
 r:=λ_=> .tsl 1
 h':=λ_=>[]
 m':=2
 g:=λ⟨S,x⟩=>gIn (q0a S)
def q8h(A B:List Int) (i:Nat):List Int:=A.take i++B.drop i
def quk:qe0.σ->WayF:=λ⟨S,x⟩=>{
  pub:=λi k=>match i,k with
    |8,0=>[3]
    |17,1=>[67]
    |_,_=>[]
  ann :=λid t _=>match id with
    | 0=>match ridS t 3 with
      |some r=>some {σ:=Nat,pre:=λj=>j<=S.length,t:=λj=>[(4, .sv (.int .i64 (j:Int)))],h:=λj=>[(r, .row 3 0 (q00 inV (q8h (S.map ini) (List.replicate S.length 0) j)))],more:=0,μ:=λj=>S.length- j,keep:=[1,3]}
      |none=>none
    |2=>some {σ:=Nat×SV,pre:=λ⟨j,y⟩=>j<=S.length+1,mem:=λ⟨j,y⟩=>inM y (rkN S j),t:=λ⟨j,y⟩=>[(5, .sv (.int .i64 (j:Int))),(3,svA y)],h:=λ_=>[],more:=0,μ:=λ⟨j,y⟩=>S.length+1- j,keep:=[1]}
    | _ =>match slI t 5 with
      | some k=>match ridS t 6 with
        |some r=>some {σ:=Nat,pre:=λi=>i<=S.length,t:=λi=>[(7, .sv (.int .i64 (i:Int)))],h:=λi=>[(r, .row 3 0 (q00 inV (q8h (rkS S (rkN S k.toNat)) (rkN S k.toNat) i)))],more:=0,μ:=λi=>S.length- i,keep:=[1,3,5,6]}
        |none=>none
      |none=>none}
def q9a:Ct:=ctP (AT×SV×List Int) (λ⟨a,y,R⟩=>[a.av,svA y]) (λ⟨a,y,R⟩=>R.length<1000/\a.brs.length<=30/\∀b∈a.brs,0<=b/\b<R.length) (λ⟨a,y,R⟩=>arM a y R) λ⟨a,y,R⟩=> .sv (.int .i64 (chF R a.brs:Nat))
def chB(R B:List Int) (i m:Nat):Bool:=decide (0<=rAt R (B.getD i 0)/\(rAt R (B.getD m 0)<0\/rAt R (B.getD i 0)<rAt R (B.getD m 0)))
def qqm:q9a.σ->WayF:=λ⟨a,y,R⟩=>{
  cut :=λr t _=>match r with
    | 6 =>match slI t 6 with
      | some i=>match slI t 5 with
        |some m=>some {σ:=Unit,t:=λ_=>[(52, .sv (.bool (chB R a.brs i.toNat m.toNat)))],h:=λ_=>[],more:=0,μ:=λ_=>0,keep:=[1,2,5,6]}
        |none=>none
      |none=>none
    |_=>none
  ann:=λ_ _ _=>some {σ:=Nat×Nat,pre:=λ⟨i,m⟩=>i<=a.brs.length/\m<=i/\(m=i->m=0)/\chG R a.brs (a.brs.length- i) i m=chF R a.brs,t:=λ⟨i,m⟩=>[(6, .sv (.int .i64 (i:Int))),(5, .sv (.int .i64 (m:Int)))],h:=λ_=>[],more:=0,μ:=λ⟨i,m⟩=>a.brs.length- i,keep:=[1,2]}}
abbrev WtS:=List AT×SV×SV×List Int
def qd7:Ct where
 σ:=WtS
 args:=λ⟨S,x,y,R⟩=>[scA x,svA y]
 h:=λ_=>[]
 m:=1
 pre:=λ⟨S,x,y,R⟩=>q0j S/\rkOK S.length R
 mem:=λ⟨S,x,y,R⟩=>srM S x y R
 r:=λ_=> .tsl 1
 h':=λ_=>[]
 m':=2
 g:=λ⟨S,x,y,R⟩=>gIn (wts S R)
def qef(S:List AT) (R:List Int) (k:Int) (i:Nat) (W:List Int):List Int:=wall S R (S.length- k.toNat) (k+1) (qzo S R k (S.length- i) i W)
def ql8:WtS->WayF:=λ⟨S,x,y,R⟩=>{
  pubE:=[86]
  ann :=λid t _=>match ridS t 5 with
    | some r=>match id with
      |0=>some {σ:=Nat×List Int,pre:=λ⟨k,W⟩=>k<=S.length+1/\WB S.length W/\wall S R (S.length+1- k) k W=wts S R,t:=λ⟨k,W⟩=>[(6, .sv (.int .i64 (k:Int)))],h:=λ⟨k,W⟩=>[(r, .row 3 0 (q00 inV W))],more:=0,μ:=λ⟨k,W⟩=>S.length+1- k,keep:=[1,2,5]}
      | 2=>match slI t 6 with
        |some k=>some {σ:=Nat×List Int,pre:=λ⟨i,W⟩=>i<=S.length/\WB S.length W/\qef S R k i W=wts S R,t:=λ⟨i,W⟩=>[(7, .sv (.int .i64 (i:Int)))],h:=λ⟨i,W⟩=>[(r, .row 3 0 (q00 inV W))],more:=0,μ:=λ⟨i,W⟩=>S.length- i,keep:=[1,2,5,6]}
        |none=>none
      | _ =>match slI t 6 with
        | some k=>match slI t 7 with
          |some i=>some {σ:=Nat×List Int,pre:=λ⟨m,W⟩=>m<=(atS S i).fs.length/\WB S.length W/\qef S R k (i.toNat+1) (wfs W i.toNat ((atS S i).fs.drop m))=wts S R,t:=λ⟨m,W⟩=>[(9, .sv (.int .i64 (m:Int)))],h:=λ⟨m,W⟩=>[(r, .row 3 0 (q00 inV W))],more:=0,μ:=λ⟨m,W⟩=>(atS S i).fs.length- m,keep:=[1,2,5,6,7,8]}
          |none=>none
        |none=>none
    |none=>none
  cut :=λi t _=>match i with
    | 13=>match ridS t 5 with
      | some r=>match slI t 6 with
        | some k=>match slI t 7 with
          |some i=>some {σ:=List Int,pre:=λW=>WB S.length W/\qef S R k (i.toNat+1) (wfs W i.toNat (atS S i).fs)=wts S R,t:=λW=>[],h:=λW=>[(r, .row 3 0 (q00 inV W))],more:=0,μ:=λ_=>0,keep:=[1,2,5,6,7,8]}
          |none=>none
        |none=>none
      |none=>none
    |_=>none}
def zB(n:Nat):ByteArray:=mkS (List.replicate n 0)
def lsW(S:List AT) (t:Int):Int:=rAt (wts S (q0a S)) t
def lsQ(S:List AT) (t:Int) (v:GV):Prop:=PV.fits S t v.pv=true/\v.pv.sn/\(v.pv.wt:Int)<=5030*lsW S t/\((atS S t).k=12\/(atS S t).k=13->v=zV)
abbrev LsS:=List AT×SV×Int×SV
def q5y:CtR:=ctN LsS (λ⟨S,x,t,y⟩=>[scA x, .sv (.int .i64 t),svA y]) (λ⟨S,x,t,y⟩=>q0j S/\lsB S t=true) (λ⟨S,x,t,y⟩=>srM S x y (q0a S)) GV (λ⟨S,x,t,y⟩ v=>lsQ S t v) (λ_ v=>vM v) λ_ v=>v.av
def muLs:LsS->Nat:=λ⟨S,x,t,y⟩=>(rAt (q0a S) t).toNat
def lsI(S:List AT) (t:Int) (j:Nat) (l:List PV):Prop:=l.length=j/\j<=(atS S t).fs.length/\(∀(i:Nat) (h1:i<l.length) (h2:i<(atS S t).fs.length),PV.fits S ((atS S t).fs[i]).ty l[i]=true)/\(∀v∈l,v.sn)/\(PV.wts l:Int)<=5030*q7v (wts S (q0a S)) ((atS S t).fs.take j)
def qot:LsS->WayF:=λ⟨S,x,t,y⟩=>{
 pubE:=[49,65]
 spl:=λi=>match i with
  |10=>some 10
  |14=>some 8
  |_=>none
 flo:=λi=>match i with
  |10=>some (10,[0,1])
  |14=>some (8,[0])
  |_=>none
 ann:=λ_ tt _=>match ptrS tt 8 with
  |some vb=>some {σ:=Nat×List GV,pre:=λ⟨j,fs⟩=>lsI S t j (GV.pvs fs),mem:=λ⟨j,fs⟩=>gsM fs,t:=λ⟨j,fs⟩=>[(9, .sv (.int .i64 (j:Int)))],h:=λ⟨j,fs⟩=>[(vb,rwO 40 fs.length 41),(40, .row 37 0 (q00 GV.cells fs))],more:=60,μ:=λ⟨j,fs⟩=>(atS S t).fs.length- j,keep:=[2,3,6,7,8]}
  |none=>none}
def qhf:CtR:=ctN (List AT×SV×Int) (λ⟨S,x,t⟩=>[scA x, .sv (.int .i64 t)]) (λ⟨S,x,t⟩=>q0j S) (λ⟨S,x,t⟩=>sM S x) (GV×Bool) (λ⟨S,x,t⟩ ⟨v,b⟩=>b=lsB S t/\v.pv.sn/\v.pv.wt<=10060000/\(b=true->PV.fits S t v.pv=true)/\(b=false\/(atS S t).k=12\/(atS S t).k=13->v=zV)) (λ_ ⟨v,b⟩=>vM v) λ_ ⟨v,b⟩=> .tup [v.av, .sv (.bool b)]
def qpg:CtR:=ctN (List AT×SV×Int) (λ⟨S,x,t⟩=>[scA x, .sv (.int .i64 t)]) (λ⟨S,x,t⟩=>q0j S/\(atS S t).k=12) (λ⟨S,x,t⟩=>sM S x) Bool (λ⟨S,x,t⟩ b=>b=lsB S t) (λ_ _=>vM zV) λ_ b=> .tup [.agg [.int .u64 0, .str [], .nsl, .nsl, .int .i64 0], .sv (.bool b)]
noncomputable section
variable (x0:Int) (x1:SV) (x2:List AT) (x3:SV) (x4:List Int) (x5:ByteArray) (x6:Option Addr) (x7:Nat) (x8:Nat) (x9:Int) (x10:Option Addr) (x11:Nat) (x12:Nat) (x13:Bool) (x14:ByteArray) (x15:Int) (x16:Option Addr) (x17:Nat) (x18:Nat) (x19:Option Addr) (x20:Nat) (x21:Nat) (x22:Int) (x23:Nat×Int) (x24:Int) (x25:Prop) (x26:Nat×Int)
 abbrev zcj17:=(0<=x0/\x0<(↑x1.2.1:Int))/\x1.1≠noA/\x25
 abbrev qo3:=x1.1=x1.1/\x1.2.1=x1.2.1/\x1.2.2=x1.2.2/\x25
 abbrev qms:=x0=x0/\x5=x5/\x6=x6/\x7=x7/\x8=x8/\x9=x9/\x10=x10/\x11=x11/\x12=x12/\x13=x13/\x14=x14/\x15=x15/\x16=x16/\x17=x17/\x18=x18/\x19=x19/\x20=x20/\x21=x21/\(∀(i0:Pub),True/\q0l x2 x1 i0/\slP inV x3 x4 i0->True/\q0l x2 x1 i0/\slP inV x3 x4 i0)/\x25
 abbrev zcj11:=x23.1<=List.length (AT.brs (atS x2 x0))/\((-1:Int)<=x23.2/\x23.2<=100)/\qfv x4 (List.drop x23.1 (AT.brs (atS x2 x0))) x23.2=qfv x4 (AT.brs (atS x2 x0)) (-1:Int)
 abbrev zcj19:=(∀(i0:Pub),True/\q0l x2 x1 i0/\slP inV x3 x4 i0->q02 i0 (adr x3.1 (Int.toNat x0*1)) [Value.int IntKind.i64 x9])
 abbrev qza:=((-9223372036854775808:Int)<=(↑x23.1:Int)+1/\(↑x23.1:Int)+1<=9223372036854775807)
 abbrev zcj20:=(zcj11 x0 x2 x4 x23)/\List.length (AT.brs (atS x2 x0))- x23.1<List.length (AT.brs (atS x2 x0))- x26.1/\True
 abbrev zcj7:=qza x23/\∃(i0:Nat×Int),(↑i0.1:Int)=(↑x23.1:Int)+1/\qo3 x1 (i0.2=x0/\qms x9 x3 x2 x1 x4 x5 x6 x7 x8 x15 x10 x11 x12 x13 x14 x22 x16 x17 x18 x19 x20 x21 (zcj20 x24 x2 x4 i0 x23))
 abbrev zcj6:=qza x23/\∃(i0:Nat×Int),(↑i0.1:Int)=(↑x23.1:Int)+1/\qo3 x1 (i0.2=x23.2/\qms x0 x3 x2 x1 x4 x5 x6 x7 x8 x9 x10 x11 x12 x13 x14 x15 x16 x17 x18 x19 x20 x21 (zcj20 x22 x2 x4 i0 x23))
 abbrev zcj4:=(decide (x23.2<0)=true->zcj7 x0 x1 x2 x3 x4 x5 x6 x7 x8 x9 x10 x11 x12 x13 x14 x15 x16 x17 x18 x19 x20 x21 x22 x23 x24)/\(decide (x23.2<0)=false->(decide (x0<x23.2)=true->zcj7 x0 x1 x2 x3 x4 x5 x6 x7 x8 x9 x10 x11 x12 x13 x14 x15 x16 x17 x18 x19 x20 x21 x22 x23 x24)/\(decide (x0<x23.2)=false->zcj6 x9 x1 x2 x3 x4 x5 x6 x7 x8 x15 x10 x11 x12 x13 x14 x22 x16 x17 x18 x19 x20 x21 x24 x23))
 abbrev zcj3:=(0<=(↑x23.1:Int)/\(↑x23.1:Int)<(↑x7:Int))/\x6≠noA/\∃(i0:Int),(∀(i1:Pub),True/\q0l x2 x1 i1/\slP inV x3 x4 i1->q02 i1 (adr x6 (Int.toNat (↑x23.1:Int)*1)) [Value.int IntKind.i64 i0])/\zcj17 i0 x3 (∃(i2:Int),zcj19 i0 x1 x2 x3 x4 i2/\(decide (0<=i2)=true->zcj4 i2 x3 x2 x1 x4 x5 x10 x8 x11 x0 x16 x12 x17 x13 x14 x9 x19 x18 x20 x6 x7 x21 x15 x23 x22)/\(decide (0<=i2)=false->zcj6 x0 x3 x2 x1 x4 x5 x10 x8 x11 x9 x16 x12 x17 x13 x14 x15 x19 x18 x20 x6 x7 x21 x22 x23))
 abbrev zcj15:=((-9223372036854775808:Int)<=x23.2+1/\x23.2+1<=9223372036854775807)/\rkd x4 (atS x2 x0)=x23.2+1/\True
 abbrev zcj18:=(decide (x23.2<0)=true->rkd x4 (atS x2 x0)= -1/\True)/\(decide (x23.2<0)=false->zcj15 x0 x2 x4 x23)
 abbrev zcj2:=(decide ((↑x23.1:Int)<(↑x7:Int))=true->zcj3 x0 x1 x2 x3 x4 x5 x6 x7 x8 x9 x10 x11 x12 x13 x14 x15 x16 x17 x18 x19 x20 x21 x22 x23)/\(decide ((↑x23.1:Int)<(↑x7:Int))=false->zcj18 x22 x2 x4 x23)
 abbrev zcj1:=(∃(i0:Nat×Int),(↑i0.1:Int)=0/\qo3 x1 (i0.2= -1/\qms x0 x3 x2 x1 x4 x5 x6 x7 x8 x9 x10 x11 x12 x13 x14 x15 x16 x17 x18 x19 x20 x21 ((zcj11 x22 x2 x4 i0)/\True)))/\∀(i2:Nat×Int),zcj11 x22 x2 x4 i2->zcj2 x0 x3 x2 x1 x4 x5 x19 x20 x7 x9 x6 x8 x11 x13 x14 x15 x10 x12 x17 x16 x18 x21 x22 i2
 abbrev zcj14:=x23.1<=List.length (AT.fs (atS x2 x0))/\(0<=x23.2/\x23.2<=100)/\qeh x4 (List.drop x23.1 (AT.fs (atS x2 x0))) x23.2=qeh x4 (AT.fs (atS x2 x0)) 0
 abbrev zcj12:=qza x23/\∃(i0:Nat×Int),(i0.2=if x0>x23.2 then x0 else x23.2)/\qo3 x1 ((↑i0.1:Int)=(↑x23.1:Int)+1/\qms x9 x3 x2 x1 x4 x5 x6 x7 x8 x15 x10 x11 x12 x13 x14 x22 x16 x17 x18 x19 x20 x21 ((zcj14 x24 x2 x4 i0)/\List.length (AT.fs (atS x2 x24))- i0.1<List.length (AT.fs (atS x2 x24))- x23.1/\True))
 abbrev zcj9:=(0<=(↑x23.1:Int)/\(↑x23.1:Int)<(↑x7:Int))/\x6≠noA/\∃(i0:Int),(∀(i1:Pub),True/\q0l x2 x1 i1/\slP inV x3 x4 i1->q02 i1 (Addr.add (adr x6 (Int.toNat (↑x23.1:Int)*9)) 2) [Value.int IntKind.i64 i0])/\zcj17 i0 x3 (∃(i2:Int),zcj19 i0 x1 x2 x3 x4 i2/\(decide (i2<0)=true->rkd x4 (atS x2 x0)= -1/\True)/\(decide (i2<0)=false->zcj12 i2 x3 x2 x1 x4 x5 x10 x8 x11 x9 x16 x12 x17 x13 x14 x15 x6 x7 x18 x19 x20 x21 x22 x23 x0))
 abbrev zcj8:=(decide ((↑x23.1:Int)<(↑x7:Int))=true->zcj9 x0 x1 x2 x3 x4 x5 x6 x7 x8 x9 x10 x11 x12 x13 x14 x15 x16 x17 x18 x19 x20 x21 x22 x23)/\(decide ((↑x23.1:Int)<(↑x7:Int))=false->zcj15 x0 x2 x4 x23)
 abbrev zcj5:=(∃(i0:Nat×Int),i0.2=0/\qo3 x1 ((↑i0.1:Int)=0/\qms x0 x3 x2 x1 x4 x5 x6 x7 x8 x9 x10 x11 x12 x13 x14 x15 x16 x17 x18 x19 x20 x21 ((zcj14 x22 x2 x4 i0)/\True)))/\∀(i2:Nat×Int),zcj14 x22 x2 x4 i2->zcj8 x22 x3 x2 x1 x4 x5 x16 x17 x7 x0 x6 x8 x11 x13 x14 x9 x10 x12 x18 x19 x20 x21 x15 i2
 abbrev zcj0:=zcj17 x0 x1 (∃(i0:Int),∃(i1:ByteArray),∃(i2:Option Addr),∃(i3:Nat),∃(i4:Nat),∃(i5:Int),∃(i6:Option Addr),∃(i7:Nat),∃(i8:Nat),∃(i9:Bool),∃(i10:ByteArray),∃(i11:Int),∃(i12:Option Addr),∃(i13:Nat),∃(i14:Nat),∃(i15:Option Addr),∃(i16:Nat),∃(i17:Nat),(∀(i18:Pub),True/\q0l x2 x1 i18/\slP inV x3 x4 i18->q02 i18 (adr x1.1 (Int.toNat x0*10)) [Value.int IntKind.i64 i0,Value.string i1,Value.slice i2 i3 i4,Value.int IntKind.i64 i5,Value.slice i6 i7 i8,Value.bool i9,Value.string i10,Value.int IntKind.i64 i11,Value.slice i12 i13 i14,Value.slice i15 i16 i17])/\(decide (i0=14)=true->zcj1 i0 x3 x2 x1 x4 i1 i2 i3 i4 i5 i6 i7 i8 i9 i10 i11 i12 i13 i14 i15 i16 i17 x0)/\(decide (i0=14)=false->zcj5 i0 x3 x2 x1 x4 i1 i2 i3 i4 i5 i6 i7 i8 i9 i10 i11 i12 i13 i14 i15 i16 i17 x0))
end
theorem qmi(S:List AT) (x:SV) (t:Int) (y:SV) (R:List Int):q2h P (q0r []) Try.f90 qio (qqq) ⟨S,x,t,y,R⟩=(q0j S/\rkOK (List.length S) R/\0<=t/\t<(↑(List.length S):Int)->(∃(p:Pub),True/\q0l S x p/\slP inV y R p)->zcj0 t x S y R):=by kernel_rfl
def qv6(S:List AT) (x:SV) (t:Int) (y:SV) (R:List Int):=Eq.trans (qmi S x t y R) (by delta zcj17 qo3 qms zcj11 zcj19 qza zcj20 zcj7 zcj6 zcj4 zcj3 zcj15 zcj18 zcj2 zcj1 zcj14 zcj12 zcj9 zcj8 zcj5 zcj0;exact rfl)
noncomputable section
variable (x0:SV) (x1:List AT) (x2:Nat) (x3:Nat) (x4:Nat) (x5:Nat) (x6:Nat×Option Addr×Nat×Nat) (x7:Nat) (x8:Nat->Option Obj) (x9:Option Addr) (x10:Nat) (x11:Prop) (x12:Int)
 abbrev q3w:=(↑x0.2.1:Int)
 abbrev qdh:=x0.1=x0.1/\x0.2.1=x0.2.1/\x0.2.2=x0.2.2/\x11
 abbrev qcf:=q8h (List.map ini x1) (List.replicate (List.length x1) 0) x2
 abbrev qxy:=(∀(i0:Pub),True/\q0l x1 x0 i0->True/\q0l x1 x0 i0)
 abbrev qsx:=(↑x2:Int)<(↑(Int.toNat (q3w x0)):Int)
 abbrev zck23:=(∀(i0:Pub),True/\q0l x1 x0 i0->q02 i0 (Addr.add (adr x0.1 (Int.toNat (↑x2:Int)*10)) 0) [Value.int IntKind.i64 x12])
 abbrev qvm:=(0:Nat)+Int.toNat (↑x2:Int)*nat_lit 1
 abbrev qq9:=((-9223372036854775808:Int)<=(↑x2:Int)+1/\(↑x2:Int)+1<=9223372036854775807)
 abbrev qq4:=x2<=List.length x1/\List.length x1- x2<List.length x1- x3/\True
 abbrev zck10:=(0<=(↑x2:Int)/\qsx x0 x2)/\(0:Nat)+Int.toNat (↑x2:Int)*nat_lit 1+List.length [Value.int IntKind.i64 0]<=List.length (spl (q00 inV (qcf x1 x2)) (qvm x2) [Value.int IntKind.i64 (-1:Int)])/\qq9 x2/\∃(i0:Nat),Int.toNat (q3w x0)=Int.toNat (q3w x0)/\(↑i0:Int)=(↑x2:Int)+1/\qdh x0 (q00 inV (qcf x1 i0)=spl (spl (q00 inV (qcf x1 x2)) (qvm x2) [Value.int IntKind.i64 (-1:Int)]) (qvm x2) [Value.int IntKind.i64 0]/\qxy x0 x1/\qq4 x1 i0 x2)
 abbrev zck9:=qq9 x2/\∃(i0:Nat),Int.toNat (q3w x0)=Int.toNat (q3w x0)/\(↑i0:Int)=(↑x2:Int)+1/\qdh x0 (q00 inV (qcf x1 i0)=spl (q00 inV (qcf x1 x2)) (qvm x2) [Value.int IntKind.i64 (-1:Int)]/\qxy x0 x1/\qq4 x1 i0 x2)
 abbrev zck8:=(0<=(↑x2:Int)/\(↑x2:Int)<(q3w x0))/\x0.1≠noA/\∃(i0:Int),zck23 x0 x1 x2 i0/\((!decide (i0=14))=true->zck10 x0 x1 x2)/\((!decide (i0=14))=false->zck9 x0 x1 x2)
 abbrev zck6:=(0<=(↑x2:Int)/\qsx x0 x2)/\(0:Nat)+Int.toNat (↑x2:Int)*nat_lit 1+List.length [Value.int IntKind.i64 (-1:Int)]<=List.length (q00 inV (qcf x1 x2))/\(0<=(↑x2:Int)/\(↑x2:Int)<(q3w x0))/\x0.1≠noA/\∃(i0:Int),zck23 x0 x1 x2 i0/\((!decide (i0=9))=true->zck8 x0 x1 x2)/\((!decide (i0=9))=false->zck9 x0 x1 x2)
 abbrev zck5:=(True/\q0l x1 x0 x8)/\True/\Int.toNat (q3w x0)<=x2 / nat_lit 1/\q1l x8 (some (Addr.mk x3 x4 none)) (List.take (Int.toNat (q3w x0)*nat_lit 1) (q00 inV (qcf x1 x5)))
 abbrev q9s:=(zck5 x0 x1 x2 x3 x4 x5 x8)/\slP inV x6.2 (rkN x1 x6.1) x8
 abbrev qni:=(↑x6.2.2.1:Int)
 abbrev qv0:=x6.2.1=x6.2.1/\x6.2.2.1=x6.2.2.1/\x6.2.2.2=x6.2.2.2/\x11
 abbrev qz3:=(↑x6.1:Int)=(↑x6.1:Int)/\(0:Nat)+x6.2.2.1=0+x6.2.2.1/\x11
 abbrev qew:=q8h (rkS x1 (rkN x1 (Int.toNat (↑x6.1:Int)))) (rkN x1 (Int.toNat (↑x6.1:Int))) x2
 abbrev qzn:=(∀(i0:Pub),q9s x0 x1 x2 x3 x4 x5 x6 i0->q9s x0 x1 x2 x3 x4 x5 x6 i0)
 abbrev zck12:=qq9 x2/\∃(i0:Nat),qv0 x6 ((↑i0:Int)=(↑x2:Int)+1/\qz3 x6 (qdh x0 (q00 inV (qew x1 i0 x6)=q00 inV (qew x1 x2 x6)/\qzn x0 x1 x3 x4 x5 x7 x6/\qq4 x1 i0 x2)))
 abbrev zck7:=(0<=(↑x2:Int)/\(↑x2:Int)<(qni x6))/\x6.2.1≠noA/\∃(i0:Int),(∀(i1:Pub),q9s x0 x1 x3 x4 x5 x7 x6 i1->q02 i1 (adr x6.2.1 (Int.toNat (↑x2:Int)*1)) [Value.int IntKind.i64 i0])/\(decide (0<=i0)=true->zck12 x0 x1 x2 x3 x4 x5 x6 x7)/\(decide (0<=i0)=false->∃(i4:RdS),i4.2.1.1=x0.1/\i4.2.1.2.1=x0.2.1/\i4.2.1.2.2=x0.2.2/\i4.2.2.1=(↑x2:Int)/\i4.2.2.2.1.1=x6.2.1/\i4.2.2.2.1.2.1=x6.2.2.1/\i4.2.2.2.1.2.2=x6.2.2.2/\(q0j i4.1/\rkOK (List.length i4.1) i4.2.2.2.2/\0<=i4.2.2.1/\i4.2.2.1<(↑(List.length i4.1):Int))/\(∀(i5:Pub),q9s x0 x1 x3 x4 x5 x7 x6 i5->q0l i4.1 i4.2.1 i5/\slP inV i4.2.2.2.1 i4.2.2.2.2 i5)/\(0<=(↑x2:Int)/\(↑x2:Int)<(↑((0:Nat)+x6.2.2.1):Int))/\nat_lit 0+Int.toNat (↑x2:Int)*nat_lit 1+List.length [Value.int IntKind.i64 (rkd i4.2.2.2.2 (atS i4.1 i4.2.2.1))]<=List.length (q00 inV (qew x1 x2 x6))/\qq9 x2/\∃(i6:Nat),qv0 x6 ((↑i6:Int)=(↑x2:Int)+1/\qz3 x6 (qdh x0 (q00 inV (qew x1 i6 x6)=spl (q00 inV (qew x1 x2 x6)) (nat_lit 0+Int.toNat (↑x2:Int)*nat_lit 1) [Value.int IntKind.i64 (rkd i4.2.2.2.2 (atS i4.1 i4.2.2.1))]/\qzn x0 x1 x3 x4 x5 x7 x6/\qq4 x1 i6 x2))))
 abbrev qxm:=(0:Nat)+x6.2.2.1<=x2/\q1l x8 x9 (List.take (((0:Nat)+x6.2.2.1)*nat_lit 1) (q00 inV (qew x1 x3 x6)))
 abbrev zck11:=((-9223372036854775808:Int)<=(↑x6.1:Int)+1/\(↑x6.1:Int)+1<=9223372036854775807)/\∃(i0:Nat×Option Addr×Nat×Nat),i0.2.1=x9/\i0.2.2.1=0+x6.2.2.1/\i0.2.2.2=x2/\(↑i0.1:Int)=(↑x6.1:Int)+1/\qdh x0 ((∀(i1:Pub),(q9s x0 x1 x3 x4 x5 x7 x6 i1)/\qxm x1 x2 x10 x6 i1 x9->zck5 x0 x1 x3 x4 x5 x7 i1)/\(∀(i2:Pub),(q9s x0 x1 x3 x4 x5 x7 x6 i2)/\qxm x1 x2 x10 x6 i2 x9->slP inV i0.2 (rkN x1 i0.1) i2)/\i0.1<=List.length x1+1/\List.length x1+1- i0.1<List.length x1+1- x6.1/\True)
 abbrev zck4:=(decide ((↑x2:Int)<(qni x6))=true->zck7 x0 x1 x2 x3 x4 x5 x6 x7)/\(decide ((↑x2:Int)<(qni x6))=false->∀(i8 i9 i10:Nat) (i11:Option Addr) (i12 i13:Nat),(∃(i14:Pub),(q9s x0 x1 x3 x4 x5 x7 x6 i14)/\qxm x1 i13 x2 x6 i14 i11)->zck11 x0 x1 i13 x3 x4 x5 x6 x7 i11 x2)
 abbrev zck3:=(decide ((↑x6.1:Int)<=(qni x6))=true->∃(i0:List Value),List.length i0=x6.2.2.1*1/\(∀(i1:Pub),q9s x0 x1 x2 x3 x4 x5 x6 i1->q1l i1 x6.2.1 i0)/\quv i0/\((0:Nat)+x6.2.2.1)*8<=140737488355328/\(∃(i2:Nat),qv0 x6 ((↑i2:Int)=0/\qz3 x6 (qdh x0 (q00 inV (qew x1 i2 x6)=[]++i0/\qzn x0 x1 x2 x3 x4 x5 x6/\i2<=List.length x1/\True))))/\∀(i4:Nat),i4<=List.length x1->zck4 x0 x1 i4 x2 x3 x4 x6 x5)/\(decide ((↑x6.1:Int)<=(qni x6))=false->∃(i23:Unit),qv0 x6 (Pl x6.2.1/\True/\(∀(i24:Pub),q9s x0 x1 x2 x3 x4 x5 x6 i24->slP inV (x6.2.1,x6.2.2.1,x6.2.2.2) (q0a x1) i24)/\True))
 abbrev zck2:=(∃(i0:Nat×Option Addr×Nat×Nat),i0.2.1=some (Addr.mk x2 x3 none)/\i0.2.2.1=Int.toNat (q3w x0)/\i0.2.2.2=x4 / nat_lit 1/\(↑i0.1:Int)=0/\qdh x0 ((∀(i1:Pub),zck5 x0 x1 x4 x2 x3 x5 i1->zck5 x0 x1 x4 x2 x3 x5 i1)/\(∀(i2:Pub),zck5 x0 x1 x4 x2 x3 x5 i2->slP inV i0.2 (rkN x1 i0.1) i2)/\i0.1<=List.length x1+1/\True))/\∀(i3:Nat×Option Addr×Nat×Nat),i3.1<=List.length x1+1->(∃(i4:Pub),q9s x0 x1 x4 x2 x3 x5 i3 i4)->zck3 x0 x1 x4 x2 x3 x5 i3
 abbrev zck1:=(decide (qsx x0 x2)=true->zck6 x0 x1 x2)/\(decide (qsx x0 x2)=false->∀(i10 i11 i12:Nat),(∃(i13:Pub),zck5 x0 x1 i12 i10 i11 x2 i13)->zck2 x0 x1 i10 i11 i12 x2)
 abbrev zck0:=(0<=(q3w x0)/\(q3w x0)<=(q3w x0)/\(↑(8:Nat):Int)*(q3w x0)<=140737488355328/\(q3w x0)<140737488355328)/\(∃(i0:Nat),Int.toNat (q3w x0)=Int.toNat (q3w x0)/\(↑i0:Int)=0/\qdh x0 (q00 inV (qcf x1 i0)=q63 [Value.int IntKind.i64 0] (Int.toNat (q3w x0))/\qxy x0 x1/\i0<=List.length x1/\True))/\∀(i2:Nat),i2<=List.length x1->zck1 x0 x1 i2
end
theorem qo5(S:List AT) (x:SV):q2h P (q0r [(90,qio)]) Try.f56 qe0 (quk) ⟨S,x⟩=(q0j S->(∃(p:Pub),True/\q0l S x p)->zck0 x S):=by kernel_rfl
def qp4(S:List AT) (x:SV):=Eq.trans (qo5 S x) (by delta q3w qdh qcf qxy qsx zck23 qvm qq9 qq4 zck10 zck9 zck8 zck6 zck5 q9s qni qv0 qz3 qew qzn zck12 zck7 qxm zck11 zck4 zck3 zck2 zck1 zck0;exact rfl)
noncomputable section
variable (x0:SV) (x1:AT) (x2:List Int) (x3:Nat×Nat) (x4:Int) (x5:Prop) (x6:Int) (x7:Int) (x8:Nat×Nat)
 abbrev qek:=x0.1=x0.1/\x0.2.1=x0.2.1/\x0.2.2=x0.2.2/\x5
 abbrev zcl4:=AT.k x1=AT.k x1/\AT.nm x1=AT.nm x1/\(AT.al x1).1=(AT.al x1).1/\(AT.al x1).2.1=(AT.al x1).2.1/\(AT.al x1).2.2=(AT.al x1).2.2/\AT.it x1=AT.it x1/\(AT.sy x1).1=(AT.sy x1).1/\(AT.sy x1).2.1=(AT.sy x1).2.1/\(AT.sy x1).2.2=(AT.sy x1).2.2/\AT.hd x1=AT.hd x1/\AT.df x1=AT.df x1/\AT.sz x1=AT.sz x1/\(AT.f x1).1=(AT.f x1).1/\(AT.f x1).2.1=(AT.f x1).2.1/\(AT.f x1).2.2=(AT.f x1).2.2/\(AT.br x1).1=(AT.br x1).1/\(AT.br x1).2.1=(AT.br x1).2.1/\(AT.br x1).2.2=(AT.br x1).2.2/\(∀(i0:Pub),True/\AT.ok x1 i0/\slP inV x0 x2 i0->True/\AT.ok x1 i0/\slP inV x0 x2 i0)/\x5
 abbrev qx1:=x3.1<=List.length (AT.brs x1)/\x3.2<=x3.1/\(x3.2=x3.1->x3.2=0)/\chG x2 (AT.brs x1) (List.length (AT.brs x1)- x3.1) x3.1 x3.2=chF x2 (AT.brs x1)
 abbrev qic:=(↑(AT.br x1).2.1:Int)
 abbrev zcl22:=(∀(i0:Pub),True/\AT.ok x1 i0/\slP inV x0 x2 i0->q02 i0 (adr (AT.br x1).1 (Int.toNat (↑x3.1:Int)*1)) [Value.int IntKind.i64 x4])
 abbrev qu5:=(0<=x4/\x4<(↑x0.2.1:Int))/\x0.1≠noA/\x5
 abbrev qsz:=(∀(i0:Pub),True/\AT.ok x1 i0/\slP inV x0 x2 i0->q02 i0 (adr x0.1 (Int.toNat x4*1)) [Value.int IntKind.i64 x6])
 abbrev q34:=decide (0<=x4)=decide (0<=x4)
 abbrev zcl23:=(∀(i0:Pub),True/\AT.ok x1 i0/\slP inV x0 x2 i0->q02 i0 (adr (AT.br x1).1 (Int.toNat (↑x3.2:Int)*1)) [Value.int IntKind.i64 x4])
 abbrev qm5:=decide (x4<0)=decide (x4<0)
 abbrev qh2:=qm5 x4/\qm5 x4/\qm5 x4/\qm5 x4/\x5
 abbrev zcl14:=(decide (0<=x4)=false->∃(i0:Unit),qek x0 ((↑x3.2:Int)=(↑x3.2:Int)/\chB x2 (AT.brs x1) (Int.toNat (↑x3.1:Int)) (Int.toNat (↑x3.2:Int))=false/\(↑x3.1:Int)=(↑x3.1:Int)/\zcl4 x0 x1 x2 (True/\True)))
 abbrev zcl7:=(decide (0<=x4)=true->∃(i0:Unit),qek x0 ((↑x3.2:Int)=(↑x3.2:Int)/\chB x2 (AT.brs x1) (Int.toNat (↑x3.1:Int)) (Int.toNat (↑x3.2:Int))=true/\(↑x3.1:Int)=(↑x3.1:Int)/\zcl4 x0 x1 x2 (True/\True)))/\zcl14 x0 x1 x2 x3 x4
 abbrev zcl20:=(decide (0<=x4)=true->∃(i0:Unit),qek x0 ((↑x3.2:Int)=(↑x3.2:Int)/\False))/\zcl14 x0 x1 x2 x3 x4
 abbrev zcl6:=qh2 x4 (qh2 x4 (qh2 x4 (qh2 x4 (q34 x6/\(decide (x4<0)=true->zcl7 x0 x1 x2 x3 x6)/\(decide (x4<0)=false->zcl20 x0 x1 x2 x3 x6)))))
 abbrev zcl18:=(decide (0<=x4)=true->∃(i0:Unit),qek x0 ((↑x3.2:Int)=(↑x3.2:Int)/\chB x2 (AT.brs x1) (Int.toNat (↑x3.1:Int)) (Int.toNat (↑x3.2:Int))=decide (x6<x7)/\(↑x3.1:Int)=(↑x3.1:Int)/\zcl4 x0 x1 x2 (True/\True)))/\zcl14 x0 x1 x2 x3 x4
 abbrev zcl5:=qh2 x4 ((0<=(↑x3.1:Int)/\(↑x3.1:Int)<(qic x1))/\(AT.br x1).1≠noA/\qm5 x4/\∃(i0:Int),zcl22 x0 x1 x2 x3 i0/\qm5 x4/\qu5 x0 i0 (qm5 x4/\∃(i2:Int),qsz x0 x1 x2 i0 i2/\qm5 x4/\qh2 x4 ((0<=(↑x3.2:Int)/\(↑x3.2:Int)<(qic x1))/\(AT.br x1).1≠noA/\qm5 x4/\∃(i4:Int),zcl23 x0 x1 x2 x3 i4/\qm5 x4/\qu5 x0 i4 (qm5 x4/\∃(i6:Int),qsz x0 x1 x2 i4 i6/\qm5 x4/\q34 x6/\(decide (x4<0)=true->zcl7 x0 x1 x2 x3 x6)/\(decide (x4<0)=false->zcl18 x0 x1 x2 x3 x6 i2 i6)))))
 abbrev zcl3:=q34 x4/\q34 x4/\q34 x4/\q34 x4/\(0<=(↑x3.2:Int)/\(↑x3.2:Int)<(qic x1))/\(AT.br x1).1≠noA/\q34 x4/\∃(i0:Int),zcl23 x0 x1 x2 x3 i0/\q34 x4/\qu5 x0 i0 (q34 x4/\∃(i2:Int),qsz x0 x1 x2 i0 i2/\q34 x4/\q34 x4/\(decide (i2<0)=true->zcl6 x0 x1 x2 x3 i2 x4)/\(decide (i2<0)=false->zcl5 x0 x1 x2 x3 i2 x4))
 abbrev zcl11:=q34 x4/\q34 x4/\q34 x4/\q34 x4/\q34 x4/\q34 x4/\q34 x4/\q34 x4/\q34 x4/\q34 x4/\zcl20 x0 x1 x2 x3 x4
 abbrev zcl26:=((-9223372036854775808:Int)<=(↑x3.1:Int)+1/\(↑x3.1:Int)+1<=9223372036854775807)
 abbrev zcl25:=(↑x3.1:Int)=(↑x8.1:Int)+1/\zcl4 x0 x1 x2 ((qx1 x1 x2 x3)/\List.length (AT.brs x1)- x3.1<List.length (AT.brs x1)- x8.1/\True)
 abbrev zcl16:=zcl26 x3/\∃(i0:Nat×Nat),qek x0 ((↑i0.2:Int)=(↑x3.1:Int)/\zcl25 x0 x1 x2 i0 x3)
 abbrev zcl17:=zcl26 x3/\∃(i0:Nat×Nat),qek x0 ((↑i0.2:Int)=(↑x3.2:Int)/\zcl25 x0 x1 x2 i0 x3)
 abbrev zcl8:=(chB x2 (AT.brs x1) (Int.toNat (↑x3.1:Int)) (Int.toNat (↑x3.2:Int))=true->zcl16 x0 x1 x2 x3)/\(chB x2 (AT.brs x1) (Int.toNat (↑x3.1:Int)) (Int.toNat (↑x3.2:Int))=false->zcl17 x0 x1 x2 x3)
 abbrev zcl2:=((0<=(↑x3.1:Int)/\(↑x3.1:Int)<(qic x1))/\(AT.br x1).1≠noA/\∃(i0:Int),zcl22 x0 x1 x2 x3 i0/\qu5 x0 i0 (∃(i2:Int),qsz x0 x1 x2 i0 i2/\(decide (0<=i2)=true->zcl3 x0 x1 x2 x3 i2)/\(decide (0<=i2)=false->zcl11 x0 x1 x2 x3 i2)))/\∀(i34:Unit),True->zcl8 x0 x1 x2 x3
 abbrev zcl1:=(decide ((↑x3.1:Int)<(qic x1))=true->zcl2 x0 x1 x2 x3)/\(decide ((↑x3.1:Int)<(qic x1))=false->(↑(chF x2 (AT.brs x1)):Int)=(↑x3.2:Int)/\True)
 abbrev zcl0:=(∃(i0:Nat×Nat),qek x0 ((↑i0.2:Int)=0/\(↑i0.1:Int)=0/\zcl4 x0 x1 x2 ((qx1 x1 x2 i0)/\True)))/\∀(i2:Nat×Nat),qx1 x1 x2 i2->zcl1 x0 x1 x2 i2
end
theorem qoa(a:AT) (y:SV) (R:List Int):q2h P (q0r []) Try.f91 q9a (qqm) ⟨a,y,R⟩=((List.length R<1000/\List.length (AT.brs a)<=30/\∀(b:Int),b∈AT.brs a->0<=b/\b<(↑(List.length R):Int))->(∃(p:Pub),True/\AT.ok a p/\slP inV y R p)->zcl0 y a R):=by kernel_rfl
def qsu(a:AT) (y:SV) (R:List Int):=Eq.trans (qoa a y R) (by delta qek zcl4 qx1 qic zcl22 qu5 qsz q34 zcl23 qm5 qh2 zcl14 zcl7 zcl20 zcl6 zcl18 zcl5 zcl3 zcl11 zcl26 zcl25 zcl16 zcl17 zcl8 zcl2 zcl1 zcl0;exact rfl)
noncomputable section
variable (x0:SV) (x1:SV) (x2:List AT) (x3:List Int) (x4:Nat×List Int) (x5:Nat×List Int) (x6:Int) (x7:ByteArray) (x8:Option Addr) (x9:Nat) (x10:Nat) (x11:Int) (x12:Option Addr) (x13:Nat) (x14:Nat) (x15:Bool) (x16:ByteArray) (x17:Int) (x18:Option Addr) (x19:Nat) (x20:Nat) (x21:Option Addr) (x22:Nat) (x23:Nat) (x24:List Int) (x25:Nat×List Int) (x26:Prop) (x27:Nat->Option Obj)
 abbrev qbf:=True/\q0l x2 x0 x27/\slP inV x1 x3 x27
 abbrev q3b:=(↑x0.2.1:Int)
 abbrev q3y:=x0.1=x0.1/\x0.2.1=x0.2.1/\x0.2.2=x0.2.2/\x26
 abbrev qiy:=Int.toNat (q3b x0)=Int.toNat (q3b x0)
 abbrev qb2:=(∀(i0:Pub),qbf x0 x1 x2 x3 i0->qbf x0 x1 x2 x3 i0)
 abbrev zcm18:=x4.1<=List.length x2+1/\WB (List.length x2) x4.2/\wall x2 x3 (List.length x2+1- x4.1) (↑x4.1:Int) x4.2=wts x2 x3
 abbrev qn0:=qiy x0/\(↑x4.1:Int)=(↑x4.1:Int)/\x26
 abbrev qt8:=x4.1<=List.length x2/\WB (List.length x2) x4.2/\qef x2 x3 (↑x5.1:Int) x4.1 x4.2=wts x2 x3
 abbrev qui:=((-9223372036854775808:Int)<=(↑x4.1:Int)+1/\(↑x4.1:Int)+1<=9223372036854775807)
 abbrev qrt:=(↑x4.1:Int)=(↑x5.1:Int)+1
 abbrev zcm14:=qui x4/\∃(i0:Nat×List Int),q3y x0 (qrt i0 x4/\qn0 x0 x5 (q3y x1 (q00 inV i0.2=q00 inV x4.2/\qb2 x1 x0 x2 x3/\(qt8 x2 x3 i0 x5)/\List.length x2- i0.1<List.length x2- x4.1/\True)))
 abbrev qoc:=(0<=(↑x4.1:Int)/\(↑x4.1:Int)<(↑(Int.toNat (q3b x0)):Int))
 abbrev qva:=(0:Nat)+Int.toNat (↑x4.1:Int)*nat_lit 1
 abbrev qta:=spl (q00 inV x4.2) (qva x4) [Value.int IntKind.i64 1]
 abbrev zcm24:=(∀(i0:Nat) (i1:Value),[Value.int IntKind.i64 x6][i0]? =some i1->(qta x4)[(0:Nat)+Int.toNat (↑x4.1:Int)*nat_lit 1+i0]? =some i1)
 abbrev qtz:=if(1000000:Int)<x6+x11 then 1000000 else x6+x11
 abbrev qzu:=WB (List.length x2) x3/\qef x2 x24 (↑x4.1:Int) (Int.toNat (↑x5.1:Int)+1) (wfs x3 (Int.toNat (↑x5.1:Int)) (AT.fs (atS x2 (↑x5.1:Int))))=wts x2 x24
 abbrev zcm7:=qoc x0 x4/\∃(i0:Int),zcm24 x4 i0/\∃(i3:AT×(Option Addr×Nat×Nat)×List Int),AT.k i3.1=x6/\AT.nm i3.1=x7/\(AT.al i3.1).1=x8/\(AT.al i3.1).2.1=x9/\(AT.al i3.1).2.2=x10/\AT.it i3.1=x11/\(AT.sy i3.1).1=x12/\(AT.sy i3.1).2.1=x13/\(AT.sy i3.1).2.2=x14/\AT.hd i3.1=x15/\AT.df i3.1=x16/\AT.sz i3.1=x17/\(AT.f i3.1).1=x18/\(AT.f i3.1).2.1=x19/\(AT.f i3.1).2.2=x20/\(AT.br i3.1).1=x21/\(AT.br i3.1).2.1=x22/\(AT.br i3.1).2.2=x23/\i3.2.1.1=x0.1/\i3.2.1.2.1=x0.2.1/\i3.2.1.2.2=x0.2.2/\(List.length i3.2.2<1000/\List.length (AT.brs i3.1)<=30/\∀(i4:Int),i4∈AT.brs i3.1->0<=i4/\i4<(↑(List.length i3.2.2):Int))/\(∀(i5:Pub),qbf x1 x0 x2 x3 i5->AT.ok i3.1 i5/\slP inV i3.2.1 i3.2.2 i5)/\(0<=(↑(chF i3.2.2 (AT.brs i3.1)):Int)/\(↑(chF i3.2.2 (AT.brs i3.1)):Int)<(↑x22:Int))/\x21≠noA/\∃(i6:Int),(∀(i7:Pub),qbf x1 x0 x2 x3 i7->q02 i7 (adr x21 (Int.toNat (↑(chF i3.2.2 (AT.brs i3.1)):Int)*1)) [Value.int IntKind.i64 i6])/\(0<=i6/\i6<(↑(Int.toNat (q3b x0)):Int))/\∃(i8:Int),(∀(i9:Nat) (i10:Value),[Value.int IntKind.i64 i8][i9]? =some i10->(qta x4)[(0:Nat)+Int.toNat i6*nat_lit 1+i9]? =some i10)/\((-9223372036854775808:Int)<=i0+i8/\i0+i8<=9223372036854775807)/\qoc x0 x4/\(0:Nat)+Int.toNat (↑x4.1:Int)*nat_lit 1+List.length [Value.int IntKind.i64 (qtz i0 i8)]<=List.length (qta x4)/\∃(i11:Int),zcm24 x4 i11/\AV.sv (Value.int IntKind.i64 i11)=AV.sv (Value.int IntKind.i64 i0)/\AV.sv (Value.slice x21 x22 x23)=AV.sv (Value.slice x21 x22 x23)/\∃(i14:List Int),q3y x0 ((↑x4.1:Int)=(↑x4.1:Int)/\qn0 x0 x5 (q3y x1 (x6=x6/\x7=x7/\x8=x8/\x9=x9/\x10=x10/\x11=x11/\x12=x12/\x13=x13/\x14=x14/\x15=x15/\x16=x16/\x17=x17/\x18=x18/\x19=x19/\x20=x20/\x21=x21/\x22=x22/\x23=x23/\q00 inV i14=spl (qta x4) (qva x4) [Value.int IntKind.i64 (qtz i0 i8)]/\qb2 x1 x0 x2 x3/\(qzu x2 i14 x5 x4 x3)/\True)))
 abbrev zcm15:=x4.1<=List.length (AT.fs (atS x2 (↑x5.1:Int)))/\WB (List.length x2) x4.2/\qef x2 x3 (↑x25.1:Int) (Int.toNat (↑x5.1:Int)+1) (wfs x4.2 (Int.toNat (↑x5.1:Int)) (List.drop x4.1 (AT.fs (atS x2 (↑x5.1:Int)))))=wts x2 x3
 abbrev zcm9:=qoc x0 x4/\∃(i0:Int),(∀(i1:Nat) (i2:Value),[Value.int IntKind.i64 i0][i1]? =some i2->(q00 inV x5.2)[(0:Nat)+Int.toNat (↑x4.1:Int)*nat_lit 1+i1]? =some i2)/\(0<=(↑x5.1:Int)/\(↑x5.1:Int)<(↑x9:Int))/\x8≠noA/\∃(i3:Int),(∀(i4:Pub),qbf x1 x0 x2 x3 i4->q02 i4 (Addr.add (adr x8 (Int.toNat (↑x5.1:Int)*9)) 2) [Value.int IntKind.i64 i3])/\(0<=i3/\i3<(↑(Int.toNat (q3b x0)):Int))/\∃(i5:Int),(∀(i6:Nat) (i7:Value),[Value.int IntKind.i64 i5][i6]? =some i7->(q00 inV x5.2)[(0:Nat)+Int.toNat i3*nat_lit 1+i6]? =some i7)/\((-9223372036854775808:Int)<=i0+i5/\i0+i5<=9223372036854775807)/\qoc x0 x4/\(0:Nat)+Int.toNat (↑x4.1:Int)*nat_lit 1+List.length [Value.int IntKind.i64 (qtz i0 i5)]<=List.length (q00 inV x5.2)/\qui x5/\∃(i8:Nat×List Int),q3y x0 ((↑x4.1:Int)=(↑x4.1:Int)/\qiy x0/\qrt i8 x5/\(↑x25.1:Int)=(↑x25.1:Int)/\q3y x1 (x6=x6/\x7=x7/\x12=x12/\x10=x10/\x13=x13/\x11=x11/\x18=x18/\x14=x14/\x19=x19/\x15=x15/\x16=x16/\x17=x17/\x8=x8/\x9=x9/\x20=x20/\x21=x21/\x22=x22/\x23=x23/\q00 inV i8.2=spl (q00 inV x5.2) (qva x4) [Value.int IntKind.i64 (qtz i0 i5)]/\qb2 x1 x0 x2 x3/\(zcm15 x2 x3 i8 x4 x25)/\List.length (AT.fs (atS x2 (↑x4.1:Int)))- i8.1<List.length (AT.fs (atS x2 (↑x4.1:Int)))- x5.1/\True))
 abbrev zcm16:=qui x4/\∃(i0:Nat×List Int),q3y x0 (qrt i0 x4/\qn0 x0 x5 (q3y x1 (q00 inV i0.2=q00 inV x25.2/\qb2 x1 x0 x2 x3/\(qt8 x2 x3 i0 x5)/\List.length x2- i0.1<List.length x2- x4.1/\True)))
 abbrev zcm8:=(decide ((↑x4.1:Int)<(↑x9:Int))=true->zcm9 x0 x1 x2 x3 x5 x4 x6 x7 x8 x9 x10 x11 x12 x13 x14 x15 x16 x17 x18 x19 x20 x21 x22 x23 x25)/\(decide ((↑x4.1:Int)<(↑x9:Int))=false->zcm16 x0 x1 x2 x3 x5 x25 x4)
 abbrev zcm6:=(∃(i0:Nat×List Int),q3y x0 ((↑x4.1:Int)=(↑x4.1:Int)/\qiy x0/\(↑i0.1:Int)=0/\(↑x5.1:Int)=(↑x5.1:Int)/\q3y x1 (x6=x6/\x7=x7/\x8=x8/\x9=x9/\x10=x10/\x11=x11/\x12=x12/\x13=x13/\x14=x14/\x15=x15/\x16=x16/\x17=x17/\x18=x18/\x19=x19/\x20=x20/\x21=x21/\x22=x22/\x23=x23/\q00 inV i0.2=q00 inV x3/\qb2 x1 x0 x2 x24/\(zcm15 x2 x24 i0 x4 x5)/\True)))/\∀(i2:Nat×List Int),zcm15 x2 x24 i2 x4 x5->zcm8 x0 x1 x2 x24 i2 x4 x6 x7 x18 x19 x9 x11 x8 x10 x13 x15 x16 x17 x12 x14 x20 x21 x22 x23 x5
 abbrev zcm5:=qoc x0 x4/\(0:Nat)+Int.toNat (↑x4.1:Int)*nat_lit 1+List.length [Value.int IntKind.i64 1]<=List.length (q00 inV x4.2)/\(0<=(↑x4.1:Int)/\(↑x4.1:Int)<(q3b x1))/\x1.1≠noA/\∃(i0:Int),∃(i1:ByteArray),∃(i2:Option Addr),∃(i3:Nat),∃(i4:Nat),∃(i5:Int),∃(i6:Option Addr),∃(i7:Nat),∃(i8:Nat),∃(i9:Bool),∃(i10:ByteArray),∃(i11:Int),∃(i12:Option Addr),∃(i13:Nat),∃(i14:Nat),∃(i15:Option Addr),∃(i16:Nat),∃(i17:Nat),(∀(i18:Pub),qbf x1 x0 x2 x3 i18->q02 i18 (adr x1.1 (Int.toNat (↑x4.1:Int)*10)) [Value.int IntKind.i64 i0,Value.string i1,Value.slice i2 i3 i4,Value.int IntKind.i64 i5,Value.slice i6 i7 i8,Value.bool i9,Value.string i10,Value.int IntKind.i64 i11,Value.slice i12 i13 i14,Value.slice i15 i16 i17])/\((decide (i0=14)=true->zcm7 x0 x1 x2 x3 x4 x5 i0 i1 i2 i3 i4 i5 i6 i7 i8 i9 i10 i11 i12 i13 i14 i15 i16 i17)/\(decide (i0=14)=false->∃(i35:List Int),q3y x0 ((↑x4.1:Int)=(↑x4.1:Int)/\qn0 x0 x5 (q3y x1 (i0=i0/\i1=i1/\i2=i2/\i3=i3/\i4=i4/\i5=i5/\i6=i6/\i7=i7/\i8=i8/\i9=i9/\i10=i10/\i11=i11/\i12=i12/\i13=i13/\i14=i14/\i15=i15/\i16=i16/\i17=i17/\q00 inV i35=spl (q00 inV x4.2) (qva x4) [Value.int IntKind.i64 1]/\qb2 x1 x0 x2 x3/\(qzu x2 i35 x5 x4 x3)/\True)))))/\∀(i37:List Int),qzu x2 i37 x5 x4 x3->zcm6 x0 x1 x2 i37 x4 x5 i0 i1 i2 i3 i4 i5 i6 i7 i8 i9 i10 i11 i12 i13 i14 i15 i16 i17 x3
 abbrev zcm4:=(0<=(↑x4.1:Int)/\(↑x4.1:Int)<(q3b x0))/\x0.1≠noA/\∃(i0:Int),(∀(i1:Pub),qbf x1 x0 x2 x3 i1->q02 i1 (adr x0.1 (Int.toNat (↑x4.1:Int)*1)) [Value.int IntKind.i64 i0])/\((!decide (i0=(↑x5.1:Int)))=true->zcm14 x0 x1 x2 x3 x4 x5)/\((!decide (i0=(↑x5.1:Int)))=false->zcm5 x0 x1 x2 x3 x4 x5)
 abbrev zcm13:=qui x4/\∃(i0:Nat×List Int),q3y x0 (qiy x0/\qrt i0 x4/\q3y x1 (q00 inV i0.2=q00 inV x5.2/\qb2 x1 x0 x2 x3/\(zcm18 x2 x3 i0)/\List.length x2+1- i0.1<List.length x2+1- x4.1/\True))
 abbrev zcm3:=(decide ((↑x4.1:Int)<(q3b x0))=true->zcm4 x0 x1 x2 x3 x4 x5)/\(decide ((↑x4.1:Int)<(q3b x0))=false->zcm13 x0 x1 x2 x3 x5 x4)
 abbrev zcm2:=(∃(i0:Nat×List Int),q3y x0 ((↑i0.1:Int)=0/\qn0 x0 x4 (q3y x1 (q00 inV i0.2=q00 inV x4.2/\qb2 x1 x0 x2 x3/\(qt8 x2 x3 i0 x4)/\True))))/\∀(i2:Nat×List Int),qt8 x2 x3 i2 x4->zcm3 x0 x1 x2 x3 i2 x4
 abbrev zcm27:=(qbf x0 x1 x2 x3 x27)/\True/\Int.toNat (q3b x1)<=x9 / nat_lit 1/\q1l x27 (some (Addr.mk x10 x13 none)) (List.take (Int.toNat (q3b x1)*nat_lit 1) (q00 inV x4.2))
 abbrev zcm1:=(decide ((↑x4.1:Int)<=(q3b x0))=true->zcm2 x0 x1 x2 x3 x4)/\(decide ((↑x4.1:Int)<=(q3b x0))=false->∀(i62 i63 i64:Nat),(∃(i65:Pub),zcm27 x1 x0 x2 x3 x4 i64 i62 i63 i65)->∃(i66:Unit),some (Addr.mk i62 i63 none)=some (Addr.mk i62 i63 none)/\qiy x0/\i64 / nat_lit 1=i64 / nat_lit 1/\Pl (some (Addr.mk i62 i63 none))/\True/\(∀(i67:Pub),zcm27 x1 x0 x2 x3 x4 i64 i62 i63 i67->slP inV (some (Addr.mk i62 i63 none),Int.toNat (q3b x0),i64 / nat_lit 1) (wts x2 x3) i67)/\True)
 abbrev zcm0:=(0<=(q3b x0)/\(q3b x0)<=(q3b x0)/\(↑(8:Nat):Int)*(q3b x0)<=140737488355328/\(q3b x0)<140737488355328)/\(∃(i0:Nat×List Int),q3y x0 (qiy x0/\(↑i0.1:Int)=0/\q3y x1 (q00 inV i0.2=q63 [Value.int IntKind.i64 0] (Int.toNat (q3b x0))/\qb2 x1 x0 x2 x3/\(zcm18 x2 x3 i0)/\True)))/\∀(i2:Nat×List Int),zcm18 x2 x3 i2->zcm1 x0 x1 x2 x3 i2
end
theorem qgm(S:List AT) (x y:SV) (R:List Int):q2h P (q0r [(91,q9a)]) Try.f57 qd7 (ql8) ⟨S,x,y,R⟩=(q0j S/\rkOK (List.length S) R->(∃(p:Pub),qbf x y S R p)->zcm0 y x S R):=by kernel_rfl
def qnn(S:List AT) (x y:SV) (R:List Int):=Eq.trans (qgm S x y R) (by delta qbf q3b q3y qiy qb2 zcm18 qn0 qt8 qui qrt zcm14 qoc qva qta zcm24 qtz qzu zcm7 zcm15 zcm9 zcm16 zcm8 zcm6 zcm5 zcm4 zcm13 zcm3 zcm2 zcm27 zcm1 zcm0;exact rfl)
noncomputable section
variable (x0:Int) (x1:SV) (x2:List AT) (x3:SV) (x4:Nat) (x5:ByteArray) (x6:Option Addr) (x7:Nat) (x8:Int) (x9:Option Addr) (x10:Nat) (x11:Nat) (x12:Bool) (x13:ByteArray) (x14:Int) (x15:Option Addr) (x16:Nat) (x17:Nat) (x18:Option Addr) (x19:Nat) (x20:Nat) (x21:Int) (x22:Nat) (x23:Nat×List GV) (x24:GV) (x25:AT×(Option Addr×Nat×Nat)×List Int) (x26:Nat->Option Obj) (x27:Prop) (x28:LsS)
 abbrev q33:=True/\q0l x2 x1 x26/\slP inV x3 (q0a x2) x26
 abbrev zcn13:=(GV.y x24).1=noA/\(GV.y x24).2.1=0/\(GV.y x24).2.2=0/\x27
 abbrev zcn14:=(GV.x x24).1=noA/\(GV.x x24).2.1=0/\(GV.x x24).2.2=0/\zcn13 x24 (GV.b x24=0/\lsQ x2 x0 x24/\(∀(i0:Pub),q33 x1 x2 x3 i0->GV.ok x24 i0)/\True)
 abbrev zcn9:=(0<=x0/\x0<=x0/\(↑(1:Nat):Int)*x0<=140737488355328/\x0<140737488355328)/\∃(i0:ByteArray),ByteArray.size i0=Int.toNat x0/\qod (q63 [Value.int IntKind.u8 0] (Int.toNat x0)) 0 (q1f i0)/\∃(i1:GV),GV.n i1=0/\GV.s i1=i0/\zcn14 x8 x1 x2 x3 i1
 abbrev qrj:=x1.1=x1.1/\x1.2.1=x1.2.1/\x1.2.2=x1.2.2/\x27
 abbrev zcn12:=x28.2.1.1=x1.1/\x28.2.1.2.1=x1.2.1/\x28.2.1.2.2=x1.2.2/\x28.2.2.1=x0/\x28.2.2.2.1=x3.1/\x28.2.2.2.2.1=x3.2.1/\x28.2.2.2.2.2=x3.2.2/\(muLs x28<x4/\q0j x28.1/\lsB x28.1 x28.2.2.1=true)/\x27
 abbrev zcn15:=q0l x28.1 x28.2.1 x26/\slP inV x28.2.2.2 (q0a x28.1) x26
 abbrev zcn5:=List.length (q00 GV.cells x23.2)=List.length x23.2*5/\(List.length x23.2+nat_lit 1)*80<=140737488355328/\((-9223372036854775808:Int)<=(↑x23.1:Int)+1/\(↑x23.1:Int)+1<=9223372036854775807)/\∃(i0:Nat×List GV),(↑i0.1:Int)=(↑x23.1:Int)+1/\qrj x1 (qrj x3 (x0=x0/\x5=x5/\x6=x6/\x4=x4/\x7=x7/\x8=x8/\x9=x9/\x10=x10/\x11=x11/\x12=x12/\x13=x13/\x14=x14/\x15=x15/\x16=x16/\x17=x17/\x18=x18/\x19=x19/\x20=x20/\List.length i0.2=List.length x23.2+nat_lit 1/\q00 GV.cells i0.2=q00 GV.cells x23.2++[Value.int IntKind.u64 (GV.n x24),Value.string (GV.s x24),Value.slice (GV.x x24).1 (GV.x x24).2.1 (GV.x x24).2.2,Value.slice (GV.y x24).1 (GV.y x24).2.1 (GV.y x24).2.2,Value.int IntKind.i64 (GV.b x24)]/\(∀(i1:Pub),((q33 x3 x2 x1 i1)/\GV.oks x23.2 i1)/\GV.ok x24 i1->q33 x3 x2 x1 i1)/\(∀(i2:Pub),((q33 x3 x2 x1 i2)/\GV.oks x23.2 i2)/\GV.ok x24 i2->GV.oks i0.2 i2)/\lsI x2 x21 i0.1 (GV.pvs i0.2)/\List.length (AT.fs (atS x2 x21))- i0.1<List.length (AT.fs (atS x2 x21))- x23.1/\True))
 abbrev zcn8:=(0<=(↑x23.1:Int)/\(↑x23.1:Int)<(↑x4:Int))/\x6≠noA/\∃(i0:Int),(∀(i1:Pub),(q33 x1 x2 x3 i1)/\GV.oks x23.2 i1->q02 i1 (Addr.add (adr x6 (Int.toNat (↑x23.1:Int)*9)) 2) [Value.int IntKind.i64 i0])/\∃(i2:LsS),zcn12 i0 x1 x3 x7 ((∀(i3:Pub),(q33 x1 x2 x3 i3)/\GV.oks x23.2 i3->zcn15 i3 i2)/\∀(i4:GV),lsQ i2.1 i2.2.2.1 i4->(∃(i5:Pub),((q33 x1 x2 x3 i5)/\GV.oks x23.2 i5)/\GV.ok i4 i5)->zcn5 x0 x3 x2 x1 x10 x5 x9 x11 x8 x15 x16 x17 x12 x13 x14 x6 x4 x19 x18 x20 x22 x21 x23 i4) i2
 abbrev zcn4:=(zcn8 x0 x1 x2 x3 x4 x5 x6 x7 x8 x9 x10 x11 x12 x13 x14 x15 x16 x17 x18 x19 x20 x21 x22 x23)/\(zcn8 x0 x1 x2 x3 x4 x5 x6 x7 x8 x9 x10 x11 x12 x13 x14 x15 x16 x17 x18 x19 x20 x21 x22 x23)/\zcn8 x0 x1 x2 x3 x4 x5 x6 x7 x8 x9 x10 x11 x12 x13 x14 x15 x16 x17 x18 x19 x20 x21 x22 x23
 abbrev zcn3:=(decide ((↑x23.1:Int)<(↑x4:Int))=true->zcn4 x0 x1 x2 x3 x4 x5 x6 x7 x8 x9 x10 x11 x12 x13 x14 x15 x16 x17 x18 x19 x20 x21 x22 x23)/\(decide ((↑x23.1:Int)<(↑x4:Int))=false->∀(i27 i28 i29:Nat) (i30:Option Addr) (i31 i32:Nat),(∃(i33:Pub),((q33 x1 x2 x3 i33)/\GV.oks x23.2 i33)/\List.length x23.2<=i32/\q1l i33 i30 (List.take (List.length x23.2*nat_lit 5) (q00 GV.cells x23.2)))->∃(i34:GV),GV.n i34=0/\GV.s i34=mkS []/\(GV.x i34).1=i30/\(GV.x i34).2.1=List.length x23.2/\(GV.x i34).2.2=i32/\zcn13 i34 (GV.b i34=0/\lsQ x2 x21 i34/\(∀(i35:Pub),((q33 x1 x2 x3 i35)/\GV.oks x23.2 i35)/\List.length x23.2<=i32/\q1l i35 i30 (List.take (List.length x23.2*nat_lit 5) (q00 GV.cells x23.2))->GV.ok i34 i35)/\True))
 abbrev zcn2:=(∃(i0:Nat×List GV),(↑i0.1:Int)=0/\qrj x1 (qrj x3 (x0=x0/\x5=x5/\x6=x6/\x4=x4/\x7=x7/\x8=x8/\x9=x9/\x10=x10/\x11=x11/\x12=x12/\x13=x13/\x14=x14/\x15=x15/\x16=x16/\x17=x17/\x18=x18/\x19=x19/\x20=x20/\List.length i0.2=0/\(∀(i1:Pub),q33 x3 x2 x1 i1->q33 x3 x2 x1 i1)/\(∀(i2:Pub),q33 x3 x2 x1 i2->GV.oks i0.2 i2)/\lsI x2 x21 i0.1 (GV.pvs i0.2)/\True)))/\∀(i3:Nat×List GV),lsI x2 x21 i3.1 (GV.pvs i3.2)->(∃(i4:Pub),(q33 x3 x2 x1 i4)/\GV.oks i3.2 i4)->zcn3 x0 x3 x2 x1 x16 x5 x15 x22 x8 x6 x4 x7 x12 x13 x14 x9 x10 x11 x18 x17 x19 x21 x20 i3
 abbrev qw1:=(↑(chF x25.2.2 (AT.brs x25.1)):Int)
 abbrev zcn7:=(0<=(qw1 x25)/\(qw1 x25)<(↑x4:Int))/\x6≠noA/\∃(i0:Int),(∀(i1:Pub),q33 x1 x2 x3 i1->q02 i1 (adr x6 (Int.toNat (qw1 x25)*1)) [Value.int IntKind.i64 i0])/\∃(i2:LsS),zcn12 i0 x1 x3 x7 ((∀(i3:Pub),q33 x1 x2 x3 i3->zcn15 i3 i2)/\∀(i4:GV),lsQ i2.1 i2.2.2.1 i4->(∃(i5:Pub),(q33 x1 x2 x3 i5)/\GV.ok i4 i5)->∀(i6 i7 i8:Nat),(∃(i9:Pub),((q33 x1 x2 x3 i9)/\GV.ok i4 i9)/\q02 i9 (Addr.mk i6 i7 none) [Value.int IntKind.u64 (GV.n i4),Value.string (GV.s i4),Value.slice (GV.x i4).1 (GV.x i4).2.1 (GV.x i4).2.2,Value.slice (GV.y i4).1 (GV.y i4).2.1 (GV.y i4).2.2,Value.int IntKind.i64 (GV.b i4)])->∃(i10:GV),GV.n i10=0/\GV.s i10=mkS []/\(GV.x i10).1=some (Addr.mk i6 (i7+nat_lit 0) none)/\(GV.x i10).2.1=nat_lit 1/\(GV.x i10).2.2=nat_lit 1/\zcn13 i10 (GV.b i10=(qw1 x25)/\lsQ x2 x0 i10/\(∀(i11:Pub),(((q33 x1 x2 x3 i11)/\GV.ok i4 i11)/\∀(i12:Nat) (i13:Value),[Value.int IntKind.u64 (GV.n i4),Value.string (GV.s i4),Value.slice (GV.x i4).1 (GV.x i4).2.1 (GV.x i4).2.2,Value.slice (GV.y i4).1 (GV.y i4).2.1 (GV.y i4).2.2,Value.int IntKind.i64 (GV.b i4)][i12]? =some i13->q2q i11 (Addr.add (Addr.mk i6 i7 none) i12)=some i13)->GV.ok i10 i11)/\True)) i2
 abbrev zcn6:=(decide (x0=14)=true->∃(i0:AT×(Option Addr×Nat×Nat)×List Int),AT.k i0.1=x0/\AT.nm i0.1=x5/\(AT.al i0.1).1=x6/\(AT.al i0.1).2.1=x4/\(AT.al i0.1).2.2=x7/\AT.it i0.1=x8/\(AT.sy i0.1).1=x9/\(AT.sy i0.1).2.1=x10/\(AT.sy i0.1).2.2=x11/\AT.hd i0.1=x12/\AT.df i0.1=x13/\AT.sz i0.1=x14/\(AT.f i0.1).1=x15/\(AT.f i0.1).2.1=x16/\(AT.f i0.1).2.2=x17/\(AT.br i0.1).1=x18/\(AT.br i0.1).2.1=x19/\(AT.br i0.1).2.2=x20/\i0.2.1.1=x1.1/\i0.2.1.2.1=x1.2.1/\i0.2.1.2.2=x1.2.2/\(List.length i0.2.2<1000/\List.length (AT.brs i0.1)<=30/\∀(i1:Int),i1∈AT.brs i0.1->0<=i1/\i1<(↑(List.length i0.2.2):Int))/\(∀(i2:Pub),q33 x3 x2 x1 i2->AT.ok i0.1 i2/\slP inV i0.2.1 i0.2.2 i2)/\(zcn7 x21 x3 x2 x1 x19 x18 x22 i0)/\zcn7 x21 x3 x2 x1 x19 x18 x22 i0)/\(decide (x0=14)=false->∃(i31:GV),GV.n i31=0/\GV.s i31=mkS []/\zcn14 x21 x3 x2 x1 i31)
 abbrev zcn1:=(decide (x0=9)=true->zcn2 x0 x1 x2 x3 x4 x5 x6 x7 x8 x9 x10 x11 x12 x13 x14 x15 x16 x17 x18 x19 x20 x21 x22)/\(decide (x0=9)=false->zcn6 x0 x1 x2 x3 x4 x5 x6 x7 x8 x9 x10 x11 x12 x13 x14 x15 x16 x17 x18 x19 x20 x21 x22)
 abbrev zcn0:=(0<=x0/\x0<(↑x1.2.1:Int))/\x1.1≠noA/\∃(i0:Int),∃(i1:ByteArray),∃(i2:Option Addr),∃(i3:Nat),∃(i4:Nat),∃(i5:Int),∃(i6:Option Addr),∃(i7:Nat),∃(i8:Nat),∃(i9:Bool),∃(i10:ByteArray),∃(i11:Int),∃(i12:Option Addr),∃(i13:Nat),∃(i14:Nat),∃(i15:Option Addr),∃(i16:Nat),∃(i17:Nat),(∀(i18:Pub),q33 x1 x2 x3 i18->q02 i18 (adr x1.1 (Int.toNat x0*10)) [Value.int IntKind.i64 i0,Value.string i1,Value.slice i2 i3 i4,Value.int IntKind.i64 i5,Value.slice i6 i7 i8,Value.bool i9,Value.string i10,Value.int IntKind.i64 i11,Value.slice i12 i13 i14,Value.slice i15 i16 i17])/\(decide (i0=11)=true->zcn9 i11 x1 x2 x3 x0)/\(decide (i0=11)=false->zcn1 i0 x3 x2 x1 i3 i1 i2 i4 i5 i6 i7 i8 i9 i10 i11 i12 i13 i14 i15 i16 i17 x0 x4)
end
theorem qmg(n:Nat) (S:List AT) (x:SV) (t:Int) (y:SV):q68 P (q0r [(91,q9a)]) (q1s [(58,q5y.below muLs n)]) Try.f58 (q5y.below muLs (n+1)) (qot) ⟨S,x,t,y⟩=(muLs (S,x,t,y)<n+1/\q0j S/\lsB S t=true->(∃(p:Pub),q33 x S y p)->zcn0 t x S y n):=by kernel_rfl
def qsd(n:Nat) (S:List AT) (x:SV) (t:Int) (y:SV):=Eq.trans (qmg n S x t y) (by delta q33 zcn13 zcn14 zcn9 qrj zcn12 zcn15 zcn5 zcn8 zcn4 zcn3 zcn2 qw1 zcn7 zcn6 zcn1 zcn0;exact rfl)
noncomputable section
variable (x0:Int) (x1:Nat) (x2:Option Addr) (x3:List AT) (x4:SV) (x5:Nat) (x6:List AT×Option Addr×Nat×Nat) (x7:Option Addr) (x8:Nat) (x9:Nat) (x10:WtS) (x11:GV×Bool) (x12:Prop) (x13:Nat->Option Obj) (x14:(Option Addr×Nat×Nat)×Int)
 abbrev zco5:=(True/\q0l x3 x4 x13)/\slP inV (x2,x1,x5) (q0a x6.1) x13
 abbrev zco6:= !(decide (0<=x14.2)&&decide (x14.2<(↑x14.1.2.1:Int)))
 abbrev zco3:=(x11.2=lsB x3 x0/\PV.sn (GV.pv x11.1)/\PV.wt (GV.pv x11.1)<=10060000/\(x11.2=true->PV.fits x3 x0 (GV.pv x11.1)=true)/\(x11.2=false\/AT.k (atS x3 x0)=12\/AT.k (atS x3 x0)=13->x11.1=zV))
 abbrev zco2:=GV.n x11.1=0/\GV.s x11.1=mkS []/\(GV.x x11.1).1=noA/\(GV.x x11.1).2.1=0/\(GV.x x11.1).2.2=0/\(GV.y x11.1).1=noA/\(GV.y x11.1).2.1=0/\(GV.y x11.1).2.2=0/\GV.b x11.1=0/\x11.2=false/\zco3 x0 x3 x11/\x12
 abbrev zco4:=(zco5 x1 x2 x3 x4 x5 x6 x13)/\slP inV (x7,x8,x9) (wts x10.1 x10.2.2.2) x13
 abbrev zco1:=(0<=x0/\x0<(↑x1:Int))/\x2≠noA/\∃(i0:Int),(∀(i1:Pub),zco4 x5 x7 x3 x4 x8 x6 x2 x1 x9 x10 i1->q02 i1 (adr x2 (Int.toNat x0*1)) [Value.int IntKind.i64 i0])/\(decide (2000<i0)=true->∃(i2:GV×Bool),zco2 x0 x3 i2 ((∀(i3:Pub),zco4 x5 x7 x3 x4 x8 x6 x2 x1 x9 x10 i3->GV.ok i2.1 i3)/\True))/\(decide (2000<i0)=false->∃(i4:LsS),i4.2.1.1=x4.1/\i4.2.1.2.1=x4.2.1/\i4.2.1.2.2=x4.2.2/\i4.2.2.1=x0/\i4.2.2.2.1=x7/\i4.2.2.2.2.1=x5/\i4.2.2.2.2.2=x8/\(q0j i4.1/\lsB i4.1 i4.2.2.1=true)/\(∀(i5:Pub),zco4 x5 x7 x3 x4 x8 x6 x2 x1 x9 x10 i5->q0l i4.1 i4.2.1 i5/\slP inV i4.2.2.2 (q0a i4.1) i5)/\∀(i6:GV),lsQ i4.1 i4.2.2.1 i6->(∃(i7:Pub),(zco4 x5 x7 x3 x4 x8 x6 x2 x1 x9 x10 i7)/\GV.ok i6 i7)->∃(i8:GV×Bool),GV.n i8.1=GV.n i6/\GV.s i8.1=GV.s i6/\(GV.x i8.1).1=(GV.x i6).1/\(GV.x i8.1).2.1=(GV.x i6).2.1/\(GV.x i8.1).2.2=(GV.x i6).2.2/\(GV.y i8.1).1=(GV.y i6).1/\(GV.y i8.1).2.1=(GV.y i6).2.1/\(GV.y i8.1).2.2=(GV.y i6).2.2/\GV.b i8.1=GV.b i6/\i8.2=true/\zco3 x0 x3 i8/\(∀(i9:Pub),(zco4 x5 x7 x3 x4 x8 x6 x2 x1 x9 x10 i9)/\GV.ok i6 i9->GV.ok i8.1 i9)/\True)
 abbrev zco0:=(0<=x0/\x0<(↑x1:Int))/\x2≠noA/\∃(i0:Int),(∀(i1:Pub),zco5 x1 x2 x3 x4 x5 x6 i1->q02 i1 (adr x2 (Int.toNat x0*1)) [Value.int IntKind.i64 i0])/\(decide (i0<0)=true->∃(i2:GV×Bool),zco2 x0 x3 i2 ((∀(i3:Pub),zco5 x1 x2 x3 x4 x5 x6 i3->GV.ok i2.1 i3)/\True))/\(decide (i0<0)=false->∃(i4:WtS),i4.2.1.1=x4.1/\i4.2.1.2.1=x4.2.1/\i4.2.1.2.2=x4.2.2/\i4.2.2.1.1=x2/\i4.2.2.1.2.1=x1/\i4.2.2.1.2.2=x5/\(q0j i4.1/\rkOK (List.length i4.1) i4.2.2.2)/\(∀(i5:Pub),zco5 x1 x2 x3 x4 x5 x6 i5->q0l i4.1 i4.2.1 i5/\slP inV i4.2.2.1 i4.2.2.2 i5)/\∀(i6:Unit),True->∀(i7:Option Addr) (i8 i9:Nat),(∃(i10:Pub),zco4 x1 x2 x3 x4 x5 x6 i7 i8 i9 i4 i10)->zco1 x0 i8 i7 x3 x4 x1 x6 x2 x5 i9 i4)
end
theorem qnh(S:List AT) (x:SV) (t:Int):q68 P (q0r [(56,qe0),(30,cIsT),(57,qd7)]) (q1s [(58,q5y)]) Try.f35 qhf (λ_=>{}) ⟨S,x,t⟩=(q0j S->(∃(p:Pub),True/\q0l S x p)->∃(s:List AT×Option Addr×Nat×Nat),s.2.1=x.1/\s.2.2.1=x.2.1/\s.2.2.2=x.2.2/\q0j s.1/\(∀(p:Pub),True/\q0l S x p->q0l s.1 s.2 p)/\∀(b:Unit),True->∀(a:Option Addr) (n c:Nat),(∃(p:Pub),zco5 n a S x c s p)->∃(s_1:(Option Addr×Nat×Nat)×Int),s_1.1.1=x.1/\s_1.1.2.1=x.2.1/\s_1.1.2.2=x.2.2/\s_1.2=t/\True/\((zco6 s_1)=true->∃(b:GV×Bool),zco2 t S b ((∀(p:Pub),zco5 n a S x c s p->GV.ok b.1 p)/\True))/\((zco6 s_1)=false->zco0 t n a S x c s)):=by kernel_rfl
def qw4(S:List AT) (x:SV) (t:Int):=Eq.trans (qnh S x t) (by delta zco5 zco6 zco3 zco2 zco4 zco1 zco0;exact rfl)
theorem q3n{y:SV} {R:List Int} {p:Pub} (h:slP inV y R p) {k:Nat} (hk:k<R.length):y.1≠noA/\q02 p (adr y.1 (k*1)) [.int .i64 (rAt R (k:Int))]:=by
 rw[q2i hk];exact q1m q3r (by decide) h hk
theorem q1n{S:List AT} {i:Nat} (hi:i<S.length):atS S (i:Int)=S[i]:=by unfold atS;rw[Int.toNat_natCast,List.getElem?_eq_getElem hi];rfl
theorem qku{a:AT} {p:Pub} (h:a.ok p) {j:Nat} (hj:j<a.fs.length):q02 p ((adr a.f.1 (j*9)).add 2) [.int .i64 a.fs[j].ty]:=λi v hi=>by
 cases i with
 |zero=>have:=(q5n h hj).2 2 v hi;rw[Addr.add_add];exact this
 |succ i=>simp at hi
theorem qrb{R B:List Int} {j:Nat} (hj:j<B.length) (m:Int):qfv R (B.drop j) m=qfv R (B.drop (j+1)) (if 0<=rAt R B[j]/\(m<0\/rAt R B[j]<m)then rAt R B[j]else m):=by rw[List.drop_eq_getElem_cons hj,qfv]
theorem qs8{R:List Int} {B:List AF} {j:Nat} (hj:j<B.length) (m:Int):qeh R (B.drop j) m=if rAt R B[j].ty<0 then -1 else qeh R (B.drop (j+1)) (if m<rAt R B[j].ty then rAt R B[j].ty else m):=by rw[List.drop_eq_getElem_cons hj,qeh]
theorem qow:q15 P 90 qio:=by
 refine q0h mixed (q05 q06) (W:=qqq) Try.func90 (by kernel_rfl) (by decide) (by decide) (λs=>by kernel_rfl) λ⟨S,(x:SV),(t:Int),(y:SV),R⟩=>(qv6 S x t y R).mpr ?_
 rintro⟨hS,⟨hRl,hR⟩,ht0,ht1⟩ ⟨p,_,hx,hy⟩
 obtain⟨i,rfl⟩:=Int.eq_ofNat_of_zero_le ht0
 have hi:i<S.length:=by omega
 have sl:x.2.1=S.length:=hx.1.1
 have yl:y.2.1=R.length:=hy.1
 have hat:=λq (hq:q0l S x q/\slP inV y R q)=>q5r hq.1 hi
 have hao:=λq (hq:q0l S x q/\slP inV y R q)=>hq.1.2 S[i] (List.getElem_mem hi)
 have hgd:=hS.2 S[i] (List.getElem_mem hi)
 simp only[decide_eq_true_eq,decide_eq_false_iff_not,Bool.not_eq_true',Bool.not_eq_false',true_and,and_true,eq_self,imp_self,implies_true,exists_const,forall_const,Int.toNat_natCast,sl,yl,q1n hi]
 have hpp:q0l S x p/\slP inV y R p:=⟨hx,hy⟩
 have h60:=hS.1
 obtain⟨_,_,fl,bl⟩:=q2r (hao p hpp)
 have hb30:=hgd.2.2.2.2.2.2.2.2.1
 have hf30:=hgd.2.2.2.2.2.2.2.1
 have hbr:=hgd.2.2.1
 have hfr:=λf (hf:f∈S[i].fs)=>(hgd.2.2.2.2.1 f hf).1
 clear hgd
 refine⟨⟨by omega,by omega⟩,(hat p hpp).1,S[i].k,S[i].nm,S[i].al.1,S[i].al.2.1,S[i].al.2.2,S[i].it,S[i].sy.1,S[i].sy.2.1,S[i].sy.2.2,S[i].hd,S[i].df,S[i].sz,S[i].f.1,S[i].f.2.1,S[i].f.2.2,S[i].br.1,S[i].br.2.1,S[i].br.2.2,λq hq=>(hat q hq).2,λhk=>⟨⟨⟨0, -1⟩,rfl,rfl,Nat.zero_le _,⟨by decide,by decide⟩,rfl⟩,?_⟩,λhk=>⟨⟨⟨0,0⟩,rfl,rfl,Nat.zero_le _,⟨by decide,by decide⟩,rfl⟩,?_⟩⟩
 ·rintro⟨j,m⟩ ⟨hj,⟨hm1,hm2⟩,hb⟩
  simp only at hj hm1 hm2 hb⊢
  refine⟨λhlt=> ?_,λhge=> ?_⟩
  ·have hjl:j<S[i].brs.length:=by omega
   have hd:=qrb (R:=R) hjl m
   have bin:=hbr _ (List.getElem_mem hjl)
   have bat:=λq hq=>q4b (hao q hq) hjl
   rw[hb]at hd
   generalize S[i].brs[j]=b at*
   obtain⟨k,hk2,rfl⟩:=q22 bin
   have hkR:k<R.length:=by omega
   obtain⟨r1,r2⟩:=hR k bin
   refine⟨⟨by omega,by omega⟩,(bat p hpp).1,(k:Int),λq hq=>(bat q hq).2,⟨by omega,by omega⟩,(q3n hy hkR).1,rAt R k,λq hq=>(by rw[Int.toNat_natCast];exact(q3n hq.2 hkR).2),λh0=>⟨λh1=>⟨⟨by omega,by omega⟩,⟨j+1,rAt R k⟩,by show((j+1:Nat):Int)=_;omega,rfl,⟨by show j+1<=_;omega,⟨r1,r2⟩,?_⟩,by show _- (j+1)<_;omega⟩,λh1=>⟨λh2=>⟨⟨by omega,by omega⟩,⟨j+1,rAt R k⟩,by show((j+1:Nat):Int)=_;omega,rfl,⟨by show j+1<=_;omega,⟨r1,r2⟩,?_⟩,by show _- (j+1)<_;omega⟩,λh2=>⟨⟨by omega,by omega⟩,⟨j+1,m⟩,by show((j+1:Nat):Int)=_;omega,rfl,⟨by show j+1<=_;omega,⟨hm1,hm2⟩,?_⟩,by show _- (j+1)<_;omega⟩⟩⟩,λh0=>⟨⟨by omega,by omega⟩,⟨j+1,m⟩,by show((j+1:Nat):Int)=_;omega,rfl,⟨by show j+1<=_;omega,⟨hm1,hm2⟩,?_⟩,by show _- (j+1)<_;omega⟩⟩
   ·rw[if_pos ⟨h0, .inl h1⟩]at hd;exact hd.symm
   ·rw[if_pos ⟨h0, .inr h2⟩]at hd;exact hd.symm
   ·rw[if_neg (by omega)]at hd;exact hd.symm
   ·rw[if_neg (by omega)]at hd;exact hd.symm
  ·rw[List.drop_of_length_le (by omega),qfv]at hb
   unfold rkd
   rw[if_pos hk,←hb]
   exact⟨λh=>by rw[if_pos h],λh=>⟨⟨by omega,by omega⟩,by rw[if_neg h]⟩⟩
 ·rintro⟨j,m⟩ ⟨hj,⟨hm1,hm2⟩,hb⟩
  simp only at hj hm1 hm2 hb⊢
  have er:rkd R S[i]=qeh R S[i].fs 0:=by unfold rkd;rw[if_neg hk]
  rw[er,←hb]
  refine⟨λhlt=> ?_,λhge=> ?_⟩
  ·have hjl:j<S[i].fs.length:=by omega
   have hd:=qs8 (R:=R) hjl m
   have bin:=hfr _ (List.getElem_mem hjl)
   have bat:=λq hq=>qku (hao q hq) hjl
   have bne:=(q5n (hao p hpp) hjl).1
   rw[hd]
   generalize S[i].fs[j]=f at*
   obtain⟨k,hk2,e⟩:=q22 bin
   rw[e]at hd bin⊢
   have hkR:k<R.length:=by omega
   obtain⟨r1,r2⟩:=hR k bin
   refine⟨⟨by omega,by omega⟩,bne,(k:Int),λq hq=>(by have:=bat q hq;rw[e]at this;exact this),⟨by omega,by omega⟩,(q3n hy hkR).1,rAt R k,λq hq=>(by rw[Int.toNat_natCast];exact(q3n hq.2 hkR).2),λh0=>by rw[if_pos h0],λh0=>⟨⟨by omega,by omega⟩,⟨j+1,if m<rAt R k then rAt R k else m⟩,rfl,by show((j+1:Nat):Int)=_;omega,⟨by show j+1<=_;omega,⟨?_,?_⟩,?_⟩,by show _- (j+1)<_;omega⟩⟩
   ·show 0<=if m<rAt R k then rAt R k else m
    split<;>omega
   ·show(if m<rAt R k then rAt R k else m)<=100
    split<;>omega
   ·rw[if_neg h0]
  ·rw[List.drop_of_length_le (by omega),qeh]
   exact⟨⟨by omega,by omega⟩,rfl⟩
theorem qe5{A B:List Int} (h:A.length=B.length) (i:Nat):(q8h A B i).length=B.length:=by unfold q8h;simp;omega
theorem set_app{α:Type} (X:List α) (b v:α) (Y:List α):(X++b::Y).set X.length v=X++v::Y:=by
 induction X with
 |nil=>rfl
 |cons a X ih=>simp
theorem mix_set{A B:List Int} (h:A.length=B.length) {i:Nat} (hi:i<B.length):(q8h A B i).set i (rAt A i)=q8h A B (i+1):=by
 unfold q8h
 have hA:i<A.length:=by omega
 have e:(A.take i).length=i:=by simp;omega
 have:=set_app (A.take i) B[i] A[i] (B.drop (i+1))
 rw[e]at this
 rw[q2i hA,List.drop_eq_getElem_cons hi,this,List.take_succ_eq_append_getElem hA,List.append_assoc]
 rfl
theorem qyu{A B:List Int} (h:A.length=B.length) {i:Nat} (hi:i<B.length) (e:rAt A i=rAt B i):q8h A B i=q8h A B (i+1):=by
 unfold q8h
 have hA:i<A.length:=by omega
 rw[q2i hA,q2i hi]at e
 rw[List.drop_eq_getElem_cons hi,←e,List.take_succ_eq_append_getElem hA,List.append_assoc]
 rfl
theorem qkp(A B:List Int):q8h A B 0=B:=by unfold q8h;simp
theorem qvx{A B:List Int} (h:A.length=B.length) {i:Nat} (hi:B.length<=i):q8h A B i=A:=by
 unfold q8h
 rw[List.take_of_length_le (by omega),List.drop_of_length_le (by omega),List.append_nil]
theorem q1w(W:List Int) (i:Nat) (hi:i<W.length) (v:Int):q00 inV (W.set i v)=spl (q00 inV W) (0+i*1) [.int .i64 v]:=q6v q3r W i hi v
theorem qcu{A B:List Int} (h:A.length=B.length) {i:Nat} (hi:i<B.length) {v:Int} (e:rAt A i=v):q00 inV (q8h A B (i+1))=spl (q00 inV (q8h A B i)) (0+i*1) [.int .i64 v]:=by
 rw[←mix_set h hi,e];exact q1w _ _ (by rw[qe5 h];exact hi) _
theorem qi9:∀n:Nat,q63 [.int .i64 0] n=q00 inV (List.replicate n 0)
 |0=>rfl
 |n+1=>by rw[q63,qi9 n];rfl
theorem qu3{S:List AT} {R:List Int} {K:Int} (h:RKI S R K) (hK:K<=100):rkOK S.length R:=⟨h.1,λt ht=>by
 obtain⟨j,hj,rfl⟩:=q22 ht
 have:=(h.2 j hj).1
 omega⟩
theorem qqo:q15 P 56 qe0:=by
 refine q0h mixed (q05 (q01 qow q06)) (W:=quk) Try.func56 (by kernel_rfl) (by decide) (by decide) (λs=>by kernel_rfl) λ⟨S,(x:SV)⟩=>(qp4 S x).mpr ?_
 rintro hS ⟨p,_,hx⟩
 have sl:x.2.1=S.length:=hx.1.1
 have h60:=hS.1
 simp only[decide_eq_true_eq,decide_eq_false_iff_not,Bool.not_eq_true',Bool.not_eq_false',true_and,and_true,eq_self,imp_self,implies_true,exists_const,forall_const,Int.toNat_natCast,sl]
 have ml:(S.map ini).length=(List.replicate S.length (0:Int)).length:=by simp
 refine⟨⟨by omega,by omega,by omega,by omega⟩,⟨0,rfl,by rw[qkp];exact(qi9 _).symm,Nat.zero_le _⟩,?_⟩
 intro i hi
 refine⟨λhlt=> ?_,λhge=> ?_⟩
 ·have hil:i<S.length:=by omega
  have hat:=λq (hq:q0l S x q)=>q5r hq hil
  have c0:∀q,q0l S x q->q02 q ((adr x.1 (i*10)).add 0) [.int .i64 S[i].k]:=λq hq j v hj=>by
   cases j with
   |zero=>have:=(hat q hq).2 0 v hj;rw[Addr.add_add];exact this
   |succ j=>simp at hj
  have ei:rAt (S.map ini) i=ini S[i]:=by rw[q2i (by simpa using hil)];simp
  have hrl:(q00 inV (q8h (S.map ini) (List.replicate S.length 0) i)).length=S.length*1:=by rw[q03 q3r,qe5 ml];simp
  have two:spl (spl (q00 inV (q8h (S.map ini) (List.replicate S.length 0) i)) (0+i*1) [.int .i64 (-1)]) (0+i*1) [.int .i64 0]=spl (q00 inV (q8h (S.map ini) (List.replicate S.length 0) i)) (0+i*1) [.int .i64 0]:=by
   have hm:i<(q8h (S.map ini) (List.replicate S.length 0) i).length:=by rw[qe5 ml];simpa using hil
   rw[←q1w _ _ hm,←q1w _ _ (by rw[List.length_set];exact hm),←q1w _ _ hm,List.set_set]
  simp only[hrl,two,qa5,List.length_singleton]
  refine⟨⟨by omega,by omega⟩,by omega,⟨by omega,by omega⟩,(hat p hx).1,S[i].k,c0,λh9=>⟨⟨by omega,by omega⟩,(hat p hx).1,S[i].k,c0,λh14=>⟨⟨by omega,by omega⟩,by omega,⟨by omega,by omega⟩,i+1,by omega,qcu ml (by simpa using hil) ?_,by omega,by omega⟩,λh14=>⟨⟨by omega,by omega⟩,i+1,by omega,qcu ml (by simpa using hil) ?_,by omega,by omega⟩⟩,λh9=>⟨⟨by omega,by omega⟩,i+1,by omega,qcu ml (by simpa using hil) ?_,by omega,by omega⟩⟩
  ·rw[ei];unfold ini;rw[if_neg (by omega)]
  ·rw[ei];unfold ini;rw[if_pos (by omega)]
  ·rw[ei];unfold ini;rw[if_pos (by omega)]
 ·have ex:q8h (S.map ini) (List.replicate S.length 0) i=rkN S 0:=by rw[qvx ml (by simp;omega)];rfl
  have tk:∀k,List.take (S.length*1) (q00 inV (rkN S k))=q00 inV (rkN S k):=λk=>List.take_of_length_le (by rw[q03 q3r,q4s];exact Nat.le_refl _)
  rw[ex,tk]
  rintro b s u _
  refine⟨⟨⟨0,(some ⟨b,s,none⟩,S.length,u / 1)⟩,rfl,rfl,rfl,rfl,λq hq=>⟨(q4s S 0).symm,hq.2.1,hq.2.2⟩,Nat.zero_le _⟩,?_⟩
  rintro⟨j,y⟩ hj ⟨p1,hp1,hy1⟩
  simp only at hj hy1⊢
  have yl:y.2.1=S.length:=hy1.1.trans (q4s S j)
  have lj:=q4s S j
  have ls:=qcy S _ lj
  have lm:(rkS S (rkN S j)).length=(rkN S j).length:=by omega
  simp only[yl]
  refine⟨λhle=>⟨q00 inV (rkN S j),by rw[q03 q3r,q4s],λq hq=>hq.2.2.2,q2t (λx v hv=>by simp[inV]at hv;subst hv;rfl) _,by omega,⟨0,rfl,by rw[qkp];rfl,Nat.zero_le _⟩,?_⟩,λhgt=> ?_⟩
  ·intro i hi
   refine⟨λhlt=> ?_,λhge=> ?_⟩
   ·have hil:i<S.length:=by omega
    have ra:=qoz lj hil
    have hrl:(q00 inV (q8h (rkS S (rkN S j)) (rkN S j) i)).length=S.length*1:=by rw[q03 q3r,qe5 lm,lj]
    simp only[hrl,List.length_singleton]
    refine⟨⟨by omega,by omega⟩,(q3n hy1 (show i<(rkN S j).length by omega)).1,rAt (rkN S j) i,λq hq=>(q3n hq.2 (show i<(rkN S j).length by omega)).2,λh0=>⟨⟨by omega,by omega⟩,i+1,by omega,?_,by omega,by omega⟩,λh0=>⟨⟨S,x,(i:Int),y,rkN S j⟩,rfl,sl,rfl,rfl,rfl,yl,rfl,⟨hS,qu3 (RKI_N hS j) (by omega),by show 0<=(i:Int);omega,by show(i:Int)<_;omega⟩,λq hq=>⟨hq.1.1,hq.2⟩,⟨by omega,by omega⟩,by omega,⟨by omega,by omega⟩,i+1,by omega,qcu lm (by omega) ?_,by omega,by omega⟩⟩
    ·rw[if_pos h0]at ra
     rw[qyu lm (by omega) ra]
    ·rw[if_neg h0]at ra
     rw[ra]
     show rkd _ _=rkd _ (atS S (i:Int))
     rw[q1n hil]
   ·have e2:q8h (rkS S (rkN S j)) (rkN S j) i=rkN S (j+1):=by rw[qvx lm (by omega)];rfl
    have e3:(0+S.length)*1=S.length*1:=by omega
    rw[e2,e3,tk]
    rintro a c _
    exact⟨⟨by omega,by omega⟩,⟨j+1,(a,0+S.length,c)⟩,rfl,rfl,rfl,by show((j+1:Nat):Int)=_;omega,λq hq=>hq.1.1,λq hq=>⟨by show 0+S.length=(rkN S (j+1)).length;rw[q4s,Nat.zero_add],hq.2.1,hq.2.2⟩,by show j+1<=_;omega,by show _- (j+1)<_;omega⟩
  ·obtain rfl:j=S.length+1:=by omega
   refine⟨trivial,λq hq=> ?_⟩
   have:=hq.2
   unfold q0a
   exact⟨by show S.length=_;rw[q4s],by have h:=this.2;rw[yl]at h;exact h⟩
theorem q79{B:List Int} {i:Nat} (h:i<B.length):B.getD i 0=B[i]:=by rw[List.getD_eq_getElem?_getD,List.getElem?_eq_getElem h];rfl
theorem qfc:q15 P 91 q9a:=by
 refine q0h mixed (q05 q06) (W:=qqm) Try.func91 (by kernel_rfl) (by decide) (by decide) (λs=>by kernel_rfl) λ⟨a,(y:SV),R⟩=>(qsu a y R).mpr ?_
 rintro⟨hRl,hb30,hbr⟩ ⟨p,_,ha,hy⟩
 obtain⟨_,_,_,bl⟩:=q2r ha
 have yl:y.2.1=R.length:=hy.1
 simp only[decide_eq_true_eq,decide_eq_false_iff_not,Bool.not_eq_true',Bool.not_eq_false',true_and,and_true,eq_self,imp_self,implies_true,exists_const,forall_const,Int.toNat_natCast,yl,bl]
 refine⟨⟨⟨0,0⟩,rfl,rfl,Nat.zero_le _,Nat.le_refl _,λ_=>rfl,rfl⟩,?_⟩
 rintro⟨i,m⟩ ⟨hi,hmi,hm0,hc⟩
 simp only at hi hmi hm0 hc⊢
 refine⟨λhlt=>⟨?_,?_⟩,λhge=> ?_⟩
 ·have hil:i<a.brs.length:=by omega
  have hml:m<a.brs.length:=by omega
  have gi:=q79 hil
  have gm:=q79 hml
  have hap:a.ok p/\slP inV y R p:=⟨ha,hy⟩
  have ci:=λq (hq:a.ok q/\slP inV y R q)=>q4b hq.1 hil
  have cm:=λq (hq:a.ok q/\slP inV y R q)=>q4b hq.1 hml
  obtain⟨j,hj,ej⟩:=q22 (hbr _ (List.getElem_mem hil))
  obtain⟨k,hk,ek⟩:=q22 (hbr _ (List.getElem_mem hml))
  rw[ej]at gi ci
  rw[ek]at gm cm
  unfold chB
  rw[gi,gm]
  have rj:=λq (hq:a.ok q/\slP inV y R q)=>q3n hq.2 hj
  have rk:=λq (hq:a.ok q/\slP inV y R q)=>q3n hq.2 hk
  refine⟨⟨by omega,by omega⟩,(ci p hap).1,(j:Int),λq hq=>(ci q hq).2,⟨by omega,by omega⟩,(rj p hap).1,rAt R j,λq hq=>(rj q hq).2,λh0=>⟨⟨by omega,by omega⟩,(cm p hap).1,(k:Int),λq hq=>(cm q hq).2,⟨by omega,by omega⟩,(rk p hap).1,rAt R k,λq hq=>(rk q hq).2,?_⟩,?_⟩
  ·refine⟨λh1=>⟨λ_=>⟨λ_=>decide_eq_true ⟨h0, .inl h1⟩,λh=>absurd h0 h⟩,λh=>absurd h1 h⟩,λh1=>⟨⟨by omega,by omega⟩,(ci p hap).1,(j:Int),λq hq=>(ci q hq).2,⟨by omega,by omega⟩,(rj p hap).1,rAt R j,λq hq=>(rj q hq).2,⟨by omega,by omega⟩,(cm p hap).1,(k:Int),λq hq=>(cm q hq).2,⟨by omega,by omega⟩,(rk p hap).1,rAt R k,λq hq=>(rk q hq).2,λh=>absurd h h1,λ_=>⟨λ_=> ?_,λh=>absurd h0 h⟩⟩⟩
   exact q11 ⟨λh=>h.2.resolve_left h1,λh=>⟨h0, .inr h⟩⟩
  ·exactλh=>⟨λg=>absurd g h,λ_=>decide_eq_false λg=>h g.1⟩
 ·have e:a.brs.length- i=(a.brs.length- (i+1))+1:=by omega
  rw[e,chG]at hc
  refine⟨λh=>⟨⟨by omega,by omega⟩,⟨i+1,i⟩,rfl,by show((i+1:Nat):Int)=_;omega,⟨by show i+1<=_;omega,by show i<=i+1;omega,λh=>(by have h:i=i+1:=h;omega),?_⟩,by show _- (i+1)<_;omega⟩,λh=>⟨⟨by omega,by omega⟩,⟨i+1,m⟩,rfl,by show((i+1:Nat):Int)=_;omega,⟨by show i+1<=_;omega,by show m<=i+1;omega,λh=>(by have h:m=i+1:=h;omega),?_⟩,by show _- (i+1)<_;omega⟩⟩
  ·unfold chB at h
   rw[if_pos (of_decide_eq_true h)]at hc;exact hc
  ·unfold chB at h
   rw[if_neg (of_decide_eq_false h)]at hc;exact hc
 ·rw[show a.brs.length- i=0 by omega,chG]at hc
  rw[hc]
theorem qsg{S:List AT} {R:List Int} {k:Nat} (hk:k<=S.length) (W:List Int):qef S R (k:Int) 0 W=wall S R (S.length+1- k) k W:=by
 unfold qef
 rw[show S.length+1- k=(S.length- k)+1 by omega,wall,Int.toNat_natCast,Nat.sub_zero]
theorem qqe{S:List AT} {R:List Int} {k:Int} {i:Nat} (hi:i<S.length) (h:¬rAt R i=k) (W:List Int):qef S R k i W=qef S R k (i+1) W:=by
 unfold qef
 rw[show S.length- i=(S.length- (i+1))+1 by omega,qzo,if_neg h]
theorem qp0{S:List AT} {R:List Int} {k:Int} {i:Nat} (hi:i<S.length) (h:rAt R i=k) (W:List Int):qef S R k i W=qef S R k (i+1) (wfs (wU R W i S[i]) i S[i].fs):=by
 unfold qef
 have e:S.getD i zA=S[i]:=by rw[List.getD_eq_getElem?_getD,List.getElem?_eq_getElem hi];rfl
 rw[show S.length- i=(S.length- (i+1))+1 by omega,qzo,if_pos h,e,w1]
theorem wRes_end{S:List AT} {R:List Int} {k:Nat} {i:Nat} (hi:S.length<=i) (W:List Int):qef S R (k:Int) i W=wall S R (S.length+1- (k+1)) ((k+1:Nat):Int) W:=by
 unfold qef
 rw[show S.length- i=0 by omega,qzo,Int.toNat_natCast,show S.length+1- (k+1)=S.length- k by omega]
 rfl
theorem q55{W:List Int} {k:Nat} (hk:k<W.length):∀(j:Nat) v,[Value.int .i64 (rAt W k)][j]? =some v->(q00 inV W)[0+k*1+j]? =some v:=λj v h=>by
  cases j with
  |succ j=>simp at h
  | zero=>
    have e:q00 inV W=W.map (Value.int .i64):=by
      clear hk h
      induction W with
      |nil=>rfl
      |cons a W ih=>show [Value.int .i64 a]++q00 inV W=_;rw[ih];rfl
    rw[e,Nat.zero_add,Nat.mul_one,Nat.add_zero,List.getElem?_map,List.getElem?_eq_getElem hk,←h,q2i hk]
    rfl
theorem qnl:q15 P 57 qd7:=by
 refine q0h mixed (q05 (q01 qfc q06)) (W:=ql8) Try.func57 (by kernel_rfl) (by decide) (by decide) (λs=>by kernel_rfl) λ⟨S,(x:SV),(y:SV),R⟩=>(qnn S x y R).mpr ?_
 rintro⟨hS,hRl,hR⟩ ⟨p,_,hx,hy⟩
 have sl:x.2.1=S.length:=hx.1.1
 have yl:y.2.1=S.length:=hy.1.trans hRl
 have h60:=hS.1
 have hpp:q0l S x p/\slP inV y R p:=⟨hx,hy⟩
 simp only[decide_eq_true_eq,decide_eq_false_iff_not,Bool.not_eq_true',Bool.not_eq_false',true_and,and_true,eq_self,imp_self,implies_true,exists_const,forall_const,Int.toNat_natCast,sl,yl]
 have WB0:WB S.length (List.replicate S.length 0):=⟨by simp,λi hi=>by rw[q2i (by simpa using hi)];simp⟩
 refine⟨⟨by omega,by omega,by omega,by omega⟩,⟨⟨0,List.replicate S.length 0⟩,rfl,(qi9 _).symm,Nat.zero_le _,WB0,rfl⟩,?_⟩
 rintro⟨k,W⟩ ⟨hk,hW,hw⟩
 simp only at hk hW hw⊢
 refine⟨λhle=> ?_,λhgt=> ?_⟩
 ·refine⟨⟨⟨0,W⟩,rfl,rfl,Nat.zero_le _,hW,by show qef S R (k:Int) 0 W=_;rw[qsg (by omega)];exact hw⟩,?_⟩
  rintro⟨i,V⟩ ⟨hi,hV,hv⟩
  simp only at hi hV hv⊢
  refine⟨λhlt=> ?_,λhge=>⟨⟨by omega,by omega⟩,⟨k+1,V⟩,by show((k+1:Nat):Int)=_;omega,rfl,⟨by show k+1<=_;omega,hV,by show wall S R _ _ V=_;rw[←wRes_end (i:=i) (by omega)];exact hv⟩,by show _- (k+1)<_;omega⟩⟩
  have hil:i<S.length:=by omega
  have hat:=λq (hq:q0l S x q/\slP inV y R q)=>q5r hq.1 hil
  have hao:=λq (hq:q0l S x q/\slP inV y R q)=>hq.1.2 S[i] (List.getElem_mem hil)
  have hgd:=hS.2 S[i] (List.getElem_mem hil)
  have ri:=λq (hq:q0l S x q/\slP inV y R q)=>q3n hq.2 (show i<R.length by omega)
  obtain⟨_,_,fl,bl⟩:=q2r (hao p hpp)
  have hbr:=hgd.2.2.1
  have hne:=hgd.2.2.2.1
  have hfr:=λf (hf:f∈S[i].fs)=>(hgd.2.2.2.2.1 f hf).1
  have hb30:=hgd.2.2.2.2.2.2.2.2.1
  have hf30:=hgd.2.2.2.2.2.2.2.1
  clear hgd
  have hVl:V.length=S.length:=hV.1
  have hrw:=q03 q3r V
  have sp1:spl (q00 inV V) (0+i*1) [.int .i64 1]=q00 inV (V.set i 1):=(q1w V i (by omega) 1).symm
  have hV1:=qbw hV hil (v:=1) (by omega)
  simp only[q1n hil,sp1,hrw,q03 q3r,List.length_set,List.length_singleton]
  refine⟨⟨by omega,by omega⟩,(ri p hpp).1,rAt R i,λq hq=>(ri q hq).2,λhnk=>⟨⟨by omega,by omega⟩,⟨i+1,V⟩,by show((i+1:Nat):Int)=_;omega,rfl,⟨by show i+1<=_;omega,hV,by show qef S R _ (i+1) V=_;rw[←qqe hil hnk];exact hv⟩,by show _- (i+1)<_;omega⟩,λhkk=>⟨⟨by omega,by omega⟩,by omega,⟨by omega,by omega⟩,(hat p hpp).1,S[i].k,S[i].nm,S[i].al.1,S[i].al.2.1,S[i].al.2.2,S[i].it,S[i].sy.1,S[i].sy.2.1,S[i].sy.2.2,S[i].hd,S[i].df,S[i].sz,S[i].f.1,S[i].f.2.1,S[i].f.2.2,S[i].br.1,S[i].br.2.1,S[i].br.2.2,λq hq=>(hat q hq).2,⟨λh14=> ?_,λh14=> ?_⟩,?_⟩⟩
  ·have hcl:chF R S[i].brs<S[i].brs.length:=qk8 (hne h14)
   have bat:=λq (hq:q0l S x q/\slP inV y R q)=>q4b (hao q hq) hcl
   have gd:=q79 hcl
   have bin:=hbr _ (List.getElem_mem hcl)
   have hdo:=qp0 hil hkk V
   have eU:wU R V i S[i]=(V.set i 1).set i (wMn (rAt (V.set i 1) i) (rAt (V.set i 1) (S[i].brs.getD (chF R S[i].brs) 0))):=by unfold wU;rw[if_pos h14]
   rw[gd]at eU
   generalize S[i].brs[chF R S[i].brs]=b at*
   obtain⟨t,ht,rfl⟩:=q22 bin
   have e1:rAt (V.set i 1) i=1:=by rw[q46 (by omega),if_pos rfl]
   have hl1:(V.set i 1).length=S.length:=hV1.1
   have g1:=q55 (W:=V.set i 1) (k:=i) (by omega)
   have g2:=q55 (W:=V.set i 1) (k:=t) (by omega)
   have rt:=hV1.2 t ht
   rw[e1]at g1 eU
   refine⟨⟨by omega,by omega⟩,1,g1,⟨S[i],y,R⟩,rfl,rfl,rfl,rfl,rfl,rfl,rfl,rfl,rfl,rfl,rfl,rfl,rfl,rfl,rfl,rfl,rfl,rfl,rfl,yl,rfl,⟨by show R.length<1000;omega,hb30,λb hb=>by have:=hbr b hb;show 0<=b/\b<(R.length:Int);omega⟩,λq hq=>⟨hao q hq,hq.2⟩,⟨by omega,by show((chF R S[i].brs:Nat):Int)<_;omega⟩,(bat p hpp).1,(t:Int),λq hq=>(bat q hq).2,⟨by omega,by omega⟩,rAt (V.set i 1) t,λj v h=>g2 j v h,⟨by omega,by omega⟩,⟨by omega,by omega⟩,by omega,1,g1,rfl,wU R V i S[i],?_,?_,?_⟩
   ·rw[eU];exact q1w _ _ (by omega) _
   ·rw[eU];exact qbw hV1 hil (qlg (by omega) rt.1)
   ·rw[←hdo];exact hv
  ·have hdo:=qp0 hil hkk V
   have eU:wU R V i S[i]=V.set i 1:=by unfold wU;rw[if_neg h14]
   refine⟨wU R V i S[i],by rw[eU],by rw[eU];exact hV1,by rw[←hdo];exact hv⟩
  ·rintro V2 ⟨hV2,hw2⟩
   refine⟨⟨⟨0,V2⟩,rfl,rfl,Nat.zero_le _,hV2,hw2⟩,?_⟩
   rintro⟨m,V3⟩ ⟨hm,hV3,hw3⟩
   simp only at hm hV3 hw3⊢
   refine⟨λhlt=> ?_,λhge=>⟨⟨by omega,by omega⟩,⟨i+1,V3⟩,by show((i+1:Nat):Int)=_;omega,rfl,⟨by show i+1<=_;omega,hV3,?_⟩,by show _- (i+1)<_;omega⟩⟩
   ·have hml:m<S[i].fs.length:=by omega
    have bat:=λq hq=>qku (hao q hq) hml
    have bne:=(q5n (hao p hpp) hml).1
    have bin:=hfr _ (List.getElem_mem hml)
    rw[List.drop_eq_getElem_cons hml,wfs]at hw3
    generalize S[i].fs[m]=f at*
    obtain⟨t,ht,e⟩:=q22 bin
    rw[e]at hw3
    have hl3:V3.length=S.length:=hV3.1
    have g1:=q55 (W:=V3) (k:=i) (by omega)
    have g2:=q55 (W:=V3) (k:=t) (by omega)
    have r1:=hV3.2 i hil
    have r2:=hV3.2 t ht
    refine⟨⟨by omega,by omega⟩,rAt V3 i,g1,⟨by omega,by omega⟩,bne,(t:Int),λq hq=>(by have:=bat q hq;rw[e]at this;exact this),⟨by omega,by omega⟩,rAt V3 t,λj v h=>g2 j v h,⟨by omega,by omega⟩,⟨by omega,by omega⟩,by omega,⟨by omega,by omega⟩,⟨m+1,V3.set i (wMn (rAt V3 i) (rAt V3 t))⟩,by show((m+1:Nat):Int)=_;omega,q1w _ _ (by omega) _,⟨by show m+1<=_;omega,qbw hV3 hil (qlg r1.1 r2.1),hw3⟩,by show _- (m+1)<_;omega⟩
   ·rw[List.drop_of_length_le (by omega),wfs]at hw3;exact hw3
 ·rw[show S.length+1- k=0 by omega,wall]at hw
  rintro b s u _
  have hl:W.length=S.length:=hW.1
  refine⟨trivial,λq hq=>⟨by show S.length=(wts S R).length;rw[←hw,hl],hq.2.1,?_⟩⟩
  have h2:=hq.2.2
  rw[List.take_of_length_le (by rw[q03 q3r,hl];exact Nat.le_refl _)]at h2
  rw[←hw];exact h2
theorem q5f(n:Int) (s:ByteArray) (l:List PV) (ks:List ByteArray) (b:Int):(PV.mk n s l ks b).wt=30+s.size+kzs ks+PV.wts l:=by rw[PV.wt]
theorem qw5{S:List AT} (hS:q0j S) {i:Nat} (hi:i<S.length) (h:lsB S i=true):1<=lsW S i:=by
 obtain⟨_,h1,h2⟩:=q30.1 h
 exact((qjs hS (qlj hS)).2 i hi h1).1
theorem qe4:zV.pv= .mk 0 (mkS []) [] [] 0:=by unfold zV;rw[GV.pv,GV.pvs]
theorem ms0:(mkS []).size=0:=rfl
theorem qlf{S:List AT} (hS:q0j S) {i:Nat} (hi:i<S.length) (h:lsB S i=true) (h9:S[i].k≠9) (h11:S[i].k≠11) (h14:S[i].k≠14):lsQ S i zV:=by
 have hp:=qw5 hS hi h
 have hg:=hS.2 S[i] (List.getElem_mem hi)
 have hk:=hg.1
 have hsy:=hg.2.2.2.2.2.1
 have e0:(mkS []).size=0:=rfl
 refine⟨?_,?_,?_,λ_=>rfl⟩
 ·rw [qe4]
  by_cases hN:isN S[i].k=true
  ·refine fits_N hi hN ?_
   unfold okN
   (repeat' split)<;>first|rfl| (exact decide_eq_true (by first|omega|rfl))|skip
   next h10=>
    have:=List.length_pos_iff.2 (hsy h10)
    exact decide_eq_true (by omega)
  ·by_cases hT:isT S[i].k=true
   ·refine quj hi hT ?_
    unfold okT
    split
    ·decide+kernel
    ·first|rfl|rw[if_neg h11]
   ·have hN':¬(S[i].k=1\/S[i].k=2\/S[i].k=3\/S[i].k=4\/S[i].k=5\/S[i].k=6\/S[i].k=10):=λh=>hN (by unfold isN;exact decide_eq_true h)
    have hT':¬(S[i].k=7\/S[i].k=8\/S[i].k=11):=λh=>hT (by unfold isT;exact decide_eq_true h)
    rcases(by omega:S[i].k=12\/S[i].k=13)with h|h
    ·exact qk1 hi h λv hv=>by cases hv
    ·exact qkq hi h rfl rfl λv hv=>by cases hv
 ·rw[qe4];exact q7k (by decide) (by rw[ms0];decide) (by decide) (by decide) (λk hk=>by cases hk) λv hv=>by cases hv
 ·rw[qe4,q5f,PV.wts,kzs,ms0];omega
theorem qu6(n:Nat):(zB n).size=n:=by unfold zB mkS;show(List.toArray _).size=n;simp
theorem lsQ_fix{S:List AT} (hS:q0j S) {i:Nat} (hi:i<S.length) (h:lsB S i=true) (h11:S[i].k=11):lsQ S i (.mk 0 (zB S[i].sz.toNat) (none,0,0) [] (none,0,0) [] 0):=by
 have hp:=qw5 hS hi h
 have hg:=(hS.2 S[i] (List.getElem_mem hi)).2.2.2.2.2.2.1 h11
 have ep:(GV.mk 0 (zB S[i].sz.toNat) (none,0,0) [] (none,0,0) [] 0).pv= .mk 0 (zB S[i].sz.toNat) [] [] 0:=by rw[GV.pv,GV.pvs]
 have hz:=qu6 S[i].sz.toNat
 refine⟨?_,?_,?_,λh=>by rw[q1n hi]at h;omega⟩
 ·rw[ep]
  refine quj hi (by unfold isT;exact decide_eq_true (by omega)) ?_
  unfold okT
  rw[if_neg (by omega),if_pos h11,hz];exact decide_eq_true (by omega)
 ·rw[ep];exact q7k (by decide) (by rw[hz];omega) (by decide) (by decide) (λk hk=>by cases hk) λv hv=>by cases hv
 ·rw[ep,q5f,PV.wts,kzs,hz];omega
theorem lsQ_rec{S:List AT} (hS:q0j S) {i:Nat} (hi:i<S.length) (h:lsB S i=true) (h9:S[i].k=9) {fs:List GV} {x:SV} (hI:lsI S i S[i].fs.length (GV.pvs fs)):lsQ S i (.mk 0 (mkS []) x fs (none,0,0) [] 0):=by
 obtain⟨l1,l2,l3,l4,l5⟩:=hI
 rw[q1n hi]at l2 l5
 simp only[q1n hi]at l3
 have hw:=(qhm hS hi h9 h).1
 have hg:=hS.2 S[i] (List.getElem_mem hi)
 have hf:=hg.2.2.2.2.2.2.2.1
 rw[List.take_length]at l5
 have ep:(GV.mk 0 (mkS []) x fs (none,0,0) [] 0).pv= .mk 0 (mkS []) (GV.pvs fs) [] 0:=by rw[GV.pv]
 refine⟨?_,?_,?_,λh=> ?_⟩
 ·rw[ep];exact qlc hi h9 l1 l3
 ·rw[ep];exact q7k (by decide) (by rw[ms0];decide) (by omega) (by decide) (λk hk=>by cases hk) l4
 ·rw[ep,q5f,kzs,ms0]
  show((30+0+0+PV.wts (GV.pvs fs):Nat):Int)<=5030*rAt (wts S (q0a S)) i
  omega
 ·rw[q1n hi]at h;omega
theorem lsQ_uni{S:List AT} (hS:q0j S) {i:Nat} (hi:i<S.length) (h:lsB S i=true) (h14:S[i].k=14) {w:GV} {x:SV} (hw:lsQ S (S[i].brs.getD (chF (q0a S) S[i].brs) 0) w):lsQ S i (.mk 0 (mkS []) x [w] (none,0,0) [] (chF (q0a S) S[i].brs:Nat)):=by
 have hne:=(hS.2 S[i] (List.getElem_mem hi)).2.2.2.1 h14
 have hc:=qk8 (R:=q0a S) hne
 have hu:=qvj hS hi h14 h
 have ep:(GV.mk 0 (mkS []) x [w] (none,0,0) [] (chF (q0a S) S[i].brs:Nat)).pv= .mk 0 (mkS []) [w.pv] [] (chF (q0a S) S[i].brs:Nat):=by rw[GV.pv,GV.pvs,GV.pvs]
 obtain⟨w1,w2,w3,w4⟩:=hw
 refine⟨?_,?_,?_,λh=> ?_⟩
 ·rw[ep];exact qjc hi h14 hc w1
 ·rw[ep];exact q7k (by decide) (by rw[ms0];decide) (by show 1<=_;decide) (by decide) (λk hk=>by cases hk) λv hv=>by simp at hv;subst hv;exact w2
 ·rw[ep,q5f,kzs,ms0,q7o]
  unfold lsW at w3⊢
  omega
 ·rw[q1n hi]at h;omega
theorem lsB_ch{S:List AT} (hS:q0j S) {i:Nat} (hi:i<S.length) (h:lsB S i=true) (h14:S[i].k=14):lsB S (S[i].brs.getD (chF (q0a S) S[i].brs) 0)=true/\rAt (q0a S) (S[i].brs.getD (chF (q0a S) S[i].brs) 0)<rAt (q0a S) i:=by
 obtain⟨_,h1,h2⟩:=q30.1 h
 obtain⟨c1,c2,c3⟩:=qd8 (qlj hS) hi h14 h1
 have hb:=(hS.2 S[i] (List.getElem_mem hi)).2.2.1 _ (q6t c1)
 have hu:=qvj hS hi h14 h
 exact⟨q30.2 ⟨hb,c2,by omega⟩,c3⟩
theorem q6e(l:List GV) (v:GV):GV.pvs (l++[v])=GV.pvs l++[v.pv]:=by rw[GV.pvs_map,GV.pvs_map];simp
theorem qy4{S:List AT} (hS:q0j S) {i:Nat} (hi:i<S.length) {j:Nat} {fs:List GV} (hj:j<S[i].fs.length) (hI:lsI S i j (GV.pvs fs)) {w:GV} (hw:lsQ S (S[i].fs[j]).ty w):lsI S i (j+1) (GV.pvs (fs++[w])):=by
 obtain⟨l1,l2,l3,l4,l5⟩:=hI
 obtain⟨w1,w2,w3,w4⟩:=hw
 rw[q6e]
 unfold lsI
 simp only[q1n hi]at l2 l3 l5⊢
 refine⟨by simp[l1],by omega,λk h1 h2=> ?_,λv hv=> ?_,?_⟩
 ·by_cases hk:k<(GV.pvs fs).length
  ·rw[List.getElem_append_left hk];exact l3 k hk h2
  ·obtain rfl:k=j:=by simp at h1;omega
   rw[List.getElem_append_right (by omega)]
   simp only[l1,Nat.sub_self,List.getElem_cons_zero];exact w1
 ·rcases List.mem_append.1 hv with hv|hv
  ·exact l4 v hv
  ·simp at hv;subst hv;exact w2
 ·have hs:∀(A B:List AF),q7v (wts S (q0a S)) (A++B)=q7v (wts S (q0a S)) A+q7v (wts S (q0a S)) B:=λA B=>by
   induction A with
   |nil=>rw[List.nil_append,q7v,Int.zero_add]
   |cons a A ih=>rw[List.cons_append,q7v,q7v,ih];omega
  rw[q4q,q7o,List.take_succ_eq_append_getElem hj,hs,q7v,q7v]
  unfold lsW at w3
  omega
theorem zrow_b:∀n:Nat,q63 [.int .u8 0] n=q1f (zB n)
  |0=>rfl
  | n+1=>by
    rw[q63,zrow_b n]
    unfold zB mkS q1f
    simp[List.replicate_succ]
theorem qyd(n:Nat) (hl:q0d P 58 (q5y.below muLs n)):q0d P 58 (q5y.below muLs (n+1)):=by
 refine q0v mixed (q05 (q01 qfc q06)) (q0g (q04 hl q0q)) (W:=qot) Try.func58 (by kernel_rfl) (show 1<=1 by decide) (show 1<=1 by decide) (λs=>by kernel_rfl) λ⟨S,(x:SV),(t:Int),(y:SV)⟩=>(qsd n S x t y).mpr ?_
 rintro⟨hmu,hS,hls⟩ ⟨p,_,hx,hy⟩
 have hmu:(rAt (q0a S) t).toNat<n+1:=hmu
 obtain⟨ht,hr0,hw⟩:=q30.1 hls
 obtain⟨i,hi,rfl⟩:=q22 ht
 have hR:=qlj hS
 have hpp:q0l S x p/\slP inV y (q0a S) p:=⟨hx,hy⟩
 have sl:x.2.1=S.length:=hx.1.1
 have hRl:=hR.1
 have yl:y.2.1=S.length:=hy.1.trans hRl
 have hat:=λq (hq:q0l S x q/\slP inV y (q0a S) q)=>q5r hq.1 hi
 have hao:=λq (hq:q0l S x q/\slP inV y (q0a S) q)=>hq.1.2 S[i] (List.getElem_mem hi)
 have hg:=hS.2 S[i] (List.getElem_mem hi)
 have h60:=hS.1
 obtain⟨_,_,fl,bl⟩:=q2r (hao p hpp)
 have hbr:=hg.2.2.1
 have hne:=hg.2.2.2.1
 have hfr:=λf (hf:f∈S[i].fs)=>(hg.2.2.2.2.1 f hf).1
 have hb30:=hg.2.2.2.2.2.2.2.2.1
 have hf30:=hg.2.2.2.2.2.2.2.1
 have hsz:=hg.2.2.2.2.2.2.1
 clear hg
 simp only[decide_eq_true_eq,decide_eq_false_iff_not,Bool.not_eq_true',Bool.not_eq_false',true_and,and_true,eq_self,imp_self,implies_true,exists_const,forall_const,Int.toNat_natCast,sl,yl,q1n hi]
 refine⟨⟨by omega,by omega⟩,(hat p hpp).1,S[i].k,S[i].nm,S[i].al.1,S[i].al.2.1,S[i].al.2.2,S[i].it,S[i].sy.1,S[i].sy.2.1,S[i].sy.2.2,S[i].hd,S[i].df,S[i].sz,S[i].f.1,S[i].f.2.1,S[i].f.2.2,S[i].br.1,S[i].br.2.1,S[i].br.2.2,λq hq=>(hat q hq).2,λh11=> ?_,λh11=>⟨λh9=> ?_,λh9=>⟨λh14=> ?_,λh14=> ?_⟩⟩⟩
 ·have hz:=hsz h11
  refine⟨⟨by omega,by omega,by omega,by omega⟩,zB S[i].sz.toNat,qu6 _,λj v hj=> ?_, .mk 0 (zB S[i].sz.toNat) (none,0,0) [] (none,0,0) [] 0,rfl,rfl,rfl,rfl,rfl,rfl,rfl,rfl,rfl,lsQ_fix hS hi hls h11,λq hq=> ?_⟩
  ·rw[zrow_b,Nat.zero_add];exact hj
  ·unfold GV.ok;exact⟨q0c,q0c,by unfold GV.oks;trivial⟩
 ·have hrec:=qhm hS hi h9 hls
  have hrk:=(hR.2 i hi).2.2.1 h9 hr0
  refine⟨⟨⟨0,[]⟩,rfl,rfl,λq hq=>GV.oks_iff.2 λv h=>(by cases h),?_⟩,?_⟩
  ·unfold lsI
   rw[GV.pvs]
   exact⟨rfl,Nat.zero_le _,λk h1 h2=>absurd h1 (by simp),λv hv=>(by cases hv),by rw[PV.wts,List.take_zero,q7v];decide⟩
  rintro⟨j,fs⟩ hI ⟨p1,hp1,hfs⟩
  have hI:lsI S i j (GV.pvs fs):=hI
  have l1:fs.length=j:=by rw[←GV.pvs_len];exact hI.1
  have l2:j<=S[i].fs.length:=by have:=hI.2.1;rw[q1n hi]at this;exact this
  simp only at hfs⊢
  refine⟨λhlt=>⟨?xa,?xb,?xc⟩,λhge=> ?_⟩
  case xa|xb|xc=>
   have hjl:j<S[i].fs.length:=by omega
   have bat:=λq hq=>qku (hao q hq) hjl
   have bne:=(q5n (hao p hpp) hjl).1
   have bin:=hfr _ (List.getElem_mem hjl)
   have blt:=hrk _ (List.getElem_mem hjl)
   have bls:=hrec.2 _ (List.getElem_mem hjl)
   have hsn:=λw hw=>qy4 hS hi hjl hI (w:=w) hw
   generalize S[i].fs[j]=f at*
   refine⟨⟨by omega,by omega⟩,bne,f.ty,λq hq=>bat q hq.1,⟨S,x,f.ty,y⟩,rfl,sl,rfl,rfl,rfl,yl,rfl,⟨by show(rAt (q0a S) f.ty).toNat<n;omega,hS,bls⟩,λq hq=>hq.1,?_⟩
   rintro w hw _
   exact⟨q03 q0y fs,by omega,⟨by omega,by omega⟩,⟨j+1,fs++[w]⟩,by show((j+1:Nat):Int)=_;omega,by simp,by rw[q0e];rfl,λq hq=>hq.1.1,λq hq=>q9y hq.1.2 (q52 hq.2),hsn w hw,by show _- (j+1)<_;omega⟩
  ·intro a c _
   have hj:j=S[i].fs.length:=by omega
   rw[hj]at hI
   refine⟨.mk 0 (mkS []) (a,fs.length,c) fs (none,0,0) [] 0,rfl,rfl,rfl,rfl,rfl,rfl,rfl,rfl,rfl,lsQ_rec hS hi hls h9 hI,λq hq=> ?_⟩
   have h2:=hq.2.2
   rw[List.take_of_length_le (by rw[q03 q0y];exact Nat.le_refl _)]at h2
   unfold GV.ok
   exact⟨⟨rfl,hq.2.1,h2⟩,q0c,hq.1.2⟩
 ·have hcl:=qk8 (R:=q0a S) (hne h14)
  obtain⟨c1,c2⟩:=lsB_ch hS hi hls h14
  have c3:=(q30.1 c1).2.1
  have hq0:=λw x hw=>lsQ_uni hS hi hls h14 (w:=w) (x:=x) hw
  have gd:=q79 hcl
  have bat:=λq (hq:q0l S x q/\slP inV y (q0a S) q)=>q4b (hao q hq) hcl
  rw[gd]at c1 c2 c3 hq0
  refine⟨⟨S[i],y,q0a S⟩,rfl,rfl,rfl,rfl,rfl,rfl,rfl,rfl,rfl,rfl,rfl,rfl,rfl,rfl,rfl,rfl,rfl,rfl,rfl,yl,rfl,⟨by show(q0a S).length<1000;omega,hb30,λb hb=>by have:=hbr b hb;show 0<=b/\b<((q0a S).length:Int);omega⟩,λq hq=>⟨hao q hq,hq.2⟩,⟨?xa,?xb⟩⟩
  case xa|xb=>
   refine⟨⟨by omega,by show((chF (q0a S) S[i].brs:Nat):Int)<_;omega⟩,(bat p hpp).1,S[i].brs[chF (q0a S) S[i].brs],λq hq=>(bat q hq).2,⟨S,x,S[i].brs[chF (q0a S) S[i].brs],y⟩,rfl,sl,rfl,rfl,rfl,yl,rfl,⟨by show(rAt (q0a S) _).toNat<n;omega,hS,c1⟩,λq hq=>hq,?_⟩
   rintro w hw _ b s _
   refine⟨.mk 0 (mkS []) (some ⟨b,s+0,none⟩,1,1) [w] (none,0,0) [] (chF (q0a S) S[i].brs:Nat),rfl,rfl,rfl,rfl,rfl,rfl,rfl,rfl,rfl,hq0 _ _ hw,λq hq=> ?_⟩
   unfold GV.ok
   exact⟨⟨rfl,Nat.le_refl _, .inr ⟨_,rfl,rfl,hq.2⟩⟩,q0c,q52 hq.1.2⟩
 ·exact⟨zV,rfl,rfl,rfl,rfl,rfl,rfl,rfl,rfl,rfl,qlf hS hi hls h9 h11 h14,λq hq=>q6d q⟩
theorem qf0:∀n,q0d P 58 (q5y.below muLs n)
 |0=>CtR.below_zero (by decide) (by decide) (Sen.enters_of Try.func58 (by kernel_rfl)) λs=>rfl
 |n+1=>qyd n (qf0 n)
theorem qtq:q0d P 58 q5y:=CtR.of_below qf0
theorem qg7:q0d P 35 qhf:=by
 refine q0v mixed (q05 (q01 qqo (q01 qgk (q01 qnl q06)))) (q0g (q04 qtq q0q)) (W:=λ_=>{}) Try.func35 (by kernel_rfl) (show 1<=1 by decide) (show 1<=1 by decide) (λs=>by kernel_rfl) λ⟨S,(x:SV),(t:Int)⟩=>(qw4 S x t).mpr ?_
 rintro hS ⟨p,_,hx⟩
 have sl:x.2.1=S.length:=hx.1.1
 have hR:=qlj hS
 have hRl:=hR.1
 have h60:=hS.1
 simp only[decide_eq_true_eq,decide_eq_false_iff_not,Bool.not_eq_true',Bool.not_eq_false',true_and,and_true,eq_self,imp_self,implies_true,exists_const,forall_const,Int.toNat_natCast,sl]
 have no:lsB S t=false->∀(Q:(Nat->Option Obj)->Prop),∃b:GV×Bool,b.1.n=0/\b.1.s=mkS []/\b.1.x.1=noA/\b.1.x.2.1=0/\b.1.x.2.2=0/\b.1.y.1=noA/\b.1.y.2.1=0/\b.1.y.2.2=0/\b.1.b=0/\b.2=false/\(b.2=lsB S t/\b.1.pv.sn/\b.1.pv.wt<=10060000/\(b.2=true->PV.fits S t b.1.pv=true)/\(b.2=false\/(atS S t).k=12\/(atS S t).k=13->b.1=zV))/\∀p,Q p->b.1.ok p:=λhf Q=>⟨⟨zV,false⟩,rfl,rfl,rfl,rfl,rfl,rfl,rfl,rfl,rfl,rfl,⟨hf.symm,by show zV.pv.sn;rw[qe4];exact q7k (by decide) (by rw[ms0];decide) (by decide) (by decide) (λk hk=>by cases hk) λv hv=>(by cases hv),by show zV.pv.wt<=_;rw[qe4,q5f,PV.wts,kzs,ms0];decide,λh=>(by cases h),λ_=>rfl⟩,λq _=>q6d q⟩
 refine⟨⟨S,x⟩,rfl,sl,rfl,hS,λq hq=>hq,?_⟩
 rintro a n c ⟨p1,hp1,hr1⟩
 have hn:n=S.length:=hr1.1.trans hRl
 refine⟨⟨x,t⟩,rfl,sl,rfl,rfl,λh=>no (by simp only[sl]at h;unfold lsB;rw[h];rfl) _,λh=> ?_⟩
 simp only[sl,Bool.and_eq_true,decide_eq_true_eq]at h
 obtain⟨i,hi,rfl⟩:=q22 h
 have hWB:=(qjs hS hR).1
 refine⟨⟨by omega,by omega⟩,(q3n hr1 (show i<(q0a S).length by omega)).1,rAt (q0a S) i,λq hq=>(q3n hq.2 (show i<(q0a S).length by omega)).2,λhneg=>no ?_ _,λhpos=>⟨⟨S,x,(a,n,c),q0a S⟩,rfl,sl,rfl,rfl,rfl,rfl,⟨hS,qu3 hR (by omega)⟩,λq hq=>⟨hq.1,hq.2⟩,?_⟩⟩
 ·cases hb:lsB S (i:Int)with
  |false=>rfl
  |true=>have:=(q30.1 hb).2.1;omega
 rintro a5 n2 c1 ⟨p2,_,hw2⟩
 have hn2:n2=S.length:=hw2.1.trans hWB.1
 have hwl:=hWB.1
 refine⟨⟨by omega,by omega⟩,(q3n hw2 (show i<(wts S (q0a S)).length by omega)).1,rAt (wts S (q0a S)) i,λq hq=>(q3n hq.2 (show i<(wts S (q0a S)).length by omega)).2,λhgt=>no ?_ _,λhle=> ?_⟩
 ·cases hb:lsB S (i:Int)with
  |false=>rfl
  |true=>have:=(q30.1 hb).2.2;omega
 have hls:lsB S (i:Int)=true:=q30.2 ⟨h,by omega,by omega⟩
 refine⟨⟨S,x,(i:Int),(a,n,c)⟩,rfl,sl,rfl,rfl,rfl,rfl,rfl,⟨hS,hls⟩,λq hq=>⟨hq.1.1,hq.1.2⟩,?_⟩
 rintro v hv _
 obtain⟨v1,v2,v3,v4⟩:=hv
 refine⟨⟨v,true⟩,rfl,rfl,rfl,rfl,rfl,rfl,rfl,rfl,rfl,rfl,⟨hls.symm,v2,?_,λ_=>v1,λh=>h.elim (λh=>(by cases h)) v4⟩,λq hq=>hq.2⟩
 have v3:(v.pv.wt:Int)<=5030*rAt (wts S (q0a S)) i:=v3
 show v.pv.wt<=10060000
 omega
theorem qpu:q0d P 35 qpg:=by
  obtain⟨a1,a2,a3,a4⟩:=qg7
  refine⟨a1,a2,a3,λs=> ?_⟩
  obtain⟨h0,e0,r⟩:=a4 s
  refine⟨h0,e0,λF I w vs b1 b2 b3 b4 hp b5 b6 b7=>(r F I w vs b1 b2 b3 b4 hp.1 b5 b6 b7).mono λe w' h=> ?_⟩
  obtain⟨⟨v,b⟩,h1,hpost,e1,z,I',he,hr,g,hm⟩:=h
  have hz:v=zV:=hpost.2.2.2.2 (.inr (.inl hp.2))
  subst hz
  refine⟨b,h1,hpost.1,e1,z,I',he,?_,g,hm⟩
  have hr:VR I' (.tup [zV.av, .sv (.bool b)]) z:=hr
  cases hr with
  | tup h=>cases h with
    | cons h1 h2=>cases h1 with
      | agg h=>
        have:=svs_of (l:=zV.cells) h
        subst this
        exact .tup (.cons (.agg (.cons (.int _ _) (.cons (.str _) (.cons .nsl (.cons .nsl (.cons (.int _ _) .nil)))))) h2)
def avW(d:Int):Nat:=10060000*31 ^ (6- d).toNat
abbrev AvS:=List AT×SV×Int×Int×SV×List Int×Int
abbrev AvB:=GV×Bool×Int
def scbM(S:List AT) (x y:SV) (L:List Int):PF:=⟨true,λp=>q0l S x p/\slP byV y L p,λ_ _ h e=>⟨q2e h e.1,q0i h e.2⟩⟩
def q0w(S:List AT) (t d:Int) (L:List Int) (n:Int) (v:GV) (b:Bool) (n':Int):Prop:=b=lsB S t/\(n<=n'/\n'<=L.length)/\v.pv.sn/\v.pv.wt<=avW d/\(b=true->PV.fits S t v.pv=true)
def q4g(v w:GV):Prop:=w.pv.sm/\w.pv.wt<=v.pv.wt+40
def q7w(κ:AT->Prop):CtR where
 σ:=AvS
 args:=λ⟨S,x,t,d,y,L,n⟩=>[.ptr 1 0,scA x, .sv (.int .i64 t), .sv (.int .i64 d)]
 h:=λ⟨S,x,t,d,y,L,n⟩=>pkO y n
 m:=2
 pre:=λ⟨S,x,t,d,y,L,n⟩=>q0j S/\(0<=t/\t<S.length)/\κ (atS S t)/\(0<=d/\d<=6)/\0<=n/\n<=L.length/\q0t L
 mem:=λ⟨S,x,t,d,y,L,n⟩=>scbM S x y L
 β:=λ_=>AvB
 post:=λ⟨S,x,t,d,y,L,n⟩ ⟨v,b,n'⟩=>q0w S t d L n v b n'
 pm:=λ_ ⟨v,b,n'⟩=>vM v
 r:=λ_ ⟨v,b,n'⟩=> .tup [v.av, .sv (.bool b)]
 h':=λ⟨S,x,t,d,y,L,n⟩ ⟨v,b,n'⟩=>pkO y n'
 m':=2
def qiu:AvS->Nat:=λ⟨S,x,t,d,y,L,n⟩=>(10- d).toNat
def qlt(k:Int):Bool:=decide (k=12\/k=13)
def is12(a:AT):Prop:=a.k=12
def no12(a:AT):Prop:=a.k≠12
def qoq(a:AT):Prop:=True
def ownV(h:T AO) (vb n:Nat):AO:=match h.get vb with
 |some (.cells ty fz g [a,b,_,d,e])=> .cells ty fz g [a,b, .ssl 40 0 n 5 41,d,e]
 |_=> .cells 0 none false []
def arI(S:List AT) (a:AT) (L:List Int) (d n i n1:Int) (l:List PV):Prop:=(0<=i/\i+l.length<=3)/\(n<=n1/\n1<=L.length)/\(∀v∈l,PV.fits S a.it v=true/\v.sn)/\PV.wts l<=l.length*avW (d+1)
def maI(S:List AT) (a:AT) (L:List Int) (d n i n1:Int) (v:GV):Prop:=(0<=i/\i<=3)/\(n<=n1/\n1<=L.length)/\(v.n=0/\v.s=mkS []/\v.b=0)/\(v.ks.length=v.l.length/\v.l.length<=3- i)/\q31 v.ks=true/\(∀w∈GV.pvs v.l,PV.fits S a.it w=true/\w.sn)/\(∀k∈v.ks,k.size<1000)/\((kzs v.ks+PV.wts (GV.pvs v.l):Nat):Int)<=(3- i)*(avW (d+1)+12)
def reI(S:List AT) (a:AT) (L:List Int) (d n:Int) (j:Nat) (n1:Int) (l:List PV):Prop:=(l.length=j/\j<=a.fs.length)/\(n<=n1/\n1<=L.length)/\(∀(i:Nat) (h1:i<l.length) (h2:i<a.fs.length),PV.fits S (a.fs[i]).ty l[i]=true)/\(∀v∈l,v.sn)/\PV.wts l<=l.length*avW (d+1)
def wAVal(arr:Bool):AvS->WayF:=λ⟨S,x,t,d,y,L,n⟩=>{
  pubE:=[206]
  spl:=λi=>match i with
    |24=>some 9
    |32=>some 10
    |43=>some 9
    |_=>none
  flo:=λi=>match i with
    |24=>some (13,[9])
    |32=>some (14,[10])
    |_=>none
  cut:=λi tt _=>match i with
    |36=>swc qlt 166 46 [0,3,5,8,10,12,46] tt
    |_=>none
  ann :=λid tt hh=>match ptrS tt 10 with
    | some vb=>match id with
      |1=>some {σ:=Nat×Int×List GV,pre:=λ⟨j,n1,fs⟩=>reI S (atS S t) L d n j n1 (GV.pvs fs),mem:=λ⟨j,n1,fs⟩=>gsM fs,t:=λ⟨j,n1,fs⟩=>[(16, .sv (.int .i64 (j:Int)))],h:=λ⟨j,n1,fs⟩=>pkO y n1++[(vb,ownV hh vb fs.length),(40, .row 37 0 (q00 GV.cells fs))],more:=60,μ:=λ⟨j,n1,fs⟩=>(atS S t).fs.length- j,keep:=[0,3,5,8,10,12]}
      | _=>match arr with
        |true=>some {σ:=Int×Int×List GV,pre:=λ⟨i,n1,fs⟩=>arI S (atS S t) L d n i n1 (GV.pvs fs),mem:=λ⟨i,n1,fs⟩=>gsM fs,t:=λ⟨i,n1,fs⟩=>[(19, .sv (.int .i64 i))],h:=λ⟨i,n1,fs⟩=>pkO y n1++[(vb,ownV hh vb fs.length),(40, .row 37 0 (q00 GV.cells fs))],more:=60,μ:=λ⟨i,n1,fs⟩=>i.toNat,keep:=[0,3,5,8,10,12]}
        |false=>some {σ:=Int×Int×GV,pre:=λ⟨i,n1,v⟩=>maI S (atS S t) L d n i n1 v,mem:=λ⟨i,n1,v⟩=>vM v,t:=λ⟨i,n1,v⟩=>[(19, .sv (.int .i64 i))],h:=λ⟨i,n1,v⟩=>pkO y n1++[(vb,avO v)],more:=0,μ:=λ⟨i,n1,v⟩=>i.toNat,keep:=[0,3,5,8,10,12]}
    |none=>none}
abbrev TuS:=GV×Int×Int
def q67:CtR:=ctN TuS (λ⟨v,how,n⟩=>[v.av, .sv (.int .u8 how), .sv (.int .u64 n)]) (λ⟨v,how,n⟩=>(v.pv.sn/\v.pv.wt<100000000000000000)/\(0<=how/\how<256)/\0<=n/\n<18446744073709551616) (λ⟨v,how,n⟩=>vM v) GV (λ⟨v,how,n⟩ w=>q4g v w) (λ_ w=>vM w) λ_ w=>w.av
def muTu:TuS->Nat:=λ⟨v,how,n⟩=>SizeOf.sizeOf v
def ridF(t:T AV) (h:T AO) (s f:Nat):Option Nat:=match t.get s with
  | some (.ptr b _)=>match h.get b with
    | some (.cells _ _ _ l)=>match l[f]? with
      |some a=>rid a
      |none=>none
    |_=>none
  |_=>none
def tuI(v:GV) (i k:Int) (ks:List ByteArray):Prop:=(0<=i/\i<=v.ks.length)/\(-1<=k/\k<v.ks.length)/\ks.length=v.ks.length/\kzs ks=kzs v.ks/\∀x∈ks,x∈v.ks
def qpt:TuS->WayF:=λ⟨v,how,n⟩=>{
 pubE:=[51,127]
 pub:=λi k=>match i,k with
  |24,2=>[124]
  |_,_=>[]
 spl:=λi=>match i with
  |5=>some 11
  |_=>none
 flo:=λi=>match i with
  |5=>some (11,[0,1])
  |_=>none
 flu:=λi=>match i with
  |5=>[(11,[2])]
  |_=>[]
 cut:=λi _ _=>match i with
  |7=>some {σ:=Unit,t:=λ_=>[],h:=λ_=>[],more:=0,μ:=λ_=>0,keep:=[2,6,7]}
  |_=>none
 ann:=λ_ t h=>match ridF t h 7 3 with
  |some r=>some {σ:=Int×Int×List ByteArray,pre:=λ⟨i,k,ks⟩=>tuI v i k ks,t:=λ⟨i,k,ks⟩=>[(9, .sv (.int .i64 i)),(10, .sv (.int .i64 k))],h:=λ⟨i,k,ks⟩=>[(r, .row 9 0 (q00 txV ks))],more:=0,μ:=λ⟨i,k,ks⟩=>(k- i+1).toNat,keep:=[6,7]}
  |none=>none}
end
end Go.Proofs.Ytpanaicglidfjaa.Wd
