/-
  What the functions do: contracts, and their questions answered. No condition but what its theorems ask.
-/
import Derived.Test.YtdaokgdnjaaofaaDoorU6
import Derived.Test.YtdaokgdnjaaofaaDoorProg
import Derived.Laws.BitsAllLaws
import Derived.Lib.Index
import Derived.Test.YtdaokgdnjaaofaaDoorSh
namespace Go.Proofs.YtdaokgdnjaaofaaDoor.Wd
open Go.Proofs.YtdaokgdnjaaofaaDoor.Eng Go.Proofs.YtdaokgdnjaaofaaDoor.Sen Go.RowKit
set_option linter.defProp false
set_option linter.unusedVariables false
set_option linter.unusedSimpArgs false
set_option maxRecDepth 1000000
open Go.Value (int string slice bool)
open Go.IntKind (i64 u64 u8 u32 i32)
open _root_.List (length take drop)
open _root_.ByteArray (size)
open _root_.Int (toNat)
noncomputable section
abbrev P:=Go.Proofs.Tryd.prog
def mixed:P.follows .mixedOrders=true:=by decide+kernel
theorem aok{calls:Nat->Option Ct} (hc:∀g C,calls g=some C->q7w P g C) {f:Nat} {fn:Func} {C:Ct} {W:C.σ->WayF} (hfn:P.funcs[f]? =some fn) (hv:∀s,qr8 P calls fn C W s) (hb:q4q P f fn=true:=by kernel_rfl) (h1:1<=C.m:=by exact Nat.le_of_ble_eq_true rfl) (hle:C.m<=C.m':=by exact Nat.le_of_ble_eq_true rfl) (hn:∀s,Nat.ble (C.args s).length fn.ntmps=true:=by exactλ_=>by kernel_rfl):q7w P f C:=qrb mixed hc hfn hb h1 hle hn hv
theorem aokX{calls:Nat->Option Ct} (hc:∀g C,calls g=some C->q7w P g C) {rel:Nat->Option CtR} (hrel:∀g C,rel g=some C->q39 P g C) {f:Nat} {fn:Func} {C:Ct} {W:C.σ->WayF} (hfn:P.funcs[f]? =some fn) (hv:∀s,qra P calls rel fn C W s) (hb:q4q P f fn=true:=by kernel_rfl) (h1:1<=C.m:=by exact Nat.le_of_ble_eq_true rfl) (hle:C.m<=C.m':=by exact Nat.le_of_ble_eq_true rfl) (hn:∀s,Nat.ble (C.args s).length fn.ntmps=true:=by exactλ_=>by kernel_rfl):q7w P f C:=qqa mixed hc hrel hfn hb h1 hle hn hv
theorem aokR{calls:Nat->Option Ct} (hc:∀g C,calls g=some C->q7w P g C) {rel:Nat->Option CtR} (hrel:∀g C,rel g=some C->q39 P g C) {f:Nat} {fn:Func} {C:CtR} {W:C.σ->WayF} (hfn:P.funcs[f]? =some fn) (hv:∀s,qr9 P calls rel fn C W s) (hb:q4q P f fn=true:=by kernel_rfl) (h1:1<=C.m:=by exact Nat.le_of_ble_eq_true rfl) (hle:C.m<=C.m':=by exact Nat.le_of_ble_eq_true rfl) (hn:∀s,Nat.ble (C.args s).length fn.ntmps=true:=by exactλ_=>by kernel_rfl):q39 P f C:=qq9 mixed hc hrel hfn hb h1 hle hn hv
theorem sbS:(∀(p:Prop) [Decidable p],(decide p=true)=p)/\(∀(p:Prop) [Decidable p],(decide p=false)=¬p)/\(∀b:Bool,((!b)=true)=(b=false))/\(∀b:Bool,((!b)=false)=(b=true))/\(∀p,(True/\p)=p)/\(∀p,(p/\True)=p)/\(∀(α:Type) (a:α),(a=a)=True)/\(∀p:Prop,(p->p)=True)/\(∀α:Type,(α->True)=True)/\(∀p:Prop,(p->True)=True):=⟨λ_ _=>by simp,λ_ _=>by simp,by simp,by simp,by simp,by simp,by simp,by simp,by simp,by simp⟩
abbrev Jb(a:Int):Prop:=(-9223372036854775808:Int)<=a/\a<=9223372036854775807
abbrev Jt(p:Prop) [Decidable p]:Prop:=decide p=true
abbrev Jf(p:Prop) [Decidable p]:Prop:=decide p=false
abbrev Ji(p:Prop) [Decidable p] (a b:Prop):Prop:=(Jt p->a)/\(Jf p->b)
def isLet(c:Nat):Bool:=(c==95)|| (decide (65<=c)&&decide (c<=90))|| (decide (97<=c)&&decide (c<=122))
def z01(c:Nat):Bool:=decide (48<=c)&&decide (c<=57)
def z3o(c:Nat):Bool:=(decide (9<=c)&&decide (c<=13))|| (c==32)
def dv(c:Nat):Nat:=if 48<=c/\c<=57 then c- 48 else if 65<=c/\c<=70 then c- 55 else if 97<=c/\c<=102 then c- 87 else 16
def nmC(s:ByteArray) (j:Nat):Bool:=isLet (bat s j)||z01 (bat s j)|| ((bat s j==46)&&isLet (bat s (j+1)))
def nmF(s:ByteArray):Nat->Nat->Nat
 |0,j=>j
 |f+1,j=>if nmC s j then nmF s f (j+1)else j
def nmE(s:ByteArray) (j:Nat):Nat:=nmF s (s.size- j) j
def dgF(s:ByteArray) (B:Nat):Nat->Nat->Nat->Nat×Nat
 |0,j,v=>(j,v)
 |f+1,j,v=>if dv (bat s j)<B then dgF s B f (j+1) (v*B+dv (bat s j))else(j,v)
def dgE(s:ByteArray) (B j v:Nat):Nat×Nat:=dgF s B (s.size- j) j v
def nbB(s:ByteArray) (i:Nat):Nat:=if bat s i=48 then(if dv (bat s (i+2))<16/\(bat s (i+1)=120\/bat s (i+1)=88)then 16 else 8)else 10
def nbO(s:ByteArray) (i:Nat):Nat:=if bat s i=48 then(if dv (bat s (i+2))<16/\(bat s (i+1)=120\/bat s (i+1)=88)then 2 else 1)else 0
def nbR(s:ByteArray) (i:Nat):Nat×Nat×Nat:=
 let r:=dgE s (nbB s i) (i+nbO s i) 0
 if 18446744073709551616<=r.2 then(3,0,i)else
 if isLet (bat s r.1)||z01 (bat s r.1)|| (bat s r.1==46)then(2,0,i)else(0,r.2,r.1)
def esc(c:Nat):Option Nat:=if c=92\/c=34\/c=39 then some c else if c=110 then some 10 else none
def txF (s:ByteArray) (q:Nat):Nat->Nat->List Nat->Option (List Nat×Nat)
  |0,_,_=>none
  | f + 1,j,acc=>if j<s.size then
      if bat s j=q then some (acc,j+1)else if bat s j=10 then none else if bat s j=92 then
        match esc (bat s (j+1))with
        |some c=>txF s q f (j+2) (acc++[c])
        |none=>none
      else txF s q f (j+1) (acc++[bat s j])
    else none
def txE(s:ByteArray) (q j:Nat) (acc:List Nat):Option (List Nat×Nat):=txF s q (s.size+1- j) j acc
def bs(l:List Nat):ByteArray:=⟨⟨l.map UInt8.ofNat⟩⟩
def zml(k:Nat) (t:ByteArray) (n a:Nat):AV:= .agg [.sv (.int .i64 (k:Nat)), .sv (.string t), .sv (.int .u64 (n:Nat)), .sv (.int .i64 (a:Nat))]
def cur(s:ByteArray) (i:Int):List (Nat×AO):=[(1, .cells 86 (some 0) false [.sv (.string s), .sv (.int .i64 i)])]
def z74(h:T AO) (id:Nat):Option (ByteArray×Int):=match h.get id with
  | some (.cells _ _ _ [a,b])=>match gs a with
    | some s=>match gi b with
      |some (_,i)=>some (s,i)
      |none=>none
    |none=>none
  |_=>none
def z0y:Ct where
  σ:=ByteArray×Int×Int
  args:=λ⟨s,i,d⟩=>[.ptr 1 0, .sv (.int .i64 d)]
  h:=λ⟨s,i,d⟩=>cur s i
  m:=2
  pre:=λ⟨s,i,d⟩=>0<=i/\i<=s.size/\s.size<1000000/\0<=d/\d<1000000
  find:=some λl h=>match l with
    | [.ptr id _,a]=>match gi a with
      | some (_,d)=>match z74 h id with
        |some (s,i)=>some (s,i,d)
        |none=>none
      |none=>none
    |_=>none
  r:=λ⟨s,i,d⟩=> .sv (.int .u8 (bat s (i+d).toNat:Nat))
  h':=λ⟨s,i,d⟩=>cur s i
  m':=2
  g:=λ_=>none
def z73(pre:ByteArray->Int->Prop) (r:ByteArray->Int->AV) (to:ByteArray->Int->Int):Ct where
 σ:=ByteArray×Int
 args:=λ⟨s,i⟩=>[.ptr 1 0]
 h:=λ⟨s,i⟩=>cur s i
 m:=2
 pre:=λ⟨s,i⟩=>pre s i
 find:=some λl h=>match l with
  | [.ptr id _]=>z74 h id
  |_=>none
 r:=λ⟨s,i⟩=>r s i
 h':=λ⟨s,i⟩=>cur s (to s i)
 m':=2
 g:=λ_=>none
def zee:Ct:=z73 (λs i=>0<=i/\i<=s.size) (λs i=> .sv (.string (s.extract i.toNat s.size))) λs i=>i
def z0h(s p:ByteArray):Bool:=decide (p.size<=s.size)&&decide (s.extract 0 p.size=p)
def f1s:List Value->Option ByteArray
 | [.string s]=>some s
 |_=>none
def f2s:List Value->Option (ByteArray×ByteArray)
 | [.string s, .string p]=>some (s,p)
 |_=>none
def fsi:List Value->Option (ByteArray×Int)
 | [.string s, .int _ c]=>some (s,c)
 |_=>none
def f1i:List Value->Option Int
 | [.int _ c]=>some c
 |_=>none
def f2i:List Value->Option (Int×Int)
 | [.int _ c, .int _ d]=>some (c,d)
 |_=>none
def z06:Ct:=ctS (ByteArray×ByteArray) (λ⟨s,p⟩=>[.string s, .string p]) f2s (λ_=>True) (λ_=>{}) λ⟨s,p⟩=> .sv (.bool (z0h s p))
def z1a:Ct:=ctS (ByteArray×Int) (λ⟨s,c⟩=>[.string s, .int .u8 c]) fsi (λ⟨s,c⟩=>0<=c/\c<256) (λ_=>{}) λ⟨s,c⟩=> .sv (.int .i64 (Lib.indexByte s.data.toList (UInt8.ofNat c.toNat)))
def hG:PF:=⟨true,λp=>∃m:Int,q88 p ⟨1,0,none⟩=some (.int .i64 m),λ_ _ h e=>e.imp λ_ e=>qcr h e⟩
def zcr:Ct:=ctS (ByteArray×ByteArray) (λ⟨s,p⟩=>[.string s, .string p]) f2s (λ⟨s,c⟩=>s.size<4294967281) (λ_=>hG) λ⟨s,p⟩=> .sv (.int .i64 (Lib.index s.data.toList p.data.toList))
def z24:Ct:=ctS Int (λc=>[.int .u8 c]) f1i (λc=>0<=c/\c<256) (λ_=>{}) λc=> .sv (.bool (isLet c.toNat))
def z2m:Ct:=ctS Int (λc=>[.int .u8 c]) f1i (λc=>0<=c/\c<256) (λ_=>{}) λc=> .sv (.bool (z01 c.toNat))
def z70:Ct:=ctS (Int×Int) (λ⟨c,B⟩=>[.int .u8 c, .int .u64 B]) f2i (λ⟨c,B⟩=>(0<=c/\c<256)/\0<=B/\B<=16) (λ_=>{}) λ⟨c,B⟩=> .tup [.sv (.int .u64 (dv c.toNat:Nat)), .sv (.bool (decide (dv c.toNat<B)))]
def z2v:Ct:=ctS Int (λc=>[.int .u8 c]) f1i (λc=>0<=c/\c<256) (λ_=>{}) λc=> .tup [.sv (.int .u8 ((esc c.toNat).getD 0:Nat)), .sv (.bool (esc c.toNat).isSome)]
def z9z:Ct:=z73 (λs i=>0<=i/\i<s.size/\s.size<100000) (λs i=>zml 1 (s.extract i.toNat (nmE s (i.toNat+1))) 0 i.toNat) λs i=>nmE s (i.toNat+1)
def zjx:Nat->Option Ct:=qkw [(43,z0y),(47,z24),(49,z2m)]
def zia(s:ByteArray) (pre:Int->Prop) (keep:List Nat):LT:={σ:=Int,pre:=pre,find:=some λ_ h=>match z74 h 1 with|some (_,j)=>some j|none=>none,t:=λ_=>[],h:=λj=>cur s j,more:=0,μ:=λj=>s.size- j.toNat,keep:=keep}
def zka:z9z.σ->WayF:=λ⟨s,i⟩=>{ann:=λ_ _ _=>some (zia s (λj=>i<j/\j<=s.size/\nmE s j.toNat=nmE s (i.toNat+1)) [0,2,3])}
section
def z07:∀g C,(λ_=>none:Nat->Option Ct) g=some C->q7w P g C:=λg C h=>by cases h
def z0c(s:ByteArray) (j:Nat):bat s j<256:=by unfold bat;exact UInt8.toNat_lt _
variable {s:ByteArray} {j:Nat}
def z0k(h:s.size<=j):bat s j=0:=by
 unfold bat
 rw[getElem?_neg s j (by omega)];rfl
def z23(h:j<s.size):bat s j=s[j].toNat:=by
 unfold bat
 rw[getElem?_pos s j h];rfl
def z6u(s:ByteArray) (i d:Int):qr8 P ((λ_=>none)) Go.Proofs.Tryd.f43 z0y (λ_=>{}) ⟨s,i,d⟩=((0:Int)<=i/\i<=(↑(size s):Int)/\size s<(1000000:Nat)/\(0:Int)<=d/\d<(1000000:Int)->((-9223372036854775808:Int)<=i+d/\i+d<=(9223372036854775807:Int))/\(decide (i+d<(↑(size s):Int))=true->((-9223372036854775808:Int)<=i+d/\i+d<=(9223372036854775807:Int))/\((0:Int)<=i+d/\i+d<(↑(size s):Int))/\(↑(bat s (toNat (i+d))):Int)=(↑(bat s (toNat (i+d))):Int)/\s=s/\i=i/\True)/\(decide (i+d<(↑(size s):Int))=false->(↑(bat s (toNat (i+d))):Int)=(0:Int)/\s=s/\i=i/\True)):=by kernel_rfl
def z0l:q7w P 43 z0y:=by
 refine qrb mixed z07 (W:=λ_=>{}) Go.Proofs.Tryd.func43 (by kernel_rfl) (by decide) (by decide) (λ⟨s,i,d⟩=>by kernel_rfl) λ⟨s,i,d⟩=>(z6u s i d).mpr ?_
 simp only[decide_eq_true_eq,decide_eq_false_iff_not,and_true,true_and]
 intro h
 refine⟨by omega,λh4=>by omega,λh4=> ?_⟩
 rw[z0k (by omega)];rfl
def zf3(s:ByteArray) (i:Int):qr8 P ((λ_=>none)) Go.Proofs.Tryd.f45 zee (λ_=>{}) ⟨s,i⟩=((0:Int)<=i/\i<=(↑(ByteArray.size s):Int)->((0:Int)<=i/\i<=(↑(ByteArray.size s):Int))/\ByteArray.extract s (Int.toNat i) (ByteArray.size s)=ByteArray.extract s (Int.toNat i) (ByteArray.size s)/\s=s/\i=i/\True):=by kernel_rfl
def zf4:q7w P 45 zee:=by
 refine qrb mixed z07 (W:=λ_=>{}) Go.Proofs.Tryd.func45 (by kernel_rfl) (by decide) (by decide) (λ⟨s,i⟩=>by kernel_rfl) λ⟨s,i⟩=>(zf3 s i).mpr ?_
 intro h
 exact⟨h,rfl,rfl,rfl,trivial⟩
def z7k(c:Int):qr8 P ((λ_=>none)) Go.Proofs.Tryd.f47 z24 (λ_=>{}) c=((0:Int)<=c/\c<(256:Int)->(decide (c=(95:Int))=true->isLet (toNat c)=true/\True)/\(decide (c=(95:Int))=false->(decide ((97:Int)<=qeb BinOp.or u8 c (32:Int))=true->isLet (toNat c)=decide (qeb BinOp.or u8 c (32:Int)<=(122:Int))/\True)/\(decide ((97:Int)<=qeb BinOp.or u8 c (32:Int))=false->isLet (toNat c)=false/\True))):=by kernel_rfl
def z26:q7w P 47 z24:=by
 refine qrb mixed z07 (W:=λ_=>{}) Go.Proofs.Tryd.func47 (by kernel_rfl) (by decide) (by decide) (λc=>by kernel_rfl) λ(c:Int)=>(z7k c).mpr ?_
 rintro⟨h1,h2⟩
 obtain⟨n,rfl⟩:=Int.eq_ofNat_of_zero_le h1
 have hn:n<256:=by omega
 clear h1 h2
 revert n
 decide+kernel
def za1(c:Int):qr8 P ((λ_=>none)) Go.Proofs.Tryd.f49 z2m (λ_=>{}) c=((0:Int)<=c/\c<(256:Int)->(decide ((48:Int)<=c)=true->z01 (Int.toNat c)=decide (c<=(57:Int))/\True)/\(decide ((48:Int)<=c)=false->z01 (Int.toNat c)=false/\True)):=by kernel_rfl
def z1r:q7w P 49 z2m:=by
 refine qrb mixed z07 (W:=λ_=>{}) Go.Proofs.Tryd.func49 (by kernel_rfl) (by decide) (by decide) (λc=>by kernel_rfl) λ(c:Int)=>(za1 c).mpr ?_
 rintro⟨h1,h2⟩
 obtain⟨n,rfl⟩:=Int.eq_ofNat_of_zero_le h1
 have hn:n<256:=by omega
 clear h1 h2
 revert n
 decide+kernel
def zax:∀g C,zjx g=some C->q7w P g C:=qhc (qmo z0l (qmo z26 (qmo z1r qqu)))
def z7x(h:s.size<=j):nmC s j=false:=by
 unfold nmC
 rw[z0k h]
 rfl
def z1t(s:ByteArray) (j:Nat) (h:j<=s.size):nmE s j=if nmC s j=true then nmE s (j+1)else j:=by
  unfold nmE
  cases hj:s.size- j with
  | zero=>
    rw[z7x (by omega)];simp[nmF]
  | succ f=>
    rw[show s.size- (j+1)=f by omega]
    simp[nmF]
section
variable (x0:Int) (x1:ByteArray) (x2:Int) (x3:Prop)
 abbrev zo3:=Jb (x0+1)
 def zmn:=x2=x2/\x1=x1/\x0=x0/\(0<=x0/\x0<=(↑(size x1):Int)/\size x1<1000000/\0<=x2/\x2<1000000)/\(↑(bat x1 (toNat (x0+x2))):Int)=(↑(bat x1 (toNat (x0+x2))):Int)/\(0<=(↑(bat x1 (toNat (x0+x2))):Int)/\(↑(bat x1 (toNat (x0+x2))):Int)<256)/\x3
 abbrev ze0:=(↑(bat x1 (toNat (x0+x2))):Int)
 def zmm:=zo3 x0/\x2=x2/\x1=x1/\x0+1=x0+1/\(x2<x0+1/\x0+1<=(↑(size x1):Int)/\nmE x1 (toNat (x0+1))=nmE x1 (toNat x2+1))/\size x1- toNat (x0+1)<size x1- toNat x0/\True
 def zo2:=(0<=x0/\x0<=x2/\x2<=(↑(size x1):Int))/\(↑(1:Nat):Int)=1/\ByteArray.extract x1 (toNat x0) (nmE x1 (toNat x0+1))=ByteArray.extract x1 (toNat x0) (toNat x2)/\(↑(0:Nat):Int)=0/\(↑(toNat x0):Int)=x0/\x1=x1/\Int.ofNat (nmE x1 (toNat x0+1))=x2/\True
 def zp5:=(0:Int)=0/\x1=x1/\x0=x0/\(0<=x0/\x0<=(↑(size x1):Int)/\size x1<1000000/\(0:Int)<=0/\(0:Int)<1000000)/\Ji ((ze0 x0 x1 0)=46) (zmn x0 x1 1 ((isLet (toNat (ze0 x0 x1 1))=true->zmm x0 x1 x2)/\(isLet (toNat (ze0 x0 x1 1))=false->zo2 x2 x1 x0))) (zo2 x2 x1 x0)
 def zp4:=zmn x0 x1 0 ((z01 (toNat (ze0 x0 x1 0))=true->zmm x0 x1 x2)/\(z01 (toNat (ze0 x0 x1 0))=false->zp5 x0 x1 x2))
 def zp3:=zmn x0 x1 0 ((isLet (toNat (ze0 x0 x1 0))=true->zmm x0 x1 x2)/\(isLet (toNat (ze0 x0 x1 0))=false->zp4 x0 x1 x2))
 def zp2:=zo3 x0/\(x0=x0/\x1=x1/\x0+1=x0+1/\(x0<x0+1/\x0+1<=(↑(size x1):Int)/\nmE x1 (toNat (x0+1))=nmE x1 (toNat x0+1))/\True)/\∀(i0:Int),x0<i0/\i0<=(↑(size x1):Int)/\nmE x1 (toNat i0)=nmE x1 (toNat x0+1)->zp3 i0 x1 x0
end
def zam(s:ByteArray) (i:Int):qr8 P (zjx) Go.Proofs.Tryd.f48 z9z (zka) ⟨s,i⟩=(0<=i/\i<(↑(size s):Int)/\size s<100000->zp2 i s):=by kernel_rfl
def zfe:=λs i=>Eq.trans (zam s i) (by delta Ji Jb Jt Jf zo3 zmn ze0 zmm zo2 zp5 zp4 zp3 zp2;exact rfl)
def zff:q7w P 48 z9z:=by
 refine qrb mixed zax (W:=zka) Go.Proofs.Tryd.func48 (by kernel_rfl) (by decide) (by decide) (λ⟨s,i⟩=>by kernel_rfl) λ⟨s,i⟩=>(zfe s i).mpr ?_
 simp only[decide_eq_true_eq,decide_eq_false_iff_not,and_true,true_and,Int.toNat_natCast,Int.add_zero]
 intro h
 obtain⟨n,rfl⟩:=Int.eq_ofNat_of_zero_le h.1
 refine⟨by omega,by simp;omega,λj hj=> ?_⟩
 obtain⟨m,rfl⟩:=Int.eq_ofNat_of_zero_le (show 0<=j by omega)
 have e1:((m:Int)+1).toNat=m+1:=by omega
 simp only[Int.toNat_natCast,e1]at hj⊢
 have hs:=z1t s m (by omega)
 have b1:=z0c s m
 have b2:=z0c s (m+1)
 have hin:nmC s m=true->m<s.size:=λh=>by
  rcases Nat.lt_or_ge m s.size with h1|h1
  ·exact h1
  ·rw[z7x h1]at h;cases h
 have yes:nmC s m=true->(n:Int)<(m:Int)+1/\(m:Int)+1<=s.size/\nmE s (m+1)=nmE s (n+1):=λh=>by
  rw[if_pos h]at hs
  have:=hin h
  exact⟨by omega,by omega,hs ▸ hj.2.2⟩
 have no:nmC s m=false->nmE s (n+1)=m:=λh=>by
  rw[if_neg (by rw[h];simp)]at hs
  rw[←hj.2.2,hs]
 refine⟨by omega,by omega,λa1=> ?_,λa1=>⟨by omega,by omega,λa2=> ?_,λa2=>⟨by omega,λa3=>⟨by omega,by omega,λa4=> ?_,λa4=> ?_⟩,λa3=> ?_⟩⟩⟩
 ·have y:=yes (by unfold nmC;rw[a1];rfl)
  exact⟨by omega,y,by omega⟩
 ·have y:=yes (by unfold nmC;rw[a2];simp)
  exact⟨by omega,y,by omega⟩
 ·have y:=yes (by unfold nmC;rw[a4,show bat s m=46 by omega];simp)
  exact⟨by omega,y,by omega⟩
 ·rw[no (by unfold nmC;rw[a1,a2,a4];simp)]
  exact⟨by omega,by simp⟩
 ·rw[no (by unfold nmC;rw[a1,a2];simp;intro h;exact absurd h (by omega))]
  exact⟨by omega,by simp⟩
end
def ldN(c:Nat):Nat:=if c<128 then 1 else if 192<=c/\c<224 then 2 else if 224<=c/\c<240 then 3 else if 240<=c/\c<248 then 4 else 0
def ldV(c:Nat):Nat:=if c<128 then c else if 192<=c/\c<224 then c- 192 else if 224<=c/\c<240 then c- 224 else if 240<=c/\c<248 then c- 240 else 0
def ctC(c:Nat):Bool:=decide (128<=c)&&decide (c<192)
def vlF(s:ByteArray):Nat->Option Nat
  |0=>some 0
  |1=>some (ldV (bat s 0))
  | i+2=>match vlF s (i+1)with
    |some r=>if ctC (bat s (i+1))=true then some (r*64+(bat s (i+1)- 128))else none
    |none=>none
def lnN(r:Nat):Nat:=if r<128 then 1 else if r<2048 then 2 else if r<65536 then 3 else 4
def isC(r:Nat):Bool:=decide (r<=1114111)&& !(decide (55296<=r)&&decide (r<=57343))
def frt(s:ByteArray):Nat:=if s.size<ldN (bat s 0)then 0 else match vlF s (ldN (bat s 0))with
 |none=>0
 |some r=>if ldN (bat s 0)=0\/isC r=false\/lnN r≠ldN (bat s 0)then 0 else ldN (bat s 0)
def z8s:Nat->ByteArray->Bool
 |0,_=>true
 |f+1,s=>if s.size=0 then true else if frt s=0 then false else z8s f (s.extract (frt s) s.size)
def vld(s:ByteArray):Bool:=z8s s.size s
def zed:Ct:=ctS Int (λc=>[.int .u8 c]) f1i (λc=>0<=c/\c<256) (λ_=>{}) λc=> .tup [.sv (.int .i64 (ldN c.toNat:Nat)), .sv (.int .u32 (ldV c.toNat:Nat))]
def cIs:Ct:=ctS Int (λc=>[.int .u32 c]) f1i (λc=>0<=c/\c<4294967296) (λ_=>{}) λc=> .sv (.bool (isC c.toNat))
def z46:Ct:=ctS Int (λc=>[.int .u32 c]) f1i (λc=>0<=c/\c<4294967296) (λ_=>{}) λc=> .sv (.int .i64 (lnN c.toNat:Nat))
def z53:Ct:=ctS ByteArray (λs=>[.string s]) f1s (λs=>0<s.size/\s.size<1000000) (λ_=>{}) λs=> .sv (.int .i64 (frt s:Nat))
def z55:Ct:=ctS ByteArray (λs=>[.string s]) f1s (λs=>s.size<1000000) (λ_=>{}) λs=> .sv (.bool (vld s))
def slI(t:T AV) (k:Nat):Option Int:=match t.get k with
  | some a=>match gi a with
    |some (_,n)=>some n
    |none=>none
  |none=>none
def slS(t:T AV) (k:Nat):Option ByteArray:=match t.get k with
 |some a=>gs a
 |none=>none
def zdt:z53.σ->WayF:=λs=>{ann:=λ_ _ _=>some {σ:=Int×Int,pre:=λ⟨r,i⟩=>1<=i/\(i<=ldN (bat s 0)\/i=1)/\∃q:Nat,r=q/\(ldN (bat s 0)=0\/vlF s i.toNat=some q),find:=some λt _=>match slI t 4 with|some r=>(match slI t 5 with|some i=>some (r,i)|none=>none)|none=>none,t:=λ⟨r,i⟩=>[(4, .sv (.int .u32 r)),(5, .sv (.int .i64 i))],h:=λ_=>[],more:=0,μ:=λ⟨r,i⟩=>5- i.toNat,keep:=[0,2,3]}}
def zdn:Nat->Option Ct:=qkw [(90,zed),(91,cIs),(92,z46)]
def zdy:z55.σ->WayF:=λs=>{ann:=λ_ _ _=>some {σ:=ByteArray,pre:=λt=>t.size<=s.size/\vld t=vld s,find:=some λt _=>slS t 0,t:=λu=>[(0, .sv (.string u))],h:=λ_=>[],more:=0,μ:=λu=>u.size,keep:=[2]}}
def zjz:Nat->Option Ct:=qkw [(82,z53)]
def zj0(c:Nat):ldN c<=4:=by
 unfold ldN;repeat' split
 all_goals omega
def zj1(c:Nat):ldV c<128:=by
 unfold ldV;repeat' split
 all_goals omega
section
variable (x0 x1 x2:Int)
 abbrev zpa:=(↑(ldN (toNat x0)):Int)=1/\(↑(ldV (toNat x0)):Int)=IntKind.wrap u32 x0/\True
 abbrev zmp:=shP BinOp.shr u8 x0 x1=x2
 def zmo:=(↑(ldN (toNat x0)):Int)=x1/\(↑(ldV (toNat x0)):Int)=IntKind.wrap u32 (qeb BinOp.and u8 x0 x2)/\True
 def zpb:=(↑(ldN (toNat x0)):Int)=0/\(↑(ldV (toNat x0)):Int)=0/\True
 def zp9:=(0:Int)<=3/\Ji (zmp x0 3 30) (zmo x0 4 7) (zpb x0)
 def zp8:=(0:Int)<=4/\Ji (zmp x0 4 14) (zmo x0 3 15) (zp9 x0)
 def zp7:=(0:Int)<=5/\Ji (zmp x0 5 6) (zmo x0 2 31) (zp8 x0)
 def zp6:=Ji (x0<128) (zpa x0) (zp7 x0)
end
def zag(c:Int):qr8 P ((λ_=>none)) Go.Proofs.Tryd.f90 zed (λ_=>{}) c=(0<=c/\c<256->zp6 c):=by kernel_rfl
def zf1:=λc=>Eq.trans (zag c) (by delta Ji Jt Jf zpa zmp zmo zpb zp9 zp8 zp7 zp6;exact rfl)
def zni:∀c<256,¬c<128->(decide (shP BinOp.shr IntKind.u8 (c:Nat) 5=6)=(decide (192<=c)&&decide (c<224)))/\(decide (shP BinOp.shr IntKind.u8 (c:Nat) 4=14)=(decide (224<=c)&&decide (c<240)))/\(decide (shP BinOp.shr IntKind.u8 (c:Nat) 3=30)=(decide (240<=c)&&decide (c<248))):=by decide+kernel
def znj:∀c<256,IntKind.wrap IntKind.u32 ((c:Nat):Int)=(c:Nat)/\(192<=c->c<224->IntKind.wrap IntKind.u32 (qeb BinOp.and IntKind.u8 (c:Nat) 31)=((c- 192:Nat):Int))/\(224<=c->c<240->IntKind.wrap IntKind.u32 (qeb BinOp.and IntKind.u8 (c:Nat) 15)=((c- 224:Nat):Int))/\(240<=c->c<248->IntKind.wrap IntKind.u32 (qeb BinOp.and IntKind.u8 (c:Nat) 7)=((c- 240:Nat):Int)):=by decide+kernel
def zf2:q7w P 90 zed:=by
 refine qrb mixed z07 (W:=λ_=>{}) Go.Proofs.Tryd.func90 (by kernel_rfl) (by decide) (by decide) (λc=>by kernel_rfl) λ(c:Int)=>(zf1 c).mpr ?_
 rintro⟨h1,h2⟩
 obtain⟨n,rfl⟩:=Int.eq_ofNat_of_zero_le h1
 have hn:n<256:=by omega
 obtain⟨b0,b1,b2,b3⟩:=znj n hn
 simp only[Int.toNat_natCast,and_true,decide_eq_true_eq,decide_eq_false_iff_not]
 refine⟨λh=> ?_,λh=>⟨by omega,?_⟩⟩
 ·unfold ldN ldV;rw[if_pos (by omega),if_pos (by omega),b0];simp
 have hg:¬n<128:=by omega
 obtain⟨a1,a2,a3⟩:=zni n hn hg
 have a1:(shP BinOp.shr IntKind.u8 (n:Nat) 5=6)↔(192<=n/\n<224):=by
  rw[←decide_eq_true_iff (p:=shP BinOp.shr IntKind.u8 (n:Nat) 5=6),a1];simp
 have a2:(shP BinOp.shr IntKind.u8 (n:Nat) 4=14)↔(224<=n/\n<240):=by
  rw[←decide_eq_true_iff (p:=shP BinOp.shr IntKind.u8 (n:Nat) 4=14),a2];simp
 have a3:(shP BinOp.shr IntKind.u8 (n:Nat) 3=30)↔(240<=n/\n<248):=by
  rw[←decide_eq_true_iff (p:=shP BinOp.shr IntKind.u8 (n:Nat) 3=30),a3];simp
 rw[a1,a2,a3]
 refine⟨λg=> ?_,λg=>⟨by omega,λg2=> ?_,λg2=>⟨by omega,λg3=> ?_,λg3=> ?_⟩⟩⟩
 ·unfold ldN ldV
  rw[if_neg hg,if_pos g,if_neg hg,if_pos g,b1 g.1 g.2];simp
 ·unfold ldN ldV
  rw[if_neg hg,if_neg g,if_pos g2,if_neg hg,if_neg g,if_pos g2,b2 g2.1 g2.2];simp
 ·unfold ldN ldV
  rw[if_neg hg,if_neg g,if_neg g2,if_pos g3,if_neg hg,if_neg g,if_neg g2,if_pos g3,b3 g3.1 g3.2];simp
 ·unfold ldN ldV
  rw[if_neg hg,if_neg g,if_neg g2,if_neg g3,if_neg hg,if_neg g,if_neg g2,if_neg g3];simp
def zis(c:Int):qr8 P ((λ_=>none)) Go.Proofs.Tryd.f91 cIs (λ_=>{}) c=((0:Int)<=c/\c<(4294967296:Int)->(decide (c<=(1114111:Int))=true->(0:Int)<=(11:Int)/\isC (Int.toNat c)= !decide (shP BinOp.shr IntKind.u32 c (11:Int)=(27:Int))/\True)/\(decide (c<=(1114111:Int))=false->isC (Int.toNat c)=false/\True)):=by kernel_rfl
def znf:q7w P 91 cIs:=by
 refine qrb mixed z07 (W:=λ_=>{}) Go.Proofs.Tryd.func91 (by kernel_rfl) (by decide) (by decide) (λc=>by kernel_rfl) λ(c:Int)=>(zis c).mpr ?_
 rintro⟨h1,h2⟩
 obtain⟨n,rfl⟩:=Int.eq_ofNat_of_zero_le h1
 simp only[Int.toNat_natCast,and_true,decide_eq_true_eq,decide_eq_false_iff_not,isC]
 refine⟨λh=>⟨by omega,?_⟩,λh=> ?_⟩
 ·have:shP BinOp.shr IntKind.u32 (n:Nat) 11=((n / 2048:Nat):Int):=by
   show(n:Int).fdiv (2 ^ 11)=_
   rw[Int.fdiv_eq_ediv_of_nonneg _ (by decide)];omega
  rw[this]
  by_cases g:55296<=n/\n<=57343
  ·have e:n / 2048=27:=by omega
   rw[e];simp;omega
  ·have e:n / 2048≠27:=by omega
   have e2:¬((n / 2048:Nat):Int)=27:=by omega
   rw[decide_eq_false e2]
   simp;omega
 ·rw[decide_eq_false (by omega)];rfl
def z5p(c:Int):qr8 P ((λ_=>none)) Go.Proofs.Tryd.f92 z46 (λ_=>{}) c=((0:Int)<=c/\c<(4294967296:Int)->(decide (c<(128:Int))=true->(↑(lnN (toNat c)):Int)=(1:Int)/\True)/\(decide (c<(128:Int))=false->(decide (c<(2048:Int))=true->(↑(lnN (toNat c)):Int)=(2:Int)/\True)/\(decide (c<(2048:Int))=false->(decide (c<(65536:Int))=true->(↑(lnN (toNat c)):Int)=(3:Int)/\True)/\(decide (c<(65536:Int))=false->(↑(lnN (toNat c)):Int)=(4:Int)/\True)))):=by kernel_rfl
def z7j:q7w P 92 z46:=by
 refine qrb mixed z07 (W:=λ_=>{}) Go.Proofs.Tryd.func92 (by kernel_rfl) (by decide) (by decide) (λc=>by kernel_rfl) λ(c:Int)=>(z5p c).mpr ?_
 rintro⟨h1,h2⟩
 simp only[and_true,decide_eq_true_eq,decide_eq_false_iff_not,lnN]
 refine⟨λh=> ?_,λh=>⟨λg=> ?_,λg=>⟨λk=> ?_,λk=> ?_⟩⟩⟩
 ·rw[if_pos (by omega)];rfl
 ·rw[if_neg (by omega),if_pos (by omega)];rfl
 ·rw[if_neg (by omega),if_neg (by omega),if_pos (by omega)];rfl
 ·rw[if_neg (by omega),if_neg (by omega),if_neg (by omega)];rfl
def ct1:∀c<256,decide (shP BinOp.shr IntKind.u8 (c:Nat) 6=2)=ctC c:=by decide+kernel
def ct2:∀c<256,ctC c=true->IntKind.wrap IntKind.u32 (qeb BinOp.and IntKind.u8 (c:Nat) 63)=((c- 128:Nat):Int)/\c- 128<64:=by decide+kernel
def z8r(s:ByteArray):∀(i r:Nat),vlF s i=some r->i<=4->r<128*64 ^ (i- 1)
  |0,r,h,_=>by simp[vlF]at h;subst h;decide
  | 1,r,h,_=>by
    simp[vlF]at h
    have:=zj1 (bat s 0)
    rw[h]at this;simpa using this
  | i + 2,r,h,hi=>by
    simp only[vlF]at h
    split at h
    · rename_i q hq
      have ih:=z8r s (i+1) q hq (by omega)
      split at h
      · rename_i hc
        cases h
        have:=z0c s (i+1)
        simp[ctC]at hc
        have e:i+1- 1=i:=by omega
        have e2:i+2- 1=i+1:=by omega
        rw[e]at ih
        rw[e2,Nat.pow_succ]
        omega
      · cases h
    · cases h
def zst(r d:Nat) (hr:r<67108864) (hd:d<64):qeb BinOp.or IntKind.u32 (shP BinOp.shl IntKind.u32 (r:Int) 6) (d:Int)=((r*64+d:Nat):Int):=by
 have e:shP BinOp.shl IntKind.u32 (r:Int) 6=((r*64:Nat):Int):=by
  show IntKind.u32.wrap ((r:Int)*2 ^ 6)=_
  unfold IntKind.wrap;simp[IntKind.bits,IntKind.signed];omega
 rw[e]
 have h0:=u32_or_nat (r*64) d (by omega) (by omega)
 have h1:qeb BinOp.or IntKind.u32 ((r*64:Nat):Int) (d:Int)=bits .or .u32 ((r*64:Nat):Int) (d:Int):=rfl
 rw[h1,h0]
 congr 1
 have h:=Nat.two_pow_add_eq_or_of_lt (i:=6) (b:=d) hd r
 rw[show 2 ^ 6*r=r*64 by omega]at h
 exact h.symm
def zb9(s:ByteArray) (i j:Nat) (hij:i<=j) (h1:1<=i) (h:vlF s i=none):vlF s j=none:=by
  induction j with
  |zero=>omega
  | succ j ih=>
    by_cases e:i=j+1
    · subst e;exact h
    · have:=ih (by omega)
      cases j with
      |zero=>omega
      |succ j=>simp only[vlF];rw[this]
section
variable (x0:ByteArray) (x1:Int×Int)
 abbrev z8z:=(↑(ldN (toNat (↑(bat x0 0):Int))):Int)
 def zhs:=(↑(frt x0):Int)=0/\True
 abbrev zbg:=(↑(ldV (toNat (↑(bat x0 0):Int))):Int)
 def zg0:= !decide (shP BinOp.shr u8 (↑(bat x0 (toNat x1.2)):Int) (6:Int)=2)
 abbrev zbf:=IntKind.wrap u32 (qeb BinOp.and u8 (↑(bat x0 (toNat x1.2)):Int) 63)
 def zpg:=(0:Int)<=6/\(0<=x1.2/\x1.2<(↑(size x0):Int))/\Jb (x1.2+1)/\x0=x0/\(z8z x0)=(z8z x0)/\x1.2+1=x1.2+1/\qeb BinOp.or u32 (shP BinOp.shl u32 x1.1 6) (zbf x0 x1)=qeb BinOp.or u32 (shP BinOp.shl u32 x1.1 6) (zbf x0 x1)/\(1<=x1.2+1/\(x1.2+1<=(↑(ldN (bat x0 0)):Int)\/x1.2+1=1)/\∃(i0:Nat),qeb BinOp.or u32 (shP BinOp.shl u32 x1.1 6) (zbf x0 x1)=(↑i0:Int)/\(ldN (bat x0 0)=0\/vlF x0 (toNat (x1.2+1))=some i0))/\(5:Nat)- toNat (x1.2+1)<5- toNat x1.2/\True
 def zpf:=(0<=x1.2/\x1.2<(↑(size x0):Int))/\(0:Int)<=6/\((zg0 x0 x1)=true->zhs x0)/\((zg0 x0 x1)=false->zpg x0 x1)
 def zpj:=x1.1=x1.1/\(0<=x1.1/\x1.1<4294967296)/\((!decide ((↑(lnN (toNat x1.1)):Int)=(z8z x0)))=true->zhs x0)/\((!decide ((↑(lnN (toNat x1.1)):Int)=(z8z x0)))=false->(↑(frt x0):Int)=(z8z x0)/\True)
 def zpi:=x1.1=x1.1/\(0<=x1.1/\x1.1<4294967296)/\((!isC (toNat x1.1))=true->zhs x0)/\((!isC (toNat x1.1))=false->zpj x0 x1)
 def zph:=Ji ((z8z x0)=0) (zhs x0) (zpi x0 x1)
 def zpe:=Ji (x1.2<(z8z x0)) (zpf x0 x1) (zph x0 x1)
 def zpd:=(x0=x0/\(z8z x0)=(z8z x0)/\(1:Int)=1/\(zbg x0)=(zbg x0)/\((1:Int)<=1/\(1<=(↑(ldN (bat x0 0)):Int)\/(1:Int)=1)/\∃(i0:Nat),(zbg x0)=(↑i0:Int)/\(ldN (bat x0 0)=0\/vlF x0 (1:Nat)=some i0))/\True)/\∀(i1:Int×Int),(1<=i1.2/\(i1.2<=(↑(ldN (bat x0 0)):Int)\/i1.2=1)/\∃(i2:Nat),i1.1=(↑i2:Int)/\(ldN (bat x0 0)=0\/vlF x0 (toNat i1.2)=some i2))->zpe x0 i1
 def zpc:=((0:Int)<=0/\0<(↑(size x0):Int))/\(↑(bat x0 0):Int)=(↑(bat x0 0):Int)/\(0<=(↑(bat x0 0):Int)/\(↑(bat x0 0):Int)<256)/\Ji ((↑(size x0):Int)<(z8z x0)) (zhs x0) (zpd x0)
end
def z7c(s:ByteArray):qr8 P (zdn) Go.Proofs.Tryd.f82 z53 (zdt) s=(0<size s/\size s<1000000->zpc s):=by kernel_rfl
def front_eq:=λs=>Eq.trans (z7c s) (by delta Ji Jb Jt Jf z8z zhs zbg zg0 zbf zpg zpf zpj zpi zph zpe zpd zpc;exact rfl)
def z8h:∀g C,zdn g=some C->q7w P g C:=qhc (qmo zf2 (qmo znf (qmo z7j qqu)))
def za8:q7w P 82 z53:=by
 refine qrb mixed z8h (W:=zdt) Go.Proofs.Tryd.func82 (by kernel_rfl) (by decide) (by decide) (λc=>by kernel_rfl) λ(s:ByteArray)=>(front_eq s).mpr ?_
 rintro⟨h1,h2⟩
 have b0:=z0c s 0
 simp only[Int.toNat_natCast,Int.toNat_zero,and_true,true_and,decide_eq_true_eq,decide_eq_false_iff_not,Bool.not_eq_true',Bool.not_eq_false']
 obtain⟨n,hn⟩:∃n,n=ldN (bat s 0):=⟨_,rfl⟩
 have hn4:=zj0 (bat s 0)
 have hfr:frt s=if s.size<n then 0 else match vlF s n with
  |none=>0
  |some r=>if n=0\/isC r=false\/lnN r≠n then 0 else n:=by rw[hn];rfl
 rw[←hn]at hn4⊢
 refine⟨by omega,by omega,λg=> ?_,λg=>⟨⟨by omega, .inr trivial,ldV (bat s 0),rfl, .inr rfl⟩,?_⟩⟩
 ·rw[hfr,if_pos (by omega)];rfl
 rintro⟨r,i⟩ ⟨i1,i2,q,hq,hv⟩
 simp only at i1 i2 hq hv⊢
 obtain⟨m,rfl⟩:=Int.eq_ofNat_of_zero_le (show 0<=i by omega)
 have em:((m:Int)+1).toNat=m+1:=by omega
 simp only[Int.toNat_natCast,em]at hv⊢
 subst hq
 simp only[Int.toNat_natCast]at hv⊢
 rw[if_neg (by omega)]at hfr
 refine⟨λk=>⟨by omega,by omega,?_⟩,λk=>⟨λk2=> ?_,λk2=> ?_⟩⟩
 ·have bm:=z0c s m
  have c1:shP BinOp.shr IntKind.u8 ((bat s m:Nat):Int) 6=2↔ctC (bat s m)=true:=by rw[←ct1 (bat s m) bm,decide_eq_true_iff]
  rw[c1]
  have hv:vlF s m=some q:=by
   rcases hv with h|h
   ·omega
   ·exact h
  have hbd:=z8r s m q hv (by omega)
  have hq26:q<67108864:=by
   have:m<=3:=by omega
   rcases m with _|_|_|_|m<;>simp at hbd<;>omega
  obtain⟨m',rfl⟩:∃m',m=m'+1:=⟨m- 1,by omega⟩
  refine⟨λk3=> ?_,λk3=>⟨by omega,by omega,by omega,⟨by omega,by omega,?_⟩,by omega⟩⟩
  ·have:vlF s (m'+2)=none:=by simp only[vlF];rw[hv];simp[k3]
   rw[hfr,zb9 s (m'+2) n (by omega) (by omega) this];rfl
  ·obtain⟨c2,c3⟩:=ct2 (bat s (m'+1)) bm k3
   rw[c2]
   refine⟨_,zst q _ hq26 c3, .inr ?_⟩
   simp only[vlF]
   rw[hv];simp[k3]
 ·have h0:n=0:=by omega
  rw[hfr,h0];simp[vlF]
 ·have hn0:n≠0:=by omega
  have hm:m=n:=by omega
  have hv:vlF s n=some q:=by
   rcases hv with h|h
   ·omega
   ·rw[←hm];exact h
  have hbd:=z8r s n q hv (by omega)
  have hq32:q<4294967296:=by
   rcases n with _|_|_|_|_|n<;>simp at hbd<;>omega
  rw[hv]at hfr
  simp only at hfr
  refine⟨by omega,λk3=> ?_,λk3=>⟨by omega,λk4=> ?_,λk4=> ?_⟩⟩
  ·rw[hfr,if_pos (.inr (.inl k3))];rfl
  ·rw[hfr,if_pos (.inr (.inr (by omega)))];rfl
  ·rw[hfr,if_neg]
   rw[k3];simp;omega
def zip(s:ByteArray):frt s<=s.size:=by
 unfold frt
 split
 ·omega
 ·split
  ·omega
  ·split<;>omega
def z3v:∀(f g:Nat) (s:ByteArray),s.size<=f->s.size<=g->z8s f s=z8s g s
  |0,0,s,_,_=>rfl
  |0,g+1,s,h,_=>by rw[z8s,z8s,if_pos (by omega)]
  |f+1,0,s,_,h=>by rw[z8s,z8s,if_pos (by omega)]
  | f +1,g+1,s,h1,h2=>by
    rw[z8s,z8s]
    split
    · rfl
    · split
      · rfl
      · exact z3v f g _ (by simp;omega) (by simp;omega)
def z5h(s:ByteArray) (h:0<s.size):vld s=if frt s=0 then false else vld (s.extract (frt s) s.size):=by
 unfold vld
 obtain⟨f,hf⟩:∃f,s.size=f+1:=⟨s.size- 1,by omega⟩
 rw[hf,z8s,if_neg (by omega)]
 split
 ·rfl
 ·rw[hf]
  refine z3v _ _ _ ?_ (Nat.le_refl _)
  simp;omega
def zft(s:ByteArray) (h:s.size=0):vld s=true:=by unfold vld;rw[h];rfl
def zb5(s:ByteArray):qr8 P (zjz) Go.Proofs.Tryd.f70 z55 (zdy) s=(size s<(1000000:Nat)->(s=s/\(size s<=size s/\vld s=vld s)/\True)/\∀(s_1:ByteArray),size s_1<=size s/\vld s_1=vld s->(decide ((0:Int)<(↑(size s_1):Int))=true->s_1=s_1/\((0:Nat)<size s_1/\size s_1<(1000000:Nat))/\(decide ((↑(frt s_1):Int)=(0:Int))=true->vld s=false/\True)/\(decide ((↑(frt s_1):Int)=(0:Int))=false->((0:Int)<=(↑(frt s_1):Int)/\(↑(frt s_1):Int)<=(↑(size s_1):Int))/\ByteArray.extract s_1 (toNat (↑(frt s_1):Int)) (size s_1)=ByteArray.extract s_1 (toNat (↑(frt s_1):Int)) (size s_1)/\(size (ByteArray.extract s_1 (toNat (↑(frt s_1):Int)) (size s_1))<=size s/\vld (ByteArray.extract s_1 (toNat (↑(frt s_1):Int)) (size s_1))=vld s)/\size (ByteArray.extract s_1 (toNat (↑(frt s_1):Int)) (size s_1))<size s_1/\True))/\(decide ((0:Int)<(↑(size s_1):Int))=false->vld s=true/\True)):=by kernel_rfl
def zb6:q7w P 70 z55:=by
 refine qrb mixed (qhc (qmo za8 qqu)) (W:=zdy) Go.Proofs.Tryd.func70 (by kernel_rfl) (by decide) (by decide) (λc=>by kernel_rfl) λ(s:ByteArray)=>(zb5 s).mpr ?_
 intro h
 simp only[Int.toNat_natCast,and_true,true_and,decide_eq_true_eq,decide_eq_false_iff_not]
 refine⟨Nat.le_refl _,λt ht=>⟨λg=>⟨by omega,λg2=> ?_,λg2=> ?_⟩,λg=> ?_⟩⟩
 ·rw[←ht.2,z5h t (by omega),if_pos (by omega)]
 ·have:=zip t
  rw[←ht.2,z5h t (by omega),if_neg (by omega)]
  refine⟨by omega,⟨?_,rfl⟩,?_⟩
  ·simp;omega
  ·simp;omega
 ·rw[←ht.2];exact zft t (by omega)
section
def zn8(s:ByteArray):Nat->Nat->Nat
 |0,k=>k
 |f+1,k=>if k<s.size/\bat s k≠10 then zn8 s f (k+1)else k
def eol(s:ByteArray) (k:Nat):Nat:=zn8 s (s.size- k) k
def z0d(s:ByteArray) (k:Nat):eol s k=if k<s.size/\bat s k≠10 then eol s (k+1)else k:=by
 unfold eol
 cases h:s.size- k with
 |zero=>rw[if_neg (by omega)];rfl
 |succ f=>rw[zn8,show s.size- (k+1)=f by omega]
def z78(s:ByteArray):∀(f k:Nat),k<=s.size->s.size- k=f->k<=eol s k/\eol s k<=s.size
  |0,k,h,hf=>by rw[z0d,if_neg (by omega)];omega
  | f +1,k,h,hf=>by
    rw[z0d]
    split
    · have:=z78 s f (k+1) (by omega) (by omega)
      omega
    · omega
def clF(s:ByteArray):Nat->Nat->Option Nat
 |0,_=>none
 |f+1,k=>if bat s k=42/\bat s (k+1)=47 then some k else clF s f (k+1)
def cl(s:ByteArray) (k:Nat):Option Nat:=clF s (s.size- k) k
def z72(s:ByteArray) (k:Nat) (h:k<s.size):cl s k=if bat s k=42/\bat s (k+1)=47 then some k else cl s (k+1):=by
 unfold cl
 obtain⟨f,hf⟩:∃f,s.size- k=f+1:=⟨s.size- k- 1,by omega⟩
 rw[hf,clF,show s.size- (k+1)=f by omega]
def zcs(s:ByteArray) (k:Nat) (h:s.size<=k):cl s k=none:=by
 unfold cl
 rw[show s.size- k=0 by omega];rfl
variable {s:ByteArray}
def z0a{k:Nat} (h:bat s k≠0):k<s.size:=by
 rcases Nat.lt_or_ge k s.size with g|g
 ·exact g
 ·exact absurd (z0k g) h
def z5j(s:ByteArray):∀(f k m:Nat),s.size- k=f->cl s k=some m->k<=m/\m+2<=s.size
  |0,k,m,hf,h=>by rw[zcs s k (by omega)]at h;cases h
  | f +1,k,m,hf,h=>by
    rw[z72 s k (by omega)]at h
    split at h
    · rename_i g
      cases h
      have:=z0a (s:=s) (k:=k+1) (by omega)
      omega
    · have:=z5j s f (k+1) m (by omega) h
      omega
def spF(s:ByteArray):Nat->Nat->Bool×Nat
  |0,i=>(true,i)
  | f +1,i=>if z3o (bat s i)=true then spF s f (i+1)else if bat s i=47/\bat s (i+1)=47 then spF s f (eol s i)else if bat s i=47/\bat s (i+1)=42 then
      match cl s (i+2)with
      |some k=>spF s f (k+2)
      |none=>(false,i)
    else(true,i)
def spR(s:ByteArray) (i:Nat):Bool×Nat:=spF s (s.size+1- i) i
def z3l(s:ByteArray) (i:Nat) (h:bat s i=47/\bat s (i+1)=47):i+2<=eol s i/\eol s i<=s.size:=by
 have h1:=z0a (s:=s) (k:=i+1) (by omega)
 rw[z0d,if_pos (by omega),z0d,if_pos (by omega)]
 exact z78 s _ (i+2) (by omega) rfl
def z17{k:Nat} (h:z3o (bat s k)=true):k<s.size:=by
 refine z0a λe=> ?_
 rw[e]at h;cases h
def z0s(s:ByteArray):∀(f g i:Nat),s.size+1- i<=f->s.size+1- i<=g->i<=s.size->spF s f i=spF s g i
  |0,_,i,h,_,hi=>by omega
  |_,0,i,_,h,hi=>by omega
  | f + 1,g+1,i,h1,h2,hi=>by
    rw[spF,spF]
    split
    · rename_i h
      have:=z17 h
      exact z0s s f g _ (by omega) (by omega) (by omega)
    · split
      · rename_i h
        have:=z3l s i h
        exact z0s s f g _ (by omega) (by omega) (by omega)
      · split
        · split
          · rename_i k hk
            have:=z5j s _ _ _ rfl hk
            exact z0s s f g _ (by omega) (by omega) (by omega)
          · rfl
        · rfl
def z1w(s:ByteArray) (i:Nat) (hi:i<=s.size):spR s i=if z3o (bat s i)=true then spR s (i+1)else if bat s i=47/\bat s (i+1)=47 then spR s (eol s i)else if bat s i=47/\bat s (i+1)=42 then
   (match cl s (i+2)with
   |some k=>spR s (k+2)
   |none=>(false,i))
  else(true,i):=by
 unfold spR
 obtain⟨f,hf⟩:∃f,s.size+1- i=f+1:=⟨s.size- i,by omega⟩
 rw[hf,spF]
 split
 ·rename_i h
  have:=z17 h
  exact z0s s _ _ _ (by omega) (by omega) (by omega)
 ·split
  ·rename_i h
   have:=z3l s i h
   exact z0s s _ _ _ (by omega) (by omega) (by omega)
  ·split
   ·split
    ·rename_i k hk
     have:=z5j s _ _ _ rfl hk
     exact z0s s _ _ _ (by omega) (by omega) (by omega)
    ·rfl
   ·rfl
def z0z(s:ByteArray) (i:Nat) (h:i<s.size):s.data.toList.drop i=s[i]::s.data.toList.drop (i+1):=by
 have:s.data.toList[i]? =some s[i]:=by
  rw[Array.getElem?_toList];exact Array.getElem?_eq_getElem h
 rw[List.drop_eq_getElem?_toList_append,this];rfl
def z31(s:ByteArray) (i:Nat) (h:s.size<=i):s.data.toList.drop i=[]:=by
 apply List.drop_eq_nil_of_le
 rw[Array.length_toList];exact h
def zfs(b:UInt8) (n:Nat) (hn:n<256):(b==UInt8.ofNat n)=decide (b.toNat=n):=by
 by_cases h:b.toNat=n
 ·subst h;simp
 ·rw[decide_eq_false h]
  rw[beq_eq_false_iff_ne]
  intro e;apply h;rw[e,UInt8.toNat_ofNat'];omega
def ixB(s:ByteArray):∀(f i:Nat),i<=s.size->s.size- i=f->Lib.indexByte (s.data.toList.drop i) (UInt8.ofNat 10)=if eol s i<s.size then((eol s i- i:Nat):Int)else -1
  | 0,i,h,hf=>by
    have e:eol s i=i:=by rw[z0d,if_neg (by omega)]
    rw[z31 s i (by omega),e,if_neg (by omega)];rfl
  | f +1,i,h,hf=>by
    have hi:i<s.size:=by omega
    have ih:=ixB s f (i+1) (by omega) (by omega)
    have hle:=z78 s f (i+1) (by omega) (by omega)
    have hb:=z23 hi
    rw[z0z s i hi,Lib.indexByte,zfs _ 10 (by omega)]
    by_cases h10:s[i].toNat=10
    · have e:eol s i=i:=by rw[z0d,if_neg (by omega)]
      rw[e,if_pos (by simpa using h10),if_pos hi];simp
    · have e:eol s i=eol s (i+1):=by rw[z0d s i,if_pos (by omega)]
      rw[e,if_neg (by simpa using h10),ih]
      by_cases hl:eol s (i+1)<s.size
      · rw[if_pos hl,if_pos hl,if_neg (by simp;try omega)];omega
      · rw[if_neg hl,if_neg hl];rfl
def ixS (s:ByteArray):∀(f k:Nat),k<=s.size->s.size- k=f->Lib.index (s.data.toList.drop k) [UInt8.ofNat 42,UInt8.ofNat 47]=match cl s k with
    |some m=>((m- k:Nat):Int)
    |none=> -1
  | 0,k,h,hf=>by
    rw[z31 s k (by omega),zcs s k (by omega)];rfl
  | f + 1,k,h,hf=>by
    have ih:=ixS s f (k+1) (by omega) (by omega)
    rw[z0z s k (by omega),Lib.index,z72 s k (by omega)]
    have hp:[UInt8.ofNat 42,UInt8.ofNat 47].isPrefixOf (s[k]::s.data.toList.drop (k+1))=decide (bat s k=42/\bat s (k+1)=47):=by
      rw[List.isPrefixOf,show(UInt8.ofNat 42==s[k])=decide (s[k].toNat=42)by rw[BEq.comm];exact zfs _ 42 (by omega)]
      rw[z23 (by omega:k<s.size)]
      by_cases h2:k+1<s.size
      · rw[z0z s (k+1) h2,List.isPrefixOf,show(UInt8.ofNat 47==s[k+1])=decide (s[k+1].toNat=47)by rw[BEq.comm];exact zfs _ 47 (by omega),List.isPrefixOf,z23 h2]
        simp
      · rw[z31 s (k+1) (by omega),z0k (s:=s) (j:=k+1) (by omega)]
        simp[List.isPrefixOf]
    rw[hp,ih]
    by_cases hc:bat s k=42/\bat s (k+1)=47
    · rw[if_pos hc,decide_eq_true hc];simp
    · rw[if_neg hc,decide_eq_false hc]
      cases hcl:cl s (k+1)with
      |none=>rfl
      | some m=>
        have:=z5j s _ _ _ rfl hcl
        simp only[Bool.false_eq_true,if_false]
        rw[if_neg (by simp;try omega)];omega
def z1l:q7w P 46 z1a:=by
 refine qrg (Sen.enters_of Go.Proofs.Tryd.func46 (by kernel_rfl)) (λ⟨s,c⟩=> .int .i64 (Lib.indexByte s.data.toList (UInt8.ofNat c.toNat))) (λs I=> .sv _) λ⟨s,c⟩ F w hp hm=> ?_
 exact(Go.Proofs.Tryd.strings_IndexByte s c w).mono λe w' h=>⟨h.1,by rw[h.2];exact Below.refl _ _⟩
def zaa:q7w P 42 zcr:=by
 refine qrg (Sen.enters_of Go.Proofs.Tryd.func42 (by kernel_rfl)) (λ⟨s,p⟩=> .int .i64 (Lib.index s.data.toList p.data.toList)) (λs I=> .sv _) λ⟨s,p⟩ F w hp hm=> ?_
 obtain⟨m,hm⟩:=hm
 exact(Go.Proofs.Tryd.strings_Index s p m w hp (q28 hm)).mono λe w' h=>⟨h.1,by rw[h.2];exact Below.refl _ _⟩
def z54:Ct:={z73 (λs i=>0<=i/\i<=s.size/\s.size<100000) (λs i=> .sv (.bool (spR s i.toNat).1)) (λs i=>((spR s i.toNat).2:Nat))with mem:=λ_=>hG}
def zdx:z54.σ->WayF:=λ⟨s,i⟩=>{ann:=λ_ _ _=>some (zia s (λj=>0<=j/\j<=s.size/\spR s j.toNat=spR s i.toNat) [0,2])}
def zdo:Nat->Option Ct:=qkw [(43,z0y),(45,zee),(44,z06),(46,z1a),(42,zcr)]
end
def zn7(c:Nat):dv c<=16:=by unfold dv;split<;>(try split)<;>(try split)<;>omega
def zfy(x:Int) (h1:0<=x) (h2:x<=18446744073709551615):IntKind.u64.wrap x=x:=by
 unfold IntKind.wrap;simp[IntKind.bits,IntKind.signed];omega
def zsw:∀c<256,z01 c=true->IntKind.u8.wrap (↑c- 48)=((dv c:Nat):Int):=by decide+kernel
def zsx:∀c<256,z01 c=false->decide (97<=qeb BinOp.or IntKind.u8 (↑c) 32)=true->decide (qeb BinOp.or IntKind.u8 (↑c) 32<=102)=true->IntKind.u8.wrap (qeb BinOp.or IntKind.u8 (↑c) 32- 97)=((dv c:Nat):Int)- 10/\10<=dv c:=by decide+kernel
def zsy:∀c<256,z01 c=false->decide (97<=qeb BinOp.or IntKind.u8 (↑c) 32)=true->decide (qeb BinOp.or IntKind.u8 (↑c) 32<=102)=false->dv c=16:=by decide+kernel
def zsz:∀c<256,z01 c=false->decide (97<=qeb BinOp.or IntKind.u8 (↑c) 32)=false->dv c=16:=by decide+kernel
section
variable (x0 x1:Int)
 abbrev zpo:=(0<=IntKind.wrap u8 (x0- 48)/\IntKind.wrap u8 (x0- 48)<=18446744073709551615)/\(↑(dv (toNat x0)):Int)=IntKind.wrap u8 (x0- 48)/\decide ((↑(dv (toNat x0)):Int)<x1)=decide (IntKind.wrap u8 (x0- 48)<x1)/\True
 abbrev zkg:=qeb BinOp.or u8 x0 32- 97
 def zpn:=(0<=IntKind.wrap u8 (zkg x0)/\IntKind.wrap u8 (zkg x0)<=18446744073709551615)/\(↑(dv (toNat x0)):Int)=IntKind.wrap u64 (IntKind.wrap u8 (zkg x0)+10)/\decide ((↑(dv (toNat x0)):Int)<x1)=decide (IntKind.wrap u64 (IntKind.wrap u8 (zkg x0)+10)<x1)/\True
 def zo4:=(↑(dv (toNat x0)):Int)=16/\decide ((↑(dv (toNat x0)):Int)<x1)=decide (16<x1)/\True
 def zpm:=Ji (qeb BinOp.or u8 x0 (32:Int)<=102) (zpn x0 x1) (zo4 x0 x1)
 def zpl:=Ji (97<=qeb BinOp.or u8 x0 32) (zpm x0 x1) (zo4 x0 x1)
 def zpk:=x0=x0/\(0<=x0/\x0<256)/\(z01 (toNat x0)=true->zpo x0 x1)/\(z01 (toNat x0)=false->zpl x0 x1)
end
def z8q(c B:Int):qr8 P (qkw [(49,z2m)]) Go.Proofs.Tryd.f69 z70 (λ_=>{}) ⟨c,B⟩=((0<=c/\c<256)/\0<=B/\B<=16->zpk c B):=by kernel_rfl
def zb7:=λc B=>Eq.trans (z8q c B) (by delta Ji Jt Jf zpo zkg zpn zo4 zpm zpl zpk;exact rfl)
def zb8:q7w P 69 z70:=by
 refine qrb mixed (qhc (qmo z1r qqu)) (W:=λ_=>{}) Go.Proofs.Tryd.func69 (by kernel_rfl) (by decide) (by decide) (λ⟨c,B⟩=>by kernel_rfl) λ⟨c,B⟩=>(zb7 c B).mpr ?_
 rintro⟨⟨h1,h2⟩,h3,h4⟩
 obtain⟨n,rfl⟩:=Int.eq_ofNat_of_zero_le h1
 obtain⟨b,rfl⟩:=Int.eq_ofNat_of_zero_le h3
 have hn:n<256:=by omega
 have w:=zn7 n
 have out:dv n=16->((dv n:Nat):Int)=16/\decide (((dv n:Nat):Int)<(b:Nat))=decide ((16:Int)<(b:Nat)):=λe=>by
  rw[e];exact⟨rfl,rfl⟩
 simp only[Int.toNat_natCast,and_true,true_and]
 refine⟨⟨h1,h2⟩,λg=> ?_,λg=>⟨λg2=>⟨λg3=> ?_,λg3=> ?_⟩,λg2=> ?_⟩⟩
 ·rw[zsw n hn g]
  refine⟨by omega,rfl,?_⟩
  simp
 ·obtain⟨a1,a2⟩:=zsx n hn g g2 g3
  rw[a1]
  have:IntKind.u64.wrap (((dv n:Nat):Int)- 10+10)=(dv n:Nat):=by
   rw[show(((dv n:Nat):Int)- 10+10)=(dv n:Nat)by omega];exact zfy _ (by omega) (by omega)
  rw[this]
  refine⟨by omega,rfl,?_⟩
  simp
 ·exact out (zsy n hn g g2 g3)
 ·exact out (zsz n hn g g2)
section
variable (x0 x1:Int)
 abbrev zmr:=(↑(Option.getD (esc (toNat x0)) 0):Int)
 def zpt:=(zmr x0)=x0/\Option.isSome (esc (toNat x0))=true/\True
 def zps:=(zmr x0)=10/\Option.isSome (esc (toNat x0))=true/\True
 def zpr:=(zmr x0)=0/\Option.isSome (esc (toNat x0))=false/\True
 def zpp:=Ji (x0=110) (zps x0) (zpr x0)
 def zmq:=Ji (x0=x1) (zpt x0) (zpp x0)
 def zpu:=Ji (x0=34) (zmq x0 34) (zmq x0 39)
 def zpq:=Ji (x0=92) (zmq x0 92) (zpu x0)
end
def z4b(c:Int):qr8 P ((λ_=>none)) Go.Proofs.Tryd.f71 z2v (λ_=>{}) c=(0<=c/\c<256->zpq c):=by kernel_rfl
def z5k:=λc=>Eq.trans (z4b c) (by delta Ji Jt Jf zmr zpt zps zpr zpp zmq zpu zpq;exact rfl)
def z5l:q7w P 71 z2v:=by
  refine qrb mixed z07 (W:=λ_=>{}) Go.Proofs.Tryd.func71 (by kernel_rfl) (by decide) (by decide) (λc=>by kernel_rfl) λ(c:Int)=>(z5k c).mpr ?_
  rintro⟨h1,h2⟩
  obtain⟨n,rfl⟩:=Int.eq_ofNat_of_zero_le h1
  simp only[decide_eq_true_eq,decide_eq_false_iff_not,Int.toNat_natCast]
  repeat' first|intro _|apply And.intro
  all_goals first
    |trivial
    | (exfalso;omega)
    | (have e:n=92:=by omega
       subst e;rfl)
    | (have e:n=34:=by omega
       subst e;rfl)
    | (have e:n=39:=by omega
       subst e;rfl)
    | (have e:n=110:=by omega
       subst e;rfl)
    | (unfold esc;rw[if_neg (by omega),if_neg (by omega)];rfl)
def z33(s p:ByteArray):qr8 P ((λ_=>none)) Go.Proofs.Tryd.f67 z06 (λ_=>{}) ⟨s,p⟩=(True->(decide ((↑(size p):Int)<=(↑(size s):Int))=true->((0:Int)<=(↑(size p):Int)/\(↑(size p):Int)<=(↑(size s):Int))/\z0h s p=decide (ByteArray.extract s (0:Nat) (toNat (↑(size p):Int))=p)/\True)/\(decide ((↑(size p):Int)<=(↑(size s):Int))=false->z0h s p=false/\True)):=by kernel_rfl
def z34:q7w P 67 z06:=by
 refine qrb mixed z07 (W:=λ_=>{}) Go.Proofs.Tryd.func67 (by kernel_rfl) (by decide) (by decide) (λ⟨s,p⟩=>by kernel_rfl) λ⟨s,p⟩=>(z33 s p).mpr ?_
 intro _
 simp only[decide_eq_true_eq,decide_eq_false_iff_not,and_true,Int.toNat_natCast,z0h]
 refine⟨λh=>⟨⟨by omega,h⟩,?_⟩,λh=> ?_⟩
 ·simp;omega
 ·simp;omega
def z35(s p:ByteArray):qr8 P (qkw [(67,z06)]) Go.Proofs.Tryd.f44 z06 (λ_=>{}) ⟨s,p⟩=(True->s=s/\p=p/\True/\z0h s p=z0h s p/\True):=by kernel_rfl
def z3m:q7w P 44 z06:=by
 refine qrb mixed (qhc (qmo z34 qqu)) (W:=λ_=>{}) Go.Proofs.Tryd.func44 (by kernel_rfl) (by decide) (by decide) (λ⟨s,p⟩=>by kernel_rfl) λ⟨s,p⟩=>(z35 s p).mpr ?_
 intro _
 exact⟨rfl,rfl,trivial,rfl,trivial⟩
def z1s(s:ByteArray) (n:Nat):(s.extract n s.size).data.toList=s.data.toList.drop n:=by
 rw[ByteArray.data_extract,Array.toList_extract,List.extract_eq_take_drop,List.take_of_length_le]
 rw[List.length_drop,Array.length_toList];exact Nat.le_refl _
def z7d(s:ByteArray) (n a b:Nat) (hn:n<=s.size) (ha:a<256/\0<a) (hb:b<256/\0<b):z0h (s.extract n s.size) (mkS [a,b])=decide (bat s n=a/\bat s (n+1)=b):=by
 unfold z0h
 rw[Bool.eq_iff_iff]
 simp only[Bool.and_eq_true,decide_eq_true_eq]
 have hsz:(mkS [a,b]).size=2:=rfl
 rw[hsz,ByteArray.size_extract]
 constructor
 ·rintro⟨h1,h2⟩
  have e:((s.extract n s.size).extract 0 2).data.toList=(mkS [a,b]).data.toList:=by rw[h2]
  rw[ByteArray.data_extract,Array.toList_extract,List.extract_eq_take_drop,z1s,z0z s n (by omega),z0z s (n+1) (by omega)]at e
  simp[mkS]at e
  rw[z23 (by omega:n<s.size),z23 (by omega:n+1<s.size),e.1,e.2,UInt8.toNat_ofNat',UInt8.toNat_ofNat']
  omega
 ·rintro⟨h1,h2⟩
  have p1:=z0a (s:=s) (k:=n) (by omega)
  have p2:=z0a (s:=s) (k:=n+1) (by omega)
  refine⟨by omega,?_⟩
  apply ByteArray.ext;apply Array.toList_inj.mp
  rw[ByteArray.data_extract,Array.toList_extract,List.extract_eq_take_drop,z1s,z0z s n (by omega),z0z s (n+1) (by omega)]
  rw[z23 p1]at h1;rw[z23 p2]at h2
  subst h1;subst h2
  simp[mkS]
section
variable (x0:ByteArray) (x1 x2:Int) (x3:Nat->Option Obj) (x4:Prop)
 abbrev z90:=0<=x1/\x1<=(↑(size x0):Int)/\x4
 def zg1:=∃(i0:Int),q88 x3 (Addr.mk 1 0 none)=some (int i64 i0)
 def zko:=True/\zg1 x3
 def z64:=(∀i0,(zko i0)->zko i0)
 abbrev zbk:=(↑(bat x0 (toNat (x1+0))):Int)
 def zo6:=Jb (x1+1)/\x0=x0/\x1+1=x1+1/\z64/\(0<=x1+1/\x1+1<=(↑(size x0):Int)/\spR x0 (toNat (x1+1))=spR x0 (toNat x2))/\size x0- toNat (x1+1)<size x0- toNat x1/\True
 def zbl:=x0=x0/\x1=x1/\(0<=x1/\x1<=(↑(size x0):Int))/\x4
 def zbi:=zbl x0 x1 (ByteArray.extract x0 (toNat x1) (size x0)=ByteArray.extract x0 (toNat x1) (size x0)/\x4)
 abbrev z4m:=ByteArray.extract x0 (toNat x1) (size x0)
 abbrev z3b:=Array.toList (ByteArray.data (z4m x0 x1))
 abbrev z3c:=(↑(size (z4m x0 x1)):Int)
 def zkj:=zbl x0 x1 (Jb (x1+(z3c x0 x1))/\x0=x0/\x1+(z3c x0 x1)=x1+(z3c x0 x1)/\z64/\(0<=x1+(z3c x0 x1)/\x1+(z3c x0 x1)<=(↑(size x0):Int)/\spR x0 (toNat (x1+(z3c x0 x1)))=spR x0 (toNat x2))/\size x0- toNat (x1+(z3c x0 x1))<size x0- toNat x1/\True)
 def zkh:=Jb (x1+Lib.indexByte (z3b x0 x1) (UInt8.ofNat 10))/\x0=x0/\x1+Lib.indexByte (z3b x0 x1) (UInt8.ofNat 10)=x1+Lib.indexByte (z3b x0 x1) (UInt8.ofNat 10)/\z64/\(0<=x1+Lib.indexByte (z3b x0 x1) (UInt8.ofNat 10)/\x1+Lib.indexByte (z3b x0 x1) (UInt8.ofNat 10)<=(↑(size x0):Int)/\spR x0 (toNat (x1+Lib.indexByte (z3b x0 x1) (UInt8.ofNat 10)))=spR x0 (toNat x2))/\size x0- toNat (x1+Lib.indexByte (z3b x0 x1) (UInt8.ofNat 10))<size x0- toNat x1/\True
 def zpy:=zbi x0 x1 ((10:Int)=10/\((0:Int)<=10/\(10:Int)<256)/\Ji (Lib.indexByte (z3b x0 x1) (UInt8.ofNat 10)<0) (zkj x0 x1 x2) (zkh x0 x1 x2))
 abbrev zbh:=Array.toList (ByteArray.data (ByteArray.extract (z4m x0 x1) 2 (size (z4m x0 x1))))
 abbrev zbj:=Array.toList (ByteArray.data (mkS [42,47]))
 def zkm:=(spR x0 (toNat x1)).1=false/\x0=x0/\Int.ofNat (spR x0 (toNat x1)).2=x2/\True
 abbrev ze1:=Lib.index (zbh x0 x1) (zbj)+4
 def zpz:=Jb (Lib.index (zbh x0 x1) (zbj)+4)/\Jb (x1+(ze1 x0 x1))/\x0=x0/\x1+(ze1 x0 x1)=x1+(ze1 x0 x1)/\z64/\(0<=x1+(ze1 x0 x1)/\x1+(ze1 x0 x1)<=(↑(size x0):Int)/\spR x0 (toNat (x1+(ze1 x0 x1)))=spR x0 (toNat x2))/\size x0- toNat (x1+(ze1 x0 x1))<size x0- toNat x1/\True
 def zpx:=zbl x0 x1 (((0:Int)<=2/\2<=(z3c x0 x1))/\ByteArray.extract (z4m x0 x1) 2 (size (z4m x0 x1))=ByteArray.extract (z4m x0 x1) 2 (size (z4m x0 x1))/\mkS [42,47]=mkS [42,47]/\size (ByteArray.extract (z4m x0 x1) 2 (size (z4m x0 x1)))<4294967281/\(∀i0,(zko i0)->zg1 i0)/\Ji (Lib.index (zbh x0 x1) (zbj)<0) (zkm x0 x2 x1) (zpz x0 x1 x2))
 def zkn:=(spR x0 (toNat x1)).1=true/\x0=x0/\Int.ofNat (spR x0 (toNat x1)).2=x2/\True
 def zpw:=zbi x0 x1 (mkS [47,42]=mkS [47,42]/\True/\(z0h (z4m x0 x1) (mkS [47,42])=true->zpx x0 x1 x2)/\(z0h (z4m x0 x1) (mkS [47,42])=false->zkn x0 x2 x1))
 def zpv:=zbi x0 x1 (mkS [47,47]=mkS [47,47]/\True/\(z0h (z4m x0 x1) (mkS [47,47])=true->zpy x0 x1 x2)/\(z0h (z4m x0 x1) (mkS [47,47])=false->zpw x0 x1 x2))
 def zo5:=Ji ((zbk x0 x1)=32) (zo6 x0 x1 x2) (zpv x0 x1 x2)
 def zkl:=Ji ((zbk x0 x1)<=13) (zo6 x0 x1 x2) (zo5 x0 x1 x2)
 def zkk:=(0:Int)=0/\x0=x0/\x1=x1/\(z90 x0 x1 (size x0<1000000/\(0:Int)<=0/\(0:Int)<1000000))/\Ji (9<=(zbk x0 x1)) (zkl x0 x1 x2) (zo5 x0 x1 x2)
 def zki:=(x0=x0/\x1=x1/\z64/\(z90 x0 x1 (spR x0 (toNat x1)=spR x0 (toNat x1)))/\True)/\∀(i1:Int),z90 x0 i1 (spR x0 (toNat i1)=spR x0 (toNat x1))->zkk x0 i1 x1
end
def z8e(s:ByteArray) (i:Int):qr8 P (zdo) Go.Proofs.Tryd.f22 z54 (zdx) ⟨s,i⟩=(z90 s i (size s<100000)->(∃(p:Pub),zko p)->zki s i):=by kernel_rfl
def zau:=λs i=>Eq.trans (z8e s i) (by delta Ji Jb Jt Jf z90 zg1 zko z64 zbk zo6 zbl zbi z4m z3b z3c zkj zkh zpy zbh zbj zkm ze1 zpz zpx zkn zpw zpv zo5 zkl zkk zki;exact rfl)
def z8j:∀g C,zdo g=some C->q7w P g C:=qhc (qmo z0l (qmo zf4 (qmo z3m (qmo z1l (qmo zaa qqu)))))
def zev(c:Nat):z3o c=true↔(9<=c/\c<=13)\/c=32:=by simp[z3o]
def zav:q7w P 22 z54:=by
  refine qrb mixed z8j (W:=zdx) Go.Proofs.Tryd.func22 (by kernel_rfl) (by decide) (by decide) (λ⟨s,i⟩=>by kernel_rfl) λ⟨s,i⟩=>(zau s i).mpr ?_
  rintro⟨h1,h2,h3⟩ hp
  obtain⟨i,rfl⟩:=Int.eq_ofNat_of_zero_le h1
  refine⟨⟨rfl,rfl,λp h=>h,⟨h1,h2,rfl⟩,trivial⟩,?_⟩
  rintro j ⟨g1,g2,g3⟩
  obtain⟨n,rfl⟩:=Int.eq_ofNat_of_zero_le g1
  have hn:n<=s.size:=by omega
  have step:=z1w s n hn
  have hs:(s.extract n s.size).size=s.size- n:=by rw[ByteArray.size_extract];omega
  have e2:((s.extract n s.size).extract 2 (s.size- n)).data.toList=s.data.toList.drop (n+2):=by
    rw[ByteArray.data_extract,Array.toList_extract,List.extract_eq_take_drop,z1s,List.drop_drop,List.take_of_length_le]
    rw[List.length_drop,Array.length_toList];show s.size- (n+2)<=_;omega
  have hsp:=zev (bat s n)
  simp only[decide_eq_true_eq,decide_eq_false_iff_not,and_true,true_and,Int.toNat_natCast,Int.add_zero,z7d s n 47 47 hn (by omega) (by omega),z7d s n 47 42 hn (by omega) (by omega),z1s,hs,e2,ixB s _ n hn rfl]at g3⊢
  have spc:z3o (bat s n)=true->spR s (n+1)=spR s i/\n+1<=s.size:=λq=>by
    have:=z17 q
    rw[if_pos q]at step
    exact⟨step ▸ g3,by omega⟩
  refine⟨by omega,λa1=>⟨λa2=> ?a,λa2=>⟨λa3=> ?b,λa3=> ?x⟩⟩,λa1=>⟨λa3=> ?c,λa3=> ?y⟩⟩
  case a|b|c=>
    obtain⟨q1,q2⟩:=spc (hsp.mpr (by omega))
    exact⟨by omega,λp h=>h,⟨by omega,by omega,by rw[show((n:Int)+1).toNat=n+1 by omega];exact q1⟩,by omega⟩
  case x|y=>
    have ns:¬z3o (bat s n)=true:=λq=>by have:=hsp.mp q;omega
    rw[if_neg ns]at step
    refine⟨by omega,λc1=>⟨by omega,by omega,λd1=> ?_,λd1=> ?_⟩,λc1=>⟨by omega,λc2=>⟨by omega,?_,?_,λp h=>h,λd1=> ?_,λd1=> ?_⟩,λc2=> ?_⟩⟩
    · have ge:=z3l s n c1
      have nlt:¬eol s n<s.size:=λh=>by rw[if_pos h]at d1;omega
      rw[if_pos c1]at step
      rw[show((n:Int)+((s.size- n:Nat):Int)).toNat=s.size by omega]
      have e:eol s n=s.size:=by omega
      rw[e]at step
      exact⟨by omega,by omega,λp h=>h,⟨by omega,by omega,step ▸ g3⟩,by omega⟩
    · have ge:=z3l s n c1
      have nlt:eol s n<s.size:=by
        rcases Nat.lt_or_ge (eol s n) s.size with h|h
        · exact h
        · rw[if_neg (by omega)]at d1;omega
      rw[if_pos nlt]at*
      rw[if_pos c1]at step
      rw[show((n:Int)+((eol s n- n:Nat):Int)).toNat=eol s n by omega]
      exact⟨by omega,λp h=>h,⟨by omega,by omega,step ▸ g3⟩,by omega⟩
    · have p1:=z0a (s:=s) (k:=n+1) (by omega)
      omega
    · rw[ByteArray.size_extract];omega
    · have p1:=z0a (s:=s) (k:=n+1) (by omega)
      have ix:=ixS s _ (n+2) (by omega) rfl
      rw[show(mkS [42,47]).data.toList=[UInt8.ofNat 42,UInt8.ofNat 47]from rfl,ix]at d1
      rw[if_neg c1,if_pos c2]at step
      cases hc:cl s (n+2)with
      |some m=>rw[hc]at d1;simp only[]at d1;omega
      | none=>
        rw[hc]at step
        rw[←g3,step];exact⟨rfl,rfl⟩
    · have p1:=z0a (s:=s) (k:=n+1) (by omega)
      have ix:=ixS s _ (n+2) (by omega) rfl
      rw[show(mkS [42,47]).data.toList=[UInt8.ofNat 42,UInt8.ofNat 47]from rfl,ix]at d1⊢
      rw[if_neg c1,if_pos c2]at step
      cases hc:cl s (n+2)with
      |none=>rw[hc]at d1;simp only[]at d1;omega
      | some m=>
        rw[hc]at step
        have:=z5j s _ _ _ rfl hc
        simp only[]
        rw[show((n:Int)+(((m- (n+2):Nat):Int)+4)).toNat=m+2 by omega]
        have step:spR s n=spR s (m+2):=step
        exact⟨by omega,by omega,λp h=>h,⟨by omega,by omega,step ▸ g3⟩,by omega⟩
    · rw[if_neg c1,if_neg c2]at step
      rw[←g3,step];exact⟨rfl,rfl⟩
def nbK(e k:Nat):Nat:=if e=0 then k else 0
def z2w:Ct:={z73 (λs i=>0<=i/\i<s.size/\s.size<100000/\z01 (bat s i.toNat)=true) (λs i=> .tup [zml (nbK (nbR s i.toNat).1 2) (mkS []) (nbR s i.toNat).2.1 (nbK (nbR s i.toNat).1 i.toNat), .sv (.int .i64 ((nbR s i.toNat).1:Nat))]) (λs i=>((nbR s i.toNat).2.2:Nat))with}
def sl3 (t:T AV):Option (Int×Bool×Int):=match slI t 6 with
  | some n=>match t.get 7 with
    | some a=>match gb a with
      | some b=>match slI t 8 with
        |some i=>some (n,b,i)
        |none=>none
      |none=>none
    |none=>none
  |none=>none
def z5r(s:ByteArray) (i:Int) (n:Int) (o:Bool) (j:Int):Prop:=∃V:Nat,n=((V % 18446744073709551616:Nat):Int)/\o=decide (18446744073709551616<=V)/\0<=j/\i+j<=s.size/\dgE s (nbB s i.toNat) (i+j).toNat V=dgE s (nbB s i.toNat) (i.toNat+nbO s i.toNat) 0
def z8u:z2w.σ->WayF:=λ⟨s,i⟩=>{
 ann:=λ_ _ _=>some {σ:=Int×Bool×Int,pre:=λ⟨n,o,j⟩=>z5r s i n o j,find:=some λt _=>sl3 t,t:=λ⟨n,o,j⟩=>[(6, .sv (.int .u64 n)),(7, .sv (.bool o)),(8, .sv (.int .i64 j))],h:=λ_=>[],more:=0,μ:=λ⟨n,o,j⟩=>s.size- (i+j).toNat,keep:=[0,2,4,5]}
 cut:=λr _ _=>match r with
  |9=>some {σ:=Unit,find:=some λ_ _=>some (),t:=λ_=>[(5, .sv (.int .u64 (nbB s i.toNat:Nat))),(8, .sv (.int .i64 (nbO s i.toNat:Nat)))],h:=λ_=>[],more:=0,μ:=λ_=>0,keep:=[0,2,4,6,7]}
  |_=>none}
def z8i:Nat->Option Ct:=qkw [(43,z0y),(69,z70),(47,z24),(49,z2m)]
def txR(s:ByteArray) (q i:Nat):Nat×ByteArray×Nat:=match txE s q (i+1) []with
 |some (l,to)=>if vld (bs l)=true then(0,bs l,to)else(2,mkS [],i)
 |none=>(2,mkS [],i)
def za0:Ct where
  σ:=ByteArray×Int×Int
  args:=λ⟨s,i,q⟩=>[.ptr 1 0, .sv (.int .u8 q)]
  h:=λ⟨s,i,q⟩=>cur s i
  m:=2
  pre:=λ⟨s,i,q⟩=>0<=i/\i<s.size/\s.size<100000/\(q=34\/q=39)
  find:=some λl h=>match l with
    | [.ptr id _,a]=>match gi a with
      | some (_,d)=>match z74 h id with
        |some (s,i)=>some (s,i,d)
        |none=>none
      |none=>none
    |_=>none
  r:=λ⟨s,i,q⟩=> .tup [zml (nbK (txR s q.toNat i.toNat).1 3) (txR s q.toNat i.toNat).2.1 0 (nbK (txR s q.toNat i.toNat).1 i.toNat), .sv (.int .i64 ((txR s q.toNat i.toNat).1:Nat))]
  h':=λ⟨s,i,q⟩=>cur s ((txR s q.toNat i.toNat).2.2:Nat)
  m':=2
  g:=λ_=>none
def zk2(t:T AV) (h:T AO):Option (List Value×Int):=match slI t 7 with
  | some j=>match t.get 6 with
    | some (.ssl id _ _ _ _)=>match h.get id with
      |some (.row _ _ vs)=>some (vs,j)
      | some (.cells _ _ _ l)=>match qa9.concs l with
        |some vs=>some (vs,j)
        |none=>none
      |_=>none
    |some .nsl=>some ([],j)
    |_=>none
  |none=>none
def z8o(s:ByteArray) (i q:Int) (vs:List Value) (j:Int):Prop:=∃l:List Nat,vs=q1z (bs l)/\(∀c∈l,c<256)/\1<=j/\i+j<=s.size+1/\l.length<=j.toNat/\txE s q.toNat (i+j).toNat l=txE s q.toNat (i.toNat+1) []
def zkd:za0.σ->WayF:=λ⟨s,i,q⟩=>{
 ann:=λ_ _ _=>some {σ:=List Value×Int,pre:=λ⟨vs,j⟩=>z8o s i q vs j,find:=some zk2,t:=λ⟨vs,j⟩=>[(6, .ssl 3 0 vs.length 1 4),(7, .sv (.int .i64 j))],h:=λ⟨vs,j⟩=>[(3, .row 5 0 vs)],more:=2,μ:=λ⟨vs,j⟩=>s.size+1- (i+j).toNat,keep:=[0,1,4]}}
def zjy:Nat->Option Ct:=qkw [(43,z0y),(70,z55),(71,z2v)]
def sgs:List Nat:=[123,125,40,41,91,93,61,59,44,60,62,45]
def wdR(s:ByteArray) (i:Nat):Nat×(Nat×ByteArray×Nat×Nat)×Nat:=
 if i=s.size then(0,(5,mkS [],0,i),i)else
 if isLet (bat s i)=true\/(bat s i=46/\isLet (bat s (i+1))=true)then(0,(1,s.extract i (nmE s (i+1)),0,i),nmE s (i+1))else
 if z01 (bat s i)=true then((nbR s i).1,(nbK (nbR s i).1 2,mkS [],(nbR s i).2.1,nbK (nbR s i).1 i),(nbR s i).2.2)else
 if bat s i=34\/bat s i=39 then((txR s (bat s i) i).1,(nbK (txR s (bat s i) i).1 3,(txR s (bat s i) i).2.1,0,nbK (txR s (bat s i) i).1 i),(txR s (bat s i) i).2.2)else
 if bat s i∈sgs then(0,(4,mkS [bat s i],0,i),i+1)else(2,(0,mkS [],0,0),i)
def tkA(x:Nat×ByteArray×Nat×Nat):AV:=zml x.1 x.2.1 x.2.2.1 x.2.2.2
def zef:Ct:=z73 (λs i=>0<=i/\i<=s.size/\s.size<100000) (λs i=> .tup [tkA (wdR s i.toNat).2.1, .sv (.int .i64 ((wdR s i.toNat).1:Nat))]) (λs i=>((wdR s i.toNat).2.2:Nat))
def zk0:Nat->Option Ct:=qkw [(43,z0y),(47,z24),(49,z2m),(48,z9z),(50,z2w),(51,za0),(46,z1a)]
def tn1(n:Nat):((n:Int)+1).toNat=n+1:=by omega
def tn2(n:Nat):((n:Int)+2).toNat=n+2:=by omega
def tnn(n m:Nat):((n:Int)+(m:Nat)).toNat=n+m:=by omega
def z0p(s:ByteArray) (B j v:Nat) (hB:B<=16):dgE s B j v=if dv (bat s j)<B then dgE s B (j+1) (v*B+dv (bat s j))else(j,v):=by
  unfold dgE
  cases h:s.size- j with
  | zero=>
    rw[z0k (by omega),if_neg (by show¬(16<B);omega)];rfl
  |succ f=>rw[dgF,show s.size- (j+1)=f by omega]
def zd9(s:ByteArray) (n:Nat):nbB s n=8\/nbB s n=10\/nbB s n=16:=by
 unfold nbB;split<;>(try split)<;>simp
def orx:∀c<256,decide (qeb BinOp.or IntKind.u8 (c:Nat) 32=120)=decide (c=120\/c=88):=by decide+kernel
def zbe(x:Int):IntKind.u64.wrap x=x % 18446744073709551616:=by
 unfold IntKind.wrap;simp[IntKind.bits,IntKind.signed]
def zjd(V v B:Nat) (hB:B=8\/B=10\/B=16) (hv:v<B):IntKind.u64.wrap (IntKind.u64.wrap (((V % 18446744073709551616:Nat):Int)*(B:Nat))+(v:Nat))=(((V*B+v) % 18446744073709551616:Nat):Int):=by
 rw[zbe,zbe]
 rcases hB with rfl|rfl|rfl<;>omega
def zjb(V v B:Nat) (hB:B=8\/B=10\/B=16) (hv:v<B) (hV:¬18446744073709551616<=V):decide (IntKind.u64.wrap (Int.tdiv (IntKind.u64.wrap (18446744073709551615- (v:Nat))) (B:Nat))<((V % 18446744073709551616:Nat):Int))=decide (18446744073709551616<=V*B+v):=by
 rw[decide_eq_decide,zbe,zbe,Int.tdiv_eq_ediv_of_nonneg (by omega)]
 rcases hB with rfl|rfl|rfl<;>omega
def z62:∀g C,z8i g=some C->q7w P g C:=qhc (qmo z0l (qmo zb8 (qmo z26 (qmo z1r qqu))))
section
variable (x0:ByteArray) (x1:Int) (x2:Int×Bool×Int) (x3 x4:Int) (x5:Prop)
 abbrev zbm:=x3=x3/\x0=x0/\x1=x1/\(0<=x1/\x1<=(↑(size x0):Int)/\size x0<1000000/\0<=x3/\x3<1000000)/\x5
 abbrev z3w:=(↑(bat x0 (toNat (x1+x3))):Int)
 abbrev z11:=(↑(nbB x0 (toNat x1)):Int)
 def z91:=(z11 x0 x1)=x3/\x1=x1/\(↑(nbO x0 (toNat x1)):Int)=x4/\x0=x0/\x1=x1/\True/\True
 def zkr:=zbm x0 x1 1 (Ji (qeb BinOp.or u8 (z3w x0 x1 1) (32:Int)=120) (z91 x0 x1 16 2) (z91 x0 x1 8 1))
 def zq6:=zbm x0 x1 2 ((z3w x0 x1 2)=(z3w x0 x1 2)/\(16:Int)=16/\((0<=(z3w x0 x1 2)/\(z3w x0 x1 2)<256)/\(0:Int)<=16/\(16:Int)<=16)/\Ji ((↑(dv (toNat (z3w x0 x1 2))):Int)<16) (zkr x0 x1) (z91 x0 x1 8 1))
 abbrev z0u:=(↑(bat x0 (toNat (x1+x2.2.2))):Int)
 def zg2:=x2.2.2=x2.2.2/\x0=x0/\x1=x1/\(0<=x1/\x1<=(↑(size x0):Int)/\size x0<1000000/\0<=x2.2.2/\x2.2.2<1000000)/\(z0u x0 x1 x2)=(z0u x0 x1 x2)/\x5
 def zbo:=(0<=(z0u x0 x1 x2)/\(z0u x0 x1 x2)<256)
 abbrev z4n:=(nbR x0 (toNat x1)).1
 def zkt:=(↑(nbK (z4n x0 x1) 2):Int)=0/\mkS []=mkS []/\(↑(nbR x0 (toNat x1)).2.1:Int)=0/\(↑(nbK (z4n x0 x1) (toNat x1)):Int)=0/\(↑(z4n x0 x1):Int)=x3/\x0=x0/\Int.ofNat (nbR x0 (toNat x1)).2.2=x1/\True
 def zks:=Jb (x1+x2.2.2)/\(↑(nbK (z4n x0 x1) 2):Int)=2/\mkS []=mkS []/\(↑(nbR x0 (toNat x1)).2.1:Int)=x2.1/\(↑(nbK (z4n x0 x1) (toNat x1)):Int)=x1/\(↑(z4n x0 x1):Int)=0/\x0=x0/\Int.ofNat (nbR x0 (toNat x1)).2.2=x1+x2.2.2/\True
 def zkq:=Ji ((z0u x0 x1 x2)=46) (zkt x0 x1 2) (zks x0 x1 x2)
 def zq8:=(z0u x0 x1 x2)=(z0u x0 x1 x2)/\zbo x0 x1 x2/\(z01 (toNat (z0u x0 x1 x2))=true->zkt x0 x1 2)/\(z01 (toNat (z0u x0 x1 x2))=false->zkq x0 x1 x2)
 def zq4:=zg2 x0 x1 x2 (zbo x0 x1 x2/\(isLet (toNat (z0u x0 x1 x2))=true->zkt x0 x1 2)/\(isLet (toNat (z0u x0 x1 x2))=false->zq8 x0 x1 x2))
 def zq3:=(x2.2.1=true->zkt x0 x1 3)/\(x2.2.1=false->zq4 x0 x1 x2)
 abbrev zg5:=Jb (x2.2.2+1)
 abbrev z92:=IntKind.wrap u64 (x2.1*(z11 x0 x1))+(↑(dv (toNat (z0u x0 x1 x2))):Int)
 def zg3:=(z11 x0 x1)=(z11 x0 x1)/\x1=x1/\x2.2.2+1=x2.2.2+1/\IntKind.wrap u64 (z92 x0 x1 x2)=IntKind.wrap u64 (z92 x0 x1 x2)/\x0=x0/\x1=x1/\x5
 def zg4:=size x0- toNat (x1+(x2.2.2+1))<size x0- toNat (x1+x2.2.2)/\True
 def zkp:=zg5 x2/\true=true/\zg3 x0 x1 x2 (z5r x0 x1 (IntKind.wrap u64 (z92 x0 x1 x2)) true (x2.2.2+1)/\zg4 x0 x1 x2)
 abbrev zbn:=IntKind.wrap u64 (Int.tdiv (IntKind.wrap u64 ((18446744073709551615:Int)- (↑(dv (toNat (z0u x0 x1 x2))):Int))) (z11 x0 x1))<x2.1
 def zq7:=(z11 x0 x1)≠0/\zg5 x2/\decide (zbn x0 x1 x2)=decide (zbn x0 x1 x2)/\zg3 x0 x1 x2 (z5r x0 x1 (IntKind.wrap u64 (z92 x0 x1 x2)) (decide (zbn x0 x1 x2)) (x2.2.2+1)/\zg4 x0 x1 x2)
 def zq5:=(x2.2.1=true->zkp x0 x1 x2)/\(x2.2.1=false->zq7 x0 x1 x2)
 def zq2:=zg2 x0 x1 x2 ((z11 x0 x1)=(z11 x0 x1)/\(zbo x0 x1 x2/\0<=(z11 x0 x1)/\(z11 x0 x1)<=16)/\((!decide ((↑(dv (toNat (z0u x0 x1 x2))):Int)<(z11 x0 x1)))=true->zq3 x0 x1 x2)/\((!decide ((↑(dv (toNat (z0u x0 x1 x2))):Int)<(z11 x0 x1)))=false->zq5 x0 x1 x2))
 def zq1:=(false=false/\(z11 x0 x1)=(z11 x0 x1)/\x1=x1/\(↑(nbO x0 (toNat x1)):Int)=(↑(nbO x0 (toNat x1)):Int)/\(0:Int)=0/\x0=x0/\x1=x1/\z5r x0 x1 0 false (↑(nbO x0 (toNat x1)):Int)/\True)/\∀(i0:Int×Bool×Int),z5r x0 x1 i0.1 i0.2.1 i0.2.2->zq2 x0 x1 i0
 def zq0:=(zbm x0 x1 0 (Ji ((z3w x0 x1 0)=48) (zq6 x0 x1) (z91 x0 x1 10 0)))/\∀(i0:Unit),True->zq1 x0 x1
end
def z5s(s:ByteArray) (i:Int):qr8 P (z8i) Go.Proofs.Tryd.f50 z2w (z8u) ⟨s,i⟩=(0<=i/\i<(↑(size s):Int)/\size s<100000/\z01 (bat s (toNat i))=true->zq0 s i):=by kernel_rfl
def z7y:=λs i=>Eq.trans (z5s s i) (by delta Ji Jb Jt Jf zbm z3w z11 z91 zkr zq6 z0u zg2 zbo z4n zkt zks zkq zq8 zq4 zq3 zg5 z92 zg3 zg4 zkp zbn zq7 zq5 zq2 zq1 zq0;exact rfl)
def z7z:q7w P 50 z2w:=by
 refine qrb mixed z62 (W:=z8u) Go.Proofs.Tryd.func50 (by kernel_rfl) (by decide) (by decide) (λ⟨s,i⟩=>by kernel_rfl) λ⟨s,i⟩=>(z7y s i).mpr ?_
 rintro⟨h1,h2,h3,h4⟩
 obtain⟨n,rfl⟩:=Int.eq_ofNat_of_zero_le h1
 have hB:=zd9 s n
 have b1:=z0c s (n+1)
 have b2:=z0c s (n+2)
 simp only[decide_eq_true_eq,decide_eq_false_iff_not,and_true,true_and,Int.toNat_natCast,Int.add_zero,tn1,tn2,orx _ b1]
 refine⟨⟨by omega,λa1=>⟨by omega,by omega,λa2=>⟨by omega,λa3=> ?_,λa3=> ?_⟩,λa2=> ?_⟩,λa1=> ?_⟩,λ_ _=>⟨?_,?_⟩⟩
 ·rw[show nbB s n=16 by unfold nbB;rw[if_pos (by omega),if_pos ⟨by omega,by omega⟩],show nbO s n=2 by unfold nbO;rw[if_pos (by omega),if_pos ⟨by omega,by omega⟩]]
  exact⟨rfl,rfl⟩
 ·rw[show nbB s n=8 by unfold nbB;rw[if_pos (by omega),if_neg (by omega)],show nbO s n=1 by unfold nbO;rw[if_pos (by omega),if_neg (by omega)]]
  exact⟨rfl,rfl⟩
 ·rw[show nbB s n=8 by unfold nbB;rw[if_pos (by omega),if_neg (by omega)],show nbO s n=1 by unfold nbO;rw[if_pos (by omega),if_neg (by omega)]]
  exact⟨rfl,rfl⟩
 ·rw[show nbB s n=10 by unfold nbB;rw[if_neg (by omega)],show nbO s n=0 by unfold nbO;rw[if_neg (by omega)]]
  exact⟨rfl,rfl⟩
 ·refine⟨0,rfl,rfl,by omega,?_,by rw[tnn,Int.toNat_natCast]⟩
  unfold nbO
  split
  ·rename_i g
   split
   ·rename_i g2
    have:=z0a (s:=s) (k:=n+1) (by omega)
    have:n+2<s.size:=by
     rcases Nat.lt_or_ge (n+2) s.size with h|h
     ·exact h
     ·rw[z0k h]at g2;exact absurd g2.1 (by decide)
    omega
   ·omega
  ·omega
 ·rintro⟨m,o,j⟩ ⟨V,rfl,rfl,hj,hj2,inv⟩
  obtain⟨j,rfl⟩:=Int.eq_ofNat_of_zero_le hj
  have bj:=z0c s (n+j)
  simp only[tnn,Int.toNat_natCast]at inv⊢
  have step:=z0p s (nbB s n) (n+j) V (by omega)
  have stop:¬dv (bat s (n+j))<nbB s n->nbR s n=if 18446744073709551616<=V then(3,0,n)else if(isLet (bat s (n+j))||z01 (bat s (n+j))|| (bat s (n+j)==46))=true then(2,0,n)else(0,V,n+j):=λhv=>by
   rw[if_neg hv]at step
   unfold nbR
   rw[←inv,step]
  simp only[Bool.not_eq_true',Bool.not_eq_false',decide_eq_true_eq,decide_eq_false_iff_not]at*
  have bad:isLet (bat s (n+j))=true\/z01 (bat s (n+j))=true\/bat s (n+j)=46->¬dv (bat s (n+j))<nbB s n->¬18446744073709551616<=V->nbR s n=(2,0,n):=λh hv hV=>by
   rw[stop hv,if_neg hV,if_pos (by simpa[or_assoc]using h)]
  have cont:dv (bat s (n+j))<nbB s n->∀o,o=decide (18446744073709551616<=V*nbB s n+dv (bat s (n+j)))->z5r s (n:Nat) (IntKind.u64.wrap (IntKind.u64.wrap (((V % 18446744073709551616:Nat):Int)*(nbB s n:Nat))+(dv (bat s (n+j)):Nat))) o ((j:Int)+1)/\s.size- ((n:Int)+((j:Int)+1)).toNat<s.size- (n+j):=λhv o ho=>by
   have hp:n+j<s.size:=by
    rcases Nat.lt_or_ge (n+j) s.size with h|h
    ·exact h
    ·rw[z0k h]at hv
     have:dv 0=16:=rfl
     omega
   rw[if_pos hv]at step
   refine⟨⟨V*nbB s n+dv (bat s (n+j)),zjd _ _ _ hB hv,ho,by omega,by omega,?_⟩,by omega⟩
   rw[show((n:Int)+((j:Int)+1)).toNat=n+j+1 by omega,Int.toNat_natCast,←step,inv]
  refine⟨by omega,by omega,λhv=>⟨λhV=> ?_,λhV=>⟨by omega,by omega,λa1=> ?_,λa1=>⟨by omega,λa2=> ?_,λa2=>⟨λa3=> ?_,λa3=> ?_⟩⟩⟩⟩,λhv=>⟨λhV=> ?_,λhV=> ?_⟩⟩
  ·rw[stop (by omega),if_pos hV];exact⟨rfl,rfl,rfl,rfl,rfl⟩
  ·rw[bad (.inl a1) (by omega) hV];exact⟨rfl,rfl,rfl,rfl,rfl⟩
  ·rw[bad (.inr (.inl a2)) (by omega) hV];exact⟨rfl,rfl,rfl,rfl,rfl⟩
  ·rw[bad (.inr (.inr (by omega))) (by omega) hV];exact⟨rfl,rfl,rfl,rfl,rfl⟩
  ·rw[stop (by omega),if_neg hV,if_neg (by rw[a1,a2];simpa using by omega)]
   exact⟨by omega,rfl,by simp only[];omega,rfl,rfl,show((n+j:Nat):Int)=_ by omega⟩
  ·obtain⟨c1,c2⟩:=cont (by omega) true (by
    symm;rw[decide_eq_true_eq]
    rcases hB with h|h|h<;>rw[h]<;>omega)
   exact⟨by omega,c1,c2⟩
  ·obtain⟨c1,c2⟩:=cont (by omega) _ (zjb V _ _ hB (by omega) hV)
   exact⟨by omega,by omega,c1,c2⟩
def z20(s:ByteArray) (q:Nat):∀(f g j:Nat) (acc:List Nat),s.size+1- j<=f->s.size+1- j<=g->txF s q f j acc=txF s q g j acc
  |0,0,j,acc,h,hi=>rfl
  |0,g+1,j,acc,h,hi=>by rw[txF,txF,if_neg (by omega)]
  |f+1,0,j,acc,h,hi=>by rw[txF,txF,if_neg (by omega)]
  | f + 1,g+1,j,acc,h1,h2=>by
    rw[txF,txF]
    split
    · split
      · rfl
      · split
        · rfl
        · split
          · cases esc (bat s (j+1))with
            |some c=>exact z20 s q f g _ _ (by omega) (by omega)
            |none=>rfl
          · exact z20 s q f g _ _ (by omega) (by omega)
    · rfl
def z1z(s:ByteArray) (q j:Nat) (acc:List Nat):txE s q j acc=if j<s.size then
   if bat s j=q then some (acc,j+1)else if bat s j=10 then none else if bat s j=92 then
    match esc (bat s (j+1))with
    |some c=>txE s q (j+2) (acc++[c])
    |none=>none
   else txE s q (j+1) (acc++[bat s j])
  else none:=by
 unfold txE
 by_cases h:j<s.size
 ·obtain⟨f,hf⟩:∃f,s.size+1- j=f+1:=⟨s.size- j,by omega⟩
  rw[hf,txF,if_pos h,if_pos h]
  split
  ·rfl
  ·split
   ·rfl
   ·split
    ·cases esc (bat s (j+1))with
     |some c=>exact z20 s q _ _ _ _ (by omega) (by omega)
     |none=>rfl
    ·exact z20 s q _ _ _ _ (by omega) (by omega)
 ·rw[if_neg h]
  generalize s.size+1- j=f
  cases f with
  |zero=>rfl
  |succ f=>rw[txF,if_neg h]
def z6t(l:List Nat) (c:Nat) (hc:c<256):q1z (bs l)++[Value.int .u8 (c:Nat)]=q1z (bs (l++[c])):=by
 unfold q1z bs
 simp only[List.map_append,List.map_cons,List.map_nil,List.map_map]
 congr 1
 simp;omega
def z43(l:List Nat):(bs l).size=l.length:=by
 unfold bs;simp[ByteArray.size]
def zin(c:Nat) (h:c<256):(esc c).getD 0<256:=by
 unfold esc;split
 ·exact h
 ·split<;>simp
def zay:∀g C,zjy g=some C->q7w P g C:=qhc (qmo z0l (qmo zb6 (qmo z5l qqu)))
section
variable (x0:Int) (x1:ByteArray) (x2:Int) (x3:List Value×Int) (x4:Prop)
 abbrev z3x:=(↑(bat x1 (toNat (x0+x3.2))):Int)
 abbrev z2b:=txR x1 (toNat x0) (toNat x2)
 def zku:=(↑(nbK (z2b x0 x1 x2).1 3):Int)=0/\(z2b x0 x1 x2).2.1=mkS []/\(↑(0:Nat):Int)=0/\(↑(nbK (z2b x0 x1 x2).1 (toNat x2)):Int)=0/\(↑(z2b x0 x1 x2).1:Int)=2/\x1=x1/\(↑(z2b x0 x1 x2).2.2:Int)=x2/\True
 abbrev zbp:=Jb (x3.2+1)
 abbrev ze2:=(↑(bat x1 (toNat (x0+(x3.2+1)))):Int)
 def zg6:=length x3.1=length x3.1*1/\(length x3.1+nat_lit 1)*1<=140737488355328/\x4
 abbrev z93:=(↑(Option.getD (esc (toNat (ze2 x0 x1 x3))) 0):Int)
 def zqf:=zg6 x3 (Jb (x3.2+1+1)/\x0=x0/\x3.2+1+1=x3.2+1+1/\length (x3.1++[int u8 (z93 x2 x1 x3)])=length x3.1+nat_lit 1/\x1=x1/\x2=x2/\x3.1++[int u8 (z93 x2 x1 x3)]=x3.1++[int u8 (z93 x2 x1 x3)]/\z8o x1 x2 x0 (x3.1++[int u8 (z93 x2 x1 x3)]) (x3.2+1+1)/\size x1+1- toNat (x2+(x3.2+1+1))<size x1+1- toNat (x2+x3.2)/\True)
 def zqe:=zbp x3/\x3.2+1=x3.2+1/\x1=x1/\x0=x0/\(0<=x0/\x0<=(↑(size x1):Int)/\size x1<1000000/\0<=x3.2+1/\x3.2+1<1000000)/\(ze2 x0 x1 x3)=(ze2 x0 x1 x3)/\(0<=(ze2 x0 x1 x3)/\(ze2 x0 x1 x3)<256)/\((!Option.isSome (esc (toNat (ze2 x0 x1 x3))))=true->zku x2 x1 x0)/\((!Option.isSome (esc (toNat (ze2 x0 x1 x3))))=false->zqf x2 x1 x0 x3)
 def zqg:=zg6 x3 (zbp x3/\x0=x0/\x3.2+1=x3.2+1/\length (x3.1++[int u8 (z3x x2 x1 x3)])=length x3.1+nat_lit 1/\x1=x1/\x2=x2/\x3.1++[int u8 (z3x x2 x1 x3)]=x3.1++[int u8 (z3x x2 x1 x3)]/\z8o x1 x2 x0 (x3.1++[int u8 (z3x x2 x1 x3)]) (x3.2+1)/\size x1+1- toNat (x2+(x3.2+1))<size x1+1- toNat (x2+x3.2)/\True)
 def zqd:=Ji ((z3x x0 x1 x3)=92) (zqe x0 x1 x2 x3) (zqg x2 x1 x0 x3)
 def zqc:=Ji ((z3x x0 x1 x3)=10) (zku x2 x1 x0) (zqd x0 x1 x2 x3)
 def zqb:=x3.2=x3.2/\x1=x1/\x0=x0/\(0<=x0/\x0<=(↑(size x1):Int)/\size x1<1000000/\0<=x3.2/\x3.2<1000000)/\Ji ((z3x x0 x1 x3)=x2) (∃i0,size i0=length x3.1/\qmd x3.1 (nat_lit 0) (q1z i0)/\i0=i0/\size i0<1000000/\((!vld i0)=true->zku x2 x1 x0)/\((!vld i0)=false->∃i1,size i1=length x3.1/\qmd x3.1 (nat_lit 0) (q1z i1)/\zbp x3/\Jb (x0+(x3.2+1))/\(↑(nbK (z2b x2 x1 x0).1 3):Int)=3/\(z2b x2 x1 x0).2.1=i1/\(↑(0:Nat):Int)=0/\(↑(nbK (z2b x2 x1 x0).1 (toNat x0)):Int)=x0/\(↑(z2b x2 x1 x0).1:Int)=0/\x1=x1/\(↑(z2b x2 x1 x0).2.2:Int)=x0+(x3.2+1)/\True)) (zqc x0 x1 x2 x3)
 def zqa:=Jb (x0+x3.2)/\Ji (x0+x3.2<(↑(size x1):Int)) (zqb x0 x1 x2 x3) (zku x2 x1 x0)
 def zq9:=(x0=x0/\(1:Int)=1/\nat_lit 0=0/\x1=x1/\x2=x2/\z8o x1 x2 x0 [] 1/\True)/\∀(i0:List Value×Int),z8o x1 x2 x0 i0.1 i0.2->zqa x2 x1 x0 i0
end
def zb1(s:ByteArray) (i q:Int):qr8 P (zjy) Go.Proofs.Tryd.f51 za0 (zkd) ⟨s,i,q⟩=(0<=i/\i<(↑(size s):Int)/\size s<100000/\(q=34\/q=39)->zq9 q s i):=by kernel_rfl
def zfo:=λs i q=>Eq.trans (zb1 s i q) (by delta Ji Jb Jt Jf z3x z2b zku zbp ze2 zg6 z93 zqf zqe zqg zqd zqc zqb zqa zq9;exact rfl)
def zfp:q7w P 51 za0:=by
 refine qrb mixed zay (W:=zkd) Go.Proofs.Tryd.func51 (by kernel_rfl) (by decide) (by decide) (λ⟨s,i,q⟩=>by kernel_rfl) λ⟨s,i,q⟩=>(zfo s i q).mpr ?_
 rintro⟨h1,h2,h3,h4⟩
 obtain⟨n,rfl⟩:=Int.eq_ofNat_of_zero_le h1
 obtain⟨q,rfl⟩:=Int.eq_ofNat_of_zero_le (show 0<=q by omega)
 simp only[decide_eq_true_eq,decide_eq_false_iff_not,and_true,true_and,Int.toNat_natCast,Int.add_zero,tn1,tn2]
 refine⟨⟨[],rfl,by simp,by omega,by omega,by simp,by rw[tn1,Int.toNat_natCast,Int.toNat_natCast]⟩,?_⟩
 rintro⟨vs,j⟩ ⟨l,rfl,hl,hj,hj2,hlen,inv⟩
 obtain⟨j,rfl⟩:=Int.eq_ofNat_of_zero_le (show 0<=j by omega)
 have bj:=z0c s (n+j)
 have bj1:=z0c s (n+j+1)
 have hz:=z43 l
 simp only[tnn,Int.toNat_natCast,q47,hz,show((n:Int)+((j:Int)+1)).toNat=n+j+1 by omega]at inv hlen⊢
 have step:=z1z s q (n+j) l
 rw[inv]at step
 have none_:txE s q (n+1) []=none->txR s q n=(2,mkS [],n):=λh=>by unfold txR;rw[h]
 simp only[Bool.not_eq_true',Bool.not_eq_false',decide_eq_true_eq,decide_eq_false_iff_not]at*
 have sub:qmd (q1z (bs l)) 0 (q1z (bs l)):=λa v h=>by rw[Nat.zero_add];exact h
 have no:txE s q (n+1) []=none->((nbK (txR s q n).1 3:Nat):Int)=0/\(txR s q n).2.1=mkS []/\((0:Nat):Int)=0/\((nbK (txR s q n).1 n:Nat):Int)=0/\(((txR s q n).1:Nat):Int)=2/\(((txR s q n).2.2:Nat):Int)=n:=λh=>by
  rw[none_ h];exact⟨rfl,rfl,rfl,rfl,rfl,rfl⟩
 refine⟨by omega,λa0=>⟨by omega,λa1=>⟨bs l,hz,sub,by omega,λa2=> ?_,λa2=>⟨bs l,hz,sub,by omega,by omega,?_⟩⟩,λa1=>⟨λa2=>no ?_,λa2=>⟨λa3=>⟨by omega,by omega,by omega,λa4=>no ?_,λa4=> ?_⟩,λa3=> ?_⟩⟩⟩,λa0=>no ?_⟩
 ·rw[if_pos (by omega),if_pos (by omega)]at step
  have e:txR s q n=(2,mkS [],n):=by unfold txR;rw[step];simp only[];rw[if_neg (by rw[a2];simp)]
  rw[e];exact⟨rfl,rfl,rfl,rfl,rfl,rfl⟩
 ·rw[if_pos (by omega),if_pos (by omega)]at step
  have e:txR s q n=(0,bs l,n+j+1):=by unfold txR;rw[step];simp only[];rw[if_pos a2]
  rw[e];exact⟨rfl,rfl,rfl,rfl,rfl,show((n+j+1:Nat):Int)=_ by omega⟩
 ·rw[step,if_pos (by omega),if_neg (by omega),if_pos (by omega)]
 ·rw[step,if_pos (by omega),if_neg (by omega),if_neg (by omega),if_pos (by omega)]
  rw[Option.isSome_eq_false_iff,Option.isNone_iff_eq_none]at a4
  rw[a4]
 ·rw[if_pos (by omega),if_neg (by omega),if_neg (by omega),if_pos (by omega)]at step
  obtain⟨c,hc⟩:=Option.isSome_iff_exists.mp a4
  have hlt:=zin _ bj1
  have hp:n+j+1<s.size:=z0a λe=>by rw[e]at hc;cases hc
  rw[hc]at step hlt⊢
  simp only[Option.getD_some]at step hlt⊢
  rw[z6t _ _ hlt,q47,z43]
  refine⟨by omega,by omega,by omega,by simp,⟨l++[c],rfl,?_,by omega,by omega,by simp;omega,?_⟩,by omega⟩
  ·intro x hx
   rcases List.mem_append.mp hx with h|h
   ·exact hl x h
   ·rw[List.mem_singleton.mp h];exact hlt
  ·rw[show((n:Int)+((j:Int)+1+1)).toNat=n+j+2 by omega,Int.toNat_natCast,Int.toNat_natCast,step]
 ·rw[if_pos (by omega),if_neg (by omega),if_neg (by omega),if_neg (by omega)]at step
  rw[z6t _ _ bj,q47,z43]
  refine⟨by omega,by omega,by omega,by simp,⟨l++[bat s (n+j)],rfl,?_,by omega,by omega,by simp;omega,?_⟩,by omega⟩
  ·intro x hx
   rcases List.mem_append.mp hx with h|h
   ·exact hl x h
   ·rw[List.mem_singleton.mp h];exact bj
  ·rw[show((n:Int)+((j:Int)+1)).toNat=n+j+1 by omega,Int.toNat_natCast,Int.toNat_natCast,step]
 ·rw[step,if_neg (by omega)]
section
variable (x0:ByteArray) (x1 x2:Int) (x3:Prop)
 abbrev z4o:=(↑(wdR x0 (toNat x1)).2.1.1:Int)
 abbrev z3d:=(wdR x0 (toNat x1)).2.1.2
 abbrev z4p:=(↑(z3d x0 x1).2.1:Int)
 abbrev z4q:=(↑(z3d x0 x1).2.2:Int)
 abbrev z4s:=(↑(wdR x0 (toNat x1)).1:Int)
 abbrev z4r:=(wdR x0 (toNat x1)).2.2
 def zkz:=(z4o x0 x1)=5/\(z3d x0 x1).1=mkS []/\(z4p x0 x1)=0/\(z4q x0 x1)=x1/\(z4s x0 x1)=0/\x0=x0/\Int.ofNat (z4r x0 x1)=x1/\True
 def zg7:=x2=x2/\x0=x0/\x1=x1/\(0<=x1/\x1<=(↑(size x0):Int)/\size x0<1000000/\0<=x2/\x2<1000000)/\x3
 abbrev z1o:=(↑(bat x0 (toNat (x1+x2))):Int)
 def zbq:=(z1o x0 x1 0)=(z1o x0 x1 0)/\(0<=(z1o x0 x1 0)/\(z1o x0 x1 0)<256)/\x3
 def zo9:=x0=x0/\x1=x1/\(0<=x1/\x1<(↑(size x0):Int)/\size x0<100000)/\(z4o x0 x1)=(↑(1:Nat):Int)/\(z3d x0 x1).1=ByteArray.extract x0 (toNat x1) (nmE x0 (toNat x1+1))/\(z4p x0 x1)=(↑(0:Nat):Int)/\(z4q x0 x1)=(↑(toNat x1):Int)/\(z4s x0 x1)=0/\x0=x0/\Int.ofNat (z4r x0 x1)=Int.ofNat (nmE x0 (toNat x1+1))/\True
 def zqm:=x0=x0/\x1=x1/\(0<=x1/\x1<(↑(size x0):Int)/\size x0<100000/\z01 (bat x0 (toNat x1))=true)/\(z4o x0 x1)=(↑(nbK (nbR x0 (toNat x1)).1 2):Int)/\(z3d x0 x1).1=mkS []/\(z4p x0 x1)=(↑(nbR x0 (toNat x1)).2.1:Int)/\(z4q x0 x1)=(↑(nbK (nbR x0 (toNat x1)).1 (toNat x1)):Int)/\(z4s x0 x1)=(↑(nbR x0 (toNat x1)).1:Int)/\x0=x0/\Int.ofNat (z4r x0 x1)=Int.ofNat (nbR x0 (toNat x1)).2.2/\True
 abbrev z65:=txR x0 (toNat (z1o x0 x1 0)) (toNat x1)
 def zo8:=(z1o x0 x1 0)=(z1o x0 x1 0)/\x0=x0/\x1=x1/\(0<=x1/\x1<(↑(size x0):Int)/\size x0<100000/\((z1o x0 x1 0)=34\/(z1o x0 x1 0)=39))/\(z4o x0 x1)=(↑(nbK (z65 x0 x1).1 3):Int)/\(z3d x0 x1).1=(z65 x0 x1).2.1/\(z4p x0 x1)=(↑(0:Nat):Int)/\(z4q x0 x1)=(↑(nbK (z65 x0 x1).1 (toNat x1)):Int)/\(z4s x0 x1)=(↑(z65 x0 x1).1:Int)/\x0=x0/\Int.ofNat (z4r x0 x1)=(↑(z65 x0 x1).2.2:Int)/\True
 abbrev zl0:=0<=Lib.indexByte (Array.toList (ByteArray.data (mkS [123,125,40,41,91,93,61,59,44,60,62,45]))) (UInt8.ofNat (toNat (z1o x0 x1 0)))
 def zkv:=Jb (x1+1)/\∃i0,size i0=1/\qmd [int u8 (z1o x0 x1 0)] 0 (q1z i0)/\Jb (x1+1- 1)/\(z4o x0 x1)=4/\(z3d x0 x1).1=i0/\(z4p x0 x1)=0/\(z4q x0 x1)=x1+1- 1/\(z4s x0 x1)=0/\x0=x0/\Int.ofNat (z4r x0 x1)=x1+1/\True
 def zky:=(z4o x0 x1)=0/\(z3d x0 x1).1=mkS []/\(z4p x0 x1)=0/\(z4q x0 x1)=0/\(z4s x0 x1)=2/\x0=x0/\Int.ofNat (z4r x0 x1)=x1/\True
 def zql:=mkS [123,125,40,41,91,93,61,59,44,60,62,45]=mkS [123,125,40,41,91,93,61,59,44,60,62,45]/\zbq x0 x1 (Ji (zl0 x0 x1) (zkv x0 x1) (zky x0 x1))
 def zqk:=Ji ((z1o x0 x1 0)=39) (zo8 x0 x1) (zql x0 x1)
 def zqh:=Ji ((z1o x0 x1 0)=34) (zo8 x0 x1) (zqk x0 x1)
 def zo7:=zbq x0 x1 ((z01 (toNat (z1o x0 x1 0))=true->zqm x0 x1)/\(z01 (toNat (z1o x0 x1 0))=false->zqh x0 x1))
 def zkx:=zg7 x0 x1 1 ((z1o x0 x1 1)=(z1o x0 x1 1)/\(0<=(z1o x0 x1 1)/\(z1o x0 x1 1)<256)/\(isLet (toNat (z1o x0 x1 1))=true->zo9 x0 x1)/\(isLet (toNat (z1o x0 x1 1))=false->zo7 x0 x1))
 def zkw:=Ji ((z1o x0 x1 0)=46) (zkx x0 x1) (zo7 x0 x1)
 def zqj:=zg7 x0 x1 0 (zbq x0 x1 ((isLet (toNat (z1o x0 x1 0))=true->zo9 x0 x1)/\(isLet (toNat (z1o x0 x1 0))=false->zkw x0 x1)))
 def zqi:=Ji (x1=(↑(size x0):Int)) (zkz x0 x1) (zqj x0 x1)
end
def zbd(s:ByteArray) (i:Int):qr8 P (zk0) Go.Proofs.Tryd.f23 zef (λ_=>{}) ⟨s,i⟩=(0<=i/\i<=(↑(size s):Int)/\size s<100000->zqi s i):=by kernel_rfl
def zfw:=λs i=>Eq.trans (zbd s i) (by delta Ji Jb Jt Jf z4o z3d z4p z4q z4s z4r zkz zg7 z1o zbq zo9 zqm z65 zo8 zl0 zkv zky zql zqk zqh zo7 zkx zkw zqj zqi;exact rfl)
def zaz:∀g C,zk0 g=some C->q7w P g C:=qhc (qmo z0l (qmo z26 (qmo z1r (qmo zff (qmo z7z (qmo zfp (qmo z1l qqu)))))))
def zju:∀c<256,0<=Lib.indexByte (mkS [123,125,40,41,91,93,61,59,44,60,62,45]).data.toList (UInt8.ofNat c)↔c∈sgs:=by decide+kernel
def zfx:q7w P 23 zef:=by
 refine qrb mixed zaz (W:=λ_=>{}) Go.Proofs.Tryd.func23 (by kernel_rfl) (by decide) (by decide) (λ⟨s,i⟩=>by kernel_rfl) λ⟨s,i⟩=>(zfw s i).mpr ?_
 rintro⟨h1,h2,h3⟩
 obtain⟨n,rfl⟩:=Int.eq_ofNat_of_zero_le h1
 have b0:=z0c s n
 have b1:=z0c s (n+1)
 simp only[decide_eq_true_eq,decide_eq_false_iff_not,and_true,true_and,Int.toNat_natCast,Int.add_zero,tn1,tn2]
 have eqs:n=s.size->wdR s n=(0,(5,mkS [],0,n),n):=λh=>by unfold wdR;rw[if_pos h]
 have eN:¬n=s.size->isLet (bat s n)=true\/(bat s n=46/\isLet (bat s (n+1))=true)->wdR s n=(0,(1,s.extract n (nmE s (n+1)),0,n),nmE s (n+1)):=λh h1=>by unfold wdR;rw[if_neg h,if_pos h1]
 have eD:¬n=s.size->¬(isLet (bat s n)=true\/(bat s n=46/\isLet (bat s (n+1))=true))->z01 (bat s n)=true->wdR s n=((nbR s n).1,(nbK (nbR s n).1 2,mkS [],(nbR s n).2.1,nbK (nbR s n).1 n),(nbR s n).2.2):=λh h1 h2=>by unfold wdR;rw[if_neg h,if_neg h1,if_pos h2]
 have eT:¬n=s.size->¬(isLet (bat s n)=true\/(bat s n=46/\isLet (bat s (n+1))=true))->z01 (bat s n)=false->bat s n=34\/bat s n=39->wdR s n=((txR s (bat s n) n).1,(nbK (txR s (bat s n) n).1 3,(txR s (bat s n) n).2.1,0,nbK (txR s (bat s n) n).1 n),(txR s (bat s n) n).2.2):=λh h1 h2 h4=>by unfold wdR;rw[if_neg h,if_neg h1,if_neg (by rw[h2];simp),if_pos h4]
 have eS:¬n=s.size->¬(isLet (bat s n)=true\/(bat s n=46/\isLet (bat s (n+1))=true))->z01 (bat s n)=false->¬(bat s n=34\/bat s n=39)->wdR s n=if bat s n∈sgs then(0,(4,mkS [bat s n],0,n),n+1)else(2,(0,mkS [],0,0),n):=λh h1 h2 h4=>by unfold wdR;rw[if_neg h,if_neg h1,if_neg (by rw[h2];simp),if_neg h4]
 have sg:=zju (bat s n) b0
 refine⟨λa0=> ?e,λa0=>⟨by omega,by omega,λa1=>⟨by omega,?n1⟩,λa1=>⟨λa2=>⟨by omega,by omega,λa3=>⟨by omega,?n2⟩,λa3=> ?x⟩,λa2=> ?y⟩⟩⟩
 case e=>rw[eqs (by omega)];exact⟨rfl,rfl,rfl,rfl,rfl,rfl⟩
 case n1=>rw[eN (by omega) (.inl a1)];exact⟨rfl,rfl,rfl,rfl,rfl,rfl⟩
 case n2=>rw[eN (by omega) (.inr ⟨by omega,a3⟩)];exact⟨rfl,rfl,rfl,rfl,rfl,rfl⟩
 case x|y=>
  have nn:¬(isLet (bat s n)=true\/(bat s n=46/\isLet (bat s (n+1))=true)):=by
   rintro(h|⟨h,h'⟩)
   ·rw[a1]at h;cases h
   ·first| (rw[a3]at h';cases h')|omega
  refine⟨by omega,λc1=>⟨⟨by omega,by omega,h3,c1⟩,?_⟩,λc1=>⟨λc2=>⟨⟨by omega,by omega,h3,by omega⟩,?_⟩,λc2=>⟨λc3=>⟨⟨by omega,by omega,h3,by omega⟩,?_⟩,λc3=>⟨by omega,λc4=> ?_,λc4=> ?_⟩⟩⟩⟩
  ·rw[eD (by omega) nn c1];exact⟨rfl,rfl,rfl,rfl,rfl,rfl⟩
  ·rw[eT (by omega) nn c1 (by omega)];exact⟨rfl,rfl,rfl,rfl,rfl,rfl⟩
  ·rw[eT (by omega) nn c1 (by omega)];exact⟨rfl,rfl,rfl,rfl,rfl,rfl⟩
  ·rw[eS (by omega) nn c1 (by omega),if_pos (sg.mp c4)]
   refine⟨by omega,mkS [bat s n],rfl,λj v h=> ?_,by omega,rfl,rfl,rfl,show((n:Nat):Int)=_ by omega,rfl,show((n+1:Nat):Int)=_ by omega⟩
   rw[Nat.zero_add]
   rw[show q1z (mkS [bat s n])=[Value.int .u8 (bat s n:Nat)]from(z6t [] _ b0).symm]at h
   exact h
  ·rw[eS (by omega) nn c1 (by omega),if_neg (λh=>c4 (sg.mpr h))]
   exact⟨rfl,rfl,rfl,rfl,rfl,rfl⟩
abbrev Tk:=Nat×ByteArray×Nat×Nat
def tkV(x:Tk):List Value:=[.int .i64 (x.1:Nat), .string x.2.1, .int .u64 (x.2.2.1:Nat), .int .i64 (x.2.2.2:Nat)]
def z2s(l:List Tk):List Value:=l.flatMap tkV
def lxF(s:ByteArray):Nat->Nat->List Tk->List Tk×Nat×Nat
  |0,_,_=>([],0,0)
  | f+1,i,acc=>
    if(spR s i).1=false then([],2,(spR s i).2)else
    if(wdR s (spR s i).2).1≠0 then([],(wdR s (spR s i).2).1,(wdR s (spR s i).2).2.2)else
    if(wdR s (spR s i).2).2.1.1=5 then(acc++[(wdR s (spR s i).2).2.1],0,0)else
    lxF s f (wdR s (spR s i).2).2.2 (acc++[(wdR s (spR s i).2).2.1])
def lxE(s:ByteArray) (i:Nat) (acc:List Tk):List Tk×Nat×Nat:=lxF s (s.size+1- i) i acc
def lxR(s:ByteArray):List Tk×Nat×Nat:=if 3000<s.size then([],3,0)else lxE s 0 []
def tkM(l:List Tk):List SV->PF
 | [x]=>⟨true,λp=>x.2.1=l.length/\qmr p x.1 x.2.1 x.2.2 (z2s l),λ_ _ h e=>⟨e.1,q6p h e.2⟩⟩
 |_=>{}
def zmj:Ct where
 σ:=ByteArray
 args:=λs=>[.sv (.string s)]
 h:=λ_=>[]
 m:=1
 pre:=λs=>s.size<100000
 mem:=λ_=>hG
 find:=some λl _=>match l with
  | [a]=>gs a
  |_=>none
 r:=λs=> .tup [.tsl 1, .sv (.int .i64 ((lxR s).2.1:Nat)), .sv (.int .i64 ((lxR s).2.2:Nat))]
 h':=λ_=>[]
 m':=2
 g:=λs=>some {β:=Unit,ks:=[1],pre:=λ_=>True,mem:=λ_ xs=>tkM (lxR s).1 xs}
def zj5(t:T AV) (h:T AO):Option (List Value×Nat×Int):=match z74 h 1 with
  | some (_,j)=>match t.get 2 with
    | some (.ssl id _ n _ _)=>match h.get id with
      |some (.row _ _ vs)=>some (vs,n,j)
      | some (.cells _ _ _ l)=>match qa9.concs l with
        |some vs=>some (vs,n,j)
        |none=>none
      |_=>none
    |some .nsl=>some ([],0,j)
    |_=>none
  |none=>none
def zai(s:ByteArray) (vs:List Value) (n:Nat) (j:Int):Prop:=s.size<=3000/\∃l:List Tk,vs=z2s l/\n=l.length/\0<=j/\j<=s.size/\l.length<=j.toNat/\lxE s j.toNat l=lxE s 0 []
def zp0:zmj.σ->WayF:=λs=>{
 ann:=λ_ _ _=>some {σ:=List Value×Nat×Int,pre:=λ⟨vs,n,j⟩=>zai s vs n j,find:=some zj5,t:=λ⟨vs,n,j⟩=>[(2, .ssl 2 0 n 4 3)],h:=λ⟨vs,n,j⟩=>[(2, .row 67 0 vs),(1, .cells 86 (some 0) false [.sv (.string s), .sv (.int .i64 j)])],more:=2,μ:=λ⟨vs,n,j⟩=>s.size- j.toNat,keep:=[0,5]}
 pubE:=[2]}
def zoz:Nat->Option Ct:=qkw [(22,z54),(23,zef)]
def z8d (s:ByteArray):∀(f i:Nat),i<=s.size->s.size- i=f->i<=(spR s i).2/\(spR s i).2<=s.size:=λf=>by
  induction f using Nat.strongRecOn with
  | ind f ih=>
    intro i hi hf
    rw[z1w s i hi]
    split
    · rename_i h
      have:=z17 h
      have:=ih (s.size- (i+1)) (by omega) (i+1) (by omega) rfl
      omega
    · split
      · rename_i h
        have:=z3l s i h
        have:=ih (s.size- eol s i) (by omega) (eol s i) (by omega) rfl
        omega
      · split
        · cases hc:cl s (i+2)with
          |none=>simp only[];omega
          | some k=>
            have:=z5j s _ _ _ rfl hc
            have:=ih (s.size- (k+2)) (by omega) (k+2) (by omega) rfl
            simp only[];omega
        · simp only[];omega
def zda(s:ByteArray):∀(f j:Nat),j<=s.size->s.size- j=f->j<=nmE s j/\nmE s j<=s.size
  |0,j,h,hf=>by rw[nmE,hf,nmF];omega
  | f +1,j,h,hf=>by
    rw[z1t s j h]
    split
    · have:=zda s f (j+1) (by omega) (by omega)
      omega
    · omega
def z75(s:ByteArray) (B:Nat) (hB:B<=16):∀(f j v:Nat),j<=s.size->s.size- j=f->j<=(dgE s B j v).1/\(dgE s B j v).1<=s.size
  |0,j,v,h,hf=>by rw[dgE,hf,dgF];simp only[];omega
  | f +1,j,v,h,hf=>by
    rw[z0p s B j v hB]
    split
    · have:=z75 s B hB f (j+1) (v*B+dv (bat s j)) (by omega) (by omega)
      omega
    · simp only[];omega
def zk1 (s :ByteArray) (q:Nat):∀(f j:Nat) (acc:List Nat) (l:List Nat) (to:Nat),s.size+1- j=f->txE s q j acc=some (l,to)->j<to/\to<=s.size:=λf=>by
  induction f using Nat.strongRecOn with
  | ind f ih=>
    intro j acc l to hf h
    rw[z1z]at h
    split at h
    · split at h
      · cases h;omega
      · split at h
        · cases h
        · split at h
          · cases he:esc (bat s (j+1))with
            |none=>rw[he]at h;cases h
            | some c=>
              rw[he]at h
              have:=ih _ (by omega) (j+2) _ l to rfl h
              omega
          · have:=ih _ (by omega) (j+1) _ l to rfl h
            omega
    · cases h
def zja(s:ByteArray) (n:Nat) (hn:n<s.size):n+nbO s n<=s.size:=by
 unfold nbO
 split
 ·split
  ·rename_i g2
   have:n+2<s.size:=by
    rcases Nat.lt_or_ge (n+2) s.size with h|h
    ·exact h
    ·rw[z0k h]at g2;exact absurd g2.1 (by decide)
   omega
  ·omega
 ·omega
def zig:∀c<256,z01 c=true->dv c<10:=by decide+kernel
def zjc(s:ByteArray) (i:Nat) (hi:i<s.size) (hd:z01 (bat s i)=true):(nbR s i).2.2<=s.size/\((nbR s i).1=0->i<(nbR s i).2.2):=by
 have hB:=zd9 s i
 have hle:=z75 s (nbB s i) (by omega) _ (i+nbO s i) 0 (zja s i hi) rfl
 have hgt:i<(dgE s (nbB s i) (i+nbO s i) 0).1:=by
  by_cases h48:bat s i=48
  ·have:1<=nbO s i:=by unfold nbO;rw[if_pos h48];split<;>omega
   omega
  ·have e0:nbO s i=0:=by unfold nbO;rw[if_neg h48]
   have eB:nbB s i=10:=by unfold nbB;rw[if_neg h48]
   rw[e0,eB,Nat.add_zero,z0p s 10 i 0 (by omega),if_pos (zig _ (z0c s i) hd)]
   have:=z75 s 10 (by omega) _ (i+1) (0*10+dv (bat s i)) (by omega) rfl
   omega
 unfold nbR
 simp only[]
 split
 ·exact⟨by simp only[];omega,λh=>by simp at h⟩
 ·split
  ·exact⟨by simp only[];omega,λh=>by simp at h⟩
  ·exact⟨by simp only[];omega,λ_=>hgt⟩
def zk3(s:ByteArray) (q i:Nat) (hi:i<s.size):(txR s q i).2.2<=s.size/\((txR s q i).1=0->i<(txR s q i).2.2):=by
  unfold txR
  cases h:txE s q (i+1) []with
  |none=>exact⟨by simp only[];omega,λh=>by simp at h⟩
  | some x=>
    obtain⟨l,to⟩:=x
    have:=zk1 s q _ _ _ _ _ rfl h
    simp only[]
    split
    · exact⟨by simp only[];omega,λ_=>by simp only[];omega⟩
    · exact⟨by simp only[];omega,λh=>by simp at h⟩
def z8x(s:ByteArray) (i:Nat) (hi:i<=s.size):(wdR s i).2.2<=s.size/\((wdR s i).1=0->(wdR s i).2.1.1≠5->i<(wdR s i).2.2):=by
 unfold wdR
 split
 ·exact⟨hi,λ_ h=>absurd rfl h⟩
 ·rename_i h0
  split
  ·have:=zda s _ (i+1) (by omega) rfl
   exact⟨this.2,λ_ _=>by simp only[];omega⟩
  ·split
   ·rename_i hd
    have:=zjc s i (by omega) hd
    exact⟨this.1,λh _=>this.2 h⟩
   ·split
    ·have:=zk3 s (bat s i) i (by omega)
     exact⟨this.1,λh _=>this.2 h⟩
    ·split
     ·exact⟨by simp only[];omega,λ_ _=>by simp only[];omega⟩
     ·exact⟨hi,λh=>by simp at h⟩
def z5c(s:ByteArray):∀(f g i:Nat) (acc:List Tk),s.size+1- i<=f->s.size+1- i<=g->i<=s.size->lxF s f i acc=lxF s g i acc
  |0,_,i,_,h,_,hi=>by omega
  |_+1,0,i,_,_,h,hi=>by omega
  | f + 1,g+1,i,acc,h1,h2,hi=>by
    have a:=z8d s _ i hi rfl
    have b:=z8x s (spR s i).2 a.2
    rw[lxF,lxF]
    split
    · rfl
    · split
      · rfl
      · split
        · rfl
        · rename_i q1 q2
          have:=b.2 (by simpa using q1) q2
          exact z5c s f g _ _ (by omega) (by omega) b.1
def z37(s:ByteArray) (i:Nat) (acc:List Tk) (hi:i<=s.size):lxE s i acc=
  if(spR s i).1=false then([],2,(spR s i).2)else
  if(wdR s (spR s i).2).1≠0 then([],(wdR s (spR s i).2).1,(wdR s (spR s i).2).2.2)else
  if(wdR s (spR s i).2).2.1.1=5 then(acc++[(wdR s (spR s i).2).2.1],0,0)else
  lxE s (wdR s (spR s i).2).2.2 (acc++[(wdR s (spR s i).2).2.1]):=by
 have a:=z8d s _ i hi rfl
 have b:=z8x s (spR s i).2 a.2
 unfold lxE
 obtain⟨f,hf⟩:∃f,s.size+1- i=f+1:=⟨s.size- i,by omega⟩
 rw[hf,lxF]
 split
 ·rfl
 ·split
  ·rfl
  ·split
   ·rfl
   ·rename_i q1 q2
    have:=b.2 (by simpa using q1) q2
    exact z5c s _ _ _ _ (by omega) (by omega) b.1
def zb2(l:List Tk) (x:Tk):z2s l++tkV x=z2s (l++[x]):=by
 unfold z2s;simp
def z1y(l:List Tk):(z2s l).length=l.length*4:=by
 unfold z2s
 induction l with
 |nil=>rfl
 |cons a l ih=>rw[List.flatMap_cons,List.length_append,ih];simp[tkV];omega
def z0w:Pl noA:=trivial
def ze7{x:Addr} (h:x.spot=none):Pl (some x):=trivial
def zfn:∀g C,zoz g=some C->q7w P g C:=qhc (qmo zav (qmo zfx qqu))
section
variable (x0:ByteArray) (x1:List Value×Nat×Int) (x2:Nat->Option Obj) (x3:Prop) (x4:Int)
 abbrev zg9:=∃(i0:Int),q88 x2 (Addr.mk 1 0 none)=some (int i64 i0)
 def z9u:=True/\zg9 x2
 def zbs:=noA=noA/\(0:Nat)=0/\(0:Nat)=0/\x3
 def zg8:=(↑(lxR x0).2.1:Int)=x4/\(↑(lxR x0).2.2:Int)=0/\x3
 def zqt:=0=length (lxR x0).1/\qmr x2 noA 0 0 (z2s (lxR x0).1)
 def zbr:=Pl noA/\True/\(∀i0,(z9u i0)->zqt x0 i0)/\True
 abbrev z3y:=(spR x0 (toNat x1.2.2)).2
 abbrev zbt:=(↑((wdR x0 (toNat (Int.ofNat (z3y x0 x1)))).1):Int)
 abbrev z95:=(wdR x0 (toNat (Int.ofNat (z3y x0 x1)))).2
 abbrev z94:=(↑(z95 x0 x1).1.1:Int)
 abbrev z4t:=(z95 x0 x1).1.2.2
 abbrev zms:=x1.1++[int i64 (z94 x0 x1),string (z95 x0 x1).1.2.1,int u64 (↑(z4t x0 x1).1:Int),int i64 (↑(z4t x0 x1).2:Int)]
 def zqs:=x0=x0/\x1.2.1+nat_lit 1=x1.2.1+nat_lit 1/\x0=x0/\Int.ofNat (z95 x0 x1).2=Int.ofNat (z95 x0 x1).2/\x1.1++[int i64 (z94 x0 x1),string (z95 x0 x1).1.2.1,int u64 (↑(z4t x0 x1).1:Int),int i64 (↑(z4t x0 x1).2:Int)]=x1.1++[int i64 (z94 x0 x1),string (z95 x0 x1).1.2.1,int u64 (↑(z4t x0 x1).1:Int),int i64 (↑(z4t x0 x1).2:Int)]/\(∀i0,(z9u i0)->z9u i0)/\zai x0 (zms x0 x1) (x1.2.1+nat_lit 1) (Int.ofNat (z95 x0 x1).2)/\size x0- toNat (Int.ofNat (z95 x0 x1).2)<size x0- toNat x1.2.2/\True
 def zqr:=length x1.1=x1.2.1*4/\(x1.2.1+nat_lit 1)*40<=140737488355328/\Ji ((z94 x0 x1)=5) (∀(i0 i1 i2:Nat) (i3:Option Addr) (i4 i5:Nat),(∃i6,(z9u i6)/\x1.2.1+nat_lit 1<=i5/\qoq i6 i3 (take ((x1.2.1+nat_lit 1)*nat_lit 4) (zms x0 x1)))->∃(i8:Unit),i3=i3/\x1.2.1+nat_lit 1=x1.2.1+nat_lit 1/\i5=i5/\zg8 x0 (Pl i3/\True/\(∀i9,(z9u i9)/\x1.2.1+nat_lit 1<=i5/\qoq i9 i3 (take ((x1.2.1+nat_lit 1)*nat_lit 4) (zms x0 x1))->x1.2.1+nat_lit 1=length (lxR x0).1/\qmr i9 i3 (x1.2.1+nat_lit 1) i5 (z2s (lxR x0).1))/\True) 0) (zqs x0 x1)
 def zqq:=x0=x0/\Int.ofNat (z3y x0 x1)=Int.ofNat (z3y x0 x1)/\(0<=Int.ofNat (z3y x0 x1)/\Int.ofNat (z3y x0 x1)<=(↑(size x0):Int)/\size x0<100000)/\((!decide ((zbt x0 x1)=0))=true->∃(i0:Unit),zbs ((↑(lxR x0).2.1:Int)=(zbt x0 x1)/\(↑(lxR x0).2.2:Int)=Int.ofNat (z95 x0 x1).2/\zbr x0))/\((!decide ((zbt x0 x1)=0))=false->zqr x0 x1)
 def zqp:=x0=x0/\x1.2.2=x1.2.2/\(0<=x1.2.2/\x1.2.2<=(↑(size x0):Int)/\size x0<100000)/\(∀i0,(z9u i0)->zg9 i0)/\((!(spR x0 (toNat x1.2.2)).1)=true->∃(i3:Unit),zbs ((↑(lxR x0).2.1:Int)=2/\(↑(lxR x0).2.2:Int)=Int.ofNat (z3y x0 x1)/\zbr x0))/\((!(spR x0 (toNat x1.2.2)).1)=false->zqq x0 x1)
 def zqo:=(x0=x0/\nat_lit 0=0/\x0=x0/\(0:Int)=0/\(∀i0,(z9u i0)->z9u i0)/\zai x0 [] 0 0/\True)/\∀(i3:List Value×Nat×Int),zai x0 i3.1 i3.2.1 i3.2.2->zqp x0 i3
 def zqn:=Ji (3000<(↑(size x0):Int)) (∃(i0:Unit),zbs (zg8 x0 (zbr x0) 3)) (zqo x0)
end
def zf6(s:ByteArray):qr8 P (zoz) Go.Proofs.Tryd.f15 zmj (zp0) s=(size s<100000->(∃(p:Pub),z9u p)->zqn s):=by kernel_rfl
def zj3:=λs=>Eq.trans (zf6 s) (by delta Ji Jt Jf zg9 z9u zbs zg8 zqt zbr z3y zbt z95 z94 z4t zms zqs zqr zqq zqp zqo zqn;exact rfl)
def zj4:q7w P 15 zmj:=by
 refine qrb mixed zfn (W:=zp0) Go.Proofs.Tryd.func15 (by kernel_rfl) (by decide) (by decide) (λs=>by kernel_rfl) λ(s:ByteArray)=>(zj3 s).mpr ?_
 intro h3 hp
 simp only[decide_eq_true_eq,decide_eq_false_iff_not,and_true,true_and,Int.toNat_natCast,Int.add_zero]
 refine⟨λa0=>⟨(),?_⟩,λa0=>⟨⟨λp h=>h,?_⟩,?_⟩⟩
 ·have e:lxR s=([],3,0):=by unfold lxR;rw[if_pos (by omega)]
  rw[e]
  exact⟨rfl,rfl,z0w,λp _=>⟨rfl,Nat.le_refl _, .inl ⟨rfl,z0w⟩⟩⟩
 ·exact⟨by omega,[],rfl,rfl,by omega,by omega,by simp,rfl⟩
 rintro⟨vs,n,j⟩ ⟨hs,l,rfl,rfl,hj,hj2,hlen,inv⟩
 simp only[]at hj hj2 hlen inv
 obtain⟨j,rfl⟩:=Int.eq_ofNat_of_zero_le hj
 have hj3:j<=s.size:=by omega
 have a:=z8d s _ j hj3 rfl
 have b:=z8x s (spR s j).2 a.2
 have step:=z37 s j l hj3
 have lx:lxR s=lxE s 0 []:=by unfold lxR;rw[if_neg (by omega)]
 simp only[Int.toNat_natCast]at inv hlen⊢
 rw[inv,←lx]at step
 simp only[Bool.not_eq_true',Bool.not_eq_false',decide_eq_true_eq,decide_eq_false_iff_not]at*
 have tn0:(Int.ofNat (spR s j).2).toNat=(spR s j).2:=Int.toNat_natCast _
 have tn3:(Int.ofNat (wdR s (spR s j).2).2.2).toNat=(wdR s (spR s j).2).2.2:=Int.toNat_natCast _
 rw[tn0,tn3]
 have ap:=zb2 l (wdR s (spR s j).2).2.1
 unfold tkV at ap
 rw[ap]
 have qq3:=z1y (l++[(wdR s (spR s j).2).2.1])
 rw[List.take_of_length_le (by rw[qq3];simp)]
 refine⟨by omega,λp h=>h,λc1=>⟨(),?_⟩,λc1=>⟨⟨show(0:Int)<=((spR s j).2:Nat)by omega,show((spR s j).2:Int)<=_ by omega,h3⟩,λc2=>⟨(),?_⟩,λc2=>⟨z1y l,by omega,λc3 b s_2 u q n c hq=>⟨(),?_⟩,λc3=>⟨λp h=>h,?_,?_⟩⟩⟩⟩
 ·rw[if_pos c1]at step
  rw[step]
  exact⟨rfl,rfl,z0w,λp _=>⟨rfl,Nat.le_refl _, .inl ⟨rfl,z0w⟩⟩⟩
 ·rw[if_neg (by rw[c1];simp),if_pos (by omega)]at step
  rw[step]
  exact⟨rfl,rfl,z0w,λp _=>⟨rfl,Nat.le_refl _, .inl ⟨rfl,z0w⟩⟩⟩
 ·rw[if_neg (by rw[c1];simp),if_neg (by omega),if_pos (by omega)]at step
  rw[step]
  obtain⟨p,hp1,hp2,hp3⟩:=hq
  refine⟨rfl,rfl,?_,λp h=>⟨by simp,h.2.1,h.2.2⟩⟩
  rcases hp3 with⟨h,_⟩|⟨x,rfl,h,_⟩
  ·have:=congrArg List.length h
   rw[qq3]at this;simp at this
  ·exact ze7 h
 ·rw[if_neg (by rw[c1];simp),if_neg (by omega),if_neg (by omega)]at step
  have:=b.2 (by omega) (by omega)
  refine⟨hs,_,rfl,by simp,show(0:Int)<=((wdR s (spR s j).2).2.2:Nat)by omega,show((wdR s (spR s j).2).2.2:Int)<=_ by omega,?_,?_⟩
  ·rw[tn3];simp;omega
  ·rw[tn3,←step,lx]
 ·have:=b.2 (by omega) (by omega)
  omega
abbrev svA(x:SV):AV:= .sv (.slice x.1 x.2.1 x.2.2)
structure Cu where
 x:SV
 T:List Tk
 e:Int
 a:Int
def tkP(T:List Tk) (x:SV) (p:Pub):Prop:=x.2.1=T.length/\qmr p x.1 x.2.1 x.2.2 (z2s T)
def Cu.ok(c:Cu) (p:Pub):Prop:=tkP c.T c.x p
def Cu.M(c:Cu):PF:=⟨true,λp=>c.ok p,λ_ _ h e=>⟨e.1,q6p h e.2⟩⟩
def Cu.O(c:Cu):AO:= .cells 65 (some 0) false [svA c.x, .sv (.int .i64 c.e), .sv (.int .i64 c.a)]
def z1m:List ByteArray:=[mkS [112,97,99,107,97,103,101],mkS [114,101,115,101,114,118,101,100],mkS [109,97,112],mkS [111,112,116,105,111,110,97,108],mkS [114,101,112,101,97,116,101,100],mkS [91],mkS [45]]
def Cu.P(c:Cu):Prop:=(c.T.length<=100000/\∀t∈c.T,t.2.1∉z1m)/\∃l a,c.T=l++[(5,mkS [],0,a)]
def Cu.hd(c:Cu):Tk:=c.T.headD (5,mkS [],0,0)
def nxX(x:SV):SV:=(slA x.1 x.2.2 1 4,x.2.1- 1,x.2.2- 1)
def Cu.nx(c:Cu):Cu:=if 1<c.T.length then⟨nxX c.x,c.T.tail,c.e,c.a⟩else c
def Cu.fa(c:Cu) (e:Int):Cu:=if c.e=0 then⟨c.x,c.T,e,(c.hd.2.2.2:Nat)⟩else c
def Cu.is(c:Cu) (k:Nat) (t:ByteArray):Bool:=decide (c.e=0)&&(decide (c.hd.1=k)&&decide (c.hd.2.1=t))
def Cu.tk(c:Cu) (k:Nat) (t:ByteArray):Cu:=if c.is k t then c.nx else c
def Cu.nd(c:Cu) (k:Nat) (t:ByteArray):Cu:=if c.is k t then c.nx else c.fa 2
def Cu.isK(c:Cu) (k:Nat):Bool:=decide (c.e=0)&&decide (c.hd.1=k)
def Cu.an(c:Cu) (k:Nat):Cu:=if c.isK k then c.nx else c.fa 2
def Cu.anT(c:Cu) (k:Nat):Tk:=if c.isK k then c.hd else(0,mkS [],0,0)
def Cu.rm(c:Cu) (n:Int):Cu:=if 30<=n then c.fa 3 else c
def zmk(s:ByteArray):Bool:=decide (0<=Lib.indexByte s.data.toList 46)
def plB(s:ByteArray):Bool:= !decide (s=mkS [])&& !zmk s
def Cu.p0(c:Cu):Cu:=if plB c.hd.2.1 then c else c.fa 2
def Cu.pl(c:Cu):Cu:=c.p0.an 1
def Cu.plT(c:Cu):ByteArray:=(c.p0.anT 1).2.1
def Cu.nm(c:Cu):Cu:=(c.pl.nd 4 (mkS [61])).an 2
def Cu.nmN(c:Cu):Nat:=((c.pl.nd 4 (mkS [61])).anT 2).2.2.1
def Cu.ty(c:Cu):Cu:=((c.an 1).nm).nd 4 (mkS [59])
def Cu.sy(c:Cu):Cu:=(((c.nd 1 (mkS [115,121,110,116,97,120])).nd 4 (mkS [61])).nd 3 (mkS [112,114,111,116,111,51])).nd 4 (mkS [59])
def Cu.s0(c:Cu):Cu:=if c.hd.1=2/\2147483647<c.hd.2.2.1 then c.fa 3 else c
def Cu.sg(c:Cu):Cu:=c.s0.an 2
def Cu.sgN(c:Cu):Nat:=(c.s0.anT 2).2.2.1
def ctK(σ:Type) (args:σ->List AV) (c:σ->Cu) (r:σ->AV) (to:σ->Cu):Ct where
 σ:=σ
 args:=λs=> .ptr 1 0::args s
 h:=λs=>[(1,(c s).O)]
 m:=2
 pre:=λs=>(c s).P
 mem:=λs=>(c s).M
 r:=r
 h':=λs=>[(1,(to s).O)]
 m':=2
 g:=λ_=>none
abbrev CuE:Type:=Cu×Int
abbrev CuT:Type:=Cu×Nat×ByteArray
def zsv(t:Tk):AV:= .agg [.sv (.int .i64 (t.1:Nat)), .sv (.string t.2.1), .sv (.int .u64 (t.2.2.1:Nat)), .sv (.int .i64 (t.2.2.2:Nat))]
def z0m:Ct:=ctK CuE (λs=>[.sv (.int .i64 s.2)]) (λs=>s.1) (λ_=> .tup []) λs=>s.1.fa s.2
def z15:Ct:=ctK Cu (λ_=>[]) (λs=>s) (λ_=> .tup []) λs=>s.nx
def zid:Ct:=ctK CuT (λs=>[.sv (.int .i64 (s.2.1:Nat)), .sv (.string s.2.2)]) (λs=>s.1) (λs=> .sv (.bool (s.1.is s.2.1 s.2.2))) λs=>s.1
def z1k:Ct:=ctK CuT (λs=>[.sv (.int .i64 (s.2.1:Nat)), .sv (.string s.2.2)]) (λs=>s.1) (λs=> .sv (.bool (s.1.is s.2.1 s.2.2))) λs=>s.1.tk s.2.1 s.2.2
def z14:Ct:=ctK CuT (λs=>[.sv (.int .i64 (s.2.1:Nat)), .sv (.string s.2.2)]) (λs=>s.1) (λs=> .tup []) λs=>s.1.nd s.2.1 s.2.2
def z25:Ct:={ctK CuT (λs=>[.sv (.int .i64 (s.2.1:Nat)), .sv (.string s.2.2)]) (λs=>s.1) (λ_=> .bool false) (λs=>s.1)with pre:=λs=>s.1.P/\s.2.2∈z1m}
abbrev CuN:Type:=Cu×Nat
def z44:Ct:=ctK CuN (λs=>[.sv (.int .i64 (s.2:Nat))]) (λs=>s.1) (λs=>zsv (s.1.anT s.2)) λs=>s.1.an s.2
def z2n:Ct:=ctK CuE (λs=>[.sv (.int .i64 s.2)]) (λs=>s.1) (λs=> .tup []) λs=>s.1.rm s.2
def zic:Ct:=ctS ByteArray (λs=>[.string s, .string (mkS [46])]) (λl=>match l with| [.string s, .string _]=>some s|_=>none) (λ_=>True) (λ_=>{}) λs=> .sv (.bool (zmk s))
def z2x:Ct:=ctS ByteArray (λs=>[.string s]) f1s (λ_=>True) (λ_=>{}) λs=> .sv (.bool (plB s))
def z1b:Ct:=ctK Cu (λ_=>[]) (λs=>s) (λs=> .sv (.string s.plT)) λs=>s.pl
def z48:Ct:=ctK Cu (λ_=>[]) (λs=>s) (λs=> .tup [.sv (.string s.plT), .sv (.int .u64 (s.nmN:Nat))]) λs=>s.nm
def zox(lab:Int) (c:Cu):AV:= .agg [.sv (.int .i64 lab), .sv (.string (c.anT 1).2.1), .sv (.string (mkS [])), .sv (.string (c.an 1).plT), .sv (.int .u64 ((c.an 1).nmN:Nat)), .sv (.int .i64 0), .sv (.int .i64 0)]
def z30:Ct:=ctK CuE (λs=>[.sv (.int .i64 s.2)]) (λs=>s.1) (λs=>zox s.2 s.1) λs=>s.1.ty
def z45:Ct:=ctK Cu (λ_=>[]) (λs=>s) (λs=>zox 0 s) λs=>s.ty
def z2z:Ct:=ctK Cu (λ_=>[]) (λs=>s) (λs=> .tup []) λs=>s.sy
def z2y:Ct:=ctK Cu (λ_=>[]) (λs=>s) (λs=> .sv (.int .i64 (s.sgN:Nat))) λs=>s.sg
section
variable (x0:Cu) (x1:Int) (x2:Prop)
 abbrev zoa:=(Cu.x (Cu.fa x0 x1)).1=(Cu.x x0).1/\(Cu.x (Cu.fa x0 x1)).2.1=(Cu.x x0).2.1/\(Cu.x (Cu.fa x0 x1)).2.2=(Cu.x x0).2.2/\x2
 def zqv:=((0:Int)<=0/\0<(↑(Cu.x x0).2.1:Int))/\(Cu.x x0).1≠noA/\∃(i0:Int),(∀i1,True/\Cu.ok x0 i1->q4o i1 (Addr.add (adr (Cu.x x0).1 ((0:Nat)*4)) 3) [int i64 i0])/\zoa x0 x1 (Cu.e (Cu.fa x0 x1)=x1/\Cu.a (Cu.fa x0 x1)=i0/\True)
 def zqw:=zoa x0 x1 (Cu.e (Cu.fa x0 x1)=Cu.e x0/\Cu.a (Cu.fa x0 x1)=Cu.a x0/\True)
 def zqu:=Ji (Cu.e x0=0) (zqv x0 x1) (zqw x0 x1)
end
def z79(c:Cu) (e:Int):qr8 P (λ_=>none) Go.Proofs.Tryd.f33 z0m (λ_=>{}) (c,e)=(Cu.P c->(∃(p:Pub),True/\Cu.ok c p)->zqu c e):=by kernel_rfl
def za5:=λc e=>Eq.trans (z79 c e) (by delta Ji Jt Jf zoa zqv zqw zqu;exact rfl)
section
variable (x0:Cu)
 abbrev zqy:=(Cu.x x0).2.1<=(Cu.x x0).2.2/\((0:Int)<=1/\1<=(↑(Cu.x x0).2.1:Int))/\(Cu.x (Cu.nx x0)).1=slA (Cu.x x0).1 (Cu.x x0).2.2 (nat_lit 1) 4/\(Cu.x (Cu.nx x0)).2.1=(Cu.x x0).2.1- nat_lit 1/\(Cu.x (Cu.nx x0)).2.2=(Cu.x x0).2.2- nat_lit 1/\Cu.e (Cu.nx x0)=Cu.e x0/\Cu.a (Cu.nx x0)=Cu.a x0/\True
 def zqz:=(Cu.x (Cu.nx x0)).1=(Cu.x x0).1/\(Cu.x (Cu.nx x0)).2.1=(Cu.x x0).2.1/\(Cu.x (Cu.nx x0)).2.2=(Cu.x x0).2.2/\Cu.e (Cu.nx x0)=Cu.e x0/\Cu.a (Cu.nx x0)=Cu.a x0/\True
 def zqx:=Ji (1<(↑(Cu.x x0).2.1:Int)) (zqy x0) (zqz x0)
end
def z7v(c:Cu):qr8 P (λ_=>none) Go.Proofs.Tryd.f29 z15 (λ_=>{}) c=(Cu.P c->(∃(p:Pub),True/\Cu.ok c p)->zqx c):=by kernel_rfl
def zao:=λc=>Eq.trans (z7v c) (by delta Ji Jt Jf zqy zqz zqx;exact rfl)
section
variable (x0:Cu) (x1:Nat) (x2:ByteArray) (x3:Prop)
 abbrev zod:=((0:Int)<=0/\0<(↑(Cu.x x0).2.1:Int))/\(Cu.x x0).1≠noA/\x3
 def zoc:=(Cu.x x0).1=(Cu.x x0).1/\(Cu.x x0).2.1=(Cu.x x0).2.1/\(Cu.x x0).2.2=(Cu.x x0).2.2/\Cu.e x0=Cu.e x0/\Cu.a x0=Cu.a x0/\True
 def zr2:=zod x0 (∃i0,(∀i1,True/\Cu.ok x0 i1->q4o i1 (Addr.add (adr (Cu.x x0).1 ((0:Nat)*4)) 1) [string i0])/\Cu.is x0 x1 x2=decide (i0=x2)/\zoc x0)
 def zob:=Cu.is x0 x1 x2=false/\zoc x0
 def zr1:=zod x0 (∃(i0:Int),(∀i1,True/\Cu.ok x0 i1->q4o i1 (Addr.add (adr (Cu.x x0).1 ((0:Nat)*4)) 0) [int i64 i0])/\Ji (i0=(↑x1:Int)) (zr2 x0 x1 x2) (zob x0 x1 x2))
 def zr0:=Ji (Cu.e x0=0) (zr1 x0 x1 x2) (zob x0 x1 x2)
end
def zeu(c:Cu) (k:Nat) (t:ByteArray):qr8 P (λ_=>none) Go.Proofs.Tryd.f26 zid (λ_=>{}) (c,k,t)=(Cu.P c->(∃(p:Pub),True/\Cu.ok c p)->zr0 c k t):=by kernel_rfl
def zir:=λc k t=>Eq.trans (zeu c k t) (by delta Ji Jt Jf zod zoc zr2 zob zr1 zr0;exact rfl)
section
variable (x0:Cu) (x1:Nat) (x2:ByteArray) (x3:CuT)
 abbrev zga:=(Cu.x x3.1).2
 def zr3:=Cu.is x0 x1 x2=false/\(Cu.x (Cu.tk x0 x1 x2)).1=(Cu.x x3.1).1/\(Cu.x (Cu.tk x0 x1 x2)).2.1=(zga x3).1/\(Cu.x (Cu.tk x0 x1 x2)).2.2=(zga x3).2/\Cu.e (Cu.tk x0 x1 x2)=Cu.e x3.1/\Cu.a (Cu.tk x0 x1 x2)=Cu.a x3.1/\True
end
def z8k(c:Cu) (k:Nat) (t:ByteArray):qr8 P (qkw [(26,zid),(29,z15)]) Go.Proofs.Tryd.f25 z1k (λ_=>{}) (c,k,t)=(Cu.P c->(∃(p:Pub),True/\Cu.ok c p)->∃(s:CuT),(↑s.2.1:Int)=(↑k:Int)/\s.2.2=t/\(Cu.x s.1).1=(Cu.x c).1/\(zga s).1=(Cu.x c).2.1/\(zga s).2=(Cu.x c).2.2/\Cu.e s.1=Cu.e c/\Cu.a s.1=Cu.a c/\Cu.P s.1/\(∀(p:Pub),True/\Cu.ok c p->Cu.ok s.1 p)/\((!Cu.is s.1 s.2.1 s.2.2)=true->zr3 c k t s)/\((!Cu.is s.1 s.2.1 s.2.2)=false->∃(s_1:Cu),(Cu.x s_1).1=(Cu.x s.1).1/\(Cu.x s_1).2.1=(zga s).1/\(Cu.x s_1).2.2=(zga s).2/\Cu.e s_1=Cu.e s.1/\Cu.a s_1=Cu.a s.1/\Cu.P s_1/\(∀(p:Pub),True/\Cu.ok c p->Cu.ok s_1 p)/\Cu.is c k t=true/\(Cu.x (Cu.tk c k t)).1=(Cu.x (Cu.nx s_1)).1/\(Cu.x (Cu.tk c k t)).2.1=(Cu.x (Cu.nx s_1)).2.1/\(Cu.x (Cu.tk c k t)).2.2=(Cu.x (Cu.nx s_1)).2.2/\Cu.e (Cu.tk c k t)=Cu.e (Cu.nx s_1)/\Cu.a (Cu.tk c k t)=Cu.a (Cu.nx s_1)/\True)):=by kernel_rfl
def zb0:=λc k t=>Eq.trans (z8k c k t) (by delta zga zr3;exact rfl)
section
variable (x0:Cu) (x1:Nat) (x2:ByteArray) (x3:CuT) (x4:CuE)
 abbrev z96:=Cu.tk x3.1 x3.2.1 x3.2.2
 abbrev zht:=Cu.fa x4.1 x4.2
 def zr4:=(Cu.x (Cu.nd x0 x1 x2)).1=(Cu.x (z96 x3)).1/\(Cu.x (Cu.nd x0 x1 x2)).2.1=(Cu.x (z96 x3)).2.1/\(Cu.x (Cu.nd x0 x1 x2)).2.2=(Cu.x (z96 x3)).2.2/\Cu.e (Cu.nd x0 x1 x2)=Cu.e (z96 x3)/\Cu.a (Cu.nd x0 x1 x2)=Cu.a (z96 x3)/\True
end
def z7u(c:Cu) (k:Nat) (t:ByteArray):qr8 P (qkw [(25,z1k),(33,z0m)]) Go.Proofs.Tryd.f24 z14 (λ_=>{}) (c,k,t)=(Cu.P c->(∃(p:Pub),True/\Cu.ok c p)->∃(s:CuT),(↑s.2.1:Int)=(↑k:Int)/\s.2.2=t/\(Cu.x s.1).1=(Cu.x c).1/\(Cu.x s.1).2.1=(Cu.x c).2.1/\(Cu.x s.1).2.2=(Cu.x c).2.2/\Cu.e s.1=Cu.e c/\Cu.a s.1=Cu.a c/\Cu.P s.1/\(∀(p:Pub),True/\Cu.ok c p->Cu.ok s.1 p)/\((!Cu.is s.1 s.2.1 s.2.2)=true->∃(s_1:CuE),s_1.2=2/\(Cu.x s_1.1).1=(Cu.x (z96 s)).1/\(Cu.x s_1.1).2.1=(Cu.x (z96 s)).2.1/\(Cu.x s_1.1).2.2=(Cu.x (z96 s)).2.2/\Cu.e s_1.1=Cu.e (z96 s)/\Cu.a s_1.1=Cu.a (z96 s)/\Cu.P s_1.1/\(∀(p:Pub),True/\Cu.ok c p->Cu.ok s_1.1 p)/\(Cu.x (Cu.nd c k t)).1=(Cu.x (zht s_1)).1/\(Cu.x (Cu.nd c k t)).2.1=(Cu.x (zht s_1)).2.1/\(Cu.x (Cu.nd c k t)).2.2=(Cu.x (zht s_1)).2.2/\Cu.e (Cu.nd c k t)=Cu.e (zht s_1)/\Cu.a (Cu.nd c k t)=Cu.a (zht s_1)/\True)/\((!Cu.is s.1 s.2.1 s.2.2)=false->zr4 c k t s)):=by kernel_rfl
def zan:=λc k t=>Eq.trans (z7u c k t) (by delta z96 zht zr4;exact rfl)
section
variable (x0:Cu) (x1:Nat) (x2:Int) (x3:ByteArray) (x4 x5:Int) (x6:CuE)
 abbrev zhu:=Cu.fa x6.1 x6.2
 def zoe:=∃(i0:CuE),i0.2=2/\(Cu.x i0.1).1=(Cu.x x0).1/\(Cu.x i0.1).2.1=(Cu.x x0).2.1/\(Cu.x i0.1).2.2=(Cu.x x0).2.2/\Cu.e i0.1=Cu.e x0/\Cu.a i0.1=Cu.a x0/\Cu.P i0.1/\(∀i1,True/\Cu.ok x0 i1->Cu.ok i0.1 i1)/\(↑(Cu.anT x0 x1).1:Int)=0/\(Cu.anT x0 x1).2.1=mkS []/\(↑(Cu.anT x0 x1).2.2.1:Int)=0/\(↑(Cu.anT x0 x1).2.2.2:Int)=0/\(Cu.x (Cu.an x0 x1)).1=(Cu.x (zhu i0)).1/\(Cu.x (Cu.an x0 x1)).2.1=(Cu.x (zhu i0)).2.1/\(Cu.x (Cu.an x0 x1)).2.2=(Cu.x (zhu i0)).2.2/\Cu.e (Cu.an x0 x1)=Cu.e (zhu i0)/\Cu.a (Cu.an x0 x1)=Cu.a (zhu i0)/\True
 def zr6:=((!decide (x2=(↑x1:Int)))=true->zoe x0 x1)/\((!decide (x2=(↑x1:Int)))=false->∃(i2:Cu),(Cu.x i2).1=(Cu.x x0).1/\(Cu.x i2).2.1=(Cu.x x0).2.1/\(Cu.x i2).2.2=(Cu.x x0).2.2/\Cu.e i2=Cu.e x0/\Cu.a i2=Cu.a x0/\Cu.P i2/\(∀i3,True/\Cu.ok x0 i3->Cu.ok i2 i3)/\(↑(Cu.anT x0 x1).1:Int)=x2/\(Cu.anT x0 x1).2.1=x3/\(↑(Cu.anT x0 x1).2.2.1:Int)=x4/\(↑(Cu.anT x0 x1).2.2.2:Int)=x5/\(Cu.x (Cu.an x0 x1)).1=(Cu.x (Cu.nx i2)).1/\(Cu.x (Cu.an x0 x1)).2.1=(Cu.x (Cu.nx i2)).2.1/\(Cu.x (Cu.an x0 x1)).2.2=(Cu.x (Cu.nx i2)).2.2/\Cu.e (Cu.an x0 x1)=Cu.e (Cu.nx i2)/\Cu.a (Cu.an x0 x1)=Cu.a (Cu.nx i2)/\True)
 def zr5:=((0:Int)<=0/\0<(↑(Cu.x x0).2.1:Int))/\(Cu.x x0).1≠noA/\∃(i0:Int),∃i1,∃(i2:Int),∃(i3:Int),(∀i4,True/\Cu.ok x0 i4->q4o i4 (adr (Cu.x x0).1 ((0:Nat)*4)) [int i64 i0,string i1,int u64 i2,int i64 i3])/\((!decide (Cu.e x0=0))=true->zoe x0 x1)/\((!decide (Cu.e x0=0))=false->zr6 x0 x1 i0 i1 i2 i3)
end
def z9x(c:Cu) (k:Nat):qr8 P (qkw [(29,z15),(33,z0m)]) Go.Proofs.Tryd.f30 z44 (λ_=>{}) (c,k)=(Cu.P c->(∃(p:Pub),True/\Cu.ok c p)->zr5 c k):=by kernel_rfl
def zea:=λc k=>Eq.trans (z9x c k) (by delta zhu zoe zr6 zr5;exact rfl)
section
variable (x0:Int) (x1:Cu) (x2:CuE)
 abbrev zhv:=Cu.fa x2.1 x2.2
 def zr8:=(Cu.x (Cu.rm x1 x0)).1=(Cu.x x1).1/\(Cu.x (Cu.rm x1 x0)).2.1=(Cu.x x1).2.1/\(Cu.x (Cu.rm x1 x0)).2.2=(Cu.x x1).2.2/\Cu.e (Cu.rm x1 x0)=Cu.e x1/\Cu.a (Cu.rm x1 x0)=Cu.a x1/\True
 def zr7:=Ji (30<=x0) (∃(i0:CuE),i0.2=3/\(Cu.x i0.1).1=(Cu.x x1).1/\(Cu.x i0.1).2.1=(Cu.x x1).2.1/\(Cu.x i0.1).2.2=(Cu.x x1).2.2/\Cu.e i0.1=Cu.e x1/\Cu.a i0.1=Cu.a x1/\Cu.P i0.1/\(∀i1,True/\Cu.ok x1 i1->Cu.ok i0.1 i1)/\(Cu.x (Cu.rm x1 x0)).1=(Cu.x (zhv i0)).1/\(Cu.x (Cu.rm x1 x0)).2.1=(Cu.x (zhv i0)).2.1/\(Cu.x (Cu.rm x1 x0)).2.2=(Cu.x (zhv i0)).2.2/\Cu.e (Cu.rm x1 x0)=Cu.e (zhv i0)/\Cu.a (Cu.rm x1 x0)=Cu.a (zhv i0)/\True) (zr8 x0 x1)
end
def z8c(c:Cu) (n:Int):qr8 P (qkw [(33,z0m)]) Go.Proofs.Tryd.f28 z2n (λ_=>{}) (c,n)=(Cu.P c->(∃(p:Pub),True/\Cu.ok c p)->zr7 n c):=by kernel_rfl
def zat:=λc n=>Eq.trans (z8c c n) (by delta Ji Jt Jf zhv zr8 zr7;exact rfl)
def z88(s:ByteArray):qr8 P (qkw [(21,zic)]) Go.Proofs.Tryd.f14 z2x (λ_=>{}) s=(True->((!decide (s=mkS []))=true->s=s/\mkS [(46:Nat)]=mkS [(46:Nat)]/\True/\plB s= !zmk s/\True)/\((!decide (s=mkS []))=false->plB s=false/\True)):=by kernel_rfl
section
variable (x0:Cu) (x1:CuN) (x2:CuE)
 abbrev zhw:=Cu.fa x2.1 x2.2
 abbrev zhx:=Cu.an x1.1 x1.2
 def zof:=Cu.P x1.1/\(∀i0,True/\Cu.ok x0 i0->Cu.ok x1.1 i0)/\Cu.plT x0=(Cu.anT x1.1 x1.2).2.1/\(Cu.x (Cu.pl x0)).1=(Cu.x (zhx x1)).1/\(Cu.x (Cu.pl x0)).2.1=(Cu.x (zhx x1)).2.1/\(Cu.x (Cu.pl x0)).2.2=(Cu.x (zhx x1)).2.2/\Cu.e (Cu.pl x0)=Cu.e (zhx x1)/\Cu.a (Cu.pl x0)=Cu.a (zhx x1)/\True
 def zr9:=((0:Int)<=0/\0<(↑(Cu.x x0).2.1:Int))/\(Cu.x x0).1≠noA/\∃i0,(∀i1,True/\Cu.ok x0 i1->q4o i1 (Addr.add (adr (Cu.x x0).1 ((0:Nat)*4)) 1) [string i0])/\i0=i0/\True/\((!plB i0)=true->∃(i2:CuE),i2.2=2/\(Cu.x i2.1).1=(Cu.x x0).1/\(Cu.x i2.1).2.1=(Cu.x x0).2.1/\(Cu.x i2.1).2.2=(Cu.x x0).2.2/\Cu.e i2.1=Cu.e x0/\Cu.a i2.1=Cu.a x0/\Cu.P i2.1/\(∀i3,True/\Cu.ok x0 i3->Cu.ok i2.1 i3)/\∃(i4:CuN),(↑i4.2:Int)=1/\(Cu.x i4.1).1=(Cu.x (zhw i2)).1/\(Cu.x i4.1).2.1=(Cu.x (zhw i2)).2.1/\(Cu.x i4.1).2.2=(Cu.x (zhw i2)).2.2/\Cu.e i4.1=Cu.e (zhw i2)/\Cu.a i4.1=Cu.a (zhw i2)/\zof x0 i4)/\((!plB i0)=false->∃(i6:CuN),(↑i6.2:Int)=1/\(Cu.x i6.1).1=(Cu.x x0).1/\(Cu.x i6.1).2.1=(Cu.x x0).2.1/\(Cu.x i6.1).2.2=(Cu.x x0).2.2/\Cu.e i6.1=Cu.e x0/\Cu.a i6.1=Cu.a x0/\zof x0 i6)
end
def z5v(c:Cu):qr8 P (qkw [(14,z2x),(30,z44),(33,z0m)]) Go.Proofs.Tryd.f52 z1b (λ_=>{}) c=(Cu.P c->(∃(p:Pub),True/\Cu.ok c p)->zr9 c):=by kernel_rfl
def z87:=λc=>Eq.trans (z5v c) (by delta zhw zhx zof zr9;exact rfl)
section
variable (x0:CuT) (x1:CuN)
 abbrev zhy:=Cu.nd x0.1 x0.2.1 x0.2.2
 abbrev zhz:=Cu.an x1.1 x1.2
end
def z5q(c:Cu):qr8 P (qkw [(52,z1b),(30,z44),(24,z14)]) Go.Proofs.Tryd.f93 z48 (λ_=>{}) c=(Cu.P c->(∃(p:Pub),True/\Cu.ok c p)->∃(s:Cu),(Cu.x s).1=(Cu.x c).1/\(Cu.x s).2.1=(Cu.x c).2.1/\(Cu.x s).2.2=(Cu.x c).2.2/\Cu.e s=Cu.e c/\Cu.a s=Cu.a c/\Cu.P s/\(∀(p:Pub),True/\Cu.ok c p->Cu.ok s p)/\∃(s_1:CuT),(↑s_1.2.1:Int)=4/\s_1.2.2=mkS [61]/\(Cu.x s_1.1).1=(Cu.x (Cu.pl s)).1/\(Cu.x s_1.1).2.1=(Cu.x (Cu.pl s)).2.1/\(Cu.x s_1.1).2.2=(Cu.x (Cu.pl s)).2.2/\Cu.e s_1.1=Cu.e (Cu.pl s)/\Cu.a s_1.1=Cu.a (Cu.pl s)/\Cu.P s_1.1/\(∀(p:Pub),True/\Cu.ok c p->Cu.ok s_1.1 p)/\∃(s_2:CuN),(↑s_2.2:Int)=2/\(Cu.x s_2.1).1=(Cu.x (zhy s_1)).1/\(Cu.x s_2.1).2.1=(Cu.x (zhy s_1)).2.1/\(Cu.x s_2.1).2.2=(Cu.x (zhy s_1)).2.2/\Cu.e s_2.1=Cu.e (zhy s_1)/\Cu.a s_2.1=Cu.a (zhy s_1)/\Cu.P s_2.1/\(∀(p:Pub),True/\Cu.ok c p->Cu.ok s_2.1 p)/\Cu.plT c=Cu.plT s/\(↑(Cu.nmN c):Int)=(↑(Cu.anT s_2.1 s_2.2).2.2.1:Int)/\(Cu.x (Cu.nm c)).1=(Cu.x (zhz s_2)).1/\(Cu.x (Cu.nm c)).2.1=(Cu.x (zhz s_2)).2.1/\(Cu.x (Cu.nm c)).2.2=(Cu.x (zhz s_2)).2.2/\Cu.e (Cu.nm c)=Cu.e (zhz s_2)/\Cu.a (Cu.nm c)=Cu.a (zhz s_2)/\True):=by kernel_rfl
def z7r:=λc=>Eq.trans (z5q c) (by delta zhy zhz;exact rfl)
section
variable (x0:CuT) (x1:CuN)
 abbrev zi1:=Cu.an x1.1 x1.2
 abbrev zgb:=(Cu.x x0.1).2
 abbrev zi0:=Cu.nd x0.1 x0.2.1 x0.2.2
end
def z63(c:Cu) (lab:Int):qr8 P (qkw [(93,z48),(30,z44),(24,z14),(25,z25)]) Go.Proofs.Tryd.f83 z30 (λ_=>{}) (c,lab)=(Cu.P c->(∃(p:Pub),True/\Cu.ok c p)->∃(s:CuN),(↑s.2:Int)=1/\(Cu.x s.1).1=(Cu.x c).1/\(Cu.x s.1).2.1=(Cu.x c).2.1/\(Cu.x s.1).2.2=(Cu.x c).2.2/\Cu.e s.1=Cu.e c/\Cu.a s.1=Cu.a c/\Cu.P s.1/\(∀(p:Pub),True/\Cu.ok c p->Cu.ok s.1 p)/\∃(s_1:Cu),(Cu.x s_1).1=(Cu.x (zi1 s)).1/\(Cu.x s_1).2.1=(Cu.x (zi1 s)).2.1/\(Cu.x s_1).2.2=(Cu.x (zi1 s)).2.2/\Cu.e s_1=Cu.e (zi1 s)/\Cu.a s_1=Cu.a (zi1 s)/\Cu.P s_1/\(∀(p:Pub),True/\Cu.ok c p->Cu.ok s_1 p)/\∃(s_2:CuT),(↑s_2.2.1:Int)=4/\s_2.2.2=mkS [91]/\(Cu.x s_2.1).1=(Cu.x (Cu.nm s_1)).1/\(zgb s_2).1=(Cu.x (Cu.nm s_1)).2.1/\(zgb s_2).2=(Cu.x (Cu.nm s_1)).2.2/\Cu.e s_2.1=Cu.e (Cu.nm s_1)/\Cu.a s_2.1=Cu.a (Cu.nm s_1)/\(Cu.P s_2.1/\s_2.2.2∈z1m)/\(∀(p:Pub),True/\Cu.ok c p->Cu.ok s_2.1 p)/\∃(s_3:CuT),(↑s_3.2.1:Int)=4/\s_3.2.2=mkS [59]/\(Cu.x s_3.1).1=(Cu.x s_2.1).1/\(zgb s_3).1=(zgb s_2).1/\(zgb s_3).2=(zgb s_2).2/\Cu.e s_3.1=Cu.e s_2.1/\Cu.a s_3.1=Cu.a s_2.1/\Cu.P s_3.1/\(∀(p:Pub),True/\Cu.ok c p->Cu.ok s_3.1 p)/\lab=lab/\(Cu.anT c 1).2.1=(Cu.anT s.1 s.2).2.1/\mkS []=mkS []/\Cu.plT (Cu.an c 1)=Cu.plT s_1/\(↑(Cu.nmN (Cu.an c 1)):Int)=(↑(Cu.nmN s_1):Int)/\(0:Int)=0/\(0:Int)=0/\(Cu.x (Cu.ty c)).1=(Cu.x (zi0 s_3)).1/\(Cu.x (Cu.ty c)).2.1=(Cu.x (zi0 s_3)).2.1/\(Cu.x (Cu.ty c)).2.2=(Cu.x (zi0 s_3)).2.2/\Cu.e (Cu.ty c)=Cu.e (zi0 s_3)/\Cu.a (Cu.ty c)=Cu.a (zi0 s_3)/\True):=by kernel_rfl
def z8p:=λc lab=>Eq.trans (z63 c lab) (by delta zi1 zgb zi0;exact rfl)
section
variable (x0 x1:CuT) (x2:Cu) (x3:Prop)
 def zmt:=(↑x0.2.1:Int)=1
 abbrev zbu:=(Cu.x x0.1).2
 def zoh:=(Cu.P x0.1/\x0.2.2∈z1m)/\(∀i0,True/\Cu.ok x2 i0->Cu.ok x0.1 i0)/\x3
 def zog:=(Cu.x x0.1).1=(Cu.x x1.1).1/\(zbu x0).1=(zbu x1).1/\(zbu x0).2=(zbu x1).2/\Cu.e x0.1=Cu.e x1.1/\Cu.a x0.1=Cu.a x1.1/\zoh x0 x2 x3
end
def z5m(c:Cu):qr8 P (qkw [(83,z30),(25,z25)]) Go.Proofs.Tryd.f74 z45 (λ_=>{}) c=(Cu.P c->(∃(p:Pub),True/\Cu.ok c p)->∃(s:CuT),zmt s/\s.2.2=mkS [109,97,112]/\(Cu.x s.1).1=(Cu.x c).1/\(zbu s).1=(Cu.x c).2.1/\(zbu s).2=(Cu.x c).2.2/\Cu.e s.1=Cu.e c/\Cu.a s.1=Cu.a c/\zoh s c (∃(s_1:CuT),zmt s_1/\s_1.2.2=mkS [111,112,116,105,111,110,97,108]/\zog s_1 s c (∃(s:CuT),zmt s/\s.2.2=mkS [114,101,112,101,97,116,101,100]/\zog s s_1 c (∃(s_2:CuE),s_2.2=0/\(Cu.x s_2.1).1=(Cu.x s.1).1/\(Cu.x s_2.1).2.1=(zbu s).1/\(Cu.x s_2.1).2.2=(zbu s).2/\Cu.e s_2.1=Cu.e s.1/\Cu.a s_2.1=Cu.a s.1/\Cu.P s_2.1/\(∀(p:Pub),True/\Cu.ok c p->Cu.ok s_2.1 p)/\0=s_2.2/\(Cu.anT c 1).2.1=(Cu.anT s_2.1 1).2.1/\mkS []=mkS []/\Cu.plT (Cu.an c 1)=Cu.plT (Cu.an s_2.1 1)/\(↑(Cu.nmN (Cu.an c 1)):Int)=(↑(Cu.nmN (Cu.an s_2.1 1)):Int)/\(0:Int)=0/\(0:Int)=0/\(Cu.x (Cu.ty c)).1=(Cu.x (Cu.ty s_2.1)).1/\(Cu.x (Cu.ty c)).2.1=(Cu.x (Cu.ty s_2.1)).2.1/\(Cu.x (Cu.ty c)).2.2=(Cu.x (Cu.ty s_2.1)).2.2/\Cu.e (Cu.ty c)=Cu.e (Cu.ty s_2.1)/\Cu.a (Cu.ty c)=Cu.a (Cu.ty s_2.1)/\True)))):=by kernel_rfl
def z7a:=λc=>Eq.trans (z5m c) (by delta zmt zbu zoh zog;exact rfl)
section
variable (x0 x1:CuT) (x2:Cu) (x3:Prop) (x4:Int)
 def zl1:=(↑x0.2.1:Int)=x4
 def zoi:=Cu.P x0.1/\(∀i0,True/\Cu.ok x2 i0->Cu.ok x0.1 i0)/\x3
 abbrev z97:=Cu.nd x0.1 x0.2.1 x0.2.2
 def zmu:=(Cu.x x0.1).1=(Cu.x (z97 x1)).1/\(Cu.x x0.1).2.1=(Cu.x (z97 x1)).2.1/\(Cu.x x0.1).2.2=(Cu.x (z97 x1)).2.2/\Cu.e x0.1=Cu.e (z97 x1)/\Cu.a x0.1=Cu.a (z97 x1)/\zoi x0 x2 x3
end
def z4k(c:Cu):qr8 P (qkw [(24,z14)]) Go.Proofs.Tryd.f16 z2z (λ_=>{}) c=(Cu.P c->(∃(p:Pub),True/\Cu.ok c p)->∃(s:CuT),zl1 s 1/\s.2.2=mkS [115,121,110,116,97,120]/\(Cu.x s.1).1=(Cu.x c).1/\(Cu.x s.1).2.1=(Cu.x c).2.1/\(Cu.x s.1).2.2=(Cu.x c).2.2/\Cu.e s.1=Cu.e c/\Cu.a s.1=Cu.a c/\zoi s c (∃(s_1:CuT),zl1 s_1 4/\s_1.2.2=mkS [61]/\zmu s_1 s c (∃(s:CuT),zl1 s 3/\s.2.2=mkS [112,114,111,116,111,51]/\zmu s s_1 c (∃(s_2:CuT),zl1 s_2 4/\s_2.2.2=mkS [59]/\zmu s_2 s c ((Cu.x (Cu.sy c)).1=(Cu.x (z97 s_2)).1/\(Cu.x (Cu.sy c)).2.1=(Cu.x (z97 s_2)).2.1/\(Cu.x (Cu.sy c)).2.2=(Cu.x (z97 s_2)).2.2/\Cu.e (Cu.sy c)=Cu.e (z97 s_2)/\Cu.a (Cu.sy c)=Cu.a (z97 s_2)/\True))))):=by kernel_rfl
def z60:=λc=>Eq.trans (z4k c) (by delta zl1 zoi z97 zmu;exact rfl)
section
variable (x0:CuT) (x1:Cu) (x2:CuN) (x3:Prop) (x4:CuE)
 abbrev ze3:=(Cu.x x0.1).2
 def zol:=((0:Int)<=0/\0<(↑(ze3 x0).1:Int))/\(Cu.x x0.1).1≠noA/\x3
 abbrev zi2:=Cu.fa x4.1 x4.2
 abbrev zi3:=Cu.an x2.1 x2.2
 def zoj:=Cu.P x2.1/\(∀i0,True/\Cu.ok x1 i0->Cu.ok x2.1 i0)/\(↑(Cu.sgN x1):Int)=IntKind.wrap i64 (↑(Cu.anT x2.1 x2.2).2.2.1:Int)/\(Cu.x (Cu.sg x1)).1=(Cu.x (zi3 x2)).1/\(Cu.x (Cu.sg x1)).2.1=(Cu.x (zi3 x2)).2.1/\(Cu.x (Cu.sg x1)).2.2=(Cu.x (zi3 x2)).2.2/\Cu.e (Cu.sg x1)=Cu.e (zi3 x2)/\Cu.a (Cu.sg x1)=Cu.a (zi3 x2)/\True
 def zok:=∃(i0:CuN),(↑i0.2:Int)=2/\(Cu.x i0.1).1=(Cu.x x0.1).1/\(Cu.x i0.1).2.1=(ze3 x0).1/\(Cu.x i0.1).2.2=(ze3 x0).2/\Cu.e i0.1=Cu.e x0.1/\Cu.a i0.1=Cu.a x0.1/\zoj x1 i0
 def zra:=zol x0 (∃(i0:Int),(∀i1,True/\Cu.ok x1 i1->q4o i1 (Addr.add (adr (Cu.x x0.1).1 ((0:Nat)*4)) 2) [int u64 i0])/\Ji (2147483647<i0) (∃(i2:CuE),i2.2=3/\(Cu.x i2.1).1=(Cu.x x0.1).1/\(Cu.x i2.1).2.1=(ze3 x0).1/\(Cu.x i2.1).2.2=(ze3 x0).2/\Cu.e i2.1=Cu.e x0.1/\Cu.a i2.1=Cu.a x0.1/\Cu.P i2.1/\(∀i3,True/\Cu.ok x1 i3->Cu.ok i2.1 i3)/\∃(i4:CuN),(↑i4.2:Int)=2/\(Cu.x i4.1).1=(Cu.x (zi2 i2)).1/\(Cu.x i4.1).2.1=(Cu.x (zi2 i2)).2.1/\(Cu.x i4.1).2.2=(Cu.x (zi2 i2)).2.2/\Cu.e i4.1=Cu.e (zi2 i2)/\Cu.a i4.1=Cu.a (zi2 i2)/\zoj x1 i4) (zok x0 x1))
end
def z4h(c:Cu):qr8 P (qkw [(30,z44),(25,z25),(33,z0m)]) Go.Proofs.Tryd.f54 z2y (λ_=>{}) c=(Cu.P c->(∃(p:Pub),True/\Cu.ok c p)->∃(s:CuT),(↑s.2.1:Int)=4/\s.2.2=mkS [45]/\(Cu.x s.1).1=(Cu.x c).1/\(ze3 s).1=(Cu.x c).2.1/\(ze3 s).2=(Cu.x c).2.2/\Cu.e s.1=Cu.e c/\Cu.a s.1=Cu.a c/\(Cu.P s.1/\s.2.2∈z1m)/\(∀(p:Pub),True/\Cu.ok c p->Cu.ok s.1 p)/\zol s (∃(n:Int),(∀(p:Pub),True/\Cu.ok c p->q4o p (Addr.add (adr (Cu.x s.1).1 ((0:Nat)*4)) 0) [int i64 n])/\Ji (n=2) (zra s c) (zok s c))):=by kernel_rfl
def z5y:=λc=>Eq.trans (z4h c) (by delta Ji Jt Jf ze3 zol zi2 zi3 zoj zok zra;exact rfl)
section
def zdp:∀(l:List Tk) (i:Nat) (hi:i<l.length) (j:Nat),j<4->(z2s l)[i*4+j]? =(tkV l[i])[j]?
  | x::l,0,_,j,hj=>by
    show(tkV x++z2s l)[0*4+j]? =_
    rw[Nat.zero_mul,Nat.zero_add,List.getElem?_append_left (by show j<4;exact hj)];rfl
  | x::l,i+1,hi,j,hj=>by
    show(tkV x++z2s l)[(i+1)*4+j]? =_
    rw[List.getElem?_append_right (by show 4<=_;omega),show(i+1)*4+j- (tkV x).length=i*4+j by show(i+1)*4+j- 4=_;omega]
    exact zdp l i (by simpa using hi) j hj
def zi9(x:Addr) (h:x.spot=none) (i j:Nat):(x.add i).add j=x.add (i+j):=by
 obtain⟨b,o,s⟩:=x
 simp only at h
 subst h
 unfold Addr.add
 by_cases hi:i=0
 ·subst hi;simp
 ·by_cases hj:j=0
  ·subst hj;simp[hi]
  ·rw[if_neg hi,if_neg hj,if_neg (by omega)]
   simp only[Nat.add_assoc]
variable {p:Pub} {a:Option Addr} {l:List Tk}
def z3t{n c:Nat} (h:qmr p a n c (z2s l)) {i:Nat} (hi:i<l.length):a≠noA/\q4o p (adr a (i*4)) (tkV l[i]):=by
 rcases h.2 with⟨h,_⟩|⟨x,rfl,h1,h2⟩
 ·have:=congrArg List.length h
  rw[z1y,List.length_nil]at this;omega
 ·refine⟨by simp,λj v hj=> ?_⟩
  have hj4:j<4:=(List.getElem?_eq_some_iff.mp hj).1
  show q88 p ((x.add (i*4)).add j)=some v
  rw[zi9 x h1]
  exact h2 _ v (by rw[zdp l i hi j hj4];exact hj)
variable {x:Addr}
def z71{vs:List Value} (h:q4o p x vs) (hs:x.spot=none) (k:Nat) {v:Value} (hv:vs[k]? =some v):q4o p (x.add k) [v]:=λj u hj=>by
  cases j with
  | zero=>
    simp at hj;subst hj
    rw[zi9 x hs]
    exact h k v hv
  |succ j=>simp at hj
def z51(h:x.spot=none) (k:Nat):(x.add k).spot=none:=by
 unfold Addr.add;split
 ·exact h
 ·rfl
def zb3{n c:Nat} (h:qmr p a n c (z2s l)) {i:Nat} (hi:i<l.length) (k:Nat) {v:Value} (hv:(tkV l[i])[k]? =some v):q4o p ((adr a (i*4)).add k) [v]:=by
 obtain⟨h1,h2⟩:=z3t h hi
 rcases h.2 with⟨g,_⟩|⟨x,rfl,g1,g2⟩
 ·have:=congrArg List.length g
  rw[z1y,List.length_nil]at this;omega
 ·exact z71 h2 (z51 g1 _) k hv
variable {c:Cu}
def Cu.P_len(h:c.P):0<c.T.length:=by
 obtain⟨l,a,h⟩:=h.2
 rw[h,List.length_append,List.length_singleton];omega
def Cu.hd_at(h:c.P):∃h0:0<c.T.length,c.T[0]=c.hd:=by
 have h0:=Cu.P_len h
 refine⟨h0,?_⟩
 unfold Cu.hd
 rw[List.headD_eq_head?_getD,List.head?_eq_getElem?,List.getElem?_eq_getElem h0];rfl
def Cu.cells(h:c.P) {p:Pub} (g:c.ok p):c.x.1≠noA/\q4o p (adr c.x.1 (0*4)) (tkV c.hd):=by
 obtain⟨h0,e⟩:=Cu.hd_at h
 have:=z3t g.2 h0
 rw[e]at this;exact this
def Cu.cell(h:c.P) {p:Pub} (g:c.ok p) (k:Nat) {v:Value} (hv:(tkV c.hd)[k]? =some v):q4o p ((adr c.x.1 (0*4)).add k) [v]:=by
 obtain⟨h0,e⟩:=Cu.hd_at h
 rw[←e]at hv
 exact zb3 g.2 h0 k hv
def Cu.len(h:c.P) {p:Pub} (g:c.ok p):(0:Int)<=0/\(0:Int)<(c.x.2.1:Int):=by
 have:=Cu.P_len h
 rw[g.1];omega
def Cu.hd_mem(h:c.P):c.hd∈c.T:=by
 obtain⟨h0,e⟩:=Cu.hd_at h
 rw[←e];exact List.getElem_mem h0
def Cu.P_nx(h:c.P):c.nx.P:=by
 unfold Cu.nx
 split
 ·rename_i hl
  obtain⟨h1,l,a,h2⟩:=h
  refine⟨⟨by show c.T.tail.length<=_;rw[List.length_tail];have:=h1.1;omega,λt ht=>h1.2 t (List.mem_of_mem_tail ht)⟩,?_⟩
  cases l with
  |nil=>rw[h2]at hl;exact absurd hl (by simp)
  |cons t l=>exact⟨l,a,by show c.T.tail=_;rw[h2];rfl⟩
 ·exact h
def Cu.ok_nx(h:c.P) {p:Pub} (g:c.ok p):c.nx.ok p:=by
  unfold Cu.nx
  split
  · rename_i hl
    obtain⟨g1,g2,g3⟩:=g
    cases hT:c.T with
    |nil=>rw[hT]at hl;exact absurd hl (by simp)
    | cons t l=>
      rw[hT]at g1 g3 hl
      rw[List.length_cons]at g1 hl
      refine⟨by show c.x.2.1- 1=l.length;omega,by show c.x.2.1- 1<=c.x.2.2- 1;omega,?_⟩
      show qoq p (slA c.x.1 c.x.2.2 1 4) (z2s l)
      unfold slA
      rw[if_neg (by omega)]
      rcases g3 with⟨g3,_⟩|⟨x,e,s,g3⟩
      · cases g3
      · rw[e]
        refine .inr ⟨x.add 4,rfl,z51 s _,λj v hj=> ?_⟩
        rw[zi9 x s]
        exact g3 _ v (by show(tkV t++z2s l)[4+j]? =_;rw[List.getElem?_append_right (by show 4<=_;omega)];show(z2s l)[4+j- 4]? =_;rw[show 4+j- 4=j by omega];exact hj)
  · exact g
def Cu.P_fa(h:c.P) (e:Int):(c.fa e).P:=by unfold Cu.fa;split<;>exact h
def Cu.ok_fa(g:c.ok p) (e:Int):(c.fa e).ok p:=by unfold Cu.fa;split<;>exact g
inductive Rc(c:Cu):Cu->Prop
 |rfl:Rc c c
 |nx {d} (h:Rc c d):Rc c d.nx
 |fa {d} (h:Rc c d) (e):Rc c (d.fa e)
def Rc.P{c d:Cu} (r:Rc c d) (h:c.P):d.P:=by
 induction r with
 |rfl=>exact h
 |nx _ ih=>exact Cu.P_nx ih
 |fa _ e ih=>exact Cu.P_fa ih e
def Rc.ok{c d:Cu} (r:Rc c d) (h:c.P) {p:Pub} (g:c.ok p):d.ok p:=by
 induction r with
 |rfl=>exact g
 |nx r ih=>exact Cu.ok_nx (r.P h) ih
 |fa _ e ih=>exact Cu.ok_fa ih e
def Rc.tk{c d:Cu} (r:Rc c d) (k t):Rc c (d.tk k t):=by unfold Cu.tk;split<;>first|exact r.nx|exact r
def Rc.nd{c d:Cu} (r:Rc c d) (k t):Rc c (d.nd k t):=by unfold Cu.nd;split<;>first|exact r.nx|exact r.fa _
def Rc.an{c d:Cu} (r:Rc c d) (k):Rc c (d.an k):=by unfold Cu.an;split<;>first|exact r.nx|exact r.fa _
def Rc.rm{c d:Cu} (r:Rc c d) (n):Rc c (d.rm n):=by unfold Cu.rm;split<;>first|exact r.fa _|exact r
def Rc.p0{c d:Cu} (r:Rc c d):Rc c d.p0:=by unfold Cu.p0;split<;>first|exact r|exact r.fa _
def Rc.pl{c d:Cu} (r:Rc c d):Rc c d.pl:=r.p0.an 1
def Rc.nm{c d:Cu} (r:Rc c d):Rc c d.nm:=(r.pl.nd _ _).an 2
def Rc.ty{c d:Cu} (r:Rc c d):Rc c d.ty:=((r.an 1).nm).nd _ _
def Rc.sy{c d:Cu} (r:Rc c d):Rc c d.sy:=(((r.nd _ _).nd _ _).nd _ _).nd _ _
def Rc.s0{c d:Cu} (r:Rc c d):Rc c d.s0:=by unfold Cu.s0;split<;>first|exact r.fa _|exact r
def Rc.sg{c d:Cu} (r:Rc c d):Rc c d.sg:=r.s0.an 2
def Rc.trans{c d e:Cu} (r:Rc c d) (s:Rc d e):Rc c e:=by
 induction s with
 |rfl=>exact r
 |nx _ ih=>exact ih.nx
 |fa _ e ih=>exact ih.fa e
def z04:q7w P 33 z0m:=by
 refine qrb mixed z07 (W:=λ_=>{}) Go.Proofs.Tryd.func33 (by kernel_rfl) (by decide) (by decide) (λs=>by kernel_rfl) λ⟨c,e⟩=>(za5 c e).mpr ?_
 rintro hP ⟨p,_,g⟩
 refine⟨λh0=> ?_,λh0=> ?_⟩
 ·have h0:=of_decide_eq_true h0
  have e1:c.fa e=⟨c.x,c.T,e,(c.hd.2.2.2:Nat)⟩:=if_pos h0
  rw[e1]
  exact⟨Cu.len hP g,(Cu.cells hP g).1,(c.hd.2.2.2:Nat),λq hq=>Cu.cell hP hq.2 3 rfl,rfl,rfl,rfl,rfl,rfl,trivial⟩
 ·have e1:c.fa e=c:=if_neg (of_decide_eq_false h0)
  rw[e1]
  exact⟨rfl,rfl,rfl,rfl,rfl,trivial⟩
def z0f:q7w P 29 z15:=by
 refine qrb mixed z07 (W:=λ_=>{}) Go.Proofs.Tryd.func29 (by kernel_rfl) (by decide) (by decide) (λs=>by kernel_rfl) λc=>(zao c).mpr ?_
 rintro hP ⟨p,_,g⟩
 have gl:=g.1
 refine⟨λh0=> ?_,λh0=> ?_⟩
 ·have h0:=of_decide_eq_true h0
  have e1:c.nx=⟨nxX c.x,c.T.tail,c.e,c.a⟩:=if_pos (by omega)
  rw[e1]
  exact⟨g.2.1,⟨by omega,by omega⟩,rfl,rfl,rfl,rfl,rfl,trivial⟩
 ·have h0:=of_decide_eq_false h0
  have e1:c.nx=c:=if_neg (by omega)
  rw[e1]
  exact⟨rfl,rfl,rfl,rfl,rfl,trivial⟩
def z7h:q7w P 26 zid:=by
 refine qrb mixed z07 (W:=λ_=>{}) Go.Proofs.Tryd.func26 (by kernel_rfl) (by decide) (by decide) (λs=>by kernel_rfl) λ⟨c,k,t⟩=>(zir c k t).mpr ?_
 rintro hP ⟨p,_,g⟩
 have hl:=Cu.len hP g
 have hn:=(Cu.cells hP g).1
 refine⟨λh0=>⟨hl,hn,(c.hd.1:Nat),λq hq=>Cu.cell hP hq.2 0 rfl,λh1=>⟨hl,hn,c.hd.2.1,λq hq=>Cu.cell hP hq.2 1 rfl,?_,rfl,rfl,rfl,rfl,rfl,trivial⟩,λh1=>⟨?_,rfl,rfl,rfl,rfl,rfl,trivial⟩⟩,λh0=>⟨?_,rfl,rfl,rfl,rfl,rfl,trivial⟩⟩
 ·have h1:c.hd.1=k:=by have:=of_decide_eq_true h1;omega
  unfold Cu.is;rw[h0,decide_eq_true h1];rfl
 ·have h1:¬c.hd.1=k:=by have:=of_decide_eq_false h1;omega
  unfold Cu.is;rw[h0,decide_eq_false h1];rfl
 ·unfold Cu.is;rw[h0];rfl
def z0g:q7w P 25 z1k:=by
 refine qrb mixed (qhc (qmo z7h (qmo z0f qqu))) (W:=λ_=>{}) Go.Proofs.Tryd.func25 (by kernel_rfl) (by decide) (by decide) (λs=>by kernel_rfl) λ⟨c,k,t⟩=>(zb0 c k t).mpr ?_
 rintro hP ⟨p,_,g⟩
 refine⟨(c,k,t),rfl,rfl,rfl,rfl,rfl,rfl,rfl,hP,λq hq=>hq.2,λhb=> ?_,λhb=>⟨c,rfl,rfl,rfl,rfl,rfl,hP,λq hq=>hq.2,?_⟩⟩
 ·have hb:c.is k t=false:=by simpa using hb
  have e1:c.tk k t=c:=if_neg (by rw[hb];simp)
  rw[e1]
  exact⟨hb,rfl,rfl,rfl,rfl,rfl,trivial⟩
 ·have hb:c.is k t=true:=by simpa using hb
  have e1:c.tk k t=c.nx:=if_pos hb
  rw[e1]
  exact⟨hb,rfl,rfl,rfl,rfl,rfl,trivial⟩
def z0e:q7w P 24 z14:=by
 refine qrb mixed (qhc (qmo z0g (qmo z04 qqu))) (W:=λ_=>{}) Go.Proofs.Tryd.func24 (by kernel_rfl) (by decide) (by decide) (λs=>by kernel_rfl) λ⟨c,k,t⟩=>(zan c k t).mpr ?_
 rintro hP ⟨p,_,g⟩
 refine⟨(c,k,t),rfl,rfl,rfl,rfl,rfl,rfl,rfl,hP,λq hq=>hq.2,λhb=> ?_,λhb=> ?_⟩
 ·have hb:c.is k t=false:=by simpa using hb
  have e1:c.tk k t=c:=if_neg (by rw[hb];simp)
  have e2:c.nd k t=c.fa 2:=if_neg (by rw[hb];simp)
  rw[e1,e2]
  exact⟨(c,2),rfl,rfl,rfl,rfl,rfl,rfl,hP,λq hq=>hq.2,rfl,rfl,rfl,rfl,rfl,trivial⟩
 ·have hb:c.is k t=true:=by simpa using hb
  have e1:c.tk k t=c.nx:=if_pos hb
  have e2:c.nd k t=c.nx:=if_pos hb
  rw[e1,e2]
  exact⟨rfl,rfl,rfl,rfl,rfl,trivial⟩
def z22:q7w P 30 z44:=by
 refine qrb mixed (qhc (qmo z0f (qmo z04 qqu))) (W:=λ_=>{}) Go.Proofs.Tryd.func30 (by kernel_rfl) (by decide) (by decide) (λs=>by kernel_rfl) λ⟨c,k⟩=>(zea c k).mpr ?_
 rintro hP ⟨p,_,g⟩
 have no:c.isK k=false->c.an k=c.fa 2/\c.anT k=(0,mkS [],0,0):=λh=>⟨if_neg (by rw[h];simp),if_neg (by rw[h];simp)⟩
 refine⟨Cu.len hP g,(Cu.cells hP g).1,(c.hd.1:Nat),c.hd.2.1,(c.hd.2.2.1:Nat),(c.hd.2.2.2:Nat),λq hq=>(Cu.cells hP hq.2).2,λh0=> ?_,λh0=>⟨λh1=> ?_,λh1=> ?_⟩⟩
 ·obtain⟨e1,e2⟩:=no (by unfold Cu.isK;rw[show decide (c.e=0)=false by simpa using h0];rfl)
  rw[e1,e2]
  exact⟨(c,2),rfl,rfl,rfl,rfl,rfl,rfl,hP,λq hq=>hq.2,rfl,rfl,rfl,rfl,rfl,rfl,rfl,rfl,rfl,trivial⟩
 ·have hk:¬c.hd.1=k:=by
   have:¬((c.hd.1:Nat):Int)=k:=by simpa using h1
   omega
  obtain⟨e1,e2⟩:=no (by unfold Cu.isK;rw[decide_eq_false hk,Bool.and_false])
  rw[e1,e2]
  exact⟨(c,2),rfl,rfl,rfl,rfl,rfl,rfl,hP,λq hq=>hq.2,rfl,rfl,rfl,rfl,rfl,rfl,rfl,rfl,rfl,trivial⟩
 ·have hk:c.isK k=true:=by
   have:((c.hd.1:Nat):Int)=k:=by simpa using h1
   unfold Cu.isK;rw[show decide (c.e=0)=true by simpa using h0,decide_eq_true (show c.hd.1=k by omega)];rfl
  have e1:c.an k=c.nx:=if_pos hk
  have e2:c.anT k=c.hd:=if_pos hk
  rw[e1,e2]
  exact⟨c,rfl,rfl,rfl,rfl,rfl,hP,λq hq=>hq.2,rfl,rfl,rfl,rfl,rfl,rfl,rfl,rfl,rfl,trivial⟩
def z1u:q7w P 28 z2n:=by
 refine qrb mixed (qhc (qmo z04 qqu)) (W:=λ_=>{}) Go.Proofs.Tryd.func28 (by kernel_rfl) (by decide) (by decide) (λs=>by kernel_rfl) λ⟨c,n⟩=>(zat c n).mpr ?_
 rintro hP ⟨p,_,g⟩
 refine⟨λh0=> ?_,λh0=> ?_⟩
 ·have e1:c.rm n=c.fa 3:=if_pos (by simpa using h0)
  rw[e1]
  exact⟨(c,3),rfl,rfl,rfl,rfl,rfl,rfl,hP,λq hq=>hq.2,rfl,rfl,rfl,rfl,rfl,trivial⟩
 ·have e1:c.rm n=c:=if_neg (by simpa using h0)
  rw[e1]
  exact⟨rfl,rfl,rfl,rfl,rfl,trivial⟩
def zej:q7w P 21 zic:=by
 refine qrg (Sen.enters_of Go.Proofs.Tryd.func21 (by kernel_rfl)) (λs=> .bool (zmk s)) (λs I=> .sv _) λs F w hp hm=> ?_
 exact(Go.Proofs.Tryd.strings_Contains_one s 46 w).mono λe w' h=>⟨h.1,by rw[h.2];exact Below.refl _ _⟩
def z3p:q7w P 14 z2x:=by
 refine qrb mixed (qhc (qmo zej qqu)) (W:=λ_=>{}) Go.Proofs.Tryd.func14 (by kernel_rfl) (by decide) (by decide) (λs=>by kernel_rfl) λs=>(z88 s).mpr ?_
 intro _
 refine⟨λh=>⟨rfl,rfl,trivial,?_,trivial⟩,λh=>⟨?_,trivial⟩⟩
 ·unfold plB;rw[h];rfl
 ·unfold plB;rw[h];rfl
def z18:q7w P 52 z1b:=by
 refine qrb mixed (qhc (qmo z3p (qmo z22 (qmo z04 qqu)))) (W:=λ_=>{}) Go.Proofs.Tryd.func52 (by kernel_rfl) (by decide) (by decide) (λs=>by kernel_rfl) λc=>(z87 c).mpr ?_
 rintro hP ⟨p,_,g⟩
 refine⟨Cu.len hP g,(Cu.cells hP g).1,c.hd.2.1,λq hq=>Cu.cell hP hq.2 1 rfl,rfl,trivial,λh=> ?_,λh=> ?_⟩
 ·have e1:c.p0=c.fa 2:=if_neg (by rw[show plB c.hd.2.1=false by simpa using h];simp)
  unfold Cu.pl Cu.plT
  rw[e1]
  exact⟨(c,2),rfl,rfl,rfl,rfl,rfl,rfl,hP,λq hq=>hq.2,(c.fa 2,1),rfl,rfl,rfl,rfl,rfl,rfl,Cu.P_fa hP 2,λq hq=>Cu.ok_fa hq.2 2,rfl,rfl,rfl,rfl,rfl,rfl,trivial⟩
 ·have e1:c.p0=c:=if_pos (by simpa using h)
  unfold Cu.pl Cu.plT
  rw[e1]
  exact⟨(c,1),rfl,rfl,rfl,rfl,rfl,rfl,hP,λq hq=>hq.2,rfl,rfl,rfl,rfl,rfl,rfl,trivial⟩
end
def zif{f:Nat} {C C':Ct} (h:q7w P f C) (φ:C'.σ->C.σ) (em:C'.m=C.m) (em':C'.m'=C.m') (ha:∀s,C'.args s=C.args (φ s)) (hh:∀s,C'.h s=C.h (φ s)) (hp:∀s,C'.pre s->C.pre (φ s)) (hm:∀s,C'.mem s=C.mem (φ s)) (hr:∀s,C'.pre s->∀I z,VR I (C.r (φ s)) z->VR I (C'.r s) z) (hb:∀s,∃h1,q1i (C'.h' s) .e=some h1) (hh':∀s,C'.pre s->C'.h' s=C.h' (φ s)) (hg:∀s,C.g (φ s)=C'.g s):q7w P f C':=by
 obtain⟨h1,h2,h3,h4⟩:=h
 refine⟨by rw[em,em'];exact h1,by rw[em];exact h2,h3,λs=> ?_⟩
 obtain⟨h0,h0',e1,e2,h5⟩:=h4 (φ s)
 obtain⟨k1,e3⟩:=hb s
 refine⟨h0,k1,by rw[hh];exact e1,e3,λF I w vs hv hs hl hf p m i z=> ?_⟩
 have e4:k1=h0':=by
  rw[hh' s p,e2]at e3
  exact(Option.some.inj e3).symm
 refine(h5 F I w vs (by rw[←ha];exact hv) hs hl hf (hp s p) (by rw[←hm];exact m) (by rw[←em];exact i) z).mono λe w' ⟨z,I',r1,r2,r3,r4⟩=>⟨z,I',r1,hr s p I' z r2,?_,?_⟩
 ·rw[em,em',e4];exact r3
 ·rw[←hg,e4];exact r4
def z58{c:Cu} (h:c.P) {t:ByteArray} (ht:t∈z1m) (k:Nat):c.is k t=false:=by
 have hne:¬c.hd.2.1=t:=λe=>h.1.2 _ (Cu.hd_mem h) (e ▸ ht)
 unfold Cu.is;rw[decide_eq_false hne,Bool.and_false,Bool.and_false]
def z2a:q7w P 25 z25:=by
 refine zif z0g (C':=z25) (λs=>s) rfl rfl (λ_=>rfl) (λ_=>rfl) (λs h=>h.1) (λ_=>rfl) (λs h I z hz=> ?_) (λs=>⟨_,rfl⟩) (λs h=> ?_) (λ_=>rfl)
 ·have hz:VR I (.sv (.bool (s.1.is s.2.1 s.2.2))) z:=hz
  rw[z58 h.1 h.2]at hz
  cases hz
  exact .bool false
 ·show [(1,s.1.O)]=[(1,(s.1.tk s.2.1 s.2.2).O)]
  rw[show s.1.tk s.2.1 s.2.2=s.1 from if_neg (by rw[z58 h.1 h.2];simp)]
def z7s:q7w P 93 z48:=by
 refine qrb mixed (qhc (qmo z18 (qmo z22 (qmo z0e qqu)))) (W:=λ_=>{}) Go.Proofs.Tryd.func93 (by kernel_rfl) (by decide) (by decide) (λs=>by kernel_rfl) λc=>(z7r c).mpr ?_
 rintro hP ⟨p,_,g⟩
 have H:∀q,True/\c.ok q->c.ok q:=λq hq=>hq.2
 exact⟨c,rfl,rfl,rfl,rfl,rfl,(Rc.rfl).P hP,λq hq=>(Rc.rfl).ok hP (H q hq),(c.pl,4,mkS [61]),rfl,rfl,rfl,rfl,rfl,rfl,rfl,(Rc.rfl.pl).P hP,λq hq=>(Rc.rfl.pl).ok hP (H q hq),(c.pl.nd 4 (mkS [61]),2),rfl,rfl,rfl,rfl,rfl,rfl,(Rc.rfl.pl.nd _ _).P hP,λq hq=>(Rc.rfl.pl.nd _ _).ok hP (H q hq),rfl,rfl,rfl,rfl,rfl,rfl,rfl,trivial⟩
def z3u:q7w P 83 z30:=by
 refine qrb mixed (qhc (qmo z7s (qmo z22 (qmo z0e (qmo z2a qqu))))) (W:=λ_=>{}) Go.Proofs.Tryd.func83 (by kernel_rfl) (by decide) (by decide) (λs=>by kernel_rfl) λ⟨c,lab⟩=>(z8p c lab).mpr ?_
 rintro hP ⟨p,_,g⟩
 have H:∀q,True/\c.ok q->c.ok q:=λq hq=>hq.2
 exact⟨(c,1),rfl,rfl,rfl,rfl,rfl,rfl,(Rc.rfl).P hP,λq hq=>(Rc.rfl).ok hP (H q hq),c.an 1,rfl,rfl,rfl,rfl,rfl,(Rc.rfl.an 1).P hP,λq hq=>(Rc.rfl.an 1).ok hP (H q hq),((c.an 1).nm,4,mkS [91]),rfl,rfl,rfl,rfl,rfl,rfl,rfl,⟨(Rc.rfl.an 1).nm.P hP,by show mkS [91]∈z1m;simp[z1m]⟩,λq hq=>(Rc.rfl.an 1).nm.ok hP hq.2,((c.an 1).nm,4,mkS [59]),rfl,rfl,rfl,rfl,rfl,rfl,rfl,((Rc.rfl.an 1).nm).P hP,λq hq=>((Rc.rfl.an 1).nm).ok hP (H q hq),rfl,rfl,rfl,rfl,rfl,rfl,rfl,rfl,rfl,rfl,rfl,rfl,trivial⟩
def z7b:q7w P 74 z45:=by
 refine qrb mixed (qhc (qmo z3u (qmo z2a qqu))) (W:=λ_=>{}) Go.Proofs.Tryd.func74 (by kernel_rfl) (by decide) (by decide) (λs=>by kernel_rfl) λc=>(z7a c).mpr ?_
 rintro hP ⟨p,_,g⟩
 have H:∀q,True/\c.ok q->c.ok q:=λq hq=>hq.2
 exact⟨(c,1,mkS [109,97,112]),rfl,rfl,rfl,rfl,rfl,rfl,rfl,⟨hP,by show mkS [109,97,112]∈z1m;simp[z1m]⟩,H,(c,1,mkS [111,112,116,105,111,110,97,108]),rfl,rfl,rfl,rfl,rfl,rfl,rfl,⟨hP,by show mkS [111,112,116,105,111,110,97,108]∈z1m;simp[z1m]⟩,H,(c,1,mkS [114,101,112,101,97,116,101,100]),rfl,rfl,rfl,rfl,rfl,rfl,rfl,⟨hP,by show mkS [114,101,112,101,97,116,101,100]∈z1m;simp[z1m]⟩,H,(c,0),rfl,rfl,rfl,rfl,rfl,rfl,hP,H,rfl,rfl,rfl,rfl,rfl,rfl,rfl,rfl,rfl,rfl,rfl,rfl,trivial⟩
def z61:q7w P 16 z2z:=by
 refine qrb mixed (qhc (qmo z0e qqu)) (W:=λ_=>{}) Go.Proofs.Tryd.func16 (by kernel_rfl) (by decide) (by decide) (λs=>by kernel_rfl) λc=>(z60 c).mpr ?_
 rintro hP ⟨p,_,g⟩
 have H:∀q,True/\c.ok q->c.ok q:=λq hq=>hq.2
 exact⟨(c,1,mkS [115,121,110,116,97,120]),rfl,rfl,rfl,rfl,rfl,rfl,rfl,hP,H,(c.nd 1 (mkS [115,121,110,116,97,120]),4,mkS [61]),rfl,rfl,rfl,rfl,rfl,rfl,rfl,(Rc.rfl.nd _ _).P hP,λq hq=>(Rc.rfl.nd _ _).ok hP (H q hq),((c.nd 1 (mkS [115,121,110,116,97,120])).nd 4 (mkS [61]),3,mkS [112,114,111,116,111,51]),rfl,rfl,rfl,rfl,rfl,rfl,rfl,((Rc.rfl.nd _ _).nd _ _).P hP,λq hq=>((Rc.rfl.nd _ _).nd _ _).ok hP (H q hq),(((c.nd 1 (mkS [115,121,110,116,97,120])).nd 4 (mkS [61])).nd 3 (mkS [112,114,111,116,111,51]),4,mkS [59]),rfl,rfl,rfl,rfl,rfl,rfl,rfl,(((Rc.rfl.nd _ _).nd _ _).nd _ _).P hP,λq hq=>(((Rc.rfl.nd _ _).nd _ _).nd _ _).ok hP (H q hq),rfl,rfl,rfl,rfl,rfl,trivial⟩
def zjt(c:Cu):c.sgN<=2147483647:=by
 unfold Cu.sgN Cu.anT
 split
 ·rename_i h
  unfold Cu.isK at h
  simp only[Bool.and_eq_true,decide_eq_true_eq]at h
  unfold Cu.s0 at h⊢
  split
  ·rename_i h2
   rw[if_pos h2]at h
   exfalso
   unfold Cu.fa at h
   split at h
   ·exact absurd h.1 (by show¬(3:Int)=0;decide)
   ·rename_i h3;exact h3 h.1
  ·rename_i h2
   rw[if_neg h2]at h
   have:=h.2
   omega
 ·exact Nat.zero_le _
def zfz(c:Cu):IntKind.i64.wrap ((c.sgN:Nat):Int)=c.sgN:=by
 have:=zjt c
 exact wrap64 _ (by omega) (by omega)
def z5z:q7w P 54 z2y:=by
 refine qrb mixed (qhc (qmo z22 (qmo z2a (qmo z04 qqu)))) (W:=λ_=>{}) Go.Proofs.Tryd.func54 (by kernel_rfl) (by decide) (by decide) (λs=>by kernel_rfl) λc=>(z5y c).mpr ?_
 rintro hP ⟨p,_,g⟩
 have H:∀q,True/\c.ok q->c.ok q:=λq hq=>hq.2
 have wr:=zfz c
 refine⟨(c,4,mkS [45]),rfl,rfl,rfl,rfl,rfl,rfl,rfl,⟨hP,by show mkS [45]∈z1m;simp[z1m]⟩,H,Cu.len hP g,(Cu.cells hP g).1,(c.hd.1:Nat),λq hq=>Cu.cell hP hq.2 0 rfl,λh2=>⟨Cu.len hP g,(Cu.cells hP g).1,(c.hd.2.2.1:Nat),λq hq=>Cu.cell hP hq.2 2 rfl,λhm=> ?_,λhm=> ?_⟩,λh2=> ?_⟩
 ·have e:c.s0=c.fa 3:=if_pos ⟨by have:=of_decide_eq_true h2;omega,by have:=of_decide_eq_true hm;omega⟩
  unfold Cu.sg
  unfold Cu.sgN at wr⊢
  rw[e]at wr⊢
  exact⟨(c,3),rfl,rfl,rfl,rfl,rfl,rfl,hP,H,(c.fa 3,2),rfl,rfl,rfl,rfl,rfl,rfl,Cu.P_fa hP 3,λq hq=>Cu.ok_fa hq.2 3,wr.symm,rfl,rfl,rfl,rfl,rfl,trivial⟩
 ·have e:c.s0=c:=if_neg (λh=>by have:=of_decide_eq_false hm;omega)
  unfold Cu.sg
  unfold Cu.sgN at wr⊢
  rw[e]at wr⊢
  exact⟨(c,2),rfl,rfl,rfl,rfl,rfl,rfl,hP,H,wr.symm,rfl,rfl,rfl,rfl,rfl,trivial⟩
 ·have e:c.s0=c:=if_neg (λh=>by have:=of_decide_eq_false h2;omega)
  unfold Cu.sg
  unfold Cu.sgN at wr⊢
  rw[e]at wr⊢
  exact⟨(c,2),rfl,rfl,rfl,rfl,rfl,rfl,hP,H,wr.symm,rfl,rfl,rfl,rfl,rfl,trivial⟩
section
def itr{S:Type} (go:S->Bool) (bd:S->S):Nat->S->S
 |0,s=>s
 |f+1,s=>if go s then itr go bd f (bd s)else s
variable {S:Type}
def z2p{go:S->Bool} {bd:S->S} {s:S} (h:go s=false):∀f,itr go bd f s=s
 |0=>rfl
 |f+1=>by rw[itr,h];rfl
def z36{S:Type} {go:S->Bool} {bd:S->S} {μ:S->Nat} {I:S->Prop} (hI:∀s,I s->go s=true->I (bd s)/\μ (bd s)<μ s):∀(f:Nat) (s:S),I s->μ s<=f->itr go bd f s=itr go bd (μ s) s
  |0,s,_,h=>by rw[show μ s=0 by omega]
  | f + 1,s,hs,h=>by
    cases hg:go s with
    |false=>rw[z2p hg,z2p hg]
    | true=>
      have h2:=hI s hs hg
      rw[itr,hg]
      cases hm:μ s with
      |zero=>exact absurd h2.2 (by omega)
      | succ k=>
        rw[itr,hg]
        show itr go bd f (bd s)=itr go bd k (bd s)
        rw[z36 hI f _ h2.1 (by omega),z36 hI k _ h2.1 (by omega)]
  termination_by f=>f
def z59{go:S->Bool} {bd:S->S} {μ:S->Nat} {I:S->Prop} (hI:∀s,I s->go s=true->I (bd s)/\μ (bd s)<μ s) {s:S} (hs:I s) (hg:go s=true):itr go bd (μ s) s=itr go bd (μ (bd s)) (bd s):=by
  have h2:=hI s hs hg
  cases hm:μ s with
  |zero=>exact absurd h2.2 (by omega)
  | succ k=>
    rw[itr,hg]
    show itr go bd k (bd s)=_
    exact z36 hI k _ h2.1 (by omega)
def Cu.mu(c:Cu):Nat:=if c.e=0 then c.T.length+1 else 0
def cbW:ByteArray:=mkS [125]
def smW:ByteArray:=mkS [59]
def eqW:ByteArray:=mkS [61]
def obW:ByteArray:=mkS [123]
structure ES where
 c:Cu
 n:Nat
def za3(s:ES):Bool:=decide (s.c.e=0)&& !s.c.is 4 cbW
def Cu.eB(c:Cu):Bool:=decide (c.hd.1=1)&&plB c.hd.2.1
def Cu.e0(c:Cu) (n:Nat):Cu:=if c.eB then c.rm n else c
def Cu.e1(c:Cu) (n:Nat):Cu:=(((c.e0 n).pl.nd 4 eqW).sg).nd 4 smW
def zcw(s:ES):ES:=if s.c.is 4 smW then⟨s.c.nx,s.n⟩else⟨s.c.e1 s.n,s.n+1⟩
def enL(s:ES):ES:=itr za3 zcw s.c.mu s
def Cu.en0(c:Cu):Cu:=c.nx.pl.nd 4 obW
def Cu.en(c:Cu):Cu:=(enL ⟨c.en0,0⟩).c.tk 4 cbW
def Cu.enN(c:Cu):Nat:=(enL ⟨c.en0,0⟩).n
def Cu.enT(c:Cu):ByteArray:=c.nx.plT
def crK(σ:Type) (args:σ->List AV) (c:σ->Cu) (pre:σ->Prop) (β:Type) (post:σ->β->Prop) (r:σ->β->AV) (to:σ->Cu):CtR where
 σ:=σ
 args:=λs=> .ptr 1 0::args s
 h:=λs=>[(1,(c s).O)]
 m:=2
 pre:=λs=>(c s).P/\pre s
 mem:=λs=>(c s).M
 β:=λ_=>β
 post:=post
 r:=r
 h':=λs _=>[(1,(to s).O)]
 m':=2
def z52:CtR:=crK Cu (λ_=>[]) (λc=>c) (λ_=>True) SV (λc x=>x.2.1=c.enN) (λc x=> .agg [.sv (.string c.enT),svA x]) λc=>c.en
def zow(h:T AO) (id:Nat):Option (SV×Int×Int):=match h.get id with
  | some (.cells _ _ _ [.sv (.slice a n c),x,y])=>match gi x with
    | some (_,e)=>match gi y with
      |some (_,i)=>some ((a,n,c),e,i)
      |none=>none
    |none=>none
  |_=>none
def zsq(h:T AO) (id k:Nat):Option Nat:=match h.get id with
  | some (.cells _ _ _ l)=>match nth l k with
    |some (.ssl _ _ n _ _)=>some n
    |some .nsl=>some 0
    |_=>none
  |_=>none
def z2i(d:Cu) (x:SV) (e a:Int):Prop:=d.x=x/\d.e=e/\d.a=a
def zhp(c0:Cu) (h:T AO) (t:Cu->List (Nat×AV)) (f:Cu->Cu) (keep:List Nat):Option LT:=match zow h 1 with
 |some (x,e,a)=>some {σ:=Cu,pre:=λd=>z2i d x e a/\Rc c0 d,t:=λd=>t d,h:=λd=>[(1,(f d).O)],more:=0,μ:=λ_=>0,keep:=keep}
 |none=>none
def zds:Cu->WayF:=λc0=>{
  ann:=λi tt hh=>match i with
    |0=>some {σ:=ES×List Value,pre:=λ⟨s,vs⟩=>Rc c0 s.c/\(vs.length=s.n*2/\s.n+s.c.mu<=c0.T.length+1)/\enL s=enL ⟨c0.en0,0⟩,t:=λ_=>[],h:=λ⟨s,vs⟩=>[(1,s.c.O),(7, .cells 40 (some 0) false [.sv (.string c0.enT), .ssl 10 0 s.n 2 11]),(10, .row 115 0 vs)],more:=2,μ:=λ⟨s,vs⟩=>s.c.mu,keep:=[0,2,3]}
    |_=>none
  cut :=λi tt hh=>match i with
    |7=>zhp c0 hh (λc=>[(41, .sv (.bool c.eB))]) (λc=>c) [0,2,3]
    | 8=>match zsq hh 7 1 with
      |some n=>zhp c0 hh (λ_=>[]) (λc=>c.e0 n) [0,2,3]
      |none=>none
    |_=>none
  pubE:=[1000002]}
end
section
variable (x0:ES×List Value) (x1:Cu) (x2:CuT) (x3:Cu) (x4:Prop) (x5:CuE) (x6:Nat) (x7:Option Addr)
 abbrev z9a:=Cu.P x1/\(∀i0,True/\Cu.ok x3 i0->Cu.ok x1 i0)/\x4
 def z66:=(↑x2.2.1:Int)=4
 abbrev z3e:=(Cu.x x2.1).2
 def z98:=Cu.P x2.1/\(∀i0,True/\Cu.ok x1 i0->Cu.ok x2.1 i0)/\x4
 def zom:=(Cu.x x2.1).1=(Cu.x (Cu.pl x1)).1/\(z3e x2).1=(Cu.x (Cu.pl x1)).2.1/\(z3e x2).2=(Cu.x (Cu.pl x1)).2.2/\Cu.e x2.1=Cu.e (Cu.pl x1)/\Cu.a x2.1=Cu.a (Cu.pl x1)/\z98 x3 x2 x4
 abbrev z9b:=Cu.nd x2.1 x2.2.1 x2.2.2
 def zon:=(Cu.x (ES.c x0.1)).1=(Cu.x (z9b x2)).1/\(Cu.x (ES.c x0.1)).2.1=(Cu.x (z9b x2)).2.1/\(Cu.x (ES.c x0.1)).2.2=(Cu.x (z9b x2)).2.2/\Cu.e (ES.c x0.1)=Cu.e (z9b x2)/\Cu.a (ES.c x0.1)=Cu.a (z9b x2)/\x4
 def z99:=(∀i0,True/\Cu.ok x1 i0->True/\Cu.ok x1 i0)
 def zl2:=Rc x1 (ES.c x0.1)/\(length x0.2=ES.n x0.1*2/\ES.n x0.1+Cu.mu (ES.c x0.1)<=length (Cu.T x1)+1)/\enL x0.1=enL (ES.mk (Cu.en0 x1) 0)
 abbrev z13:=Cu.tk x2.1 x2.2.1 x2.2.2
 def zgd:=((0:Int)<=0/\0<(↑(Cu.x (z13 x2)).2.1:Int))/\(Cu.x (z13 x2)).1≠noA/\x4
 def zbv:=z2i x1 ((Cu.x (z13 x2)).1,(Cu.x (z13 x2)).2.1,(Cu.x (z13 x2)).2.2) (Cu.e (z13 x2)) (Cu.a (z13 x2))/\Rc x3 x1
 def zmv:=Cu.enT x1=Cu.enT x1/\ES.n x0.1=ES.n x0.1/\x0.2=x0.2/\z99 x1/\(zbv x3 x2 x1)/\True
 def zgc:=(Cu.x x1).1=(Cu.x (z13 x2)).1/\(Cu.x x1).2.1=(Cu.x (z13 x2)).2.1/\(Cu.x x1).2.2=(Cu.x (z13 x2)).2.2/\Cu.e x1=Cu.e (z13 x2)/\Cu.a x1=Cu.a (z13 x2)/\zmv x0 x3 x2 x1
 def zre:=zgd x2 (∃i0,(∀i1,True/\Cu.ok x1 i1->q4o i1 (Addr.add (adr (Cu.x (z13 x2)).1 ((0:Nat)*4)) 1) [string i0])/\i0=i0/\True/\∃(i2:Cu),Cu.eB i2=plB i0/\zgc x0 i2 x2 x1)
 abbrev z67:=Cu.rm x5.1 x5.2
 abbrev z4u:=(Cu.x (Cu.e0 x1 (ES.n x0.1))).2
 def zrd:=(Cu.eB x1=true->∃(i0:CuE),i0.2=(↑(ES.n x0.1):Int)/\(Cu.x i0.1).1=(Cu.x x1).1/\(Cu.x i0.1).2.1=(Cu.x x1).2.1/\(Cu.x i0.1).2.2=(Cu.x x1).2.2/\Cu.e i0.1=Cu.e x1/\Cu.a i0.1=Cu.a x1/\Cu.P i0.1/\(∀i1,True/\Cu.ok x3 i1->Cu.ok i0.1 i1)/\∃(i2:Cu),(Cu.x (Cu.e0 i2 (ES.n x0.1))).1=(Cu.x (z67 i0)).1/\(z4u x0 i2).1=(Cu.x (z67 i0)).2.1/\(z4u x0 i2).2=(Cu.x (z67 i0)).2.2/\Cu.e (Cu.e0 i2 (ES.n x0.1))=Cu.e (z67 i0)/\Cu.a (Cu.e0 i2 (ES.n x0.1))=Cu.a (z67 i0)/\zmv x0 x3 x2 i2)/\(Cu.eB x1=false->∃(i4:Cu),(Cu.x (Cu.e0 i4 (ES.n x0.1))).1=(Cu.x x1).1/\(z4u x0 i4).1=(Cu.x x1).2.1/\(z4u x0 i4).2=(Cu.x x1).2.2/\Cu.e (Cu.e0 i4 (ES.n x0.1))=Cu.e x1/\Cu.a (Cu.e0 i4 (ES.n x0.1))=Cu.a x1/\zmv x0 x3 x2 i4)
 def zrc:=((zgd x2 (∃(i0:Int),(∀i1,True/\Cu.ok x1 i1->q4o i1 (Addr.add (adr (Cu.x (z13 x2)).1 ((0:Nat)*4)) 0) [int i64 i0])/\Ji (i0=1) (zre x0 x1 x2) (∃(i6:Cu),Cu.eB i6=false/\zgc x0 i6 x2 x1)))/\∀(i8:Cu),zbv i8 x2 x1->zrd x0 i8 x2 x1)/\∀(i15:Cu),zbv i15 x2 x1->∃(i16:Cu),(Cu.x i16).1=(Cu.x (Cu.e0 i15 (ES.n x0.1))).1/\(Cu.x i16).2.1=(z4u x0 i15).1/\(Cu.x i16).2.2=(z4u x0 i15).2/\Cu.e i16=Cu.e (Cu.e0 i15 (ES.n x0.1))/\Cu.a i16=Cu.a (Cu.e0 i15 (ES.n x0.1))/\z9a i16 x1 (∃(i18:CuT),z66 i18/\i18.2.2=mkS [61]/\zom i16 i18 x1 (∃(i20:Cu),(Cu.x i20).1=(Cu.x (z9b i18)).1/\(Cu.x i20).2.1=(Cu.x (z9b i18)).2.1/\(Cu.x i20).2.2=(Cu.x (z9b i18)).2.2/\Cu.e i20=Cu.e (z9b i18)/\Cu.a i20=Cu.a (z9b i18)/\z9a i20 x1 (length x0.2=ES.n x0.1*2/\(ES.n x0.1+nat_lit 1)*24<=140737488355328/\AV.ssl (nat_lit 10) (nat_lit 0) (ES.n x0.1) (nat_lit 2) (nat_lit 11)=AV.ssl (nat_lit 10) (nat_lit 0) (ES.n x0.1) (nat_lit 2) (nat_lit 11)/\∃(i22:CuT),z66 i22/\i22.2.2=mkS [59]/\(Cu.x i22.1).1=(Cu.x (Cu.sg i20)).1/\(z3e i22).1=(Cu.x (Cu.sg i20)).2.1/\(z3e i22).2=(Cu.x (Cu.sg i20)).2.2/\Cu.e i22.1=Cu.e (Cu.sg i20)/\Cu.a i22.1=Cu.a (Cu.sg i20)/\z98 x1 i22 (∃(i24:ES×List Value),zon i24 i22 (Cu.enT x1=Cu.enT x1/\ES.n i24.1=ES.n x0.1+nat_lit 1/\i24.2=x0.2++[string (Cu.plT i16),int i64 (↑(Cu.sgN i20):Int)]/\z99 x1/\(zl2 i24 x1)/\Cu.mu (ES.c i24.1)<Cu.mu (ES.c x0.1)/\True)))))
 def zge:=∃i0,(True/\Cu.ok x1 i0)/\ES.n x0.1<=x6/\qoq i0 x7 (take (ES.n x0.1*nat_lit 2) x0.2)
 def zrb:=Ji (Cu.e (ES.c x0.1)=0) (∃(i0:CuT),z66 i0/\i0.2.2=mkS [125]/\(Cu.x i0.1).1=(Cu.x (ES.c x0.1)).1/\(z3e i0).1=(Cu.x (ES.c x0.1)).2.1/\(z3e i0).2=(Cu.x (ES.c x0.1)).2.2/\Cu.e i0.1=Cu.e (ES.c x0.1)/\Cu.a i0.1=Cu.a (ES.c x0.1)/\z98 x1 i0 (((!Cu.is i0.1 i0.2.1 i0.2.2)=true->∃(i2:CuT),z66 i2/\i2.2.2=mkS [59]/\(Cu.x i2.1).1=(Cu.x (z13 i0)).1/\(z3e i2).1=(Cu.x (z13 i0)).2.1/\(z3e i2).2=(Cu.x (z13 i0)).2.2/\Cu.e i2.1=Cu.e (z13 i0)/\Cu.a i2.1=Cu.a (z13 i0)/\z98 x1 i2 ((Cu.is i2.1 i2.2.1 i2.2.2=true->∃(i4:ES×List Value),(Cu.x (ES.c i4.1)).1=(Cu.x (z13 i2)).1/\(Cu.x (ES.c i4.1)).2.1=(Cu.x (z13 i2)).2.1/\(Cu.x (ES.c i4.1)).2.2=(Cu.x (z13 i2)).2.2/\Cu.e (ES.c i4.1)=Cu.e (z13 i2)/\Cu.a (ES.c i4.1)=Cu.a (z13 i2)/\Cu.enT x1=Cu.enT x1/\ES.n i4.1=ES.n x0.1/\i4.2=x0.2/\z99 x1/\(zl2 i4 x1)/\Cu.mu (ES.c i4.1)<Cu.mu (ES.c x0.1)/\True)/\(Cu.is i2.1 i2.2.1 i2.2.2=false->zrc x0 x1 i2)))/\((!Cu.is i0.1 i0.2.1 i0.2.2)=false->∀(i32 i33 i34:Nat) (i35:Option Addr) (i36 i37:Nat),(zge x0 x1 i37 i35)->∃(i39:Option Addr×Nat×Nat),Cu.enT x1=Cu.enT x1/\i39.1=i35/\i39.2.1=ES.n x0.1/\i39.2.2=i37/\(Cu.x (Cu.en x1)).1=(Cu.x (z13 i0)).1/\(Cu.x (Cu.en x1)).2.1=(Cu.x (z13 i0)).2.1/\(Cu.x (Cu.en x1)).2.2=(Cu.x (z13 i0)).2.2/\Cu.e (Cu.en x1)=Cu.e (z13 i0)/\Cu.a (Cu.en x1)=Cu.a (z13 i0)/\i39.2.1=Cu.enN x1/\True))) (∀(i40 i41 i42:Nat) (i43:Option Addr) (i44 i45:Nat),(zge x0 x1 i45 i43)->∃(i47:Option Addr×Nat×Nat),Cu.enT x1=Cu.enT x1/\i47.1=i43/\i47.2.1=ES.n x0.1/\i47.2.2=i45/\(Cu.x (Cu.en x1)).1=(Cu.x (ES.c x0.1)).1/\(Cu.x (Cu.en x1)).2.1=(Cu.x (ES.c x0.1)).2.1/\(Cu.x (Cu.en x1)).2.2=(Cu.x (ES.c x0.1)).2.2/\Cu.e (Cu.en x1)=Cu.e (ES.c x0.1)/\Cu.a (Cu.en x1)=Cu.a (ES.c x0.1)/\i47.2.1=Cu.enN x1/\True)
end
def z77(c:Cu):qr9 P (qkw [(52,z1b),(14,z2x),(24,z14),(25,z1k),(29,z15),(28,z2n),(54,z2y)]) (λ_=>none) Go.Proofs.Tryd.f32 z52 (zds) c=(Cu.P c/\True->(∃(p:Pub),True/\Cu.ok c p)->∃(s:Cu),(Cu.x s).1=(Cu.x c).1/\(Cu.x s).2.1=(Cu.x c).2.1/\(Cu.x s).2.2=(Cu.x c).2.2/\Cu.e s=Cu.e c/\Cu.a s=Cu.a c/\z9a s c (∃(s_1:Cu),(Cu.x s_1).1=(Cu.x (Cu.nx s)).1/\(Cu.x s_1).2.1=(Cu.x (Cu.nx s)).2.1/\(Cu.x s_1).2.2=(Cu.x (Cu.nx s)).2.2/\Cu.e s_1=Cu.e (Cu.nx s)/\Cu.a s_1=Cu.a (Cu.nx s)/\z9a s_1 c (∃(s:CuT),z66 s/\s.2.2=mkS [123]/\zom s_1 s c ((∃(s_2:ES×List Value),zon s_2 s (Cu.enT c=Cu.plT s_1/\ES.n s_2.1=0/\z99 c/\(zl2 s_2 c)/\True))/\∀(s:ES×List Value),zl2 s c->zrb s c)))):=by kernel_rfl
def za4:=λc=>Eq.trans (z77 c) (by delta Ji Jt Jf z9a z66 z3e z98 zom z9b zon z99 zl2 z13 zgd zbv zmv zgc zre z67 z4u zrd zrc zge zrb;exact rfl)
section
def q1{c d:Cu} (h:c=d):c.x.1=d.x.1:=by rw[h]
def q2{c d:Cu} (h:c=d):c.x.2.1=d.x.2.1:=by rw[h]
def q3{c d:Cu} (h:c=d):c.x.2.2=d.x.2.2:=by rw[h]
def q4{c d:Cu} (h:c=d):c.e=d.e:=by rw[h]
def q5{c d:Cu} (h:c=d):c.a=d.a:=by rw[h]
def Cu.nx_len(c:Cu):c.nx.T.length<=c.T.length:=by
 unfold Cu.nx;split
 ·show c.T.tail.length<=_;rw[List.length_tail];omega
 ·exact Nat.le_refl _
def Cu.nx_e(c:Cu):c.nx.e=c.e:=by unfold Cu.nx;split<;>rfl
variable {c:Cu}
def Cu.fa_e{e:Int} (h:(c.fa e).e=0):c.e=0:=by
 unfold Cu.fa at h;split at h
 ·assumption
 ·exact h
def Cu.fa_T(c:Cu) (e:Int):(c.fa e).T=c.T:=by unfold Cu.fa;split<;>rfl
def Cu.fa_no{e:Int} (h:e≠0):(c.fa e).e≠0:=λh2=>by
 have:=Cu.fa_e h2
 unfold Cu.fa at h2;rw[if_pos this]at h2;exact h h2
def Rc.mono{c d:Cu} (r:Rc c d):d.T.length<=c.T.length/\(d.e=0->c.e=0):=by
 induction r with
 |rfl=>exact⟨Nat.le_refl _,λh=>h⟩
 |nx r ih=>exact⟨Nat.le_trans (Cu.nx_len _) ih.1,λh=>ih.2 (by rwa [Cu.nx_e]at h)⟩
 |fa r e ih=>exact⟨by rw[Cu.fa_T];exact ih.1,λh=>ih.2 (Cu.fa_e h)⟩
def Rc.drop{c d:Cu} (r:Rc c d):∃k,d.T=c.T.drop k:=by
  induction r with
  |rfl=>exact⟨0,by rw[List.drop_zero]⟩
  | @nx d r ih=>
    obtain⟨k,h⟩:=ih
    unfold Cu.nx;split
    · exact⟨k+1,by show d.T.tail=_;rw[h,List.tail_drop]⟩
    · exact⟨k,h⟩
  |fa r e ih=>rw[Cu.fa_T];exact ih
def za2{α:Type} {l a b:List α} {i j:Nat} (ha:a=l.drop i) (hb:b=l.drop j) (h:a.length=b.length):a=b:=by
 rw[ha,hb]at h⊢
 simp only[List.length_drop]at h
 rcases Nat.lt_or_ge i l.length with hi|hi
 ·rw[show i=j by omega]
 ·rw[List.drop_of_length_le hi,List.drop_of_length_le (by omega)]
def z4a{c0 c d:Cu} (hP:c0.P) {p:Pub} (g:c0.ok p) (rc:Rc c0 c) (rd:Rc c0 d) (hx:d.x=c.x) (he:d.e=c.e) (ha:d.a=c.a):d=c:=by
 have h1:=(rc.ok hP g).1
 have h2:=(rd.ok hP g).1
 obtain⟨i,hi⟩:=rc.drop
 obtain⟨j,hj⟩:=rd.drop
 have hT:d.T=c.T:=za2 hj hi (by rw[←h1,←h2,hx])
 obtain⟨x,T,e,a⟩:=c
 obtain⟨x',T',e',a'⟩:=d
 simp only at hx he ha hT
 subst hx he ha hT;rfl
def Cu.nx_lt(h:c.P) (hk:c.hd.1≠5):c.nx.T.length<c.T.length:=by
 have h0:=Cu.P_len h
 have h1:1<c.T.length:=by
  obtain⟨_,l,a,h2⟩:=h
  cases l with
  |nil=>exfalso;unfold Cu.hd at hk;rw[h2]at hk;exact hk rfl
  |cons t l=>rw[h2];simp
 unfold Cu.nx;rw[if_pos h1]
 show c.T.tail.length<_;rw[List.length_tail];omega
variable {k:Nat} {t:ByteArray}
def Cu.is_hd(h:c.is k t=true):c.e=0/\c.hd.1=k/\c.hd.2.1=t:=by
 unfold Cu.is at h
 simp only[Bool.and_eq_true,decide_eq_true_eq]at h
 exact h
def Cu.isK_hd(h:c.isK k=true):c.e=0/\c.hd.1=k:=by
 unfold Cu.isK at h
 simp only[Bool.and_eq_true,decide_eq_true_eq]at h
 exact h
def Cu.an_lt(h:c.P) {k:Nat} (hk:k≠5) (he:(c.an k).e=0):(c.an k).T.length<c.T.length:=by
 unfold Cu.an at he⊢
 split
 ·rename_i hi
  exact Cu.nx_lt h (by rw[(Cu.isK_hd hi).2];exact hk)
 ·rename_i hi
  rw[if_neg hi]at he
  exact absurd he (Cu.fa_no (by decide))
def Cu.pl_lt(h:c.P) (he:c.pl.e=0):c.pl.T.length<c.T.length:=
 Nat.lt_of_lt_of_le (Cu.an_lt (Rc.rfl.p0.P h) (by decide) he) (Rc.mono (Rc.rfl (c:=c)).p0).1
def Cu.mu_lt{c d:Cu} (hc:c.e=0) (h:d.e=0->d.T.length<c.T.length):d.mu<c.mu:=by
 unfold Cu.mu;rw[if_pos hc]
 split
 ·have:=h (by assumption);omega
 ·omega
def Rc.e0{c d:Cu} (r:Rc c d) (n:Nat):Rc c (d.e0 n):=by unfold Cu.e0;split<;>first|exact r.rm _|exact r
def Rc.e1{c d:Cu} (r:Rc c d) (n:Nat):Rc c (d.e1 n):=((((r.e0 n).pl).nd _ _).sg).nd _ _
def Cu.e1_lt(h:c.P) (n:Nat) (he:(c.e1 n).e=0):(c.e1 n).T.length<c.T.length:=by
 have r:Rc (c.e0 n).pl (c.e1 n):=((Rc.rfl.nd _ _).sg).nd _ _
 have r0:Rc c (c.e0 n):=Rc.rfl.e0 n
 exact Nat.lt_of_le_of_lt r.mono.1 (Nat.lt_of_lt_of_le (Cu.pl_lt (r0.P h) (r.mono.2 he)) r0.mono.1)
def zcx(s:ES) (hs:s.c.P) (hg:za3 s=true):(zcw s).c.P/\(zcw s).c.mu<s.c.mu:=by
 have he:s.c.e=0:=by
  unfold za3 at hg
  simp only[Bool.and_eq_true,decide_eq_true_eq]at hg
  exact hg.1
 unfold zcw
 split
 ·rename_i h
  have:=Cu.is_hd h
  exact⟨Cu.P_nx hs,Cu.mu_lt he λ_=>Cu.nx_lt hs (by rw[this.2.1];decide)⟩
 ·exact⟨(Rc.rfl.e1 _).P hs,Cu.mu_lt he λh=>Cu.e1_lt hs _ h⟩
def zik{s:ES} (hs:s.c.P) (hg:za3 s=true):enL s=enL (zcw s):=z59 (μ:=λs:ES=>s.c.mu) (I:=λs=>s.c.P) zcx hs hg
def zil{s:ES} (hg:za3 s=false):enL s=s:=z2p hg _
def z0i(h:c.is k t=false):c.tk k t=c:=if_neg (by rw[h];simp)
def z08(h:c.is k t=true):c.tk k t=c.nx:=if_pos h
def zad(h:c.e≠0) (k:Nat) (t:ByteArray):c.is k t=false:=by unfold Cu.is;rw[decide_eq_false h];rfl
def Rc.en0(c:Cu):Rc c c.en0:=Rc.rfl.nx.pl.nd _ _
def z57:q39 P 32 z52:=by
 refine qq9 mixed (qhc (qmo z18 (qmo z3p (qmo z0e (qmo z0g (qmo z0f (qmo z1u (qmo z5z qqu)))))))) (λ_ _ h=>by cases h) (W:=zds) Go.Proofs.Tryd.func32 (by kernel_rfl) (by decide) (by decide) (λs=>by kernel_rfl) λc=>(za4 c).mpr ?_
 rintro⟨hP, -⟩ ⟨p,_,g⟩
 have H:∀q,True/\c.ok q->c.ok q:=λq hq=>hq.2
 have mu0:0+c.en0.mu<=c.T.length+1:=by
  have:=(Rc.en0 c).mono.1
  unfold Cu.mu;split<;>omega
 refine⟨c,rfl,rfl,rfl,rfl,rfl,hP,H,c.nx,rfl,rfl,rfl,rfl,rfl,(Rc.rfl.nx).P hP,λq hq=>(Rc.rfl.nx).ok hP (H q hq),(c.nx.pl,4,mkS [123]),rfl,rfl,rfl,rfl,rfl,rfl,rfl,(Rc.rfl.nx.pl).P hP,λq hq=>(Rc.rfl.nx.pl).ok hP (H q hq),⟨(⟨c.en0,0⟩,[]),rfl,rfl,rfl,rfl,rfl,rfl,rfl,λ_ h=>h,⟨Rc.en0 c,⟨rfl,mu0⟩,rfl⟩,trivial⟩,?_⟩
 rintro⟨⟨c1,n⟩,vs⟩ ⟨(r:Rc c c1),⟨(hv:vs.length=n*2),(hn1:n+c1.mu<=c.T.length+1)⟩,(hL:enL ⟨c1,n⟩=enL ⟨c.en0,0⟩)⟩
 have P1:=r.P hP
 have g1:=r.ok hP g
 have fin:∀(d:Cu),za3 ⟨c1,n⟩=false->c1.tk 4 cbW=d->c.en=d/\c.enN=n:=λd hg hd=>by
  rw[zil hg]at hL
  unfold Cu.en Cu.enN
  rw[←hL];exact⟨hd,rfl⟩
 refine⟨λhe=> ?_,λhe=> ?_⟩
 ·have he :=of_decide_eq_true he
  refine⟨(c1,4,mkS [125]),rfl,rfl,rfl,rfl,rfl,rfl,rfl,(r).P hP,λq hq=>(r).ok hP (H q hq),λhb=> ?_,λhb=> ?_⟩
  ·have hb:(!c1.is 4 cbW)=true:=hb
   have hb:c1.is 4 cbW=false:=by revert hb;cases c1.is 4 cbW<;>simp
   have k1:c1.tk 4 cbW=c1:=z0i hb
   have hg:za3 ⟨c1,n⟩=true:=by
    show(decide (c1.e=0)&& !c1.is 4 cbW)=true
    rw[hb,decide_eq_true he];rfl
   have st:=zik (s:=⟨c1,n⟩) P1 hg
   have mu:=(zcx ⟨c1,n⟩ P1 hg).2
   refine⟨(c1,4,mkS [59]),rfl,rfl,q1 (k1.symm),q2 (k1.symm),q3 (k1.symm),q4 (k1.symm),q5 (k1.symm),(r).P hP,λq hq=>(r).ok hP (H q hq),λhs=> ?_,λhs=> ?_⟩
   ·have bd:zcw ⟨c1,n⟩=⟨c1.nx,n⟩:=if_pos hs
    rw[bd]at st mu
    exact⟨(⟨c1.nx,n⟩,vs),q1 ((z08 hs).symm),q2 ((z08 hs).symm),q3 ((z08 hs).symm),q4 ((z08 hs).symm),q5 ((z08 hs).symm),rfl,rfl,rfl,λ_ h=>h,⟨r.nx,⟨hv,Nat.le_trans (Nat.add_le_add_left (Nat.le_of_lt mu) n) hn1⟩,st.symm.trans hL⟩,mu,trivial⟩
   ·have hs:c1.is 4 smW=false:=hs
    have k2:c1.tk 4 smW=c1:=z0i hs
    have bd:zcw ⟨c1,n⟩=⟨c1.e1 n,n+1⟩:=if_neg (by show¬c1.is 4 smW=true;rw[hs];simp)
    rw[bd]at st mu
    have hl:(0:Int)<=0/\(0:Int)<((c1.tk 4 smW).x.2.1:Int):=by rw[k2];exact Cu.len P1 g1
    have hn:(c1.tk 4 smW).x.1≠noA:=by rw[k2];exact(Cu.cells P1 g1).1
    have hc:∀(k:Nat) (v:Value),(tkV c1.hd)[k]? =some v->∀q,True/\c.ok q->q4o q (Addr.add (adr (c1.tk 4 smW).x.1 (0*4)) k) [v]:=λk v hk q hq=>by rw[k2];exact Cu.cell P1 (r.ok hP hq.2) k hk
    have sm:z2i c1 (c1.tk 4 smW).x (c1.tk 4 smW).e (c1.tk 4 smW).a:=by rw[k2];exact⟨rfl,rfl,rfl⟩
    have un:∀d,z2i d (c1.tk 4 smW).x (c1.tk 4 smW).e (c1.tk 4 smW).a->Rc c d->d=c1:=λd hd rd=>by rw[k2]at hd;exact z4a hP g r rd hd.1 hd.2.1 hd.2.2
    refine⟨⟨⟨hl,hn,(c1.hd.1:Nat),hc 0 _ rfl,λh1=>⟨hl,hn,c1.hd.2.1,hc 1 _ rfl,rfl,trivial,c1,?_,q1 (k2.symm),q2 (k2.symm),q3 (k2.symm),q4 (k2.symm),q5 (k2.symm),rfl,rfl,rfl,λ_ h=>h,⟨sm,r⟩,trivial⟩,λh1=>⟨c1,?_,q1 (k2.symm),q2 (k2.symm),q3 (k2.symm),q4 (k2.symm),q5 (k2.symm),rfl,rfl,rfl,λ_ h=>h,⟨sm,r⟩,trivial⟩⟩,?_⟩,?_⟩
    ·have h1:c1.hd.1=1:=by have:=of_decide_eq_true h1;omega
     unfold Cu.eB;rw[decide_eq_true h1];rfl
    ·have h1:¬c1.hd.1=1:=by have:=of_decide_eq_false h1;omega
     unfold Cu.eB;rw[decide_eq_false h1];rfl
    ·rintro d ⟨hd,rd⟩
     obtain rfl:=un d hd rd
     refine⟨λhB=> ?_,λhB=> ?_⟩
     ·have e0:d.e0 n=d.rm n:=if_pos hB
      exact⟨(d,n),rfl,rfl,rfl,rfl,rfl,rfl,(rd).P hP,λq hq=>(rd).ok hP (H q hq),d,q1 (e0),q2 (e0),q3 (e0),q4 (e0),q5 (e0),rfl,rfl,rfl,λ_ h=>h,⟨sm,rd⟩,trivial⟩
     ·have e0:d.e0 n=d:=if_neg (by rw[hB];simp)
      exact⟨d,q1 (e0),q2 (e0),q3 (e0),q4 (e0),q5 (e0),rfl,rfl,rfl,λ_ h=>h,⟨sm,rd⟩,trivial⟩
    ·rintro d ⟨hd,rd⟩
     obtain rfl:=un d hd rd
     have bn:(n+1)*24<=140737488355328:=by have:=hP.1.1;omega
     have mu2:n+1+(d.e1 n).mu<=c.T.length+1:=by have:(d.e1 n).mu<d.mu:=mu;omega
     exact⟨d.e0 n,rfl,rfl,rfl,rfl,rfl,(rd.e0 n).P hP,λq hq=>(rd.e0 n).ok hP (H q hq),((d.e0 n).pl,4,mkS [61]),rfl,rfl,rfl,rfl,rfl,rfl,rfl,((rd.e0 n).pl).P hP,λq hq=>((rd.e0 n).pl).ok hP (H q hq),((d.e0 n).pl).nd 4 eqW,rfl,rfl,rfl,rfl,rfl,((rd.e0 n).pl.nd _ _).P hP,λq hq=>((rd.e0 n).pl.nd _ _).ok hP (H q hq),hv,bn,rfl,((((d.e0 n).pl).nd 4 eqW).sg,4,mkS [59]),rfl,rfl,rfl,rfl,rfl,rfl,rfl,(((rd.e0 n).pl.nd _ _).sg).P hP,λq hq=>(((rd.e0 n).pl.nd _ _).sg).ok hP (H q hq),(⟨d.e1 n,n+1⟩,vs++[.string (d.e0 n).plT, .int .i64 ((((d.e0 n).pl).nd 4 eqW).sgN:Nat)]),rfl,rfl,rfl,rfl,rfl,rfl,rfl,rfl,λ_ h=>h,⟨rd.e1 n,⟨by show(vs++[_,_]).length=(n+1)*2;rw[List.length_append,hv];show n*2+2=_;omega,mu2⟩,st.symm.trans hL⟩,mu,trivial⟩
  ·have hb:(!c1.is 4 cbW)=false:=hb
   have hb:c1.is 4 cbW=true:=by revert hb;cases c1.is 4 cbW<;>simp
   have hg:za3 ⟨c1,n⟩=false:=by
    show(decide (c1.e=0)&& !c1.is 4 cbW)=false
    rw[hb,Bool.not_true,Bool.and_false]
   obtain⟨f1,f2⟩:=fin _ hg rfl
   rintro b s2 u a n2 c2 -
   exact⟨(a,n,c2),rfl,rfl,rfl,rfl,q1 (f1),q2 (f1),q3 (f1),q4 (f1),q5 (f1),f2.symm,trivial⟩
 ·have he:=of_decide_eq_false he
  have hg:za3 ⟨c1,n⟩=false:=by
   show(decide (c1.e=0)&& !c1.is 4 cbW)=false
   rw[decide_eq_false he];rfl
  obtain⟨f1,f2⟩:=fin _ hg (z0i (zad he _ _))
  rintro b s2 u a n2 c2 -
  exact⟨(a,n,c2),rfl,rfl,rfl,rfl,q1 (f1),q2 (f1),q3 (f1),q4 (f1),q5 (f1),f2.symm,trivial⟩
end
structure MM where
 nm:ByteArray
 nF:Nat
 nO:Nat
 nM:Nat
 nE:Nat
 vF:List Value
 vO:List Value
 vM:List Value
 vE:List Value
def MM.wf(m:MM):Prop:=(m.vF.length=m.nF*7/\m.nF<=200000)/\(m.vO.length=m.nO*1/\m.nO<=200000)/\(m.vM.length=m.nM*7/\m.nM<=200000)/\(m.vE.length=m.nE*2/\m.nE<=200000)
def fmO(nm:ByteArray) (f nF o nO m nM e nE:Nat):AO:= .cells 37 (some 0) false [.sv (.string nm), .ssl f 0 nF 7 (f+1), .ssl o 0 nO 1 (o+1), .ssl m 0 nM 7 (m+1), .ssl e 0 nE 2 (e+1), .nsl, .nsl]
def rwF(b:Nat) (vs:List Value):Nat×AO:=(b, .row 57 0 vs)
def rwO(b:Nat) (vs:List Value):Nat×AO:=(b, .row 9 0 vs)
def rwM(b:Nat) (vs:List Value):Nat×AO:=(b, .row 37 0 vs)
def rwE(b:Nat) (vs:List Value):Nat×AO:=(b, .row 40 0 vs)
def MM.H(m:MM) (b:Nat):List (Nat×AO):=[(2,fmO m.nm b m.nF (b+2) m.nO (b+4) m.nM (b+6) m.nE),rwF b m.vF,rwO (b+2) m.vO,rwM (b+4) m.vM,rwE (b+6) m.vE]
def zne(h:T AO) (id k:Nat):List Nat:=match h.get id with
  | some (.cells _ _ _ l)=>match nth l k with
    |some (.ssl i _ _ _ _)=>[i]
    |_=>[]
  |_=>[]
def z6n(t:ByteArray):Bool:=decide (t=mkS [111,112,116,105,111,110,97,108])|| (decide (t=mkS [114,101,112,101,97,116,101,100])|| (decide (t=mkS [109,97,112])|| (decide (t=mkS [109,101,115,115,97,103,101])|| (decide (t=mkS [101,110,117,109])|| (decide (t=mkS [111,110,101,111,102])||decide (t=mkS [114,101,115,101,114,118,101,100]))))))
def Cu.o1(c:Cu):Cu:=if z6n c.hd.2.1 then c.fa 2 else c
def Cu.o2(c:Cu):Cu:=if c.hd.1=1 then c else c.fa 2
structure OS where
 c:Cu
 f:Bool
 n:Nat
def Cu.o3(c:Cu) (n:Nat):Cu:=(c.o1.o2.rm n).ty
def Cu.goB(c:Cu) (f:Bool):Bool:=decide (c.e=0)&&(f|| !c.is 4 cbW)
def zsn(c0:Cu) (h:T AO) (q:Cu->Prop) (keep:List Nat):Option LT:=match zow h 1 with
 |some (x,e,a)=>some {σ:=Cu,pre:=λd=>(z2i d x e a/\Rc c0 d)/\q d,t:=λd=>[],h:=λd=>[(1,d.O)],more:=0,μ:=λ_=>0,keep:=keep}
 |none=>none
def slB(t:T AV) (k:Nat):Option Bool:=match t.get k with
 |some (.sv (.bool b))=>some b
 |_=>none
def zfh(s:OS):Bool:=s.c.goB s.f
def zdc(s:OS):OS:=⟨s.c.o3 s.n,false,s.n+1⟩
def opL(s:OS):OS:=itr zfh zdc s.c.mu s
def Cu.op0(c:Cu):Cu:=c.nx.pl.nd 4 obW
def Cu.op(c:Cu) (n:Nat):Cu:=(opL ⟨c.op0,true,n⟩).c.tk 4 cbW
def Cu.opN(c:Cu) (n:Nat):Nat:=(opL ⟨c.op0,true,n⟩).n
abbrev OsS:=Cu×MM
abbrev OsB:=List Value×List Value
def opM(c:Cu) (m:MM) (b:OsB):MM:=⟨m.nm,c.opN m.nF,m.nO+1,m.nM,m.nE,b.1,b.2,m.vM,m.vE⟩
def z49:CtR where
 σ:=OsS
 args:=λ⟨c,m⟩=>[.ptr 1 0, .ptr 2 0]
 h:=λ⟨c,m⟩=>(1,c.O)::m.H 3
 m:=11
 pre:=λ⟨c,m⟩=>c.P/\m.wf
 mem:=λ⟨c,m⟩=>c.M
 β:=λ_=>OsB
 post:=λ⟨c,m⟩ b=>b.1.length=c.opN m.nF*7/\b.2.length=(m.nO+1)*1/\c.opN m.nF<=m.nF+c.T.length+1
 r:=λ_ _=> .tup []
 h':=λ⟨c,m⟩ b=>(1,(c.op m.nF).O)::(opM c m b).H 11
 m':=19
def z8v:OsS->WayF:=λ⟨c0,m⟩=>{
  ann:=λi tt hh=>match i with
    |0=>some {σ:=OS×List Value×List Value,pre:=λ⟨s,vF,vO⟩=>Rc c0 s.c/\(vF.length=s.n*7/\vO.length=(m.nO+1)*1/\s.n+s.c.mu<=m.nF+(c0.T.length+1))/\opL s=opL ⟨c0.op0,true,m.nF⟩,t:=λ⟨s,vF,vO⟩=>[(4, .sv (.bool s.f))],h:=λ⟨s,vF,vO⟩=>[(1,s.c.O),(2,fmO m.nm 100 s.n 102 (m.nO+1) 7 m.nM 9 m.nE),rwF 100 vF,rwO 102 vO],more:=150,μ:=λ⟨s,vF,vO⟩=>s.c.mu,keep:=[0,1],del:=zne hh 2 1++zne hh 2 2}
    |_=>none
  cut :=λi tt hh=>match i with
    | 6=>match slB tt 4 with
      |some b=>zsn c0 hh (λc=>c.goB b=true) [0,1]
      |none=>none
    |14=>zhp c0 hh (λc=>[(41, .sv (.bool (z6n c.hd.2.1)))]) (λc=>c) [0,1]
    |15=>zhp c0 hh (λ_=>[]) (λc=>c.o1) [0,1]
    |17=>zhp c0 hh (λ_=>[]) (λc=>c.o2) [0,1]
    |_=>none}
section
variable (x0:OS×List Value×List Value) (x1:MM) (x2 x3:Cu) (x4:ByteArray) (x5:Cu) (x6:Prop) (x7:CuT) (x8:OsB) (x9:CuE)
 abbrev zgi:=(Cu.x x2).1=(Cu.x x3).1/\(Cu.x x2).2.1=(Cu.x x3).2.1/\(Cu.x x2).2.2=(Cu.x x3).2.2/\Cu.e x2=Cu.e x3/\Cu.a x2=Cu.a x3/\x6
 def zgn:=Cu.P x7.1/\(∀i0,True/\Cu.ok x2 i0->Cu.ok x7.1 i0)/\x6
 abbrev z69:=Cu.nd x7.1 x7.2.1 x7.2.2
 def zc0:=MM.vM x1=MM.vM x1/\MM.vE x1=MM.vE x1/\MM.nm x1=MM.nm x1/\x6
 def zbz:=(∀i0,True/\Cu.ok x2 i0->True/\Cu.ok x2 i0)
 def zbw:=Rc x2 (OS.c x0.1)/\(length x0.2.1=OS.n x0.1*7/\length x0.2.2=(MM.nO x1+1)*1/\OS.n x0.1+Cu.mu (OS.c x0.1)<=MM.nF x1+(length (Cu.T x2)+1))/\opL x0.1=opL (OS.mk (Cu.op0 x2) true (MM.nF x1))
 def zgm:=MM.nO x1+1=MM.nO x1+1/\MM.nM x1=MM.nM x1/\MM.nE x1=MM.nE x1/\x6
 def ze5:=zc0 x1 (OS.n x0.1=OS.n x0.1/\zgm x1 (x0.2.1=x0.2.1/\x0.2.2=x0.2.2/\zbz x2/\x6))
 def zbx:=(z2i x2 ((Cu.x (OS.c x0.1)).1,(Cu.x (OS.c x0.1)).2.1,(Cu.x (OS.c x0.1)).2.2) (Cu.e (OS.c x0.1)) (Cu.a (OS.c x0.1))/\Rc x3 x2)/\Cu.goB x2 (OS.f x0.1)=true
 abbrev z2c:=Cu.tk x7.1 x7.2.1 x7.2.2
 def zgf:=MM.vM (opM x2 x1 x8)=MM.vM x1/\MM.vF (opM x2 x1 x8)=x0.2.1/\MM.vE (opM x2 x1 x8)=MM.vE x1/\MM.vO (opM x2 x1 x8)=x0.2.2/\MM.nm (opM x2 x1 x8)=MM.nm x1/\MM.nF (opM x2 x1 x8)=OS.n x0.1/\MM.nO (opM x2 x1 x8)=MM.nO x1+1/\MM.nM (opM x2 x1 x8)=MM.nM x1/\MM.nE (opM x2 x1 x8)=MM.nE x1/\(length x8.1=Cu.opN x2 (MM.nF x1)*7/\length x8.2=(MM.nO x1+1)*1/\Cu.opN x2 (MM.nF x1)<=MM.nF x1+length (Cu.T x2)+1)/\True
 def zrk:=(OS.f x0.1=true->∃(i0:Cu),(Cu.x i0).1=(Cu.x (OS.c x0.1)).1/\(Cu.x i0).2.1=(Cu.x (OS.c x0.1)).2.1/\(Cu.x i0).2.2=(Cu.x (OS.c x0.1)).2.2/\Cu.e i0=Cu.e (OS.c x0.1)/\Cu.a i0=Cu.a (OS.c x0.1)/\ze5 x0 x1 x2 ((zbx x0 i0 x2)/\True))/\(OS.f x0.1=false->∃(i2:CuT),(↑i2.2.1:Int)=4/\i2.2.2=mkS [125]/\(Cu.x i2.1).1=(Cu.x (OS.c x0.1)).1/\(Cu.x i2.1).2.1=(Cu.x (OS.c x0.1)).2.1/\(Cu.x i2.1).2.2=(Cu.x (OS.c x0.1)).2.2/\Cu.e i2.1=Cu.e (OS.c x0.1)/\Cu.a i2.1=Cu.a (OS.c x0.1)/\zgn x2 (((!Cu.is i2.1 i2.2.1 i2.2.2)=true->∃(i4:Cu),(Cu.x i4).1=(Cu.x (z2c i2)).1/\(Cu.x i4).2.1=(Cu.x (z2c i2)).2.1/\(Cu.x i4).2.2=(Cu.x (z2c i2)).2.2/\Cu.e i4=Cu.e (z2c i2)/\Cu.a i4=Cu.a (z2c i2)/\ze5 x0 x1 x2 ((zbx x0 i4 x2)/\True))/\((!Cu.is i2.1 i2.2.1 i2.2.2)=false->∃(i6:OsB),(Cu.x (Cu.op x2 (MM.nF x1))).1=(Cu.x (z2c i2)).1/\(Cu.x (Cu.op x2 (MM.nF x1))).2.1=(Cu.x (z2c i2)).2.1/\(Cu.x (Cu.op x2 (MM.nF x1))).2.2=(Cu.x (z2c i2)).2.2/\Cu.e (Cu.op x2 (MM.nF x1))=Cu.e (z2c i2)/\Cu.a (Cu.op x2 (MM.nF x1))=Cu.a (z2c i2)/\zgf x0 x1 x2 i6)) i2)
 abbrev zgg:=x4=mkS [111,112,116,105,111,110,97,108]
 abbrev z2j:=(Cu.hd x2).2.1
 def z68:=z2i x2 ((Cu.x x3).1,(Cu.x x3).2.1,(Cu.x x3).2.2) (Cu.e x3) (Cu.a x3)/\Rc x5 x2
 def ze4:=zgi x2 x3 (ze5 x0 x1 x5 ((z68 x2 x3 x5)/\True))
 abbrev zgh:=x4=mkS [114,101,112,101,97,116,101,100]
 abbrev zgj:=x4=mkS [109,101,115,115,97,103,101]
 abbrev zgl:=x4=mkS [101,110,117,109]
 abbrev zgk:=x4=mkS [111,110,101,111,102]
 def zl4:=Ji (zgk x4) (∃(i0:Cu),z6n (z2j i0)=decide (zgk x4)/\ze4 x0 x1 i0 x2 x3) (∃(i1:Cu),z6n (z2j i1)=decide (x4=mkS [114,101,115,101,114,118,101,100])/\ze4 x0 x1 i1 x2 x3)
 def zl3:=Ji (zgl x4) (∃(i0:Cu),z6n (z2j i0)=decide (zgl x4)/\ze4 x0 x1 i0 x2 x3) (zl4 x0 x1 x2 x3 x4)
 def zrl:=Ji (zgj x4) (∃(i0:Cu),z6n (z2j i0)=decide (zgj x4)/\ze4 x0 x1 i0 x2 x3) (zl3 x0 x1 x2 x3 x4)
 def zrj:=Ji (x4=mkS [109,97,112]) (∃(i0:Cu),z6n (z2j i0)=decide (x4=mkS [109,97,112])/\ze4 x0 x1 i0 x2 x3) (zrl x0 x1 x2 x3 x4)
 def zrh:=Ji (zgh x4) (∃(i0:Cu),z6n (z2j i0)=decide (zgh x4)/\ze4 x0 x1 i0 x2 x3) (zrj x0 x1 x2 x3 x4)
 abbrev z3f:=(Cu.x x9.1).2
 def z9c:=Cu.P x9.1/\(∀i0,True/\Cu.ok x2 i0->Cu.ok x9.1 i0)/\x6
 abbrev z2d:=Cu.fa x9.1 x9.2
 def zrm:=(z6n (z2j x2)=true->∃(i0:CuE),i0.2=2/\(Cu.x i0.1).1=(Cu.x x2).1/\(z3f i0).1=(Cu.x x2).2.1/\(z3f i0).2=(Cu.x x2).2.2/\Cu.e i0.1=Cu.e x2/\Cu.a i0.1=Cu.a x2/\z9c x3 (∃(i2:Cu),(Cu.x (Cu.o1 i2)).1=(Cu.x (z2d i0)).1/\(Cu.x (Cu.o1 i2)).2.1=(Cu.x (z2d i0)).2.1/\(Cu.x (Cu.o1 i2)).2.2=(Cu.x (z2d i0)).2.2/\Cu.e (Cu.o1 i2)=Cu.e (z2d i0)/\Cu.a (Cu.o1 i2)=Cu.a (z2d i0)/\ze5 x0 x1 x3 ((z68 i2 x5 x3)/\True)) i0)/\(z6n (z2j x2)=false->∃(i4:Cu),(Cu.x (Cu.o1 i4)).1=(Cu.x x2).1/\(Cu.x (Cu.o1 i4)).2.1=(Cu.x x2).2.1/\(Cu.x (Cu.o1 i4)).2.2=(Cu.x x2).2.2/\Cu.e (Cu.o1 i4)=Cu.e x2/\Cu.a (Cu.o1 i4)=Cu.a x2/\ze5 x0 x1 x3 ((z68 i4 x5 x3)/\True))
 def zby:=z2i x2 ((Cu.x (Cu.o1 x3)).1,(Cu.x (Cu.o1 x3)).2.1,(Cu.x (Cu.o1 x3)).2.2) (Cu.e (Cu.o1 x3)) (Cu.a (Cu.o1 x3))/\Rc x5 x2
 abbrev z6a:=Cu.rm x9.1 x9.2
 def zri:=(((0:Int)<=0/\0<(↑(Cu.x (Cu.o1 x2)).2.1:Int))/\(Cu.x (Cu.o1 x2)).1≠noA/\∃(i0:Int),(∀i1,True/\Cu.ok x3 i1->q4o i1 (Addr.add (adr (Cu.x (Cu.o1 x2)).1 ((0:Nat)*4)) 0) [int i64 i0])/\((!decide (i0=1))=true->∃(i2:CuE),i2.2=2/\(Cu.x i2.1).1=(Cu.x (Cu.o1 x2)).1/\(z3f i2).1=(Cu.x (Cu.o1 x2)).2.1/\(z3f i2).2=(Cu.x (Cu.o1 x2)).2.2/\Cu.e i2.1=Cu.e (Cu.o1 x2)/\Cu.a i2.1=Cu.a (Cu.o1 x2)/\z9c x3 (∃(i4:Cu),(Cu.x (Cu.o2 i4)).1=(Cu.x (z2d i2)).1/\(Cu.x (Cu.o2 i4)).2.1=(Cu.x (z2d i2)).2.1/\(Cu.x (Cu.o2 i4)).2.2=(Cu.x (z2d i2)).2.2/\Cu.e (Cu.o2 i4)=Cu.e (z2d i2)/\Cu.a (Cu.o2 i4)=Cu.a (z2d i2)/\ze5 x0 x1 x3 ((zby i4 x2 x3)/\True)) i2)/\((!decide (i0=1))=false->∃(i6:Cu),(Cu.x (Cu.o2 i6)).1=(Cu.x (Cu.o1 x2)).1/\(Cu.x (Cu.o2 i6)).2.1=(Cu.x (Cu.o1 x2)).2.1/\(Cu.x (Cu.o2 i6)).2.2=(Cu.x (Cu.o1 x2)).2.2/\Cu.e (Cu.o2 i6)=Cu.e (Cu.o1 x2)/\Cu.a (Cu.o2 i6)=Cu.a (Cu.o1 x2)/\ze5 x0 x1 x3 ((zby i6 x2 x3)/\True)))/\∀(i8:Cu),zby i8 x2 x3->∃(i9:CuE),i9.2=(↑(OS.n x0.1):Int)/\(Cu.x i9.1).1=(Cu.x (Cu.o2 i8)).1/\(z3f i9).1=(Cu.x (Cu.o2 i8)).2.1/\(z3f i9).2=(Cu.x (Cu.o2 i8)).2.2/\Cu.e i9.1=Cu.e (Cu.o2 i8)/\Cu.a i9.1=Cu.a (Cu.o2 i8)/\z9c x3 (∃(i11:CuE),i11.2=0/\(Cu.x i11.1).1=(Cu.x (z6a i9)).1/\(z3f i11).1=(Cu.x (z6a i9)).2.1/\(z3f i11).2=(Cu.x (z6a i9)).2.2/\Cu.e i11.1=Cu.e (z6a i9)/\Cu.a i11.1=Cu.a (z6a i9)/\z9c x3 (length x0.2.1=OS.n x0.1*7/\(OS.n x0.1+nat_lit 1)*80<=140737488355328/\∃(i13:OS×List Value×List Value),OS.f i13.1=false/\(Cu.x (OS.c i13.1)).1=(Cu.x (Cu.ty i11.1)).1/\(Cu.x (OS.c i13.1)).2.1=(Cu.x (Cu.ty i11.1)).2.1/\(Cu.x (OS.c i13.1)).2.2=(Cu.x (Cu.ty i11.1)).2.2/\Cu.e (OS.c i13.1)=Cu.e (Cu.ty i11.1)/\Cu.a (OS.c i13.1)=Cu.a (Cu.ty i11.1)/\zc0 x1 (OS.n i13.1=OS.n x0.1+nat_lit 1/\zgm x1 (i13.2.1=x0.2.1++[int i64 i11.2,string (Cu.anT i11.1 1).2.1,string (mkS []),string (Cu.plT (Cu.an i11.1 1)),int u64 (↑(Cu.nmN (Cu.an i11.1 1)):Int),int i64 0,int i64 (↑(MM.nO x1+1):Int)]/\i13.2.2=x0.2.2/\zbz x3/\(zbw i13 x1 x3)/\Cu.mu (OS.c i13.1)<Cu.mu (OS.c x0.1)/\True))) i11) i9
 def zrg:=(((0:Int)<=0/\0<(↑(Cu.x x2).2.1:Int))/\(Cu.x x2).1≠noA/\∃i0,(∀i1,True/\Cu.ok x3 i1->q4o i1 (Addr.add (adr (Cu.x x2).1 ((0:Nat)*4)) 1) [string i0])/\(Ji (zgg i0) (∃(i2:Cu),z6n (z2j i2)=decide (zgg i0)/\ze4 x0 x1 i2 x2 x3) (zrh x0 x1 x2 x3 i0))/\∀(i16:Cu),z68 i16 x2 x3->zrm x0 x1 i16 x3 x2)/\∀(i23:Cu),z68 i23 x2 x3->zri x0 x1 i23 x3
 def zrf:=(Ji (Cu.e (OS.c x0.1)=0) (zrk x0 x1 x2) (∃(i7:OsB),(Cu.x (Cu.op x2 (MM.nF x1))).1=(Cu.x (OS.c x0.1)).1/\(Cu.x (Cu.op x2 (MM.nF x1))).2.1=(Cu.x (OS.c x0.1)).2.1/\(Cu.x (Cu.op x2 (MM.nF x1))).2.2=(Cu.x (OS.c x0.1)).2.2/\Cu.e (Cu.op x2 (MM.nF x1))=Cu.e (OS.c x0.1)/\Cu.a (Cu.op x2 (MM.nF x1))=Cu.a (OS.c x0.1)/\zgf x0 x1 x2 i7))/\∀(i8:Cu),zbx x0 i8 x2->zrg x0 x1 i8 x2
end
def z5t(c:Cu) (m:MM):qr9 P (qkw [(52,z1b),(24,z14),(25,z1k),(29,z15),(28,z2n),(83,z30),(33,z0m)]) (λ_=>none) Go.Proofs.Tryd.f72 z49 (z8v) (c,m)=(Cu.P c/\MM.wf m->(∃(p:Pub),True/\Cu.ok c p)->∃(s:Cu),zgi s c (Cu.P s/\(∀(p:Pub),True/\Cu.ok c p->Cu.ok s p)/\∃(s_1:Cu),(Cu.x s_1).1=(Cu.x (Cu.nx s)).1/\(Cu.x s_1).2.1=(Cu.x (Cu.nx s)).2.1/\(Cu.x s_1).2.2=(Cu.x (Cu.nx s)).2.2/\Cu.e s_1=Cu.e (Cu.nx s)/\Cu.a s_1=Cu.a (Cu.nx s)/\Cu.P s_1/\(∀(p:Pub),True/\Cu.ok c p->Cu.ok s_1 p)/\length (MM.vO m)=MM.nO m*1/\(MM.nO m+nat_lit 1)*16<=140737488355328/\AV.ssl (nat_lit 5) (nat_lit 0) (MM.nO m) (nat_lit 1) (nat_lit 6)=AV.ssl (nat_lit 5) (nat_lit 0) (MM.nO m) (nat_lit 1) (nat_lit 6)/\∃(s:CuT),(↑s.2.1:Int)=4/\s.2.2=mkS [123]/\(Cu.x s.1).1=(Cu.x (Cu.pl s_1)).1/\(Cu.x s.1).2.1=(Cu.x (Cu.pl s_1)).2.1/\(Cu.x s.1).2.2=(Cu.x (Cu.pl s_1)).2.2/\Cu.e s.1=Cu.e (Cu.pl s_1)/\Cu.a s.1=Cu.a (Cu.pl s_1)/\zgn c ((∃(s_2:OS×List Value×List Value),OS.f s_2.1=true/\(Cu.x (OS.c s_2.1)).1=(Cu.x (z69 s)).1/\(Cu.x (OS.c s_2.1)).2.1=(Cu.x (z69 s)).2.1/\(Cu.x (OS.c s_2.1)).2.2=(Cu.x (z69 s)).2.2/\Cu.e (OS.c s_2.1)=Cu.e (z69 s)/\Cu.a (OS.c s_2.1)=Cu.a (z69 s)/\zc0 m (OS.n s_2.1=MM.nF m/\MM.nO m+1=MM.nO m+nat_lit 1/\MM.nM m=MM.nM m/\MM.nE m=MM.nE m/\s_2.2.1=MM.vF m/\s_2.2.2=MM.vO m++[string (Cu.plT s_1)]/\zbz c/\(zbw s_2 m c)/\True))/\∀(s:OS×List Value×List Value),zbw s m c->zrf s m c) s)):=by kernel_rfl
def z80:=λc m=>Eq.trans (z5t c m) (by delta Ji Jt Jf zgi zgn z69 zc0 zbz zbw zgm ze5 zbx z2c zgf zrk zgg z2j z68 ze4 zgh zgj zgl zgk zl4 zl3 zrl zrj zrh z3f z9c z2d zrm zby z6a zri zrg zrf;exact rfl)
section
def Rc.o1{c d:Cu} (r:Rc c d):Rc c d.o1:=by unfold Cu.o1;split<;>first|exact r.fa _|exact r
def Rc.o2{c d:Cu} (r:Rc c d):Rc c d.o2:=by unfold Cu.o2;split<;>first|exact r|exact r.fa _
def Rc.o3{c d:Cu} (r:Rc c d) (n:Nat):Rc c (d.o3 n):=(r.o1.o2.rm n).ty
variable {c:Cu}
def Cu.ty_lt(h:c.P) (he:c.ty.e=0):c.ty.T.length<c.T.length:=by
 have r:Rc (c.an 1) c.ty:=(Rc.rfl.nm).nd _ _
 exact Nat.lt_of_le_of_lt r.mono.1 (Cu.an_lt h (by decide) (r.mono.2 he))
def Cu.o3_lt(h:c.P) (n:Nat) (he:(c.o3 n).e=0):(c.o3 n).T.length<c.T.length:=by
 have r:Rc c (c.o1.o2.rm n):=Rc.rfl.o1.o2.rm n
 exact Nat.lt_of_lt_of_le (Cu.ty_lt (r.P h) he) r.mono.1
def znc{f:Bool} (h:c.goB f=true):c.e=0:=by
 unfold Cu.goB at h
 simp only[Bool.and_eq_true,decide_eq_true_eq]at h
 exact h.1
def z82(s:OS) (hs:s.c.P) (hg:zfh s=true):(zdc s).c.P/\(zdc s).c.mu<s.c.mu:=
 ⟨(Rc.rfl.o3 _).P hs,Cu.mu_lt (znc hg) λh=>Cu.o3_lt hs _ h⟩
def zjh{s:OS} (hs:s.c.P) (hg:zfh s=true):opL s=opL (zdc s):=z59 (μ:=λs:OS=>s.c.mu) (I:=λs=>s.c.P) z82 hs hg
def zji{s:OS} (hg:zfh s=false):opL s=s:=z2p hg _
def Rc.op0(c:Cu):Rc c c.op0:=Rc.rfl.nx.pl.nd _ _
def z0x{t:ByteArray}:z6n t=(decide (t=mkS [111,112,116,105,111,110,97,108])|| (decide (t=mkS [114,101,112,101,97,116,101,100])|| (decide (t=mkS [109,97,112])|| (decide (t=mkS [109,101,115,115,97,103,101])|| (decide (t=mkS [101,110,117,109])|| (decide (t=mkS [111,110,101,111,102])||decide (t=mkS [114,101,115,101,114,118,101,100]))))))):=rfl
def z81:q39 P 72 z49:=by
 refine qq9 mixed (qhc (qmo z18 (qmo z0e (qmo z0g (qmo z0f (qmo z1u (qmo z3u (qmo z04 qqu)))))))) (λ_ _ h=>by cases h) (W:=z8v) Go.Proofs.Tryd.func72 (by kernel_rfl) (show 1<=11 by decide) (show 11<=19 by decide) (λs=>by kernel_rfl) λ⟨c,m⟩=>(z80 c m).mpr ?_
 rintro⟨hP,⟨wF,wF2⟩,⟨wO,wO2⟩,wM,wE⟩ ⟨p,_,g⟩
 have H:∀q,True/\c.ok q->c.ok q:=λq hq=>hq.2
 have mu0:m.nF+c.op0.mu<=m.nF+(c.T.length+1):=by
  have:=(Rc.op0 c).mono.1
  have:c.op0.mu<=c.T.length+1:=by unfold Cu.mu;split<;>omega
  omega
 refine⟨c,rfl,rfl,rfl,rfl,rfl,hP,H,c.nx,rfl,rfl,rfl,rfl,rfl,(Rc.rfl.nx).P hP,λq hq=>(Rc.rfl.nx).ok hP (H q hq),wO,by show(m.nO+1)*16<=140737488355328;omega,rfl,(c.nx.pl,4,mkS [123]),rfl,rfl,rfl,rfl,rfl,rfl,rfl,(Rc.rfl.nx.pl).P hP,λq hq=>(Rc.rfl.nx.pl).ok hP (H q hq),⟨(⟨c.op0,true,m.nF⟩,m.vF,m.vO++[.string c.nx.plT]),rfl,rfl,rfl,rfl,rfl,rfl,rfl,rfl,rfl,rfl,rfl,rfl,rfl,rfl,rfl,λ_ h=>h,⟨Rc.op0 c,⟨wF,by rw[List.length_append,wO];rfl,mu0⟩,rfl⟩,trivial⟩,?_⟩
 rintro⟨⟨c1,f,n⟩,vF,vO⟩ ⟨(r:Rc c c1),⟨(hF:vF.length=n*7),(hO:vO.length=(m.nO+1)*1),(hn:n+c1.mu<=m.nF+(c.T.length+1))⟩,(hL:opL ⟨c1,f,n⟩=opL ⟨c.op0,true,m.nF⟩)⟩
 have P1:=r.P hP
 have g1:=r.ok hP g
 have bN:n<=m.nF+c.T.length+1:=by omega
 have bn:n<=300001:=by have:=hP.1.1;omega
 have fin:∀(d:Cu),c1.goB f=false->c1.tk 4 cbW=d->c.op m.nF=d/\c.opN m.nF=n:=λd hg hd=>by
  rw[zji (s:=⟨c1,f,n⟩) hg]at hL
  unfold Cu.op Cu.opN
  rw[←hL];exact⟨hd,rfl⟩
 have un:∀{d e:Cu} {x:SV} {y z:Int},z2i d x y z->x=e.x->y=e.e->z=e.a->Rc c d->Rc c e->d=e:=λ{d e x y z} h hx hy hz rd re=>z4a hP g re rd (h.1.trans hx) (h.2.1.trans hy) (h.2.2.trans hz)
 refine⟨⟨λhe=>⟨λhf=> ?_,λhf=> ?_⟩,λhe=> ?_⟩,?_⟩
 ·have he:=of_decide_eq_true he
  have hg:c1.goB f=true:=by unfold Cu.goB;rw[decide_eq_true he,show f=true from hf];rfl
  exact⟨c1,rfl,rfl,rfl,rfl,rfl,rfl,rfl,rfl,rfl,rfl,rfl,rfl,rfl,rfl,λ_ h=>h,⟨⟨⟨rfl,rfl,rfl⟩,r⟩,hg⟩,trivial⟩
 ·have he:=of_decide_eq_true he
  have hf:f=false:=hf
  refine⟨(c1,4,mkS [125]),rfl,rfl,rfl,rfl,rfl,rfl,rfl,(r).P hP,λq hq=>(r).ok hP (H q hq),λhb=> ?_,λhb=> ?_⟩
  ·have hb2:(!c1.is 4 cbW)=true:=hb
   have hb:c1.is 4 cbW=false:=by revert hb2;cases c1.is 4 cbW<;>simp
   have hg:c1.goB f=true:=by unfold Cu.goB;rw[decide_eq_true he,hb,hf];rfl
   exact⟨c1,q1 ((z0i hb).symm),q2 ((z0i hb).symm),q3 ((z0i hb).symm),q4 ((z0i hb).symm),q5 ((z0i hb).symm),rfl,rfl,rfl,rfl,rfl,rfl,rfl,rfl,rfl,λ_ h=>h,⟨⟨⟨rfl,rfl,rfl⟩,r⟩,hg⟩,trivial⟩
  ·have hb2:(!c1.is 4 cbW)=false:=hb
   have hb:c1.is 4 cbW=true:=by revert hb2;cases c1.is 4 cbW<;>simp
   have hg:c1.goB f=false:=by unfold Cu.goB;rw[hb,hf,Bool.not_true,Bool.or_false,Bool.and_false]
   obtain⟨f1,f2⟩:=fin _ hg rfl
   exact⟨(vF,vO),q1 (f1),q2 (f1),q3 (f1),q4 (f1),q5 (f1),rfl,rfl,rfl,rfl,rfl,f2,rfl,rfl,rfl,⟨by rw[f2];exact hF,hO,by rw[f2];exact bN⟩,trivial⟩
 ·have he:=of_decide_eq_false he
  have hg:c1.goB f=false:=by unfold Cu.goB;rw[decide_eq_false he];rfl
  obtain⟨f1,f2⟩:=fin _ hg (z0i (zad he _ _))
  exact⟨(vF,vO),q1 (f1),q2 (f1),q3 (f1),q4 (f1),q5 (f1),rfl,rfl,rfl,rfl,rfl,f2,rfl,rfl,rfl,⟨by rw[f2];exact hF,hO,by rw[f2];exact bN⟩,trivial⟩
 ·rintro d ⟨⟨hd,rd⟩,hg⟩
  obtain rfl:=un hd rfl rfl rfl rd r
  have st:=zjh (s:=⟨d,f,n⟩) P1 hg
  have mu:=(z82 ⟨d,f,n⟩ P1 hg).2
  refine⟨⟨Cu.len P1 g1,(Cu.cells P1 g1).1,d.hd.2.1,λq hq=>Cu.cell P1 (r.ok hP hq.2) 1 rfl,⟨λw0=>⟨d,by simp only[z0x,w0,Bool.false_or,Bool.true_or],rfl,rfl,rfl,rfl,rfl,rfl,rfl,rfl,rfl,rfl,rfl,rfl,rfl,rfl,λ_ h=>h,⟨⟨rfl,rfl,rfl⟩,rd⟩,trivial⟩,λw0=>⟨λw1=>⟨d,by simp only[z0x,w0,w1,Bool.false_or,Bool.true_or],rfl,rfl,rfl,rfl,rfl,rfl,rfl,rfl,rfl,rfl,rfl,rfl,rfl,rfl,λ_ h=>h,⟨⟨rfl,rfl,rfl⟩,rd⟩,trivial⟩,λw1=>⟨λw2=>⟨d,by simp only[z0x,w0,w1,w2,Bool.false_or,Bool.true_or],rfl,rfl,rfl,rfl,rfl,rfl,rfl,rfl,rfl,rfl,rfl,rfl,rfl,rfl,λ_ h=>h,⟨⟨rfl,rfl,rfl⟩,rd⟩,trivial⟩,λw2=>⟨λw3=>⟨d,by simp only[z0x,w0,w1,w2,w3,Bool.false_or,Bool.true_or],rfl,rfl,rfl,rfl,rfl,rfl,rfl,rfl,rfl,rfl,rfl,rfl,rfl,rfl,λ_ h=>h,⟨⟨rfl,rfl,rfl⟩,rd⟩,trivial⟩,λw3=>⟨λw4=>⟨d,by simp only[z0x,w0,w1,w2,w3,w4,Bool.false_or,Bool.true_or],rfl,rfl,rfl,rfl,rfl,rfl,rfl,rfl,rfl,rfl,rfl,rfl,rfl,rfl,λ_ h=>h,⟨⟨rfl,rfl,rfl⟩,rd⟩,trivial⟩,λw4=>⟨λw5=>⟨d,by simp only[z0x,w0,w1,w2,w3,w4,w5,Bool.false_or,Bool.true_or],rfl,rfl,rfl,rfl,rfl,rfl,rfl,rfl,rfl,rfl,rfl,rfl,rfl,rfl,λ_ h=>h,⟨⟨rfl,rfl,rfl⟩,rd⟩,trivial⟩,λw5=>⟨d,by simp only[z0x,w0,w1,w2,w3,w4,w5,Bool.false_or],rfl,rfl,rfl,rfl,rfl,rfl,rfl,rfl,rfl,rfl,rfl,rfl,rfl,rfl,λ_ h=>h,⟨⟨rfl,rfl,rfl⟩,rd⟩,trivial⟩⟩⟩⟩⟩⟩⟩,?_⟩,?_⟩
  ·rintro d2 ⟨hd2,rd2⟩
   obtain rfl:=un hd2 rfl rfl rfl rd2 rd
   refine⟨λhb=> ?_,λhb=> ?_⟩
   ·have e1:d2.o1=d2.fa 2:=if_pos hb
    exact⟨(d2,2),rfl,rfl,rfl,rfl,rfl,rfl,(rd).P hP,λq hq=>(rd).ok hP (H q hq),d2,q1 (e1),q2 (e1),q3 (e1),q4 (e1),q5 (e1),rfl,rfl,rfl,rfl,rfl,rfl,rfl,rfl,rfl,λ_ h=>h,⟨⟨rfl,rfl,rfl⟩,rd⟩,trivial⟩
   ·have e1:d2.o1=d2:=if_neg (by rw[hb];simp)
    exact⟨d2,q1 (e1),q2 (e1),q3 (e1),q4 (e1),q5 (e1),rfl,rfl,rfl,rfl,rfl,rfl,rfl,rfl,rfl,λ_ h=>h,⟨⟨rfl,rfl,rfl⟩,rd⟩,trivial⟩
  ·rintro d2 ⟨hd2,rd2⟩
   obtain rfl:=un hd2 rfl rfl rfl rd2 rd
   have P2:=rd.o1.P hP
   have g2:=rd.o1.ok hP g
   refine⟨⟨Cu.len P2 g2,(Cu.cells P2 g2).1,(d2.o1.hd.1:Nat),λq hq=>Cu.cell P2 (rd.o1.ok hP hq.2) 0 rfl,λhb=> ?_,λhb=> ?_⟩,?_⟩
   ·have h1:¬d2.o1.hd.1=1:=by have:¬((d2.o1.hd.1:Nat):Int)=1:=(by simpa using hb);omega
    have e2:d2.o1.o2=d2.o1.fa 2:=if_neg h1
    exact⟨(d2.o1,2),rfl,rfl,rfl,rfl,rfl,rfl,(rd.o1).P hP,λq hq=>(rd.o1).ok hP (H q hq),d2.o1,q1 (e2),q2 (e2),q3 (e2),q4 (e2),q5 (e2),rfl,rfl,rfl,rfl,rfl,rfl,rfl,rfl,rfl,λ_ h=>h,⟨⟨rfl,rfl,rfl⟩,rd.o1⟩,trivial⟩
   ·have h1:d2.o1.hd.1=1:=by have:((d2.o1.hd.1:Nat):Int)=1:=(by simpa using hb);omega
    have e2:d2.o1.o2=d2.o1:=if_pos h1
    exact⟨d2.o1,q1 (e2),q2 (e2),q3 (e2),q4 (e2),q5 (e2),rfl,rfl,rfl,rfl,rfl,rfl,rfl,rfl,rfl,λ_ h=>h,⟨⟨rfl,rfl,rfl⟩,rd.o1⟩,trivial⟩
   ·rintro d3 ⟨hd3,rd3⟩
    obtain rfl:=un hd3 rfl rfl rfl rd3 rd.o1
    have R3:Rc c (d2.o1.o2.rm n):=rd.o1.o2.rm _
    have mu2:n+1+(d2.o3 n).mu<=m.nF+(c.T.length+1):=by have:(d2.o3 n).mu<d2.mu:=mu;omega
    exact⟨(d2.o1.o2,n),rfl,rfl,rfl,rfl,rfl,rfl,(rd.o1.o2).P hP,λq hq=>(rd.o1.o2).ok hP (H q hq),(d2.o1.o2.rm n,0),rfl,rfl,rfl,rfl,rfl,rfl,(R3).P hP,λq hq=>(R3).ok hP (H q hq),hF,by show(n+1)*80<=140737488355328;omega,(⟨d2.o3 n,false,n+1⟩,_,vO),rfl,rfl,rfl,rfl,rfl,rfl,rfl,rfl,rfl,rfl,rfl,rfl,rfl,rfl,rfl,λ_ h=>h,⟨R3.ty,⟨by rw[List.length_append,hF];show n*7+7=(n+1)*7;omega,hO,mu2⟩,st.symm.trans hL⟩,mu,trivial⟩
end
def mgW:ByteArray:=mkS [109,101,115,115,97,103,101]
def euW:ByteArray:=mkS [101,110,117,109]
def onW:ByteArray:=mkS [111,110,101,111,102]
structure Cn where
 nF:Nat
 nO:Nat
 nM:Nat
 nE:Nat
structure MS where
 c:Cu
 m:Cn
def Cu.mb(msg:Cu->Cu) (c:Cu) (m:Cn):Cu:=
 if c.is 4 smW then c.nx else
 if c.is 1 mgW then msg (c.rm m.nM)else
 if c.is 1 euW then(c.rm m.nE).en else
 if c.is 1 onW then(c.rm m.nO).op m.nF else
 if c.hd.1=1 then(c.rm m.nF).ty else c.fa 2
def Cu.mbN(c:Cu) (m:Cn):Cn:=
 if c.is 4 smW then m else
 if c.is 1 mgW then⟨m.nF,m.nO,m.nM+1,m.nE⟩else
 if c.is 1 euW then⟨m.nF,m.nO,m.nM,m.nE+1⟩else
 if c.is 1 onW then⟨(c.rm m.nO).opN m.nF,m.nO+1,m.nM,m.nE⟩else
 if c.hd.1=1 then⟨m.nF+1,m.nO,m.nM,m.nE⟩else m
def z9t(s:MS):Bool:=decide (s.c.e=0)&& !s.c.is 4 cbW
def zj7(msg:Cu->Cu) (s:MS):MS:=⟨s.c.mb msg s.m,s.c.mbN s.m⟩
def msL(msg:Cu->Cu) (s:MS):MS:=itr z9t (zj7 msg) s.c.mu s
def Cu.ms0(c:Cu):Cu:=c.nx.pl.nd 4 obW
def Cu.ms:Nat->Cu->Cu
 |0,c=>(c.fa 3).ms0
 |d+1,c=>(msL (Cu.ms d) ⟨c.ms0,⟨0,0,0,0⟩⟩).c.tk 4 cbW
def Cu.msN:Nat->Cu->Cn
 |0,c=>⟨0,0,0,0⟩
 |d+1,c=>(msL (Cu.ms d) ⟨c.ms0,⟨0,0,0,0⟩⟩).m
def Cu.m0(c:Cu) (d:Int):Cu:=if 20<d then c.fa 3 else c
def Cu.msT(c:Cu) (d:Int):ByteArray:=(c.m0 d).nx.plT
def dpN(d:Int):Nat:=(21- d).toNat
def MM.cn(m:MM):Cn:=⟨m.nF,m.nO,m.nM,m.nE⟩
abbrev RwB:=List Value×List Value×List Value×List Value
def lnB(n:Cn) (b:RwB):Prop:=b.1.length=n.nF*7/\b.2.1.length=n.nO*1/\b.2.2.1.length=n.nM*7/\b.2.2.2.length=n.nE*2
def mkM(nm:ByteArray) (n:Cn) (b:RwB):MM:=⟨nm,n.nF,n.nO,n.nM,n.nE,b.1,b.2.1,b.2.2.1,b.2.2.2⟩
abbrev MbS:=Cu×Int×MM
def z6x:CtR where
 σ:=MbS
 args:=λ⟨c,d,m⟩=>[.ptr 1 0, .ptr 2 0, .sv (.int .i64 d)]
 h:=λ⟨c,d,m⟩=>(1,c.O)::m.H 3
 m:=11
 pre:=λ⟨c,d,m⟩=>c.P/\m.wf/\1<=d/\d<=20
 mem:=λ⟨c,d,m⟩=>c.M
 β:=λ_=>RwB
 post:=λ⟨c,d,m⟩ b=>lnB (c.mbN m.cn) b
 r:=λ_ _=> .tup []
 h':=λ⟨c,d,m⟩ b=>(1,(c.mb (Cu.ms (dpN (d+1))) m.cn).O)::(mkM m.nm (c.mbN m.cn) b).H 11
 m':=19
abbrev MsS:=Cu×Int
abbrev MsB:=SV×SV×SV×SV
def fmA(nm:ByteArray) (b:MsB):AV:= .agg [.sv (.string nm),svA b.1,svA b.2.1,svA b.2.2.1,svA b.2.2.2, .sv (.slice none 0 0), .sv (.slice none 0 0)]
def lnS(n:Cn) (b:MsB):Prop:=b.1.2.1=n.nF/\b.2.1.2.1=n.nO/\b.2.2.1.2.1=n.nM/\b.2.2.2.2.1=n.nE
def z47:CtR where
 σ:=MsS
 args:=λ⟨c,d⟩=>[.ptr 1 0, .sv (.int .i64 d)]
 h:=λ⟨c,d⟩=>[(1,c.O)]
 m:=2
 pre:=λ⟨c,d⟩=>c.P/\1<=d/\d<=21
 mem:=λ⟨c,d⟩=>c.M
 β:=λ_=>MsB
 post:=λ⟨c,d⟩ b=>lnS (c.msN (dpN d)) b
 r:=λ⟨c,d⟩ b=>fmA (c.msT d) b
 h':=λ⟨c,d⟩ b=>[(1,(c.ms (dpN d)).O)]
 m':=2
def z4e:MbS->Nat:=λ⟨c,d,m⟩=>(21- d).toNat
def z4f:MsS->Nat:=λ⟨c,d⟩=>(21- d).toNat
def idP(t:T AV) (k:Nat):Option Nat:=match t.get k with
 |some (.ptr i _)=>some i
 |_=>none
def zk9:MsS->WayF:=λ⟨c0,d⟩=>{
  ann :=λi tt hh=>match i with
    | 0=>match idP tt 5 with
      |some id=>some {σ:=MS×RwB,pre:=λ⟨s,b⟩=>Rc (c0.m0 d) s.c/\(lnB s.m b/\(s.m.nF+s.c.mu<=c0.T.length+1/\s.m.nO+s.c.mu<=c0.T.length+1/\s.m.nM+s.c.mu<=c0.T.length+1/\s.m.nE+s.c.mu<=c0.T.length+1))/\msL (Cu.ms (dpN (d+1))) s=msL (Cu.ms (dpN (d+1))) ⟨(c0.m0 d).ms0,⟨0,0,0,0⟩⟩,t:=λ_=>[],h:=λ⟨s,b⟩=>[(1,s.c.O),(id,fmO (c0.msT d) 100 s.m.nF 102 s.m.nO 104 s.m.nM 106 s.m.nE),rwF 100 b.1,rwO 102 b.2.1,rwM 104 b.2.2.1,rwE 106 b.2.2.2],more:=150,μ:=λ⟨s,b⟩=>s.c.mu,keep:=[0,1,4,5]}
      |none=>none
    |_=>none
  cut:=λi tt hh=>match i with
    |3=>zhp c0 hh (λ_=>[]) (λc=>c.m0 d) [0,1,4]
    |_=>none
  pubE:=[1000004]}
def zk8:MbS->WayF:=λ⟨c0,d,m⟩=>{
 spl:=λi=>match i with
  |4=>some 7
  |7=>some 6
  |_=>none
 flo:=λi=>match i with
  |4=>some (7,[9])
  |7=>some (6,[0])
  |_=>none
 flu:=λi=>match i with
  |4=>[(7,[0,1,2,3,8])]
  |7=>[(6,[1,2,3,4])]
  |_=>[]}
section
variable (x0:Int) (x1:Cu) (x2:Nat) (x3:MS×RwB) (x4:Nat->Option Obj) (x5:Option Addr) (x6:Nat) (x7:Option Addr) (x8:MsB) (x9:Option Addr) (x10:Nat) (x11:Option Addr) (x12:Nat) (x13:Prop) (x14:CuT) (x15:MbS) (x16:RwB) (x17:Cu) (x18:CuE)
 abbrev z6c:=Cu.fa x18.1 x18.2
 def z9d:=(∀i0,True/\Cu.ok x1 i0->True/\Cu.ok x1 i0)
 def zmy:=z2i x1 ((Cu.x x17).1,(Cu.x x17).2.1,(Cu.x x17).2.2) (Cu.e x17) (Cu.a x17)/\Rc x17 x1
 def zgp:=Cu.P x14.1/\(∀i0,True/\Cu.ok x1 i0->Cu.ok x14.1 i0)/\x13
 abbrev zi5:=Cu.nd x14.1 x14.2.1 x14.2.2
 def zmw:=Rc (Cu.m0 x1 x0) (MS.c x3.1)/\(lnB (MS.m x3.1) x3.2/\Cn.nF (MS.m x3.1)+Cu.mu (MS.c x3.1)<=length (Cu.T x1)+1/\Cn.nO (MS.m x3.1)+Cu.mu (MS.c x3.1)<=length (Cu.T x1)+1/\Cn.nM (MS.m x3.1)+Cu.mu (MS.c x3.1)<=length (Cu.T x1)+1/\Cn.nE (MS.m x3.1)+Cu.mu (MS.c x3.1)<=length (Cu.T x1)+1)/\msL (Cu.ms (dpN (x0+1))) x3.1=msL (Cu.ms (dpN (x0+1))) (MS.mk (Cu.ms0 (Cu.m0 x1 x0)) (Cn.mk 0 0 0 0))
 abbrev z9e:=Cu.tk x14.1 x14.2.1 x14.2.2
 abbrev z6b:=Cu.mb (Cu.ms (dpN (x15.2.1+1))) x15.1 (MM.cn x15.2.2)
 abbrev z9v:=mkM (MM.nm x15.2.2) (Cu.mbN x15.1 (MM.cn x15.2.2)) x16
 def zc1:=(True/\Cu.ok x1 x4)/\Cn.nF (MS.m x3.1)<=x2/\qoq x4 x5 (take (Cn.nF (MS.m x3.1)*nat_lit 7) x3.2.1)
 def zi4:=(zc1 x1 x2 x3 x4 x5)/\Cn.nO (MS.m x3.1)<=x6/\qoq x4 x7 (take (Cn.nO (MS.m x3.1)*nat_lit 1) x3.2.2.1)
 def zmx:=Cn.nM (MS.m x3.1)<=x2/\qoq x4 x5 (take (Cn.nM (MS.m x3.1)*nat_lit 7) x3.2.2.2.1)
 def zgo:=∃i0,((zi4 x1 x2 x3 i0 x5 x6 x7)/\zmx x10 x3 i0 x9)/\Cn.nE (MS.m x3.1)<=x12/\qoq i0 x11 (take (Cn.nE (MS.m x3.1)*nat_lit 2) x3.2.2.2.2)
 def zoo:=Cu.msT x1 x0=Cu.msT x1 x0/\x8.1.1=x5/\x8.1.2.1=Cn.nF (MS.m x3.1)/\x8.1.2.2=x2/\x8.2.1.1=x7/\x8.2.1.2.1=Cn.nO (MS.m x3.1)/\x8.2.1.2.2=x6/\x8.2.2.1.1=x9/\x8.2.2.1.2.1=Cn.nM (MS.m x3.1)/\x8.2.2.1.2.2=x10/\x8.2.2.2.1=x11/\x8.2.2.2.2.1=Cn.nE (MS.m x3.1)/\x8.2.2.2.2.2=x12/\noA=noA/\(0:Nat)=0/\(0:Nat)=0/\noA=noA/\(0:Nat)=0/\(0:Nat)=0/\x13
 def zro:=Ji (Cu.e (MS.c x3.1)=0) (∃(i0:CuT),(↑i0.2.1:Int)=4/\i0.2.2=mkS [125]/\(Cu.x i0.1).1=(Cu.x (MS.c x3.1)).1/\(Cu.x i0.1).2.1=(Cu.x (MS.c x3.1)).2.1/\(Cu.x i0.1).2.2=(Cu.x (MS.c x3.1)).2.2/\Cu.e i0.1=Cu.e (MS.c x3.1)/\Cu.a i0.1=Cu.a (MS.c x3.1)/\zgp x1 (((!Cu.is i0.1 i0.2.1 i0.2.2)=true->∃(i2:MbS),i2.2.1=x0/\(Cu.x i2.1).1=(Cu.x (z9e i0)).1/\(Cu.x i2.1).2.1=(Cu.x (z9e i0)).2.1/\(Cu.x i2.1).2.2=(Cu.x (z9e i0)).2.2/\Cu.e i2.1=Cu.e (z9e i0)/\Cu.a i2.1=Cu.a (z9e i0)/\MM.vF i2.2.2=x3.2.1/\MM.vM i2.2.2=x3.2.2.2.1/\MM.vO i2.2.2=x3.2.2.1/\MM.vE i2.2.2=x3.2.2.2.2/\MM.nm i2.2.2=Cu.msT x1 x0/\MM.nF i2.2.2=Cn.nF (MS.m x3.1)/\MM.nO i2.2.2=Cn.nO (MS.m x3.1)/\MM.nM i2.2.2=Cn.nM (MS.m x3.1)/\MM.nE i2.2.2=Cn.nE (MS.m x3.1)/\(z4e i2<x2+1/\Cu.P i2.1/\MM.wf i2.2.2/\1<=i2.2.1/\i2.2.1<=20)/\(∀i3,True/\Cu.ok x1 i3->Cu.ok i2.1 i3)/\∀(i4:RwB),lnB (Cu.mbN i2.1 (MM.cn i2.2.2)) i4->∃(i5:MS×RwB),x0=x0/\(Cu.x (MS.c i5.1)).1=(Cu.x (z6b i2)).1/\(Cu.x (MS.c i5.1)).2.1=(Cu.x (z6b i2)).2.1/\(Cu.x (MS.c i5.1)).2.2=(Cu.x (z6b i2)).2.2/\Cu.e (MS.c i5.1)=Cu.e (z6b i2)/\Cu.a (MS.c i5.1)=Cu.a (z6b i2)/\Cu.msT x1 x0=MM.nm (z9v i2 i4)/\Cn.nF (MS.m i5.1)=MM.nF (z9v i2 i4)/\Cn.nO (MS.m i5.1)=MM.nO (z9v i2 i4)/\Cn.nM (MS.m i5.1)=MM.nM (z9v i2 i4)/\Cn.nE (MS.m i5.1)=MM.nE (z9v i2 i4)/\i5.2.2.2.1=MM.vM (z9v i2 i4)/\i5.2.1=MM.vF (z9v i2 i4)/\i5.2.2.2.2=MM.vE (z9v i2 i4)/\i5.2.2.1=MM.vO (z9v i2 i4)/\z9d x1/\(zmw x0 x1 i5)/\Cu.mu (MS.c i5.1)<Cu.mu (MS.c x3.1)/\True)/\((!Cu.is i0.1 i0.2.1 i0.2.2)=false->∀(i7 i8 i9:Nat) (i10:Option Addr) (i11 i12:Nat),(∃i13,zc1 x1 i12 x3 i13 i10)->∀(i14 i15 i16:Nat) (i17:Option Addr) (i18 i19:Nat),(∃i20,zi4 x1 i12 x3 i20 i10 i19 i17)->∀(i21 i22 i23:Nat) (i24:Option Addr) (i25 i26:Nat),(∃i27,(zi4 x1 i12 x3 i27 i10 i19 i17)/\zmx i26 x3 i27 i24)->∀(i28 i29 i30:Nat) (i31:Option Addr) (i32 i33:Nat),(zgo x1 i12 x3 i10 i19 i17 i24 i26 i31 i33)->∃(i35:MsB),zoo x0 x1 i12 x3 i10 i19 i17 i35 i24 i26 i31 i33 ((Cu.x (Cu.ms (dpN x0) x1)).1=(Cu.x (z9e i0)).1/\(Cu.x (Cu.ms (dpN x0) x1)).2.1=(Cu.x (z9e i0)).2.1/\(Cu.x (Cu.ms (dpN x0) x1)).2.2=(Cu.x (z9e i0)).2.2/\Cu.e (Cu.ms (dpN x0) x1)=Cu.e (z9e i0)/\Cu.a (Cu.ms (dpN x0) x1)=Cu.a (z9e i0)/\lnS (Cu.msN (dpN x0) x1) i35/\True))) i0) (∀(i36 i37 i38:Nat) (i39:Option Addr) (i40 i41:Nat),(∃i42,zc1 x1 i41 x3 i42 i39)->∀(i43 i44 i45:Nat) (i46:Option Addr) (i47 i48:Nat),(∃i49,zi4 x1 i41 x3 i49 i39 i48 i46)->∀(i50 i51 i52:Nat) (i53:Option Addr) (i54 i55:Nat),(∃i56,(zi4 x1 i41 x3 i56 i39 i48 i46)/\zmx i55 x3 i56 i53)->∀(i57 i58 i59:Nat) (i60:Option Addr) (i61 i62:Nat),(zgo x1 i41 x3 i39 i48 i46 i53 i55 i60 i62)->∃(i64:MsB),zoo x0 x1 i41 x3 i39 i48 i46 i64 i53 i55 i60 i62 ((Cu.x (Cu.ms (dpN x0) x1)).1=(Cu.x (MS.c x3.1)).1/\(Cu.x (Cu.ms (dpN x0) x1)).2.1=(Cu.x (MS.c x3.1)).2.1/\(Cu.x (Cu.ms (dpN x0) x1)).2.2=(Cu.x (MS.c x3.1)).2.2/\Cu.e (Cu.ms (dpN x0) x1)=Cu.e (MS.c x3.1)/\Cu.a (Cu.ms (dpN x0) x1)=Cu.a (MS.c x3.1)/\lnS (Cu.msN (dpN x0) x1) i64/\True))
 def zrn:=(Ji (20<x0) (∃(i0:CuE),i0.2=3/\(Cu.x i0.1).1=(Cu.x x1).1/\(Cu.x i0.1).2.1=(Cu.x x1).2.1/\(Cu.x i0.1).2.2=(Cu.x x1).2.2/\Cu.e i0.1=Cu.e x1/\Cu.a i0.1=Cu.a x1/\Cu.P i0.1/\(∀i1,True/\Cu.ok x1 i1->Cu.ok i0.1 i1)/\∃(i2:Cu),x0=x0/\(Cu.x (Cu.m0 i2 x0)).1=(Cu.x (z6c i0)).1/\(Cu.x (Cu.m0 i2 x0)).2.1=(Cu.x (z6c i0)).2.1/\(Cu.x (Cu.m0 i2 x0)).2.2=(Cu.x (z6c i0)).2.2/\Cu.e (Cu.m0 i2 x0)=Cu.e (z6c i0)/\Cu.a (Cu.m0 i2 x0)=Cu.a (z6c i0)/\z9d x1/\(zmy i2 x1)/\True) (∃(i4:Cu),x0=x0/\(Cu.x (Cu.m0 i4 x0)).1=(Cu.x x1).1/\(Cu.x (Cu.m0 i4 x0)).2.1=(Cu.x x1).2.1/\(Cu.x (Cu.m0 i4 x0)).2.2=(Cu.x x1).2.2/\Cu.e (Cu.m0 i4 x0)=Cu.e x1/\Cu.a (Cu.m0 i4 x0)=Cu.a x1/\z9d x1/\(zmy i4 x1)/\True))/\∀(i6:Cu),zmy i6 x1->∃(i7:Cu),(Cu.x i7).1=(Cu.x (Cu.m0 i6 x0)).1/\(Cu.x i7).2.1=(Cu.x (Cu.m0 i6 x0)).2.1/\(Cu.x i7).2.2=(Cu.x (Cu.m0 i6 x0)).2.2/\Cu.e i7=Cu.e (Cu.m0 i6 x0)/\Cu.a i7=Cu.a (Cu.m0 i6 x0)/\Cu.P i7/\(∀i8,True/\Cu.ok x1 i8->Cu.ok i7 i8)/\∃(i9:Cu),(Cu.x i9).1=(Cu.x (Cu.nx i7)).1/\(Cu.x i9).2.1=(Cu.x (Cu.nx i7)).2.1/\(Cu.x i9).2.2=(Cu.x (Cu.nx i7)).2.2/\Cu.e i9=Cu.e (Cu.nx i7)/\Cu.a i9=Cu.a (Cu.nx i7)/\Cu.P i9/\(∀i10,True/\Cu.ok x1 i10->Cu.ok i9 i10)/\∃(i11:CuT),(↑i11.2.1:Int)=4/\i11.2.2=mkS [123]/\(Cu.x i11.1).1=(Cu.x (Cu.pl i9)).1/\(Cu.x i11.1).2.1=(Cu.x (Cu.pl i9)).2.1/\(Cu.x i11.1).2.2=(Cu.x (Cu.pl i9)).2.2/\Cu.e i11.1=Cu.e (Cu.pl i9)/\Cu.a i11.1=Cu.a (Cu.pl i9)/\zgp x1 ((∃(i13:MS×RwB),x0=x0/\(Cu.x (MS.c i13.1)).1=(Cu.x (zi5 i11)).1/\(Cu.x (MS.c i13.1)).2.1=(Cu.x (zi5 i11)).2.1/\(Cu.x (MS.c i13.1)).2.2=(Cu.x (zi5 i11)).2.2/\Cu.e (MS.c i13.1)=Cu.e (zi5 i11)/\Cu.a (MS.c i13.1)=Cu.a (zi5 i11)/\Cu.msT x1 x0=Cu.plT i9/\Cn.nF (MS.m i13.1)=0/\Cn.nO (MS.m i13.1)=0/\Cn.nM (MS.m i13.1)=0/\Cn.nE (MS.m i13.1)=0/\z9d x1/\(zmw x0 x1 i13)/\True)/\∀(i15:MS×RwB),zmw x0 x1 i15->zro x0 x1 x2 i15) i11
end
def zal(k:Nat) (c:Cu) (d:Int):qr9 P (qkw [(52,z1b),(24,z14),(25,z1k),(29,z15),(33,z0m)]) (qm6 [(53,z6x.below z4e (k+1))]) Go.Proofs.Tryd.f31 (z47.below z4f (k+1)) (zk9) (c,d)=(z4f (c,d)<k+1/\Cu.P c/\1<=d/\d<=21->(∃(p:Pub),True/\Cu.ok c p)->zrn d c k):=by kernel_rfl
def zfb:=λk c d=>Eq.trans (zal k c d) (by delta Ji Jt Jf z6c z9d zmy zgp zi5 zmw z9e z6b z9v zc1 zi4 zmx zgo zoo zro zrn;exact rfl)
section
variable (x0:MM) (x1:MsS) (x2:MsB) (x3:Int) (x4 x5:Cu) (x6:Option Addr×Nat×Nat) (x7:CuE) (x8:Nat) (x9:CuT) (x10:Prop) (x11:RwB) (x12:CuT)
 abbrev z6d:=(↑x9.2.1:Int)=x3
 abbrev z19:=(Cu.x x9.1).2
 def zc4:=Cu.P x9.1/\(∀i0,True/\Cu.ok x4 i0->Cu.ok x9.1 i0)/\x10
 abbrev z2u:=Cu.mb (Cu.ms (dpN (x3+1))) x4 (MM.cn x0)
 abbrev z2e:=Cu.tk x9.1 x9.2.1 x9.2.2
 abbrev z1e:=(Cu.x (z2u x0 x3 x4)).2
 abbrev z0o:=mkM (MM.nm x0) (Cu.mbN x4 (MM.cn x0)) x11
 def zgs:=MM.vO (z0o x0 x4 x11)=MM.vO x0/\MM.nm (z0o x0 x4 x11)=MM.nm x0/\MM.nF (z0o x0 x4 x11)=MM.nF x0/\MM.nO (z0o x0 x4 x11)=MM.nO x0/\x10
 def zc2:=MM.vF (z0o x0 x4 x11)=MM.vF x0/\MM.vE (z0o x0 x4 x11)=MM.vE x0/\zgs x0 x4 x10 x11
 def zc3:=MM.nM (z0o x0 x4 x11)=MM.nM x0/\MM.nE (z0o x0 x4 x11)=MM.nE x0/\lnB (Cu.mbN x4 (MM.cn x0)) x11/\True
 def zi6:=(Cu.x x7.1).1=(Cu.x x9.1).1/\(Cu.x x7.1).2.1=(z19 x9).1/\(Cu.x x7.1).2.2=(z19 x9).2/\Cu.e x7.1=Cu.e x9.1/\Cu.a x7.1=Cu.a x9.1/\Cu.P x7.1/\(∀i0,True/\Cu.ok x4 i0->Cu.ok x7.1 i0)/\x10
 abbrev z0v:=Cu.rm x7.1 x7.2
 abbrev z3g:=x2.2.1.2
 abbrev z1c:=x2.2.2.1
 abbrev z1d:=x2.2.2.2
 abbrev z9f:=MM.vM x0++[string (mkS []),slice noA 0 0,slice noA 0 0,slice noA 0 0,slice noA 0 0,slice noA 0 0,slice noA 0 0]
 def zop:=(0:Nat)+toNat (↑(MM.nM x0):Int)*7+length [string (Cu.msT x1.1 x1.2),slice x2.1.1 x2.1.2.1 x2.1.2.2,slice x2.2.1.1 (z3g x2).1 (z3g x2).2,slice (z1c x2).1 (z1c x2).2.1 (z1c x2).2.2,slice (z1d x2).1 (z1d x2).2.1 (z1d x2).2.2,slice noA 0 0,slice noA 0 0]<=length (z9f x0)
 abbrev z4v:=(Cu.x (Cu.ms (dpN x1.2) x1.1)).2
 abbrev zc6:=(0:Nat)+toNat (↑(MM.nM x0):Int)*7
 def zrp:=length (MM.vM x0)=MM.nM x0*7/\(MM.nM x0+nat_lit 1)*160<=140737488355328/\(0<=(↑(MM.nM x0):Int)/\(↑(MM.nM x0):Int)<(↑(MM.nM x0+nat_lit 1):Int))/\zop x0 x1 x2/\zop x0 x1 x2/\slice (Cu.x (Cu.ms (dpN x1.2) x1.1)).1 (z4v x1).1 (z4v x1).2=slice (Cu.x (Cu.ms (dpN x1.2) x1.1)).1 (z4v x1).1 (z4v x1).2/\int i64 (Cu.e (Cu.ms (dpN x1.2) x1.1))=int i64 (Cu.e (Cu.ms (dpN x1.2) x1.1))/\int i64 (Cu.a (Cu.ms (dpN x1.2) x1.1))=int i64 (Cu.a (Cu.ms (dpN x1.2) x1.1))/\MM.vF x0=MM.vF x0/\MM.vO x0=MM.vO x0/\MM.vE x0=MM.vE x0/\string (MM.nm x0)=string (MM.nm x0)/\MM.nF x0=MM.nF x0/\MM.nO x0=MM.nO x0/\MM.nM x0+nat_lit 1=MM.nM x0+nat_lit 1/\MM.nE x0=MM.nE x0/\spl (z9f x0) (zc6 x0) [string (Cu.msT x1.1 x1.2),slice x2.1.1 x2.1.2.1 x2.1.2.2,slice x2.2.1.1 (z3g x2).1 (z3g x2).2,slice (z1c x2).1 (z1c x2).2.1 (z1c x2).2.2,slice (z1d x2).1 (z1d x2).2.1 (z1d x2).2.2,slice noA 0 0,slice noA 0 0]=spl (z9f x0) (zc6 x0) [string (Cu.msT x1.1 x1.2),slice x2.1.1 x2.1.2.1 x2.1.2.2,slice x2.2.1.1 (z3g x2).1 (z3g x2).2,slice (z1c x2).1 (z1c x2).2.1 (z1c x2).2.2,slice (z1d x2).1 (z1d x2).2.1 (z1d x2).2.2,slice noA 0 0,slice noA 0 0]/\∃(i0:RwB),(Cu.x (z2u x0 x3 x4)).1=(Cu.x (Cu.ms (dpN x1.2) x1.1)).1/\(z1e x0 x3 x4).1=(z4v x1).1/\(z1e x0 x3 x4).2=(z4v x1).2/\Cu.e (z2u x0 x3 x4)=Cu.e (Cu.ms (dpN x1.2) x1.1)/\Cu.a (z2u x0 x3 x4)=Cu.a (Cu.ms (dpN x1.2) x1.1)/\MM.vM (z0o x0 x4 i0)=spl (z9f x0) (zc6 x0) [string (Cu.msT x1.1 x1.2),slice x2.1.1 x2.1.2.1 x2.1.2.2,slice x2.2.1.1 (z3g x2).1 (z3g x2).2,slice (z1c x2).1 (z1c x2).2.1 (z1c x2).2.2,slice (z1d x2).1 (z1d x2).2.1 (z1d x2).2.2,slice noA 0 0,slice noA 0 0]/\zc2 x0 x4 (MM.nM (z0o x0 x4 i0)=MM.nM x0+nat_lit 1/\MM.nE (z0o x0 x4 i0)=MM.nE x0/\lnB (Cu.mbN x4 (MM.cn x0)) i0/\True) i0
 def zgr:=Jb (x3+1)/\∃(i0:MsS),i0.2=x3+1/\(Cu.x i0.1).1=(Cu.x (z0v x7)).1/\(Cu.x i0.1).2.1=(Cu.x (z0v x7)).2.1/\(Cu.x i0.1).2.2=(Cu.x (z0v x7)).2.2/\Cu.e i0.1=Cu.e (z0v x7)/\Cu.a i0.1=Cu.a (z0v x7)/\(z4f i0<x8/\Cu.P i0.1/\1<=i0.2/\i0.2<=21)/\(∀i1,True/\Cu.ok x4 i1->Cu.ok i0.1 i1)/\∀(i2:MsB),lnS (Cu.msN (dpN i0.2) i0.1) i2->zrp x0 i0 i2 x3 x4
 def zgt:=(zgr x0 x3 x4 x7 x8)/\(zgr x0 x3 x4 x7 x8)/\(zgr x0 x3 x4 x7 x8)/\(zgr x0 x3 x4 x7 x8)/\(zgr x0 x3 x4 x7 x8)/\zgr x0 x3 x4 x7 x8
 def zmz:=(Cu.x x9.1).1=(Cu.x x12.1).1/\(z19 x9).1=(z19 x12).1/\(z19 x9).2=(z19 x12).2/\Cu.e x9.1=Cu.e x12.1/\Cu.a x9.1=Cu.a x12.1/\zc4 x4 x9 x10
 def zgq:=(Cu.x x4).1=(Cu.x (z0v x7)).1/\(Cu.x x4).2.1=(Cu.x (z0v x7)).2.1/\(Cu.x x4).2.2=(Cu.x (z0v x7)).2.2/\Cu.e x4=Cu.e (z0v x7)/\Cu.a x4=Cu.a (z0v x7)/\x10
 def zc5:=(∀i0,True/\Cu.ok x4 i0->Cu.ok x5 i0)
 def zrq:=length (MM.vE x0)=MM.nE x0*2/\(MM.nE x0+nat_lit 1)*40<=140737488355328/\∃(i0:RwB),(Cu.x (z2u x0 x3 x4)).1=(Cu.x (Cu.en x5)).1/\(z1e x0 x3 x4).1=(Cu.x (Cu.en x5)).2.1/\(z1e x0 x3 x4).2=(Cu.x (Cu.en x5)).2.2/\Cu.e (z2u x0 x3 x4)=Cu.e (Cu.en x5)/\Cu.a (z2u x0 x3 x4)=Cu.a (Cu.en x5)/\MM.vM (z0o x0 x4 i0)=MM.vM x0/\MM.vF (z0o x0 x4 i0)=MM.vF x0/\MM.vE (z0o x0 x4 i0)=MM.vE x0++[string (Cu.enT x5),slice x6.1 x6.2.1 x6.2.2]/\zgs x0 x4 (MM.nM (z0o x0 x4 i0)=MM.nM x0/\MM.nE (z0o x0 x4 i0)=MM.nE x0+nat_lit 1/\lnB (Cu.mbN x4 (MM.cn x0)) i0/\True) i0
 def z9g:=∃(i0:Cu),zgq i0 x7 ((Cu.P i0/\True)/\zc5 x4 i0/\∀(i2:Option Addr×Nat×Nat),i2.2.1=Cu.enN i0->zrq x0 x3 x4 i0 i2)
 abbrev z6e:=Cu.fa x7.1 x7.2
 def zrr:=((0:Int)<=0/\0<(↑(z19 x9).1:Int))/\(Cu.x x9.1).1≠noA/\∃(i0:Int),(∀i1,True/\Cu.ok x4 i1->q4o i1 (Addr.add (adr (Cu.x x9.1).1 ((0:Nat)*4)) 0) [int i64 i0])/\Ji (i0=1) (∃(i2:CuE),i2.2=(↑(MM.nF x0):Int)/\zi6 x4 i2 x9 (∃(i4:Cu),zgq i4 i2 (Cu.P i4/\zc5 x4 i4/\length (MM.vF x0)=MM.nF x0*7/\(MM.nF x0+nat_lit 1)*80<=140737488355328/\AV.ssl (nat_lit 3) (nat_lit 0) (MM.nF x0) (nat_lit 7) (nat_lit 4)=AV.ssl (nat_lit 3) (nat_lit 0) (MM.nF x0) (nat_lit 7) (nat_lit 4)/\∃(i6:RwB),(Cu.x (z2u x0 x3 x4)).1=(Cu.x (Cu.ty i4)).1/\(z1e x0 x3 x4).1=(Cu.x (Cu.ty i4)).2.1/\(z1e x0 x3 x4).2=(Cu.x (Cu.ty i4)).2.2/\Cu.e (z2u x0 x3 x4)=Cu.e (Cu.ty i4)/\Cu.a (z2u x0 x3 x4)=Cu.a (Cu.ty i4)/\MM.vM (z0o x0 x4 i6)=MM.vM x0/\MM.vF (z0o x0 x4 i6)=MM.vF x0++[int i64 0,string (Cu.anT i4 1).2.1,string (mkS []),string (Cu.plT (Cu.an i4 1)),int u64 (↑(Cu.nmN (Cu.an i4 1)):Int),int i64 0,int i64 0]/\MM.vE (z0o x0 x4 i6)=MM.vE x0/\MM.vO (z0o x0 x4 i6)=MM.vO x0/\MM.nm (z0o x0 x4 i6)=MM.nm x0/\MM.nF (z0o x0 x4 i6)=MM.nF x0+nat_lit 1/\MM.nO (z0o x0 x4 i6)=MM.nO x0/\zc3 x0 x4 i6))) (∃(i7:CuE),i7.2=2/\zi6 x4 i7 x9 (∃(i9:RwB),(Cu.x (z2u x0 x3 x4)).1=(Cu.x (z6e i7)).1/\(z1e x0 x3 x4).1=(Cu.x (z6e i7)).2.1/\(z1e x0 x3 x4).2=(Cu.x (z6e i7)).2.2/\Cu.e (z2u x0 x3 x4)=Cu.e (z6e i7)/\Cu.a (z2u x0 x3 x4)=Cu.a (z6e i7)/\MM.vM (z0o x0 x4 i9)=MM.vM x0/\zc2 x0 x4 (zc3 x0 x4 i9) i9))
end
def zak(k:Nat) (c:Cu) (d:Int) (m:MM):qr9 P (qkw [(25,z1k),(26,zid),(29,z15),(28,z2n),(74,z45),(33,z0m)]) (qm6 [(31,z47.below z4f k),(32,z52),(72,z49)]) Go.Proofs.Tryd.f53 (z6x.below z4e (k+1)) (zk8) (c,d,m)=(z4e (c,d,m)<k+1/\Cu.P c/\MM.wf m/\1<=d/\d<=20->(∃(p:Pub),True/\Cu.ok c p)->∃(s:CuT),z6d 4 s/\s.2.2=mkS [59]/\(Cu.x s.1).1=(Cu.x c).1/\(z19 s).1=(Cu.x c).2.1/\(z19 s).2=(Cu.x c).2.2/\Cu.e s.1=Cu.e c/\Cu.a s.1=Cu.a c/\zc4 c s ((Cu.is s.1 s.2.1 s.2.2=true->∃(b:RwB),(Cu.x (z2u m d c)).1=(Cu.x (z2e s)).1/\(z1e m d c).1=(Cu.x (z2e s)).2.1/\(z1e m d c).2=(Cu.x (z2e s)).2.2/\Cu.e (z2u m d c)=Cu.e (z2e s)/\Cu.a (z2u m d c)=Cu.a (z2e s)/\MM.vM (z0o m c b)=MM.vM m/\zc2 m c (zc3 m c b) b)/\(Cu.is s.1 s.2.1 s.2.2=false->∃(s_1:CuT),z6d 1 s_1/\s_1.2.2=mkS [109,101,115,115,97,103,101]/\(Cu.x s_1.1).1=(Cu.x (z2e s)).1/\(z19 s_1).1=(Cu.x (z2e s)).2.1/\(z19 s_1).2=(Cu.x (z2e s)).2.2/\Cu.e s_1.1=Cu.e (z2e s)/\Cu.a s_1.1=Cu.a (z2e s)/\zc4 c s_1 ((Cu.is s_1.1 s_1.2.1 s_1.2.2=true->∃(s:CuE),s.2=(↑(MM.nM m):Int)/\zi6 c s s_1 ((zgt m d c s k)/\zgt m d c s k))/\(Cu.is s_1.1 s_1.2.1 s_1.2.2=false->∃(s:CuT),z6d 1 s/\s.2.2=mkS [101,110,117,109]/\zmz c s ((Cu.is s.1 s.2.1 s.2.2=true->∃(s_2:CuE),s_2.2=(↑(MM.nE m):Int)/\zi6 c s_2 s (((z9g m d c s_2)/\(z9g m d c s_2)/\(z9g m d c s_2)/\(z9g m d c s_2)/\z9g m d c s_2)/\(z9g m d c s_2)/\(z9g m d c s_2)/\(z9g m d c s_2)/\(z9g m d c s_2)/\z9g m d c s_2))/\(Cu.is s.1 s.2.1 s.2.2=false->∃(s_2:CuT),z6d 1 s_2/\s_2.2.2=mkS [111,110,101,111,102]/\zmz c s_2 ((Cu.is s_2.1 s_2.2.1 s_2.2.2=true->∃(s:CuE),s.2=(↑(MM.nO m):Int)/\zi6 c s s_2 (∃(s_3:OsS),(Cu.x s_3.1).1=(Cu.x (z0v s)).1/\(Cu.x s_3.1).2.1=(Cu.x (z0v s)).2.1/\(Cu.x s_3.1).2.2=(Cu.x (z0v s)).2.2/\Cu.e s_3.1=Cu.e (z0v s)/\Cu.a s_3.1=Cu.a (z0v s)/\MM.vF s_3.2=MM.vF m/\MM.vM s_3.2=MM.vM m/\MM.vO s_3.2=MM.vO m/\MM.vE s_3.2=MM.vE m/\MM.nm s_3.2=MM.nm m/\MM.nF s_3.2=MM.nF m/\MM.nO s_3.2=MM.nO m/\MM.nM s_3.2=MM.nM m/\MM.nE s_3.2=MM.nE m/\(Cu.P s_3.1/\MM.wf s_3.2)/\(∀(p:Pub),True/\Cu.ok c p->Cu.ok s_3.1 p)/\∀(b:OsB),length b.1=Cu.opN s_3.1 (MM.nF s_3.2)*7/\length b.2=(MM.nO s_3.2+1)*1/\Cu.opN s_3.1 (MM.nF s_3.2)<=MM.nF s_3.2+length (Cu.T s_3.1)+1->∃(b_1:RwB),(Cu.x (z2u m d c)).1=(Cu.x (Cu.op s_3.1 (MM.nF s_3.2))).1/\(z1e m d c).1=(Cu.x (Cu.op s_3.1 (MM.nF s_3.2))).2.1/\(z1e m d c).2=(Cu.x (Cu.op s_3.1 (MM.nF s_3.2))).2.2/\Cu.e (z2u m d c)=Cu.e (Cu.op s_3.1 (MM.nF s_3.2))/\Cu.a (z2u m d c)=Cu.a (Cu.op s_3.1 (MM.nF s_3.2))/\MM.vM (z0o m c b_1)=MM.vM (opM s_3.1 s_3.2 b)/\MM.vF (z0o m c b_1)=MM.vF (opM s_3.1 s_3.2 b)/\MM.vE (z0o m c b_1)=MM.vE (opM s_3.1 s_3.2 b)/\MM.vO (z0o m c b_1)=MM.vO (opM s_3.1 s_3.2 b)/\MM.nm (z0o m c b_1)=MM.nm (opM s_3.1 s_3.2 b)/\MM.nF (z0o m c b_1)=MM.nF (opM s_3.1 s_3.2 b)/\MM.nO (z0o m c b_1)=MM.nO (opM s_3.1 s_3.2 b)/\MM.nM (z0o m c b_1)=MM.nM (opM s_3.1 s_3.2 b)/\MM.nE (z0o m c b_1)=MM.nE (opM s_3.1 s_3.2 b)/\lnB (Cu.mbN c (MM.cn m)) b_1/\True))/\(Cu.is s_2.1 s_2.2.1 s_2.2.2=false->∃(s:CuT),z6d 1 s/\s.2.2=mkS [114,101,115,101,114,118,101,100]/\zmz c s ((Cu.is s.1 s.2.1 s.2.2=true->∃(s_3:Cu),(Cu.x s_3).1=(Cu.x s.1).1/\(Cu.x s_3).2.1=(z19 s).1/\(Cu.x s_3).2.2=(z19 s).2/\Cu.e s_3=Cu.e s.1/\Cu.a s_3=Cu.a s.1/\Cu.P s_3/\zc5 c s_3/\False)/\(Cu.is s.1 s.2.1 s.2.2=false->zrr m d c s)) s_2)) s)) s_1))))):=by kernel_rfl
def zf9:=λk c d m=>Eq.trans (zak k c d m) (by delta Ji Jb Jt Jf z6d z19 zc4 z2u z2e z1e z0o zgs zc2 zc3 zi6 z0v z3g z1c z1d z9f zop z4v zc6 zrp zgr zgt zmz zgq zc5 zrq z9g z6e zrr;exact rfl)
section
def z5a{S:Type} {go:S->Bool} {bd:S->S} (cu:S->Cu) (h:∀s,Rc (cu s) (cu (bd s))):∀(f:Nat) (s:S),Rc (cu s) (cu (itr go bd f s))
  |0,s=>Rc.rfl
  | f+1,s=>by
    rw[itr]
    split
    · exact(h s).trans (z5a cu h f _)
    · exact Rc.rfl
def Rc.en1(c:Cu):Rc c.nx c.en:=by
 refine(((Rc.rfl.pl).nd 4 obW).trans ?_).tk _ _
 refine z5a (S:=ES) (λs=>s.c) (λs=> ?_) _ ⟨c.en0,0⟩
 unfold zcw;split
 ·exact Rc.rfl.nx
 ·exact Rc.rfl.e1 _
def Rc.en(c:Cu):Rc c c.en:=(Rc.rfl.nx).trans (Rc.en1 c)
def Rc.opl(s:OS) (f:Nat):Rc s.c (itr zfh zdc f s).c:=z5a (S:=OS) (λs=>s.c) (λs=>Rc.rfl.o3 _) f s
def Rc.op1(c:Cu) (n:Nat):Rc c.nx (c.op n):=(((Rc.rfl.pl).nd 4 obW).trans (Rc.opl ⟨c.op0,true,n⟩ _)).tk _ _
def Rc.op(c:Cu) (n:Nat):Rc c (c.op n):=(Rc.rfl.nx).trans (Rc.op1 c n)
variable {msg:Cu->Cu}
def Rc.mb(hm:∀c,Rc c (msg c)) (c:Cu) (m:Cn):Rc c (c.mb msg m):=by
 unfold Cu.mb
 split
 ·exact Rc.rfl.nx
 split
 ·exact(Rc.rfl.rm _).trans (hm _)
 split
 ·exact(Rc.rfl.rm _).trans (Rc.en _)
 split
 ·exact(Rc.rfl.rm _).trans (Rc.op _ _)
 split
 ·exact(Rc.rfl.rm _).ty
 ·exact Rc.rfl.fa _
def Rc.ms1:∀(d:Nat) (c:Cu),(∃c',(c'=c\/c'=c.fa 3)/\Rc c'.nx (c.ms d))/\Rc c (c.ms d)
  |0,c=>⟨⟨c.fa 3, .inr _root_.rfl,(Rc.rfl.pl).nd _ _⟩,(((Rc.rfl.fa 3).nx).pl).nd _ _⟩
  | d+1,c=>by
    have h:Rc c.nx (c.ms (d+1)):=(((Rc.rfl.pl).nd 4 obW).trans (z5a (S:=MS) (λs=>s.c) (λs=>Rc.mb (λc=>(Rc.ms1 d c).2) s.c s.m) _ ⟨c.ms0,⟨0,0,0,0⟩⟩)).tk _ _
    exact⟨⟨c, .inl _root_.rfl,h⟩,(Rc.rfl.nx).trans h⟩
def Rc.ms(d:Nat) (c:Cu):Rc c (c.ms d):=(Rc.ms1 d c).2
def Cu.rm_T(c:Cu) (n:Int):(c.rm n).T=c.T:=by unfold Cu.rm;split;exact Cu.fa_T _ _;rfl
def Cu.rm_hd(c:Cu) (n:Int):(c.rm n).hd=c.hd:=by unfold Cu.hd;rw[Cu.rm_T]
def Cu.fa_hd(c:Cu) (n:Int):(c.fa n).hd=c.hd:=by unfold Cu.hd;rw[Cu.fa_T]
def Cu.nx_lt2{c d:Cu} (h:c.P) (hk:c.hd.1≠5) (r:Rc c.nx d):d.T.length<c.T.length:=Nat.lt_of_le_of_lt r.mono.1 (Cu.nx_lt h hk)
variable {c:Cu}
def Cu.ms_lt(h:c.P) (hk:c.hd.1≠5) (d:Nat):(c.ms d).T.length<c.T.length:=by
 obtain⟨c',hc,r⟩:=(Rc.ms1 d c).1
 rcases hc with rfl|rfl
 ·exact Cu.nx_lt2 h hk r
 ·have:=Cu.nx_lt2 (Cu.P_fa h 3) (by rw[Cu.fa_hd];exact hk) r
  rwa [Cu.fa_T]at this
def Cu.mb_lt(h:c.P) (d:Nat) (m:Cn) (he:(c.mb (Cu.ms d) m).e=0):(c.mb (Cu.ms d) m).T.length<c.T.length:=by
 have R:∀n,(c.rm n).P:=λn=>(Rc.rfl.rm n).P h
 unfold Cu.mb at he⊢
 split
 ·rename_i g
  exact Cu.nx_lt h (by rw[(Cu.is_hd g).2.1];decide)
 rename_i g1;rw[if_neg g1]at he
 split
 ·rename_i g
  have:=Cu.ms_lt (R m.nM) (by rw[Cu.rm_hd,(Cu.is_hd g).2.1];decide) d
  rwa [Cu.rm_T]at this
 rename_i g2;rw[if_neg g2]at he
 split
 ·rename_i g
  have:=Cu.nx_lt2 (R m.nE) (by rw[Cu.rm_hd,(Cu.is_hd g).2.1];decide) (Rc.en1 _)
  rwa [Cu.rm_T]at this
 rename_i g3;rw[if_neg g3]at he
 split
 ·rename_i g
  have:=Cu.nx_lt2 (R m.nO) (by rw[Cu.rm_hd,(Cu.is_hd g).2.1];decide) (Rc.op1 _ m.nF)
  rwa [Cu.rm_T]at this
 rename_i g4;rw[if_neg g4]at he
 split
 ·rename_i g
  rw[if_pos g]at he
  have:=Cu.ty_lt (R m.nF) he
  rwa [Cu.rm_T]at this
 ·rename_i g
  rw[if_neg g]at he
  exact absurd he (Cu.fa_no (by decide))
def zd6(d:Nat) (s:MS) (hs:s.c.P) (hg:z9t s=true):(zj7 (Cu.ms d) s).c.P/\(zj7 (Cu.ms d) s).c.mu<s.c.mu:=by
 have he:s.c.e=0:=by
  unfold z9t at hg
  simp only[Bool.and_eq_true,decide_eq_true_eq]at hg
  exact hg.1
 exact⟨(Rc.mb (Rc.ms d) s.c s.m).P hs,Cu.mu_lt he λh=>Cu.mb_lt hs d s.m h⟩
def zj8{d:Nat} {s:MS} (hs:s.c.P) (hg:z9t s=true):msL (Cu.ms d) s=msL (Cu.ms d) (zj7 (Cu.ms d) s):=z59 (μ:=λs:MS=>s.c.mu) (I:=λs=>s.c.P) (zd6 d) hs hg
def zd5{s:MS} (hg:z9t s=false):msL msg s=s:=z2p hg _
def zdd{s:OS} (hs:s.c.P):∀f,(itr zfh zdc f s).n+(itr zfh zdc f s).c.mu<=s.n+s.c.mu
  |0=>Nat.le_refl _
  | f +1=>by
    rw[itr]
    split
    · rename_i hg
      have h:=z82 s hs hg
      have:=zdd h.1 f
      have e:(zdc s).n=s.n+1:=rfl
      omega
    · exact Nat.le_refl _
  termination_by f=>f
def z7q{c d:Cu} (r:Rc c d):d.mu<=c.mu:=by
 have:=r.mono
 unfold Cu.mu
 split
 ·rw[if_pos (this.2 (by assumption))];omega
 ·exact Nat.zero_le _
def zj9(c:Cu):c.mu<=c.T.length+1:=by unfold Cu.mu;split<;>omega
def zjj(h:c.P) (n:Nat):c.opN n+(c.op n).mu<=n+c.mu:=by
 have:=zdd (s:=⟨c.op0,true,n⟩) ((Rc.op0 c).P h) c.op0.mu
 have h2:(c.op n).mu<=(opL ⟨c.op0,true,n⟩).c.mu:=z7q (Rc.rfl.tk _ _)
 have h3:=z7q (Rc.op0 c)
 unfold Cu.opN
 have e:(opL ⟨c.op0,true,n⟩).n+(opL ⟨c.op0,true,n⟩).c.mu<=n+c.op0.mu:=this
 omega
def zj6{c:Cu} (h:c.P) (he:c.e=0) (d:Nat) (m:Cn) (K:Nat) (hF:m.nF+c.mu<=K) (hO:m.nO+c.mu<=K) (hM:m.nM+c.mu<=K) (hE:m.nE+c.mu<=K):
  (c.mbN m).nF+(c.mb (Cu.ms d) m).mu<=K/\(c.mbN m).nO+(c.mb (Cu.ms d) m).mu<=K/\(c.mbN m).nM+(c.mb (Cu.ms d) m).mu<=K/\(c.mbN m).nE+(c.mb (Cu.ms d) m).mu<=K:=by
 have hlt:(c.mb (Cu.ms d) m).mu<c.mu:=Cu.mu_lt he λh2=>Cu.mb_lt h d m h2
 unfold Cu.mbN
 split
 ·omega
 split
 ·simp only;omega
 split
 ·simp only;omega
 split
 ·rename_i g1 g2 g3 g
  have e:c.mb (Cu.ms d) m=(c.rm m.nO).op m.nF:=by unfold Cu.mb;rw[if_neg g1,if_neg g2,if_neg g3,if_pos g]
  have:=zjj ((Rc.rfl.rm (m.nO:Int)).P h) m.nF
  have h2:(c.rm m.nO).mu<=c.mu:=z7q (Rc.rfl.rm _)
  rw[e]at hlt⊢
  simp only;omega
 split
 ·simp only;omega
 ·omega
end
section
variable {c:Cu} {f:Cu->Cu} {m:Cn}
def znp(h:c.is 4 smW=true):c.mb f m=c.nx/\c.mbN m=m:=⟨if_pos h,if_pos h⟩
def nB{b:Bool} (h:b=false):¬b=true:=by rw[h];simp
def znm(h:c.is 4 smW=false) (h1:c.is 1 mgW=true):c.mb f m=f (c.rm m.nM)/\c.mbN m=⟨m.nF,m.nO,m.nM+1,m.nE⟩:=
 ⟨(if_neg (nB h)).trans (if_pos h1),(if_neg (nB h)).trans (if_pos h1)⟩
def znk(h:c.is 4 smW=false) (h1:c.is 1 mgW=false) (h2:c.is 1 euW=true):c.mb f m=(c.rm m.nE).en/\c.mbN m=⟨m.nF,m.nO,m.nM,m.nE+1⟩:=
 ⟨(if_neg (nB h)).trans ((if_neg (nB h1)).trans (if_pos h2)),(if_neg (nB h)).trans ((if_neg (nB h1)).trans (if_pos h2))⟩
def zno(h:c.is 4 smW=false) (h1:c.is 1 mgW=false) (h2:c.is 1 euW=false) (h3:c.is 1 onW=true):c.mb f m=(c.rm m.nO).op m.nF/\c.mbN m=⟨(c.rm m.nO).opN m.nF,m.nO+1,m.nM,m.nE⟩:=
 ⟨(if_neg (nB h)).trans ((if_neg (nB h1)).trans ((if_neg (nB h2)).trans (if_pos h3))),(if_neg (nB h)).trans ((if_neg (nB h1)).trans ((if_neg (nB h2)).trans (if_pos h3)))⟩
def znl(h:c.is 4 smW=false) (h1:c.is 1 mgW=false) (h2:c.is 1 euW=false) (h3:c.is 1 onW=false) (h4:c.hd.1=1):c.mb f m=(c.rm m.nF).ty/\c.mbN m=⟨m.nF+1,m.nO,m.nM,m.nE⟩:=
 ⟨(if_neg (nB h)).trans ((if_neg (nB h1)).trans ((if_neg (nB h2)).trans ((if_neg (nB h3)).trans (if_pos h4)))),(if_neg (nB h)).trans ((if_neg (nB h1)).trans ((if_neg (nB h2)).trans ((if_neg (nB h3)).trans (if_pos h4))))⟩
def znn(h:c.is 4 smW=false) (h1:c.is 1 mgW=false) (h2:c.is 1 euW=false) (h3:c.is 1 onW=false) (h4:¬c.hd.1=1):c.mb f m=c.fa 2/\c.mbN m=m:=
 ⟨(if_neg (nB h)).trans ((if_neg (nB h1)).trans ((if_neg (nB h2)).trans ((if_neg (nB h3)).trans (if_neg h4)))),(if_neg (nB h)).trans ((if_neg (nB h1)).trans ((if_neg (nB h2)).trans ((if_neg (nB h3)).trans (if_neg h4))))⟩
def z7m(k:Nat) (hm:q39 P 31 (z47.below z4f k)):q39 P 53 (z6x.below z4e (k+1)):=by
 refine qq9 mixed (qhc (qmo z0g (qmo z7h (qmo z0f (qmo z1u (qmo z7b (qmo z04 qqu))))))) (qig (qmn hm (qmn z57 (qmn z81 qqt)))) (W:=zk8) Go.Proofs.Tryd.func53 (by kernel_rfl) (show 1<=11 by decide) (show 11<=19 by decide) (λs=>by kernel_rfl) λ⟨c,(d:Int),m⟩=>(zf9 k c d m).mpr ?_
 rintro⟨hmu,hP,⟨⟨wF,wF2⟩,⟨wO,wO2⟩,⟨wM,wM2⟩,wE,wE2⟩,hd1,hd2⟩ ⟨p,_,g⟩
 have hmu:(21- d).toNat<k+1:=hmu
 have hmu2:(21- (d+1)).toNat<k:=by omega
 have bn2:(0:Int)<=((m.nM:Nat):Int)/\((m.nM:Nat):Int)<((m.nM+1:Nat):Int):=⟨by omega,by omega⟩
 have H:∀q,True/\c.ok q->c.ok q:=λq hq=>hq.2
 have bd:(-9223372036854775808:Int)<=d+1/\d+1<=9223372036854775807:=⟨by omega,by omega⟩
 refine⟨(c,4,mkS [59]),rfl,rfl,rfl,rfl,rfl,rfl,rfl,hP,H,λhs=> ?_,λhs=> ?_⟩
 ·obtain⟨e1,e2⟩:=znp (f:=Cu.ms (dpN (d+1))) (m:=m.cn) hs
  exact⟨(m.vF,m.vO,m.vM,m.vE),q1 (e1.trans (z08 hs).symm),q2 (e1.trans (z08 hs).symm),q3 (e1.trans (z08 hs).symm),q4 (e1.trans (z08 hs).symm),q5 (e1.trans (z08 hs).symm),rfl,rfl,rfl,rfl,rfl,congrArg Cn.nF e2,congrArg Cn.nO e2,congrArg Cn.nM e2,congrArg Cn.nE e2,by rw[e2];exact⟨wF,wO,wM,wE⟩,trivial⟩
 have hs:c.is 4 smW=false:=hs
 have k1:c.tk 4 smW=c:=z0i hs
 refine⟨(c,1,mkS [109,101,115,115,97,103,101]),rfl,rfl,q1 (k1.symm),q2 (k1.symm),q3 (k1.symm),q4 (k1.symm),q5 (k1.symm),hP,H,λhg=> ?_,λhg=> ?_⟩
 ·obtain⟨e1,e2⟩:=znm (f:=Cu.ms (dpN (d+1))) (m:=m.cn) hs hg
  have R:=Rc.rfl.rm (c:=c) (m.nM:Int)
  refine⟨(c,m.nM),rfl,rfl,rfl,rfl,rfl,rfl,hP,H,?_⟩
  refine⟨⟨?_,?_,?_,?_,?_,?_⟩,?_,?_,?_,?_,?_,?_⟩
  all_goals refine⟨bd,(c.rm m.nM,d+1),rfl,rfl,rfl,rfl,rfl,rfl,⟨hmu2,R.P hP,show 1<=d+1 by omega,show d+1<=21 by omega⟩,λq hq=>R.ok hP hq.2,?_⟩
  all_goals rintro⟨⟨a1,a2,a3⟩,⟨b1,b2,b3⟩,⟨c1,c2,c3⟩,f1,f2,f3⟩ hb
  all_goals refine⟨wM,by show(m.nM+1)*160<=_;omega,bn2,?_⟩
  all_goals exact⟨by rw[List.length_append,wM,Int.toNat_natCast];show 0+m.nM*7+7<=m.nM*7+7;omega,by rw[List.length_append,wM,Int.toNat_natCast];show 0+m.nM*7+7<=m.nM*7+7;omega,rfl,rfl,rfl,rfl,rfl,rfl,rfl,rfl,rfl,rfl,rfl,rfl,⟨(m.vF,m.vO,_,m.vE),q1 (e1),q2 (e1),q3 (e1),q4 (e1),q5 (e1),rfl,rfl,rfl,rfl,rfl,congrArg Cn.nF e2,congrArg Cn.nO e2,congrArg Cn.nM e2,congrArg Cn.nE e2,by rw[e2];exact⟨wF,wO,by simp only[List.length_set,List.length_append,wM];show m.nM*7+7=(m.nM+1)*7;omega,wE⟩,trivial⟩⟩
 have hg:c.is 1 mgW=false:=hg
 refine⟨(c,1,mkS [101,110,117,109]),rfl,rfl,rfl,rfl,rfl,rfl,rfl,hP,H,λhu=> ?_,λhu=> ?_⟩
 ·obtain⟨e1,e2⟩:=znk (f:=Cu.ms (dpN (d+1))) (m:=m.cn) hs hg hu
  have R:=Rc.rfl.rm (c:=c) (m.nE:Int)
  refine⟨(c,m.nE),rfl,rfl,rfl,rfl,rfl,rfl,hP,H,?_⟩
  refine⟨⟨?_,?_,?_,?_,?_⟩,?_,?_,?_,?_,?_⟩
  all_goals refine⟨c.rm m.nE,rfl,rfl,rfl,rfl,rfl,⟨R.P hP,trivial⟩,λq hq=>R.ok hP hq.2,?_⟩
  all_goals rintro⟨a1,a2,a3⟩ hb
  all_goals refine⟨wE,by show(m.nE+1)*40<=_;omega,?_⟩
  all_goals exact⟨(m.vF,m.vO,m.vM,_),q1 (e1),q2 (e1),q3 (e1),q4 (e1),q5 (e1),rfl,rfl,rfl,rfl,rfl,congrArg Cn.nF e2,congrArg Cn.nO e2,congrArg Cn.nM e2,congrArg Cn.nE e2,by rw[e2];exact⟨wF,wO,wM,by rw[List.length_append,wE];show m.nE*2+2=(m.nE+1)*2;omega⟩,trivial⟩
 have hu:c.is 1 euW=false:=hu
 refine⟨(c,1,mkS [111,110,101,111,102]),rfl,rfl,rfl,rfl,rfl,rfl,rfl,hP,H,λho=> ?_,λho=> ?_⟩
 ·obtain⟨e1,e2⟩:=zno (f:=Cu.ms (dpN (d+1))) (m:=m.cn) hs hg hu ho
  have R:=Rc.rfl.rm (c:=c) (m.nO:Int)
  refine⟨(c,m.nO),rfl,rfl,rfl,rfl,rfl,rfl,hP,H,(c.rm m.nO,m),rfl,rfl,rfl,rfl,rfl,rfl,rfl,rfl,rfl,rfl,rfl,rfl,rfl,rfl,⟨R.P hP,⟨wF,wF2⟩,⟨wO,wO2⟩,⟨wM,wM2⟩,wE,wE2⟩,λq hq=>R.ok hP hq.2,?_⟩
  rintro⟨vF,vO⟩ ⟨l1,l2,l3⟩
  exact⟨(vF,vO,m.vM,m.vE),q1 (e1),q2 (e1),q3 (e1),q4 (e1),q5 (e1),rfl,rfl,rfl,rfl,rfl,congrArg Cn.nF e2,congrArg Cn.nO e2,congrArg Cn.nM e2,congrArg Cn.nE e2,by rw[e2];exact⟨l1,l2,wM,wE⟩,trivial⟩
 have ho:c.is 1 onW=false:=ho
 refine⟨(c,1,mkS [114,101,115,101,114,118,101,100]),rfl,rfl,rfl,rfl,rfl,rfl,rfl,hP,H,λhr=> ?_,λ_=>⟨Cu.len hP g,(Cu.cells hP g).1,(c.hd.1:Nat),λq hq=>Cu.cell hP hq.2 0 rfl,λh1=> ?_,λh1=> ?_⟩⟩
 ·have hr:c.is 1 (mkS [114,101,115,101,114,118,101,100])=true:=hr
  rw[z58 hP (by simp[z1m])]at hr
  cases hr
 ·have h1:c.hd.1=1:=by have:=of_decide_eq_true h1;omega
  obtain⟨e1,e2⟩:=znl (f:=Cu.ms (dpN (d+1))) (m:=m.cn) hs hg hu ho h1
  have R:=Rc.rfl.rm (c:=c) (m.nF:Int)
  exact⟨(c,m.nF),rfl,rfl,rfl,rfl,rfl,rfl,hP,H,c.rm m.nF,rfl,rfl,rfl,rfl,rfl,R.P hP,λq hq=>R.ok hP hq.2,wF,by show(m.nF+1)*80<=_;omega,rfl,⟨(_,m.vO,m.vM,m.vE),q1 (e1),q2 (e1),q3 (e1),q4 (e1),q5 (e1),rfl,rfl,rfl,rfl,rfl,congrArg Cn.nF e2,congrArg Cn.nO e2,congrArg Cn.nM e2,congrArg Cn.nE e2,by rw[e2];exact⟨by rw[List.length_append,wF];show m.nF*7+7=(m.nF+1)*7;omega,wO,wM,wE⟩,trivial⟩⟩
 ·have h1:¬c.hd.1=1:=by have:=of_decide_eq_false h1;omega
  obtain⟨e1,e2⟩:=znn (f:=Cu.ms (dpN (d+1))) (m:=m.cn) hs hg hu ho h1
  exact⟨(c,2),rfl,rfl,rfl,rfl,rfl,rfl,hP,H,⟨(m.vF,m.vO,m.vM,m.vE),q1 (e1),q2 (e1),q3 (e1),q4 (e1),q5 (e1),rfl,rfl,rfl,rfl,rfl,congrArg Cn.nF e2,congrArg Cn.nO e2,congrArg Cn.nM e2,congrArg Cn.nE e2,by rw[e2];exact⟨wF,wO,wM,wE⟩,trivial⟩⟩
end
def Rc.m0{c d:Cu} (r:Rc c d) (n:Int):Rc c (d.m0 n):=by unfold Cu.m0;split<;>first|exact r.fa _|exact r
def Rc.ms0{c d:Cu} (r:Rc c d):Rc c d.ms0:=r.nx.pl.nd _ _
def zfc(k:Nat) (hm:q39 P 53 (z6x.below z4e (k+1))):q39 P 31 (z47.below z4f (k+1)):=by
 refine qq9 mixed (qhc (qmo z18 (qmo z0e (qmo z0g (qmo z0f (qmo z04 qqu)))))) (qig (qmn hm qqt)) (W:=zk9) Go.Proofs.Tryd.func31 (by kernel_rfl) (show 1<=2 by decide) (show 2<=2 by decide) (λs=>by kernel_rfl) λ⟨c,(d:Int)⟩=>(zfb k c d).mpr ?_
 rintro⟨hmu,hP,hd1,hd2⟩ ⟨p,_,g⟩
 have hmu:(21- d).toNat<k+1:=hmu
 have H:∀q,True/\c.ok q->c.ok q:=λq hq=>hq.2
 refine⟨⟨λhd=> ?_,λhd=> ?_⟩,?_⟩
 ·have e:c.m0 d=c.fa 3:=if_pos (of_decide_eq_true hd)
  exact⟨(c,3),rfl,rfl,rfl,rfl,rfl,rfl,hP,H,c,rfl,q1 (e),q2 (e),q3 (e),q4 (e),q5 (e),λ_ h=>h,⟨⟨rfl,rfl,rfl⟩,Rc.rfl⟩,trivial⟩
 ·have e:c.m0 d=c:=if_neg (of_decide_eq_false hd)
  exact⟨c,rfl,q1 (e),q2 (e),q3 (e),q4 (e),q5 (e),λ_ h=>h,⟨⟨rfl,rfl,rfl⟩,Rc.rfl⟩,trivial⟩
 rintro c' ⟨hc,rc⟩
 obtain rfl:c'=c:=z4a hP g Rc.rfl rc hc.1 hc.2.1 hc.2.2
 have R0:Rc c' (c'.m0 d):=Rc.rfl.m0 d
 have mu0:(c'.m0 d).ms0.mu<=c'.T.length+1:=Nat.le_trans (z7q R0.ms0) (zj9 _)
 have mz:0+(c'.m0 d).ms0.mu<=c'.T.length+1:=by omega
 refine⟨c'.m0 d,rfl,rfl,rfl,rfl,rfl,(R0).P hP,λq hq=>(R0).ok hP (H q hq),(c'.m0 d).nx,rfl,rfl,rfl,rfl,rfl,(R0.nx).P hP,λq hq=>(R0.nx).ok hP (H q hq),((c'.m0 d).nx.pl,4,mkS [123]),rfl,rfl,rfl,rfl,rfl,rfl,rfl,(R0.nx.pl).P hP,λq hq=>(R0.nx.pl).ok hP (H q hq),⟨(⟨(c'.m0 d).ms0,⟨0,0,0,0⟩⟩,[],[],[],[]),rfl,rfl,rfl,rfl,rfl,rfl,rfl,rfl,rfl,rfl,rfl,λ_ h=>h,⟨Rc.rfl.ms0,⟨⟨rfl,rfl,rfl,rfl⟩,mz,mz,mz,mz⟩,rfl⟩,trivial⟩,?_⟩
 rintro⟨⟨c1,n⟩,vF,vO,vM,vE⟩ ⟨(r0:Rc (c'.m0 d) c1),⟨⟨(lF:vF.length=n.nF*7),(lO:vO.length=n.nO*1),(lM:vM.length=n.nM*7),(lE:vE.length=n.nE*2)⟩,(kF:n.nF+c1.mu<=c'.T.length+1),(kO:n.nO+c1.mu<=c'.T.length+1),(kM:n.nM+c1.mu<=c'.T.length+1),(kE:n.nE+c1.mu<=c'.T.length+1)⟩,(hL:msL (Cu.ms (dpN (d+1))) ⟨c1,n⟩=msL (Cu.ms (dpN (d+1))) ⟨(c'.m0 d).ms0,⟨0,0,0,0⟩⟩)⟩
 have r:Rc c' c1:=R0.trans r0
 have P1:=r.P hP
 have g1:=r.ok hP g
 have tl:c'.T.length<=100000:=hP.1.1
 have fin:∀(z:Cu),z9t ⟨c1,n⟩=false->c1.tk 4 cbW=z->c'.ms (dpN d)=z/\c'.msN (dpN d)=n:=λz hg hz=>by
  rw[zd5 hg]at hL
  by_cases h20:20<d
  ·have e0:c'.m0 d=c'.fa 3:=if_pos h20
   have ed:dpN d=0:=by unfold dpN;omega
   have hne:((c'.m0 d).ms0).e≠0:=λh=>by
    have:=(Rc.rfl (c:=c'.m0 d)).ms0.mono.2 h
    rw[e0]at this
    exact Cu.fa_no (by decide) this
   have hgo:z9t ⟨(c'.m0 d).ms0,⟨0,0,0,0⟩⟩=false:=by
    show(decide (((c'.m0 d).ms0).e=0)&&_)=false
    rw[decide_eq_false hne];rfl
   rw[zd5 hgo]at hL
   have h1:c1=(c'.m0 d).ms0:=congrArg MS.c hL
   have h2:n=⟨0,0,0,0⟩:=congrArg MS.m hL
   rw[ed,←hz,h2,h1,z0i (zad hne _ _),e0]
   exact⟨rfl,rfl⟩
  ·have e0:c'.m0 d=c':=if_neg h20
   have ed:dpN d=dpN (d+1)+1:=by unfold dpN;omega
   rw[e0]at hL
   rw[ed]
   refine⟨?_,?_⟩
   ·show(msL (Cu.ms (dpN (d+1))) ⟨c'.ms0,⟨0,0,0,0⟩⟩).c.tk 4 cbW=z
    rw[←hL];exact hz
   ·show(msL (Cu.ms (dpN (d+1))) ⟨c'.ms0,⟨0,0,0,0⟩⟩).m=n
    rw[←hL]
 refine⟨λhe=> ?_,λhe=> ?_⟩
 ·have he:=of_decide_eq_true he
  refine⟨(c1,4,mkS [125]),rfl,rfl,rfl,rfl,rfl,rfl,rfl,(r).P hP,λq hq=>(r).ok hP (H q hq),λhb=> ?_,λhb=> ?_⟩
  ·have hb2:(!c1.is 4 cbW)=true:=hb
   have hb:c1.is 4 cbW=false:=by revert hb2;cases c1.is 4 cbW<;>simp
   have hg:z9t ⟨c1,n⟩=true:=by
    show(decide (c1.e=0)&& !c1.is 4 cbW)=true
    rw[hb,decide_eq_true he];rfl
   have h20:d<=20:=by
    rcases Int.lt_or_le 20 d with h|h
    ·exfalso
     have e0:c'.m0 d=c'.fa 3:=if_pos h
     have:=r0.mono.2 he
     rw[e0]at this
     exact Cu.fa_no (by decide) this
    ·exact h
   have st:=zj8 (d:=dpN (d+1)) (s:=⟨c1,n⟩) P1 hg
   have mu:=(zd6 (dpN (d+1)) ⟨c1,n⟩ P1 hg).2
   have cnt:=zj6 P1 he (dpN (d+1)) n (c'.T.length+1) kF kO kM kE
   refine⟨(c1,d,⟨c'.msT d,n.nF,n.nO,n.nM,n.nE,vF,vO,vM,vE⟩),rfl,q1 ((z0i hb).symm),q2 ((z0i hb).symm),q3 ((z0i hb).symm),q4 ((z0i hb).symm),q5 ((z0i hb).symm),rfl,rfl,rfl,rfl,rfl,rfl,rfl,rfl,rfl,⟨hmu,P1,⟨⟨lF,?_⟩,⟨lO,?_⟩,⟨lM,?_⟩,lE,?_⟩,hd1,h20⟩,λq hq=>r.ok hP hq.2,?_⟩
   ·show n.nF<=200000;omega
   ·show n.nO<=200000;omega
   ·show n.nM<=200000;omega
   ·show n.nE<=200000;omega
   rintro⟨wF,wO,wM,wE⟩ hb
   exact⟨(zj7 (Cu.ms (dpN (d+1))) ⟨c1,n⟩,wF,wO,wM,wE),rfl,rfl,rfl,rfl,rfl,rfl,rfl,rfl,rfl,rfl,rfl,rfl,rfl,rfl,rfl,λ_ h=>h,⟨r0.trans (Rc.mb (Rc.ms _) c1 n),⟨hb,cnt⟩,st.symm.trans hL⟩,mu,trivial⟩
  ·have hb2:(!c1.is 4 cbW)=false:=hb
   have hb:c1.is 4 cbW=true:=by revert hb2;cases c1.is 4 cbW<;>simp
   have hg:z9t ⟨c1,n⟩=false:=by
    show(decide (c1.e=0)&& !c1.is 4 cbW)=false
    rw[hb,Bool.not_true,Bool.and_false]
   obtain⟨f1,f2⟩:=fin _ hg rfl
   rintro b s2 u a nn c2- b s3 u a2 nn c3- b s4 u a3 nn c4- b s5 u a4 nn c5 -
   exact⟨((a,n.nF,c2),(a2,n.nO,c3),(a3,n.nM,c4),a4,n.nE,c5),rfl,rfl,rfl,rfl,rfl,rfl,rfl,rfl,rfl,rfl,rfl,rfl,rfl,rfl,rfl,rfl,rfl,rfl,rfl,q1 (f1),q2 (f1),q3 (f1),q4 (f1),q5 (f1),by rw[f2];exact⟨rfl,rfl,rfl,rfl⟩,trivial⟩
 ·have he:=of_decide_eq_false he
  have hg:z9t ⟨c1,n⟩=false:=by
   show(decide (c1.e=0)&& !c1.is 4 cbW)=false
   rw[decide_eq_false he];rfl
  obtain⟨f1,f2⟩:=fin _ hg (z0i (zad he _ _))
  rintro b s2 u a nn c2- b s3 u a2 nn c3- b s4 u a3 nn c4- b s5 u a4 nn c5 -
  exact⟨((a,n.nF,c2),(a2,n.nO,c3),(a3,n.nM,c4),a4,n.nE,c5),rfl,rfl,rfl,rfl,rfl,rfl,rfl,rfl,rfl,rfl,rfl,rfl,rfl,rfl,rfl,rfl,rfl,rfl,rfl,q1 (f1),q2 (f1),q3 (f1),q4 (f1),q5 (f1),by rw[f2];exact⟨rfl,rfl,rfl,rfl⟩,trivial⟩
def z7n:∀k,q39 P 31 (z47.below z4f k)/\q39 P 53 (z6x.below z4e k)
 |0=>⟨CtR.below_zero (by decide) (by decide) (Sen.enters_of Go.Proofs.Tryd.func31 (by kernel_rfl)) λs=>rfl,CtR.below_zero (by decide) (by decide) (Sen.enters_of Go.Proofs.Tryd.func53 (by kernel_rfl)) λs=>rfl⟩
 |k+1=>⟨zfc k (z7m k (z7n k).1),z7m k (z7n k).1⟩
def zfd:q39 P 31 z47:=CtR.of_below λk=>(z7n k).1
def paW:ByteArray:=mkS [112,97,99,107,97,103,101]
def imW:ByteArray:=mkS [105,109,112,111,114,116]
structure PFl where
 im:List ByteArray
 ms:List (ByteArray×Nat)
 en:List (ByteArray×Nat)
structure FD where
 im:List ByteArray
 ms:List (ByteArray×MsB)
 en:List (ByteArray×SV)
def FD.pf(d:FD):PFl:=⟨d.im,d.ms.map (λx=>(x.1,x.2.1.2.1)),d.en.map (λx=>(x.1,x.2.2.1))⟩
structure PtS where
 c:Cu
 f:PFl
def Cu.im(c:Cu) (n:Nat):Cu:=(((c.rm n).nx).an 3).nd 4 smW
def Cu.imT(c:Cu) (n:Nat):ByteArray:=(((c.rm n).nx).anT 3).2.1
def Cu.pt(c:Cu) (f:PFl):Cu:=
 if c.is 4 smW then c.nx else
 if c.is 1 imW then c.im f.im.length else
 if c.is 1 mgW then(c.rm f.ms.length).ms 20 else
 if c.is 1 euW then(c.rm f.en.length).en else c.fa 2
def Cu.ptF(c:Cu) (f:PFl):PFl:=
 if c.is 4 smW then f else
 if c.is 1 imW then⟨f.im++[c.imT f.im.length],f.ms,f.en⟩else
 if c.is 1 mgW then⟨f.im,f.ms++[((c.rm f.ms.length).msT 1,((c.rm f.ms.length).msN 20).nF)],f.en⟩else
 if c.is 1 euW then⟨f.im,f.ms,f.en++[((c.rm f.en.length).enT,(c.rm f.en.length).enN)]⟩else f
def z5w(s:PtS):Bool:=decide (s.c.e=0)&& !decide (s.c.hd.1=5)
def zjm(s:PtS):PtS:=⟨s.c.pt s.f,s.c.ptF s.f⟩
def ptL(s:PtS):PtS:=itr z5w zjm s.c.mu s
def z4g(x:SV) (T:List Tk):PtS:=ptL ⟨(⟨x,T,0,0⟩:Cu).sy,⟨[],[],[]⟩⟩
def svV(x:SV):Value:= .slice x.1 x.2.1 x.2.2
def stV(s:ByteArray):List Value:=[.string s]
def fmV(x:ByteArray×MsB):List Value:=[.string x.1,svV x.2.1,svV x.2.2.1,svV x.2.2.2.1,svV x.2.2.2.2, .slice none 0 0, .slice none 0 0]
def peV(x:ByteArray×SV):List Value:=[.string x.1,svV x.2]
def FD.vI(d:FD):List Value:=d.im.flatMap stV
def FD.vM(d:FD):List Value:=d.ms.flatMap fmV
def FD.vE(d:FD):List Value:=d.en.flatMap peV
def ffO(b nI nM nE:Nat):AO:= .cells 27 (some 0) false [.sv (.string (mkS [])), .ssl b 0 nI 1 (b+1), .ssl (b+2) 0 nM 7 (b+3), .ssl (b+4) 0 nE 2 (b+5)]
def FD.H(d:FD) (id b:Nat):List (Nat×AO):=[(id,ffO b d.im.length d.ms.length d.en.length),rwO b d.vI,rwM (b+2) d.vM,rwE (b+4) d.vE]
def FD.wf(d:FD):Prop:=d.im.length<=200000/\d.ms.length<=200000/\d.en.length<=200000
abbrev PtA:=Cu×FD
def z6z:CtR where
 σ:=PtA
 args:=λ⟨c,d⟩=>[.ptr 1 0, .ptr 2 0]
 h:=λ⟨c,d⟩=>(1,c.O)::d.H 2 3
 m:=9
 pre:=λ⟨c,d⟩=>c.P/\d.wf
 mem:=λ⟨c,d⟩=>c.M
 β:=λ_=>FD
 post:=λ⟨c,d⟩ b=>b.pf=c.ptF d.pf
 r:=λ_ _=> .tup []
 h':=λ⟨c,d⟩ b=>(1,(c.pt d.pf).O)::b.H 2 9
 m':=15
def zdv:PtA->WayF:=λ⟨c,d⟩=>{
 spl:=λi=>match i with
  |11=>some 5
  |14=>some 6
  |_=>none
 flo:=λi=>match i with
  |11=>some (5,[7])
  |14=>some (6,[0])
  |_=>none
 flu:=λi=>match i with
  |11=>[(5,[0,1,2,3,6])]
  |14=>[(6,[1,2,3,4])]
  |_=>[]}
def rwP{α:Type} (f:α->List Value) (l:List α) (x:SV) (p:Pub):Prop:=x.2.1=l.length/\qmr p x.1 x.2.1 x.2.2 (l.flatMap f)
def z0r{α:Type} {f:α->List Value} {l:List α} {x:SV} {p q:Pub} (h:Pub.le p q) (e:rwP f l x p):rwP f l x q:=⟨e.1,q6p h e.2⟩
structure PB where
 d:FD
 x1:SV
 x2:SV
 x3:SV
 e:Int
 a:Int
def PB.ok(b:PB) (p:Pub):Prop:=rwP stV b.d.im b.x1 p/\rwP fmV b.d.ms b.x2 p/\rwP peV b.d.en b.x3 p
def tP(T:List Tk):Prop:=(T.length<=100000/\∀t∈T,t.2.1∉z1m)/\∃l a,T=l++[(5,mkS [],0,a)]
abbrev PsS:=ByteArray×List Tk
def z28(T:List Tk) (b:PB):Prop:=∃x,(z4g x T).c.e=b.e/\(b.e=0->b.d.pf=(z4g x T).f)
def z6y:CtR where
 σ:=PsS
 args:=λ⟨s,T⟩=>[.sv (.string s)]
 h:=λ_=>[]
 m:=1
 pre:=λ⟨s,T⟩=>s.size<100000/\lxR s=(T,0,0)/\tP T
 mem:=λ_=>hG
 β:=λ_=>PB
 post:=λ⟨s,T⟩ b=>z28 T b
 pm:=λ_ b=>⟨true,b.ok,λ_ _ h e=>⟨z0r h e.1,z0r h e.2.1,z0r h e.2.2⟩⟩
 r:=λ_ b=> .tup [.agg [.sv (.string (mkS [])),svA b.x1,svA b.x2,svA b.x3], .sv (.int .i64 b.e), .sv (.int .i64 b.a)]
 h':=λ_ _=>[]
 m':=1
def slX(t:T AV) (k:Nat):Option SV:=match t.get k with
 |some (.sv (.slice a n c))=>some (a,n,c)
 |_=>none
def zdu:PsS->WayF:=λ⟨s,T⟩=>{
  ann :=λi tt hh=>match idP tt 2 with
    | some f=>match idP tt 6 with
      | some c=>match slX tt 5 with
        |some x=>some {σ:=Cu×FD,pre:=λ⟨z,d⟩=>Rc ⟨x,T,0,0⟩ z/\(d.im.length+z.mu<=T.length+1/\d.ms.length+z.mu<=T.length+1/\d.en.length+z.mu<=T.length+1)/\ptL ⟨z,d.pf⟩=z4g x T,t:=λ_=>[],h:=λ⟨z,d⟩=>(c,z.O)::d.H f 100,more:=150,μ:=λ⟨z,d⟩=>z.mu,keep:=[0,2,3,4,5,6]}
        |none=>none
      |none=>none
    |none=>none
  pubE:=[1000002]}
section
variable (x0:FD) (x1:MsS) (x2:MsB) (x3 x4:Cu) (x5:Option Addr×Nat×Nat) (x6:CuE) (x7:CuT) (x8:Prop) (x9:CuT) (x10:FD) (x11:Int) (x12:CuN)
 def z4w:=(↑x7.2.1:Int)=x11
 abbrev z1h:=(Cu.x x7.1).2
 def z9h:=Cu.P x7.1/\(∀i0,True/\Cu.ok x3 i0->Cu.ok x7.1 i0)/\x8
 abbrev z9j:=Cu.tk x7.1 x7.2.1 x7.2.2
 abbrev z2g:=(Cu.x (Cu.pt x3 (FD.pf x0))).2
 def zgw:=mkS []=mkS []/\length (FD.im x0)=length (FD.im x10)/\length (FD.ms x0)=length (FD.ms x10)/\x8
 def zc7:=length (FD.en x0)=length (FD.en x10)/\FD.pf x0=Cu.ptF x3 (FD.pf x10)/\True
 def zgu:=FD.vM x0=FD.vM x10/\FD.vI x0=FD.vI x10/\FD.vE x0=FD.vE x10/\zgw x0 (zc7 x0 x3 x10) x10
 def zn0:=(Cu.x x7.1).1=(Cu.x x9.1).1/\(z1h x7).1=(z1h x9).1/\(z1h x7).2=(z1h x9).2/\Cu.e x7.1=Cu.e x9.1/\Cu.a x7.1=Cu.a x9.1/\z9h x3 x7 x8
 def zl5:=(Cu.x x6.1).1=(Cu.x x7.1).1/\(Cu.x x6.1).2.1=(z1h x7).1/\(Cu.x x6.1).2.2=(z1h x7).2/\Cu.e x6.1=Cu.e x7.1/\Cu.a x6.1=Cu.a x7.1/\Cu.P x6.1/\(∀i0,True/\Cu.ok x3 i0->Cu.ok x6.1 i0)/\x8
 abbrev z2f:=Cu.rm x6.1 x6.2
 def zor:=(Cu.x x3).1=(Cu.x (z2f x6)).1/\(Cu.x x3).2.1=(Cu.x (z2f x6)).2.1/\(Cu.x x3).2.2=(Cu.x (z2f x6)).2.2/\Cu.e x3=Cu.e (z2f x6)/\Cu.a x3=Cu.a (z2f x6)/\x8
 abbrev z6g:=Cu.an x12.1 x12.2
 abbrev z6f:=Cu.nd x7.1 x7.2.1 x7.2.2
 abbrev z3z:=(↑(length (FD.ms x0)):Int)
 abbrev z3h:=x2.2.1.2
 abbrev z1f:=x2.2.2.1
 abbrev z1g:=x2.2.2.2
 abbrev zl6:=FD.vM x0++[string (mkS []),slice noA 0 0,slice noA 0 0,slice noA 0 0,slice noA 0 0,slice noA 0 0,slice noA 0 0]
 def zoq:=(0:Nat)+toNat (z3z x0)*7+length [string (Cu.msT x1.1 x1.2),slice x2.1.1 x2.1.2.1 x2.1.2.2,slice x2.2.1.1 (z3h x2).1 (z3h x2).2,slice (z1f x2).1 (z1f x2).2.1 (z1f x2).2.2,slice (z1g x2).1 (z1g x2).2.1 (z1g x2).2.2,slice noA 0 0,slice noA 0 0]<=length (zl6 x0)
 abbrev z4x:=(Cu.x (Cu.ms (dpN x1.2) x1.1)).2
 def zrs:=length (FD.vM x0)=length (FD.ms x0)*7/\(length (FD.ms x0)+nat_lit 1)*160<=140737488355328/\(0<=(z3z x0)/\(z3z x0)<(↑(length (FD.ms x0)+nat_lit 1):Int))/\zoq x0 x1 x2/\zoq x0 x1 x2/\slice (Cu.x (Cu.ms (dpN x1.2) x1.1)).1 (z4x x1).1 (z4x x1).2=slice (Cu.x (Cu.ms (dpN x1.2) x1.1)).1 (z4x x1).1 (z4x x1).2/\int i64 (Cu.e (Cu.ms (dpN x1.2) x1.1))=int i64 (Cu.e (Cu.ms (dpN x1.2) x1.1))/\int i64 (Cu.a (Cu.ms (dpN x1.2) x1.1))=int i64 (Cu.a (Cu.ms (dpN x1.2) x1.1))/\FD.vI x0=FD.vI x0/\FD.vE x0=FD.vE x0/\string (mkS [])=string (mkS [])/\length (FD.im x0)=length (FD.im x0)/\length (FD.ms x0)+nat_lit 1=length (FD.ms x0)+nat_lit 1/\length (FD.en x0)=length (FD.en x0)/\spl (zl6 x0) ((0:Nat)+toNat (z3z x0)*7) [string (Cu.msT x1.1 x1.2),slice x2.1.1 x2.1.2.1 x2.1.2.2,slice x2.2.1.1 (z3h x2).1 (z3h x2).2,slice (z1f x2).1 (z1f x2).2.1 (z1f x2).2.2,slice (z1g x2).1 (z1g x2).2.1 (z1g x2).2.2,slice noA 0 0,slice noA 0 0]=spl (zl6 x0) ((0:Nat)+toNat (z3z x0)*7) [string (Cu.msT x1.1 x1.2),slice x2.1.1 x2.1.2.1 x2.1.2.2,slice x2.2.1.1 (z3h x2).1 (z3h x2).2,slice (z1f x2).1 (z1f x2).2.1 (z1f x2).2.2,slice (z1g x2).1 (z1g x2).2.1 (z1g x2).2.2,slice noA 0 0,slice noA 0 0]/\∃(i0:FD),(Cu.x (Cu.pt x3 (FD.pf x0))).1=(Cu.x (Cu.ms (dpN x1.2) x1.1)).1/\(z2g x0 x3).1=(z4x x1).1/\(z2g x0 x3).2=(z4x x1).2/\Cu.e (Cu.pt x3 (FD.pf x0))=Cu.e (Cu.ms (dpN x1.2) x1.1)/\Cu.a (Cu.pt x3 (FD.pf x0))=Cu.a (Cu.ms (dpN x1.2) x1.1)/\FD.vM i0=spl (zl6 x0) ((0:Nat)+toNat (z3z x0)*7) [string (Cu.msT x1.1 x1.2),slice x2.1.1 x2.1.2.1 x2.1.2.2,slice x2.2.1.1 (z3h x2).1 (z3h x2).2,slice (z1f x2).1 (z1f x2).2.1 (z1f x2).2.2,slice (z1g x2).1 (z1g x2).2.1 (z1g x2).2.2,slice noA 0 0,slice noA 0 0]/\FD.vI i0=FD.vI x0/\FD.vE i0=FD.vE x0/\mkS []=mkS []/\length (FD.im i0)=length (FD.im x0)/\length (FD.ms i0)=length (FD.ms x0)+nat_lit 1/\zc7 i0 x3 x0
 def zgv:=∃(i0:MsS),i0.2=1/\(Cu.x i0.1).1=(Cu.x (z2f x6)).1/\(Cu.x i0.1).2.1=(Cu.x (z2f x6)).2.1/\(Cu.x i0.1).2.2=(Cu.x (z2f x6)).2.2/\Cu.e i0.1=Cu.e (z2f x6)/\Cu.a i0.1=Cu.a (z2f x6)/\(Cu.P i0.1/\1<=i0.2/\i0.2<=21)/\(∀i1,True/\Cu.ok x3 i1->Cu.ok i0.1 i1)/\∀(i2:MsB),lnS (Cu.msN (dpN i0.2) i0.1) i2->zrs x0 i0 i2 x3
 def zgx:=(zgv x0 x3 x6)/\(zgv x0 x3 x6)/\(zgv x0 x3 x6)/\(zgv x0 x3 x6)/\(zgv x0 x3 x6)/\zgv x0 x3 x6
 def zrt:=length (FD.vE x0)=length (FD.en x0)*2/\(length (FD.en x0)+nat_lit 1)*40<=140737488355328/\∃(i0:FD),(Cu.x (Cu.pt x3 (FD.pf x0))).1=(Cu.x (Cu.en x4)).1/\(z2g x0 x3).1=(Cu.x (Cu.en x4)).2.1/\(z2g x0 x3).2=(Cu.x (Cu.en x4)).2.2/\Cu.e (Cu.pt x3 (FD.pf x0))=Cu.e (Cu.en x4)/\Cu.a (Cu.pt x3 (FD.pf x0))=Cu.a (Cu.en x4)/\FD.vM i0=FD.vM x0/\FD.vI i0=FD.vI x0/\FD.vE i0=FD.vE x0++[string (Cu.enT x4),slice x5.1 x5.2.1 x5.2.2]/\zgw i0 (length (FD.en i0)=length (FD.en x0)+nat_lit 1/\FD.pf i0=Cu.ptF x3 (FD.pf x0)/\True) x0
 def z9i:=∃(i0:Cu),zor i0 x6 ((Cu.P i0/\True)/\(∀i1,True/\Cu.ok x3 i1->Cu.ok i0 i1)/\∀(i2:Option Addr×Nat×Nat),i2.2.1=Cu.enN i0->zrt x0 x3 i0 i2)
 abbrev z6h:=Cu.fa x6.1 x6.2
end
def z85(c:Cu) (d:FD):qr9 P (qkw [(25,z1k),(26,zid),(29,z15),(28,z2n),(30,z44),(24,z14),(33,z0m)]) (qm6 [(31,z47),(32,z52)]) Go.Proofs.Tryd.f17 z6z (zdv) (c,d)=(Cu.P c/\FD.wf d->(∃(p:Pub),True/\Cu.ok c p)->∃(s:CuT),z4w s 4/\s.2.2=mkS [59]/\(Cu.x s.1).1=(Cu.x c).1/\(z1h s).1=(Cu.x c).2.1/\(z1h s).2=(Cu.x c).2.2/\Cu.e s.1=Cu.e c/\Cu.a s.1=Cu.a c/\z9h c s ((Cu.is s.1 s.2.1 s.2.2=true->∃(b:FD),(Cu.x (Cu.pt c (FD.pf d))).1=(Cu.x (z9j s)).1/\(z2g d c).1=(Cu.x (z9j s)).2.1/\(z2g d c).2=(Cu.x (z9j s)).2.2/\Cu.e (Cu.pt c (FD.pf d))=Cu.e (z9j s)/\Cu.a (Cu.pt c (FD.pf d))=Cu.a (z9j s)/\zgu b c d)/\(Cu.is s.1 s.2.1 s.2.2=false->∃(s_1:CuT),z4w s_1 1/\s_1.2.2=mkS [112,97,99,107,97,103,101]/\(Cu.x s_1.1).1=(Cu.x (z9j s)).1/\(z1h s_1).1=(Cu.x (z9j s)).2.1/\(z1h s_1).2=(Cu.x (z9j s)).2.2/\Cu.e s_1.1=Cu.e (z9j s)/\Cu.a s_1.1=Cu.a (z9j s)/\z9h c s_1 ((Cu.is s_1.1 s_1.2.1 s_1.2.2=true->False)/\(Cu.is s_1.1 s_1.2.1 s_1.2.2=false->∃(s:CuT),z4w s 1/\s.2.2=mkS [105,109,112,111,114,116]/\zn0 c s ((Cu.is s.1 s.2.1 s.2.2=true->∃(s_2:CuE),s_2.2=(↑(length (FD.im d)):Int)/\zl5 c s_2 s (∃(s:Cu),zor s s_2 (Cu.P s/\(∀(p:Pub),True/\Cu.ok c p->Cu.ok s p)/\∃(s_3:CuN),(↑s_3.2:Int)=3/\(Cu.x s_3.1).1=(Cu.x (Cu.nx s)).1/\(Cu.x s_3.1).2.1=(Cu.x (Cu.nx s)).2.1/\(Cu.x s_3.1).2.2=(Cu.x (Cu.nx s)).2.2/\Cu.e s_3.1=Cu.e (Cu.nx s)/\Cu.a s_3.1=Cu.a (Cu.nx s)/\Cu.P s_3.1/\(∀(p:Pub),True/\Cu.ok c p->Cu.ok s_3.1 p)/\length (FD.vI d)=length (FD.im d)*1/\(length (FD.im d)+nat_lit 1)*16<=140737488355328/\AV.ssl (nat_lit 3) (nat_lit 0) (length (FD.im d)) (nat_lit 1) (nat_lit 4)=AV.ssl (nat_lit 3) (nat_lit 0) (length (FD.im d)) (nat_lit 1) (nat_lit 4)/\∃(s:CuT),z4w s 4/\s.2.2=mkS [59]/\(Cu.x s.1).1=(Cu.x (z6g s_3)).1/\(z1h s).1=(Cu.x (z6g s_3)).2.1/\(z1h s).2=(Cu.x (z6g s_3)).2.2/\Cu.e s.1=Cu.e (z6g s_3)/\Cu.a s.1=Cu.a (z6g s_3)/\z9h c s (∃(b:FD),(Cu.x (Cu.pt c (FD.pf d))).1=(Cu.x (z6f s)).1/\(z2g d c).1=(Cu.x (z6f s)).2.1/\(z2g d c).2=(Cu.x (z6f s)).2.2/\Cu.e (Cu.pt c (FD.pf d))=Cu.e (z6f s)/\Cu.a (Cu.pt c (FD.pf d))=Cu.a (z6f s)/\FD.vM b=FD.vM d/\FD.vI b=FD.vI d++[string (Cu.anT s_3.1 s_3.2).2.1]/\FD.vE b=FD.vE d/\mkS []=mkS []/\length (FD.im b)=length (FD.im d)+nat_lit 1/\length (FD.ms b)=length (FD.ms d)/\zc7 b c d))))/\(Cu.is s.1 s.2.1 s.2.2=false->∃(s_2:CuT),z4w s_2 1/\s_2.2.2=mkS [109,101,115,115,97,103,101]/\zn0 c s_2 ((Cu.is s_2.1 s_2.2.1 s_2.2.2=true->∃(s:CuE),s.2=(z3z d)/\zl5 c s s_2 ((zgx d c s)/\zgx d c s))/\(Cu.is s_2.1 s_2.2.1 s_2.2.2=false->∃(s:CuT),z4w s 1/\s.2.2=mkS [101,110,117,109]/\zn0 c s ((Cu.is s.1 s.2.1 s.2.2=true->∃(s_3:CuE),s_3.2=(↑(length (FD.en d)):Int)/\zl5 c s_3 s (((z9i d c s_3)/\(z9i d c s_3)/\(z9i d c s_3)/\(z9i d c s_3)/\z9i d c s_3)/\(z9i d c s_3)/\(z9i d c s_3)/\(z9i d c s_3)/\(z9i d c s_3)/\z9i d c s_3))/\(Cu.is s.1 s.2.1 s.2.2=false->∃(s_3:CuE),s_3.2=2/\zl5 c s_3 s (∃(b:FD),(Cu.x (Cu.pt c (FD.pf d))).1=(Cu.x (z6h s_3)).1/\(z2g d c).1=(Cu.x (z6h s_3)).2.1/\(z2g d c).2=(Cu.x (z6h s_3)).2.2/\Cu.e (Cu.pt c (FD.pf d))=Cu.e (z6h s_3)/\Cu.a (Cu.pt c (FD.pf d))=Cu.a (z6h s_3)/\zgu b c d))) s_2)) s)) s_1))))):=by kernel_rfl
def zap:=λc d=>Eq.trans (z85 c d) (by delta z4w z1h z9h z9j z2g zgw zc7 zgu zn0 zl5 z2f zor z6g z6f z3z z3h z1f z1g zl6 zoq z4x zrs zgv zgx zrt z9i z6h;exact rfl)
section
variable (x0:ByteArray) (x1:List Tk) (x2:Nat) (x3:Option Addr) (x4:Nat) (x5:Cu×FD) (x6:Nat->Option Obj) (x7:PB) (x8:Prop) (x9:Nat) (x10:Option Addr) (x11:Nat) (x12:Option Addr)
 abbrev zl7:=∃(i0:Int),q88 x6 (Addr.mk 1 0 none)=some (int i64 i0)
 def z6j:=(True/\zl7 x6)/\x2=length (lxR x0).1/\qmr x6 x3 x2 x4 (z2s (lxR x0).1)
 abbrev z6i:=(↑(lxR x0).2.1:Int)
 def zot:=mkS []=mkS []/\(PB.x1 x7).1=noA/\(PB.x1 x7).2.1=0/\(PB.x1 x7).2.2=0/\(PB.x2 x7).1=noA/\(PB.x2 x7).2.1=0/\(PB.x2 x7).2.2=0/\(PB.x3 x7).1=noA/\(PB.x3 x7).2.1=0/\(PB.x3 x7).2.2=0/\x8
 def zgy:=x0=x0/\(z6i x0)=(z6i x0)/\x3=x3/\x2=x2/\x4=x4/\(↑(lxR x0).2.2:Int)=(↑(lxR x0).2.2:Int)/\mkS []=mkS []/\x8
 def zn1:=Rc (Cu.mk (x3,x2,x4) x1 0 0) x5.1/\(length (FD.im x5.2)+Cu.mu x5.1<=length x1+1/\length (FD.ms x5.2)+Cu.mu x5.1<=length x1+1/\length (FD.en x5.2)+Cu.mu x5.1<=length x1+1)/\ptL (PtS.mk x5.1 (FD.pf x5.2))=z4g (x3,x2,x4) x1
 def zn2:=((z6j x0 x2 x3 x4 x6)/\length (FD.im x5.2)<=x9/\qoq x6 x10 (take (length (FD.im x5.2)*nat_lit 1) (FD.vI x5.2)))/\length (FD.ms x5.2)<=x11/\qoq x6 x12 (take (length (FD.ms x5.2)*nat_lit 7) (FD.vM x5.2))
 def zos:=((!decide (Cu.e x5.1=0))=true->∃(i0:PB),zot i0 (PB.e i0=Cu.e x5.1/\PB.a i0=Cu.a x5.1/\z28 x1 i0/\(∀i1,z6j x0 x2 x3 x4 i1->PB.ok i0 i1)/\True))/\((!decide (Cu.e x5.1=0))=false->∀(i3 i4 i5:Nat) (i6:Option Addr) (i7 i8:Nat),(∃i9,(z6j x0 x2 x3 x4 i9)/\length (FD.im x5.2)<=i8/\qoq i9 i6 (take (length (FD.im x5.2)*nat_lit 1) (FD.vI x5.2)))->∀(i11 i12 i13:Nat) (i14:Option Addr) (i15 i16:Nat),(∃i17,zn2 x0 x2 x3 x4 x5 i17 i8 i6 i16 i14)->∀(i19 i20 i21:Nat) (i22:Option Addr) (i23 i24:Nat),(∃i25,(zn2 x0 x2 x3 x4 x5 i25 i8 i6 i16 i14)/\length (FD.en x5.2)<=i24/\qoq i25 i22 (take (length (FD.en x5.2)*nat_lit 2) (FD.vE x5.2)))->∃(i27:PB),mkS []=mkS []/\(PB.x1 i27).1=i6/\(PB.x1 i27).2.1=length (FD.im x5.2)/\(PB.x1 i27).2.2=i8/\(PB.x2 i27).1=i14/\(PB.x2 i27).2.1=length (FD.ms x5.2)/\(PB.x2 i27).2.2=i16/\(PB.x3 i27).1=i22/\(PB.x3 i27).2.1=length (FD.en x5.2)/\(PB.x3 i27).2.2=i24/\PB.e i27=0/\PB.a i27=0/\z28 x1 i27/\(∀i28,(zn2 x0 x2 x3 x4 x5 i28 i8 i6 i16 i14)/\length (FD.en x5.2)<=i24/\qoq i28 i22 (take (length (FD.en x5.2)*nat_lit 2) (FD.vE x5.2))->PB.ok i27 i28)/\True)
 def zrx:=((0:Int)<=0/\0<(↑(Cu.x x5.1).2.1:Int))/\(Cu.x x5.1).1≠noA/\∃(i0:Int),(∀i1,z6j x0 x2 x3 x4 i1->q4o i1 (Addr.add (adr (Cu.x x5.1).1 ((0:Nat)*4)) 0) [int i64 i0])/\((!decide (i0=5))=true->∃(i3:PtA),(Cu.x i3.1).1=(Cu.x x5.1).1/\(Cu.x i3.1).2.1=(Cu.x x5.1).2.1/\(Cu.x i3.1).2.2=(Cu.x x5.1).2.2/\Cu.e i3.1=Cu.e x5.1/\Cu.a i3.1=Cu.a x5.1/\FD.vI i3.2=FD.vI x5.2/\FD.vE i3.2=FD.vE x5.2/\FD.vM i3.2=FD.vM x5.2/\mkS []=mkS []/\length (FD.im i3.2)=length (FD.im x5.2)/\length (FD.ms i3.2)=length (FD.ms x5.2)/\length (FD.en i3.2)=length (FD.en x5.2)/\(Cu.P i3.1/\FD.wf i3.2)/\(∀i4,z6j x0 x2 x3 x4 i4->Cu.ok i3.1 i4)/\∀(i6:FD),FD.pf i6=Cu.ptF i3.1 (FD.pf i3.2)->∃(i7:Cu×FD),zgy x0 x2 x3 x4 (length (FD.im i7.2)=length (FD.im i6)/\length (FD.ms i7.2)=length (FD.ms i6)/\length (FD.en i7.2)=length (FD.en i6)/\(Cu.x i7.1).1=(Cu.x (Cu.pt i3.1 (FD.pf i3.2))).1/\(Cu.x i7.1).2.1=(Cu.x (Cu.pt i3.1 (FD.pf i3.2))).2.1/\(Cu.x i7.1).2.2=(Cu.x (Cu.pt i3.1 (FD.pf i3.2))).2.2/\Cu.e i7.1=Cu.e (Cu.pt i3.1 (FD.pf i3.2))/\Cu.a i7.1=Cu.a (Cu.pt i3.1 (FD.pf i3.2))/\FD.vE i7.2=FD.vE i6/\FD.vI i7.2=FD.vI i6/\FD.vM i7.2=FD.vM i6/\(∀i8,z6j x0 x2 x3 x4 i8->z6j x0 x2 x3 x4 i8)/\(zn1 x1 x2 x3 x4 i7)/\Cu.mu i7.1<Cu.mu x5.1/\True))/\((!decide (i0=5))=false->zos x0 x1 x2 x3 x4 x5)
 def zrw:=Ji (Cu.e x5.1=0) (zrx x0 x1 x2 x3 x4 x5) (zos x0 x1 x2 x3 x4 x5)
 def zrv:=((!decide ((z6i x0)=0))=true->∃(i0:PB),zot i0 (PB.e i0=(z6i x0)/\PB.a i0=(↑(lxR x0).2.2:Int)/\z28 x1 i0/\(∀i1,z6j x0 x2 x3 x4 i1->PB.ok i0 i1)/\True))/\((!decide ((z6i x0)=0))=false->∃(i3:Cu),(Cu.x i3).1=x3/\(Cu.x i3).2.1=x2/\(Cu.x i3).2.2=x4/\Cu.e i3=0/\Cu.a i3=0/\Cu.P i3/\(∀i4,z6j x0 x2 x3 x4 i4->Cu.ok i3 i4)/\(∃(i6:Cu×FD),zgy x0 x2 x3 x4 (length (FD.im i6.2)=0/\length (FD.ms i6.2)=0/\length (FD.en i6.2)=0/\(Cu.x i6.1).1=(Cu.x (Cu.sy i3)).1/\(Cu.x i6.1).2.1=(Cu.x (Cu.sy i3)).2.1/\(Cu.x i6.1).2.2=(Cu.x (Cu.sy i3)).2.2/\Cu.e i6.1=Cu.e (Cu.sy i3)/\Cu.a i6.1=Cu.a (Cu.sy i3)/\(∀i7,z6j x0 x2 x3 x4 i7->z6j x0 x2 x3 x4 i7)/\(zn1 x1 x2 x3 x4 i6)/\True))/\∀(i10:Cu×FD),zn1 x1 x2 x3 x4 i10->zrw x0 x1 x2 x3 x4 i10)
 def zru:=x0=x0/\size x0<100000/\(∀i0,(True/\zl7 i0)->zl7 i0)/\∀(i3:Unit),True->∀(i4:Option Addr) (i5 i6:Nat),(∃i7,z6j x0 i5 i4 i6 i7)->zrv x0 x1 i5 i4 i6
end
def z5u(s:ByteArray) (T:List Tk):qr9 P (qkw [(15,zmj),(16,z2z)]) (qm6 [(17,z6z)]) Go.Proofs.Tryd.f7 z6y (zdu) (s,T)=(size s<100000/\lxR s=(T,(0:Nat),(0:Nat))/\tP T->(∃(p:Pub),True/\zl7 p)->zru s T):=by kernel_rfl
def z83:=λs T=>Eq.trans (z5u s T) (by delta Ji Jt Jf zl7 z6j z6i zot zgy zn1 zn2 zos zrx zrw zrv zru;exact rfl)
section
variable {c:Cu} {f:PFl}
def znu(h:c.is 4 smW=true):c.pt f=c.nx/\c.ptF f=f:=⟨if_pos h,if_pos h⟩
def zjo(h:c.is 4 smW=false) (h1:c.is 1 imW=true):c.pt f=c.im f.im.length/\c.ptF f=⟨f.im++[c.imT f.im.length],f.ms,f.en⟩:=
 ⟨(if_neg (nB h)).trans (if_pos h1),(if_neg (nB h)).trans (if_pos h1)⟩
def zns(h:c.is 4 smW=false) (h1:c.is 1 imW=false) (h2:c.is 1 mgW=true):c.pt f=(c.rm f.ms.length).ms 20/\c.ptF f=⟨f.im,f.ms++[((c.rm f.ms.length).msT 1,((c.rm f.ms.length).msN 20).nF)],f.en⟩:=
 ⟨(if_neg (nB h)).trans ((if_neg (nB h1)).trans (if_pos h2)),(if_neg (nB h)).trans ((if_neg (nB h1)).trans (if_pos h2))⟩
def znr(h:c.is 4 smW=false) (h1:c.is 1 imW=false) (h2:c.is 1 mgW=false) (h3:c.is 1 euW=true):c.pt f=(c.rm f.en.length).en/\c.ptF f=⟨f.im,f.ms,f.en++[((c.rm f.en.length).enT,(c.rm f.en.length).enN)]⟩:=
 ⟨(if_neg (nB h)).trans ((if_neg (nB h1)).trans ((if_neg (nB h2)).trans (if_pos h3))),(if_neg (nB h)).trans ((if_neg (nB h1)).trans ((if_neg (nB h2)).trans (if_pos h3)))⟩
def znt(h:c.is 4 smW=false) (h1:c.is 1 imW=false) (h2:c.is 1 mgW=false) (h3:c.is 1 euW=false):c.pt f=c.fa 2/\c.ptF f=f:=
 ⟨(if_neg (nB h)).trans ((if_neg (nB h1)).trans ((if_neg (nB h2)).trans (if_neg (nB h3)))),(if_neg (nB h)).trans ((if_neg (nB h1)).trans ((if_neg (nB h2)).trans (if_neg (nB h3))))⟩
def z02{α:Type} {f:α->List Value} {k:Nat} (h:∀x,(f x).length=k):∀l:List α,(l.flatMap f).length=l.length*k
 | []=>by simp
 |x::l=>by rw[List.flatMap_cons,List.length_append,h,z02 h l,List.length_cons,Nat.succ_mul];omega
def z0q{α:Type} {f:α->List Value} (l:List α) (x:α):(l++[x]).flatMap f=l.flatMap f++f x:=by
 rw[List.flatMap_append,List.flatMap_cons,List.flatMap_nil,List.append_nil]
def zfm{l z x:List Value} {k:Nat} (hk:k=l.length) (h:spl z 0 x=x):spl (l++z) k x=l++x:=by
 have:=q6r x l z 0
 rw[Nat.add_zero]at this
 rw[hk,this,h]
def Rc.im{c d:Cu} (r:Rc c d) (n:Nat):Rc c (d.im n):=(((r.rm _).nx).an 3).nd _ _
def Rc.pt(c:Cu) (f:PFl):Rc c (c.pt f):=by
 unfold Cu.pt
 split
 ·exact Rc.rfl.nx
 split
 ·exact Rc.rfl.im _
 split
 ·exact(Rc.rfl.rm _).trans (Rc.ms _ _)
 split
 ·exact(Rc.rfl.rm _).trans (Rc.en _)
 ·exact Rc.rfl.fa _
def zaq:q39 P 17 z6z:=by
 refine qq9 mixed (qhc (qmo z0g (qmo z7h (qmo z0f (qmo z1u (qmo z22 (qmo z0e (qmo z04 qqu)))))))) (qig (qmn zfd (qmn z57 qqt))) (W:=zdv) Go.Proofs.Tryd.func17 (by kernel_rfl) (show 1<=9 by decide) (show 9<=15 by decide) (λs=>by kernel_rfl) λ⟨c,d⟩=>(zap c d).mpr ?_
 rintro⟨hP,wI,wM,wE⟩ ⟨p,_,g⟩
 have H:∀q,True/\c.ok q->c.ok q:=λq hq=>hq.2
 have lI:d.vI.length=d.im.length*1:=z02 (f:=stV) (λ_=>rfl) d.im
 have lM:d.vM.length=d.ms.length*7:=z02 (f:=fmV) (λ_=>rfl) d.ms
 have lE:d.vE.length=d.en.length*2:=z02 (f:=peV) (λ_=>rfl) d.en
 have bn2:(0:Int)<=((d.ms.length:Nat):Int)/\((d.ms.length:Nat):Int)<((d.ms.length+1:Nat):Int):=⟨by omega,by omega⟩
 have pM:d.pf.ms.length=d.ms.length:=List.length_map _
 have pE:d.pf.en.length=d.en.length:=List.length_map _
 refine⟨(c,4,mkS [59]),rfl,rfl,rfl,rfl,rfl,rfl,rfl,hP,H,λhs=> ?_,λhs=> ?_⟩
 ·obtain⟨e1,e2⟩:=znu (f:=d.pf) hs
  exact⟨d,q1 (e1.trans (z08 hs).symm),q2 (e1.trans (z08 hs).symm),q3 (e1.trans (z08 hs).symm),q4 (e1.trans (z08 hs).symm),q5 (e1.trans (z08 hs).symm),rfl,rfl,rfl,rfl,rfl,rfl,rfl,e2.symm,trivial⟩
 have hs:c.is 4 smW=false:=hs
 have k1:c.tk 4 smW=c:=z0i hs
 refine⟨(c,1,mkS [112,97,99,107,97,103,101]),rfl,rfl,q1 (k1.symm),q2 (k1.symm),q3 (k1.symm),q4 (k1.symm),q5 (k1.symm),hP,H,λhr=> ?_,λ_=> ?_⟩
 ·have hr:c.is 1 paW=true:=hr
  rw[z58 hP (by simp[z1m,paW])]at hr
  cases hr
 refine⟨(c,1,mkS [105,109,112,111,114,116]),rfl,rfl,rfl,rfl,rfl,rfl,rfl,hP,H,λhi=> ?_,λhi=> ?_⟩
 ·obtain⟨e1,e2⟩:=zjo (f:=d.pf) hs hi
  have R:=Rc.rfl.rm (c:=c) (d.im.length:Int)
  exact⟨(c,d.im.length),rfl,rfl,rfl,rfl,rfl,rfl,hP,H,c.rm d.im.length,rfl,rfl,rfl,rfl,rfl,(R).P hP,λq hq=>(R).ok hP (H q hq),((c.rm d.im.length).nx,3),rfl,rfl,rfl,rfl,rfl,rfl,(R.nx).P hP,λq hq=>(R.nx).ok hP (H q hq),lI,by show(d.im.length+1)*16<=_;omega,rfl,(((c.rm d.im.length).nx).an 3,4,mkS [59]),rfl,rfl,rfl,rfl,rfl,rfl,rfl,(R.nx.an 3).P hP,λq hq=>(R.nx.an 3).ok hP (H q hq),⟨d.im++[c.imT d.im.length],d.ms,d.en⟩,q1 (e1),q2 (e1),q3 (e1),q4 (e1),q5 (e1),rfl,z0q (f:=stV) _ _,rfl,rfl,by show(d.im++[_]).length=d.im.length+1;rw[List.length_append];rfl,rfl,rfl,e2.symm,trivial⟩
 have hi:c.is 1 imW=false:=hi
 refine⟨(c,1,mkS [109,101,115,115,97,103,101]),rfl,rfl,rfl,rfl,rfl,rfl,rfl,hP,H,λhg=> ?_,λhg=> ?_⟩
 ·obtain⟨e1,e2⟩:=zns (f:=d.pf) hs hi hg
  rw[pM]at e1 e2
  have R:=Rc.rfl.rm (c:=c) (d.ms.length:Int)
  refine⟨(c,d.ms.length),rfl,rfl,rfl,rfl,rfl,rfl,hP,H,?_⟩
  refine⟨⟨?_,?_,?_,?_,?_,?_⟩,?_,?_,?_,?_,?_,?_⟩
  all_goals refine⟨(c.rm d.ms.length,1),rfl,rfl,rfl,rfl,rfl,rfl,⟨R.P hP,by show(1:Int)<=1;decide,by show(1:Int)<=21;decide⟩,λq hq=>R.ok hP hq.2,?_⟩
  all_goals rintro⟨⟨a1,a2,a3⟩,⟨b1,b2,b3⟩,⟨c1,c2,c3⟩,f1,f2,f3⟩ hb
  all_goals have hb2:a2=((c.rm d.ms.length).msN 20).nF:=hb.1
  all_goals refine⟨lM,by show(d.ms.length+1)*160<=_;omega,bn2,by rw[List.length_append,lM,Int.toNat_natCast];show 0+d.ms.length*7+7<=d.ms.length*7+7;omega,by rw[List.length_append,lM,Int.toNat_natCast];show 0+d.ms.length*7+7<=d.ms.length*7+7;omega,?_⟩
  all_goals have hk:0+((d.ms.length:Nat):Int).toNat*7=d.vM.length:=by rw[lM,Int.toNat_natCast,Nat.zero_add]
  all_goals exact⟨rfl,rfl,rfl,rfl,rfl,rfl,rfl,rfl,rfl,rfl,⟨d.im,d.ms++[((c.rm d.ms.length).msT 1,((a1,a2,a3),(b1,b2,b3),(c1,c2,c3),f1,f2,f3))],d.en⟩,q1 (e1),q2 (e1),q3 (e1),q4 (e1),q5 (e1),(z0q (f:=fmV) _ _).trans (zfm hk rfl).symm,rfl,rfl,rfl,rfl,by show(d.ms++[_]).length=d.ms.length+1;rw[List.length_append];rfl,rfl,by rw[e2,←hb2];show PFl.mk _ ((d.ms++[_]).map _) _=_;rw[List.map_append];rfl,trivial⟩
 have hg:c.is 1 mgW=false:=hg
 refine⟨(c,1,mkS [101,110,117,109]),rfl,rfl,rfl,rfl,rfl,rfl,rfl,hP,H,λhu=> ?_,λhu=> ?_⟩
 ·obtain⟨e1,e2⟩:=znr (f:=d.pf) hs hi hg hu
  rw[pE]at e1 e2
  have R:=Rc.rfl.rm (c:=c) (d.en.length:Int)
  refine⟨(c,d.en.length),rfl,rfl,rfl,rfl,rfl,rfl,hP,H,?_⟩
  refine⟨⟨?_,?_,?_,?_,?_⟩,?_,?_,?_,?_,?_⟩
  all_goals refine⟨c.rm d.en.length,rfl,rfl,rfl,rfl,rfl,⟨R.P hP,trivial⟩,λq hq=>R.ok hP hq.2,?_⟩
  all_goals rintro⟨a1,a2,a3⟩ hb
  all_goals have hb2:a2=(c.rm d.en.length).enN:=hb
  all_goals refine⟨lE,by show(d.en.length+1)*40<=_;omega,?_⟩
  all_goals exact⟨⟨d.im,d.ms,d.en++[((c.rm d.en.length).enT,(a1,a2,a3))]⟩,q1 (e1),q2 (e1),q3 (e1),q4 (e1),q5 (e1),rfl,rfl,z0q (f:=peV) _ _,rfl,rfl,rfl,by show(d.en++[_]).length=d.en.length+1;rw[List.length_append];rfl,by rw[e2,←hb2];show PFl.mk _ _ ((d.en++[_]).map _)=_;rw[List.map_append];rfl,trivial⟩
 ·have hu:c.is 1 euW=false:=hu
  obtain⟨e1,e2⟩:=znt (f:=d.pf) hs hi hg hu
  exact⟨(c,2),rfl,rfl,rfl,rfl,rfl,rfl,hP,H,d,q1 (e1),q2 (e1),q3 (e1),q4 (e1),q5 (e1),rfl,rfl,rfl,rfl,rfl,rfl,rfl,e2.symm,trivial⟩
end
section
def Cu.pt_lt{c:Cu} (h:c.P) (f:PFl) (he:(c.pt f).e=0):(c.pt f).T.length<c.T.length:=by
 have R:∀n,(c.rm n).P:=λn=>(Rc.rfl.rm n).P h
 unfold Cu.pt at he⊢
 split
 ·rename_i g
  exact Cu.nx_lt h (by rw[(Cu.is_hd g).2.1];decide)
 rename_i g1;rw[if_neg g1]at he
 split
 ·rename_i g
  have:=Cu.nx_lt2 (R f.im.length) (by rw[Cu.rm_hd,(Cu.is_hd g).2.1];decide) ((Rc.rfl.an 3).nd 4 smW)
  rwa [Cu.rm_T]at this
 rename_i g2;rw[if_neg g2]at he
 split
 ·rename_i g
  have:=Cu.ms_lt (R f.ms.length) (by rw[Cu.rm_hd,(Cu.is_hd g).2.1];decide) 20
  rwa [Cu.rm_T]at this
 rename_i g3;rw[if_neg g3]at he
 split
 ·rename_i g
  have:=Cu.nx_lt2 (R f.en.length) (by rw[Cu.rm_hd,(Cu.is_hd g).2.1];decide) (Rc.en1 _)
  rwa [Cu.rm_T]at this
 ·rename_i g
  rw[if_neg g]at he
  exact absurd he (Cu.fa_no (by decide))
variable {s:PtS}
def zjn(h:z5w s=true):s.c.e=0:=by
 unfold z5w at h
 simp only[Bool.and_eq_true,decide_eq_true_eq]at h
 exact h.1
def z89(s:PtS) (hs:s.c.P) (hg:z5w s=true):(zjm s).c.P/\(zjm s).c.mu<s.c.mu:=
 ⟨(Rc.pt s.c s.f).P hs,Cu.mu_lt (zjn hg) λh=>Cu.pt_lt hs s.f h⟩
def zdf(hs:s.c.P) (hg:z5w s=true):ptL s=ptL (zjm s):=z59 (μ:=λs:PtS=>s.c.mu) (I:=λs=>s.c.P) z89 hs hg
def zdg(hg:z5w s=false):ptL s=s:=z2p hg _
def zfi(c:Cu) (f:PFl):(c.ptF f).im.length<=f.im.length+1/\(c.ptF f).ms.length<=f.ms.length+1/\(c.ptF f).en.length<=f.en.length+1:=by
 unfold Cu.ptF
 split
 ·omega
 split
 ·simp only[List.length_append,List.length_singleton];omega
 split
 ·simp only[List.length_append,List.length_singleton];omega
 split
 ·simp only[List.length_append,List.length_singleton];omega
 ·omega
def zde(d:FD):d.pf.im.length=d.im.length/\d.pf.ms.length=d.ms.length/\d.pf.en.length=d.en.length:=⟨rfl,List.length_map _,List.length_map _⟩
def z29{p:Pub} {a:Option Addr} {vs:List Value} {k:Nat} (hk:vs.length=k) (h:qoq p a (vs.take k)):qoq p a vs:=by
 rwa [←hk,List.take_length]at h
def z84:q39 P 7 z6y:=by
 refine qq9 mixed (qhc (qmo zj4 (qmo z61 qqu))) (qig (qmn zaq qqt)) (W:=zdu) Go.Proofs.Tryd.func7 (by kernel_rfl) (by decide) (by decide) (λs=>by kernel_rfl) λ⟨(s:ByteArray),T⟩=>(z83 s T).mpr ?_
 rintro⟨hs,hlx,hT⟩ hp
 rw[hlx]
 refine⟨rfl,hs,λp h=>h.2,?_⟩
 rintro - - a n cc ⟨p,⟨_,hp⟩,hnl,hsl⟩
 have hnl:n=T.length:=hnl
 have hP:(⟨(a,n,cc),T,0,0⟩:Cu).P:=hT
 have K:∀(X:Prop) (q:Pub),X/\n=T.length/\qmr q a n cc (z2s T)->(⟨(a,n,cc),T,0,0⟩:Cu).ok q:=λX q h=>⟨h.2.1,h.2.2⟩
 have g:(⟨(a,n,cc),T,0,0⟩:Cu).ok p:=⟨hnl,hsl⟩
 refine⟨λh=>absurd (show false=true from h) (by decide),λ_=> ?_⟩
 have tl:T.length<=100000:=hT.1.1
 have R0:Rc (⟨(a,n,cc),T,0,0⟩:Cu) (⟨(a,n,cc),T,0,0⟩:Cu).sy:=Rc.rfl.sy
 have mz:0+(⟨(a,n,cc),T,0,0⟩:Cu).sy.mu<=T.length+1:=by
  have:_<=T.length+1:=Nat.le_trans (z7q R0) (zj9 _)
  omega
 refine⟨⟨(a,n,cc),T,0,0⟩,rfl,rfl,rfl,rfl,rfl,hP,λq hq=>K _ q hq,⟨((⟨(a,n,cc),T,0,0⟩:Cu).sy,⟨[],[],[]⟩),rfl,rfl,rfl,rfl,rfl,rfl,rfl,rfl,rfl,rfl,rfl,rfl,rfl,rfl,rfl,λ_ h=>h,⟨R0,⟨mz,mz,mz⟩,rfl⟩,trivial⟩,?_⟩
 rintro⟨c,d⟩ ⟨(r:Rc _ c),⟨(kI:d.im.length+c.mu<=T.length+1),(kM:d.ms.length+c.mu<=T.length+1),(kE:d.en.length+c.mu<=T.length+1)⟩,(hL:ptL ⟨c,d.pf⟩=z4g (a,n,cc) T)⟩
 have P1:=r.P hP
 have g1:=r.ok hP g
 have fin:z5w ⟨c,d.pf⟩=false->(z4g (a,n,cc) T).c=c/\(z4g (a,n,cc) T).f=d.pf:=λhg=>by
  rw[zdg hg]at hL
  rw[←hL];exact⟨rfl,rfl⟩
 have un:∀v,v=decide (c.e=0)->(v=true↔c.e=0):=λv h=>by rw[h];exact decide_eq_true_iff
 have good:c.e=0->(z4g (a,n,cc) T).c=c->(z4g (a,n,cc) T).f=d.pf->∀(a1:Option Addr) (c1:Nat) (a2:Option Addr) (c2:Nat) (a3:Option Addr) (c3:Nat),z28 T ⟨d,(a1,d.im.length,c1),(a2,d.ms.length,c2),(a3,d.en.length,c3),0,0⟩:=λhe f1 f2 a1 c1 a2 c2 a3 c3=>⟨(a,n,cc),by rw[f1];exact he,λ_=>f2.symm⟩
 have bad:c.e≠0->(z4g (a,n,cc) T).c=c->z28 T ⟨⟨[],[],[]⟩,(none,0,0),(none,0,0),(none,0,0),c.e,c.a⟩:=λhe f1=>⟨(a,n,cc),by rw[f1],λh=>absurd h he⟩
 have nilP:∀q,(⟨⟨[],[],[]⟩,(none,0,0),(none,0,0),(none,0,0),c.e,c.a⟩:PB).ok q:=λq=>⟨⟨rfl,Nat.le_refl _, .inl ⟨rfl,trivial⟩⟩,⟨rfl,Nat.le_refl _, .inl ⟨rfl,trivial⟩⟩,⟨rfl,Nat.le_refl _, .inl ⟨rfl,trivial⟩⟩⟩
 have lI:d.vI.length=d.im.length*1:=z02 (f:=stV) (λ_=>rfl) d.im
 have lM:d.vM.length=d.ms.length*7:=z02 (f:=fmV) (λ_=>rfl) d.ms
 have lE:d.vE.length=d.en.length*2:=z02 (f:=peV) (λ_=>rfl) d.en
 refine⟨λhe=> ?_,λhe=> ?_⟩
 ·have he:=of_decide_eq_true he
  refine⟨Cu.len P1 g1,(Cu.cells P1 g1).1,(c.hd.1:Nat),λq hq=>Cu.cell P1 (r.ok hP (K _ q hq)) 0 rfl,λh5=> ?_,λh5=>⟨λhx=>absurd he (by simpa using hx),λ_=> ?_⟩⟩
  ·have h5:¬c.hd.1=5:=by have q:¬((c.hd.1:Nat):Int)=5:=(by simpa using h5);omega
   have hg:z5w ⟨c,d.pf⟩=true:=by
    show(decide (c.e=0)&& !decide (c.hd.1=5))=true
    rw[decide_eq_true he,decide_eq_false h5];rfl
   have st:=zdf (s:=⟨c,d.pf⟩) P1 hg
   have mu:(c.pt d.pf).mu<c.mu:=(z89 ⟨c,d.pf⟩ P1 hg).2
   refine⟨(c,d),rfl,rfl,rfl,rfl,rfl,rfl,rfl,rfl,rfl,rfl,rfl,rfl,⟨P1,⟨?_,?_,?_⟩⟩,λq hq=>r.ok hP (K _ q hq),?_⟩
   ·show d.im.length<=200000;omega
   ·show d.ms.length<=200000;omega
   ·show d.en.length<=200000;omega
   intro b hb
   have hb:b.pf=c.ptF d.pf:=hb
   have l:=zfi c d.pf
   have l1:=zde d
   have l2:=zde b
   rw[hb]at l2
   have st2:ptL ⟨c.pt d.pf,b.pf⟩=z4g (a,n,cc) T:=by rw[hb];exact st.symm.trans hL
   exact⟨(c.pt d.pf,b),rfl,rfl,rfl,rfl,rfl,rfl,rfl,rfl,rfl,rfl,rfl,rfl,rfl,rfl,rfl,rfl,rfl,rfl,λ_ h=>h,⟨r.trans (Rc.pt c d.pf),⟨by show b.im.length+(c.pt d.pf).mu<=_;omega,by show b.ms.length+(c.pt d.pf).mu<=_;omega,by show b.en.length+(c.pt d.pf).mu<=_;omega⟩,st2⟩,mu,trivial⟩
  ·have h5:c.hd.1=5:=by have q:((c.hd.1:Nat):Int)=5:=(by simpa using h5);omega
   have hg:z5w ⟨c,d.pf⟩=false:=by
    show(decide (c.e=0)&& !decide (c.hd.1=5))=false
    rw[decide_eq_true h5,Bool.not_true,Bool.and_false]
   obtain⟨f1,f2⟩:=fin hg
   rintro b s3 u a1 n1 c1- b s4 u a2 n2 c2- b s5 u a3 n3 c3 -
   exact⟨⟨d,(a1,d.im.length,c1),(a2,d.ms.length,c2),(a3,d.en.length,c3),0,0⟩,rfl,rfl,rfl,rfl,rfl,rfl,rfl,rfl,rfl,rfl,rfl,rfl,good he f1 f2 a1 c1 a2 c2 a3 c3,λq hq=>⟨⟨rfl,hq.1.1.2.1,z29 lI hq.1.1.2.2⟩,⟨rfl,hq.1.2.1,z29 lM hq.1.2.2⟩,⟨rfl,hq.2.1,z29 lE hq.2.2⟩⟩,trivial⟩
 ·have he:=of_decide_eq_false he
  have hg:z5w ⟨c,d.pf⟩=false:=by
   show(decide (c.e=0)&& !decide (c.hd.1=5))=false
   rw[decide_eq_false he];rfl
  obtain⟨f1,f2⟩:=fin hg
  refine⟨λ_=>⟨⟨⟨[],[],[]⟩,(none,0,0),(none,0,0),(none,0,0),c.e,c.a⟩,rfl,rfl,rfl,rfl,rfl,rfl,rfl,rfl,rfl,rfl,rfl,rfl,bad he f1,λq _=>nilP q,trivial⟩,λhx=>absurd (by simpa using hx) he⟩
end
section
variable {l:List Nat}
def z6r(h:∀x∈l,x<256) (j:Nat):bat (mkS l) j=l.getD j 0:=by
  unfold bat
  rw[qay,List.getD_eq_getElem?_getD]
  cases hg:l[j]? with
  |none=>rfl
  | some x=>
    have:=h x (List.mem_of_getElem? hg)
    show(UInt8.ofNat x).toNat=x
    simp[Nat.mod_eq_of_lt this]
def Rd(s:ByteArray) (i:Nat) (l:List Nat):Prop:=i+l.length<=s.size/\∀k (h:k<l.length),bat s (i+k)=l[k]
def rd_mk{p l r:List Nat} (h:∀x∈p++(l++r),x<256):Rd (mkS (p++(l++r))) p.length l:=by
 refine⟨by rw[q0u];simp only[List.length_append];omega,λk hk=> ?_⟩
 rw[z6r h,List.getD_eq_getElem?_getD,List.getElem?_append_right (by omega),List.getElem?_append_left (by omega),show p.length+k- p.length=k by omega,List.getElem?_eq_getElem hk];rfl
def zjq{p l r:List Nat} (h:∀x∈p++(l++r),x<256):bat (mkS (p++(l++r))) (p.length+l.length)=r.headD 0:=by
 rw[z6r h,List.getD_eq_getElem?_getD,List.getElem?_append_right (by omega),List.getElem?_append_right (by omega)]
 rw[show p.length+l.length- p.length- l.length=0 by omega]
 cases r<;>rfl
variable {s:ByteArray}
def zjp{i:Nat} (h:Rd s i l) (k c:Nat) (hk:l[k]? =some c):bat s (i+k)=c:=by
 obtain⟨h1,h2⟩:=List.getElem?_eq_some_iff.1 hk
 rw[h.2 k h1,h2]
def z8a{i c:Nat} (h:Rd s i (c::l)):bat s i=c/\i<s.size/\Rd s (i+1) l:=by
 refine⟨zjp h 0 c rfl,by have:=h.1;rw[List.length_cons]at this;omega,by have:=h.1;rw[List.length_cons]at this;omega,λk hk=> ?_⟩
 have:=h.2 (k+1) (by rw[List.length_cons];omega)
 rw[show i+1+k=i+(k+1)by omega,this];rfl
def zjw{n:Nat} (h:z3o (bat s n)=true):spR s n=spR s (n+1):=by
 have:=z17 h
 rw[z1w s n (by omega),if_pos h]
def zjv{n:Nat} (hn:n<=s.size) (h1:z3o (bat s n)=false) (h2:bat s n≠47):spR s n=(true,n):=by
 rw[z1w s n hn,if_neg (by rw[h1];simp),if_neg (λh=>h2 h.1),if_neg (λh=>h2 h.1)]
def zac(c:Nat):Bool:=isLet c||z01 c|| (c==46)
def zdb{s:ByteArray}:∀(r:List Nat) (j:Nat),Rd s j r->(∀x∈r,(isLet x||z01 x)=true)->zac (bat s (j+r.length))=false->nmE s j=j+r.length
  | [],j,h,_,hs=>by
    have h1:=h.1
    rw[List.length_nil,Nat.add_zero]at h1 hs
    unfold zac at hs
    simp only[Bool.or_eq_false_iff]at hs
    rw[z1t s j h1,if_neg (by unfold nmC;rw[hs.1.1,hs.1.2,hs.2];simp)];rfl
  | c::r,j,h,hr,hs=>by
    obtain⟨h1,h2,h3⟩:=z8a h
    have hc:=hr c List.mem_cons_self
    rw[z1t s j (by omega),if_pos (by unfold nmC;rw[h1,hc];rfl),zdb r (j+1) h3 (λx hx=>hr x (List.mem_cons_of_mem _ hx)) (by rw[List.length_cons]at hs;rw[show j+1+r.length=j+(r.length+1)by omega];exact hs),List.length_cons];omega
def dgV(v:Nat) (l:List Nat):Nat:=l.foldl (λv x=>v*10+(x- 48)) v
variable {c:Nat}
def zij(h:z01 c=true):dv c=c- 48/\dv c<10:=by
 unfold z01 at h
 simp only[Bool.and_eq_true,decide_eq_true_eq]at h
 unfold dv;rw[if_pos (by omega)];omega
def zem(h:zac c=false):dv c=16/\isLet c=false/\z01 c=false/\c≠46:=by
 unfold zac isLet z01 at*
 simp only[Bool.or_eq_false_iff,Bool.and_eq_false_iff,beq_eq_false_iff_ne,decide_eq_false_iff_not]at h
 refine⟨?_,?_,?_,h.2⟩
 ·unfold dv;rw[if_neg (by omega),if_neg (by omega),if_neg (by omega)]
 ·simp only[Bool.or_eq_false_iff,Bool.and_eq_false_iff,beq_eq_false_iff_ne,decide_eq_false_iff_not];exact h.1.1
 ·simp only[Bool.and_eq_false_iff,decide_eq_false_iff_not];exact h.1.2
def zcv{s:ByteArray}:∀(r:List Nat) (j v:Nat),Rd s j r->(∀x∈r,z01 x=true)->zac (bat s (j+r.length))=false->dgE s 10 j v=(j+r.length,dgV v r)
  | [],j,v,h,_,hs=>by
    rw[List.length_nil,Nat.add_zero]at hs
    rw[z0p s 10 j v (by omega),if_neg (by rw[(zem hs).1];omega)];rfl
  | c::r,j,v,h,hr,hs=>by
    obtain⟨h1,h2,h3⟩:=z8a h
    have hc:=zij (hr c List.mem_cons_self)
    rw[z0p s 10 j v (by omega),h1,if_pos hc.2,zcv r (j+1) _ h3 (λx hx=>hr x (List.mem_cons_of_mem _ hx)) (by rw[List.length_cons]at hs;rw[show j+1+r.length=j+(r.length+1)by omega];exact hs),hc.1,List.length_cons]
    refine Prod.ext ?_ rfl
    show j+1+r.length=j+(r.length+1);omega
def zf5(h:isLet c=true):z01 c=false/\c≠34/\c≠39/\z3o c=false/\c≠47:=by
 unfold isLet z01 z3o at*
 simp only[Bool.or_eq_true,Bool.and_eq_true,beq_iff_eq,decide_eq_true_eq]at h
 simp only[Bool.or_eq_false_iff,Bool.and_eq_false_iff,beq_eq_false_iff_ne,decide_eq_false_iff_not]
 omega
def z76(h:z01 c=true):isLet c=false/\c≠34/\c≠39/\c≠46/\z3o c=false/\c≠47:=by
 unfold isLet z01 z3o at*
 simp only[Bool.and_eq_true,decide_eq_true_eq]at h
 simp only[Bool.or_eq_false_iff,Bool.and_eq_false_iff,beq_eq_false_iff_ne,decide_eq_false_iff_not]
 omega
def zio(p a r:List Nat):(mkS (p++(a++r))).extract p.length (p.length+a.length)=mkS a:=by
 rw[q6e,List.drop_left,show p.length+a.length- p.length=a.length by omega,List.take_left]
def qin:List (List Nat):=[112,114,111,116,111,51]::(List.range 26).map λi=>[97+i]
def WK:List Nat->Bool
 | []=>false
 |c::r=>(isLet c&&r.all (λx=>isLet x||z01 x))|| (z01 c&&r.all z01&&((c !=48)||r.isEmpty)&&decide (dgV 0 (c::r)<1000000))|| (qin.any λw=>decide (c::r=39::(w++[39])))|| (r.isEmpty&&sgs.contains c)
def z8y:List Nat->Bool
 | []=>true
 |c::_=>isLet c||z01 c
def z2t(c:Nat) (q:List Nat):z8y (c::q)=(isLet c||z01 c):=rfl
def z2r:List Nat->Nat×ByteArray×Nat
 | []=>(0,mkS [],0)
 |c::r=>if isLet c=true then(1,mkS (c::r),0)else if z01 c=true then(2,mkS [],dgV 0 (c::r))else if c=39 then(3,mkS r.dropLast,0)else(4,mkS [c],0)
def z0n(c:Nat) (r:List Nat):z2r (c::r)=if isLet c=true then(1,mkS (c::r),0)else if z01 c=true then(2,mkS [],dgV 0 (c::r))else if c=39 then(3,mkS r.dropLast,0)else(4,mkS [c],0):=rfl
variable {a:List Nat}
def zdh(h:(qin.any λw=>decide (a=39::(w++[39])))=true):∃w,w∈qin/\a=39::(w++[39]):=by
 obtain⟨w,h1,h2⟩:=List.any_eq_true.1 h
 exact⟨w,h1,of_decide_eq_true h2⟩
def zfl:∀w∈qin,(∀x∈w,x≠39/\x≠10/\x≠92)/\vld (bs w)=true:=by decide+kernel
def zdi{s:ByteArray}:∀(w:List Nat) (j:Nat) (acc:List Nat),Rd s j (w++[39])->(∀x∈w,x≠39/\x≠10/\x≠92)->txE s 39 j acc=some (acc++w,j+w.length+1)
  | [],j,acc,h,_=>by
    obtain⟨h1,h2,h3⟩:=z8a (c:=39) (l:=[]) h
    rw[z1z,if_pos h2,if_pos h1,List.append_nil];rfl
  | c::w,j,acc,h,hw=>by
    obtain⟨h1,h2,h3⟩:=z8a (c:=c) (l:=w++[39]) h
    have hc:=hw c List.mem_cons_self
    rw[z1z,if_pos h2,h1,if_neg hc.1,if_neg hc.2.1,if_neg hc.2.2,zdi w (j+1) (acc++[c]) h3 (λx hx=>hw x (List.mem_cons_of_mem _ hx)),List.length_cons,List.append_assoc]
    rw[show j+1+w.length+1=j+(w.length+1)+1 by omega];rfl
def zfv {p a r:List Nat} (h:∀x∈p++(a++r),x<256) (hw:WK a=true) (hn:z8y a=true->zac (r.headD 0)=false):wdR (mkS (p++(a++r))) p.length=(0,((z2r a).1,(z2r a).2.1,(z2r a).2.2,p.length),p.length+a.length):=by
  have hr:=rd_mk h
  have nx:=zjq h
  have ex:=zio p a r
  cases a with
  |nil=>cases hw
  | cons c q=>
    obtain⟨r1,r2,r3⟩:=z8a hr
    have hne:p.length≠(mkS (p++((c::q)++r))).size:=by omega
    unfold wdR
    rw[if_neg hne,r1]
    simp only[WK,Bool.or_eq_true,Bool.and_eq_true,decide_eq_true_eq]at hw
    have len1:p.length+1+q.length=p.length+(c::q).length:=by rw[List.length_cons];omega
    rcases hw with((hw|hw)|hw)|hw
    · have hc:=hw.1
      have e:=zdb q (p.length+1) r3 (λx hx=>List.all_eq_true.1 hw.2 x hx) (by rw[len1,nx];exact hn (by rw[z2t,hc];rfl))
      rw[if_pos (.inl hc),e,len1,ex]
      rw[z0n,if_pos hc]
    · obtain⟨⟨⟨hc,hq⟩,h48⟩,hv⟩:=hw
      have dn:=z76 hc
      have hw2:zac (bat (mkS (p++((c::q)++r))) (p.length+(c::q).length))=false:=by rw[nx];exact hn (by rw[z2t,hc,Bool.or_true])
      have tk:z2r (c::q)=(2,mkS [],dgV 0 (c::q)):=by rw[z0n,if_neg (by rw[dn.1];simp),if_pos hc]
      rw[if_neg (by rw[dn.1];simp;exactλh=>absurd h dn.2.2.2.1),if_pos hc,tk]
      have nb:nbR (mkS (p++((c::q)++r))) p.length=(0,dgV 0 (c::q),p.length+(c::q).length):=by
        by_cases h0:c=48
        · have hq0:q=[]:=by
            rcases h48 with h|h
            · simp[h0]at h
            · simpa using h
          subst hq0 h0
          rw[List.length_singleton]at hw2⊢
          have w:=zem hw2
          have hx:¬(bat (mkS (p++([48]++r))) (p.length+1)=120\/bat (mkS (p++([48]++r))) (p.length+1)=88):=by
            have:=w.2.1
            unfold isLet at this
            simp only[Bool.or_eq_false_iff,Bool.and_eq_false_iff,beq_eq_false_iff_ne,decide_eq_false_iff_not]at this
            omega
          have e8:nbB (mkS (p++([48]++r))) p.length=8:=by unfold nbB;rw[if_pos r1,if_neg (λh=>hx h.2)]
          have e1:nbO (mkS (p++([48]++r))) p.length=1:=by unfold nbO;rw[if_pos r1,if_neg (λh=>hx h.2)]
          unfold nbR
          have ed:dgE (mkS (p++([48]++r))) 8 (p.length+1) 0=(p.length+1,0):=by
            rw[z0p _ 8 _ 0 (by omega),if_neg (by rw[w.1];omega)]
          rw[e8,e1,ed]
          show(if 18446744073709551616<=0 then(3,0,p.length)else if(isLet (bat (mkS (p++([48]++r))) (p.length+1))||z01 (bat (mkS (p++([48]++r))) (p.length+1))|| (bat (mkS (p++([48]++r))) (p.length+1)==46))=true then(2,0,p.length)else(0,0,p.length+1))=_
          rw[if_neg (by omega),if_neg (by rw[w.2.1,w.2.2.1];simpa using w.2.2.2)];rfl
        · have e10:nbB (mkS (p++((c::q)++r))) p.length=10:=by unfold nbB;rw[if_neg (by rw[r1];exact h0)]
          have e0:nbO (mkS (p++((c::q)++r))) p.length=0:=by unfold nbO;rw[if_neg (by rw[r1];exact h0)]
          have w:=zem hw2
          have e:=zcv (c::q) p.length 0 hr (λx hx=>by
            rcases List.mem_cons.1 hx with rfl|hx
            · exact hc
            · exact List.all_eq_true.1 hq x hx) hw2
          unfold nbR
          rw[e10,e0,Nat.add_zero,e]
          simp only[]
          rw[if_neg (by omega),if_neg (by rw[w.2.1,w.2.2.1];simpa using w.2.2.2)]
      rw[nb];rfl
    · obtain⟨w,hw1,hw2⟩:=zdh hw
      simp only[List.cons.injEq]at hw2
      obtain⟨rfl,rfl⟩:=hw2
      have qa:=zfl w hw1
      have h1:=hr.1
      simp only[List.length_cons,List.length_append,List.length_nil]at h1
      rw[if_neg (λh=>by rcases h with h|⟨h,_⟩<;>exact absurd h (by decide)),if_neg (by decide),if_pos (.inr rfl)]
      have rq:Rd (mkS (p++((39::(w++[39]))++r))) (p.length+1) (w++[39]):=r3
      have te:=zdi w (p.length+1) [] rq qa.1
      unfold txR
      rw[te]
      simp only[List.nil_append]
      rw[if_pos qa.2]
      have e3:z2r (39::(w++[39]))=(3,mkS w,0):=by
        rw[z0n,if_neg (by decide),if_neg (by decide),if_pos rfl,List.dropLast_concat]
      have e4:p.length+1+w.length+1=p.length+(39::(w++[39])).length:=by simp only[List.length_cons,List.length_append,List.length_nil];omega
      rw[e3,e4];rfl
    · obtain⟨hq,hs⟩:=hw
      have hq:q=[]:=by simpa using hq
      subst hq
      have hs:c∈sgs:=by simpa using hs
      have hc:isLet c=false/\z01 c=false/\c≠34/\c≠39/\c≠46:=(by decide:∀c∈sgs,isLet c=false/\z01 c=false/\c≠34/\c≠39/\c≠46) c hs
      rw[if_neg (by rw[hc.1];simp;exactλh=>absurd h hc.2.2.2.2),if_neg (by rw[hc.2.1];simp),if_neg (by omega),if_pos hs]
      rw[z0n,if_neg (by rw[hc.1];simp),if_neg (by rw[hc.2.1];simp),if_neg hc.2.2.2.1];rfl
abbrev Pq:=List Nat×List Nat
def z00(e:List Nat):List Pq->List Nat
 | []=>e
 |x::l=>x.1++(x.2++z00 e l)
def z1x(e:List Nat):Nat->List Pq->List Tk
 |o,[]=>[(5,mkS [],0,o+e.length)]
 |o,x::l=>((z2r x.2).1,(z2r x.2).2.1,(z2r x.2).2.2,o+x.1.length)::z1x e (o+x.1.length+x.2.length) l
def SpA(w:List Nat):Prop:=w=[]\/w=[32]
def zdk{p w r:List Nat} (h:∀x∈p++(w++r),x<256) (hw:SpA w) (h1:z3o (r.headD 0)=false) (h2:r.headD 0≠47):spR (mkS (p++(w++r))) p.length=(true,p.length+w.length):=by
 have nx:=zjq h
 have sz:p.length+w.length<=(mkS (p++(w++r))).size:=(rd_mk h).1
 have s1:spR (mkS (p++(w++r))) p.length=spR (mkS (p++(w++r))) (p.length+w.length):=by
  rcases hw with rfl|rfl
  ·rfl
  ·exact zjw (by rw[show bat (mkS (p++([32]++r))) p.length=32 from zjp (rd_mk h) 0 _ rfl];rfl)
 rw[s1]
 exact zjv sz (by rw[nx];exact h1) (by rw[nx];exact h2)
def POA(e:List Nat):List Pq->Prop
 | []=>True
 |x::l=>WK x.2=true/\SpA x.1/\(z8y x.2=true->zac ((z00 e l).headD 0)=false)/\POA e l
def z4l{a r:List Nat} (h:WK a=true):z3o ((a++r).headD 0)=false/\(a++r).headD 0≠47/\a≠[]:=by
  cases a with
  |nil=>cases h
  | cons c q=>
    show z3o c=false/\c≠47/\_
    simp only[WK,Bool.or_eq_true,Bool.and_eq_true,decide_eq_true_eq]at h
    rcases h with((h|h)|h)|h
    · have:=zf5 h.1;exact⟨this.2.2.2.1,this.2.2.2.2,by simp⟩
    · have:=z76 h.1.1.1;exact⟨this.2.2.2.2.1,this.2.2.2.2.2,by simp⟩
    · obtain⟨w,_,hw⟩:=zdh h
      simp only[List.cons.injEq]at hw
      obtain⟨rfl,_⟩:=hw
      exact⟨rfl,by decide,by simp⟩
    · have hs:c∈sgs:=by simpa using h.2
      have:=(by decide:∀c∈sgs,z3o c=false/\c≠47) c hs
      exact⟨this.1,this.2,by simp⟩
def zfq(h:WK a=true):(z2r a).1≠5:=by
  cases a with
  |nil=>cases h
  | cons c q => rw[z0n];repeat' split
                all_goals simp
def z7l{e:List Nat} (he:SpA e):∀(l:List Pq) (p:List Nat) (acc:List Tk),(∀x∈p++z00 e l,x<256)->POA e l->lxE (mkS (p++z00 e l)) p.length acc=(acc++z1x e p.length l,0,0)
  | [],p,acc,h,_=>by
    have q:p++z00 e []=p++(e++[]):=by rw[List.append_nil];rfl
    have sp:=zdk (p:=p) (w:=e) (r:=[]) (by rw[←q];exact h) he rfl (by decide)
    rw[←q]at sp
    have sz:(mkS (p++z00 e [])).size=p.length+e.length:=by rw[q0u,List.length_append];rfl
    rw[z37 _ _ _ (by omega)]
    rw[sp,if_neg (by simp)]
    simp only[]
    have wd:wdR (mkS (p++z00 e [])) (p.length+e.length)=(0,(5,mkS [],0,p.length+e.length),p.length+e.length):=by
      unfold wdR;rw[if_pos sz.symm]
    rw[wd,if_neg (by simp),if_pos rfl];rfl
  | x::l,p,acc,h,⟨h1,h2,h3,h4⟩=>by
    have hd:=z4l (r:=z00 e l) h1
    have e1:p++z00 e (x::l)=(p++x.1)++(x.2++z00 e l):=by rw[z00];simp only[List.append_assoc]
    have e2:p++z00 e (x::l)=(p++(x.1++x.2))++z00 e l:=by rw[z00];simp only[List.append_assoc]
    have sp:=zdk (p:=p) (w:=x.1) (r:=x.2++z00 e l) h h2 hd.1 hd.2.1
    have sz:=(rd_mk (p:=p) (l:=x.1) (r:=x.2++z00 e l) h).1
    have wd:=zfv (p:=p++x.1) (a:=x.2) (r:=z00 e l) (by rw[←e1];exact h) h1 h3
    rw[←e1,List.length_append]at wd
    rw[z37 _ _ _ (by show p.length<=(mkS (p++(x.1++(x.2++z00 e l)))).size;omega)]
    rw[show spR (mkS (p++z00 e (x::l))) p.length=(true,p.length+x.1.length)from sp,if_neg (by simp)]
    simp only[]
    rw[wd,if_neg (by simp),if_neg (zfq h1)]
    simp only[]
    have ih:=z7l he l (p++(x.1++x.2)) (acc++[((z2r x.2).1,(z2r x.2).2.1,(z2r x.2).2.2,p.length+x.1.length)]) (by rw[←e2];exact h) h4
    rw[←e2]at ih
    have el:(p++(x.1++x.2)).length=p.length+x.1.length+x.2.length:=by simp only[List.length_append];omega
    rw[el]at ih
    rw[ih,List.append_assoc];rfl
def zaj{e:List Nat} (he:SpA e) {l:List Pq} (h:∀x∈z00 e l,x<256) (hp:POA e l) (hs:(z00 e l).length<=3000):lxR (mkS (z00 e l))=(z1x e 0 l,0,0):=by
 have sz:=q0u (z00 e l)
 unfold lxR
 rw[if_neg (by omega)]
 exact z7l he l [] [] h hp
def z3a(e:List Nat):∀(l:List Pq) (o:Nat),∃m a,z1x e o l=m++[(5,mkS [],0,a)]/\(z1x e o l).length=l.length+1
  | [],o=>⟨[],o+e.length,rfl,rfl⟩
  | x::l,o=>by
    obtain⟨m,a,h1,h2⟩:=z3a e l (o+x.1.length+x.2.length)
    refine⟨((z2r x.2).1,(z2r x.2).2.1,(z2r x.2).2.2,o+x.1.length)::m,a,?_,?_⟩
    · rw[z1x,h1];rfl
    · rw[z1x,List.length_cons,h2,List.length_cons]
end
section
abbrev K3:=Nat×ByteArray×Nat
def k3(t:Tk):K3:=(t.1,t.2.1,t.2.2.1)
def zim:K3:=(5,mkS [],0)
def St(c:Cu) (l:List K3):Prop:=c.e=0/\c.T.map k3=l++[zim]
def wdK(x:Pq):K3:=z2r x.2
def z8l(e:List Nat):∀(l:List Pq) (o:Nat),(z1x e o l).map k3=l.map wdK++[zim]
  | [],o=>rfl
  | x::l,o=>by
    rw[z1x,List.map_cons,z8l e l,List.map_cons];rfl
variable {c:Cu} {l:List K3}
def St.cons{t:K3} (h:St c (t::l)):c.e=0/\k3 c.hd=t/\1<c.T.length/\c.T.tail.map k3=l++[zim]:=by
  obtain⟨h1,h2⟩:=h
  cases hT:c.T with
  |nil=>rw[hT]at h2;cases h2
  | cons a T=>
    rw[hT,List.map_cons,List.cons_append,List.cons.injEq]at h2
    have hd:c.hd=a:=by unfold Cu.hd;rw[hT];rfl
    refine⟨h1,by rw[hd];exact h2.1,?_,h2.2⟩
    have:=congrArg List.length h2.2
    rw[List.length_map,List.length_append]at this
    rw[List.length_cons]
    have e1:[zim].length=1:=rfl
    omega
variable {k:Nat} {w:ByteArray} {n:Nat}
def St.hd(h:St c ((k,w,n)::l)):c.hd.1=k/\c.hd.2.1=w/\c.hd.2.2.1=n:=by
 have:=h.cons.2.1
 unfold k3 at this
 simp only[Prod.mk.injEq]at this
 exact this
def St.nx{t:K3} (h:St c (t::l)):St c.nx l:=by
 obtain⟨h1,_,h3,h4⟩:=h.cons
 unfold Cu.nx;rw[if_pos h3]
 exact⟨h1,h4⟩
def St.is(h:St c ((k,w,n)::l)) (k':Nat) (w':ByteArray):c.is k' w'=(decide (k=k')&&decide (w=w')):=by
 obtain⟨h1,h2,_⟩:=h.hd
 unfold Cu.is;rw[decide_eq_true h.1,h1,h2,Bool.true_and]
def St.hdE(h:St c []):c.hd.1=5:=by
  cases hT:c.T with
  |nil=>have:=h.2;rw[hT]at this;cases this
  | cons a T=>
    have h2:=h.2
    rw[hT,List.map_cons,List.nil_append,List.cons.injEq]at h2
    have:c.hd=a:=by unfold Cu.hd;rw[hT];rfl
    rw[this]
    exact congrArg Prod.fst h2.1
def St.nd(h:St c ((k,w,n)::l)):St (c.nd k w) l:=by
 unfold Cu.nd;rw[if_pos (by rw[h.is];simp)];exact h.nx
def St.isK(h:St c ((k,w,n)::l)):c.isK k=true:=by
 unfold Cu.isK;rw[decide_eq_true h.1,decide_eq_true h.hd.1];rfl
def St.an(h:St c ((k,w,n)::l)):St (c.an k) l/\(c.anT k).2.1=w/\(c.anT k).2.2.1=n:=by
 unfold Cu.an Cu.anT;rw[if_pos h.isK,if_pos h.isK];exact⟨h.nx,h.hd.2⟩
def znw{n:Int} (h:n<30):c.rm n=c:=if_neg (by omega)
end
section
def zfa{l m:List Nat} (hl:∀x∈l,x<256) (hm:∀x∈m,x<256) (h:mkS l=mkS m):l=m:=by
 have h1:l.length=m.length:=by rw[←q0u l,←q0u m,h]
 refine List.ext_getElem h1 λi a b=> ?_
 have q:∀(l:List Nat) (i:Nat) (h:i<l.length),(∀x∈l,x<256)->bat (mkS l) i=l[i]:=λl i h hl=>by
  rw[z6r hl,List.getD_eq_getElem?_getD,List.getElem?_eq_getElem h];rfl
 rw[←q l i a hl,←q m i b hm,h]
variable {c:Cu} {k:Nat} {w:ByteArray} {n:Nat} {l:List K3}
def St.no(h:St c ((k,w,n)::l)) {k':Nat} {w':ByteArray} (hw:k≠k'\/w≠w'):c.is k' w'=false:=by
 rw[h.is]
 rcases hw with hw|hw
 ·rw[decide_eq_false hw];rfl
 ·rw[decide_eq_false hw,Bool.and_false]
def St.yes(h:St c ((k,w,n)::l)):c.is k w=true:=by
 rw[h.is];simp
variable {f:PFl}
def ptI{q:ByteArray} {a b d:Nat} (h:St c ((1,imW,a)::(3,q,b)::(4,smW,d)::l)) (hf:f.im.length<30):St (c.pt f) l/\c.ptF f=⟨f.im++[q],f.ms,f.en⟩:=by
 obtain⟨e1,e2⟩:=zjo (f:=f) (h.no (.inl (by decide))) h.yes
 have r:c.rm (f.im.length:Int)=c:=znw (by omega)
 rw[e1,e2]
 unfold Cu.im Cu.imT
 rw[r,h.nx.an.2.1]
 exact⟨h.nx.an.1.nd,rfl⟩
def zfj(h:St c ((k,w,n)::l)) (hk:k≠5):z5w ⟨c,f⟩=true:=by
 show(decide (c.e=0)&& !decide (c.hd.1=5))=true
 rw[h.hd.1,decide_eq_true h.1,decide_eq_false hk];rfl
def zar(h:St c []):z5w ⟨c,f⟩=false:=by
 show(decide (c.e=0)&& !decide (c.hd.1=5))=false
 rw[h.hdE];simp
def syK:List K3:=[(1,mkS [115,121,110,116,97,120],0),(4,mkS [61],0),(3,mkS [112,114,111,116,111,51],0),(4,mkS [59],0)]
def St.sy(h:St c (syK++l)):St c.sy l:=by
 have h:St c ((1,mkS [115,121,110,116,97,120],0)::(4,mkS [61],0)::(3,mkS [112,114,111,116,111,51],0)::(4,mkS [59],0)::l):=h
 exact h.nd.nd.nd.nd
def St.start{x:SV} {T:List Tk} (h:T.map k3=l++[zim]):St ⟨x,T,0,0⟩ l:=⟨rfl,h⟩
end
def z5x:List Int->List Value
 | []=>[]
 |b::l=> .int .u8 b::z5x l
def byP(x:SV) (L:List Int) (p:Pub):Prop:=x.2.1=L.length/\qmr p x.1 x.2.1 x.2.2 (z5x L)
def zet(i:Nat):List Pq:=[([32],[105,109,112,111,114,116]),([32],[39,97+i,39]),([],[59])]
def zss(i:Nat):List Pq:=[([32],[109,101,115,115,97,103,101]),([32],[97+i]),([32],[123]),([32],[105,110,116,51,50]),([32],[120]),([32],[61]),([32],[49]),([],[59]),([32],[125])]
def zso(i:Nat):List Pq:=[([32],[101,110,117,109]),([32],[97+i]),([32],[123]),([32],[88]),([32],[61]),([32],[48]),([],[59]),([32],[125])]
def zsu:List Pq:=[([32],[59])]
def zhq:List Pq:=[([],[115,121,110,116,97,120]),([],[61]),([],[39,112,114,111,116,111,51,39]),([],[59])]
def kwVs:Array Value:= #[.string (mkS [100,111,117,98,108,101]), .string (mkS [102,108,111,97,116]), .string (mkS [105,110,116,51,50]), .string (mkS [105,110,116,54,52]), .string (mkS [117,105,110,116,51,50]), .string (mkS [117,105,110,116,54,52]), .string (mkS [115,105,110,116,51,50]), .string (mkS [115,105,110,116,54,52]), .string (mkS [102,105,120,101,100,51,50]), .string (mkS [102,105,120,101,100,54,52]), .string (mkS [115,102,105,120,101,100,51,50]), .string (mkS [115,102,105,120,101,100,54,52]), .string (mkS [98,111,111,108]), .string (mkS [115,116,114,105,110,103]), .string (mkS [98,121,116,101,115])]
def kwP(p:Pub):Prop:=∃e fr,p 0=some (.cells kwVs e fr)
def bgM:PF:=⟨true,λp=>hG.ok p/\kwP p,λ_ _ h e=>⟨PF.ok_mono h e.1,e.2.imp λ_ e=>e.imp λ_ e=>h _ _ e⟩⟩
def lwM(x:SV) (L:List Int):PF:=⟨true,λp=>byP x L p/\bgM.ok p,λ_ _ h e=>⟨⟨e.1.1,q6p h e.1.2⟩,PF.ok_mono h e.2⟩⟩
def z6v:Ct:=ctS Unit (λ_=>[]) (λ_=>some ()) (λ_=>True) (λ_=>bgM) λ_=> .sv (.bool true)
def z4d(a b:List Nat):mkS (a++b)=mkS a++mkS b:=by
 apply ByteArray.ext
 unfold mkS
 simp[List.map_append]
def z16(e:List Nat):∀a b:List Pq,z00 e (a++b)=z00 [] a++z00 e b
 | [],b=>rfl
 |x::a,b=>by rw[List.cons_append,z00,z00,z16 e a b];simp only[List.append_assoc]
def z4c{α:Type} {f:α->List Value} {k:Nat} (hk:∀x,(f x).length=k):∀(l:List α) {i:Nat} (hi:i<l.length) {j:Nat} (hj:j<k),(l.flatMap f)[i*k+j]? =(f l[i])[j]?
  | x::l,0,_,j,hj=>by
    rw[List.flatMap_cons,Nat.zero_mul,Nat.zero_add,List.getElem?_append_left (by rw[hk];exact hj)];rfl
  | x::l,i+1,hi,j,hj=>by
    rw[List.flatMap_cons,List.getElem?_append_right (by rw[hk,Nat.succ_mul];omega),hk,show(i+1)*k+j- k=i*k+j by rw[Nat.succ_mul];omega,z4c hk l (by simpa using hi) hj];rfl
def z5f{α:Type} {f:α->List Value} {k:Nat} (hk:∀x,(f x).length=k) {l:List α} {p:Pub} {a:Option Addr} (h:qoq p a (l.flatMap f)) {i:Nat} (hi:i<l.length) {j:Nat} (hj:j<k) {v:Value} (hv:(f l[i])[j]? =some v):a≠noA/\q4o p ((adr a (i*k)).add j) [v]:=by
  have e:=z4c hk l hi hj
  rcases h with⟨h,_⟩|⟨a,rfl,h1,h2⟩
  · rw[h,hv]at e;cases e
  · refine⟨by simp,λj' w hw=> ?_⟩
    cases j' with
    |succ j'=>simp at hw
    | zero=>
      have:w=v:=by simpa using hw.symm
      subst this
      show q88 p (((a.add (i*k)).add j).add 0)=some w
      rw[zi9 a h1]
      have:(a.add (i*k+j)).add 0=a.add (i*k+j):=by
        show(if(0:Nat)=0 then _ else _)=_
        rw[if_pos rfl]
      rw[this]
      exact h2 _ w (by rw[e,hv])
def znx{l:List ByteArray} {p:Pub} {a:Option Addr} (h:qoq p a (l.flatMap stV)) {i:Nat} (hi:i<l.length):a≠noA/\q4o p (adr a (i*1)) [.string l[i]]:=by
 have:=z5f (f:=stV) (k:=1) (λ_=>rfl) h hi (j:=0) (by decide) (v:= .string l[i]) rfl
 refine⟨this.1,?_⟩
 have e:∀b:Addr,b.add 0=b:=λb=>by
  show(if(0:Nat)=0 then _ else _)=_
  rw[if_pos rfl]
 rw[←e (adr a (i*1))];exact this.2
def z1v:∀(L:List Int) {i:Nat} (hi:i<L.length),(z5x L)[i]? =some (.int .u8 L[i])
  |b::L,0,_=>rfl
  | b::L,i+1,hi=>by
    show(z5x L)[i]? =_
    rw[z1v L (i:=i) (by simpa using hi)];rfl
def zn3{x:SV} {L:List Int} {p:Pub} (h:byP x L p) {i:Nat} (hi:i<L.length):x.1≠noA/\q4o p (adr x.1 (i*1)) [.int .u8 L[i]]:=by
  obtain⟨x1,n,c⟩:=x
  obtain⟨h1,h2⟩:=h
  rcases h2.2 with⟨h,_⟩|⟨a,rfl,h1,h2⟩
  · have:=z1v L hi
    rw[h]at this;cases this
  · refine⟨by simp,λj v hj=> ?_⟩
    cases j with
    |succ j=>simp at hj
    | zero=>
      show q88 p ((a.add (i*1)).add 0)=some v
      rw[zi9 a h1]
      exact h2 _ v (by rw[Nat.mul_one,Nat.add_zero,z1v L hi];exact hj)
end
end Go.Proofs.YtdaokgdnjaaofaaDoor.Wd
