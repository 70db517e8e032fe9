/-
  What the functions do: contracts, and their questions answered. No condition but what its theorems ask.
-/
import Derived.Test.YtjjambbdkbpdgaaU6
import Derived.Test.YtjjambbdkbpdgaaProg
import Derived.Laws.BitsAllLaws
import Derived.Lib.Index
import Derived.Test.YtjjambbdkbpdgaaSh
namespace Go.Proofs.Ytjjambbdkbpdgaa.Wd
open Go.Proofs.Ytjjambbdkbpdgaa.Eng Go.Proofs.Ytjjambbdkbpdgaa.Sen Go.RowKit
set_option linter.defProp false
set_option linter.unusedVariables false
set_option linter.unusedSimpArgs false
set_option maxRecDepth 1000000
open Go.Value (int string slice bool)
open Go.IntKind (i64 u64 u8 u32 i32)
open _root_.List (length take drop)
open _root_.ByteArray (size)
open _root_.Int (toNat)
noncomputable section
abbrev P:=Try.prog
def mixed:P.follows .mixedOrders=true:=by decide+kernel
theorem aok{calls:Nat->Option Ct} (hc:∀g C,calls g=some C->q7a P g C) {f:Nat} {fn:Func} {C:Ct} {W:C.σ->WayF} (hfn:P.funcs[f]? =some fn) (hv:∀s,qjz P calls fn C W s) (hb:q8l P f fn=true:=by kernel_rfl) (h1:1<=C.m:=by exact Nat.le_of_ble_eq_true rfl) (hle:C.m<=C.m':=by exact Nat.le_of_ble_eq_true rfl) (hn:∀s,Nat.ble (C.args s).length fn.ntmps=true:=by exactλ_=>by kernel_rfl):q7a P f C:=qk0 mixed hc hfn hb h1 hle hn hv
theorem sbS:(∀(p:Prop) [Decidable p],(decide p=true)=p)/\(∀(p:Prop) [Decidable p],(decide p=false)=¬p)/\(∀b:Bool,((!b)=true)=(b=false))/\(∀b:Bool,((!b)=false)=(b=true))/\(∀p,(True/\p)=p)/\(∀p,(p/\True)=p)/\(∀(α:Type) (a:α),(a=a)=True)/\(∀p:Prop,(p->p)=True)/\(∀α:Type,(α->True)=True)/\(∀p:Prop,(p->True)=True):=⟨λ_ _=>by simp,λ_ _=>by simp,by simp,by simp,by simp,by simp,by simp,by simp,by simp,by simp⟩
abbrev Jb(a:Int):Prop:=(-9223372036854775808:Int)<=a/\a<=9223372036854775807
abbrev Jt(p:Prop) [Decidable p]:Prop:=decide p=true
abbrev Jf(p:Prop) [Decidable p]:Prop:=decide p=false
abbrev Ji(p:Prop) [Decidable p] (a b:Prop):Prop:=(Jt p->a)/\(Jf p->b)
def isLet(c:Nat):Bool:=(c==95)|| (decide (65<=c)&&decide (c<=90))|| (decide (97<=c)&&decide (c<=122))
def z02(c:Nat):Bool:=decide (48<=c)&&decide (c<=57)
def z7v(c:Nat):Bool:=(decide (9<=c)&&decide (c<=13))|| (c==32)
def dv(c:Nat):Nat:=if 48<=c/\c<=57 then c- 48 else if 65<=c/\c<=70 then c- 55 else if 97<=c/\c<=102 then c- 87 else 16
def nmC(s:ByteArray) (j:Nat):Bool:=isLet (bat s j)||z02 (bat s j)|| ((bat s j==46)&&isLet (bat s (j+1)))
def nmF(s:ByteArray):Nat->Nat->Nat
 |0,j=>j
 |f+1,j=>if nmC s j then nmF s f (j+1)else j
def nmE(s:ByteArray) (j:Nat):Nat:=nmF s (s.size- j) j
def dgF(s:ByteArray) (B:Nat):Nat->Nat->Nat->Nat×Nat
 |0,j,v=>(j,v)
 |f+1,j,v=>if dv (bat s j)<B then dgF s B f (j+1) (v*B+dv (bat s j))else(j,v)
def dgE(s:ByteArray) (B j v:Nat):Nat×Nat:=dgF s B (s.size- j) j v
def nbB(s:ByteArray) (i:Nat):Nat:=if bat s i=48 then(if dv (bat s (i+2))<16/\(bat s (i+1)=120\/bat s (i+1)=88)then 16 else 8)else 10
def nbO(s:ByteArray) (i:Nat):Nat:=if bat s i=48 then(if dv (bat s (i+2))<16/\(bat s (i+1)=120\/bat s (i+1)=88)then 2 else 1)else 0
def nbR(s:ByteArray) (i:Nat):Nat×Nat×Nat:=
 let r:=dgE s (nbB s i) (i+nbO s i) 0
 if 18446744073709551616<=r.2 then(3,0,i)else
 if isLet (bat s r.1)||z02 (bat s r.1)|| (bat s r.1==46)then(2,0,i)else(0,r.2,r.1)
def esc(c:Nat):Option Nat:=if c=92\/c=34\/c=39 then some c else if c=110 then some 10 else none
def txF (s:ByteArray) (q:Nat):Nat->Nat->List Nat->Option (List Nat×Nat)
  |0,_,_=>none
  | f + 1,j,acc=>if j<s.size then
      if bat s j=q then some (acc,j+1)else if bat s j=10 then none else if bat s j=92 then
        match esc (bat s (j+1))with
        |some c=>txF s q f (j+2) (acc++[c])
        |none=>none
      else txF s q f (j+1) (acc++[bat s j])
    else none
def txE(s:ByteArray) (q j:Nat) (acc:List Nat):Option (List Nat×Nat):=txF s q (s.size+1- j) j acc
def bs(l:List Nat):ByteArray:=⟨⟨l.map UInt8.ofNat⟩⟩
def zb9(k:Nat) (t:ByteArray) (n a:Nat):AV:= .agg [.sv (.int .i64 (k:Nat)), .sv (.string t), .sv (.int .u64 (n:Nat)), .sv (.int .i64 (a:Nat))]
def cur(s:ByteArray) (i:Int):List (Nat×AO):=[(1, .cells 46 (some 0) false [.sv (.string s), .sv (.int .i64 i)])]
def z5g(h:T AO) (id:Nat):Option (ByteArray×Int):=match h.get id with
  | some (.cells _ _ _ [a,b])=>match gs a with
    | some s=>match gi b with
      |some (_,i)=>some (s,i)
      |none=>none
    |none=>none
  |_=>none
def z0t:Ct where
  σ:=ByteArray×Int×Int
  args:=λ⟨s,i,d⟩=>[.ptr 1 0, .sv (.int .i64 d)]
  h:=λ⟨s,i,d⟩=>cur s i
  m:=2
  pre:=λ⟨s,i,d⟩=>0<=i/\i<=s.size/\s.size<1000000/\0<=d/\d<1000000
  find:=some λl h=>match l with
    | [.ptr id _,a]=>match gi a with
      | some (_,d)=>match z5g h id with
        |some (s,i)=>some (s,i,d)
        |none=>none
      |none=>none
    |_=>none
  r:=λ⟨s,i,d⟩=> .sv (.int .u8 (bat s (i+d).toNat:Nat))
  h':=λ⟨s,i,d⟩=>cur s i
  m':=2
  g:=λ_=>none
def z5f(pre:ByteArray->Int->Prop) (r:ByteArray->Int->AV) (to:ByteArray->Int->Int):Ct where
 σ:=ByteArray×Int
 args:=λ⟨s,i⟩=>[.ptr 1 0]
 h:=λ⟨s,i⟩=>cur s i
 m:=2
 pre:=λ⟨s,i⟩=>pre s i
 find:=some λl h=>match l with
  | [.ptr id _]=>z5g h id
  |_=>none
 r:=λ⟨s,i⟩=>r s i
 h':=λ⟨s,i⟩=>cur s (to s i)
 m':=2
 g:=λ_=>none
def zai:Ct:=z5f (λs i=>0<=i/\i<=s.size) (λs i=> .sv (.string (s.extract i.toNat s.size))) λs i=>i
def z0g(s p:ByteArray):Bool:=decide (p.size<=s.size)&&decide (s.extract 0 p.size=p)
def f1s:List Value->Option ByteArray
 | [.string s]=>some s
 |_=>none
def f2s:List Value->Option (ByteArray×ByteArray)
 | [.string s, .string p]=>some (s,p)
 |_=>none
def fsi:List Value->Option (ByteArray×Int)
 | [.string s, .int _ c]=>some (s,c)
 |_=>none
def f1i:List Value->Option Int
 | [.int _ c]=>some c
 |_=>none
def f2i:List Value->Option (Int×Int)
 | [.int _ c, .int _ d]=>some (c,d)
 |_=>none
def z0d:Ct:=ctS (ByteArray×ByteArray) (λ⟨s,p⟩=>[.string s, .string p]) f2s (λ_=>True) (λ_=>{}) λ⟨s,p⟩=> .sv (.bool (z0g s p))
def z12:Ct:=ctS (ByteArray×Int) (λ⟨s,c⟩=>[.string s, .int .u8 c]) fsi (λ⟨s,c⟩=>0<=c/\c<256) (λ_=>{}) λ⟨s,c⟩=> .sv (.int .i64 (Lib.indexByte s.data.toList (UInt8.ofNat c.toNat)))
def hG:PF:=⟨true,λp=>∃m:Int,q5o p ⟨0,0,none⟩=some (.int .i64 m),λ_ _ h e=>e.imp λ_ e=>q9h h e⟩
def z9o:Ct:=ctS (ByteArray×ByteArray) (λ⟨s,p⟩=>[.string s, .string p]) f2s (λ⟨s,c⟩=>s.size<4294967281) (λ_=>hG) λ⟨s,p⟩=> .sv (.int .i64 (Lib.index s.data.toList p.data.toList))
def z0h:Ct:=ctS Int (λc=>[.int .u8 c]) f1i (λc=>0<=c/\c<256) (λ_=>{}) λc=> .sv (.bool (isLet c.toNat))
def z0r:Ct:=ctS Int (λc=>[.int .u8 c]) f1i (λc=>0<=c/\c<256) (λ_=>{}) λc=> .sv (.bool (z02 c.toNat))
def z5c:Ct:=ctS (Int×Int) (λ⟨c,B⟩=>[.int .u8 c, .int .u64 B]) f2i (λ⟨c,B⟩=>(0<=c/\c<256)/\0<=B/\B<=16) (λ_=>{}) λ⟨c,B⟩=> .tup [.sv (.int .u64 (dv c.toNat:Nat)), .sv (.bool (decide (dv c.toNat<B)))]
def z1x:Ct:=ctS Int (λc=>[.int .u8 c]) f1i (λc=>0<=c/\c<256) (λ_=>{}) λc=> .tup [.sv (.int .u8 ((esc c.toNat).getD 0:Nat)), .sv (.bool (esc c.toNat).isSome)]
def z7m:Ct:=z5f (λs i=>0<=i/\i<s.size/\s.size<100000) (λs i=>zb9 1 (s.extract i.toNat (nmE s (i.toNat+1))) 0 i.toNat) λs i=>nmE s (i.toNat+1)
def zda:Nat->Option Ct:=qfl [(20,z0t),(25,z0h),(27,z0r)]
def zcf(s:ByteArray) (pre:Int->Prop) (keep:List Nat):LT:={σ:=Int,pre:=pre,find:=some λ_ h=>match z5g h 1 with|some (_,j)=>some j|none=>none,t:=λ_=>[],h:=λj=>cur s j,more:=0,μ:=λj=>s.size- j.toNat,keep:=keep}
def zdm:z7m.σ->WayF:=λ⟨s,i⟩=>{ann:=λ_ _ _=>some (zcf s (λj=>i<j/\j<=s.size/\nmE s j.toNat=nmE s (i.toNat+1)) [0,2,3])}
section
def z08:∀g C,(λ_=>none:Nat->Option Ct) g=some C->q7a P g C:=λg C h=>by cases h
def z03(s:ByteArray) (j:Nat):bat s j<256:=by unfold bat;exact UInt8.toNat_lt _
variable {s:ByteArray} {j:Nat}
def z09(h:s.size<=j):bat s j=0:=by
 unfold bat
 rw[getElem?_neg s j (by omega)];rfl
def z14(h:j<s.size):bat s j=s[j].toNat:=by
 unfold bat
 rw[getElem?_pos s j h];rfl
def z59(s:ByteArray) (i d:Int):qjz P ((λ_=>none)) Try.f20 z0t (λ_=>{}) ⟨s,i,d⟩=((0:Int)<=i/\i<=(↑(size s):Int)/\size s<(1000000:Nat)/\(0:Int)<=d/\d<(1000000:Int)->((-9223372036854775808:Int)<=i+d/\i+d<=(9223372036854775807:Int))/\(decide (i+d<(↑(size s):Int))=true->((-9223372036854775808:Int)<=i+d/\i+d<=(9223372036854775807:Int))/\((0:Int)<=i+d/\i+d<(↑(size s):Int))/\(↑(bat s (toNat (i+d))):Int)=(↑(bat s (toNat (i+d))):Int)/\s=s/\i=i/\True)/\(decide (i+d<(↑(size s):Int))=false->(↑(bat s (toNat (i+d))):Int)=(0:Int)/\s=s/\i=i/\True)):=by kernel_rfl
def z0l:q7a P 20 z0t:=by
 refine qk0 mixed z08 (W:=λ_=>{}) Try.func20 (by kernel_rfl) (by decide) (by decide) (λ⟨s,i,d⟩=>by kernel_rfl) λ⟨s,i,d⟩=>(z59 s i d).mpr ?_
 simp only[decide_eq_true_eq,decide_eq_false_iff_not,and_true,true_and]
 intro h
 refine⟨by omega,λh4=>by omega,λh4=> ?_⟩
 rw[z09 (by omega)];rfl
def zar(s:ByteArray) (i:Int):qjz P ((λ_=>none)) Try.f22 zai (λ_=>{}) ⟨s,i⟩=((0:Int)<=i/\i<=(↑(ByteArray.size s):Int)->((0:Int)<=i/\i<=(↑(ByteArray.size s):Int))/\ByteArray.extract s (Int.toNat i) (ByteArray.size s)=ByteArray.extract s (Int.toNat i) (ByteArray.size s)/\s=s/\i=i/\True):=by kernel_rfl
def zas:q7a P 22 zai:=by
 refine qk0 mixed z08 (W:=λ_=>{}) Try.func22 (by kernel_rfl) (by decide) (by decide) (λ⟨s,i⟩=>by kernel_rfl) λ⟨s,i⟩=>(zar s i).mpr ?_
 intro h
 exact⟨h,rfl,rfl,rfl,trivial⟩
def z5q(c:Int):qjz P ((λ_=>none)) Try.f25 z0h (λ_=>{}) c=((0:Int)<=c/\c<(256:Int)->(decide (c=(95:Int))=true->isLet (toNat c)=true/\True)/\(decide (c=(95:Int))=false->(decide ((97:Int)<=qaw BinOp.or u8 c (32:Int))=true->isLet (toNat c)=decide (qaw BinOp.or u8 c (32:Int)<=(122:Int))/\True)/\(decide ((97:Int)<=qaw BinOp.or u8 c (32:Int))=false->isLet (toNat c)=false/\True))):=by kernel_rfl
def z1i:q7a P 25 z0h:=by
 refine qk0 mixed z08 (W:=λ_=>{}) Try.func25 (by kernel_rfl) (by decide) (by decide) (λc=>by kernel_rfl) λ(c:Int)=>(z5q c).mpr ?_
 rintro⟨h1,h2⟩
 obtain⟨n,rfl⟩:=Int.eq_ofNat_of_zero_le h1
 have hn:n<256:=by omega
 clear h1 h2
 revert n
 decide+kernel
def z7r(c:Int):qjz P ((λ_=>none)) Try.f27 z0r (λ_=>{}) c=((0:Int)<=c/\c<(256:Int)->(decide ((48:Int)<=c)=true->z02 (Int.toNat c)=decide (c<=(57:Int))/\True)/\(decide ((48:Int)<=c)=false->z02 (Int.toNat c)=false/\True)):=by kernel_rfl
def z1a:q7a P 27 z0r:=by
 refine qk0 mixed z08 (W:=λ_=>{}) Try.func27 (by kernel_rfl) (by decide) (by decide) (λc=>by kernel_rfl) λ(c:Int)=>(z7r c).mpr ?_
 rintro⟨h1,h2⟩
 obtain⟨n,rfl⟩:=Int.eq_ofNat_of_zero_le h1
 have hn:n<256:=by omega
 clear h1 h2
 revert n
 decide+kernel
def z88:∀g C,zda g=some C->q7a P g C:=qda (qgx z0l (qgx z1i (qgx z1a qjn)))
def z38(h:s.size<=j):nmC s j=false:=by
 unfold nmC
 rw[z09 h]
 rfl
def z29(s:ByteArray) (j:Nat) (h:j<=s.size):nmE s j=if nmC s j=true then nmE s (j+1)else j:=by
  unfold nmE
  cases hj:s.size- j with
  | zero=>
    rw[z38 (by omega)];simp[nmF]
  | succ f=>
    rw[show s.size- (j+1)=f by omega]
    simp[nmF]
section
variable (x0:Int) (x1:ByteArray) (x2:Int) (x3:Prop)
 abbrev zh5:=Jb (x0+1)
 def zg5:=x2=x2/\x1=x1/\x0=x0/\(0<=x0/\x0<=(↑(size x1):Int)/\size x1<1000000/\0<=x2/\x2<1000000)/\(↑(bat x1 (toNat (x0+x2))):Int)=(↑(bat x1 (toNat (x0+x2))):Int)/\(0<=(↑(bat x1 (toNat (x0+x2))):Int)/\(↑(bat x1 (toNat (x0+x2))):Int)<256)/\x3
 abbrev zac:=(↑(bat x1 (toNat (x0+x2))):Int)
 def zg4:=zh5 x0/\x2=x2/\x1=x1/\x0+1=x0+1/\(x2<x0+1/\x0+1<=(↑(size x1):Int)/\nmE x1 (toNat (x0+1))=nmE x1 (toNat x2+1))/\size x1- toNat (x0+1)<size x1- toNat x0/\True
 def zh4:=(0<=x0/\x0<=x2/\x2<=(↑(size x1):Int))/\(↑(1:Nat):Int)=1/\ByteArray.extract x1 (toNat x0) (nmE x1 (toNat x0+1))=ByteArray.extract x1 (toNat x0) (toNat x2)/\(↑(0:Nat):Int)=0/\(↑(toNat x0):Int)=x0/\x1=x1/\Int.ofNat (nmE x1 (toNat x0+1))=x2/\True
 def zi9:=(0:Int)=0/\x1=x1/\x0=x0/\(0<=x0/\x0<=(↑(size x1):Int)/\size x1<1000000/\(0:Int)<=0/\(0:Int)<1000000)/\Ji ((zac x0 x1 0)=46) (zg5 x0 x1 1 ((isLet (toNat (zac x0 x1 1))=true->zg4 x0 x1 x2)/\(isLet (toNat (zac x0 x1 1))=false->zh4 x2 x1 x0))) (zh4 x2 x1 x0)
 def zi8:=zg5 x0 x1 0 ((z02 (toNat (zac x0 x1 0))=true->zg4 x0 x1 x2)/\(z02 (toNat (zac x0 x1 0))=false->zi9 x0 x1 x2))
 def zi7:=zg5 x0 x1 0 ((isLet (toNat (zac x0 x1 0))=true->zg4 x0 x1 x2)/\(isLet (toNat (zac x0 x1 0))=false->zi8 x0 x1 x2))
 def zi6:=zh5 x0/\(x0=x0/\x1=x1/\x0+1=x0+1/\(x0<x0+1/\x0+1<=(↑(size x1):Int)/\nmE x1 (toNat (x0+1))=nmE x1 (toNat x0+1))/\True)/\∀(i0:Int),x0<i0/\i0<=(↑(size x1):Int)/\nmE x1 (toNat i0)=nmE x1 (toNat x0+1)->zi7 i0 x1 x0
end
def z7y(s:ByteArray) (i:Int):qjz P (zda) Try.f26 z7m (zdm) ⟨s,i⟩=(0<=i/\i<(↑(size s):Int)/\size s<100000->zi6 i s):=by kernel_rfl
def zb0:=λs i=>Eq.trans (z7y s i) (by delta Ji Jb Jt Jf zh5 zg5 zac zg4 zh4 zi9 zi8 zi7 zi6;exact rfl)
def zb1:q7a P 26 z7m:=by
 refine qk0 mixed z88 (W:=zdm) Try.func26 (by kernel_rfl) (by decide) (by decide) (λ⟨s,i⟩=>by kernel_rfl) λ⟨s,i⟩=>(zb0 s i).mpr ?_
 simp only[decide_eq_true_eq,decide_eq_false_iff_not,and_true,true_and,Int.toNat_natCast,Int.add_zero]
 intro h
 obtain⟨n,rfl⟩:=Int.eq_ofNat_of_zero_le h.1
 refine⟨by omega,by simp;omega,λj hj=> ?_⟩
 obtain⟨m,rfl⟩:=Int.eq_ofNat_of_zero_le (show 0<=j by omega)
 have e1:((m:Int)+1).toNat=m+1:=by omega
 simp only[Int.toNat_natCast,e1]at hj⊢
 have hs:=z29 s m (by omega)
 have b1:=z03 s m
 have b2:=z03 s (m+1)
 have hin:nmC s m=true->m<s.size:=λh=>by
  rcases Nat.lt_or_ge m s.size with h1|h1
  ·exact h1
  ·rw[z38 h1]at h;cases h
 have yes:nmC s m=true->(n:Int)<(m:Int)+1/\(m:Int)+1<=s.size/\nmE s (m+1)=nmE s (n+1):=λh=>by
  rw[if_pos h]at hs
  have:=hin h
  exact⟨by omega,by omega,hs ▸ hj.2.2⟩
 have no:nmC s m=false->nmE s (n+1)=m:=λh=>by
  rw[if_neg (by rw[h];simp)]at hs
  rw[←hj.2.2,hs]
 refine⟨by omega,by omega,λa1=> ?_,λa1=>⟨by omega,by omega,λa2=> ?_,λa2=>⟨by omega,λa3=>⟨by omega,by omega,λa4=> ?_,λa4=> ?_⟩,λa3=> ?_⟩⟩⟩
 ·have y:=yes (by unfold nmC;rw[a1];rfl)
  exact⟨by omega,y,by omega⟩
 ·have y:=yes (by unfold nmC;rw[a2];simp)
  exact⟨by omega,y,by omega⟩
 ·have y:=yes (by unfold nmC;rw[a4,show bat s m=46 by omega];simp)
  exact⟨by omega,y,by omega⟩
 ·rw[no (by unfold nmC;rw[a1,a2,a4];simp)]
  exact⟨by omega,by simp⟩
 ·rw[no (by unfold nmC;rw[a1,a2];simp;intro h;exact absurd h (by omega))]
  exact⟨by omega,by simp⟩
end
def ldN(c:Nat):Nat:=if c<128 then 1 else if 192<=c/\c<224 then 2 else if 224<=c/\c<240 then 3 else if 240<=c/\c<248 then 4 else 0
def ldV(c:Nat):Nat:=if c<128 then c else if 192<=c/\c<224 then c- 192 else if 224<=c/\c<240 then c- 224 else if 240<=c/\c<248 then c- 240 else 0
def ctC(c:Nat):Bool:=decide (128<=c)&&decide (c<192)
def vlF(s:ByteArray):Nat->Option Nat
  |0=>some 0
  |1=>some (ldV (bat s 0))
  | i+2=>match vlF s (i+1)with
    |some r=>if ctC (bat s (i+1))=true then some (r*64+(bat s (i+1)- 128))else none
    |none=>none
def lnN(r:Nat):Nat:=if r<128 then 1 else if r<2048 then 2 else if r<65536 then 3 else 4
def isC(r:Nat):Bool:=decide (r<=1114111)&& !(decide (55296<=r)&&decide (r<=57343))
def frt(s:ByteArray):Nat:=if s.size<ldN (bat s 0)then 0 else match vlF s (ldN (bat s 0))with
 |none=>0
 |some r=>if ldN (bat s 0)=0\/isC r=false\/lnN r≠ldN (bat s 0)then 0 else ldN (bat s 0)
def z6k:Nat->ByteArray->Bool
 |0,_=>true
 |f+1,s=>if s.size=0 then true else if frt s=0 then false else z6k f (s.extract (frt s) s.size)
def vld(s:ByteArray):Bool:=z6k s.size s
def zah:Ct:=ctS Int (λc=>[.int .u8 c]) f1i (λc=>0<=c/\c<256) (λ_=>{}) λc=> .tup [.sv (.int .i64 (ldN c.toNat:Nat)), .sv (.int .u32 (ldV c.toNat:Nat))]
def cIs:Ct:=ctS Int (λc=>[.int .u32 c]) f1i (λc=>0<=c/\c<4294967296) (λ_=>{}) λc=> .sv (.bool (isC c.toNat))
def z32:Ct:=ctS Int (λc=>[.int .u32 c]) f1i (λc=>0<=c/\c<4294967296) (λ_=>{}) λc=> .sv (.int .i64 (lnN c.toNat:Nat))
def z3p:Ct:=ctS ByteArray (λs=>[.string s]) f1s (λs=>0<s.size/\s.size<1000000) (λ_=>{}) λs=> .sv (.int .i64 (frt s:Nat))
def z15:Ct:=ctS ByteArray (λs=>[.string s]) f1s (λs=>s.size<1000000) (λ_=>{}) λs=> .sv (.bool (vld s))
def slI(t:T AV) (k:Nat):Option Int:=match t.get k with
  | some a=>match gi a with
    |some (_,n)=>some n
    |none=>none
  |none=>none
def slS(t:T AV) (k:Nat):Option ByteArray:=match t.get k with
 |some a=>gs a
 |none=>none
def za5:z3p.σ->WayF:=λs=>{ann:=λ_ _ _=>some {σ:=Int×Int,pre:=λ⟨r,i⟩=>1<=i/\(i<=ldN (bat s 0)\/i=1)/\∃q:Nat,r=q/\(ldN (bat s 0)=0\/vlF s i.toNat=some q),find:=some λt _=>match slI t 4 with|some r=>(match slI t 5 with|some i=>some (r,i)|none=>none)|none=>none,t:=λ⟨r,i⟩=>[(4, .sv (.int .u32 r)),(5, .sv (.int .i64 i))],h:=λ_=>[],more:=0,μ:=λ⟨r,i⟩=>5- i.toNat,keep:=[0,2,3]}}
def za0:Nat->Option Ct:=qfl [(58,zah),(59,cIs),(60,z32)]
def zaa:z15.σ->WayF:=λs=>{ann:=λ_ _ _=>some {σ:=ByteArray,pre:=λt=>t.size<=s.size/\vld t=vld s,find:=some λt _=>slS t 0,t:=λu=>[(0, .sv (.string u))],h:=λ_=>[],more:=0,μ:=λu=>u.size,keep:=[2]}}
def zdc:Nat->Option Ct:=qfl [(55,z3p)]
def zcv(c:Nat):ldN c<=4:=by
 unfold ldN;repeat' split
 all_goals omega
def zcx(c:Nat):ldV c<128:=by
 unfold ldV;repeat' split
 all_goals omega
section
variable (x0 x1 x2:Int)
 abbrev zie:=(↑(ldN (toNat x0)):Int)=1/\(↑(ldV (toNat x0)):Int)=IntKind.wrap u32 x0/\True
 abbrev zg7:=shP BinOp.shr u8 x0 x1=x2
 def zg6:=(↑(ldN (toNat x0)):Int)=x1/\(↑(ldV (toNat x0)):Int)=IntKind.wrap u32 (qaw BinOp.and u8 x0 x2)/\True
 def zif:=(↑(ldN (toNat x0)):Int)=0/\(↑(ldV (toNat x0)):Int)=0/\True
 def zid:=(0:Int)<=3/\Ji (zg7 x0 3 30) (zg6 x0 4 7) (zif x0)
 def zic:=(0:Int)<=4/\Ji (zg7 x0 4 14) (zg6 x0 3 15) (zid x0)
 def zib:=(0:Int)<=5/\Ji (zg7 x0 5 6) (zg6 x0 2 31) (zic x0)
 def zia:=Ji (x0<128) (zie x0) (zib x0)
end
def z7w(c:Int):qjz P ((λ_=>none)) Try.f58 zah (λ_=>{}) c=(0<=c/\c<256->zia c):=by kernel_rfl
def zap:=λc=>Eq.trans (z7w c) (by delta Ji Jt Jf zie zg7 zg6 zif zid zic zib zia;exact rfl)
def zgt:∀c<256,¬c<128->(decide (shP BinOp.shr IntKind.u8 (c:Nat) 5=6)=(decide (192<=c)&&decide (c<224)))/\(decide (shP BinOp.shr IntKind.u8 (c:Nat) 4=14)=(decide (224<=c)&&decide (c<240)))/\(decide (shP BinOp.shr IntKind.u8 (c:Nat) 3=30)=(decide (240<=c)&&decide (c<248))):=by decide+kernel
def zgu:∀c<256,IntKind.wrap IntKind.u32 ((c:Nat):Int)=(c:Nat)/\(192<=c->c<224->IntKind.wrap IntKind.u32 (qaw BinOp.and IntKind.u8 (c:Nat) 31)=((c- 192:Nat):Int))/\(224<=c->c<240->IntKind.wrap IntKind.u32 (qaw BinOp.and IntKind.u8 (c:Nat) 15)=((c- 224:Nat):Int))/\(240<=c->c<248->IntKind.wrap IntKind.u32 (qaw BinOp.and IntKind.u8 (c:Nat) 7)=((c- 240:Nat):Int)):=by decide+kernel
def zaq:q7a P 58 zah:=by
 refine qk0 mixed z08 (W:=λ_=>{}) Try.func58 (by kernel_rfl) (by decide) (by decide) (λc=>by kernel_rfl) λ(c:Int)=>(zap c).mpr ?_
 rintro⟨h1,h2⟩
 obtain⟨n,rfl⟩:=Int.eq_ofNat_of_zero_le h1
 have hn:n<256:=by omega
 obtain⟨b0,b1,b2,b3⟩:=zgu n hn
 simp only[Int.toNat_natCast,and_true,decide_eq_true_eq,decide_eq_false_iff_not]
 refine⟨λh=> ?_,λh=>⟨by omega,?_⟩⟩
 ·unfold ldN ldV;rw[if_pos (by omega),if_pos (by omega),b0];simp
 have hg:¬n<128:=by omega
 obtain⟨a1,a2,a3⟩:=zgt n hn hg
 have a1:(shP BinOp.shr IntKind.u8 (n:Nat) 5=6)↔(192<=n/\n<224):=by
  rw[←decide_eq_true_iff (p:=shP BinOp.shr IntKind.u8 (n:Nat) 5=6),a1];simp
 have a2:(shP BinOp.shr IntKind.u8 (n:Nat) 4=14)↔(224<=n/\n<240):=by
  rw[←decide_eq_true_iff (p:=shP BinOp.shr IntKind.u8 (n:Nat) 4=14),a2];simp
 have a3:(shP BinOp.shr IntKind.u8 (n:Nat) 3=30)↔(240<=n/\n<248):=by
  rw[←decide_eq_true_iff (p:=shP BinOp.shr IntKind.u8 (n:Nat) 3=30),a3];simp
 rw[a1,a2,a3]
 refine⟨λg=> ?_,λg=>⟨by omega,λg2=> ?_,λg2=>⟨by omega,λg3=> ?_,λg3=> ?_⟩⟩⟩
 ·unfold ldN ldV
  rw[if_neg hg,if_pos g,if_neg hg,if_pos g,b1 g.1 g.2];simp
 ·unfold ldN ldV
  rw[if_neg hg,if_neg g,if_pos g2,if_neg hg,if_neg g,if_pos g2,b2 g2.1 g2.2];simp
 ·unfold ldN ldV
  rw[if_neg hg,if_neg g,if_neg g2,if_pos g3,if_neg hg,if_neg g,if_neg g2,if_pos g3,b3 g3.1 g3.2];simp
 ·unfold ldN ldV
  rw[if_neg hg,if_neg g,if_neg g2,if_neg g3,if_neg hg,if_neg g,if_neg g2,if_neg g3];simp
def zcr(c:Int):qjz P ((λ_=>none)) Try.f59 cIs (λ_=>{}) c=((0:Int)<=c/\c<(4294967296:Int)->(decide (c<=(1114111:Int))=true->(0:Int)<=(11:Int)/\isC (Int.toNat c)= !decide (shP BinOp.shr IntKind.u32 c (11:Int)=(27:Int))/\True)/\(decide (c<=(1114111:Int))=false->isC (Int.toNat c)=false/\True)):=by kernel_rfl
def zgr:q7a P 59 cIs:=by
 refine qk0 mixed z08 (W:=λ_=>{}) Try.func59 (by kernel_rfl) (by decide) (by decide) (λc=>by kernel_rfl) λ(c:Int)=>(zcr c).mpr ?_
 rintro⟨h1,h2⟩
 obtain⟨n,rfl⟩:=Int.eq_ofNat_of_zero_le h1
 simp only[Int.toNat_natCast,and_true,decide_eq_true_eq,decide_eq_false_iff_not,isC]
 refine⟨λh=>⟨by omega,?_⟩,λh=> ?_⟩
 ·have:shP BinOp.shr IntKind.u32 (n:Nat) 11=((n / 2048:Nat):Int):=by
   show(n:Int).fdiv (2 ^ 11)=_
   rw[Int.fdiv_eq_ediv_of_nonneg _ (by decide)];omega
  rw[this]
  by_cases g:55296<=n/\n<=57343
  ·have e:n / 2048=27:=by omega
   rw[e];simp;omega
  ·have e:n / 2048≠27:=by omega
   have e2:¬((n / 2048:Nat):Int)=27:=by omega
   rw[decide_eq_false e2]
   simp;omega
 ·rw[decide_eq_false (by omega)];rfl
def z4h(c:Int):qjz P ((λ_=>none)) Try.f60 z32 (λ_=>{}) c=((0:Int)<=c/\c<(4294967296:Int)->(decide (c<(128:Int))=true->(↑(lnN (toNat c)):Int)=(1:Int)/\True)/\(decide (c<(128:Int))=false->(decide (c<(2048:Int))=true->(↑(lnN (toNat c)):Int)=(2:Int)/\True)/\(decide (c<(2048:Int))=false->(decide (c<(65536:Int))=true->(↑(lnN (toNat c)):Int)=(3:Int)/\True)/\(decide (c<(65536:Int))=false->(↑(lnN (toNat c)):Int)=(4:Int)/\True)))):=by kernel_rfl
def z5p:q7a P 60 z32:=by
 refine qk0 mixed z08 (W:=λ_=>{}) Try.func60 (by kernel_rfl) (by decide) (by decide) (λc=>by kernel_rfl) λ(c:Int)=>(z4h c).mpr ?_
 rintro⟨h1,h2⟩
 simp only[and_true,decide_eq_true_eq,decide_eq_false_iff_not,lnN]
 refine⟨λh=> ?_,λh=>⟨λg=> ?_,λg=>⟨λk=> ?_,λk=> ?_⟩⟩⟩
 ·rw[if_pos (by omega)];rfl
 ·rw[if_neg (by omega),if_pos (by omega)];rfl
 ·rw[if_neg (by omega),if_neg (by omega),if_pos (by omega)];rfl
 ·rw[if_neg (by omega),if_neg (by omega),if_neg (by omega)];rfl
def ct1:∀c<256,decide (shP BinOp.shr IntKind.u8 (c:Nat) 6=2)=ctC c:=by decide+kernel
def ct2:∀c<256,ctC c=true->IntKind.wrap IntKind.u32 (qaw BinOp.and IntKind.u8 (c:Nat) 63)=((c- 128:Nat):Int)/\c- 128<64:=by decide+kernel
def z48(s:ByteArray):∀(i r:Nat),vlF s i=some r->i<=4->r<128*64 ^ (i- 1)
  |0,r,h,_=>by simp[vlF]at h;subst h;decide
  | 1,r,h,_=>by
    simp[vlF]at h
    have:=zcx (bat s 0)
    rw[h]at this;simpa using this
  | i + 2,r,h,hi=>by
    simp only[vlF]at h
    split at h
    · rename_i q hq
      have ih:=z48 s (i+1) q hq (by omega)
      split at h
      · rename_i hc
        cases h
        have:=z03 s (i+1)
        simp[ctC]at hc
        have e:i+1- 1=i:=by omega
        have e2:i+2- 1=i+1:=by omega
        rw[e]at ih
        rw[e2,Nat.pow_succ]
        omega
      · cases h
    · cases h
def zmh(r d:Nat) (hr:r<67108864) (hd:d<64):qaw BinOp.or IntKind.u32 (shP BinOp.shl IntKind.u32 (r:Int) 6) (d:Int)=((r*64+d:Nat):Int):=by
 have e:shP BinOp.shl IntKind.u32 (r:Int) 6=((r*64:Nat):Int):=by
  show IntKind.u32.wrap ((r:Int)*2 ^ 6)=_
  unfold IntKind.wrap;simp[IntKind.bits,IntKind.signed];omega
 rw[e]
 have h0:=u32_or_nat (r*64) d (by omega) (by omega)
 have h1:qaw BinOp.or IntKind.u32 ((r*64:Nat):Int) (d:Int)=bits .or .u32 ((r*64:Nat):Int) (d:Int):=rfl
 rw[h1,h0]
 congr 1
 have h:=Nat.two_pow_add_eq_or_of_lt (i:=6) (b:=d) hd r
 rw[show 2 ^ 6*r=r*64 by omega]at h
 exact h.symm
def z49(s:ByteArray) (i j:Nat) (hij:i<=j) (h1:1<=i) (h:vlF s i=none):vlF s j=none:=by
  induction j with
  |zero=>omega
  | succ j ih=>
    by_cases e:i=j+1
    · subst e;exact h
    · have:=ih (by omega)
      cases j with
      |zero=>omega
      |succ j=>simp only[vlF];rw[this]
section
variable (x0:ByteArray) (x1:Int×Int)
 abbrev z6q:=(↑(ldN (toNat (↑(bat x0 0):Int))):Int)
 def zcb:=(↑(frt x0):Int)=0/\True
 abbrev z8n:=(↑(ldV (toNat (↑(bat x0 0):Int))):Int)
 def zbf:= !decide (shP BinOp.shr u8 (↑(bat x0 (toNat x1.2)):Int) (6:Int)=2)
 abbrev z8m:=IntKind.wrap u32 (qaw BinOp.and u8 (↑(bat x0 (toNat x1.2)):Int) 63)
 def zik:=(0:Int)<=6/\(0<=x1.2/\x1.2<(↑(size x0):Int))/\Jb (x1.2+1)/\x0=x0/\(z6q x0)=(z6q x0)/\x1.2+1=x1.2+1/\qaw BinOp.or u32 (shP BinOp.shl u32 x1.1 6) (z8m x0 x1)=qaw BinOp.or u32 (shP BinOp.shl u32 x1.1 6) (z8m x0 x1)/\(1<=x1.2+1/\(x1.2+1<=(↑(ldN (bat x0 0)):Int)\/x1.2+1=1)/\∃(i0:Nat),qaw BinOp.or u32 (shP BinOp.shl u32 x1.1 6) (z8m x0 x1)=(↑i0:Int)/\(ldN (bat x0 0)=0\/vlF x0 (toNat (x1.2+1))=some i0))/\(5:Nat)- toNat (x1.2+1)<5- toNat x1.2/\True
 def zij:=(0<=x1.2/\x1.2<(↑(size x0):Int))/\(0:Int)<=6/\((zbf x0 x1)=true->zcb x0)/\((zbf x0 x1)=false->zik x0 x1)
 def zin:=x1.1=x1.1/\(0<=x1.1/\x1.1<4294967296)/\((!decide ((↑(lnN (toNat x1.1)):Int)=(z6q x0)))=true->zcb x0)/\((!decide ((↑(lnN (toNat x1.1)):Int)=(z6q x0)))=false->(↑(frt x0):Int)=(z6q x0)/\True)
 def zim:=x1.1=x1.1/\(0<=x1.1/\x1.1<4294967296)/\((!isC (toNat x1.1))=true->zcb x0)/\((!isC (toNat x1.1))=false->zin x0 x1)
 def zil:=Ji ((z6q x0)=0) (zcb x0) (zim x0 x1)
 def zii:=Ji (x1.2<(z6q x0)) (zij x0 x1) (zil x0 x1)
 def zih:=(x0=x0/\(z6q x0)=(z6q x0)/\(1:Int)=1/\(z8n x0)=(z8n x0)/\((1:Int)<=1/\(1<=(↑(ldN (bat x0 0)):Int)\/(1:Int)=1)/\∃(i0:Nat),(z8n x0)=(↑i0:Int)/\(ldN (bat x0 0)=0\/vlF x0 (1:Nat)=some i0))/\True)/\∀(i1:Int×Int),(1<=i1.2/\(i1.2<=(↑(ldN (bat x0 0)):Int)\/i1.2=1)/\∃(i2:Nat),i1.1=(↑i2:Int)/\(ldN (bat x0 0)=0\/vlF x0 (toNat i1.2)=some i2))->zii x0 i1
 def zig:=((0:Int)<=0/\0<(↑(size x0):Int))/\(↑(bat x0 0):Int)=(↑(bat x0 0):Int)/\(0<=(↑(bat x0 0):Int)/\(↑(bat x0 0):Int)<256)/\Ji ((↑(size x0):Int)<(z6q x0)) (zcb x0) (zih x0)
end
def z5m(s:ByteArray):qjz P (za0) Try.f55 z3p (za5) s=(0<size s/\size s<1000000->zig s):=by kernel_rfl
def front_eq:=λs=>Eq.trans (z5m s) (by delta Ji Jb Jt Jf z6q zcb z8n zbf z8m zik zij zin zim zil zii zih zig;exact rfl)
def z64:∀g C,za0 g=some C->q7a P g C:=qda (qgx zaq (qgx zgr (qgx z5p qjn)))
def z7s:q7a P 55 z3p:=by
 refine qk0 mixed z64 (W:=za5) Try.func55 (by kernel_rfl) (by decide) (by decide) (λc=>by kernel_rfl) λ(s:ByteArray)=>(front_eq s).mpr ?_
 rintro⟨h1,h2⟩
 have b0:=z03 s 0
 simp only[Int.toNat_natCast,Int.toNat_zero,and_true,true_and,decide_eq_true_eq,decide_eq_false_iff_not,Bool.not_eq_true',Bool.not_eq_false']
 obtain⟨n,hn⟩:∃n,n=ldN (bat s 0):=⟨_,rfl⟩
 have hn4:=zcv (bat s 0)
 have hfr:frt s=if s.size<n then 0 else match vlF s n with
  |none=>0
  |some r=>if n=0\/isC r=false\/lnN r≠n then 0 else n:=by rw[hn];rfl
 rw[←hn]at hn4⊢
 refine⟨by omega,by omega,λg=> ?_,λg=>⟨⟨by omega, .inr trivial,ldV (bat s 0),rfl, .inr rfl⟩,?_⟩⟩
 ·rw[hfr,if_pos (by omega)];rfl
 rintro⟨r,i⟩ ⟨i1,i2,q,hq,hv⟩
 simp only at i1 i2 hq hv⊢
 obtain⟨m,rfl⟩:=Int.eq_ofNat_of_zero_le (show 0<=i by omega)
 have em:((m:Int)+1).toNat=m+1:=by omega
 simp only[Int.toNat_natCast,em]at hv⊢
 subst hq
 simp only[Int.toNat_natCast]at hv⊢
 rw[if_neg (by omega)]at hfr
 refine⟨λk=>⟨by omega,by omega,?_⟩,λk=>⟨λk2=> ?_,λk2=> ?_⟩⟩
 ·have bm:=z03 s m
  have c1:shP BinOp.shr IntKind.u8 ((bat s m:Nat):Int) 6=2↔ctC (bat s m)=true:=by rw[←ct1 (bat s m) bm,decide_eq_true_iff]
  rw[c1]
  have hv:vlF s m=some q:=by
   rcases hv with h|h
   ·omega
   ·exact h
  have hbd:=z48 s m q hv (by omega)
  have hq26:q<67108864:=by
   have:m<=3:=by omega
   rcases m with _|_|_|_|m<;>simp at hbd<;>omega
  obtain⟨m',rfl⟩:∃m',m=m'+1:=⟨m- 1,by omega⟩
  refine⟨λk3=> ?_,λk3=>⟨by omega,by omega,by omega,⟨by omega,by omega,?_⟩,by omega⟩⟩
  ·have:vlF s (m'+2)=none:=by simp only[vlF];rw[hv];simp[k3]
   rw[hfr,z49 s (m'+2) n (by omega) (by omega) this];rfl
  ·obtain⟨c2,c3⟩:=ct2 (bat s (m'+1)) bm k3
   rw[c2]
   refine⟨_,zmh q _ hq26 c3, .inr ?_⟩
   simp only[vlF]
   rw[hv];simp[k3]
 ·have h0:n=0:=by omega
  rw[hfr,h0];simp[vlF]
 ·have hn0:n≠0:=by omega
  have hm:m=n:=by omega
  have hv:vlF s n=some q:=by
   rcases hv with h|h
   ·omega
   ·rw[←hm];exact h
  have hbd:=z48 s n q hv (by omega)
  have hq32:q<4294967296:=by
   rcases n with _|_|_|_|_|n<;>simp at hbd<;>omega
  rw[hv]at hfr
  simp only at hfr
  refine⟨by omega,λk3=> ?_,λk3=>⟨by omega,λk4=> ?_,λk4=> ?_⟩⟩
  ·rw[hfr,if_pos (.inr (.inl k3))];rfl
  ·rw[hfr,if_pos (.inr (.inr (by omega)))];rfl
  ·rw[hfr,if_neg]
   rw[k3];simp;omega
def z9s(s:ByteArray):frt s<=s.size:=by
 unfold frt
 split
 ·omega
 ·split
  ·omega
  ·split<;>omega
def z2v:∀(f g:Nat) (s:ByteArray),s.size<=f->s.size<=g->z6k f s=z6k g s
  |0,0,s,_,_=>rfl
  |0,g+1,s,h,_=>by rw[z6k,z6k,if_pos (by omega)]
  |f+1,0,s,_,h=>by rw[z6k,z6k,if_pos (by omega)]
  | f +1,g+1,s,h1,h2=>by
    rw[z6k,z6k]
    split
    · rfl
    · split
      · rfl
      · exact z2v f g _ (by simp;omega) (by simp;omega)
def z1h(s:ByteArray) (h:0<s.size):vld s=if frt s=0 then false else vld (s.extract (frt s) s.size):=by
 unfold vld
 obtain⟨f,hf⟩:∃f,s.size=f+1:=⟨s.size- 1,by omega⟩
 rw[hf,z6k,if_neg (by omega)]
 split
 ·rfl
 ·rw[hf]
  refine z2v _ _ _ ?_ (Nat.le_refl _)
  simp;omega
def z6l(s:ByteArray) (h:s.size=0):vld s=true:=by unfold vld;rw[h];rfl
def z8f(s:ByteArray):qjz P (zdc) Try.f46 z15 (zaa) s=(size s<(1000000:Nat)->(s=s/\(size s<=size s/\vld s=vld s)/\True)/\∀(s_1:ByteArray),size s_1<=size s/\vld s_1=vld s->(decide ((0:Int)<(↑(size s_1):Int))=true->s_1=s_1/\((0:Nat)<size s_1/\size s_1<(1000000:Nat))/\(decide ((↑(frt s_1):Int)=(0:Int))=true->vld s=false/\True)/\(decide ((↑(frt s_1):Int)=(0:Int))=false->((0:Int)<=(↑(frt s_1):Int)/\(↑(frt s_1):Int)<=(↑(size s_1):Int))/\ByteArray.extract s_1 (toNat (↑(frt s_1):Int)) (size s_1)=ByteArray.extract s_1 (toNat (↑(frt s_1):Int)) (size s_1)/\(size (ByteArray.extract s_1 (toNat (↑(frt s_1):Int)) (size s_1))<=size s/\vld (ByteArray.extract s_1 (toNat (↑(frt s_1):Int)) (size s_1))=vld s)/\size (ByteArray.extract s_1 (toNat (↑(frt s_1):Int)) (size s_1))<size s_1/\True))/\(decide ((0:Int)<(↑(size s_1):Int))=false->vld s=true/\True)):=by kernel_rfl
def z8g:q7a P 46 z15:=by
 refine qk0 mixed (qda (qgx z7s qjn)) (W:=zaa) Try.func46 (by kernel_rfl) (by decide) (by decide) (λc=>by kernel_rfl) λ(s:ByteArray)=>(z8f s).mpr ?_
 intro h
 simp only[Int.toNat_natCast,and_true,true_and,decide_eq_true_eq,decide_eq_false_iff_not]
 refine⟨Nat.le_refl _,λt ht=>⟨λg=>⟨by omega,λg2=> ?_,λg2=> ?_⟩,λg=> ?_⟩⟩
 ·rw[←ht.2,z1h t (by omega),if_pos (by omega)]
 ·have:=z9s t
  rw[←ht.2,z1h t (by omega),if_neg (by omega)]
  refine⟨by omega,⟨?_,rfl⟩,?_⟩
  ·simp;omega
  ·simp;omega
 ·rw[←ht.2];exact z6l t (by omega)
section
def zgn(s:ByteArray):Nat->Nat->Nat
 |0,k=>k
 |f+1,k=>if k<s.size/\bat s k≠10 then zgn s f (k+1)else k
def eol(s:ByteArray) (k:Nat):Nat:=zgn s (s.size- k) k
def z0f(s:ByteArray) (k:Nat):eol s k=if k<s.size/\bat s k≠10 then eol s (k+1)else k:=by
 unfold eol
 cases h:s.size- k with
 |zero=>rw[if_neg (by omega)];rfl
 |succ f=>rw[zgn,show s.size- (k+1)=f by omega]
def z5k(s:ByteArray):∀(f k:Nat),k<=s.size->s.size- k=f->k<=eol s k/\eol s k<=s.size
  |0,k,h,hf=>by rw[z0f,if_neg (by omega)];omega
  | f +1,k,h,hf=>by
    rw[z0f]
    split
    · have:=z5k s f (k+1) (by omega) (by omega)
      omega
    · omega
def clF(s:ByteArray):Nat->Nat->Option Nat
 |0,_=>none
 |f+1,k=>if bat s k=42/\bat s (k+1)=47 then some k else clF s f (k+1)
def cl(s:ByteArray) (k:Nat):Option Nat:=clF s (s.size- k) k
def z21(s:ByteArray) (k:Nat) (h:k<s.size):cl s k=if bat s k=42/\bat s (k+1)=47 then some k else cl s (k+1):=by
 unfold cl
 obtain⟨f,hf⟩:∃f,s.size- k=f+1:=⟨s.size- k- 1,by omega⟩
 rw[hf,clF,show s.size- (k+1)=f by omega]
def z5e(s:ByteArray) (k:Nat) (h:s.size<=k):cl s k=none:=by
 unfold cl
 rw[show s.size- k=0 by omega];rfl
variable {s:ByteArray}
def z07{k:Nat} (h:bat s k≠0):k<s.size:=by
 rcases Nat.lt_or_ge k s.size with g|g
 ·exact g
 ·exact absurd (z09 g) h
def z4e(s:ByteArray):∀(f k m:Nat),s.size- k=f->cl s k=some m->k<=m/\m+2<=s.size
  |0,k,m,hf,h=>by rw[z5e s k (by omega)]at h;cases h
  | f +1,k,m,hf,h=>by
    rw[z21 s k (by omega)]at h
    split at h
    · rename_i g
      cases h
      have:=z07 (s:=s) (k:=k+1) (by omega)
      omega
    · have:=z4e s f (k+1) m (by omega) h
      omega
def spF(s:ByteArray):Nat->Nat->Bool×Nat
  |0,i=>(true,i)
  | f +1,i=>if z7v (bat s i)=true then spF s f (i+1)else if bat s i=47/\bat s (i+1)=47 then spF s f (eol s i)else if bat s i=47/\bat s (i+1)=42 then
      match cl s (i+2)with
      |some k=>spF s f (k+2)
      |none=>(false,i)
    else(true,i)
def spR(s:ByteArray) (i:Nat):Bool×Nat:=spF s (s.size+1- i) i
def z1s(s:ByteArray) (i:Nat) (h:bat s i=47/\bat s (i+1)=47):i+2<=eol s i/\eol s i<=s.size:=by
 have h1:=z07 (s:=s) (k:=i+1) (by omega)
 rw[z0f,if_pos (by omega),z0f,if_pos (by omega)]
 exact z5k s _ (i+2) (by omega) rfl
def z0w{k:Nat} (h:z7v (bat s k)=true):k<s.size:=by
 refine z07 λe=> ?_
 rw[e]at h;cases h
def z0o(s:ByteArray):∀(f g i:Nat),s.size+1- i<=f->s.size+1- i<=g->i<=s.size->spF s f i=spF s g i
  |0,_,i,h,_,hi=>by omega
  |_,0,i,_,h,hi=>by omega
  | f + 1,g+1,i,h1,h2,hi=>by
    rw[spF,spF]
    split
    · rename_i h
      have:=z0w h
      exact z0o s f g _ (by omega) (by omega) (by omega)
    · split
      · rename_i h
        have:=z1s s i h
        exact z0o s f g _ (by omega) (by omega) (by omega)
      · split
        · split
          · rename_i k hk
            have:=z4e s _ _ _ rfl hk
            exact z0o s f g _ (by omega) (by omega) (by omega)
          · rfl
        · rfl
def z2b(s:ByteArray) (i:Nat) (hi:i<=s.size):spR s i=if z7v (bat s i)=true then spR s (i+1)else if bat s i=47/\bat s (i+1)=47 then spR s (eol s i)else if bat s i=47/\bat s (i+1)=42 then
   (match cl s (i+2)with
   |some k=>spR s (k+2)
   |none=>(false,i))
  else(true,i):=by
 unfold spR
 obtain⟨f,hf⟩:∃f,s.size+1- i=f+1:=⟨s.size- i,by omega⟩
 rw[hf,spF]
 split
 ·rename_i h
  have:=z0w h
  exact z0o s _ _ _ (by omega) (by omega) (by omega)
 ·split
  ·rename_i h
   have:=z1s s i h
   exact z0o s _ _ _ (by omega) (by omega) (by omega)
  ·split
   ·split
    ·rename_i k hk
     have:=z4e s _ _ _ rfl hk
     exact z0o s _ _ _ (by omega) (by omega) (by omega)
    ·rfl
   ·rfl
def z0m(s:ByteArray) (i:Nat) (h:i<s.size):s.data.toList.drop i=s[i]::s.data.toList.drop (i+1):=by
 have:s.data.toList[i]? =some s[i]:=by
  rw[Array.getElem?_toList];exact Array.getElem?_eq_getElem h
 rw[List.drop_eq_getElem?_toList_append,this];rfl
def z22(s:ByteArray) (i:Nat) (h:s.size<=i):s.data.toList.drop i=[]:=by
 apply List.drop_eq_nil_of_le
 rw[Array.length_toList];exact h
def zba(b:UInt8) (n:Nat) (hn:n<256):(b==UInt8.ofNat n)=decide (b.toNat=n):=by
 by_cases h:b.toNat=n
 ·subst h;simp
 ·rw[decide_eq_false h]
  rw[beq_eq_false_iff_ne]
  intro e;apply h;rw[e,UInt8.toNat_ofNat'];omega
def ixB(s:ByteArray):∀(f i:Nat),i<=s.size->s.size- i=f->Lib.indexByte (s.data.toList.drop i) (UInt8.ofNat 10)=if eol s i<s.size then((eol s i- i:Nat):Int)else -1
  | 0,i,h,hf=>by
    have e:eol s i=i:=by rw[z0f,if_neg (by omega)]
    rw[z22 s i (by omega),e,if_neg (by omega)];rfl
  | f +1,i,h,hf=>by
    have hi:i<s.size:=by omega
    have ih:=ixB s f (i+1) (by omega) (by omega)
    have hle:=z5k s f (i+1) (by omega) (by omega)
    have hb:=z14 hi
    rw[z0m s i hi,Lib.indexByte,zba _ 10 (by omega)]
    by_cases h10:s[i].toNat=10
    · have e:eol s i=i:=by rw[z0f,if_neg (by omega)]
      rw[e,if_pos (by simpa using h10),if_pos hi];simp
    · have e:eol s i=eol s (i+1):=by rw[z0f s i,if_pos (by omega)]
      rw[e,if_neg (by simpa using h10),ih]
      by_cases hl:eol s (i+1)<s.size
      · rw[if_pos hl,if_pos hl,if_neg (by simp;try omega)];omega
      · rw[if_neg hl,if_neg hl];rfl
def ixS (s:ByteArray):∀(f k:Nat),k<=s.size->s.size- k=f->Lib.index (s.data.toList.drop k) [UInt8.ofNat 42,UInt8.ofNat 47]=match cl s k with
    |some m=>((m- k:Nat):Int)
    |none=> -1
  | 0,k,h,hf=>by
    rw[z22 s k (by omega),z5e s k (by omega)];rfl
  | f + 1,k,h,hf=>by
    have ih:=ixS s f (k+1) (by omega) (by omega)
    rw[z0m s k (by omega),Lib.index,z21 s k (by omega)]
    have hp:[UInt8.ofNat 42,UInt8.ofNat 47].isPrefixOf (s[k]::s.data.toList.drop (k+1))=decide (bat s k=42/\bat s (k+1)=47):=by
      rw[List.isPrefixOf,show(UInt8.ofNat 42==s[k])=decide (s[k].toNat=42)by rw[BEq.comm];exact zba _ 42 (by omega)]
      rw[z14 (by omega:k<s.size)]
      by_cases h2:k+1<s.size
      · rw[z0m s (k+1) h2,List.isPrefixOf,show(UInt8.ofNat 47==s[k+1])=decide (s[k+1].toNat=47)by rw[BEq.comm];exact zba _ 47 (by omega),List.isPrefixOf,z14 h2]
        simp
      · rw[z22 s (k+1) (by omega),z09 (s:=s) (j:=k+1) (by omega)]
        simp[List.isPrefixOf]
    rw[hp,ih]
    by_cases hc:bat s k=42/\bat s (k+1)=47
    · rw[if_pos hc,decide_eq_true hc];simp
    · rw[if_neg hc,decide_eq_false hc]
      cases hcl:cl s (k+1)with
      |none=>rfl
      | some m=>
        have:=z4e s _ _ _ rfl hcl
        simp only[Bool.false_eq_true,if_false]
        rw[if_neg (by simp;try omega)];omega
def z16:q7a P 23 z12:=by
 refine qk3 (Sen.enters_of Try.func23 (by kernel_rfl)) (λ⟨s,c⟩=> .int .i64 (Lib.indexByte s.data.toList (UInt8.ofNat c.toNat))) (λs I=> .sv _) λ⟨s,c⟩ F w hp hm=> ?_
 exact(Try.strings_IndexByte s c w).mono λe w' h=>⟨h.1,by rw[h.2];exact Below.refl _ _⟩
def z7t:q7a P 24 z9o:=by
 refine qk3 (Sen.enters_of Try.func24 (by kernel_rfl)) (λ⟨s,p⟩=> .int .i64 (Lib.index s.data.toList p.data.toList)) (λs I=> .sv _) λ⟨s,p⟩ F w hp hm=> ?_
 obtain⟨m,hm⟩:=hm
 exact(Try.strings_Index s p m w hp (q1g hm)).mono λe w' h=>⟨h.1,by rw[h.2];exact Below.refl _ _⟩
def z3s:Ct:={z5f (λs i=>0<=i/\i<=s.size/\s.size<100000) (λs i=> .sv (.bool (spR s i.toNat).1)) (λs i=>((spR s i.toNat).2:Nat))with mem:=λ_=>hG}
def za8:z3s.σ->WayF:=λ⟨s,i⟩=>{ann:=λ_ _ _=>some (zcf s (λj=>0<=j/\j<=s.size/\spR s j.toNat=spR s i.toNat) [0,2])}
def za1:Nat->Option Ct:=qfl [(20,z0t),(22,zai),(21,z0d),(23,z12),(24,z9o)]
end
def zgm(c:Nat):dv c<=16:=by unfold dv;split<;>(try split)<;>(try split)<;>omega
def zbe(x:Int) (h1:0<=x) (h2:x<=18446744073709551615):IntKind.u64.wrap x=x:=by
 unfold IntKind.wrap;simp[IntKind.bits,IntKind.signed];omega
def zmj:∀c<256,z02 c=true->IntKind.u8.wrap (↑c- 48)=((dv c:Nat):Int):=by decide+kernel
def zmk:∀c<256,z02 c=false->decide (97<=qaw BinOp.or IntKind.u8 (↑c) 32)=true->decide (qaw BinOp.or IntKind.u8 (↑c) 32<=102)=true->IntKind.u8.wrap (qaw BinOp.or IntKind.u8 (↑c) 32- 97)=((dv c:Nat):Int)- 10/\10<=dv c:=by decide+kernel
def zml:∀c<256,z02 c=false->decide (97<=qaw BinOp.or IntKind.u8 (↑c) 32)=true->decide (qaw BinOp.or IntKind.u8 (↑c) 32<=102)=false->dv c=16:=by decide+kernel
def zmm:∀c<256,z02 c=false->decide (97<=qaw BinOp.or IntKind.u8 (↑c) 32)=false->dv c=16:=by decide+kernel
section
variable (x0 x1:Int)
 abbrev zis:=(0<=IntKind.wrap u8 (x0- 48)/\IntKind.wrap u8 (x0- 48)<=18446744073709551615)/\(↑(dv (toNat x0)):Int)=IntKind.wrap u8 (x0- 48)/\decide ((↑(dv (toNat x0)):Int)<x1)=decide (IntKind.wrap u8 (x0- 48)<x1)/\True
 abbrev zdr:=qaw BinOp.or u8 x0 32- 97
 def zir:=(0<=IntKind.wrap u8 (zdr x0)/\IntKind.wrap u8 (zdr x0)<=18446744073709551615)/\(↑(dv (toNat x0)):Int)=IntKind.wrap u64 (IntKind.wrap u8 (zdr x0)+10)/\decide ((↑(dv (toNat x0)):Int)<x1)=decide (IntKind.wrap u64 (IntKind.wrap u8 (zdr x0)+10)<x1)/\True
 def zh6:=(↑(dv (toNat x0)):Int)=16/\decide ((↑(dv (toNat x0)):Int)<x1)=decide (16<x1)/\True
 def ziq:=Ji (qaw BinOp.or u8 x0 (32:Int)<=102) (zir x0 x1) (zh6 x0 x1)
 def zip:=Ji (97<=qaw BinOp.or u8 x0 32) (ziq x0 x1) (zh6 x0 x1)
 def zio:=x0=x0/\(0<=x0/\x0<256)/\(z02 (toNat x0)=true->zis x0 x1)/\(z02 (toNat x0)=false->zip x0 x1)
end
def z6j(c B:Int):qjz P (qfl [(27,z0r)]) Try.f45 z5c (λ_=>{}) ⟨c,B⟩=((0<=c/\c<256)/\0<=B/\B<=16->zio c B):=by kernel_rfl
def z8h:=λc B=>Eq.trans (z6j c B) (by delta Ji Jt Jf zis zdr zir zh6 ziq zip zio;exact rfl)
def z8i:q7a P 45 z5c:=by
 refine qk0 mixed (qda (qgx z1a qjn)) (W:=λ_=>{}) Try.func45 (by kernel_rfl) (by decide) (by decide) (λ⟨c,B⟩=>by kernel_rfl) λ⟨c,B⟩=>(z8h c B).mpr ?_
 rintro⟨⟨h1,h2⟩,h3,h4⟩
 obtain⟨n,rfl⟩:=Int.eq_ofNat_of_zero_le h1
 obtain⟨b,rfl⟩:=Int.eq_ofNat_of_zero_le h3
 have hn:n<256:=by omega
 have w:=zgm n
 have out:dv n=16->((dv n:Nat):Int)=16/\decide (((dv n:Nat):Int)<(b:Nat))=decide ((16:Int)<(b:Nat)):=λe=>by
  rw[e];exact⟨rfl,rfl⟩
 simp only[Int.toNat_natCast,and_true,true_and]
 refine⟨⟨h1,h2⟩,λg=> ?_,λg=>⟨λg2=>⟨λg3=> ?_,λg3=> ?_⟩,λg2=> ?_⟩⟩
 ·rw[zmj n hn g]
  refine⟨by omega,rfl,?_⟩
  simp
 ·obtain⟨a1,a2⟩:=zmk n hn g g2 g3
  rw[a1]
  have:IntKind.u64.wrap (((dv n:Nat):Int)- 10+10)=(dv n:Nat):=by
   rw[show(((dv n:Nat):Int)- 10+10)=(dv n:Nat)by omega];exact zbe _ (by omega) (by omega)
  rw[this]
  refine⟨by omega,rfl,?_⟩
  simp
 ·exact out (zml n hn g g2 g3)
 ·exact out (zmm n hn g g2)
section
variable (x0 x1:Int)
 abbrev zg9:=(↑(Option.getD (esc (toNat x0)) 0):Int)
 def zix:=(zg9 x0)=x0/\Option.isSome (esc (toNat x0))=true/\True
 def ziw:=(zg9 x0)=10/\Option.isSome (esc (toNat x0))=true/\True
 def ziv:=(zg9 x0)=0/\Option.isSome (esc (toNat x0))=false/\True
 def zit:=Ji (x0=110) (ziw x0) (ziv x0)
 def zg8:=Ji (x0=x1) (zix x0) (zit x0)
 def ziy:=Ji (x0=34) (zg8 x0 34) (zg8 x0 39)
 def ziu:=Ji (x0=92) (zg8 x0 92) (ziy x0)
end
def z33(c:Int):qjz P ((λ_=>none)) Try.f47 z1x (λ_=>{}) c=(0<=c/\c<256->ziu c):=by kernel_rfl
def z4f:=λc=>Eq.trans (z33 c) (by delta Ji Jt Jf zg9 zix ziw ziv zit zg8 ziy ziu;exact rfl)
def z4g:q7a P 47 z1x:=by
  refine qk0 mixed z08 (W:=λ_=>{}) Try.func47 (by kernel_rfl) (by decide) (by decide) (λc=>by kernel_rfl) λ(c:Int)=>(z4f c).mpr ?_
  rintro⟨h1,h2⟩
  obtain⟨n,rfl⟩:=Int.eq_ofNat_of_zero_le h1
  simp only[decide_eq_true_eq,decide_eq_false_iff_not,Int.toNat_natCast]
  repeat' first|intro _|apply And.intro
  all_goals first
    |trivial
    | (exfalso;omega)
    | (have e:n=92:=by omega
       subst e;rfl)
    | (have e:n=34:=by omega
       subst e;rfl)
    | (have e:n=39:=by omega
       subst e;rfl)
    | (have e:n=110:=by omega
       subst e;rfl)
    | (unfold esc;rw[if_neg (by omega),if_neg (by omega)];rfl)
def z24(s p:ByteArray):qjz P ((λ_=>none)) Try.f42 z0d (λ_=>{}) ⟨s,p⟩=(True->(decide ((↑(size p):Int)<=(↑(size s):Int))=true->((0:Int)<=(↑(size p):Int)/\(↑(size p):Int)<=(↑(size s):Int))/\z0g s p=decide (ByteArray.extract s (0:Nat) (toNat (↑(size p):Int))=p)/\True)/\(decide ((↑(size p):Int)<=(↑(size s):Int))=false->z0g s p=false/\True)):=by kernel_rfl
def z25:q7a P 42 z0d:=by
 refine qk0 mixed z08 (W:=λ_=>{}) Try.func42 (by kernel_rfl) (by decide) (by decide) (λ⟨s,p⟩=>by kernel_rfl) λ⟨s,p⟩=>(z24 s p).mpr ?_
 intro _
 simp only[decide_eq_true_eq,decide_eq_false_iff_not,and_true,Int.toNat_natCast,z0g]
 refine⟨λh=>⟨⟨by omega,h⟩,?_⟩,λh=> ?_⟩
 ·simp;omega
 ·simp;omega
def z26(s p:ByteArray):qjz P (qfl [(42,z0d)]) Try.f21 z0d (λ_=>{}) ⟨s,p⟩=(True->s=s/\p=p/\True/\z0g s p=z0g s p/\True):=by kernel_rfl
def z2q:q7a P 21 z0d:=by
 refine qk0 mixed (qda (qgx z25 qjn)) (W:=λ_=>{}) Try.func21 (by kernel_rfl) (by decide) (by decide) (λ⟨s,p⟩=>by kernel_rfl) λ⟨s,p⟩=>(z26 s p).mpr ?_
 intro _
 exact⟨rfl,rfl,trivial,rfl,trivial⟩
def z0v(s:ByteArray) (n:Nat):(s.extract n s.size).data.toList=s.data.toList.drop n:=by
 rw[ByteArray.data_extract,Array.toList_extract,List.extract_eq_take_drop,List.take_of_length_le]
 rw[List.length_drop,Array.length_toList];exact Nat.le_refl _
def z35(s:ByteArray) (n a b:Nat) (hn:n<=s.size) (ha:a<256/\0<a) (hb:b<256/\0<b):z0g (s.extract n s.size) (mkS [a,b])=decide (bat s n=a/\bat s (n+1)=b):=by
 unfold z0g
 rw[Bool.eq_iff_iff]
 simp only[Bool.and_eq_true,decide_eq_true_eq]
 have hsz:(mkS [a,b]).size=2:=rfl
 rw[hsz,ByteArray.size_extract]
 constructor
 ·rintro⟨h1,h2⟩
  have e:((s.extract n s.size).extract 0 2).data.toList=(mkS [a,b]).data.toList:=by rw[h2]
  rw[ByteArray.data_extract,Array.toList_extract,List.extract_eq_take_drop,z0v,z0m s n (by omega),z0m s (n+1) (by omega)]at e
  simp[mkS]at e
  rw[z14 (by omega:n<s.size),z14 (by omega:n+1<s.size),e.1,e.2,UInt8.toNat_ofNat',UInt8.toNat_ofNat']
  omega
 ·rintro⟨h1,h2⟩
  have p1:=z07 (s:=s) (k:=n) (by omega)
  have p2:=z07 (s:=s) (k:=n+1) (by omega)
  refine⟨by omega,?_⟩
  apply ByteArray.ext;apply Array.toList_inj.mp
  rw[ByteArray.data_extract,Array.toList_extract,List.extract_eq_take_drop,z0v,z0m s n (by omega),z0m s (n+1) (by omega)]
  rw[z14 p1]at h1;rw[z14 p2]at h2
  subst h1;subst h2
  simp[mkS]
section
variable (x0:ByteArray) (x1 x2:Int) (x3:Nat->Option Obj) (x4:Prop)
 abbrev z6r:=0<=x1/\x1<=(↑(size x0):Int)/\x4
 def zbg:=∃(i0:Int),q5o x3 (Addr.mk 0 0 none)=some (int i64 i0)
 def zdz:=True/\zbg x3
 def z4u:=(∀i0,(zdz i0)->zdz i0)
 abbrev z8r:=(↑(bat x0 (toNat (x1+0))):Int)
 def zh8:=Jb (x1+1)/\x0=x0/\x1+1=x1+1/\z4u/\(0<=x1+1/\x1+1<=(↑(size x0):Int)/\spR x0 (toNat (x1+1))=spR x0 (toNat x2))/\size x0- toNat (x1+1)<size x0- toNat x1/\True
 def z8s:=x0=x0/\x1=x1/\(0<=x1/\x1<=(↑(size x0):Int))/\x4
 def z8p:=z8s x0 x1 (ByteArray.extract x0 (toNat x1) (size x0)=ByteArray.extract x0 (toNat x1) (size x0)/\x4)
 abbrev z3b:=ByteArray.extract x0 (toNat x1) (size x0)
 abbrev z2e:=Array.toList (ByteArray.data (z3b x0 x1))
 abbrev z2f:=(↑(size (z3b x0 x1)):Int)
 def zdu:=z8s x0 x1 (Jb (x1+(z2f x0 x1))/\x0=x0/\x1+(z2f x0 x1)=x1+(z2f x0 x1)/\z4u/\(0<=x1+(z2f x0 x1)/\x1+(z2f x0 x1)<=(↑(size x0):Int)/\spR x0 (toNat (x1+(z2f x0 x1)))=spR x0 (toNat x2))/\size x0- toNat (x1+(z2f x0 x1))<size x0- toNat x1/\True)
 def zds:=Jb (x1+Lib.indexByte (z2e x0 x1) (UInt8.ofNat 10))/\x0=x0/\x1+Lib.indexByte (z2e x0 x1) (UInt8.ofNat 10)=x1+Lib.indexByte (z2e x0 x1) (UInt8.ofNat 10)/\z4u/\(0<=x1+Lib.indexByte (z2e x0 x1) (UInt8.ofNat 10)/\x1+Lib.indexByte (z2e x0 x1) (UInt8.ofNat 10)<=(↑(size x0):Int)/\spR x0 (toNat (x1+Lib.indexByte (z2e x0 x1) (UInt8.ofNat 10)))=spR x0 (toNat x2))/\size x0- toNat (x1+Lib.indexByte (z2e x0 x1) (UInt8.ofNat 10))<size x0- toNat x1/\True
 def zj2:=z8p x0 x1 ((10:Int)=10/\((0:Int)<=10/\(10:Int)<256)/\Ji (Lib.indexByte (z2e x0 x1) (UInt8.ofNat 10)<0) (zdu x0 x1 x2) (zds x0 x1 x2))
 abbrev z8o:=Array.toList (ByteArray.data (ByteArray.extract (z3b x0 x1) 2 (size (z3b x0 x1))))
 abbrev z8q:=Array.toList (ByteArray.data (mkS [42,47]))
 def zdx:=(spR x0 (toNat x1)).1=false/\x0=x0/\Int.ofNat (spR x0 (toNat x1)).2=x2/\True
 abbrev zad:=Lib.index (z8o x0 x1) (z8q)+4
 def zj3:=Jb (Lib.index (z8o x0 x1) (z8q)+4)/\Jb (x1+(zad x0 x1))/\x0=x0/\x1+(zad x0 x1)=x1+(zad x0 x1)/\z4u/\(0<=x1+(zad x0 x1)/\x1+(zad x0 x1)<=(↑(size x0):Int)/\spR x0 (toNat (x1+(zad x0 x1)))=spR x0 (toNat x2))/\size x0- toNat (x1+(zad x0 x1))<size x0- toNat x1/\True
 def zj1:=z8s x0 x1 (((0:Int)<=2/\2<=(z2f x0 x1))/\ByteArray.extract (z3b x0 x1) 2 (size (z3b x0 x1))=ByteArray.extract (z3b x0 x1) 2 (size (z3b x0 x1))/\mkS [42,47]=mkS [42,47]/\size (ByteArray.extract (z3b x0 x1) 2 (size (z3b x0 x1)))<4294967281/\(∀i0,(zdz i0)->zbg i0)/\Ji (Lib.index (z8o x0 x1) (z8q)<0) (zdx x0 x2 x1) (zj3 x0 x1 x2))
 def zdy:=(spR x0 (toNat x1)).1=true/\x0=x0/\Int.ofNat (spR x0 (toNat x1)).2=x2/\True
 def zj0:=z8p x0 x1 (mkS [47,42]=mkS [47,42]/\True/\(z0g (z3b x0 x1) (mkS [47,42])=true->zj1 x0 x1 x2)/\(z0g (z3b x0 x1) (mkS [47,42])=false->zdy x0 x2 x1))
 def ziz:=z8p x0 x1 (mkS [47,47]=mkS [47,47]/\True/\(z0g (z3b x0 x1) (mkS [47,47])=true->zj2 x0 x1 x2)/\(z0g (z3b x0 x1) (mkS [47,47])=false->zj0 x0 x1 x2))
 def zh7:=Ji ((z8r x0 x1)=32) (zh8 x0 x1 x2) (ziz x0 x1 x2)
 def zdw:=Ji ((z8r x0 x1)<=13) (zh8 x0 x1 x2) (zh7 x0 x1 x2)
 def zdv:=(0:Int)=0/\x0=x0/\x1=x1/\(z6r x0 x1 (size x0<1000000/\(0:Int)<=0/\(0:Int)<1000000))/\Ji (9<=(z8r x0 x1)) (zdw x0 x1 x2) (zh7 x0 x1 x2)
 def zdt:=(x0=x0/\x1=x1/\z4u/\(z6r x0 x1 (spR x0 (toNat x1)=spR x0 (toNat x1)))/\True)/\∀(i1:Int),z6r x0 i1 (spR x0 (toNat i1)=spR x0 (toNat x1))->zdv x0 i1 x1
end
def z62(s:ByteArray) (i:Int):qjz P (za1) Try.f15 z3s (za8) ⟨s,i⟩=(z6r s i (size s<100000)->(∃(p:Pub),zdz p)->zdt s i):=by kernel_rfl
def z85:=λs i=>Eq.trans (z62 s i) (by delta Ji Jb Jt Jf z6r zbg zdz z4u z8r zh8 z8s z8p z3b z2e z2f zdu zds zj2 z8o z8q zdx zad zj3 zj1 zdy zj0 ziz zh7 zdw zdv zdt;exact rfl)
def z67:∀g C,za1 g=some C->q7a P g C:=qda (qgx z0l (qgx zas (qgx z2q (qgx z16 (qgx z7t qjn)))))
def z5o(c:Nat):z7v c=true↔(9<=c/\c<=13)\/c=32:=by simp[z7v]
def z86:q7a P 15 z3s:=by
  refine qk0 mixed z67 (W:=za8) Try.func15 (by kernel_rfl) (by decide) (by decide) (λ⟨s,i⟩=>by kernel_rfl) λ⟨s,i⟩=>(z85 s i).mpr ?_
  rintro⟨h1,h2,h3⟩ hp
  obtain⟨i,rfl⟩:=Int.eq_ofNat_of_zero_le h1
  refine⟨⟨rfl,rfl,λp h=>h,⟨h1,h2,rfl⟩,trivial⟩,?_⟩
  rintro j ⟨g1,g2,g3⟩
  obtain⟨n,rfl⟩:=Int.eq_ofNat_of_zero_le g1
  have hn:n<=s.size:=by omega
  have step:=z2b s n hn
  have hs:(s.extract n s.size).size=s.size- n:=by rw[ByteArray.size_extract];omega
  have e2:((s.extract n s.size).extract 2 (s.size- n)).data.toList=s.data.toList.drop (n+2):=by
    rw[ByteArray.data_extract,Array.toList_extract,List.extract_eq_take_drop,z0v,List.drop_drop,List.take_of_length_le]
    rw[List.length_drop,Array.length_toList];show s.size- (n+2)<=_;omega
  have hsp:=z5o (bat s n)
  simp only[decide_eq_true_eq,decide_eq_false_iff_not,and_true,true_and,Int.toNat_natCast,Int.add_zero,z35 s n 47 47 hn (by omega) (by omega),z35 s n 47 42 hn (by omega) (by omega),z0v,hs,e2,ixB s _ n hn rfl]at g3⊢
  have spc:z7v (bat s n)=true->spR s (n+1)=spR s i/\n+1<=s.size:=λq=>by
    have:=z0w q
    rw[if_pos q]at step
    exact⟨step ▸ g3,by omega⟩
  refine⟨by omega,λa1=>⟨λa2=> ?a,λa2=>⟨λa3=> ?b,λa3=> ?x⟩⟩,λa1=>⟨λa3=> ?c,λa3=> ?y⟩⟩
  case a|b|c=>
    obtain⟨q1,q2⟩:=spc (hsp.mpr (by omega))
    exact⟨by omega,λp h=>h,⟨by omega,by omega,by rw[show((n:Int)+1).toNat=n+1 by omega];exact q1⟩,by omega⟩
  case x|y=>
    have ns:¬z7v (bat s n)=true:=λq=>by have:=hsp.mp q;omega
    rw[if_neg ns]at step
    refine⟨by omega,λc1=>⟨by omega,by omega,λd1=> ?_,λd1=> ?_⟩,λc1=>⟨by omega,λc2=>⟨by omega,?_,?_,λp h=>h,λd1=> ?_,λd1=> ?_⟩,λc2=> ?_⟩⟩
    · have ge:=z1s s n c1
      have nlt:¬eol s n<s.size:=λh=>by rw[if_pos h]at d1;omega
      rw[if_pos c1]at step
      rw[show((n:Int)+((s.size- n:Nat):Int)).toNat=s.size by omega]
      have e:eol s n=s.size:=by omega
      rw[e]at step
      exact⟨by omega,by omega,λp h=>h,⟨by omega,by omega,step ▸ g3⟩,by omega⟩
    · have ge:=z1s s n c1
      have nlt:eol s n<s.size:=by
        rcases Nat.lt_or_ge (eol s n) s.size with h|h
        · exact h
        · rw[if_neg (by omega)]at d1;omega
      rw[if_pos nlt]at*
      rw[if_pos c1]at step
      rw[show((n:Int)+((eol s n- n:Nat):Int)).toNat=eol s n by omega]
      exact⟨by omega,λp h=>h,⟨by omega,by omega,step ▸ g3⟩,by omega⟩
    · have p1:=z07 (s:=s) (k:=n+1) (by omega)
      omega
    · rw[ByteArray.size_extract];omega
    · have p1:=z07 (s:=s) (k:=n+1) (by omega)
      have ix:=ixS s _ (n+2) (by omega) rfl
      rw[show(mkS [42,47]).data.toList=[UInt8.ofNat 42,UInt8.ofNat 47]from rfl,ix]at d1
      rw[if_neg c1,if_pos c2]at step
      cases hc:cl s (n+2)with
      |some m=>rw[hc]at d1;simp only[]at d1;omega
      | none=>
        rw[hc]at step
        rw[←g3,step];exact⟨rfl,rfl⟩
    · have p1:=z07 (s:=s) (k:=n+1) (by omega)
      have ix:=ixS s _ (n+2) (by omega) rfl
      rw[show(mkS [42,47]).data.toList=[UInt8.ofNat 42,UInt8.ofNat 47]from rfl,ix]at d1⊢
      rw[if_neg c1,if_pos c2]at step
      cases hc:cl s (n+2)with
      |none=>rw[hc]at d1;simp only[]at d1;omega
      | some m=>
        rw[hc]at step
        have:=z4e s _ _ _ rfl hc
        simp only[]
        rw[show((n:Int)+(((m- (n+2):Nat):Int)+4)).toNat=m+2 by omega]
        have step:spR s n=spR s (m+2):=step
        exact⟨by omega,by omega,λp h=>h,⟨by omega,by omega,step ▸ g3⟩,by omega⟩
    · rw[if_neg c1,if_neg c2]at step
      rw[←g3,step];exact⟨rfl,rfl⟩
def nbK(e k:Nat):Nat:=if e=0 then k else 0
def z1y:Ct:={z5f (λs i=>0<=i/\i<s.size/\s.size<100000/\z02 (bat s i.toNat)=true) (λs i=> .tup [zb9 (nbK (nbR s i.toNat).1 2) (mkS []) (nbR s i.toNat).2.1 (nbK (nbR s i.toNat).1 i.toNat), .sv (.int .i64 ((nbR s i.toNat).1:Nat))]) (λs i=>((nbR s i.toNat).2.2:Nat))with}
def sl3 (t:T AV):Option (Int×Bool×Int):=match slI t 6 with
  | some n=>match t.get 7 with
    | some a=>match gb a with
      | some b=>match slI t 8 with
        |some i=>some (n,b,i)
        |none=>none
      |none=>none
    |none=>none
  |none=>none
def z4j(s:ByteArray) (i:Int) (n:Int) (o:Bool) (j:Int):Prop:=∃V:Nat,n=((V % 18446744073709551616:Nat):Int)/\o=decide (18446744073709551616<=V)/\0<=j/\i+j<=s.size/\dgE s (nbB s i.toNat) (i+j).toNat V=dgE s (nbB s i.toNat) (i.toNat+nbO s i.toNat) 0
def z6m:z1y.σ->WayF:=λ⟨s,i⟩=>{
 ann:=λ_ _ _=>some {σ:=Int×Bool×Int,pre:=λ⟨n,o,j⟩=>z4j s i n o j,find:=some λt _=>sl3 t,t:=λ⟨n,o,j⟩=>[(6, .sv (.int .u64 n)),(7, .sv (.bool o)),(8, .sv (.int .i64 j))],h:=λ_=>[],more:=0,μ:=λ⟨n,o,j⟩=>s.size- (i+j).toNat,keep:=[0,2,4,5]}
 cut:=λr _ _=>match r with
  |9=>some {σ:=Unit,find:=some λ_ _=>some (),t:=λ_=>[(5, .sv (.int .u64 (nbB s i.toNat:Nat))),(8, .sv (.int .i64 (nbO s i.toNat:Nat)))],h:=λ_=>[],more:=0,μ:=λ_=>0,keep:=[0,2,4,6,7]}
  |_=>none}
def z65:Nat->Option Ct:=qfl [(20,z0t),(45,z5c),(25,z0h),(27,z0r)]
def txR(s:ByteArray) (q i:Nat):Nat×ByteArray×Nat:=match txE s q (i+1) []with
 |some (l,to)=>if vld (bs l)=true then(0,bs l,to)else(2,mkS [],i)
 |none=>(2,mkS [],i)
def z7p:Ct where
  σ:=ByteArray×Int×Int
  args:=λ⟨s,i,q⟩=>[.ptr 1 0, .sv (.int .u8 q)]
  h:=λ⟨s,i,q⟩=>cur s i
  m:=2
  pre:=λ⟨s,i,q⟩=>0<=i/\i<s.size/\s.size<100000/\(q=34\/q=39)
  find:=some λl h=>match l with
    | [.ptr id _,a]=>match gi a with
      | some (_,d)=>match z5g h id with
        |some (s,i)=>some (s,i,d)
        |none=>none
      |none=>none
    |_=>none
  r:=λ⟨s,i,q⟩=> .tup [zb9 (nbK (txR s q.toNat i.toNat).1 3) (txR s q.toNat i.toNat).2.1 0 (nbK (txR s q.toNat i.toNat).1 i.toNat), .sv (.int .i64 ((txR s q.toNat i.toNat).1:Nat))]
  h':=λ⟨s,i,q⟩=>cur s ((txR s q.toNat i.toNat).2.2:Nat)
  m':=2
  g:=λ_=>none
def zdf(t:T AV) (h:T AO):Option (List Value×Int):=match slI t 7 with
  | some j=>match t.get 6 with
    | some (.ssl id _ _ _ _)=>match h.get id with
      |some (.row _ _ vs)=>some (vs,j)
      | some (.cells _ _ _ l)=>match qa6.concs l with
        |some vs=>some (vs,j)
        |none=>none
      |_=>none
    |some .nsl=>some ([],j)
    |_=>none
  |none=>none
def z6f(s:ByteArray) (i q:Int) (vs:List Value) (j:Int):Prop:=∃l:List Nat,vs=q16 (bs l)/\(∀c∈l,c<256)/\1<=j/\i+j<=s.size+1/\l.length<=j.toNat/\txE s q.toNat (i+j).toNat l=txE s q.toNat (i.toNat+1) []
def zdo:z7p.σ->WayF:=λ⟨s,i,q⟩=>{
 ann:=λ_ _ _=>some {σ:=List Value×Int,pre:=λ⟨vs,j⟩=>z6f s i q vs j,find:=some zdf,t:=λ⟨vs,j⟩=>[(6, .ssl 3 0 vs.length 1 4),(7, .sv (.int .i64 j))],h:=λ⟨vs,j⟩=>[(3, .row 5 0 vs)],more:=2,μ:=λ⟨vs,j⟩=>s.size+1- (i+j).toNat,keep:=[0,1,4]}}
def zdb:Nat->Option Ct:=qfl [(20,z0t),(46,z15),(47,z1x)]
def sgs:List Nat:=[123,125,40,41,91,93,61,59,44,60,62,45]
def wdR(s:ByteArray) (i:Nat):Nat×(Nat×ByteArray×Nat×Nat)×Nat:=
 if i=s.size then(0,(5,mkS [],0,i),i)else
 if isLet (bat s i)=true\/(bat s i=46/\isLet (bat s (i+1))=true)then(0,(1,s.extract i (nmE s (i+1)),0,i),nmE s (i+1))else
 if z02 (bat s i)=true then((nbR s i).1,(nbK (nbR s i).1 2,mkS [],(nbR s i).2.1,nbK (nbR s i).1 i),(nbR s i).2.2)else
 if bat s i=34\/bat s i=39 then((txR s (bat s i) i).1,(nbK (txR s (bat s i) i).1 3,(txR s (bat s i) i).2.1,0,nbK (txR s (bat s i) i).1 i),(txR s (bat s i) i).2.2)else
 if bat s i∈sgs then(0,(4,mkS [bat s i],0,i),i+1)else(2,(0,mkS [],0,0),i)
def tkA(x:Nat×ByteArray×Nat×Nat):AV:=zb9 x.1 x.2.1 x.2.2.1 x.2.2.2
def zak:Ct:=z5f (λs i=>0<=i/\i<=s.size/\s.size<100000) (λs i=> .tup [tkA (wdR s i.toNat).2.1, .sv (.int .i64 ((wdR s i.toNat).1:Nat))]) (λs i=>((wdR s i.toNat).2.2:Nat))
def zdd:Nat->Option Ct:=qfl [(20,z0t),(25,z0h),(27,z0r),(26,z7m),(28,z1y),(29,z7p),(23,z12)]
def tn1(n:Nat):((n:Int)+1).toNat=n+1:=by omega
def tn2(n:Nat):((n:Int)+2).toNat=n+2:=by omega
def tnn(n m:Nat):((n:Int)+(m:Nat)).toNat=n+m:=by omega
def z0i(s:ByteArray) (B j v:Nat) (hB:B<=16):dgE s B j v=if dv (bat s j)<B then dgE s B (j+1) (v*B+dv (bat s j))else(j,v):=by
  unfold dgE
  cases h:s.size- j with
  | zero=>
    rw[z09 (by omega),if_neg (by show¬(16<B);omega)];rfl
  |succ f=>rw[dgF,show s.size- (j+1)=f by omega]
def z42(s:ByteArray) (n:Nat):nbB s n=8\/nbB s n=10\/nbB s n=16:=by
 unfold nbB;split<;>(try split)<;>simp
def orx:∀c<256,decide (qaw BinOp.or IntKind.u8 (c:Nat) 32=120)=decide (c=120\/c=88):=by decide+kernel
def z2d(x:Int):IntKind.u64.wrap x=x % 18446744073709551616:=by
 unfold IntKind.wrap;simp[IntKind.bits,IntKind.signed]
def z9x(V v B:Nat) (hB:B=8\/B=10\/B=16) (hv:v<B):IntKind.u64.wrap (IntKind.u64.wrap (((V % 18446744073709551616:Nat):Int)*(B:Nat))+(v:Nat))=(((V*B+v) % 18446744073709551616:Nat):Int):=by
 rw[z2d,z2d]
 rcases hB with rfl|rfl|rfl<;>omega
def z9w(V v B:Nat) (hB:B=8\/B=10\/B=16) (hv:v<B) (hV:¬18446744073709551616<=V):decide (IntKind.u64.wrap (Int.tdiv (IntKind.u64.wrap (18446744073709551615- (v:Nat))) (B:Nat))<((V % 18446744073709551616:Nat):Int))=decide (18446744073709551616<=V*B+v):=by
 rw[decide_eq_decide,z2d,z2d,Int.tdiv_eq_ediv_of_nonneg (by omega)]
 rcases hB with rfl|rfl|rfl<;>omega
def z4q:∀g C,z65 g=some C->q7a P g C:=qda (qgx z0l (qgx z8i (qgx z1i (qgx z1a qjn))))
section
variable (x0:ByteArray) (x1:Int) (x2:Int×Bool×Int) (x3 x4:Int) (x5:Prop)
 abbrev z8t:=x3=x3/\x0=x0/\x1=x1/\(0<=x1/\x1<=(↑(size x0):Int)/\size x0<1000000/\0<=x3/\x3<1000000)/\x5
 abbrev z2w:=(↑(bat x0 (toNat (x1+x3))):Int)
 abbrev z0u:=(↑(nbB x0 (toNat x1)):Int)
 def z6s:=(z0u x0 x1)=x3/\x1=x1/\(↑(nbO x0 (toNat x1)):Int)=x4/\x0=x0/\x1=x1/\True/\True
 def ze2:=z8t x0 x1 1 (Ji (qaw BinOp.or u8 (z2w x0 x1 1) (32:Int)=120) (z6s x0 x1 16 2) (z6s x0 x1 8 1))
 def zja:=z8t x0 x1 2 ((z2w x0 x1 2)=(z2w x0 x1 2)/\(16:Int)=16/\((0<=(z2w x0 x1 2)/\(z2w x0 x1 2)<256)/\(0:Int)<=16/\(16:Int)<=16)/\Ji ((↑(dv (toNat (z2w x0 x1 2))):Int)<16) (ze2 x0 x1) (z6s x0 x1 8 1))
 abbrev z0q:=(↑(bat x0 (toNat (x1+x2.2.2))):Int)
 def zbh:=x2.2.2=x2.2.2/\x0=x0/\x1=x1/\(0<=x1/\x1<=(↑(size x0):Int)/\size x0<1000000/\0<=x2.2.2/\x2.2.2<1000000)/\(z0q x0 x1 x2)=(z0q x0 x1 x2)/\x5
 def z8v:=(0<=(z0q x0 x1 x2)/\(z0q x0 x1 x2)<256)
 abbrev z3c:=(nbR x0 (toNat x1)).1
 def ze4:=(↑(nbK (z3c x0 x1) 2):Int)=0/\mkS []=mkS []/\(↑(nbR x0 (toNat x1)).2.1:Int)=0/\(↑(nbK (z3c x0 x1) (toNat x1)):Int)=0/\(↑(z3c x0 x1):Int)=x3/\x0=x0/\Int.ofNat (nbR x0 (toNat x1)).2.2=x1/\True
 def ze3:=Jb (x1+x2.2.2)/\(↑(nbK (z3c x0 x1) 2):Int)=2/\mkS []=mkS []/\(↑(nbR x0 (toNat x1)).2.1:Int)=x2.1/\(↑(nbK (z3c x0 x1) (toNat x1)):Int)=x1/\(↑(z3c x0 x1):Int)=0/\x0=x0/\Int.ofNat (nbR x0 (toNat x1)).2.2=x1+x2.2.2/\True
 def ze1:=Ji ((z0q x0 x1 x2)=46) (ze4 x0 x1 2) (ze3 x0 x1 x2)
 def zjc:=(z0q x0 x1 x2)=(z0q x0 x1 x2)/\z8v x0 x1 x2/\(z02 (toNat (z0q x0 x1 x2))=true->ze4 x0 x1 2)/\(z02 (toNat (z0q x0 x1 x2))=false->ze1 x0 x1 x2)
 def zj8:=zbh x0 x1 x2 (z8v x0 x1 x2/\(isLet (toNat (z0q x0 x1 x2))=true->ze4 x0 x1 2)/\(isLet (toNat (z0q x0 x1 x2))=false->zjc x0 x1 x2))
 def zj7:=(x2.2.1=true->ze4 x0 x1 3)/\(x2.2.1=false->zj8 x0 x1 x2)
 abbrev zbk:=Jb (x2.2.2+1)
 abbrev z6t:=IntKind.wrap u64 (x2.1*(z0u x0 x1))+(↑(dv (toNat (z0q x0 x1 x2))):Int)
 def zbi:=(z0u x0 x1)=(z0u x0 x1)/\x1=x1/\x2.2.2+1=x2.2.2+1/\IntKind.wrap u64 (z6t x0 x1 x2)=IntKind.wrap u64 (z6t x0 x1 x2)/\x0=x0/\x1=x1/\x5
 def zbj:=size x0- toNat (x1+(x2.2.2+1))<size x0- toNat (x1+x2.2.2)/\True
 def ze0:=zbk x2/\true=true/\zbi x0 x1 x2 (z4j x0 x1 (IntKind.wrap u64 (z6t x0 x1 x2)) true (x2.2.2+1)/\zbj x0 x1 x2)
 abbrev z8u:=IntKind.wrap u64 (Int.tdiv (IntKind.wrap u64 ((18446744073709551615:Int)- (↑(dv (toNat (z0q x0 x1 x2))):Int))) (z0u x0 x1))<x2.1
 def zjb:=(z0u x0 x1)≠0/\zbk x2/\decide (z8u x0 x1 x2)=decide (z8u x0 x1 x2)/\zbi x0 x1 x2 (z4j x0 x1 (IntKind.wrap u64 (z6t x0 x1 x2)) (decide (z8u x0 x1 x2)) (x2.2.2+1)/\zbj x0 x1 x2)
 def zj9:=(x2.2.1=true->ze0 x0 x1 x2)/\(x2.2.1=false->zjb x0 x1 x2)
 def zj6:=zbh x0 x1 x2 ((z0u x0 x1)=(z0u x0 x1)/\(z8v x0 x1 x2/\0<=(z0u x0 x1)/\(z0u x0 x1)<=16)/\((!decide ((↑(dv (toNat (z0q x0 x1 x2))):Int)<(z0u x0 x1)))=true->zj7 x0 x1 x2)/\((!decide ((↑(dv (toNat (z0q x0 x1 x2))):Int)<(z0u x0 x1)))=false->zj9 x0 x1 x2))
 def zj5:=(false=false/\(z0u x0 x1)=(z0u x0 x1)/\x1=x1/\(↑(nbO x0 (toNat x1)):Int)=(↑(nbO x0 (toNat x1)):Int)/\(0:Int)=0/\x0=x0/\x1=x1/\z4j x0 x1 0 false (↑(nbO x0 (toNat x1)):Int)/\True)/\∀(i0:Int×Bool×Int),z4j x0 x1 i0.1 i0.2.1 i0.2.2->zj6 x0 x1 i0
 def zj4:=(z8t x0 x1 0 (Ji ((z2w x0 x1 0)=48) (zja x0 x1) (z6s x0 x1 10 0)))/\∀(i0:Unit),True->zj5 x0 x1
end
def z4m(s:ByteArray) (i:Int):qjz P (z65) Try.f28 z1y (z6m) ⟨s,i⟩=(0<=i/\i<(↑(size s):Int)/\size s<100000/\z02 (bat s (toNat i))=true->zj4 s i):=by kernel_rfl
def z5w:=λs i=>Eq.trans (z4m s i) (by delta Ji Jb Jt Jf z8t z2w z0u z6s ze2 zja z0q zbh z8v z3c ze4 ze3 ze1 zjc zj8 zj7 zbk z6t zbi zbj ze0 z8u zjb zj9 zj6 zj5 zj4;exact rfl)
def z5x:q7a P 28 z1y:=by
 refine qk0 mixed z4q (W:=z6m) Try.func28 (by kernel_rfl) (by decide) (by decide) (λ⟨s,i⟩=>by kernel_rfl) λ⟨s,i⟩=>(z5w s i).mpr ?_
 rintro⟨h1,h2,h3,h4⟩
 obtain⟨n,rfl⟩:=Int.eq_ofNat_of_zero_le h1
 have hB:=z42 s n
 have b1:=z03 s (n+1)
 have b2:=z03 s (n+2)
 simp only[decide_eq_true_eq,decide_eq_false_iff_not,and_true,true_and,Int.toNat_natCast,Int.add_zero,tn1,tn2,orx _ b1]
 refine⟨⟨by omega,λa1=>⟨by omega,by omega,λa2=>⟨by omega,λa3=> ?_,λa3=> ?_⟩,λa2=> ?_⟩,λa1=> ?_⟩,λ_ _=>⟨?_,?_⟩⟩
 ·rw[show nbB s n=16 by unfold nbB;rw[if_pos (by omega),if_pos ⟨by omega,by omega⟩],show nbO s n=2 by unfold nbO;rw[if_pos (by omega),if_pos ⟨by omega,by omega⟩]]
  exact⟨rfl,rfl⟩
 ·rw[show nbB s n=8 by unfold nbB;rw[if_pos (by omega),if_neg (by omega)],show nbO s n=1 by unfold nbO;rw[if_pos (by omega),if_neg (by omega)]]
  exact⟨rfl,rfl⟩
 ·rw[show nbB s n=8 by unfold nbB;rw[if_pos (by omega),if_neg (by omega)],show nbO s n=1 by unfold nbO;rw[if_pos (by omega),if_neg (by omega)]]
  exact⟨rfl,rfl⟩
 ·rw[show nbB s n=10 by unfold nbB;rw[if_neg (by omega)],show nbO s n=0 by unfold nbO;rw[if_neg (by omega)]]
  exact⟨rfl,rfl⟩
 ·refine⟨0,rfl,rfl,by omega,?_,by rw[tnn,Int.toNat_natCast]⟩
  unfold nbO
  split
  ·rename_i g
   split
   ·rename_i g2
    have:=z07 (s:=s) (k:=n+1) (by omega)
    have:n+2<s.size:=by
     rcases Nat.lt_or_ge (n+2) s.size with h|h
     ·exact h
     ·rw[z09 h]at g2;exact absurd g2.1 (by decide)
    omega
   ·omega
  ·omega
 ·rintro⟨m,o,j⟩ ⟨V,rfl,rfl,hj,hj2,inv⟩
  obtain⟨j,rfl⟩:=Int.eq_ofNat_of_zero_le hj
  have bj:=z03 s (n+j)
  simp only[tnn,Int.toNat_natCast]at inv⊢
  have step:=z0i s (nbB s n) (n+j) V (by omega)
  have stop:¬dv (bat s (n+j))<nbB s n->nbR s n=if 18446744073709551616<=V then(3,0,n)else if(isLet (bat s (n+j))||z02 (bat s (n+j))|| (bat s (n+j)==46))=true then(2,0,n)else(0,V,n+j):=λhv=>by
   rw[if_neg hv]at step
   unfold nbR
   rw[←inv,step]
  simp only[Bool.not_eq_true',Bool.not_eq_false',decide_eq_true_eq,decide_eq_false_iff_not]at*
  have bad:isLet (bat s (n+j))=true\/z02 (bat s (n+j))=true\/bat s (n+j)=46->¬dv (bat s (n+j))<nbB s n->¬18446744073709551616<=V->nbR s n=(2,0,n):=λh hv hV=>by
   rw[stop hv,if_neg hV,if_pos (by simpa[or_assoc]using h)]
  have cont:dv (bat s (n+j))<nbB s n->∀o,o=decide (18446744073709551616<=V*nbB s n+dv (bat s (n+j)))->z4j s (n:Nat) (IntKind.u64.wrap (IntKind.u64.wrap (((V % 18446744073709551616:Nat):Int)*(nbB s n:Nat))+(dv (bat s (n+j)):Nat))) o ((j:Int)+1)/\s.size- ((n:Int)+((j:Int)+1)).toNat<s.size- (n+j):=λhv o ho=>by
   have hp:n+j<s.size:=by
    rcases Nat.lt_or_ge (n+j) s.size with h|h
    ·exact h
    ·rw[z09 h]at hv
     have:dv 0=16:=rfl
     omega
   rw[if_pos hv]at step
   refine⟨⟨V*nbB s n+dv (bat s (n+j)),z9x _ _ _ hB hv,ho,by omega,by omega,?_⟩,by omega⟩
   rw[show((n:Int)+((j:Int)+1)).toNat=n+j+1 by omega,Int.toNat_natCast,←step,inv]
  refine⟨by omega,by omega,λhv=>⟨λhV=> ?_,λhV=>⟨by omega,by omega,λa1=> ?_,λa1=>⟨by omega,λa2=> ?_,λa2=>⟨λa3=> ?_,λa3=> ?_⟩⟩⟩⟩,λhv=>⟨λhV=> ?_,λhV=> ?_⟩⟩
  ·rw[stop (by omega),if_pos hV];exact⟨rfl,rfl,rfl,rfl,rfl⟩
  ·rw[bad (.inl a1) (by omega) hV];exact⟨rfl,rfl,rfl,rfl,rfl⟩
  ·rw[bad (.inr (.inl a2)) (by omega) hV];exact⟨rfl,rfl,rfl,rfl,rfl⟩
  ·rw[bad (.inr (.inr (by omega))) (by omega) hV];exact⟨rfl,rfl,rfl,rfl,rfl⟩
  ·rw[stop (by omega),if_neg hV,if_neg (by rw[a1,a2];simpa using by omega)]
   exact⟨by omega,rfl,by simp only[];omega,rfl,rfl,show((n+j:Nat):Int)=_ by omega⟩
  ·obtain⟨c1,c2⟩:=cont (by omega) true (by
    symm;rw[decide_eq_true_eq]
    rcases hB with h|h|h<;>rw[h]<;>omega)
   exact⟨by omega,c1,c2⟩
  ·obtain⟨c1,c2⟩:=cont (by omega) _ (z9w V _ _ hB (by omega) hV)
   exact⟨by omega,by omega,c1,c2⟩
def z1e(s:ByteArray) (q:Nat):∀(f g j:Nat) (acc:List Nat),s.size+1- j<=f->s.size+1- j<=g->txF s q f j acc=txF s q g j acc
  |0,0,j,acc,h,hi=>rfl
  |0,g+1,j,acc,h,hi=>by rw[txF,txF,if_neg (by omega)]
  |f+1,0,j,acc,h,hi=>by rw[txF,txF,if_neg (by omega)]
  | f + 1,g+1,j,acc,h1,h2=>by
    rw[txF,txF]
    split
    · split
      · rfl
      · split
        · rfl
        · split
          · cases esc (bat s (j+1))with
            |some c=>exact z1e s q f g _ _ (by omega) (by omega)
            |none=>rfl
          · exact z1e s q f g _ _ (by omega) (by omega)
    · rfl
def z1d(s:ByteArray) (q j:Nat) (acc:List Nat):txE s q j acc=if j<s.size then
   if bat s j=q then some (acc,j+1)else if bat s j=10 then none else if bat s j=92 then
    match esc (bat s (j+1))with
    |some c=>txE s q (j+2) (acc++[c])
    |none=>none
   else txE s q (j+1) (acc++[bat s j])
  else none:=by
 unfold txE
 by_cases h:j<s.size
 ·obtain⟨f,hf⟩:∃f,s.size+1- j=f+1:=⟨s.size- j,by omega⟩
  rw[hf,txF,if_pos h,if_pos h]
  split
  ·rfl
  ·split
   ·rfl
   ·split
    ·cases esc (bat s (j+1))with
     |some c=>exact z1e s q _ _ _ _ (by omega) (by omega)
     |none=>rfl
    ·exact z1e s q _ _ _ _ (by omega) (by omega)
 ·rw[if_neg h]
  generalize s.size+1- j=f
  cases f with
  |zero=>rfl
  |succ f=>rw[txF,if_neg h]
def z58(l:List Nat) (c:Nat) (hc:c<256):q16 (bs l)++[Value.int .u8 (c:Nat)]=q16 (bs (l++[c])):=by
 unfold q16 bs
 simp only[List.map_append,List.map_cons,List.map_nil,List.map_map]
 congr 1
 simp;omega
def z1v(l:List Nat):(bs l).size=l.length:=by
 unfold bs;simp[ByteArray.size]
def zcp(c:Nat) (h:c<256):(esc c).getD 0<256:=by
 unfold esc;split
 ·exact h
 ·split<;>simp
def z89:∀g C,zdb g=some C->q7a P g C:=qda (qgx z0l (qgx z8g (qgx z4g qjn)))
section
variable (x0:Int) (x1:ByteArray) (x2:Int) (x3:List Value×Int) (x4:Prop)
 abbrev z2x:=(↑(bat x1 (toNat (x0+x3.2))):Int)
 abbrev z1k:=txR x1 (toNat x0) (toNat x2)
 def ze5:=(↑(nbK (z1k x0 x1 x2).1 3):Int)=0/\(z1k x0 x1 x2).2.1=mkS []/\(↑(0:Nat):Int)=0/\(↑(nbK (z1k x0 x1 x2).1 (toNat x2)):Int)=0/\(↑(z1k x0 x1 x2).1:Int)=2/\x1=x1/\(↑(z1k x0 x1 x2).2.2:Int)=x2/\True
 abbrev z8w:=Jb (x3.2+1)
 abbrev zae:=(↑(bat x1 (toNat (x0+(x3.2+1)))):Int)
 def zbl:=length x3.1=length x3.1*1/\(length x3.1+nat_lit 1)*1<=140737488355328/\x4
 abbrev z6u:=(↑(Option.getD (esc (toNat (zae x0 x1 x3))) 0):Int)
 def zjj:=zbl x3 (Jb (x3.2+1+1)/\x0=x0/\x3.2+1+1=x3.2+1+1/\length (x3.1++[int u8 (z6u x2 x1 x3)])=length x3.1+nat_lit 1/\x1=x1/\x2=x2/\x3.1++[int u8 (z6u x2 x1 x3)]=x3.1++[int u8 (z6u x2 x1 x3)]/\z6f x1 x2 x0 (x3.1++[int u8 (z6u x2 x1 x3)]) (x3.2+1+1)/\size x1+1- toNat (x2+(x3.2+1+1))<size x1+1- toNat (x2+x3.2)/\True)
 def zji:=z8w x3/\x3.2+1=x3.2+1/\x1=x1/\x0=x0/\(0<=x0/\x0<=(↑(size x1):Int)/\size x1<1000000/\0<=x3.2+1/\x3.2+1<1000000)/\(zae x0 x1 x3)=(zae x0 x1 x3)/\(0<=(zae x0 x1 x3)/\(zae x0 x1 x3)<256)/\((!Option.isSome (esc (toNat (zae x0 x1 x3))))=true->ze5 x2 x1 x0)/\((!Option.isSome (esc (toNat (zae x0 x1 x3))))=false->zjj x2 x1 x0 x3)
 def zjk:=zbl x3 (z8w x3/\x0=x0/\x3.2+1=x3.2+1/\length (x3.1++[int u8 (z2x x2 x1 x3)])=length x3.1+nat_lit 1/\x1=x1/\x2=x2/\x3.1++[int u8 (z2x x2 x1 x3)]=x3.1++[int u8 (z2x x2 x1 x3)]/\z6f x1 x2 x0 (x3.1++[int u8 (z2x x2 x1 x3)]) (x3.2+1)/\size x1+1- toNat (x2+(x3.2+1))<size x1+1- toNat (x2+x3.2)/\True)
 def zjh:=Ji ((z2x x0 x1 x3)=92) (zji x0 x1 x2 x3) (zjk x2 x1 x0 x3)
 def zjg:=Ji ((z2x x0 x1 x3)=10) (ze5 x2 x1 x0) (zjh x0 x1 x2 x3)
 def zjf:=x3.2=x3.2/\x1=x1/\x0=x0/\(0<=x0/\x0<=(↑(size x1):Int)/\size x1<1000000/\0<=x3.2/\x3.2<1000000)/\Ji ((z2x x0 x1 x3)=x2) (∃i0,size i0=length x3.1/\qgs x3.1 (nat_lit 0) (q16 i0)/\i0=i0/\size i0<1000000/\((!vld i0)=true->ze5 x2 x1 x0)/\((!vld i0)=false->∃i1,size i1=length x3.1/\qgs x3.1 (nat_lit 0) (q16 i1)/\z8w x3/\Jb (x0+(x3.2+1))/\(↑(nbK (z1k x2 x1 x0).1 3):Int)=3/\(z1k x2 x1 x0).2.1=i1/\(↑(0:Nat):Int)=0/\(↑(nbK (z1k x2 x1 x0).1 (toNat x0)):Int)=x0/\(↑(z1k x2 x1 x0).1:Int)=0/\x1=x1/\(↑(z1k x2 x1 x0).2.2:Int)=x0+(x3.2+1)/\True)) (zjg x0 x1 x2 x3)
 def zje:=Jb (x0+x3.2)/\Ji (x0+x3.2<(↑(size x1):Int)) (zjf x0 x1 x2 x3) (ze5 x2 x1 x0)
 def zjd:=(x0=x0/\(1:Int)=1/\nat_lit 0=0/\x1=x1/\x2=x2/\z6f x1 x2 x0 [] 1/\True)/\∀(i0:List Value×Int),z6f x1 x2 x0 i0.1 i0.2->zje x2 x1 x0 i0
end
def z8e(s:ByteArray) (i q:Int):qjz P (zdb) Try.f29 z7p (zdo) ⟨s,i,q⟩=(0<=i/\i<(↑(size s):Int)/\size s<100000/\(q=34\/q=39)->zjd q s i):=by kernel_rfl
def zb7:=λs i q=>Eq.trans (z8e s i q) (by delta Ji Jb Jt Jf z2x z1k ze5 z8w zae zbl z6u zjj zji zjk zjh zjg zjf zje zjd;exact rfl)
def zb8:q7a P 29 z7p:=by
 refine qk0 mixed z89 (W:=zdo) Try.func29 (by kernel_rfl) (by decide) (by decide) (λ⟨s,i,q⟩=>by kernel_rfl) λ⟨s,i,q⟩=>(zb7 s i q).mpr ?_
 rintro⟨h1,h2,h3,h4⟩
 obtain⟨n,rfl⟩:=Int.eq_ofNat_of_zero_le h1
 obtain⟨q,rfl⟩:=Int.eq_ofNat_of_zero_le (show 0<=q by omega)
 simp only[decide_eq_true_eq,decide_eq_false_iff_not,and_true,true_and,Int.toNat_natCast,Int.add_zero,tn1,tn2]
 refine⟨⟨[],rfl,by simp,by omega,by omega,by simp,by rw[tn1,Int.toNat_natCast,Int.toNat_natCast]⟩,?_⟩
 rintro⟨vs,j⟩ ⟨l,rfl,hl,hj,hj2,hlen,inv⟩
 obtain⟨j,rfl⟩:=Int.eq_ofNat_of_zero_le (show 0<=j by omega)
 have bj:=z03 s (n+j)
 have bj1:=z03 s (n+j+1)
 have hz:=z1v l
 simp only[tnn,Int.toNat_natCast,q2w,hz,show((n:Int)+((j:Int)+1)).toNat=n+j+1 by omega]at inv hlen⊢
 have step:=z1d s q (n+j) l
 rw[inv]at step
 have none_:txE s q (n+1) []=none->txR s q n=(2,mkS [],n):=λh=>by unfold txR;rw[h]
 simp only[Bool.not_eq_true',Bool.not_eq_false',decide_eq_true_eq,decide_eq_false_iff_not]at*
 have sub:qgs (q16 (bs l)) 0 (q16 (bs l)):=λa v h=>by rw[Nat.zero_add];exact h
 have no:txE s q (n+1) []=none->((nbK (txR s q n).1 3:Nat):Int)=0/\(txR s q n).2.1=mkS []/\((0:Nat):Int)=0/\((nbK (txR s q n).1 n:Nat):Int)=0/\(((txR s q n).1:Nat):Int)=2/\(((txR s q n).2.2:Nat):Int)=n:=λh=>by
  rw[none_ h];exact⟨rfl,rfl,rfl,rfl,rfl,rfl⟩
 refine⟨by omega,λa0=>⟨by omega,λa1=>⟨bs l,hz,sub,by omega,λa2=> ?_,λa2=>⟨bs l,hz,sub,by omega,by omega,?_⟩⟩,λa1=>⟨λa2=>no ?_,λa2=>⟨λa3=>⟨by omega,by omega,by omega,λa4=>no ?_,λa4=> ?_⟩,λa3=> ?_⟩⟩⟩,λa0=>no ?_⟩
 ·rw[if_pos (by omega),if_pos (by omega)]at step
  have e:txR s q n=(2,mkS [],n):=by unfold txR;rw[step];simp only[];rw[if_neg (by rw[a2];simp)]
  rw[e];exact⟨rfl,rfl,rfl,rfl,rfl,rfl⟩
 ·rw[if_pos (by omega),if_pos (by omega)]at step
  have e:txR s q n=(0,bs l,n+j+1):=by unfold txR;rw[step];simp only[];rw[if_pos a2]
  rw[e];exact⟨rfl,rfl,rfl,rfl,rfl,show((n+j+1:Nat):Int)=_ by omega⟩
 ·rw[step,if_pos (by omega),if_neg (by omega),if_pos (by omega)]
 ·rw[step,if_pos (by omega),if_neg (by omega),if_neg (by omega),if_pos (by omega)]
  rw[Option.isSome_eq_false_iff,Option.isNone_iff_eq_none]at a4
  rw[a4]
 ·rw[if_pos (by omega),if_neg (by omega),if_neg (by omega),if_pos (by omega)]at step
  obtain⟨c,hc⟩:=Option.isSome_iff_exists.mp a4
  have hlt:=zcp _ bj1
  have hp:n+j+1<s.size:=z07 λe=>by rw[e]at hc;cases hc
  rw[hc]at step hlt⊢
  simp only[Option.getD_some]at step hlt⊢
  rw[z58 _ _ hlt,q2w,z1v]
  refine⟨by omega,by omega,by omega,by simp,⟨l++[c],rfl,?_,by omega,by omega,by simp;omega,?_⟩,by omega⟩
  ·intro x hx
   rcases List.mem_append.mp hx with h|h
   ·exact hl x h
   ·rw[List.mem_singleton.mp h];exact hlt
  ·rw[show((n:Int)+((j:Int)+1+1)).toNat=n+j+2 by omega,Int.toNat_natCast,Int.toNat_natCast,step]
 ·rw[if_pos (by omega),if_neg (by omega),if_neg (by omega),if_neg (by omega)]at step
  rw[z58 _ _ bj,q2w,z1v]
  refine⟨by omega,by omega,by omega,by simp,⟨l++[bat s (n+j)],rfl,?_,by omega,by omega,by simp;omega,?_⟩,by omega⟩
  ·intro x hx
   rcases List.mem_append.mp hx with h|h
   ·exact hl x h
   ·rw[List.mem_singleton.mp h];exact bj
  ·rw[show((n:Int)+((j:Int)+1)).toNat=n+j+1 by omega,Int.toNat_natCast,Int.toNat_natCast,step]
 ·rw[step,if_neg (by omega)]
section
variable (x0:ByteArray) (x1 x2:Int) (x3:Prop)
 abbrev z3d:=(↑(wdR x0 (toNat x1)).2.1.1:Int)
 abbrev z2g:=(wdR x0 (toNat x1)).2.1.2
 abbrev z3e:=(↑(z2g x0 x1).2.1:Int)
 abbrev z3f:=(↑(z2g x0 x1).2.2:Int)
 abbrev z3h:=(↑(wdR x0 (toNat x1)).1:Int)
 abbrev z3g:=(wdR x0 (toNat x1)).2.2
 def zea:=(z3d x0 x1)=5/\(z2g x0 x1).1=mkS []/\(z3e x0 x1)=0/\(z3f x0 x1)=x1/\(z3h x0 x1)=0/\x0=x0/\Int.ofNat (z3g x0 x1)=x1/\True
 def zbm:=x2=x2/\x0=x0/\x1=x1/\(0<=x1/\x1<=(↑(size x0):Int)/\size x0<1000000/\0<=x2/\x2<1000000)/\x3
 abbrev z17:=(↑(bat x0 (toNat (x1+x2))):Int)
 def z8x:=(z17 x0 x1 0)=(z17 x0 x1 0)/\(0<=(z17 x0 x1 0)/\(z17 x0 x1 0)<256)/\x3
 def zhb:=x0=x0/\x1=x1/\(0<=x1/\x1<(↑(size x0):Int)/\size x0<100000)/\(z3d x0 x1)=(↑(1:Nat):Int)/\(z2g x0 x1).1=ByteArray.extract x0 (toNat x1) (nmE x0 (toNat x1+1))/\(z3e x0 x1)=(↑(0:Nat):Int)/\(z3f x0 x1)=(↑(toNat x1):Int)/\(z3h x0 x1)=0/\x0=x0/\Int.ofNat (z3g x0 x1)=Int.ofNat (nmE x0 (toNat x1+1))/\True
 def zjq:=x0=x0/\x1=x1/\(0<=x1/\x1<(↑(size x0):Int)/\size x0<100000/\z02 (bat x0 (toNat x1))=true)/\(z3d x0 x1)=(↑(nbK (nbR x0 (toNat x1)).1 2):Int)/\(z2g x0 x1).1=mkS []/\(z3e x0 x1)=(↑(nbR x0 (toNat x1)).2.1:Int)/\(z3f x0 x1)=(↑(nbK (nbR x0 (toNat x1)).1 (toNat x1)):Int)/\(z3h x0 x1)=(↑(nbR x0 (toNat x1)).1:Int)/\x0=x0/\Int.ofNat (z3g x0 x1)=Int.ofNat (nbR x0 (toNat x1)).2.2/\True
 abbrev z4v:=txR x0 (toNat (z17 x0 x1 0)) (toNat x1)
 def zha:=(z17 x0 x1 0)=(z17 x0 x1 0)/\x0=x0/\x1=x1/\(0<=x1/\x1<(↑(size x0):Int)/\size x0<100000/\((z17 x0 x1 0)=34\/(z17 x0 x1 0)=39))/\(z3d x0 x1)=(↑(nbK (z4v x0 x1).1 3):Int)/\(z2g x0 x1).1=(z4v x0 x1).2.1/\(z3e x0 x1)=(↑(0:Nat):Int)/\(z3f x0 x1)=(↑(nbK (z4v x0 x1).1 (toNat x1)):Int)/\(z3h x0 x1)=(↑(z4v x0 x1).1:Int)/\x0=x0/\Int.ofNat (z3g x0 x1)=(↑(z4v x0 x1).2.2:Int)/\True
 abbrev zeb:=0<=Lib.indexByte (Array.toList (ByteArray.data (mkS [123,125,40,41,91,93,61,59,44,60,62,45]))) (UInt8.ofNat (toNat (z17 x0 x1 0)))
 def ze6:=Jb (x1+1)/\∃i0,size i0=1/\qgs [int u8 (z17 x0 x1 0)] 0 (q16 i0)/\Jb (x1+1- 1)/\(z3d x0 x1)=4/\(z2g x0 x1).1=i0/\(z3e x0 x1)=0/\(z3f x0 x1)=x1+1- 1/\(z3h x0 x1)=0/\x0=x0/\Int.ofNat (z3g x0 x1)=x1+1/\True
 def ze9:=(z3d x0 x1)=0/\(z2g x0 x1).1=mkS []/\(z3e x0 x1)=0/\(z3f x0 x1)=0/\(z3h x0 x1)=2/\x0=x0/\Int.ofNat (z3g x0 x1)=x1/\True
 def zjp:=mkS [123,125,40,41,91,93,61,59,44,60,62,45]=mkS [123,125,40,41,91,93,61,59,44,60,62,45]/\z8x x0 x1 (Ji (zeb x0 x1) (ze6 x0 x1) (ze9 x0 x1))
 def zjo:=Ji ((z17 x0 x1 0)=39) (zha x0 x1) (zjp x0 x1)
 def zjl:=Ji ((z17 x0 x1 0)=34) (zha x0 x1) (zjo x0 x1)
 def zh9:=z8x x0 x1 ((z02 (toNat (z17 x0 x1 0))=true->zjq x0 x1)/\(z02 (toNat (z17 x0 x1 0))=false->zjl x0 x1))
 def ze8:=zbm x0 x1 1 ((z17 x0 x1 1)=(z17 x0 x1 1)/\(0<=(z17 x0 x1 1)/\(z17 x0 x1 1)<256)/\(isLet (toNat (z17 x0 x1 1))=true->zhb x0 x1)/\(isLet (toNat (z17 x0 x1 1))=false->zh9 x0 x1))
 def ze7:=Ji ((z17 x0 x1 0)=46) (ze8 x0 x1) (zh9 x0 x1)
 def zjn:=zbm x0 x1 0 (z8x x0 x1 ((isLet (toNat (z17 x0 x1 0))=true->zhb x0 x1)/\(isLet (toNat (z17 x0 x1 0))=false->ze7 x0 x1)))
 def zjm:=Ji (x1=(↑(size x0):Int)) (zea x0 x1) (zjn x0 x1)
end
def z8l(s:ByteArray) (i:Int):qjz P (zdd) Try.f16 zak (λ_=>{}) ⟨s,i⟩=(0<=i/\i<=(↑(size s):Int)/\size s<100000->zjm s i):=by kernel_rfl
def zbb:=λs i=>Eq.trans (z8l s i) (by delta Ji Jb Jt Jf z3d z2g z3e z3f z3h z3g zea zbm z17 z8x zhb zjq z4v zha zeb ze6 ze9 zjp zjo zjl zh9 ze8 ze7 zjn zjm;exact rfl)
def z8a:∀g C,zdd g=some C->q7a P g C:=qda (qgx z0l (qgx z1i (qgx z1a (qgx zb1 (qgx z5x (qgx zb8 (qgx z16 qjn)))))))
def zd6:∀c<256,0<=Lib.indexByte (mkS [123,125,40,41,91,93,61,59,44,60,62,45]).data.toList (UInt8.ofNat c)↔c∈sgs:=by decide+kernel
def zbc:q7a P 16 zak:=by
 refine qk0 mixed z8a (W:=λ_=>{}) Try.func16 (by kernel_rfl) (by decide) (by decide) (λ⟨s,i⟩=>by kernel_rfl) λ⟨s,i⟩=>(zbb s i).mpr ?_
 rintro⟨h1,h2,h3⟩
 obtain⟨n,rfl⟩:=Int.eq_ofNat_of_zero_le h1
 have b0:=z03 s n
 have b1:=z03 s (n+1)
 simp only[decide_eq_true_eq,decide_eq_false_iff_not,and_true,true_and,Int.toNat_natCast,Int.add_zero,tn1,tn2]
 have eqs:n=s.size->wdR s n=(0,(5,mkS [],0,n),n):=λh=>by unfold wdR;rw[if_pos h]
 have eN:¬n=s.size->isLet (bat s n)=true\/(bat s n=46/\isLet (bat s (n+1))=true)->wdR s n=(0,(1,s.extract n (nmE s (n+1)),0,n),nmE s (n+1)):=λh h1=>by unfold wdR;rw[if_neg h,if_pos h1]
 have eD:¬n=s.size->¬(isLet (bat s n)=true\/(bat s n=46/\isLet (bat s (n+1))=true))->z02 (bat s n)=true->wdR s n=((nbR s n).1,(nbK (nbR s n).1 2,mkS [],(nbR s n).2.1,nbK (nbR s n).1 n),(nbR s n).2.2):=λh h1 h2=>by unfold wdR;rw[if_neg h,if_neg h1,if_pos h2]
 have eT:¬n=s.size->¬(isLet (bat s n)=true\/(bat s n=46/\isLet (bat s (n+1))=true))->z02 (bat s n)=false->bat s n=34\/bat s n=39->wdR s n=((txR s (bat s n) n).1,(nbK (txR s (bat s n) n).1 3,(txR s (bat s n) n).2.1,0,nbK (txR s (bat s n) n).1 n),(txR s (bat s n) n).2.2):=λh h1 h2 h4=>by unfold wdR;rw[if_neg h,if_neg h1,if_neg (by rw[h2];simp),if_pos h4]
 have eS:¬n=s.size->¬(isLet (bat s n)=true\/(bat s n=46/\isLet (bat s (n+1))=true))->z02 (bat s n)=false->¬(bat s n=34\/bat s n=39)->wdR s n=if bat s n∈sgs then(0,(4,mkS [bat s n],0,n),n+1)else(2,(0,mkS [],0,0),n):=λh h1 h2 h4=>by unfold wdR;rw[if_neg h,if_neg h1,if_neg (by rw[h2];simp),if_neg h4]
 have sg:=zd6 (bat s n) b0
 refine⟨λa0=> ?e,λa0=>⟨by omega,by omega,λa1=>⟨by omega,?n1⟩,λa1=>⟨λa2=>⟨by omega,by omega,λa3=>⟨by omega,?n2⟩,λa3=> ?x⟩,λa2=> ?y⟩⟩⟩
 case e=>rw[eqs (by omega)];exact⟨rfl,rfl,rfl,rfl,rfl,rfl⟩
 case n1=>rw[eN (by omega) (.inl a1)];exact⟨rfl,rfl,rfl,rfl,rfl,rfl⟩
 case n2=>rw[eN (by omega) (.inr ⟨by omega,a3⟩)];exact⟨rfl,rfl,rfl,rfl,rfl,rfl⟩
 case x|y=>
  have nn:¬(isLet (bat s n)=true\/(bat s n=46/\isLet (bat s (n+1))=true)):=by
   rintro(h|⟨h,h'⟩)
   ·rw[a1]at h;cases h
   ·first| (rw[a3]at h';cases h')|omega
  refine⟨by omega,λc1=>⟨⟨by omega,by omega,h3,c1⟩,?_⟩,λc1=>⟨λc2=>⟨⟨by omega,by omega,h3,by omega⟩,?_⟩,λc2=>⟨λc3=>⟨⟨by omega,by omega,h3,by omega⟩,?_⟩,λc3=>⟨by omega,λc4=> ?_,λc4=> ?_⟩⟩⟩⟩
  ·rw[eD (by omega) nn c1];exact⟨rfl,rfl,rfl,rfl,rfl,rfl⟩
  ·rw[eT (by omega) nn c1 (by omega)];exact⟨rfl,rfl,rfl,rfl,rfl,rfl⟩
  ·rw[eT (by omega) nn c1 (by omega)];exact⟨rfl,rfl,rfl,rfl,rfl,rfl⟩
  ·rw[eS (by omega) nn c1 (by omega),if_pos (sg.mp c4)]
   refine⟨by omega,mkS [bat s n],rfl,λj v h=> ?_,by omega,rfl,rfl,rfl,show((n:Nat):Int)=_ by omega,rfl,show((n+1:Nat):Int)=_ by omega⟩
   rw[Nat.zero_add]
   rw[show q16 (mkS [bat s n])=[Value.int .u8 (bat s n:Nat)]from(z58 [] _ b0).symm]at h
   exact h
  ·rw[eS (by omega) nn c1 (by omega),if_neg (λh=>c4 (sg.mpr h))]
   exact⟨rfl,rfl,rfl,rfl,rfl,rfl⟩
abbrev Tk:=Nat×ByteArray×Nat×Nat
def tkV(x:Tk):List Value:=[.int .i64 (x.1:Nat), .string x.2.1, .int .u64 (x.2.2.1:Nat), .int .i64 (x.2.2.2:Nat)]
def z1c(l:List Tk):List Value:=l.flatMap tkV
def lxF(s:ByteArray):Nat->Nat->List Tk->List Tk×Nat×Nat
  |0,_,_=>([],0,0)
  | f+1,i,acc=>
    if(spR s i).1=false then([],2,(spR s i).2)else
    if(wdR s (spR s i).2).1≠0 then([],(wdR s (spR s i).2).1,(wdR s (spR s i).2).2.2)else
    if(wdR s (spR s i).2).2.1.1=5 then(acc++[(wdR s (spR s i).2).2.1],0,0)else
    lxF s f (wdR s (spR s i).2).2.2 (acc++[(wdR s (spR s i).2).2.1])
def lxE(s:ByteArray) (i:Nat) (acc:List Tk):List Tk×Nat×Nat:=lxF s (s.size+1- i) i acc
def lxR(s:ByteArray):List Tk×Nat×Nat:=if 3000<s.size then([],3,0)else lxE s 0 []
def tkM(l:List Tk):List SV->PF
 | [x]=>⟨true,λp=>x.2.1=l.length/\qh1 p x.1 x.2.1 x.2.2 (z1c l),λ_ _ h e=>⟨e.1,q4p h e.2⟩⟩
 |_=>{}
def zc8:Ct where
 σ:=ByteArray
 args:=λs=>[.sv (.string s)]
 h:=λ_=>[]
 m:=1
 pre:=λs=>s.size<100000
 mem:=λ_=>hG
 find:=some λl _=>match l with
  | [a]=>gs a
  |_=>none
 r:=λs=> .tup [.tsl 1, .sv (.int .i64 ((lxR s).2.1:Nat)), .sv (.int .i64 ((lxR s).2.2:Nat))]
 h':=λ_=>[]
 m':=2
 g:=λs=>some {β:=Unit,ks:=[1],pre:=λ_=>True,mem:=λ_ xs=>tkM (lxR s).1 xs}
def zd0(t:T AV) (h:T AO):Option (List Value×Nat×Int):=match z5g h 1 with
  | some (_,j)=>match t.get 2 with
    | some (.ssl id _ n _ _)=>match h.get id with
      |some (.row _ _ vs)=>some (vs,n,j)
      | some (.cells _ _ _ l)=>match qa6.concs l with
        |some vs=>some (vs,n,j)
        |none=>none
      |_=>none
    |some .nsl=>some ([],0,j)
    |_=>none
  |none=>none
def z27(s:ByteArray) (vs:List Value) (n:Nat) (j:Int):Prop:=s.size<=3000/\∃l:List Tk,vs=z1c l/\n=l.length/\0<=j/\j<=s.size/\l.length<=j.toNat/\lxE s j.toNat l=lxE s 0 []
def zi5:zc8.σ->WayF:=λs=>{
 ann:=λ_ _ _=>some {σ:=List Value×Nat×Int,pre:=λ⟨vs,n,j⟩=>z27 s vs n j,find:=some zd0,t:=λ⟨vs,n,j⟩=>[(2, .ssl 2 0 n 4 3)],h:=λ⟨vs,n,j⟩=>[(2, .row 37 0 vs),(1, .cells 46 (some 0) false [.sv (.string s), .sv (.int .i64 j)])],more:=2,μ:=λ⟨vs,n,j⟩=>s.size- j.toNat,keep:=[0,5]}
 pubE:=[2]}
def zi4:Nat->Option Ct:=qfl [(15,z3s),(16,zak)]
def z44 (s:ByteArray):∀(f i:Nat),i<=s.size->s.size- i=f->i<=(spR s i).2/\(spR s i).2<=s.size:=λf=>by
  induction f using Nat.strongRecOn with
  | ind f ih=>
    intro i hi hf
    rw[z2b s i hi]
    split
    · rename_i h
      have:=z0w h
      have:=ih (s.size- (i+1)) (by omega) (i+1) (by omega) rfl
      omega
    · split
      · rename_i h
        have:=z1s s i h
        have:=ih (s.size- eol s i) (by omega) (eol s i) (by omega) rfl
        omega
      · split
        · cases hc:cl s (i+2)with
          |none=>simp only[];omega
          | some k=>
            have:=z4e s _ _ _ rfl hc
            have:=ih (s.size- (k+2)) (by omega) (k+2) (by omega) rfl
            simp only[];omega
        · simp only[];omega
def z9y(s:ByteArray):∀(f j:Nat),j<=s.size->s.size- j=f->j<=nmE s j/\nmE s j<=s.size
  |0,j,h,hf=>by rw[nmE,hf,nmF];omega
  | f +1,j,h,hf=>by
    rw[z29 s j h]
    split
    · have:=z9y s f (j+1) (by omega) (by omega)
      omega
    · omega
def z5i(s:ByteArray) (B:Nat) (hB:B<=16):∀(f j v:Nat),j<=s.size->s.size- j=f->j<=(dgE s B j v).1/\(dgE s B j v).1<=s.size
  |0,j,v,h,hf=>by rw[dgE,hf,dgF];simp only[];omega
  | f +1,j,v,h,hf=>by
    rw[z0i s B j v hB]
    split
    · have:=z5i s B hB f (j+1) (v*B+dv (bat s j)) (by omega) (by omega)
      omega
    · simp only[];omega
def zde (s :ByteArray) (q:Nat):∀(f j:Nat) (acc:List Nat) (l:List Nat) (to:Nat),s.size+1- j=f->txE s q j acc=some (l,to)->j<to/\to<=s.size:=λf=>by
  induction f using Nat.strongRecOn with
  | ind f ih=>
    intro j acc l to hf h
    rw[z1d]at h
    split at h
    · split at h
      · cases h;omega
      · split at h
        · cases h
        · split at h
          · cases he:esc (bat s (j+1))with
            |none=>rw[he]at h;cases h
            | some c=>
              rw[he]at h
              have:=ih _ (by omega) (j+2) _ l to rfl h
              omega
          · have:=ih _ (by omega) (j+1) _ l to rfl h
            omega
    · cases h
def z9v(s:ByteArray) (n:Nat) (hn:n<s.size):n+nbO s n<=s.size:=by
 unfold nbO
 split
 ·split
  ·rename_i g2
   have:n+2<s.size:=by
    rcases Nat.lt_or_ge (n+2) s.size with h|h
    ·exact h
    ·rw[z09 h]at g2;exact absurd g2.1 (by decide)
   omega
  ·omega
 ·omega
def zco:∀c<256,z02 c=true->dv c<10:=by decide+kernel
def zd2(s:ByteArray) (i:Nat) (hi:i<s.size) (hd:z02 (bat s i)=true):(nbR s i).2.2<=s.size/\((nbR s i).1=0->i<(nbR s i).2.2):=by
 have hB:=z42 s i
 have hle:=z5i s (nbB s i) (by omega) _ (i+nbO s i) 0 (z9v s i hi) rfl
 have hgt:i<(dgE s (nbB s i) (i+nbO s i) 0).1:=by
  by_cases h48:bat s i=48
  ·have:1<=nbO s i:=by unfold nbO;rw[if_pos h48];split<;>omega
   omega
  ·have e0:nbO s i=0:=by unfold nbO;rw[if_neg h48]
   have eB:nbB s i=10:=by unfold nbB;rw[if_neg h48]
   rw[e0,eB,Nat.add_zero,z0i s 10 i 0 (by omega),if_pos (zco _ (z03 s i) hd)]
   have:=z5i s 10 (by omega) _ (i+1) (0*10+dv (bat s i)) (by omega) rfl
   omega
 unfold nbR
 simp only[]
 split
 ·exact⟨by simp only[];omega,λh=>by simp at h⟩
 ·split
  ·exact⟨by simp only[];omega,λh=>by simp at h⟩
  ·exact⟨by simp only[];omega,λ_=>hgt⟩
def zdi(s:ByteArray) (q i:Nat) (hi:i<s.size):(txR s q i).2.2<=s.size/\((txR s q i).1=0->i<(txR s q i).2.2):=by
  unfold txR
  cases h:txE s q (i+1) []with
  |none=>exact⟨by simp only[];omega,λh=>by simp at h⟩
  | some x=>
    obtain⟨l,to⟩:=x
    have:=zde s q _ _ _ _ _ rfl h
    simp only[]
    split
    · exact⟨by simp only[];omega,λ_=>by simp only[];omega⟩
    · exact⟨by simp only[];omega,λh=>by simp at h⟩
def z4b(s:ByteArray) (i:Nat) (hi:i<=s.size):(wdR s i).2.2<=s.size/\((wdR s i).1=0->(wdR s i).2.1.1≠5->i<(wdR s i).2.2):=by
 unfold wdR
 split
 ·exact⟨hi,λ_ h=>absurd rfl h⟩
 ·rename_i h0
  split
  ·have:=z9y s _ (i+1) (by omega) rfl
   exact⟨this.2,λ_ _=>by simp only[];omega⟩
  ·split
   ·rename_i hd
    have:=zd2 s i (by omega) hd
    exact⟨this.1,λh _=>this.2 h⟩
   ·split
    ·have:=zdi s (bat s i) i (by omega)
     exact⟨this.1,λh _=>this.2 h⟩
    ·split
     ·exact⟨by simp only[];omega,λ_ _=>by simp only[];omega⟩
     ·exact⟨hi,λh=>by simp at h⟩
def z41(s:ByteArray):∀(f g i:Nat) (acc:List Tk),s.size+1- i<=f->s.size+1- i<=g->i<=s.size->lxF s f i acc=lxF s g i acc
  |0,_,i,_,h,_,hi=>by omega
  |_+1,0,i,_,_,h,hi=>by omega
  | f + 1,g+1,i,acc,h1,h2,hi=>by
    have a:=z44 s _ i hi rfl
    have b:=z4b s (spR s i).2 a.2
    rw[lxF,lxF]
    split
    · rfl
    · split
      · rfl
      · split
        · rfl
        · rename_i q1 q2
          have:=b.2 (by simpa using q1) q2
          exact z41 s f g _ _ (by omega) (by omega) b.1
def z40(s:ByteArray) (i:Nat) (acc:List Tk) (hi:i<=s.size):lxE s i acc=
  if(spR s i).1=false then([],2,(spR s i).2)else
  if(wdR s (spR s i).2).1≠0 then([],(wdR s (spR s i).2).1,(wdR s (spR s i).2).2.2)else
  if(wdR s (spR s i).2).2.1.1=5 then(acc++[(wdR s (spR s i).2).2.1],0,0)else
  lxE s (wdR s (spR s i).2).2.2 (acc++[(wdR s (spR s i).2).2.1]):=by
 have a:=z44 s _ i hi rfl
 have b:=z4b s (spR s i).2 a.2
 unfold lxE
 obtain⟨f,hf⟩:∃f,s.size+1- i=f+1:=⟨s.size- i,by omega⟩
 rw[hf,lxF]
 split
 ·rfl
 ·split
  ·rfl
  ·split
   ·rfl
   ·rename_i q1 q2
    have:=b.2 (by simpa using q1) q2
    exact z41 s _ _ _ _ (by omega) (by omega) b.1
def z46(l:List Tk) (x:Tk):z1c l++tkV x=z1c (l++[x]):=by
 unfold z1c;simp
def z0p(l:List Tk):(z1c l).length=l.length*4:=by
 unfold z1c
 induction l with
 |nil=>rfl
 |cons a l ih=>rw[List.flatMap_cons,List.length_append,ih];simp[tkV];omega
def z0a:Pl noA:=trivial
def z55{x:Addr} (h:x.spot=none):Pl (some x):=trivial
def zb5:∀g C,zi4 g=some C->q7a P g C:=qda (qgx z86 (qgx zbc qjn))
section
variable (x0:ByteArray) (x1:List Value×Nat×Int) (x2:Nat->Option Obj) (x3:Prop) (x4:Int)
 abbrev zbo:=∃(i0:Int),q5o x2 (Addr.mk 0 0 none)=some (int i64 i0)
 def z7f:=True/\zbo x2
 def z8z:=noA=noA/\(0:Nat)=0/\(0:Nat)=0/\x3
 def zbn:=(↑(lxR x0).2.1:Int)=x4/\(↑(lxR x0).2.2:Int)=0/\x3
 def zjx:=0=length (lxR x0).1/\qh1 x2 noA 0 0 (z1c (lxR x0).1)
 def z8y:=Pl noA/\True/\(∀i0,(z7f i0)->zjx x0 i0)/\True
 abbrev z2y:=(spR x0 (toNat x1.2.2)).2
 abbrev z90:=(↑((wdR x0 (toNat (Int.ofNat (z2y x0 x1)))).1):Int)
 abbrev z6w:=(wdR x0 (toNat (Int.ofNat (z2y x0 x1)))).2
 abbrev z6v:=(↑(z6w x0 x1).1.1:Int)
 abbrev z3i:=(z6w x0 x1).1.2.2
 abbrev zga:=x1.1++[int i64 (z6v x0 x1),string (z6w x0 x1).1.2.1,int u64 (↑(z3i x0 x1).1:Int),int i64 (↑(z3i x0 x1).2:Int)]
 def zjw:=x0=x0/\x1.2.1+nat_lit 1=x1.2.1+nat_lit 1/\x0=x0/\Int.ofNat (z6w x0 x1).2=Int.ofNat (z6w x0 x1).2/\x1.1++[int i64 (z6v x0 x1),string (z6w x0 x1).1.2.1,int u64 (↑(z3i x0 x1).1:Int),int i64 (↑(z3i x0 x1).2:Int)]=x1.1++[int i64 (z6v x0 x1),string (z6w x0 x1).1.2.1,int u64 (↑(z3i x0 x1).1:Int),int i64 (↑(z3i x0 x1).2:Int)]/\(∀i0,(z7f i0)->z7f i0)/\z27 x0 (zga x0 x1) (x1.2.1+nat_lit 1) (Int.ofNat (z6w x0 x1).2)/\size x0- toNat (Int.ofNat (z6w x0 x1).2)<size x0- toNat x1.2.2/\True
 def zjv:=length x1.1=x1.2.1*4/\(x1.2.1+nat_lit 1)*40<=140737488355328/\Ji ((z6v x0 x1)=5) (∀(i0 i1 i2:Nat) (i3:Option Addr) (i4 i5:Nat),(∃i6,(z7f i6)/\x1.2.1+nat_lit 1<=i5/\qib i6 i3 (take ((x1.2.1+nat_lit 1)*nat_lit 4) (zga x0 x1)))->∃(i8:Unit),i3=i3/\x1.2.1+nat_lit 1=x1.2.1+nat_lit 1/\i5=i5/\zbn x0 (Pl i3/\True/\(∀i9,(z7f i9)/\x1.2.1+nat_lit 1<=i5/\qib i9 i3 (take ((x1.2.1+nat_lit 1)*nat_lit 4) (zga x0 x1))->x1.2.1+nat_lit 1=length (lxR x0).1/\qh1 i9 i3 (x1.2.1+nat_lit 1) i5 (z1c (lxR x0).1))/\True) 0) (zjw x0 x1)
 def zju:=x0=x0/\Int.ofNat (z2y x0 x1)=Int.ofNat (z2y x0 x1)/\(0<=Int.ofNat (z2y x0 x1)/\Int.ofNat (z2y x0 x1)<=(↑(size x0):Int)/\size x0<100000)/\((!decide ((z90 x0 x1)=0))=true->∃(i0:Unit),z8z ((↑(lxR x0).2.1:Int)=(z90 x0 x1)/\(↑(lxR x0).2.2:Int)=Int.ofNat (z6w x0 x1).2/\z8y x0))/\((!decide ((z90 x0 x1)=0))=false->zjv x0 x1)
 def zjt:=x0=x0/\x1.2.2=x1.2.2/\(0<=x1.2.2/\x1.2.2<=(↑(size x0):Int)/\size x0<100000)/\(∀i0,(z7f i0)->zbo i0)/\((!(spR x0 (toNat x1.2.2)).1)=true->∃(i3:Unit),z8z ((↑(lxR x0).2.1:Int)=2/\(↑(lxR x0).2.2:Int)=Int.ofNat (z2y x0 x1)/\z8y x0))/\((!(spR x0 (toNat x1.2.2)).1)=false->zju x0 x1)
 def zjs:=(x0=x0/\nat_lit 0=0/\x0=x0/\(0:Int)=0/\(∀i0,(z7f i0)->z7f i0)/\z27 x0 [] 0 0/\True)/\∀(i3:List Value×Nat×Int),z27 x0 i3.1 i3.2.1 i3.2.2->zjt x0 i3
 def zjr:=Ji (3000<(↑(size x0):Int)) (∃(i0:Unit),z8z (zbn x0 (z8y x0) 3)) (zjs x0)
end
def zav(s:ByteArray):qjz P (zi4) Try.f10 zc8 (zi5) s=(size s<100000->(∃(p:Pub),z7f p)->zjr s):=by kernel_rfl
def zcy:=λs=>Eq.trans (zav s) (by delta Ji Jt Jf zbo z7f z8z zbn zjx z8y z2y z90 z6w z6v z3i zga zjw zjv zju zjt zjs zjr;exact rfl)
def z9u:q7a P 10 zc8:=by
 refine qk0 mixed zb5 (W:=zi5) Try.func10 (by kernel_rfl) (by decide) (by decide) (λs=>by kernel_rfl) λ(s:ByteArray)=>(zcy s).mpr ?_
 intro h3 hp
 simp only[decide_eq_true_eq,decide_eq_false_iff_not,and_true,true_and,Int.toNat_natCast,Int.add_zero]
 refine⟨λa0=>⟨(),?_⟩,λa0=>⟨⟨λp h=>h,?_⟩,?_⟩⟩
 ·have e:lxR s=([],3,0):=by unfold lxR;rw[if_pos (by omega)]
  rw[e]
  exact⟨rfl,rfl,z0a,λp _=>⟨rfl,Nat.le_refl _, .inl ⟨rfl,z0a⟩⟩⟩
 ·exact⟨by omega,[],rfl,rfl,by omega,by omega,by simp,rfl⟩
 rintro⟨vs,n,j⟩ ⟨hs,l,rfl,rfl,hj,hj2,hlen,inv⟩
 simp only[]at hj hj2 hlen inv
 obtain⟨j,rfl⟩:=Int.eq_ofNat_of_zero_le hj
 have hj3:j<=s.size:=by omega
 have a:=z44 s _ j hj3 rfl
 have b:=z4b s (spR s j).2 a.2
 have step:=z40 s j l hj3
 have lx:lxR s=lxE s 0 []:=by unfold lxR;rw[if_neg (by omega)]
 simp only[Int.toNat_natCast]at inv hlen⊢
 rw[inv,←lx]at step
 simp only[Bool.not_eq_true',Bool.not_eq_false',decide_eq_true_eq,decide_eq_false_iff_not]at*
 have tn0:(Int.ofNat (spR s j).2).toNat=(spR s j).2:=Int.toNat_natCast _
 have tn3:(Int.ofNat (wdR s (spR s j).2).2.2).toNat=(wdR s (spR s j).2).2.2:=Int.toNat_natCast _
 rw[tn0,tn3]
 have ap:=z46 l (wdR s (spR s j).2).2.1
 unfold tkV at ap
 rw[ap]
 have qj8:=z0p (l++[(wdR s (spR s j).2).2.1])
 rw[List.take_of_length_le (by rw[qj8];simp)]
 refine⟨by omega,λp h=>h,λc1=>⟨(),?_⟩,λc1=>⟨⟨show(0:Int)<=((spR s j).2:Nat)by omega,show((spR s j).2:Int)<=_ by omega,h3⟩,λc2=>⟨(),?_⟩,λc2=>⟨z0p l,by omega,λc3 b s_2 u q n c hq=>⟨(),?_⟩,λc3=>⟨λp h=>h,?_,?_⟩⟩⟩⟩
 ·rw[if_pos c1]at step
  rw[step]
  exact⟨rfl,rfl,z0a,λp _=>⟨rfl,Nat.le_refl _, .inl ⟨rfl,z0a⟩⟩⟩
 ·rw[if_neg (by rw[c1];simp),if_pos (by omega)]at step
  rw[step]
  exact⟨rfl,rfl,z0a,λp _=>⟨rfl,Nat.le_refl _, .inl ⟨rfl,z0a⟩⟩⟩
 ·rw[if_neg (by rw[c1];simp),if_neg (by omega),if_pos (by omega)]at step
  rw[step]
  obtain⟨p,hp1,hp2,hp3⟩:=hq
  refine⟨rfl,rfl,?_,λp h=>⟨by simp,h.2.1,h.2.2⟩⟩
  rcases hp3 with⟨h,_⟩|⟨x,rfl,h,_⟩
  ·have:=congrArg List.length h
   rw[qj8]at this;simp at this
  ·exact z55 h
 ·rw[if_neg (by rw[c1];simp),if_neg (by omega),if_neg (by omega)]at step
  have:=b.2 (by omega) (by omega)
  refine⟨hs,_,rfl,by simp,show(0:Int)<=((wdR s (spR s j).2).2.2:Nat)by omega,show((wdR s (spR s j).2).2.2:Int)<=_ by omega,?_,?_⟩
  ·rw[tn3];simp;omega
  ·rw[tn3,←step,lx]
 ·have:=b.2 (by omega) (by omega)
  omega
def lx(s:ByteArray) (i e a:Int):List (Nat×AO):=[(1, .cells 51 (some 0) false [.sv (.string s), .sv (.int .i64 i), .sv (.int .i64 e), .sv (.int .i64 a)])]
def z7e (h:T AO) (id:Nat):Option (ByteArray×Int×Int×Int):=match h.get id with
  | some (.cells _ _ _ [a,b,c,d])=>match gs a with
    | some s=>match gi b with
      | some (_,i)=>match gi c with
        | some (_,e)=>match gi d with
          |some (_,f)=>some (s,i,e,f)
          |none=>none
        |none=>none
      |none=>none
    |none=>none
  |_=>none
def zg3(pre:ByteArray->Int->Prop) (r:ByteArray->Int->AV) (to e a:ByteArray->Int->Int):Ct where
  σ:=ByteArray×Int
  args:=λ⟨s,i⟩=>[.ptr 1 0]
  h:=λ⟨s,i⟩=>lx s i 0 0
  m:=2
  pre:=λ⟨s,i⟩=>pre s i
  find:=some λl h=>match l with
    | [.ptr id _]=>match z7e h id with
      |some (s,i,_,_)=>some (s,i)
      |none=>none
    |_=>none
  r:=λ⟨s,i⟩=>r s i
  h':=λ⟨s,i⟩=>lx s (to s i) (e s i) (a s i)
  m':=2
  g:=λ_=>none
def stW(s:ByteArray) (i:Nat) (t:ByteArray):Bool:=decide (i+t.size<=s.size)&&decide (s.extract i (i+t.size)=t)
def z20:Ct where
  σ:=ByteArray×Int×ByteArray
  args:=λ⟨s,i,t⟩=>[.ptr 1 0, .sv (.string t)]
  h:=λ⟨s,i,t⟩=>lx s i 0 0
  m:=2
  pre:=λ⟨s,i,t⟩=>0<=i/\i<=s.size/\s.size<100000/\t.size<1000
  find:=some λl h=>match l with
    | [.ptr id _,a]=>match z7e h id with
      | some (s,i,_,_)=>match gs a with
        |some t=>some (s,i,t)
        |none=>none
      |none=>none
    |_=>none
  r:=λ⟨s,i,t⟩=> .sv (.bool (stW s i.toNat t))
  h':=λ⟨s,i,t⟩=>lx s i 0 0
  m':=2
  g:=λ_=>none
def z4d :Ct where
  σ:=ByteArray×Int×Int×Int
  args:=λ⟨s,i,e,a⟩=>[.ptr 1 0, .sv (.int .i64 e), .sv (.int .i64 a)]
  h:=λ⟨s,i,e,a⟩=>lx s i 0 0
  m:=2
  find := some λl h=>match l with
    | [.ptr id _,x,y]=>match z7e h id with
      | some (s,i,_,_)=>match gi x with
        | some (_,e)=>match gi y with
          |some (_,a)=>some (s,i,e,a)
          |none=>none
        |none=>none
      |none=>none
    |_=>none
  r:=λ⟨s,i,e,a⟩=>zb9 0 (mkS []) 0 0
  h':=λ⟨s,i,e,a⟩=>lx s i e a
  m':=2
  g:=λ_=>none
def z5b:Ct where
  σ:=ByteArray×Int×Int
  args:=λ⟨s,i,d⟩=>[.ptr 1 0, .sv (.int .i64 d)]
  h:=λ⟨s,i,d⟩=>lx s i 0 0
  m:=2
  pre:=λ⟨s,i,d⟩=>0<=i/\i<=s.size/\s.size<1000000/\0<=d/\d<1000000
  find:=some λl h=>match l with
    | [.ptr id _,a]=>match gi a with
      | some (_,d)=>match z7e h id with
        |some (s,i,_,_)=>some (s,i,d)
        |none=>none
      |none=>none
    |_=>none
  r:=λ⟨s,i,d⟩=> .sv (.int .u8 (bat s (i+d).toNat:Nat))
  h':=λ⟨s,i,d⟩=>lx s i 0 0
  m':=2
  g:=λ_=>none
def dvR(c:Nat):Int:=if dv c<16 then dv c else -1
def z31:Ct:=ctS Int (λc=>[.int .u8 c]) f1i (λc=>0<=c/\c<256) (λ_=>{}) λc=> .sv (.int .i64 (dvR c.toNat))
def ptV(s:ByteArray):Nat:=if frt s=0 then 0 else(vlF s (frt s)).getD 0
def z3r:Ct:=ctS ByteArray (λs=>[.string s]) f1s (λs=>s.size<1000000) (λ_=>{}) λs=> .tup [.sv (.int .u32 (ptV s:Nat)), .sv (.int .i64 (frt s:Nat))]
def leN(n:Nat):Nat:=if n=2 then 128 else if n=3 then 2048 else 65536
def za7:z3r.σ->WayF:=λs=>{
 ann:=λ_ _ _=>some {σ:=Int×Int,pre:=λ⟨v,i⟩=>1<=i/\i<=ldN (bat s 0)/\∃q:Nat,v=q/\vlF s i.toNat=some q,find:=some λt _=>match slI t 6 with|some v=>(match slI t 8 with|some i=>some (v,i)|none=>none)|none=>none,t:=λ⟨v,i⟩=>[(6, .sv (.int .u32 v)),(8, .sv (.int .i64 i))],h:=λ_=>[],more:=0,μ:=λ⟨v,i⟩=>5- i.toNat,keep:=[0,5,7]}
 cut:=λr _ _=>match r with
  |14=>some {σ:=Unit,pre:=λ_=>0<s.size/\2<=ldN (bat s 0),find:=some λ_ _=>some (),t:=λ_=>[(5, .sv (.int .i64 (ldN (bat s 0):Nat))),(6, .sv (.int .u32 (ldV (bat s 0):Nat))),(7, .sv (.int .u32 (leN (ldN (bat s 0)):Nat)))],h:=λ_=>[],more:=0,μ:=λ_=>0,keep:=[0]}
  |_=>none}
def z6o:z15.σ->WayF:=λs=>{ann:=λ_ _ _=>some {σ:=ByteArray,pre:=λt=>t.size<=s.size/\vld t=vld s,find:=some λt _=>slS t 0,t:=λu=>[(0, .sv (.string u))],h:=λ_=>[],more:=0,μ:=λu=>u.size,keep:=[]}}
def zg2(s:ByteArray) (pre:Int->Prop) (keep:List Nat):LT:={σ:=Int,pre:=pre,find:=some λ_ h=>match z7e h 1 with|some (_,j,_,_)=>some j|none=>none,t:=λ_=>[],h:=λj=>lx s j 0 0,more:=0,μ:=λj=>s.size- j.toNat,keep:=keep}
def spI(s:ByteArray) (i:Nat):Nat:=if(spR s i).1=true then(spR s i).2 else s.size
def spN(s:ByteArray) (i k:Nat):Nat:=if(spR s i).1=true then 0 else k
def z1z:Ct:=zg3 (λs i=>0<=i/\i<=s.size/\s.size<100000) (λs i=> .tup []) (λs i=>(spI s i.toNat:Nat)) (λs i=>(spN s i.toNat 2:Nat)) λs i=>(spN s i.toNat (spR s i.toNat).2:Nat)
def z6n:z1z.σ->WayF:=λ⟨s,i⟩=>{ann:=λb _ h=>match b with
  |0=>some (zg2 s (λj=>0<=j/\j<=s.size/\spR s j.toNat=spR s i.toNat) [0])
  | 3=>match z7e h 1 with
    |some (_,j,_,_)=>some (zg2 s (λk=>j<=k/\k<=s.size/\eol s k.toNat=eol s j.toNat) [0])
    |none=>none
  | _=>match z7e h 1 with
    |some (_,j,_,_)=>some (zg2 s (λk=>j<=k/\k<=s.size/\cl s k.toNat=cl s j.toNat) [0,3])
    |none=>none}
def z66:Nat->Option Ct:=qfl [(30,z20),(31,z4d)]
def dgG(s:ByteArray) (B:Nat):Nat->Nat->Nat->Nat
 |0,j,v=>j
 |f+1,j,v=>if dv (bat s j)<B then if 18446744073709551616<=v*B+dv (bat s j)then j else dgG s B f (j+1) (v*B+dv (bat s j))else j
def dgP(s:ByteArray) (B j v:Nat):Nat:=dgG s B (s.size- j) j v
def nbS(s:ByteArray) (i:Nat):Nat:=if nbB s i=16 then i+2 else i
def nbI(s:ByteArray) (i:Nat):Nat:=dgP s (nbB s i) (nbS s i) 0
def erN(e k:Nat):Nat:=if e=0 then 0 else k
def z19:Ct:=zg3 (λs i=>0<=i/\i<s.size/\s.size<100000/\z02 (bat s i.toNat)=true) (λs i=>zb9 (nbK (nbR s i.toNat).1 2) (mkS []) (nbR s i.toNat).2.1 (nbK (nbR s i.toNat).1 i.toNat)) (λs i=>(nbI s i.toNat:Nat)) (λs i=>((nbR s i.toNat).1:Nat)) λs i=>(erN (nbR s i.toNat).1 i.toNat:Nat)
def z4a:z19.σ->WayF:=λ⟨s,i⟩=>{
 ann:=λ_ _ _=>some {σ:=Int×Int,pre:=λ⟨n,j⟩=>∃V:Nat,n=V/\V<18446744073709551616/\0<=j/\i<=j/\j<=s.size/\dgE s (nbB s i.toNat) j.toNat V=dgE s (nbB s i.toNat) (nbS s i.toNat) 0/\dgP s (nbB s i.toNat) j.toNat V=nbI s i.toNat,find:=some λt h=>match slI t 5 with|some n=>(match z7e h 1 with|some (_,j,_,_)=>some (n,j)|none=>none)|none=>none,t:=λ⟨n,j⟩=>[(5, .sv (.int .u64 n))],h:=λ⟨n,j⟩=>lx s j 0 0,more:=0,μ:=λ⟨n,j⟩=>s.size- j.toNat,keep:=[0,2,3,4]}
 cut:=λr _ _=>match r with
  |8=>some {σ:=Unit,find:=some λ_ _=>some (),t:=λ_=>[(4, .sv (.int .u64 (nbB s i.toNat:Nat)))],h:=λ_=>lx s (nbS s i.toNat:Nat) 0 0,more:=0,μ:=λ_=>0,keep:=[0,2,3]}
  |_=>none}
def z45:Nat->Option Ct:=qfl [(30,z20),(31,z4d),(33,z5b),(48,z31),(32,z0h),(34,z0r)]
def txG (s:ByteArray) (q:Nat):Nat->Nat->Nat
  |0,j=>j
  | f + 1,j=>if j<s.size then
      if bat s j=q then j+1 else if bat s j=10 then j else if bat s j=92 then
        match esc (bat s (j+1))with
        |some _=>txG s q f (j+2)
        |none=>j+1
      else txG s q f (j+1)
    else j
def txP(s:ByteArray) (q j:Nat):Nat:=txG s q (s.size+1- j) j
def z3t:Ct:=zg3 (λs i=>0<=i/\i<s.size/\s.size<100000/\(bat s i.toNat=34\/bat s i.toNat=39)) (λs i=>zb9 (nbK (txR s (bat s i.toNat) i.toNat).1 3) (txR s (bat s i.toNat) i.toNat).2.1 0 (nbK (txR s (bat s i.toNat) i.toNat).1 i.toNat)) (λs i=>(txP s (bat s i.toNat) (i.toNat+1):Nat)) (λs i=>((txR s (bat s i.toNat) i.toNat).1:Nat)) λs i=>(erN (txR s (bat s i.toNat) i.toNat).1 i.toNat:Nat)
def za9:z3t.σ->WayF:=λ⟨s,i⟩=>{ann:=λ_ _ _=>some {σ:=ByteArray×Int,pre:=λ⟨o,j⟩=>∃l:List Nat,o=bs l/\(∀c∈l,c<256)/\i+1<=j/\j<=s.size/\l.length<=j.toNat/\txE s (bat s i.toNat) j.toNat l=txE s (bat s i.toNat) (i.toNat+1) []/\txP s (bat s i.toNat) j.toNat=txP s (bat s i.toNat) (i.toNat+1),find:=some λt h=>match slS t 5 with|some o=>(match z7e h 1 with|some (_,j,_,_)=>some (o,j)|none=>none)|none=>none,t:=λ⟨o,j⟩=>[(5, .sv (.string o))],h:=λ⟨o,j⟩=>lx s j 0 0,more:=0,μ:=λ⟨o,j⟩=>s.size- j.toNat,keep:=[0,2,3,4]}}
def za2:Nat->Option Ct:=qfl [(31,z4d),(33,z5b),(49,z15)]
def wdI(s:ByteArray) (i:Nat):Nat:=
 if i=s.size then i else
 if isLet (bat s i)=true\/(bat s i=46/\isLet (bat s (i+1))=true)then nmE s (i+1)else
 if z02 (bat s i)=true then nbI s i else
 if bat s i=34\/bat s i=39 then txP s (bat s i) (i+1)else
 if bat s i∈sgs then i+1 else i
def z3u:Ct:=zg3 (λs i=>0<=i/\i<=s.size/\s.size<100000) (λs i=>tkA (wdR s i.toNat).2.1) (λs i=>(wdI s i.toNat:Nat)) (λs i=>((wdR s i.toNat).1:Nat)) λs i=>(erN (wdR s i.toNat).1 i.toNat:Nat)
def zab:z3u.σ->WayF:=λ⟨s,i⟩=>{ann:=λb _ _=>match b with
 |1=>some (zg2 s (λj=>i+1<=j/\j<=s.size/\nmE s j.toNat=nmE s (i.toNat+1)) [0,2,3])
 |_=>some {σ:=Int,pre:=λk=>0<=k/\k<=12/\∀m,m<k.toNat->sgs[m]?≠some (bat s i.toNat),find:=some λt _=>slI t 5,t:=λk=>[(5, .sv (.int .i64 k))],h:=λ_=>[],more:=0,μ:=λk=>12- k.toNat,keep:=[0,2,3,4]}}
def za3:Nat->Option Ct:=qfl [(31,z4d),(33,z5b),(32,z0h),(34,z0r),(35,z19),(36,z3t)]
def z7l:Ct:={zc8 with mem:=λ_=>{}}
def zaw(t:T AV) (h:T AO):Option (List Value×Nat×Int):=match z7e h 1 with
  | some (_,j,_,_)=>match t.get 6 with
    | some (.ssl id _ n _ _)=>match h.get id with
      |some (.row _ _ vs)=>some (vs,n,j)
      | some (.cells _ _ _ l)=>match qa6.concs l with
        |some vs=>some (vs,n,j)
        |none=>none
      |_=>none
    |some .nsl=>some ([],0,j)
    |_=>none
  |none=>none
def zdl:z7l.σ->WayF:=λ(s:ByteArray)=>{
 ann:=λ_ _ _=>some {σ:=List Value×Nat×Int,pre:=λ⟨vs,n,j⟩=>z27 s vs n j,find:=some zaw,t:=λ⟨vs,n,j⟩=>[(6, .ssl 2 0 n 4 3)],h:=λ⟨vs,n,j⟩=>[(2, .row 37 0 vs),(1, .cells 51 (some 0) false [.sv (.string s), .sv (.int .i64 j), .sv (.int .i64 0), .sv (.int .i64 0)])],more:=2,μ:=λ⟨vs,n,j⟩=>s.size- j.toNat,keep:=[0,5]}
 pubE:=[2]}
def zd9:Nat->Option Ct:=qfl [(17,z1z),(18,z3u)]
def zbd(x:Int):IntKind.u8.wrap x=x % 256:=by
 unfold IntKind.wrap;simp[IntKind.bits,IntKind.signed]
section
variable (x0:Int) (x1 x2:ByteArray) (x3:Prop)
 abbrev zhd:=Jb (x0+(↑(size x1):Int))
 abbrev zbp:=x0+(↑(size x1):Int)<=(↑(size x2):Int)
 def z4c:=decide (zbp x0 x1 x2)=decide (zbp x0 x1 x2)
 def zec:=z4c x0 x1 x2/\z4c x0 x1 x2/\z4c x0 x1 x2/\z4c x0 x1 x2/\z4c x0 x1 x2/\z4c x0 x1 x2/\z4c x0 x1 x2/\x3
 def zk1:=stW x1 (toNat x0) x2=decide (ByteArray.extract x1 (toNat x0) (toNat (x0+(↑(size x2):Int)))=x2)/\x1=x1/\x0=x0/\(0:Int)=0/\(0:Int)=0/\True
 def zhc:=stW x1 (toNat x0) x2=false/\x1=x1/\x0=x0/\(0:Int)=0/\(0:Int)=0/\True
 def zjz:=zec x0 x1 x2 (zec x0 x1 x2 (zhd x0 x1/\z4c x0 x1 x2/\(0<=x0/\x0<=x0+(↑(size x1):Int)/\zbp x0 x1 x2)/\z4c x0 x1 x2/\z4c x0 x1 x2/\Ji (zbp x0 x1 x2) (zk1 x0 x2 x1) (zhc x0 x2 x1)))
 def zk0:=z4c x0 x1 x2/\z4c x0 x1 x2/\z4c x0 x1 x2/\zec x0 x1 x2 (zec x0 x1 x2 (Ji (zbp x0 x1 x2) (False) (zhc x0 x2 x1)))
 def zjy:=zhd x0 x1/\Ji (zbp x0 x1 x2) (zjz x0 x1 x2) (zk0 x0 x1 x2)
end
def z4p(s:ByteArray) (i:Int) (t:ByteArray):qjz P (λ_=>none) Try.f30 z20 (λ_=>{}) ⟨s,i,t⟩=(0<=i/\i<=(↑(size s):Int)/\size s<100000/\size t<1000->zjy i t s):=by kernel_rfl
def z63:=λs i t=>Eq.trans (z4p s i t) (by delta Ji Jb Jt Jf zhd zbp z4c zec zk1 zhc zjz zk0 zjy;exact rfl)
def z2u:q7a P 30 z20:=by
 refine qk0 mixed z08 (W:=λ_=>{}) Try.func30 (by kernel_rfl) (by decide) (by decide) (λ⟨s,i,t⟩=>by kernel_rfl) λ⟨s,i,t⟩=>(z63 s i t).mpr ?_
 rintro⟨h1,h2,h3,h4⟩
 obtain⟨n,rfl⟩:=Int.eq_ofNat_of_zero_le h1
 simp only[decide_eq_true_eq,decide_eq_false_iff_not,and_true,true_and,Int.toNat_natCast,Int.add_zero,tnn]
 refine⟨by omega,λa1=>⟨by omega,by omega,λ_=> ?_,λh=>absurd a1 h⟩,λa1=>⟨λh=>a1 h,λ_=> ?_⟩⟩
 ·unfold stW;rw[decide_eq_true (by omega)];rfl
 ·unfold stW;rw[decide_eq_false (by omega)];rfl
def zan(s:ByteArray) (i e a:Int):qjz P (λ_=>none) Try.f31 z4d (λ_=>{}) ⟨s,i,e,a⟩=(True->(↑(0:Nat):Int)=(0:Int)/\mkS []=mkS []/\(↑(0:Nat):Int)=(0:Int)/\(↑(0:Nat):Int)=(0:Int)/\s=s/\i=i/\e=e/\a=a/\True):=by kernel_rfl
def z23:q7a P 31 z4d:=by
 refine qk0 mixed z08 (W:=λ_=>{}) Try.func31 (by kernel_rfl) (by decide) (by decide) (λ⟨s,i,e,a⟩=>by kernel_rfl) λ⟨s,i,e,a⟩=>(zan s i e a).mpr ?_
 exactλ_=>⟨rfl,rfl,rfl,rfl,rfl,rfl,rfl,rfl,trivial⟩
def z7k(s:ByteArray) (i d:Int):qjz P (λ_=>none) Try.f33 z5b (λ_=>{}) ⟨s,i,d⟩=((0:Int)<=i/\i<=(↑(size s):Int)/\size s<(1000000:Nat)/\(0:Int)<=d/\d<(1000000:Int)->((-9223372036854775808:Int)<=i+d/\i+d<=(9223372036854775807:Int))/\(decide (i+d<(↑(size s):Int))=true->((-9223372036854775808:Int)<=i+d/\i+d<=(9223372036854775807:Int))/\((0:Int)<=i+d/\i+d<(↑(size s):Int))/\(↑(bat s (toNat (i+d))):Int)=(↑(bat s (toNat (i+d))):Int)/\s=s/\i=i/\(0:Int)=(0:Int)/\(0:Int)=(0:Int)/\True)/\(decide (i+d<(↑(size s):Int))=false->(↑(bat s (toNat (i+d))):Int)=(0:Int)/\s=s/\i=i/\(0:Int)=(0:Int)/\(0:Int)=(0:Int)/\True)):=by kernel_rfl
def z1w:q7a P 33 z5b:=by
 refine qk0 mixed z08 (W:=λ_=>{}) Try.func33 (by kernel_rfl) (by decide) (by decide) (λ⟨s,i,d⟩=>by kernel_rfl) λ⟨s,i,d⟩=>(z7k s i d).mpr ?_
 rintro⟨h1,h2,h3,h4,h5⟩
 simp only[decide_eq_true_eq,decide_eq_false_iff_not,and_true,true_and]
 refine⟨by omega,λa1=>⟨by omega,by omega⟩,λa1=> ?_⟩
 rw[z09 (by omega)];rfl
section
variable (x0:Int)
 abbrev zhg:=isLet (toNat x0)=true/\True
 def zhf:=isLet (toNat x0)=decide (x0=95)/\True
 def zk3:=Ji (x0<=90) (zhg x0) (zhf x0)
 def zhe:=Ji (65<=x0) (zk3 x0) (zhf x0)
 def zk4:=Ji (x0<=122) (zhg x0) (zhe x0)
 def zk2:=Ji (97<=x0) (zk4 x0) (zhe x0)
end
def z37(c:Int):qjz P (λ_=>none) Try.f32 z0h (λ_=>{}) c=(0<=c/\c<256->zk2 c):=by kernel_rfl
def z4i:=λc=>Eq.trans (z37 c) (by delta Ji Jt Jf zhg zhf zk3 zhe zk4 zk2;exact rfl)
def z1t:q7a P 32 z0h:=by
 refine qk0 mixed z08 (W:=λ_=>{}) Try.func32 (by kernel_rfl) (by decide) (by decide) (λc=>by kernel_rfl) λ(c:Int)=>(z4i c).mpr ?_
 rintro⟨h1,h2⟩
 obtain⟨n,rfl⟩:=Int.eq_ofNat_of_zero_le h1
 simp only[decide_eq_true_eq,decide_eq_false_iff_not,Int.toNat_natCast,and_true]
 repeat' first|intro _|apply And.intro
 all_goals (rw[Bool.eq_iff_iff];simp[isLet];omega)
def z5j(c:Int):qjz P (λ_=>none) Try.f34 z0r (λ_=>{}) c=((0:Int)<=c/\c<(256:Int)->(decide ((48:Int)<=c)=true->z02 (Int.toNat c)=decide (c<=(57:Int))/\True)/\(decide ((48:Int)<=c)=false->z02 (Int.toNat c)=false/\True)):=by kernel_rfl
def z2p:q7a P 34 z0r:=by
 refine qk0 mixed z08 (W:=λ_=>{}) Try.func34 (by kernel_rfl) (by decide) (by decide) (λc=>by kernel_rfl) λ(c:Int)=>(z5j c).mpr ?_
 rintro⟨h1,h2⟩
 obtain⟨n,rfl⟩:=Int.eq_ofNat_of_zero_le h1
 simp only[decide_eq_true_eq,decide_eq_false_iff_not,Int.toNat_natCast,and_true]
 repeat' first|intro _|apply And.intro
 all_goals (rw[Bool.eq_iff_iff];simp[z02];omega)
section
variable (x0 x1:Int)
 abbrev zk7:=Jb (IntKind.wrap u8 (x0- 48))/\dvR (toNat x0)=IntKind.wrap u8 (x0- 48)/\True
 def zhi:=Jb (IntKind.wrap u8 (x0- x1))/\Jb (IntKind.wrap u8 (x0- x1)+10)/\dvR (toNat x0)=IntKind.wrap u8 (x0- x1)+10/\True
 def zhk:=dvR (toNat x0)= -1/\True
 def zk8:=Ji (x0<=70) (zhi x0 65) (zhk x0)
 def zhj:=Ji (65<=x0) (zk8 x0) (zhk x0)
 def zk9:=Ji (x0<=102) (zhi x0 97) (zhj x0)
 def zhh:=Ji (97<=x0) (zk9 x0) (zhj x0)
 def zk6:=Ji (x0<=57) (zk7 x0) (zhh x0)
 def zk5:=Ji (48<=x0) (zk6 x0) (zhh x0)
end
def z7q(c:Int):qjz P (λ_=>none) Try.f48 z31 (λ_=>{}) c=(0<=c/\c<256->zk5 c):=by kernel_rfl
def zal:=λc=>Eq.trans (z7q c) (by delta Ji Jb Jt Jf zk7 zhi zhk zk8 zhj zk9 zhh zk6 zk5;exact rfl)
def zam:q7a P 48 z31:=by
 refine qk0 mixed z08 (W:=λ_=>{}) Try.func48 (by kernel_rfl) (by decide) (by decide) (λc=>by kernel_rfl) λ(c:Int)=>(zal c).mpr ?_
 rintro⟨h1,h2⟩
 obtain⟨n,rfl⟩:=Int.eq_ofNat_of_zero_le h1
 simp only[decide_eq_true_eq,decide_eq_false_iff_not,Int.toNat_natCast,and_true,zbd]
 have d:dvR n=if 48<=n/\n<=57 then(n:Int)- 48 else if 65<=n/\n<=70 then(n:Int)- 55 else if 97<=n/\n<=102 then(n:Int)- 87 else -1:=by
  unfold dvR dv
  repeat' split
  all_goals omega
 rw[d]
 repeat' first|intro _|apply And.intro
 all_goals (repeat' split)
 all_goals omega
def wrap32(x:Int):IntKind.u32.wrap x=x % 4294967296:=by
 unfold IntKind.wrap;simp[IntKind.bits,IntKind.signed]
def z3z(b:Nat):(b<128/\ldN b=1/\ldV b=b)\/(192<=b/\b<224/\ldN b=2/\ldV b=b- 192)\/(224<=b/\b<240/\ldN b=3/\ldV b=b- 224)\/(240<=b/\b<248/\ldN b=4/\ldV b=b- 240)\/(((128<=b/\b<192)\/248<=b)/\ldN b=0):=by
 unfold ldN ldV
 repeat' split
 all_goals omega
def zcz(n q:Nat) (hn:n=2\/n=3\/n=4) (hq:q<128*64 ^ (n- 1)) (h2:n=2->q<2048) (h3:n=3->q<65536):lnN q=n↔leN n<=q:=by
 unfold lnN leN
 rcases hn with rfl|rfl|rfl
 all_goals (repeat' split)
 all_goals (first|omega| (have:=h2 rfl;omega)| (have:=h3 rfl;omega))
section
variable (x0:ByteArray) (x1:Int×Int) (x2 x3 x4:Int)
 abbrev z1n:=(↑(ptV x0):Int)=0/\(↑(frt x0):Int)=0/\True
 abbrev z6x:=IntKind.wrap u32 (↑(bat x0 0):Int)<x2
 def zei:=(↑(ptV x0):Int)=IntKind.wrap u32 (↑(bat x0 0):Int)/\(↑(frt x0):Int)=1/\True
 abbrev z92:=x2<=IntKind.wrap u32 (↑(bat x0 0):Int)
 abbrev z3j:=(↑(leN (ldN (bat x0 0))):Int)
 abbrev z18:=(↑(ldN (bat x0 0)):Int)
 def zgb:=x0=x0/\(z3j x0)=x2/\(z18 x0)=x3/\(↑(ldV (bat x0 0)):Int)=IntKind.wrap u32 (IntKind.wrap u32 (↑(bat x0 0):Int)- x4)/\(0<size x0/\2<=ldN (bat x0 0))/\True
 abbrev zej:=Ji (z6x x0 248) (zgb x0 65536 4 240) (z1n x0)
 abbrev zhm:=Ji (z92 x0 240) (zej x0) (z1n x0)
 abbrev zek:=Ji (z6x x0 240) (zgb x0 2048 3 224) (zhm x0)
 abbrev zhl:=Ji (z92 x0 224) (zek x0) (zhm x0)
 abbrev zel:=Ji (z6x x0 224) (zgb x0 128 2 192) (zhl x0)
 abbrev zeg:=Ji (z92 x0 192) (zel x0) (zhl x0)
 def z93:=(0<=x1.2/\x1.2<(↑(size x0):Int))
 abbrev z91:=IntKind.wrap u32 (x1.1*64)+IntKind.wrap u32 (IntKind.wrap u8 ((↑(bat x0 (toNat x1.2)):Int)- 128))
 def zed:=z93 x0 x1/\Jb (x1.2+1)/\x0=x0/\(z3j x0)=(z3j x0)/\(z18 x0)=(z18 x0)/\x1.2+1=x1.2+1/\IntKind.wrap u32 (z91 x0 x1)=IntKind.wrap u32 (z91 x0 x1)/\(1<=x1.2+1/\x1.2+1<=(z18 x0)/\∃(i0:Nat),IntKind.wrap u32 (z91 x0 x1)=(↑i0:Int)/\vlF x0 (toNat (x1.2+1))=some i0)/\(5:Nat)- toNat (x1.2+1)<5- toNat x1.2/\True
 def zkg:=z93 x0 x1/\Ji (191<(↑(bat x0 (toNat x1.2)):Int)) (z1n x0) (zed x0 x1)
 def zkf:=z93 x0 x1/\Ji ((↑(bat x0 (toNat x1.2)):Int)<128) (z1n x0) (zkg x0 x1)
 def zbq:=(↑(ptV x0):Int)=x1.1/\(↑(frt x0):Int)=(z18 x0)/\True
 def zem:=Ji (x1.1<=57343) (z1n x0) (zbq x0 x1)
 def zeh:=Ji (55296<=x1.1) (zem x0 x1) (zbq x0 x1)
 def zef:=Ji (1114111<x1.1) (z1n x0) (zeh x0 x1)
 def zee:=Ji (x1.1<(z3j x0)) (z1n x0) (zef x0 x1)
 def zke:=Ji (x1.2<(z18 x0)) (zkf x0 x1) (zee x0 x1)
 def zkd:=(x0=x0/\(z3j x0)=(z3j x0)/\(z18 x0)=(z18 x0)/\(1:Int)=1/\(↑(ldV (bat x0 0)):Int)=(↑(ldV (bat x0 0)):Int)/\((1:Int)<=1/\1<=(z18 x0)/\∃(i0:Nat),(↑(ldV (bat x0 0)):Int)=(↑i0:Int)/\vlF x0 (1:Nat)=some i0)/\True)/\∀(i1:Int×Int),(1<=i1.2/\i1.2<=(z18 x0)/\∃(i2:Nat),i1.1=(↑i2:Int)/\vlF x0 (toNat i1.2)=some i2)->zke x0 i1
 def zkc:=Ji ((↑(size x0):Int)<(z18 x0)) (z1n x0) (zkd x0)
 def zkb:=((0:Int)<=0/\0<(↑(size x0):Int))/\(Ji (z6x x0 128) (zei x0) (zeg x0))/\∀(i0:Unit),0<size x0/\2<=ldN (bat x0 0)->zkc x0
 def zka:=Ji ((↑(size x0):Int)=0) (z1n x0) (zkb x0)
end
def z5y(s:ByteArray):qjz P (λ_=>none) Try.f56 z3r (za7) s=(size s<1000000->zka s):=by kernel_rfl
def z82:=λs=>Eq.trans (z5y s) (by delta Ji Jb Jt Jf z1n z6x zei z92 z3j z18 zgb zej zhm zek zhl zel zeg z93 z91 zed zkg zkf zbq zem zeh zef zee zke zkd zkc zkb zka;exact rfl)
def zcw(b:Nat):(ldN b=2->ldV b<32)/\(ldN b=3->ldV b<16):=by
 have:=z3z b;omega
def zh0(s:ByteArray) (q:Nat) (h:vlF s 2=some q) (h2:ldN (bat s 0)=2):q<2048:=by
 have b:=(zcw (bat s 0)).1 h2
 simp only[vlF]at h
 split at h
 ·rename_i hc
  have hb:=z03 s 1
  simp only[ctC,Bool.and_eq_true,decide_eq_true_eq]at hc
  cases h
  simp only[Nat.zero_add]at hc⊢
  omega
 ·cases h
def zh1(s:ByteArray) (q:Nat) (h:vlF s 3=some q) (h2:ldN (bat s 0)=3):q<65536:=by
 have b:=(zcw (bat s 0)).2 h2
 simp only[vlF]at h
 split at h
 ·rename_i r hr
  split at hr
  ·cases hr
   rename_i hc0
   split at h
   ·rename_i hc
    have hb:=z03 s 1
    have hb2:=z03 s 2
    simp only[ctC,Bool.and_eq_true,decide_eq_true_eq]at hc hc0
    cases h
    simp only[Nat.zero_add,show 1+1=2 from rfl]at hc hc0⊢
    omega
   ·cases h
  ·cases hr
 ·cases h
def z9t(q:Nat):isC q=true↔q<=1114111/\¬(55296<=q/\q<=57343):=by
 simp[isC];omega
def zcn(b:Nat):ctC b=true↔128<=b/\b<192:=by simp[ctC]
def z83:q7a P 56 z3r:=by
 refine qk0 mixed z08 (W:=za7) Try.func56 (by kernel_rfl) (by decide) (by decide) (λc=>by kernel_rfl) λ(s:ByteArray)=>(z82 s).mpr ?_
 intro h2
 have b0:=z03 s 0
 obtain⟨n,hn⟩:∃n,n=ldN (bat s 0):=⟨_,rfl⟩
 have hc:=z3z (bat s 0)
 have hz:frt s=0->ptV s=0:=λh=>by unfold ptV;rw[if_pos h]
 have hfr:frt s=if s.size<n then 0 else match vlF s n with
  |none=>0
  |some r=>if n=0\/isC r=false\/lnN r≠n then 0 else n:=by rw[hn];rfl
 rw[←hn]at hc
 have A0:s.size=0->frt s=0:=λh=>by
  have:=z09 (s:=s) (j:=0) (by omega)
  rw[hfr,if_pos (by omega)]
 have A1:s.size≠0->bat s 0<128->ptV s=bat s 0/\frt s=1:=λh h1=>by
  have e1:n=1:=by omega
  have ev:ldV (bat s 0)=bat s 0:=by omega
  have ef:frt s=1:=by
   rw[hfr,if_neg (by omega),e1]
   simp only[vlF]
   rw[ev,if_neg]
   have hi:=(z9t (bat s 0)).mpr (by omega)
   have hl:lnN (bat s 0)=1:=by unfold lnN;rw[if_pos h1]
   rw[hi,hl];simp
  refine⟨?_,ef⟩
  unfold ptV
  rw[if_neg (by omega),ef]
  simp only[vlF,ev];rfl
 have A5:n=0->frt s=0:=λh=>by
  rw[hfr,if_neg (by omega),h];simp[vlF]
 have hle:(n=2->leN n=128)/\(n=3->leN n=2048)/\(n=4->leN n=65536):=by
  refine⟨λh=> ?_,λh=> ?_,λh=> ?_⟩<;>rw[h]<;>rfl
 have e0:IntKind.u32.wrap (bat s 0:Nat)=(bat s 0:Nat):=by rw[wrap32];omega
 simp only[Int.toNat_natCast,Int.toNat_zero,and_true,true_and,decide_eq_true_eq,decide_eq_false_iff_not,Bool.not_eq_true',Bool.not_eq_false',e0,←hn]
 refine⟨?_,λg0=>⟨by omega,?_,?_⟩⟩
 ·intro h;have:=A0 (by omega);have:=hz this;omega
 ·simp only[wrap32]
  clear hfr A0 e0
  rcases hc with⟨c1,c2,c3⟩|⟨c0,c1,c2,c3⟩|⟨c0,c1,c2,c3⟩|⟨c0,c1,c2,c3⟩|⟨c1,c2⟩
  ·obtain⟨p,f⟩:=A1 (by omega) c1
   clear A1 A5 hle hz
   refine⟨λ_=>by omega,λh=>absurd (by omega) h⟩
  ·have l:=hle.1 c2
   clear A1 A5 hle hz
   refine⟨λh=>by omega,λh=>⟨λ_=>⟨λ_=>by omega,λk=>absurd (by omega) k⟩,λk=>absurd (by omega) k⟩⟩
  ·have l:=hle.2.1 c2
   clear A1 A5 hle hz
   refine⟨λh=>by omega,λh=>⟨λ_=>⟨λk=>by omega,λ_=>⟨λ_=>⟨λ_=>by omega,λk=>absurd (by omega) k⟩,λk=>absurd (by omega) k⟩⟩,λk=>absurd (by omega) k⟩⟩
  ·have l:=hle.2.2 c2
   clear A1 A5 hle hz
   refine⟨λh=>by omega,λh=>⟨λ_=>⟨λk=>by omega,λ_=>⟨λ_=>⟨λk=>by omega,λ_=>⟨λ_=>⟨λ_=>by omega,λk=>absurd (by omega) k⟩,λk=>absurd (by omega) k⟩⟩,λk=>absurd (by omega) k⟩⟩,λk=>absurd (by omega) k⟩⟩
  ·have f:=A5 c2
   have p:=hz f
   clear A1 A5 hle hz
   repeat' first|intro _|apply And.intro
   all_goals omega
 ·clear A0 A1 A5
  rintro _ ⟨g1,g2⟩
  have Z:frt s=0->((ptV s:Nat):Int)=0/\((frt s:Nat):Int)=0:=λh=>by have:=hz h;omega
  refine⟨λk=>Z ?_,λk=>⟨⟨by omega,by omega,ldV (bat s 0),rfl,rfl⟩,?_⟩⟩
  ·rw[hfr,if_pos (by omega)]
  rw[if_neg (by omega)]at hfr
  rintro⟨v,i⟩ ⟨i1,i2,q,hq,hv⟩
  simp only at i1 i2 hq hv⊢
  obtain⟨m,rfl⟩:=Int.eq_ofNat_of_zero_le (show 0<=i by omega)
  subst hq
  simp only[Int.toNat_natCast,tn1]at hv⊢
  have hbd:=z48 s m q hv (by omega)
  have bm:=z03 s m
  obtain⟨m',rfl⟩:∃m',m=m'+1:=⟨m- 1,by omega⟩
  have cn:¬(128<=bat s (m'+1)/\bat s (m'+1)<192)->((m'+1:Nat):Int)<n->frt s=0:=λh hl=>by
   have:vlF s (m'+2)=none:=by
    simp only[vlF];rw[hv];simp only[]
    rw[if_neg (by rw[zcn];exact h)]
   rw[hfr,z49 s (m'+2) n (by omega) (by omega) this]
  refine⟨λk1=>⟨by omega,λk2=>Z (cn (by omega) k1),λk2=>⟨by omega,λk3=>Z (cn (by omega) k1),λk3=>⟨by omega,by omega,⟨by omega,by omega,?_⟩,by omega⟩⟩⟩,λk1=> ?_⟩
  ·have hq26:q<67108864:=by
    have:m'+1<=3:=by omega
    rcases m' with _|_|_|m'<;>simp at hbd<;>omega
   refine⟨q*64+(bat s (m'+1)- 128),?_,?_⟩
   ·rw[zbd,wrap32,wrap32,wrap32];omega
   ·simp only[vlF];rw[hv];simp only[]
    rw[if_pos (by rw[zcn];omega)]
  ·have em:m'+1=n:=by omega
   rw[em]at hv hbd
   rw[hv]at hfr
   simp only at hfr
   have nn:n=2\/n=3\/n=4:=by omega
   have ln:=zcz n q nn hbd (λh=>zh0 s q (h ▸ hv) (by omega)) (λh=>zh1 s q (h ▸ hv) (by omega))
   have ic:=z9t q
   have bad:¬(leN n<=q)\/¬(q<=1114111/\¬(55296<=q/\q<=57343))->frt s=0:=λh=>by
    rw[hfr,if_pos]
    rcases h with h|h
    ·exact .inr (.inr λe=>h (ln.mp e))
    ·exact .inr (.inl (by rw[←Bool.not_eq_true];exactλe=>h (ic.mp e)))
   have good:leN n<=q->(q<=1114111/\¬(55296<=q/\q<=57343))->((ptV s:Nat):Int)=q/\((frt s:Nat):Int)=n:=λh1 h2=>by
    have ef:frt s=n:=by
     rw[hfr,if_neg]
     rw[ic.mpr h2,ln.mpr h1];simp;omega
    refine⟨?_,by omega⟩
    unfold ptV
    rw[if_neg (by omega),ef,hv];rfl
   refine⟨λc1=>Z (bad (.inl (by omega))),λc1=>⟨λc2=>Z (bad (.inr (by omega))),λc2=>⟨λc3=>⟨λc4=>Z (bad (.inr (by omega))),λc4=>good (by omega) (by omega)⟩,λc3=>good (by omega) (by omega)⟩⟩⟩
def z6h(s:ByteArray):qjz P (qfl [(56,z3r)]) Try.f49 z15 (z6o) s=(size s<(1000000:Nat)->(s=s/\(size s<=size s/\vld s=vld s)/\True)/\∀(s_1:ByteArray),size s_1<=size s/\vld s_1=vld s->(decide ((0:Int)<(↑(size s_1):Int))=true->s_1=s_1/\size s_1<(1000000:Nat)/\(decide ((↑(frt s_1):Int)=(0:Int))=true->vld s=false/\True)/\(decide ((↑(frt s_1):Int)=(0:Int))=false->((0:Int)<=(↑(frt s_1):Int)/\(↑(frt s_1):Int)<=(↑(size s_1):Int))/\ByteArray.extract s_1 (toNat (↑(frt s_1):Int)) (size s_1)=ByteArray.extract s_1 (toNat (↑(frt s_1):Int)) (size s_1)/\(size (ByteArray.extract s_1 (toNat (↑(frt s_1):Int)) (size s_1))<=size s/\vld (ByteArray.extract s_1 (toNat (↑(frt s_1):Int)) (size s_1))=vld s)/\size (ByteArray.extract s_1 (toNat (↑(frt s_1):Int)) (size s_1))<size s_1/\True))/\(decide ((0:Int)<(↑(size s_1):Int))=false->vld s=true/\True)):=by kernel_rfl
def z6i:q7a P 49 z15:=by
 refine qk0 mixed (qda (qgx z83 qjn)) (W:=z6o) Try.func49 (by kernel_rfl) (by decide) (by decide) (λc=>by kernel_rfl) λ(s:ByteArray)=>(z6h s).mpr ?_
 intro h
 simp only[Int.toNat_natCast,and_true,true_and,decide_eq_true_eq,decide_eq_false_iff_not]
 refine⟨Nat.le_refl _,λt ht=>⟨λg=>⟨by omega,λg2=> ?_,λg2=> ?_⟩,λg=> ?_⟩⟩
 ·rw[←ht.2,z1h t (by omega),if_pos (by omega)]
 ·have:=z9s t
  rw[←ht.2,z1h t (by omega),if_neg (by omega)]
  refine⟨by omega,⟨?_,rfl⟩,?_⟩
  ·simp;omega
  ·simp;omega
 ·rw[←ht.2];exact z6l t (by omega)
def zd7(s:ByteArray) (n a b:Nat) (ha:a<256/\0<a) (hb:b<256/\0<b) (hn:n<=s.size):stW s n (mkS [a,b])=decide (bat s n=a/\bat s (n+1)=b):=by
 rw[←z35 s n a b hn ha hb]
 unfold stW z0g
 have hsz:(mkS [a,b]).size=2:=rfl
 rw[hsz,ByteArray.size_extract]
 by_cases h:n+2<=s.size
 ·rw[decide_eq_true h,decide_eq_true (show 2<=min s.size s.size- n by omega)]
  simp only[Bool.true_and]
  have e:s.extract n (n+2)=(s.extract n s.size).extract 0 2:=by
   apply ByteArray.ext;apply Array.toList_inj.mp
   rw[ByteArray.data_extract,Array.toList_extract,List.extract_eq_take_drop,ByteArray.data_extract,Array.toList_extract,List.extract_eq_take_drop,z0v]
   rw[show n+2- n=2 by omega];rfl
  rw[e]
 ·rw[decide_eq_false h,decide_eq_false (show¬2<=min s.size s.size- n by omega),Bool.false_and,Bool.false_and]
def sz2(a b:Nat):(mkS [a,b]).size=2:=rfl
section
variable (x0:ByteArray) (x1 x2 x3:Int) (x4:Prop)
 abbrev z2z:=0<=x1/\x1<=(↑(size x0):Int)/\x4
 def z13:=(0:Int)=0/\(0:Int)=0/\x4
 abbrev z0y:=x1<(↑(size x0):Int)
 def z6z:=decide (z0y x0 x1)=decide (z0y x0 x1)
 def z3k:=z6z x0 x1/\z6z x0 x1/\z6z x0 x1/\z6z x0 x1/\x4
 abbrev z4x:=(↑(bat x0 (toNat x1)):Int)
 abbrev z4w:=Jb (x1+x2)
 def z4y:=x0=x0/\x1+x2=x1+x2/\x4
 def zbs:=(0<=x1+x3/\x1+x3<=(↑(size x0):Int)/\spR x0 (toNat (x1+x3))=spR x0 (toNat x2))
 def z95:=size x0- toNat (x1+1)<size x0- toNat x1/\True
 def zbr:=z4w x1 1/\z4y x0 x1 1 (z13 (zbs x0 x1 x2 1/\z95 x0 x1))
 def zev:=z4w x1 1/\z4y x0 x1 1 (z13 ((x2<=x1+1/\x1+1<=(↑(size x0):Int)/\eol x0 (toNat (x1+1))=eol x0 (toNat x2))/\z95 x0 x1))
 def z94:=x0=x0/\x1=x1/\z13 ((z2z x0 x1 (spR x0 (toNat x1)=spR x0 (toNat x2)))/\size x0- toNat x1<size x0- toNat x3/\True)
 def zes:=((!decide ((z4x x0 x1)=10))=true->zev x0 x1 x2)/\((!decide ((z4x x0 x1)=10))=false->z94 x0 x1 x3 x2)
 def zeo:=z3k x0 x1 (z3k x0 x1 ((0<=x1/\z0y x0 x1)/\z6z x0 x1/\Ji (z0y x0 x1) (zes x0 x1 x2 x3) (z94 x0 x1 x3 x2)))
 def zez:=z6z x0 x1/\z3k x0 x1 (z3k x0 x1 (Ji (z0y x0 x1) (False) (z94 x0 x1 x2 x3)))
 abbrev zkl:=Ji (z0y x0 x1) (zeo x0 x1 x2 x3) (zez x0 x1 x3 x2)
 def zkk:=(x0=x0/\x1=x1/\z13 ((x1<=x1/\x1<=(↑(size x0):Int)/\eol x0 (toNat x1)=eol x0 (toNat x1))/\True))/\∀(i0:Int),x1<=i0/\i0<=(↑(size x0):Int)/\eol x0 (toNat i0)=eol x0 (toNat x1)->zkl x0 i0 x1 x2
 def zeu:=z4w x1 1/\x2=x2/\z4y x0 x1 1 (z13 ((x2+2<=x1+1/\x1+1<=(↑(size x0):Int)/\cl x0 (toNat (x1+1))=cl x0 (toNat (x2+2)))/\z95 x0 x1))
 def zey:=(2:Int)=2/\x1=x1/\x0=x0/\x2=x2/\z13 (True/\x0=x0/\Int.ofNat (spI x0 (toNat x3))=x2/\Int.ofNat (spN x0 (toNat x3) 2)=2/\Int.ofNat (spN x0 (toNat x3) (spR x0 (toNat x3)).2)=x1/\True)
 def zew:=z4w x1 2/\z4y x0 x1 2 (z13 (zbs x0 x1 x2 2/\size x0- toNat (x1+2)<size x0- toNat x3/\True))
 def zgc:=Ji ((↑(size x0):Int)<=x1) (zey x0 x2 x1 x3) (zew x0 x1 x3 x2)
 def zer:=((!stW x0 (toNat x1) (mkS [42,47]))=true->zeu x0 x1 x2)/\((!stW x0 (toNat x1) (mkS [42,47]))=false->zgc x0 x1 x2 x3)
 def zeq:=z6z x0 x1/\mkS [42,47]=mkS [42,47]/\x0=x0/\x1=x1/\z13 ((z2z x0 x1 (size x0<100000/\size (mkS [42,47])<1000))/\z6z x0 x1/\Ji (z0y x0 x1) (zer x0 x1 x2 x3) (zgc x0 x1 x2 x3))
 def zf1:=z6z x0 x1/\z6z x0 x1/\Ji (z0y x0 x1) (False) (zgc x0 x1 x2 x3)
 abbrev zep:=Ji (z0y x0 x1) (zeq x0 x1 x2 x3) (zf1 x0 x1 x2 x3)
 def zkj:=z4w x1 2/\(x1=x1/\z4y x0 x1 2 (z13 ((x1+2<=x1+2/\x1+2<=(↑(size x0):Int)/\cl x0 (toNat (x1+2))=cl x0 (toNat (x1+2)))/\True)))/\∀(i0:Int),x1+2<=i0/\i0<=(↑(size x0):Int)/\cl x0 (toNat i0)=cl x0 (toNat (x1+2))->zep x0 i0 x1 x2
 def z6y:=x0=x0/\Int.ofNat (spI x0 (toNat x1))=x2/\Int.ofNat (spN x0 (toNat x1) 2)=0/\Int.ofNat (spN x0 (toNat x1) (spR x0 (toNat x1)).2)=0/\True
 def zki:=mkS [47,42]=mkS [47,42]/\x0=x0/\x1=x1/\z13 ((z2z x0 x1 (size x0<100000/\size (mkS [47,42])<1000))/\(stW x0 (toNat x1) (mkS [47,42])=true->zkj x0 x1 x2)/\(stW x0 (toNat x1) (mkS [47,42])=false->z6y x0 x2 x1))
 def zkh:=mkS [47,47]=mkS [47,47]/\x0=x0/\x1=x1/\z13 ((z2z x0 x1 (size x0<100000/\size (mkS [47,47])<1000))/\(stW x0 (toNat x1) (mkS [47,47])=true->zkk x0 x1 x2)/\(stW x0 (toNat x1) (mkS [47,47])=false->zki x0 x1 x2))
 def zhn:=Ji ((z4x x0 x1)=32) (zbr x0 x1 x2) (zkh x0 x1 x2)
 def zf0:=Ji ((z4x x0 x1)<=13) (zbr x0 x1 x2) (zhn x0 x1 x2)
 def zex:=(0<=x1/\z0y x0 x1)/\Ji (9<=(z4x x0 x1)) (zf0 x0 x1 x2) (zhn x0 x1 x2)
 def zet:=Ji ((0:Int)=0) (zex x0 x1 x2) (z6y x0 x2 x1)
 abbrev zen:=z3k x0 x1 (Ji (z0y x0 x1) (zet x0 x1 x2) (z6y x0 x2 x1))
 abbrev zkn:=Ji (z0y x0 x1) (zen x0 x1 x2) (z3k x0 x1 (Ji (z0y x0 x1) (False) (z6y x0 x2 x1)))
 def zkm:=(x0=x0/\x1=x1/\z13 ((z2z x0 x1 (spR x0 (toNat x1)=spR x0 (toNat x1)))/\True))/\∀(i0:Int),z2z x0 i0 (spR x0 (toNat i0)=spR x0 (toNat x1))->zkn x0 i0 x1
end
def z4o(s:ByteArray) (i:Int):qjz P (z66) Try.f17 z1z (z6n) ⟨s,i⟩=(z2z s i (size s<100000)->zkm s i):=by kernel_rfl
def z60:=λs i=>Eq.trans (z4o s i) (by delta Ji Jb Jt Jf z2z z13 z0y z6z z3k z4x z4w z4y zbs z95 zbr zev z94 zes zeo zez zkl zkk zeu zey zew zgc zer zeq zf1 zep zkj z6y zki zkh zhn zf0 zex zet zen zkn zkm;exact rfl)
def z4r:∀g C,z66 g=some C->q7a P g C:=qda (qgx z2u (qgx z23 qjn))
def z61:q7a P 17 z1z:=by
 refine qk0 mixed z4r (W:=z6n) Try.func17 (by kernel_rfl) (by decide) (by decide) (λ⟨s,i⟩=>by kernel_rfl) λ⟨s,i⟩=>(z60 s i).mpr ?_
 rintro⟨h1,h2,h3⟩
 obtain⟨i,rfl⟩:=Int.eq_ofNat_of_zero_le h1
 refine⟨⟨rfl,rfl,rfl,rfl,⟨h1,h2,rfl⟩,trivial⟩,?_⟩
 rintro j ⟨g1,g2,g3⟩
 obtain⟨n,rfl⟩:=Int.eq_ofNat_of_zero_le g1
 have hn:n<=s.size:=by omega
 have step:=z2b s n hn
 have hsp:=z5o (bat s n)
 simp only[decide_eq_true_eq,decide_eq_false_iff_not,and_true,true_and,Int.toNat_natCast,Int.add_zero,zd7 s n 47 47 (by omega) (by omega) hn,zd7 s n 47 42 (by omega) (by omega) hn,tn1,tn2,sz2]at g3⊢
 have spc:z7v (bat s n)=true->spR s (n+1)=spR s i/\n+1<=s.size:=λq=>by
  have:=z0w q
  rw[if_pos q]at step
  exact⟨step ▸ g3,by omega⟩
 have fin:spR s n=(true,n)->Int.ofNat (spI s i)=(n:Int)/\Int.ofNat (spN s i 2)=0/\Int.ofNat (spN s i (spR s i).2)=0:=λh=>by
  rw[g3]at h
  unfold spI spN
  rw[h];exact⟨rfl,rfl,rfl⟩
 have no:spR s n=(false,n)->∀k:Int,k=s.size->Int.ofNat (spI s i)=k/\Int.ofNat (spN s i 2)=2/\Int.ofNat (spN s i (spR s i).2)=(n:Int):=λh k hk=>by
  rw[g3]at h
  unfold spI spN
  rw[h,hk];exact⟨rfl,rfl,rfl⟩
 refine⟨λa0=>⟨λ_=>⟨λ_=>⟨by omega,λa1=>⟨λa2=> ?a,λa2=>⟨λa3=> ?b,λa3=> ?x⟩⟩,λa1=>⟨λa3=> ?c,λa3=> ?y⟩⟩,λh=>absurd trivial h⟩,λh=>absurd a0 h⟩,λa0=>⟨λh=>absurd h a0,λ_=>fin ?_⟩⟩
 case a|b|c=>
  obtain⟨q1,q2⟩:=spc (hsp.mpr (by omega))
  exact⟨by omega,⟨by omega,by omega,q1⟩,by omega⟩
 case x|y=>
  have ns:¬z7v (bat s n)=true:=λq=>by have:=hsp.mp q;omega
  rw[if_neg ns]at step
  refine⟨by omega,λc1=>⟨by omega,?_⟩,λc1=>⟨by omega,λc2=>⟨by omega,?_,?_⟩,λc2=> ?_⟩⟩
  ·rw[if_pos c1]at step
   rintro k ⟨k1,k2,k3⟩
   obtain⟨m,rfl⟩:=Int.eq_ofNat_of_zero_le (show 0<=k by omega)
   have es:=z0f s m
   have gt:=z1s s n c1
   simp only[Int.toNat_natCast,tn1,Bool.not_eq_true',Bool.not_eq_false',decide_eq_true_eq,decide_eq_false_iff_not]at k3⊢
   have stop:eol s m=m->(0<=(m:Int)/\(m:Int)<=s.size/\spR s m=spR s i)/\s.size- m<s.size- n:=λh=>by
    rw[←k3,h]at step
    exact⟨⟨by omega,by omega,step ▸ g3⟩,by omega⟩
   refine⟨λd1=>⟨by omega,λ_=>⟨λd2=> ?_,λd2=>stop ?_⟩,λh=>absurd d1 h⟩,λd1=>⟨λh=>absurd h d1,λ_=>stop ?_⟩⟩
   ·rw[if_pos ⟨by omega,by omega⟩]at es
    exact⟨by omega,⟨by omega,by omega,by rw[←es,k3]⟩,by omega⟩
   ·rw[es,if_neg (by omega)]
   ·rw[es,if_neg (by omega)]
  ·have:=z07 (s:=s) (k:=n+1) (by omega)
   omega
  ·have hb:=z07 (s:=s) (k:=n+1) (by omega)
   rw[if_neg c1,if_pos c2]at step
   rintro k ⟨k1,k2,k3⟩
   obtain⟨m,rfl⟩:=Int.eq_ofNat_of_zero_le (show 0<=k by omega)
   have hm:m<=s.size:=by omega
   simp only[Int.toNat_natCast,tn1,tn2,zd7 s m 42 47 (by omega) (by omega) hm,Bool.not_eq_true',Bool.not_eq_false',decide_eq_true_eq,decide_eq_false_iff_not]at k3⊢
   have none_:s.size<=m->spR s n=(false,n):=λh=>by
    rw[step,←k3,z5e s m h]
   have some_:m<s.size->(bat s m=42/\bat s (m+1)=47)->(0<=(m:Int)+2/\(m:Int)+2<=s.size/\spR s (m+2)=spR s i)/\s.size- (m+2)<s.size- n:=λh h'=>by
    have hp:=z07 (s:=s) (k:=m+1) (by omega)
    have e:cl s m=some m:=by rw[z21 s m h,if_pos h']
    rw[←k3,e]at step
    have step:spR s n=spR s (m+2):=step
    exact⟨⟨by omega,by omega,step ▸ g3⟩,by omega⟩
   refine⟨λd1=>⟨by omega,λ_=>⟨λd2=> ?_,λd2=>⟨λd3=>absurd d1 (by omega),λd3=>⟨by omega,some_ (by omega) d2⟩⟩⟩,λh=>absurd d1 h⟩,λd1=>⟨λh=>absurd h d1,λ_=>⟨λd3=>no (none_ (by omega)) _ (by omega),λd3=>absurd d1 (by omega)⟩⟩⟩
   have cs:=z21 s m (by omega)
   rw[if_neg d2]at cs
   exact⟨by omega,⟨by omega,by omega,by rw[←cs,k3]⟩,by omega⟩
  ·rw[if_neg c1,if_neg c2]at step
   exact fin step
 ·have hb:=z09 (s:=s) (j:=n) (by omega)
  have hb1:=z09 (s:=s) (j:=n+1) (by omega)
  rw[step,if_neg (by rw[hsp];omega),if_neg (by omega),if_neg (by omega)]
def z3w(s:ByteArray) (B j v:Nat) (hB:B<=16):dgP s B j v=if dv (bat s j)<B then if 18446744073709551616<=v*B+dv (bat s j)then j else dgP s B (j+1) (v*B+dv (bat s j))else j:=by
  unfold dgP
  cases h:s.size- j with
  | zero=>
    rw[z09 (by omega),if_neg (by show¬(16<B);omega)];rfl
  |succ f=>rw[dgG,show s.size- (j+1)=f by omega]
def z5h(s:ByteArray) (B:Nat) (hB:B<=16) (h1:1<=B):∀(f j v:Nat),s.size- j=f->v<=(dgE s B j v).2
  |0,j,v,hf=>by rw[dgE,hf,dgF];exact Nat.le_refl _
  | f +1,j,v,hf=>by
    rw[z0i s B j v hB]
    split
    · have:=z5h s B hB h1 f (j+1) (v*B+dv (bat s j)) (by omega)
      have:v<=v*B:=Nat.le_mul_of_pos_right v h1
      omega
    · exact Nat.le_refl _
def z5u(s:ByteArray) (i:Nat):dgE s (nbB s i) (nbS s i) 0=dgE s (nbB s i) (i+nbO s i) 0:=by
 unfold nbS nbO
 by_cases h:bat s i=48
 ·have eB:nbB s i=if dv (bat s (i+2))<16/\(bat s (i+1)=120\/bat s (i+1)=88)then 16 else 8:=by unfold nbB;rw[if_pos h]
  rw[if_pos h]
  by_cases h2:dv (bat s (i+2))<16/\(bat s (i+1)=120\/bat s (i+1)=88)
  ·rw[eB,if_pos h2,if_pos h2,if_pos rfl]
  ·rw[eB,if_neg h2,if_neg h2,if_neg (by omega),z0i s 8 i 0 (by omega),h]
   have:dv 48=0:=rfl
   rw[this,if_pos (by omega)]
 ·have eB:nbB s i=10:=by unfold nbB;rw[if_neg h]
  rw[if_neg h,eB,if_neg (by omega)];rfl
def z9q(c:Nat):(0<=dvR c↔dv c<16)/\(dv c<16->dvR c=dv c):=by
 unfold dvR;split<;>constructor<;>omega
section
variable (x0:ByteArray) (x1:Int) (x2:Int×Int) (x3:Int) (x4:Prop)
 abbrev z1o:=(0:Int)=0/\(0:Int)=0/\x4
 def zbu:=size x0<1000000/\0<=x1/\x1<1000000
 abbrev z4z:=(↑(bat x0 (toNat (x1+2))):Int)
 abbrev z1l:=(↑(nbB x0 (toNat x1)):Int)
 abbrev z1p:=(↑(nbS x0 (toNat x1)):Int)
 def zf7:=Jb (x1+2)/\x1=x1/\(z1l x0 x1)=16/\x0=x0/\(z1p x0 x1)=x1+2/\z1o (True/\True)
 def zbt:=x1=x1/\(z1l x0 x1)=x3/\x0=x0/\(z1p x0 x1)=x1/\z1o (True/\True)
 def zhp:=(0<=x1/\x1<(↑(size x0):Int))/\Ji ((↑(bat x0 (toNat x1)):Int)=48) (zbt x0 x1 8) (zbt x0 x1 10)
 def zho:=(2:Int)=2/\x0=x0/\x1=x1/\z1o ((0<=x1/\x1<=(↑(size x0):Int)/\zbu x0 2)/\(z4z x0 x1)=(z4z x0 x1)/\(0<=(z4z x0 x1)/\(z4z x0 x1)<256)/\Ji (0<=dvR (toNat (z4z x0 x1))) (zf7 x0 x1) (zhp x0 x1))
 def zf5:=mkS [48,88]=mkS [48,88]/\x0=x0/\x1=x1/\z1o ((0<=x1/\x1<=(↑(size x0):Int)/\size x0<100000/\size (mkS [48,88])<1000)/\(stW x0 (toNat x1) (mkS [48,88])=true->zho x0 x1)/\(stW x0 (toNat x1) (mkS [48,88])=false->zhp x0 x1))
 abbrev z2h:=(↑(bat x0 (toNat x2.2)):Int)
 abbrev z0z:=(↑(bat x0 (toNat (x2.2+0))):Int)
 abbrev z2i:=(nbR x0 (toNat x1)).1
 def zf9:=x3=x3/\x1=x1/\x0=x0/\x2.2=x2.2/\z1o (True/\(↑(nbK (z2i x0 x1) 2):Int)=(↑(0:Nat):Int)/\mkS []=mkS []/\(↑(nbR x0 (toNat x1)).2.1:Int)=(↑(0:Nat):Int)/\(↑(nbK (z2i x0 x1) (toNat x1)):Int)=(↑(0:Nat):Int)/\x0=x0/\Int.ofNat (nbI x0 (toNat x1))=x2.2/\Int.ofNat (z2i x0 x1)=x3/\Int.ofNat (erN (z2i x0 x1) (toNat x1))=x1/\True)
 def zf6:=(↑(nbK (z2i x0 x1) 2):Int)=2/\mkS []=mkS []/\(↑(nbR x0 (toNat x1)).2.1:Int)=x2.1/\(↑(nbK (z2i x0 x1) (toNat x1)):Int)=x1/\x0=x0/\Int.ofNat (nbI x0 (toNat x1))=x2.2/\Int.ofNat (z2i x0 x1)=0/\Int.ofNat (erN (z2i x0 x1) (toNat x1))=0/\True
 def zf4:=Ji ((z0z x0 x2)=46) (zf9 x0 x1 x2 2) (zf6 x0 x1 x2)
 def zf3:=(z0z x0 x2)=(z0z x0 x2)/\(0<=(z0z x0 x2)/\(z0z x0 x2)<256)/\(z02 (toNat (z0z x0 x2))=true->zf9 x0 x1 x2 2)/\(z02 (toNat (z0z x0 x2))=false->zf4 x0 x1 x2)
 def zgd:=(0:Int)=0/\x0=x0/\x2.2=x2.2/\z1o ((0<=x2.2/\x2.2<=(↑(size x0):Int)/\zbu x0 0)/\(z0z x0 x2)=(z0z x0 x2)/\(0<=(z0z x0 x2)/\(z0z x0 x2)<256)/\(isLet (toNat (z0z x0 x2))=true->zf9 x0 x1 x2 2)/\(isLet (toNat (z0z x0 x2))=false->zf3 x0 x1 x2))
 abbrev zf8:=IntKind.wrap u64 (Int.tdiv (IntKind.wrap u64 ((18446744073709551615:Int)- IntKind.wrap u64 (dvR (toNat (z2h x0 x2))))) (z1l x0 x1))<x2.1
 abbrev z96:=IntKind.wrap u64 (x2.1*(z1l x0 x1))+IntKind.wrap u64 (dvR (toNat (z2h x0 x2)))
 def zf2:=Jb (x2.2+1)/\x1=x1/\IntKind.wrap u64 (z96 x0 x1 x2)=IntKind.wrap u64 (z96 x0 x1 x2)/\(z1l x0 x1)=(z1l x0 x1)/\x0=x0/\x2.2+1=x2.2+1/\z1o ((∃(i0:Nat),IntKind.wrap u64 (z96 x0 x1 x2)=(↑i0:Int)/\i0<18446744073709551616/\0<=x2.2+1/\x1<=x2.2+1/\x2.2+1<=(↑(size x0):Int)/\dgE x0 (nbB x0 (toNat x1)) (toNat (x2.2+1)) i0=dgE x0 (nbB x0 (toNat x1)) (nbS x0 (toNat x1)) 0/\dgP x0 (nbB x0 (toNat x1)) (toNat (x2.2+1)) i0=nbI x0 (toNat x1))/\size x0- toNat (x2.2+1)<size x0- toNat x2.2/\True)
 def zkt:=(z1l x0 x1)≠0/\Ji (zf8 x0 x1 x2) (zf9 x0 x1 x2 3) (zf2 x0 x1 x2)
 def zks:=Ji ((z1l x0 x1)<=IntKind.wrap u64 (dvR (toNat (z2h x0 x2)))) (zgd x0 x1 x2) (zkt x0 x1 x2)
 def zkr:=(0<=x2.2/\x2.2<(↑(size x0):Int))/\(z2h x0 x2)=(z2h x0 x2)/\(0<=(z2h x0 x2)/\(z2h x0 x2)<256)/\Ji (dvR (toNat (z2h x0 x2))<0) (zgd x0 x1 x2) (zks x0 x1 x2)
 def zkq:=Ji (x2.2<(↑(size x0):Int)) (zkr x0 x1 x2) (zgd x0 x1 x2)
 def zkp:=(x1=x1/\(0:Int)=0/\(z1l x0 x1)=(z1l x0 x1)/\x0=x0/\(z1p x0 x1)=(z1p x0 x1)/\z1o ((∃(i0:Nat),0=(↑i0:Int)/\i0<18446744073709551616/\0<=(z1p x0 x1)/\x1<=(z1p x0 x1)/\(z1p x0 x1)<=(↑(size x0):Int)/\dgE x0 (nbB x0 (toNat x1)) (toNat (z1p x0 x1)) i0=dgE x0 (nbB x0 (toNat x1)) (nbS x0 (toNat x1)) 0/\dgP x0 (nbB x0 (toNat x1)) (toNat (z1p x0 x1)) i0=nbI x0 (toNat x1))/\True))/\∀(i1:Int×Int),(∃(i2:Nat),i1.1=(↑i2:Int)/\i2<18446744073709551616/\0<=i1.2/\x1<=i1.2/\i1.2<=(↑(size x0):Int)/\dgE x0 (nbB x0 (toNat x1)) (toNat i1.2) i2=dgE x0 (nbB x0 (toNat x1)) (nbS x0 (toNat x1)) 0/\dgP x0 (nbB x0 (toNat x1)) (toNat i1.2) i2=nbI x0 (toNat x1))->zkq x0 x1 i1
 def zko:=(mkS [48,120]=mkS [48,120]/\x0=x0/\x1=x1/\z1o ((0<=x1/\x1<=(↑(size x0):Int)/\size x0<100000/\size (mkS [48,120])<1000)/\(stW x0 (toNat x1) (mkS [48,120])=true->zho x0 x1)/\(stW x0 (toNat x1) (mkS [48,120])=false->zf5 x0 x1)))/\∀(i0:Unit),True->zkp x0 x1
end
def z39(s:ByteArray) (i:Int):qjz P (z45) Try.f35 z19 (z4a) ⟨s,i⟩=(0<=i/\i<(↑(size s):Int)/\size s<100000/\z02 (bat s (toNat i))=true->zko s i):=by kernel_rfl
def z4k:=λs i=>Eq.trans (z39 s i) (by delta Ji Jb Jt Jf z1o zbu z4z z1l z1p zf7 zbt zhp zho zf5 z2h z0z z2i zf9 zf6 zf4 zf3 zgd zf8 z96 zf2 zkt zks zkr zkq zkp zko;exact rfl)
def z3a:∀g C,z45 g=some C->q7a P g C:=qda (qgx z2u (qgx z23 (qgx z1w (qgx zam (qgx z1t (qgx z2p qjn))))))
def z4l:q7a P 35 z19:=by
  refine qk0 mixed z3a (W:=z4a) Try.func35 (by kernel_rfl) (by decide) (by decide) (λ⟨s,i⟩=>by kernel_rfl) λ⟨s,i⟩=>(z4k s i).mpr ?_
  rintro⟨h1,h2,h3,h4⟩
  obtain⟨n,rfl⟩:=Int.eq_ofNat_of_zero_le h1
  have hn:n<=s.size:=by omega
  have hB:=z42 s n
  have b1:=z03 s (n+1)
  have b2:=z03 s (n+2)
  simp only[decide_eq_true_eq,decide_eq_false_iff_not,and_true,true_and,Int.toNat_natCast,Int.add_zero,tn1,tn2,sz2,zd7 s n 48 120 (by omega) (by omega) hn,zd7 s n 48 88 (by omega) (by omega) hn]
  have d2:=z9q (bat s (n+2))
  have hS :nbS s n<=s.size/\n<=nbS s n:=by
    have h:=z9v s n (by omega)
    unfold nbS
    split
    · rename_i g
      have:nbO s n=2:=by
        unfold nbB at g;unfold nbO
        split at g
        · split at g
          · rename_i g1 g2;rw[if_pos g1,if_pos g2]
          · omega
        · omega
      omega
    · omega
  have e16:bat s n=48->(bat s (n+1)=120\/bat s (n+1)=88)->dv (bat s (n+2))<16->((nbB s n:Nat):Int)=16/\((nbS s n:Nat):Int)=(n:Int)+2:=λh h' h''=>by
    have e:nbB s n=16:=by unfold nbB;rw[if_pos h,if_pos ⟨h'',h'⟩]
    have e2:nbS s n=n+2:=by unfold nbS;rw[if_pos e]
    omega
  have e8:bat s n=48->¬((bat s (n+1)=120\/bat s (n+1)=88)/\dv (bat s (n+2))<16)->((nbB s n:Nat):Int)=8/\((nbS s n:Nat):Int)=(n:Int):=λh h'=>by
    have e:nbB s n=8:=by unfold nbB;rw[if_pos h,if_neg (λk=>h' ⟨k.2,k.1⟩)]
    have e2:nbS s n=n:=by unfold nbS;rw[if_neg (by omega)]
    omega
  have e10:¬bat s n=48->((nbB s n:Nat):Int)=10/\((nbS s n:Nat):Int)=(n:Int):=λh=>by
    have e:nbB s n=10:=by unfold nbB;rw[if_neg h]
    have e2:nbS s n=n:=by unfold nbS;rw[if_neg (by omega)]
    omega
  refine⟨⟨by omega,λa1=>⟨by omega,by omega,λa2=>⟨by omega,e16 a1.1 (.inl a1.2) (d2.1.mp a2)⟩,λa2=>⟨by omega,λa3=>e8 a1.1 (λk=>a2 (d2.1.mpr k.2)),λa3=>absurd a1.1 (by omega)⟩⟩,λa1=>⟨by omega,λa2=>⟨by omega,by omega,λa3=>⟨by omega,e16 a2.1 (.inr a2.2) (d2.1.mp a3)⟩,λa3=>⟨by omega,λa4=>e8 a2.1 (λk=>a3 (d2.1.mpr k.2)),λa4=>absurd a2.1 (by omega)⟩⟩,λa2=>⟨by omega,λa3=>e8 (by omega) (λk=>by omega),λa3=>e10 (by omega)⟩⟩⟩,λ_ _=>⟨⟨0,rfl,by omega,by omega,by omega,by omega,rfl,rfl⟩,?_⟩⟩
  rintro⟨v,j⟩ ⟨V,rfl,hV,hj,hij,hj2,inv,inP⟩
  simp only[]at hj hij hj2 inv inP
  obtain⟨j,rfl⟩:=Int.eq_ofNat_of_zero_le hj
  simp only[Int.toNat_natCast,tn1]at inv inP⊢
  have bj:=z03 s j
  have dj:=z9q (bat s j)
  have stepE:=z0i s (nbB s n) j V (by omega)
  have stepP:=z3w s (nbB s n) j V (by omega)
  rw[z5u]at inv
  have stop:¬dv (bat s j)<nbB s n->(nbR s n=if(isLet (bat s j)||z02 (bat s j)|| (bat s j==46))=true then(2,0,n)else(0,V,j))/\Int.ofNat (nbI s n)=(j:Int):=λhv=>by
    rw[if_neg hv]at stepE stepP
    refine⟨?_,by rw[←inP,stepP];rfl⟩
    unfold nbR
    rw[←inv,stepE]
    simp only[]
    rw[if_neg (by omega)]
  have bad:isLet (bat s j)=true\/z02 (bat s j)=true\/bat s j=46->¬dv (bat s j)<nbB s n->nbR s n=(2,0,n):=λh hv=>by
    rw[(stop hv).1,if_pos (by simpa[or_assoc]using h)]
  have good:isLet (bat s j)=false->z02 (bat s j)=false->¬bat s j=46->¬dv (bat s j)<nbB s n->nbR s n=(0,V,j):=λa1 a2 a3 hv=>by
    rw[(stop hv).1,if_neg (by rw[a1,a2];simpa using a3)]
  refine⟨λhl=>⟨by omega,by omega,λq1=> ?xp,λq1=>⟨λq2=> ?xq,λq2=>⟨by omega,λq3=> ?xo,λq3=>⟨by omega,?xk,?xm⟩⟩⟩⟩,λhl=> ?xr⟩
  case xp|xq|xr=>
    have hv:¬dv (bat s j)<nbB s n:=by
      first
      | (have:¬dv (bat s j)<16:=λh=>absurd (dj.1.mpr h) (by omega)
         omega)
      | (have h16:dv (bat s j)<16:=dj.1.mp (by omega)
         rw[dj.2 h16,z2d]at q2;omega)
      | (rw[z09 (by omega)];show¬16<nbB s n;omega)
    have hI:=(stop hv).2
    refine⟨by omega,by omega,λa1=> ?_,λa1=>⟨by omega,λa2=> ?_,λa2=>⟨λa3=> ?_,λa3=> ?_⟩⟩⟩
    · rw[bad (.inl a1) hv];exact⟨rfl,rfl,rfl,hI,rfl,rfl⟩
    · rw[bad (.inr (.inl a2)) hv];exact⟨rfl,rfl,rfl,hI,rfl,rfl⟩
    · rw[bad (.inr (.inr (by omega))) hv];exact⟨rfl,rfl,rfl,hI,rfl,rfl⟩
    · rw[good a1 a2 (by omega) hv];exact⟨rfl,rfl,rfl,hI,rfl,rfl⟩
  all_goals
    have h16:dv (bat s j)<16:=dj.1.mp (by omega)
    have eW:IntKind.u64.wrap (dvR (bat s j))=(dv (bat s j):Nat):=by rw[dj.2 h16,z2d];omega
    rw[eW]at q2
    have hv:dv (bat s j)<nbB s n:=by omega
    have ov:=z9w V (dv (bat s j)) (nbB s n) hB hv (by omega)
    have hm:V % 18446744073709551616=V:=Nat.mod_eq_of_lt hV
    rw[hm]at ov
    rw[if_pos hv]at stepE stepP
  case xo=>
    rw[eW]at q3
    rw[decide_eq_true q3]at ov
    have hge:=of_decide_eq_true ov.symm
    rw[if_pos hge]at stepP
    have hge2:=z5h s (nbB s n) (by omega) (by omega) _ (j+1) (V*nbB s n+dv (bat s j)) rfl
    have e:nbR s n=(3,0,n):=by
      unfold nbR
      rw[←inv,stepE]
      simp only[]
      rw[if_pos (by omega)]
    rw[e]
    exact⟨rfl,rfl,rfl,by rw[←inP,stepP];rfl,rfl,rfl⟩
  case xk=>
    rw[eW]at q3⊢
    rw[decide_eq_false q3]at ov
    have hlt:=of_decide_eq_false ov.symm
    rw[if_neg hlt]at stepP
    have hp:j<s.size:=by omega
    have st:=z9x V (dv (bat s j)) (nbB s n) hB hv
    rw[hm]at st
    refine⟨V*nbB s n+dv (bat s j),?_,by omega,by omega,by omega,by omega,?_,?_⟩
    · rw[st];rw[Nat.mod_eq_of_lt (by omega)]
    · rw[z5u,←inv,stepE]
    · rw[←inP,stepP]
  case xm=>omega
def z1f(s:ByteArray) (q:Nat):∀(f g j:Nat),s.size+1- j<=f->s.size+1- j<=g->txG s q f j=txG s q g j
  |0,0,j,h,hi=>rfl
  |0,g+1,j,h,hi=>by rw[txG,txG,if_neg (by omega)]
  |f+1,0,j,h,hi=>by rw[txG,txG,if_neg (by omega)]
  | f + 1,g+1,j,h1,h2=>by
    rw[txG,txG]
    split
    · split
      · rfl
      · split
        · rfl
        · split
          · cases esc (bat s (j+1))with
            |some c=>exact z1f s q f g _ (by omega) (by omega)
            |none=>rfl
          · exact z1f s q f g _ (by omega) (by omega)
    · rfl
def z47(s:ByteArray) (q j:Nat):txP s q j=if j<s.size then
   if bat s j=q then j+1 else if bat s j=10 then j else if bat s j=92 then
    match esc (bat s (j+1))with
    |some _=>txP s q (j+2)
    |none=>j+1
   else txP s q (j+1)
  else j:=by
 unfold txP
 by_cases h:j<s.size
 ·obtain⟨f,hf⟩:∃f,s.size+1- j=f+1:=⟨s.size- j,by omega⟩
  rw[hf,txG,if_pos h,if_pos h]
  split
  ·rfl
  ·split
   ·rfl
   ·split
    ·cases esc (bat s (j+1))with
     |some c=>exact z1f s q _ _ _ (by omega) (by omega)
     |none=>rfl
    ·exact z1f s q _ _ _ (by omega) (by omega)
 ·rw[if_neg h]
  generalize s.size+1- j=f
  cases f with
  |zero=>rfl
  |succ f=>rw[txG,if_neg h]
def z34(s:ByteArray) (j:Nat) (h:j<s.size):s.extract j (j+1)=bs [bat s j]:=by
 apply ByteArray.ext;apply Array.toList_inj.mp
 rw[ByteArray.data_extract,Array.toList_extract,List.extract_eq_take_drop,show j+1- j=1 by omega,z0m s j h,z14 h]
 simp[bs]
def zmi(n:Nat):((n:Int)+1+1).toNat=n+2:=by omega
def zck(l m:List Nat):bs l++bs m=bs (l++m):=by
 apply ByteArray.ext
 unfold bs
 simp
section
variable (x0:Int) (x1:ByteArray) (x2:ByteArray×Int) (x3:Int) (x4:List Nat) (x5:Prop)
 abbrev z71:=(↑(bat x1 (toNat x0)):Int)=(↑(bat x1 (toNat x0)):Int)/\x1=x1/\x5
 def z3l:=(0:Int)=0/\(0:Int)=0/\x5
 def z72:=(∀(i0:Nat),i0∈x4->i0<256)
 abbrev z73:=(↑(bat x1 (toNat x2.2)):Int)
 abbrev z70:=Jb (x2.2+1)
 abbrev z1q:=(txR x1 (bat x1 (toNat x0)) (toNat x0)).1
 def zbw:=z3l (True/\(↑(nbK (z1q x0 x1) 3):Int)=(↑(0:Nat):Int)/\(txR x1 (bat x1 (toNat x0)) (toNat x0)).2.1=mkS []/\(↑(0:Nat):Int)=(↑(0:Nat):Int)/\(↑(nbK (z1q x0 x1) (toNat x0)):Int)=(↑(0:Nat):Int)/\x1=x1/\x5)
 def zby:=Int.ofNat (txP x1 (bat x1 (toNat x0)) (toNat x0+1))=x2.2+1/\Int.ofNat (z1q x0 x1)=x3/\x5
 def zhq:=(2:Int)=2/\x0=x0/\x1=x1/\x2.2+1=x2.2+1/\zbw x0 x1 (zby x0 x1 x2 2 (Int.ofNat (erN (z1q x0 x1) (toNat x0))=x0/\True))
 def zfd:=(↑(nbK (z1q x0 x1) 3):Int)=3/\(txR x1 (bat x1 (toNat x0)) (toNat x0)).2.1=x2.1/\(↑(0:Nat):Int)=0/\(↑(nbK (z1q x0 x1) (toNat x0)):Int)=x0/\x1=x1/\zby x0 x1 x2 0 (Int.ofNat (erN (z1q x0 x1) (toNat x0))=0/\True)
 def zfc:=z70 x2/\x2.1=x2.1/\size x2.1<1000000/\((!vld x2.1)=true->zhq x0 x1 x2)/\((!vld x2.1)=false->zfd x0 x1 x2)
 def zhr:=(2:Int)=2/\x0=x0/\x1=x1/\x2.2=x2.2/\zbw x0 x1 (Int.ofNat (txP x1 (bat x1 (toNat x0)) (toNat x0+1))=x2.2/\Int.ofNat (z1q x0 x1)=2/\Int.ofNat (erN (z1q x0 x1) (toNat x0))=x0/\True)
 abbrev z1m:=toNat (x2.2+1)
 def zfa:=z70 x2/\(0<=x2.2/\x2.2<=x2.2+1/\x2.2+1<=(↑(size x1):Int))/\size x2.1+size (ByteArray.extract x1 (toNat x2.2) (z1m x2))<=9223372036854775807/\z70 x2/\x0=x0/\x2.1++ByteArray.extract x1 (toNat x2.2) (z1m x2)=x2.1++ByteArray.extract x1 (toNat x2.2) (z1m x2)/\z71 x0 x1 (x2.2+1=x2.2+1/\z3l ((∃(i0:List Nat),x2.1++ByteArray.extract x1 (toNat x2.2) (z1m x2)=bs i0/\z72 i0/\x0+1<=x2.2+1/\x2.2+1<=(↑(size x1):Int)/\length i0<=toNat (x2.2+1)/\txE x1 (bat x1 (toNat x0)) (z1m x2) i0=txE x1 (bat x1 (toNat x0)) (toNat x0+1) []/\txP x1 (bat x1 (toNat x0)) (z1m x2)=txP x1 (bat x1 (toNat x0)) (toNat x0+1))/\size x1- toNat (x2.2+1)<size x1- toNat x2.2/\True))
 abbrev z2j:=toNat (x2.2+1+x0)
 abbrev z98:=(↑(bat x1 (z2j 0 x2)):Int)=x0
 abbrev z97:=Jb (x2.2+1+1)
 def zbv:=z72 x4/\x0+1<=x2.2+1+1/\x2.2+1+1<=(↑(size x1):Int)/\length x4<=toNat (x2.2+1+1)/\txE x1 (bat x1 (toNat x0)) (z2j 1 x2) x4=txE x1 (bat x1 (toNat x0)) (toNat x0+1) []/\txP x1 (bat x1 (toNat x0)) (z2j 1 x2)=txP x1 (bat x1 (toNat x0)) (toNat x0+1)
 def zbx:=size x1- toNat (x2.2+1+1)<size x1- toNat x2.2/\True
 def zfb:=size x2.1+size (mkS [10])<=9223372036854775807/\z97 x2/\x0=x0/\x2.1++mkS [10]=x2.1++mkS [10]/\z71 x0 x1 (x2.2+1+1=x2.2+1+1/\z3l ((∃(i0:List Nat),x2.1++mkS [10]=bs i0/\zbv x0 x1 x2 i0)/\zbx x1 x2))
 def zl0:=z97 x2/\(0<=x2.2+1/\x2.2+1<=x2.2+1+1/\x2.2+1+1<=(↑(size x1):Int))/\size x2.1+size (ByteArray.extract x1 (z1m x2) (z2j 1 x2))<=9223372036854775807/\z97 x2/\x0=x0/\x2.1++ByteArray.extract x1 (z1m x2) (z2j 1 x2)=x2.1++ByteArray.extract x1 (z1m x2) (z2j 1 x2)/\z71 x0 x1 (x2.2+1+1=x2.2+1+1/\z3l ((∃(i0:List Nat),x2.1++ByteArray.extract x1 (z1m x2) (z2j 1 x2)=bs i0/\zbv x0 x1 x2 i0)/\zbx x1 x2))
 def zge:=Ji ((↑(bat x1 (z2j 0 x2)):Int)=x3) (zl0 x0 x1 x2) (zhq x0 x1 x2)
 abbrev zff:=Ji (z98 34 x1 x2) (zge x0 x1 x2 34) (zge x0 x1 x2 39)
 abbrev zfe:=Ji (z98 92 x1 x2) (zge x0 x1 x2 92) (zff x0 x1 x2)
 def zkz:=z70 x2/\(0:Int)=0/\x1=x1/\x2.2+1=x2.2+1/\z3l ((0<=x2.2+1/\x2.2+1<=(↑(size x1):Int)/\size x1<1000000/\(0:Int)<=0/\(0:Int)<1000000)/\Ji (z98 110 x1 x2) (zfb x0 x1 x2) (zfe x0 x1 x2))
 def zky:=((!decide ((z73 x1 x2)=92))=true->zfa x0 x1 x2)/\((!decide ((z73 x1 x2)=92))=false->zkz x0 x1 x2)
 def zkx:=Ji ((z73 x1 x2)=10) (zhr x0 x1 x2) (zky x0 x1 x2)
 def zkw:=(0<=x2.2/\x2.2<(↑(size x1):Int))/\Ji ((z73 x1 x2)=(↑(bat x1 (toNat x0)):Int)) (zfc x0 x1 x2) (zkx x0 x1 x2)
 def zkv:=Ji (x2.2<(↑(size x1):Int)) (zkw x0 x1 x2) (zhr x0 x1 x2)
 def zku:=(0<=x0/\x0<(↑(size x1):Int))/\Jb (x0+1)/\(x0=x0/\mkS []=mkS []/\z71 x0 x1 (x0+1=x0+1/\z3l ((∃(i0:List Nat),mkS []=bs i0/\z72 i0/\x0+1<=x0+1/\x0+1<=(↑(size x1):Int)/\length i0<=toNat (x0+1)/\txE x1 (bat x1 (toNat x0)) (toNat (x0+1)) i0=txE x1 (bat x1 (toNat x0)) (toNat x0+1) []/\txP x1 (bat x1 (toNat x0)) (toNat (x0+1))=txP x1 (bat x1 (toNat x0)) (toNat x0+1))/\True)))/\∀(i2:ByteArray×Int),(∃(i3:List Nat),i2.1=bs i3/\z72 i3/\x0+1<=i2.2/\i2.2<=(↑(size x1):Int)/\length i3<=toNat i2.2/\txE x1 (bat x1 (toNat x0)) (toNat i2.2) i3=txE x1 (bat x1 (toNat x0)) (toNat x0+1) []/\txP x1 (bat x1 (toNat x0)) (toNat i2.2)=txP x1 (bat x1 (toNat x0)) (toNat x0+1))->zkv x0 x1 i2
end
def z6c(s:ByteArray) (i:Int):qjz P (za2) Try.f36 z3t (za9) ⟨s,i⟩=(0<=i/\i<(↑(size s):Int)/\size s<100000/\(bat s (toNat i)=34\/bat s (toNat i)=39)->zku i s):=by kernel_rfl
def z8c:=λs i=>Eq.trans (z6c s i) (by delta Ji Jb Jt Jf z71 z3l z72 z73 z70 z1q zbw zby zhq zfd zfc zhr z1m zfa z2j z98 z97 zbv zbx zfb zl0 zge zff zfe zkz zky zkx zkw zkv zku;exact rfl)
def z68:∀g C,za2 g=some C->q7a P g C:=qda (qgx z23 (qgx z1w (qgx z6i qjn)))
def z8d:q7a P 36 z3t:=by
 refine qk0 mixed z68 (W:=za9) Try.func36 (by kernel_rfl) (by decide) (by decide) (λ⟨s,i⟩=>by kernel_rfl) λ⟨s,i⟩=>(z8c s i).mpr ?_
 rintro⟨h1,h2,h3,h4⟩
 obtain⟨n,rfl⟩:=Int.eq_ofNat_of_zero_le h1
 obtain⟨q,hq⟩:∃q,q=bat s n:=⟨_,rfl⟩
 simp only[decide_eq_true_eq,decide_eq_false_iff_not,and_true,true_and,Int.toNat_natCast,Int.add_zero,tn1,tn2,←hq]at h4⊢
 refine⟨by omega,by omega,⟨[],rfl,λc h=>(by cases h),by omega,by omega,Nat.zero_le _,rfl⟩,?_⟩
 rintro⟨o,j⟩ ⟨l,rfl,hl,hj,hj2,hlen,inv,inP⟩
 obtain⟨j,rfl⟩:=Int.eq_ofNat_of_zero_le (show 0<=j by omega)
 have bj:=z03 s j
 have bj1:=z03 s (j+1)
 have hz:=z1v l
 simp only[Int.toNat_natCast,tn1,zmi,hz]at inv inP hlen⊢
 have stepE:=z1d s q j l
 have stepP:=z47 s q j
 rw[inv]at stepE
 rw[inP]at stepP
 simp only[Bool.not_eq_true',Bool.not_eq_false',decide_eq_true_eq,decide_eq_false_iff_not]at*
 have no:txE s q (n+1) []=none->∀k:Int,Int.ofNat (txP s q (n+1))=k->((nbK (txR s q n).1 3:Nat):Int)=((0:Nat):Int)/\(txR s q n).2.1=mkS []/\((nbK (txR s q n).1 n:Nat):Int)=((0:Nat):Int)/\Int.ofNat (txP s q (n+1))=k/\Int.ofNat (txR s q n).1=2/\Int.ofNat (erN (txR s q n).1 n)=(n:Int):=λh k hk=>by
  have e:txR s q n=(2,mkS [],n):=by unfold txR;rw[h]
  rw[e];exact⟨rfl,rfl,rfl,hk,rfl,rfl⟩
 have go:∀(c:Nat) (k:Nat) (z:ByteArray),c<256->z=bs [c]->txE s q (n+1) []=txE s q k (l++[c])->txP s q (n+1)=txP s q k->∃l_1,bs l++z=bs l_1/\(∀(c:Nat),c∈l_1->c<256)/\l_1.length=l.length+1/\txE s q k l_1=txE s q (n+1) []/\txP s q k=txP s q (n+1):=λc k z hc hzz h1 h2=>by
  refine⟨l++[c],by rw[hzz,zck],λx hx=> ?_,by simp,h1.symm,h2.symm⟩
  rcases List.mem_append.mp hx with h|h
  ·exact hl x h
  ·rw[List.mem_singleton.mp h];exact hc
 have e1:∀k,k<s.size->(s.extract k (k+1)).size=1:=λk h=>by rw[ByteArray.size_extract];omega
 refine⟨λa0=>⟨by omega,λa1=>⟨by omega,by omega,λa2=> ?_,λa2=> ?_⟩,λa1=>⟨λa2=>no ?_ _ ?_,λa2=>⟨λa3=> ?_,λa3=>⟨by omega,by omega,λa4=> ?_,λa4=>⟨λa5=>⟨λa6=> ?xa,λh=>absurd a5 h⟩,λa5=>⟨λa6=>⟨λa7=> ?xb,λh=>absurd a6 h⟩,λa6=>⟨λa7=> ?xc,λa7=>no ?_ _ ?_⟩⟩⟩⟩⟩⟩⟩,λa0=>no ?_ _ ?_⟩
 case xa|xb|xc=>
  have hp:j+1<s.size:=z07 (by omega)
  have he:esc (bat s (j+1))=some (bat s (j+1)):=by unfold esc;rw[if_pos (by omega)]
  rw[if_pos (by omega),if_neg (by omega),if_neg (by omega),if_pos (by omega),he]at stepE stepP
  obtain⟨l1,g1,g2,g3,g4,g5⟩:=go (bat s (j+1)) (j+2) (s.extract (j+1) (j+2)) bj1 (z34 s (j+1) hp) stepE stepP
  have:=e1 (j+1) hp
  refine⟨by omega,by omega,?_,by omega,⟨l1,g1,g2,by omega,by omega,by omega,g4,g5⟩,by omega⟩
  rw[show j+2=j+1+1 from rfl,this];omega
 ·rw[if_pos (by omega),if_pos (by omega)]at stepE stepP
  have e:txR s q n=(2,mkS [],n):=by unfold txR;rw[stepE];simp only[];rw[if_neg (by rw[a2];simp)]
  rw[e];exact⟨rfl,rfl,rfl,by rw[stepP];rfl,rfl,rfl⟩
 ·rw[if_pos (by omega),if_pos (by omega)]at stepE stepP
  have e:txR s q n=(0,bs l,j+1):=by unfold txR;rw[stepE];simp only[];rw[if_pos a2]
  rw[e];exact⟨rfl,rfl,rfl,rfl,by rw[stepP];rfl,rfl,rfl⟩
 ·rw[stepE,if_pos (by omega),if_neg (by omega),if_pos (by omega)]
 ·rw[stepP,if_pos (by omega),if_neg (by omega),if_pos (by omega)];rfl
 ·rw[if_pos (by omega),if_neg (by omega),if_neg (by omega),if_neg (by omega)]at stepE stepP
  obtain⟨l1,g1,g2,g3,g4,g5⟩:=go (bat s j) (j+1) (s.extract j (j+1)) bj (z34 s j (by omega)) stepE stepP
  have:=e1 j (by omega)
  exact⟨by omega,by omega,by rw[this];omega,by omega,⟨l1,g1,g2,by omega,by omega,by omega,g4,g5⟩,by omega⟩
 ·have hp:j+1<s.size:=z07 (by omega)
  have he:esc (bat s (j+1))=some 10:=by unfold esc;rw[if_neg (by omega),if_pos (by omega)]
  rw[if_pos (by omega),if_neg (by omega),if_neg (by omega),if_pos (by omega),he]at stepE stepP
  obtain⟨l1,g1,g2,g3,g4,g5⟩:=go 10 (j+2) (mkS [10]) (by omega) rfl stepE stepP
  have:(mkS [10]).size=1:=rfl
  exact⟨by omega,by omega,⟨l1,g1,g2,by omega,by omega,by omega,g4,g5⟩,by omega⟩
 ·have he:esc (bat s (j+1))=none:=by unfold esc;rw[if_neg (by omega),if_neg (by omega)]
  rw[stepE,if_pos (by omega),if_neg (by omega),if_neg (by omega),if_pos (by omega),he]
 ·have he:esc (bat s (j+1))=none:=by unfold esc;rw[if_neg (by omega),if_neg (by omega)]
  rw[stepP,if_pos (by omega),if_neg (by omega),if_neg (by omega),if_pos (by omega),he];rfl
 ·rw[stepE,if_neg (by omega)]
 ·rw[stepP,if_neg (by omega)];rfl
section
variable (x0:ByteArray) (x1 x2:Int) (x3:Prop)
 abbrev z3m:=(↑(wdR x0 (toNat x1)).2.1.1:Int)
 abbrev z2k:=(wdR x0 (toNat x1)).2.1.2
 abbrev z77:=(↑(z2k x0 x1).2.1:Int)
 abbrev z78:=(↑(z2k x0 x1).2.2:Int)
 def z9b:=(z77 x0 x1)=0/\(z78 x0 x1)=x1/\x0=x0/\x3
 abbrev z2m:=(wdR x0 (toNat x1)).1
 def z9a:=Int.ofNat (z2m x0 x1)=0/\Int.ofNat (erN (z2m x0 x1) (toNat x1))=0/\True
 def zfn:=(z3m x0 x1)=5/\(z2k x0 x1).1=mkS []/\z9b x0 x1 (Int.ofNat (wdI x0 (toNat x1))=x1/\z9a x0 x1)
 abbrev z0e:=(↑(bat x0 (toNat x1)):Int)
 abbrev z75:=Jb (x1+1)
 def z1r:=(0:Int)=0/\(0:Int)=0/\x3
 def z74:=x2=x2/\x0=x0/\x1=x1/\z1r ((0<=x1/\x1<=(↑(size x0):Int)/\size x0<1000000/\0<=x2/\x2<1000000)/\(↑(bat x0 (toNat (x1+x2))):Int)=(↑(bat x0 (toNat (x1+x2))):Int)/\(0<=(↑(bat x0 (toNat (x1+x2))):Int)/\(↑(bat x0 (toNat (x1+x2))):Int)<256)/\x3)
 abbrev z2l:=toNat (↑(bat x0 (toNat (x1+x2))):Int)
 def z99:=z75 x1/\x2=x2/\x0=x0/\x1+1=x1+1/\z1r ((x2+1<=x1+1/\x1+1<=(↑(size x0):Int)/\nmE x0 (toNat (x1+1))=nmE x0 (toNat x2+1))/\size x0- toNat (x1+1)<size x0- toNat x1/\True)
 def zbz:=(0<=x1/\x1<=x2/\x2<=(↑(size x0):Int))/\(z3m x0 x1)=1/\(z2k x0 x1).1=ByteArray.extract x0 (toNat x1) (toNat x2)/\z9b x0 x1 (Int.ofNat (wdI x0 (toNat x1))=x2/\z9a x0 x1)
 def zl6:=(0:Int)=0/\x0=x0/\x1=x1/\z1r ((0<=x1/\x1<=(↑(size x0):Int)/\size x0<1000000/\(0:Int)<=0/\(0:Int)<1000000)/\Ji ((↑(bat x0 (toNat (x1+0))):Int)=46) (z74 x0 x1 1 ((isLet (z2l x0 x1 1)=true->z99 x0 x1 x2)/\(isLet (z2l x0 x1 1)=false->zbz x0 x2 x1))) (zbz x0 x2 x1))
 def zl4:=z74 x0 x1 0 ((z02 (z2l x0 x1 0)=true->z99 x0 x1 x2)/\(z02 (z2l x0 x1 0)=false->zl6 x0 x1 x2))
 def zl2:=z74 x0 x1 0 ((isLet (z2l x0 x1 0)=true->z99 x0 x1 x2)/\(isLet (z2l x0 x1 0)=false->zl4 x0 x1 x2))
 def zhs:=z75 x1/\(x1=x1/\x0=x0/\x1+1=x1+1/\z1r ((x1+1<=x1+1/\x1+1<=(↑(size x0):Int)/\nmE x0 (toNat (x1+1))=nmE x0 (toNat x1+1))/\True))/\∀(i0:Int),x1+1<=i0/\i0<=(↑(size x0):Int)/\nmE x0 (toNat i0)=nmE x0 (toNat x1+1)->zl2 x0 i0 x1
 def zfi:=x0=x0/\x1=x1/\z1r ((0<=x1/\x1<(↑(size x0):Int)/\size x0<100000/\z02 (bat x0 (toNat x1))=true)/\(z3m x0 x1)=(↑(nbK (nbR x0 (toNat x1)).1 2):Int)/\(z2k x0 x1).1=mkS []/\(z77 x0 x1)=(↑(nbR x0 (toNat x1)).2.1:Int)/\(z78 x0 x1)=(↑(nbK (nbR x0 (toNat x1)).1 (toNat x1)):Int)/\x0=x0/\Int.ofNat (wdI x0 (toNat x1))=Int.ofNat (nbI x0 (toNat x1))/\Int.ofNat (z2m x0 x1)=Int.ofNat (nbR x0 (toNat x1)).1/\Int.ofNat (erN (z2m x0 x1) (toNat x1))=Int.ofNat (erN (nbR x0 (toNat x1)).1 (toNat x1))/\True)
 abbrev z76:=(txR x0 (bat x0 (toNat x1)) (toNat x1)).1
 def zht:=x0=x0/\x1=x1/\z1r ((0<=x1/\x1<(↑(size x0):Int)/\size x0<100000/\(bat x0 (toNat x1)=34\/bat x0 (toNat x1)=39))/\(z3m x0 x1)=(↑(nbK (z76 x0 x1) 3):Int)/\(z2k x0 x1).1=(txR x0 (bat x0 (toNat x1)) (toNat x1)).2.1/\(z77 x0 x1)=(↑(0:Nat):Int)/\(z78 x0 x1)=(↑(nbK (z76 x0 x1) (toNat x1)):Int)/\x0=x0/\Int.ofNat (wdI x0 (toNat x1))=Int.ofNat (txP x0 (bat x0 (toNat x1)) (toNat x1+1))/\Int.ofNat (z2m x0 x1)=Int.ofNat (z76 x0 x1)/\Int.ofNat (erN (z2m x0 x1) (toNat x1))=Int.ofNat (erN (z76 x0 x1) (toNat x1))/\True)
 abbrev zc0:=mkS [123,125,40,41,91,93,61,59,44,60,62,45]
 def zfk:=z75 x1/\(0<=x1/\x1<=x1+1/\x1+1<=(↑(size x0):Int))/\(z3m x0 x1)=4/\(z2k x0 x1).1=ByteArray.extract x0 (toNat x1) (toNat (x1+1))/\z9b x0 x1 (Int.ofNat (wdI x0 (toNat x1))=x1+1/\z9a x0 x1)
 def zfm:=z75 x1/\x2=x2/\x1+1=x1+1/\(z0e x0 x2)=(z0e x0 x2)/\x0=x0/\x2=x2/\z1r ((0<=x1+1/\x1+1<=12/\∀(i0:Nat),i0<toNat (x1+1)->sgs[i0]?≠some (bat x0 (toNat x2)))/\(12:Nat)- toNat (x1+1)<12- toNat x1/\True)
 def zfh:=(0<=x1/\x1<(↑(size (zc0)):Int))/\Ji ((↑(bat (zc0) (toNat x1)):Int)=(z0e x0 x2)) (zfk x0 x2) (zfm x0 x1 x2)
 def zfl:=(2:Int)=2/\x1=x1/\x0=x0/\x1=x1/\z1r (True/\(z3m x0 x1)=(↑(0:Nat):Int)/\(z2k x0 x1).1=mkS []/\(z77 x0 x1)=(↑(0:Nat):Int)/\(z78 x0 x1)=(↑(0:Nat):Int)/\x0=x0/\Int.ofNat (wdI x0 (toNat x1))=x1/\Int.ofNat (z2m x0 x1)=2/\Int.ofNat (erN (z2m x0 x1) (toNat x1))=x1/\True)
 def zl7:=Ji (x1<12) (zfh x0 x1 x2) (zfl x0 x2)
 def zl5:=(x1=x1/\(0:Int)=0/\(z0e x0 x1)=(z0e x0 x1)/\x0=x0/\x1=x1/\z1r (((0:Int)<=0/\(0:Int)<=12/\∀(i0:Nat),i0<0->sgs[i0]?≠some (bat x0 (toNat x1)))/\True))/\∀(i1:Int),(0<=i1/\i1<=12/\∀(i2:Nat),i2<toNat i1->sgs[i2]?≠some (bat x0 (toNat x1)))->zl7 x0 i1 x1
 def zl3:=Ji ((z0e x0 x1)=39) (zht x0 x1) (zl5 x0 x1)
 def zl1:=Ji ((z0e x0 x1)=34) (zht x0 x1) (zl3 x0 x1)
 def zgf:=(z0e x0 x1)=(z0e x0 x1)/\(0<=(z0e x0 x1)/\(z0e x0 x1)<256)/\(z02 (toNat (z0e x0 x1))=true->zfi x0 x1)/\(z02 (toNat (z0e x0 x1))=false->zl1 x0 x1)
 def zfp:=(isLet (toNat (z0e x0 x1))=true->zhs x0 x1)/\(isLet (toNat (z0e x0 x1))=false->zgf x0 x1)
 def zfo:=Ji ((z0e x0 x1)=46) (z74 x0 x1 1 ((isLet (z2l x0 x1 1)=true->zhs x0 x1)/\(isLet (z2l x0 x1 1)=false->zgf x0 x1))) (zgf x0 x1)
 def zfj:=(0<=x1/\x1<(↑(size x0):Int))/\(z0e x0 x1)=(z0e x0 x1)/\(0<=(z0e x0 x1)/\(z0e x0 x1)<256)/\(isLet (toNat (z0e x0 x1))=true->zfp x0 x1)/\(isLet (toNat (z0e x0 x1))=false->zfo x0 x1)
 def zfg:=Ji (x1=(↑(size x0):Int)) (zfn x0 x1) (zfj x0 x1)
end
def z6p(s:ByteArray) (i:Int):qjz P (za3) Try.f18 z3u (zab) ⟨s,i⟩=(0<=i/\i<=(↑(size s):Int)/\size s<100000->zfg s i):=by kernel_rfl
def z8j:=λs i=>Eq.trans (z6p s i) (by delta Ji Jb Jt Jf z3m z2k z77 z78 z9b z2m z9a zfn z0e z75 z1r z74 z2l z99 zbz zl6 zl4 zl2 zhs zfi z76 zht zc0 zfk zfm zfh zfl zl7 zl5 zl3 zl1 zgf zfp zfo zfj zfg;exact rfl)
def z69:∀g C,za3 g=some C->q7a P g C:=qda (qgx z23 (qgx z1w (qgx z1t (qgx z2p (qgx z4l (qgx z8d qjn))))))
def z9z:∀m<12,sgs[m]? =some (bat (mkS [123,125,40,41,91,93,61,59,44,60,62,45]) m):=by decide+kernel
def z8k:q7a P 18 z3u:=by
 refine qk0 mixed z69 (W:=zab) Try.func18 (by kernel_rfl) (by decide) (by decide) (λ⟨s,i⟩=>by kernel_rfl) λ⟨s,i⟩=>(z8j s i).mpr ?_
 rintro⟨h1,h2,h3⟩
 obtain⟨n,rfl⟩:=Int.eq_ofNat_of_zero_le h1
 have b0:=z03 s n
 have b1:=z03 s (n+1)
 simp only[decide_eq_true_eq,decide_eq_false_iff_not,and_true,true_and,Int.toNat_natCast,Int.add_zero,tn1,tn2]
 have nn0:(n:Int)=s.size->n=s.size:=λh=>by omega
 have eqs:n=s.size->wdR s n=(0,(5,mkS [],0,n),n)/\wdI s n=n:=λh=>by unfold wdR wdI;rw[if_pos h,if_pos h];exact⟨rfl,rfl⟩
 have eN:¬n=s.size->isLet (bat s n)=true\/(bat s n=46/\isLet (bat s (n+1))=true)->wdR s n=(0,(1,s.extract n (nmE s (n+1)),0,n),nmE s (n+1))/\wdI s n=nmE s (n+1):=λh h1=>by unfold wdR wdI;rw[if_neg h,if_pos h1,if_neg h,if_pos h1];exact⟨rfl,rfl⟩
 have eD:¬n=s.size->¬(isLet (bat s n)=true\/(bat s n=46/\isLet (bat s (n+1))=true))->z02 (bat s n)=true->wdR s n=((nbR s n).1,(nbK (nbR s n).1 2,mkS [],(nbR s n).2.1,nbK (nbR s n).1 n),(nbR s n).2.2)/\wdI s n=nbI s n:=λh h1 h2=>by unfold wdR wdI;rw[if_neg h,if_neg h1,if_pos h2,if_neg h,if_neg h1,if_pos h2];exact⟨rfl,rfl⟩
 have eT:¬n=s.size->¬(isLet (bat s n)=true\/(bat s n=46/\isLet (bat s (n+1))=true))->z02 (bat s n)=false->bat s n=34\/bat s n=39->wdR s n=((txR s (bat s n) n).1,(nbK (txR s (bat s n) n).1 3,(txR s (bat s n) n).2.1,0,nbK (txR s (bat s n) n).1 n),(txR s (bat s n) n).2.2)/\wdI s n=txP s (bat s n) (n+1):=λh h1 h2 h4=>by unfold wdR wdI;rw[if_neg h,if_neg h1,if_neg (by rw[h2];simp),if_pos h4,if_neg h,if_neg h1,if_neg (by rw[h2];simp),if_pos h4];exact⟨rfl,rfl⟩
 have eS:¬n=s.size->¬(isLet (bat s n)=true\/(bat s n=46/\isLet (bat s (n+1))=true))->z02 (bat s n)=false->¬(bat s n=34\/bat s n=39)->wdR s n=(if bat s n∈sgs then(0,(4,mkS [bat s n],0,n),n+1)else(2,(0,mkS [],0,0),n))/\wdI s n=if bat s n∈sgs then n+1 else n:=λh h1 h2 h4=>by have h2:¬z02 (bat s n)=true:=(by rw[h2];simp);unfold wdR wdI;rw[if_neg h,if_neg h1,if_neg h2,if_neg h4,if_neg h,if_neg h1,if_neg h2,if_neg h4];exact⟨rfl,rfl⟩
 refine⟨λa0=> ?xe,λa0=>⟨by omega,by omega,λa1=>⟨λ_=>⟨by omega,by omega,?xn⟩,λh=>absurd (a1.symm.trans h) (by decide)⟩,λa1=>⟨λa2=>⟨by omega,by omega,λa3=>⟨by omega,by omega,?xm⟩,λa3=> ?xx⟩,λa2=> ?xy⟩⟩⟩
 case xe=>
  obtain⟨e1,e2⟩:=eqs (by omega)
  rw[e1,e2];exact⟨rfl,rfl,rfl,rfl,rfl,rfl,rfl⟩
 case xn|xm=>
  have hN:wdR s n=(0,(1,s.extract n (nmE s (n+1)),0,n),nmE s (n+1))/\wdI s n=nmE s (n+1):=by
   first
   |exact eN (by omega) (.inl a1)
   |exact eN (by omega) (.inr ⟨by omega,a3⟩)
  rintro k ⟨k1,k2,k3⟩
  obtain⟨m,rfl⟩:=Int.eq_ofNat_of_zero_le (show 0<=k by omega)
  simp only[Int.toNat_natCast,tn1]at k3⊢
  have hs:=z29 s m (by omega)
  have c1:=z03 s m
  have c2:=z03 s (m+1)
  have hin:nmC s m=true->m<s.size:=λh=>by
   rcases Nat.lt_or_ge m s.size with h1|h1
   ·exact h1
   ·rw[z38 h1]at h;cases h
  have yes:nmC s m=true->((n:Int)+1<=(m:Int)+1/\(m:Int)+1<=s.size/\nmE s (m+1)=nmE s (n+1))/\s.size- (m+1)<s.size- m:=λh=>by
   rw[if_pos h]at hs
   have:=hin h
   exact⟨⟨by omega,by omega,hs ▸ k3⟩,by omega⟩
  have no:nmC s m=false->((wdR s n).2.1.1:Int)=1/\(wdR s n).2.1.2.1=s.extract n m/\((wdR s n).2.1.2.2.1:Int)=0/\((wdR s n).2.1.2.2.2:Int)=(n:Int)/\Int.ofNat (wdI s n)=(m:Int)/\Int.ofNat (wdR s n).1=0/\Int.ofNat (erN (wdR s n).1 n)=0:=λh=>by
   rw[if_neg (by rw[h];simp)]at hs
   have e:nmE s (n+1)=m:=by rw[←k3,hs]
   rw[hN.1,hN.2,e]
   exact⟨rfl,rfl,rfl,rfl,rfl,rfl,rfl⟩
  refine⟨by omega,by omega,λq1=> ?_,λq1=>⟨by omega,by omega,λq2=> ?_,λq2=>⟨by omega,λq3=>⟨by omega,by omega,λq4=> ?_,λq4=>⟨by omega,no ?_⟩⟩,λq3=>⟨by omega,no ?_⟩⟩⟩⟩
  ·exact⟨by omega,yes (by unfold nmC;rw[q1];rfl)⟩
  ·exact⟨by omega,yes (by unfold nmC;rw[q2];simp)⟩
  ·exact⟨by omega,yes (by unfold nmC;rw[q4,show bat s m=46 by omega];simp)⟩
  ·unfold nmC;rw[q1,q2,q4];simp
  ·unfold nmC;rw[q1,q2];simp;intro h;exact absurd h (by omega)
 case xx |xy=>
  have nn:¬(isLet (bat s n)=true\/(bat s n=46/\isLet (bat s (n+1))=true)):=by
   rintro(h|⟨h,h'⟩)
   ·rw[a1]at h;cases h
   ·first| (rw[a3]at h';cases h')|omega
  refine⟨by omega,λc1=>⟨⟨by omega,by omega,h3,c1⟩,?_⟩,λc1=>⟨λc2=>⟨⟨by omega,by omega,h3,by omega⟩,?_⟩,λc2=>⟨λc3=>⟨⟨by omega,by omega,h3,by omega⟩,?_⟩,λc3=>⟨⟨by omega,by omega,λm hm=>absurd hm (by omega)⟩,?_⟩⟩⟩⟩
  ·rw[(eD (by omega) nn c1).1,(eD (by omega) nn c1).2];exact⟨rfl,rfl,rfl,rfl,rfl,rfl,rfl⟩
  ·rw[(eT (by omega) nn c1 (by omega)).1,(eT (by omega) nn c1 (by omega)).2];exact⟨rfl,rfl,rfl,rfl,rfl,rfl,rfl⟩
  ·rw[(eT (by omega) nn c1 (by omega)).1,(eT (by omega) nn c1 (by omega)).2];exact⟨rfl,rfl,rfl,rfl,rfl,rfl,rfl⟩
  ·obtain⟨e1,e2⟩:=eS (by omega) nn c1 (by omega)
   rintro k ⟨k1,k2,k3⟩
   obtain⟨m,rfl⟩:=Int.eq_ofNat_of_zero_le k1
   simp only[Int.toNat_natCast,tn1]at k3⊢
   refine⟨λd1=>⟨⟨by omega,show(m:Int)<12 by omega⟩,λd2=>⟨by omega,by omega,?_⟩,λd2=>⟨by omega,⟨by omega,by omega,λx hx=> ?_⟩,by omega⟩⟩,λd1=> ?_⟩
   ·have hm:=z9z m (by omega)
    have hmem:bat s n∈sgs:=by
     rw[show bat s n=bat (mkS [123,125,40,41,91,93,61,59,44,60,62,45]) m by omega]
     exact List.mem_of_getElem? hm
    rw[e1,e2,if_pos hmem,if_pos hmem,z34 s n (by omega)]
    exact⟨rfl,rfl,rfl,rfl,rfl,rfl,rfl⟩
   ·rcases Nat.lt_or_ge x m with h|h
    ·exact k3 x h
    ·have:x=m:=by omega
     subst this
     rw[z9z x (by omega)]
     intro h
     injection h with h
     omega
   ·have hmem:¬bat s n∈sgs:=λh=>by
     obtain⟨x,hx⟩:=List.getElem?_of_mem h
     have hl:=(List.getElem?_eq_some_iff.mp hx).1
     have:sgs.length=12:=rfl
     exact k3 x (by omega) hx
    rw[e1,e2,if_neg hmem,if_neg hmem]
    exact⟨rfl,rfl,rfl,rfl,rfl,rfl,rfl⟩
def z9p(s:ByteArray) (B:Nat) (hB:B<=16) (h1:1<=B):∀(f j v:Nat),s.size- j=f->(dgE s B j v).2<18446744073709551616->dgP s B j v=(dgE s B j v).1
  |0,j,v,hf,h=>by rw[dgP,dgE,hf];rfl
  | f +1,j,v,hf,h=>by
    have ge:=z5h s B hB h1 _ (j+1) (v*B+dv (bat s j)) rfl
    rw[z0i s B j v hB]at h⊢
    rw[z3w s B j v hB]
    split
    · rename_i hd
      rw[if_pos hd]at h
      rw[if_neg (by omega)]
      exact z9p s B hB h1 f (j+1) _ (by omega) h
    · rfl
def zdg (s :ByteArray) (q:Nat):∀(f j:Nat) (acc:List Nat) (l:List Nat) (to:Nat),s.size+1- j=f->txE s q j acc=some (l,to)->txP s q j=to:=λf=>by
  induction f using Nat.strongRecOn with
  | ind f ih=>
    intro j acc l to hf h
    rw[z1d]at h
    rw[z47]
    split at h
    · rename_i h0
      rw[if_pos h0]
      split at h
      · rename_i h1
        rw[if_pos h1];cases h;rfl
      · rename_i h1
        rw[if_neg h1]
        split at h
        · cases h
        · rename_i h2
          rw[if_neg h2]
          split at h
          · rename_i h3
            rw[if_pos h3]
            cases he:esc (bat s (j+1))with
            |none=>rw[he]at h;cases h
            | some c=>
              rw[he]at h
              exact ih _ (by omega) (j+2) _ l to rfl h
          · rename_i h3
            rw[if_neg h3]
            exact ih _ (by omega) (j+1) _ l to rfl h
    · cases h
def zd1(s:ByteArray) (i:Nat):((nbR s i).1≠0->(nbR s i).2.2=i)/\((nbR s i).1=0->nbI s i=(nbR s i).2.2):=by
 have hB:=z42 s i
 have e:=z9p s (nbB s i) (by omega) (by omega) _ (nbS s i) 0 rfl
 rw[z5u]at e
 unfold nbI nbR
 simp only[]
 split
 ·exact⟨λ_=>rfl,λh=>by simp at h⟩
 ·split
  ·exact⟨λ_=>rfl,λh=>by simp at h⟩
  ·rename_i g _
   exact⟨λh=>absurd rfl h,λ_=>e (by omega)⟩
def zdh(s:ByteArray) (q i:Nat):((txR s q i).1≠0->(txR s q i).2.2=i)/\((txR s q i).1=0->txP s q (i+1)=(txR s q i).2.2):=by
  unfold txR
  cases h:txE s q (i+1) []with
  |none=>exact⟨λ_=>rfl,λh=>by simp at h⟩
  | some x=>
    obtain⟨l,to⟩:=x
    have:=zdg s q _ _ _ _ _ rfl h
    simp only[]
    split
    · exact⟨λh=>absurd rfl h,λ_=>this⟩
    · exact⟨λ_=>rfl,λh=>by simp at h⟩
def zdp(s:ByteArray) (i:Nat):((wdR s i).1≠0->(wdR s i).2.2=i)/\((wdR s i).1=0->wdI s i=(wdR s i).2.2):=by
 unfold wdR wdI
 split
 ·exact⟨λh=>absurd rfl h,λ_=>rfl⟩
 ·split
  ·exact⟨λh=>absurd rfl h,λ_=>rfl⟩
  ·split
   ·exact zd1 s i
   ·split
    ·exact zdh s (bat s i) i
    ·split
     ·exact⟨λh=>absurd rfl h,λ_=>rfl⟩
     ·exact⟨λ_=>rfl,λh=>by simp at h⟩
section
variable (x0:ByteArray) (x1:List Value×Nat×Int) (x2:Nat->Option Obj) (x3:Prop) (x4:Int)
 abbrev z9e:=noA=noA/\(0:Nat)=0/\(0:Nat)=0/\x3
 def zc2:=(↑(lxR x0).2.1:Int)=x4/\(↑(lxR x0).2.2:Int)=0/\x3
 def zfq:=0=length (lxR x0).1/\qh1 x2 noA 0 0 (z1c (lxR x0).1)
 def z9d:=Pl noA/\True/\(∀i0,True->zfq x0 i0)/\True
 abbrev z9c:=Int.ofNat (spN x0 (toNat x1.2.2) 2)=0
 def zc1:=x0=x0/\Int.ofNat (spI x0 (toNat x1.2.2))=Int.ofNat (spI x0 (toNat x1.2.2))/\0=Int.ofNat (spN x0 (toNat x1.2.2) 2)/\0=Int.ofNat (spN x0 (toNat x1.2.2) (spR x0 (toNat x1.2.2)).2)/\x3
 abbrev z2n:=toNat (Int.ofNat (spI x0 (toNat x1.2.2)))
 abbrev z3o:=(wdR x0 (z2n x0 x1)).1
 def zc3:=length x1.1=x1.2.1*4/\(x1.2.1+nat_lit 1)*40<=140737488355328/\x3
 abbrev z9f:=(wdR x0 (z2n x0 x1)).2.1
 abbrev z3n:=(z9f x0 x1).2.2
 abbrev zgg:=x1.1++[int i64 (↑(z9f x0 x1).1:Int),string (z9f x0 x1).2.1,int u64 (↑(z3n x0 x1).1:Int),int i64 (↑(z3n x0 x1).2:Int)]
 def zld:=x0=x0/\x1.2.1+nat_lit 1=x1.2.1+nat_lit 1/\x0=x0/\Int.ofNat (wdI x0 (z2n x0 x1))=Int.ofNat (wdI x0 (z2n x0 x1))/\0=Int.ofNat (z3o x0 x1)/\0=Int.ofNat (erN (z3o x0 x1) (z2n x0 x1))/\x1.1++[int i64 (↑(z9f x0 x1).1:Int),string (z9f x0 x1).2.1,int u64 (↑(z3n x0 x1).1:Int),int i64 (↑(z3n x0 x1).2:Int)]=x1.1++[int i64 (↑(z9f x0 x1).1:Int),string (z9f x0 x1).2.1,int u64 (↑(z3n x0 x1).1:Int),int i64 (↑(z3n x0 x1).2:Int)]/\z27 x0 (zgg x0 x1) (x1.2.1+nat_lit 1) (Int.ofNat (wdI x0 (z2n x0 x1)))/\size x0- toNat (Int.ofNat (wdI x0 (z2n x0 x1)))<size x0- toNat x1.2.2/\True
 def zlc:=zc3 x1 (Ji ((↑(z9f x0 x1).1:Int)=5) (∀(i0 i1 i2:Nat) (i3:Option Addr) (i4 i5:Nat),(∃i6,True/\x1.2.1+nat_lit 1<=i5/\qib i6 i3 (take ((x1.2.1+nat_lit 1)*nat_lit 4) (zgg x0 x1)))->∃(i7:Unit),i3=i3/\x1.2.1+nat_lit 1=x1.2.1+nat_lit 1/\i5=i5/\zc2 x0 (Pl i3/\True/\(∀i8,True/\x1.2.1+nat_lit 1<=i5/\qib i8 i3 (take ((x1.2.1+nat_lit 1)*nat_lit 4) (zgg x0 x1))->x1.2.1+nat_lit 1=length (lxR x0).1/\qh1 i8 i3 (x1.2.1+nat_lit 1) i5 (z1c (lxR x0).1))/\True) 0) (zld x0 x1))
 def zlb:=zc1 x0 x1 ((0<=Int.ofNat (spI x0 (toNat x1.2.2))/\Int.ofNat (spI x0 (toNat x1.2.2))<=(↑(size x0):Int)/\size x0<100000)/\((!decide (Int.ofNat (z3o x0 x1)=0))=true->∃(i0:Unit),z9e ((↑(lxR x0).2.1:Int)=Int.ofNat (z3o x0 x1)/\(↑(lxR x0).2.2:Int)=Int.ofNat (erN (z3o x0 x1) (z2n x0 x1))/\z9d x0))/\((!decide (Int.ofNat (z3o x0 x1)=0))=false->zlc x0 x1))
 def zlf:=zc3 x1 (x0=x0/\x1.2.1+nat_lit 1=x1.2.1+nat_lit 1/\zc1 x0 x1 (x1.1++[int i64 0,string (mkS []),int u64 0,int i64 0]=x1.1++[int i64 0,string (mkS []),int u64 0,int i64 0]/\z27 x0 (x1.1++[int i64 0,string (mkS []),int u64 0,int i64 0]) (x1.2.1+nat_lit 1) (Int.ofNat (spI x0 (toNat x1.2.2)))/\size x0- toNat (Int.ofNat (spI x0 (toNat x1.2.2)))<size x0- toNat x1.2.2/\True))
 def zle:=((!decide (z9c x0 x1))=true->∃(i0:Unit),z9e ((↑(lxR x0).2.1:Int)=Int.ofNat (spN x0 (toNat x1.2.2) 2)/\(↑(lxR x0).2.2:Int)=Int.ofNat (spN x0 (toNat x1.2.2) (spR x0 (toNat x1.2.2)).2)/\z9d x0))/\((!decide (z9c x0 x1))=false->zlf x0 x1)
 def zla:=x0=x0/\x1.2.2=x1.2.2/\(0:Int)=0/\(0:Int)=0/\(0<=x1.2.2/\x1.2.2<=(↑(size x0):Int)/\size x0<100000)/\Ji (z9c x0 x1) (zlb x0 x1) (zle x0 x1)
 def zl9:=(x0=x0/\nat_lit 0=0/\x0=x0/\(0:Int)=0/\(0:Int)=0/\(0:Int)=0/\z27 x0 [] 0 0/\True)/\∀(i0:List Value×Nat×Int),z27 x0 i0.1 i0.2.1 i0.2.2->zla x0 i0
 def zl8:=Ji (3000<(↑(size x0):Int)) (∃(i0:Unit),z9e (zc2 x0 (z9d x0) 3)) (zl9 x0)
end
def z7x(s:ByteArray):qjz P (zd9) Try.f11 z7l (zdl) s=(size s<100000->zl8 s):=by kernel_rfl
def zat:=λs=>Eq.trans (z7x s) (by delta Ji Jt Jf z9e zc2 zfq z9d z9c zc1 z2n z3o zc3 z9f z3n zgg zld zlc zlb zlf zle zla zl9 zl8;exact rfl)
def z87:∀g C,zd9 g=some C->q7a P g C:=qda (qgx z61 (qgx z8k qjn))
def zau:q7a P 11 z7l:=by
  refine qk0 mixed z87 (W:=zdl) Try.func11 (by kernel_rfl) (by decide) (by decide) (λs=>by kernel_rfl) λ(s:ByteArray)=>(zat s).mpr ?_
  intro h3
  simp only[decide_eq_true_eq,decide_eq_false_iff_not,and_true,true_and,Int.toNat_natCast,Int.add_zero]
  refine⟨λa0=>⟨(),?_⟩,λa0=>⟨?_,?_⟩⟩
  · have e:lxR s=([],3,0):=by unfold lxR;rw[if_pos (by omega)]
    rw[e]
    exact⟨rfl,rfl,z0a,λp _=>⟨rfl,Nat.le_refl _, .inl ⟨rfl,z0a⟩⟩⟩
  · exact⟨by omega,[],rfl,rfl,by omega,by omega,by simp,rfl⟩
  rintro⟨vs,n,j⟩ ⟨hs,l,rfl,rfl,hj,hj2,hlen,inv⟩
  simp only[]at hj hj2 hlen inv
  obtain⟨j,rfl⟩:=Int.eq_ofNat_of_zero_le hj
  have hj3:j<=s.size:=by omega
  have a:=z44 s _ j hj3 rfl
  have b:=z4b s (spR s j).2 a.2
  have step:=z40 s j l hj3
  have lx:lxR s=lxE s 0 []:=by unfold lxR;rw[if_neg (by omega)]
  simp only[Int.toNat_natCast]at inv hlen⊢
  rw[inv,←lx]at step
  simp only[Bool.not_eq_true',Bool.not_eq_false',decide_eq_true_eq,decide_eq_false_iff_not]at*
  have c:=zdp s (spR s j).2
  have spT:(spR s j).1=true->spN s j 2=0/\spN s j (spR s j).2=0/\spI s j=(spR s j).2:=λh=>by
    unfold spN spI;rw[if_pos h,if_pos h,if_pos h];exact⟨rfl,rfl,rfl⟩
  have spF:(spR s j).1=false->spN s j 2=2/\spN s j (spR s j).2=(spR s j).2:=λh=>by
    unfold spN;rw[if_neg (by rw[h];simp),if_neg (by rw[h];simp)];exact⟨rfl,rfl⟩
  cases h1:(spR s j).1 with
  | false=>
    obtain⟨f1,f2⟩:=spF h1
    rw[f1,f2]
    rw[if_pos h1]at step
    refine⟨by omega,λh=>absurd h (by decide),λ_=>⟨λ_=>⟨(),?_⟩,λh=>absurd h (by decide)⟩⟩
    rw[step]
    exact⟨rfl,rfl,z0a,λp _=>⟨rfl,Nat.le_refl _, .inl ⟨rfl,z0a⟩⟩⟩
  | true=>
    obtain⟨f1,f2,f3⟩:=spT h1
    rw[f1,f2,f3]
    rw[if_neg (by rw[h1];simp)]at step
    have tn0:(Int.ofNat (spR s j).2).toNat=(spR s j).2:=Int.toNat_natCast _
    rw[tn0]
    have ap:=z46 l (wdR s (spR s j).2).2.1
    unfold tkV at ap
    rw[ap]
    have qj8:=z0p (l++[(wdR s (spR s j).2).2.1])
    rw[List.take_of_length_le (by rw[qj8];simp)]
    refine⟨by omega,λ_=>⟨rfl,rfl,⟨show(0:Int)<=((spR s j).2:Nat)by omega,show((spR s j).2:Int)<=_ by omega,h3⟩,λc2=>⟨(),?_⟩,λc2=>⟨z0p l,by omega,λc3 b s_2 u q n k hq=>⟨(),?_⟩,λc3=> ?_⟩⟩,λh=>absurd rfl h⟩
    · have c2:(wdR s (spR s j).2).1≠0:=λh=>c2 (by rw[h];rfl)
      rw[if_pos c2]at step
      rw[step]
      refine⟨rfl,?_,z0a,λp _=>⟨rfl,Nat.le_refl _, .inl ⟨rfl,z0a⟩⟩⟩
      simp only[]
      rw[c.1 c2]
      unfold erN;rw[if_neg c2];rfl
    · have c2:(wdR s (spR s j).2).1=0:=Int.ofNat.inj c2
      rw[if_neg (λh=>h c2),if_pos (by omega)]at step
      rw[step]
      obtain⟨p,hp2,hp3⟩:=hq
      refine⟨rfl,rfl,?_,λp h=>⟨by simp,h.1,h.2⟩⟩
      rcases hp3 with⟨h,_⟩|⟨x,rfl,h,_⟩
      · have:=congrArg List.length h
        rw[qj8]at this;simp at this
      · exact z55 h
    · have c2:(wdR s (spR s j).2).1=0:=Int.ofNat.inj c2
      rw[if_neg (λh=>h c2),if_neg (by omega)]at step
      have:=b.2 c2 (by omega)
      rw[c.2 c2,c2]
      have tn3:(Int.ofNat (wdR s (spR s j).2).2.2).toNat=(wdR s (spR s j).2).2.2:=Int.toNat_natCast _
      rw[tn3]
      refine⟨rfl,rfl,⟨hs,_,rfl,by simp,show(0:Int)<=((wdR s (spR s j).2).2.2:Nat)by omega,show((wdR s (spR s j).2).2.2:Int)<=_ by omega,?_,?_⟩,by omega⟩
      · rw[tn3];simp;omega
      · rw[tn3,←step,lx]
def tk2(l m:List Tk) (a b:SV):PF:=⟨true,λp=>(a.2.1=l.length/\qh1 p a.1 a.2.1 a.2.2 (z1c l))/\b.2.1=m.length/\qh1 p b.1 b.2.1 b.2.2 (z1c m),λ_ _ h e=>⟨⟨e.1.1,q4p h e.1.2⟩,e.2.1,q4p h e.2.2⟩⟩
def z7n:Ct where
 σ:=List Tk×List Tk×SV×SV
 args:=λ⟨l,m,a,b⟩=>[.sv (.slice a.1 a.2.1 a.2.2), .sv (.slice b.1 b.2.1 b.2.2)]
 h:=λ_=>[]
 m:=1
 pre:=λ⟨l,m,a,b⟩=>l.length<100000/\m.length<100000
 mem:=λ⟨l,m,a,b⟩=>tk2 l m a b
 r:=λ⟨l,m,a,b⟩=> .sv (.bool (decide (l=m)))
 h':=λ_=>[]
 m':=1
 g:=λ_=>none
def zdn:z7n.σ->WayF:=λ⟨l,m,a,b⟩=>{ann:=λ_ _ _=>some {σ:=Int,pre:=λi=>0<=i/\i<=l.length/\l.take i.toNat=m.take i.toNat,find:=some λt _=>slI t 5,t:=λi=>[(5, .sv (.int .i64 i))],h:=λ_=>[],more:=0,μ:=λi=>l.length- i.toNat,keep:=[0,1,4]}}
def zgj(x:Addr) (h:x.spot=none) (i j:Nat):(x.add i).add j=x.add (i+j):=by
 obtain⟨b,o,s⟩:=x
 simp only at h
 subst h
 unfold Addr.add
 by_cases hi:i=0
 ·subst hi;simp
 ·by_cases hj:j=0
  ·subst hj;simp[hi]
  ·rw[if_neg hi,if_neg hj,if_neg (by omega)]
   simp only[Nat.add_assoc]
def za4:∀(l:List Tk) (i:Nat) (hi:i<l.length) (j:Nat),j<4->(z1c l)[i*4+j]? =(tkV l[i])[j]?
  | x::l,0,_,j,hj=>by
    show(tkV x++z1c l)[0*4+j]? =_
    rw[Nat.zero_mul,Nat.zero_add,List.getElem?_append_left (by show j<4;exact hj)];rfl
  | x::l,i+1,hi,j,hj=>by
    show(tkV x++z1c l)[(i+1)*4+j]? =_
    rw[List.getElem?_append_right (by show 4<=_;omega),show(i+1)*4+j- (tkV x).length=i*4+j by show(i+1)*4+j- 4=_;omega]
    exact za4 l i (by simpa using hi) j hj
def z0c{p:Pub} {a:Option Addr} {n c:Nat} {l:List Tk} (h:qh1 p a n c (z1c l)) {i:Nat} (hi:i<l.length):a≠noA/\q39 p (adr a (i*4)) (tkV l[i]):=by
 rcases h.2 with⟨h,_⟩|⟨x,rfl,h1,h2⟩
 ·have:=congrArg List.length h
  rw[z0p,List.length_nil]at this;omega
 ·refine⟨by simp,λj v hj=> ?_⟩
  have hj4:j<4:=(List.getElem?_eq_some_iff.mp hj).1
  show q5o p ((x.add (i*4)).add j)=some v
  rw[zgj x h1]
  exact h2 _ v (by rw[za4 l i hi j hj4];exact hj)
section
variable (x0 x1:SV) (x2 x3:List Tk) (x4:Int) (x5:Nat->Option Obj) (x6:Prop) (x7:Int) (x8:ByteArray) (x9 x10:Int)
 abbrev zhu:=x0.2.1=length x2/\qh1 x5 x0.1 x0.2.1 x0.2.2 (z1c x2)
 def zaf:=True/\(zhu x0 x2 x5)/\zhu x1 x3 x5
 abbrev zag:=(↑x0.2.1:Int)
 def zfr:=x0.1=x0.1/\x0.2.1=x0.2.1/\x0.2.2=x0.2.2/\x6
 abbrev zhv:=q39 x5 (adr x0.1 (toNat x4*4)) [int i64 x7,string x8,int u64 x9,int i64 x10]
 def zlk:=Jb (x4+1)/\zfr x0 (zfr x1 (x4+1=x4+1/\(∀i0,zaf x0 x1 x2 x3 i0->zaf x0 x1 x2 x3 i0)/\(0<=x4+1/\x4+1<=(↑(length x2):Int)/\take (toNat (x4+1)) x2=take (toNat (x4+1)) x3)/\length x2- toNat (x4+1)<length x2- toNat x4/\True))
 def zlj:=(0<=x4/\x4<(zag x0))/\x0.1≠noA/\∃(i0:Int),∃i1,∃(i2:Int),∃(i3:Int),(∀i4,zaf x0 x1 x2 x3 i4->zhv x0 x4 i4 i0 i1 i2 i3)/\(0<=x4/\x4<(zag x1))/\x1.1≠noA/\∃(i5:Int),∃i6,∃(i7:Int),∃(i8:Int),(∀i9,zaf x0 x1 x2 x3 i9->zhv x1 x4 i9 i5 i6 i7 i8)/\((!qed [decide (i0=i5),decide (i1=i6),decide (i2=i7),decide (i3=i8)])=true->Jf (x2=x3)/\True)/\((!qed [decide (i0=i5),decide (i1=i6),decide (i2=i7),decide (i3=i8)])=false->zlk x0 x1 x2 x3 x4)
 def zli:=Ji (x4<(zag x0)) (zlj x0 x1 x2 x3 x4) (Jt (x2=x3)/\True)
 def zlh:=(zfr x0 (zfr x1 ((0:Int)=0/\(∀i0,zaf x0 x1 x2 x3 i0->zaf x0 x1 x2 x3 i0)/\((0:Int)<=0/\0<=(↑(length x2):Int)/\take 0 x2=take 0 x3)/\True)))/\∀(i1:Int),0<=i1/\i1<=(↑(length x2):Int)/\take (toNat i1) x2=take (toNat i1) x3->zli x0 x1 x2 x3 i1
 def zlg:=((!decide ((zag x0)=(zag x1)))=true->Jf (x2=x3)/\True)/\((!decide ((zag x0)=(zag x1)))=false->zlh x0 x1 x2 x3)
end
def z84(l m:List Tk) (a b:SV):qjz P (λ_=>none) Try.f12 z7n (zdn) ⟨l,m,a,b⟩=(length l<100000/\length m<100000->(∃(p:Pub),zaf a b l m p)->zlg a b l m):=by kernel_rfl
def zb3:=λl m a b=>Eq.trans (z84 l m a b) (by delta Ji Jb Jt Jf zhu zaf zag zfr zhv zlk zlj zli zlh zlg;exact rfl)
def zb4:q7a P 12 z7n:=by
 refine qk0 mixed z08 (W:=zdn) Try.func12 (by kernel_rfl) (by decide) (by decide) (λs=>by kernel_rfl) λ⟨l,m,(a:SV),(b:SV)⟩=>(zb3 l m a b).mpr ?_
 intro h3 hp
 obtain⟨a,n,c⟩:=a
 obtain⟨b,k,d⟩:=b
 simp only[decide_eq_true_eq,decide_eq_false_iff_not,and_true,true_and,Int.toNat_natCast,Int.add_zero,Bool.not_eq_true',Bool.not_eq_false']at hp⊢
 obtain⟨p,⟨rfl,ha⟩,rfl,hb⟩:=hp
 refine⟨λh e=>h (by rw[e]),λh0=>⟨⟨λp h=>h,by omega,by omega,rfl⟩,?_⟩⟩
 rintro s ⟨s1,s2,s3⟩
 obtain⟨i,rfl⟩:=Int.eq_ofNat_of_zero_le s1
 simp only[Int.toNat_natCast,tn1]at s3⊢
 have hlen:l.length=m.length:=by omega
 refine⟨λg=> ?_,λg=> ?_⟩
 ·have hl:i<l.length:=by omega
  have hm:i<m.length:=by omega
  refine⟨by omega,(z0c ha hl).1,(l[i].1:Nat),l[i].2.1,(l[i].2.2.1:Nat),(l[i].2.2.2:Nat),λp h=>(z0c h.1.2 hl).2,by omega,(z0c hb hm).1,(m[i].1:Nat),m[i].2.1,(m[i].2.2.1:Nat),(m[i].2.2.2:Nat),λp h=>(z0c h.2.2 hm).2,?_⟩
  have key:qed [decide (((l[i].1:Nat):Int)=(m[i].1:Nat)),decide (l[i].2.1=m[i].2.1),decide (((l[i].2.2.1:Nat):Int)=(m[i].2.2.1:Nat)),decide (((l[i].2.2.2:Nat):Int)=(m[i].2.2.2:Nat))]=decide (l[i]=m[i]):=by
   rw[Bool.eq_iff_iff]
   simp only[qed,Bool.and_eq_true,decide_eq_true_eq,Int.natCast_inj,Prod.ext_iff]
  rw[key]
  simp only[decide_eq_true_eq,decide_eq_false_iff_not]
  refine⟨λe hlm=>e (by subst hlm;rfl),λe=>⟨by omega,λp h=>h,⟨by omega,by omega,?_⟩,by omega⟩⟩
  rw[List.take_add_one,List.take_add_one,s3,List.getElem?_eq_getElem hl,List.getElem?_eq_getElem hm,e]
 ·have e1:i=l.length:=by omega
  rw[List.take_of_length_le (by omega),List.take_of_length_le (by omega)]at s3
  exact s3
def z5a:Ct:=ctS Unit (λ_=>[]) (λ_=>some ()) (λ_=>True) (λ_=>hG) λ_=> .sv (.bool true)
def zd8:Nat->Option Ct:=qfl [(10,zc8)]
def z5s(s:ByteArray):∀(f i:Nat) (acc:List Tk),(lxF s f i acc).1.length<=acc.length+f
  |0,i,acc=>by rw[lxF];simp
  | f + 1,i,acc=>by
    rw[lxF]
    split
    · simp
    · split
      · simp
      · split
        · simp
        · have:=z5s s f (wdR s (spR s i).2).2.2 (acc++[(wdR s (spR s i).2).2.1])
          simp at this
          omega
def zax(s:ByteArray):(lxR s).1.length<=s.size+1:=by
 unfold lxR
 split
 ·simp
 ·have:=z5s s (s.size+1- 0) 0 []
  rw[List.length_nil,Nat.zero_add]at this
  exact this
def zmf:lxR (mkS [97,46,98,32,61,32,48,120,49,70])=([(1,mkS [97,46,98],0,0),(4,mkS [61],0,4),(2,mkS [],31,6),(5,mkS [],0,10)],0,0):=by decide+kernel
def zmg:lxR (mkS [97,32,63])=([],2,2):=by decide+kernel
def z5d{p:Pub} {x:Addr} {vs:List Value} (h:q39 p x vs) (hs:x.spot=none) (k:Nat) {v:Value} (hv:vs[k]? =some v):q39 p (x.add k) [v]:=λj u hj=>by
  cases j with
  | zero=>
    simp at hj;subst hj
    rw[zgj x hs]
    exact h k v hv
  |succ j=>simp at hj
def z2c{p:Pub} {a:Option Addr} {n c:Nat} {l:List Tk} (h:qh1 p a n c (z1c l)) {i:Nat} (hi:i<l.length) (k:Nat) {v:Value} (hv:(tkV l[i])[k]? =some v):q39 p ((adr a (i*4)).add k) [v]:=by
 obtain⟨h1,h2⟩:=z0c h hi
 rcases h.2 with⟨g,_⟩|⟨x,rfl,g1,g2⟩
 ·have:=congrArg List.length g
  rw[z0p,List.length_nil]at this;omega
 ·refine z5d h2 ?_ k hv
  show(x.add (i*4)).spot=none
  unfold Addr.add;split
  ·exact g1
  ·rfl
section
variable (x0:Nat) (x1:Option Addr) (x2 x3:Nat) (x4:Option Addr) (x5:Nat) (x6:Nat->Option Obj) (x7:Int) (x8:Prop)
 abbrev z50:=∃(i0:Int),q5o x6 (Addr.mk 0 0 none)=some (int i64 i0)
 abbrev zfu:=mkS [97,46,98,32,61,32,48,120,49,70]
 def zgh:=(True/\z50 x6)/\x0=length (lxR (zfu)).1/\qh1 x6 x1 x0 x2 (z1c (lxR (zfu)).1)
 abbrev z51:=mkS [97,32,63]
 def zfv:=(zgh x0 x1 x2 x6)/\x3=length (lxR (z51)).1/\qh1 x6 x4 x3 x5 (z1c (lxR (z51)).1)
 def z9g:=(0<=x7/\x7<(↑x0:Int))/\x1≠noA/\x8
 def zft:=true=decide ((↑(lxR (z51)).2.2:Int)=2)/\True
 def zfs:=Ji ((↑(lxR (z51)).2.1:Int)=2) (zft) (true=false/\True)
 def zlr:=z9g x0 x1 3 (∃(i0:Int),(∀i1,zfv x0 x1 x2 x3 x4 x5 i1->q39 i1 (Addr.add (adr x1 ((3:Nat)*4)) 0) [int i64 i0])/\Ji (i0=5) (zfs) (true=false/\True))
 def zlq:=z9g x0 x1 2 (∃(i0:Int),(∀i1,zfv x0 x1 x2 x3 x4 x5 i1->q39 i1 (Addr.add (adr x1 ((2:Nat)*4)) 2) [int u64 i0])/\Ji (i0=31) (zlr x0 x1 x2 x3 x4 x5) (true=false/\True))
 def zlp:=z9g x0 x1 0 (∃i0,(∀i1,zfv x0 x1 x2 x3 x4 x5 i1->q39 i1 (Addr.add (adr x1 ((0:Nat)*4)) 1) [string i0])/\Ji (i0=mkS [97,46,98]) (zlq x0 x1 x2 x3 x4 x5) (true=false/\True))
 def zlo:=Ji ((↑x0:Int)=4) (zlp x0 x1 x2 x3 x4 x5) (true=false/\True)
 def zln:=Ji ((↑(lxR (zfu)).2.1:Int)=0) (zlo x0 x1 x2 x3 x4 x5) (true=false/\True)
 def zlm:=mkS [97,32,63]=mkS [97,32,63]/\size (z51)<100000/\(∀i0,zgh x0 x1 x2 i0->z50 i0)/\∀(i3:Unit),True->∀(i4:Option Addr) (i5 i6:Nat),(∃i7,zfv x0 x1 x2 i5 i4 i6 i7)->zln x0 x1 x2 i5 i4 i6
 def zll:=mkS [97,46,98,32,61,32,48,120,49,70]=mkS [97,46,98,32,61,32,48,120,49,70]/\size (zfu)<100000/\(∀i0,(True/\z50 i0)->z50 i0)/\∀(i3:Unit),True->∀(i4:Option Addr) (i5 i6:Nat),(∃i7,zgh i5 i4 i6 i7)->zlm i5 i4 i6
end
def z57(u:Unit):qjz P (zd8) Try.f9 z5a (λ_=>{}) u=(True->(∃(p:Pub),True/\z50 p)->zll):=by kernel_rfl
def z7i:=λu=>Eq.trans (z57 u) (by delta Ji Jt Jf z50 zfu zgh z51 zfv z9g zft zfs zlr zlq zlp zlo zln zlm zll;exact rfl)
def z7j:q7a P 9 z5a:=by
 refine qk0 mixed (qda (qgx z9u qjn)) (W:=λ_=>{}) Try.func9 (by kernel_rfl) (by decide) (by decide) (λs=>by kernel_rfl) λ(u:Unit)=>(z7i u).mpr ?_
 intro _ hp
 rw[zmf,zmg]
 refine⟨rfl,by decide,λp h=>h.2,λ_ _ a n c hq=>⟨rfl,by decide,λp h=>h.1.2,λ_ _ b m d hr=> ?_⟩⟩
 obtain⟨p,_,hn,hs⟩:=hq
 simp only[List.length_cons,List.length_nil]at hn
 subst hn
 refine⟨λ_=>⟨λ_=>⟨⟨by decide,by decide⟩,(z0c hs (i:=0) (by decide)).1,mkS [97,46,98],λp h=>z2c h.1.2.2 (i:=0) (by decide) 1 rfl,λ_=>⟨⟨by decide,by decide⟩,(z0c hs (i:=0) (by decide)).1,31,λp h=>z2c h.1.2.2 (i:=2) (by decide) 2 rfl,λ_=>⟨⟨by decide,by decide⟩,(z0c hs (i:=0) (by decide)).1,5,λp h=>z2c h.1.2.2 (i:=3) (by decide) 0 rfl,λ_=>⟨λ_=>⟨by decide,trivial⟩,λh=>absurd h (by decide)⟩,λh=>absurd h (by decide)⟩,λh=>absurd h (by decide)⟩,λh=>absurd h (by decide+kernel)⟩,λh=>absurd h (by decide)⟩,λh=>absurd h (by decide)⟩
section
def zcu{f:Nat} {C:Ct} (h:q7a P f C) (s:C.σ) (vs:List Value) (ha:C.args s=vs.map .sv) (hh:C.h s=[]) (r:Value) (hr:C.r s= .sv r) (w:World) (hp:C.pre s) (hm:(C.mem s).ok (q11 (λ_ b=>b<w.heap.size) w)):
  Calls P f ⟨vs⟩ w λe w'=>e= .returned r/\Below w.heap.size w w':=by
 obtain⟨h1,h2,_,h4⟩:=h
 obtain⟨h0,h1',e1,e2,h5⟩:=h4 s
 rw[hh]at e1
 cases e1
 refine(h5 (λ_ b=>b<w.heap.size) (λi=>if i=0 then some (0,0,0)else none) w vs (by rw[ha];exact VRs.svs vs) ⟨λid o b t h=> ?_,λid id' o o' b t t' h=> ?_,λid o b t h=> ?_⟩ (λ_ h=>h) (λ_ h=>h) hp hm (λi hi=>if_neg (by omega)) (if_pos rfl)).mono λe w' he=> ?_
 ·rw[T.get_e]at h;cases h
 ·rw[T.get_e]at h;cases h
 ·rw[T.get_e]at h;cases h
 obtain⟨z,I',rfl,hz,hg,_⟩:=he
 rw[hr]at hz
 cases hz
 exact⟨rfl,⟨hg.same.1,hg.same.2,hg.same.3,hg.size,λk hk=>hg.fr k hk⟩⟩
def Laid(w:World):Prop:=∃m e fr,w.heap[0]? =some (.cells #[.int .i64 m] e fr)
variable {w:World}
def z7u{P:Program} {g:Nat} {t:TypeId} {zero:Array Value} {k:IntKind}
  (h:w.ShapedOpen P) (hg:g<P.globals.size)
  (h0:((begin P (λ_ _=>0) default).world.heap[g]?).bind Obj.row? =some (zero,t)) (hz:zero.size=1)
  (hb:P.buildable t=true) (hc:P.cellTypes P.depth t=some [t]) (hu:P.underlying t=some (.int k)):
  ∃m e fr,w.heap[g]? =some (.cells #[.int k m] e fr):=by
 obtain⟨cs,hh,hs,hr⟩:=h.1 g zero t hg h0
 obtain⟨ts,hts,_,hall⟩:=hr hb
 rw[hc]at hts
 cases hts
 have h1:cs.size=1:=by omega
 obtain⟨u,hu',hok⟩:=hall 0 cs[0] (by simp[h1])
 have:u=t:=by simpa using hu'.symm
 subst this
 unfold Cell.ok at hok
 rw[hu]at hok
 have hcs:cs= #[cs[0]]:=by
  apply Array.ext
  ·simp[h1]
  ·intro i h2 h3
   have:i=0:=by omega
   subst this;simp
 cases hv:cs[0]<;>rw[hv]at hok<;>simp at hok
 case int k' n=>
  rw[hcs,hv,hok.1]at hh
  exact⟨n,_,_,hh⟩
def laid_of(h:w.ShapedOpen P):Laid w:=
 z7u (t:=3) (zero:= #[.int .i64 0]) (k:= .i64) h (by decide+kernel) (by kernel_rfl) (by rfl) (by kernel_rfl) (by kernel_rfl) Try.underlying3
def zgq(h:Laid w):hG.ok (q11 (λ_ b=>b<w.heap.size) w):=by
 obtain⟨m,e,fr,hw⟩:=h
 refine⟨m,?_⟩
 have hp:q11 (λ_ b=>b<w.heap.size) w 0=some (.cells #[.int .i64 m] e fr):=q02.mpr ⟨(Array.getElem?_eq_some_iff.mp hw).1,hw⟩
 unfold q5o
 simp only[hp];rfl
end
abbrev Pc:=List Nat×List Nat
def flat:List Pc->List Nat
 | []=>[]
 |x::l=>x.1++(x.2++flat l)
abbrev svA(x:SV):AV:= .sv (.slice x.1 x.2.1 x.2.2)
def z4n:List Int->List Value
 | []=>[]
 |b::l=> .int .u8 b::z4n l
def byP(x:SV) (L:List Int) (p:Pub):Prop:=x.2.1=L.length/\qh1 p x.1 x.2.1 x.2.2 (z4n L)
def byM(x:SV) (L:List Int):PF:=⟨true,byP x L,λ_ _ h e=>⟨e.1,q4p h e.2⟩⟩
def z11(L:List Int):Prop:=L.length<1000000/\∀b∈L,0<=b/\b<256
def z01(L:List Int) (n m:Int):Int:=if L.length<=n then 0 else Int.tmod (L.getD n.toNat 0) m
def z00(L:List Int) (n:Int):Int:=if L.length<=n then n else n+1
def pkO(x:SV) (n:Int):List (Nat×AO):=[(1, .cells 54 (some 0) false [svA x, .sv (.int .i64 n)])]
def zd4(h:T AO) (id:Nat):Option (SV×Int):=match h.get id with
  | some (.cells _ _ _ [a,i])=>match a with
    | .sv (.slice a n c)=>match gi i with
      |some (_,i)=>some ((a,n,c),i)
      |none=>none
    |_=>none
  |_=>none
def z5z(l:List AV) (h:T AO):Option (Sel (SV×List Int×Int×Int)):=match l with
  | [.ptr id _,m]=>match zd4 h id with
    | some (x,n)=>match gi m with
      |some (_,m)=>some ⟨List Int,λL=>(x,L,n,m)⟩
      |none=>none
    |none=>none
  | [.ptr id _,m,_]=>match zd4 h id with
    | some (x,n)=>match gi m with
      |some (_,m)=>some ⟨List Int,λL=>(x,L,n,m)⟩
      |none=>none
    |none=>none
  |_=>none
def zi3(l:List AV) (h:T AO):Option (Sel (SV×List Int×Int)):=match l with
  | [.ptr id _]=>match zd4 h id with
    |some (x,n)=>some ⟨List Int,λL=>(x,L,n)⟩
    |none=>none
  | [.ptr id _,_]=>match zd4 h id with
    |some (x,n)=>some ⟨List Int,λL=>(x,L,n)⟩
    |none=>none
  |_=>none
def z04(L:List Int) (n:Int):Prop:=0<=n/\n<=L.length/\z11 L
def zcm:Ct where
 σ:=SV×List Int×Int×Int
 args:=λ⟨x,L,n,m⟩=>[.ptr 1 0, .sv (.int .i64 m)]
 h:=λ⟨x,L,n,m⟩=>pkO x n
 m:=2
 pre:=λ⟨x,L,n,m⟩=>z04 L n/\0<m/\m<1000000
 mem:=λ⟨x,L,n,m⟩=>byM x L
 sel:=some z5z
 r:=λ⟨x,L,n,m⟩=> .sv (.int .i64 (z01 L n m))
 h':=λ⟨x,L,n,m⟩=>pkO x (z00 L n)
 m':=2
 g:=λ_=>none
def kws:List (List Nat):=[[105,110,116,51,50],[115,116,114,105,110,103],[105,110,116,54,52],[98,111,111,108],[98,121,116,101,115],[117,105,110,116,51,50],[117,105,110,116,54,52],[115,105,110,116,51,50],[115,105,110,116,54,52],[102,105,120,101,100,51,50],[102,105,120,101,100,54,52],[115,102,105,120,101,100,51,50],[115,102,105,120,101,100,54,52],[100,111,117,98,108,101],[102,108,111,97,116],[69],[73],[77]]
def kwL(i:Int):List Nat:=kws.getD i.toNat []
def cKw:Ct where
 σ:=SV×List Int×Int
 args:=λ⟨x,L,n⟩=>[.ptr 1 0]
 h:=λ⟨x,L,n⟩=>pkO x n
 m:=2
 pre:=λ⟨x,L,n⟩=>z04 L n
 mem:=λ⟨x,L,n⟩=>byM x L
 sel:=some zi3
 r:=λ⟨x,L,n⟩=> .sv (.string (mkS (kwL (z01 L n 18))))
 h':=λ⟨x,L,n⟩=>pkO x (z00 L n)
 m':=2
 g:=λ_=>none
def z0j(v:Nat):List Nat:=if v<10 then [48+v]else if v<100 then [48+v / 10,48+v % 10]else [48+v / 100,48+v / 10 % 10,48+v % 10]
def z3q:Ct:=ctS Int (λv=>[.int .u64 v]) f1i (λv=>0<=v/\v<1000) (λ_=>{}) λv=> .sv (.string (mkS (z0j v.toNat)))
def za6:z3q.σ->WayF:=λv0=>{ann:=λ_ _ _=>some {σ:=ByteArray×Int,pre:=λ⟨s,v⟩=>∃acc:List Nat,s=mkS acc/\0<=v/\v<1000/\z0j v.toNat++acc=z0j v0.toNat,find:=some λt _=>match slS t 3 with|some s=>(match slI t 0 with|some v=>some (s,v)|none=>none)|none=>none,t:=λ⟨s,v⟩=>[(3, .sv (.string s)),(0, .sv (.int .u64 v))],h:=λ_=>[],more:=0,μ:=λ⟨s,v⟩=>v.toNat,keep:=[]}}
def z7o:Ct:=ctS Int (λv=>[.int .i64 v]) f1i (λv=>0<=v/\v<1000) (λ_=>{}) λv=> .sv (.string (mkS (z0j v.toNat)))
def nmP(num:Int):Pc:=(102::z0j num.toNat,[32])
def eqP:Pc:=([61],[32])
def seP:Pc:=([59],[10])
def z7z(t:List Nat) (i:Int):List Pc:=if t=[115,116,114,105,110,103]\/t=[98,121,116,101,115]\/t=[73]\/t=[77]then []else if i=2 then [([91],[]),([112,97,99,107,101,100],[32]),([61],[32]),([102,97,108,115,101],[]),([93],[])]else if i=3 then [([91],[]),([112,97,99,107,101,100],[32]),([61],[32]),([116,114,117,101],[]),([93],[])]else []
def z4s(num:Int) (pk:List Pc):List Pc:=nmP num::eqP::(z0j num.toNat,if pk=[]then []else [32])::(pk++[seP])
def keys:List (List Nat):=[[115,116,114,105,110,103],[105,110,116,51,50],[98,111,111,108],[117,105,110,116,54,52],[115,105,110,116,51,50],[102,105,120,101,100,51,50]]
def zca(i:Int):List Nat:=keys.getD i.toNat []
def fdP(t:List Nat) (L:List Int) (n num:Int):List Pc:=
 if z01 L n 8=0 then([111,112,116,105,111,110,97,108],[32])::(t,[32])::z4s num []else
 if z01 L n 8=1\/z01 L n 8=2 then([114,101,112,101,97,116,101,100],[32])::(t,[32])::z4s num (z7z t (z01 L (z00 L n) 4))else
 if z01 L n 8=3 then([109,97,112],[])::([60],[])::(zca (z01 L (z00 L n) 6),[])::([44],[32])::(t,[])::([62],[32])::z4s num []else
 (t,[32])::z4s num []
def fdN(L:List Int) (n:Int):Int:=if z01 L n 8=0 then z00 L n else if z01 L n 8=1\/z01 L n 8=2 then z00 L (z00 L n)else if z01 L n 8=3 then z00 L (z00 L n)else z00 L n
def z1j(t:List Nat) (i:Int):List Nat:=if t=[115,116,114,105,110,103]\/t=[98,121,116,101,115]\/t=[73]\/t=[77]then []else if i=2 then [32,91,112,97,99,107,101,100,32,61,32,102,97,108,115,101,93]else if i=3 then [32,91,112,97,99,107,101,100,32,61,32,116,114,117,101,93]else []
def zc9(i:Int):Bool:=decide (i=1\/i=2)
def cFd:Ct where
 σ:=SV×List Int×Int×Int
 args:=λ⟨x,L,n,m⟩=>[.ptr 1 0, .sv (.int .i64 m), .bool false]
 h:=λ⟨x,L,n,m⟩=>pkO x n
 m:=2
 pre:=λ⟨x,L,n,m⟩=>z04 L n/\0<=m/\m<1000
 mem:=λ⟨x,L,n,m⟩=>byM x L
 sel:=some z5z
 r:=λ⟨x,L,n,m⟩=> .sv (.string (mkS (flat (fdP (kwL (z01 L n 18)) L (z00 L n) m))))
 h':=λ⟨x,L,n,m⟩=>pkO x (fdN L (z00 L n))
 m':=2
 g:=λ_=>none
def wFd:cFd.σ->WayF:=λ⟨x,L,n,m⟩=>{cut:=λr _ _=>match r with
 |11=>some {σ:=Unit,find:=some λ_ _=>some (),t:=λ_=>[(35, .sv (.bool (zc9 (z01 L (z00 L n) 8))))],h:=λ_=>[],more:=0,μ:=λ_=>0,keep:=[0,2,7,8,9,24]}
 |14=>some {σ:=Unit,find:=some λ_ _=>some (),t:=λ_=>[(10, .sv (.string (mkS (z1j (kwL (z01 L n 18)) (z01 L (z00 L (z00 L n)) 4)))))],h:=λ_=>[],more:=0,μ:=λ_=>0,keep:=[0,7,8,9]}
 |_=>none}
def qk6(t:List Nat) (num:Int):List Pc:=[(t,[32]),(111::z0j (num+100).toNat,[32]),eqP,(z0j (num+100).toNat,[]),seP]
def z0s(L:List Int) (n i:Int):Int:=i+1+14*z01 L n 2*i
def bdF(L:List Int):Nat->Int->Int->List Pc->List Pc->List Pc×List Pc×Int
  |0,i,n,s,o=>(s,o,n)
  | f+1,i,n,s,o=>
    if z01 L (z00 L n) 4=0 then bdF L f (i+1) (z00 L (z00 L (z00 L n))) s (o++qk6 (kwL (z01 L (z00 L (z00 L n)) 18)) (z0s L n i))
    else bdF L f (i+1) (fdN L (z00 L (z00 L (z00 L n)))) (s++fdP (kwL (z01 L (z00 L (z00 L n)) 18)) L (z00 L (z00 L (z00 L n))) (z0s L n i)) o
def bdS(L:List Int) (n m:Int):List Pc×List Pc×Int:=bdF L (z01 L n (m+1)).toNat 0 (z00 L n) [] []
def bdJ(s o:List Pc):List Pc:=if flat o=[]then s else s++([([111,110,101,111,102],[32]),([99],[32]),([123],[10])]++(o++[([125],[10])]))
def bdP(L:List Int) (n m:Int):List Pc:=bdJ (bdS L n m).1 (bdS L n m).2.1
def bdN(L:List Int) (n m:Int):Int:=(bdS L n m).2.2
def cBd:Ct where
 σ:=SV×List Int×Int×Int
 args:=λ⟨x,L,n,m⟩=>[.ptr 1 0, .sv (.int .i64 m), .bool false]
 h:=λ⟨x,L,n,m⟩=>pkO x n
 m:=2
 pre:=λ⟨x,L,n,m⟩=>z04 L n/\0<=m/\m<10
 mem:=λ⟨x,L,n,m⟩=>byM x L
 sel:=some z5z
 r:=λ⟨x,L,n,m⟩=> .sv (.string (mkS (flat (bdP L n m))))
 h':=λ⟨x,L,n,m⟩=>pkO x (bdN L n m)
 m':=2
 g:=λ_=>none
def zch(t:T AV) (h:T AO):Option (ByteArray×ByteArray×Int×Int):=match slS t 7 with
  | some s=>match slS t 8 with
    | some o=>match slI t 9 with
      | some i=>match zd4 h 1 with
        |some (_,n)=>some (s,o,i,n)
        |none=>none
      |none=>none
    |none=>none
  |none=>none
def wBd:cBd.σ->WayF:=λ⟨x,L,n0,m⟩=>{ann:=λ_ _ _=>some {σ:=ByteArray×ByteArray×Int×Int,pre:=λ⟨s,o,i,n⟩=>∃sl ol:List Pc,s=mkS (flat sl)/\o=mkS (flat ol)/\0<=i/\i<=z01 L n0 (m+1)/\z04 L n/\((flat sl).length:Int)+(flat ol).length<=100*i/\bdF L (z01 L n0 (m+1)- i).toNat i n sl ol=bdS L n0 m,find:=some zch,t:=λ⟨s,o,i,n⟩=>[(7, .sv (.string s)),(8, .sv (.string o)),(9, .sv (.int .i64 i))],h:=λ⟨s,o,i,n⟩=>pkO x n,more:=0,μ:=λ⟨s,o,i,n⟩=>(z01 L n0 (m+1)- i).toNat,keep:=[0,2,10]}}
def hdP:List Pc:=[([115,121,110,116,97,120],[32]),([61],[32]),([34,112,114,111,116,111,51,34],[]),([59],[10]),([112,97,99,107,97,103,101],[32]),([97],[]),([59],[10]),([101,110,117,109],[32]),([69],[32]),([123],[32]),([65],[32]),([61],[32]),([48],[]),([59],[32]),([66],[32]),([61],[32]),([49],[]),([59],[32]),([67],[32]),([61],[32]),([45],[]),([49],[]),([59],[32]),([125],[10]),([109,101,115,115,97,103,101],[32]),([73],[32]),([123],[10])]
def miP:List Pc:=[([125],[10]),([109,101,115,115,97,103,101],[32]),([77],[32]),([123],[10])]
def z1g(L:List Int) (n:Int):List Pc:=hdP++(bdP L n 4++(miP++(bdP L (bdN L n 4) 7++[([125],[10])])))
def cTx:Ct where
 σ:=SV×List Int×Int
 args:=λ⟨x,L,n⟩=>[.ptr 1 0, .bool false]
 h:=λ⟨x,L,n⟩=>pkO x n
 m:=2
 pre:=λ⟨x,L,n⟩=>z04 L n
 mem:=λ⟨x,L,n⟩=>byM x L
 sel:=some zi3
 r:=λ⟨x,L,n⟩=> .sv (.string (mkS (flat (z1g L n))))
 h':=λ⟨x,L,n⟩=>pkO x (bdN L (bdN L n 4) 7)
 m':=2
 g:=λ_=>none
def zaj:Ct where
 σ:=SV
 args:=λx=>[svA x]
 h:=λ_=>[]
 m:=1
 r:=λ_=> .ptr 1 0
 h':=λx=>pkO x 0
 m':=2
 g:=λ_=>none
def lwM(x:SV) (L:List Int):PF:=⟨true,λp=>byP x L p/\hG.ok p,λ_ _ h e=>⟨⟨e.1.1,q4p h e.1.2⟩,PF.ok_mono h e.2⟩⟩
def cWM:Ct where
 σ:=SV×List Int×Int×Int
 args:=λ⟨x,L,a,b⟩=>[svA x, .sv (.int .u16 a), .sv (.int .u8 b)]
 h:=λ_=>[]
 m:=1
 pre:=λ⟨x,L,a,b⟩=>L.length<9223372036854775808/\(∀b∈L,0<=b/\b<256)/\(0<=a/\a<65536)/\0<=b/\b<256
 mem:=λ⟨x,L,a,b⟩=>lwM x L
 r:=λ_=> .sv (.bool true)
 h':=λ_=>[]
 m':=1
 g:=λ_=>none
def tWM:Nat->Option Ct:=qfl [(9,z5a),(13,zaj),(14,cTx),(10,zc8),(11,z7l),(12,z7n)]
def zgw:Nat->Option Ct:=qfl [(37,zcm)]
def zgx:Nat->Option Ct:=qfl [(50,z3q)]
def tFd:Nat->Option Ct:=qfl [(37,zcm),(38,cKw),(40,z7o)]
def tBd:Nat->Option Ct:=qfl [(37,zcm),(38,cKw),(40,z7o),(41,cFd)]
def tTx:Nat->Option Ct:=qfl [(19,cBd)]
section
variable (x0:SV) (x1:Int) (x2:List Int) (x3:Int) (x4:Prop)
 abbrev zhw:=x0.1=x0.1/\x0.2.1=x0.2.1/\x0.2.2=x0.2.2/\x4
 def zlu:=z01 x2 x1 x3=0/\zhw x0 (z00 x2 x1=x1/\True)
 def zlt:=Jb (x1+1)/\Jb (x1+1- 1)/\(0<=x1+1- 1/\x1+1- 1<(↑x0.2.1:Int))/\x0.1≠noA/\∃(i0:Int),(∀i1,True/\byP x0 x2 i1->q39 i1 (adr x0.1 (toNat (x1+1- 1)*1)) [int u8 i0])/\Jb (i0)/\x3≠0/\z01 x2 x1 x3=Int.tmod i0 x3/\zhw x0 (z00 x2 x1=x1+1/\True)
 def zls:=Ji ((↑x0.2.1:Int)<=x1) (zlu x0 x1 x2 x3) (zlt x0 x1 x2 x3)
end
def zb2(x:SV) (L:List Int) (n m:Int):qjz P (λ_=>none) Try.f37 zcm (λ_=>{}) ⟨x,L,n,m⟩=(z04 L n/\0<m/\m<1000000->(∃(p:Pub),True/\byP x L p)->zls x n L m):=by kernel_rfl
def zd3:=λx L n m=>Eq.trans (zb2 x L n m) (by delta Ji Jb Jt Jf zhw zlu zlt zls;exact rfl)
section
variable (x0:SV) (x1:Prop)
 def zhx:=x0.1=x0.1/\x0.2.1=x0.2.1/\x0.2.2=x0.2.2/\x1
end
def zcs(x:SV) (L:List Int) (n:Int):qjz P (zgw) Try.f38 cKw (λ_=>{}) ⟨x,L,n⟩=(z04 L n->(∃(p:Pub),True/\byP x L p)->∃(b:List Int),Int.ofNat (18:Nat)=Int.ofNat 18/\zhx x (n=n/\(z04 b n/\0<Int.ofNat 18/\Int.ofNat (18:Nat)<1000000)/\(∀(p:Pub),True/\byP x L p->byP (x.1,x.2.1,x.2.2) b p)/\(0<=z01 b n (Int.ofNat 18)/\z01 b n (Int.ofNat 18)<(↑(nat_lit 18):Int))/\∃(s:ByteArray),(∀(j:Nat) (v:Value),[string s][j]? =some v->[string (mkS [105,110,116,51,50]),string (mkS [115,116,114,105,110,103]),string (mkS [105,110,116,54,52]),string (mkS [98,111,111,108]),string (mkS [98,121,116,101,115]),string (mkS [117,105,110,116,51,50]),string (mkS [117,105,110,116,54,52]),string (mkS [115,105,110,116,51,50]),string (mkS [115,105,110,116,54,52]),string (mkS [102,105,120,101,100,51,50]),string (mkS [102,105,120,101,100,54,52]),string (mkS [115,102,105,120,101,100,51,50]),string (mkS [115,102,105,120,101,100,54,52]),string (mkS [100,111,117,98,108,101]),string (mkS [102,108,111,97,116]),string (mkS [69]),string (mkS [73]),string (mkS [77])][nat_lit 0+toNat (z01 b n (Int.ofNat 18))*1+j]? =some v)/\mkS (kwL (z01 L n 18))=s/\zhx x (z00 L n=z00 b n/\True))):=by kernel_rfl
def zgs:=λx L n=>Eq.trans (zcs x L n) (by delta zhx;exact rfl)
def z80(v:Int):qjz P (λ_=>none) Try.f50 z3q (za6) v=((0:Int)<=v/\v<(1000:Int)->(v=v/\mkS []=mkS []/\(∃(acc:List Nat),mkS []=mkS acc/\(0:Int)<=v/\v<(1000:Int)/\z0j (toNat v)++acc=z0j (toNat v))/\True)/\∀(s:ByteArray×Int),(∃(acc:List Nat),Prod.fst s=mkS acc/\(0:Int)<=Prod.snd s/\Prod.snd s<(1000:Int)/\z0j (toNat (Prod.snd s))++acc=z0j (toNat v))->(10:Int)≠(0:Int)/\∃(s_1:ByteArray),size s_1=(1:Nat)/\qgs [int u8 (IntKind.wrap u8 (IntKind.wrap u64 ((48:Int)+Int.tmod s.2 (10:Int))))] (0:Nat) (q16 s_1)/\size s_1+size s.1<=(9223372036854775807:Nat)/\(10:Int)≠(0:Int)/\(decide (IntKind.wrap u64 (Int.tdiv s.2 (10:Int))=(0:Int))=true->mkS (z0j (toNat v))=s_1++s.1/\True)/\(decide (IntKind.wrap u64 (Int.tdiv s.2 (10:Int))=(0:Int))=false->IntKind.wrap u64 (Int.tdiv s.2 (10:Int))=IntKind.wrap u64 (Int.tdiv s.2 (10:Int))/\s_1++s.1=s_1++s.1/\(∃(acc:List Nat),s_1++s.1=mkS acc/\(0:Int)<=IntKind.wrap u64 (Int.tdiv s.2 (10:Int))/\IntKind.wrap u64 (Int.tdiv s.2 (10:Int))<(1000:Int)/\z0j (toNat (IntKind.wrap u64 (Int.tdiv s.2 (10:Int))))++acc=z0j (toNat v))/\toNat (IntKind.wrap u64 (Int.tdiv s.2 (10:Int)))<toNat (Prod.snd s)/\True)):=by kernel_rfl
section
variable (x0:Int)
 abbrev zc4:=IntKind.wrap u64 ((0:Int)- (x0+1))+1
 def zlw:=Jb (x0+1)/\((-9223372036854775808:Int)<=0- (x0+1)/\(0:Int)- (x0+1)<=9223372036854775807)/\IntKind.wrap u64 (zc4 x0)=IntKind.wrap u64 (zc4 x0)/\(0<=IntKind.wrap u64 (zc4 x0)/\IntKind.wrap u64 (zc4 x0)<1000)/\size (mkS [45])+size (mkS (z0j (toNat (IntKind.wrap u64 (zc4 x0)))))<=9223372036854775807/\mkS (z0j (toNat x0))=mkS [45]++mkS (z0j (toNat (IntKind.wrap u64 (zc4 x0))))/\True
 def zlx:=IntKind.wrap u64 x0=IntKind.wrap u64 x0/\(0<=IntKind.wrap u64 x0/\IntKind.wrap u64 x0<1000)/\mkS (z0j (toNat x0))=mkS (z0j (toNat (IntKind.wrap u64 x0)))/\True
 def zlv:=Ji (x0<0) (zlw x0) (zlx x0)
end
def z8b(v:Int):qjz P (zgx) Try.f40 z7o (λ_=>{}) v=(0<=v/\v<1000->zlv v):=by kernel_rfl
def zb6:=λv=>Eq.trans (z8b v) (by delta Ji Jb Jt Jf zc4 zlw zlx zlv;exact rfl)
section
variable (x0 x1:List Int) (x2:Int) (x3:List Int) (x4:Int) (x5:SV) (x6:List Int) (x7:Int) (x8:ByteArray) (x9:Prop)
 abbrev z54:=x5.1=x5.1/\x5.2.1=x5.2.1/\x5.2.2=x5.2.2/\x9
 def z79:=(∀i0,True/\byP x5 x0 i0->byP (x5.1,x5.2.1,x5.2.2) x1 i0)
 def z9l:=0<x2/\x2<1000000
 abbrev z9k:=z01 x0 (z00 x1 x2) (8:Int)=x4
 abbrev z0k:=mkS [102]++mkS (z0j (toNat x2))
 abbrev z10:=mkS [32,61,32]++mkS (z0j (toNat x2))
 abbrev z7a:=flat (fdP (kwL (z01 x0 x2 18)) x0 (z00 x0 x2) x4)
 def zm2:=size (mkS [111,112,116,105,111,110,97,108,32])+size (mkS (kwL (z01 x0 x2 18)))<=9223372036854775807/\size (mkS [111,112,116,105,111,110,97,108,32]++mkS (kwL (z01 x0 x2 18)))+size (mkS [32])<=9223372036854775807/\size (mkS [111,112,116,105,111,110,97,108,32]++mkS (kwL (z01 x0 x2 18))++mkS [32])+size (z0k x4)<=9223372036854775807/\size (mkS [111,112,116,105,111,110,97,108,32]++mkS (kwL (z01 x0 x2 18))++mkS [32]++(z0k x4))+size (z10 x4)<=9223372036854775807/\size (mkS [111,112,116,105,111,110,97,108,32]++mkS (kwL (z01 x0 x2 18))++mkS [32]++(z0k x4)++(z10 x4))+size (mkS [59,10])<=9223372036854775807/\mkS (z7a x1 x2 x4)=mkS [111,112,116,105,111,110,97,108,32]++mkS (kwL (z01 x0 x2 18))++mkS [32]++(z0k x4)++(z10 x4)++mkS [59,10]/\z54 x5 (fdN x1 (z00 x1 x2)=z00 x3 (z00 x0 x2)/\True)
 def z9j:=mkS (kwL (z01 x0 x2 18))=mkS (kwL (z01 x0 x2 18))
 def z9h:=mkS [32,61,32]++mkS (z0j (toNat x2))=mkS [32,61,32]++mkS (z0j (toNat x2))/\mkS [102]++mkS (z0j (toNat x2))=mkS [102]++mkS (z0j (toNat x2))/\x9
 def z9i:=(∀i0,True/\byP x5 x0 i0->True/\byP x5 x0 i0)/\True/\True
 def zhy:=z9j x0 x2/\zc9 (z01 x1 (z00 x1 x2) 8)=decide (z01 x3 (z00 x0 x2) (8:Int)=x7)/\z9h x4 (z01 x3 (z00 x0 x2) (8:Int)=z01 x3 (z00 x0 x2) 8/\z54 x5 (z00 x3 (z00 x0 x2)=z00 x3 (z00 x0 x2)/\z9i x1 x5))
 abbrev zfz:=mkS (kwL (z01 x0 x2 18))=mkS [115,116,114,105,110,103]
 abbrev z52:=z1j (kwL (z01 x0 x2 18)) (z01 x0 (z00 x0 (z00 x0 x2)) 4)
 def zg1:=z9j x0 x2/\z9h x4 (mkS (z52 x1 x2)=mkS []/\z54 x5 (z00 x3 (z00 x6 (z00 x0 x2))=z00 x3 (z00 x6 (z00 x0 x2))/\z9i x1 x5))
 abbrev zg0:=mkS (kwL (z01 x0 x2 18))=mkS [98,121,116,101,115]
 def zfy:=z9j x0 x2/\z9h x4 (mkS (z52 x1 x2)=x8/\z54 x5 (z00 x3 (z00 x6 (z00 x0 x2))=z00 x3 (z00 x6 (z00 x0 x2))/\z9i x1 x5))
 def zfx:=Ji (mkS (kwL (z01 x0 x2 18))=mkS [77]) (zg1 x0 x1 x2 x3 x4 x5 x6) (zfy x0 x1 x2 x3 x4 x5 x6 x8)
 def zfw:=Ji (mkS (kwL (z01 x0 x2 18))=mkS [73]) (zg1 x0 x1 x2 x3 x4 x5 x6) (zfx x0 x1 x2 x3 x4 x5 x6 x8)
 abbrev zm3:=Ji (zg0 x0 x2) (zg1 x0 x1 x2 x3 x4 x5 x6) (zfw x0 x1 x2 x3 x4 x5 x6 x8)
 def zm1:=size (mkS [114,101,112,101,97,116,101,100,32])+size (mkS (kwL (z01 x0 x2 18)))<=9223372036854775807/\size (mkS [114,101,112,101,97,116,101,100,32]++mkS (kwL (z01 x0 x2 18)))+size (mkS [32])<=9223372036854775807/\size (mkS [114,101,112,101,97,116,101,100,32]++mkS (kwL (z01 x0 x2 18))++mkS [32])+size (z0k x4)<=9223372036854775807/\size (mkS [114,101,112,101,97,116,101,100,32]++mkS (kwL (z01 x0 x2 18))++mkS [32]++(z0k x4))+size (z10 x4)<=9223372036854775807/\size (mkS [114,101,112,101,97,116,101,100,32]++mkS (kwL (z01 x0 x2 18))++mkS [32]++(z0k x4)++(z10 x4))+size (mkS (z52 x1 x2))<=9223372036854775807/\size (mkS [114,101,112,101,97,116,101,100,32]++mkS (kwL (z01 x0 x2 18))++mkS [32]++(z0k x4)++(z10 x4)++mkS (z52 x1 x2))+size (mkS [59,10])<=9223372036854775807/\mkS (z7a x1 x2 x4)=mkS [114,101,112,101,97,116,101,100,32]++mkS (kwL (z01 x0 x2 18))++mkS [32]++(z0k x4)++(z10 x4)++mkS (z52 x1 x2)++mkS [59,10]/\z54 x5 (fdN x1 (z00 x1 x2)=z00 x3 (z00 x6 (z00 x0 x2))/\True)
 def zm4:=size (mkS (kwL (z01 x0 x2 18)))+size (mkS [32])<=9223372036854775807/\size (mkS (kwL (z01 x0 x2 18))++mkS [32])+size (z0k x4)<=9223372036854775807/\size (mkS (kwL (z01 x0 x2 18))++mkS [32]++(z0k x4))+size (z10 x4)<=9223372036854775807/\size (mkS (kwL (z01 x0 x2 18))++mkS [32]++(z0k x4)++(z10 x4))+size (mkS [59,10])<=9223372036854775807/\mkS (z7a x1 x2 x4)=mkS (kwL (z01 x0 x2 18))++mkS [32]++(z0k x4)++(z10 x4)++mkS [59,10]/\z54 x5 (fdN x1 (z00 x1 x2)=z00 x3 (z00 x0 x2)/\True)
 def zm0:=Ji (z9k x0 x1 x2 3) (∃(i0:List Int),(6:Int)=6/\z54 x5 (z00 x0 (z00 x1 x2)=z00 x0 (z00 x1 x2)/\(z04 i0 (z00 x0 (z00 x1 x2))/\z9l 6)/\z79 x3 i0 x5/\(0<=z01 i0 (z00 x0 (z00 x1 x2)) 6/\z01 i0 (z00 x0 (z00 x1 x2)) (6:Int)<(↑(nat_lit 6):Int))/\∃i2,(∀(i3:Nat) (i4:Value),[string i2][i3]? =some i4->[string (mkS [115,116,114,105,110,103]),string (mkS [105,110,116,51,50]),string (mkS [98,111,111,108]),string (mkS [117,105,110,116,54,52]),string (mkS [115,105,110,116,51,50]),string (mkS [102,105,120,101,100,51,50])][nat_lit 0+toNat (z01 i0 (z00 x0 (z00 x1 x2)) 6)*1+i3]? =some i4)/\size (mkS [109,97,112,60])+size i2<=9223372036854775807/\size (mkS [109,97,112,60]++i2)+size (mkS [44,32])<=9223372036854775807/\size (mkS [109,97,112,60]++i2++mkS [44,32])+size (mkS (kwL (z01 x1 x2 18)))<=9223372036854775807/\size (mkS [109,97,112,60]++i2++mkS [44,32]++mkS (kwL (z01 x1 x2 18)))+size (mkS [62,32])<=9223372036854775807/\size (mkS [109,97,112,60]++i2++mkS [44,32]++mkS (kwL (z01 x1 x2 18))++mkS [62,32])+size (z0k x4)<=9223372036854775807/\size (mkS [109,97,112,60]++i2++mkS [44,32]++mkS (kwL (z01 x1 x2 18))++mkS [62,32]++(z0k x4))+size (z10 x4)<=9223372036854775807/\size (mkS [109,97,112,60]++i2++mkS [44,32]++mkS (kwL (z01 x1 x2 18))++mkS [62,32]++(z0k x4)++(z10 x4))+size (mkS [59,10])<=9223372036854775807/\mkS (z7a x3 x2 x4)=mkS [109,97,112,60]++i2++mkS [44,32]++mkS (kwL (z01 x1 x2 18))++mkS [62,32]++(z0k x4)++(z10 x4)++mkS [59,10]/\z54 x5 (fdN x3 (z00 x3 x2)=z00 i0 (z00 x0 (z00 x1 x2))/\True))) (zm4 x1 x3 x2 x0 x4 x5)
 def zlz:=(zc9 (z01 x0 (z00 x0 x2) 8)=true->∃(i0:List Int),(4:Int)=4/\z54 x5 (z00 x1 (z00 x3 x2)=z00 x1 (z00 x3 x2)/\(z04 i0 (z00 x1 (z00 x3 x2))/\z9l 4)/\z79 x0 i0 x5/\(0<=z01 i0 (z00 x1 (z00 x3 x2)) 4/\z01 i0 (z00 x1 (z00 x3 x2)) (4:Int)<(↑(nat_lit 4):Int))/\∃i2,(∀(i3:Nat) (i4:Value),[string i2][i3]? =some i4->[string (mkS []),string (mkS []),string (mkS [32,91,112,97,99,107,101,100,32,61,32,102,97,108,115,101,93]),string (mkS [32,91,112,97,99,107,101,100,32,61,32,116,114,117,101,93])][nat_lit 0+toNat (z01 i0 (z00 x1 (z00 x3 x2)) 4)*1+i3]? =some i4)/\(Ji (zfz x3 x2) (zg1 x3 x0 x2 i0 x4 x5 x1) (zm3 x3 x0 x2 i0 x4 x5 x1 i2))/\∀(i10:Unit),True->zm1 x3 x0 x2 i0 x4 x5 x1))/\(zc9 (z01 x0 (z00 x0 x2) 8)=false->zm0 x1 x3 x2 x0 x4 x5)
 def zly:=(Ji (z9k x0 x1 x2 1) (zhy x1 x3 x2 x0 x4 x5 1) (zhy x1 x3 x2 x0 x4 x5 2))/\∀(i2:Unit),True->zlz x3 x0 x2 x1 x4 x5
end
def zcq(x:SV) (L:List Int) (n m:Int):qjz P (tFd) Try.f41 cFd (wFd) ⟨x,L,n,m⟩=(z04 L n/\0<=m/\m<1000->(∃(p:Pub),True/\byP x L p)->∃(b:List Int),z54 x (n=n/\z04 b n/\z79 L b x/\m=m/\(0<=m/\m<1000)/\size (mkS [102])+size (mkS (z0j (toNat m)))<=9223372036854775807/\m=m/\(0<=m/\m<1000)/\size (mkS [32,61,32])+size (mkS (z0j (toNat m)))<=9223372036854775807/\∃(b_1:List Int),(8:Int)=8/\z54 x (z00 b n=z00 b n/\(z04 b_1 (z00 b n)/\z9l 8)/\z79 L b_1 x/\Ji (z9k b_1 b n 0) (zm2 b L n b_1 m x) (zly b_1 b n L m x)))):=by kernel_rfl
def zgo:=λx L n m=>Eq.trans (zcq x L n m) (by delta Ji Jt Jf z54 z79 z9l z9k z0k z10 z7a zm2 z9j z9h z9i zhy zfz z52 zg1 zg0 zfy zfx zfw zm3 zm1 zm4 zm0 zlz zly;exact rfl)
section
variable (x0:Int) (x1:SV) (x2:Int) (x3:List Int) (x4:ByteArray×ByteArray×Int×Int) (x5:List Int) (x6:Prop) (x7:List Int) (x8:List Pc)
 abbrev z7c:=x1.1=x1.1/\x1.2.1=x1.2.1/\x1.2.2=x1.2.2/\x6
 def zcc:=(∀i0,True/\byP x1 x3 i0->byP (x1.1,x1.2.1,x1.2.2) x5 i0)
 def z9n:=(∀i0,True/\byP x1 x3 i0->True/\byP x1 x3 i0)
 abbrev z2o:=(↑(length (flat x8)):Int)
 abbrev z9m:=Jb (x4.2.2.1+1)
 abbrev z7d:=kwL (z01 x3 (z00 x5 (z00 x7 x4.2.2.2)) 18)
 def zhz:=Jb (x4.2.2.1+1+x0+100)/\x4.2.2.1+1+x0+100=x4.2.2.1+1+x0+100/\(0<=x4.2.2.1+1+x0+100/\x4.2.2.1+1+x0+100<1000)/\x6
 abbrev z53:=z0j (toNat (x4.2.2.1+1+x0+100))
 def zc5:=toNat (z01 x3 x0 (x2+1)- (x4.2.2.1+1))<toNat (z01 x3 x0 (x2+1)- x4.2.2.1)/\True
 abbrev z7b:=flat (fdP (z7d x3 x4 x5 x7) x3 (z00 x3 (z00 x5 (z00 x7 x4.2.2.2))) (x4.2.2.1+1+x0))
 def zm7:=z9m x4/\∃(i0:List Int),(2:Int)=2/\z7c x1 (x4.2.2.2=x4.2.2.2/\(z04 i0 x4.2.2.2/\(0:Int)<2/\(2:Int)<1000000)/\zcc x1 x3 i0/\∃(i2:Int),i2=IntKind.wrap i64 ((14:Int)*z01 i0 x4.2.2.2 2)/\∃(i3:Int),i3=IntKind.wrap i64 (i2*x4.2.2.1)/\Jb (x4.2.2.1+1+i3)/\∃(i4:List Int),(4:Int)=4/\z7c x1 (z00 i0 x4.2.2.2=z00 i0 x4.2.2.2/\(z04 i4 (z00 i0 x4.2.2.2)/\(0:Int)<4/\(4:Int)<1000000)/\zcc x1 x3 i4/\Ji (z01 i4 (z00 i0 x4.2.2.2) (4:Int)=0) (∃(i6:List Int),z7c x1 (z00 i4 (z00 i0 x4.2.2.2)=z00 i4 (z00 i0 x4.2.2.2)/\z04 i6 (z00 i4 (z00 i0 x4.2.2.2))/\zcc x1 x3 i6/\size x4.2.1+size (mkS (z7d i6 x4 i4 i0))<=9223372036854775807/\size (x4.2.1++mkS (z7d i6 x4 i4 i0))+size (mkS [32,111])<=9223372036854775807/\zhz i3 x4 (size (x4.2.1++mkS (z7d i6 x4 i4 i0)++mkS [32,111])+size (mkS (z53 i3 x4))<=9223372036854775807/\size (x4.2.1++mkS (z7d i6 x4 i4 i0)++mkS [32,111]++mkS (z53 i3 x4))+size (mkS [32,61,32])<=9223372036854775807/\zhz i3 x4 (size (x4.2.1++mkS (z7d i6 x4 i4 i0)++mkS [32,111]++mkS (z53 i3 x4)++mkS [32,61,32])+size (mkS (z53 i3 x4))<=9223372036854775807/\size (x4.2.1++mkS (z7d i6 x4 i4 i0)++mkS [32,111]++mkS (z53 i3 x4)++mkS [32,61,32]++mkS (z53 i3 x4))+size (mkS [59,10])<=9223372036854775807/\z9m x4/\x4.1=x4.1/\x4.2.2.1+1=x4.2.2.1+1/\x4.2.1++mkS (z7d i6 x4 i4 i0)++mkS [32,111]++mkS (z53 i3 x4)++mkS [32,61,32]++mkS (z53 i3 x4)++mkS [59,10]=x4.2.1++mkS (z7d i6 x4 i4 i0)++mkS [32,111]++mkS (z53 i3 x4)++mkS [32,61,32]++mkS (z53 i3 x4)++mkS [59,10]/\z01 x5 x0 (x2+1)=z01 x5 x0 (x2+1)/\z7c x1 (z00 i6 (z00 i4 (z00 i0 x4.2.2.2))=z00 i6 (z00 i4 (z00 i0 x4.2.2.2))/\z9n x1 x3/\(∃(i9:List Pc),∃(i10:List Pc),x4.1=mkS (flat i9)/\x4.2.1++mkS (z7d i6 x4 i4 i0)++mkS [32,111]++mkS (z53 i3 x4)++mkS [32,61,32]++mkS (z53 i3 x4)++mkS [59,10]=mkS (flat i10)/\0<=x4.2.2.1+1/\x4.2.2.1+1<=z01 x3 x0 (x2+1)/\z04 x3 (z00 i6 (z00 i4 (z00 i0 x4.2.2.2)))/\(z2o i9)+(z2o i10)<=100*(x4.2.2.1+1)/\bdF x3 (toNat (z01 x3 x0 (x2+1)- (x4.2.2.1+1))) (x4.2.2.1+1) (z00 i6 (z00 i4 (z00 i0 x4.2.2.2))) i9 i10=bdS x3 x0 x2)/\zc5 x0 x2 x3 x4))))) (∃(i11:List Int),x4.2.2.1+1+i3=x4.2.2.1+1+i3/\z7c x1 (z00 i4 (z00 i0 x4.2.2.2)=z00 i4 (z00 i0 x4.2.2.2)/\(z04 i11 (z00 i4 (z00 i0 x4.2.2.2))/\0<=x4.2.2.1+1+i3/\x4.2.2.1+1+i3<1000)/\zcc x1 x3 i11/\size x4.1+size (mkS (z7b i3 i11 x4 i4 i0))<=9223372036854775807/\z9m x4/\x4.1++mkS (z7b i3 i11 x4 i4 i0)=x4.1++mkS (z7b i3 i11 x4 i4 i0)/\x4.2.2.1+1=x4.2.2.1+1/\x4.2.1=x4.2.1/\z01 x5 x0 (x2+1)=z01 x5 x0 (x2+1)/\z7c x1 (fdN i11 (z00 i11 (z00 i4 (z00 i0 x4.2.2.2)))=fdN i11 (z00 i11 (z00 i4 (z00 i0 x4.2.2.2)))/\z9n x1 x3/\(∃(i14:List Pc),∃(i15:List Pc),x4.1++mkS (z7b i3 i11 x4 i4 i0)=mkS (flat i14)/\x4.2.1=mkS (flat i15)/\0<=x4.2.2.1+1/\x4.2.2.1+1<=z01 x3 x0 (x2+1)/\z04 x3 (fdN i11 (z00 i11 (z00 i4 (z00 i0 x4.2.2.2))))/\(z2o i14)+(z2o i15)<=100*(x4.2.2.1+1)/\bdF x3 (toNat (z01 x3 x0 (x2+1)- (x4.2.2.1+1))) (x4.2.2.1+1) (fdN i11 (z00 i11 (z00 i4 (z00 i0 x4.2.2.2)))) i14 i15=bdS x3 x0 x2)/\zc5 x0 x2 x3 x4)))))
 def zm9:=size x4.1+size (mkS [111,110,101,111,102,32,99,32,123,10])<=9223372036854775807/\size (x4.1++mkS [111,110,101,111,102,32,99,32,123,10])+size x4.2.1<=9223372036854775807/\size (x4.1++mkS [111,110,101,111,102,32,99,32,123,10]++x4.2.1)+size (mkS [125,10])<=9223372036854775807/\mkS (flat (bdP x3 x0 x2))=x4.1++mkS [111,110,101,111,102,32,99,32,123,10]++x4.2.1++mkS [125,10]/\z7c x1 (bdN x3 x0 x2=x4.2.2.2/\True)
 def zm8:=((!decide (x4.2.1=mkS []))=true->zm9 x0 x1 x2 x3 x4)/\((!decide (x4.2.1=mkS []))=false->mkS (flat (bdP x3 x0 x2))=x4.1/\z7c x1 (bdN x3 x0 x2=x4.2.2.2/\True))
 def zm6:=Ji (x4.2.2.1<z01 x3 x0 (x2+1)) (zm7 x0 x1 x2 x5 x4 x3) (zm8 x0 x1 x2 x5 x4)
 def zm5:=Jb (x0+1)/\∃(i0:List Int),x0+1=x0+1/\z7c x1 (x2=x2/\(z04 i0 x2/\0<x0+1/\x0+1<1000000)/\zcc x1 x3 i0/\(mkS []=mkS []/\(0:Int)=0/\mkS []=mkS []/\z01 i0 x2 (x0+1)=z01 i0 x2 (x0+1)/\z7c x1 (z00 i0 x2=z00 i0 x2/\z9n x1 x3/\(∃(i3:List Pc),∃(i4:List Pc),mkS []=mkS (flat i3)/\mkS []=mkS (flat i4)/\(0:Int)<=0/\0<=z01 x3 x2 (x0+1)/\z04 x3 (z00 i0 x2)/\(z2o i3)+(z2o i4)<=100*0/\bdF x3 (toNat (z01 x3 x2 (x0+1)- 0)) 0 (z00 i0 x2) i3 i4=bdS x3 x2 x0)/\True))/\∀(i5:ByteArray×ByteArray×Int×Int),(∃(i6:List Pc),∃(i7:List Pc),i5.1=mkS (flat i6)/\i5.2.1=mkS (flat i7)/\0<=i5.2.2.1/\i5.2.2.1<=z01 x3 x2 (x0+1)/\z04 x3 i5.2.2.2/\(z2o i6)+(z2o i7)<=100*i5.2.2.1/\bdF x3 (toNat (z01 x3 x2 (x0+1)- i5.2.2.1)) i5.2.2.1 i5.2.2.2 i6 i7=bdS x3 x2 x0)->zm6 x2 x1 x0 i0 i5 x3)
end
def zcj(x:SV) (L:List Int) (n m:Int):qjz P (tBd) Try.f19 cBd (wBd) ⟨x,L,n,m⟩=(z04 L n/\0<=m/\m<10->(∃(p:Pub),True/\byP x L p)->zm5 m x n L):=by kernel_rfl
def zgk:=λx L n m=>Eq.trans (zcj x L n m) (by delta Ji Jb Jt Jf z7c zcc z9n z2o z9m z7d zhz z53 zc5 z7b zm7 zm9 zm8 zm6 zm5;exact rfl)
section
variable (x0:SV) (x1:Prop) (x2 x3:List Int)
 def zgi:=x0.1=x0.1/\x0.2.1=x0.2.1/\x0.2.2=x0.2.2/\x1
 def zi0:=(∀i0,True/\byP x0 x2 i0->byP (x0.1,x0.2.1,x0.2.2) x3 i0)
end
def zdj(x:SV) (L:List Int) (n:Int):qjz P (tTx) Try.f14 cTx (λ_=>{}) ⟨x,L,n⟩=(z04 L n->(∃(p:Pub),True/\byP x L p)->∃(b:List Int),(4:Int)=4/\zgi x (n=n/\(z04 b n/\(0:Int)<=4/\(4:Int)<10)/\zi0 x L b/\size (mkS [115,121,110,116,97,120,32,61,32,34,112,114,111,116,111,51,34,59,10,112,97,99,107,97,103,101,32,97,59,10,101,110,117,109,32,69,32,123,32,65,32,61,32,48,59,32,66,32,61,32,49,59,32,67,32,61,32,45,49,59,32,125,10,109,101,115,115,97,103,101,32,73,32,123,10])+size (mkS (flat (bdP b n 4)))<=9223372036854775807/\size (mkS [115,121,110,116,97,120,32,61,32,34,112,114,111,116,111,51,34,59,10,112,97,99,107,97,103,101,32,97,59,10,101,110,117,109,32,69,32,123,32,65,32,61,32,48,59,32,66,32,61,32,49,59,32,67,32,61,32,45,49,59,32,125,10,109,101,115,115,97,103,101,32,73,32,123,10]++mkS (flat (bdP b n 4)))+size (mkS [125,10,109,101,115,115,97,103,101,32,77,32,123,10])<=9223372036854775807/\∃(b_1:List Int),(7:Int)=7/\zgi x (bdN b n (4:Int)=bdN b n 4/\(z04 b_1 (bdN b n 4)/\(0:Int)<=7/\(7:Int)<10)/\zi0 x L b_1/\size (mkS [115,121,110,116,97,120,32,61,32,34,112,114,111,116,111,51,34,59,10,112,97,99,107,97,103,101,32,97,59,10,101,110,117,109,32,69,32,123,32,65,32,61,32,48,59,32,66,32,61,32,49,59,32,67,32,61,32,45,49,59,32,125,10,109,101,115,115,97,103,101,32,73,32,123,10]++mkS (flat (bdP b n 4))++mkS [125,10,109,101,115,115,97,103,101,32,77,32,123,10])+size (mkS (flat (bdP b_1 (bdN b n 4) 7)))<=9223372036854775807/\size (mkS [115,121,110,116,97,120,32,61,32,34,112,114,111,116,111,51,34,59,10,112,97,99,107,97,103,101,32,97,59,10,101,110,117,109,32,69,32,123,32,65,32,61,32,48,59,32,66,32,61,32,49,59,32,67,32,61,32,45,49,59,32,125,10,109,101,115,115,97,103,101,32,73,32,123,10]++mkS (flat (bdP b n 4))++mkS [125,10,109,101,115,115,97,103,101,32,77,32,123,10]++mkS (flat (bdP b_1 (bdN b n 4) 7)))+size (mkS [125,10])<=9223372036854775807/\mkS (flat (z1g L n))=mkS [115,121,110,116,97,120,32,61,32,34,112,114,111,116,111,51,34,59,10,112,97,99,107,97,103,101,32,97,59,10,101,110,117,109,32,69,32,123,32,65,32,61,32,48,59,32,66,32,61,32,49,59,32,67,32,61,32,45,49,59,32,125,10,109,101,115,115,97,103,101,32,73,32,123,10]++mkS (flat (bdP b n 4))++mkS [125,10,109,101,115,115,97,103,101,32,77,32,123,10]++mkS (flat (bdP b_1 (bdN b n 4) 7))++mkS [125,10]/\zgi x (bdN L (bdN L n 4) (7:Int)=bdN b_1 (bdN b n 4) 7/\True)))):=by kernel_rfl
def zgy:=λx L n=>Eq.trans (zdj x L n) (by delta zgi zi0;exact rfl)
section
variable (x0:SV) (x1:List Int) (x2 x3:Int) (x4 x5:ByteArray) (x6:Option Addr) (x7 x8:Nat) (x9:Option Addr) (x10 x11:Nat) (x12:Nat->Option Obj) (x13:List Tk×List Tk×(Option Addr×Nat×Nat)×Option Addr×Nat×Nat) (x14:Prop)
 abbrev z7g:=∃(i0:Int),q5o x12 (Addr.mk 0 0 none)=some (int i64 i0)
 abbrev zc7:=(↑(size (mkS (flat (z1g x1 0)))):Int)
 def zi1:=size x4=size (mkS (flat (z1g x1 0)))/\qgs (spl (q16 (mkS (flat (z1g x1 0)))) ((0:Nat)+toNat (Int.tmod x2 (zc7 x1))*nat_lit 1) [int u8 x3]) 0 (q16 x4)/\x4=x4/\size x4<100000/\x14
 def zcd:=x7=length (lxR x4).1/\qh1 x12 x6 x7 x8 (z1c (lxR x4).1)
 abbrev zi2:=(↑(lxR x4).2.1:Int)
 abbrev zc6:=(↑(lxR x4).2.2:Int)
 def zme:=(x13.2.2.1.2.1=length x13.1/\qh1 x12 x13.2.2.1.1 x13.2.2.1.2.1 x13.2.2.1.2.2 (z1c x13.1))/\x13.2.2.2.2.1=length x13.2.1/\qh1 x12 x13.2.2.2.1 x13.2.2.2.2.1 x13.2.2.2.2.2 (z1c x13.2.1)
 def zmd:=Ji ((zc6 x4)=(zc6 x5)) (∃(i0:List Tk×List Tk×(Option Addr×Nat×Nat)×Option Addr×Nat×Nat),i0.2.2.1.1=x6/\i0.2.2.1.2.1=x7/\i0.2.2.1.2.2=x8/\i0.2.2.2.1=x9/\i0.2.2.2.2.1=x10/\i0.2.2.2.2.2=x11/\(length i0.1<100000/\length i0.2.1<100000)/\(∀i1,((True/\byP x0 x1 i1/\z7g i1)/\zcd x4 x6 x7 x8 i1)/\zcd x5 x9 x10 x11 i1->zme i1 i0)/\true=decide (i0.1=i0.2.1)/\True) (true=false/\True)
 def zmc:=Ji ((zi2 x4)=(zi2 x5)) (zmd x0 x1 x4 x5 x6 x7 x8 x9 x10 x11) (true=false/\True)
 def zmb:=Ji (100<(↑x0.2.1:Int)) (true=true/\True) (∃(i0:Option Addr×Nat×Nat),i0.1=x0.1/\i0.2.1=x0.2.1/\i0.2.2=x0.2.2/\True/\∃(i1:List Int),i0.1=i0.1/\i0.2.1=i0.2.1/\i0.2.2=i0.2.2/\(0:Int)=0/\z04 i1 0/\(∀i2,(True/\byP x0 x1 i2/\z7g i2)->byP (i0.1,i0.2.1,i0.2.2) i1 i2)/\Jb (x2)/\(zc7 i1)≠0/\(0<=Int.tmod x2 (zc7 i1)/\Int.tmod x2 (zc7 i1)<(zc7 i1))/\(0:Nat)+toNat (Int.tmod x2 (zc7 i1))*nat_lit 1+length [int u8 x3]<=length (q16 (mkS (flat (z1g i1 0))))/\∃i4,zi1 i1 x2 x3 i4 ((∀i5,(True/\byP x0 x1 i5/\z7g i5)->z7g i5)/\∀(i8:Unit),True->∀(i9:Option Addr) (i10 i11:Nat),(∃i12,(True/\byP x0 x1 i12/\z7g i12)/\zcd i4 i9 i10 i11 i12)->∃i14,zi1 i1 x2 x3 i14 (∀(i15:Unit),True->∀(i16:Option Addr) (i17 i18:Nat),(∃i19,((True/\byP x0 x1 i19/\z7g i19)/\zcd i4 i9 i10 i11 i19)/\zcd i14 i16 i17 i18 i19)->zmc x0 x1 i4 i14 i9 i10 i11 i16 i17 i18)))
 def zma:=True/\(∀i0,(True/\byP x0 x1 i0/\z7g i0)->z7g i0)/\((!true)=true->true=false/\True)/\((!true)=false->zmb x0 x1 x2 x3)
end
def zdq(x:SV) (L:List Int) (a b:Int):qjz P (tWM) Try.f4 cWM (λ_=>{}) ⟨x,L,a,b⟩=(length L<9223372036854775808/\(∀(b:Int),b∈L->0<=b/\b<256)/\(0<=a/\a<65536)/\0<=b/\b<256->(∃(p:Pub),True/\byP x L p/\z7g p)->zma x L a b):=by kernel_rfl
def zh2:=λx L a b=>Eq.trans (zdq x L a b) (by delta Ji Jb Jt Jf z7g zc7 zi1 zcd zi2 zc6 zme zmd zmc zmb zma;exact rfl)
def zay(x:SV):qjz P (λ_=>none) Try.f13 zaj (λ_=>{}) x=(True->Prod.fst x=Prod.fst x/\Prod.fst (Prod.snd x)=Prod.fst (Prod.snd x)/\Prod.snd (Prod.snd x)=Prod.snd (Prod.snd x)/\(0:Int)=(0:Int)/\True):=by kernel_rfl
section
def z06:∀(a b:List Pc),flat (a++b)=flat a++flat b
 | [],b=>rfl
 |x::a,b=>by rw[List.cons_append,flat,flat,z06 a b,List.append_assoc,List.append_assoc]
def z1b:∀(L:List Int) {i:Nat} (hi:i<L.length),(z4n L)[i]? =some (.int .u8 L[i])
  |b::L,0,_=>rfl
  | b::L,i+1,hi=>by
    show(z4n L)[i]? =_
    rw[z1b L (i:=i) (by simpa using hi)];rfl
variable {L:List Int}
def zcl{x:SV} {p:Pub} (h:byP x L p) {i:Nat} (hi:i<L.length):x.1≠noA/\q39 p (adr x.1 (i*1)) [.int .u8 L[i]]:=by
  obtain⟨x1,n,c⟩:=x
  obtain⟨h1,h2⟩:=h
  rcases h2.2 with⟨h,_⟩|⟨a,rfl,h1,h2⟩
  · have:=z1b L hi
    rw[h]at this;cases this
  · refine⟨by simp,λj v hj=> ?_⟩
    cases j with
    |succ j=>simp at hj
    | zero=>
      show q5o p ((a.add (i*1)).add 0)=some v
      rw[zgj a h1]
      exact h2 _ v (by rw[Nat.mul_one,Nat.add_zero,z1b L hi];exact hj)
def z5v:q7a P 37 zcm:=by
 refine qk0 mixed z08 (W:=λ_=>{}) Try.func37 (by kernel_rfl) (by decide) (by decide) (λs=>by kernel_rfl) λ⟨(x:SV),(L:List Int),(n:Int),(m:Int)⟩=>(zd3 x L n m).mpr ?_
 rintro⟨⟨hn0,hn1,hL,hb⟩,hm0,hm1⟩ ⟨p,_,hp⟩
 have hx:x.2.1=L.length:=hp.1
 simp only[sbS,Int.toNat_natCast,hx]
 obtain⟨i,rfl⟩:=Int.eq_ofNat_of_zero_le hn0
 have e:((i:Int)+1- 1).toNat=i:=by omega
 refine⟨λh=>⟨?_,?_⟩,λh=> ?_⟩
 ·unfold z01;rw[if_pos h]
 ·unfold z00;rw[if_pos h]
 ·have hi:i<L.length:=by omega
  rw[e]
  refine⟨by omega,by omega,by omega,(zcl hp hi).1,L[i],λq hq=>(zcl hq hi).2,?_⟩
  have r:z01 L i m=Int.tmod L[i] m:=by
   unfold z01
   rw[if_neg h,Int.toNat_natCast,List.getD_eq_getElem?_getD,List.getElem?_eq_getElem hi];rfl
  have hbi:=hb L[i] (List.getElem_mem hi)
  have nn:z00 L i=i+1:=by unfold z00;rw[if_neg h]
  rw[r,nn]
  exact⟨by omega,by omega,rfl,rfl⟩
def z0n{n m:Int} (hL:z11 L) (h:0<m):0<=z01 L n m/\z01 L n m<m:=by
 unfold z01
 split
 ·omega
 ·have:0<=L.getD n.toNat 0:=by
   rw[List.getD_eq_getElem?_getD]
   cases hg:L[n.toNat]? with
   |none=>simp
   |some b=>exact(hL.2 b (List.mem_of_getElem? hg)).1
  rw[Int.tmod_eq_emod_of_nonneg this]
  exact⟨Int.emod_nonneg _ (by omega),Int.emod_lt_of_pos _ h⟩
def z05{n:Int} (h:z04 L n):z04 L (z00 L n):=by
 obtain⟨h0,h1,h2⟩:=h
 unfold z00
 split
 ·exact⟨h0,h1,h2⟩
 ·exact⟨by omega,by omega,h2⟩
def z5r(l:List (List Nat)) {r:Int} (h:0<=r/\r<l.length):∀(j:Nat) (v:Value),[Value.string (mkS (l.getD r.toNat []))][j]? =some v->(l.map λl=>Value.string (mkS l))[0+r.toNat*1+j]? =some v:=λj v hj=>by
  cases j with
  |succ j=>simp at hj
  | zero=>
    have hr:r.toNat<l.length:=by omega
    rw[Nat.zero_add,Nat.mul_one,Nat.add_zero,List.getElem?_map,List.getElem?_eq_getElem hr,←hj,List.getD_eq_getElem?_getD,List.getElem?_eq_getElem hr];rfl
def zct:q7a P 38 cKw:=by
 refine qk0 mixed (qda (qgx z5v qjn)) (W:=λ_=>{}) Try.func38 (by kernel_rfl) (by decide) (by decide) (λs=>by kernel_rfl) λ⟨(x:SV),(L:List Int),(n:Int)⟩=>(zgs x L n).mpr ?_
 intro h hp
 have b:=z0n (n:=n) (m:=18) h.2.2 (by omega)
 simp only[sbS,Int.toNat_natCast,exists_const]
 exact⟨L,⟨h,by decide,by decide⟩,λp h=>h,⟨b.1,b.2⟩,_,z5r kws ⟨b.1,b.2⟩,rfl,rfl⟩
def z0x(v:Nat):1<=(z0j v).length/\(z0j v).length<=3:=by
 unfold z0j;repeat' split
 all_goals simp
def zcg(c:Nat) (h:c<256):q16 (mkS [c])=[.int .u8 (c:Nat)]:=by
 simp[q16,mkS]
 omega
def z6a(v:Nat) (h:v<1000):z0j v=if v / 10=0 then [48+v % 10]else z0j (v / 10)++[48+v % 10]:=by
 unfold z0j
 by_cases h1:v<10
 ·rw[if_pos h1,if_pos (by omega),Nat.mod_eq_of_lt h1]
 ·rw[if_neg h1,if_neg (show¬v / 10=0 by omega)]
  by_cases h2:v<100
  ·rw[if_pos h2,if_pos (show v / 10<10 by omega)];rfl
  ·rw[if_neg h2,if_neg (show¬v / 10<10 by omega),if_pos (show v / 10<100 by omega)]
   simp only[List.cons_append,List.nil_append,List.cons.injEq,and_true]
   omega
def z81:q7a P 50 z3q:=by
 refine qk0 mixed z08 (W:=za6) Try.func50 (by kernel_rfl) (by decide) (by decide) (λs=>by kernel_rfl) λ(v:Int)=>(z80 v).mpr ?_
 rintro⟨h0,h1⟩
 simp only[sbS,Int.toNat_natCast,exists_const]
 refine⟨⟨[],rfl,h0,h1,List.append_nil _⟩,?_⟩
 rintro⟨_,w⟩ ⟨acc,rfl,w0,w1,he⟩
 simp only at w0 w1 he⊢
 obtain⟨k,rfl⟩:=Int.eq_ofNat_of_zero_le w0
 have al:acc.length<=3:=by
  have:=congrArg List.length he
  have:=(z0x v.toNat).2
  rw[List.length_append]at*;omega
 have e1:IntKind.wrap .u64 (Int.tdiv k 10)=((k / 10:Nat):Int):=by
  rw[z2d,Int.tdiv_eq_ediv_of_nonneg w0];omega
 have e2:IntKind.wrap .u8 (IntKind.wrap .u64 (48+Int.tmod k 10))=((48+k % 10:Nat):Int):=by
  rw[z2d,zbd,Int.tmod_eq_emod_of_nonneg w0];omega
 have st:=z6a k (by omega)
 rw[Int.toNat_natCast]at he
 rw[e1,e2]
 refine⟨by decide,mkS [48+k % 10],rfl,λj v hj=> ?_,?_,by decide,λh=> ?_,λh=>⟨⟨_,q9l _ _,by omega,by omega,?_⟩,?_⟩⟩
 ·rw[zcg _ (by omega)]at hj
  rw[Nat.zero_add];exact hj
 ·rw[q0f,q0f];show 1+acc.length<=_;omega
 ·rw[if_pos (by have:=h;omega)]at st
  rw[q9l,←he,st]
 ·rw[if_neg (by have:=h;omega)]at st
  rw[←he,st,Int.toNat_natCast,List.append_assoc]
 ·have:=h
  omega
def z6b:q7a P 40 z7o:=by
 refine qk0 mixed (qda (qgx z81 qjn)) (W:=λ_=>{}) Try.func40 (by kernel_rfl) (by decide) (by decide) (λs=>by kernel_rfl) λ(v:Int)=>(zb6 v).mpr ?_
 rintro⟨h0,h1⟩
 simp only[sbS,Int.toNat_natCast,exists_const]
 refine⟨λh=>absurd h (by omega),λ_=> ?_⟩
 have e:IntKind.wrap .u64 v=v:=by rw[z2d];omega
 rw[e]
 exact⟨⟨h0,h1⟩,rfl⟩
def z36(i:Int):(kwL i).length<=8:=by
 unfold kwL
 have h:∀l∈kws,l.length<=8:=by decide
 rw[List.getD_eq_getElem?_getD]
 cases hg:kws[i.toNat]? with
 |none=>simp
 |some l=>exact h l (List.mem_of_getElem? hg)
def z3x(i:Int):(zca i).length<=7:=by
 unfold zca
 have h:∀l∈keys,l.length<=7:=by decide
 rw[List.getD_eq_getElem?_getD]
 cases hg:keys[i.toNat]? with
 |none=>simp
 |some l=>exact h l (List.mem_of_getElem? hg)
def z2r(t:List Nat) (i:Int):(z1j t i).length<=17:=by
 unfold z1j;repeat' split
 all_goals decide
def z2s(t:List Nat) (i:Int) (x:List Nat):x++((if z7z t i=[]then []else [32])++flat (z7z t i))=x++z1j t i:=by
 congr 1
 unfold z7z z1j
 repeat' split
 all_goals first|rfl|contradiction|decide|simp_all [flat]
def z0b(num:Int) (pk:List Pc):flat (z4s num pk)=102::(z0j num.toNat++(32::61::32::(z0j num.toNat++((if pk=[]then []else [32])++(flat pk++[59,10]))))):=by
 unfold z4s nmP eqP seP
 simp only[flat,z06,List.cons_append,List.nil_append,List.append_nil,List.append_assoc]
def z5l(L:List Int) (n num:Int) (t:List Nat) (ht:t.length<=8):(flat (fdP t L n num)).length<=80:=by
 have h1:=z0x num.toNat
 have h3:=λi=>z3x i
 have h4:=λi=>z2r t i
 have h5:=λi=>congrArg List.length (z2s t i [])
 simp only[List.nil_append,List.length_append]at h5
 unfold fdP
 split
 ·simp only[flat,z0b,List.length_append,List.length_cons,List.length_nil,if_true];omega
 split
 ·simp only[flat,z0b,List.length_append,List.length_cons,List.length_nil]
  have:=h4 (z01 L (z00 L n) 4)
  have:=h5 (z01 L (z00 L n) 4)
  omega
 split
 ·simp only[flat,z0b,List.length_append,List.length_cons,List.length_nil,if_true]
  have:=h3 (z01 L (z00 L n) 6);omega
 ·simp only[flat,z0b,List.length_append,List.length_cons,List.length_nil,if_true];omega
def z28{a b:List Nat} (ha:∀x∈a,x<256) (hb:∀x∈b,x<256):mkS a=mkS b↔a=b:=by
 refine⟨λh=> ?_,λh=>by rw[h]⟩
 have h:a.map UInt8.ofNat=b.map UInt8.ofNat:=by
  have:=congrArg (λs=>s.data.toList) h
  simpa[mkS]using this
 have key:∀l:List Nat,(∀x∈l,x<256)->(l.map UInt8.ofNat).map UInt8.toNat=l:=λl hl=>by
  rw[List.map_map]
  conv=>rhs;rw[←List.map_id l]
  refine List.map_congr_left λx hx=> ?_
  have:=hl x hx
  simp[Nat.mod_eq_of_lt this]
 rw[←key a ha,←key b hb,h]
def z3y(i:Int):∀x∈kwL i,x<256:=by
 unfold kwL
 have h:∀l∈kws,∀x∈l,x<256:=by decide
 rw[List.getD_eq_getElem?_getD]
 cases hg:kws[i.toNat]? with
 |none=>simp
 |some l=>exact h l (List.mem_of_getElem? hg)
end
section
def zgp:q7a P 41 cFd:=by
 refine qk0 mixed (qda (qgx z5v (qgx zct (qgx z6b qjn)))) (W:=wFd) Try.func41 (by kernel_rfl) (by decide) (by decide) (λs=>by kernel_rfl) λ⟨(x:SV),(L:List Int),(n:Int),(m:Int)⟩=>(zgo x L n m).mpr ?_
 rintro⟨hp,m0,m1⟩ hq
 have t3:=z0x m.toNat
 have k8:=z36 (z01 L n 18)
 have hp1:=z05 hp
 have hp2:=z05 hp1
 have r8:=z0n (n:=z00 L n) (m:=8) hp.2.2 (by omega)
 have r4:=z0n (n:=z00 L (z00 L n)) (m:=4) hp.2.2 (by omega)
 have r6:=z0n (n:=z00 L (z00 L n)) (m:=6) hp.2.2 (by omega)
 have pS:=z2r (kwL (z01 L n 18)) (z01 L (z00 L (z00 L n)) 4)
 have y7:=z3x (z01 L (z00 L (z00 L n)) 6)
 simp only[sbS,Int.toNat_natCast,exists_const,ByteArray.size_append,q0f,List.length_cons,List.length_nil]
 have i12:zc9 (z01 L (z00 L n) 8)=true↔(z01 L (z00 L n) 8=1\/z01 L (z00 L n) 8=2):=by unfold zc9;exact decide_eq_true_iff
 refine⟨L,hp,λp h=>h,⟨m0,m1⟩,by omega,⟨m0,m1⟩,by omega,L,⟨hp1,by decide,by decide⟩,λp h=>h,λh0=>⟨by omega,by omega,by omega,by omega,by omega,?xa,?xaa⟩,λh0=>⟨⟨λh1=> ?xb,λh1=> ?xc⟩,λ_ _=>⟨λh12=>⟨L,⟨hp2,by decide,by decide⟩,λp h=>h,⟨r4.1,r4.2⟩,mkS ([[],[],[32,91,112,97,99,107,101,100,32,61,32,102,97,108,115,101,93],[32,91,112,97,99,107,101,100,32,61,32,116,114,117,101,93]].getD (z01 L (z00 L (z00 L n)) 4).toNat []),z5r [[],[],[32,91,112,97,99,107,101,100,32,61,32,102,97,108,115,101,93],[32,91,112,97,99,107,101,100,32,61,32,116,114,117,101,93]] ⟨r4.1,r4.2⟩,⟨λa1=> ?xe,λa1=>⟨λa2=> ?xf,λa2=>⟨λa3=> ?xg,λa3=>⟨λa4=> ?xh,λa4=> ?xi⟩⟩⟩⟩,λ_ _=>⟨by omega,by omega,by omega,by omega,by omega,by omega,?xj,?xk⟩⟩,λh12=>⟨λh3=>⟨L,⟨hp2,by decide,by decide⟩,λp h=>h,⟨r6.1,r6.2⟩,mkS (zca (z01 L (z00 L (z00 L n)) 6)),z5r keys ⟨r6.1,r6.2⟩,?xl⟩,λh3=> ?xm⟩⟩⟩⟩
 case xa=>
  rw[fdP,if_pos h0]
  simp only[flat,z0b,q9l,if_true,List.cons_append,List.nil_append,List.append_assoc,List.append_nil]
 case xaa=>rw[fdN,if_pos h0]
 case xb=>rw[i12.2 (.inl h1)];exact(decide_eq_true h1).symm
 case xc=>
  rw[Bool.eq_iff_iff,i12,decide_eq_true_iff];omega
 case xe=>
  congr 1
  unfold z1j
  exact if_pos (.inl ((z28 (z3y _) (by decide)).1 a1))
 case xf=>
  congr 1
  unfold z1j
  exact if_pos (.inr (.inl ((z28 (z3y _) (by decide)).1 a2)))
 case xg=>
  congr 1
  unfold z1j
  exact if_pos (.inr (.inr (.inl ((z28 (z3y _) (by decide)).1 a3))))
 case xh=>
  congr 1
  unfold z1j
  exact if_pos (.inr (.inr (.inr ((z28 (z3y _) (by decide)).1 a4))))
 case xi=>
  congr 1
  unfold z1j
  have nn:∀l:List Nat,kwL (z01 L n 18)=l->mkS (kwL (z01 L n 18))=mkS l:=λl h=>by rw[h]
  rw[if_neg (λh=>by rcases h with h|h|h|h<;>first|exact a1 (nn _ h)|exact a2 (nn _ h)|exact a3 (nn _ h)|exact a4 (nn _ h))]
  generalize z01 L (z00 L (z00 L n)) 4=r at r4⊢
  have:r=0\/r=1\/r=2\/r=3:=by omega
  rcases this with rfl|rfl|rfl|rfl<;>decide
 case xj=>
  have e1:=z2s (kwL (z01 L n 18)) (z01 L (z00 L (z00 L n)) 4) []
  simp only[List.nil_append]at e1
  rw[fdP,if_neg h0,if_pos (i12.1 h12)]
  simp only[flat,z0b,q9l,List.cons_append,List.nil_append,List.append_assoc,List.append_nil]
  rw[←e1]
  simp only[List.append_assoc]
 case xk=>rw[fdN,if_neg h0,if_pos (i12.1 h12)]
 case xl=>
  have hks:(mkS (zca (z01 L (z00 L (z00 L n)) 6))).size=(zca (z01 L (z00 L (z00 L n)) 6)).length:=q0f _
  have n12:¬(z01 L (z00 L n) 8=1\/z01 L (z00 L n) 8=2):=λh=>by rw[i12.2 h]at h12;cases h12
  refine⟨by omega,by omega,by omega,by omega,by omega,by omega,by omega,?_,?_⟩
  ·rw[fdP,if_neg h0,if_neg n12,if_pos h3]
   simp only[flat,z0b,q9l,if_true,List.cons_append,List.nil_append,List.append_assoc,List.append_nil]
  ·rw[fdN,if_neg h0,if_neg n12,if_pos h3]
 case xm=>
  have n12:¬(z01 L (z00 L n) 8=1\/z01 L (z00 L n) 8=2):=λh=>by rw[i12.2 h]at h12;cases h12
  refine⟨by omega,by omega,by omega,by omega,?_,?_⟩
  ·rw[fdP,if_neg h0,if_neg n12,if_neg h3]
   simp only[flat,z0b,q9l,if_true,List.cons_append,List.nil_append,List.append_assoc,List.append_nil]
  ·rw[fdN,if_neg h0,if_neg n12,if_neg h3]
variable {L:List Int}
def z9r{n:Int} (h:z04 L n):z04 L (fdN L n):=by
 unfold fdN
 repeat' split
 all_goals first|exact z05 (z05 h)|exact z05 h
def z2a(t:List Nat) (num:Int):flat (qk6 t num)=t++(32::111::(z0j (num+100).toNat++(32::61::32::(z0j (num+100).toNat++[59,10])))):=by
 unfold qk6 eqP seP
 simp only[flat,List.cons_append,List.nil_append,List.append_nil,List.append_assoc]
def z43(t:List Nat) (num:Int) (ht:t.length<=8):(flat (qk6 t num)).length<=80/\flat (qk6 t num)≠[]:=by
 have h1:=z0x (num+100).toNat
 refine⟨?_,λh=> ?_⟩
 ·rw[z2a]
  simp only[List.length_append,List.length_cons,List.length_nil];omega
 ·rw[z2a]at h
  have:=congrArg List.length h
  simp only[List.length_append,List.length_cons,List.length_nil]at this;omega
def z7h(hL:z11 L) {n:Int} {i:Int} (h0:0<=i) (h9:i<10):0<=z0s L n i/\z0s L n i<200:=by
 have:=z0n (n:=n) (m:=2) hL (by omega)
 unfold z0s
 have:z01 L n 2=0\/z01 L n 2=1:=by omega
 rcases this with h|h<;>rw[h]<;>omega
def zgl:q7a P 19 cBd:=by
 refine qk0 mixed (qda (qgx z5v (qgx zct (qgx z6b (qgx zgp qjn))))) (W:=wBd) Try.func19 (by kernel_rfl) (by decide) (by decide) (λs=>by kernel_rfl) λ⟨(x:SV),(L:List Int),(n:Int),(m:Int)⟩=>(zgk x L n m).mpr ?_
 rintro⟨hp,m0,m1⟩ hq
 have rm:=z0n (n:=n) (m:=m+1) hp.2.2 (by omega)
 simp only[sbS,Int.toNat_natCast,exists_const]
 refine⟨by omega,L,⟨hp,by omega,by omega⟩,λp h=>h,⟨[],[],rfl,rfl,by omega,by omega,z05 hp,by decide,by rw[Int.sub_zero];rfl⟩,?_⟩
 rintro⟨_,_,i,k⟩ ⟨sl,ol,rfl,rfl,i0,i1,hk,hlen,inv⟩
 simp only at i0 i1 hk hlen inv⊢
 have hk1:=z05 hk
 have hk2:=z05 hk1
 have r2:=z0n (n:=k) (m:=2) hp.2.2 (by omega)
 have hs1:(mkS (flat sl)).size=(flat sl).length:=q0f _
 have hs2:(mkS (flat ol)).size=(flat ol).length:=q0f _
 refine⟨λhlt=> ?_,λhge=> ?_⟩
 ·have bb:=z7h hp.2.2 (n:=k) i0 (by omega)
  have w1:IntKind.wrap .i64 (14*z01 L k 2)=14*z01 L k 2:=by unfold IntKind.wrap;simp[IntKind.bits,IntKind.signed];omega
  have w2:IntKind.wrap .i64 (14*z01 L k 2*i)=14*z01 L k 2*i:=by
   have:z01 L k 2=0\/z01 L k 2=1:=by omega
   rcases this with h|h<;>rw[h]<;>unfold IntKind.wrap<;>simp[IntKind.bits,IntKind.signed]<;>omega
  have eb:i+1+14*z01 L k 2*i=z0s L k i:=rfl
  have ef:(z01 L n (m+1)- i).toNat=(z01 L n (m+1)- (i+1)).toNat+1:=by omega
  rw[ef,bdF]at inv
  have k8:=z36 (z01 L (z00 L (z00 L k)) 18)
  have t3:=z0x (z0s L k i+100).toNat
  refine⟨by omega,L,⟨hk,by decide,by decide⟩,λp h=>h,_,w1.symm,_,w2.symm,?_⟩
  rw[eb]
  simp only[sbS,Int.toNat_natCast,exists_const,ByteArray.size_append,q0f,List.length_cons,List.length_nil]
  refine⟨by omega,L,⟨hk1,by decide,by decide⟩,λp h=>h,λh4=> ?_,λh4=> ?_⟩
  ·rw[if_pos h4]at inv
   have ol1:=z43 (kwL (z01 L (z00 L (z00 L k)) 18)) (z0s L k i) k8
   refine⟨L,hk2,λp h=>h,by omega,by omega,by omega,⟨by omega,by omega⟩,by omega,by omega,by omega,⟨by omega,by omega⟩,by omega,by omega,by omega,⟨sl,ol++qk6 (kwL (z01 L (z00 L (z00 L k)) 18)) (z0s L k i),rfl,?_,by omega,by omega,z05 hk2,?_,inv⟩,by omega⟩
   ·rw[z06,z2a]
    simp only[q9l,List.cons_append,List.nil_append,List.append_assoc,List.append_nil]
   ·rw[z06,List.length_append];omega
  ·rw[if_neg h4]at inv
   have fl:=z5l L (z00 L (z00 L (z00 L k))) (z0s L k i) (kwL (z01 L (z00 L (z00 L k)) 18)) k8
   refine⟨L,⟨hk2,by omega,by omega⟩,λp h=>h,by omega,by omega,⟨sl++fdP (kwL (z01 L (z00 L (z00 L k)) 18)) L (z00 L (z00 L (z00 L k))) (z0s L k i),ol,?_,rfl,by omega,by omega,z9r (z05 hk2),?_,inv⟩,by omega⟩
   ·rw[z06,q9l]
   ·rw[z06,List.length_append];omega
 ·have e0:(z01 L n (m+1)- i).toNat=0:=by omega
  rw[e0,bdF]at inv
  have b1:bdP L n m=bdJ sl ol:=by unfold bdP;rw[←inv]
  have b2:bdN L n m=k:=by unfold bdN;rw[←inv]
  rw[b1,b2]
  simp only[sbS,Int.toNat_natCast,exists_const,ByteArray.size_append,q0f,List.length_cons,List.length_nil]
  have hz:mkS (flat ol)=mkS []↔flat ol=[]:=⟨λh=>by
   have:=congrArg ByteArray.size h
   rw[q0f,q0f]at this
   exact List.eq_nil_of_length_eq_zero this,λh=>by rw[h]⟩
  refine⟨λh=>⟨by omega,by omega,by omega,?_⟩,λh=> ?_⟩
  ·rw[bdJ,if_neg (λe=>h (hz.2 e))]
   simp only[flat,z06,q9l,List.cons_append,List.nil_append,List.append_assoc,List.append_nil]
  ·rw[bdJ,if_pos (hz.1 h)]
end
section
def z30{L:List Int}:∀(f:Nat) (i n:Int) (s o:List Pc),(flat (bdF L f i n s o).1).length+(flat (bdF L f i n s o).2.1).length<=(flat s).length+(flat o).length+80*f
  |0,i,n,s,o=>by rw[bdF];simp
  | f +1,i,n,s,o=>by
    have k8:=z36 (z01 L (z00 L (z00 L n)) 18)
    rw[bdF]
    split
    · have:=z30 (L:=L) f (i+1) (z00 L (z00 L (z00 L n))) s (o++qk6 (kwL (z01 L (z00 L (z00 L n)) 18)) (z0s L n i))
      have l1:=(z43 (kwL (z01 L (z00 L (z00 L n)) 18)) (z0s L n i) k8).1
      rw[z06 o,List.length_append]at this;omega
    · have:=z30 (L:=L) f (i+1) (fdN L (z00 L (z00 L (z00 L n)))) (s++fdP (kwL (z01 L (z00 L (z00 L n)) 18)) L (z00 L (z00 L (z00 L n))) (z0s L n i)) o
      have l1:=z5l L (z00 L (z00 L (z00 L n))) (z0s L n i) (kwL (z01 L (z00 L (z00 L n)) 18)) k8
      rw[z06 s,List.length_append]at this;omega
variable {L:List Int}
def z1u(hL:z11 L) (n:Int) {m:Int} (h:0<=m) (h9:m<10):(flat (bdP L n m)).length<=1000:=by
 have r:=z0n (n:=n) (m:=m+1) hL (by omega)
 have b:=z30 (L:=L) (z01 L n (m+1)).toNat 0 (z00 L n) [] []
 simp only[flat,List.length_nil]at b
 unfold bdP bdS bdJ
 split
 ·omega
 ·rw[z06,List.length_append]
  simp only[flat,z06,List.length_append,List.length_cons,List.length_nil];omega
def z56{L:List Int}:∀(f:Nat) (i n:Int) (s o:List Pc),z04 L n->z04 L (bdF L f i n s o).2.2
  |0,i,n,s,o,h=>by rw[bdF];exact h
  | f+1,i,n,s,o,h=>by
    rw[bdF]
    split
    · exact z56 f _ _ _ _ (z05 (z05 (z05 h)))
    · exact z56 f _ _ _ _ (z9r (z05 (z05 (z05 h))))
def zci{n:Int} (h:z04 L n) (m:Int):z04 L (bdN L n m):=z56 _ _ _ _ _ (z05 h)
def z6g(L:List Int) (n:Int):flat (z1g L n)=flat hdP++(flat (bdP L n 4)++(flat miP++(flat (bdP L (bdN L n 4) 7)++[125,10]))):=by
 unfold z1g
 simp only[z06];rfl
def hdB:List Nat:=[115,121,110,116,97,120,32,61,32,34,112,114,111,116,111,51,34,59,10,112,97,99,107,97,103,101,32,97,59,10,101,110,117,109,32,69,32,123,32,65,32,61,32,48,59,32,66,32,61,32,49,59,32,67,32,61,32,45,49,59,32,125,10,109,101,115,115,97,103,101,32,73,32,123,10]
def z5n:flat hdP=hdB:=by decide
def zao:hdB.length=75:=rfl
def z5t:flat miP=[125,10,109,101,115,115,97,103,101,32,77,32,123,10]:=by decide
def zgz:q7a P 14 cTx:=by
 refine qk0 mixed (qda (qgx zgl qjn)) (W:=λ_=>{}) Try.func14 (by kernel_rfl) (by decide) (by decide) (λs=>by kernel_rfl) λ⟨(x:SV),(L:List Int),(n:Int)⟩=>(zgy x L n).mpr ?_
 intro hp hq
 have sH:(mkS [115,121,110,116,97,120,32,61,32,34,112,114,111,116,111,51,34,59,10,112,97,99,107,97,103,101,32,97,59,10,101,110,117,109,32,69,32,123,32,65,32,61,32,48,59,32,66,32,61,32,49,59,32,67,32,61,32,45,49,59,32,125,10,109,101,115,115,97,103,101,32,73,32,123,10]).size=75:=rfl
 generalize hH:mkS [115,121,110,116,97,120,32,61,32,34,112,114,111,116,111,51,34,59,10,112,97,99,107,97,103,101,32,97,59,10,101,110,117,109,32,69,32,123,32,65,32,61,32,48,59,32,66,32,61,32,49,59,32,67,32,61,32,45,49,59,32,125,10,109,101,115,115,97,103,101,32,73,32,123,10]=H at sH⊢
 have sM:(mkS [125,10,109,101,115,115,97,103,101,32,77,32,123,10]).size=14:=rfl
 have sC:(mkS [125,10]).size=2:=rfl
 have hz1:(mkS (flat (bdP L n 4))).size=_:=q0f _
 have hz2:(mkS (flat (bdP L (bdN L n 4) 7))).size=_:=q0f _
 have l1:=z1u hp.2.2 n (m:=4) (by omega) (by omega)
 have l2:=z1u hp.2.2 (bdN L n 4) (m:=7) (by omega) (by omega)
 simp only[sbS,Int.toNat_natCast,exists_const,ByteArray.size_append,sH,sM,sC]
 refine⟨L,⟨hp,by decide,by decide⟩,λp h=>h,by omega,by omega,L,⟨zci hp 4,by decide,by decide⟩,λp h=>h,by omega,by omega,?_,rfl⟩
 have hH2:H=mkS hdB:=hH.symm
 rw[z6g,z5n,z5t,hH2]
 simp only[q9l,List.append_assoc]
def zaz:q7a P 13 zaj:=by
 refine qk0 mixed z08 (W:=λ_=>{}) Try.func13 (by kernel_rfl) (by decide) (by decide) (λs=>by kernel_rfl) λ(x:SV)=>(zay x).mpr ?_
 exactλ_=>⟨rfl,rfl,rfl,rfl,trivial⟩
def zdk(hL:z11 L) (n:Int):0<(flat (z1g L n)).length/\(flat (z1g L n)).length<=2200:=by
 have l1:=z1u hL n (m:=4) (by omega) (by omega)
 have l2:=z1u hL (bdN L n 4) (m:=7) (by omega) (by omega)
 rw[z6g,z5n,z5t]
 simp only[List.length_append,zao,List.length_cons,List.length_nil];omega
def z6d(s:ByteArray) (k b:Nat):ByteArray:=⟨(s.data.toList.set k (UInt8.ofNat b)).toArray⟩
def z4t(s:ByteArray) (k b:Nat) (hb:b<256):q16 (z6d s k b)=(q16 s).set k (.int .u8 (b:Nat)):=by
 unfold q16 z6d
 simp only[List.map_set]
 congr 1
 simp[Nat.mod_eq_of_lt hb]
def z6e(s:ByteArray) (k b:Nat):(z6d s k b).size=s.size:=by
 show(s.data.toList.set k (UInt8.ofNat b)).toArray.size=s.data.size
 rw[List.size_toArray,List.length_set,Array.length_toList]
def zh3:q7a P 4 cWM:=by
 refine qk0 mixed (qda (qgx z7j (qgx zaz (qgx zgz (qgx z9u (qgx zau (qgx zb4 qjn))))))) (W:=λ_=>{}) Try.func4 (by kernel_rfl) (by decide) (by decide) (λs=>by kernel_rfl) λ⟨(x:SV),(L:List Int),(a:Int),(b:Int)⟩=>(zh2 x L a b).mpr ?_
 rintro⟨h1,h2,⟨a0,a1⟩,b0,b1⟩ ⟨p,_,hp,hg⟩
 have hx:x.2.1=L.length:=hp.1
 simp only[sbS,Int.toNat_natCast,exists_const,hx]
 refine⟨λp h=>h.2,λ_ h3=> ?_⟩
 have hL:z11 L:=⟨by omega,h2⟩
 have tl:=zdk hL 0
 have hz:(mkS (flat (z1g L 0))).size=(flat (z1g L 0)).length:=q0f _
 have tm:Int.tmod a ((mkS (flat (z1g L 0))).size:Int)=a % ((mkS (flat (z1g L 0))).size:Int):=Int.tmod_eq_emod_of_nonneg a0
 have e0:=Int.emod_nonneg a (b:=((mkS (flat (z1g L 0))).size:Int)) (by omega)
 have e1:=Int.emod_lt_of_pos a (b:=((mkS (flat (z1g L 0))).size:Int)) (by omega)
 rw[←tm]at e0 e1
 obtain⟨b,rfl⟩:=Int.eq_ofNat_of_zero_le b0
 have sub:qgs (spl (q16 (mkS (flat (z1g L 0)))) (0+(Int.tmod a ((mkS (flat (z1g L 0))).size:Int)).toNat*1) [Value.int .u8 b]) 0 (q16 (z6d (mkS (flat (z1g L 0))) (0+(Int.tmod a ((mkS (flat (z1g L 0))).size:Int)).toNat*1) b)):=λj v hj=>by
  rw[z4t _ _ _ (by omega)]at hj
  rw[Nat.zero_add j];exact hj
 have ts:=z6e (mkS (flat (z1g L 0))) (0+(Int.tmod a ((mkS (flat (z1g L 0))).size:Int)).toNat*1) b
 have ll:=zax (z6d (mkS (flat (z1g L 0))) (0+(Int.tmod a ((mkS (flat (z1g L 0))).size:Int)).toNat*1) b)
 refine⟨(x.1,L.length,x.2.2),rfl,rfl,rfl,L,⟨by decide,by omega,hL⟩,λp h=>⟨rfl,?_⟩,by omega,by omega,⟨e0,e1⟩,?_,_,ts,sub,by omega,λp h=>h.2,λ_ _ a n c hq=>⟨_,ts,sub,by omega,λ_ _ a2 n2 c2 hr=>⟨λ_=>⟨λ_=>⟨⟨_,_,(a,n,c),(a2,n2,c2)⟩,rfl,rfl,rfl,rfl,rfl,rfl,⟨?_,?_⟩,λp h=>⟨h.1.2,h.2⟩,?_⟩,λh=>absurd rfl h⟩,λh=>absurd rfl h⟩⟩⟩
 ·have e:=h.1.2
  rw[hx]at e;exact e
 ·rw[q2w];show _+1<=_;omega
 ·show(lxR _).1.length<_;omega
 ·show(lxR _).1.length<_;omega
 ·simp
end
section
abbrev zgv(w:World):Pub:=q11 (λ_ b=>b<w.heap.size) w
variable {w:World}
def z3v{a:Addr} {v:Value} (h:w.cell? a=some v):q5o (zgv w) a=some v/\a.spot=none:=by
  unfold World.cell? at h
  cases ho:w.heap[a.block]? with
  |none=>rw[ho]at h;cases h
  | some o=>
    have hlt:a.block<w.heap.size:=(Array.getElem?_eq_some_iff.1 ho).1
    have hp:zgv w a.block=some o:=q02.2 ⟨hlt,ho⟩
    rw[ho]at h
    unfold q5o
    rw[hp]
    cases o<;>simp only at h<;>first|cases h|skip
    cases hs:a.spot with
    |none=>rw[hs]at h;simp[qb0,hs]at h⊢;exact h
    |some k=>rw[hs]at h;simp at h
def zce(w:World) (a:Option Addr) (len cap:Nat) (z:List Int):Prop:=(a=none/\len=0/\cap=0/\z=[])\/∃x,a=some x/\len<=cap/\cap<=maxLen/\z.length=cap/\(∀i,i<z.length->w.cell? (x.add i)=some (.int .u8 (z.getD i 0)))/\∀n∈z,(Lit.int .u8 n).wf=true
def z2t:∀L:List Int,(z4n L).length=L.length
 | []=>rfl
 |b::L=>by rw[z4n,List.length_cons,List.length_cons,z2t L]
def zd5{a:Option Addr} {len cap:Nat} {z:List Int} (h:zce w a len cap z):∃L:List Int,byP (a,len,cap) L (zgv w)/\L.length<9223372036854775808/\∀b∈L,0<=b/\b<256:=by
 rcases h with⟨rfl,rfl,rfl,rfl⟩|⟨x,rfl,hl,hm,hz,hc,hw⟩
 ·exact⟨[],⟨rfl,Nat.le_refl _, .inl ⟨rfl,z0a⟩⟩,by simp,λb hb=>by cases hb⟩
 have hlen:(z.take len).length=len:=by rw[List.length_take];omega
 have hat:∀(i:Nat) (hi:i<(z.take len).length),w.cell? (x.add i)=some (.int .u8 (z.take len)[i]):=λi hi=>by
  have hiz:i<z.length:=by omega
  have:=hc i hiz
  rw[List.getD_eq_getElem?_getD,List.getElem?_eq_getElem hiz]at this
  simpa using this
 refine⟨z.take len,⟨hlen.symm,hl,?_⟩,by unfold maxLen at hm;omega,λb hb=> ?_⟩
 ·by_cases h0:z.take len=[]
  ·rw[h0];exact .inl ⟨rfl,trivial⟩
  ·have hpos:0<(z.take len).length:=List.length_pos_iff.2 h0
   have e0:x.add 0=x:=by unfold Addr.add;rw[if_pos rfl]
   have hp0:=z3v (hat 0 hpos)
   rw[e0]at hp0
   refine .inr ⟨x,rfl,hp0.2,λj v hj=> ?_⟩
   have hjl:j<(z.take len).length:=by
    have:=(List.getElem?_eq_some_iff.1 hj).1
    rw[z2t]at this;exact this
   rw[z1b _ hjl]at hj
   rw[(z3v (hat j hjl)).1,←hj]
 ·have hw:=hw b (List.mem_of_mem_take hb)
  simp only[Lit.wf,Bool.and_eq_true,decide_eq_true_eq]at hw
  have h1:IntKind.min .u8=0:=by decide
  have h2:IntKind.max .u8=255:=by decide
  omega
def wf_u8{n:Int} (h:(Lit.int .u8 n).wf=true):0<=n/\n<256:=by
 simp only[Lit.wf,Bool.and_eq_true,decide_eq_true_eq]at h
 have h1:IntKind.min .u8=0:=by decide
 have h2:IntKind.max .u8=255:=by decide
 omega
def wf_u16{n:Int} (h:(Lit.int .u16 n).wf=true):0<=n/\n<65536:=by
 simp only[Lit.wf,Bool.and_eq_true,decide_eq_true_eq]at h
 have h1:IntKind.min .u16=0:=by decide
 have h2:IntKind.max .u16=65535:=by decide
 omega
def wm_law_wf(a0:Option Addr) (len0 cap0:Nat) (z0:List Int) (a1 a2:Int) (w:World) (w0:zce w a0 len0 cap0 z0) (w1:(Lit.int .u16 a1).wf=true) (w2:(Lit.int .u8 a2).wf=true) (hl:Laid w):Calls P 4 #[.slice a0 len0 cap0, .int .u16 a1, .int .u8 a2] w λe w'=>e= .returned (.bool true)/\Below w.heap.size w w':=by
 obtain⟨L,hx,hL⟩:=zd5 w0
 exact zcu zh3 ⟨(a0,len0,cap0),L,a1,a2⟩ [.slice a0 len0 cap0, .int .u16 a1, .int .u8 a2] rfl rfl (.bool true) rfl w ⟨hL.1,hL.2,wf_u16 w1,wf_u8 w2⟩ ⟨hx,zgq hl⟩
end
end
end Go.Proofs.Ytjjambbdkbpdgaa.Wd
