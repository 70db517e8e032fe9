/-
  What the functions do: contracts, and their questions answered. No condition but what its theorems ask.
-/
import Derived.Test.YtjjambbdkbpdgaaU6
import Derived.Test.YtjjambbdkbpdgaaProg
import Derived.Laws.BitsAllLaws
import Derived.Lib.Index
import Derived.Test.YtjjambbdkbpdgaaSh
namespace Go.Proofs.Ytjjambbdkbpdgaa.Wd
open Go.Proofs.Ytjjambbdkbpdgaa.Eng Go.Proofs.Ytjjambbdkbpdgaa.Sen Go.RowKit
set_option linter.defProp false
set_option linter.unusedVariables false
set_option linter.unusedSimpArgs false
set_option maxRecDepth 1000000
open Go.Value (int string slice bool)
open Go.IntKind (i64 u64 u8 u32 i32)
open _root_.List (length take drop)
open _root_.ByteArray (size)
open _root_.Int (toNat)
noncomputable section
abbrev P:=Try.prog
def mixed:P.follows .mixedOrders=true:=by decide+kernel
theorem aok{calls:Nat->Option Ct} (hc:∀g C,calls g=some C->q7a P g C) {f:Nat} {fn:Func} {C:Ct} {W:C.σ->WayF} (hfn:P.funcs[f]? =some fn) (hv:∀s,qjz P calls fn C W s) (hb:q8l P f fn=true:=by kernel_rfl) (h1:1<=C.m:=by exact Nat.le_of_ble_eq_true rfl) (hle:C.m<=C.m':=by exact Nat.le_of_ble_eq_true rfl) (hn:∀s,Nat.ble (C.args s).length fn.ntmps=true:=by exactλ_=>by kernel_rfl):q7a P f C:=qk0 mixed hc hfn hb h1 hle hn hv
theorem sbS:(∀(p:Prop) [Decidable p],(decide p=true)=p)/\(∀(p:Prop) [Decidable p],(decide p=false)=¬p)/\(∀b:Bool,((!b)=true)=(b=false))/\(∀b:Bool,((!b)=false)=(b=true))/\(∀p,(True/\p)=p)/\(∀p,(p/\True)=p)/\(∀(α:Type) (a:α),(a=a)=True)/\(∀p:Prop,(p->p)=True)/\(∀α:Type,(α->True)=True)/\(∀p:Prop,(p->True)=True):=⟨λ_ _=>by simp,λ_ _=>by simp,by simp,by simp,by simp,by simp,by simp,by simp,by simp,by simp⟩
abbrev Jb(a:Int):Prop:=(-9223372036854775808:Int)<=a/\a<=9223372036854775807
abbrev Jt(p:Prop) [Decidable p]:Prop:=decide p=true
abbrev Jf(p:Prop) [Decidable p]:Prop:=decide p=false
abbrev Ji(p:Prop) [Decidable p] (a b:Prop):Prop:=(Jt p->a)/\(Jf p->b)
def isLet(c:Nat):Bool:=(c==95)|| (decide (65<=c)&&decide (c<=90))|| (decide (97<=c)&&decide (c<=122))
def z02(c:Nat):Bool:=decide (48<=c)&&decide (c<=57)
def z2i(c:Nat):Bool:=(decide (9<=c)&&decide (c<=13))|| (c==32)
def dv(c:Nat):Nat:=if 48<=c/\c<=57 then c- 48 else if 65<=c/\c<=70 then c- 55 else if 97<=c/\c<=102 then c- 87 else 16
def nmC(s:ByteArray) (j:Nat):Bool:=isLet (bat s j)||z02 (bat s j)|| ((bat s j==46)&&isLet (bat s (j+1)))
def nmF(s:ByteArray):Nat->Nat->Nat
 |0,j=>j
 |f+1,j=>if nmC s j then nmF s f (j+1)else j
def nmE(s:ByteArray) (j:Nat):Nat:=nmF s (s.size- j) j
def dgF(s:ByteArray) (B:Nat):Nat->Nat->Nat->Nat×Nat
 |0,j,v=>(j,v)
 |f+1,j,v=>if dv (bat s j)<B then dgF s B f (j+1) (v*B+dv (bat s j))else(j,v)
def dgE(s:ByteArray) (B j v:Nat):Nat×Nat:=dgF s B (s.size- j) j v
def nbB(s:ByteArray) (i:Nat):Nat:=if bat s i=48 then(if dv (bat s (i+2))<16/\(bat s (i+1)=120\/bat s (i+1)=88)then 16 else 8)else 10
def nbO(s:ByteArray) (i:Nat):Nat:=if bat s i=48 then(if dv (bat s (i+2))<16/\(bat s (i+1)=120\/bat s (i+1)=88)then 2 else 1)else 0
def nbR(s:ByteArray) (i:Nat):Nat×Nat×Nat:=
 let r:=dgE s (nbB s i) (i+nbO s i) 0
 if 18446744073709551616<=r.2 then(3,0,i)else
 if isLet (bat s r.1)||z02 (bat s r.1)|| (bat s r.1==46)then(2,0,i)else(0,r.2,r.1)
def esc(c:Nat):Option Nat:=if c=92\/c=34\/c=39 then some c else if c=110 then some 10 else none
def txF (s:ByteArray) (q:Nat):Nat->Nat->List Nat->Option (List Nat×Nat)
  |0,_,_=>none
  | f + 1,j,acc=>if j<s.size then
      if bat s j=q then some (acc,j+1)else if bat s j=10 then none else if bat s j=92 then
        match esc (bat s (j+1))with
        |some c=>txF s q f (j+2) (acc++[c])
        |none=>none
      else txF s q f (j+1) (acc++[bat s j])
    else none
def txE(s:ByteArray) (q j:Nat) (acc:List Nat):Option (List Nat×Nat):=txF s q (s.size+1- j) j acc
def bs(l:List Nat):ByteArray:=⟨⟨l.map UInt8.ofNat⟩⟩
def zcs(k:Nat) (t:ByteArray) (n a:Nat):AV:= .agg [.sv (.int .i64 (k:Nat)), .sv (.string t), .sv (.int .u64 (n:Nat)), .sv (.int .i64 (a:Nat))]
def cur(s:ByteArray) (i:Int):List (Nat×AO):=[(1, .cells 46 (some 0) false [.sv (.string s), .sv (.int .i64 i)])]
def z4h(h:T AO) (id:Nat):Option (ByteArray×Int):=match h.get id with
  | some (.cells _ _ _ [a,b])=>match gs a with
    | some s=>match gi b with
      |some (_,i)=>some (s,i)
      |none=>none
    |none=>none
  |_=>none
def z0x:Ct where
  σ:=ByteArray×Int×Int
  args:=λ⟨s,i,d⟩=>[.ptr 1 0, .sv (.int .i64 d)]
  h:=λ⟨s,i,d⟩=>cur s i
  m:=2
  pre:=λ⟨s,i,d⟩=>0<=i/\i<=s.size/\s.size<1000000/\0<=d/\d<1000000
  find:=some λl h=>match l with
    | [.ptr id _,a]=>match gi a with
      | some (_,d)=>match z4h h id with
        |some (s,i)=>some (s,i,d)
        |none=>none
      |none=>none
    |_=>none
  r:=λ⟨s,i,d⟩=> .sv (.int .u8 (bat s (i+d).toNat:Nat))
  h':=λ⟨s,i,d⟩=>cur s i
  m':=2
  g:=λ_=>none
def z4g(pre:ByteArray->Int->Prop) (r:ByteArray->Int->AV) (to:ByteArray->Int->Int):Ct where
 σ:=ByteArray×Int
 args:=λ⟨s,i⟩=>[.ptr 1 0]
 h:=λ⟨s,i⟩=>cur s i
 m:=2
 pre:=λ⟨s,i⟩=>pre s i
 find:=some λl h=>match l with
  | [.ptr id _]=>z4h h id
  |_=>none
 r:=λ⟨s,i⟩=>r s i
 h':=λ⟨s,i⟩=>cur s (to s i)
 m':=2
 g:=λ_=>none
def z8h:Ct:=z4g (λs i=>0<=i/\i<=s.size) (λs i=> .sv (.string (s.extract i.toNat s.size))) λs i=>i
def z0k(s p:ByteArray):Bool:=decide (p.size<=s.size)&&decide (s.extract 0 p.size=p)
def f1s:List Value->Option ByteArray
 | [.string s]=>some s
 |_=>none
def f2s:List Value->Option (ByteArray×ByteArray)
 | [.string s, .string p]=>some (s,p)
 |_=>none
def fsi:List Value->Option (ByteArray×Int)
 | [.string s, .int _ c]=>some (s,c)
 |_=>none
def f1i:List Value->Option Int
 | [.int _ c]=>some c
 |_=>none
def f2i:List Value->Option (Int×Int)
 | [.int _ c, .int _ d]=>some (c,d)
 |_=>none
def z0d:Ct:=ctS (ByteArray×ByteArray) (λ⟨s,p⟩=>[.string s, .string p]) f2s (λ_=>True) (λ_=>{}) λ⟨s,p⟩=> .sv (.bool (z0k s p))
def z16:Ct:=ctS (ByteArray×Int) (λ⟨s,c⟩=>[.string s, .int .u8 c]) fsi (λ⟨s,c⟩=>0<=c/\c<256) (λ_=>{}) λ⟨s,c⟩=> .sv (.int .i64 (Lib.indexByte s.data.toList (UInt8.ofNat c.toNat)))
def hG:PF:=⟨true,λp=>∃m:Int,q5o p ⟨0,0,none⟩=some (.int .i64 m),λ_ _ h e=>e.imp λ_ e=>q9h h e⟩
def z7o:Ct:=ctS (ByteArray×ByteArray) (λ⟨s,p⟩=>[.string s, .string p]) f2s (λ⟨s,c⟩=>s.size<4294967281) (λ_=>hG) λ⟨s,p⟩=> .sv (.int .i64 (Lib.index s.data.toList p.data.toList))
def z1l:Ct:=ctS Int (λc=>[.int .u8 c]) f1i (λc=>0<=c/\c<256) (λ_=>{}) λc=> .sv (.bool (isLet c.toNat))
def z1v:Ct:=ctS Int (λc=>[.int .u8 c]) f1i (λc=>0<=c/\c<256) (λ_=>{}) λc=> .sv (.bool (z02 c.toNat))
def z4d:Ct:=ctS (Int×Int) (λ⟨c,B⟩=>[.int .u8 c, .int .u64 B]) f2i (λ⟨c,B⟩=>(0<=c/\c<256)/\0<=B/\B<=16) (λ_=>{}) λ⟨c,B⟩=> .tup [.sv (.int .u64 (dv c.toNat:Nat)), .sv (.bool (decide (dv c.toNat<B)))]
def z20:Ct:=ctS Int (λc=>[.int .u8 c]) f1i (λc=>0<=c/\c<256) (λ_=>{}) λc=> .tup [.sv (.int .u8 ((esc c.toNat).getD 0:Nat)), .sv (.bool (esc c.toNat).isSome)]
def z5z:Ct:=z4g (λs i=>0<=i/\i<s.size/\s.size<100000) (λs i=>zcs 1 (s.extract i.toNat (nmE s (i.toNat+1))) 0 i.toNat) λs i=>nmE s (i.toNat+1)
def zax:Nat->Option Ct:=qfl [(20,z0x),(25,z1l),(27,z1v)]
def z9v(s:ByteArray) (pre:Int->Prop) (keep:List Nat):LT:={σ:=Int,pre:=pre,find:=some λ_ h=>match z4h h 1 with|some (_,j)=>some j|none=>none,t:=λ_=>[],h:=λj=>cur s j,more:=0,μ:=λj=>s.size- j.toNat,keep:=keep}
def zb9:z5z.σ->WayF:=λ⟨s,i⟩=>{ann:=λ_ _ _=>some (z9v s (λj=>i<j/\j<=s.size/\nmE s j.toNat=nmE s (i.toNat+1)) [0,2,3])}
section
def z0l:∀g C,(λ_=>none:Nat->Option Ct) g=some C->q7a P g C:=λg C h=>by cases h
def z0h(s:ByteArray) (j:Nat):bat s j<256:=by unfold bat;exact UInt8.toNat_lt _
variable {s:ByteArray} {j:Nat}
def z0o(h:s.size<=j):bat s j=0:=by
 unfold bat
 rw[getElem?_neg s j (by omega)];rfl
def z1k(h:j<s.size):bat s j=s[j].toNat:=by
 unfold bat
 rw[getElem?_pos s j h];rfl
def z4b(s:ByteArray) (i d:Int):qjz P ((λ_=>none)) Try.f20 z0x (λ_=>{}) ⟨s,i,d⟩=((0:Int)<=i/\i<=(↑(size s):Int)/\size s<(1000000:Nat)/\(0:Int)<=d/\d<(1000000:Int)->((-9223372036854775808:Int)<=i+d/\i+d<=(9223372036854775807:Int))/\(decide (i+d<(↑(size s):Int))=true->((-9223372036854775808:Int)<=i+d/\i+d<=(9223372036854775807:Int))/\((0:Int)<=i+d/\i+d<(↑(size s):Int))/\(↑(bat s (toNat (i+d))):Int)=(↑(bat s (toNat (i+d))):Int)/\s=s/\i=i/\True)/\(decide (i+d<(↑(size s):Int))=false->(↑(bat s (toNat (i+d))):Int)=(0:Int)/\s=s/\i=i/\True)):=by kernel_rfl
def z0q:q7a P 20 z0x:=by
 refine qk0 mixed z0l (W:=λ_=>{}) Try.func20 (by kernel_rfl) (by decide) (by decide) (λ⟨s,i,d⟩=>by kernel_rfl) λ⟨s,i,d⟩=>(z4b s i d).mpr ?_
 simp only[decide_eq_true_eq,decide_eq_false_iff_not,and_true,true_and]
 intro h
 refine⟨by omega,λh4=>by omega,λh4=> ?_⟩
 rw[z0o (by omega)];rfl
def z8q(s:ByteArray) (i:Int):qjz P ((λ_=>none)) Try.f22 z8h (λ_=>{}) ⟨s,i⟩=((0:Int)<=i/\i<=(↑(ByteArray.size s):Int)->((0:Int)<=i/\i<=(↑(ByteArray.size s):Int))/\ByteArray.extract s (Int.toNat i) (ByteArray.size s)=ByteArray.extract s (Int.toNat i) (ByteArray.size s)/\s=s/\i=i/\True):=by kernel_rfl
def z8r:q7a P 22 z8h:=by
 refine qk0 mixed z0l (W:=λ_=>{}) Try.func22 (by kernel_rfl) (by decide) (by decide) (λ⟨s,i⟩=>by kernel_rfl) λ⟨s,i⟩=>(z8q s i).mpr ?_
 intro h
 exact⟨h,rfl,rfl,rfl,trivial⟩
def z4s(c:Int):qjz P ((λ_=>none)) Try.f25 z1l (λ_=>{}) c=((0:Int)<=c/\c<(256:Int)->(decide (c=(95:Int))=true->isLet (toNat c)=true/\True)/\(decide (c=(95:Int))=false->(decide ((97:Int)<=qaw BinOp.or u8 c (32:Int))=true->isLet (toNat c)=decide (qaw BinOp.or u8 c (32:Int)<=(122:Int))/\True)/\(decide ((97:Int)<=qaw BinOp.or u8 c (32:Int))=false->isLet (toNat c)=false/\True))):=by kernel_rfl
def z1n:q7a P 25 z1l:=by
 refine qk0 mixed z0l (W:=λ_=>{}) Try.func25 (by kernel_rfl) (by decide) (by decide) (λc=>by kernel_rfl) λ(c:Int)=>(z4s c).mpr ?_
 rintro⟨h1,h2⟩
 obtain⟨n,rfl⟩:=Int.eq_ofNat_of_zero_le h1
 have hn:n<256:=by omega
 clear h1 h2
 revert n
 decide+kernel
def z62(c:Int):qjz P ((λ_=>none)) Try.f27 z1v (λ_=>{}) c=((0:Int)<=c/\c<(256:Int)->(decide ((48:Int)<=c)=true->z02 (Int.toNat c)=decide (c<=(57:Int))/\True)/\(decide ((48:Int)<=c)=false->z02 (Int.toNat c)=false/\True)):=by kernel_rfl
def z1d:q7a P 27 z1v:=by
 refine qk0 mixed z0l (W:=λ_=>{}) Try.func27 (by kernel_rfl) (by decide) (by decide) (λc=>by kernel_rfl) λ(c:Int)=>(z62 c).mpr ?_
 rintro⟨h1,h2⟩
 obtain⟨n,rfl⟩:=Int.eq_ofNat_of_zero_le h1
 have hn:n<256:=by omega
 clear h1 h2
 revert n
 decide+kernel
def z6h:∀g C,zax g=some C->q7a P g C:=qda (qgx z0q (qgx z1n (qgx z1d qjn)))
def z4v(h:s.size<=j):nmC s j=false:=by
 unfold nmC
 rw[z0o h]
 rfl
def z1f(s:ByteArray) (j:Nat) (h:j<=s.size):nmE s j=if nmC s j=true then nmE s (j+1)else j:=by
  unfold nmE
  cases hj:s.size- j with
  | zero=>
    rw[z4v (by omega)];simp[nmF]
  | succ f=>
    rw[show s.size- (j+1)=f by omega]
    simp[nmF]
section
variable (x0:Int) (x1:ByteArray) (x2:Int) (x3:Prop)
 abbrev zdp:=Jb (x0+1)
 def zcv:=x2=x2/\x1=x1/\x0=x0/\(0<=x0/\x0<=(↑(size x1):Int)/\size x1<1000000/\0<=x2/\x2<1000000)/\(↑(bat x1 (toNat (x0+x2))):Int)=(↑(bat x1 (toNat (x0+x2))):Int)/\(0<=(↑(bat x1 (toNat (x0+x2))):Int)/\(↑(bat x1 (toNat (x0+x2))):Int)<256)/\x3
 abbrev z8b:=(↑(bat x1 (toNat (x0+x2))):Int)
 def zcu:=zdp x0/\x2=x2/\x1=x1/\x0+1=x0+1/\(x2<x0+1/\x0+1<=(↑(size x1):Int)/\nmE x1 (toNat (x0+1))=nmE x1 (toNat x2+1))/\size x1- toNat (x0+1)<size x1- toNat x0/\True
 def zdo:=(0<=x0/\x0<=x2/\x2<=(↑(size x1):Int))/\(↑(1:Nat):Int)=1/\ByteArray.extract x1 (toNat x0) (nmE x1 (toNat x0+1))=ByteArray.extract x1 (toNat x0) (toNat x2)/\(↑(0:Nat):Int)=0/\(↑(toNat x0):Int)=x0/\x1=x1/\Int.ofNat (nmE x1 (toNat x0+1))=x2/\True
 def ze7:=(0:Int)=0/\x1=x1/\x0=x0/\(0<=x0/\x0<=(↑(size x1):Int)/\size x1<1000000/\(0:Int)<=0/\(0:Int)<1000000)/\Ji ((z8b x0 x1 0)=46) (zcv x0 x1 1 ((isLet (toNat (z8b x0 x1 1))=true->zcu x0 x1 x2)/\(isLet (toNat (z8b x0 x1 1))=false->zdo x2 x1 x0))) (zdo x2 x1 x0)
 def ze6:=zcv x0 x1 0 ((z02 (toNat (z8b x0 x1 0))=true->zcu x0 x1 x2)/\(z02 (toNat (z8b x0 x1 0))=false->ze7 x0 x1 x2))
 def ze5:=zcv x0 x1 0 ((isLet (toNat (z8b x0 x1 0))=true->zcu x0 x1 x2)/\(isLet (toNat (z8b x0 x1 0))=false->ze6 x0 x1 x2))
 def ze4:=zdp x0/\(x0=x0/\x1=x1/\x0+1=x0+1/\(x0<x0+1/\x0+1<=(↑(size x1):Int)/\nmE x1 (toNat (x0+1))=nmE x1 (toNat x0+1))/\True)/\∀(i0:Int),x0<i0/\i0<=(↑(size x1):Int)/\nmE x1 (toNat i0)=nmE x1 (toNat x0+1)->ze5 i0 x1 x0
end
def z6a(s:ByteArray) (i:Int):qjz P (zax) Try.f26 z5z (zb9) ⟨s,i⟩=(0<=i/\i<(↑(size s):Int)/\size s<100000->ze4 i s):=by kernel_rfl
def z8w:=λs i=>Eq.trans (z6a s i) (by delta Ji Jb Jt Jf zdp zcv z8b zcu zdo ze7 ze6 ze5 ze4;exact rfl)
def z8x:q7a P 26 z5z:=by
 refine qk0 mixed z6h (W:=zb9) Try.func26 (by kernel_rfl) (by decide) (by decide) (λ⟨s,i⟩=>by kernel_rfl) λ⟨s,i⟩=>(z8w s i).mpr ?_
 simp only[decide_eq_true_eq,decide_eq_false_iff_not,and_true,true_and,Int.toNat_natCast,Int.add_zero]
 intro h
 obtain⟨n,rfl⟩:=Int.eq_ofNat_of_zero_le h.1
 refine⟨by omega,by simp;omega,λj hj=> ?_⟩
 obtain⟨m,rfl⟩:=Int.eq_ofNat_of_zero_le (show 0<=j by omega)
 have e1:((m:Int)+1).toNat=m+1:=by omega
 simp only[Int.toNat_natCast,e1]at hj⊢
 have hs:=z1f s m (by omega)
 have b1:=z0h s m
 have b2:=z0h s (m+1)
 have hin:nmC s m=true->m<s.size:=λh=>by
  rcases Nat.lt_or_ge m s.size with h1|h1
  ·exact h1
  ·rw[z4v h1]at h;cases h
 have yes:nmC s m=true->(n:Int)<(m:Int)+1/\(m:Int)+1<=s.size/\nmE s (m+1)=nmE s (n+1):=λh=>by
  rw[if_pos h]at hs
  have:=hin h
  exact⟨by omega,by omega,hs ▸ hj.2.2⟩
 have no:nmC s m=false->nmE s (n+1)=m:=λh=>by
  rw[if_neg (by rw[h];simp)]at hs
  rw[←hj.2.2,hs]
 refine⟨by omega,by omega,λa1=> ?_,λa1=>⟨by omega,by omega,λa2=> ?_,λa2=>⟨by omega,λa3=>⟨by omega,by omega,λa4=> ?_,λa4=> ?_⟩,λa3=> ?_⟩⟩⟩
 ·have y:=yes (by unfold nmC;rw[a1];rfl)
  exact⟨by omega,y,by omega⟩
 ·have y:=yes (by unfold nmC;rw[a2];simp)
  exact⟨by omega,y,by omega⟩
 ·have y:=yes (by unfold nmC;rw[a4,show bat s m=46 by omega];simp)
  exact⟨by omega,y,by omega⟩
 ·rw[no (by unfold nmC;rw[a1,a2,a4];simp)]
  exact⟨by omega,by simp⟩
 ·rw[no (by unfold nmC;rw[a1,a2];simp;intro h;exact absurd h (by omega))]
  exact⟨by omega,by simp⟩
end
def ldN(c:Nat):Nat:=if c<128 then 1 else if 192<=c/\c<224 then 2 else if 224<=c/\c<240 then 3 else if 240<=c/\c<248 then 4 else 0
def ldV(c:Nat):Nat:=if c<128 then c else if 192<=c/\c<224 then c- 192 else if 224<=c/\c<240 then c- 224 else if 240<=c/\c<248 then c- 240 else 0
def ctC(c:Nat):Bool:=decide (128<=c)&&decide (c<192)
def vlF(s:ByteArray):Nat->Option Nat
  |0=>some 0
  |1=>some (ldV (bat s 0))
  | i+2=>match vlF s (i+1)with
    |some r=>if ctC (bat s (i+1))=true then some (r*64+(bat s (i+1)- 128))else none
    |none=>none
def lnN(r:Nat):Nat:=if r<128 then 1 else if r<2048 then 2 else if r<65536 then 3 else 4
def isC(r:Nat):Bool:=decide (r<=1114111)&& !(decide (55296<=r)&&decide (r<=57343))
def frt(s:ByteArray):Nat:=if s.size<ldN (bat s 0)then 0 else match vlF s (ldN (bat s 0))with
 |none=>0
 |some r=>if ldN (bat s 0)=0\/isC r=false\/lnN r≠ldN (bat s 0)then 0 else ldN (bat s 0)
def z5d:Nat->ByteArray->Bool
 |0,_=>true
 |f+1,s=>if s.size=0 then true else if frt s=0 then false else z5d f (s.extract (frt s) s.size)
def vld(s:ByteArray):Bool:=z5d s.size s
def z8g:Ct:=ctS Int (λc=>[.int .u8 c]) f1i (λc=>0<=c/\c<256) (λ_=>{}) λc=> .tup [.sv (.int .i64 (ldN c.toNat:Nat)), .sv (.int .u32 (ldV c.toNat:Nat))]
def cIs:Ct:=ctS Int (λc=>[.int .u32 c]) f1i (λc=>0<=c/\c<4294967296) (λ_=>{}) λc=> .sv (.bool (isC c.toNat))
def z2w:Ct:=ctS Int (λc=>[.int .u32 c]) f1i (λc=>0<=c/\c<4294967296) (λ_=>{}) λc=> .sv (.int .i64 (lnN c.toNat:Nat))
def z3g:Ct:=ctS ByteArray (λs=>[.string s]) f1s (λs=>0<s.size/\s.size<1000000) (λ_=>{}) λs=> .sv (.int .i64 (frt s:Nat))
def z3j:Ct:=ctS ByteArray (λs=>[.string s]) f1s (λs=>s.size<1000000) (λ_=>{}) λs=> .sv (.bool (vld s))
def slI(t:T AV) (k:Nat):Option Int:=match t.get k with
  | some a=>match gi a with
    |some (_,n)=>some n
    |none=>none
  |none=>none
def slS(t:T AV) (k:Nat):Option ByteArray:=match t.get k with
 |some a=>gs a
 |none=>none
def z87:z3g.σ->WayF:=λs=>{ann:=λ_ _ _=>some {σ:=Int×Int,pre:=λ⟨r,i⟩=>1<=i/\(i<=ldN (bat s 0)\/i=1)/\∃q:Nat,r=q/\(ldN (bat s 0)=0\/vlF s i.toNat=some q),find:=some λt _=>match slI t 4 with|some r=>(match slI t 5 with|some i=>some (r,i)|none=>none)|none=>none,t:=λ⟨r,i⟩=>[(4, .sv (.int .u32 r)),(5, .sv (.int .i64 i))],h:=λ_=>[],more:=0,μ:=λ⟨r,i⟩=>5- i.toNat,keep:=[0,2,3]}}
def z84:Nat->Option Ct:=qfl [(58,z8g),(59,cIs),(60,z2w)]
def z8a:z3j.σ->WayF:=λs=>{ann:=λ_ _ _=>some {σ:=ByteArray,pre:=λt=>t.size<=s.size/\vld t=vld s,find:=some λt _=>slS t 0,t:=λu=>[(0, .sv (.string u))],h:=λ_=>[],more:=0,μ:=λu=>u.size,keep:=[2]}}
def zaz:Nat->Option Ct:=qfl [(55,z3g)]
def zaf(c:Nat):ldN c<=4:=by
 unfold ldN;repeat' split
 all_goals omega
def zag(c:Nat):ldV c<128:=by
 unfold ldV;repeat' split
 all_goals omega
section
variable (x0 x1 x2:Int)
 abbrev zec:=(↑(ldN (toNat x0)):Int)=1/\(↑(ldV (toNat x0)):Int)=IntKind.wrap u32 x0/\True
 abbrev zcx:=shP BinOp.shr u8 x0 x1=x2
 def zcw:=(↑(ldN (toNat x0)):Int)=x1/\(↑(ldV (toNat x0)):Int)=IntKind.wrap u32 (qaw BinOp.and u8 x0 x2)/\True
 def zed:=(↑(ldN (toNat x0)):Int)=0/\(↑(ldV (toNat x0)):Int)=0/\True
 def zeb:=(0:Int)<=3/\Ji (zcx x0 3 30) (zcw x0 4 7) (zed x0)
 def zea:=(0:Int)<=4/\Ji (zcx x0 4 14) (zcw x0 3 15) (zeb x0)
 def ze9:=(0:Int)<=5/\Ji (zcx x0 5 6) (zcw x0 2 31) (zea x0)
 def ze8:=Ji (x0<128) (zec x0) (ze9 x0)
end
def z68(c:Int):qjz P ((λ_=>none)) Try.f58 z8g (λ_=>{}) c=(0<=c/\c<256->ze8 c):=by kernel_rfl
def z8o:=λc=>Eq.trans (z68 c) (by delta Ji Jt Jf zec zcx zcw zed zeb zea ze9 ze8;exact rfl)
def zdd:∀c<256,¬c<128->(decide (shP BinOp.shr IntKind.u8 (c:Nat) 5=6)=(decide (192<=c)&&decide (c<224)))/\(decide (shP BinOp.shr IntKind.u8 (c:Nat) 4=14)=(decide (224<=c)&&decide (c<240)))/\(decide (shP BinOp.shr IntKind.u8 (c:Nat) 3=30)=(decide (240<=c)&&decide (c<248))):=by decide+kernel
def zde:∀c<256,IntKind.wrap IntKind.u32 ((c:Nat):Int)=(c:Nat)/\(192<=c->c<224->IntKind.wrap IntKind.u32 (qaw BinOp.and IntKind.u8 (c:Nat) 31)=((c- 192:Nat):Int))/\(224<=c->c<240->IntKind.wrap IntKind.u32 (qaw BinOp.and IntKind.u8 (c:Nat) 15)=((c- 224:Nat):Int))/\(240<=c->c<248->IntKind.wrap IntKind.u32 (qaw BinOp.and IntKind.u8 (c:Nat) 7)=((c- 240:Nat):Int)):=by decide+kernel
def z8p:q7a P 58 z8g:=by
 refine qk0 mixed z0l (W:=λ_=>{}) Try.func58 (by kernel_rfl) (by decide) (by decide) (λc=>by kernel_rfl) λ(c:Int)=>(z8o c).mpr ?_
 rintro⟨h1,h2⟩
 obtain⟨n,rfl⟩:=Int.eq_ofNat_of_zero_le h1
 have hn:n<256:=by omega
 obtain⟨b0,b1,b2,b3⟩:=zde n hn
 simp only[Int.toNat_natCast,and_true,decide_eq_true_eq,decide_eq_false_iff_not]
 refine⟨λh=> ?_,λh=>⟨by omega,?_⟩⟩
 ·unfold ldN ldV;rw[if_pos (by omega),if_pos (by omega),b0];simp
 have hg:¬n<128:=by omega
 obtain⟨a1,a2,a3⟩:=zdd n hn hg
 have a1:(shP BinOp.shr IntKind.u8 (n:Nat) 5=6)↔(192<=n/\n<224):=by
  rw[←decide_eq_true_iff (p:=shP BinOp.shr IntKind.u8 (n:Nat) 5=6),a1];simp
 have a2:(shP BinOp.shr IntKind.u8 (n:Nat) 4=14)↔(224<=n/\n<240):=by
  rw[←decide_eq_true_iff (p:=shP BinOp.shr IntKind.u8 (n:Nat) 4=14),a2];simp
 have a3:(shP BinOp.shr IntKind.u8 (n:Nat) 3=30)↔(240<=n/\n<248):=by
  rw[←decide_eq_true_iff (p:=shP BinOp.shr IntKind.u8 (n:Nat) 3=30),a3];simp
 rw[a1,a2,a3]
 refine⟨λg=> ?_,λg=>⟨by omega,λg2=> ?_,λg2=>⟨by omega,λg3=> ?_,λg3=> ?_⟩⟩⟩
 ·unfold ldN ldV
  rw[if_neg hg,if_pos g,if_neg hg,if_pos g,b1 g.1 g.2];simp
 ·unfold ldN ldV
  rw[if_neg hg,if_neg g,if_pos g2,if_neg hg,if_neg g,if_pos g2,b2 g2.1 g2.2];simp
 ·unfold ldN ldV
  rw[if_neg hg,if_neg g,if_neg g2,if_pos g3,if_neg hg,if_neg g,if_neg g2,if_pos g3,b3 g3.1 g3.2];simp
 ·unfold ldN ldV
  rw[if_neg hg,if_neg g,if_neg g2,if_neg g3,if_neg hg,if_neg g,if_neg g2,if_neg g3];simp
def zaa(c:Int):qjz P ((λ_=>none)) Try.f59 cIs (λ_=>{}) c=((0:Int)<=c/\c<(4294967296:Int)->(decide (c<=(1114111:Int))=true->(0:Int)<=(11:Int)/\isC (Int.toNat c)= !decide (shP BinOp.shr IntKind.u32 c (11:Int)=(27:Int))/\True)/\(decide (c<=(1114111:Int))=false->isC (Int.toNat c)=false/\True)):=by kernel_rfl
def zdb:q7a P 59 cIs:=by
 refine qk0 mixed z0l (W:=λ_=>{}) Try.func59 (by kernel_rfl) (by decide) (by decide) (λc=>by kernel_rfl) λ(c:Int)=>(zaa c).mpr ?_
 rintro⟨h1,h2⟩
 obtain⟨n,rfl⟩:=Int.eq_ofNat_of_zero_le h1
 simp only[Int.toNat_natCast,and_true,decide_eq_true_eq,decide_eq_false_iff_not,isC]
 refine⟨λh=>⟨by omega,?_⟩,λh=> ?_⟩
 ·have:shP BinOp.shr IntKind.u32 (n:Nat) 11=((n / 2048:Nat):Int):=by
   show(n:Int).fdiv (2 ^ 11)=_
   rw[Int.fdiv_eq_ediv_of_nonneg _ (by decide)];omega
  rw[this]
  by_cases g:55296<=n/\n<=57343
  ·have e:n / 2048=27:=by omega
   rw[e];simp;omega
  ·have e:n / 2048≠27:=by omega
   have e2:¬((n / 2048:Nat):Int)=27:=by omega
   rw[decide_eq_false e2]
   simp;omega
 ·rw[decide_eq_false (by omega)];rfl
def z3v(c:Int):qjz P ((λ_=>none)) Try.f60 z2w (λ_=>{}) c=((0:Int)<=c/\c<(4294967296:Int)->(decide (c<(128:Int))=true->(↑(lnN (toNat c)):Int)=(1:Int)/\True)/\(decide (c<(128:Int))=false->(decide (c<(2048:Int))=true->(↑(lnN (toNat c)):Int)=(2:Int)/\True)/\(decide (c<(2048:Int))=false->(decide (c<(65536:Int))=true->(↑(lnN (toNat c)):Int)=(3:Int)/\True)/\(decide (c<(65536:Int))=false->(↑(lnN (toNat c)):Int)=(4:Int)/\True)))):=by kernel_rfl
def z4r:q7a P 60 z2w:=by
 refine qk0 mixed z0l (W:=λ_=>{}) Try.func60 (by kernel_rfl) (by decide) (by decide) (λc=>by kernel_rfl) λ(c:Int)=>(z3v c).mpr ?_
 rintro⟨h1,h2⟩
 simp only[and_true,decide_eq_true_eq,decide_eq_false_iff_not,lnN]
 refine⟨λh=> ?_,λh=>⟨λg=> ?_,λg=>⟨λk=> ?_,λk=> ?_⟩⟩⟩
 ·rw[if_pos (by omega)];rfl
 ·rw[if_neg (by omega),if_pos (by omega)];rfl
 ·rw[if_neg (by omega),if_neg (by omega),if_pos (by omega)];rfl
 ·rw[if_neg (by omega),if_neg (by omega),if_neg (by omega)];rfl
def ct1:∀c<256,decide (shP BinOp.shr IntKind.u8 (c:Nat) 6=2)=ctC c:=by decide+kernel
def ct2:∀c<256,ctC c=true->IntKind.wrap IntKind.u32 (qaw BinOp.and IntKind.u8 (c:Nat) 63)=((c- 128:Nat):Int)/\c- 128<64:=by decide+kernel
def z5c(s:ByteArray):∀(i r:Nat),vlF s i=some r->i<=4->r<128*64 ^ (i- 1)
  |0,r,h,_=>by simp[vlF]at h;subst h;decide
  | 1,r,h,_=>by
    simp[vlF]at h
    have:=zag (bat s 0)
    rw[h]at this;simpa using this
  | i + 2,r,h,hi=>by
    simp only[vlF]at h
    split at h
    · rename_i q hq
      have ih:=z5c s (i+1) q hq (by omega)
      split at h
      · rename_i hc
        cases h
        have:=z0h s (i+1)
        simp[ctC]at hc
        have e:i+1- 1=i:=by omega
        have e2:i+2- 1=i+1:=by omega
        rw[e]at ih
        rw[e2,Nat.pow_succ]
        omega
      · cases h
    · cases h
def zgx(r d:Nat) (hr:r<67108864) (hd:d<64):qaw BinOp.or IntKind.u32 (shP BinOp.shl IntKind.u32 (r:Int) 6) (d:Int)=((r*64+d:Nat):Int):=by
 have e:shP BinOp.shl IntKind.u32 (r:Int) 6=((r*64:Nat):Int):=by
  show IntKind.u32.wrap ((r:Int)*2 ^ 6)=_
  unfold IntKind.wrap;simp[IntKind.bits,IntKind.signed];omega
 rw[e]
 have h0:=u32_or_nat (r*64) d (by omega) (by omega)
 have h1:qaw BinOp.or IntKind.u32 ((r*64:Nat):Int) (d:Int)=bits .or .u32 ((r*64:Nat):Int) (d:Int):=rfl
 rw[h1,h0]
 congr 1
 have h:=Nat.two_pow_add_eq_or_of_lt (i:=6) (b:=d) hd r
 rw[show 2 ^ 6*r=r*64 by omega]at h
 exact h.symm
def z6r(s:ByteArray) (i j:Nat) (hij:i<=j) (h1:1<=i) (h:vlF s i=none):vlF s j=none:=by
  induction j with
  |zero=>omega
  | succ j ih=>
    by_cases e:i=j+1
    · subst e;exact h
    · have:=ih (by omega)
      cases j with
      |zero=>omega
      |succ j=>simp only[vlF];rw[this]
section
variable (x0:ByteArray) (x1:Int×Int)
 abbrev z5g:=(↑(ldN (toNat (↑(bat x0 0):Int))):Int)
 def z9t:=(↑(frt x0):Int)=0/\True
 abbrev z6v:=(↑(ldV (toNat (↑(bat x0 0):Int))):Int)
 def z9f:= !decide (shP BinOp.shr u8 (↑(bat x0 (toNat x1.2)):Int) (6:Int)=2)
 abbrev z6u:=IntKind.wrap u32 (qaw BinOp.and u8 (↑(bat x0 (toNat x1.2)):Int) 63)
 def zei:=(0:Int)<=6/\(0<=x1.2/\x1.2<(↑(size x0):Int))/\Jb (x1.2+1)/\x0=x0/\(z5g x0)=(z5g x0)/\x1.2+1=x1.2+1/\qaw BinOp.or u32 (shP BinOp.shl u32 x1.1 6) (z6u x0 x1)=qaw BinOp.or u32 (shP BinOp.shl u32 x1.1 6) (z6u x0 x1)/\(1<=x1.2+1/\(x1.2+1<=(↑(ldN (bat x0 0)):Int)\/x1.2+1=1)/\∃(i0:Nat),qaw BinOp.or u32 (shP BinOp.shl u32 x1.1 6) (z6u x0 x1)=(↑i0:Int)/\(ldN (bat x0 0)=0\/vlF x0 (toNat (x1.2+1))=some i0))/\(5:Nat)- toNat (x1.2+1)<5- toNat x1.2/\True
 def zeh:=(0<=x1.2/\x1.2<(↑(size x0):Int))/\(0:Int)<=6/\((z9f x0 x1)=true->z9t x0)/\((z9f x0 x1)=false->zei x0 x1)
 def zel:=x1.1=x1.1/\(0<=x1.1/\x1.1<4294967296)/\((!decide ((↑(lnN (toNat x1.1)):Int)=(z5g x0)))=true->z9t x0)/\((!decide ((↑(lnN (toNat x1.1)):Int)=(z5g x0)))=false->(↑(frt x0):Int)=(z5g x0)/\True)
 def zek:=x1.1=x1.1/\(0<=x1.1/\x1.1<4294967296)/\((!isC (toNat x1.1))=true->z9t x0)/\((!isC (toNat x1.1))=false->zel x0 x1)
 def zej:=Ji ((z5g x0)=0) (z9t x0) (zek x0 x1)
 def zeg:=Ji (x1.2<(z5g x0)) (zeh x0 x1) (zej x0 x1)
 def zef:=(x0=x0/\(z5g x0)=(z5g x0)/\(1:Int)=1/\(z6v x0)=(z6v x0)/\((1:Int)<=1/\(1<=(↑(ldN (bat x0 0)):Int)\/(1:Int)=1)/\∃(i0:Nat),(z6v x0)=(↑i0:Int)/\(ldN (bat x0 0)=0\/vlF x0 (1:Nat)=some i0))/\True)/\∀(i1:Int×Int),(1<=i1.2/\(i1.2<=(↑(ldN (bat x0 0)):Int)\/i1.2=1)/\∃(i2:Nat),i1.1=(↑i2:Int)/\(ldN (bat x0 0)=0\/vlF x0 (toNat i1.2)=some i2))->zeg x0 i1
 def zee:=((0:Int)<=0/\0<(↑(size x0):Int))/\(↑(bat x0 0):Int)=(↑(bat x0 0):Int)/\(0<=(↑(bat x0 0):Int)/\(↑(bat x0 0):Int)<256)/\Ji ((↑(size x0):Int)<(z5g x0)) (z9t x0) (zef x0)
end
def z4n(s:ByteArray):qjz P (z84) Try.f55 z3g (z87) s=(0<size s/\size s<1000000->zee s):=by kernel_rfl
def front_eq:=λs=>Eq.trans (z4n s) (by delta Ji Jb Jt Jf z5g z9t z6v z9f z6u zei zeh zel zek zej zeg zef zee;exact rfl)
def z54:∀g C,z84 g=some C->q7a P g C:=qda (qgx z8p (qgx zdb (qgx z4r qjn)))
def z65:q7a P 55 z3g:=by
 refine qk0 mixed z54 (W:=z87) Try.func55 (by kernel_rfl) (by decide) (by decide) (λc=>by kernel_rfl) λ(s:ByteArray)=>(front_eq s).mpr ?_
 rintro⟨h1,h2⟩
 have b0:=z0h s 0
 simp only[Int.toNat_natCast,Int.toNat_zero,and_true,true_and,decide_eq_true_eq,decide_eq_false_iff_not,Bool.not_eq_true',Bool.not_eq_false']
 obtain⟨n,hn⟩:∃n,n=ldN (bat s 0):=⟨_,rfl⟩
 have hn4:=zaf (bat s 0)
 have hfr:frt s=if s.size<n then 0 else match vlF s n with
  |none=>0
  |some r=>if n=0\/isC r=false\/lnN r≠n then 0 else n:=by rw[hn];rfl
 rw[←hn]at hn4⊢
 refine⟨by omega,by omega,λg=> ?_,λg=>⟨⟨by omega, .inr trivial,ldV (bat s 0),rfl, .inr rfl⟩,?_⟩⟩
 ·rw[hfr,if_pos (by omega)];rfl
 rintro⟨r,i⟩ ⟨i1,i2,q,hq,hv⟩
 simp only at i1 i2 hq hv⊢
 obtain⟨m,rfl⟩:=Int.eq_ofNat_of_zero_le (show 0<=i by omega)
 have em:((m:Int)+1).toNat=m+1:=by omega
 simp only[Int.toNat_natCast,em]at hv⊢
 subst hq
 simp only[Int.toNat_natCast]at hv⊢
 rw[if_neg (by omega)]at hfr
 refine⟨λk=>⟨by omega,by omega,?_⟩,λk=>⟨λk2=> ?_,λk2=> ?_⟩⟩
 ·have bm:=z0h s m
  have c1:shP BinOp.shr IntKind.u8 ((bat s m:Nat):Int) 6=2↔ctC (bat s m)=true:=by rw[←ct1 (bat s m) bm,decide_eq_true_iff]
  rw[c1]
  have hv:vlF s m=some q:=by
   rcases hv with h|h
   ·omega
   ·exact h
  have hbd:=z5c s m q hv (by omega)
  have hq26:q<67108864:=by
   have:m<=3:=by omega
   rcases m with _|_|_|_|m<;>simp at hbd<;>omega
  obtain⟨m',rfl⟩:∃m',m=m'+1:=⟨m- 1,by omega⟩
  refine⟨λk3=> ?_,λk3=>⟨by omega,by omega,by omega,⟨by omega,by omega,?_⟩,by omega⟩⟩
  ·have:vlF s (m'+2)=none:=by simp only[vlF];rw[hv];simp[k3]
   rw[hfr,z6r s (m'+2) n (by omega) (by omega) this];rfl
  ·obtain⟨c2,c3⟩:=ct2 (bat s (m'+1)) bm k3
   rw[c2]
   refine⟨_,zgx q _ hq26 c3, .inr ?_⟩
   simp only[vlF]
   rw[hv];simp[k3]
 ·have h0:n=0:=by omega
  rw[hfr,h0];simp[vlF]
 ·have hn0:n≠0:=by omega
  have hm:m=n:=by omega
  have hv:vlF s n=some q:=by
   rcases hv with h|h
   ·omega
   ·rw[←hm];exact h
  have hbd:=z5c s n q hv (by omega)
  have hq32:q<4294967296:=by
   rcases n with _|_|_|_|_|n<;>simp at hbd<;>omega
  rw[hv]at hfr
  simp only at hfr
  refine⟨by omega,λk3=> ?_,λk3=>⟨by omega,λk4=> ?_,λk4=> ?_⟩⟩
  ·rw[hfr,if_pos (.inr (.inl k3))];rfl
  ·rw[hfr,if_pos (.inr (.inr (by omega)))];rfl
  ·rw[hfr,if_neg]
   rw[k3];simp;omega
def za9(s:ByteArray):frt s<=s.size:=by
 unfold frt
 split
 ·omega
 ·split
  ·omega
  ·split<;>omega
def z2o:∀(f g:Nat) (s:ByteArray),s.size<=f->s.size<=g->z5d f s=z5d g s
  |0,0,s,_,_=>rfl
  |0,g+1,s,h,_=>by rw[z5d,z5d,if_pos (by omega)]
  |f+1,0,s,_,h=>by rw[z5d,z5d,if_pos (by omega)]
  | f +1,g+1,s,h1,h2=>by
    rw[z5d,z5d]
    split
    · rfl
    · split
      · rfl
      · exact z2o f g _ (by simp;omega) (by simp;omega)
def z3r(s:ByteArray) (h:0<s.size):vld s=if frt s=0 then false else vld (s.extract (frt s) s.size):=by
 unfold vld
 obtain⟨f,hf⟩:∃f,s.size=f+1:=⟨s.size- 1,by omega⟩
 rw[hf,z5d,if_neg (by omega)]
 split
 ·rfl
 ·rw[hf]
  refine z2o _ _ _ ?_ (Nat.le_refl _)
  simp;omega
def z9a(s:ByteArray) (h:s.size=0):vld s=true:=by unfold vld;rw[h];rfl
def z6n(s:ByteArray):qjz P (zaz) Try.f46 z3j (z8a) s=(size s<(1000000:Nat)->(s=s/\(size s<=size s/\vld s=vld s)/\True)/\∀(s_1:ByteArray),size s_1<=size s/\vld s_1=vld s->(decide ((0:Int)<(↑(size s_1):Int))=true->s_1=s_1/\((0:Nat)<size s_1/\size s_1<(1000000:Nat))/\(decide ((↑(frt s_1):Int)=(0:Int))=true->vld s=false/\True)/\(decide ((↑(frt s_1):Int)=(0:Int))=false->((0:Int)<=(↑(frt s_1):Int)/\(↑(frt s_1):Int)<=(↑(size s_1):Int))/\ByteArray.extract s_1 (toNat (↑(frt s_1):Int)) (size s_1)=ByteArray.extract s_1 (toNat (↑(frt s_1):Int)) (size s_1)/\(size (ByteArray.extract s_1 (toNat (↑(frt s_1):Int)) (size s_1))<=size s/\vld (ByteArray.extract s_1 (toNat (↑(frt s_1):Int)) (size s_1))=vld s)/\size (ByteArray.extract s_1 (toNat (↑(frt s_1):Int)) (size s_1))<size s_1/\True))/\(decide ((0:Int)<(↑(size s_1):Int))=false->vld s=true/\True)):=by kernel_rfl
def z6o:q7a P 46 z3j:=by
 refine qk0 mixed (qda (qgx z65 qjn)) (W:=z8a) Try.func46 (by kernel_rfl) (by decide) (by decide) (λc=>by kernel_rfl) λ(s:ByteArray)=>(z6n s).mpr ?_
 intro h
 simp only[Int.toNat_natCast,and_true,true_and,decide_eq_true_eq,decide_eq_false_iff_not]
 refine⟨Nat.le_refl _,λt ht=>⟨λg=>⟨by omega,λg2=> ?_,λg2=> ?_⟩,λg=> ?_⟩⟩
 ·rw[←ht.2,z3r t (by omega),if_pos (by omega)]
 ·have:=za9 t
  rw[←ht.2,z3r t (by omega),if_neg (by omega)]
  refine⟨by omega,⟨?_,rfl⟩,?_⟩
  ·simp;omega
  ·simp;omega
 ·rw[←ht.2];exact z9a t (by omega)
section
def zd7(s:ByteArray):Nat->Nat->Nat
 |0,k=>k
 |f+1,k=>if k<s.size/\bat s k≠10 then zd7 s f (k+1)else k
def eol(s:ByteArray) (k:Nat):Nat:=zd7 s (s.size- k) k
def z0c(s:ByteArray) (k:Nat):eol s k=if k<s.size/\bat s k≠10 then eol s (k+1)else k:=by
 unfold eol
 cases h:s.size- k with
 |zero=>rw[if_neg (by omega)];rfl
 |succ f=>rw[zd7,show s.size- (k+1)=f by omega]
def z4k(s:ByteArray):∀(f k:Nat),k<=s.size->s.size- k=f->k<=eol s k/\eol s k<=s.size
  |0,k,h,hf=>by rw[z0c,if_neg (by omega)];omega
  | f +1,k,h,hf=>by
    rw[z0c]
    split
    · have:=z4k s f (k+1) (by omega) (by omega)
      omega
    · omega
def clF(s:ByteArray):Nat->Nat->Option Nat
 |0,_=>none
 |f+1,k=>if bat s k=42/\bat s (k+1)=47 then some k else clF s f (k+1)
def cl(s:ByteArray) (k:Nat):Option Nat:=clF s (s.size- k) k
def z1m(s:ByteArray) (k:Nat) (h:k<s.size):cl s k=if bat s k=42/\bat s (k+1)=47 then some k else cl s (k+1):=by
 unfold cl
 obtain⟨f,hf⟩:∃f,s.size- k=f+1:=⟨s.size- k- 1,by omega⟩
 rw[hf,clF,show s.size- (k+1)=f by omega]
def z7p(s:ByteArray) (k:Nat) (h:s.size<=k):cl s k=none:=by
 unfold cl
 rw[show s.size- k=0 by omega];rfl
variable {s:ByteArray}
def z0f{k:Nat} (h:bat s k≠0):k<s.size:=by
 rcases Nat.lt_or_ge k s.size with g|g
 ·exact g
 ·exact absurd (z0o g) h
def z3s(s:ByteArray):∀(f k m:Nat),s.size- k=f->cl s k=some m->k<=m/\m+2<=s.size
  |0,k,m,hf,h=>by rw[z7p s k (by omega)]at h;cases h
  | f +1,k,m,hf,h=>by
    rw[z1m s k (by omega)]at h
    split at h
    · rename_i g
      cases h
      have:=z0f (s:=s) (k:=k+1) (by omega)
      omega
    · have:=z3s s f (k+1) m (by omega) h
      omega
def spF(s:ByteArray):Nat->Nat->Bool×Nat
  |0,i=>(true,i)
  | f +1,i=>if z2i (bat s i)=true then spF s f (i+1)else if bat s i=47/\bat s (i+1)=47 then spF s f (eol s i)else if bat s i=47/\bat s (i+1)=42 then
      match cl s (i+2)with
      |some k=>spF s f (k+2)
      |none=>(false,i)
    else(true,i)
def spR(s:ByteArray) (i:Nat):Bool×Nat:=spF s (s.size+1- i) i
def z2g(s:ByteArray) (i:Nat) (h:bat s i=47/\bat s (i+1)=47):i+2<=eol s i/\eol s i<=s.size:=by
 have h1:=z0f (s:=s) (k:=i+1) (by omega)
 rw[z0c,if_pos (by omega),z0c,if_pos (by omega)]
 exact z4k s _ (i+2) (by omega) rfl
def z12{k:Nat} (h:z2i (bat s k)=true):k<s.size:=by
 refine z0f λe=> ?_
 rw[e]at h;cases h
def z0s(s:ByteArray):∀(f g i:Nat),s.size+1- i<=f->s.size+1- i<=g->i<=s.size->spF s f i=spF s g i
  |0,_,i,h,_,hi=>by omega
  |_,0,i,_,h,hi=>by omega
  | f + 1,g+1,i,h1,h2,hi=>by
    rw[spF,spF]
    split
    · rename_i h
      have:=z12 h
      exact z0s s f g _ (by omega) (by omega) (by omega)
    · split
      · rename_i h
        have:=z2g s i h
        exact z0s s f g _ (by omega) (by omega) (by omega)
      · split
        · split
          · rename_i k hk
            have:=z3s s _ _ _ rfl hk
            exact z0s s f g _ (by omega) (by omega) (by omega)
          · rfl
        · rfl
def z0t(s:ByteArray) (i:Nat) (hi:i<=s.size):spR s i=if z2i (bat s i)=true then spR s (i+1)else if bat s i=47/\bat s (i+1)=47 then spR s (eol s i)else if bat s i=47/\bat s (i+1)=42 then
   (match cl s (i+2)with
   |some k=>spR s (k+2)
   |none=>(false,i))
  else(true,i):=by
 unfold spR
 obtain⟨f,hf⟩:∃f,s.size+1- i=f+1:=⟨s.size- i,by omega⟩
 rw[hf,spF]
 split
 ·rename_i h
  have:=z12 h
  exact z0s s _ _ _ (by omega) (by omega) (by omega)
 ·split
  ·rename_i h
   have:=z2g s i h
   exact z0s s _ _ _ (by omega) (by omega) (by omega)
  ·split
   ·split
    ·rename_i k hk
     have:=z3s s _ _ _ rfl hk
     exact z0s s _ _ _ (by omega) (by omega) (by omega)
    ·rfl
   ·rfl
def z0y(s:ByteArray) (i:Nat) (h:i<s.size):s.data.toList.drop i=s[i]::s.data.toList.drop (i+1):=by
 have:s.data.toList[i]? =some s[i]:=by
  rw[Array.getElem?_toList];exact Array.getElem?_eq_getElem h
 rw[List.drop_eq_getElem?_toList_append,this];rfl
def z22(s:ByteArray) (i:Nat) (h:s.size<=i):s.data.toList.drop i=[]:=by
 apply List.drop_eq_nil_of_le
 rw[Array.length_toList];exact h
def z99(b:UInt8) (n:Nat) (hn:n<256):(b==UInt8.ofNat n)=decide (b.toNat=n):=by
 by_cases h:b.toNat=n
 ·subst h;simp
 ·rw[decide_eq_false h]
  rw[beq_eq_false_iff_ne]
  intro e;apply h;rw[e,UInt8.toNat_ofNat'];omega
def ixB(s:ByteArray):∀(f i:Nat),i<=s.size->s.size- i=f->Lib.indexByte (s.data.toList.drop i) (UInt8.ofNat 10)=if eol s i<s.size then((eol s i- i:Nat):Int)else -1
  | 0,i,h,hf=>by
    have e:eol s i=i:=by rw[z0c,if_neg (by omega)]
    rw[z22 s i (by omega),e,if_neg (by omega)];rfl
  | f +1,i,h,hf=>by
    have hi:i<s.size:=by omega
    have ih:=ixB s f (i+1) (by omega) (by omega)
    have hle:=z4k s f (i+1) (by omega) (by omega)
    have hb:=z1k hi
    rw[z0y s i hi,Lib.indexByte,z99 _ 10 (by omega)]
    by_cases h10:s[i].toNat=10
    · have e:eol s i=i:=by rw[z0c,if_neg (by omega)]
      rw[e,if_pos (by simpa using h10),if_pos hi];simp
    · have e:eol s i=eol s (i+1):=by rw[z0c s i,if_pos (by omega)]
      rw[e,if_neg (by simpa using h10),ih]
      by_cases hl:eol s (i+1)<s.size
      · rw[if_pos hl,if_pos hl,if_neg (by simp;try omega)];omega
      · rw[if_neg hl,if_neg hl];rfl
def ixS (s:ByteArray):∀(f k:Nat),k<=s.size->s.size- k=f->Lib.index (s.data.toList.drop k) [UInt8.ofNat 42,UInt8.ofNat 47]=match cl s k with
    |some m=>((m- k:Nat):Int)
    |none=> -1
  | 0,k,h,hf=>by
    rw[z22 s k (by omega),z7p s k (by omega)];rfl
  | f + 1,k,h,hf=>by
    have ih:=ixS s f (k+1) (by omega) (by omega)
    rw[z0y s k (by omega),Lib.index,z1m s k (by omega)]
    have hp:[UInt8.ofNat 42,UInt8.ofNat 47].isPrefixOf (s[k]::s.data.toList.drop (k+1))=decide (bat s k=42/\bat s (k+1)=47):=by
      rw[List.isPrefixOf,show(UInt8.ofNat 42==s[k])=decide (s[k].toNat=42)by rw[BEq.comm];exact z99 _ 42 (by omega)]
      rw[z1k (by omega:k<s.size)]
      by_cases h2:k+1<s.size
      · rw[z0y s (k+1) h2,List.isPrefixOf,show(UInt8.ofNat 47==s[k+1])=decide (s[k+1].toNat=47)by rw[BEq.comm];exact z99 _ 47 (by omega),List.isPrefixOf,z1k h2]
        simp
      · rw[z22 s (k+1) (by omega),z0o (s:=s) (j:=k+1) (by omega)]
        simp[List.isPrefixOf]
    rw[hp,ih]
    by_cases hc:bat s k=42/\bat s (k+1)=47
    · rw[if_pos hc,decide_eq_true hc];simp
    · rw[if_neg hc,decide_eq_false hc]
      cases hcl:cl s (k+1)with
      |none=>rfl
      | some m=>
        have:=z3s s _ _ _ rfl hcl
        simp only[Bool.false_eq_true,if_false]
        rw[if_neg (by simp;try omega)];omega
def z1a:q7a P 23 z16:=by
 refine qk3 (Sen.enters_of Try.func23 (by kernel_rfl)) (λ⟨s,c⟩=> .int .i64 (Lib.indexByte s.data.toList (UInt8.ofNat c.toNat))) (λs I=> .sv _) λ⟨s,c⟩ F w hp hm=> ?_
 exact(Try.strings_IndexByte s c w).mono λe w' h=>⟨h.1,by rw[h.2];exact Below.refl _ _⟩
def z66:q7a P 24 z7o:=by
 refine qk3 (Sen.enters_of Try.func24 (by kernel_rfl)) (λ⟨s,p⟩=> .int .i64 (Lib.index s.data.toList p.data.toList)) (λs I=> .sv _) λ⟨s,p⟩ F w hp hm=> ?_
 obtain⟨m,hm⟩:=hm
 exact(Try.strings_Index s p m w hp (q1g hm)).mono λe w' h=>⟨h.1,by rw[h.2];exact Below.refl _ _⟩
def z3i:Ct:={z4g (λs i=>0<=i/\i<=s.size/\s.size<100000) (λs i=> .sv (.bool (spR s i.toNat).1)) (λs i=>((spR s i.toNat).2:Nat))with mem:=λ_=>hG}
def z89:z3i.σ->WayF:=λ⟨s,i⟩=>{ann:=λ_ _ _=>some (z9v s (λj=>0<=j/\j<=s.size/\spR s j.toNat=spR s i.toNat) [0,2])}
def z85:Nat->Option Ct:=qfl [(20,z0x),(22,z8h),(21,z0d),(23,z16),(24,z7o)]
end
def zd6(c:Nat):dv c<=16:=by unfold dv;split<;>(try split)<;>(try split)<;>omega
def z9e(x:Int) (h1:0<=x) (h2:x<=18446744073709551615):IntKind.u64.wrap x=x:=by
 unfold IntKind.wrap;simp[IntKind.bits,IntKind.signed];omega
def zgy:∀c<256,z02 c=true->IntKind.u8.wrap (↑c- 48)=((dv c:Nat):Int):=by decide+kernel
def zgz:∀c<256,z02 c=false->decide (97<=qaw BinOp.or IntKind.u8 (↑c) 32)=true->decide (qaw BinOp.or IntKind.u8 (↑c) 32<=102)=true->IntKind.u8.wrap (qaw BinOp.or IntKind.u8 (↑c) 32- 97)=((dv c:Nat):Int)- 10/\10<=dv c:=by decide+kernel
def zh0:∀c<256,z02 c=false->decide (97<=qaw BinOp.or IntKind.u8 (↑c) 32)=true->decide (qaw BinOp.or IntKind.u8 (↑c) 32<=102)=false->dv c=16:=by decide+kernel
def zh1:∀c<256,z02 c=false->decide (97<=qaw BinOp.or IntKind.u8 (↑c) 32)=false->dv c=16:=by decide+kernel
section
variable (x0 x1:Int)
 abbrev zeq:=(0<=IntKind.wrap u8 (x0- 48)/\IntKind.wrap u8 (x0- 48)<=18446744073709551615)/\(↑(dv (toNat x0)):Int)=IntKind.wrap u8 (x0- 48)/\decide ((↑(dv (toNat x0)):Int)<x1)=decide (IntKind.wrap u8 (x0- 48)<x1)/\True
 abbrev zbd:=qaw BinOp.or u8 x0 32- 97
 def zep:=(0<=IntKind.wrap u8 (zbd x0)/\IntKind.wrap u8 (zbd x0)<=18446744073709551615)/\(↑(dv (toNat x0)):Int)=IntKind.wrap u64 (IntKind.wrap u8 (zbd x0)+10)/\decide ((↑(dv (toNat x0)):Int)<x1)=decide (IntKind.wrap u64 (IntKind.wrap u8 (zbd x0)+10)<x1)/\True
 def zdq:=(↑(dv (toNat x0)):Int)=16/\decide ((↑(dv (toNat x0)):Int)<x1)=decide (16<x1)/\True
 def zeo:=Ji (qaw BinOp.or u8 x0 (32:Int)<=102) (zep x0 x1) (zdq x0 x1)
 def zen:=Ji (97<=qaw BinOp.or u8 x0 32) (zeo x0 x1) (zdq x0 x1)
 def zem:=x0=x0/\(0<=x0/\x0<256)/\(z02 (toNat x0)=true->zeq x0 x1)/\(z02 (toNat x0)=false->zen x0 x1)
end
def z5b(c B:Int):qjz P (qfl [(27,z1v)]) Try.f45 z4d (λ_=>{}) ⟨c,B⟩=((0<=c/\c<256)/\0<=B/\B<=16->zem c B):=by kernel_rfl
def z6p:=λc B=>Eq.trans (z5b c B) (by delta Ji Jt Jf zeq zbd zep zdq zeo zen zem;exact rfl)
def z6q:q7a P 45 z4d:=by
 refine qk0 mixed (qda (qgx z1d qjn)) (W:=λ_=>{}) Try.func45 (by kernel_rfl) (by decide) (by decide) (λ⟨c,B⟩=>by kernel_rfl) λ⟨c,B⟩=>(z6p c B).mpr ?_
 rintro⟨⟨h1,h2⟩,h3,h4⟩
 obtain⟨n,rfl⟩:=Int.eq_ofNat_of_zero_le h1
 obtain⟨b,rfl⟩:=Int.eq_ofNat_of_zero_le h3
 have hn:n<256:=by omega
 have w:=zd6 n
 have out:dv n=16->((dv n:Nat):Int)=16/\decide (((dv n:Nat):Int)<(b:Nat))=decide ((16:Int)<(b:Nat)):=λe=>by
  rw[e];exact⟨rfl,rfl⟩
 simp only[Int.toNat_natCast,and_true,true_and]
 refine⟨⟨h1,h2⟩,λg=> ?_,λg=>⟨λg2=>⟨λg3=> ?_,λg3=> ?_⟩,λg2=> ?_⟩⟩
 ·rw[zgy n hn g]
  refine⟨by omega,rfl,?_⟩
  simp
 ·obtain⟨a1,a2⟩:=zgz n hn g g2 g3
  rw[a1]
  have:IntKind.u64.wrap (((dv n:Nat):Int)- 10+10)=(dv n:Nat):=by
   rw[show(((dv n:Nat):Int)- 10+10)=(dv n:Nat)by omega];exact z9e _ (by omega) (by omega)
  rw[this]
  refine⟨by omega,rfl,?_⟩
  simp
 ·exact out (zh0 n hn g g2 g3)
 ·exact out (zh1 n hn g g2)
section
variable (x0 x1:Int)
 abbrev zcz:=(↑(Option.getD (esc (toNat x0)) 0):Int)
 def zev:=(zcz x0)=x0/\Option.isSome (esc (toNat x0))=true/\True
 def zeu:=(zcz x0)=10/\Option.isSome (esc (toNat x0))=true/\True
 def zet:=(zcz x0)=0/\Option.isSome (esc (toNat x0))=false/\True
 def zer:=Ji (x0=110) (zeu x0) (zet x0)
 def zcy:=Ji (x0=x1) (zev x0) (zer x0)
 def zew:=Ji (x0=34) (zcy x0 34) (zcy x0 39)
 def zes:=Ji (x0=92) (zcy x0 92) (zew x0)
end
def z2x(c:Int):qjz P ((λ_=>none)) Try.f47 z20 (λ_=>{}) c=(0<=c/\c<256->zes c):=by kernel_rfl
def z3t:=λc=>Eq.trans (z2x c) (by delta Ji Jt Jf zcz zev zeu zet zer zcy zew zes;exact rfl)
def z3u:q7a P 47 z20:=by
  refine qk0 mixed z0l (W:=λ_=>{}) Try.func47 (by kernel_rfl) (by decide) (by decide) (λc=>by kernel_rfl) λ(c:Int)=>(z3t c).mpr ?_
  rintro⟨h1,h2⟩
  obtain⟨n,rfl⟩:=Int.eq_ofNat_of_zero_le h1
  simp only[decide_eq_true_eq,decide_eq_false_iff_not,Int.toNat_natCast]
  repeat' first|intro _|apply And.intro
  all_goals first
    |trivial
    | (exfalso;omega)
    | (have e:n=92:=by omega
       subst e;rfl)
    | (have e:n=34:=by omega
       subst e;rfl)
    | (have e:n=39:=by omega
       subst e;rfl)
    | (have e:n=110:=by omega
       subst e;rfl)
    | (unfold esc;rw[if_neg (by omega),if_neg (by omega)];rfl)
def z23(s p:ByteArray):qjz P ((λ_=>none)) Try.f42 z0d (λ_=>{}) ⟨s,p⟩=(True->(decide ((↑(size p):Int)<=(↑(size s):Int))=true->((0:Int)<=(↑(size p):Int)/\(↑(size p):Int)<=(↑(size s):Int))/\z0k s p=decide (ByteArray.extract s (0:Nat) (toNat (↑(size p):Int))=p)/\True)/\(decide ((↑(size p):Int)<=(↑(size s):Int))=false->z0k s p=false/\True)):=by kernel_rfl
def z24:q7a P 42 z0d:=by
 refine qk0 mixed z0l (W:=λ_=>{}) Try.func42 (by kernel_rfl) (by decide) (by decide) (λ⟨s,p⟩=>by kernel_rfl) λ⟨s,p⟩=>(z23 s p).mpr ?_
 intro _
 simp only[decide_eq_true_eq,decide_eq_false_iff_not,and_true,Int.toNat_natCast,z0k]
 refine⟨λh=>⟨⟨by omega,h⟩,?_⟩,λh=> ?_⟩
 ·simp;omega
 ·simp;omega
def z25(s p:ByteArray):qjz P (qfl [(42,z0d)]) Try.f21 z0d (λ_=>{}) ⟨s,p⟩=(True->s=s/\p=p/\True/\z0k s p=z0k s p/\True):=by kernel_rfl
def z2h:q7a P 21 z0d:=by
 refine qk0 mixed (qda (qgx z24 qjn)) (W:=λ_=>{}) Try.func21 (by kernel_rfl) (by decide) (by decide) (λ⟨s,p⟩=>by kernel_rfl) λ⟨s,p⟩=>(z25 s p).mpr ?_
 intro _
 exact⟨rfl,rfl,trivial,rfl,trivial⟩
def z1e(s:ByteArray) (n:Nat):(s.extract n s.size).data.toList=s.data.toList.drop n:=by
 rw[ByteArray.data_extract,Array.toList_extract,List.extract_eq_take_drop,List.take_of_length_le]
 rw[List.length_drop,Array.length_toList];exact Nat.le_refl _
def z4o(s:ByteArray) (n a b:Nat) (hn:n<=s.size) (ha:a<256/\0<a) (hb:b<256/\0<b):z0k (s.extract n s.size) (mkS [a,b])=decide (bat s n=a/\bat s (n+1)=b):=by
 unfold z0k
 rw[Bool.eq_iff_iff]
 simp only[Bool.and_eq_true,decide_eq_true_eq]
 have hsz:(mkS [a,b]).size=2:=rfl
 rw[hsz,ByteArray.size_extract]
 constructor
 ·rintro⟨h1,h2⟩
  have e:((s.extract n s.size).extract 0 2).data.toList=(mkS [a,b]).data.toList:=by rw[h2]
  rw[ByteArray.data_extract,Array.toList_extract,List.extract_eq_take_drop,z1e,z0y s n (by omega),z0y s (n+1) (by omega)]at e
  simp[mkS]at e
  rw[z1k (by omega:n<s.size),z1k (by omega:n+1<s.size),e.1,e.2,UInt8.toNat_ofNat',UInt8.toNat_ofNat']
  omega
 ·rintro⟨h1,h2⟩
  have p1:=z0f (s:=s) (k:=n) (by omega)
  have p2:=z0f (s:=s) (k:=n+1) (by omega)
  refine⟨by omega,?_⟩
  apply ByteArray.ext;apply Array.toList_inj.mp
  rw[ByteArray.data_extract,Array.toList_extract,List.extract_eq_take_drop,z1e,z0y s n (by omega),z0y s (n+1) (by omega)]
  rw[z1k p1]at h1;rw[z1k p2]at h2
  subst h1;subst h2
  simp[mkS]
section
variable (x0:ByteArray) (x1 x2:Int) (x3:Nat->Option Obj) (x4:Prop)
 abbrev z5h:=0<=x1/\x1<=(↑(size x0):Int)/\x4
 def z9g:=∃(i0:Int),q5o x3 (Addr.mk 0 0 none)=some (int i64 i0)
 def zbl:=True/\z9g x3
 def z41:=(∀i0,(zbl i0)->zbl i0)
 abbrev z6z:=(↑(bat x0 (toNat (x1+0))):Int)
 def zds:=Jb (x1+1)/\x0=x0/\x1+1=x1+1/\z41/\(0<=x1+1/\x1+1<=(↑(size x0):Int)/\spR x0 (toNat (x1+1))=spR x0 (toNat x2))/\size x0- toNat (x1+1)<size x0- toNat x1/\True
 def z70:=x0=x0/\x1=x1/\(0<=x1/\x1<=(↑(size x0):Int))/\x4
 def z6x:=z70 x0 x1 (ByteArray.extract x0 (toNat x1) (size x0)=ByteArray.extract x0 (toNat x1) (size x0)/\x4)
 abbrev z33:=ByteArray.extract x0 (toNat x1) (size x0)
 abbrev z29:=Array.toList (ByteArray.data (z33 x0 x1))
 abbrev z2a:=(↑(size (z33 x0 x1)):Int)
 def zbg:=z70 x0 x1 (Jb (x1+(z2a x0 x1))/\x0=x0/\x1+(z2a x0 x1)=x1+(z2a x0 x1)/\z41/\(0<=x1+(z2a x0 x1)/\x1+(z2a x0 x1)<=(↑(size x0):Int)/\spR x0 (toNat (x1+(z2a x0 x1)))=spR x0 (toNat x2))/\size x0- toNat (x1+(z2a x0 x1))<size x0- toNat x1/\True)
 def zbe:=Jb (x1+Lib.indexByte (z29 x0 x1) (UInt8.ofNat 10))/\x0=x0/\x1+Lib.indexByte (z29 x0 x1) (UInt8.ofNat 10)=x1+Lib.indexByte (z29 x0 x1) (UInt8.ofNat 10)/\z41/\(0<=x1+Lib.indexByte (z29 x0 x1) (UInt8.ofNat 10)/\x1+Lib.indexByte (z29 x0 x1) (UInt8.ofNat 10)<=(↑(size x0):Int)/\spR x0 (toNat (x1+Lib.indexByte (z29 x0 x1) (UInt8.ofNat 10)))=spR x0 (toNat x2))/\size x0- toNat (x1+Lib.indexByte (z29 x0 x1) (UInt8.ofNat 10))<size x0- toNat x1/\True
 def zf0:=z6x x0 x1 ((10:Int)=10/\((0:Int)<=10/\(10:Int)<256)/\Ji (Lib.indexByte (z29 x0 x1) (UInt8.ofNat 10)<0) (zbg x0 x1 x2) (zbe x0 x1 x2))
 abbrev z6w:=Array.toList (ByteArray.data (ByteArray.extract (z33 x0 x1) 2 (size (z33 x0 x1))))
 abbrev z6y:=Array.toList (ByteArray.data (mkS [42,47]))
 def zbj:=(spR x0 (toNat x1)).1=false/\x0=x0/\Int.ofNat (spR x0 (toNat x1)).2=x2/\True
 abbrev z8c:=Lib.index (z6w x0 x1) (z6y)+4
 def zf1:=Jb (Lib.index (z6w x0 x1) (z6y)+4)/\Jb (x1+(z8c x0 x1))/\x0=x0/\x1+(z8c x0 x1)=x1+(z8c x0 x1)/\z41/\(0<=x1+(z8c x0 x1)/\x1+(z8c x0 x1)<=(↑(size x0):Int)/\spR x0 (toNat (x1+(z8c x0 x1)))=spR x0 (toNat x2))/\size x0- toNat (x1+(z8c x0 x1))<size x0- toNat x1/\True
 def zez:=z70 x0 x1 (((0:Int)<=2/\2<=(z2a x0 x1))/\ByteArray.extract (z33 x0 x1) 2 (size (z33 x0 x1))=ByteArray.extract (z33 x0 x1) 2 (size (z33 x0 x1))/\mkS [42,47]=mkS [42,47]/\size (ByteArray.extract (z33 x0 x1) 2 (size (z33 x0 x1)))<4294967281/\(∀i0,(zbl i0)->z9g i0)/\Ji (Lib.index (z6w x0 x1) (z6y)<0) (zbj x0 x2 x1) (zf1 x0 x1 x2))
 def zbk:=(spR x0 (toNat x1)).1=true/\x0=x0/\Int.ofNat (spR x0 (toNat x1)).2=x2/\True
 def zey:=z6x x0 x1 (mkS [47,42]=mkS [47,42]/\True/\(z0k (z33 x0 x1) (mkS [47,42])=true->zez x0 x1 x2)/\(z0k (z33 x0 x1) (mkS [47,42])=false->zbk x0 x2 x1))
 def zex:=z6x x0 x1 (mkS [47,47]=mkS [47,47]/\True/\(z0k (z33 x0 x1) (mkS [47,47])=true->zf0 x0 x1 x2)/\(z0k (z33 x0 x1) (mkS [47,47])=false->zey x0 x1 x2))
 def zdr:=Ji ((z6z x0 x1)=32) (zds x0 x1 x2) (zex x0 x1 x2)
 def zbi:=Ji ((z6z x0 x1)<=13) (zds x0 x1 x2) (zdr x0 x1 x2)
 def zbh:=(0:Int)=0/\x0=x0/\x1=x1/\(z5h x0 x1 (size x0<1000000/\(0:Int)<=0/\(0:Int)<1000000))/\Ji (9<=(z6z x0 x1)) (zbi x0 x1 x2) (zdr x0 x1 x2)
 def zbf:=(x0=x0/\x1=x1/\z41/\(z5h x0 x1 (spR x0 (toNat x1)=spR x0 (toNat x1)))/\True)/\∀(i1:Int),z5h x0 i1 (spR x0 (toNat i1)=spR x0 (toNat x1))->zbh x0 i1 x1
end
def z53(s:ByteArray) (i:Int):qjz P (z85) Try.f15 z3i (z89) ⟨s,i⟩=(z5h s i (size s<100000)->(∃(p:Pub),zbl p)->zbf s i):=by kernel_rfl
def z6f:=λs i=>Eq.trans (z53 s i) (by delta Ji Jb Jt Jf z5h z9g zbl z41 z6z zds z70 z6x z33 z29 z2a zbg zbe zf0 z6w z6y zbj z8c zf1 zez zbk zey zex zdr zbi zbh zbf;exact rfl)
def z56:∀g C,z85 g=some C->q7a P g C:=qda (qgx z0q (qgx z8r (qgx z2h (qgx z1a (qgx z66 qjn)))))
def z8m(c:Nat):z2i c=true↔(9<=c/\c<=13)\/c=32:=by simp[z2i]
def z6g:q7a P 15 z3i:=by
  refine qk0 mixed z56 (W:=z89) Try.func15 (by kernel_rfl) (by decide) (by decide) (λ⟨s,i⟩=>by kernel_rfl) λ⟨s,i⟩=>(z6f s i).mpr ?_
  rintro⟨h1,h2,h3⟩ hp
  obtain⟨i,rfl⟩:=Int.eq_ofNat_of_zero_le h1
  refine⟨⟨rfl,rfl,λp h=>h,⟨h1,h2,rfl⟩,trivial⟩,?_⟩
  rintro j ⟨g1,g2,g3⟩
  obtain⟨n,rfl⟩:=Int.eq_ofNat_of_zero_le g1
  have hn:n<=s.size:=by omega
  have step:=z0t s n hn
  have hs:(s.extract n s.size).size=s.size- n:=by rw[ByteArray.size_extract];omega
  have e2:((s.extract n s.size).extract 2 (s.size- n)).data.toList=s.data.toList.drop (n+2):=by
    rw[ByteArray.data_extract,Array.toList_extract,List.extract_eq_take_drop,z1e,List.drop_drop,List.take_of_length_le]
    rw[List.length_drop,Array.length_toList];show s.size- (n+2)<=_;omega
  have hsp:=z8m (bat s n)
  simp only[decide_eq_true_eq,decide_eq_false_iff_not,and_true,true_and,Int.toNat_natCast,Int.add_zero,z4o s n 47 47 hn (by omega) (by omega),z4o s n 47 42 hn (by omega) (by omega),z1e,hs,e2,ixB s _ n hn rfl]at g3⊢
  have spc:z2i (bat s n)=true->spR s (n+1)=spR s i/\n+1<=s.size:=λq=>by
    have:=z12 q
    rw[if_pos q]at step
    exact⟨step ▸ g3,by omega⟩
  refine⟨by omega,λa1=>⟨λa2=> ?a,λa2=>⟨λa3=> ?b,λa3=> ?x⟩⟩,λa1=>⟨λa3=> ?c,λa3=> ?y⟩⟩
  case a|b|c=>
    obtain⟨q1,q2⟩:=spc (hsp.mpr (by omega))
    exact⟨by omega,λp h=>h,⟨by omega,by omega,by rw[show((n:Int)+1).toNat=n+1 by omega];exact q1⟩,by omega⟩
  case x|y=>
    have ns:¬z2i (bat s n)=true:=λq=>by have:=hsp.mp q;omega
    rw[if_neg ns]at step
    refine⟨by omega,λc1=>⟨by omega,by omega,λd1=> ?_,λd1=> ?_⟩,λc1=>⟨by omega,λc2=>⟨by omega,?_,?_,λp h=>h,λd1=> ?_,λd1=> ?_⟩,λc2=> ?_⟩⟩
    · have ge:=z2g s n c1
      have nlt:¬eol s n<s.size:=λh=>by rw[if_pos h]at d1;omega
      rw[if_pos c1]at step
      rw[show((n:Int)+((s.size- n:Nat):Int)).toNat=s.size by omega]
      have e:eol s n=s.size:=by omega
      rw[e]at step
      exact⟨by omega,by omega,λp h=>h,⟨by omega,by omega,step ▸ g3⟩,by omega⟩
    · have ge:=z2g s n c1
      have nlt:eol s n<s.size:=by
        rcases Nat.lt_or_ge (eol s n) s.size with h|h
        · exact h
        · rw[if_neg (by omega)]at d1;omega
      rw[if_pos nlt]at*
      rw[if_pos c1]at step
      rw[show((n:Int)+((eol s n- n:Nat):Int)).toNat=eol s n by omega]
      exact⟨by omega,λp h=>h,⟨by omega,by omega,step ▸ g3⟩,by omega⟩
    · have p1:=z0f (s:=s) (k:=n+1) (by omega)
      omega
    · rw[ByteArray.size_extract];omega
    · have p1:=z0f (s:=s) (k:=n+1) (by omega)
      have ix:=ixS s _ (n+2) (by omega) rfl
      rw[show(mkS [42,47]).data.toList=[UInt8.ofNat 42,UInt8.ofNat 47]from rfl,ix]at d1
      rw[if_neg c1,if_pos c2]at step
      cases hc:cl s (n+2)with
      |some m=>rw[hc]at d1;simp only[]at d1;omega
      | none=>
        rw[hc]at step
        rw[←g3,step];exact⟨rfl,rfl⟩
    · have p1:=z0f (s:=s) (k:=n+1) (by omega)
      have ix:=ixS s _ (n+2) (by omega) rfl
      rw[show(mkS [42,47]).data.toList=[UInt8.ofNat 42,UInt8.ofNat 47]from rfl,ix]at d1⊢
      rw[if_neg c1,if_pos c2]at step
      cases hc:cl s (n+2)with
      |none=>rw[hc]at d1;simp only[]at d1;omega
      | some m=>
        rw[hc]at step
        have:=z3s s _ _ _ rfl hc
        simp only[]
        rw[show((n:Int)+(((m- (n+2):Nat):Int)+4)).toNat=m+2 by omega]
        have step:spR s n=spR s (m+2):=step
        exact⟨by omega,by omega,λp h=>h,⟨by omega,by omega,step ▸ g3⟩,by omega⟩
    · rw[if_neg c1,if_neg c2]at step
      rw[←g3,step];exact⟨rfl,rfl⟩
def nbK(e k:Nat):Nat:=if e=0 then k else 0
def z21:Ct:={z4g (λs i=>0<=i/\i<s.size/\s.size<100000/\z02 (bat s i.toNat)=true) (λs i=> .tup [zcs (nbK (nbR s i.toNat).1 2) (mkS []) (nbR s i.toNat).2.1 (nbK (nbR s i.toNat).1 i.toNat), .sv (.int .i64 ((nbR s i.toNat).1:Nat))]) (λs i=>((nbR s i.toNat).2.2:Nat))with}
def sl3 (t:T AV):Option (Int×Bool×Int):=match slI t 6 with
  | some n=>match t.get 7 with
    | some a=>match gb a with
      | some b=>match slI t 8 with
        |some i=>some (n,b,i)
        |none=>none
      |none=>none
    |none=>none
  |none=>none
def z3w(s:ByteArray) (i:Int) (n:Int) (o:Bool) (j:Int):Prop:=∃V:Nat,n=((V % 18446744073709551616:Nat):Int)/\o=decide (18446744073709551616<=V)/\0<=j/\i+j<=s.size/\dgE s (nbB s i.toNat) (i+j).toNat V=dgE s (nbB s i.toNat) (i.toNat+nbO s i.toNat) 0
def z5e:z21.σ->WayF:=λ⟨s,i⟩=>{
 ann:=λ_ _ _=>some {σ:=Int×Bool×Int,pre:=λ⟨n,o,j⟩=>z3w s i n o j,find:=some λt _=>sl3 t,t:=λ⟨n,o,j⟩=>[(6, .sv (.int .u64 n)),(7, .sv (.bool o)),(8, .sv (.int .i64 j))],h:=λ_=>[],more:=0,μ:=λ⟨n,o,j⟩=>s.size- (i+j).toNat,keep:=[0,2,4,5]}
 cut:=λr _ _=>match r with
  |9=>some {σ:=Unit,find:=some λ_ _=>some (),t:=λ_=>[(5, .sv (.int .u64 (nbB s i.toNat:Nat))),(8, .sv (.int .i64 (nbO s i.toNat:Nat)))],h:=λ_=>[],more:=0,μ:=λ_=>0,keep:=[0,2,4,6,7]}
  |_=>none}
def z55:Nat->Option Ct:=qfl [(20,z0x),(45,z4d),(25,z1l),(27,z1v)]
def txR(s:ByteArray) (q i:Nat):Nat×ByteArray×Nat:=match txE s q (i+1) []with
 |some (l,to)=>if vld (bs l)=true then(0,bs l,to)else(2,mkS [],i)
 |none=>(2,mkS [],i)
def z61:Ct where
  σ:=ByteArray×Int×Int
  args:=λ⟨s,i,q⟩=>[.ptr 1 0, .sv (.int .u8 q)]
  h:=λ⟨s,i,q⟩=>cur s i
  m:=2
  pre:=λ⟨s,i,q⟩=>0<=i/\i<s.size/\s.size<100000/\(q=34\/q=39)
  find:=some λl h=>match l with
    | [.ptr id _,a]=>match gi a with
      | some (_,d)=>match z4h h id with
        |some (s,i)=>some (s,i,d)
        |none=>none
      |none=>none
    |_=>none
  r:=λ⟨s,i,q⟩=> .tup [zcs (nbK (txR s q.toNat i.toNat).1 3) (txR s q.toNat i.toNat).2.1 0 (nbK (txR s q.toNat i.toNat).1 i.toNat), .sv (.int .i64 ((txR s q.toNat i.toNat).1:Nat))]
  h':=λ⟨s,i,q⟩=>cur s ((txR s q.toNat i.toNat).2.2:Nat)
  m':=2
  g:=λ_=>none
def zb5(t:T AV) (h:T AO):Option (List Value×Int):=match slI t 7 with
  | some j=>match t.get 6 with
    | some (.ssl id _ _ _ _)=>match h.get id with
      |some (.row _ _ vs)=>some (vs,j)
      | some (.cells _ _ _ l)=>match qa6.concs l with
        |some vs=>some (vs,j)
        |none=>none
      |_=>none
    |some .nsl=>some ([],j)
    |_=>none
  |none=>none
def z59(s:ByteArray) (i q:Int) (vs:List Value) (j:Int):Prop:=∃l:List Nat,vs=q16 (bs l)/\(∀c∈l,c<256)/\1<=j/\i+j<=s.size+1/\l.length<=j.toNat/\txE s q.toNat (i+j).toNat l=txE s q.toNat (i.toNat+1) []
def zba:z61.σ->WayF:=λ⟨s,i,q⟩=>{
 ann:=λ_ _ _=>some {σ:=List Value×Int,pre:=λ⟨vs,j⟩=>z59 s i q vs j,find:=some zb5,t:=λ⟨vs,j⟩=>[(6, .ssl 3 0 vs.length 1 4),(7, .sv (.int .i64 j))],h:=λ⟨vs,j⟩=>[(3, .row 5 0 vs)],more:=2,μ:=λ⟨vs,j⟩=>s.size+1- (i+j).toNat,keep:=[0,1,4]}}
def zay:Nat->Option Ct:=qfl [(20,z0x),(46,z3j),(47,z20)]
def sgs:List Nat:=[123,125,40,41,91,93,61,59,44,60,62,45]
def wdR(s:ByteArray) (i:Nat):Nat×(Nat×ByteArray×Nat×Nat)×Nat:=
 if i=s.size then(0,(5,mkS [],0,i),i)else
 if isLet (bat s i)=true\/(bat s i=46/\isLet (bat s (i+1))=true)then(0,(1,s.extract i (nmE s (i+1)),0,i),nmE s (i+1))else
 if z02 (bat s i)=true then((nbR s i).1,(nbK (nbR s i).1 2,mkS [],(nbR s i).2.1,nbK (nbR s i).1 i),(nbR s i).2.2)else
 if bat s i=34\/bat s i=39 then((txR s (bat s i) i).1,(nbK (txR s (bat s i) i).1 3,(txR s (bat s i) i).2.1,0,nbK (txR s (bat s i) i).1 i),(txR s (bat s i) i).2.2)else
 if bat s i∈sgs then(0,(4,mkS [bat s i],0,i),i+1)else(2,(0,mkS [],0,0),i)
def tkA(x:Nat×ByteArray×Nat×Nat):AV:=zcs x.1 x.2.1 x.2.2.1 x.2.2.2
def z8j:Ct:=z4g (λs i=>0<=i/\i<=s.size/\s.size<100000) (λs i=> .tup [tkA (wdR s i.toNat).2.1, .sv (.int .i64 ((wdR s i.toNat).1:Nat))]) (λs i=>((wdR s i.toNat).2.2:Nat))
def zb0:Nat->Option Ct:=qfl [(20,z0x),(25,z1l),(27,z1v),(26,z5z),(28,z21),(29,z61),(23,z16)]
def tn1(n:Nat):((n:Int)+1).toNat=n+1:=by omega
def tn2(n:Nat):((n:Int)+2).toNat=n+2:=by omega
def tnn(n m:Nat):((n:Int)+(m:Nat)).toNat=n+m:=by omega
def z0r(s:ByteArray) (B j v:Nat) (hB:B<=16):dgE s B j v=if dv (bat s j)<B then dgE s B (j+1) (v*B+dv (bat s j))else(j,v):=by
  unfold dgE
  cases h:s.size- j with
  | zero=>
    rw[z0o (by omega),if_neg (by show¬(16<B);omega)];rfl
  |succ f=>rw[dgF,show s.size- (j+1)=f by omega]
def z7x(s:ByteArray) (n:Nat):nbB s n=8\/nbB s n=10\/nbB s n=16:=by
 unfold nbB;split<;>(try split)<;>simp
def orx:∀c<256,decide (qaw BinOp.or IntKind.u8 (c:Nat) 32=120)=decide (c=120\/c=88):=by decide+kernel
def z32(x:Int):IntKind.u64.wrap x=x % 18446744073709551616:=by
 unfold IntKind.wrap;simp[IntKind.bits,IntKind.signed]
def zam(V v B:Nat) (hB:B=8\/B=10\/B=16) (hv:v<B):IntKind.u64.wrap (IntKind.u64.wrap (((V % 18446744073709551616:Nat):Int)*(B:Nat))+(v:Nat))=(((V*B+v) % 18446744073709551616:Nat):Int):=by
 rw[z32,z32]
 rcases hB with rfl|rfl|rfl<;>omega
def zak(V v B:Nat) (hB:B=8\/B=10\/B=16) (hv:v<B) (hV:¬18446744073709551616<=V):decide (IntKind.u64.wrap (Int.tdiv (IntKind.u64.wrap (18446744073709551615- (v:Nat))) (B:Nat))<((V % 18446744073709551616:Nat):Int))=decide (18446744073709551616<=V*B+v):=by
 rw[decide_eq_decide,z32,z32,Int.tdiv_eq_ediv_of_nonneg (by omega)]
 rcases hB with rfl|rfl|rfl<;>omega
def z40:∀g C,z55 g=some C->q7a P g C:=qda (qgx z0q (qgx z6q (qgx z1n (qgx z1d qjn))))
section
variable (x0:ByteArray) (x1:Int) (x2:Int×Bool×Int) (x3 x4:Int) (x5:Prop)
 abbrev z71:=x3=x3/\x0=x0/\x1=x1/\(0<=x1/\x1<=(↑(size x0):Int)/\size x0<1000000/\0<=x3/\x3<1000000)/\x5
 abbrev z2p:=(↑(bat x0 (toNat (x1+x3))):Int)
 abbrev z0z:=(↑(nbB x0 (toNat x1)):Int)
 def z5i:=(z0z x0 x1)=x3/\x1=x1/\(↑(nbO x0 (toNat x1)):Int)=x4/\x0=x0/\x1=x1/\True/\True
 def zbo:=z71 x0 x1 1 (Ji (qaw BinOp.or u8 (z2p x0 x1 1) (32:Int)=120) (z5i x0 x1 16 2) (z5i x0 x1 8 1))
 def zf8:=z71 x0 x1 2 ((z2p x0 x1 2)=(z2p x0 x1 2)/\(16:Int)=16/\((0<=(z2p x0 x1 2)/\(z2p x0 x1 2)<256)/\(0:Int)<=16/\(16:Int)<=16)/\Ji ((↑(dv (toNat (z2p x0 x1 2))):Int)<16) (zbo x0 x1) (z5i x0 x1 8 1))
 abbrev z0u:=(↑(bat x0 (toNat (x1+x2.2.2))):Int)
 def z9h:=x2.2.2=x2.2.2/\x0=x0/\x1=x1/\(0<=x1/\x1<=(↑(size x0):Int)/\size x0<1000000/\0<=x2.2.2/\x2.2.2<1000000)/\(z0u x0 x1 x2)=(z0u x0 x1 x2)/\x5
 def z73:=(0<=(z0u x0 x1 x2)/\(z0u x0 x1 x2)<256)
 abbrev z34:=(nbR x0 (toNat x1)).1
 def zbq:=(↑(nbK (z34 x0 x1) 2):Int)=0/\mkS []=mkS []/\(↑(nbR x0 (toNat x1)).2.1:Int)=0/\(↑(nbK (z34 x0 x1) (toNat x1)):Int)=0/\(↑(z34 x0 x1):Int)=x3/\x0=x0/\Int.ofNat (nbR x0 (toNat x1)).2.2=x1/\True
 def zbp:=Jb (x1+x2.2.2)/\(↑(nbK (z34 x0 x1) 2):Int)=2/\mkS []=mkS []/\(↑(nbR x0 (toNat x1)).2.1:Int)=x2.1/\(↑(nbK (z34 x0 x1) (toNat x1)):Int)=x1/\(↑(z34 x0 x1):Int)=0/\x0=x0/\Int.ofNat (nbR x0 (toNat x1)).2.2=x1+x2.2.2/\True
 def zbn:=Ji ((z0u x0 x1 x2)=46) (zbq x0 x1 2) (zbp x0 x1 x2)
 def zfa:=(z0u x0 x1 x2)=(z0u x0 x1 x2)/\z73 x0 x1 x2/\(z02 (toNat (z0u x0 x1 x2))=true->zbq x0 x1 2)/\(z02 (toNat (z0u x0 x1 x2))=false->zbn x0 x1 x2)
 def zf6:=z9h x0 x1 x2 (z73 x0 x1 x2/\(isLet (toNat (z0u x0 x1 x2))=true->zbq x0 x1 2)/\(isLet (toNat (z0u x0 x1 x2))=false->zfa x0 x1 x2))
 def zf5:=(x2.2.1=true->zbq x0 x1 3)/\(x2.2.1=false->zf6 x0 x1 x2)
 abbrev z9k:=Jb (x2.2.2+1)
 abbrev z5j:=IntKind.wrap u64 (x2.1*(z0z x0 x1))+(↑(dv (toNat (z0u x0 x1 x2))):Int)
 def z9i:=(z0z x0 x1)=(z0z x0 x1)/\x1=x1/\x2.2.2+1=x2.2.2+1/\IntKind.wrap u64 (z5j x0 x1 x2)=IntKind.wrap u64 (z5j x0 x1 x2)/\x0=x0/\x1=x1/\x5
 def z9j:=size x0- toNat (x1+(x2.2.2+1))<size x0- toNat (x1+x2.2.2)/\True
 def zbm:=z9k x2/\true=true/\z9i x0 x1 x2 (z3w x0 x1 (IntKind.wrap u64 (z5j x0 x1 x2)) true (x2.2.2+1)/\z9j x0 x1 x2)
 abbrev z72:=IntKind.wrap u64 (Int.tdiv (IntKind.wrap u64 ((18446744073709551615:Int)- (↑(dv (toNat (z0u x0 x1 x2))):Int))) (z0z x0 x1))<x2.1
 def zf9:=(z0z x0 x1)≠0/\z9k x2/\decide (z72 x0 x1 x2)=decide (z72 x0 x1 x2)/\z9i x0 x1 x2 (z3w x0 x1 (IntKind.wrap u64 (z5j x0 x1 x2)) (decide (z72 x0 x1 x2)) (x2.2.2+1)/\z9j x0 x1 x2)
 def zf7:=(x2.2.1=true->zbm x0 x1 x2)/\(x2.2.1=false->zf9 x0 x1 x2)
 def zf4:=z9h x0 x1 x2 ((z0z x0 x1)=(z0z x0 x1)/\(z73 x0 x1 x2/\0<=(z0z x0 x1)/\(z0z x0 x1)<=16)/\((!decide ((↑(dv (toNat (z0u x0 x1 x2))):Int)<(z0z x0 x1)))=true->zf5 x0 x1 x2)/\((!decide ((↑(dv (toNat (z0u x0 x1 x2))):Int)<(z0z x0 x1)))=false->zf7 x0 x1 x2))
 def zf3:=(false=false/\(z0z x0 x1)=(z0z x0 x1)/\x1=x1/\(↑(nbO x0 (toNat x1)):Int)=(↑(nbO x0 (toNat x1)):Int)/\(0:Int)=0/\x0=x0/\x1=x1/\z3w x0 x1 0 false (↑(nbO x0 (toNat x1)):Int)/\True)/\∀(i0:Int×Bool×Int),z3w x0 x1 i0.1 i0.2.1 i0.2.2->zf4 x0 x1 i0
 def zf2:=(z71 x0 x1 0 (Ji ((z2p x0 x1 0)=48) (zf8 x0 x1) (z5i x0 x1 10 0)))/\∀(i0:Unit),True->zf3 x0 x1
end
def z3x(s:ByteArray) (i:Int):qjz P (z55) Try.f28 z21 (z5e) ⟨s,i⟩=(0<=i/\i<(↑(size s):Int)/\size s<100000/\z02 (bat s (toNat i))=true->zf2 s i):=by kernel_rfl
def z4x:=λs i=>Eq.trans (z3x s i) (by delta Ji Jb Jt Jf z71 z2p z0z z5i zbo zf8 z0u z9h z73 z34 zbq zbp zbn zfa zf6 zf5 z9k z5j z9i z9j zbm z72 zf9 zf7 zf4 zf3 zf2;exact rfl)
def z4y:q7a P 28 z21:=by
 refine qk0 mixed z40 (W:=z5e) Try.func28 (by kernel_rfl) (by decide) (by decide) (λ⟨s,i⟩=>by kernel_rfl) λ⟨s,i⟩=>(z4x s i).mpr ?_
 rintro⟨h1,h2,h3,h4⟩
 obtain⟨n,rfl⟩:=Int.eq_ofNat_of_zero_le h1
 have hB:=z7x s n
 have b1:=z0h s (n+1)
 have b2:=z0h s (n+2)
 simp only[decide_eq_true_eq,decide_eq_false_iff_not,and_true,true_and,Int.toNat_natCast,Int.add_zero,tn1,tn2,orx _ b1]
 refine⟨⟨by omega,λa1=>⟨by omega,by omega,λa2=>⟨by omega,λa3=> ?_,λa3=> ?_⟩,λa2=> ?_⟩,λa1=> ?_⟩,λ_ _=>⟨?_,?_⟩⟩
 ·rw[show nbB s n=16 by unfold nbB;rw[if_pos (by omega),if_pos ⟨by omega,by omega⟩],show nbO s n=2 by unfold nbO;rw[if_pos (by omega),if_pos ⟨by omega,by omega⟩]]
  exact⟨rfl,rfl⟩
 ·rw[show nbB s n=8 by unfold nbB;rw[if_pos (by omega),if_neg (by omega)],show nbO s n=1 by unfold nbO;rw[if_pos (by omega),if_neg (by omega)]]
  exact⟨rfl,rfl⟩
 ·rw[show nbB s n=8 by unfold nbB;rw[if_pos (by omega),if_neg (by omega)],show nbO s n=1 by unfold nbO;rw[if_pos (by omega),if_neg (by omega)]]
  exact⟨rfl,rfl⟩
 ·rw[show nbB s n=10 by unfold nbB;rw[if_neg (by omega)],show nbO s n=0 by unfold nbO;rw[if_neg (by omega)]]
  exact⟨rfl,rfl⟩
 ·refine⟨0,rfl,rfl,by omega,?_,by rw[tnn,Int.toNat_natCast]⟩
  unfold nbO
  split
  ·rename_i g
   split
   ·rename_i g2
    have:=z0f (s:=s) (k:=n+1) (by omega)
    have:n+2<s.size:=by
     rcases Nat.lt_or_ge (n+2) s.size with h|h
     ·exact h
     ·rw[z0o h]at g2;exact absurd g2.1 (by decide)
    omega
   ·omega
  ·omega
 ·rintro⟨m,o,j⟩ ⟨V,rfl,rfl,hj,hj2,inv⟩
  obtain⟨j,rfl⟩:=Int.eq_ofNat_of_zero_le hj
  have bj:=z0h s (n+j)
  simp only[tnn,Int.toNat_natCast]at inv⊢
  have step:=z0r s (nbB s n) (n+j) V (by omega)
  have stop:¬dv (bat s (n+j))<nbB s n->nbR s n=if 18446744073709551616<=V then(3,0,n)else if(isLet (bat s (n+j))||z02 (bat s (n+j))|| (bat s (n+j)==46))=true then(2,0,n)else(0,V,n+j):=λhv=>by
   rw[if_neg hv]at step
   unfold nbR
   rw[←inv,step]
  simp only[Bool.not_eq_true',Bool.not_eq_false',decide_eq_true_eq,decide_eq_false_iff_not]at*
  have bad:isLet (bat s (n+j))=true\/z02 (bat s (n+j))=true\/bat s (n+j)=46->¬dv (bat s (n+j))<nbB s n->¬18446744073709551616<=V->nbR s n=(2,0,n):=λh hv hV=>by
   rw[stop hv,if_neg hV,if_pos (by simpa[or_assoc]using h)]
  have cont:dv (bat s (n+j))<nbB s n->∀o,o=decide (18446744073709551616<=V*nbB s n+dv (bat s (n+j)))->z3w s (n:Nat) (IntKind.u64.wrap (IntKind.u64.wrap (((V % 18446744073709551616:Nat):Int)*(nbB s n:Nat))+(dv (bat s (n+j)):Nat))) o ((j:Int)+1)/\s.size- ((n:Int)+((j:Int)+1)).toNat<s.size- (n+j):=λhv o ho=>by
   have hp:n+j<s.size:=by
    rcases Nat.lt_or_ge (n+j) s.size with h|h
    ·exact h
    ·rw[z0o h]at hv
     have:dv 0=16:=rfl
     omega
   rw[if_pos hv]at step
   refine⟨⟨V*nbB s n+dv (bat s (n+j)),zam _ _ _ hB hv,ho,by omega,by omega,?_⟩,by omega⟩
   rw[show((n:Int)+((j:Int)+1)).toNat=n+j+1 by omega,Int.toNat_natCast,←step,inv]
  refine⟨by omega,by omega,λhv=>⟨λhV=> ?_,λhV=>⟨by omega,by omega,λa1=> ?_,λa1=>⟨by omega,λa2=> ?_,λa2=>⟨λa3=> ?_,λa3=> ?_⟩⟩⟩⟩,λhv=>⟨λhV=> ?_,λhV=> ?_⟩⟩
  ·rw[stop (by omega),if_pos hV];exact⟨rfl,rfl,rfl,rfl,rfl⟩
  ·rw[bad (.inl a1) (by omega) hV];exact⟨rfl,rfl,rfl,rfl,rfl⟩
  ·rw[bad (.inr (.inl a2)) (by omega) hV];exact⟨rfl,rfl,rfl,rfl,rfl⟩
  ·rw[bad (.inr (.inr (by omega))) (by omega) hV];exact⟨rfl,rfl,rfl,rfl,rfl⟩
  ·rw[stop (by omega),if_neg hV,if_neg (by rw[a1,a2];simpa using by omega)]
   exact⟨by omega,rfl,by simp only[];omega,rfl,rfl,show((n+j:Nat):Int)=_ by omega⟩
  ·obtain⟨c1,c2⟩:=cont (by omega) true (by
    symm;rw[decide_eq_true_eq]
    rcases hB with h|h|h<;>rw[h]<;>omega)
   exact⟨by omega,c1,c2⟩
  ·obtain⟨c1,c2⟩:=cont (by omega) _ (zak V _ _ hB (by omega) hV)
   exact⟨by omega,by omega,c1,c2⟩
def z1j(s:ByteArray) (q:Nat):∀(f g j:Nat) (acc:List Nat),s.size+1- j<=f->s.size+1- j<=g->txF s q f j acc=txF s q g j acc
  |0,0,j,acc,h,hi=>rfl
  |0,g+1,j,acc,h,hi=>by rw[txF,txF,if_neg (by omega)]
  |f+1,0,j,acc,h,hi=>by rw[txF,txF,if_neg (by omega)]
  | f + 1,g+1,j,acc,h1,h2=>by
    rw[txF,txF]
    split
    · split
      · rfl
      · split
        · rfl
        · split
          · cases esc (bat s (j+1))with
            |some c=>exact z1j s q f g _ _ (by omega) (by omega)
            |none=>rfl
          · exact z1j s q f g _ _ (by omega) (by omega)
    · rfl
def z1i(s:ByteArray) (q j:Nat) (acc:List Nat):txE s q j acc=if j<s.size then
   if bat s j=q then some (acc,j+1)else if bat s j=10 then none else if bat s j=92 then
    match esc (bat s (j+1))with
    |some c=>txE s q (j+2) (acc++[c])
    |none=>none
   else txE s q (j+1) (acc++[bat s j])
  else none:=by
 unfold txE
 by_cases h:j<s.size
 ·obtain⟨f,hf⟩:∃f,s.size+1- j=f+1:=⟨s.size- j,by omega⟩
  rw[hf,txF,if_pos h,if_pos h]
  split
  ·rfl
  ·split
   ·rfl
   ·split
    ·cases esc (bat s (j+1))with
     |some c=>exact z1j s q _ _ _ _ (by omega) (by omega)
     |none=>rfl
    ·exact z1j s q _ _ _ _ (by omega) (by omega)
 ·rw[if_neg h]
  generalize s.size+1- j=f
  cases f with
  |zero=>rfl
  |succ f=>rw[txF,if_neg h]
def z4a(l:List Nat) (c:Nat) (hc:c<256):q16 (bs l)++[Value.int .u8 (c:Nat)]=q16 (bs (l++[c])):=by
 unfold q16 bs
 simp only[List.map_append,List.map_cons,List.map_nil,List.map_map]
 congr 1
 simp;omega
def z2u(l:List Nat):(bs l).size=l.length:=by
 unfold bs;simp[ByteArray.size]
def za7(c:Nat) (h:c<256):(esc c).getD 0<256:=by
 unfold esc;split
 ·exact h
 ·split<;>simp
def z6i:∀g C,zay g=some C->q7a P g C:=qda (qgx z0q (qgx z6o (qgx z3u qjn)))
section
variable (x0:Int) (x1:ByteArray) (x2:Int) (x3:List Value×Int) (x4:Prop)
 abbrev z2q:=(↑(bat x1 (toNat (x0+x3.2))):Int)
 abbrev z1s:=txR x1 (toNat x0) (toNat x2)
 def zbr:=(↑(nbK (z1s x0 x1 x2).1 3):Int)=0/\(z1s x0 x1 x2).2.1=mkS []/\(↑(0:Nat):Int)=0/\(↑(nbK (z1s x0 x1 x2).1 (toNat x2)):Int)=0/\(↑(z1s x0 x1 x2).1:Int)=2/\x1=x1/\(↑(z1s x0 x1 x2).2.2:Int)=x2/\True
 abbrev z74:=Jb (x3.2+1)
 abbrev z8d:=(↑(bat x1 (toNat (x0+(x3.2+1)))):Int)
 def z9l:=length x3.1=length x3.1*1/\(length x3.1+nat_lit 1)*1<=140737488355328/\x4
 abbrev z5k:=(↑(Option.getD (esc (toNat (z8d x0 x1 x3))) 0):Int)
 def zfh:=z9l x3 (Jb (x3.2+1+1)/\x0=x0/\x3.2+1+1=x3.2+1+1/\length (x3.1++[int u8 (z5k x2 x1 x3)])=length x3.1+nat_lit 1/\x1=x1/\x2=x2/\x3.1++[int u8 (z5k x2 x1 x3)]=x3.1++[int u8 (z5k x2 x1 x3)]/\z59 x1 x2 x0 (x3.1++[int u8 (z5k x2 x1 x3)]) (x3.2+1+1)/\size x1+1- toNat (x2+(x3.2+1+1))<size x1+1- toNat (x2+x3.2)/\True)
 def zfg:=z74 x3/\x3.2+1=x3.2+1/\x1=x1/\x0=x0/\(0<=x0/\x0<=(↑(size x1):Int)/\size x1<1000000/\0<=x3.2+1/\x3.2+1<1000000)/\(z8d x0 x1 x3)=(z8d x0 x1 x3)/\(0<=(z8d x0 x1 x3)/\(z8d x0 x1 x3)<256)/\((!Option.isSome (esc (toNat (z8d x0 x1 x3))))=true->zbr x2 x1 x0)/\((!Option.isSome (esc (toNat (z8d x0 x1 x3))))=false->zfh x2 x1 x0 x3)
 def zfi:=z9l x3 (z74 x3/\x0=x0/\x3.2+1=x3.2+1/\length (x3.1++[int u8 (z2q x2 x1 x3)])=length x3.1+nat_lit 1/\x1=x1/\x2=x2/\x3.1++[int u8 (z2q x2 x1 x3)]=x3.1++[int u8 (z2q x2 x1 x3)]/\z59 x1 x2 x0 (x3.1++[int u8 (z2q x2 x1 x3)]) (x3.2+1)/\size x1+1- toNat (x2+(x3.2+1))<size x1+1- toNat (x2+x3.2)/\True)
 def zff:=Ji ((z2q x0 x1 x3)=92) (zfg x0 x1 x2 x3) (zfi x2 x1 x0 x3)
 def zfe:=Ji ((z2q x0 x1 x3)=10) (zbr x2 x1 x0) (zff x0 x1 x2 x3)
 def zfd:=x3.2=x3.2/\x1=x1/\x0=x0/\(0<=x0/\x0<=(↑(size x1):Int)/\size x1<1000000/\0<=x3.2/\x3.2<1000000)/\Ji ((z2q x0 x1 x3)=x2) (∃i0,size i0=length x3.1/\qgs x3.1 (nat_lit 0) (q16 i0)/\i0=i0/\size i0<1000000/\((!vld i0)=true->zbr x2 x1 x0)/\((!vld i0)=false->∃i1,size i1=length x3.1/\qgs x3.1 (nat_lit 0) (q16 i1)/\z74 x3/\Jb (x0+(x3.2+1))/\(↑(nbK (z1s x2 x1 x0).1 3):Int)=3/\(z1s x2 x1 x0).2.1=i1/\(↑(0:Nat):Int)=0/\(↑(nbK (z1s x2 x1 x0).1 (toNat x0)):Int)=x0/\(↑(z1s x2 x1 x0).1:Int)=0/\x1=x1/\(↑(z1s x2 x1 x0).2.2:Int)=x0+(x3.2+1)/\True)) (zfe x0 x1 x2 x3)
 def zfc:=Jb (x0+x3.2)/\Ji (x0+x3.2<(↑(size x1):Int)) (zfd x0 x1 x2 x3) (zbr x2 x1 x0)
 def zfb:=(x0=x0/\(1:Int)=1/\nat_lit 0=0/\x1=x1/\x2=x2/\z59 x1 x2 x0 [] 1/\True)/\∀(i0:List Value×Int),z59 x1 x2 x0 i0.1 i0.2->zfc x2 x1 x0 i0
end
def z6l(s:ByteArray) (i q:Int):qjz P (zay) Try.f29 z61 (zba) ⟨s,i,q⟩=(0<=i/\i<(↑(size s):Int)/\size s<100000/\(q=34\/q=39)->zfb q s i):=by kernel_rfl
def z96:=λs i q=>Eq.trans (z6l s i q) (by delta Ji Jb Jt Jf z2q z1s zbr z74 z8d z9l z5k zfh zfg zfi zff zfe zfd zfc zfb;exact rfl)
def z97:q7a P 29 z61:=by
 refine qk0 mixed z6i (W:=zba) Try.func29 (by kernel_rfl) (by decide) (by decide) (λ⟨s,i,q⟩=>by kernel_rfl) λ⟨s,i,q⟩=>(z96 s i q).mpr ?_
 rintro⟨h1,h2,h3,h4⟩
 obtain⟨n,rfl⟩:=Int.eq_ofNat_of_zero_le h1
 obtain⟨q,rfl⟩:=Int.eq_ofNat_of_zero_le (show 0<=q by omega)
 simp only[decide_eq_true_eq,decide_eq_false_iff_not,and_true,true_and,Int.toNat_natCast,Int.add_zero,tn1,tn2]
 refine⟨⟨[],rfl,by simp,by omega,by omega,by simp,by rw[tn1,Int.toNat_natCast,Int.toNat_natCast]⟩,?_⟩
 rintro⟨vs,j⟩ ⟨l,rfl,hl,hj,hj2,hlen,inv⟩
 obtain⟨j,rfl⟩:=Int.eq_ofNat_of_zero_le (show 0<=j by omega)
 have bj:=z0h s (n+j)
 have bj1:=z0h s (n+j+1)
 have hz:=z2u l
 simp only[tnn,Int.toNat_natCast,q2w,hz,show((n:Int)+((j:Int)+1)).toNat=n+j+1 by omega]at inv hlen⊢
 have step:=z1i s q (n+j) l
 rw[inv]at step
 have none_:txE s q (n+1) []=none->txR s q n=(2,mkS [],n):=λh=>by unfold txR;rw[h]
 simp only[Bool.not_eq_true',Bool.not_eq_false',decide_eq_true_eq,decide_eq_false_iff_not]at*
 have sub:qgs (q16 (bs l)) 0 (q16 (bs l)):=λa v h=>by rw[Nat.zero_add];exact h
 have no:txE s q (n+1) []=none->((nbK (txR s q n).1 3:Nat):Int)=0/\(txR s q n).2.1=mkS []/\((0:Nat):Int)=0/\((nbK (txR s q n).1 n:Nat):Int)=0/\(((txR s q n).1:Nat):Int)=2/\(((txR s q n).2.2:Nat):Int)=n:=λh=>by
  rw[none_ h];exact⟨rfl,rfl,rfl,rfl,rfl,rfl⟩
 refine⟨by omega,λa0=>⟨by omega,λa1=>⟨bs l,hz,sub,by omega,λa2=> ?_,λa2=>⟨bs l,hz,sub,by omega,by omega,?_⟩⟩,λa1=>⟨λa2=>no ?_,λa2=>⟨λa3=>⟨by omega,by omega,by omega,λa4=>no ?_,λa4=> ?_⟩,λa3=> ?_⟩⟩⟩,λa0=>no ?_⟩
 ·rw[if_pos (by omega),if_pos (by omega)]at step
  have e:txR s q n=(2,mkS [],n):=by unfold txR;rw[step];simp only[];rw[if_neg (by rw[a2];simp)]
  rw[e];exact⟨rfl,rfl,rfl,rfl,rfl,rfl⟩
 ·rw[if_pos (by omega),if_pos (by omega)]at step
  have e:txR s q n=(0,bs l,n+j+1):=by unfold txR;rw[step];simp only[];rw[if_pos a2]
  rw[e];exact⟨rfl,rfl,rfl,rfl,rfl,show((n+j+1:Nat):Int)=_ by omega⟩
 ·rw[step,if_pos (by omega),if_neg (by omega),if_pos (by omega)]
 ·rw[step,if_pos (by omega),if_neg (by omega),if_neg (by omega),if_pos (by omega)]
  rw[Option.isSome_eq_false_iff,Option.isNone_iff_eq_none]at a4
  rw[a4]
 ·rw[if_pos (by omega),if_neg (by omega),if_neg (by omega),if_pos (by omega)]at step
  obtain⟨c,hc⟩:=Option.isSome_iff_exists.mp a4
  have hlt:=za7 _ bj1
  have hp:n+j+1<s.size:=z0f λe=>by rw[e]at hc;cases hc
  rw[hc]at step hlt⊢
  simp only[Option.getD_some]at step hlt⊢
  rw[z4a _ _ hlt,q2w,z2u]
  refine⟨by omega,by omega,by omega,by simp,⟨l++[c],rfl,?_,by omega,by omega,by simp;omega,?_⟩,by omega⟩
  ·intro x hx
   rcases List.mem_append.mp hx with h|h
   ·exact hl x h
   ·rw[List.mem_singleton.mp h];exact hlt
  ·rw[show((n:Int)+((j:Int)+1+1)).toNat=n+j+2 by omega,Int.toNat_natCast,Int.toNat_natCast,step]
 ·rw[if_pos (by omega),if_neg (by omega),if_neg (by omega),if_neg (by omega)]at step
  rw[z4a _ _ bj,q2w,z2u]
  refine⟨by omega,by omega,by omega,by simp,⟨l++[bat s (n+j)],rfl,?_,by omega,by omega,by simp;omega,?_⟩,by omega⟩
  ·intro x hx
   rcases List.mem_append.mp hx with h|h
   ·exact hl x h
   ·rw[List.mem_singleton.mp h];exact bj
  ·rw[show((n:Int)+((j:Int)+1)).toNat=n+j+1 by omega,Int.toNat_natCast,Int.toNat_natCast,step]
 ·rw[step,if_neg (by omega)]
section
variable (x0:ByteArray) (x1 x2:Int) (x3:Prop)
 abbrev z35:=(↑(wdR x0 (toNat x1)).2.1.1:Int)
 abbrev z2b:=(wdR x0 (toNat x1)).2.1.2
 abbrev z36:=(↑(z2b x0 x1).2.1:Int)
 abbrev z37:=(↑(z2b x0 x1).2.2:Int)
 abbrev z39:=(↑(wdR x0 (toNat x1)).1:Int)
 abbrev z38:=(wdR x0 (toNat x1)).2.2
 def zbw:=(z35 x0 x1)=5/\(z2b x0 x1).1=mkS []/\(z36 x0 x1)=0/\(z37 x0 x1)=x1/\(z39 x0 x1)=0/\x0=x0/\Int.ofNat (z38 x0 x1)=x1/\True
 def z9m:=x2=x2/\x0=x0/\x1=x1/\(0<=x1/\x1<=(↑(size x0):Int)/\size x0<1000000/\0<=x2/\x2<1000000)/\x3
 abbrev z1b:=(↑(bat x0 (toNat (x1+x2))):Int)
 def z75:=(z1b x0 x1 0)=(z1b x0 x1 0)/\(0<=(z1b x0 x1 0)/\(z1b x0 x1 0)<256)/\x3
 def zdv:=x0=x0/\x1=x1/\(0<=x1/\x1<(↑(size x0):Int)/\size x0<100000)/\(z35 x0 x1)=(↑(1:Nat):Int)/\(z2b x0 x1).1=ByteArray.extract x0 (toNat x1) (nmE x0 (toNat x1+1))/\(z36 x0 x1)=(↑(0:Nat):Int)/\(z37 x0 x1)=(↑(toNat x1):Int)/\(z39 x0 x1)=0/\x0=x0/\Int.ofNat (z38 x0 x1)=Int.ofNat (nmE x0 (toNat x1+1))/\True
 def zfo:=x0=x0/\x1=x1/\(0<=x1/\x1<(↑(size x0):Int)/\size x0<100000/\z02 (bat x0 (toNat x1))=true)/\(z35 x0 x1)=(↑(nbK (nbR x0 (toNat x1)).1 2):Int)/\(z2b x0 x1).1=mkS []/\(z36 x0 x1)=(↑(nbR x0 (toNat x1)).2.1:Int)/\(z37 x0 x1)=(↑(nbK (nbR x0 (toNat x1)).1 (toNat x1)):Int)/\(z39 x0 x1)=(↑(nbR x0 (toNat x1)).1:Int)/\x0=x0/\Int.ofNat (z38 x0 x1)=Int.ofNat (nbR x0 (toNat x1)).2.2/\True
 abbrev z42:=txR x0 (toNat (z1b x0 x1 0)) (toNat x1)
 def zdu:=(z1b x0 x1 0)=(z1b x0 x1 0)/\x0=x0/\x1=x1/\(0<=x1/\x1<(↑(size x0):Int)/\size x0<100000/\((z1b x0 x1 0)=34\/(z1b x0 x1 0)=39))/\(z35 x0 x1)=(↑(nbK (z42 x0 x1).1 3):Int)/\(z2b x0 x1).1=(z42 x0 x1).2.1/\(z36 x0 x1)=(↑(0:Nat):Int)/\(z37 x0 x1)=(↑(nbK (z42 x0 x1).1 (toNat x1)):Int)/\(z39 x0 x1)=(↑(z42 x0 x1).1:Int)/\x0=x0/\Int.ofNat (z38 x0 x1)=(↑(z42 x0 x1).2.2:Int)/\True
 abbrev zbx:=0<=Lib.indexByte (Array.toList (ByteArray.data (mkS [123,125,40,41,91,93,61,59,44,60,62,45]))) (UInt8.ofNat (toNat (z1b x0 x1 0)))
 def zbs:=Jb (x1+1)/\∃i0,size i0=1/\qgs [int u8 (z1b x0 x1 0)] 0 (q16 i0)/\Jb (x1+1- 1)/\(z35 x0 x1)=4/\(z2b x0 x1).1=i0/\(z36 x0 x1)=0/\(z37 x0 x1)=x1+1- 1/\(z39 x0 x1)=0/\x0=x0/\Int.ofNat (z38 x0 x1)=x1+1/\True
 def zbv:=(z35 x0 x1)=0/\(z2b x0 x1).1=mkS []/\(z36 x0 x1)=0/\(z37 x0 x1)=0/\(z39 x0 x1)=2/\x0=x0/\Int.ofNat (z38 x0 x1)=x1/\True
 def zfn:=mkS [123,125,40,41,91,93,61,59,44,60,62,45]=mkS [123,125,40,41,91,93,61,59,44,60,62,45]/\z75 x0 x1 (Ji (zbx x0 x1) (zbs x0 x1) (zbv x0 x1))
 def zfm:=Ji ((z1b x0 x1 0)=39) (zdu x0 x1) (zfn x0 x1)
 def zfj:=Ji ((z1b x0 x1 0)=34) (zdu x0 x1) (zfm x0 x1)
 def zdt:=z75 x0 x1 ((z02 (toNat (z1b x0 x1 0))=true->zfo x0 x1)/\(z02 (toNat (z1b x0 x1 0))=false->zfj x0 x1))
 def zbu:=z9m x0 x1 1 ((z1b x0 x1 1)=(z1b x0 x1 1)/\(0<=(z1b x0 x1 1)/\(z1b x0 x1 1)<256)/\(isLet (toNat (z1b x0 x1 1))=true->zdv x0 x1)/\(isLet (toNat (z1b x0 x1 1))=false->zdt x0 x1))
 def zbt:=Ji ((z1b x0 x1 0)=46) (zbu x0 x1) (zdt x0 x1)
 def zfl:=z9m x0 x1 0 (z75 x0 x1 ((isLet (toNat (z1b x0 x1 0))=true->zdv x0 x1)/\(isLet (toNat (z1b x0 x1 0))=false->zbt x0 x1)))
 def zfk:=Ji (x1=(↑(size x0):Int)) (zbw x0 x1) (zfl x0 x1)
end
def z6s(s:ByteArray) (i:Int):qjz P (zb0) Try.f16 z8j (λ_=>{}) ⟨s,i⟩=(0<=i/\i<=(↑(size s):Int)/\size s<100000->zfk s i):=by kernel_rfl
def z9c:=λs i=>Eq.trans (z6s s i) (by delta Ji Jb Jt Jf z35 z2b z36 z37 z39 z38 zbw z9m z1b z75 zdv zfo z42 zdu zbx zbs zbv zfn zfm zfj zdt zbu zbt zfl zfk;exact rfl)
def z6j:∀g C,zb0 g=some C->q7a P g C:=qda (qgx z0q (qgx z1n (qgx z1d (qgx z8x (qgx z4y (qgx z97 (qgx z1a qjn)))))))
def zau:∀c<256,0<=Lib.indexByte (mkS [123,125,40,41,91,93,61,59,44,60,62,45]).data.toList (UInt8.ofNat c)↔c∈sgs:=by decide+kernel
def z9d:q7a P 16 z8j:=by
 refine qk0 mixed z6j (W:=λ_=>{}) Try.func16 (by kernel_rfl) (by decide) (by decide) (λ⟨s,i⟩=>by kernel_rfl) λ⟨s,i⟩=>(z9c s i).mpr ?_
 rintro⟨h1,h2,h3⟩
 obtain⟨n,rfl⟩:=Int.eq_ofNat_of_zero_le h1
 have b0:=z0h s n
 have b1:=z0h s (n+1)
 simp only[decide_eq_true_eq,decide_eq_false_iff_not,and_true,true_and,Int.toNat_natCast,Int.add_zero,tn1,tn2]
 have eqs:n=s.size->wdR s n=(0,(5,mkS [],0,n),n):=λh=>by unfold wdR;rw[if_pos h]
 have eN:¬n=s.size->isLet (bat s n)=true\/(bat s n=46/\isLet (bat s (n+1))=true)->wdR s n=(0,(1,s.extract n (nmE s (n+1)),0,n),nmE s (n+1)):=λh h1=>by unfold wdR;rw[if_neg h,if_pos h1]
 have eD:¬n=s.size->¬(isLet (bat s n)=true\/(bat s n=46/\isLet (bat s (n+1))=true))->z02 (bat s n)=true->wdR s n=((nbR s n).1,(nbK (nbR s n).1 2,mkS [],(nbR s n).2.1,nbK (nbR s n).1 n),(nbR s n).2.2):=λh h1 h2=>by unfold wdR;rw[if_neg h,if_neg h1,if_pos h2]
 have eT:¬n=s.size->¬(isLet (bat s n)=true\/(bat s n=46/\isLet (bat s (n+1))=true))->z02 (bat s n)=false->bat s n=34\/bat s n=39->wdR s n=((txR s (bat s n) n).1,(nbK (txR s (bat s n) n).1 3,(txR s (bat s n) n).2.1,0,nbK (txR s (bat s n) n).1 n),(txR s (bat s n) n).2.2):=λh h1 h2 h4=>by unfold wdR;rw[if_neg h,if_neg h1,if_neg (by rw[h2];simp),if_pos h4]
 have eS:¬n=s.size->¬(isLet (bat s n)=true\/(bat s n=46/\isLet (bat s (n+1))=true))->z02 (bat s n)=false->¬(bat s n=34\/bat s n=39)->wdR s n=if bat s n∈sgs then(0,(4,mkS [bat s n],0,n),n+1)else(2,(0,mkS [],0,0),n):=λh h1 h2 h4=>by unfold wdR;rw[if_neg h,if_neg h1,if_neg (by rw[h2];simp),if_neg h4]
 have sg:=zau (bat s n) b0
 refine⟨λa0=> ?e,λa0=>⟨by omega,by omega,λa1=>⟨by omega,?n1⟩,λa1=>⟨λa2=>⟨by omega,by omega,λa3=>⟨by omega,?n2⟩,λa3=> ?x⟩,λa2=> ?y⟩⟩⟩
 case e=>rw[eqs (by omega)];exact⟨rfl,rfl,rfl,rfl,rfl,rfl⟩
 case n1=>rw[eN (by omega) (.inl a1)];exact⟨rfl,rfl,rfl,rfl,rfl,rfl⟩
 case n2=>rw[eN (by omega) (.inr ⟨by omega,a3⟩)];exact⟨rfl,rfl,rfl,rfl,rfl,rfl⟩
 case x|y=>
  have nn:¬(isLet (bat s n)=true\/(bat s n=46/\isLet (bat s (n+1))=true)):=by
   rintro(h|⟨h,h'⟩)
   ·rw[a1]at h;cases h
   ·first| (rw[a3]at h';cases h')|omega
  refine⟨by omega,λc1=>⟨⟨by omega,by omega,h3,c1⟩,?_⟩,λc1=>⟨λc2=>⟨⟨by omega,by omega,h3,by omega⟩,?_⟩,λc2=>⟨λc3=>⟨⟨by omega,by omega,h3,by omega⟩,?_⟩,λc3=>⟨by omega,λc4=> ?_,λc4=> ?_⟩⟩⟩⟩
  ·rw[eD (by omega) nn c1];exact⟨rfl,rfl,rfl,rfl,rfl,rfl⟩
  ·rw[eT (by omega) nn c1 (by omega)];exact⟨rfl,rfl,rfl,rfl,rfl,rfl⟩
  ·rw[eT (by omega) nn c1 (by omega)];exact⟨rfl,rfl,rfl,rfl,rfl,rfl⟩
  ·rw[eS (by omega) nn c1 (by omega),if_pos (sg.mp c4)]
   refine⟨by omega,mkS [bat s n],rfl,λj v h=> ?_,by omega,rfl,rfl,rfl,show((n:Nat):Int)=_ by omega,rfl,show((n+1:Nat):Int)=_ by omega⟩
   rw[Nat.zero_add]
   rw[show q16 (mkS [bat s n])=[Value.int .u8 (bat s n:Nat)]from(z4a [] _ b0).symm]at h
   exact h
  ·rw[eS (by omega) nn c1 (by omega),if_neg (λh=>c4 (sg.mpr h))]
   exact⟨rfl,rfl,rfl,rfl,rfl,rfl⟩
abbrev Tk:=Nat×ByteArray×Nat×Nat
def tkV(x:Tk):List Value:=[.int .i64 (x.1:Nat), .string x.2.1, .int .u64 (x.2.2.1:Nat), .int .i64 (x.2.2.2:Nat)]
def z1w(l:List Tk):List Value:=l.flatMap tkV
def lxF(s:ByteArray):Nat->Nat->List Tk->List Tk×Nat×Nat
  |0,_,_=>([],0,0)
  | f+1,i,acc=>
    if(spR s i).1=false then([],2,(spR s i).2)else
    if(wdR s (spR s i).2).1≠0 then([],(wdR s (spR s i).2).1,(wdR s (spR s i).2).2.2)else
    if(wdR s (spR s i).2).2.1.1=5 then(acc++[(wdR s (spR s i).2).2.1],0,0)else
    lxF s f (wdR s (spR s i).2).2.2 (acc++[(wdR s (spR s i).2).2.1])
def lxE(s:ByteArray) (i:Nat) (acc:List Tk):List Tk×Nat×Nat:=lxF s (s.size+1- i) i acc
def lxR(s:ByteArray):List Tk×Nat×Nat:=if 3000<s.size then([],3,0)else lxE s 0 []
def tkM(l:List Tk):List SV->PF
 | [x]=>⟨true,λp=>x.2.1=l.length/\qh1 p x.1 x.2.1 x.2.2 (z1w l),λ_ _ h e=>⟨e.1,q4p h e.2⟩⟩
 |_=>{}
def za0:Ct where
 σ:=ByteArray
 args:=λs=>[.sv (.string s)]
 h:=λ_=>[]
 m:=1
 pre:=λs=>s.size<100000
 mem:=λ_=>hG
 find:=some λl _=>match l with
  | [a]=>gs a
  |_=>none
 r:=λs=> .tup [.tsl 1, .sv (.int .i64 ((lxR s).2.1:Nat)), .sv (.int .i64 ((lxR s).2.2:Nat))]
 h':=λ_=>[]
 m':=2
 g:=λs=>some {β:=Unit,ks:=[1],pre:=λ_=>True,mem:=λ_ xs=>tkM (lxR s).1 xs}
def zai(t:T AV) (h:T AO):Option (List Value×Nat×Int):=match z4h h 1 with
  | some (_,j)=>match t.get 2 with
    | some (.ssl id _ n _ _)=>match h.get id with
      |some (.row _ _ vs)=>some (vs,n,j)
      | some (.cells _ _ _ l)=>match qa6.concs l with
        |some vs=>some (vs,n,j)
        |none=>none
      |_=>none
    |some .nsl=>some ([],0,j)
    |_=>none
  |none=>none
def z69(s:ByteArray) (vs:List Value) (n:Nat) (j:Int):Prop:=s.size<=3000/\∃l:List Tk,vs=z1w l/\n=l.length/\0<=j/\j<=s.size/\l.length<=j.toNat/\lxE s j.toNat l=lxE s 0 []
def ze3:za0.σ->WayF:=λs=>{
 ann:=λ_ _ _=>some {σ:=List Value×Nat×Int,pre:=λ⟨vs,n,j⟩=>z69 s vs n j,find:=some zai,t:=λ⟨vs,n,j⟩=>[(2, .ssl 2 0 n 4 3)],h:=λ⟨vs,n,j⟩=>[(2, .row 37 0 vs),(1, .cells 46 (some 0) false [.sv (.string s), .sv (.int .i64 j)])],more:=2,μ:=λ⟨vs,n,j⟩=>s.size- j.toNat,keep:=[0,5]}
 pubE:=[2]}
def ze2:Nat->Option Ct:=qfl [(15,z3i),(16,z8j)]
def z52 (s:ByteArray):∀(f i:Nat),i<=s.size->s.size- i=f->i<=(spR s i).2/\(spR s i).2<=s.size:=λf=>by
  induction f using Nat.strongRecOn with
  | ind f ih=>
    intro i hi hf
    rw[z0t s i hi]
    split
    · rename_i h
      have:=z12 h
      have:=ih (s.size- (i+1)) (by omega) (i+1) (by omega) rfl
      omega
    · split
      · rename_i h
        have:=z2g s i h
        have:=ih (s.size- eol s i) (by omega) (eol s i) (by omega) rfl
        omega
      · split
        · cases hc:cl s (i+2)with
          |none=>simp only[];omega
          | some k=>
            have:=z3s s _ _ _ rfl hc
            have:=ih (s.size- (k+2)) (by omega) (k+2) (by omega) rfl
            simp only[];omega
        · simp only[];omega
def z7y(s:ByteArray):∀(f j:Nat),j<=s.size->s.size- j=f->j<=nmE s j/\nmE s j<=s.size
  |0,j,h,hf=>by rw[nmE,hf,nmF];omega
  | f +1,j,h,hf=>by
    rw[z1f s j h]
    split
    · have:=z7y s f (j+1) (by omega) (by omega)
      omega
    · omega
def z4i(s:ByteArray) (B:Nat) (hB:B<=16):∀(f j v:Nat),j<=s.size->s.size- j=f->j<=(dgE s B j v).1/\(dgE s B j v).1<=s.size
  |0,j,v,h,hf=>by rw[dgE,hf,dgF];simp only[];omega
  | f +1,j,v,h,hf=>by
    rw[z0r s B j v hB]
    split
    · have:=z4i s B hB f (j+1) (v*B+dv (bat s j)) (by omega) (by omega)
      omega
    · simp only[];omega
def zb4 (s :ByteArray) (q:Nat):∀(f j:Nat) (acc:List Nat) (l:List Nat) (to:Nat),s.size+1- j=f->txE s q j acc=some (l,to)->j<to/\to<=s.size:=λf=>by
  induction f using Nat.strongRecOn with
  | ind f ih=>
    intro j acc l to hf h
    rw[z1i]at h
    split at h
    · split at h
      · cases h;omega
      · split at h
        · cases h
        · split at h
          · cases he:esc (bat s (j+1))with
            |none=>rw[he]at h;cases h
            | some c=>
              rw[he]at h
              have:=ih _ (by omega) (j+2) _ l to rfl h
              omega
          · have:=ih _ (by omega) (j+1) _ l to rfl h
            omega
    · cases h
def zaj(s:ByteArray) (n:Nat) (hn:n<s.size):n+nbO s n<=s.size:=by
 unfold nbO
 split
 ·split
  ·rename_i g2
   have:n+2<s.size:=by
    rcases Nat.lt_or_ge (n+2) s.size with h|h
    ·exact h
    ·rw[z0o h]at g2;exact absurd g2.1 (by decide)
   omega
  ·omega
 ·omega
def za3:∀c<256,z02 c=true->dv c<10:=by decide+kernel
def zal(s:ByteArray) (i:Nat) (hi:i<s.size) (hd:z02 (bat s i)=true):(nbR s i).2.2<=s.size/\((nbR s i).1=0->i<(nbR s i).2.2):=by
 have hB:=z7x s i
 have hle:=z4i s (nbB s i) (by omega) _ (i+nbO s i) 0 (zaj s i hi) rfl
 have hgt:i<(dgE s (nbB s i) (i+nbO s i) 0).1:=by
  by_cases h48:bat s i=48
  ·have:1<=nbO s i:=by unfold nbO;rw[if_pos h48];split<;>omega
   omega
  ·have e0:nbO s i=0:=by unfold nbO;rw[if_neg h48]
   have eB:nbB s i=10:=by unfold nbB;rw[if_neg h48]
   rw[e0,eB,Nat.add_zero,z0r s 10 i 0 (by omega),if_pos (za3 _ (z0h s i) hd)]
   have:=z4i s 10 (by omega) _ (i+1) (0*10+dv (bat s i)) (by omega) rfl
   omega
 unfold nbR
 simp only[]
 split
 ·exact⟨by simp only[];omega,λh=>by simp at h⟩
 ·split
  ·exact⟨by simp only[];omega,λh=>by simp at h⟩
  ·exact⟨by simp only[];omega,λ_=>hgt⟩
def zb6(s:ByteArray) (q i:Nat) (hi:i<s.size):(txR s q i).2.2<=s.size/\((txR s q i).1=0->i<(txR s q i).2.2):=by
  unfold txR
  cases h:txE s q (i+1) []with
  |none=>exact⟨by simp only[];omega,λh=>by simp at h⟩
  | some x=>
    obtain⟨l,to⟩:=x
    have:=zb4 s q _ _ _ _ _ rfl h
    simp only[]
    split
    · exact⟨by simp only[];omega,λ_=>by simp only[];omega⟩
    · exact⟨by simp only[];omega,λh=>by simp at h⟩
def z5f(s:ByteArray) (i:Nat) (hi:i<=s.size):(wdR s i).2.2<=s.size/\((wdR s i).1=0->(wdR s i).2.1.1≠5->i<(wdR s i).2.2):=by
 unfold wdR
 split
 ·exact⟨hi,λ_ h=>absurd rfl h⟩
 ·rename_i h0
  split
  ·have:=z7y s _ (i+1) (by omega) rfl
   exact⟨this.2,λ_ _=>by simp only[];omega⟩
  ·split
   ·rename_i hd
    have:=zal s i (by omega) hd
    exact⟨this.1,λh _=>this.2 h⟩
   ·split
    ·have:=zb6 s (bat s i) i (by omega)
     exact⟨this.1,λh _=>this.2 h⟩
    ·split
     ·exact⟨by simp only[];omega,λ_ _=>by simp only[];omega⟩
     ·exact⟨hi,λh=>by simp at h⟩
def z3o(s:ByteArray):∀(f g i:Nat) (acc:List Tk),s.size+1- i<=f->s.size+1- i<=g->i<=s.size->lxF s f i acc=lxF s g i acc
  |0,_,i,_,h,_,hi=>by omega
  |_+1,0,i,_,_,h,hi=>by omega
  | f + 1,g+1,i,acc,h1,h2,hi=>by
    have a:=z52 s _ i hi rfl
    have b:=z5f s (spR s i).2 a.2
    rw[lxF,lxF]
    split
    · rfl
    · split
      · rfl
      · split
        · rfl
        · rename_i q1 q2
          have:=b.2 (by simpa using q1) q2
          exact z3o s f g _ _ (by omega) (by omega) b.1
def z26(s:ByteArray) (i:Nat) (acc:List Tk) (hi:i<=s.size):lxE s i acc=
  if(spR s i).1=false then([],2,(spR s i).2)else
  if(wdR s (spR s i).2).1≠0 then([],(wdR s (spR s i).2).1,(wdR s (spR s i).2).2.2)else
  if(wdR s (spR s i).2).2.1.1=5 then(acc++[(wdR s (spR s i).2).2.1],0,0)else
  lxE s (wdR s (spR s i).2).2.2 (acc++[(wdR s (spR s i).2).2.1]):=by
 have a:=z52 s _ i hi rfl
 have b:=z5f s (spR s i).2 a.2
 unfold lxE
 obtain⟨f,hf⟩:∃f,s.size+1- i=f+1:=⟨s.size- i,by omega⟩
 rw[hf,lxF]
 split
 ·rfl
 ·split
  ·rfl
  ·split
   ·rfl
   ·rename_i q1 q2
    have:=b.2 (by simpa using q1) q2
    exact z3o s _ _ _ _ (by omega) (by omega) b.1
def z6m(l:List Tk) (x:Tk):z1w l++tkV x=z1w (l++[x]):=by
 unfold z1w;simp
def z1h(l:List Tk):(z1w l).length=l.length*4:=by
 unfold z1w
 induction l with
 |nil=>rfl
 |cons a l ih=>rw[List.flatMap_cons,List.length_append,ih];simp[tkV];omega
def z0w:Pl noA:=trivial
def z8e{x:Addr} (h:x.spot=none):Pl (some x):=trivial
def z94:∀g C,ze2 g=some C->q7a P g C:=qda (qgx z6g (qgx z9d qjn))
section
variable (x0:ByteArray) (x1:List Value×Nat×Int) (x2:Nat->Option Obj) (x3:Prop) (x4:Int)
 abbrev z9o:=∃(i0:Int),q5o x2 (Addr.mk 0 0 none)=some (int i64 i0)
 def z5u:=True/\z9o x2
 def z77:=noA=noA/\(0:Nat)=0/\(0:Nat)=0/\x3
 def z9n:=(↑(lxR x0).2.1:Int)=x4/\(↑(lxR x0).2.2:Int)=0/\x3
 def zfv:=0=length (lxR x0).1/\qh1 x2 noA 0 0 (z1w (lxR x0).1)
 def z76:=Pl noA/\True/\(∀i0,(z5u i0)->zfv x0 i0)/\True
 abbrev z2r:=(spR x0 (toNat x1.2.2)).2
 abbrev z78:=(↑((wdR x0 (toNat (Int.ofNat (z2r x0 x1)))).1):Int)
 abbrev z5m:=(wdR x0 (toNat (Int.ofNat (z2r x0 x1)))).2
 abbrev z5l:=(↑(z5m x0 x1).1.1:Int)
 abbrev z3a:=(z5m x0 x1).1.2.2
 abbrev zd0:=x1.1++[int i64 (z5l x0 x1),string (z5m x0 x1).1.2.1,int u64 (↑(z3a x0 x1).1:Int),int i64 (↑(z3a x0 x1).2:Int)]
 def zfu:=x0=x0/\x1.2.1+nat_lit 1=x1.2.1+nat_lit 1/\x0=x0/\Int.ofNat (z5m x0 x1).2=Int.ofNat (z5m x0 x1).2/\x1.1++[int i64 (z5l x0 x1),string (z5m x0 x1).1.2.1,int u64 (↑(z3a x0 x1).1:Int),int i64 (↑(z3a x0 x1).2:Int)]=x1.1++[int i64 (z5l x0 x1),string (z5m x0 x1).1.2.1,int u64 (↑(z3a x0 x1).1:Int),int i64 (↑(z3a x0 x1).2:Int)]/\(∀i0,(z5u i0)->z5u i0)/\z69 x0 (zd0 x0 x1) (x1.2.1+nat_lit 1) (Int.ofNat (z5m x0 x1).2)/\size x0- toNat (Int.ofNat (z5m x0 x1).2)<size x0- toNat x1.2.2/\True
 def zft:=length x1.1=x1.2.1*4/\(x1.2.1+nat_lit 1)*40<=140737488355328/\Ji ((z5l x0 x1)=5) (∀(i0 i1 i2:Nat) (i3:Option Addr) (i4 i5:Nat),(∃i6,(z5u i6)/\x1.2.1+nat_lit 1<=i5/\qib i6 i3 (take ((x1.2.1+nat_lit 1)*nat_lit 4) (zd0 x0 x1)))->∃(i8:Unit),i3=i3/\x1.2.1+nat_lit 1=x1.2.1+nat_lit 1/\i5=i5/\z9n x0 (Pl i3/\True/\(∀i9,(z5u i9)/\x1.2.1+nat_lit 1<=i5/\qib i9 i3 (take ((x1.2.1+nat_lit 1)*nat_lit 4) (zd0 x0 x1))->x1.2.1+nat_lit 1=length (lxR x0).1/\qh1 i9 i3 (x1.2.1+nat_lit 1) i5 (z1w (lxR x0).1))/\True) 0) (zfu x0 x1)
 def zfs:=x0=x0/\Int.ofNat (z2r x0 x1)=Int.ofNat (z2r x0 x1)/\(0<=Int.ofNat (z2r x0 x1)/\Int.ofNat (z2r x0 x1)<=(↑(size x0):Int)/\size x0<100000)/\((!decide ((z78 x0 x1)=0))=true->∃(i0:Unit),z77 ((↑(lxR x0).2.1:Int)=(z78 x0 x1)/\(↑(lxR x0).2.2:Int)=Int.ofNat (z5m x0 x1).2/\z76 x0))/\((!decide ((z78 x0 x1)=0))=false->zft x0 x1)
 def zfr:=x0=x0/\x1.2.2=x1.2.2/\(0<=x1.2.2/\x1.2.2<=(↑(size x0):Int)/\size x0<100000)/\(∀i0,(z5u i0)->z9o i0)/\((!(spR x0 (toNat x1.2.2)).1)=true->∃(i3:Unit),z77 ((↑(lxR x0).2.1:Int)=2/\(↑(lxR x0).2.2:Int)=Int.ofNat (z2r x0 x1)/\z76 x0))/\((!(spR x0 (toNat x1.2.2)).1)=false->zfs x0 x1)
 def zfq:=(x0=x0/\nat_lit 0=0/\x0=x0/\(0:Int)=0/\(∀i0,(z5u i0)->z5u i0)/\z69 x0 [] 0 0/\True)/\∀(i3:List Value×Nat×Int),z69 x0 i3.1 i3.2.1 i3.2.2->zfr x0 i3
 def zfp:=Ji (3000<(↑(size x0):Int)) (∃(i0:Unit),z77 (z9n x0 (z76 x0) 3)) (zfq x0)
end
def z8t(s:ByteArray):qjz P (ze2) Try.f10 za0 (ze3) s=(size s<100000->(∃(p:Pub),z5u p)->zfp s):=by kernel_rfl
def zah:=λs=>Eq.trans (z8t s) (by delta Ji Jt Jf z9o z5u z77 z9n zfv z76 z2r z78 z5m z5l z3a zd0 zfu zft zfs zfr zfq zfp;exact rfl)
def z7v:q7a P 10 za0:=by
 refine qk0 mixed z94 (W:=ze3) Try.func10 (by kernel_rfl) (by decide) (by decide) (λs=>by kernel_rfl) λ(s:ByteArray)=>(zah s).mpr ?_
 intro h3 hp
 simp only[decide_eq_true_eq,decide_eq_false_iff_not,and_true,true_and,Int.toNat_natCast,Int.add_zero]
 refine⟨λa0=>⟨(),?_⟩,λa0=>⟨⟨λp h=>h,?_⟩,?_⟩⟩
 ·have e:lxR s=([],3,0):=by unfold lxR;rw[if_pos (by omega)]
  rw[e]
  exact⟨rfl,rfl,z0w,λp _=>⟨rfl,Nat.le_refl _, .inl ⟨rfl,z0w⟩⟩⟩
 ·exact⟨by omega,[],rfl,rfl,by omega,by omega,by simp,rfl⟩
 rintro⟨vs,n,j⟩ ⟨hs,l,rfl,rfl,hj,hj2,hlen,inv⟩
 simp only[]at hj hj2 hlen inv
 obtain⟨j,rfl⟩:=Int.eq_ofNat_of_zero_le hj
 have hj3:j<=s.size:=by omega
 have a:=z52 s _ j hj3 rfl
 have b:=z5f s (spR s j).2 a.2
 have step:=z26 s j l hj3
 have lx:lxR s=lxE s 0 []:=by unfold lxR;rw[if_neg (by omega)]
 simp only[Int.toNat_natCast]at inv hlen⊢
 rw[inv,←lx]at step
 simp only[Bool.not_eq_true',Bool.not_eq_false',decide_eq_true_eq,decide_eq_false_iff_not]at*
 have tn0:(Int.ofNat (spR s j).2).toNat=(spR s j).2:=Int.toNat_natCast _
 have tn3:(Int.ofNat (wdR s (spR s j).2).2.2).toNat=(wdR s (spR s j).2).2.2:=Int.toNat_natCast _
 rw[tn0,tn3]
 have ap:=z6m l (wdR s (spR s j).2).2.1
 unfold tkV at ap
 rw[ap]
 have qj8:=z1h (l++[(wdR s (spR s j).2).2.1])
 rw[List.take_of_length_le (by rw[qj8];simp)]
 refine⟨by omega,λp h=>h,λc1=>⟨(),?_⟩,λc1=>⟨⟨show(0:Int)<=((spR s j).2:Nat)by omega,show((spR s j).2:Int)<=_ by omega,h3⟩,λc2=>⟨(),?_⟩,λc2=>⟨z1h l,by omega,λc3 b s_2 u q n c hq=>⟨(),?_⟩,λc3=>⟨λp h=>h,?_,?_⟩⟩⟩⟩
 ·rw[if_pos c1]at step
  rw[step]
  exact⟨rfl,rfl,z0w,λp _=>⟨rfl,Nat.le_refl _, .inl ⟨rfl,z0w⟩⟩⟩
 ·rw[if_neg (by rw[c1];simp),if_pos (by omega)]at step
  rw[step]
  exact⟨rfl,rfl,z0w,λp _=>⟨rfl,Nat.le_refl _, .inl ⟨rfl,z0w⟩⟩⟩
 ·rw[if_neg (by rw[c1];simp),if_neg (by omega),if_pos (by omega)]at step
  rw[step]
  obtain⟨p,hp1,hp2,hp3⟩:=hq
  refine⟨rfl,rfl,?_,λp h=>⟨by simp,h.2.1,h.2.2⟩⟩
  rcases hp3 with⟨h,_⟩|⟨x,rfl,h,_⟩
  ·have:=congrArg List.length h
   rw[qj8]at this;simp at this
  ·exact z8e h
 ·rw[if_neg (by rw[c1];simp),if_neg (by omega),if_neg (by omega)]at step
  have:=b.2 (by omega) (by omega)
  refine⟨hs,_,rfl,by simp,show(0:Int)<=((wdR s (spR s j).2).2.2:Nat)by omega,show((wdR s (spR s j).2).2.2:Int)<=_ by omega,?_,?_⟩
  ·rw[tn3];simp;omega
  ·rw[tn3,←step,lx]
 ·have:=b.2 (by omega) (by omega)
  omega
def lx(s:ByteArray) (i e a:Int):List (Nat×AO):=[(1, .cells 51 (some 0) false [.sv (.string s), .sv (.int .i64 i), .sv (.int .i64 e), .sv (.int .i64 a)])]
def zdl(x:Int):IntKind.u8.wrap x=x % 256:=by
 unfold IntKind.wrap;simp[IntKind.bits,IntKind.signed]
def zd3(x:Addr) (h:x.spot=none) (i j:Nat):(x.add i).add j=x.add (i+j):=by
 obtain⟨b,o,s⟩:=x
 simp only at h
 subst h
 unfold Addr.add
 by_cases hi:i=0
 ·subst hi;simp
 ·by_cases hj:j=0
  ·subst hj;simp[hi]
  ·rw[if_neg hi,if_neg hj,if_neg (by omega)]
   simp only[Nat.add_assoc]
def z86:∀(l:List Tk) (i:Nat) (hi:i<l.length) (j:Nat),j<4->(z1w l)[i*4+j]? =(tkV l[i])[j]?
  | x::l,0,_,j,hj=>by
    show(tkV x++z1w l)[0*4+j]? =_
    rw[Nat.zero_mul,Nat.zero_add,List.getElem?_append_left (by show j<4;exact hj)];rfl
  | x::l,i+1,hi,j,hj=>by
    show(tkV x++z1w l)[(i+1)*4+j]? =_
    rw[List.getElem?_append_right (by show 4<=_;omega),show(i+1)*4+j- (tkV x).length=i*4+j by show(i+1)*4+j- 4=_;omega]
    exact z86 l i (by simpa using hi) j hj
def z0j{p:Pub} {a:Option Addr} {n c:Nat} {l:List Tk} (h:qh1 p a n c (z1w l)) {i:Nat} (hi:i<l.length):a≠noA/\q39 p (adr a (i*4)) (tkV l[i]):=by
 rcases h.2 with⟨h,_⟩|⟨x,rfl,h1,h2⟩
 ·have:=congrArg List.length h
  rw[z1h,List.length_nil]at this;omega
 ·refine⟨by simp,λj v hj=> ?_⟩
  have hj4:j<4:=(List.getElem?_eq_some_iff.mp hj).1
  show q5o p ((x.add (i*4)).add j)=some v
  rw[zd3 x h1]
  exact h2 _ v (by rw[z86 l i hi j hj4];exact hj)
def z4c:Ct:=ctS Unit (λ_=>[]) (λ_=>some ()) (λ_=>True) (λ_=>hG) λ_=> .sv (.bool true)
def zaw:Nat->Option Ct:=qfl [(10,za0)]
def zgv:lxR (mkS [97,46,98,32,61,32,48,120,49,70])=([(1,mkS [97,46,98],0,0),(4,mkS [61],0,4),(2,mkS [],31,6),(5,mkS [],0,10)],0,0):=by decide+kernel
def zgw:lxR (mkS [97,32,63])=([],2,2):=by decide+kernel
def z4e{p:Pub} {x:Addr} {vs:List Value} (h:q39 p x vs) (hs:x.spot=none) (k:Nat) {v:Value} (hv:vs[k]? =some v):q39 p (x.add k) [v]:=λj u hj=>by
  cases j with
  | zero=>
    simp at hj;subst hj
    rw[zd3 x hs]
    exact h k v hv
  |succ j=>simp at hj
def z09{p:Pub} {a:Option Addr} {n c:Nat} {l:List Tk} (h:qh1 p a n c (z1w l)) {i:Nat} (hi:i<l.length) (k:Nat) {v:Value} (hv:(tkV l[i])[k]? =some v):q39 p ((adr a (i*4)).add k) [v]:=by
 obtain⟨h1,h2⟩:=z0j h hi
 rcases h.2 with⟨g,_⟩|⟨x,rfl,g1,g2⟩
 ·have:=congrArg List.length g
  rw[z1h,List.length_nil]at this;omega
 ·refine z4e h2 ?_ k hv
  show(x.add (i*4)).spot=none
  unfold Addr.add;split
  ·exact g1
  ·rfl
section
variable (x0:Nat) (x1:Option Addr) (x2 x3:Nat) (x4:Option Addr) (x5:Nat) (x6:Nat->Option Obj) (x7:Int) (x8:Prop)
 abbrev z43:=∃(i0:Int),q5o x6 (Addr.mk 0 0 none)=some (int i64 i0)
 abbrev zc0:=mkS [97,46,98,32,61,32,48,120,49,70]
 def zd1:=(True/\z43 x6)/\x0=length (lxR (zc0)).1/\qh1 x6 x1 x0 x2 (z1w (lxR (zc0)).1)
 abbrev z44:=mkS [97,32,63]
 def zc1:=(zd1 x0 x1 x2 x6)/\x3=length (lxR (z44)).1/\qh1 x6 x4 x3 x5 (z1w (lxR (z44)).1)
 def z79:=(0<=x7/\x7<(↑x0:Int))/\x1≠noA/\x8
 def zbz:=true=decide ((↑(lxR (z44)).2.2:Int)=2)/\True
 def zby:=Ji ((↑(lxR (z44)).2.1:Int)=2) (zbz) (true=false/\True)
 def zg2:=z79 x0 x1 3 (∃(i0:Int),(∀i1,zc1 x0 x1 x2 x3 x4 x5 i1->q39 i1 (Addr.add (adr x1 ((3:Nat)*4)) 0) [int i64 i0])/\Ji (i0=5) (zby) (true=false/\True))
 def zg1:=z79 x0 x1 2 (∃(i0:Int),(∀i1,zc1 x0 x1 x2 x3 x4 x5 i1->q39 i1 (Addr.add (adr x1 ((2:Nat)*4)) 2) [int u64 i0])/\Ji (i0=31) (zg2 x0 x1 x2 x3 x4 x5) (true=false/\True))
 def zg0:=z79 x0 x1 0 (∃i0,(∀i1,zc1 x0 x1 x2 x3 x4 x5 i1->q39 i1 (Addr.add (adr x1 ((0:Nat)*4)) 1) [string i0])/\Ji (i0=mkS [97,46,98]) (zg1 x0 x1 x2 x3 x4 x5) (true=false/\True))
 def zfz:=Ji ((↑x0:Int)=4) (zg0 x0 x1 x2 x3 x4 x5) (true=false/\True)
 def zfy:=Ji ((↑(lxR (zc0)).2.1:Int)=0) (zfz x0 x1 x2 x3 x4 x5) (true=false/\True)
 def zfx:=mkS [97,32,63]=mkS [97,32,63]/\size (z44)<100000/\(∀i0,zd1 x0 x1 x2 i0->z43 i0)/\∀(i3:Unit),True->∀(i4:Option Addr) (i5 i6:Nat),(∃i7,zc1 x0 x1 x2 i5 i4 i6 i7)->zfy x0 x1 x2 i5 i4 i6
 def zfw:=mkS [97,46,98,32,61,32,48,120,49,70]=mkS [97,46,98,32,61,32,48,120,49,70]/\size (zc0)<100000/\(∀i0,(True/\z43 i0)->z43 i0)/\∀(i3:Unit),True->∀(i4:Option Addr) (i5 i6:Nat),(∃i7,zd1 i5 i4 i6 i7)->zfx i5 i4 i6
end
def z49(u:Unit):qjz P (zaw) Try.f9 z4c (λ_=>{}) u=(True->(∃(p:Pub),True/\z43 p)->zfw):=by kernel_rfl
def z5v:=λu=>Eq.trans (z49 u) (by delta Ji Jt Jf z43 zc0 zd1 z44 zc1 z79 zbz zby zg2 zg1 zg0 zfz zfy zfx zfw;exact rfl)
def z5w:q7a P 9 z4c:=by
 refine qk0 mixed (qda (qgx z7v qjn)) (W:=λ_=>{}) Try.func9 (by kernel_rfl) (by decide) (by decide) (λs=>by kernel_rfl) λ(u:Unit)=>(z5v u).mpr ?_
 intro _ hp
 rw[zgv,zgw]
 refine⟨rfl,by decide,λp h=>h.2,λ_ _ a n c hq=>⟨rfl,by decide,λp h=>h.1.2,λ_ _ b m d hr=> ?_⟩⟩
 obtain⟨p,_,hn,hs⟩:=hq
 simp only[List.length_cons,List.length_nil]at hn
 subst hn
 refine⟨λ_=>⟨λ_=>⟨⟨by decide,by decide⟩,(z0j hs (i:=0) (by decide)).1,mkS [97,46,98],λp h=>z09 h.1.2.2 (i:=0) (by decide) 1 rfl,λ_=>⟨⟨by decide,by decide⟩,(z0j hs (i:=0) (by decide)).1,31,λp h=>z09 h.1.2.2 (i:=2) (by decide) 2 rfl,λ_=>⟨⟨by decide,by decide⟩,(z0j hs (i:=0) (by decide)).1,5,λp h=>z09 h.1.2.2 (i:=3) (by decide) 0 rfl,λ_=>⟨λ_=>⟨by decide,trivial⟩,λh=>absurd h (by decide)⟩,λh=>absurd h (by decide)⟩,λh=>absurd h (by decide)⟩,λh=>absurd h (by decide+kernel)⟩,λh=>absurd h (by decide)⟩,λh=>absurd h (by decide)⟩
section
def zae{f:Nat} {C:Ct} (h:q7a P f C) (s:C.σ) (vs:List Value) (ha:C.args s=vs.map .sv) (hh:C.h s=[]) (r:Value) (hr:C.r s= .sv r) (w:World) (hp:C.pre s) (hm:(C.mem s).ok (q11 (λ_ b=>b<w.heap.size) w)):
  Calls P f ⟨vs⟩ w λe w'=>e= .returned r/\Below w.heap.size w w':=by
 obtain⟨h1,h2,_,h4⟩:=h
 obtain⟨h0,h1',e1,e2,h5⟩:=h4 s
 rw[hh]at e1
 cases e1
 refine(h5 (λ_ b=>b<w.heap.size) (λi=>if i=0 then some (0,0,0)else none) w vs (by rw[ha];exact VRs.svs vs) ⟨λid o b t h=> ?_,λid id' o o' b t t' h=> ?_,λid o b t h=> ?_⟩ (λ_ h=>h) (λ_ h=>h) hp hm (λi hi=>if_neg (by omega)) (if_pos rfl)).mono λe w' he=> ?_
 ·rw[T.get_e]at h;cases h
 ·rw[T.get_e]at h;cases h
 ·rw[T.get_e]at h;cases h
 obtain⟨z,I',rfl,hz,hg,_⟩:=he
 rw[hr]at hz
 cases hz
 exact⟨rfl,⟨hg.same.1,hg.same.2,hg.same.3,hg.size,λk hk=>hg.fr k hk⟩⟩
def Laid(w:World):Prop:=∃m e fr,w.heap[0]? =some (.cells #[.int .i64 m] e fr)
variable {w:World}
def z67{P:Program} {g:Nat} {t:TypeId} {zero:Array Value} {k:IntKind}
  (h:w.ShapedOpen P) (hg:g<P.globals.size)
  (h0:((begin P (λ_ _=>0) default).world.heap[g]?).bind Obj.row? =some (zero,t)) (hz:zero.size=1)
  (hb:P.buildable t=true) (hc:P.cellTypes P.depth t=some [t]) (hu:P.underlying t=some (.int k)):
  ∃m e fr,w.heap[g]? =some (.cells #[.int k m] e fr):=by
 obtain⟨cs,hh,hs,hr⟩:=h.1 g zero t hg h0
 obtain⟨ts,hts,_,hall⟩:=hr hb
 rw[hc]at hts
 cases hts
 have h1:cs.size=1:=by omega
 obtain⟨u,hu',hok⟩:=hall 0 cs[0] (by simp[h1])
 have:u=t:=by simpa using hu'.symm
 subst this
 unfold Cell.ok at hok
 rw[hu]at hok
 have hcs:cs= #[cs[0]]:=by
  apply Array.ext
  ·simp[h1]
  ·intro i h2 h3
   have:i=0:=by omega
   subst this;simp
 cases hv:cs[0]<;>rw[hv]at hok<;>simp at hok
 case int k' n=>
  rw[hcs,hv,hok.1]at hh
  exact⟨n,_,_,hh⟩
def laid_of(h:w.ShapedOpen P):Laid w:=
 z67 (t:=3) (zero:= #[.int .i64 0]) (k:= .i64) h (by decide+kernel) (by kernel_rfl) (by rfl) (by kernel_rfl) (by kernel_rfl) Try.underlying3
def zda(h:Laid w):hG.ok (q11 (λ_ b=>b<w.heap.size) w):=by
 obtain⟨m,e,fr,hw⟩:=h
 refine⟨m,?_⟩
 have hp:q11 (λ_ b=>b<w.heap.size) w 0=some (.cells #[.int .i64 m] e fr):=q02.mpr ⟨(Array.getElem?_eq_some_iff.mp hw).1,hw⟩
 unfold q5o
 simp only[hp];rfl
end
abbrev Pc:=List Nat×List Nat
def flat:List Pc->List Nat
 | []=>[]
 |x::l=>x.1++(x.2++flat l)
abbrev svA(x:SV):AV:= .sv (.slice x.1 x.2.1 x.2.2)
def z3z:List Int->List Value
 | []=>[]
 |b::l=> .int .u8 b::z3z l
def byP(x:SV) (L:List Int) (p:Pub):Prop:=x.2.1=L.length/\qh1 p x.1 x.2.1 x.2.2 (z3z L)
def byM(x:SV) (L:List Int):PF:=⟨true,byP x L,λ_ _ h e=>⟨e.1,q4p h e.2⟩⟩
def z0g(L:List Int):Prop:=L.length<1000000/\∀b∈L,0<=b/\b<256
def z01(L:List Int) (n m:Int):Int:=if L.length<=n then 0 else Int.tmod (L.getD n.toNat 0) m
def z00(L:List Int) (n:Int):Int:=if L.length<=n then n else n+1
def pkO(x:SV) (n:Int):List (Nat×AO):=[(1, .cells 54 (some 0) false [svA x, .sv (.int .i64 n)])]
def zao(h:T AO) (id:Nat):Option (SV×Int):=match h.get id with
  | some (.cells _ _ _ [a,i])=>match a with
    | .sv (.slice a n c)=>match gi i with
      |some (_,i)=>some ((a,n,c),i)
      |none=>none
    |_=>none
  |_=>none
def z51(l:List AV) (h:T AO):Option (Sel (SV×List Int×Int×Int)):=match l with
  | [.ptr id _,m]=>match zao h id with
    | some (x,n)=>match gi m with
      |some (_,m)=>some ⟨List Int,λL=>(x,L,n,m)⟩
      |none=>none
    |none=>none
  | [.ptr id _,m,_]=>match zao h id with
    | some (x,n)=>match gi m with
      |some (_,m)=>some ⟨List Int,λL=>(x,L,n,m)⟩
      |none=>none
    |none=>none
  |_=>none
def ze1(l:List AV) (h:T AO):Option (Sel (SV×List Int×Int)):=match l with
  | [.ptr id _]=>match zao h id with
    |some (x,n)=>some ⟨List Int,λL=>(x,L,n)⟩
    |none=>none
  | [.ptr id _,_]=>match zao h id with
    |some (x,n)=>some ⟨List Int,λL=>(x,L,n)⟩
    |none=>none
  |_=>none
def z06(L:List Int) (n:Int):Prop:=0<=n/\n<=L.length/\z0g L
def za1:Ct where
 σ:=SV×List Int×Int×Int
 args:=λ⟨x,L,n,m⟩=>[.ptr 1 0, .sv (.int .i64 m)]
 h:=λ⟨x,L,n,m⟩=>pkO x n
 m:=2
 pre:=λ⟨x,L,n,m⟩=>z06 L n/\0<m/\m<1000000
 mem:=λ⟨x,L,n,m⟩=>byM x L
 sel:=some z51
 r:=λ⟨x,L,n,m⟩=> .sv (.int .i64 (z01 L n m))
 h':=λ⟨x,L,n,m⟩=>pkO x (z00 L n)
 m':=2
 g:=λ_=>none
def kws:List (List Nat):=[[105,110,116,51,50],[115,116,114,105,110,103],[105,110,116,54,52],[98,111,111,108],[98,121,116,101,115],[117,105,110,116,51,50],[117,105,110,116,54,52],[115,105,110,116,51,50],[115,105,110,116,54,52],[102,105,120,101,100,51,50],[102,105,120,101,100,54,52],[115,102,105,120,101,100,51,50],[115,102,105,120,101,100,54,52],[100,111,117,98,108,101],[102,108,111,97,116],[69],[73],[77]]
def kwL(i:Int):List Nat:=kws.getD i.toNat []
def cKw:Ct where
 σ:=SV×List Int×Int
 args:=λ⟨x,L,n⟩=>[.ptr 1 0]
 h:=λ⟨x,L,n⟩=>pkO x n
 m:=2
 pre:=λ⟨x,L,n⟩=>z06 L n
 mem:=λ⟨x,L,n⟩=>byM x L
 sel:=some ze1
 r:=λ⟨x,L,n⟩=> .sv (.string (mkS (kwL (z01 L n 18))))
 h':=λ⟨x,L,n⟩=>pkO x (z00 L n)
 m':=2
 g:=λ_=>none
def z0i(v:Nat):List Nat:=if v<10 then [48+v]else if v<100 then [48+v / 10,48+v % 10]else [48+v / 100,48+v / 10 % 10,48+v % 10]
def z3h:Ct:=ctS Int (λv=>[.int .u64 v]) f1i (λv=>0<=v/\v<1000) (λ_=>{}) λv=> .sv (.string (mkS (z0i v.toNat)))
def z88:z3h.σ->WayF:=λv0=>{ann:=λ_ _ _=>some {σ:=ByteArray×Int,pre:=λ⟨s,v⟩=>∃acc:List Nat,s=mkS acc/\0<=v/\v<1000/\z0i v.toNat++acc=z0i v0.toNat,find:=some λt _=>match slS t 3 with|some s=>(match slI t 0 with|some v=>some (s,v)|none=>none)|none=>none,t:=λ⟨s,v⟩=>[(3, .sv (.string s)),(0, .sv (.int .u64 v))],h:=λ_=>[],more:=0,μ:=λ⟨s,v⟩=>v.toNat,keep:=[]}}
def z60:Ct:=ctS Int (λv=>[.int .i64 v]) f1i (λv=>0<=v/\v<1000) (λ_=>{}) λv=> .sv (.string (mkS (z0i v.toNat)))
def nmP(num:Int):Pc:=(102::z0i num.toNat,[32])
def eqP:Pc:=([61],[32])
def seP:Pc:=([59],[10])
def z3y(t:List Nat) (i:Int):List Pc:=if t=[115,116,114,105,110,103]\/t=[98,121,116,101,115]\/t=[73]\/t=[77]then []else if i=2 then [([91],[]),([112,97,99,107,101,100],[32]),([61],[32]),([102,97,108,115,101],[]),([93],[])]else if i=3 then [([91],[]),([112,97,99,107,101,100],[32]),([61],[32]),([116,114,117,101],[]),([93],[])]else []
def z1q(num:Int) (pk:List Pc):List Pc:=nmP num::eqP::(z0i num.toNat,if pk=[]then []else [32])::(pk++[seP])
def keys:List (List Nat):=[[115,116,114,105,110,103],[105,110,116,51,50],[98,111,111,108],[117,105,110,116,54,52],[115,105,110,116,51,50],[102,105,120,101,100,51,50]]
def z7u(i:Int):List Nat:=keys.getD i.toNat []
def fdP(t:List Nat) (L:List Int) (n num:Int):List Pc:=
 if z01 L n 8=0 then([111,112,116,105,111,110,97,108],[32])::(t,[32])::z1q num []else
 if z01 L n 8=1\/z01 L n 8=2 then([114,101,112,101,97,116,101,100],[32])::(t,[32])::z1q num (z3y t (z01 L (z00 L n) 4))else
 if z01 L n 8=3 then([109,97,112],[])::([60],[])::(z7u (z01 L (z00 L n) 6),[])::([44],[32])::(t,[])::([62],[32])::z1q num []else
 (t,[32])::z1q num []
def fdN(L:List Int) (n:Int):Int:=if z01 L n 8=0 then z00 L n else if z01 L n 8=1\/z01 L n 8=2 then z00 L (z00 L n)else if z01 L n 8=3 then z00 L (z00 L n)else z00 L n
def z1o(t:List Nat) (i:Int):List Nat:=if t=[115,116,114,105,110,103]\/t=[98,121,116,101,115]\/t=[73]\/t=[77]then []else if i=2 then [32,91,112,97,99,107,101,100,32,61,32,102,97,108,115,101,93]else if i=3 then [32,91,112,97,99,107,101,100,32,61,32,116,114,117,101,93]else []
def z9s(i:Int):Bool:=decide (i=1\/i=2)
def cFd:Ct where
 σ:=SV×List Int×Int×Int
 args:=λ⟨x,L,n,m⟩=>[.ptr 1 0, .sv (.int .i64 m), .bool false]
 h:=λ⟨x,L,n,m⟩=>pkO x n
 m:=2
 pre:=λ⟨x,L,n,m⟩=>z06 L n/\0<=m/\m<1000
 mem:=λ⟨x,L,n,m⟩=>byM x L
 sel:=some z51
 r:=λ⟨x,L,n,m⟩=> .sv (.string (mkS (flat (fdP (kwL (z01 L n 18)) L (z00 L n) m))))
 h':=λ⟨x,L,n,m⟩=>pkO x (fdN L (z00 L n))
 m':=2
 g:=λ_=>none
def wFd:cFd.σ->WayF:=λ⟨x,L,n,m⟩=>{cut:=λr _ _=>match r with
 |11=>some {σ:=Unit,find:=some λ_ _=>some (),t:=λ_=>[(35, .sv (.bool (z9s (z01 L (z00 L n) 8))))],h:=λ_=>[],more:=0,μ:=λ_=>0,keep:=[0,2,7,8,9,24]}
 |14=>some {σ:=Unit,find:=some λ_ _=>some (),t:=λ_=>[(10, .sv (.string (mkS (z1o (kwL (z01 L n 18)) (z01 L (z00 L (z00 L n)) 4)))))],h:=λ_=>[],more:=0,μ:=λ_=>0,keep:=[0,7,8,9]}
 |_=>none}
def qk6(t:List Nat) (num:Int):List Pc:=[(t,[32]),(111::z0i (num+100).toNat,[32]),eqP,(z0i (num+100).toNat,[]),seP]
def z0p(L:List Int) (n i:Int):Int:=i+1+14*z01 L n 2*i
def bdF(L:List Int):Nat->Int->Int->List Pc->List Pc->List Pc×List Pc×Int
  |0,i,n,s,o=>(s,o,n)
  | f+1,i,n,s,o=>
    if z01 L (z00 L n) 4=0 then bdF L f (i+1) (z00 L (z00 L (z00 L n))) s (o++qk6 (kwL (z01 L (z00 L (z00 L n)) 18)) (z0p L n i))
    else bdF L f (i+1) (fdN L (z00 L (z00 L (z00 L n)))) (s++fdP (kwL (z01 L (z00 L (z00 L n)) 18)) L (z00 L (z00 L (z00 L n))) (z0p L n i)) o
def bdS(L:List Int) (n m:Int):List Pc×List Pc×Int:=bdF L (z01 L n (m+1)).toNat 0 (z00 L n) [] []
def bdJ(s o:List Pc):List Pc:=if flat o=[]then s else s++([([111,110,101,111,102],[32]),([99],[32]),([123],[10])]++(o++[([125],[10])]))
def bdP(L:List Int) (n m:Int):List Pc:=bdJ (bdS L n m).1 (bdS L n m).2.1
def bdN(L:List Int) (n m:Int):Int:=(bdS L n m).2.2
def cBd:Ct where
 σ:=SV×List Int×Int×Int
 args:=λ⟨x,L,n,m⟩=>[.ptr 1 0, .sv (.int .i64 m), .bool false]
 h:=λ⟨x,L,n,m⟩=>pkO x n
 m:=2
 pre:=λ⟨x,L,n,m⟩=>z06 L n/\0<=m/\m<10
 mem:=λ⟨x,L,n,m⟩=>byM x L
 sel:=some z51
 r:=λ⟨x,L,n,m⟩=> .sv (.string (mkS (flat (bdP L n m))))
 h':=λ⟨x,L,n,m⟩=>pkO x (bdN L n m)
 m':=2
 g:=λ_=>none
def z9x(t:T AV) (h:T AO):Option (ByteArray×ByteArray×Int×Int):=match slS t 7 with
  | some s=>match slS t 8 with
    | some o=>match slI t 9 with
      | some i=>match zao h 1 with
        |some (_,n)=>some (s,o,i,n)
        |none=>none
      |none=>none
    |none=>none
  |none=>none
def wBd:cBd.σ->WayF:=λ⟨x,L,n0,m⟩=>{ann:=λ_ _ _=>some {σ:=ByteArray×ByteArray×Int×Int,pre:=λ⟨s,o,i,n⟩=>∃sl ol:List Pc,s=mkS (flat sl)/\o=mkS (flat ol)/\0<=i/\i<=z01 L n0 (m+1)/\z06 L n/\((flat sl).length:Int)+(flat ol).length<=100*i/\bdF L (z01 L n0 (m+1)- i).toNat i n sl ol=bdS L n0 m,find:=some z9x,t:=λ⟨s,o,i,n⟩=>[(7, .sv (.string s)),(8, .sv (.string o)),(9, .sv (.int .i64 i))],h:=λ⟨s,o,i,n⟩=>pkO x n,more:=0,μ:=λ⟨s,o,i,n⟩=>(z01 L n0 (m+1)- i).toNat,keep:=[0,2,10]}}
def hdP:List Pc:=[([115,121,110,116,97,120],[32]),([61],[32]),([34,112,114,111,116,111,51,34],[]),([59],[10]),([112,97,99,107,97,103,101],[32]),([97],[]),([59],[10]),([101,110,117,109],[32]),([69],[32]),([123],[32]),([65],[32]),([61],[32]),([48],[]),([59],[32]),([66],[32]),([61],[32]),([49],[]),([59],[32]),([67],[32]),([61],[32]),([45],[]),([49],[]),([59],[32]),([125],[10]),([109,101,115,115,97,103,101],[32]),([73],[32]),([123],[10])]
def miP:List Pc:=[([125],[10]),([109,101,115,115,97,103,101],[32]),([77],[32]),([123],[10])]
def z04(L:List Int) (n:Int):List Pc:=hdP++(bdP L n 4++(miP++(bdP L (bdN L n 4) 7++[([125],[10])])))
def cTx:Ct where
 σ:=SV×List Int×Int
 args:=λ⟨x,L,n⟩=>[.ptr 1 0, .bool false]
 h:=λ⟨x,L,n⟩=>pkO x n
 m:=2
 pre:=λ⟨x,L,n⟩=>z06 L n
 mem:=λ⟨x,L,n⟩=>byM x L
 sel:=some ze1
 r:=λ⟨x,L,n⟩=> .sv (.string (mkS (flat (z04 L n))))
 h':=λ⟨x,L,n⟩=>pkO x (bdN L (bdN L n 4) 7)
 m':=2
 g:=λ_=>none
def z8i:Ct where
 σ:=SV
 args:=λx=>[svA x]
 h:=λ_=>[]
 m:=1
 r:=λ_=> .ptr 1 0
 h':=λx=>pkO x 0
 m':=2
 g:=λ_=>none
def zdh:Nat->Option Ct:=qfl [(37,za1)]
def zdi:Nat->Option Ct:=qfl [(50,z3h)]
def tFd:Nat->Option Ct:=qfl [(37,za1),(38,cKw),(40,z60)]
def tBd:Nat->Option Ct:=qfl [(37,za1),(38,cKw),(40,z60),(41,cFd)]
def tTx:Nat->Option Ct:=qfl [(19,cBd)]
section
variable (x0:SV) (x1:Int) (x2:List Int) (x3:Int) (x4:Prop)
 abbrev zdw:=x0.1=x0.1/\x0.2.1=x0.2.1/\x0.2.2=x0.2.2/\x4
 def zg5:=z01 x2 x1 x3=0/\zdw x0 (z00 x2 x1=x1/\True)
 def zg4:=Jb (x1+1)/\Jb (x1+1- 1)/\(0<=x1+1- 1/\x1+1- 1<(↑x0.2.1:Int))/\x0.1≠noA/\∃(i0:Int),(∀i1,True/\byP x0 x2 i1->q39 i1 (adr x0.1 (toNat (x1+1- 1)*1)) [int u8 i0])/\Jb (i0)/\x3≠0/\z01 x2 x1 x3=Int.tmod i0 x3/\zdw x0 (z00 x2 x1=x1+1/\True)
 def zg3:=Ji ((↑x0.2.1:Int)<=x1) (zg5 x0 x1 x2 x3) (zg4 x0 x1 x2 x3)
end
def z8y(x:SV) (L:List Int) (n m:Int):qjz P (λ_=>none) Try.f37 za1 (λ_=>{}) ⟨x,L,n,m⟩=(z06 L n/\0<m/\m<1000000->(∃(p:Pub),True/\byP x L p)->zg3 x n L m):=by kernel_rfl
def zan:=λx L n m=>Eq.trans (z8y x L n m) (by delta Ji Jb Jt Jf zdw zg5 zg4 zg3;exact rfl)
section
variable (x0:SV) (x1:Prop)
 def zdx:=x0.1=x0.1/\x0.2.1=x0.2.1/\x0.2.2=x0.2.2/\x1
end
def zab(x:SV) (L:List Int) (n:Int):qjz P (zdh) Try.f38 cKw (λ_=>{}) ⟨x,L,n⟩=(z06 L n->(∃(p:Pub),True/\byP x L p)->∃(b:List Int),Int.ofNat (18:Nat)=Int.ofNat 18/\zdx x (n=n/\(z06 b n/\0<Int.ofNat 18/\Int.ofNat (18:Nat)<1000000)/\(∀(p:Pub),True/\byP x L p->byP (x.1,x.2.1,x.2.2) b p)/\(0<=z01 b n (Int.ofNat 18)/\z01 b n (Int.ofNat 18)<(↑(nat_lit 18):Int))/\∃(s:ByteArray),(∀(j:Nat) (v:Value),[string s][j]? =some v->[string (mkS [105,110,116,51,50]),string (mkS [115,116,114,105,110,103]),string (mkS [105,110,116,54,52]),string (mkS [98,111,111,108]),string (mkS [98,121,116,101,115]),string (mkS [117,105,110,116,51,50]),string (mkS [117,105,110,116,54,52]),string (mkS [115,105,110,116,51,50]),string (mkS [115,105,110,116,54,52]),string (mkS [102,105,120,101,100,51,50]),string (mkS [102,105,120,101,100,54,52]),string (mkS [115,102,105,120,101,100,51,50]),string (mkS [115,102,105,120,101,100,54,52]),string (mkS [100,111,117,98,108,101]),string (mkS [102,108,111,97,116]),string (mkS [69]),string (mkS [73]),string (mkS [77])][nat_lit 0+toNat (z01 b n (Int.ofNat 18))*1+j]? =some v)/\mkS (kwL (z01 L n 18))=s/\zdx x (z00 L n=z00 b n/\True))):=by kernel_rfl
def zdc:=λx L n=>Eq.trans (zab x L n) (by delta zdx;exact rfl)
def z6b(v:Int):qjz P (λ_=>none) Try.f50 z3h (z88) v=((0:Int)<=v/\v<(1000:Int)->(v=v/\mkS []=mkS []/\(∃(acc:List Nat),mkS []=mkS acc/\(0:Int)<=v/\v<(1000:Int)/\z0i (toNat v)++acc=z0i (toNat v))/\True)/\∀(s:ByteArray×Int),(∃(acc:List Nat),Prod.fst s=mkS acc/\(0:Int)<=Prod.snd s/\Prod.snd s<(1000:Int)/\z0i (toNat (Prod.snd s))++acc=z0i (toNat v))->(10:Int)≠(0:Int)/\∃(s_1:ByteArray),size s_1=(1:Nat)/\qgs [int u8 (IntKind.wrap u8 (IntKind.wrap u64 ((48:Int)+Int.tmod s.2 (10:Int))))] (0:Nat) (q16 s_1)/\size s_1+size s.1<=(9223372036854775807:Nat)/\(10:Int)≠(0:Int)/\(decide (IntKind.wrap u64 (Int.tdiv s.2 (10:Int))=(0:Int))=true->mkS (z0i (toNat v))=s_1++s.1/\True)/\(decide (IntKind.wrap u64 (Int.tdiv s.2 (10:Int))=(0:Int))=false->IntKind.wrap u64 (Int.tdiv s.2 (10:Int))=IntKind.wrap u64 (Int.tdiv s.2 (10:Int))/\s_1++s.1=s_1++s.1/\(∃(acc:List Nat),s_1++s.1=mkS acc/\(0:Int)<=IntKind.wrap u64 (Int.tdiv s.2 (10:Int))/\IntKind.wrap u64 (Int.tdiv s.2 (10:Int))<(1000:Int)/\z0i (toNat (IntKind.wrap u64 (Int.tdiv s.2 (10:Int))))++acc=z0i (toNat v))/\toNat (IntKind.wrap u64 (Int.tdiv s.2 (10:Int)))<toNat (Prod.snd s)/\True)):=by kernel_rfl
section
variable (x0:Int)
 abbrev z9p:=IntKind.wrap u64 ((0:Int)- (x0+1))+1
 def zg7:=Jb (x0+1)/\((-9223372036854775808:Int)<=0- (x0+1)/\(0:Int)- (x0+1)<=9223372036854775807)/\IntKind.wrap u64 (z9p x0)=IntKind.wrap u64 (z9p x0)/\(0<=IntKind.wrap u64 (z9p x0)/\IntKind.wrap u64 (z9p x0)<1000)/\size (mkS [45])+size (mkS (z0i (toNat (IntKind.wrap u64 (z9p x0)))))<=9223372036854775807/\mkS (z0i (toNat x0))=mkS [45]++mkS (z0i (toNat (IntKind.wrap u64 (z9p x0))))/\True
 def zg8:=IntKind.wrap u64 x0=IntKind.wrap u64 x0/\(0<=IntKind.wrap u64 x0/\IntKind.wrap u64 x0<1000)/\mkS (z0i (toNat x0))=mkS (z0i (toNat (IntKind.wrap u64 x0)))/\True
 def zg6:=Ji (x0<0) (zg7 x0) (zg8 x0)
end
def z6k(v:Int):qjz P (zdi) Try.f40 z60 (λ_=>{}) v=(0<=v/\v<1000->zg6 v):=by kernel_rfl
def z95:=λv=>Eq.trans (z6k v) (by delta Ji Jb Jt Jf z9p zg7 zg8 zg6;exact rfl)
section
variable (x0 x1:List Int) (x2:Int) (x3:List Int) (x4:Int) (x5:SV) (x6:List Int) (x7:Int) (x8:ByteArray) (x9:Prop)
 abbrev z47:=x5.1=x5.1/\x5.2.1=x5.2.1/\x5.2.2=x5.2.2/\x9
 def z5n:=(∀i0,True/\byP x5 x0 i0->byP (x5.1,x5.2.1,x5.2.2) x1 i0)
 def z7e:=0<x2/\x2<1000000
 abbrev z7d:=z01 x0 (z00 x1 x2) (8:Int)=x4
 abbrev z0n:=mkS [102]++mkS (z0i (toNat x2))
 abbrev z15:=mkS [32,61,32]++mkS (z0i (toNat x2))
 abbrev z5o:=flat (fdP (kwL (z01 x0 x2 18)) x0 (z00 x0 x2) x4)
 def zgd:=size (mkS [111,112,116,105,111,110,97,108,32])+size (mkS (kwL (z01 x0 x2 18)))<=9223372036854775807/\size (mkS [111,112,116,105,111,110,97,108,32]++mkS (kwL (z01 x0 x2 18)))+size (mkS [32])<=9223372036854775807/\size (mkS [111,112,116,105,111,110,97,108,32]++mkS (kwL (z01 x0 x2 18))++mkS [32])+size (z0n x4)<=9223372036854775807/\size (mkS [111,112,116,105,111,110,97,108,32]++mkS (kwL (z01 x0 x2 18))++mkS [32]++(z0n x4))+size (z15 x4)<=9223372036854775807/\size (mkS [111,112,116,105,111,110,97,108,32]++mkS (kwL (z01 x0 x2 18))++mkS [32]++(z0n x4)++(z15 x4))+size (mkS [59,10])<=9223372036854775807/\mkS (z5o x1 x2 x4)=mkS [111,112,116,105,111,110,97,108,32]++mkS (kwL (z01 x0 x2 18))++mkS [32]++(z0n x4)++(z15 x4)++mkS [59,10]/\z47 x5 (fdN x1 (z00 x1 x2)=z00 x3 (z00 x0 x2)/\True)
 def z7c:=mkS (kwL (z01 x0 x2 18))=mkS (kwL (z01 x0 x2 18))
 def z7a:=mkS [32,61,32]++mkS (z0i (toNat x2))=mkS [32,61,32]++mkS (z0i (toNat x2))/\mkS [102]++mkS (z0i (toNat x2))=mkS [102]++mkS (z0i (toNat x2))/\x9
 def z7b:=(∀i0,True/\byP x5 x0 i0->True/\byP x5 x0 i0)/\True/\True
 def zdy:=z7c x0 x2/\z9s (z01 x1 (z00 x1 x2) 8)=decide (z01 x3 (z00 x0 x2) (8:Int)=x7)/\z7a x4 (z01 x3 (z00 x0 x2) (8:Int)=z01 x3 (z00 x0 x2) 8/\z47 x5 (z00 x3 (z00 x0 x2)=z00 x3 (z00 x0 x2)/\z7b x1 x5))
 abbrev zc5:=mkS (kwL (z01 x0 x2 18))=mkS [115,116,114,105,110,103]
 abbrev z45:=z1o (kwL (z01 x0 x2 18)) (z01 x0 (z00 x0 (z00 x0 x2)) 4)
 def zc7:=z7c x0 x2/\z7a x4 (mkS (z45 x1 x2)=mkS []/\z47 x5 (z00 x3 (z00 x6 (z00 x0 x2))=z00 x3 (z00 x6 (z00 x0 x2))/\z7b x1 x5))
 abbrev zc6:=mkS (kwL (z01 x0 x2 18))=mkS [98,121,116,101,115]
 def zc4:=z7c x0 x2/\z7a x4 (mkS (z45 x1 x2)=x8/\z47 x5 (z00 x3 (z00 x6 (z00 x0 x2))=z00 x3 (z00 x6 (z00 x0 x2))/\z7b x1 x5))
 def zc3:=Ji (mkS (kwL (z01 x0 x2 18))=mkS [77]) (zc7 x0 x1 x2 x3 x4 x5 x6) (zc4 x0 x1 x2 x3 x4 x5 x6 x8)
 def zc2:=Ji (mkS (kwL (z01 x0 x2 18))=mkS [73]) (zc7 x0 x1 x2 x3 x4 x5 x6) (zc3 x0 x1 x2 x3 x4 x5 x6 x8)
 abbrev zge:=Ji (zc6 x0 x2) (zc7 x0 x1 x2 x3 x4 x5 x6) (zc2 x0 x1 x2 x3 x4 x5 x6 x8)
 def zgc:=size (mkS [114,101,112,101,97,116,101,100,32])+size (mkS (kwL (z01 x0 x2 18)))<=9223372036854775807/\size (mkS [114,101,112,101,97,116,101,100,32]++mkS (kwL (z01 x0 x2 18)))+size (mkS [32])<=9223372036854775807/\size (mkS [114,101,112,101,97,116,101,100,32]++mkS (kwL (z01 x0 x2 18))++mkS [32])+size (z0n x4)<=9223372036854775807/\size (mkS [114,101,112,101,97,116,101,100,32]++mkS (kwL (z01 x0 x2 18))++mkS [32]++(z0n x4))+size (z15 x4)<=9223372036854775807/\size (mkS [114,101,112,101,97,116,101,100,32]++mkS (kwL (z01 x0 x2 18))++mkS [32]++(z0n x4)++(z15 x4))+size (mkS (z45 x1 x2))<=9223372036854775807/\size (mkS [114,101,112,101,97,116,101,100,32]++mkS (kwL (z01 x0 x2 18))++mkS [32]++(z0n x4)++(z15 x4)++mkS (z45 x1 x2))+size (mkS [59,10])<=9223372036854775807/\mkS (z5o x1 x2 x4)=mkS [114,101,112,101,97,116,101,100,32]++mkS (kwL (z01 x0 x2 18))++mkS [32]++(z0n x4)++(z15 x4)++mkS (z45 x1 x2)++mkS [59,10]/\z47 x5 (fdN x1 (z00 x1 x2)=z00 x3 (z00 x6 (z00 x0 x2))/\True)
 def zgf:=size (mkS (kwL (z01 x0 x2 18)))+size (mkS [32])<=9223372036854775807/\size (mkS (kwL (z01 x0 x2 18))++mkS [32])+size (z0n x4)<=9223372036854775807/\size (mkS (kwL (z01 x0 x2 18))++mkS [32]++(z0n x4))+size (z15 x4)<=9223372036854775807/\size (mkS (kwL (z01 x0 x2 18))++mkS [32]++(z0n x4)++(z15 x4))+size (mkS [59,10])<=9223372036854775807/\mkS (z5o x1 x2 x4)=mkS (kwL (z01 x0 x2 18))++mkS [32]++(z0n x4)++(z15 x4)++mkS [59,10]/\z47 x5 (fdN x1 (z00 x1 x2)=z00 x3 (z00 x0 x2)/\True)
 def zgb:=Ji (z7d x0 x1 x2 3) (∃(i0:List Int),(6:Int)=6/\z47 x5 (z00 x0 (z00 x1 x2)=z00 x0 (z00 x1 x2)/\(z06 i0 (z00 x0 (z00 x1 x2))/\z7e 6)/\z5n x3 i0 x5/\(0<=z01 i0 (z00 x0 (z00 x1 x2)) 6/\z01 i0 (z00 x0 (z00 x1 x2)) (6:Int)<(↑(nat_lit 6):Int))/\∃i2,(∀(i3:Nat) (i4:Value),[string i2][i3]? =some i4->[string (mkS [115,116,114,105,110,103]),string (mkS [105,110,116,51,50]),string (mkS [98,111,111,108]),string (mkS [117,105,110,116,54,52]),string (mkS [115,105,110,116,51,50]),string (mkS [102,105,120,101,100,51,50])][nat_lit 0+toNat (z01 i0 (z00 x0 (z00 x1 x2)) 6)*1+i3]? =some i4)/\size (mkS [109,97,112,60])+size i2<=9223372036854775807/\size (mkS [109,97,112,60]++i2)+size (mkS [44,32])<=9223372036854775807/\size (mkS [109,97,112,60]++i2++mkS [44,32])+size (mkS (kwL (z01 x1 x2 18)))<=9223372036854775807/\size (mkS [109,97,112,60]++i2++mkS [44,32]++mkS (kwL (z01 x1 x2 18)))+size (mkS [62,32])<=9223372036854775807/\size (mkS [109,97,112,60]++i2++mkS [44,32]++mkS (kwL (z01 x1 x2 18))++mkS [62,32])+size (z0n x4)<=9223372036854775807/\size (mkS [109,97,112,60]++i2++mkS [44,32]++mkS (kwL (z01 x1 x2 18))++mkS [62,32]++(z0n x4))+size (z15 x4)<=9223372036854775807/\size (mkS [109,97,112,60]++i2++mkS [44,32]++mkS (kwL (z01 x1 x2 18))++mkS [62,32]++(z0n x4)++(z15 x4))+size (mkS [59,10])<=9223372036854775807/\mkS (z5o x3 x2 x4)=mkS [109,97,112,60]++i2++mkS [44,32]++mkS (kwL (z01 x1 x2 18))++mkS [62,32]++(z0n x4)++(z15 x4)++mkS [59,10]/\z47 x5 (fdN x3 (z00 x3 x2)=z00 i0 (z00 x0 (z00 x1 x2))/\True))) (zgf x1 x3 x2 x0 x4 x5)
 def zga:=(z9s (z01 x0 (z00 x0 x2) 8)=true->∃(i0:List Int),(4:Int)=4/\z47 x5 (z00 x1 (z00 x3 x2)=z00 x1 (z00 x3 x2)/\(z06 i0 (z00 x1 (z00 x3 x2))/\z7e 4)/\z5n x0 i0 x5/\(0<=z01 i0 (z00 x1 (z00 x3 x2)) 4/\z01 i0 (z00 x1 (z00 x3 x2)) (4:Int)<(↑(nat_lit 4):Int))/\∃i2,(∀(i3:Nat) (i4:Value),[string i2][i3]? =some i4->[string (mkS []),string (mkS []),string (mkS [32,91,112,97,99,107,101,100,32,61,32,102,97,108,115,101,93]),string (mkS [32,91,112,97,99,107,101,100,32,61,32,116,114,117,101,93])][nat_lit 0+toNat (z01 i0 (z00 x1 (z00 x3 x2)) 4)*1+i3]? =some i4)/\(Ji (zc5 x3 x2) (zc7 x3 x0 x2 i0 x4 x5 x1) (zge x3 x0 x2 i0 x4 x5 x1 i2))/\∀(i10:Unit),True->zgc x3 x0 x2 i0 x4 x5 x1))/\(z9s (z01 x0 (z00 x0 x2) 8)=false->zgb x1 x3 x2 x0 x4 x5)
 def zg9:=(Ji (z7d x0 x1 x2 1) (zdy x1 x3 x2 x0 x4 x5 1) (zdy x1 x3 x2 x0 x4 x5 2))/\∀(i2:Unit),True->zga x3 x0 x2 x1 x4 x5
end
def za8(x:SV) (L:List Int) (n m:Int):qjz P (tFd) Try.f41 cFd (wFd) ⟨x,L,n,m⟩=(z06 L n/\0<=m/\m<1000->(∃(p:Pub),True/\byP x L p)->∃(b:List Int),z47 x (n=n/\z06 b n/\z5n L b x/\m=m/\(0<=m/\m<1000)/\size (mkS [102])+size (mkS (z0i (toNat m)))<=9223372036854775807/\m=m/\(0<=m/\m<1000)/\size (mkS [32,61,32])+size (mkS (z0i (toNat m)))<=9223372036854775807/\∃(b_1:List Int),(8:Int)=8/\z47 x (z00 b n=z00 b n/\(z06 b_1 (z00 b n)/\z7e 8)/\z5n L b_1 x/\Ji (z7d b_1 b n 0) (zgd b L n b_1 m x) (zg9 b_1 b n L m x)))):=by kernel_rfl
def zd8:=λx L n m=>Eq.trans (za8 x L n m) (by delta Ji Jt Jf z47 z5n z7e z7d z0n z15 z5o zgd z7c z7a z7b zdy zc5 z45 zc7 zc6 zc4 zc3 zc2 zge zgc zgf zgb zga zg9;exact rfl)
section
variable (x0:Int) (x1:SV) (x2:Int) (x3:List Int) (x4:ByteArray×ByteArray×Int×Int) (x5:List Int) (x6:Prop) (x7:List Int) (x8:List Pc)
 abbrev z5q:=x1.1=x1.1/\x1.2.1=x1.2.1/\x1.2.2=x1.2.2/\x6
 def z9u:=(∀i0,True/\byP x1 x3 i0->byP (x1.1,x1.2.1,x1.2.2) x5 i0)
 def z7g:=(∀i0,True/\byP x1 x3 i0->True/\byP x1 x3 i0)
 abbrev z2c:=(↑(length (flat x8)):Int)
 abbrev z7f:=Jb (x4.2.2.1+1)
 abbrev z5r:=kwL (z01 x3 (z00 x5 (z00 x7 x4.2.2.2)) 18)
 def zdz:=Jb (x4.2.2.1+1+x0+100)/\x4.2.2.1+1+x0+100=x4.2.2.1+1+x0+100/\(0<=x4.2.2.1+1+x0+100/\x4.2.2.1+1+x0+100<1000)/\x6
 abbrev z46:=z0i (toNat (x4.2.2.1+1+x0+100))
 def z9q:=toNat (z01 x3 x0 (x2+1)- (x4.2.2.1+1))<toNat (z01 x3 x0 (x2+1)- x4.2.2.1)/\True
 abbrev z5p:=flat (fdP (z5r x3 x4 x5 x7) x3 (z00 x3 (z00 x5 (z00 x7 x4.2.2.2))) (x4.2.2.1+1+x0))
 def zgi:=z7f x4/\∃(i0:List Int),(2:Int)=2/\z5q x1 (x4.2.2.2=x4.2.2.2/\(z06 i0 x4.2.2.2/\(0:Int)<2/\(2:Int)<1000000)/\z9u x1 x3 i0/\∃(i2:Int),i2=IntKind.wrap i64 ((14:Int)*z01 i0 x4.2.2.2 2)/\∃(i3:Int),i3=IntKind.wrap i64 (i2*x4.2.2.1)/\Jb (x4.2.2.1+1+i3)/\∃(i4:List Int),(4:Int)=4/\z5q x1 (z00 i0 x4.2.2.2=z00 i0 x4.2.2.2/\(z06 i4 (z00 i0 x4.2.2.2)/\(0:Int)<4/\(4:Int)<1000000)/\z9u x1 x3 i4/\Ji (z01 i4 (z00 i0 x4.2.2.2) (4:Int)=0) (∃(i6:List Int),z5q x1 (z00 i4 (z00 i0 x4.2.2.2)=z00 i4 (z00 i0 x4.2.2.2)/\z06 i6 (z00 i4 (z00 i0 x4.2.2.2))/\z9u x1 x3 i6/\size x4.2.1+size (mkS (z5r i6 x4 i4 i0))<=9223372036854775807/\size (x4.2.1++mkS (z5r i6 x4 i4 i0))+size (mkS [32,111])<=9223372036854775807/\zdz i3 x4 (size (x4.2.1++mkS (z5r i6 x4 i4 i0)++mkS [32,111])+size (mkS (z46 i3 x4))<=9223372036854775807/\size (x4.2.1++mkS (z5r i6 x4 i4 i0)++mkS [32,111]++mkS (z46 i3 x4))+size (mkS [32,61,32])<=9223372036854775807/\zdz i3 x4 (size (x4.2.1++mkS (z5r i6 x4 i4 i0)++mkS [32,111]++mkS (z46 i3 x4)++mkS [32,61,32])+size (mkS (z46 i3 x4))<=9223372036854775807/\size (x4.2.1++mkS (z5r i6 x4 i4 i0)++mkS [32,111]++mkS (z46 i3 x4)++mkS [32,61,32]++mkS (z46 i3 x4))+size (mkS [59,10])<=9223372036854775807/\z7f x4/\x4.1=x4.1/\x4.2.2.1+1=x4.2.2.1+1/\x4.2.1++mkS (z5r i6 x4 i4 i0)++mkS [32,111]++mkS (z46 i3 x4)++mkS [32,61,32]++mkS (z46 i3 x4)++mkS [59,10]=x4.2.1++mkS (z5r i6 x4 i4 i0)++mkS [32,111]++mkS (z46 i3 x4)++mkS [32,61,32]++mkS (z46 i3 x4)++mkS [59,10]/\z01 x5 x0 (x2+1)=z01 x5 x0 (x2+1)/\z5q x1 (z00 i6 (z00 i4 (z00 i0 x4.2.2.2))=z00 i6 (z00 i4 (z00 i0 x4.2.2.2))/\z7g x1 x3/\(∃(i9:List Pc),∃(i10:List Pc),x4.1=mkS (flat i9)/\x4.2.1++mkS (z5r i6 x4 i4 i0)++mkS [32,111]++mkS (z46 i3 x4)++mkS [32,61,32]++mkS (z46 i3 x4)++mkS [59,10]=mkS (flat i10)/\0<=x4.2.2.1+1/\x4.2.2.1+1<=z01 x3 x0 (x2+1)/\z06 x3 (z00 i6 (z00 i4 (z00 i0 x4.2.2.2)))/\(z2c i9)+(z2c i10)<=100*(x4.2.2.1+1)/\bdF x3 (toNat (z01 x3 x0 (x2+1)- (x4.2.2.1+1))) (x4.2.2.1+1) (z00 i6 (z00 i4 (z00 i0 x4.2.2.2))) i9 i10=bdS x3 x0 x2)/\z9q x0 x2 x3 x4))))) (∃(i11:List Int),x4.2.2.1+1+i3=x4.2.2.1+1+i3/\z5q x1 (z00 i4 (z00 i0 x4.2.2.2)=z00 i4 (z00 i0 x4.2.2.2)/\(z06 i11 (z00 i4 (z00 i0 x4.2.2.2))/\0<=x4.2.2.1+1+i3/\x4.2.2.1+1+i3<1000)/\z9u x1 x3 i11/\size x4.1+size (mkS (z5p i3 i11 x4 i4 i0))<=9223372036854775807/\z7f x4/\x4.1++mkS (z5p i3 i11 x4 i4 i0)=x4.1++mkS (z5p i3 i11 x4 i4 i0)/\x4.2.2.1+1=x4.2.2.1+1/\x4.2.1=x4.2.1/\z01 x5 x0 (x2+1)=z01 x5 x0 (x2+1)/\z5q x1 (fdN i11 (z00 i11 (z00 i4 (z00 i0 x4.2.2.2)))=fdN i11 (z00 i11 (z00 i4 (z00 i0 x4.2.2.2)))/\z7g x1 x3/\(∃(i14:List Pc),∃(i15:List Pc),x4.1++mkS (z5p i3 i11 x4 i4 i0)=mkS (flat i14)/\x4.2.1=mkS (flat i15)/\0<=x4.2.2.1+1/\x4.2.2.1+1<=z01 x3 x0 (x2+1)/\z06 x3 (fdN i11 (z00 i11 (z00 i4 (z00 i0 x4.2.2.2))))/\(z2c i14)+(z2c i15)<=100*(x4.2.2.1+1)/\bdF x3 (toNat (z01 x3 x0 (x2+1)- (x4.2.2.1+1))) (x4.2.2.1+1) (fdN i11 (z00 i11 (z00 i4 (z00 i0 x4.2.2.2)))) i14 i15=bdS x3 x0 x2)/\z9q x0 x2 x3 x4)))))
 def zgk:=size x4.1+size (mkS [111,110,101,111,102,32,99,32,123,10])<=9223372036854775807/\size (x4.1++mkS [111,110,101,111,102,32,99,32,123,10])+size x4.2.1<=9223372036854775807/\size (x4.1++mkS [111,110,101,111,102,32,99,32,123,10]++x4.2.1)+size (mkS [125,10])<=9223372036854775807/\mkS (flat (bdP x3 x0 x2))=x4.1++mkS [111,110,101,111,102,32,99,32,123,10]++x4.2.1++mkS [125,10]/\z5q x1 (bdN x3 x0 x2=x4.2.2.2/\True)
 def zgj:=((!decide (x4.2.1=mkS []))=true->zgk x0 x1 x2 x3 x4)/\((!decide (x4.2.1=mkS []))=false->mkS (flat (bdP x3 x0 x2))=x4.1/\z5q x1 (bdN x3 x0 x2=x4.2.2.2/\True))
 def zgh:=Ji (x4.2.2.1<z01 x3 x0 (x2+1)) (zgi x0 x1 x2 x5 x4 x3) (zgj x0 x1 x2 x5 x4)
 def zgg:=Jb (x0+1)/\∃(i0:List Int),x0+1=x0+1/\z5q x1 (x2=x2/\(z06 i0 x2/\0<x0+1/\x0+1<1000000)/\z9u x1 x3 i0/\(mkS []=mkS []/\(0:Int)=0/\mkS []=mkS []/\z01 i0 x2 (x0+1)=z01 i0 x2 (x0+1)/\z5q x1 (z00 i0 x2=z00 i0 x2/\z7g x1 x3/\(∃(i3:List Pc),∃(i4:List Pc),mkS []=mkS (flat i3)/\mkS []=mkS (flat i4)/\(0:Int)<=0/\0<=z01 x3 x2 (x0+1)/\z06 x3 (z00 i0 x2)/\(z2c i3)+(z2c i4)<=100*0/\bdF x3 (toNat (z01 x3 x2 (x0+1)- 0)) 0 (z00 i0 x2) i3 i4=bdS x3 x2 x0)/\True))/\∀(i5:ByteArray×ByteArray×Int×Int),(∃(i6:List Pc),∃(i7:List Pc),i5.1=mkS (flat i6)/\i5.2.1=mkS (flat i7)/\0<=i5.2.2.1/\i5.2.2.1<=z01 x3 x2 (x0+1)/\z06 x3 i5.2.2.2/\(z2c i6)+(z2c i7)<=100*i5.2.2.1/\bdF x3 (toNat (z01 x3 x2 (x0+1)- i5.2.2.1)) i5.2.2.1 i5.2.2.2 i6 i7=bdS x3 x2 x0)->zgh x2 x1 x0 i0 i5 x3)
end
def z9z(x:SV) (L:List Int) (n m:Int):qjz P (tBd) Try.f19 cBd (wBd) ⟨x,L,n,m⟩=(z06 L n/\0<=m/\m<10->(∃(p:Pub),True/\byP x L p)->zgg m x n L):=by kernel_rfl
def zd4:=λx L n m=>Eq.trans (z9z x L n m) (by delta Ji Jb Jt Jf z5q z9u z7g z2c z7f z5r zdz z46 z9q z5p zgi zgk zgj zgh zgg;exact rfl)
section
variable (x0:SV) (x1:Prop) (x2 x3:List Int)
 def zd2:=x0.1=x0.1/\x0.2.1=x0.2.1/\x0.2.2=x0.2.2/\x1
 def ze0:=(∀i0,True/\byP x0 x2 i0->byP (x0.1,x0.2.1,x0.2.2) x3 i0)
end
def zb7(x:SV) (L:List Int) (n:Int):qjz P (tTx) Try.f14 cTx (λ_=>{}) ⟨x,L,n⟩=(z06 L n->(∃(p:Pub),True/\byP x L p)->∃(b:List Int),(4:Int)=4/\zd2 x (n=n/\(z06 b n/\(0:Int)<=4/\(4:Int)<10)/\ze0 x L b/\size (mkS [115,121,110,116,97,120,32,61,32,34,112,114,111,116,111,51,34,59,10,112,97,99,107,97,103,101,32,97,59,10,101,110,117,109,32,69,32,123,32,65,32,61,32,48,59,32,66,32,61,32,49,59,32,67,32,61,32,45,49,59,32,125,10,109,101,115,115,97,103,101,32,73,32,123,10])+size (mkS (flat (bdP b n 4)))<=9223372036854775807/\size (mkS [115,121,110,116,97,120,32,61,32,34,112,114,111,116,111,51,34,59,10,112,97,99,107,97,103,101,32,97,59,10,101,110,117,109,32,69,32,123,32,65,32,61,32,48,59,32,66,32,61,32,49,59,32,67,32,61,32,45,49,59,32,125,10,109,101,115,115,97,103,101,32,73,32,123,10]++mkS (flat (bdP b n 4)))+size (mkS [125,10,109,101,115,115,97,103,101,32,77,32,123,10])<=9223372036854775807/\∃(b_1:List Int),(7:Int)=7/\zd2 x (bdN b n (4:Int)=bdN b n 4/\(z06 b_1 (bdN b n 4)/\(0:Int)<=7/\(7:Int)<10)/\ze0 x L b_1/\size (mkS [115,121,110,116,97,120,32,61,32,34,112,114,111,116,111,51,34,59,10,112,97,99,107,97,103,101,32,97,59,10,101,110,117,109,32,69,32,123,32,65,32,61,32,48,59,32,66,32,61,32,49,59,32,67,32,61,32,45,49,59,32,125,10,109,101,115,115,97,103,101,32,73,32,123,10]++mkS (flat (bdP b n 4))++mkS [125,10,109,101,115,115,97,103,101,32,77,32,123,10])+size (mkS (flat (bdP b_1 (bdN b n 4) 7)))<=9223372036854775807/\size (mkS [115,121,110,116,97,120,32,61,32,34,112,114,111,116,111,51,34,59,10,112,97,99,107,97,103,101,32,97,59,10,101,110,117,109,32,69,32,123,32,65,32,61,32,48,59,32,66,32,61,32,49,59,32,67,32,61,32,45,49,59,32,125,10,109,101,115,115,97,103,101,32,73,32,123,10]++mkS (flat (bdP b n 4))++mkS [125,10,109,101,115,115,97,103,101,32,77,32,123,10]++mkS (flat (bdP b_1 (bdN b n 4) 7)))+size (mkS [125,10])<=9223372036854775807/\mkS (flat (z04 L n))=mkS [115,121,110,116,97,120,32,61,32,34,112,114,111,116,111,51,34,59,10,112,97,99,107,97,103,101,32,97,59,10,101,110,117,109,32,69,32,123,32,65,32,61,32,48,59,32,66,32,61,32,49,59,32,67,32,61,32,45,49,59,32,125,10,109,101,115,115,97,103,101,32,73,32,123,10]++mkS (flat (bdP b n 4))++mkS [125,10,109,101,115,115,97,103,101,32,77,32,123,10]++mkS (flat (bdP b_1 (bdN b n 4) 7))++mkS [125,10]/\zd2 x (bdN L (bdN L n 4) (7:Int)=bdN b_1 (bdN b n 4) 7/\True)))):=by kernel_rfl
def zdj:=λx L n=>Eq.trans (zb7 x L n) (by delta zd2 ze0;exact rfl)
def z8u(x:SV):qjz P (λ_=>none) Try.f13 z8i (λ_=>{}) x=(True->Prod.fst x=Prod.fst x/\Prod.fst (Prod.snd x)=Prod.fst (Prod.snd x)/\Prod.snd (Prod.snd x)=Prod.snd (Prod.snd x)/\(0:Int)=(0:Int)/\True):=by kernel_rfl
section
def z03:∀(a b:List Pc),flat (a++b)=flat a++flat b
 | [],b=>rfl
 |x::a,b=>by rw[List.cons_append,flat,flat,z03 a b,List.append_assoc,List.append_assoc]
def z1g:∀(L:List Int) {i:Nat} (hi:i<L.length),(z3z L)[i]? =some (.int .u8 L[i])
  |b::L,0,_=>rfl
  | b::L,i+1,hi=>by
    show(z3z L)[i]? =_
    rw[z1g L (i:=i) (by simpa using hi)];rfl
variable {L:List Int}
def z5y{x:SV} {p:Pub} (h:byP x L p) {i:Nat} (hi:i<L.length):x.1≠noA/\q39 p (adr x.1 (i*1)) [.int .u8 L[i]]:=by
  obtain⟨x1,n,c⟩:=x
  obtain⟨h1,h2⟩:=h
  rcases h2.2 with⟨h,_⟩|⟨a,rfl,h1,h2⟩
  · have:=z1g L hi
    rw[h]at this;cases this
  · refine⟨by simp,λj v hj=> ?_⟩
    cases j with
    |succ j=>simp at hj
    | zero=>
      show q5o p ((a.add (i*1)).add 0)=some v
      rw[zd3 a h1]
      exact h2 _ v (by rw[Nat.mul_one,Nat.add_zero,z1g L hi];exact hj)
def z4w:q7a P 37 za1:=by
 refine qk0 mixed z0l (W:=λ_=>{}) Try.func37 (by kernel_rfl) (by decide) (by decide) (λs=>by kernel_rfl) λ⟨(x:SV),(L:List Int),(n:Int),(m:Int)⟩=>(zan x L n m).mpr ?_
 rintro⟨⟨hn0,hn1,hL,hb⟩,hm0,hm1⟩ ⟨p,_,hp⟩
 have hx:x.2.1=L.length:=hp.1
 simp only[sbS,Int.toNat_natCast,hx]
 obtain⟨i,rfl⟩:=Int.eq_ofNat_of_zero_le hn0
 have e:((i:Int)+1- 1).toNat=i:=by omega
 refine⟨λh=>⟨?_,?_⟩,λh=> ?_⟩
 ·unfold z01;rw[if_pos h]
 ·unfold z00;rw[if_pos h]
 ·have hi:i<L.length:=by omega
  rw[e]
  refine⟨by omega,by omega,by omega,(z5y hp hi).1,L[i],λq hq=>(z5y hq hi).2,?_⟩
  have r:z01 L i m=Int.tmod L[i] m:=by
   unfold z01
   rw[if_neg h,Int.toNat_natCast,List.getD_eq_getElem?_getD,List.getElem?_eq_getElem hi];rfl
  have hbi:=hb L[i] (List.getElem_mem hi)
  have nn:z00 L i=i+1:=by unfold z00;rw[if_neg h]
  rw[r,nn]
  exact⟨by omega,by omega,rfl,rfl⟩
def z0b{n m:Int} (hL:z0g L) (h:0<m):0<=z01 L n m/\z01 L n m<m:=by
 unfold z01
 split
 ·omega
 ·have:0<=L.getD n.toNat 0:=by
   rw[List.getD_eq_getElem?_getD]
   cases hg:L[n.toNat]? with
   |none=>simp
   |some b=>exact(hL.2 b (List.mem_of_getElem? hg)).1
  rw[Int.tmod_eq_emod_of_nonneg this]
  exact⟨Int.emod_nonneg _ (by omega),Int.emod_lt_of_pos _ h⟩
def z07{n:Int} (h:z06 L n):z06 L (z00 L n):=by
 obtain⟨h0,h1,h2⟩:=h
 unfold z00
 split
 ·exact⟨h0,h1,h2⟩
 ·exact⟨by omega,by omega,h2⟩
def z3n(l:List (List Nat)) {r:Int} (h:0<=r/\r<l.length):∀(j:Nat) (v:Value),[Value.string (mkS (l.getD r.toNat []))][j]? =some v->(l.map λl=>Value.string (mkS l))[0+r.toNat*1+j]? =some v:=λj v hj=>by
  cases j with
  |succ j=>simp at hj
  | zero=>
    have hr:r.toNat<l.length:=by omega
    rw[Nat.zero_add,Nat.mul_one,Nat.add_zero,List.getElem?_map,List.getElem?_eq_getElem hr,←hj,List.getD_eq_getElem?_getD,List.getElem?_eq_getElem hr];rfl
def zad:q7a P 38 cKw:=by
 refine qk0 mixed (qda (qgx z4w qjn)) (W:=λ_=>{}) Try.func38 (by kernel_rfl) (by decide) (by decide) (λs=>by kernel_rfl) λ⟨(x:SV),(L:List Int),(n:Int)⟩=>(zdc x L n).mpr ?_
 intro h hp
 have b:=z0b (n:=n) (m:=18) h.2.2 (by omega)
 simp only[sbS,Int.toNat_natCast,exists_const]
 exact⟨L,⟨h,by decide,by decide⟩,λp h=>h,⟨b.1,b.2⟩,_,z3n kws ⟨b.1,b.2⟩,rfl,rfl⟩
def z13(v:Nat):1<=(z0i v).length/\(z0i v).length<=3:=by
 unfold z0i;repeat' split
 all_goals simp
def z9w(c:Nat) (h:c<256):q16 (mkS [c])=[.int .u8 (c:Nat)]:=by
 simp[q16,mkS]
 omega
def z57(v:Nat) (h:v<1000):z0i v=if v / 10=0 then [48+v % 10]else z0i (v / 10)++[48+v % 10]:=by
 unfold z0i
 by_cases h1:v<10
 ·rw[if_pos h1,if_pos (by omega),Nat.mod_eq_of_lt h1]
 ·rw[if_neg h1,if_neg (show¬v / 10=0 by omega)]
  by_cases h2:v<100
  ·rw[if_pos h2,if_pos (show v / 10<10 by omega)];rfl
  ·rw[if_neg h2,if_neg (show¬v / 10<10 by omega),if_pos (show v / 10<100 by omega)]
   simp only[List.cons_append,List.nil_append,List.cons.injEq,and_true]
   omega
def z6c:q7a P 50 z3h:=by
 refine qk0 mixed z0l (W:=z88) Try.func50 (by kernel_rfl) (by decide) (by decide) (λs=>by kernel_rfl) λ(v:Int)=>(z6b v).mpr ?_
 rintro⟨h0,h1⟩
 simp only[sbS,Int.toNat_natCast,exists_const]
 refine⟨⟨[],rfl,h0,h1,List.append_nil _⟩,?_⟩
 rintro⟨_,w⟩ ⟨acc,rfl,w0,w1,he⟩
 simp only at w0 w1 he⊢
 obtain⟨k,rfl⟩:=Int.eq_ofNat_of_zero_le w0
 have al:acc.length<=3:=by
  have:=congrArg List.length he
  have:=(z13 v.toNat).2
  rw[List.length_append]at*;omega
 have e1:IntKind.wrap .u64 (Int.tdiv k 10)=((k / 10:Nat):Int):=by
  rw[z32,Int.tdiv_eq_ediv_of_nonneg w0];omega
 have e2:IntKind.wrap .u8 (IntKind.wrap .u64 (48+Int.tmod k 10))=((48+k % 10:Nat):Int):=by
  rw[z32,zdl,Int.tmod_eq_emod_of_nonneg w0];omega
 have st:=z57 k (by omega)
 rw[Int.toNat_natCast]at he
 rw[e1,e2]
 refine⟨by decide,mkS [48+k % 10],rfl,λj v hj=> ?_,?_,by decide,λh=> ?_,λh=>⟨⟨_,q9l _ _,by omega,by omega,?_⟩,?_⟩⟩
 ·rw[z9w _ (by omega)]at hj
  rw[Nat.zero_add];exact hj
 ·rw[q0f,q0f];show 1+acc.length<=_;omega
 ·rw[if_pos (by have:=h;omega)]at st
  rw[q9l,←he,st]
 ·rw[if_neg (by have:=h;omega)]at st
  rw[←he,st,Int.toNat_natCast,List.append_assoc]
 ·have:=h
  omega
def z58:q7a P 40 z60:=by
 refine qk0 mixed (qda (qgx z6c qjn)) (W:=λ_=>{}) Try.func40 (by kernel_rfl) (by decide) (by decide) (λs=>by kernel_rfl) λ(v:Int)=>(z95 v).mpr ?_
 rintro⟨h0,h1⟩
 simp only[sbS,Int.toNat_natCast,exists_const]
 refine⟨λh=>absurd h (by omega),λ_=> ?_⟩
 have e:IntKind.wrap .u64 v=v:=by rw[z32];omega
 rw[e]
 exact⟨⟨h0,h1⟩,rfl⟩
def z2y(i:Int):(kwL i).length<=8:=by
 unfold kwL
 have h:∀l∈kws,l.length<=8:=by decide
 rw[List.getD_eq_getElem?_getD]
 cases hg:kws[i.toNat]? with
 |none=>simp
 |some l=>exact h l (List.mem_of_getElem? hg)
def z3l(i:Int):(z7u i).length<=7:=by
 unfold z7u
 have h:∀l∈keys,l.length<=7:=by decide
 rw[List.getD_eq_getElem?_getD]
 cases hg:keys[i.toNat]? with
 |none=>simp
 |some l=>exact h l (List.mem_of_getElem? hg)
def z2j(t:List Nat) (i:Int):(z1o t i).length<=17:=by
 unfold z1o;repeat' split
 all_goals decide
def z2k(t:List Nat) (i:Int) (x:List Nat):x++((if z3y t i=[]then []else [32])++flat (z3y t i))=x++z1o t i:=by
 congr 1
 unfold z3y z1o
 repeat' split
 all_goals first|rfl|contradiction|decide|simp_all [flat]
def z0a(num:Int) (pk:List Pc):flat (z1q num pk)=102::(z0i num.toNat++(32::61::32::(z0i num.toNat++((if pk=[]then []else [32])++(flat pk++[59,10]))))):=by
 unfold z1q nmP eqP seP
 simp only[flat,z03,List.cons_append,List.nil_append,List.append_nil,List.append_assoc]
def z4m(L:List Int) (n num:Int) (t:List Nat) (ht:t.length<=8):(flat (fdP t L n num)).length<=80:=by
 have h1:=z13 num.toNat
 have h3:=λi=>z3l i
 have h4:=λi=>z2j t i
 have h5:=λi=>congrArg List.length (z2k t i [])
 simp only[List.nil_append,List.length_append]at h5
 unfold fdP
 split
 ·simp only[flat,z0a,List.length_append,List.length_cons,List.length_nil,if_true];omega
 split
 ·simp only[flat,z0a,List.length_append,List.length_cons,List.length_nil]
  have:=h4 (z01 L (z00 L n) 4)
  have:=h5 (z01 L (z00 L n) 4)
  omega
 split
 ·simp only[flat,z0a,List.length_append,List.length_cons,List.length_nil,if_true]
  have:=h3 (z01 L (z00 L n) 6);omega
 ·simp only[flat,z0a,List.length_append,List.length_cons,List.length_nil,if_true];omega
def z27{a b:List Nat} (ha:∀x∈a,x<256) (hb:∀x∈b,x<256):mkS a=mkS b↔a=b:=by
 refine⟨λh=> ?_,λh=>by rw[h]⟩
 have h:a.map UInt8.ofNat=b.map UInt8.ofNat:=by
  have:=congrArg (λs=>s.data.toList) h
  simpa[mkS]using this
 have key:∀l:List Nat,(∀x∈l,x<256)->(l.map UInt8.ofNat).map UInt8.toNat=l:=λl hl=>by
  rw[List.map_map]
  conv=>rhs;rw[←List.map_id l]
  refine List.map_congr_left λx hx=> ?_
  have:=hl x hx
  simp[Nat.mod_eq_of_lt this]
 rw[←key a ha,←key b hb,h]
def z3m(i:Int):∀x∈kwL i,x<256:=by
 unfold kwL
 have h:∀l∈kws,∀x∈l,x<256:=by decide
 rw[List.getD_eq_getElem?_getD]
 cases hg:kws[i.toNat]? with
 |none=>simp
 |some l=>exact h l (List.mem_of_getElem? hg)
end
section
def zd9:q7a P 41 cFd:=by
 refine qk0 mixed (qda (qgx z4w (qgx zad (qgx z58 qjn)))) (W:=wFd) Try.func41 (by kernel_rfl) (by decide) (by decide) (λs=>by kernel_rfl) λ⟨(x:SV),(L:List Int),(n:Int),(m:Int)⟩=>(zd8 x L n m).mpr ?_
 rintro⟨hp,m0,m1⟩ hq
 have t3:=z13 m.toNat
 have k8:=z2y (z01 L n 18)
 have hp1:=z07 hp
 have hp2:=z07 hp1
 have r8:=z0b (n:=z00 L n) (m:=8) hp.2.2 (by omega)
 have r4:=z0b (n:=z00 L (z00 L n)) (m:=4) hp.2.2 (by omega)
 have r6:=z0b (n:=z00 L (z00 L n)) (m:=6) hp.2.2 (by omega)
 have pS:=z2j (kwL (z01 L n 18)) (z01 L (z00 L (z00 L n)) 4)
 have y7:=z3l (z01 L (z00 L (z00 L n)) 6)
 simp only[sbS,Int.toNat_natCast,exists_const,ByteArray.size_append,q0f,List.length_cons,List.length_nil]
 have i12:z9s (z01 L (z00 L n) 8)=true↔(z01 L (z00 L n) 8=1\/z01 L (z00 L n) 8=2):=by unfold z9s;exact decide_eq_true_iff
 refine⟨L,hp,λp h=>h,⟨m0,m1⟩,by omega,⟨m0,m1⟩,by omega,L,⟨hp1,by decide,by decide⟩,λp h=>h,λh0=>⟨by omega,by omega,by omega,by omega,by omega,?xa,?xaa⟩,λh0=>⟨⟨λh1=> ?xb,λh1=> ?xc⟩,λ_ _=>⟨λh12=>⟨L,⟨hp2,by decide,by decide⟩,λp h=>h,⟨r4.1,r4.2⟩,mkS ([[],[],[32,91,112,97,99,107,101,100,32,61,32,102,97,108,115,101,93],[32,91,112,97,99,107,101,100,32,61,32,116,114,117,101,93]].getD (z01 L (z00 L (z00 L n)) 4).toNat []),z3n [[],[],[32,91,112,97,99,107,101,100,32,61,32,102,97,108,115,101,93],[32,91,112,97,99,107,101,100,32,61,32,116,114,117,101,93]] ⟨r4.1,r4.2⟩,⟨λa1=> ?xe,λa1=>⟨λa2=> ?xf,λa2=>⟨λa3=> ?xg,λa3=>⟨λa4=> ?xh,λa4=> ?xi⟩⟩⟩⟩,λ_ _=>⟨by omega,by omega,by omega,by omega,by omega,by omega,?xj,?xk⟩⟩,λh12=>⟨λh3=>⟨L,⟨hp2,by decide,by decide⟩,λp h=>h,⟨r6.1,r6.2⟩,mkS (z7u (z01 L (z00 L (z00 L n)) 6)),z3n keys ⟨r6.1,r6.2⟩,?xl⟩,λh3=> ?xm⟩⟩⟩⟩
 case xa=>
  rw[fdP,if_pos h0]
  simp only[flat,z0a,q9l,if_true,List.cons_append,List.nil_append,List.append_assoc,List.append_nil]
 case xaa=>rw[fdN,if_pos h0]
 case xb=>rw[i12.2 (.inl h1)];exact(decide_eq_true h1).symm
 case xc=>
  rw[Bool.eq_iff_iff,i12,decide_eq_true_iff];omega
 case xe=>
  congr 1
  unfold z1o
  exact if_pos (.inl ((z27 (z3m _) (by decide)).1 a1))
 case xf=>
  congr 1
  unfold z1o
  exact if_pos (.inr (.inl ((z27 (z3m _) (by decide)).1 a2)))
 case xg=>
  congr 1
  unfold z1o
  exact if_pos (.inr (.inr (.inl ((z27 (z3m _) (by decide)).1 a3))))
 case xh=>
  congr 1
  unfold z1o
  exact if_pos (.inr (.inr (.inr ((z27 (z3m _) (by decide)).1 a4))))
 case xi=>
  congr 1
  unfold z1o
  have nn:∀l:List Nat,kwL (z01 L n 18)=l->mkS (kwL (z01 L n 18))=mkS l:=λl h=>by rw[h]
  rw[if_neg (λh=>by rcases h with h|h|h|h<;>first|exact a1 (nn _ h)|exact a2 (nn _ h)|exact a3 (nn _ h)|exact a4 (nn _ h))]
  generalize z01 L (z00 L (z00 L n)) 4=r at r4⊢
  have:r=0\/r=1\/r=2\/r=3:=by omega
  rcases this with rfl|rfl|rfl|rfl<;>decide
 case xj=>
  have e1:=z2k (kwL (z01 L n 18)) (z01 L (z00 L (z00 L n)) 4) []
  simp only[List.nil_append]at e1
  rw[fdP,if_neg h0,if_pos (i12.1 h12)]
  simp only[flat,z0a,q9l,List.cons_append,List.nil_append,List.append_assoc,List.append_nil]
  rw[←e1]
  simp only[List.append_assoc]
 case xk=>rw[fdN,if_neg h0,if_pos (i12.1 h12)]
 case xl=>
  have hks:(mkS (z7u (z01 L (z00 L (z00 L n)) 6))).size=(z7u (z01 L (z00 L (z00 L n)) 6)).length:=q0f _
  have n12:¬(z01 L (z00 L n) 8=1\/z01 L (z00 L n) 8=2):=λh=>by rw[i12.2 h]at h12;cases h12
  refine⟨by omega,by omega,by omega,by omega,by omega,by omega,by omega,?_,?_⟩
  ·rw[fdP,if_neg h0,if_neg n12,if_pos h3]
   simp only[flat,z0a,q9l,if_true,List.cons_append,List.nil_append,List.append_assoc,List.append_nil]
  ·rw[fdN,if_neg h0,if_neg n12,if_pos h3]
 case xm=>
  have n12:¬(z01 L (z00 L n) 8=1\/z01 L (z00 L n) 8=2):=λh=>by rw[i12.2 h]at h12;cases h12
  refine⟨by omega,by omega,by omega,by omega,?_,?_⟩
  ·rw[fdP,if_neg h0,if_neg n12,if_neg h3]
   simp only[flat,z0a,q9l,if_true,List.cons_append,List.nil_append,List.append_assoc,List.append_nil]
  ·rw[fdN,if_neg h0,if_neg n12,if_neg h3]
variable {L:List Int}
def z7s{n:Int} (h:z06 L n):z06 L (fdN L n):=by
 unfold fdN
 repeat' split
 all_goals first|exact z07 (z07 h)|exact z07 h
def z28(t:List Nat) (num:Int):flat (qk6 t num)=t++(32::111::(z0i (num+100).toNat++(32::61::32::(z0i (num+100).toNat++[59,10])))):=by
 unfold qk6 eqP seP
 simp only[flat,List.cons_append,List.nil_append,List.append_nil,List.append_assoc]
def z3p(t:List Nat) (num:Int) (ht:t.length<=8):(flat (qk6 t num)).length<=80/\flat (qk6 t num)≠[]:=by
 have h1:=z13 (num+100).toNat
 refine⟨?_,λh=> ?_⟩
 ·rw[z28]
  simp only[List.length_append,List.length_cons,List.length_nil];omega
 ·rw[z28]at h
  have:=congrArg List.length h
  simp only[List.length_append,List.length_cons,List.length_nil]at this;omega
def z3e(hL:z0g L) {n:Int} {i:Int} (h0:0<=i) (h9:i<10):0<=z0p L n i/\z0p L n i<200:=by
 have:=z0b (n:=n) (m:=2) hL (by omega)
 unfold z0p
 have:z01 L n 2=0\/z01 L n 2=1:=by omega
 rcases this with h|h<;>rw[h]<;>omega
def zd5:q7a P 19 cBd:=by
 refine qk0 mixed (qda (qgx z4w (qgx zad (qgx z58 (qgx zd9 qjn))))) (W:=wBd) Try.func19 (by kernel_rfl) (by decide) (by decide) (λs=>by kernel_rfl) λ⟨(x:SV),(L:List Int),(n:Int),(m:Int)⟩=>(zd4 x L n m).mpr ?_
 rintro⟨hp,m0,m1⟩ hq
 have rm:=z0b (n:=n) (m:=m+1) hp.2.2 (by omega)
 simp only[sbS,Int.toNat_natCast,exists_const]
 refine⟨by omega,L,⟨hp,by omega,by omega⟩,λp h=>h,⟨[],[],rfl,rfl,by omega,by omega,z07 hp,by decide,by rw[Int.sub_zero];rfl⟩,?_⟩
 rintro⟨_,_,i,k⟩ ⟨sl,ol,rfl,rfl,i0,i1,hk,hlen,inv⟩
 simp only at i0 i1 hk hlen inv⊢
 have hk1:=z07 hk
 have hk2:=z07 hk1
 have r2:=z0b (n:=k) (m:=2) hp.2.2 (by omega)
 have hs1:(mkS (flat sl)).size=(flat sl).length:=q0f _
 have hs2:(mkS (flat ol)).size=(flat ol).length:=q0f _
 refine⟨λhlt=> ?_,λhge=> ?_⟩
 ·have bb:=z3e hp.2.2 (n:=k) i0 (by omega)
  have w1:IntKind.wrap .i64 (14*z01 L k 2)=14*z01 L k 2:=by unfold IntKind.wrap;simp[IntKind.bits,IntKind.signed];omega
  have w2:IntKind.wrap .i64 (14*z01 L k 2*i)=14*z01 L k 2*i:=by
   have:z01 L k 2=0\/z01 L k 2=1:=by omega
   rcases this with h|h<;>rw[h]<;>unfold IntKind.wrap<;>simp[IntKind.bits,IntKind.signed]<;>omega
  have eb:i+1+14*z01 L k 2*i=z0p L k i:=rfl
  have ef:(z01 L n (m+1)- i).toNat=(z01 L n (m+1)- (i+1)).toNat+1:=by omega
  rw[ef,bdF]at inv
  have k8:=z2y (z01 L (z00 L (z00 L k)) 18)
  have t3:=z13 (z0p L k i+100).toNat
  refine⟨by omega,L,⟨hk,by decide,by decide⟩,λp h=>h,_,w1.symm,_,w2.symm,?_⟩
  rw[eb]
  simp only[sbS,Int.toNat_natCast,exists_const,ByteArray.size_append,q0f,List.length_cons,List.length_nil]
  refine⟨by omega,L,⟨hk1,by decide,by decide⟩,λp h=>h,λh4=> ?_,λh4=> ?_⟩
  ·rw[if_pos h4]at inv
   have ol1:=z3p (kwL (z01 L (z00 L (z00 L k)) 18)) (z0p L k i) k8
   refine⟨L,hk2,λp h=>h,by omega,by omega,by omega,⟨by omega,by omega⟩,by omega,by omega,by omega,⟨by omega,by omega⟩,by omega,by omega,by omega,⟨sl,ol++qk6 (kwL (z01 L (z00 L (z00 L k)) 18)) (z0p L k i),rfl,?_,by omega,by omega,z07 hk2,?_,inv⟩,by omega⟩
   ·rw[z03,z28]
    simp only[q9l,List.cons_append,List.nil_append,List.append_assoc,List.append_nil]
   ·rw[z03,List.length_append];omega
  ·rw[if_neg h4]at inv
   have fl:=z4m L (z00 L (z00 L (z00 L k))) (z0p L k i) (kwL (z01 L (z00 L (z00 L k)) 18)) k8
   refine⟨L,⟨hk2,by omega,by omega⟩,λp h=>h,by omega,by omega,⟨sl++fdP (kwL (z01 L (z00 L (z00 L k)) 18)) L (z00 L (z00 L (z00 L k))) (z0p L k i),ol,?_,rfl,by omega,by omega,z7s (z07 hk2),?_,inv⟩,by omega⟩
   ·rw[z03,q9l]
   ·rw[z03,List.length_append];omega
 ·have e0:(z01 L n (m+1)- i).toNat=0:=by omega
  rw[e0,bdF]at inv
  have b1:bdP L n m=bdJ sl ol:=by unfold bdP;rw[←inv]
  have b2:bdN L n m=k:=by unfold bdN;rw[←inv]
  rw[b1,b2]
  simp only[sbS,Int.toNat_natCast,exists_const,ByteArray.size_append,q0f,List.length_cons,List.length_nil]
  have hz:mkS (flat ol)=mkS []↔flat ol=[]:=⟨λh=>by
   have:=congrArg ByteArray.size h
   rw[q0f,q0f]at this
   exact List.eq_nil_of_length_eq_zero this,λh=>by rw[h]⟩
  refine⟨λh=>⟨by omega,by omega,by omega,?_⟩,λh=> ?_⟩
  ·rw[bdJ,if_neg (λe=>h (hz.2 e))]
   simp only[flat,z03,q9l,List.cons_append,List.nil_append,List.append_assoc,List.append_nil]
  ·rw[bdJ,if_pos (hz.1 h)]
end
section
def z2t{L:List Int}:∀(f:Nat) (i n:Int) (s o:List Pc),(flat (bdF L f i n s o).1).length+(flat (bdF L f i n s o).2.1).length<=(flat s).length+(flat o).length+80*f
  |0,i,n,s,o=>by rw[bdF];simp
  | f +1,i,n,s,o=>by
    have k8:=z2y (z01 L (z00 L (z00 L n)) 18)
    rw[bdF]
    split
    · have:=z2t (L:=L) f (i+1) (z00 L (z00 L (z00 L n))) s (o++qk6 (kwL (z01 L (z00 L (z00 L n)) 18)) (z0p L n i))
      have l1:=(z3p (kwL (z01 L (z00 L (z00 L n)) 18)) (z0p L n i) k8).1
      rw[z03 o,List.length_append]at this;omega
    · have:=z2t (L:=L) f (i+1) (fdN L (z00 L (z00 L (z00 L n)))) (s++fdP (kwL (z01 L (z00 L (z00 L n)) 18)) L (z00 L (z00 L (z00 L n))) (z0p L n i)) o
      have l1:=z4m L (z00 L (z00 L (z00 L n))) (z0p L n i) (kwL (z01 L (z00 L (z00 L n)) 18)) k8
      rw[z03 s,List.length_append]at this;omega
variable {L:List Int}
def z1y(hL:z0g L) (n:Int) {m:Int} (h:0<=m) (h9:m<10):(flat (bdP L n m)).length<=1000:=by
 have r:=z0b (n:=n) (m:=m+1) hL (by omega)
 have b:=z2t (L:=L) (z01 L n (m+1)).toNat 0 (z00 L n) [] []
 simp only[flat,List.length_nil]at b
 unfold bdP bdS bdJ
 split
 ·omega
 ·rw[z03,List.length_append]
  simp only[flat,z03,List.length_append,List.length_cons,List.length_nil];omega
def z48{L:List Int}:∀(f:Nat) (i n:Int) (s o:List Pc),z06 L n->z06 L (bdF L f i n s o).2.2
  |0,i,n,s,o,h=>by rw[bdF];exact h
  | f+1,i,n,s,o,h=>by
    rw[bdF]
    split
    · exact z48 f _ _ _ _ (z07 (z07 (z07 h)))
    · exact z48 f _ _ _ _ (z7s (z07 (z07 (z07 h))))
def z9y{n:Int} (h:z06 L n) (m:Int):z06 L (bdN L n m):=z48 _ _ _ _ _ (z07 h)
def z5a(L:List Int) (n:Int):flat (z04 L n)=flat hdP++(flat (bdP L n 4)++(flat miP++(flat (bdP L (bdN L n 4) 7)++[125,10]))):=by
 unfold z04
 simp only[z03];rfl
def hdB:List Nat:=[115,121,110,116,97,120,32,61,32,34,112,114,111,116,111,51,34,59,10,112,97,99,107,97,103,101,32,97,59,10,101,110,117,109,32,69,32,123,32,65,32,61,32,48,59,32,66,32,61,32,49,59,32,67,32,61,32,45,49,59,32,125,10,109,101,115,115,97,103,101,32,73,32,123,10]
def z4p:flat hdP=hdB:=by decide
def z8l:hdB.length=75:=rfl
def z4u:flat miP=[125,10,109,101,115,115,97,103,101,32,77,32,123,10]:=by decide
def zdk:q7a P 14 cTx:=by
 refine qk0 mixed (qda (qgx zd5 qjn)) (W:=λ_=>{}) Try.func14 (by kernel_rfl) (by decide) (by decide) (λs=>by kernel_rfl) λ⟨(x:SV),(L:List Int),(n:Int)⟩=>(zdj x L n).mpr ?_
 intro hp hq
 have sH:(mkS [115,121,110,116,97,120,32,61,32,34,112,114,111,116,111,51,34,59,10,112,97,99,107,97,103,101,32,97,59,10,101,110,117,109,32,69,32,123,32,65,32,61,32,48,59,32,66,32,61,32,49,59,32,67,32,61,32,45,49,59,32,125,10,109,101,115,115,97,103,101,32,73,32,123,10]).size=75:=rfl
 generalize hH:mkS [115,121,110,116,97,120,32,61,32,34,112,114,111,116,111,51,34,59,10,112,97,99,107,97,103,101,32,97,59,10,101,110,117,109,32,69,32,123,32,65,32,61,32,48,59,32,66,32,61,32,49,59,32,67,32,61,32,45,49,59,32,125,10,109,101,115,115,97,103,101,32,73,32,123,10]=H at sH⊢
 have sM:(mkS [125,10,109,101,115,115,97,103,101,32,77,32,123,10]).size=14:=rfl
 have sC:(mkS [125,10]).size=2:=rfl
 have hz1:(mkS (flat (bdP L n 4))).size=_:=q0f _
 have hz2:(mkS (flat (bdP L (bdN L n 4) 7))).size=_:=q0f _
 have l1:=z1y hp.2.2 n (m:=4) (by omega) (by omega)
 have l2:=z1y hp.2.2 (bdN L n 4) (m:=7) (by omega) (by omega)
 simp only[sbS,Int.toNat_natCast,exists_const,ByteArray.size_append,sH,sM,sC]
 refine⟨L,⟨hp,by decide,by decide⟩,λp h=>h,by omega,by omega,L,⟨z9y hp 4,by decide,by decide⟩,λp h=>h,by omega,by omega,?_,rfl⟩
 have hH2:H=mkS hdB:=hH.symm
 rw[z5a,z4p,z4u,hH2]
 simp only[q9l,List.append_assoc]
def z8v:q7a P 13 z8i:=by
 refine qk0 mixed z0l (W:=λ_=>{}) Try.func13 (by kernel_rfl) (by decide) (by decide) (λs=>by kernel_rfl) λ(x:SV)=>(z8u x).mpr ?_
 exactλ_=>⟨rfl,rfl,rfl,rfl,trivial⟩
def zb8(hL:z0g L) (n:Int):0<(flat (z04 L n)).length/\(flat (z04 L n)).length<=2200:=by
 have l1:=z1y hL n (m:=4) (by omega) (by omega)
 have l2:=z1y hL (bdN L n 4) (m:=7) (by omega) (by omega)
 rw[z5a,z4p,z4u]
 simp only[List.length_append,z8l,List.length_cons,List.length_nil];omega
end
section
abbrev zdf(w:World):Pub:=q11 (λ_ b=>b<w.heap.size) w
variable {w:World}
def z3k{a:Addr} {v:Value} (h:w.cell? a=some v):q5o (zdf w) a=some v/\a.spot=none:=by
  unfold World.cell? at h
  cases ho:w.heap[a.block]? with
  |none=>rw[ho]at h;cases h
  | some o=>
    have hlt:a.block<w.heap.size:=(Array.getElem?_eq_some_iff.1 ho).1
    have hp:zdf w a.block=some o:=q02.2 ⟨hlt,ho⟩
    rw[ho]at h
    unfold q5o
    rw[hp]
    cases o<;>simp only at h<;>first|cases h|skip
    cases hs:a.spot with
    |none=>rw[hs]at h;simp[qb0,hs]at h⊢;exact h
    |some k=>rw[hs]at h;simp at h
def z8f(w:World) (a:Option Addr) (len cap:Nat) (z:List Int):Prop:=(a=none/\len=0/\cap=0/\z=[])\/∃x,a=some x/\len<=cap/\cap<=maxLen/\z.length=cap/\(∀i,i<z.length->w.cell? (x.add i)=some (.int .u8 (z.getD i 0)))/\∀n∈z,(Lit.int .u8 n).wf=true
def z2l:∀L:List Int,(z3z L).length=L.length
 | []=>rfl
 |b::L=>by rw[z3z,List.length_cons,List.length_cons,z2l L]
def z80{a:Option Addr} {len cap:Nat} {z:List Int} (h:z8f w a len cap z):∃L:List Int,byP (a,len,cap) L (zdf w)/\L.length<9223372036854775808/\∀b∈L,0<=b/\b<256:=by
 rcases h with⟨rfl,rfl,rfl,rfl⟩|⟨x,rfl,hl,hm,hz,hc,hw⟩
 ·exact⟨[],⟨rfl,Nat.le_refl _, .inl ⟨rfl,z0w⟩⟩,by simp,λb hb=>by cases hb⟩
 have hlen:(z.take len).length=len:=by rw[List.length_take];omega
 have hat:∀(i:Nat) (hi:i<(z.take len).length),w.cell? (x.add i)=some (.int .u8 (z.take len)[i]):=λi hi=>by
  have hiz:i<z.length:=by omega
  have:=hc i hiz
  rw[List.getD_eq_getElem?_getD,List.getElem?_eq_getElem hiz]at this
  simpa using this
 refine⟨z.take len,⟨hlen.symm,hl,?_⟩,by unfold maxLen at hm;omega,λb hb=> ?_⟩
 ·by_cases h0:z.take len=[]
  ·rw[h0];exact .inl ⟨rfl,trivial⟩
  ·have hpos:0<(z.take len).length:=List.length_pos_iff.2 h0
   have e0:x.add 0=x:=by unfold Addr.add;rw[if_pos rfl]
   have hp0:=z3k (hat 0 hpos)
   rw[e0]at hp0
   refine .inr ⟨x,rfl,hp0.2,λj v hj=> ?_⟩
   have hjl:j<(z.take len).length:=by
    have:=(List.getElem?_eq_some_iff.1 hj).1
    rw[z2l]at this;exact this
   rw[z1g _ hjl]at hj
   rw[(z3k (hat j hjl)).1,←hj]
 ·have hw:=hw b (List.mem_of_mem_take hb)
  simp only[Lit.wf,Bool.and_eq_true,decide_eq_true_eq]at hw
  have h1:IntKind.min .u8=0:=by decide
  have h2:IntKind.max .u8=255:=by decide
  omega
end
def z5x:List (List Nat):=[[32],[10],[9,13],[47,42,32,97,59,32,42,47],[47,47,32,98,10],[47,42,42,47,32],[32,47,42,32,42,32,47,32,42,47]]
def zcr(i:Int):List Nat:=z5x.getD i.toNat []
def z3f(M:List Int) (i:Nat):List Nat:=if M=[]then []else zcr (Int.tmod (M.getD (i % M.length) 0) 7)
def z0m(M:List Int):Nat->List Pc->List Pc
 |_,[]=>[]
 |i,x::l=>(x.1,x.2++z3f M i)::z0m M (i+1) l
def lwS(x:SV) (L:List Int) (y:SV) (M:List Int):PF:=⟨true,λp=>byP x L p/\byP y M p/\hG.ok p,λ_ _ h e=>⟨⟨e.1.1,q4p h e.1.2⟩,⟨e.2.1.1,q4p h e.2.1.2⟩,PF.ok_mono h e.2.2⟩⟩
def cWS:Ct where
 σ:=SV×List Int×SV×List Int
 args:=λ⟨x,L,y,M⟩=>[svA x,svA y]
 h:=λ_=>[]
 m:=1
 pre:=λ⟨x,L,y,M⟩=>L.length<9223372036854775808/\(∀b∈L,0<=b/\b<256)/\M.length<9223372036854775808/\(∀b∈M,0<=b/\b<256)
 mem:=λ⟨x,L,y,M⟩=>lwS x L y M
 r:=λ_=> .sv (.bool true)
 h':=λ_=>[]
 m':=1
 g:=λ_=>none
def zbb(L M:List Int) (t:ByteArray) (i:Int):Prop:=∃k:Nat,i=k/\k<=(z04 L 0).length/\t=mkS (flat ((z0m M 0 (z04 L 0)).take k))
def zct(L:List Int) (i:Int):Prop:=∃k:Nat,i=k/\k<=(z04 L 0).length+1
def wWS:cWS.σ->WayF:=λ⟨x,L,y,M⟩=>{
 ann:=λb _ _=>match b with
  |0=>some {σ:=ByteArray×Int,pre:=λ⟨t,i⟩=>zbb L M t i,find:=some λt _=>match slS t 10 with|some s=>(match slI t 11 with|some i=>some (s,i)|none=>none)|none=>none,t:=λ⟨t,i⟩=>[(10, .sv (.string t)),(11, .sv (.int .i64 i))],h:=λ_=>[],more:=0,μ:=λ⟨t,i⟩=>(z04 L 0).length+1- i.toNat,keep:=[1,5,6,9]}
  |_=>some {σ:=Int,pre:=λi=>zct L i,find:=some λt _=>slI t 15,t:=λi=>[(15, .sv (.int .i64 i))],h:=λ_=>[],more:=0,μ:=λi=>(z04 L 0).length+2- i.toNat,keep:=[6,12]}}
def tWS:Nat->Option Ct:=qfl [(9,z4c),(13,z8i),(14,cTx),(10,za0)]
section
variable (x0:SV) (x1:List Int) (x2:SV) (x3:List Int) (x4:Nat) (x5:Option Addr) (x6:Nat) (x7:List Int) (x8:ByteArray×Int) (x9:Int) (x10:Nat) (x11:Option Addr) (x12:Nat) (x13:Int) (x14:Nat->Option Obj) (x15:Int) (x16 x17:ByteArray) (x18:Prop)
 abbrev z2d:=∃(i0:Int),q5o x14 (Addr.mk 0 0 none)=some (int i64 i0)
 abbrev z2e:=(↑x0.2.1:Int)
 def z5s:=mkS (flat (z04 x1 0))=mkS (flat (z04 x1 0))
 abbrev z0v:=mkS (flat (z04 x1 0))
 def z18:=(True/\byP x0 x1 x14/\byP x2 x3 x14/\z2d x14)/\x4=length (lxR (z0v x7)).1/\qh1 x14 x5 x4 x6 (z1w (lxR (z0v x7)).1)
 def z7h:=x0.1=x0.1/\x0.2.1=x0.2.1/\x0.2.2=x0.2.2/\x18
 abbrev z3b:=Jb (x8.2+1)
 def z7j:=(∀i0,z18 x0 x1 x2 x3 x4 x5 x6 x7 i0->q39 i0 (Addr.add (adr x5 (toNat x8.2*4)) 3) [int i64 x9])
 def z0e:=decide (x9<0)=decide (x9<0)
 def zcq:=z0e x9/\z0e x9/\z0e x9/\z0e x9/\z0e x9/\z0e x9/\z0e x9/\z0e x9/\z0e x9/\z0e x9/\z0e x9/\Ji (x9<0) (true=false/\True) (False)
 def z7k:=(0<=x8.2+1/\x8.2+1<(↑x4:Int))/\x5≠noA/\x18
 def z7i:=(∀i0,z18 x0 x1 x2 x3 x4 x5 x6 x7 i0->q39 i0 (Addr.add (adr x5 (toNat (x8.2+1)*4)) 3) [int i64 x9])
 def z2s:=decide (x9<x13)=decide (x9<x13)/\decide (x9<x13)=decide (x9<x13)/\x18
 def zco:=z2s x9 x13 (z2s x9 x13 (z2s x9 x13 (z2s x9 x13 (Ji (x9<x13) (true=false/\True) (False)))))
 def z9r:=length (z04 x1 0)+1- toNat (x8.2+1)<length (z04 x1 0)+1- toNat x8.2/\True
 def zck:=(z2e x0)≠0/\(0<=Int.tmod x8.2 (z2e x0)/\Int.tmod x8.2 (z2e x0)<(z2e x0))/\x0.1≠noA/\∃(i0:Int),(∀i1,z18 x2 x1 x0 x3 x4 x5 x6 x7 i1->q39 i1 (adr x0.1 (toNat (Int.tmod x8.2 (z2e x0))*1)) [int u8 i0])/\(7:Int)≠0/\(0<=Int.tmod i0 7/\Int.tmod i0 (7:Int)<(↑(nat_lit 7):Int))/\∃i2,(∀(i3:Nat) (i4:Value),[string i2][i3]? =some i4->[string (mkS [32]),string (mkS [10]),string (mkS [9,13]),string (mkS [47,42,32,97,59,32,42,47]),string (mkS [47,47,32,98,10]),string (mkS [47,42,42,47,32]),string (mkS [32,47,42,32,42,32,47,32,42,47])][nat_lit 0+toNat (Int.tmod i0 7)*1+i3]? =some i4)/\size (x8.1++ByteArray.extract (z0v x7) (toNat x9) (toNat x13))+size i2<=9223372036854775807/\z3b x8/\z7h x0 (x8.2+1=x8.2+1/\z5s x7/\x5=x5/\x4=x4/\x6=x6/\x8.1++ByteArray.extract (z0v x7) (toNat x9) (toNat x13)++i2=x8.1++ByteArray.extract (z0v x7) (toNat x9) (toNat x13)++i2/\(∀i5,z18 x2 x1 x0 x3 x4 x5 x6 x7 i5->z18 x2 x1 x0 x3 x4 x5 x6 x7 i5)/\zbb x1 x3 (x8.1++ByteArray.extract (z0v x7) (toNat x9) (toNat x13)++i2) (x8.2+1)/\z9r x1 x8)
 def zcm:=z3b x8/\z7h x0 (x8.2+1=x8.2+1/\z5s x1/\x5=x5/\x4=x4/\x6=x6/\x8.1++ByteArray.extract (z0v x1) (toNat x9) (toNat x13)=x8.1++ByteArray.extract (z0v x1) (toNat x9) (toNat x13)/\(∀i0,z18 x2 x3 x0 x7 x4 x5 x6 x1 i0->z18 x2 x3 x0 x7 x4 x5 x6 x1 i0)/\zbb x3 x7 (x8.1++ByteArray.extract (z0v x1) (toNat x9) (toNat x13)) (x8.2+1)/\z9r x3 x8)
 def zch:=(0<=x8.2/\x8.2<(↑x4:Int))/\x5≠noA/\∃(i0:Int),z7j x0 x1 x2 x3 x4 x5 x6 x7 x8 i0/\z3b x8/\z7k x4 x5 x8 (∃(i2:Int),z7i x0 x1 x2 x3 x4 x5 x6 x7 x8 i2/\(0<=i0/\i0<=i2/\i2<=(↑(size (z0v x7)):Int))/\size x8.1+size (ByteArray.extract (z0v x7) (toNat i0) (toNat i2))<=9223372036854775807/\Ji (0<(z2e x2)) (zck x2 x1 x0 x3 x4 x5 x6 x7 x8 i0 i2) (zcm x2 x7 x0 x1 x4 x5 x6 x3 x8 i0 i2))
 def zcg:=Ji ((↑(size (z0v x1)):Int)<x9) (true=false/\True) (zch x0 x3 x2 x7 x4 x5 x6 x1 x8)
 def zcd:=z2s x9 x13 (z3b x8/\decide (x9<x13)=decide (x9<x13)/\z7k x4 x5 x8 (z2s x9 x13 (∃(i0:Int),z7i x0 x1 x2 x3 x4 x5 x6 x7 x8 i0/\decide (x9<x13)=decide (x9<x13)/\z2s x9 x13 (Ji (x9<x13) (true=false/\True) (zcg x0 x7 x2 x1 x4 x5 x6 x3 x8 i0)))))
 def zcc:=Ji (x9<x13) (zco x9 x13) (zcd x0 x1 x2 x3 x4 x5 x6 x7 x8 x9 x13)
 def zgu:=z0e x9/\z0e x9/\(0<=x8.2/\x8.2<(↑x4:Int))/\x5≠noA/\z0e x9/\z0e x9/\∃(i0:Int),z7j x0 x1 x2 x3 x4 x5 x6 x7 x8 i0/\z0e x9/\z0e x9/\z0e x9/\z3b x8/\z0e x9/\z7k x4 x5 x8 (z0e x9/\z0e x9/\∃(i3:Int),z7i x0 x1 x2 x3 x4 x5 x6 x7 x8 i3/\z0e x9/\Ji (x9<0) (true=false/\True) (zcc x0 x1 x2 x3 x4 x5 x6 x7 x8 i3 i0))
 def zgs:=(0<=x8.2/\x8.2<(↑x4:Int))/\x5≠noA/\∃(i0:Int),z7j x0 x1 x2 x3 x4 x5 x6 x7 x8 i0/\Ji (i0<0) (zcq i0) (zgu x0 x1 x2 x3 x4 x5 x6 x7 x8 i0)
 def z1c:=(z18 x0 x1 x2 x3 x4 x5 x6 x7 x14)/\x10=length (lxR x8.1).1/\qh1 x14 x11 x10 x12 (z1w (lxR x8.1).1)
 abbrev z7l:=(↑(lxR x8.1).2.1:Int)=x9
 def z3c:=(0<=x9/\x9<(↑x4:Int))/\x5≠noA/\x18
 abbrev z3d:=adr x5 (toNat x9*4)
 def z1t:=(!decide (x9=x13))= !decide (x9=x13)/\(!decide (x9=x13))= !decide (x9=x13)/\x18
 def z1u:=(!decide (x16=x17))= !decide (x16=x17)/\(!decide (x16=x17))= !decide (x16=x17)/\x18
 def zcp:=Jb (x9+1)/\x9+1=x9+1/\x5=x5/\x4=x4/\x6=x6/\x11=x11/\x10=x10/\x12=x12/\(∀i0,z1c x0 x1 x2 x3 x10 x11 x12 x7 x8 x4 x5 x6 i0->z1c x0 x1 x2 x3 x10 x11 x12 x7 x8 x4 x5 x6 i0)/\zct x1 (x9+1)/\length (z04 x1 0)+2- toNat (x9+1)<length (z04 x1 0)+2- toNat x9/\True
 def zcn:=((!decide (x9=x13))=true->true=false/\True)/\((!decide (x9=x13))=false->zcp x0 x1 x2 x3 x4 x5 x6 x7 x8 x15 x10 x11 x12)
 def zcl:=z1u x16 x17 (z3c x4 x5 x9 (z1u x16 x17 (∃(i0:Int),(∀i1,z1c x0 x1 x2 x3 x6 x11 x10 x7 x8 x4 x5 x12 i1->q39 i1 (Addr.add (z3d x5 x9) 2) [int u64 i0])/\(!decide (x16=x17))= !decide (x16=x17)/\z1u x16 x17 (z3c x6 x11 x9 (z1u x16 x17 (∃(i2:Int),(∀i3,z1c x0 x1 x2 x3 x6 x11 x10 x7 x8 x4 x5 x12 i3->q39 i3 (Addr.add (z3d x11 x9) 2) [int u64 i2])/\(!decide (x16=x17))= !decide (x16=x17)/\((!decide (x16=x17))=true->true=false/\True)/\((!decide (x16=x17))=false->zcn x0 x1 x2 x3 x4 x5 x12 x7 x8 i0 x6 x11 x10 i2 x9)))))))
 def zcj:=((!decide (x16=x17))=true->z1u x16 x17 (z1u x16 x17 (z1u x16 x17 (z1u x16 x17 (z1u x16 x17 (((!decide (x16=x17))=true->true=false/\True)/\((!decide (x16=x17))=false->False)))))))/\((!decide (x16=x17))=false->zcl x0 x1 x2 x3 x4 x5 x6 x7 x8 x9 x10 x11 x12 x16 x17)
 def zci:=z1t x9 x13 (z3c x4 x5 x15 (z1t x9 x13 (∃i0,(∀i1,z1c x0 x1 x2 x3 x6 x11 x10 x7 x8 x4 x5 x12 i1->q39 i1 (Addr.add (z3d x5 x15) 1) [string i0])/\(!decide (x9=x13))= !decide (x9=x13)/\z1t x9 x13 (z3c x6 x11 x15 (z1t x9 x13 (∃i2,(∀i3,z1c x0 x1 x2 x3 x6 x11 x10 x7 x8 x4 x5 x12 i3->q39 i3 (Addr.add (z3d x11 x15) 1) [string i2])/\(!decide (x9=x13))= !decide (x9=x13)/\((!decide (x9=x13))=true->true=false/\True)/\((!decide (x9=x13))=false->zcj x0 x1 x2 x3 x4 x5 x6 x7 x8 x15 x10 x11 x12 i0 i2)))))))
 def zcf:=z3c x4 x5 x9 (∃(i0:Int),(∀i1,z1c x0 x1 x2 x3 x6 x11 x10 x7 x8 x4 x5 x12 i1->q39 i1 (Addr.add (z3d x5 x9) 0) [int i64 i0])/\z3c x6 x11 x9 (∃(i3:Int),(∀i4,z1c x0 x1 x2 x3 x6 x11 x10 x7 x8 x4 x5 x12 i4->q39 i4 (Addr.add (z3d x11 x9) 0) [int i64 i3])/\((!decide (i0=i3))=true->z1t i0 i3 (z1t i0 i3 (z1t i0 i3 (z1t i0 i3 (z1t i0 i3 (((!decide (i0=i3))=true->true=false/\True)/\((!decide (i0=i3))=false->False)))))))/\((!decide (i0=i3))=false->zci x0 x1 x2 x3 x4 x5 x6 x7 x8 i0 x10 x11 x12 i3 x9)))
 def zce:=Ji (x9<(↑x4:Int)) (zcf x0 x1 x2 x3 x6 x5 x4 x7 x8 x9 x10 x11 x12) (true=true/\True)
 def zcb:=((0:Int)=0/\x5=x5/\x4=x4/\x6=x6/\x11=x11/\x10=x10/\x12=x12/\(∀i0,z1c x0 x1 x2 x3 x10 x11 x12 x7 x8 x4 x5 x6 i0->z1c x0 x1 x2 x3 x10 x11 x12 x7 x8 x4 x5 x6 i0)/\zct x1 0/\True)/\∀(i3:Int),zct x1 i3->zce x0 x1 x2 x3 x10 x5 x4 x7 x8 i3 x12 x11 x6
 def zca:=((!decide ((↑x4:Int)=(↑x6:Int)))=true->true=false/\True)/\((!decide ((↑x4:Int)=(↑x6:Int)))=false->zcb x0 x1 x2 x3 x4 x5 x10 x7 x8 x6 x11 x12)
 def zc9:=((!decide (z7l x8 0))=true->true=false/\True)/\((!decide (z7l x8 0))=false->zca x0 x1 x2 x3 x4 x5 x6 x7 x8 x10 x11 x12)
 def zc8:=Ji (3000<(↑(size x8.1):Int)) (true=decide (z7l x8 3)/\True) (zc9 x0 x1 x2 x3 x4 x5 x6 x7 x8 x10 x11 x12)
 def zgt:=x8.1=x8.1/\size x8.1<100000/\(∀i0,z18 x0 x1 x2 x3 x4 x5 x6 x7 i0->z2d i0)/\∀(i3:Unit),True->∀(i4:Option Addr) (i5 i6:Nat),(∃i7,z1c x0 x1 x2 x3 x4 x5 x6 x7 x8 i5 i4 i6 i7)->zc8 x0 x1 x2 x3 i5 i4 x4 x7 x8 i6 x5 x6
 def zgr:=z3b x8/\Ji (x8.2+1<(↑x4:Int)) (zgs x0 x1 x2 x3 x4 x5 x6 x7 x8) (zgt x0 x1 x2 x3 x4 x5 x6 x7 x8)
 def zgq:=(z7h x0 ((0:Int)=0/\z5s x1/\x5=x5/\x4=x4/\x6=x6/\mkS []=mkS []/\(∀i0,z18 x2 x3 x0 x7 x4 x5 x6 x1 i0->z18 x2 x3 x0 x7 x4 x5 x6 x1 i0)/\zbb x3 x7 (mkS []) 0/\True))/\∀(i3:ByteArray×Int),zbb x3 x7 i3.1 i3.2->zgr x2 x3 x0 x7 x4 x5 x6 x1 i3
 def zgp:=Ji ((↑x4:Int)=0) (true=false/\True) (zgq x0 x1 x2 x3 x4 x5 x6 x7)
 def zgo:=((!decide ((↑(lxR (z0v x1)).2.1:Int)=0))=true->true=false/\True)/\((!decide ((↑(lxR (z0v x1)).2.1:Int)=0))=false->zgp x0 x1 x2 x3 x4 x5 x6 x7)
 def zgn:=Ji (30<(z2e x0)) (true=true/\True) (∃(i0:Option Addr×Nat×Nat),i0.1=x2.1/\i0.2.1=x2.2.1/\i0.2.2=x2.2.2/\True/\∃(i1:List Int),i0.1=i0.1/\i0.2.1=i0.2.1/\i0.2.2=i0.2.2/\(0:Int)=0/\z06 i1 0/\(∀i2,(True/\byP x2 x1 i2/\byP x0 x3 i2/\z2d i2)->byP (i0.1,i0.2.1,i0.2.2) i1 i2)/\z5s i1/\size (z0v i1)<100000/\(∀i4,(True/\byP x2 x1 i4/\byP x0 x3 i4/\z2d i4)->z2d i4)/\∀(i7:Unit),True->∀(i8:Option Addr) (i9 i10:Nat),(∃i11,z18 x2 x1 x0 x3 i9 i8 i10 i1 i11)->zgo x0 i1 x2 x1 i9 i8 i10 x3)
 def zgm:=Ji (100<(z2e x0)) (true=true/\True) (zgn x2 x1 x0 x3)
 def zgl:=True/\(∀i0,(True/\byP x0 x1 i0/\byP x2 x3 i0/\z2d i0)->z2d i0)/\((!true)=true->true=false/\True)/\((!true)=false->zgm x0 x1 x2 x3)
end
def zbc(x:SV) (L:List Int) (y:SV) (M:List Int):qjz P (tWS) Try.f8 cWS (wWS) ⟨x,L,y,M⟩=((length L<9223372036854775808/\(∀(b:Int),b∈L->0<=b/\b<256)/\length M<9223372036854775808/\∀(b:Int),b∈M->0<=b/\b<256)->(∃(p:Pub),True/\byP x L p/\byP y M p/\z2d p)->zgl x L y M):=by kernel_rfl
def zdm:=λx L y M=>Eq.trans (zbc x L y M) (by delta Ji Jb Jt Jf z2d z2e z5s z0v z18 z7h z3b z7j z0e zcq z7k z7i z2s zco z9r zck zcm zch zcg zcd zcc zgu zgs z1c z7l z3c z3d z1t z1u zcp zcn zcl zcj zci zcf zce zcb zca zc9 zc8 zgt zgr zgq zgp zgo zgn zgm zgl;exact rfl)
section
variable {l:List Nat}
def z7m(h:∀x∈l,x<256) (j:Nat):bat (mkS l) j=l.getD j 0:=by
  unfold bat
  rw[qbr,List.getD_eq_getElem?_getD]
  cases hg:l[j]? with
  |none=>rfl
  | some x=>
    have:=h x (List.mem_of_getElem? hg)
    show(UInt8.ofNat x).toNat=x
    simp[Nat.mod_eq_of_lt this]
def Rd(s:ByteArray) (i:Nat) (l:List Nat):Prop:=i+l.length<=s.size/\∀k (h:k<l.length),bat s (i+k)=l[k]
def rd_mk{p l r:List Nat} (h:∀x∈p++(l++r),x<256):Rd (mkS (p++(l++r))) p.length l:=by
 refine⟨by rw[q0f];simp only[List.length_append];omega,λk hk=> ?_⟩
 rw[z7m h,List.getD_eq_getElem?_getD,List.getElem?_append_right (by omega),List.getElem?_append_left (by omega),show p.length+k- p.length=k by omega,List.getElem?_eq_getElem hk];rfl
def zap{p l r:List Nat} (h:∀x∈p++(l++r),x<256):bat (mkS (p++(l++r))) (p.length+l.length)=r.headD 0:=by
 rw[z7m h,List.getD_eq_getElem?_getD,List.getElem?_append_right (by omega),List.getElem?_append_right (by omega)]
 rw[show p.length+l.length- p.length- l.length=0 by omega]
 cases r<;>rfl
variable {s:ByteArray}
def z8z{i:Nat} (h:Rd s i l) (k c:Nat) (hk:l[k]? =some c):bat s (i+k)=c:=by
 obtain⟨h1,h2⟩:=List.getElem?_eq_some_iff.1 hk
 rw[h.2 k h1,h2]
def z90{i c:Nat} (h:Rd s i (c::l)):bat s i=c/\i<s.size/\Rd s (i+1) l:=by
 refine⟨z8z h 0 c rfl,by have:=h.1;rw[List.length_cons]at this;omega,by have:=h.1;rw[List.length_cons]at this;omega,λk hk=> ?_⟩
 have:=h.2 (k+1) (by rw[List.length_cons];omega)
 rw[show i+1+k=i+(k+1)by omega,this];rfl
def z1p{n:Nat} (h:z2i (bat s n)=true):spR s n=spR s (n+1):=by
 have:=z12 h
 rw[z0t s n (by omega),if_pos h]
def z93{n m:Nat} (hn:n<s.size) (h1:bat s n=47) (h2:bat s (n+1)=42) (h:cl s (n+2)=some m):spR s n=spR s (m+2):=by
 rw[z0t s n (by omega),if_neg (by rw[h1];decide),if_neg (by rw[h2];omega),if_pos ⟨h1,h2⟩,h]
def zdg{n m:Nat} (hn:n<s.size) (h1:bat s n=47) (h2:bat s (n+1)=47) (h:eol s n=m):spR s n=spR s m:=by
 rw[z0t s n (by omega),if_neg (by rw[h1];decide),if_pos ⟨h1,h2⟩,h]
def z2f{k c d:Nat} (hk:k<s.size) (h:bat s k=c) (hc:c≠42):cl s k=cl s (k+1):=by
 rw[z1m s k hk,if_neg (by rw[h];omega)]
def za2{k d:Nat} (hk:k<s.size) (h:bat s (k+1)=d) (hc:d≠47):cl s k=cl s (k+1):=by
 rw[z1m s k hk,if_neg (by rw[h];omega)]
def z4f{k:Nat} (hk:k<s.size) (h:bat s k=42) (h2:bat s (k+1)=47):cl s k=some k:=by
 rw[z1m s k hk,if_pos ⟨h,h2⟩]
def z63{k c:Nat} (hk:k<s.size) (h:bat s k=c) (hc:c≠10):eol s k=eol s (k+1):=by
 rw[z0c s k,if_pos ⟨hk,by rw[h];exact hc⟩]
def za5{k:Nat} (h:bat s k=10):eol s k=k:=by
 rw[z0c s k,if_neg (λx=>x.2 h)]
def z7n{c:List Nat} (hc:c∈z5x) {s:ByteArray} {n:Nat} (h:Rd s n c):spR s n=spR s (n+c.length):=by
 have h1:=h.1
 have a:=z8z h
 unfold z5x at hc
 simp only[List.mem_cons,List.not_mem_nil,or_false]at hc
 rcases hc with rfl|rfl|rfl|rfl|rfl|rfl|rfl
 ·exact z1p (by rw[show bat s n=32 from a 0 _ rfl];rfl)
 ·exact z1p (by rw[show bat s n=10 from a 0 _ rfl];rfl)
 ·rw[z1p (by rw[show bat s n=9 from a 0 _ rfl];rfl)]
  exact z1p (by rw[a 1 _ rfl];rfl)
 ·simp only[List.length_cons,List.length_nil]at h1
  refine z93 (m:=n+6) (by omega) (a 0 _ rfl) (a 1 _ rfl) ?_
  rw[z2f (d:=0) (by omega) (a 2 _ rfl) (by decide),z2f (d:=0) (by omega) (a 3 _ rfl) (by decide),z2f (d:=0) (by omega) (a 4 _ rfl) (by decide),z2f (d:=0) (by omega) (a 5 _ rfl) (by decide)]
  exact z4f (by omega) (a 6 _ rfl) (a 7 _ rfl)
 ·simp only[List.length_cons,List.length_nil]at h1
  refine Eq.trans (zdg (m:=n+4) (by omega) (a 0 _ rfl) (a 1 _ rfl) ?_) (z1p (by rw[a 4 _ rfl];rfl))
  rw[z63 (by omega) (show bat s n=47 from a 0 _ rfl) (by decide),z63 (by omega) (a 1 _ rfl) (by decide),z63 (by omega) (a 2 _ rfl) (by decide),z63 (by omega) (a 3 _ rfl) (by decide)]
  exact za5 (a 4 _ rfl)
 ·simp only[List.length_cons,List.length_nil]at h1
  refine Eq.trans (z93 (m:=n+2) (by omega) (a 0 _ rfl) (a 1 _ rfl) ?_) (z1p (by rw[a 4 _ rfl];rfl))
  exact z4f (by omega) (a 2 _ rfl) (a 3 _ rfl)
 ·simp only[List.length_cons,List.length_nil]at h1
  rw[z1p (by rw[show bat s n=32 from a 0 _ rfl];rfl)]
  refine z93 (n:=n+1) (m:=n+8) (by omega) (a 1 _ rfl) (a 2 _ rfl) ?_
  rw[z2f (d:=0) (by omega) (a 3 _ rfl) (by decide),za2 (by omega) (a 5 _ rfl) (by decide),z2f (d:=0) (by omega) (a 5 _ rfl) (by decide),z2f (d:=0) (by omega) (a 6 _ rfl) (by decide),z2f (d:=0) (by omega) (a 7 _ rfl) (by decide)]
  exact z4f (by omega) (a 8 _ rfl) (a 9 _ rfl)
def zav{n:Nat} (hn:n<=s.size) (h1:z2i (bat s n)=false) (h2:bat s n≠47):spR s n=(true,n):=by
 rw[z0t s n hn,if_neg (by rw[h1];simp),if_neg (λh=>h2 h.1),if_neg (λh=>h2 h.1)]
def z4q(c:Nat):Bool:=isLet c||z02 c|| (c==46)
def z7z{s:ByteArray}:∀(r:List Nat) (j:Nat),Rd s j r->(∀x∈r,(isLet x||z02 x)=true)->z4q (bat s (j+r.length))=false->nmE s j=j+r.length
  | [],j,h,_,hs=>by
    have h1:=h.1
    rw[List.length_nil,Nat.add_zero]at h1 hs
    unfold z4q at hs
    simp only[Bool.or_eq_false_iff]at hs
    rw[z1f s j h1,if_neg (by unfold nmC;rw[hs.1.1,hs.1.2,hs.2];simp)];rfl
  | c::r,j,h,hr,hs=>by
    obtain⟨h1,h2,h3⟩:=z90 h
    have hc:=hr c List.mem_cons_self
    rw[z1f s j (by omega),if_pos (by unfold nmC;rw[h1,hc];rfl),z7z r (j+1) h3 (λx hx=>hr x (List.mem_cons_of_mem _ hx)) (by rw[List.length_cons]at hs;rw[show j+1+r.length=j+(r.length+1)by omega];exact hs),List.length_cons];omega
def dgV(v:Nat) (l:List Nat):Nat:=l.foldl (λv x=>v*10+(x- 48)) v
variable {c:Nat}
def za4(h:z02 c=true):dv c=c- 48/\dv c<10:=by
 unfold z02 at h
 simp only[Bool.and_eq_true,decide_eq_true_eq]at h
 unfold dv;rw[if_pos (by omega)];omega
def z8k(h:z4q c=false):dv c=16/\isLet c=false/\z02 c=false/\c≠46:=by
 unfold z4q isLet z02 at*
 simp only[Bool.or_eq_false_iff,Bool.and_eq_false_iff,beq_eq_false_iff_ne,decide_eq_false_iff_not]at h
 refine⟨?_,?_,?_,h.2⟩
 ·unfold dv;rw[if_neg (by omega),if_neg (by omega),if_neg (by omega)]
 ·simp only[Bool.or_eq_false_iff,Bool.and_eq_false_iff,beq_eq_false_iff_ne,decide_eq_false_iff_not];exact h.1.1
 ·simp only[Bool.and_eq_false_iff,decide_eq_false_iff_not];exact h.1.2
def z7q{s:ByteArray}:∀(r:List Nat) (j v:Nat),Rd s j r->(∀x∈r,z02 x=true)->z4q (bat s (j+r.length))=false->dgE s 10 j v=(j+r.length,dgV v r)
  | [],j,v,h,_,hs=>by
    rw[List.length_nil,Nat.add_zero]at hs
    rw[z0r s 10 j v (by omega),if_neg (by rw[(z8k hs).1];omega)];rfl
  | c::r,j,v,h,hr,hs=>by
    obtain⟨h1,h2,h3⟩:=z90 h
    have hc:=za4 (hr c List.mem_cons_self)
    rw[z0r s 10 j v (by omega),h1,if_pos hc.2,z7q r (j+1) _ h3 (λx hx=>hr x (List.mem_cons_of_mem _ hx)) (by rw[List.length_cons]at hs;rw[show j+1+r.length=j+(r.length+1)by omega];exact hs),hc.1,List.length_cons]
    refine Prod.ext ?_ rfl
    show j+1+r.length=j+(r.length+1);omega
def TXw:List Nat:=[34,112,114,111,116,111,51,34]
def WKb:List Nat->Bool
 | []=>false
 |c::r=>(isLet c&&r.all (λx=>isLet x||z02 x))|| (z02 c&&r.all z02&&((c !=48)||r.isEmpty)&&decide (dgV 0 (c::r)<1000000))||decide (c::r=TXw)|| (r.isEmpty&&sgs.contains c)
def z6t:List Nat->Bool
 | []=>true
 |c::_=>isLet c||z02 c
def z1x(c:Nat) (q:List Nat):z6t (c::q)=(isLet c||z02 c):=rfl
def z30:List Nat->Nat×ByteArray×Nat
 | []=>(0,mkS [],0)
 |c::r=>if isLet c=true then(1,mkS (c::r),0)else if z02 c=true then(2,mkS [],dgV 0 (c::r))else if c=34 then(3,mkS (TXw.drop 1|>.dropLast),0)else(4,mkS [c],0)
def z14(c:Nat) (r:List Nat):z30 (c::r)=if isLet c=true then(1,mkS (c::r),0)else if z02 c=true then(2,mkS [],dgV 0 (c::r))else if c=34 then(3,mkS (TXw.drop 1|>.dropLast),0)else(4,mkS [c],0):=rfl
def z7r(p a r:List Nat):(mkS (p++(a++r))).extract p.length (p.length+a.length)=mkS a:=by
 rw[q4l,List.drop_left,show p.length+a.length- p.length=a.length by omega,List.take_left]
def z8s(h:isLet c=true):z02 c=false/\c≠34/\c≠39/\z2i c=false/\c≠47:=by
 unfold isLet z02 z2i at*
 simp only[Bool.or_eq_true,Bool.and_eq_true,beq_iff_eq,decide_eq_true_eq]at h
 simp only[Bool.or_eq_false_iff,Bool.and_eq_false_iff,beq_eq_false_iff_ne,decide_eq_false_iff_not]
 omega
def z4j(h:z02 c=true):isLet c=false/\c≠34/\c≠39/\c≠46/\z2i c=false/\c≠47:=by
 unfold isLet z02 z2i at*
 simp only[Bool.and_eq_true,decide_eq_true_eq]at h
 simp only[Bool.or_eq_false_iff,Bool.and_eq_false_iff,beq_eq_false_iff_ne,decide_eq_false_iff_not]
 omega
def z9b {p a r:List Nat} (h:∀x∈p++(a++r),x<256) (hw:WKb a=true) (hn:z6t a=true->z4q (r.headD 0)=false):wdR (mkS (p++(a++r))) p.length=(0,((z30 a).1,(z30 a).2.1,(z30 a).2.2,p.length),p.length+a.length):=by
  have hr:=rd_mk h
  have nx:=zap h
  have ex:=z7r p a r
  cases a with
  |nil=>cases hw
  | cons c q=>
    obtain⟨r1,r2,r3⟩:=z90 hr
    have hne:p.length≠(mkS (p++((c::q)++r))).size:=by omega
    unfold wdR
    rw[if_neg hne,r1]
    simp only[WKb,Bool.or_eq_true,Bool.and_eq_true,decide_eq_true_eq]at hw
    have len1:p.length+1+q.length=p.length+(c::q).length:=by rw[List.length_cons];omega
    rcases hw with((hw|hw)|hw)|hw
    · have hc:=hw.1
      have e:=z7z q (p.length+1) r3 (λx hx=>List.all_eq_true.1 hw.2 x hx) (by rw[len1,nx];exact hn (by rw[z1x,hc];rfl))
      rw[if_pos (.inl hc),e,len1,ex]
      rw[z14,if_pos hc]
    · obtain⟨⟨⟨hc,hq⟩,h48⟩,hv⟩:=hw
      have dn:=z4j hc
      have hw2:z4q (bat (mkS (p++((c::q)++r))) (p.length+(c::q).length))=false:=by rw[nx];exact hn (by rw[z1x,hc,Bool.or_true])
      have tk:z30 (c::q)=(2,mkS [],dgV 0 (c::q)):=by rw[z14,if_neg (by rw[dn.1];simp),if_pos hc]
      rw[if_neg (by rw[dn.1];simp;exactλh=>absurd h dn.2.2.2.1),if_pos hc,tk]
      have nb:nbR (mkS (p++((c::q)++r))) p.length=(0,dgV 0 (c::q),p.length+(c::q).length):=by
        by_cases h0:c=48
        · have hq0:q=[]:=by
            rcases h48 with h|h
            · simp[h0]at h
            · simpa using h
          subst hq0 h0
          rw[List.length_singleton]at hw2⊢
          have w:=z8k hw2
          have hx:¬(bat (mkS (p++([48]++r))) (p.length+1)=120\/bat (mkS (p++([48]++r))) (p.length+1)=88):=by
            have:=w.2.1
            unfold isLet at this
            simp only[Bool.or_eq_false_iff,Bool.and_eq_false_iff,beq_eq_false_iff_ne,decide_eq_false_iff_not]at this
            omega
          have e8:nbB (mkS (p++([48]++r))) p.length=8:=by unfold nbB;rw[if_pos r1,if_neg (λh=>hx h.2)]
          have e1:nbO (mkS (p++([48]++r))) p.length=1:=by unfold nbO;rw[if_pos r1,if_neg (λh=>hx h.2)]
          unfold nbR
          have ed:dgE (mkS (p++([48]++r))) 8 (p.length+1) 0=(p.length+1,0):=by
            rw[z0r _ 8 _ 0 (by omega),if_neg (by rw[w.1];omega)]
          rw[e8,e1,ed]
          show(if 18446744073709551616<=0 then(3,0,p.length)else if(isLet (bat (mkS (p++([48]++r))) (p.length+1))||z02 (bat (mkS (p++([48]++r))) (p.length+1))|| (bat (mkS (p++([48]++r))) (p.length+1)==46))=true then(2,0,p.length)else(0,0,p.length+1))=_
          rw[if_neg (by omega),if_neg (by rw[w.2.1,w.2.2.1];simpa using w.2.2.2)];rfl
        · have e10:nbB (mkS (p++((c::q)++r))) p.length=10:=by unfold nbB;rw[if_neg (by rw[r1];exact h0)]
          have e0:nbO (mkS (p++((c::q)++r))) p.length=0:=by unfold nbO;rw[if_neg (by rw[r1];exact h0)]
          have w:=z8k hw2
          have e:=z7q (c::q) p.length 0 hr (λx hx=>by
            rcases List.mem_cons.1 hx with rfl|hx
            · exact hc
            · exact List.all_eq_true.1 hq x hx) hw2
          unfold nbR
          rw[e10,e0,Nat.add_zero,e]
          simp only[]
          rw[if_neg (by omega),if_neg (by rw[w.2.1,w.2.2.1];simpa using w.2.2.2)]
      rw[nb];rfl
    · unfold TXw at hw
      simp only[List.cons.injEq]at hw
      obtain⟨rfl,rfl⟩:=hw
      have a:=z8z hr
      have h1:=hr.1
      simp only[List.length_cons,List.length_nil]at h1
      rw[if_neg (λh=>by rcases h with h|⟨h,_⟩<;>exact absurd h (by decide)),if_neg (by decide),if_pos (.inl rfl)]
      have st:∀(k c:Nat) (acc:List Nat),([34,112,114,111,116,111,51,34]:List Nat)[k]? =some c->c≠34->c≠10->c≠92->txE (mkS (p++([34,112,114,111,116,111,51,34]++r))) 34 (p.length+k) acc=txE (mkS (p++([34,112,114,111,116,111,51,34]++r))) 34 (p.length+(k+1)) (acc++[c]):=λk c acc hk n1 n2 n3=>by
        have hk8:k<8:=(List.getElem?_eq_some_iff.1 hk).1
        rw[z1i,if_pos (by omega),a k c hk,if_neg n1,if_neg n2,if_neg n3];rfl
      have te:txE (mkS (p++([34,112,114,111,116,111,51,34]++r))) 34 (p.length+1) []=some ([112,114,111,116,111,51],p.length+8):=by
        rw[st 1 112 _ rfl (by decide) (by decide) (by decide),st 2 114 _ rfl (by decide) (by decide) (by decide),st 3 111 _ rfl (by decide) (by decide) (by decide),st 4 116 _ rfl (by decide) (by decide) (by decide),st 5 111 _ rfl (by decide) (by decide) (by decide),st 6 51 _ rfl (by decide) (by decide) (by decide),z1i,if_pos (by omega),a 7 34 rfl,if_pos rfl];rfl
      unfold txR
      rw[te]
      simp only[]
      rw[if_pos (by decide+kernel)];rfl
    · obtain⟨hq,hs⟩:=hw
      have hq:q=[]:=by simpa using hq
      subst hq
      have hs:c∈sgs:=by simpa using hs
      have hc:isLet c=false/\z02 c=false/\c≠34/\c≠39/\c≠46:=(by decide:∀c∈sgs,isLet c=false/\z02 c=false/\c≠34/\c≠39/\c≠46) c hs
      rw[if_neg (by rw[hc.1];simp;exactλh=>absurd h hc.2.2.2.2),if_neg (by rw[hc.2.1];simp),if_neg (by omega),if_pos hs]
      rw[z14,if_neg (by rw[hc.1];simp),if_neg (by rw[hc.2.1];simp),if_neg hc.2.2.1];rfl
end
def z08:Nat->List Pc->List Tk
 |o,[]=>[(5,mkS [],0,o)]
 |o,x::l=>((z30 x.1).1,(z30 x.1).2.1,(z30 x.1).2.2,o)::z08 (o+x.1.length+x.2.length) l
def SpK(b:List Nat):Prop:=∃u v,b=u++v/\(u=[]\/u∈z5x)/\(v=[]\/v∈z5x)
def z83{p w r:List Nat} (h:∀x∈p++(w++r),x<256) (hw:SpK w) (h1:z2i (r.headD 0)=false) (h2:r.headD 0≠47):spR (mkS (p++(w++r))) p.length=(true,p.length+w.length):=by
 obtain⟨u,v,rfl,hu,hv⟩:=hw
 have e1:p++((u++v)++r)=p++(u++(v++r)):=by simp only[List.append_assoc]
 have e2:p++((u++v)++r)=(p++u)++(v++r):=by simp only[List.append_assoc]
 have nx:=zap h
 have sz:p.length+(u++v).length<=(mkS (p++((u++v)++r))).size:=(rd_mk h).1
 have s1:spR (mkS (p++((u++v)++r))) p.length=spR (mkS (p++((u++v)++r))) (p.length+u.length):=by
  rcases hu with rfl|hu
  ·rfl
  ·exact z7n hu (by rw[e1];exact rd_mk (by rw[←e1];exact h))
 have s2:spR (mkS (p++((u++v)++r))) (p.length+u.length)=spR (mkS (p++((u++v)++r))) (p.length+(u++v).length):=by
  rcases hv with rfl|hv
  ·rw[List.append_nil]
  ·have:=z7n hv (s:=mkS (p++((u++v)++r))) (n:=p.length+u.length) (by rw[e2,←List.length_append];exact rd_mk (by rw[←e2];exact h))
   rw[this,List.length_append];congr 1;omega
 rw[s1,s2]
 exact zav sz (by rw[nx];exact h1) (by rw[nx];exact h2)
def POK:List Pc->Prop
 | []=>True
 |x::l=>WKb x.1=true/\SpK x.2/\(z6t x.1=true->z4q ((x.2++flat l).headD 0)=false)/\POK l
def z31{a r:List Nat} (h:WKb a=true):z2i ((a++r).headD 0)=false/\(a++r).headD 0≠47/\a≠[]:=by
  cases a with
  |nil=>cases h
  | cons c q=>
    show z2i c=false/\c≠47/\_
    simp only[WKb,Bool.or_eq_true,Bool.and_eq_true,decide_eq_true_eq]at h
    rcases h with((h|h)|h)|h
    · have:=z8s h.1;exact⟨this.2.2.2.1,this.2.2.2.2,by simp⟩
    · have:=z4j h.1.1.1;exact⟨this.2.2.2.2.1,this.2.2.2.2.2,by simp⟩
    · unfold TXw at h
      simp only[List.cons.injEq]at h
      obtain⟨rfl,rfl⟩:=h
      exact⟨rfl,by decide,by simp⟩
    · have hs:c∈sgs:=by simpa using h.2
      have:=(by decide:∀c∈sgs,z2i c=false/\c≠47) c hs
      exact⟨this.1,this.2,by simp⟩
def z98{a:List Nat} (h:WKb a=true):(z30 a).1≠5:=by
  cases a with
  |nil=>cases h
  | cons c q => rw[z14];repeat' split
                all_goals simp
def z7w:∀(l:List Pc) (p w:List Nat) (acc:List Tk),(∀x∈p++(w++flat l),x<256)->SpK w->POK l->lxE (mkS (p++(w++flat l))) p.length acc=(acc++z08 (p.length+w.length) l,0,0)
  | [],p,w,acc,h,hw,_=>by
    have sp:=z83 h hw rfl (by decide)
    have sz:(mkS (p++(w++flat []))).size=p.length+w.length:=by rw[q0f];simp[flat]
    rw[z26 _ _ _ (by omega),sp,if_neg (by simp)]
    simp only[]
    have wd:wdR (mkS (p++(w++flat []))) (p.length+w.length)=(0,(5,mkS [],0,p.length+w.length),p.length+w.length):=by
      unfold wdR;rw[if_pos sz.symm]
    rw[wd,if_neg (by simp),if_pos rfl];rfl
  | x::l,p,w,acc,h,hw,⟨h1,h2,h3,h4⟩=>by
    have hd:=z31 (r:=x.2++flat l) h1
    have e:p++(w++flat (x::l))=(p++w)++(x.1++(x.2++flat l)):=by rw[flat];simp only[List.append_assoc]
    have e2:p++(w++flat (x::l))=(p++(w++x.1))++(x.2++flat l):=by rw[flat];simp only[List.append_assoc]
    have sp:=z83 h hw (by rw[flat];exact hd.1) (by rw[flat];exact hd.2.1)
    have sz:=(rd_mk h).1
    have wd:=z9b (p:=p++w) (a:=x.1) (r:=x.2++flat l) (by rw[←e];exact h) h1 h3
    rw[←e,List.length_append]at wd
    rw[z26 _ _ _ (by omega),sp,if_neg (by simp)]
    simp only[]
    rw[wd,if_neg (by simp),if_neg (z98 h1)]
    simp only[]
    have ih:=z7w l (p++(w++x.1)) x.2 (acc++[((z30 x.1).1,(z30 x.1).2.1,(z30 x.1).2.2,p.length+w.length)]) (by rw[←e2];exact h) h2 h4
    rw[←e2]at ih
    have el:(p++(w++x.1)).length=p.length+w.length+x.1.length:=by simp only[List.length_append];omega
    rw[el]at ih
    rw[ih,List.append_assoc];rfl
def z4t{l:List Pc} (h:∀x∈flat l,x<256) (hp:POK l) (hs:(flat l).length<=3000):lxR (mkS (flat l))=(z08 0 l,0,0):=by
 have sz:=q0f (flat l)
 unfold lxR
 rw[if_neg (by omega)]
 exact z7w l [] [] [] h ⟨[],[],rfl, .inl rfl, .inl rfl⟩ hp
def z17:∀(l:List Pc) (o:Nat),(z08 o l).length=l.length+1
 | [],o=>rfl
 |x::l,o=>by rw[z08,List.length_cons,z17 l,List.length_cons]
def z2n:∀(l:List Pc) (o k:Nat) (h:k<(z08 o l).length),(z08 o l)[k].2.2.2=o+(flat (l.take k)).length/\(∀hk:k<l.length,(z08 o l)[k].1=(z30 l[k].1).1/\(z08 o l)[k].2.1=(z30 l[k].1).2.1/\(z08 o l)[k].2.2.1=(z30 l[k].1).2.2)/\(k=l.length->(z08 o l)[k].1=5/\(z08 o l)[k].2.1=mkS []/\(z08 o l)[k].2.2.1=0)
  | [],o,0,_=>⟨rfl,λh=>absurd h (by simp),λ_=>⟨rfl,rfl,rfl⟩⟩
  | [],o,k+1,h=>absurd h (by simp[z08])
  |x::l,o,0,_=>⟨rfl,λ_=>⟨rfl,rfl,rfl⟩,λh=>by simp at h⟩
  | x::l,o,k+1,h=>by
    have hk':k<(z08 (o+x.1.length+x.2.length) l).length:=by rw[z08]at h;simpa using h
    have:=z2n l (o+x.1.length+x.2.length) k hk'
    refine⟨?_,λhk=>this.2.1 (by simpa using hk),λhk=>this.2.2 (by simpa using hk)⟩
    show((z08 (o+x.1.length+x.2.length) l)[k]'hk').2.2.2=_
    rw[this.1,List.take_succ_cons,flat,List.length_append,List.length_append];omega
section
def nxB:List Pc->Bool
 | []=>true
 |y::_=> !z4q (y.1.headD 0)
def z5t:List Pc->Bool
 | []=>true
 |x::l=>WKb x.1&&((x.2==[])|| (x.2==[32])|| (x.2==[10]))&&(!x.2.isEmpty|| !z6t x.1||nxB l)&&x.1.all (λc=>decide (c<256))&&z5t l
def za6:List Pc->Bool
 | []=>true
 | [x]=> !x.2.isEmpty
 |_::y::l=>za6 (y::l)
def z10(l:List Pc):Bool:=z5t l&&za6 l
def z05:∀{a b:List Pc},z10 a=true->z10 b=true->z10 (a++b)=true
  | [],b,_,h=>h
  | [x],b,h1,h2=>by
    simp only[z10,z5t,za6,Bool.and_eq_true,Bool.or_eq_true,List.cons_append,List.nil_append]at*
    refine⟨⟨⟨⟨h1.1.1.1.1, .inl (.inl h1.2)⟩,h1.1.1.2⟩,h2.1⟩,?_⟩
    cases b with
    |nil=>exact h1.2
    |cons y l=>exact h2.2
  | x::y::l,b,h1,h2=>by
    have ih:=z05 (a:=y::l) (b:=b) (by simp only[z10,z5t,za6,Bool.and_eq_true,Bool.or_eq_true]at*;exact⟨h1.1.2,h1.2⟩) h2
    simp only[z10,z5t,za6,Bool.and_eq_true,Bool.or_eq_true,List.cons_append]at*
    exact⟨⟨h1.1.1,ih.1⟩,ih.2⟩
def z6d:∀t∈kws,z10 [(t,[32])]=true:=by decide+kernel
def z6e:∀n,n<300->n≠0->z10 (z1q (n:Nat) [])=true/\z10 (z1q (n:Nat) [([91],[]),([112,97,99,107,101,100],[32]),([61],[32]),([102,97,108,115,101],[]),([93],[])])=true/\z10 (z1q (n:Nat) [([91],[]),([112,97,99,107,101,100],[32]),([61],[32]),([116,114,117,101],[]),([93],[])])=true:=by decide+kernel
def z92:∀n,n<400->n≠0->z10 [(111::z0i n,[32]),eqP,(z0i n,[]),seP]=true:=by decide+kernel
def z91:∀k∈keys,z10 [([109,97,112],[]),([60],[]),(k,[]),([44],[32])]=true:=by decide+kernel
def zar:∀t∈kws,z10 [(t,[]),([62],[32])]=true:=by decide+kernel
def z2m:z10 [([111,112,116,105,111,110,97,108],[32])]=true/\z10 [([114,101,112,101,97,116,101,100],[32])]=true/\z10 [([111,110,101,111,102],[32]),([99],[32]),([123],[10])]=true/\z10 [([125],[10])]=true:=by decide+kernel
def z82:z10 hdP=true/\z10 miP=true:=by decide+kernel
def zac{i:Int} (h0:0<=i) (h1:i<18):kwL i∈kws:=by
 unfold kwL
 rw[List.getD_eq_getElem?_getD,List.getElem?_eq_getElem (show i.toNat<kws.length by show i.toNat<18;omega)]
 exact List.getElem_mem _
def z8n{i:Int} (h0:0<=i) (h1:i<6):z7u i∈keys:=by
 unfold z7u
 rw[List.getD_eq_getElem?_getD,List.getElem?_eq_getElem (show i.toNat<keys.length by show i.toNat<6;omega)]
 exact List.getElem_mem _
def z3q{num:Int} (h0:0<num) (h1:num<300) (t:List Nat) (i:Int):z10 (z1q num (z3y t i))=true/\z10 (z1q num [])=true:=by
 obtain⟨n,rfl⟩:=Int.eq_ofNat_of_zero_le (show 0<=num by omega)
 have h:=z6e n (by omega) (by omega)
 refine⟨?_,h.1⟩
 unfold z3y
 repeat' split
 ·exact h.1
 ·exact h.2.1
 ·exact h.2.2
 ·exact h.1
variable {t:List Nat}
def zaq(ht:t∈kws) {L:List Int} (hL:z0g L) (n:Int) {num:Int} (h0:0<num) (h1:num<300):z10 (fdP t L n num)=true:=by
 have r6:=z0b (n:=z00 L n) (m:=6) hL (by omega)
 unfold fdP
 split
 ·exact z05 (a:=[_]) z2m.1 (z05 (a:=[_]) (z6d t ht) (z3q h0 h1 [] 0).2)
 split
 ·exact z05 (a:=[_]) z2m.2.1 (z05 (a:=[_]) (z6d t ht) (z3q h0 h1 _ _).1)
 split
 ·exact z05 (a:=[_,_,_,_]) (z91 _ (z8n r6.1 r6.2)) (z05 (a:=[_,_]) (zar t ht) (z3q h0 h1 [] 0).2)
 ·exact z05 (a:=[_]) (z6d t ht) (z3q h0 h1 [] 0).2
def zas(ht:t∈kws) {num:Int} (h0:0<num) (h1:num<300):z10 (qk6 t num)=true:=by
 obtain⟨n,rfl⟩:=Int.eq_ofNat_of_zero_le (show 0<=num by omega)
 unfold qk6
 rw[show((n:Int)+100).toNat=n+100 by omega]
 exact z05 (a:=[_]) (z6d t ht) (z92 (n+100) (by omega) (by omega))
def z2z{L:List Int} (hL:z0g L):∀(f:Nat) (i n:Int) (s o:List Pc),0<=i->i+f<=10->z10 s=true->z10 o=true->z10 (bdF L f i n s o).1=true/\z10 (bdF L f i n s o).2.1=true
  |0,i,n,s,o,_,_,hs,ho=>by rw[bdF];exact⟨hs,ho⟩
  | f +1,i,n,s,o,h0,h1,hs,ho=>by
    have b:=z3e hL (n:=n) h0 (by omega)
    have b1:0<z0p L n i:=by
      have r:=z0b (n:=n) (m:=2) hL (by omega)
      unfold z0p
      have:z01 L n 2=0\/z01 L n 2=1:=by omega
      rcases this with h|h<;>rw[h]<;>omega
    have r:=z0b (n:=z00 L (z00 L n)) (m:=18) hL (by omega)
    have t:=zac r.1 r.2
    rw[bdF]
    split
    · exact z2z hL f _ _ _ _ (by omega) (by omega) hs (z05 ho (zas t b1 (by omega)))
    · exact z2z hL f _ _ _ _ (by omega) (by omega) (z05 hs (zaq t hL _ b1 (by omega))) ho
variable {L:List Int}
def z81(hL:z0g L) (n:Int) {m:Int} (h0:0<=m) (h1:m<9):z10 (bdP L n m)=true:=by
 have r:=z0b (n:=n) (m:=m+1) hL (by omega)
 have s:=z2z hL (z01 L n (m+1)).toNat 0 (z00 L n) [] [] (by omega) (by omega) rfl rfl
 unfold bdP bdS bdJ
 split
 ·exact s.1
 ·exact z05 s.1 (z05 (a:=[([111,110,101,111,102],[32]),([99],[32]),([123],[10])]) z2m.2.2.1 (z05 s.2 z2m.2.2.2))
def zat(hL:z0g L) (n:Int):z10 (z04 L n)=true:=z05 z82.1 (z05 (z81 hL n (by omega) (by omega)) (z05 z82.2 (z05 (z81 hL _ (by omega) (by omega)) z2m.2.2.2)))
def z2v(M:List Int) (i:Nat):z3f M i=[]\/z3f M i∈z5x:=by
 unfold z3f zcr
 split
 ·exact .inl rfl
 ·rw[List.getD_eq_getElem?_getD]
  cases h:z5x[(Int.tmod (M.getD (i % M.length) 0) 7).toNat]? with
  |none=>exact .inl rfl
  |some c=>exact .inr (List.mem_of_getElem? h)
def z1z:∀c∈z5x,z4q (c.headD 0)=false/\c≠[]/\c.length<=10/\∀x∈c,x<256:=by decide
def z7t{a b:List Nat} (h:a≠[]):(a++b).headD 0=a.headD 0:=by
 cases a with
 |nil=>exact absurd rfl h
 |cons c q=>rfl
def z4z:∀(l:List Pc) (M:List Int) (i:Nat),z5t l=true->POK (z0m M i l)/\(∀x∈flat (z0m M i l),x<256)/\(nxB l=true->z4q ((flat (z0m M i l)).headD 0)=false)
  | [],M,i,_=>⟨trivial,λx h=>by simp[z0m,flat]at h,λ_=>rfl⟩
  | x ::l,M,i,h=>by
    simp only[z5t,Bool.and_eq_true,Bool.or_eq_true,beq_iff_eq,List.all_eq_true,decide_eq_true_eq,Bool.not_eq_true']at h
    obtain⟨⟨⟨⟨h1,h2⟩,h3⟩,h4⟩,h5⟩:=h
    have ih:=z4z l M (i+1) h5
    have b:=z2v M i
    have hne:=(z31 (r:=[]) h1).2.2
    rw[z0m]
    refine⟨⟨h1,⟨x.2,z3f M i,rfl,?_,b⟩,λhw=> ?_,ih.1⟩,λy hy=> ?_,λhn=> ?_⟩
    · rcases h2 with(h|h)|h
      · exact .inl h
      · rw[h];exact .inr (by decide)
      · rw[h];exact .inr (by decide)
    · simp only[List.append_assoc]
      rcases h2 with(h|h)|h
      · rw[h,List.nil_append]
        rcases b with hb|hb
        · rw[hb,List.nil_append]
          rcases h3 with(h3|h3)|h3
          · rw[h]at h3;cases h3
          · rw[hw]at h3;cases h3
          · exact ih.2.2 h3
        · have:=z1z _ hb
          rw[z7t this.2.1];exact this.1
      · rw[h];rfl
      · rw[h];rfl
    · rw[flat]at hy
      simp only[List.mem_append]at hy
      rcases hy with hy| (hy|hy)|hy
      · exact h4 y hy
      · rcases h2 with(h|h)|h<;>rw[h]at hy<;>simp at hy<;>omega
      · rcases b with hb|hb
        · rw[hb]at hy;cases hy
        · exact(z1z _ hb).2.2.2 y hy
      · exact ih.2.1 y hy
    · rw[flat,z7t hne]
      simpa[nxB]using hn
def ext_nil:∀(l:List Pc) (i:Nat),z0m [] i l=l
  | [],i=>rfl
  | x::l,i=>by
    rw[z0m,ext_nil l,show z3f [] i=[]from rfl,List.append_nil]
def z4l:∀(l:List Pc) (M:List Int) (i:Nat),(z0m M i l).length=l.length
 | [],M,i=>rfl
 |x::l,M,i=>by rw[z0m,List.length_cons,List.length_cons,z4l l]
def q07:∀(l:List Pc) (M:List Int) (i k:Nat) (h:k<l.length) (h2:k<(z0m M i l).length),(z0m M i l)[k]=(l[k].1,l[k].2++z3f M (i+k))
  |x::l,M,i,0,_,_=>rfl
  | x::l,M,i,k+1,h,h2=>by
    have hk':k<(z0m M (i+1) l).length:=by rw[z0m]at h2;simpa using h2
    have:=q07 l M (i+1) k (by simpa using h) hk'
    show(z0m M (i+1) l)[k]'hk'=_
    rw[this,show i+1+k=i+(k+1)by omega];rfl
def z19:∀(l:List Pc) (M:List Int) (i:Nat),(flat (z0m M i l)).length<=(flat l).length+10*l.length
  | [],M,i=>by simp[z0m,flat]
  | x ::l,M,i=>by
    have ih:=z19 l M (i+1)
    have b:(z3f M i).length<=10:=by
      rcases z2v M i with h|h
      · rw[h];simp
      · exact(z1z _ h).2.2.1
    rw[z0m,flat,flat]
    simp only[List.length_append,List.length_cons];omega
def z50:∀(l:List Pc),z5t l=true->l.length<=(flat l).length
  | [],_=>by simp[flat]
  | x::l,h=>by
    simp only[z5t,Bool.and_eq_true]at h
    have ih:=z50 l h.2
    have:=List.length_pos_iff.2 (z31 (r:=[]) h.1.1.1.1).2.2
    rw[flat]
    simp only[List.length_append,List.length_cons];omega
def z1r{α:Type} (l:List α) (k:Nat) (h:k<l.length):l.take (k+1)=l.take k++[l[k]]:=by
 rw[List.take_add_one,List.getElem?_eq_getElem h];rfl
def z64(l:List Pc) (k:Nat) (h:k<l.length):(mkS (flat l)).extract (flat (l.take k)).length (flat (l.take (k+1))).length=mkS (l[k].1++l[k].2):=by
 have e:flat l=flat (l.take k)++((l[k].1++l[k].2)++flat (l.drop (k+1))):=by
  conv=>lhs;rw[←List.take_append_drop k l,z03,List.drop_eq_getElem_cons h,flat]
  simp only[List.append_assoc]
 have e2:(flat (l.take (k+1))).length=(flat (l.take k)).length+(l[k].1++l[k].2).length:=by
  rw[z1r l k h,z03,List.length_append]
  simp[flat]
 rw[e2,e]
 exact z7r _ _ _
end
def zb1(x:Tk):(tkV x)[0]? =some (.int .i64 (x.1:Nat)):=rfl
def zb2(x:Tk):(tkV x)[1]? =some (.string x.2.1):=rfl
def zb3(x:Tk):(tkV x)[2]? =some (.int .u64 (x.2.2.1:Nat)):=rfl
def z11(l:List Pc) (k:Nat):(flat (l.take k)).length<=(flat l).length:=by
 conv=>rhs;rw[←List.take_append_drop k l,z03,List.length_append]
 omega
def zdn :q7a P 8 cWS:=by
 refine qk0 mixed (qda (qgx z5w (qgx z8v (qgx zdk (qgx z7v qjn))))) (W:=wWS) Try.func8 (by kernel_rfl) (by decide) (by decide) (λs=>by kernel_rfl) λ⟨(x:SV),(L:List Int),(y:SV),(M:List Int)⟩=>(zdm x L y M).mpr ?_
 rintro⟨h1,h2,h3,h4⟩ ⟨p,_,hp,hq,hg⟩
 have hx:x.2.1=L.length:=hp.1
 have hy:y.2.1=M.length:=hq.1
 simp only[sbS,Int.toNat_natCast,exists_const,hx,hy]
 refine⟨λp h=>h.2.2,λ_ h100 h30=> ?_⟩
 have hL:z0g L:=⟨by omega,h2⟩
 have tl:=zb8 hL 0
 have hz:(mkS (flat (z04 L 0))).size=(flat (z04 L 0)).length:=q0f _
 have hseg:z5t (z04 L 0)=true:=by
  have:=zat hL 0
  unfold z10 at this
  simp only[Bool.and_eq_true]at this
  exact this.1
 have oke:=z4z (z04 L 0) [] 0 hseg
 rw[ext_nil]at oke
 have lx:=z4t oke.2.1 oke.1 (by omega)
 have okm:=z4z (z04 L 0) M 0 hseg
 have el:=z4l (z04 L 0) M 0
 have fl:=z19 (z04 L 0) M 0
 have ol:=z50 _ hseg
 have tn:=z17 (z04 L 0) 0
 refine⟨(x.1,L.length,x.2.2),rfl,rfl,rfl,L,⟨by decide,by omega,hL⟩,λp h=>⟨rfl,?xa⟩,by omega,λp h=>h.2.2,λ_ _ a n c hq=> ?_⟩
 case xa=>have e:=h.1.2;rw[hx]at e;exact e
 rw[lx]at hq⊢
 obtain⟨p,hp,hn,hs⟩:=hq
 simp only at hn hs
 rw[tn]at hn
 subst hn
 simp only[sbS,Int.toNat_natCast,exists_const]
 refine⟨λh=>absurd rfl h,λ_=>⟨λh=>absurd h (by omega),λ_=>⟨⟨0,rfl,Nat.zero_le _,rfl⟩,?_⟩⟩⟩
 rintro⟨_,i⟩ ⟨k,rfl,hk,rfl⟩
 have tkl:((flat ((z0m M 0 (z04 L 0)).take k)).length:Int)<=(flat (z0m M 0 (z04 L 0))).length:=by
  have:=z11 (z0m M 0 (z04 L 0)) k
  omega
 have hzt:(mkS (flat ((z0m M 0 (z04 L 0)).take k))).size=(flat ((z0m M 0 (z04 L 0)).take k)).length:=q0f _
 have ane:a≠noA:=(z0j hs (i:=0) (by omega)).1
 dsimp only
 refine⟨by omega,λhlt=> ?_,λhge=> ?_⟩
 ·have hk2:k<(z04 L 0).length:=by omega
  have a0:=(z2n (z04 L 0) 0 k (by omega)).1
  have a1:=(z2n (z04 L 0) 0 (k+1) (by omega)).1
  rw[Nat.zero_add]at a0 a1
  have A1:(flat ((z04 L 0).take (k+1))).length=(flat ((z04 L 0).take k)).length+((z04 L 0)[k].1++(z04 L 0)[k].2).length:=by
   rw[z1r _ k hk2,z03,List.length_append]
   simp[flat]
  have A2:=z11 (z04 L 0) (k+1)
  have c0:∀q c,qh1 q a ((z04 L 0).length+1) c (z1w (z08 0 (z04 L 0)))->q39 q ((adr a (k*4)).add 3) [.int .i64 ((flat ((z04 L 0).take k)).length:Nat)]:=λq c h=>z09 h (i:=k) (by omega) 3 (by show some (Value.int .i64 ((z08 0 (z04 L 0))[k].2.2.2:Nat))=_;rw[a0])
  have c1:∀q c,qh1 q a ((z04 L 0).length+1) c (z1w (z08 0 (z04 L 0)))->q39 q ((adr a ((k+1)*4)).add 3) [.int .i64 ((flat ((z04 L 0).take (k+1))).length:Nat)]:=λq c h=>z09 h (i:=k+1) (by omega) 3 (by show some (Value.int .i64 ((z08 0 (z04 L 0))[k+1].2.2.2:Nat))=_;rw[a1])
  have cut:=z64 (z04 L 0) k hk2
  have snoc:flat ((z0m M 0 (z04 L 0)).take (k+1))=flat ((z0m M 0 (z04 L 0)).take k)++((z04 L 0)[k].1++((z04 L 0)[k].2++z3f M k)):=by
   rw[z1r _ k (by omega),z03,q07 (z04 L 0) M 0 k hk2 (by omega),Nat.zero_add]
   simp[flat]
  simp only[Int.toNat_natCast,tn1]
  refine⟨⟨by omega,by omega⟩,ane,_,λq h=>c0 q c h.2.2,λh=>absurd h (by omega),λ_=>⟨⟨by omega,by omega⟩,ane,_,λq h=>c0 q c h.2.2,by omega,⟨by omega,by omega⟩,ane,_,λq h=>c1 q c h.2.2,λh=>absurd h (by omega),λ_=>⟨λh=>absurd h (by omega),λ_=>⟨by omega,⟨by omega,by omega⟩,ane,_,λq h=>c1 q c h.2.2,λh=>absurd h (by omega),λ_=>⟨λh=>absurd h (by omega),λ_=>⟨⟨by omega,by omega⟩,ane,_,λq h=>c0 q c h.2.2,by omega,⟨by omega,by omega⟩,ane,_,λq h=>c1 q c h.2.2,⟨by omega,by omega,by omega⟩,?_⟩⟩⟩⟩⟩⟩
  simp only[Int.toNat_natCast,cut,q9l,q0f,List.length_append]
  rw[List.length_append]at A1
  refine⟨by omega,λhM=> ?_,λhM=>⟨by omega,⟨k+1,by omega,by omega,?_⟩,by omega⟩⟩
  ·have em:Int.tmod (k:Int) (M.length:Int)=((k % M.length:Nat):Int):=rfl
   have hm:k % M.length<M.length:=Nat.mod_lt _ (by omega)
   have hb:=h4 M[k % M.length] (List.getElem_mem hm)
   have hr:Int.tmod M[k % M.length] 7=M[k % M.length] % 7:=Int.tmod_eq_emod_of_nonneg hb.1
   have bl:z3f M k=zcr (Int.tmod M[k % M.length] 7):=by
    unfold z3f
    rw[if_neg (by rintro rfl;simp at hM),List.getD_eq_getElem?_getD,List.getElem?_eq_getElem hm];rfl
   have l10:(z3f M k).length<=10:=by
    rcases z2v M k with h|h
    ·rw[h];simp
    ·exact(z1z _ h).2.2.1
   rw[em]
   simp only[Int.toNat_natCast]
   refine⟨by omega,⟨by omega,by omega⟩,(z5y hp.2.1 hm).1,M[k % M.length],λq h=>(z5y h.1.2.1 hm).2,by decide,⟨by omega,by omega⟩,mkS (zcr (Int.tmod M[k % M.length] 7)),z3n z5x ⟨by omega,by show _<(7:Int);omega⟩,?_,by omega,⟨k+1,by omega,by omega,?_⟩,by omega⟩
   ·rw[←bl,q0f];omega
   ·rw[←bl,q9l,snoc]
    simp only[List.append_assoc]
  ·rw[snoc,show z3f M k=[]from by unfold z3f;rw[if_pos (List.eq_nil_of_length_eq_zero (by omega))],List.append_nil]
 ·have hk3:k=(z04 L 0).length:=by omega
  have etk:(z0m M 0 (z04 L 0)).take k=z0m M 0 (z04 L 0):=List.take_of_length_le (by omega)
  rw[etk]
  have hze:(mkS (flat (z0m M 0 (z04 L 0)))).size=(flat (z0m M 0 (z04 L 0))).length:=q0f _
  refine⟨by omega,λq h=>h.1.2.2,λ_ _ a7 n1 c1 hr=>⟨λh3=> ?_,λh3=> ?_⟩⟩
  ·have e:lxR (mkS (flat (z0m M 0 (z04 L 0))))=([],3,0):=by unfold lxR;rw[if_pos (by omega)]
   rw[e];rfl
  ·have lt:=z4t okm.2.1 okm.1 (by omega)
   rw[lt]at hr⊢
   obtain⟨q,hq0,hn1,hs1⟩:=hr
   simp only at hn1 hs1
   have tm:=z17 (z0m M 0 (z04 L 0)) 0
   rw[tm,el]at hn1
   subst hn1
   simp only[sbS,Int.toNat_natCast,exists_const]
   refine⟨λh=>absurd rfl h,λ_=>⟨λh=>absurd trivial h,λ_=>⟨⟨0,rfl,Nat.zero_le _⟩,?_⟩⟩⟩
   rintro _ ⟨j,rfl,hj⟩ hjn
   have hj1:j<(z08 0 (z04 L 0)).length:=by omega
   have hj2:j<(z08 0 (z0m M 0 (z04 L 0))).length:=by omega
   have same:((z08 0 (z0m M 0 (z04 L 0)))[j]'hj2).1=((z08 0 (z04 L 0))[j]'hj1).1/\((z08 0 (z0m M 0 (z04 L 0)))[j]'hj2).2.1=((z08 0 (z04 L 0))[j]'hj1).2.1/\((z08 0 (z0m M 0 (z04 L 0)))[j]'hj2).2.2.1=((z08 0 (z04 L 0))[j]'hj1).2.2.1:=by
    have t1:=(z2n (z04 L 0) 0 j hj1).2
    have t2:=(z2n (z0m M 0 (z04 L 0)) 0 j hj2).2
    by_cases h:j<(z04 L 0).length
    ·have e1:=t1.1 h
     have e2:=t2.1 (by omega)
     rw[q07 (z04 L 0) M 0 j h (by omega)]at e2
     exact⟨e2.1.trans e1.1.symm,e2.2.1.trans e1.2.1.symm,e2.2.2.trans e1.2.2.symm⟩
    ·have e1:=t1.2 (by omega)
     have e2:=t2.2 (by omega)
     exact⟨e2.1.trans e1.1.symm,e2.2.1.trans e1.2.1.symm,e2.2.2.trans e1.2.2.symm⟩
   have bne:a7≠noA:=(z0j hs1 (i:=0) (by omega)).1
   simp only[Int.toNat_natCast,tn1]
   refine⟨⟨by omega,by omega⟩,bne,(((z08 0 (z04 L 0))[j]'hj1).1:Nat),λq h=>z09 h.2.2 (i:=j) hj2 0 (by rw[←same.1];exact zb1 _),⟨by omega,by omega⟩,ane,(((z08 0 (z04 L 0))[j]'hj1).1:Nat),λq h=>z09 h.1.2.2 (i:=j) hj1 0 (zb1 _),λh=>absurd rfl h,λ_=>⟨⟨by omega,by omega⟩,bne,((z08 0 (z04 L 0))[j]'hj1).2.1,λq h=>z09 h.2.2 (i:=j) hj2 1 (by rw[←same.2.1];exact zb2 _),⟨by omega,by omega⟩,ane,((z08 0 (z04 L 0))[j]'hj1).2.1,λq h=>z09 h.1.2.2 (i:=j) hj1 1 (zb2 _),λh=>absurd rfl h,λ_=>⟨λh=>absurd rfl h,λ_=>⟨⟨by omega,by omega⟩,bne,(((z08 0 (z04 L 0))[j]'hj1).2.2.1:Nat),λq h=>z09 h.2.2 (i:=j) hj2 2 (by rw[←same.2.2];exact zb3 _),⟨by omega,by omega⟩,ane,(((z08 0 (z04 L 0))[j]'hj1).2.2.1:Nat),λq h=>z09 h.1.2.2 (i:=j) hj1 2 (zb3 _),λh=>absurd rfl h,λ_=>⟨λh=>absurd rfl h,λ_=>⟨by omega,⟨j+1,by omega,by omega⟩,by omega⟩⟩⟩⟩⟩⟩
def ws_law_wf(a0:Option Addr) (len0 cap0:Nat) (z0:List Int) (a1:Option Addr) (len1 cap1:Nat) (z1:List Int) (w:World) (w0:z8f w a0 len0 cap0 z0) (w1:z8f w a1 len1 cap1 z1) (hl:Laid w):Calls P 8 #[.slice a0 len0 cap0, .slice a1 len1 cap1] w λe w'=>e= .returned (.bool true)/\Below w.heap.size w w':=by
 obtain⟨L,hx,hL⟩:=z80 w0
 obtain⟨M,hy,hM⟩:=z80 w1
 exact zae zdn ⟨(a0,len0,cap0),L,(a1,len1,cap1),M⟩ [.slice a0 len0 cap0, .slice a1 len1 cap1] rfl rfl (.bool true) rfl w ⟨hL.1,hL.2,hM.1,hM.2⟩ ⟨hx,hy,zda hl⟩
end
end Go.Proofs.Ytjjambbdkbpdgaa.Wd
