/-
  What the functions do: contracts, and their questions answered. No condition but what its theorems ask.
-/
import Derived.Test.YtniogjgfomaicaaU6
import Derived.Test.YtniogjgfomaicaaProg
import Derived.Test.YtniogjgfomaicaaRv
import Derived.Laws.BitsAllLaws
namespace Go.Proofs.Ytniogjgfomaicaa.Wd
open Go.Proofs.Ytniogjgfomaicaa.Eng Go.Proofs.Ytniogjgfomaicaa.Sen Go.RowKit
set_option linter.defProp false
set_option linter.unusedVariables false
set_option linter.unusedSimpArgs false
set_option maxRecDepth 1000000
open Go.Value (int string slice bool)
open Go.IntKind (i64 u64 u8 u32 i32)
open _root_.List (length take drop)
open _root_.ByteArray (size)
open _root_.Int (toNat)
noncomputable section
abbrev P:=Try.prog
def mixed:P.follows .mixedOrders=true:=by decide+kernel
theorem aok{calls:Nat->Option Ct} (hc:∀g C,calls g=some C->q5k P g C) {f:Nat} {fn:Func} {C:Ct} {W:C.σ->WayF} (hfn:P.funcs[f]? =some fn) (hv:∀s,qm2 P calls fn C W s) (hb:q2l P f fn=true:=by kernel_rfl) (h1:1<=C.m:=by exact Nat.le_of_ble_eq_true rfl) (hle:C.m<=C.m':=by exact Nat.le_of_ble_eq_true rfl) (hn:∀s,Nat.ble (C.args s).length fn.ntmps=true:=by exactλ_=>by kernel_rfl):q5k P f C:=qm5 mixed hc hfn hb h1 hle hn hv
theorem aokX{calls:Nat->Option Ct} (hc:∀g C,calls g=some C->q5k P g C) {rel:Nat->Option CtR} (hrel:∀g C,rel g=some C->q22 P g C) {f:Nat} {fn:Func} {C:Ct} {W:C.σ->WayF} (hfn:P.funcs[f]? =some fn) (hv:∀s,qm4 P calls rel fn C W s) (hb:q2l P f fn=true:=by kernel_rfl) (h1:1<=C.m:=by exact Nat.le_of_ble_eq_true rfl) (hle:C.m<=C.m':=by exact Nat.le_of_ble_eq_true rfl) (hn:∀s,Nat.ble (C.args s).length fn.ntmps=true:=by exactλ_=>by kernel_rfl):q5k P f C:=qlc mixed hc hrel hfn hb h1 hle hn hv
theorem aokR{calls:Nat->Option Ct} (hc:∀g C,calls g=some C->q5k P g C) {rel:Nat->Option CtR} (hrel:∀g C,rel g=some C->q22 P g C) {f:Nat} {fn:Func} {C:CtR} {W:C.σ->WayF} (hfn:P.funcs[f]? =some fn) (hv:∀s,qm3 P calls rel fn C W s) (hb:q2l P f fn=true:=by kernel_rfl) (h1:1<=C.m:=by exact Nat.le_of_ble_eq_true rfl) (hle:C.m<=C.m':=by exact Nat.le_of_ble_eq_true rfl) (hn:∀s,Nat.ble (C.args s).length fn.ntmps=true:=by exactλ_=>by kernel_rfl):q22 P f C:=qlb mixed hc hrel hfn hb h1 hle hn hv
theorem sbS:(∀(p:Prop) [Decidable p],(decide p=true)=p)/\(∀(p:Prop) [Decidable p],(decide p=false)=¬p)/\(∀b:Bool,((!b)=true)=(b=false))/\(∀b:Bool,((!b)=false)=(b=true))/\(∀p,(True/\p)=p)/\(∀p,(p/\True)=p)/\(∀(α:Type) (a:α),(a=a)=True)/\(∀p:Prop,(p->p)=True)/\(∀α:Type,(α->True)=True)/\(∀p:Prop,(p->True)=True):=⟨λ_ _=>by simp,λ_ _=>by simp,by simp,by simp,by simp,by simp,by simp,by simp,by simp,by simp⟩
abbrev Jb(a:Int):Prop:=(-9223372036854775808:Int)<=a/\a<=9223372036854775807
abbrev Jt(p:Prop) [Decidable p]:Prop:=decide p=true
abbrev Jf(p:Prop) [Decidable p]:Prop:=decide p=false
abbrev Ji(p:Prop) [Decidable p] (a b:Prop):Prop:=(Jt p->a)/\(Jf p->b)
def z0p:∀g C,(λ_=>none:Nat->Option Ct) g=some C->q5k P g C:=λg C h=>by cases h
def slI(t:T AV) (k:Nat):Option Int:=match t.get k with
  | some a=>match gi a with
    |some (_,i)=>some i
    |none=>none
  |none=>none
def zba:Pl noA:=trivial
def z00{α:Type} (f:α->List Value):List α->List Value
 | []=>[]
 |x::l=>f x++z00 f l
def z01{α:Type} {f:α->List Value} {e:Nat} (hf:∀x,(f x).length=e):∀l,(z00 f l).length=l.length*e
  | []=>by simp[z00]
  | x::l=>by
    rw[z00,List.length_append,hf,z01 hf l,List.length_cons,Nat.succ_mul];omega
def z05{α:Type} {f:α->List Value}:∀l m,z00 f (l++m)=z00 f l++z00 f m
  | [],m=>rfl
  | x::l,m=>by
    show f x++z00 f (l++m)=_
    rw[z05 l m,←List.append_assoc];rfl
def z1t{α:Type} {f:α->List Value} {e:Nat} (hf:∀x,(f x).length=e):∀(l:List α) (i:Nat) (hi:i<l.length) (j:Nat),j<e->(z00 f l)[i*e+j]? =(f l[i])[j]?
  | x::l,0,_,j,hj=>by
    show(f x++z00 f l)[0*e+j]? =_
    rw[Nat.zero_mul,Nat.zero_add,List.getElem?_append_left (by rw[hf];exact hj)];rfl
  | x::l,i+1,hi,j,hj=>by
    show(f x++z00 f l)[(i+1)*e+j]? =_
    have:(i+1)*e=i*e+e:=Nat.succ_mul i e
    rw[List.getElem?_append_right (by rw[hf];omega),show(i+1)*e+j- (f x).length=i*e+j by rw[hf];omega]
    exact z1t hf l i (by simpa using hi) j hj
def jdn(x:Addr) (h:x.spot=none) (i j:Nat):(x.add i).add j=x.add (i+j):=by
 obtain⟨b,o,s⟩:=x
 simp only at h
 subst h
 unfold Addr.add
 by_cases hi:i=0
 ·subst hi;simp
 ·by_cases hj:j=0
  ·subst hj;simp[hi]
  ·rw[if_neg hi,if_neg hj,if_neg (by omega)]
   simp only[Nat.add_assoc]
def zah{α:Type} {f:α->List Value} {e:Nat} (hf:∀x,(f x).length=e) (he:0<e) {p:Pub} {a:Option Addr} {n c:Nat} {l:List α} (h:qil p a n c (z00 f l)) {i:Nat} (hi:i<l.length):a≠noA/\q3p p (adr a (i*e)) (f l[i]):=by
 rcases h.2 with h|⟨x,rfl,h1,h2⟩
 ·have:=congrArg List.length h.1
  rw[z01 hf,List.length_nil]at this
  have:=Nat.mul_pos (show 0<l.length by omega) he
  omega
 ·refine⟨by simp,λj v hj=> ?_⟩
  have hje:j<e:=by have:=(List.getElem?_eq_some_iff.mp hj).1;rw[hf]at this;exact this
  show q6r p ((x.add (i*e)).add j)=some v
  rw[jdn x h1]
  exact h2 _ v (by rw[z1t hf l i hi j hje];exact hj)
open Go.Proofs.Ytniogjgfomaicaa.Rv
def unz(r:Nat):Int:=if r % 2=0 then(r / 2:Nat)else -((r / 2:Nat):Int)- 1
def zbp:Ct where
 σ:=ByteArray
 args:=λs=>[.sv (.string s)]
 h:=λ_=>[]
 m:=1
 pre:=λs=>s.size<1000000
 find:=some λl _=>match l with
  | [a]=>gs a
  |_=>none
 r:=λs=> .tup [.sv (.int .u64 (vval s.data.toList:Nat)), .sv (.int .i64 (vlen s.data.toList:Nat)), .sv (.int .i64 (verr s.data.toList:Nat))]
 h':=λ_=>[]
 m':=1
 g:=λ_=>none
def zbo:Ct where
 σ:=Nat
 args:=λr=>[.sv (.int .u64 (r:Nat))]
 h:=λ_=>[]
 m:=1
 pre:=λr=>r<18446744073709551616
 r:=λr=> .sv (.int .u64 ((unz r) % 18446744073709551616))
 h':=λ_=>[]
 m':=1
 g:=λ_=>none
def zbk:Ct where
 σ:=Nat
 args:=λr=>[.int .i64 8, .sv (.int .u64 (r:Nat))]
 h:=λ_=>[]
 m:=1
 pre:=λr=>r<18446744073709551616
 r:=λr=> .sv (.int .u64 ((unz r) % 18446744073709551616))
 h':=λ_=>[]
 m':=1
 g:=λ_=>none
def dcd(x:SV) (s:ByteArray) (i c:Int):List (Nat×AO):=[(1, .cells 58 (some 0) false [.sv (.slice x.1 x.2.1 x.2.2), .sv (.string s), .sv (.int .i64 i), .sv (.int .i64 c)])]
def lgR(s:ByteArray) (i:Nat):Int×Nat×Nat:=(unz (vval (s.data.toList.drop i)),verr (s.data.toList.drop i),i+vlen (s.data.toList.drop i))
def j1a(h:T AO) (id:Nat):Option (SV×ByteArray×Int×Int):=match h.get id with
  | some (.cells _ _ _ [.sv (.slice a n c),s,i,k])=>match gs s with
    | some s=>match gi i with
      | some (_,i)=>match gi k with
        |some (_,k)=>some ((a,n,c),s,i,k)
        |none=>none
      |none=>none
    |none=>none
  |_=>none
abbrev DcS:=SV×ByteArray×Int×Int
def z8j(l:List AV) (h:T AO):Option DcS:=match l with
 | .ptr id _::_=>j1a h id
 |_=>none
def z0h:DcS->Prop:=λ⟨x,s,i,c⟩=>0<=i/\i<=s.size/\s.size<100000
def z9v:Ct where
 σ:=DcS
 args:=λ⟨x,s,i,c⟩=>[.ptr 1 0]
 h:=λ⟨x,s,i,c⟩=>dcd x s i c
 m:=2
 pre:=z0h
 find:=some z8j
 r:=λ⟨x,s,i,c⟩=> .tup [.sv (.int .i64 (lgR s i.toNat).1), .sv (.int .i64 ((lgR s i.toNat).2.1:Nat))]
 h':=λ⟨x,s,i,c⟩=>dcd x s ((lgR s i.toNat).2.2:Nat) c
 m':=2
 g:=λ_=>none
def hdR(s:ByteArray) (i:Nat):Int×Int×Int×Nat:=
 if(lgR s i).2.1≠0\/0<=(lgR s i).1 then((lgR s i).1, -1,((lgR s i).2.1:Nat),(lgR s i).2.2)else
 if(lgR s i).1= -9223372036854775808 then(0,0,2,(lgR s i).2.2)else
 if(lgR s (lgR s i).2.2).2.1≠0 then(0,0,((lgR s (lgR s i).2.2).2.1:Nat),(lgR s (lgR s i).2.2).2.2)else
 if(lgR s (lgR s i).2.2).1<0 then(0,0,2,(lgR s (lgR s i).2.2).2.2)else
 (-(lgR s i).1,(((lgR s (lgR s i).2.2).2.2:Nat):Int)+(if(9223372036854775807:Int)- (((lgR s (lgR s i).2.2).2.2:Nat):Int)<(lgR s (lgR s i).2.2).1 then(9223372036854775807:Int)- (((lgR s (lgR s i).2.2).2.2:Nat):Int)else(lgR s (lgR s i).2.2).1),0,(lgR s (lgR s i).2.2).2.2)
def zme:Ct where
 σ:=DcS
 args:=λ⟨x,s,i,c⟩=>[.ptr 1 0]
 h:=λ⟨x,s,i,c⟩=>dcd x s i c
 m:=2
 pre:=z0h
 find:=some z8j
 r:=λ⟨x,s,i,c⟩=> .tup [.sv (.int .i64 (hdR s i.toNat).1), .sv (.int .i64 (hdR s i.toNat).2.1), .sv (.int .i64 (hdR s i.toNat).2.2.1)]
 h':=λ⟨x,s,i,c⟩=>dcd x s ((hdR s i.toNat).2.2.2:Nat) c
 m':=2
 g:=λ_=>none
def chE(s:ByteArray) (i:Nat) (o:Int):Nat:=if(lgR s i).2.1=0/\((lgR s i).1<0\/o<=(lgR s i).1)then 2 else(lgR s i).2.1
def z4u:Ct where
 σ:=Int×DcS
 args:=λ⟨o,x,s,i,c⟩=>[.ptr 1 0, .sv (.int .i64 o)]
 h:=λ⟨o,x,s,i,c⟩=>dcd x s i c
 m:=2
 pre:=λ⟨o,d⟩=>z0h d
 r:=λ⟨o,x,s,i,c⟩=> .tup [.sv (.int .i64 (lgR s i.toNat).1), .sv (.int .i64 (chE s i.toNat o:Nat))]
 h':=λ⟨o,x,s,i,c⟩=>dcd x s ((lgR s i.toNat).2.2:Nat) c
 m':=2
 g:=λ_=>none
def zi5(r:Nat):qm2 P (λ_=>none) Try.f80 zbo (λ_=>{}) r=(r<(18446744073709551616:Nat)->(0:Int)<=(1:Int)/\unz r % (18446744073709551616:Int)=qbu BinOp.xor IntKind.u64 (shP BinOp.shr IntKind.u64 (↑r:Int) (1:Int)) (IntKind.wrap IntKind.u64 ((0:Int)- qbu BinOp.and IntKind.u64 (↑r:Int) (1:Int)))/\True):=by kernel_rfl
def zgj(r:Nat):qm2 P (qh2 [(80,zbo)]) Try.f67 zbk (λ_=>{}) r=(r<(18446744073709551616:Nat)->∃(s:Nat),(↑s:Int)=(↑r:Int)/\s<(18446744073709551616:Nat)/\unz r % (18446744073709551616:Int)=unz s % (18446744073709551616:Int)/\True):=by kernel_rfl
section
variable (x0:Int) (x1:ByteArray) (x2:SV) (x3:Int)
 abbrev j0c:=Array.toList (ByteArray.data (ByteArray.extract x1 (toNat x0) (size x1)))
 abbrev j1z:=(↑(Proofs.Ytniogjgfomaicaa.Rv.vlen (j0c x0 x1)):Int)
 def j40:=(0<=x0/\x0<=(↑(size x1):Int))/\ByteArray.extract x1 (toNat x0) (size x1)=ByteArray.extract x1 (toNat x0) (size x1)/\size (ByteArray.extract x1 (toNat x0) (size x1))<1000000/\Jb (x0+(j1z x0 x1))/\∃(i0:Nat),(↑i0:Int)=(↑(Proofs.Ytniogjgfomaicaa.Rv.vval (j0c x0 x1)):Int)/\i0<18446744073709551616/\(lgR x1 (toNat x0)).1=IntKind.wrap i64 (unz i0 % 18446744073709551616)/\(↑(lgR x1 (toNat x0)).2.1:Int)=(↑(Proofs.Ytniogjgfomaicaa.Rv.verr (j0c x0 x1)):Int)/\x2.1=x2.1/\x2.2.1=x2.2.1/\x2.2.2=x2.2.2/\x1=x1/\(↑(lgR x1 (toNat x0)).2.2:Int)=x0+(j1z x0 x1)/\x3=x3/\True
end
def zh2(x:SV) (s:ByteArray) (i c:Int):qm2 P (qh2 [(66,zbp),(67,zbk)]) Try.f43 z9v (λ_=>{}) ⟨x,s,i,c⟩=(z0h (x,s,i,c)->j40 i s x c):=by kernel_rfl
def zn5:=λx s i c=>Eq.trans (zh2 x s i c) (by delta Jb j0c j1z j40;exact rfl)
section
variable (x0:SV) (x1:ByteArray) (x2 x3:Int) (x4:Prop) (x5:Int)
 abbrev zoi:=x0.1=x0.1/\x0.2.1=x0.2.1/\x0.2.2=x0.2.2/\x1=x1/\x4
 abbrev zih:=(↑(lgR x1 (toNat x2)).2.1:Int)
 abbrev z5h:=(hdR x1 (toNat x2)).2.2
 abbrev z7e:=(↑(lgR x1 (toNat x2)).2.2:Int)
 def j20:=(hdR x1 (toNat x2)).1=(lgR x1 (toNat x2)).1/\(hdR x1 (toNat x2)).2.1= -1/\(z5h x1 x2).1=(zih x1 x2)/\zoi x0 x1 ((↑(z5h x1 x2).2:Int)=(z7e x1 x2)/\x3=x3/\True)
 def zif:=(hdR x1 (toNat x2)).1=0/\(hdR x1 (toNat x2)).2.1=0/\x4
 def zvq:=zif x1 x2 ((z5h x1 x2).1=2/\zoi x0 x1 ((↑(z5h x1 x2).2:Int)=(z7e x1 x2)/\x3=x3/\True))
 abbrev z5g:=lgR x1 (toNat (z7e x1 x2))
 abbrev zb7:=(↑(z5g x1 x2).2.2:Int)
 def zvr:=zif x1 x2 ((z5h x1 x2).1=(↑(z5g x1 x2).2.1:Int)/\zoi x0 x1 ((↑(z5h x1 x2).2:Int)=(zb7 x1 x2)/\x3=x3/\True))
 def zig:=(z5h x1 x2).1=x5/\zoi x0 x1 ((↑(z5h x1 x2).2:Int)=(zb7 x1 x2)/\x3=x3/\True)
 abbrev zvs:=zif x1 x2 (zig x0 x1 x2 x3 2)
 def zoh:=((-9223372036854775808:Int)<=9223372036854775807- (zb7 x1 x2)/\(9223372036854775807:Int)- (zb7 x1 x2)<=9223372036854775807)
 def j47:=zoh x1 x2/\∃(i0:Int),i0=IntKind.wrap i64 ((0:Int)- (lgR x1 (toNat x2)).1)/\Jb ((zb7 x1 x2)+((9223372036854775807:Int)- (zb7 x1 x2)))/\(hdR x1 (toNat x2)).1=i0/\(hdR x1 (toNat x2)).2.1=(zb7 x1 x2)+((9223372036854775807:Int)- (zb7 x1 x2))/\zig x0 x1 x2 x3 0
 def j46:=zoh x1 x2/\Ji ((9223372036854775807:Int)- (zb7 x1 x2)<(z5g x1 x2).1) (j47 x0 x1 x2 x3) (∃(i1:Int),i1=IntKind.wrap i64 ((0:Int)- (lgR x1 (toNat x2)).1)/\Jb ((zb7 x1 x2)+(z5g x1 x2).1)/\(hdR x1 (toNat x2)).1=i1/\(hdR x1 (toNat x2)).2.1=(zb7 x1 x2)+(z5g x1 x2).1/\zig x0 x1 x2 x3 0)
 def j45:=Ji ((z5g x1 x2).1<0) (zvs x0 x1 x2 x3) (j46 x0 x1 x2 x3)
 def j44:=zoi x0 x1 ((z7e x1 x2)=(z7e x1 x2)/\x3=x3/\z0h ((x0.1,x0.2.1,x0.2.2),x1,(z7e x1 x2),x3)/\((!decide ((↑(z5g x1 x2).2.1:Int)=0))=true->zvr x0 x1 x2 x3)/\((!decide ((↑(z5g x1 x2).2.1:Int)=0))=false->j45 x0 x1 x2 x3))
 def j43:=Ji ((lgR x1 (toNat x2)).1= -9223372036854775808) (zvq x0 x1 x2 x3) (j44 x0 x1 x2 x3)
 def j42:=Ji (0<=(lgR x1 (toNat x2)).1) (j20 x0 x1 x2 x3) (j43 x0 x1 x2 x3)
 def j41:=zoi x0 x1 (x2=x2/\x3=x3/\z0h ((x0.1,x0.2.1,x0.2.2),x1,x2,x3)/\((!decide ((zih x1 x2)=0))=true->j20 x0 x1 x2 x3)/\((!decide ((zih x1 x2)=0))=false->j42 x0 x1 x2 x3))
end
def zgr(x:SV) (s:ByteArray) (i c:Int):qm2 P (qh2 [(43,z9v)]) Try.f38 zme (λ_=>{}) ⟨x,s,i,c⟩=(z0h (x,s,i,c)->j41 x s i c):=by kernel_rfl
def head_eq:=λx s i c=>Eq.trans (zgr x s i c) (by delta Ji Jb Jt Jf zoi zih z5h z7e j20 zif zvq z5g zb7 zvr zig zvs zoh j47 j46 j45 j44 j43 j42 j41;exact rfl)
section
variable (x0:SV) (x1:ByteArray) (x2 x3 x4:Int) (x5:Prop)
 abbrev j0d:=x0.1=x0.1/\x0.2.1=x0.2.1/\x0.2.2=x0.2.2/\x1=x1/\x5
 abbrev j23:=(↑(lgR x1 (toNat x2)).2.1:Int)
 abbrev zvt:=(↑(lgR x1 (toNat x2)).2.2:Int)
 def j22:=(lgR x1 (toNat x2)).1=(lgR x1 (toNat x2)).1/\(↑(chE x1 (toNat x2) x3):Int)=2/\j0d x0 x1 ((zvt x1 x2)=(zvt x1 x2)/\x4=x4/\True)
 def j21:=(lgR x1 (toNat x2)).1=(lgR x1 (toNat x2)).1/\(↑(chE x1 (toNat x2) x3):Int)=(j23 x1 x2)/\j0d x0 x1 ((zvt x1 x2)=(zvt x1 x2)/\x4=x4/\True)
 def j4a:=Ji (x2<=(lgR x1 (toNat x3)).1) (j22 x0 x1 x3 x2 x4) (j21 x0 x1 x3 x2 x4)
 def j49:=Ji ((lgR x1 (toNat x2)).1<0) (j22 x0 x1 x2 x3 x4) (j4a x0 x1 x3 x2 x4)
 def j48:=j0d x0 x1 (x2=x2/\x3=x3/\z0h ((x0.1,x0.2.1,x0.2.2),x1,x2,x3)/\Ji ((j23 x1 x2)=0) (j49 x0 x1 x2 x4 x3) (j21 x0 x1 x2 x4 x3))
end
def za0(o:Int) (x:SV) (s:ByteArray) (i c:Int):qm2 P (qh2 [(43,z9v)]) Try.f41 z4u (λ_=>{}) ⟨o,x,s,i,c⟩=(z0h (x,s,i,c)->j48 x s i c o):=by kernel_rfl
def zbs:=λo x s i c=>Eq.trans (za0 o x s i c) (by delta Ji Jt Jf j0d j23 zvt j22 j21 j4a j49 j48;exact rfl)
open Go.Proofs.Ytniogjgfomaicaa.Rv
def wrap_u64(n:Int):IntKind.wrap .u64 n=n % 18446744073709551616:=by
 simp[IntKind.wrap,IntKind.bits,IntKind.signed]
def z1s(r:Nat) (h:r<18446744073709551616):(BitVec.ofInt 64 (r:Int)).toNat=r:=by
 rw[BitVec.toNat_ofInt]
 simp
 omega
def and_one(r:Nat) (h:r<18446744073709551616):qbu .and .u64 (r:Int) 1=((r % 2:Nat):Int):=by
 show IntKind.wrap .u64 (BitVec.ofInt 64 (r:Int)&&&BitVec.ofInt 64 1).toNat=_
 rw[BitVec.toNat_and,z1s r h,show(BitVec.ofInt 64 1).toNat=1 from rfl,Nat.and_one_is_mod,wrap_u64]
 omega
def zo0(r:Nat):shP .shr .u64 (r:Int) 1=((r / 2:Nat):Int):=by
 show Int.fdiv (r:Int) (2 ^ min (1:Int).toNat 64)=_
 rw[show(2:Int) ^ min (1:Int).toNat 64=2 from rfl,Int.fdiv_eq_ediv_of_nonneg _ (by omega)]
 omega
def zak(r:Nat) (h:r<18446744073709551616):qbu .xor .u64 (shP .shr .u64 (r:Int) 1) (IntKind.wrap .u64 (0- qbu .and .u64 (r:Int) 1))=unz r % 18446744073709551616:=by
 rw[and_one r h,zo0,wrap_u64]
 unfold unz
 have h2:r / 2<18446744073709551616:=by omega
 by_cases e:r % 2=0
 ·rw[if_pos e,e]
  show IntKind.wrap .u64 (BitVec.ofInt 64 ((r / 2:Nat):Int) ^^^ BitVec.ofInt 64 ((0- (0:Int)) % 18446744073709551616)).toNat=_
  rw[show BitVec.ofInt 64 ((0- (0:Int)) % 18446744073709551616)=0#64 from rfl,BitVec.xor_zero,z1s _ h2,wrap_u64]
 ·have e1:r % 2=1:=by omega
  rw[if_neg e,e1]
  show IntKind.wrap .u64 (BitVec.ofInt 64 ((r / 2:Nat):Int) ^^^ BitVec.ofInt 64 ((0- (1:Int)) % 18446744073709551616)).toNat=_
  rw[show BitVec.ofInt 64 ((0- (1:Int)) % 18446744073709551616)=BitVec.allOnes 64 from rfl,BitVec.xor_allOnes,BitVec.toNat_not,z1s _ h2,wrap_u64]
  omega
def zeg(m:Int) (h1: -9223372036854775808<=m) (h2:m<9223372036854775808):IntKind.wrap .i64 (m % 18446744073709551616)=m:=by
 simp[IntKind.wrap,IntKind.bits,IntKind.signed]
 omega
def z4o:∀(l:List UInt8) (i acc v n:Nat),i<=10->acc<2 ^ (7*i)->vdec l i acc=some (v,n)->v<18446744073709551616/\i<n/\n<=i+l.length
  | [],i,acc,v,n,_,_,h=>by simp[vdec]at h
  | c ::r,i,acc,v,n,hi,ha,h=>by
    rw[vdec]at h
    split at h
    · cases h
    rename_i h10
    split at h
    · cases h
    rename_i h9
    have hg:=group_lt (k:=i) (g:=c.toNat % 128) (by omega) (Nat.mod_lt _ (by decide)) h9
    split at h
    · cases h
      exact⟨by omega,by omega,by simp⟩
    · have p:=pow7 i
      have hm:c.toNat % 128<128:=Nat.mod_lt _ (by decide)
      have hq:c.toNat % 128*2 ^ (7*i)<=127*2 ^ (7*i):=Nat.mul_le_mul_right _ (by omega)
      obtain⟨h1,h2,h3⟩:=z4o r (i+1) _ v n (by omega) (by rw[p];omega) h
      exact⟨h1,by omega,by simp;omega⟩
def z9j(l:List UInt8):vval l<18446744073709551616/\vlen l<=l.length/\verr l<=2/\(verr l=0->1<=vlen l):=by
  unfold vval vlen verr
  cases h:vdec l 0 0 with
  |none=>simp
  | some p=>
    obtain⟨v,n⟩:=p
    obtain⟨h1,h2,h3⟩:=z4o l 0 0 v n (by omega) (by decide) h
    simp;omega
def zlf(r:Nat) (h:r<18446744073709551616): -9223372036854775808<=unz r/\unz r<9223372036854775808:=by
 unfold unz;split<;>omega
def zg6(s:ByteArray) (i:Nat):(s.extract i s.size).data.toList=s.data.toList.drop i:=by
 rw[ByteArray.data_extract,Array.toList_extract]
 show List.take _ _=_
 rw[List.take_of_length_le]
 rw[List.length_drop];exact Nat.le_refl _
def z10(s:ByteArray) (i:Nat) (hi:i<=s.size): -9223372036854775808<=(lgR s i).1/\(lgR s i).1<9223372036854775808/\(lgR s i).2.1<=2/\i<=(lgR s i).2.2/\(lgR s i).2.2<=s.size/\((lgR s i).2.1=0->i<(lgR s i).2.2):=by
 obtain⟨h1,h2,h3,h4⟩:=z9j (s.data.toList.drop i)
 have hl:(s.data.toList.drop i).length=s.size- i:=by rw[List.length_drop];rfl
 have:=zlf _ h1
 unfold lgR
 exact⟨this.1,this.2,h3,by show i<=i+_;omega,by show i+_<=s.size;omega,λh=>by have:=h4 h;show i<i+_;omega⟩
def zdz:q5k P 66 zbp:=
 qlw (Sen.enters_of Try.func66 (by kernel_rfl)) (by decide) (by decide) (λs=>[.string s]) (λs=> .tuple #[.int .u64 (vval s.data.toList:Nat), .int .i64 (vlen s.data.toList:Nat), .int .i64 (verr s.data.toList:Nat)]) (λs=>rfl) (λs=>rfl) (λs=>rfl) (λs=>rfl)
  (λs I=> .tup (.cons (.sv _) (.cons (.sv _) (.cons (.sv _) .nil))))
  λs w h=>(varint_any s w (by have:s.size<1000000:=h;unfold maxLen;omega)).mono λe w' he=>by
   obtain⟨rfl,rfl⟩:=he
   exact⟨rfl, .refl _ _⟩
def zi6:q5k P 80 zbo:=by
 refine qm5 mixed z0p (W:=λ_=>{}) Try.func80 (by kernel_rfl) (by decide) (by decide) (λs=>by kernel_rfl) λ(r:Nat)=>(zi5 r).mpr ?_
 intro h
 exact⟨by decide,(zak r h).symm,trivial⟩
def zgk:q5k P 67 zbk:=by
 refine qm5 mixed (qee (qih zi6 qlq)) (W:=λ_=>{}) Try.func67 (by kernel_rfl) (by decide) (by decide) (λs=>by kernel_rfl) λ(r:Nat)=>(zgj r).mpr ?_
 exactλh=>⟨r,rfl,h,rfl,trivial⟩
def z54:q5k P 43 z9v:=by
 refine qm5 mixed (qee (qih zdz (qih zgk qlq))) (W:=λ_=>{}) Try.func43 (by kernel_rfl) (by decide) (by decide) (λs=>by kernel_rfl) λ⟨(x:SV),s,(i:Int),(c:Int)⟩=>(zn5 x s i c).mpr ?_
 rintro⟨h1,h2,h3⟩
 simp only[zg6,true_and,and_true,eq_self]
 obtain⟨f1,f2,f3,f4⟩:=z9j (s.data.toList.drop i.toNat)
 have hl:(s.data.toList.drop i.toNat).length=s.size- i.toNat:=by rw[List.length_drop];rfl
 have hu:=zlf _ f1
 have he:(s.extract i.toNat s.size).size=s.size- i.toNat:=by rw[ByteArray.size_extract];omega
 refine⟨⟨h1,h2⟩,by omega,by omega,vval (s.data.toList.drop i.toNat),rfl,f1,(zeg _ hu.1 hu.2).symm,rfl,?_⟩
 show(((i.toNat+vlen (s.data.toList.drop i.toNat):Nat)):Int)=_
 omega
def z62:q5k P 41 z4u:=by
 refine qm5 mixed (qee (qih z54 qlq)) (W:=λ_=>{}) Try.func41 (by kernel_rfl) (by decide) (by decide) (λs=>by kernel_rfl) λ⟨(o:Int),(x:SV),s,(i:Int),(c:Int)⟩=>(zbs o x s i c).mpr ?_
 intro h
 simp only[decide_eq_true_eq,decide_eq_false_iff_not,true_and,and_true,eq_self]
 unfold chE
 refine⟨h,λh0=>⟨λh1=> ?_,λh1=>⟨λh2=> ?_,λh2=> ?_⟩⟩,λh0=> ?_⟩
 ·rw[if_pos ⟨by omega, .inl h1⟩];rfl
 ·rw[if_pos ⟨by omega, .inr h2⟩];rfl
 ·rw[if_neg (by omega)]
 ·rw[if_neg (by omega)]
def z9o{v:Int} (h1: -9223372036854775808<v) (h2:v<9223372036854775808):IntKind.wrap .i64 (0- v)= -v:=by
 simp[IntKind.wrap,IntKind.bits,IntKind.signed];omega
def zmu:q5k P 38 zme:=by
 refine qm5 mixed (qee (qih z54 qlq)) (W:=λ_=>{}) Try.func38 (by kernel_rfl) (by decide) (by decide) (λs=>by kernel_rfl) λ⟨(x:SV),s,(i:Int),(c:Int)⟩=>(head_eq x s i c).mpr ?_
 rintro⟨h1,h2,h3⟩
 obtain⟨i,rfl⟩:=Int.eq_ofNat_of_zero_le h1
 simp only[decide_eq_true_eq,decide_eq_false_iff_not,Bool.not_eq_true',Bool.not_eq_false',true_and,and_true,eq_self,Int.toNat_natCast]
 obtain⟨a1,a2,a3,a4,a5,a6⟩:=z10 s i (by omega)
 obtain⟨b1,b2,b3,b4,b5,b6⟩:=z10 s (lgR s i).2.2 a5
 refine⟨⟨h1,h2,h3⟩,λg0=> ?_,λg0=>⟨λg1=> ?_,λg1=>⟨λg2=> ?_,λg2=>⟨⟨by show(0:Int)<=_;omega,by show(((lgR s i).2.2:Nat):Int)<=_;omega,h3⟩,?_⟩⟩⟩⟩
 ·unfold hdR;rw[if_pos (.inl (by omega))];exact⟨rfl,rfl,rfl,rfl⟩
 ·unfold hdR;rw[if_pos (.inr g1)];exact⟨rfl,rfl,rfl,rfl⟩
 ·unfold hdR;rw[if_neg (by omega),if_pos g2];exact⟨rfl,rfl,rfl,rfl⟩
 unfold hdR
 rw[if_neg (show¬((lgR s i).2.1≠0\/0<=(lgR s i).1)by omega),if_neg g2]
 clear g0 a3 a6
 generalize lgR s (lgR s i).2.2=B at*
 obtain⟨n2,e2,j2⟩:=B
 simp only at b1 b2 b3 b4 b5 b6⊢
 refine⟨λg3=> ?_,λg3=> ?_⟩
 ·rw[if_pos (by omega)];exact⟨rfl,rfl,rfl,rfl⟩
 ·rw[if_neg (show¬e2≠0 by omega)]
  refine⟨λg4=>by rw[if_pos g4];exact⟨rfl,rfl,rfl,rfl⟩,λg4=>⟨by omega,λg5=>⟨by omega, -(lgR s i).1,(z9o (by omega) (by omega)).symm,by omega,?_⟩,λg5=>⟨-(lgR s i).1,(z9o (by omega) (by omega)).symm,by omega,?_⟩⟩⟩
  ·rw[if_neg g4,if_pos g5];exact⟨by show -(_:Int)=_;omega,rfl,rfl,rfl⟩
  ·rw[if_neg g4,if_neg g5];exact⟨by show -(_:Int)=_;omega,rfl,rfl,rfl⟩
section
def f1s:List Value->Option ByteArray
 | [.string s]=>some s
 |_=>none
def f1i:List Value->Option Int
 | [.int _ c]=>some c
 |_=>none
def z25(s:ByteArray) (j:Nat):bat s j<256:=by unfold bat;exact UInt8.toNat_lt _
variable {s:ByteArray}
def zm9{j:Nat} (h:s.size<=j):bat s j=0:=by
 unfold bat
 rw[getElem?_neg s j (by omega)];rfl
def ztq{j:Nat} (h:j<s.size):bat s j=s[j].toNat:=by
 unfold bat
 rw[getElem?_pos s j h];rfl
def ldN(c:Nat):Nat:=if c<128 then 1 else if 192<=c/\c<224 then 2 else if 224<=c/\c<240 then 3 else if 240<=c/\c<248 then 4 else 0
def ldV(c:Nat):Nat:=if c<128 then c else if 192<=c/\c<224 then c- 192 else if 224<=c/\c<240 then c- 224 else if 240<=c/\c<248 then c- 240 else 0
def ctC(c:Nat):Bool:=decide (128<=c)&&decide (c<192)
def vlF(s:ByteArray):Nat->Option Nat
  |0=>some 0
  |1=>some (ldV (bat s 0))
  | i+2=>match vlF s (i+1)with
    |some r=>if ctC (bat s (i+1))=true then some (r*64+(bat s (i+1)- 128))else none
    |none=>none
def lnN(r:Nat):Nat:=if r<128 then 1 else if r<2048 then 2 else if r<65536 then 3 else 4
def isC(r:Nat):Bool:=decide (r<=1114111)&& !(decide (55296<=r)&&decide (r<=57343))
def frt(s:ByteArray):Nat:=if s.size<ldN (bat s 0)then 0 else match vlF s (ldN (bat s 0))with
 |none=>0
 |some r=>if ldN (bat s 0)=0\/isC r=false\/lnN r≠ldN (bat s 0)then 0 else ldN (bat s 0)
def ze0:Nat->ByteArray->Bool
 |0,_=>true
 |f+1,s=>if s.size=0 then true else if frt s=0 then false else ze0 f (s.extract (frt s) s.size)
def vld(s:ByteArray):Bool:=ze0 s.size s
def zmf:Ct:=ctS Int (λc=>[.int .u8 c]) f1i (λc=>0<=c/\c<256) (λ_=>{}) λc=> .tup [.sv (.int .i64 (ldN c.toNat:Nat)), .sv (.int .u32 (ldV c.toNat:Nat))]
def cIs:Ct:=ctS Int (λc=>[.int .u32 c]) f1i (λc=>0<=c/\c<4294967296) (λ_=>{}) λc=> .sv (.bool (isC c.toNat))
def z6z:Ct:=ctS Int (λc=>[.int .u32 c]) f1i (λc=>0<=c/\c<4294967296) (λ_=>{}) λc=> .sv (.int .i64 (lnN c.toNat:Nat))
def z8b:Ct:=ctS ByteArray (λs=>[.string s]) f1s (λs=>0<s.size/\s.size<9223372036854775808) (λ_=>{}) λs=> .sv (.int .i64 (frt s:Nat))
def z2a:Ct:=ctS ByteArray (λs=>[.string s]) f1s (λs=>s.size<9223372036854775808) (λ_=>{}) λs=> .sv (.bool (vld s))
def slS(t:T AV) (k:Nat):Option ByteArray:=match t.get k with
 |some a=>gs a
 |none=>none
def zlj:z8b.σ->WayF:=λs=>{ann:=λ_ _ _=>some {σ:=Int×Int,pre:=λ⟨r,i⟩=>1<=i/\(i<=ldN (bat s 0)\/i=1)/\∃q:Nat,r=q/\(ldN (bat s 0)=0\/vlF s i.toNat=some q),find:=some λt _=>match slI t 4 with|some r=>(match slI t 5 with|some i=>some (r,i)|none=>none)|none=>none,t:=λ⟨r,i⟩=>[(4, .sv (.int .u32 r)),(5, .sv (.int .i64 i))],h:=λ_=>[],more:=0,μ:=λ⟨r,i⟩=>5- i.toNat,keep:=[0,2,3]}}
def zlc:Nat->Option Ct:=qh2 [(94,zmf),(95,cIs),(96,z6z)]
def zlt:z2a.σ->WayF:=λs=>{ann:=λ_ _ _=>some {σ:=ByteArray,pre:=λt=>t.size<=s.size/\vld t=vld s,find:=some λt _=>slS t 0,t:=λu=>[(0, .sv (.string u))],h:=λ_=>[],more:=0,μ:=λu=>u.size,keep:=[2]}}
def zv4:Nat->Option Ct:=qh2 [(81,z8b)]
def ptV(s:ByteArray):Nat:=if frt s=0 then 0 else(vlF s (frt s)).getD 0
def z2w:Ct:=ctS ByteArray (λs=>[.string s]) f1s (λs=>s.size<9223372036854775808) (λ_=>{}) λs=> .tup [.sv (.int .u32 (ptV s:Nat)), .sv (.int .i64 (frt s:Nat))]
def leN(n:Nat):Nat:=if n=2 then 128 else if n=3 then 2048 else 65536
def zlo:z2w.σ->WayF:=λs=>{
 ann:=λ_ _ _=>some {σ:=Int×Int,pre:=λ⟨v,i⟩=>1<=i/\i<=ldN (bat s 0)/\∃q:Nat,v=q/\vlF s i.toNat=some q,find:=some λt _=>match slI t 6 with|some v=>(match slI t 8 with|some i=>some (v,i)|none=>none)|none=>none,t:=λ⟨v,i⟩=>[(6, .sv (.int .u32 v)),(8, .sv (.int .i64 i))],h:=λ_=>[],more:=0,μ:=λ⟨v,i⟩=>5- i.toNat,keep:=[0,5,7]}
 cut:=λr _ _=>match r with
  |14=>some {σ:=Unit,pre:=λ_=>0<s.size/\2<=ldN (bat s 0),find:=some λ_ _=>some (),t:=λ_=>[(5, .sv (.int .i64 (ldN (bat s 0):Nat))),(6, .sv (.int .u32 (ldV (bat s 0):Nat))),(7, .sv (.int .u32 (leN (ldN (bat s 0)):Nat)))],h:=λ_=>[],more:=0,μ:=λ_=>0,keep:=[0]}
  |_=>none}
def ze9:z2a.σ->WayF:=λs=>{ann:=λ_ _ _=>some {σ:=ByteArray,pre:=λt=>t.size<=s.size/\vld t=vld s,find:=some λt _=>slS t 0,t:=λu=>[(0, .sv (.string u))],h:=λ_=>[],more:=0,μ:=λu=>u.size,keep:=[]}}
end
section
def z2l{p q:Prop} [Decidable p] [Decidable q] (h:p↔q):decide p=decide q:=by simp[h]
abbrev svV(x:SV):Value:= .slice x.1 x.2.1 x.2.2
abbrev svA(x:SV):AV:= .sv (.slice x.1 x.2.1 x.2.2)
def txV(s:ByteArray):List Value:=[.string s]
def inV(i:Int):List Value:=[.int .i64 i]
def slP{α:Type} (f:α->List Value) (x:SV) (l:List α) (p:Pub):Prop:=x.2.1=l.length/\qil p x.1 x.2.1 x.2.2 (z00 f l)
variable {α:Type}
def z0e{f:α->List Value} {x:SV} {l:List α} {p q:Pub} (h:Pub.le p q) (e:slP f x l p):slP f x l q:=⟨e.1,q5g h e.2⟩
def z0w{f:α->List Value} {e:Nat} (hf:∀x,(f x).length=e) (he:0<e) {p:Pub} {x:SV} {l:List α} (h:slP f x l p) {i:Nat} (hi:i<l.length):x.1≠noA/\q3p p (adr x.1 (i*e)) (f l[i]):=zah hf he h.2 hi
variable {p:Pub}
def z06{f:α->List Value}:slP f (none,0,0) [] p:=⟨rfl,Nat.le_refl _, .inl ⟨rfl,zba⟩⟩
inductive GJ where
 |mk (k n:Int) (s:ByteArray) (y:SV) (l:List GJ) (x:SV) (nm:List ByteArray)
def GJ.k:GJ->Int| .mk k _ _ _ _ _ _=>k
def GJ.n:GJ->Int| .mk _ n _ _ _ _ _=>n
def GJ.s:GJ->ByteArray| .mk _ _ s _ _ _ _=>s
def GJ.y:GJ->SV| .mk _ _ _ y _ _ _=>y
def GJ.l:GJ->List GJ| .mk _ _ _ _ l _ _=>l
def GJ.x:GJ->SV| .mk _ _ _ _ _ x _=>x
def GJ.nm:GJ->List ByteArray| .mk _ _ _ _ _ _ nm=>nm
def GJ.cells(g:GJ):List Value:=[.int .i64 g.k, .int .i64 g.n, .string g.s,svV g.y,svV g.x]
def GJ.av(g:GJ):AV:= .agg [.sv (.int .i64 g.k), .sv (.int .i64 g.n), .sv (.string g.s),svA g.y,svA g.x]
mutual
def GJ.ok:GJ->Pub->Prop
 | .mk k n s y l x nm,p=>slP GJ.cells y l p/\slP txV x nm p/\GJ.oks l p
def GJ.oks:List GJ->Pub->Prop
 | [],_=>True
 |g::l,p=>GJ.ok g p/\GJ.oks l p
end
mutual
def GJ.ok_mono:∀{g:GJ} {p q:Pub},Pub.le p q->g.ok p->g.ok q
  | .mk k n s y l x nm,p,q,h,e=>by
    unfold GJ.ok at e⊢
    exact⟨z0e h e.1,z0e h e.2.1,GJ.oks_mono h e.2.2⟩
def GJ.oks_mono:∀{l:List GJ} {p q:Pub},Pub.le p q->GJ.oks l p->GJ.oks l q
  | [],p,q,h,e=>by unfold GJ.oks;trivial
  | g::l,p,q,h,e=>by
    unfold GJ.oks at e⊢
    exact⟨GJ.ok_mono h e.1,GJ.oks_mono h e.2⟩
end
structure AF where
 nm:ByteArray
 al:SV
 als:List ByteArray
 ty:Int
 hd:Bool
 df:GJ
def AF.cells(f:AF):List Value:=[.string f.nm,svV f.al, .int .i64 f.ty, .bool f.hd, .int .i64 f.df.k, .int .i64 f.df.n, .string f.df.s,svV f.df.y,svV f.df.x]
def AF.ok(f:AF) (p:Pub):Prop:=slP txV f.al f.als p/\f.df.ok p
structure AT where
 k:Int
 nm:ByteArray
 al:SV
 als:List ByteArray
 it:Int
 sy:SV
 sys:List ByteArray
 hd:Bool
 df:ByteArray
 sz:Int
 f:SV
 fs:List AF
 br:SV
 brs:List Int
def AT.cells(e:AT):List Value:=[.int .i64 e.k, .string e.nm,svV e.al, .int .i64 e.it,svV e.sy, .bool e.hd, .string e.df, .int .i64 e.sz,svV e.f,svV e.br]
def AT.av(e:AT):AV:= .agg [.sv (.int .i64 e.k), .sv (.string e.nm),svA e.al, .sv (.int .i64 e.it),svA e.sy, .sv (.bool e.hd), .sv (.string e.df), .sv (.int .i64 e.sz),svA e.f,svA e.br]
def AT.ok(e:AT) (p:Pub):Prop:=slP txV e.al e.als p/\slP txV e.sy e.sys p/\slP AF.cells e.f e.fs p/\slP inV e.br e.brs p/\∀f∈e.fs,f.ok p
def AT.ok_mono{e:AT} {p q:Pub} (h:Pub.le p q) (g:e.ok p):e.ok q:=⟨z0e h g.1,z0e h g.2.1,z0e h g.2.2.1,z0e h g.2.2.2.1,λf hf=>⟨z0e h (g.2.2.2.2 f hf).1,GJ.ok_mono h (g.2.2.2.2 f hf).2⟩⟩
def z0a(S:List AT) (x:SV) (p:Pub):Prop:=slP AT.cells x S p/\∀e∈S,e.ok p
def z0s{S:List AT} {x:SV} {p q:Pub} (h:Pub.le p q) (g:z0a S x p):z0a S x q:=⟨z0e h g.1,λe he=>AT.ok_mono h (g.2 e he)⟩
def z1c(e:AT):e.cells.length=10:=rfl
def z88(f:AF):f.cells.length=9:=rfl
def z0t(s:ByteArray):(txV s).length=1:=rfl
def z8t(i:Int):(inV i).length=1:=rfl
def z2y(g:GJ):g.cells.length=5:=rfl
def small(S:List AT):Prop:=S.length<1000000/\∀e∈S,e.fs.length<1000000/\e.brs.length<1000000/\e.sys.length<1000000
inductive GV where
 |mk (n:Int) (s:ByteArray) (x:SV) (l:List GV) (y:SV) (ks:List ByteArray) (b:Int)
inductive PV where
 |mk (n:Int) (s:ByteArray) (l:List PV) (ks:List ByteArray) (b:Int)
def GV.n:GV->Int| .mk n _ _ _ _ _ _=>n
def GV.s:GV->ByteArray| .mk _ s _ _ _ _ _=>s
def GV.x:GV->SV| .mk _ _ x _ _ _ _=>x
def GV.l:GV->List GV| .mk _ _ _ l _ _ _=>l
def GV.y:GV->SV| .mk _ _ _ _ y _ _=>y
def GV.ks:GV->List ByteArray| .mk _ _ _ _ _ ks _=>ks
def GV.b:GV->Int| .mk _ _ _ _ _ _ b=>b
def GV.cells(v:GV):List Value:=[.int .u64 v.n, .string v.s,svV v.x,svV v.y, .int .i64 v.b]
def GV.av(v:GV):AV:= .agg [.sv (.int .u64 v.n), .sv (.string v.s),svA v.x,svA v.y, .sv (.int .i64 v.b)]
def z0f(v:GV):v.cells.length=5:=rfl
mutual
def GV.ok:GV->Pub->Prop
 | .mk n s x l y ks b,p=>slP GV.cells x l p/\slP txV y ks p/\GV.oks l p
def GV.oks:List GV->Pub->Prop
 | [],_=>True
 |v::l,p=>GV.ok v p/\GV.oks l p
end
mutual
def GV.ok_mono:∀{v:GV} {p q:Pub},Pub.le p q->v.ok p->v.ok q
  | .mk n s x l y ks b,p,q,h,e=>by
    unfold GV.ok at e⊢
    exact⟨z0e h e.1,z0e h e.2.1,GV.oks_mono h e.2.2⟩
def GV.oks_mono:∀{l:List GV} {p q:Pub},Pub.le p q->GV.oks l p->GV.oks l q
  | [],p,q,h,e=>by unfold GV.oks;trivial
  | g::l,p,q,h,e=>by
    unfold GV.oks at e⊢
    exact⟨GV.ok_mono h e.1,GV.oks_mono h e.2⟩
end
def GV.ok_eq(v:GV) (p:Pub):v.ok p=(slP GV.cells v.x v.l p/\slP txV v.y v.ks p/\GV.oks v.l p):=by cases v;unfold GV.ok;rfl
def GV.oks_at:∀{l:List GV} {p:Pub},GV.oks l p->∀{i:Nat} (h:i<l.length),l[i].ok p
 |v::l,p,e,0,h=>by unfold GV.oks at e;exact e.1
 |v::l,p,e,i+1,h=>by unfold GV.oks at e;exact GV.oks_at e.2 (by simpa using h)
mutual
def GV.pv:GV->PV
 | .mk n s x l y ks b=> .mk n s (GV.pvs l) ks b
def GV.pvs:List GV->List PV
 | []=>[]
 |v::l=>GV.pv v::GV.pvs l
end
def GV.pv_eq(v:GV):v.pv= .mk v.n v.s (GV.pvs v.l) v.ks v.b:=by cases v;rw[GV.pv];rfl
def GV.pvs_map:∀l:List GV,GV.pvs l=l.map GV.pv
 | []=>by rw[GV.pvs];rfl
 |v::l=>by rw[GV.pvs,GV.pvs_map l];rfl
def GV.pvs_len(l:List GV):(GV.pvs l).length=l.length:=by rw[GV.pvs_map,List.length_map]
mutual
def PV.sm:PV->Prop
 | .mk n s l ks b=>(0<=n/\n<18446744073709551616)/\s.size<9223372036854775808/\l.length<4611686018427387904/\ks.length<4611686018427387904/\(∀k∈ks,k.size<9223372036854775808)/\PV.sms l
def PV.sms:List PV->Prop
 | []=>True
 |v::l=>PV.sm v/\PV.sms l
end
def PV.sms_at:∀{l:List PV},PV.sms l->∀{i:Nat} (h:i<l.length),l[i].sm
 |v::l,e,0,h=>by unfold PV.sms at e;exact e.1
 |v::l,e,i+1,h=>by unfold PV.sms at e;exact PV.sms_at e.2 (by simpa using h)
def GV.sm_eq(v:GV):v.pv.sm=((0<=v.n/\v.n<18446744073709551616)/\v.s.size<9223372036854775808/\v.l.length<4611686018427387904/\v.ks.length<4611686018427387904/\(∀k∈v.ks,k.size<9223372036854775808)/\PV.sms (GV.pvs v.l)):=by rw[GV.pv_eq,PV.sm,GV.pvs_len]
variable {v:GV}
def GV.sm_at(h:v.pv.sm) {i:Nat} (hi:i<v.l.length):v.l[i].pv.sm:=by
 rw[GV.sm_eq]at h
 have:=PV.sms_at h.2.2.2.2.2 (i:=i) (by rw[GV.pvs_len];exact hi)
 simpa[GV.pvs_map]using this
def GV.ok_at(h:v.ok p) {i:Nat} (hi:i<v.l.length):v.l[i].ok p:=by
 rw[GV.ok_eq]at h;exact GV.oks_at h.2.2 hi
def GV.cells_at(h:v.ok p) {i:Nat} (hi:i<v.l.length):v.x.1≠noA/\q3p p (adr v.x.1 (i*5)) v.l[i].cells:=by
 rw[GV.ok_eq]at h;exact z0w z0f (by decide) h.1 hi
def GV.x_len(h:v.ok p):v.x.2.1=v.l.length:=by rw[GV.ok_eq]at h;exact h.1.1
def GV.y_len(h:v.ok p):v.y.2.1=v.ks.length:=by rw[GV.ok_eq]at h;exact h.2.1.1
def okN(a:AT) (n:Int):Bool:=if a.k=1 then decide (n=0)else if a.k=2 then decide (n<=1)else if a.k=3 then decide (n<2147483648\/18446744071562067968<=n)else if a.k=5 then decide (n<4294967296)else if a.k=10 then decide (n<a.sys.length)else true
def okT(a:AT) (s:ByteArray):Bool:=if a.k=8 then vld s else if a.k=11 then decide ((s.size:Int)=a.sz)else true
def z2i:List ByteArray->Bool
 | []=>true
 | [k]=>vld k
 |k::j::l=>vld k&&qfa k j&&z2i (j::l)
def okP(a:AT) (n:Nat) (ks:List ByteArray) (b:Int):Bool:=
 if ks.length>0/\a.k≠13\/b≠0/\a.k≠14 then false else
 if a.k=9 then decide (n=a.fs.length)else if a.k=14 then decide (0<=b/\b<a.brs.length/\n=1)else if a.k=13 then decide (n=ks.length)&&z2i ks else true
def isN(k:Int):Bool:=decide (k=1\/k=2\/k=3\/k=4\/k=5\/k=6\/k=10)
def isT(k:Int):Bool:=decide (k=7\/k=8\/k=11)
def isQ(k:Int):Bool:=decide (k=9\/k=12\/k=13\/k=14)
def zti(n m:Nat) (b:Int):Bool:=decide (n=0)&&decide (m=0)&&decide (b=0)
def z2j(a:AT) (b:Int) (i:Nat):Int:=if a.k=9 then(match a.fs[i]? with|some f=>f.ty|none=>0)else if a.k=14 then a.brs.getD b.toNat 0 else a.it
mutual
def PV.fits(S:List AT) (t:Int):PV->Bool
  | .mk n s l ks b=>if t<0\/S.length<=t then false else match S[t.toNat]? with
    |none=>false
    | some a=>if isN a.k=true then okN a n&&decide (s.size=0)&&zti l.length ks.length b else
      if isT a.k=true then okT a s&&decide (n=0)&&zti l.length ks.length b else
      if isQ a.k=true then okP a l.length ks b&&PV.fitL S (z2j a b) 0 l&&decide (n=0)&&decide (s.size=0)else false
def PV.fitL(S:List AT) (f:Nat->Int) (i:Nat):List PV->Bool
 | []=>true
 |v::l=>PV.fits S (f i) v&&PV.fitL S f (i+1) l
end
mutual
def PV.same:PV->PV->Bool
 | .mk n s l ks b, .mk n' s' l' ks' b'=>decide (n=n')&&decide (s=s')&&decide (b=b')&&decide (ks=ks')&&PV.sames l l'
def PV.sames:List PV->List PV->Bool
 | [],[]=>true
 |v::l,w::m=>PV.same v w&&PV.sames l m
 |_,_=>false
end
end
open Go.Proofs.Ytniogjgfomaicaa.Rv
def loL:List UInt8->Nat
 | []=>0
 |c::l=>c.toNat+256*loL l
open Go.Proofs.Ytniogjgfomaicaa.Rv
def j1p{x:Addr} (h:x.spot=none) (k:Nat):(x.add k).spot=none:=by
 unfold Addr.add;split
 ·exact h
 ·rfl
def zhp{p:Pub} {a:Option Addr} {c l:Nat} {vs us:List Value} (h:qik p a vs) (hl:l<=c) (hlen:vs.length<=c) (hu:∀(j:Nat) v,us[j]? =some v->vs[l+j]? =some v):qik p (slA a c l 1) us:=by
  cases us with
  |nil=>exact .inl ⟨rfl,trivial⟩
  | cons u us=>
    have h0:=hu 0 u rfl
    rcases h with⟨rfl,_⟩|⟨x,rfl,hs,hc⟩
    · simp at h0
    · have hne:c≠l:=λe=>by
        subst e
        have:=(List.getElem?_eq_some_iff.mp h0).1
        omega
      refine .inr ⟨x.add (l*1),?_,j1p hs _,λj v hj=> ?_⟩
      · unfold slA;rw[if_neg hne];rfl
      · have:=hc (l+j) v (hu j v hj)
        rw[Addr.add_add,Nat.mul_one];exact this
def z8x:∀l:List UInt8,loL l<256 ^ l.length
  | []=>by decide
  | c::l=>by
    have:=z8x l
    have:=c.toNat_lt
    rw[loL,List.length_cons,Nat.pow_succ];omega
def ctQ(σ:Type) (args:σ->List AV) (pre:σ->Prop) (mem:σ->PF) (r:σ->AV):Ct where
 σ:=σ
 args:=args
 h:=λ_=>[]
 m:=1
 pre:=pre
 mem:=mem
 r:=r
 h':=λ_=>[]
 m':=1
 g:=λ_=>none
def byV(b:Int):List Value:=[.int .u8 b]
def ztv(b:Int):(byV b).length=1:=rfl
def byM(x:SV) (L:List Int):PF:=⟨true,slP byV x L,λ_ _ h e=>z0e h e⟩
def z0q(L:List Int):Prop:=L.length<1000000/\∀b∈L,0<=b/\b<256
def z0u(L:List Int) (n m:Int):Int:=if L.length<=n then 0 else Int.tmod (L.getD n.toNat 0) m
def z07(L:List Int) (n:Int):Int:=if L.length<=n then n else n+1
def pkO(x:SV) (n:Int):List (Nat×AO):=[(1, .cells 47 (some 0) false [svA x, .sv (.int .i64 n)])]
def j1l(h:T AO) (id:Nat):Option (SV×Int):=match h.get id with
  | some (.cells _ _ _ [a,i])=>match a with
    | .sv (.slice a n c)=>match gi i with
      |some (_,i)=>some ((a,n,c),i)
      |none=>none
    |_=>none
  |_=>none
def zux(l:List AV) (h:T AO):Option (Sel (SV×List Int×Int×Int)):=match l with
  | [.ptr id _,m]=>match j1l h id with
    | some (x,n)=>match gi m with
      |some (_,m)=>some ⟨List Int,λL=>(x,L,n,m)⟩
      |none=>none
    |none=>none
  |_=>none
def zt9:Ct where
 σ:=SV×List Int×Int×Int
 args:=λ⟨x,L,n,m⟩=>[.ptr 1 0, .sv (.int .i64 m)]
 h:=λ⟨x,L,n,m⟩=>pkO x n
 m:=2
 pre:=λ⟨x,L,n,m⟩=>0<=n/\n<=L.length/\0<m/\m<1000000/\z0q L
 mem:=λ⟨x,L,n,m⟩=>byM x L
 sel:=some zux
 r:=λ⟨x,L,n,m⟩=> .sv (.int .i64 (z0u L n m))
 h':=λ⟨x,L,n,m⟩=>pkO x (z07 L n)
 m':=2
 g:=λ_=>none
def zny(l:List AV) (h:T AO):Option (Sel (SV×List Int×Int)):=match l with
  | [.ptr id _]=>match j1l h id with
    |some (x,n)=>some ⟨List Int,λL=>(x,L,n)⟩
    |none=>none
  |_=>none
def zmg:Ct where
 σ:=SV×List Int×Int
 args:=λ⟨x,L,n⟩=>[.ptr 1 0]
 h:=λ⟨x,L,n⟩=>pkO x n
 m:=2
 pre:=λ⟨x,L,n⟩=>True
 mem:=λ⟨x,L,n⟩=>byM x L
 sel:=some zny
 r:=λ⟨x,L,n⟩=> .sv (.bool (decide ((L.length:Int)<=n)))
 h':=λ⟨x,L,n⟩=>pkO x n
 m':=2
 g:=λ_=>none
def z9x:Ct:={ctQ ByteArray (λs=>[.sv (.string s)]) (λ_=>True) (λ_=>{}) (λs=> .agg [.int .i64 4, .int .i64 0, .sv (.string s), .nsl, .nsl])with find:=some λl _=>match l with
 | [a]=>gs a
 |_=>none}
inductive N3 where
 |two
 |three
 |four
def N3.v:N3->Nat
 | .two=>2
 | .three=>3
 | .four=>4
def z4i:Ct where
  σ:=N3
  args:=λn=>[.sl 1 0 n.v n.v, .sl 2 0 n.v n.v]
  h:=λ_=>[]
  m:=3
  find:=some λl _=>match l with
    | [.sl _ _ n _,_]=>match n with
      |2=>some .two
      |3=>some .three
      |4=>some .four
      |_=>none
    |_=>none
  r:=λn=> .agg [.int .i64 6, .int .i64 0, .str [], .sl 2 0 n.v n.v, .sl 1 0 n.v n.v]
  h':=λ_=>[]
  m':=3
  g:=λ_=>none
mutual
def GJ.wf:GJ->Prop
 | .mk k n s y l x nm=>s.size<1000/\l.length<1000/\nm.length<=l.length/\(∀t∈nm,t.size<1000)/\(-9223372036854775808<=n/\n<9223372036854775808)/\(k=6->nm.length=l.length)/\GJ.wfs l
def GJ.wfs:List GJ->Prop
 | []=>True
 |g::l=>GJ.wf g/\GJ.wfs l
end
def GJ.wf_eq(g:GJ):g.wf=(g.s.size<1000/\g.l.length<1000/\g.nm.length<=g.l.length/\(∀t∈g.nm,t.size<1000)/\(-9223372036854775808<=g.n/\g.n<9223372036854775808)/\(g.k=6->g.nm.length=g.l.length)/\GJ.wfs g.l):=by cases g;rw[GJ.wf];rfl
def GJ.ok_eq(g:GJ) (p:Pub):g.ok p=(slP GJ.cells g.y g.l p/\slP txV g.x g.nm p/\GJ.oks g.l p):=by cases g;unfold GJ.ok;rfl
def GJ.wfs_at:∀{l:List GJ},GJ.wfs l->∀{i:Nat} (h:i<l.length),l[i].wf
 |v::l,e,0,h=>by unfold GJ.wfs at e;exact e.1
 |v::l,e,i+1,h=>by unfold GJ.wfs at e;exact GJ.wfs_at e.2 (by simpa using h)
def GJ.oks_at:∀{l:List GJ} {p:Pub},GJ.oks l p->∀{i:Nat} (h:i<l.length),l[i].ok p
 |v::l,p,e,0,h=>by unfold GJ.oks at e;exact e.1
 |v::l,p,e,i+1,h=>by unfold GJ.oks at e;exact GJ.oks_at e.2 (by simpa using h)
def gM(g:GJ):PF:=⟨true,g.ok,λ_ _ h e=>GJ.ok_mono h e⟩
def zJ:GJ:= .mk 0 0 (mkS []) (none,0,0) [] (none,0,0) []
def z34(s:ByteArray):List ByteArray->List GJ->Option GJ
 |t::nm,g::l=>if t=s then some g else z34 s nm l
 |_,_=>none
def j07:Ct:=ctQ (GJ×ByteArray) (λ⟨g,s⟩=>[g.av, .sv (.string s)]) (λ⟨g,s⟩=>g.wf) (λ⟨g,s⟩=>gM g) λ⟨g,s⟩=> .tup [((z34 s g.nm g.l).getD zJ).av, .sv (.bool (z34 s g.nm g.l).isSome)]
def j3v:j07.σ->WayF:=λ⟨g,s⟩=>{
 ann:=λ_ _ _=>some {σ:=Nat,pre:=λj=>j<=g.nm.length/\z34 s (g.nm.drop j) (g.l.drop j)=z34 s g.nm g.l,t:=λj=>[(6, .sv (.int .i64 (j:Int)))],h:=λ_=>[],more:=0,μ:=λj=>g.nm.length- j,keep:=[1,2,4,5]}}
def isNum(s:ByteArray):Bool:=decide (s=mkS [105,110,116])||decide (s=mkS [108,111,110,103])||decide (s=mkS [102,108,111,97,116])||decide (s=mkS [100,111,117,98,108,101])
def z35(s:ByteArray):Bool:=decide (s=mkS [115,116,114,105,110,103])||decide (s=mkS [98,121,116,101,115])
def z75(s:ByteArray):Bool:=decide (s=mkS [98,111,111,108,101,97,110])
def za7(s:ByteArray):Bool:=decide (s=mkS [110,117,108,108])
def zg2(i:Int):ByteArray:=if i=0 then mkS []else if i=1 then mkS [100]else mkS [195,164]
def z26(g:GJ) (L:List Int) (n:Int):Int×Int×ByteArray×Int:=
 if g.k=4/\isNum g.s=true then(3,z0u L n 200- 50,mkS [],z07 L n)else
 if g.k=4/\z35 g.s=true then(4,0,zg2 (z0u L n 3),z07 L n)else
 if g.k=4/\z75 g.s=true then(2,z0u L n 2,mkS [],z07 L n)else
 if g.k=4/\za7 g.s=true then(1,0,mkS [],n)else
 if g.k=5 then(1,0,mkS [],n)else
 if((z34 (mkS [116,121,112,101]) g.nm g.l).getD zJ).s=mkS [97,114,114,97,121]then(5,0,mkS [],n)else
 if((z34 (mkS [116,121,112,101]) g.nm g.l).getD zJ).s=mkS [101,110,117,109]then(4,0,mkS [88],n)else(6,0,mkS [],n)
def zuw(l:List AV) (h:T AO):Option (Sel (SV×List Int×Int×GJ)):=match l with
  | [.ptr id _,_]=>match j1l h id with
    |some (x,n)=>some ⟨List Int×GJ,λL=>(x,L.1,n,L.2)⟩
    |none=>none
  |_=>none
def z3i:Ct where
 σ:=SV×List Int×Int×GJ
 args:=λ⟨x,L,n,g⟩=>[.ptr 1 0,g.av]
 h:=λ⟨x,L,n,g⟩=>pkO x n
 m:=2
 pre:=λ⟨x,L,n,g⟩=>0<=n/\n<=L.length/\z0q L/\g.wf
 mem:=λ⟨x,L,n,g⟩=>⟨true,λp=>slP byV x L p/\g.ok p,λ_ _ h e=>⟨z0e h e.1,GJ.ok_mono h e.2⟩⟩
 sel:=some zuw
 r:=λ⟨x,L,n,g⟩=> .agg [.sv (.int .i64 (z26 g L n).1), .sv (.int .i64 (z26 g L n).2.1), .sv (.string (z26 g L n).2.2.1), .nsl, .nsl]
 h':=λ⟨x,L,n,g⟩=>pkO x (z26 g L n).2.2.2
 m':=2
 g:=λ_=>none
def swS(f:ByteArray->Bool) (i k:Nat) (keep:List Nat) (t:T AV):Option LT:=match slS t k with
 |some a=>some {σ:=Unit,t:=λ_=>[(i, .sv (.bool (f a)))],h:=λ_=>[],more:=0,μ:=λ_=>0,keep:=keep}
 |none=>none
def z9l:z3i.σ->WayF:=λ⟨x,L,n,g⟩=>{
 cut:=λi t _=>match i with
  |7=>swS isNum 12 11 [0,3,4,11] t
  |10=>swS z35 21 11 [0,3,4,11] t
  |15=>some {σ:=Unit,pre:=λ_=>¬(g.k=4/\(isNum g.s=true\/z35 g.s=true\/z75 g.s=true\/za7 g.s=true)),t:=λ_=>[],h:=λ_=>[],more:=0,μ:=λ_=>0,keep:=[0,3,4]}
  |_=>none}
def mkO(S:List AT) (e:Int) (r k:Nat):List (Nat×AO):=[(1, .cells 66 (some 0) false [.ssl r 0 S.length 10 k, .sv (.int .i64 e)]),(r, .row 45 0 (z00 AT.cells S))]
def mkE(h:T AO) (id:Nat):Option Int:=match h.get id with
  | some (.cells _ _ _ [_,e])=>match gi e with
    |some (_,e)=>some e
    |none=>none
  |_=>none
def znw(l:List AV) (h:T AO):Option (Sel (List AT×Int×Int)):=match l with
  | [.ptr id _,e]=>match mkE h id with
    | some e0=>match gi e with
      |some (_,e)=>some ⟨List AT,λS=>(S,e0,e)⟩
      |none=>none
    |none=>none
  |_=>none
def faE(e0 e:Int):Int:=if e0=0 then e else e0
def z1j:Ct where
 σ:=List AT×Int×Int
 args:=λ⟨S,e0,e⟩=>[.ptr 1 0, .sv (.int .i64 e)]
 h:=λ⟨S,e0,e⟩=>mkO S e0 2 3
 m:=4
 sel:=some znw
 r:=λ⟨S,e0,e⟩=> .int .i64 0
 h':=λ⟨S,e0,e⟩=>mkO S (faE e0 e) 2 3
 m':=4
 g:=λ_=>none
def adS(S:List AT) (t:AT):List AT:=if 60<=S.length then S else S++[t]
def adE(S:List AT) (e:Int):Int:=if 60<=S.length then faE e 3 else e
def adR(S:List AT):Int:=if 60<=S.length then 0 else S.length
def zt8:Ct where
 σ:=List AT×Int×AT
 args:=λ⟨S,e,t⟩=>[.ptr 1 0,t.av]
 h:=λ⟨S,e,t⟩=>mkO S e 2 3
 m:=4
 r:=λ⟨S,e,t⟩=> .sv (.int .i64 (adR S))
 h':=λ⟨S,e,t⟩=>mkO (adS S t) (adE S e) 4 5
 m':=6
 g:=λ_=>none
def kinds:List ByteArray:=[mkS [110,117,108,108],mkS [98,111,111,108,101,97,110],mkS [105,110,116],mkS [108,111,110,103],mkS [102,108,111,97,116],mkS [100,111,117,98,108,101],mkS [98,121,116,101,115],mkS [115,116,114,105,110,103],mkS [114,101,99,111,114,100],mkS [101,110,117,109],mkS [102,105,120,101,100],mkS [97,114,114,97,121],mkS [109,97,112],mkS [117,110,105,111,110]]
def zky(s:ByteArray):List ByteArray->Nat->Int
 | [],_=>0
 |k::l,i=>if k=s then(i:Int)+1 else zky s l (i+1)
def z0b(s:ByteArray):Int:=zky s kinds 0
def zbm:Ct:={ctQ ByteArray (λs=>[.sv (.string s)]) (λ_=>True) (λ_=>{}) (λs=> .sv (.int .i64 (z0b s)))with find:=some λl _=>match l with
 | [a]=>gs a
 |_=>none}
def zvh:zbm.σ->WayF:=λs=>{
 ann:=λ_ _ _=>some {σ:=Nat,pre:=λj=>j<=14/\zky s (kinds.drop j) j=z0b s,t:=λj=>[(4, .sv (.int .i64 (j:Int)))],h:=λ_=>[],more:=0,μ:=λj=>14- j,keep:=[0,2,3]}}
def z36(k:Int):ByteArray:=if k<1\/14<k then mkS []else kinds.getD (k.toNat- 1) (mkS [])
def zmi:Ct:=ctQ Int (λk=>[.sv (.int .i64 k)]) (λ_=>True) (λ_=>{}) λk=> .sv (.string (z36 k))
def findF(s:ByteArray):List AT->Nat->Option Nat
 | [],_=>none
 |a::l,i=>if a.nm=s/\9<=a.k/\a.k<=11 then some i else findF s l (i+1)
def fnI(o:Option Nat):Int:=match o with
 |some i=>i
 |none=>0
def znx(l:List AV) (h:T AO):Option (Sel (List AT×Int×ByteArray)):=match l with
  | [.ptr id _,a]=>match mkE h id with
    | some e=>match gs a with
      |some s=>some ⟨List AT,λS=>(S,e,s)⟩
      |none=>none
    |none=>none
  |_=>none
def zbi:Ct where
 σ:=List AT×Int×ByteArray
 args:=λ⟨S,e,s⟩=>[.ptr 1 0, .sv (.string s)]
 h:=λ⟨S,e,s⟩=>mkO S e 2 3
 m:=4
 pre:=λ⟨S,e,s⟩=>S.length<1000
 sel:=some znx
 r:=λ⟨S,e,s⟩=> .tup [.sv (.int .i64 (fnI (findF s S 0))), .sv (.bool (findF s S 0).isSome)]
 h':=λ⟨S,e,s⟩=>mkO S e 2 3
 m':=4
 g:=λ_=>none
def zvf:zbi.σ->WayF:=λ⟨S,e,s⟩=>{
 ann:=λ_ _ _=>some {σ:=Nat,pre:=λj=>j<=S.length/\findF s (S.drop j) j=findF s S 0,t:=λj=>[(6, .sv (.int .i64 (j:Int)))],h:=λ_=>[],more:=0,μ:=λj=>S.length- j,keep:=[0,1,4,5]}}
def zdl(S:List AT) (t:Int):ByteArray:=if t<0\/S.length<=t then mkS []else match S[t.toNat]? with
 |some a=>if a.nm=mkS []then z36 a.k else a.nm
 |none=>mkS []
def j19:Ct where
 σ:=List AT×Int
 args:=λ⟨S,t⟩=>[.agg [.ssl 1 0 S.length 10 2], .sv (.int .i64 t)]
 h:=λ⟨S,t⟩=>[(1, .row 45 0 (z00 AT.cells S))]
 m:=3
 pre:=λ⟨S,t⟩=>S.length<1000
 r:=λ⟨S,t⟩=> .sv (.string (zdl S t))
 h':=λ⟨S,t⟩=>[(1, .row 45 0 (z00 AT.cells S))]
 m':=3
 g:=λ_=>none
def z20(a b:ByteArray):ByteArray:=if a=mkS []\/b=mkS []then a++b else a++mkS [46]++b
def jdr(l:List AV):Option (ByteArray×ByteArray):=match l with
  | [a,b]=>match gs a with
    | some a=>match gs b with
      |some b=>some (a,b)
      |none=>none
    |none=>none
  |_=>none
def zfz:Ct:={ctQ (ByteArray×ByteArray) (λ⟨a,b⟩=>[.sv (.string a), .sv (.string b)]) (λ⟨a,b⟩=>a.size<1000000/\b.size<1000000) (λ_=>{}) (λ⟨a,b⟩=> .sv (.string (z20 a b)))with find:=some λl _=>jdr l}
def isLt(c:Nat):Bool:=(c==95)|| (decide (65<=c)&&decide (c<=90))|| (decide (97<=c)&&decide (c<=122))
def zmy(c:Nat):Bool:=decide (48<=c)&&decide (c<=57)
def z70:Ct:=ctS Int (λc=>[.int .u8 c]) f1i (λc=>0<=c/\c<256) (λ_=>{}) λc=> .sv (.bool (isLt c.toNat))
def zbh:Ct:=ctS Int (λc=>[.int .u8 c]) f1i (λc=>0<=c/\c<256) (λ_=>{}) λc=> .sv (.bool (zmy c.toNat))
def ptC(s:ByteArray) (i:Nat):Bool:=isLt (bat s i)|| (decide (0<i)&&zmy (bat s i))
def ptA(s:ByteArray):Nat->Nat->Bool
 |0,_=>true
 |f+1,i=>if i<s.size then ptC s i&&ptA s f (i+1)else true
def z21(s:ByteArray):Bool:=ptA s s.size 0&&decide (0<s.size)
def z9w:Ct:={ctQ ByteArray (λs=>[.sv (.string s)]) (λs=>s.size<1000000) (λ_=>{}) (λs=> .sv (.bool (z21 s)))with find:=some λl _=>match l with
 | [a]=>gs a
 |_=>none}
def zvj:z9w.σ->WayF:=λs=>{
 ann:=λ_ _ _=>some {σ:=Nat,pre:=λj=>j<=s.size/\ptA s (s.size- j) j=ptA s s.size 0,t:=λj=>[(3, .sv (.int .i64 (j:Int)))],h:=λ_=>[],more:=0,μ:=λj=>s.size- j,keep:=[0,2]}}
def zfs(s:ByteArray):Nat->Nat->ByteArray->Bool
 |0,_,_=>true
 |f+1,i,q=>if i<s.size/\bat s i≠46 then zfs s f (i+1) (q++s.extract i (i+1))else if z21 q=true then zfs s f (i+1) (mkS [])else false
def z2z(s:ByteArray):Bool:=zfs s (s.size+1) 0 (mkS [])
def z8e:Ct:={ctQ ByteArray (λs=>[.sv (.string s)]) (λs=>s.size<100000) (λ_=>{}) (λs=> .sv (.bool (z2z s)))with find:=some λl _=>match l with
 | [a]=>gs a
 |_=>none}
def zln:z8e.σ->WayF:=λs=>{
 ann:=λ_ _ _=>some {σ:=Nat×ByteArray,pre:=λ⟨j,q⟩=>j<=s.size+1/\q.size<=j/\zfs s (s.size+1- j) j q=z2z s,t:=λ⟨j,q⟩=>[(3, .sv (.string q)),(4, .sv (.int .i64 (j:Int)))],h:=λ_=>[],more:=0,μ:=λ⟨j,q⟩=>s.size+1- j,keep:=[0,2]}}
def z4r(s:ByteArray):Nat->ByteArray
 |0=>mkS []
 |i+1=>if bat s i=46 then s.extract 0 i else z4r s i
def z4s:Ct:={ctQ ByteArray (λs=>[.sv (.string s)]) (λs=>s.size<1000000) (λ_=>{}) (λs=> .sv (.string (z4r s s.size)))with find:=some λl _=>match l with
 | [a]=>gs a
 |_=>none}
def ze3:z4s.σ->WayF:=λs=>{
 ann:=λ_ _ _=>some {σ:=Nat,pre:=λj=>j<=s.size/\z4r s j=z4r s s.size,t:=λj=>[(3, .sv (.int .i64 ((j:Int)- 1)))],h:=λ_=>[],more:=0,μ:=λj=>j,keep:=[0,2]}}
def zks(s:ByteArray):Nat->Nat->Bool
 |0,_=>false
 |f+1,i=>if i<s.size then decide (bat s i=46)||zks s f (i+1)else false
def zu8(s:ByteArray):Bool:=zks s s.size 0
def z13(nm sp:ByteArray):ByteArray:=if zu8 nm=true then nm else z20 sp nm
def whE(nm sp:ByteArray) (e:Int):Int:=if nm=mkS []\/z2z (z13 nm sp)=false then faE e 6 else e
def zhq(l:List AV) (h:T AO):Option (Sel (List AT×Int×ByteArray×ByteArray)):=match l with
  | [.ptr id _,a,b]=>match mkE h id with
    | some e=>match gs a with
      | some a=>match gs b with
        |some b=>some ⟨List AT,λS=>(S,e,a,b)⟩
        |none=>none
      |none=>none
    |none=>none
  |_=>none
def z51:Ct where
 σ:=List AT×Int×ByteArray×ByteArray
 args:=λ⟨S,e,a,b⟩=>[.ptr 1 0, .sv (.string a), .sv (.string b)]
 h:=λ⟨S,e,a,b⟩=>mkO S e 2 3
 m:=4
 pre:=λ⟨S,e,a,b⟩=>a.size<10000/\b.size<50000
 sel:=some zhq
 r:=λ⟨S,e,a,b⟩=> .sv (.string (z13 a b))
 h':=λ⟨S,e,a,b⟩=>mkO S (whE a b e) 2 3
 m':=4
 g:=λ_=>none
def zlu:z51.σ->WayF:=λ⟨S,e,a,b⟩=>{
 ann:=λ_ _ _=>some {σ:=Nat×ByteArray,pre:=λ⟨j,q⟩=>j<=a.size/\((if zks a (a.size- j) j=true then a else q)=z13 a b),t:=λ⟨j,q⟩=>[(7, .sv (.string q)),(8, .sv (.int .i64 (j:Int)))],h:=λ_=>[],more:=0,μ:=λ⟨j,q⟩=>a.size- j,keep:=[0,1,2,6]}}
def z0c(s:ByteArray) (g:GJ):Option GJ:=if g.k=6 then z34 s g.nm g.l else none
def z45:Ct:=ctQ (GJ×ByteArray) (λ⟨g,s⟩=>[g.av, .sv (.string s)]) (λ⟨g,s⟩=>g.wf) (λ⟨g,s⟩=>gM g) λ⟨g,s⟩=> .tup [((z0c s g).getD zJ).av, .sv (.bool (z0c s g).isSome)]
def zvg:z45.σ->WayF:=λ⟨g,s⟩=>{
 ann:=λ_ _ _=>some {σ:=Nat,pre:=λj=>j<=g.nm.length/\(if g.k=6 then z34 s (g.nm.drop j) (g.l.drop j)else none)=z0c s g,t:=λj=>[(6, .sv (.int .i64 (j:Int)))],h:=λ_=>[],more:=0,μ:=λj=>g.nm.length- j,keep:=[1,2,4,5]}}
def woR(g:GJ) (s:ByteArray) (must:Bool) (e:Int):ByteArray×Int:=match z0c s g with
 |none=>if must=true then(mkS [],faE e 2)else(mkS [],e)
 |some t=>if t.k=4 then(t.s,e)else(mkS [],faE e 2)
def z61:Ct where
 σ:=List AT×Int×GJ×ByteArray×Bool
 args:=λ⟨S,e,g,s,b⟩=>[.ptr 1 0,g.av, .sv (.string s), .sv (.bool b)]
 h:=λ⟨S,e,g,s,b⟩=>mkO S e 2 3
 m:=4
 pre:=λ⟨S,e,g,s,b⟩=>g.wf
 mem:=λ⟨S,e,g,s,b⟩=>gM g
 r:=λ⟨S,e,g,s,b⟩=> .sv (.string (woR g s b e).1)
 h':=λ⟨S,e,g,s,b⟩=>mkO S (woR g s b e).2 2 3
 m':=4
 g:=λ_=>none
def zg7(S:List AT) (e0 e:Int):qm2 P (λ_=>none) Try.f25 z1j (λ_=>{}) ⟨S,e0,e⟩=(True->(decide (e0=(0:Int))=true->List.length S=List.length S/\faE e0 e=e/\z00 AT.cells S=z00 AT.cells S/\True)/\(decide (e0=(0:Int))=false->List.length S=List.length S/\faE e0 e=e0/\z00 AT.cells S=z00 AT.cells S/\True)):=by kernel_rfl
def zm4(S:List AT) (e:Int) (t:AT):qm2 P (qh2 [(25,z1j)]) Try.f31 zt8 (λ_=>{}) ⟨S,e,t⟩=(True->(decide ((60:Int)<=(↑(length S):Int))=true->∃(b:List AT),(3:Int)=(3:Int)/\length b=length S/\e=e/\z00 AT.cells b=z00 AT.cells S/\True/\adR S=(0:Int)/\length (adS S t)=length b/\adE S e=faE e (3:Int)/\z00 AT.cells (adS S t)=z00 AT.cells b/\True)/\(decide ((60:Int)<=(↑(length S):Int))=false->length (z00 AT.cells S)=length S*(10:Nat)/\(length S+nat_lit 1)*(160:Nat)<=(140737488355328:Nat)/\((-9223372036854775808:Int)<=(↑(length S+nat_lit 1):Int)- (1:Int)/\(↑(length S+nat_lit 1):Int)- (1:Int)<=(9223372036854775807:Int))/\adR S=(↑(length S+nat_lit 1):Int)- (1:Int)/\length (adS S t)=length S+nat_lit 1/\adE S e=e/\z00 AT.cells (adS S t)=z00 AT.cells S++[int i64 (AT.k t),string (AT.nm t),slice (Prod.fst (AT.al t)) (Prod.fst (Prod.snd (AT.al t))) (Prod.snd (Prod.snd (AT.al t))),int i64 (AT.it t),slice (Prod.fst (AT.sy t)) (Prod.fst (Prod.snd (AT.sy t))) (Prod.snd (Prod.snd (AT.sy t))),bool (AT.hd t),string (AT.df t),int i64 (AT.sz t),slice (Prod.fst (AT.f t)) (Prod.fst (Prod.snd (AT.f t))) (Prod.snd (Prod.snd (AT.f t))),slice (Prod.fst (AT.br t)) (Prod.fst (Prod.snd (AT.br t))) (Prod.snd (Prod.snd (AT.br t)))]/\True)):=by kernel_rfl
section
variable (x0:ByteArray) (x1:Nat)
 abbrev j0e:=x1<=14/\zky x0 (drop x1 kinds) x1=z0b x0
 abbrev j24:=Jb ((↑x1:Int)+1)
 def j4f:=j24 x1/\z0b x0=(↑x1:Int)+1/\True
 def j4e:=j24 x1/\∃(i0:Nat),x0=x0/\(↑i0:Int)=(↑x1:Int)+1/\(j0e x0 i0)/\(14:Nat)- i0<14- x1/\True
 def j4d:=(0<=(↑x1:Int)/\(↑x1:Int)<(↑(nat_lit 14):Int))/\∃i0,qi8 [string (mkS [110,117,108,108]),string (mkS [98,111,111,108,101,97,110]),string (mkS [105,110,116]),string (mkS [108,111,110,103]),string (mkS [102,108,111,97,116]),string (mkS [100,111,117,98,108,101]),string (mkS [98,121,116,101,115]),string (mkS [115,116,114,105,110,103]),string (mkS [114,101,99,111,114,100]),string (mkS [101,110,117,109]),string (mkS [102,105,120,101,100]),string (mkS [97,114,114,97,121]),string (mkS [109,97,112]),string (mkS [117,110,105,111,110])] (nat_lit 0+toNat (↑x1:Int)*1) [string i0]/\Ji (i0=x0) (j4f x0 x1) (j4e x0 x1)
 def j4c:=Ji ((↑x1:Int)<Int.ofNat (nat_lit 14)) (j4d x0 x1) (z0b x0=0/\True)
 def j4b:=(∃(i0:Nat),x0=x0/\(↑i0:Int)=0/\(j0e x0 i0)/\True)/\∀(i1:Nat),j0e x0 i1->j4c x0 i1
end
def zgx(s:ByteArray):qm2 P (λ_=>none) Try.f30 zbm (zvh) s=(True->j4b s):=by kernel_rfl
def zn1:=λs=>Eq.trans (zgx s) (by delta Ji Jb Jt Jf j0e j24 j4f j4e j4d j4c j4b;exact rfl)
section
variable (x0:Int)
 abbrev j4i:=(0<=x0/\x0<(↑(nat_lit 15):Int))/\∃i0,qi8 [string (mkS []),string (mkS [110,117,108,108]),string (mkS [98,111,111,108,101,97,110]),string (mkS [105,110,116]),string (mkS [108,111,110,103]),string (mkS [102,108,111,97,116]),string (mkS [100,111,117,98,108,101]),string (mkS [98,121,116,101,115]),string (mkS [115,116,114,105,110,103]),string (mkS [114,101,99,111,114,100]),string (mkS [101,110,117,109]),string (mkS [102,105,120,101,100]),string (mkS [97,114,114,97,121]),string (mkS [109,97,112]),string (mkS [117,110,105,111,110])] (nat_lit 0+toNat x0*1) [string i0]/\z36 x0=i0/\True
 def j4h:=Ji (14<x0) (z36 x0=mkS []/\True) (j4i x0)
 def j4g:=Ji (x0<1) (z36 x0=mkS []/\True) (j4h x0)
end
def zec(k:Int):qm2 P (λ_=>none) Try.f69 zmi (λ_=>{}) k=(True->j4g k):=by kernel_rfl
def zib:=λk=>Eq.trans (zec k) (by delta Ji Jt Jf j4i j4h j4g;exact rfl)
section
variable (x0:ByteArray) (x1:List AT) (x2:Int) (x3:Nat) (x4:Int) (x5:Prop)
 abbrev zvu:=length x1=length x1/\x2=x2/\z00 AT.cells x1=z00 AT.cells x1/\x5
 def j0g:=x3<=length x1/\findF x0 (drop x3 x1) x3=findF x0 x1 0
 def j0f:=Jb ((↑x3:Int)+1)/\∃(i0:Nat),x0=x0/\(↑i0:Int)=(↑x3:Int)+1/\zvu x1 x2 ((j0g x0 x1 i0)/\length x1- i0<length x1- x3/\True)
 def j4n:=Ji (x2<=11) (fnI (findF x0 x1 0)=(↑x3:Int)/\Option.isSome (findF x0 x1 0)=true/\zvu x1 x4 True) (j0f x0 x1 x4 x3)
 def j4m:=Ji (9<=x2) (j4n x0 x1 x2 x3 x4) (j0f x0 x1 x4 x3)
 def j4l:=(0<=(↑x3:Int)/\(↑x3:Int)<(↑(length x1):Int))/\∃(i0:Int),∃i1,∃i2,∃(i3:Nat),∃(i4:Nat),∃(i5:Int),∃i6,∃(i7:Nat),∃(i8:Nat),∃(i9:Bool),∃i10,∃(i11:Int),∃i12,∃(i13:Nat),∃(i14:Nat),∃i15,∃(i16:Nat),∃(i17:Nat),qi8 (z00 AT.cells x1) (nat_lit 0+toNat (↑x3:Int)*nat_lit 10) [int i64 i0,string i1,slice i2 i3 i4,int i64 i5,slice i6 i7 i8,bool i9,string i10,int i64 i11,slice i12 i13 i14,slice i15 i16 i17]/\Ji (i1=x0) (j4m x0 x1 i0 x3 x2) (j0f x0 x1 x2 x3)
 def j4o:=fnI (findF x0 x1 0)=0/\Option.isSome (findF x0 x1 0)=false/\zvu x1 x2 True
 def j4k:=Ji ((↑x3:Int)<(↑(length x1):Int)) (j4l x0 x1 x2 x3) (j4o x0 x1 x2)
 def j4j:=(∃(i0:Nat),x0=x0/\(↑i0:Int)=0/\zvu x1 x2 ((j0g x0 x1 i0)/\True))/\∀(i1:Nat),j0g x0 x1 i1->j4k x0 x1 x2 i1
end
def zbx(S:List AT) (e:Int) (s:ByteArray):qm2 P (λ_=>none) Try.f47 zbi (zvf) ⟨S,e,s⟩=(length S<1000->j4j s S e):=by kernel_rfl
def zg9:=λS e s=>Eq.trans (zbx S e s) (by delta Ji Jb Jt Jf zvu j0g j0f j4n j4m j4l j4o j4k j4j;exact rfl)
def zv5(S:List AT) (t:Int):qm2 P (qh2 [(69,zmi)]) Try.f49 j19 (λ_=>{}) ⟨S,t⟩=(length S<(1000:Nat)->(decide (t<(0:Int))=true->zdl S t=mkS []/\z00 AT.cells S=z00 AT.cells S/\True)/\(decide (t<(0:Int))=false->(decide ((↑(length S):Int)<=t)=true->zdl S t=mkS []/\z00 AT.cells S=z00 AT.cells S/\True)/\(decide ((↑(length S):Int)<=t)=false->((0:Int)<=t/\t<(↑(length S):Int))/\∃(s:ByteArray),qi8 (z00 AT.cells S) (nat_lit 0+toNat t*nat_lit 10+(1:Nat)) [string s]/\((!decide (s=mkS []))=true->((0:Int)<=t/\t<(↑(length S):Int))/\∃(s:ByteArray),qi8 (z00 AT.cells S) (nat_lit 0+toNat t*nat_lit 10+(1:Nat)) [string s]/\zdl S t=s/\z00 AT.cells S=z00 AT.cells S/\True)/\((!decide (s=mkS []))=false->((0:Int)<=t/\t<(↑(length S):Int))/\∃(n:Int),qi8 (z00 AT.cells S) (nat_lit 0+toNat t*nat_lit 10+(0:Nat)) [int i64 n]/\∃(s:Int),s=n/\True/\zdl S t=z36 s/\z00 AT.cells S=z00 AT.cells S/\True)))):=by kernel_rfl
def join_eq(a b:ByteArray):qm2 P (λ_=>none) Try.f48 zfz (λ_=>{}) ⟨a,b⟩=(size a<(1000000:Nat)/\size b<(1000000:Nat)->(decide (a=mkS [])=true->size a+size b<=(9223372036854775807:Nat)/\z20 a b=a++b/\True)/\(decide (a=mkS [])=false->(decide (b=mkS [])=true->size a+size b<=(9223372036854775807:Nat)/\z20 a b=a++b/\True)/\(decide (b=mkS [])=false->size a+size (mkS [(46:Nat)])<=(9223372036854775807:Nat)/\size (a++mkS [(46:Nat)])+size b<=(9223372036854775807:Nat)/\z20 a b=a++mkS [(46:Nat)]++b/\True))):=by kernel_rfl
def zcp(c:Int):qm2 P (λ_=>none) Try.f82 z70 (λ_=>{}) c=((0:Int)<=c/\c<(256:Int)->(decide ((97:Int)<=c)=true->(decide (c<=(122:Int))=true->isLt (toNat c)=true/\True)/\(decide (c<=(122:Int))=false->(decide ((65:Int)<=c)=true->(decide (c<=(90:Int))=true->isLt (toNat c)=true/\True)/\(decide (c<=(90:Int))=false->isLt (toNat c)=decide (c=(95:Int))/\True))/\(decide ((65:Int)<=c)=false->isLt (toNat c)=decide (c=(95:Int))/\True)))/\(decide ((97:Int)<=c)=false->(decide ((65:Int)<=c)=true->(decide (c<=(90:Int))=true->isLt (toNat c)=true/\True)/\(decide (c<=(90:Int))=false->isLt (toNat c)=decide (c=(95:Int))/\True))/\(decide ((65:Int)<=c)=false->isLt (toNat c)=decide (c=(95:Int))/\True))):=by kernel_rfl
def zg4(c:Int):qm2 P (λ_=>none) Try.f83 zbh (λ_=>{}) c=((0:Int)<=c/\c<(256:Int)->(decide ((48:Int)<=c)=true->zmy (Int.toNat c)=decide (c<=(57:Int))/\True)/\(decide ((48:Int)<=c)=false->zmy (Int.toNat c)=false/\True)):=by kernel_rfl
section
variable (x0:ByteArray) (x1:Nat) (x2:Prop)
 abbrev j0h:=x1<=size x0/\ptA x0 (size x0- x1) x1=ptA x0 (size x0) 0
 abbrev zii:=(↑(bat x0 (toNat (↑x1:Int))):Int)
 def j26:=(0<=(↑x1:Int)/\(↑x1:Int)<(↑(size x0):Int))/\(zii x0 x1)=(zii x0 x1)/\(0<=(zii x0 x1)/\(zii x0 x1)<256)/\x2
 def j25:=Jb ((↑x1:Int)+1)/\∃(i0:Nat),x0=x0/\(↑i0:Int)=(↑x1:Int)+1/\(j0h x0 i0)/\size x0- i0<size x0- x1/\True
 def j4t:=j26 x0 x1 (((!zmy (toNat (zii x0 x1)))=true->z21 x0=false/\True)/\((!zmy (toNat (zii x0 x1)))=false->j25 x0 x1))
 def j4s:=Ji ((↑x1:Int)=0) (z21 x0=false/\True) (j4t x0 x1)
 def j4r:=j26 x0 x1 (((!isLt (toNat (zii x0 x1)))=true->j4s x0 x1)/\((!isLt (toNat (zii x0 x1)))=false->j25 x0 x1))
 def j4q:=Ji ((↑x1:Int)<(↑(size x0):Int)) (j4r x0 x1) (z21 x0=decide (0<(↑(size x0):Int))/\True)
 def j4p:=(∃(i0:Nat),x0=x0/\(↑i0:Int)=0/\(j0h x0 i0)/\True)/\∀(i1:Nat),j0h x0 i1->j4q x0 i1
end
def zhc(s:ByteArray):qm2 P (qh2 [(82,z70),(83,zbh)]) Try.f71 z9w (zvj) s=(size s<1000000->j4p s):=by kernel_rfl
def znk:=λs=>Eq.trans (zhc s) (by delta Ji Jb Jt Jf j0h zii j26 j25 j4t j4s j4r j4q j4p;exact rfl)
section
variable (x0:ByteArray) (x1 x2:Nat×ByteArray)
 abbrev j0i:=x1.1<=size x0+1/\size x1.2<=x1.1/\zfs x0 (size x0+1- x1.1) x1.1 x1.2=z2z x0
 abbrev j0j:=Jb ((↑x1.1:Int)+1)
 def j28:=(↑x1.1:Int)=(↑x2.1:Int)+1/\(j0i x0 x1)/\size x0+1- x1.1<size x0+1- x2.1/\True
 def j4y:=j0j x1/\(0<=(↑x1.1:Int)/\(↑x1.1:Int)<=(↑x1.1:Int)+1/\(↑x1.1:Int)+1<=(↑(size x0):Int))/\size x1.2+size (ByteArray.extract x0 (toNat (↑x1.1:Int)) (toNat ((↑x1.1:Int)+1)))<=9223372036854775807/\j0j x1/\∃(i0:Nat×ByteArray),x0=x0/\i0.2=x1.2++ByteArray.extract x0 (toNat (↑x1.1:Int)) (toNat ((↑x1.1:Int)+1))/\j28 x0 i0 x1
 def j4z:=j0j x1/\∃(i0:Nat×ByteArray),x0=x0/\i0.2=mkS []/\j28 x0 i0 x1
 def j27:=x1.2=x1.2/\size x1.2<1000000/\((!z21 x1.2)=true->z2z x0=false/\True)/\((!z21 x1.2)=false->j4z x0 x1)
 def j4x:=(0<=(↑x1.1:Int)/\(↑x1.1:Int)<(↑(size x0):Int))/\((!decide ((↑(bat x0 (toNat (↑x1.1:Int))):Int)=46))=true->j4y x0 x1)/\((!decide ((↑(bat x0 (toNat (↑x1.1:Int))):Int)=46))=false->j27 x0 x1)
 def j4w:=Ji ((↑x1.1:Int)<(↑(size x0):Int)) (j4x x0 x1) (j27 x0 x1)
 def j4v:=Ji ((↑x1.1:Int)<=(↑(size x0):Int)) (j4w x0 x1) (z2z x0=true/\True)
 def j4u:=(∃(i0:Nat×ByteArray),x0=x0/\i0.2=mkS []/\(↑i0.1:Int)=0/\(j0i x0 i0)/\True)/\∀(i1:Nat×ByteArray),j0i x0 i1->j4v x0 i1
end
def zcz(s:ByteArray):qm2 P (qh2 [(71,z9w)]) Try.f70 z8e (zln) s=(size s<100000->j4u s):=by kernel_rfl
def parts_eq:=λs=>Eq.trans (zcz s) (by delta Ji Jb Jt Jf j0i j0j j28 j4y j4z j27 j4x j4w j4v j4u;exact rfl)
section
variable (x0:ByteArray) (x1:Nat)
 abbrev j0k:=x1<=size x0/\z4r x0 x1=z4r x0 (size x0)
 abbrev j0l:=0<=(↑x1:Int)- 1
 def j54:=(j0l x1/\(↑x1:Int)- 1<=(↑(size x0):Int))/\z4r x0 (size x0)=ByteArray.extract x0 0 (toNat ((↑x1:Int)- 1))/\True
 def j53:=Jb ((↑x1:Int)- 1- 1)/\∃(i0:Nat),x0=x0/\(↑i0:Int)- 1=(↑x1:Int)- 1- 1/\(j0k x0 i0)/\i0<x1/\True
 def j52:=(j0l x1/\(↑x1:Int)- 1<(↑(size x0):Int))/\Ji ((↑(bat x0 (toNat ((↑x1:Int)- 1))):Int)=46) (j54 x0 x1) (j53 x0 x1)
 def j51:=Ji (j0l x1) (j52 x0 x1) (z4r x0 (size x0)=mkS []/\True)
 def j50:=Jb ((↑(size x0):Int)- 1)/\(∃(i0:Nat),x0=x0/\(↑i0:Int)- 1=(↑(size x0):Int)- 1/\(j0k x0 i0)/\True)/\∀(i1:Nat),j0k x0 i1->j51 x0 i1
end
def z9r(s:ByteArray):qm2 P (λ_=>none) Try.f52 z4s (ze3) s=(size s<1000000->j50 s):=by kernel_rfl
def zbe:=λs=>Eq.trans (z9r s) (by delta Ji Jb Jt Jf j0k j0l j54 j53 j52 j51 j50;exact rfl)
section
variable (x0 x1:ByteArray) (x2:List AT) (x3:Int) (x4:Nat×ByteArray) (x5:Prop) (x6:Nat×ByteArray)
 abbrev j2b:=x4.1<=size x0/\(if zks x0 (size x0- x4.1) x4.1=true then x0 else x4.2)=z13 x0 x1
 def j29:=length x2=length x2/\x3=x3/\z00 AT.cells x2=z00 AT.cells x2/\(j2b x0 x1 x4)/\x5
 abbrev zoj:=Jb ((↑x4.1:Int)+1)
 def zok:=x0=x0/\(↑x4.1:Int)=(↑x6.1:Int)+1/\j29 x1 x0 x2 x3 x4 (size x1- x4.1<size x1- x6.1/\True)
 def j5a:=zoj x4/\∃(i0:Nat×ByteArray),x0=x0/\i0.2=x0/\zok x1 x0 x2 x3 i0 x4
 def j59:=zoj x4/\∃(i0:Nat×ByteArray),x0=x0/\i0.2=x4.2/\zok x1 x0 x2 x3 i0 x4
 def j57:=(0<=(↑x4.1:Int)/\(↑x4.1:Int)<(↑(size x0):Int))/\Ji ((↑(bat x0 (toNat (↑x4.1:Int))):Int)=46) (j5a x0 x1 x2 x3 x4) (j59 x0 x1 x2 x3 x4)
 def j2a:=∃(i0:List AT),(6:Int)=6/\length i0=length x2/\x3=x3/\z00 AT.cells i0=z00 AT.cells x2/\True/\z13 x0 x1=x4.2/\length x2=length i0/\whE x0 x1 x3=faE x3 6/\z00 AT.cells x2=z00 AT.cells i0/\True
 def j5b:=x4.2=x4.2/\size x4.2<100000/\((!z2z x4.2)=true->j2a x0 x1 x2 x3 x4)/\((!z2z x4.2)=false->z13 x0 x1=x4.2/\length x2=length x2/\whE x0 x1 x3=x3/\z00 AT.cells x2=z00 AT.cells x2/\True)
 def j58:=Ji (x0=mkS []) (j2a x0 x1 x2 x3 x4) (j5b x0 x1 x2 x3 x4)
 def j56:=Ji ((↑x4.1:Int)<(↑(size x0):Int)) (j57 x0 x1 x2 x3 x4) (j58 x0 x1 x2 x3 x4)
 def j55:=x0=x0/\x1=x1/\(size x0<1000000/\size x1<1000000)/\(∃(i0:Nat×ByteArray),x1=x1/\i0.2=z20 x0 x1/\x0=x0/\(↑i0.1:Int)=0/\j29 x1 x0 x2 x3 i0 True)/\∀(i1:Nat×ByteArray),j2b x1 x0 i1->j56 x1 x0 x2 x3 i1
end
def zan(S:List AT) (e:Int) (a b:ByteArray):qm2 P (qh2 [(48,zfz),(70,z8e),(25,z1j)]) Try.f51 z51 (zlu) ⟨S,e,a,b⟩=(size a<10000/\size b<50000->j55 b a S e):=by kernel_rfl
def zea:=λS e a b=>Eq.trans (zan S e a b) (by delta Ji Jb Jt Jf j2b j29 zoj zok j5a j59 j57 j2a j5b j58 j56 j55;exact rfl)
section
variable (x0:ByteArray) (x1:GJ) (x2:Nat) (x3:Prop)
 abbrev j2d:=x2<=length (GJ.nm x1)/\(if GJ.k x1=6 then z34 x0 (drop x2 (GJ.nm x1)) (drop x2 (GJ.l x1))else none)=z0c x0 x1
 def j2c:=GJ.k x1=GJ.k x1/\GJ.n x1=GJ.n x1/\GJ.s x1=GJ.s x1/\(GJ.y x1).1=(GJ.y x1).1/\(GJ.y x1).2.1=(GJ.y x1).2.1/\(GJ.y x1).2.2=(GJ.y x1).2.2/\(GJ.x x1).1=(GJ.x x1).1/\(GJ.x x1).2.1=(GJ.x x1).2.1/\(GJ.x x1).2.2=(GJ.x x1).2.2/\(∀i0,True/\GJ.ok x1 i0->True/\GJ.ok x1 i0)/\(j2d x0 x1 x2)/\x3
 abbrev zol:=(↑x2:Int)<(↑(GJ.x x1).2.1:Int)
 abbrev zom:=(↑x2:Int)<(↑(GJ.y x1).2.1:Int)
 abbrev z7f:=GJ.y (Option.getD (z0c x0 x1) zJ)
 abbrev z7g:=GJ.x (Option.getD (z0c x0 x1) zJ)
 def j5h:=(0<=(↑x2:Int)/\zom x1 x2)/\(GJ.y x1).1≠noA/\∃(i0:Int),∃(i1:Int),∃i2,∃i3,∃(i4:Nat),∃(i5:Nat),∃i6,∃(i7:Nat),∃(i8:Nat),(∀i9,True/\GJ.ok x1 i9->q3p i9 (adr (GJ.y x1).1 (toNat (↑x2:Int)*5)) [int i64 i0,int i64 i1,string i2,slice i3 i4 i5,slice i6 i7 i8])/\GJ.k (Option.getD (z0c x0 x1) zJ)=i0/\GJ.n (Option.getD (z0c x0 x1) zJ)=i1/\GJ.s (Option.getD (z0c x0 x1) zJ)=i2/\(z7f x0 x1).1=i3/\(z7f x0 x1).2.1=i4/\(z7f x0 x1).2.2=i5/\(z7g x0 x1).1=i6/\(z7g x0 x1).2.1=i7/\(z7g x0 x1).2.2=i8/\Option.isSome (z0c x0 x1)=true/\True
 def j5i:=Jb ((↑x2:Int)+1)/\∃(i0:Nat),x0=x0/\(↑i0:Int)=(↑x2:Int)+1/\j2c x0 x1 i0 (length (GJ.nm x1)- i0<length (GJ.nm x1)- x2/\True)
 def j5g:=(0<=(↑x2:Int)/\zol x1 x2)/\(GJ.x x1).1≠noA/\∃i0,(∀i1,True/\GJ.ok x1 i1->q3p i1 (adr (GJ.x x1).1 (toNat (↑x2:Int)*1)) [string i0])/\Ji (i0=x0) (j5h x0 x1 x2) (j5i x0 x1 x2)
 def j0m:=GJ.k (Option.getD (z0c x0 x1) zJ)=0/\GJ.n (Option.getD (z0c x0 x1) zJ)=0/\GJ.s (Option.getD (z0c x0 x1) zJ)=mkS []/\(z7f x0 x1).1=noA/\(z7f x0 x1).2.1=0/\(z7f x0 x1).2.2=0/\(z7g x0 x1).1=noA/\(z7g x0 x1).2.1=0/\(z7g x0 x1).2.2=0/\Option.isSome (z0c x0 x1)=false/\True
 abbrev j5f:=Ji (zom x1 x2) (j5g x0 x1 x2) (j0m x0 x1)
 abbrev j5e:=Ji (zol x1 x2) (j5f x0 x1 x2) (j0m x0 x1)
 def j5d:=Ji (GJ.k x1=6) (j5e x0 x1 x2) (j0m x0 x1)
 def j5c:=(∃(i0:Nat),x0=x0/\(↑i0:Int)=0/\j2c x0 x1 i0 True)/\∀(i2:Nat),j2d x0 x1 i2->j5d x0 x1 i2
end
def zgo(g:GJ) (s:ByteArray):qm2 P (λ_=>none) Try.f28 z45 (zvg) ⟨g,s⟩=(GJ.wf g->(∃(p:Pub),True/\GJ.ok g p)->j5c s g):=by kernel_rfl
def zmq:=λg s=>Eq.trans (zgo g s) (by delta Ji Jb Jt Jf j2d j2c zol zom z7f z7g j5h j5i j5g j0m j5f j5e j5d j5c;exact rfl)
section
variable (x0:GJ×ByteArray) (x1:List AT) (x2:Int) (x3:GJ) (x4:ByteArray) (x5:Bool)
 def j5m:=(woR x3 x4 x5 x2).1=mkS []/\length x1=length x1/\(woR x3 x4 x5 x2).2=x2/\z00 AT.cells x1=z00 AT.cells x1/\True
 def j2f:=∃(i0:List AT),(2:Int)=2/\length i0=length x1/\x2=x2/\z00 AT.cells i0=z00 AT.cells x1/\True/\(woR x3 x4 x5 x2).1=mkS []/\length x1=length i0/\(woR x3 x4 x5 x2).2=faE x2 2/\z00 AT.cells x1=z00 AT.cells i0/\True
 def j5l:=(woR x3 x4 x5 x2).1=GJ.s (Option.getD (z0c x0.2 x0.1) zJ)/\length x1=length x1/\(woR x3 x4 x5 x2).2=x2/\z00 AT.cells x1=z00 AT.cells x1/\True
 def j5j:=((!decide (GJ.k (Option.getD (z0c x0.2 x0.1) zJ)=4))=true->j2f x1 x2 x3 x4 x5)/\((!decide (GJ.k (Option.getD (z0c x0.2 x0.1) zJ)=4))=false->j5l x0 x1 x2 x3 x4 x5)
 def j2e:=((!Option.isSome (z0c x0.2 x0.1))=true->j2f x1 x2 x3 x4 x5)/\((!Option.isSome (z0c x0.2 x0.1))=false->j5j x0 x1 x2 x3 x4 x5)
 def j5k:=((!x5)=true->j5m x1 x2 x3 x4 x5)/\((!x5)=false->j2e x0 x1 x2 x3 x4 x5)
end
def zed(S:List AT) (e:Int) (g:GJ) (s:ByteArray) (b:Bool):qm2 P (qh2 [(28,z45),(25,z1j)]) Try.f50 z61 (λ_=>{}) ⟨S,e,g,s,b⟩=(GJ.wf g->(∃(p:Pub),True/\GJ.ok g p)->∃(s_1:GJ×ByteArray),GJ.k s_1.1=GJ.k g/\GJ.n s_1.1=GJ.n g/\GJ.s s_1.1=GJ.s g/\(GJ.y s_1.1).1=(GJ.y g).1/\(GJ.y s_1.1).2.1=(GJ.y g).2.1/\(GJ.y s_1.1).2.2=(GJ.y g).2.2/\(GJ.x s_1.1).1=(GJ.x g).1/\(GJ.x s_1.1).2.1=(GJ.x g).2.1/\(GJ.x s_1.1).2.2=(GJ.x g).2.2/\s_1.2=s/\GJ.wf s_1.1/\(∀(p:Pub),True/\GJ.ok g p->GJ.ok s_1.1 p)/\((!Option.isSome (z0c s_1.2 s_1.1))=true->j5k s_1 S e g s b)/\((!Option.isSome (z0c s_1.2 s_1.1))=false->j2e s_1 S e g s b)):=by kernel_rfl
def zid:=λS e g s b=>Eq.trans (zed S e g s b) (by delta j5m j2f j5l j5j j2e j5k;exact rfl)
section
variable (x0:SV) (x1:Int) (x2:List Int) (x3:Int) (x4:Prop)
 abbrev j2g:=x0.1=x0.1/\x0.2.1=x0.2.1/\x0.2.2=x0.2.2/\x4
 def j5p:=z0u x2 x1 x3=0/\j2g x0 (z07 x2 x1=x1/\True)
 def j5o:=Jb (x1+1)/\Jb (x1+1- 1)/\(0<=x1+1- 1/\x1+1- 1<(↑x0.2.1:Int))/\x0.1≠noA/\∃(i0:Int),(∀i1,True/\slP byV x0 x2 i1->q3p i1 (adr x0.1 (toNat (x1+1- 1)*1)) [int u8 i0])/\Jb (i0)/\x3≠0/\z0u x2 x1 x3=Int.tmod i0 x3/\j2g x0 (z07 x2 x1=x1+1/\True)
 def j5n:=Ji ((↑x0.2.1:Int)<=x1) (j5p x0 x1 x2 x3) (j5o x0 x1 x2 x3)
end
def znf(x:SV) (L:List Int) (n m:Int):qm2 P (λ_=>none) Try.f32 zt9 (λ_=>{}) ⟨x,L,n,m⟩=(0<=n/\n<=(↑(length L):Int)/\0<m/\m<1000000/\z0q L->(∃(p:Pub),True/\slP byV x L p)->j5n x n L m):=by kernel_rfl
def zup:=λx L n m=>Eq.trans (znf x L n m) (by delta Ji Jb Jt Jf j2g j5p j5o j5n;exact rfl)
def zni(x:SV) (L:List Int) (n:Int):qm2 P (λ_=>none) Try.f56 zmg (λ_=>{}) ⟨x,L,n⟩=(True->(∃(p:Nat->Option Obj),True/\slP byV x L p)->decide ((↑(List.length L):Int)<=n)=decide ((↑(Prod.fst (Prod.snd x)):Int)<=n)/\Prod.fst x=Prod.fst x/\Prod.fst (Prod.snd x)=Prod.fst (Prod.snd x)/\Prod.snd (Prod.snd x)=Prod.snd (Prod.snd x)/\n=n/\True):=by kernel_rfl
def zo6(s:ByteArray):qm2 P (λ_=>none) Try.f35 z9x (λ_=>{}) s=(True->s=s/\True):=by kernel_rfl
def zdi(u:Unit):qm2 P (λ_=>none) Try.f34 z4i (λ_=>{}) N3.two=(True->True):=by kernel_rfl
def zdj(u:Unit):qm2 P (λ_=>none) Try.f34 z4i (λ_=>{}) N3.three=(True->True):=by kernel_rfl
def zdk(u:Unit):qm2 P (λ_=>none) Try.f34 z4i (λ_=>{}) N3.four=(True->True):=by kernel_rfl
section
variable (x0:ByteArray) (x1:GJ) (x2:Nat) (x3:Prop)
 abbrev j2i:=x2<=length (GJ.nm x1)/\z34 x0 (drop x2 (GJ.nm x1)) (drop x2 (GJ.l x1))=z34 x0 (GJ.nm x1) (GJ.l x1)
 def j2h:=GJ.k x1=GJ.k x1/\GJ.n x1=GJ.n x1/\GJ.s x1=GJ.s x1/\(GJ.y x1).1=(GJ.y x1).1/\(GJ.y x1).2.1=(GJ.y x1).2.1/\(GJ.y x1).2.2=(GJ.y x1).2.2/\(GJ.x x1).1=(GJ.x x1).1/\(GJ.x x1).2.1=(GJ.x x1).2.1/\(GJ.x x1).2.2=(GJ.x x1).2.2/\(∀i0,True/\GJ.ok x1 i0->True/\GJ.ok x1 i0)/\(j2i x0 x1 x2)/\x3
 abbrev j2j:=(↑x2:Int)<(↑(GJ.x x1).2.1:Int)
 abbrev z5i:=Option.getD (z34 x0 (GJ.nm x1) (GJ.l x1)) zJ
 def j5t:=(0<=(↑x2:Int)/\(↑x2:Int)<(↑(GJ.y x1).2.1:Int))/\(GJ.y x1).1≠noA/\∃(i0:Int),∃(i1:Int),∃i2,∃i3,∃(i4:Nat),∃(i5:Nat),∃i6,∃(i7:Nat),∃(i8:Nat),(∀i9,True/\GJ.ok x1 i9->q3p i9 (adr (GJ.y x1).1 (toNat (↑x2:Int)*5)) [int i64 i0,int i64 i1,string i2,slice i3 i4 i5,slice i6 i7 i8])/\GJ.k (z5i x0 x1)=i0/\GJ.n (z5i x0 x1)=i1/\GJ.s (z5i x0 x1)=i2/\(GJ.y (z5i x0 x1)).1=i3/\(GJ.y (z5i x0 x1)).2.1=i4/\(GJ.y (z5i x0 x1)).2.2=i5/\(GJ.x (z5i x0 x1)).1=i6/\(GJ.x (z5i x0 x1)).2.1=i7/\(GJ.x (z5i x0 x1)).2.2=i8/\Option.isSome (z34 x0 (GJ.nm x1) (GJ.l x1))=true/\True
 def j5u:=Jb ((↑x2:Int)+1)/\∃(i0:Nat),x0=x0/\(↑i0:Int)=(↑x2:Int)+1/\j2h x0 x1 i0 (length (GJ.nm x1)- i0<length (GJ.nm x1)- x2/\True)
 def j5s:=(0<=(↑x2:Int)/\j2j x1 x2)/\(GJ.x x1).1≠noA/\∃i0,(∀i1,True/\GJ.ok x1 i1->q3p i1 (adr (GJ.x x1).1 (toNat (↑x2:Int)*1)) [string i0])/\Ji (i0=x0) (j5t x0 x1 x2) (j5u x0 x1 x2)
 def j5v:=GJ.k (z5i x0 x1)=0/\GJ.n (z5i x0 x1)=0/\GJ.s (z5i x0 x1)=mkS []/\(GJ.y (z5i x0 x1)).1=noA/\(GJ.y (z5i x0 x1)).2.1=0/\(GJ.y (z5i x0 x1)).2.2=0/\(GJ.x (z5i x0 x1)).1=noA/\(GJ.x (z5i x0 x1)).2.1=0/\(GJ.x (z5i x0 x1)).2.2=0/\Option.isSome (z34 x0 (GJ.nm x1) (GJ.l x1))=false/\True
 abbrev j5r:=Ji (j2j x1 x2) (j5s x0 x1 x2) (j5v x0 x1)
 def j5q:=(∃(i0:Nat),x0=x0/\(↑i0:Int)=0/\j2h x0 x1 i0 True)/\∀(i2:Nat),j2i x0 x1 i2->j5r x0 x1 i2
end
def zmr(g:GJ) (s:ByteArray):qm2 P (λ_=>none) Try.f58 j07 (j3v) ⟨g,s⟩=(GJ.wf g->(∃(p:Pub),True/\GJ.ok g p)->j5q s g):=by kernel_rfl
def get_eq:=λg s=>Eq.trans (zmr g s) (by delta Ji Jb Jt Jf j2i j2h j2j z5i j5t j5u j5s j5v j5r j5q;exact rfl)
section
variable (x0:GJ) (x1:SV) (x2:Int) (x3:List Int) (x4:Prop) (x5:Int) (x6:GJ×ByteArray) (x7:List Int)
 abbrev zor:=GJ.s x0=mkS [105,110,116]
 def zft:=x1.1=x1.1/\x1.2.1=x1.2.1/\x1.2.2=x1.2.2/\x4
 def zil:=zft x1 (x2=x2/\GJ.k x0=GJ.k x0/\GJ.n x0=GJ.n x0/\GJ.s x0=GJ.s x0/\(GJ.y x0).1=(GJ.y x0).1/\(GJ.y x0).2.1=(GJ.y x0).2.1/\(GJ.y x0).2.2=(GJ.y x0).2.2/\(GJ.x x0).1=(GJ.x x0).1/\(GJ.x x0).2.1=(GJ.x x0).2.1/\(GJ.x x0).2.2=(GJ.x x0).2.2/\(∀i0,True/\slP byV x1 x3 i0/\GJ.ok x0 i0->True/\slP byV x1 x3 i0/\GJ.ok x0 i0)/\x4)
 abbrev zoq:=GJ.s x0=mkS [108,111,110,103]
 abbrev zoo:=GJ.s x0=mkS [102,108,111,97,116]
 def zvx:=Ji (zoo x0) (∃(i0:Unit),GJ.s x0=GJ.s x0/\isNum (GJ.s x0)=decide (zoo x0)/\zil x0 x1 x2 x3 (True/\True)) (∃(i1:Unit),GJ.s x0=GJ.s x0/\isNum (GJ.s x0)=decide (GJ.s x0=mkS [100,111,117,98,108,101])/\zil x0 x1 x2 x3 (True/\True))
 def zvv:=Ji (zoq x0) (∃(i0:Unit),GJ.s x0=GJ.s x0/\isNum (GJ.s x0)=decide (zoq x0)/\zil x0 x1 x2 x3 (True/\True)) (zvx x0 x1 x2 x3)
 def zij:=x2=x2/\(0<=x2/\x2<=(↑(length x3):Int)/\0<x5/\x5<1000000/\z0q x3)/\(∀i0,True/\slP byV x1 x7 i0/\GJ.ok x0 i0->slP byV (x1.1,x1.2.1,x1.2.2) x3 i0)/\x4
 abbrev z3z:=(z26 x0 x3 x2).2.2
 abbrev zon:=GJ.s x0=mkS [115,116,114,105,110,103]
 abbrev zw0:=GJ.s x0=mkS [98,111,111,108,101,97,110]
 def zw2:=(z26 x0 x3 x2).1=x5/\(z26 x0 x3 x2).2.1=0/\(z3z x0 x2 x3).1=mkS []/\zft x1 ((z3z x0 x2 x3).2=x2/\True)
 def zik:=GJ.k x0=4/\(isNum (GJ.s x0)=true\/z35 (GJ.s x0)=true\/z75 (GJ.s x0)=true\/za7 (GJ.s x0)=true)
 def zvy:=Ji (GJ.s x0=mkS [110,117,108,108]) (zw2 x0 x1 x2 x3 1) (∃(i0:Unit),zil x0 x1 x2 x3 (¬(zik x0)/\True))
 def j62:=Ji (zw0 x0) (∃(i0:List Int),(2:Int)=2/\zft x1 (zij x0 x1 x2 i0 ((z26 x0 x3 x2).1=2/\(z26 x0 x3 x2).2.1=z0u i0 x2 2/\(z3z x0 x2 x3).1=mkS []/\zft x1 ((z3z x0 x2 x3).2=z07 i0 x2/\True)) 2 x3)) (zvy x0 x1 x2 x3)
 def j60:=(z35 (GJ.s x0)=true->∃(i0:List Int),(3:Int)=3/\zft x1 (zij x0 x1 x2 i0 ((0<=z0u i0 x2 3/\z0u i0 x2 (3:Int)<(↑(nat_lit 3):Int))/\∃i2,qi8 [string (mkS []),string (mkS [100]),string (mkS [195,164])] (nat_lit 0+toNat (z0u i0 x2 3)*1) [string i2]/\i2=i2/\True/\(z26 x0 x3 x2).1=4/\(z26 x0 x3 x2).2.1=0/\(z3z x0 x2 x3).1=i2/\zft x1 ((z3z x0 x2 x3).2=z07 i0 x2/\True)) 3 x3))/\(z35 (GJ.s x0)=false->j62 x0 x1 x2 x3)
 def j5z:=(Ji (zon x0) (∃(i0:Unit),GJ.s x0=GJ.s x0/\z35 (GJ.s x0)=decide (zon x0)/\zil x0 x1 x2 x3 (True/\True)) (∃(i2:Unit),GJ.s x0=GJ.s x0/\z35 (GJ.s x0)=decide (GJ.s x0=mkS [98,121,116,101,115])/\zil x0 x1 x2 x3 (True/\True)))/\∀(i4:Unit),True->j60 x0 x1 x2 x3
 def j5y:=(isNum (GJ.s x0)=true->∃(i0:List Int),(200:Int)=200/\zft x1 (zij x0 x1 x2 i0 (Jb (z0u i0 x2 200- 50)/\(z26 x0 x3 x2).1=3/\(z26 x0 x3 x2).2.1=z0u i0 x2 200- 50/\(z3z x0 x2 x3).1=mkS []/\zft x1 ((z3z x0 x2 x3).2=z07 i0 x2/\True)) 200 x3))/\(isNum (GJ.s x0)=false->j5z x0 x1 x2 x3)
 def j5x:=(Ji (zor x0) (∃(i0:Unit),GJ.s x0=GJ.s x0/\isNum (GJ.s x0)=decide (zor x0)/\zil x0 x1 x2 x3 (True/\True)) (zvv x0 x1 x2 x3))/\∀(i8:Unit),True->j5y x0 x1 x2 x3
 abbrev zop:=Option.getD (z34 x6.2 (GJ.nm x6.1) (GJ.l x6.1)) zJ
 abbrev zw1:=GJ.s (zop x6)=mkS [97,114,114,97,121]
 def zvz:=mkS [88]=mkS [88]/\True/\(z26 x0 x3 x2).1=4/\(z26 x0 x3 x2).2.1=0/\(z3z x0 x2 x3).1=mkS [88]/\zft x1 ((z3z x0 x2 x3).2=x2/\True)
 def zvw:=Ji (GJ.s (zop x6)=mkS [101,110,117,109]) (zvz x0 x1 x2 x3) (zw2 x0 x1 x2 x3 6)
 def j61:=Ji (GJ.k x0=5) (zw2 x0 x1 x2 x3 1) (∃(i0:GJ×ByteArray),GJ.k i0.1=GJ.k x0/\GJ.n i0.1=GJ.n x0/\GJ.s i0.1=GJ.s x0/\(GJ.y i0.1).1=(GJ.y x0).1/\(GJ.y i0.1).2.1=(GJ.y x0).2.1/\(GJ.y i0.1).2.2=(GJ.y x0).2.2/\(GJ.x i0.1).1=(GJ.x x0).1/\(GJ.x i0.1).2.1=(GJ.x x0).2.1/\(GJ.x i0.1).2.2=(GJ.x x0).2.2/\i0.2=mkS [116,121,112,101]/\GJ.wf i0.1/\(∀i1,True/\slP byV x1 x3 i1/\GJ.ok x0 i1->GJ.ok i0.1 i1)/\Ji (zw1 i0) (zw2 x0 x1 x2 x3 5) (zvw x0 x1 x2 x3 i0))
 def j5w:=(Ji (GJ.k x0=4) (j5x x0 x1 x2 x3) (∃(i23:Unit),zil x0 x1 x2 x3 (¬(zik x0)/\True)))/\∀(i25:Unit),¬(zik x0)->j61 x0 x1 x2 x3
end
def zg3(x:SV) (L:List Int) (n:Int) (g:GJ):qm2 P (qh2 [(32,zt9),(35,z9x),(58,j07)]) Try.f36 z3i (z9l) ⟨x,L,n,g⟩=(0<=n/\n<=(↑(length L):Int)/\z0q L/\GJ.wf g->(∃(p:Pub),True/\slP byV x L p/\GJ.ok g p)->j5w g x n L):=by kernel_rfl
def zmn:=λx L n g=>Eq.trans (zg3 x L n g) (by delta Ji Jb Jt Jf zor zft zil zoq zoo zvx zvv zij z3z zon zw0 zw2 zik zvy j62 j60 j5z j5y j5x zop zw1 zvz zvw j61 j5w;exact rfl)
def zug(c:Nat):ldN c<=4:=by
 unfold ldN;repeat' split
 all_goals omega
def zui(c:Nat):ldV c<128:=by
 unfold ldV;repeat' split
 all_goals omega
section
variable (x0 x1 x2:Int)
 abbrev j67:=(↑(ldN (toNat x0)):Int)=1/\(↑(ldV (toNat x0)):Int)=IntKind.wrap u32 x0/\True
 abbrev j0o:=shP BinOp.shr u8 x0 x1=x2
 def j0n:=(↑(ldN (toNat x0)):Int)=x1/\(↑(ldV (toNat x0)):Int)=IntKind.wrap u32 (qbu BinOp.and u8 x0 x2)/\True
 def j68:=(↑(ldN (toNat x0)):Int)=0/\(↑(ldV (toNat x0)):Int)=0/\True
 def j66:=(0:Int)<=3/\Ji (j0o x0 3 30) (j0n x0 4 7) (j68 x0)
 def j65:=(0:Int)<=4/\Ji (j0o x0 4 14) (j0n x0 3 15) (j66 x0)
 def j64:=(0:Int)<=5/\Ji (j0o x0 5 6) (j0n x0 2 31) (j65 x0)
 def j63:=Ji (x0<128) (j67 x0) (j64 x0)
end
def zh0(c:Int):qm2 P ((λ_=>none)) Try.f94 zmf (λ_=>{}) c=(0<=c/\c<256->j63 c):=by kernel_rfl
def zn3:=λc=>Eq.trans (zh0 c) (by delta Ji Jt Jf j67 j0o j0n j68 j66 j65 j64 j63;exact rfl)
def j1h:∀c<256,¬c<128->(decide (shP BinOp.shr IntKind.u8 (c:Nat) 5=6)=(decide (192<=c)&&decide (c<224)))/\(decide (shP BinOp.shr IntKind.u8 (c:Nat) 4=14)=(decide (224<=c)&&decide (c<240)))/\(decide (shP BinOp.shr IntKind.u8 (c:Nat) 3=30)=(decide (240<=c)&&decide (c<248))):=by decide+kernel
def j1i:∀c<256,IntKind.wrap IntKind.u32 ((c:Nat):Int)=(c:Nat)/\(192<=c->c<224->IntKind.wrap IntKind.u32 (qbu BinOp.and IntKind.u8 (c:Nat) 31)=((c- 192:Nat):Int))/\(224<=c->c<240->IntKind.wrap IntKind.u32 (qbu BinOp.and IntKind.u8 (c:Nat) 15)=((c- 224:Nat):Int))/\(240<=c->c<248->IntKind.wrap IntKind.u32 (qbu BinOp.and IntKind.u8 (c:Nat) 7)=((c- 240:Nat):Int)):=by decide+kernel
def zn4:q5k P 94 zmf:=by
 refine qm5 mixed z0p (W:=λ_=>{}) Try.func94 (by kernel_rfl) (by decide) (by decide) (λc=>by kernel_rfl) λ(c:Int)=>(zn3 c).mpr ?_
 rintro⟨h1,h2⟩
 obtain⟨n,rfl⟩:=Int.eq_ofNat_of_zero_le h1
 have hn:n<256:=by omega
 obtain⟨b0,b1,b2,b3⟩:=j1i n hn
 simp only[Int.toNat_natCast,and_true,decide_eq_true_eq,decide_eq_false_iff_not]
 refine⟨λh=> ?_,λh=>⟨by omega,?_⟩⟩
 ·unfold ldN ldV;rw[if_pos (by omega),if_pos (by omega),b0];simp
 have hg:¬n<128:=by omega
 obtain⟨a1,a2,a3⟩:=j1h n hn hg
 have a1:(shP BinOp.shr IntKind.u8 (n:Nat) 5=6)↔(192<=n/\n<224):=by
  rw[←decide_eq_true_iff (p:=shP BinOp.shr IntKind.u8 (n:Nat) 5=6),a1];simp
 have a2:(shP BinOp.shr IntKind.u8 (n:Nat) 4=14)↔(224<=n/\n<240):=by
  rw[←decide_eq_true_iff (p:=shP BinOp.shr IntKind.u8 (n:Nat) 4=14),a2];simp
 have a3:(shP BinOp.shr IntKind.u8 (n:Nat) 3=30)↔(240<=n/\n<248):=by
  rw[←decide_eq_true_iff (p:=shP BinOp.shr IntKind.u8 (n:Nat) 3=30),a3];simp
 rw[a1,a2,a3]
 refine⟨λg=> ?_,λg=>⟨by omega,λg2=> ?_,λg2=>⟨by omega,λg3=> ?_,λg3=> ?_⟩⟩⟩
 ·unfold ldN ldV
  rw[if_neg hg,if_pos g,if_neg hg,if_pos g,b1 g.1 g.2];simp
 ·unfold ldN ldV
  rw[if_neg hg,if_neg g,if_pos g2,if_neg hg,if_neg g,if_pos g2,b2 g2.1 g2.2];simp
 ·unfold ldN ldV
  rw[if_neg hg,if_neg g,if_neg g2,if_pos g3,if_neg hg,if_neg g,if_neg g2,if_pos g3,b3 g3.1 g3.2];simp
 ·unfold ldN ldV
  rw[if_neg hg,if_neg g,if_neg g2,if_neg g3,if_neg hg,if_neg g,if_neg g2,if_neg g3];simp
def zub(c:Int):qm2 P ((λ_=>none)) Try.f95 cIs (λ_=>{}) c=((0:Int)<=c/\c<(4294967296:Int)->(decide (c<=(1114111:Int))=true->(0:Int)<=(11:Int)/\isC (Int.toNat c)= !decide (shP BinOp.shr IntKind.u32 c (11:Int)=(27:Int))/\True)/\(decide (c<=(1114111:Int))=false->isC (Int.toNat c)=false/\True)):=by kernel_rfl
def j1d:q5k P 95 cIs:=by
 refine qm5 mixed z0p (W:=λ_=>{}) Try.func95 (by kernel_rfl) (by decide) (by decide) (λc=>by kernel_rfl) λ(c:Int)=>(zub c).mpr ?_
 rintro⟨h1,h2⟩
 obtain⟨n,rfl⟩:=Int.eq_ofNat_of_zero_le h1
 simp only[Int.toNat_natCast,and_true,decide_eq_true_eq,decide_eq_false_iff_not,isC]
 refine⟨λh=>⟨by omega,?_⟩,λh=> ?_⟩
 ·have:shP BinOp.shr IntKind.u32 (n:Nat) 11=((n / 2048:Nat):Int):=by
   show(n:Int).fdiv (2 ^ 11)=_
   rw[Int.fdiv_eq_ediv_of_nonneg _ (by decide)];omega
  rw[this]
  by_cases g:55296<=n/\n<=57343
  ·have e:n / 2048=27:=by omega
   rw[e];simp;omega
  ·have e:n / 2048≠27:=by omega
   have e2:¬((n / 2048:Nat):Int)=27:=by omega
   rw[decide_eq_false e2]
   simp;omega
 ·rw[decide_eq_false (by omega)];rfl
def za9(c:Int):qm2 P ((λ_=>none)) Try.f96 z6z (λ_=>{}) c=((0:Int)<=c/\c<(4294967296:Int)->(decide (c<(128:Int))=true->(↑(lnN (toNat c)):Int)=(1:Int)/\True)/\(decide (c<(128:Int))=false->(decide (c<(2048:Int))=true->(↑(lnN (toNat c)):Int)=(2:Int)/\True)/\(decide (c<(2048:Int))=false->(decide (c<(65536:Int))=true->(↑(lnN (toNat c)):Int)=(3:Int)/\True)/\(decide (c<(65536:Int))=false->(↑(lnN (toNat c)):Int)=(4:Int)/\True)))):=by kernel_rfl
def zco:q5k P 96 z6z:=by
 refine qm5 mixed z0p (W:=λ_=>{}) Try.func96 (by kernel_rfl) (by decide) (by decide) (λc=>by kernel_rfl) λ(c:Int)=>(za9 c).mpr ?_
 rintro⟨h1,h2⟩
 simp only[and_true,decide_eq_true_eq,decide_eq_false_iff_not,lnN]
 refine⟨λh=> ?_,λh=>⟨λg=> ?_,λg=>⟨λk=> ?_,λk=> ?_⟩⟩⟩
 ·rw[if_pos (by omega)];rfl
 ·rw[if_neg (by omega),if_pos (by omega)];rfl
 ·rw[if_neg (by omega),if_neg (by omega),if_pos (by omega)];rfl
 ·rw[if_neg (by omega),if_neg (by omega),if_neg (by omega)];rfl
def ct1:∀c<256,decide (shP BinOp.shr IntKind.u8 (c:Nat) 6=2)=ctC c:=by decide+kernel
def ct2:∀c<256,ctC c=true->IntKind.wrap IntKind.u32 (qbu BinOp.and IntKind.u8 (c:Nat) 63)=((c- 128:Nat):Int)/\c- 128<64:=by decide+kernel
def z9g(s:ByteArray):∀(i r:Nat),vlF s i=some r->i<=4->r<128*64 ^ (i- 1)
  |0,r,h,_=>by simp[vlF]at h;subst h;decide
  | 1,r,h,_=>by
    simp[vlF]at h
    have:=zui (bat s 0)
    rw[h]at this;simpa using this
  | i + 2,r,h,hi=>by
    simp only[vlF]at h
    split at h
    · rename_i q hq
      have ih:=z9g s (i+1) q hq (by omega)
      split at h
      · rename_i hc
        cases h
        have:=z25 s (i+1)
        simp[ctC]at hc
        have e:i+1- 1=i:=by omega
        have e2:i+2- 1=i+1:=by omega
        rw[e]at ih
        rw[e2,Nat.pow_succ]
        omega
      · cases h
    · cases h
def jdu(r d:Nat) (hr:r<67108864) (hd:d<64):qbu BinOp.or IntKind.u32 (shP BinOp.shl IntKind.u32 (r:Int) 6) (d:Int)=((r*64+d:Nat):Int):=by
 have e:shP BinOp.shl IntKind.u32 (r:Int) 6=((r*64:Nat):Int):=by
  show IntKind.u32.wrap ((r:Int)*2 ^ 6)=_
  unfold IntKind.wrap;simp[IntKind.bits,IntKind.signed];omega
 rw[e]
 have h0:=u32_or_nat (r*64) d (by omega) (by omega)
 have h1:qbu BinOp.or IntKind.u32 ((r*64:Nat):Int) (d:Int)=bits .or .u32 ((r*64:Nat):Int) (d:Int):=rfl
 rw[h1,h0]
 congr 1
 have h:=Nat.two_pow_add_eq_or_of_lt (i:=6) (b:=d) hd r
 rw[show 2 ^ 6*r=r*64 by omega]at h
 exact h.symm
def z9h(s:ByteArray) (i j:Nat) (hij:i<=j) (h1:1<=i) (h:vlF s i=none):vlF s j=none:=by
  induction j with
  |zero=>omega
  | succ j ih=>
    by_cases e:i=j+1
    · subst e;exact h
    · have:=ih (by omega)
      cases j with
      |zero=>omega
      |succ j=>simp only[vlF];rw[this]
section
variable (x0:ByteArray) (x1:Int×Int)
 abbrev zej:=(↑(ldN (toNat (↑(bat x0 0):Int))):Int)
 def ztk:=(↑(frt x0):Int)=0/\True
 abbrev zin:=(↑(ldV (toNat (↑(bat x0 0):Int))):Int)
 def zos:= !decide (shP BinOp.shr u8 (↑(bat x0 (toNat x1.2)):Int) (6:Int)=2)
 abbrev zim:=IntKind.wrap u32 (qbu BinOp.and u8 (↑(bat x0 (toNat x1.2)):Int) 63)
 def j6d:=(0:Int)<=6/\(0<=x1.2/\x1.2<(↑(size x0):Int))/\Jb (x1.2+1)/\x0=x0/\(zej x0)=(zej x0)/\x1.2+1=x1.2+1/\qbu BinOp.or u32 (shP BinOp.shl u32 x1.1 6) (zim x0 x1)=qbu BinOp.or u32 (shP BinOp.shl u32 x1.1 6) (zim x0 x1)/\(1<=x1.2+1/\(x1.2+1<=(↑(ldN (bat x0 0)):Int)\/x1.2+1=1)/\∃(i0:Nat),qbu BinOp.or u32 (shP BinOp.shl u32 x1.1 6) (zim x0 x1)=(↑i0:Int)/\(ldN (bat x0 0)=0\/vlF x0 (toNat (x1.2+1))=some i0))/\(5:Nat)- toNat (x1.2+1)<5- toNat x1.2/\True
 def j6c:=(0<=x1.2/\x1.2<(↑(size x0):Int))/\(0:Int)<=6/\((zos x0 x1)=true->ztk x0)/\((zos x0 x1)=false->j6d x0 x1)
 def j6g:=x1.1=x1.1/\(0<=x1.1/\x1.1<4294967296)/\((!decide ((↑(lnN (toNat x1.1)):Int)=(zej x0)))=true->ztk x0)/\((!decide ((↑(lnN (toNat x1.1)):Int)=(zej x0)))=false->(↑(frt x0):Int)=(zej x0)/\True)
 def j6f:=x1.1=x1.1/\(0<=x1.1/\x1.1<4294967296)/\((!isC (toNat x1.1))=true->ztk x0)/\((!isC (toNat x1.1))=false->j6g x0 x1)
 def j6e:=Ji ((zej x0)=0) (ztk x0) (j6f x0 x1)
 def j6b:=Ji (x1.2<(zej x0)) (j6c x0 x1) (j6e x0 x1)
 def j6a:=(x0=x0/\(zej x0)=(zej x0)/\(1:Int)=1/\(zin x0)=(zin x0)/\((1:Int)<=1/\(1<=(↑(ldN (bat x0 0)):Int)\/(1:Int)=1)/\∃(i0:Nat),(zin x0)=(↑i0:Int)/\(ldN (bat x0 0)=0\/vlF x0 (1:Nat)=some i0))/\True)/\∀(i1:Int×Int),(1<=i1.2/\(i1.2<=(↑(ldN (bat x0 0)):Int)\/i1.2=1)/\∃(i2:Nat),i1.1=(↑i2:Int)/\(ldN (bat x0 0)=0\/vlF x0 (toNat i1.2)=some i2))->j6b x0 i1
 def j69:=((0:Int)<=0/\0<(↑(size x0):Int))/\(↑(bat x0 0):Int)=(↑(bat x0 0):Int)/\(0<=(↑(bat x0 0):Int)/\(↑(bat x0 0):Int)<256)/\Ji ((↑(size x0):Int)<(zej x0)) (ztk x0) (j6a x0)
end
def zc6(s:ByteArray):qm2 P (zlc) Try.f81 z8b (zlj) s=(0<size s/\size s<9223372036854775808->j69 s):=by kernel_rfl
def front_eq:=λs=>Eq.trans (zc6 s) (by delta Ji Jb Jt Jf zej ztk zin zos zim j6d j6c j6g j6f j6e j6b j6a j69;exact rfl)
def zdh:∀g C,zlc g=some C->q5k P g C:=qee (qih zn4 (qih j1d (qih zco qlq)))
def zgn:q5k P 81 z8b:=by
 refine qm5 mixed zdh (W:=zlj) Try.func81 (by kernel_rfl) (by decide) (by decide) (λc=>by kernel_rfl) λ(s:ByteArray)=>(front_eq s).mpr ?_
 rintro⟨h1,h2⟩
 have b0:=z25 s 0
 simp only[Int.toNat_natCast,Int.toNat_zero,and_true,true_and,decide_eq_true_eq,decide_eq_false_iff_not,Bool.not_eq_true',Bool.not_eq_false']
 obtain⟨n,hn⟩:∃n,n=ldN (bat s 0):=⟨_,rfl⟩
 have hn4:=zug (bat s 0)
 have hfr:frt s=if s.size<n then 0 else match vlF s n with
  |none=>0
  |some r=>if n=0\/isC r=false\/lnN r≠n then 0 else n:=by rw[hn];rfl
 rw[←hn]at hn4⊢
 refine⟨by omega,by omega,λg=> ?_,λg=>⟨⟨by omega, .inr trivial,ldV (bat s 0),rfl, .inr rfl⟩,?_⟩⟩
 ·rw[hfr,if_pos (by omega)];rfl
 rintro⟨r,i⟩ ⟨i1,i2,q,hq,hv⟩
 simp only at i1 i2 hq hv⊢
 obtain⟨m,rfl⟩:=Int.eq_ofNat_of_zero_le (show 0<=i by omega)
 have em:((m:Int)+1).toNat=m+1:=by omega
 simp only[Int.toNat_natCast,em]at hv⊢
 subst hq
 simp only[Int.toNat_natCast]at hv⊢
 rw[if_neg (by omega)]at hfr
 refine⟨λk=>⟨by omega,by omega,?_⟩,λk=>⟨λk2=> ?_,λk2=> ?_⟩⟩
 ·have bm:=z25 s m
  have c1:shP BinOp.shr IntKind.u8 ((bat s m:Nat):Int) 6=2↔ctC (bat s m)=true:=by rw[←ct1 (bat s m) bm,decide_eq_true_iff]
  rw[c1]
  have hv:vlF s m=some q:=by
   rcases hv with h|h
   ·omega
   ·exact h
  have hbd:=z9g s m q hv (by omega)
  have hq26:q<67108864:=by
   have:m<=3:=by omega
   rcases m with _|_|_|_|m<;>simp at hbd<;>omega
  obtain⟨m',rfl⟩:∃m',m=m'+1:=⟨m- 1,by omega⟩
  refine⟨λk3=> ?_,λk3=>⟨by omega,by omega,by omega,⟨by omega,by omega,?_⟩,by omega⟩⟩
  ·have:vlF s (m'+2)=none:=by simp only[vlF];rw[hv];simp[k3]
   rw[hfr,z9h s (m'+2) n (by omega) (by omega) this];rfl
  ·obtain⟨c2,c3⟩:=ct2 (bat s (m'+1)) bm k3
   rw[c2]
   refine⟨_,jdu q _ hq26 c3, .inr ?_⟩
   simp only[vlF]
   rw[hv];simp[k3]
 ·have h0:n=0:=by omega
  rw[hfr,h0];simp[vlF]
 ·have hn0:n≠0:=by omega
  have hm:m=n:=by omega
  have hv:vlF s n=some q:=by
   rcases hv with h|h
   ·omega
   ·rw[←hm];exact h
  have hbd:=z9g s n q hv (by omega)
  have hq32:q<4294967296:=by
   rcases n with _|_|_|_|_|n<;>simp at hbd<;>omega
  rw[hv]at hfr
  simp only at hfr
  refine⟨by omega,λk3=> ?_,λk3=>⟨by omega,λk4=> ?_,λk4=> ?_⟩⟩
  ·rw[hfr,if_pos (.inr (.inl k3))];rfl
  ·rw[hfr,if_pos (.inr (.inr (by omega)))];rfl
  ·rw[hfr,if_neg]
   rw[k3];simp;omega
def zc7(s:ByteArray):frt s<=s.size:=by
 unfold frt
 split
 ·omega
 ·split
  ·omega
  ·split<;>omega
def z6g:∀(f g:Nat) (s:ByteArray),s.size<=f->s.size<=g->ze0 f s=ze0 g s
  |0,0,s,_,_=>rfl
  |0,g+1,s,h,_=>by rw[ze0,ze0,if_pos (by omega)]
  |f+1,0,s,_,h=>by rw[ze0,ze0,if_pos (by omega)]
  | f +1,g+1,s,h1,h2=>by
    rw[ze0,ze0]
    split
    · rfl
    · split
      · rfl
      · exact z6g f g _ (by simp;omega) (by simp;omega)
def z3n(s:ByteArray) (h:0<s.size):vld s=if frt s=0 then false else vld (s.extract (frt s) s.size):=by
 unfold vld
 obtain⟨f,hf⟩:∃f,s.size=f+1:=⟨s.size- 1,by omega⟩
 rw[hf,ze0,if_neg (by omega)]
 split
 ·rfl
 ·rw[hf]
  refine z6g _ _ _ ?_ (Nat.le_refl _)
  simp;omega
def ze1(s:ByteArray) (h:s.size=0):vld s=true:=by unfold vld;rw[h];rfl
def zi8(s:ByteArray):qm2 P (zv4) Try.f68 z2a (zlt) s=(size s<(9223372036854775808:Nat)->(s=s/\(size s<=size s/\vld s=vld s)/\True)/\∀(s_1:ByteArray),size s_1<=size s/\vld s_1=vld s->(decide ((0:Int)<(↑(size s_1):Int))=true->s_1=s_1/\((0:Nat)<size s_1/\size s_1<(9223372036854775808:Nat))/\(decide ((↑(frt s_1):Int)=(0:Int))=true->vld s=false/\True)/\(decide ((↑(frt s_1):Int)=(0:Int))=false->((0:Int)<=(↑(frt s_1):Int)/\(↑(frt s_1):Int)<=(↑(size s_1):Int))/\ByteArray.extract s_1 (toNat (↑(frt s_1):Int)) (size s_1)=ByteArray.extract s_1 (toNat (↑(frt s_1):Int)) (size s_1)/\(size (ByteArray.extract s_1 (toNat (↑(frt s_1):Int)) (size s_1))<=size s/\vld (ByteArray.extract s_1 (toNat (↑(frt s_1):Int)) (size s_1))=vld s)/\size (ByteArray.extract s_1 (toNat (↑(frt s_1):Int)) (size s_1))<size s_1/\True))/\(decide ((0:Int)<(↑(size s_1):Int))=false->vld s=true/\True)):=by kernel_rfl
def zi9:q5k P 68 z2a:=by
 refine qm5 mixed (qee (qih zgn qlq)) (W:=zlt) Try.func68 (by kernel_rfl) (by decide) (by decide) (λc=>by kernel_rfl) λ(s:ByteArray)=>(zi8 s).mpr ?_
 intro h
 simp only[Int.toNat_natCast,and_true,true_and,decide_eq_true_eq,decide_eq_false_iff_not]
 refine⟨Nat.le_refl _,λt ht=>⟨λg=>⟨by omega,λg2=> ?_,λg2=> ?_⟩,λg=> ?_⟩⟩
 ·rw[←ht.2,z3n t (by omega),if_pos (by omega)]
 ·have:=zc7 t
  rw[←ht.2,z3n t (by omega),if_neg (by omega)]
  refine⟨by omega,⟨?_,rfl⟩,?_⟩
  ·simp;omega
  ·simp;omega
 ·rw[←ht.2];exact ze1 t (by omega)
def zie(x:Int):IntKind.u8.wrap x=x % 256:=by
 unfold IntKind.wrap;simp[IntKind.bits,IntKind.signed]
def tn1(n:Nat):((n:Int)+1).toNat=n+1:=by omega
def wrap32(x:Int):IntKind.u32.wrap x=x % 4294967296:=by
 unfold IntKind.wrap;simp[IntKind.bits,IntKind.signed]
def z8w(b:Nat):(b<128/\ldN b=1/\ldV b=b)\/(192<=b/\b<224/\ldN b=2/\ldV b=b- 192)\/(224<=b/\b<240/\ldN b=3/\ldV b=b- 224)\/(240<=b/\b<248/\ldN b=4/\ldV b=b- 240)\/(((128<=b/\b<192)\/248<=b)/\ldN b=0):=by
 unfold ldN ldV
 repeat' split
 all_goals omega
def zul(n q:Nat) (hn:n=2\/n=3\/n=4) (hq:q<128*64 ^ (n- 1)) (h2:n=2->q<2048) (h3:n=3->q<65536):lnN q=n↔leN n<=q:=by
 unfold lnN leN
 rcases hn with rfl|rfl|rfl
 all_goals (repeat' split)
 all_goals (first|omega| (have:=h2 rfl;omega)| (have:=h3 rfl;omega))
section
variable (x0:ByteArray) (x1:Int×Int) (x2 x3 x4:Int)
 abbrev z48:=(↑(ptV x0):Int)=0/\(↑(frt x0):Int)=0/\True
 abbrev zek:=IntKind.wrap u32 (↑(bat x0 0):Int)<x2
 def zw8:=(↑(ptV x0):Int)=IntKind.wrap u32 (↑(bat x0 0):Int)/\(↑(frt x0):Int)=1/\True
 abbrev ziq:=x2<=IntKind.wrap u32 (↑(bat x0 0):Int)
 abbrev z7h:=(↑(leN (ldN (bat x0 0))):Int)
 abbrev z37:=(↑(ldN (bat x0 0)):Int)
 def j0p:=x0=x0/\(z7h x0)=x2/\(z37 x0)=x3/\(↑(ldV (bat x0 0)):Int)=IntKind.wrap u32 (IntKind.wrap u32 (↑(bat x0 0):Int)- x4)/\(0<size x0/\2<=ldN (bat x0 0))/\True
 abbrev zw9:=Ji (zek x0 248) (j0p x0 65536 4 240) (z48 x0)
 abbrev j2l:=Ji (ziq x0 240) (zw9 x0) (z48 x0)
 abbrev zwa:=Ji (zek x0 240) (j0p x0 2048 3 224) (j2l x0)
 abbrev j2k:=Ji (ziq x0 224) (zwa x0) (j2l x0)
 abbrev zwb:=Ji (zek x0 224) (j0p x0 128 2 192) (j2k x0)
 abbrev zw6:=Ji (ziq x0 192) (zwb x0) (j2k x0)
 def zir:=(0<=x1.2/\x1.2<(↑(size x0):Int))
 abbrev zio:=IntKind.wrap u32 (x1.1*64)+IntKind.wrap u32 (IntKind.wrap u8 ((↑(bat x0 (toNat x1.2)):Int)- 128))
 def zw3:=zir x0 x1/\Jb (x1.2+1)/\x0=x0/\(z7h x0)=(z7h x0)/\(z37 x0)=(z37 x0)/\x1.2+1=x1.2+1/\IntKind.wrap u32 (zio x0 x1)=IntKind.wrap u32 (zio x0 x1)/\(1<=x1.2+1/\x1.2+1<=(z37 x0)/\∃(i0:Nat),IntKind.wrap u32 (zio x0 x1)=(↑i0:Int)/\vlF x0 (toNat (x1.2+1))=some i0)/\(5:Nat)- toNat (x1.2+1)<5- toNat x1.2/\True
 def j6n:=zir x0 x1/\Ji (191<(↑(bat x0 (toNat x1.2)):Int)) (z48 x0) (zw3 x0 x1)
 def j6m:=zir x0 x1/\Ji ((↑(bat x0 (toNat x1.2)):Int)<128) (z48 x0) (j6n x0 x1)
 def zot:=(↑(ptV x0):Int)=x1.1/\(↑(frt x0):Int)=(z37 x0)/\True
 def zwc:=Ji (x1.1<=57343) (z48 x0) (zot x0 x1)
 def zw7:=Ji (55296<=x1.1) (zwc x0 x1) (zot x0 x1)
 def zw5:=Ji (1114111<x1.1) (z48 x0) (zw7 x0 x1)
 def zw4:=Ji (x1.1<(z7h x0)) (z48 x0) (zw5 x0 x1)
 def j6l:=Ji (x1.2<(z37 x0)) (j6m x0 x1) (zw4 x0 x1)
 def j6k:=(x0=x0/\(z7h x0)=(z7h x0)/\(z37 x0)=(z37 x0)/\(1:Int)=1/\(↑(ldV (bat x0 0)):Int)=(↑(ldV (bat x0 0)):Int)/\((1:Int)<=1/\1<=(z37 x0)/\∃(i0:Nat),(↑(ldV (bat x0 0)):Int)=(↑i0:Int)/\vlF x0 (1:Nat)=some i0)/\True)/\∀(i1:Int×Int),(1<=i1.2/\i1.2<=(z37 x0)/\∃(i2:Nat),i1.1=(↑i2:Int)/\vlF x0 (toNat i1.2)=some i2)->j6l x0 i1
 def j6j:=Ji ((↑(size x0):Int)<(z37 x0)) (z48 x0) (j6k x0)
 def j6i:=((0:Int)<=0/\0<(↑(size x0):Int))/\(Ji (zek x0 128) (zw8 x0) (zw6 x0))/\∀(i0:Unit),0<size x0/\2<=ldN (bat x0 0)->j6j x0
 def j6h:=Ji ((↑(size x0):Int)=0) (z48 x0) (j6i x0)
end
def zd4(s:ByteArray):qm2 P (λ_=>none) Try.f24 z2w (zlo) s=(size s<9223372036854775808->j6h s):=by kernel_rfl
def zhg:=λs=>Eq.trans (zd4 s) (by delta Ji Jb Jt Jf z48 zek zw8 ziq z7h z37 j0p zw9 j2l zwa j2k zwb zw6 zir zio zw3 j6n j6m zot zwc zw7 zw5 zw4 j6l j6k j6j j6i j6h;exact rfl)
def zuh(b:Nat):(ldN b=2->ldV b<32)/\(ldN b=3->ldV b<16):=by
 have:=z8w b;omega
def j1s(s:ByteArray) (q:Nat) (h:vlF s 2=some q) (h2:ldN (bat s 0)=2):q<2048:=by
 have b:=(zuh (bat s 0)).1 h2
 simp only[vlF]at h
 split at h
 ·rename_i hc
  have hb:=z25 s 1
  simp only[ctC,Bool.and_eq_true,decide_eq_true_eq]at hc
  cases h
  simp only[Nat.zero_add]at hc⊢
  omega
 ·cases h
def j1t(s:ByteArray) (q:Nat) (h:vlF s 3=some q) (h2:ldN (bat s 0)=3):q<65536:=by
 have b:=(zuh (bat s 0)).2 h2
 simp only[vlF]at h
 split at h
 ·rename_i r hr
  split at hr
  ·cases hr
   rename_i hc0
   split at h
   ·rename_i hc
    have hb:=z25 s 1
    have hb2:=z25 s 2
    simp only[ctC,Bool.and_eq_true,decide_eq_true_eq]at hc hc0
    cases h
    simp only[Nat.zero_add,show 1+1=2 from rfl]at hc hc0⊢
    omega
   ·cases h
  ·cases hr
 ·cases h
def zkz(q:Nat):isC q=true↔q<=1114111/\¬(55296<=q/\q<=57343):=by
 simp[isC];omega
def ztz(b:Nat):ctC b=true↔128<=b/\b<192:=by simp[ctC]
def z91:q5k P 24 z2w:=by
 refine qm5 mixed z0p (W:=zlo) Try.func24 (by kernel_rfl) (by decide) (by decide) (λc=>by kernel_rfl) λ(s:ByteArray)=>(zhg s).mpr ?_
 intro h2
 have b0:=z25 s 0
 obtain⟨n,hn⟩:∃n,n=ldN (bat s 0):=⟨_,rfl⟩
 have hc:=z8w (bat s 0)
 have hz:frt s=0->ptV s=0:=λh=>by unfold ptV;rw[if_pos h]
 have hfr:frt s=if s.size<n then 0 else match vlF s n with
  |none=>0
  |some r=>if n=0\/isC r=false\/lnN r≠n then 0 else n:=by rw[hn];rfl
 rw[←hn]at hc
 have A0:s.size=0->frt s=0:=λh=>by
  have:=zm9 (s:=s) (j:=0) (by omega)
  rw[hfr,if_pos (by omega)]
 have A1:s.size≠0->bat s 0<128->ptV s=bat s 0/\frt s=1:=λh h1=>by
  have e1:n=1:=by omega
  have ev:ldV (bat s 0)=bat s 0:=by omega
  have ef:frt s=1:=by
   rw[hfr,if_neg (by omega),e1]
   simp only[vlF]
   rw[ev,if_neg]
   have hi:=(zkz (bat s 0)).mpr (by omega)
   have hl:lnN (bat s 0)=1:=by unfold lnN;rw[if_pos h1]
   rw[hi,hl];simp
  refine⟨?_,ef⟩
  unfold ptV
  rw[if_neg (by omega),ef]
  simp only[vlF,ev];rfl
 have A5:n=0->frt s=0:=λh=>by
  rw[hfr,if_neg (by omega),h];simp[vlF]
 have hle:(n=2->leN n=128)/\(n=3->leN n=2048)/\(n=4->leN n=65536):=by
  refine⟨λh=> ?_,λh=> ?_,λh=> ?_⟩<;>rw[h]<;>rfl
 have e0:IntKind.u32.wrap (bat s 0:Nat)=(bat s 0:Nat):=by rw[wrap32];omega
 simp only[Int.toNat_natCast,Int.toNat_zero,and_true,true_and,decide_eq_true_eq,decide_eq_false_iff_not,Bool.not_eq_true',Bool.not_eq_false',e0,←hn]
 refine⟨?_,λg0=>⟨by omega,?_,?_⟩⟩
 ·intro h;have:=A0 (by omega);have:=hz this;omega
 ·simp only[wrap32]
  clear hfr A0 e0
  rcases hc with⟨c1,c2,c3⟩|⟨c0,c1,c2,c3⟩|⟨c0,c1,c2,c3⟩|⟨c0,c1,c2,c3⟩|⟨c1,c2⟩
  ·obtain⟨p,f⟩:=A1 (by omega) c1
   clear A1 A5 hle hz
   refine⟨λ_=>by omega,λh=>absurd (by omega) h⟩
  ·have l:=hle.1 c2
   clear A1 A5 hle hz
   refine⟨λh=>by omega,λh=>⟨λ_=>⟨λ_=>by omega,λk=>absurd (by omega) k⟩,λk=>absurd (by omega) k⟩⟩
  ·have l:=hle.2.1 c2
   clear A1 A5 hle hz
   refine⟨λh=>by omega,λh=>⟨λ_=>⟨λk=>by omega,λ_=>⟨λ_=>⟨λ_=>by omega,λk=>absurd (by omega) k⟩,λk=>absurd (by omega) k⟩⟩,λk=>absurd (by omega) k⟩⟩
  ·have l:=hle.2.2 c2
   clear A1 A5 hle hz
   refine⟨λh=>by omega,λh=>⟨λ_=>⟨λk=>by omega,λ_=>⟨λ_=>⟨λk=>by omega,λ_=>⟨λ_=>⟨λ_=>by omega,λk=>absurd (by omega) k⟩,λk=>absurd (by omega) k⟩⟩,λk=>absurd (by omega) k⟩⟩,λk=>absurd (by omega) k⟩⟩
  ·have f:=A5 c2
   have p:=hz f
   clear A1 A5 hle hz
   repeat' first|intro _|apply And.intro
   all_goals omega
 ·clear A0 A1 A5
  rintro _ ⟨g1,g2⟩
  have Z:frt s=0->((ptV s:Nat):Int)=0/\((frt s:Nat):Int)=0:=λh=>by have:=hz h;omega
  refine⟨λk=>Z ?_,λk=>⟨⟨by omega,by omega,ldV (bat s 0),rfl,rfl⟩,?_⟩⟩
  ·rw[hfr,if_pos (by omega)]
  rw[if_neg (by omega)]at hfr
  rintro⟨v,i⟩ ⟨i1,i2,q,hq,hv⟩
  simp only at i1 i2 hq hv⊢
  obtain⟨m,rfl⟩:=Int.eq_ofNat_of_zero_le (show 0<=i by omega)
  subst hq
  simp only[Int.toNat_natCast,tn1]at hv⊢
  have hbd:=z9g s m q hv (by omega)
  have bm:=z25 s m
  obtain⟨m',rfl⟩:∃m',m=m'+1:=⟨m- 1,by omega⟩
  have cn:¬(128<=bat s (m'+1)/\bat s (m'+1)<192)->((m'+1:Nat):Int)<n->frt s=0:=λh hl=>by
   have:vlF s (m'+2)=none:=by
    simp only[vlF];rw[hv];simp only[]
    rw[if_neg (by rw[ztz];exact h)]
   rw[hfr,z9h s (m'+2) n (by omega) (by omega) this]
  refine⟨λk1=>⟨by omega,λk2=>Z (cn (by omega) k1),λk2=>⟨by omega,λk3=>Z (cn (by omega) k1),λk3=>⟨by omega,by omega,⟨by omega,by omega,?_⟩,by omega⟩⟩⟩,λk1=> ?_⟩
  ·have hq26:q<67108864:=by
    have:m'+1<=3:=by omega
    rcases m' with _|_|_|m'<;>simp at hbd<;>omega
   refine⟨q*64+(bat s (m'+1)- 128),?_,?_⟩
   ·rw[zie,wrap32,wrap32,wrap32];omega
   ·simp only[vlF];rw[hv];simp only[]
    rw[if_pos (by rw[ztz];omega)]
  ·have em:m'+1=n:=by omega
   rw[em]at hv hbd
   rw[hv]at hfr
   simp only at hfr
   have nn:n=2\/n=3\/n=4:=by omega
   have ln:=zul n q nn hbd (λh=>j1s s q (h ▸ hv) (by omega)) (λh=>j1t s q (h ▸ hv) (by omega))
   have ic:=zkz q
   have bad:¬(leN n<=q)\/¬(q<=1114111/\¬(55296<=q/\q<=57343))->frt s=0:=λh=>by
    rw[hfr,if_pos]
    rcases h with h|h
    ·exact .inr (.inr λe=>h (ln.mp e))
    ·exact .inr (.inl (by rw[←Bool.not_eq_true];exactλe=>h (ic.mp e)))
   have good:leN n<=q->(q<=1114111/\¬(55296<=q/\q<=57343))->((ptV s:Nat):Int)=q/\((frt s:Nat):Int)=n:=λh1 h2=>by
    have ef:frt s=n:=by
     rw[hfr,if_neg]
     rw[ic.mpr h2,ln.mpr h1];simp;omega
    refine⟨?_,by omega⟩
    unfold ptV
    rw[if_neg (by omega),ef,hv];rfl
   refine⟨λc1=>Z (bad (.inl (by omega))),λc1=>⟨λc2=>Z (bad (.inr (by omega))),λc2=>⟨λc3=>⟨λc4=>Z (bad (.inr (by omega))),λc4=>good (by omega) (by omega)⟩,λc3=>good (by omega) (by omega)⟩⟩⟩
def zdw(s:ByteArray):qm2 P (qh2 [(24,z2w)]) Try.f15 z2a (ze9) s=(size s<(9223372036854775808:Nat)->(s=s/\(size s<=size s/\vld s=vld s)/\True)/\∀(s_1:ByteArray),size s_1<=size s/\vld s_1=vld s->(decide ((0:Int)<(↑(size s_1):Int))=true->s_1=s_1/\size s_1<(9223372036854775808:Nat)/\(decide ((↑(frt s_1):Int)=(0:Int))=true->vld s=false/\True)/\(decide ((↑(frt s_1):Int)=(0:Int))=false->((0:Int)<=(↑(frt s_1):Int)/\(↑(frt s_1):Int)<=(↑(size s_1):Int))/\ByteArray.extract s_1 (toNat (↑(frt s_1):Int)) (size s_1)=ByteArray.extract s_1 (toNat (↑(frt s_1):Int)) (size s_1)/\(size (ByteArray.extract s_1 (toNat (↑(frt s_1):Int)) (size s_1))<=size s/\vld (ByteArray.extract s_1 (toNat (↑(frt s_1):Int)) (size s_1))=vld s)/\size (ByteArray.extract s_1 (toNat (↑(frt s_1):Int)) (size s_1))<size s_1/\True))/\(decide ((0:Int)<(↑(size s_1):Int))=false->vld s=true/\True)):=by kernel_rfl
def z6f:q5k P 15 z2a:=by
 refine qm5 mixed (qee (qih z91 qlq)) (W:=ze9) Try.func15 (by kernel_rfl) (by decide) (by decide) (λc=>by kernel_rfl) λ(s:ByteArray)=>(zdw s).mpr ?_
 intro h
 simp only[Int.toNat_natCast,and_true,true_and,decide_eq_true_eq,decide_eq_false_iff_not]
 refine⟨Nat.le_refl _,λt ht=>⟨λg=>⟨by omega,λg2=> ?_,λg2=> ?_⟩,λg=> ?_⟩⟩
 ·rw[←ht.2,z3n t (by omega),if_pos (by omega)]
 ·have:=zc7 t
  rw[←ht.2,z3n t (by omega),if_neg (by omega)]
  refine⟨by omega,⟨?_,rfl⟩,?_⟩
  ·simp;omega
  ·simp;omega
 ·rw[←ht.2];exact ze1 t (by omega)
section
def z5a:q5k P 35 z9x:=by
 refine qm5 mixed z0p (W:=λ_=>{}) Try.func35 (by kernel_rfl) (by decide) (by decide) (λs=>by kernel_rfl) λ(s:ByteArray)=>(zo6 s).mpr ?_
 intro _;exact⟨rfl,trivial⟩
def z98:q5k P 34 z4i:=by
 refine qm5 mixed z0p (W:=λ_=>{}) Try.func34 (by kernel_rfl) (by decide) (by decide) (λs=>by kernel_rfl) λn=> ?_
 cases n with
 |two=>exact(zdi ()).mpr λ_=>trivial
 |three=>exact(zdj ()).mpr λ_=>trivial
 |four=>exact(zdk ()).mpr λ_=>trivial
variable {L:List Int} {p:Pub}
def ztu{x:SV} (h:slP byV x L p) {i:Nat} (hi:i<L.length):x.1≠noA/\q3p p (adr x.1 (i*1)) [.int .u8 L[i]]:=z0w ztv (by decide) h hi
def z8z:q5k P 32 zt9:=by
 refine qm5 mixed z0p (W:=λ_=>{}) Try.func32 (by kernel_rfl) (by decide) (by decide) (λs=>by kernel_rfl) λ⟨(x:SV),(L:List Int),(n:Int),(m:Int)⟩=>(zup x L n m).mpr ?_
 rintro⟨hn0,hn1,hm0,hm1,hL,hb⟩ ⟨p,_,hp⟩
 have hx:x.2.1=L.length:=hp.1
 simp only[sbS,Int.toNat_natCast,hx]
 obtain⟨i,rfl⟩:=Int.eq_ofNat_of_zero_le hn0
 have e:((i:Int)+1- 1).toNat=i:=by omega
 refine⟨λh=>⟨?_,?_⟩,λh=> ?_⟩
 ·unfold z0u;rw[if_pos h]
 ·unfold z07;rw[if_pos h]
 ·have hi:i<L.length:=by omega
  rw[e]
  refine⟨by omega,by omega,by omega,(ztu hp hi).1,L[i],λq hq=>(ztu hq hi).2,?_⟩
  have r:z0u L i m=Int.tmod L[i] m:=by
   unfold z0u
   rw[if_neg h,Int.toNat_natCast,List.getD_eq_getElem?_getD,List.getElem?_eq_getElem hi];rfl
  have hbi:=hb L[i] (List.getElem_mem hi)
  have nn:z07 L i=i+1:=by unfold z07;rw[if_neg h]
  rw[r,nn]
  exact⟨by omega,by omega,rfl,rfl⟩
def znj:q5k P 56 zmg:=by
 refine qm5 mixed z0p (W:=λ_=>{}) Try.func56 (by kernel_rfl) (by decide) (by decide) (λs=>by kernel_rfl) λ⟨(x:SV),(L:List Int),(n:Int)⟩=>(zni x L n).mpr ?_
 rintro _ ⟨p,_,hp⟩
 have hx:x.2.1=L.length:=hp.1
 simp only[true_and,and_true,eq_self,hx]
variable {l:List GJ}
def z64{s:ByteArray} {nm:List ByteArray} {j:Nat} (h1:j<nm.length) (h2:j<l.length):z34 s (nm.drop j) (l.drop j)=if nm[j]=s then some l[j]else z34 s (nm.drop (j+1)) (l.drop (j+1)):=by
 rw[List.drop_eq_getElem_cons h1,List.drop_eq_getElem_cons h2,z34]
def zgp{y:SV} (h:slP GJ.cells y l p) {i:Nat} (hi:i<l.length):y.1≠noA/\q3p p (adr y.1 (i*5)) l[i].cells:=z0w z2y (by decide) h hi
def z9a{y:SV} {ks:List ByteArray} (h:slP txV y ks p) {i:Nat} (hi:i<ks.length):y.1≠noA/\q3p p (adr y.1 (i*1)) [.string ks[i]]:=z0w z0t (by decide) h hi
def zu6:q5k P 58 j07:=by
 refine qm5 mixed z0p (W:=j3v) Try.func58 (by kernel_rfl) (by decide) (by decide) (λs=>by kernel_rfl) λ⟨g,s⟩=>(get_eq g s).mpr ?_
 rintro hw ⟨p,_,hp⟩
 rw[GJ.wf_eq]at hw
 obtain⟨_,hl,hnl,_⟩:=hw
 have gx:=λq (hq:g.ok q)=>(by rw[GJ.ok_eq]at hq;exact hq.2.1:slP txV g.x g.nm q)
 have gy:=λq (hq:g.ok q)=>(by rw[GJ.ok_eq]at hq;exact hq.1:slP GJ.cells g.y g.l q)
 have xl:g.x.2.1=g.nm.length:=(gx p hp).1
 have yl:g.y.2.1=g.l.length:=(gy p hp).1
 simp only[sbS,Int.toNat_natCast,xl,yl]
 refine⟨⟨0,rfl,by omega,by simp⟩,?_⟩
 rintro j ⟨hj,ht⟩
 refine⟨λhlt=> ?_,λhge=> ?_⟩
 ·have h1:j<g.nm.length:=by omega
  have h2:j<g.l.length:=by omega
  have hd:=z64 (s:=s) h1 h2
  rw[ht]at hd
  refine⟨⟨by omega,by omega⟩,(z9a (gx p hp) h1).1,g.nm[j],λq hq=>(z9a (gx q hq) h1).2,λhs=> ?_,λhs=>⟨by omega,j+1,by omega,⟨by omega,?_⟩,by omega⟩⟩
  ·rw[if_pos hs]at hd
   refine⟨⟨by omega,by omega⟩,(zgp (gy p hp) h2).1,g.l[j].k,g.l[j].n,g.l[j].s,g.l[j].y.1,g.l[j].y.2.1,g.l[j].y.2.2,g.l[j].x.1,g.l[j].x.2.1,g.l[j].x.2.2,λq hq=>(zgp (gy q hq) h2).2,?_⟩
   rw[hd]
   exact⟨rfl,rfl,rfl,rfl,rfl,rfl,rfl,rfl,rfl,rfl⟩
  ·rw[if_neg hs]at hd
   exact hd.symm
 ·have:g.nm.drop j=[]:=List.drop_of_length_le (by omega)
  rw[this,z34]at ht
  ·rw[←ht]
   exact⟨rfl,rfl,rfl,rfl,rfl,rfl,rfl,rfl,rfl,rfl⟩
  ·intros;simp at*
def z19{n m:Int} (hL:z0q L) (h:0<m):0<=z0u L n m/\z0u L n m<m:=by
 unfold z0u
 split
 ·omega
 ·have:0<=L.getD n.toNat 0:=by
   rw[List.getD_eq_getElem?_getD]
   cases hg:L[n.toNat]? with
   |none=>simp
   |some b=>exact(hL.2 b (List.mem_of_getElem? hg)).1
  rw[Int.tmod_eq_emod_of_nonneg this]
  exact⟨Int.emod_nonneg _ (by omega),Int.emod_lt_of_pos _ h⟩
def z1i{n:Int} (h:n<=L.length):n<=z07 L n/\z07 L n<=L.length/\z07 L n<=n+1:=by
 unfold z07;split<;>omega
def zmo:q5k P 36 z3i:=by
  refine qm5 mixed (qee (qih z8z (qih z5a (qih zu6 qlq)))) (W:=z9l) Try.func36 (by kernel_rfl) (by decide) (by decide) (λs=>by kernel_rfl) λ⟨(x:SV),(L:List Int),(n:Int),g⟩=>(zmn x L n g).mpr ?_
  rintro⟨hn0,hn1,hL,hw⟩ ⟨p,_,hp,hg⟩
  simp only[sbS,Int.toNat_natCast,exists_const]
  have hnum:=λm (h:0<m)=>z19 (n:=n) (m:=m) hL h
  refine⟨⟨λh4=>⟨⟨λh=> ?_,λh1=>⟨λh=> ?_,λh2=>⟨λh=> ?_,λh3=> ?_⟩⟩⟩,?_⟩,λh4=>λh=>h4 h.1⟩,?_⟩
  · unfold isNum;rw[h];decide
  · unfold isNum;rw[h];decide
  · unfold isNum;rw[h];decide
  · unfold isNum;rw[decide_eq_false h1,decide_eq_false h2,decide_eq_false h3];rfl
  · rintro _ _
    have d0:∀{a b c d:Int×Int×ByteArray×Int},True:=λ{_ _ _ _}=>trivial
    refine⟨λhN=>⟨L,⟨hn0,hn1,by omega,by omega,hL⟩,λq hq=>hq.1,?_,?_⟩,λhN=>⟨⟨λh=> ?_,λh=> ?_⟩,?_⟩⟩
    · have:=hnum 200 (by omega);omega
    · unfold z26;rw[if_pos ⟨h4,hN⟩];exact⟨rfl,rfl,rfl,rfl⟩
    · unfold z35;rw[h];decide
    · unfold z35;rw[decide_eq_false h];rfl
    rintro _ _
    have n1:¬(g.k=4/\isNum g.s=true):=λh=>by rw[hN]at h;exact absurd h.2 (by simp)
    refine⟨λhT=>⟨L,⟨hn0,hn1,by omega,by omega,hL⟩,λq hq=>hq.1,hnum 3 (by omega),zg2 (z0u L n 3),?_,?_⟩,λhT=> ?_⟩
    · have h3:=hnum 3 (by omega)
      generalize z0u L n 3=r at h3⊢
      intro j v hj
      cases j with
      |succ j=>simp at hj
      | zero=>
        have:r=0\/r=1\/r=2:=by omega
        rcases this with rfl|rfl|rfl<;>exact hj
    · unfold z26;rw[if_neg n1,if_pos ⟨h4,hT⟩];exact⟨rfl,rfl,rfl,rfl⟩
    have n2:¬(g.k=4/\z35 g.s=true):=λh=>by rw[hT]at h;exact absurd h.2 (by simp)
    refine⟨λhB=>⟨L,⟨hn0,hn1,by omega,by omega,hL⟩,λq hq=>hq.1,?_⟩,λhB=>⟨λhU=> ?_,λhU=> ?_⟩⟩
    · unfold z26;rw[if_neg n1,if_neg n2,if_pos ⟨h4,by unfold z75;rw[hB];decide⟩];exact⟨rfl,rfl,rfl,rfl⟩
    · unfold z26;rw[if_neg n1,if_neg n2,if_neg (λh=>by unfold z75 at h;exact absurd h.2 (by rw[decide_eq_false hB];simp)),if_pos ⟨h4,by unfold za7;rw[hU];decide⟩];exact⟨rfl,rfl,rfl,rfl⟩
    · rintro⟨_,h|h|h|h⟩
      · rw[hN]at h;cases h
      · rw[hT]at h;cases h
      · unfold z75 at h;rw[decide_eq_false hB]at h;cases h
      · unfold za7 at h;rw[decide_eq_false hU]at h;cases h
  · rintro _ hno
    have n1:¬(g.k=4/\isNum g.s=true):=λh=>hno ⟨h.1, .inl h.2⟩
    have n2:¬(g.k=4/\z35 g.s=true):=λh=>hno ⟨h.1, .inr (.inl h.2)⟩
    have n3:¬(g.k=4/\z75 g.s=true):=λh=>hno ⟨h.1, .inr (.inr (.inl h.2))⟩
    have n4:¬(g.k=4/\za7 g.s=true):=λh=>hno ⟨h.1, .inr (.inr (.inr h.2))⟩
    unfold z26
    rw[if_neg n1,if_neg n2,if_neg n3,if_neg n4]
    refine⟨λh5=>by rw[if_pos h5];exact⟨rfl,rfl,rfl,rfl⟩,λh5=>⟨⟨g,mkS [116,121,112,101]⟩,?_⟩⟩
    simp only[true_and,eq_self]
    rw[if_neg h5]
    refine⟨hw,λq hq=>hq.2,λh=>by rw[if_pos h];exact⟨rfl,rfl,rfl,rfl⟩,λh=>⟨λh2=>by rw[if_neg h,if_pos h2];exact⟨rfl,rfl,rfl,rfl⟩,λh2=>by rw[if_neg h,if_neg h2];exact⟨rfl,rfl,rfl,rfl⟩⟩⟩
def zmm{g:GJ} {n:Int} (hL:z0q L) (h:n<=L.length):(n<=(z26 g L n).2.2.2/\(z26 g L n).2.2.2<=L.length)/\(-50<=(z26 g L n).2.1/\(z26 g L n).2.1<200)/\(z26 g L n).2.2.1.size<10:=by
 have b:=z1i h
 have h1:=z19 (n:=n) (m:=200) hL (by omega)
 have h2:=z19 (n:=n) (m:=2) hL (by omega)
 have t:(zg2 (z0u L n 3)).size<10:=by
  unfold zg2
  split
  ·decide
  ·split<;>decide
 have z:(mkS []).size<10:=by decide
 have z1:(mkS [88]).size<10:=by decide
 unfold z26
 repeat' split
 all_goals refine⟨⟨?_,?_⟩,⟨?_,?_⟩,?_⟩
 all_goals first|exact t|exact z|exact z1| (simp only;omega)
end
section
def z0z:q5k P 25 z1j:=by
 refine qm5 mixed z0p (W:=λ_=>{}) Try.func25 (by kernel_rfl) (by decide) (by decide) (λs=>by kernel_rfl) λ⟨S,(e0:Int),(e:Int)⟩=>(zg7 S e0 e).mpr ?_
 simp only[decide_eq_true_eq,decide_eq_false_iff_not,true_and,and_true,eq_self]
 intro _
 exact⟨λh=>if_pos h,λh=>if_neg h⟩
def z4q:q5k P 31 zt8:=by
 refine qm5 mixed (qee (qih z0z qlq)) (W:=λ_=>{}) Try.func31 (by kernel_rfl) (by decide) (by decide) (λs=>by kernel_rfl) λ⟨S,(e:Int),t⟩=>(zm4 S e t).mpr ?_
 simp only[decide_eq_true_eq,decide_eq_false_iff_not,true_and,and_true,eq_self]
 intro _
 refine⟨λh=>⟨S,rfl,rfl,?_,?_,?_,?_⟩,λh=>⟨z01 z1c S,by omega,by omega,?_,?_,?_,?_⟩⟩
 ·unfold adR;rw[if_pos (by omega)]
 ·unfold adS;rw[if_pos (by omega)]
 ·unfold adE;rw[if_pos (by omega)]
 ·unfold adS;rw[if_pos (by omega)]
 ·unfold adR;rw[if_neg (by omega)];omega
 ·unfold adS;rw[if_neg (by omega)];simp
 ·unfold adE;rw[if_neg (by omega)]
 ·unfold adS;rw[if_neg (by omega),z05];rfl
variable {s:ByteArray} {l:List ByteArray} {j:Nat}
def zc9(h:j<l.length):zky s (l.drop j) j=if l[j]=s then(j:Int)+1 else zky s (l.drop (j+1)) (j+1):=by
 rw[List.drop_eq_getElem_cons h,zky]
def zle{i:Nat} (h:i<l.length):∀(j:Nat) (v:Value),[Value.string l[i]][j]? =some v->(z00 txV l)[0+i*1+j]? =some v:=λj v hj=>by
 cases j with
 |zero=>rw[Nat.zero_add,z1t z0t l i h 0 (by decide)];exact hj
 |succ j=>simp at hj
def zcm:q5k P 30 zbm:=by
 refine qm5 mixed z0p (W:=zvh) Try.func30 (by kernel_rfl) (by decide) (by decide) (λs=>by kernel_rfl) λ(s:ByteArray)=>(zn1 s).mpr ?_
 simp only[decide_eq_true_eq,decide_eq_false_iff_not,true_and,and_true,eq_self,Int.toNat_natCast]
 intro _
 refine⟨⟨0,rfl,by omega,rfl⟩,?_⟩
 rintro j ⟨hj,ht⟩
 refine⟨λhlt=> ?_,λhge=> ?_⟩
 ·have hl:j<kinds.length:=by show j<14;have:(j:Int)<14:=hlt;omega
  have hd:=zc9 (s:=s) hl
  rw[ht]at hd
  refine⟨⟨by omega,by have:(j:Int)<14:=hlt;exact this⟩,kinds[j],zle hl,λh=>⟨by omega,by rw[hd,if_pos h]⟩,λh=>⟨by omega,j+1,by omega,⟨by have:(j:Int)<14:=hlt;omega,by rw[hd,if_neg h]⟩,by have:(j:Int)<14:=hlt;omega⟩⟩
 ·have:¬((j:Int)<14):=hge
  rw[List.drop_of_length_le (by show 14<=j;omega),zky]at ht
  exact ht.symm
def zic:q5k P 69 zmi:=by
 refine qm5 mixed z0p (W:=λ_=>{}) Try.func69 (by kernel_rfl) (by decide) (by decide) (λs=>by kernel_rfl) λ(k:Int)=>(zib k).mpr ?_
 simp only[decide_eq_true_eq,decide_eq_false_iff_not,true_and,and_true,eq_self,Int.toNat_natCast]
 intro _
 refine⟨λh=>by unfold z36;rw[if_pos (.inl h)],λh=>⟨λh2=>by unfold z36;rw[if_pos (.inr h2)],λh2=>⟨⟨by omega,by show k<15;omega⟩,z36 k,?_,rfl⟩⟩⟩
 obtain⟨j,rfl⟩:=Int.eq_ofNat_of_zero_le (show 0<=k by omega)
 obtain⟨i,rfl⟩:∃i,j=i+1:=⟨j- 1,by omega⟩
 have hi:i+1<(mkS []::kinds).length:=by show i+1<15;omega
 have e:z36 ((i+1:Nat):Int)=(mkS []::kinds)[i+1]:=by
  unfold z36
  rw[if_neg (by omega),Int.toNat_natCast,Nat.add_sub_cancel,List.getD_eq_getElem?_getD,List.getElem?_eq_getElem (by simpa using hi)];rfl
 rw[e,Int.toNat_natCast]
 exact zle (l:=mkS []::kinds) hi
def za4{l:List AT} (h:j<l.length):findF s (l.drop j) j=if l[j].nm=s/\9<=l[j].k/\l[j].k<=11 then some j else findF s (l.drop (j+1)) (j+1):=by
 rw[List.drop_eq_getElem_cons h,findF]
def z89{l:List AT} {i:Nat} (h:i<l.length):∀(j:Nat) (v:Value),l[i].cells[j]? =some v->(z00 AT.cells l)[0+i*10+j]? =some v:=λj v hj=>by
 have hl:j<10:=(List.getElem?_eq_some_iff.mp hj).1
 rw[Nat.zero_add,z1t z1c l i h j hl];exact hj
def z8l:q5k P 47 zbi:=by
 refine qm5 mixed z0p (W:=zvf) Try.func47 (by kernel_rfl) (by decide) (by decide) (λs=>by kernel_rfl) λ⟨S,(e:Int),s⟩=>(zg9 S e s).mpr ?_
 simp only[decide_eq_true_eq,decide_eq_false_iff_not,true_and,and_true,eq_self,Int.toNat_natCast]
 intro hl
 refine⟨⟨0,rfl,by omega,rfl⟩,?_⟩
 rintro j ⟨hj,ht⟩
 refine⟨λhlt=> ?_,λhge=> ?_⟩
 ·have hjl:j<S.length:=by omega
  have hd:=za4 (s:=s) hjl
  rw[ht]at hd
  refine⟨⟨by omega,by omega⟩,S[j].k,S[j].nm,S[j].al.1,S[j].al.2.1,S[j].al.2.2,S[j].it,S[j].sy.1,S[j].sy.2.1,S[j].sy.2.2,S[j].hd,S[j].df,S[j].sz,S[j].f.1,S[j].f.2.1,S[j].f.2.2,S[j].br.1,S[j].br.2.1,S[j].br.2.2,z89 hjl,λh1=>⟨λh2=>⟨λh3=> ?_,λh3=>⟨by omega,j+1,by omega,⟨by omega,?_⟩,by omega⟩⟩,λh2=>⟨by omega,j+1,by omega,⟨by omega,?_⟩,by omega⟩⟩,λh1=>⟨by omega,j+1,by omega,⟨by omega,?_⟩,by omega⟩⟩
  ·rw[hd,if_pos ⟨h1,h2,h3⟩];exact⟨rfl,rfl⟩
  ·rw[hd,if_neg (λh=>h3 h.2.2)]
  ·rw[hd,if_neg (λh=>h2 h.2.1)]
  ·rw[hd,if_neg (λh=>h1 h.1)]
 ·rw[List.drop_of_length_le (by omega),findF]at ht
  rw[←ht];exact⟨rfl,rfl⟩
def zv6:q5k P 49 j19:=by
 refine qm5 mixed (qee (qih zic qlq)) (W:=λ_=>{}) Try.func49 (by kernel_rfl) (by decide) (by decide) (λs=>by kernel_rfl) λ⟨S,(t:Int)⟩=>(zv5 S t).mpr ?_
 simp only[decide_eq_true_eq,decide_eq_false_iff_not,Bool.not_eq_true',Bool.not_eq_false',true_and,and_true,eq_self,Int.toNat_natCast]
 intro hl
 refine⟨λh=>by unfold zdl;rw[if_pos (.inl h)],λh=>⟨λh2=>by unfold zdl;rw[if_pos (.inr h2)],λh2=> ?_⟩⟩
 obtain⟨j,rfl⟩:=Int.eq_ofNat_of_zero_le (show 0<=t by omega)
 have hj:j<S.length:=by omega
 rw[Int.toNat_natCast]
 have e1:zdl S (j:Int)=if S[j].nm=mkS []then z36 S[j].k else S[j].nm:=by
  unfold zdl
  rw[if_neg (by omega),Int.toNat_natCast,List.getElem?_eq_getElem hj]
 have c1:∀(i:Nat) (v:Value),[Value.string S[j].nm][i]? =some v->(z00 AT.cells S)[0+j*10+1+i]? =some v:=λi v hi=>by
  cases i with
  |zero=>exact z89 hj 1 v hi
  |succ i=>simp at hi
 refine⟨⟨by omega,by omega⟩,S[j].nm,c1,λh3=>⟨⟨by omega,by omega⟩,S[j].nm,c1,by rw[e1,if_neg h3]⟩,λh3=>⟨⟨by omega,by omega⟩,S[j].k,λi v hi=> ?_,S[j].k,rfl,by rw[e1,if_pos h3]⟩⟩
 cases i with
 |zero=>exact z89 hj 0 v hi
 |succ i=>simp at hi
def zcq:q5k P 82 z70:=by
 refine qm5 mixed z0p (W:=λ_=>{}) Try.func82 (by kernel_rfl) (by decide) (by decide) (λc=>by kernel_rfl) λ(c:Int)=>(zcp c).mpr ?_
 rintro⟨h1,h2⟩
 obtain⟨n,rfl⟩:=Int.eq_ofNat_of_zero_le h1
 simp only[decide_eq_true_eq,decide_eq_false_iff_not,Int.toNat_natCast,and_true]
 repeat' first|intro _|apply And.intro
 all_goals (rw[Bool.eq_iff_iff];simp[isLt];omega)
def zg5:q5k P 83 zbh:=by
 refine qm5 mixed z0p (W:=λ_=>{}) Try.func83 (by kernel_rfl) (by decide) (by decide) (λc=>by kernel_rfl) λ(c:Int)=>(zg4 c).mpr ?_
 rintro⟨h1,h2⟩
 obtain⟨n,rfl⟩:=Int.eq_ofNat_of_zero_le h1
 simp only[decide_eq_true_eq,decide_eq_false_iff_not,Int.toNat_natCast,and_true]
 repeat' first|intro _|apply And.intro
 all_goals (rw[Bool.eq_iff_iff];simp[zmy];omega)
def zuq(h:j<s.size):ptA s (s.size- j) j=(ptC s j&&ptA s (s.size- (j+1)) (j+1)):=by
 rw[show s.size- j=s.size- (j+1)+1 by omega,ptA,if_pos h]
def z78:q5k P 71 z9w:=by
 refine qm5 mixed (qee (qih zcq (qih zg5 qlq))) (W:=zvj) Try.func71 (by kernel_rfl) (by decide) (by decide) (λs=>by kernel_rfl) λ(s:ByteArray)=>(znk s).mpr ?_
 simp only[decide_eq_true_eq,decide_eq_false_iff_not,Bool.not_eq_true',Bool.not_eq_false',true_and,and_true,eq_self,Int.toNat_natCast]
 intro hs
 refine⟨⟨0,rfl,by omega,rfl⟩,?_⟩
 rintro j ⟨hj,ht⟩
 have hb:=z25 s j
 refine⟨λhlt=> ?_,λhge=> ?_⟩
 ·have hd:=zuq (s:=s) (j:=j) (by omega)
  rw[ht]at hd
  refine⟨⟨by omega,by omega⟩,⟨by omega,by omega⟩,λh1=>⟨λh2=> ?_,λh2=>⟨⟨by omega,by omega⟩,⟨by omega,by omega⟩,λh3=> ?_,λh3=>⟨by omega,j+1,by omega,⟨by omega,?_⟩,by omega⟩⟩⟩,λh1=>⟨by omega,j+1,by omega,⟨by omega,?_⟩,by omega⟩⟩
  ·unfold z21;rw[hd];unfold ptC;rw[h1,decide_eq_false (by omega)];rfl
  ·unfold z21;rw[hd];unfold ptC;rw[h1,h3,Bool.and_false];rfl
  ·rw[hd];unfold ptC;rw[h1,h3,decide_eq_true (by omega)];rfl
  ·rw[hd];unfold ptC;rw[h1];rfl
 ·rw[show s.size- j=0 by omega,ptA]at ht
  unfold z21;rw[←ht]
  exact z2l (by omega)
def znl{s q:ByteArray} (h:j<s.size+1):zfs s (s.size+1- j) j q=if j<s.size/\bat s j≠46 then zfs s (s.size+1- (j+1)) (j+1) (q++s.extract j (j+1))else if z21 q=true then zfs s (s.size+1- (j+1)) (j+1) (mkS [])else false:=by
 rw[show s.size+1- j=s.size+1- (j+1)+1 by omega,zfs]
def zhd:q5k P 70 z8e:=by
 refine qm5 mixed (qee (qih z78 qlq)) (W:=zln) Try.func70 (by kernel_rfl) (by decide) (by decide) (λs=>by kernel_rfl) λ(s:ByteArray)=>(parts_eq s).mpr ?_
 simp only[decide_eq_true_eq,decide_eq_false_iff_not,Bool.not_eq_true',Bool.not_eq_false',true_and,and_true,eq_self,Int.toNat_natCast]
 intro hs
 refine⟨⟨⟨0,mkS []⟩,rfl,rfl,by omega,Nat.le_refl _,rfl⟩,?_⟩
 rintro⟨j,q⟩ ⟨hj,hq,ht⟩
 simp only at hj hq ht⊢
 have t1:((j:Int)+1).toNat=j+1:=by omega
 refine⟨λhle=> ?_,λhge=> ?_⟩
 ·have hd:=znl (s:=s) (q:=q) (j:=j) (by omega)
  rw[ht]at hd
  rw[t1]
  refine⟨λhlt=>⟨⟨by omega,by omega⟩,λh46=>⟨by omega,⟨by omega,by omega,by omega⟩,?_,by omega,⟨j+1,q++s.extract j (j+1)⟩,rfl,rfl,⟨by show j+1<=_;omega,?_,?_⟩,by show s.size+1- (j+1)<_;omega⟩,λh46=>⟨by omega,λhp=> ?_,λhp=>⟨by omega,⟨j+1,mkS []⟩,rfl,rfl,⟨by show j+1<=_;omega,Nat.zero_le _,?_⟩,by show s.size+1- (j+1)<_;omega⟩⟩⟩,λhge=>⟨by omega,λhp=> ?_,λhp=>⟨by omega,⟨j+1,mkS []⟩,rfl,rfl,⟨by show j+1<=_;omega,Nat.zero_le _,?_⟩,by show s.size+1- (j+1)<_;omega⟩⟩⟩
  ·rw[ByteArray.size_extract];omega
  ·show(q++s.extract j (j+1)).size<=j+1
   rw[ByteArray.size_append,ByteArray.size_extract];omega
  ·rw[hd,if_pos ⟨by omega,by omega⟩]
  ·rw[hd,if_neg (by omega),hp];rfl
  ·rw[hd,if_neg (by omega),if_pos hp]
  ·rw[hd,if_neg (by omega),hp];rfl
  ·rw[hd,if_neg (by omega),if_pos hp]
 ·rw[show s.size+1- j=0 by omega,zfs]at ht
  exact ht.symm
def zbf:q5k P 52 z4s:=by
 refine qm5 mixed z0p (W:=ze3) Try.func52 (by kernel_rfl) (by decide) (by decide) (λs=>by kernel_rfl) λ(s:ByteArray)=>(zbe s).mpr ?_
 simp only[decide_eq_true_eq,decide_eq_false_iff_not,Bool.not_eq_true',Bool.not_eq_false',true_and,and_true,eq_self,Int.toNat_natCast]
 intro hs
 refine⟨by omega,⟨s.size,rfl,Nat.le_refl _,rfl⟩,?_⟩
 rintro j ⟨hj,ht⟩
 refine⟨λh0=> ?_,λh0=> ?_⟩
 ·obtain⟨i,rfl⟩:∃i,j=i+1:=⟨j- 1,by omega⟩
  have e:((i+1:Nat):Int)- 1=(i:Int):=by omega
  rw[z4r]at ht
  rw[e,Int.toNat_natCast]
  refine⟨⟨by omega,by omega⟩,λh=>⟨⟨by omega,by omega⟩,?_⟩,λh=>⟨by omega,i,by omega,⟨by omega,?_⟩,by omega⟩⟩
  ·rw[←ht,if_pos (by omega)]
  ·rw[←ht,if_neg (by omega)]
 ·obtain rfl:j=0:=by omega
  rw[z4r]at ht;exact ht.symm
def zcj:q5k P 48 zfz:=by
 refine qm5 mixed z0p (W:=λ_=>{}) Try.func48 (by kernel_rfl) (by decide) (by decide) (λs=>by kernel_rfl) λ⟨a,b⟩=>(join_eq a b).mpr ?_
 simp only[decide_eq_true_eq,decide_eq_false_iff_not,Bool.not_eq_true',Bool.not_eq_false',true_and,and_true,eq_self,Int.toNat_natCast]
 rintro⟨ha,hb⟩
 have z:(mkS [46]).size=1:=rfl
 unfold z20
 refine⟨λh=>⟨by omega,if_pos (.inl h)⟩,λh=>⟨λh2=>⟨by omega,if_pos (.inr h2)⟩,λh2=>⟨by omega,by rw[ByteArray.size_append];omega,if_neg (by simp[h,h2])⟩⟩⟩
def zmp(h:j<s.size):zks s (s.size- j) j=(decide (bat s j=46)||zks s (s.size- (j+1)) (j+1)):=by
 rw[show s.size- j=s.size- (j+1)+1 by omega,zks,if_pos h]
def za8{a b:ByteArray}:(z20 a b).size<=a.size+b.size+1:=by
 have z:(mkS [46]).size=1:=rfl
 unfold z20
 split
 ·rw[ByteArray.size_append];omega
 ·rw[ByteArray.size_append,ByteArray.size_append];omega
def z3y{a b:ByteArray}:(z13 a b).size<=a.size+b.size+1:=by
 unfold z13
 split
 ·omega
 ·have:=za8 (a:=b) (b:=a);omega
def zeb:q5k P 51 z51:=by
 refine qm5 mixed (qee (qih zcj (qih zhd (qih z0z qlq)))) (W:=zlu) Try.func51 (by kernel_rfl) (by decide) (by decide) (λs=>by kernel_rfl) λ⟨S,(e:Int),a,b⟩=>(zea S e a b).mpr ?_
 simp only[decide_eq_true_eq,decide_eq_false_iff_not,Bool.not_eq_true',Bool.not_eq_false',true_and,and_true,eq_self,Int.toNat_natCast]
 rintro⟨ha,hb⟩
 have hw:=z3y (a:=a) (b:=b)
 refine⟨⟨by omega,by omega⟩,⟨⟨0,z20 b a⟩,rfl,rfl,Nat.zero_le _,rfl⟩,?_⟩
 rintro⟨j,q⟩ ⟨hj,ht⟩
 simp only at hj ht⊢
 refine⟨λhlt=> ?_,λhge=> ?_⟩
 ·have hd:=zmp (s:=a) (j:=j) (by omega)
  rw[hd]at ht
  refine⟨⟨by omega,by omega⟩,λh=>⟨by omega,⟨j+1,a⟩,rfl,by show((j+1:Nat):Int)=_;omega,⟨by show j+1<=_;omega,?_⟩,by show a.size- (j+1)<_;omega⟩,λh=>⟨by omega,⟨j+1,q⟩,rfl,by show((j+1:Nat):Int)=_;omega,⟨by show j+1<=_;omega,?_⟩,by show a.size- (j+1)<_;omega⟩⟩
  ·rw[decide_eq_true (by omega),Bool.true_or,if_pos rfl]at ht
   rw[←ht];exact ite_self _
  ·rw[decide_eq_false (by omega),Bool.false_or]at ht
   exact ht
 ·rw[show a.size- j=0 by omega,zks,if_neg (by simp)]at ht
  rw[ht]
  unfold whE
  refine⟨λh=>⟨S,rfl,rfl,rfl,rfl,if_pos (.inl h),rfl⟩,λh=>⟨by omega,λh2=>⟨S,rfl,rfl,rfl,rfl,if_pos (.inr h2),rfl⟩,λh2=>⟨rfl,if_neg (by rw[h2];simp[h])⟩⟩⟩
def z27:q5k P 28 z45:=by
 refine qm5 mixed z0p (W:=zvg) Try.func28 (by kernel_rfl) (by decide) (by decide) (λs=>by kernel_rfl) λ⟨g,s⟩=>(zmq g s).mpr ?_
 rintro hw ⟨p,_,hp⟩
 rw[GJ.wf_eq]at hw
 obtain⟨_,hl,hnl,_⟩:=hw
 have gx:=λq (hq:g.ok q)=>(by rw[GJ.ok_eq]at hq;exact hq.2.1:slP txV g.x g.nm q)
 have gy:=λq (hq:g.ok q)=>(by rw[GJ.ok_eq]at hq;exact hq.1:slP GJ.cells g.y g.l q)
 have xl:g.x.2.1=g.nm.length:=(gx p hp).1
 have yl:g.y.2.1=g.l.length:=(gy p hp).1
 simp only[sbS,Int.toNat_natCast,xl,yl]
 refine⟨⟨0,rfl,by omega,rfl⟩,?_⟩
 rintro j ⟨hj,ht⟩
 have none0:z0c s g=none->(((z0c s g).getD zJ).k=0/\((z0c s g).getD zJ).n=0/\((z0c s g).getD zJ).s=mkS []/\((z0c s g).getD zJ).y.1=noA/\((z0c s g).getD zJ).y.2.1=0/\((z0c s g).getD zJ).y.2.2=0/\((z0c s g).getD zJ).x.1=noA/\((z0c s g).getD zJ).x.2.1=0/\((z0c s g).getD zJ).x.2.2=0/\(z0c s g).isSome=false):=λh=>by
  rw[h];exact⟨rfl,rfl,rfl,rfl,rfl,rfl,rfl,rfl,rfl,rfl⟩
 have endd:g.nm.length<=j->z0c s g=none:=λh=>by
  rw[←ht,List.drop_of_length_le h]
  split
  ·rw[z34];intros;simp at*
  ·rfl
 refine⟨λh6=>⟨λhlt=>⟨λhlt2=> ?_,λh=>by omega⟩,λh=>none0 (endd (by omega))⟩,λh6=>none0 (by rw[←ht,if_neg h6])⟩
 have h1:j<g.nm.length:=by omega
 have h2:j<g.l.length:=by omega
 have hd:=z64 (s:=s) h1 h2
 rw[if_pos h6]at ht
 rw[ht]at hd
 refine⟨⟨by omega,by omega⟩,(z9a (gx p hp) h1).1,g.nm[j],λq hq=>(z9a (gx q hq) h1).2,λhs=> ?_,λhs=>⟨by omega,j+1,by omega,⟨by omega,?_⟩,by omega⟩⟩
 ·rw[if_pos hs]at hd
  refine⟨⟨by omega,by omega⟩,(zgp (gy p hp) h2).1,g.l[j].k,g.l[j].n,g.l[j].s,g.l[j].y.1,g.l[j].y.2.1,g.l[j].y.2.2,g.l[j].x.1,g.l[j].x.2.1,g.l[j].x.2.2,λq hq=>(zgp (gy q hq) h2).2,?_⟩
  rw[hd]
  exact⟨rfl,rfl,rfl,rfl,rfl,rfl,rfl,rfl,rfl,rfl⟩
 ·rw[if_neg hs]at hd
  rw[if_pos h6]
  exact hd.symm
def z5f:q5k P 50 z61:=by
  refine qm5 mixed (qee (qih z27 (qih z0z qlq))) (W:=λ_=>{}) Try.func50 (by kernel_rfl) (by decide) (by decide) (λs=>by kernel_rfl) λ⟨S,(e:Int),g,s,b⟩=>(zid S e g s b).mpr ?_
  rintro hw ⟨p,_,hp⟩
  simp only[sbS,Int.toNat_natCast]
  refine⟨⟨g,s⟩,rfl,rfl,rfl,rfl,rfl,rfl,rfl,rfl,rfl,rfl,hw,λq hq=>hq,?_⟩
  simp only
  unfold woR
  cases hk:z0c s g with
  | none=>
    refine⟨λ_=>⟨λhb=> ?_,λhb=>⟨λ_=>⟨S,rfl,rfl,?_,rfl,?_,rfl⟩,λh=>absurd h (by simp)⟩⟩,λh=>absurd h (by simp)⟩
    · simp only[hb];refine⟨?_,?_⟩<;>first|rfl|trivial
    · simp only[hb];rfl
    · simp only[hb];rfl
  | some t=>
    refine⟨λh=>absurd h (by simp),λ_=>⟨λh=>absurd h (by simp),λ_=>⟨λh4=>⟨S,rfl,rfl,?_,rfl,?_,rfl⟩,λh4=> ?_⟩⟩⟩
    · have h4:¬t.k=4:=h4
      simp only[if_neg h4]
    · have h4:¬t.k=4:=h4
      simp only[if_neg h4]
    · have h4:t.k=4:=h4
      simp only[if_pos h4];refine⟨?_,?_⟩<;>first|rfl|trivial
end
def z33:List GJ->Int->List ByteArray->List ByteArray×Int
 | [],e,acc=>(acc,e)
 |g::l,e,acc=>if e=0 then z33 l (if g.k=4 then 0 else 2) (acc++[g.s])else(acc,e)
def tyE(g:GJ) (s:ByteArray) (e:Int):Int:=if((z0c s g).getD zJ).k=5 then e else faE e 2
def z1l(g:GJ) (s:ByteArray) (e:Int):List ByteArray×Bool×Int:=if(z0c s g).isSome=true then((z33 ((z0c s g).getD zJ).l (tyE g s e) []).1,true,(z33 ((z0c s g).getD zJ).l (tyE g s e) []).2)else([],false,e)
def je0(l:List ByteArray):List SV->PF
 | [x]=>⟨true,slP txV x l,λ_ _ h e=>z0e h e⟩
 |_=>{}
def z4j:Ct where
 σ:=List AT×Int×GJ×ByteArray
 args:=λ⟨S,e,g,s⟩=>[.ptr 1 0,g.av, .sv (.string s)]
 h:=λ⟨S,e,g,s⟩=>mkO S e 2 3
 m:=4
 pre:=λ⟨S,e,g,s⟩=>g.wf
 mem:=λ⟨S,e,g,s⟩=>gM g
 r:=λ⟨S,e,g,s⟩=> .tup [.tsl 4, .sv (.bool (z1l g s e).2.1)]
 h':=λ⟨S,e,g,s⟩=>mkO S (z1l g s e).2.2 2 3
 m':=5
 g:=λ⟨S,e,g,s⟩=>some {β:=Unit,ks:=[4],pre:=λ_=>True,mem:=λ_ xs=>je0 (z1l g s e).1 xs}
def mkC(S:List AT) (e:Int) (r k:Nat):Nat×AO:=(1, .cells 66 (some 0) false [.ssl r 0 S.length 10 k, .sv (.int .i64 e)])
def zlq:z4j.σ->WayF:=λ⟨S,e,g,s⟩=>{
 cut:=λi _ _=>match i with
  |6=>some {σ:=Unit,t:=λ_=>[],h:=λ_=>[mkC S (tyE g s e) 2 3],more:=0,μ:=λ_=>0,keep:=[0,6,7,8]}
  |_=>none
 ann:=λ_ _ _=>some {σ:=Nat×Int×List ByteArray,pre:=λ⟨j,e',acc⟩=>j<=((z0c s g).getD zJ).l.length/\acc.length<=j/\z33 (((z0c s g).getD zJ).l.drop j) e' acc=z33 ((z0c s g).getD zJ).l (tyE g s e) [],t:=λ⟨j,e',acc⟩=>[(11, .sv (.int .i64 (j:Int))),(10, .ssl 7 0 acc.length 1 8)],h:=λ⟨j,e',acc⟩=>[(7, .row 9 0 (z00 txV acc)),mkC S e' 2 3],more:=2,μ:=λ⟨j,e',acc⟩=>((z0c s g).getD zJ).l.length- j,keep:=[0,6,7,8]}
 pubE:=[6]}
def z1m(n:Nat) (a:AT):Prop:=(1<=a.k/\a.k<=14)/\(a.k=12\/a.k=13->0<=a.it/\a.it<n)/\(∀b∈a.brs,0<=b/\b<n)/\(a.k=14->a.brs≠[])/\(∀f∈a.fs,(0<=f.ty/\f.ty<n)/\f.df.wf)/\(a.k=10->a.sys≠[])/\(a.k=11->0<=a.sz/\a.sz<=5000)/\(a.fs.length<=30/\a.brs.length<=30/\a.sys.length<=30)
def grown(S:List AT) (e:Int) (T:List AT) (e':Int):Prop:=(S++T).length<=60/\(e'=0->e=0/\∀a∈T,z1m (S++T).length a)
def toM(T:List AT):PF:=⟨true,λp=>∀a∈T,a.ok p,λ_ _ h e a ha=>AT.ok_mono h (e a ha)⟩
abbrev TmB:=List AT×Int×Int
def z8f:CtR where
 σ:=List AT×Int×ByteArray×ByteArray
 args:=λ⟨S,e,s,sp⟩=>[.ptr 1 0, .sv (.string s), .sv (.string sp)]
 h:=λ⟨S,e,s,sp⟩=>mkO S e 2 3
 m:=4
 pre:=λ⟨S,e,s,sp⟩=>S.length<=60/\s.size<100000/\sp.size<100000
 β:=λ_=>TmB
 post:=λ⟨S,e,s,sp⟩ ⟨T,e',r⟩=>grown S e T e'/\(e'=0->0<=r/\r<(S++T).length)
 pm:=λ_ ⟨T,e',r⟩=>toM T
 r:=λ_ ⟨T,e',r⟩=> .sv (.int .i64 r)
 h':=λ⟨S,e,s,sp⟩ ⟨T,e',r⟩=>mkO (S++T) e' 4 5
 m':=6
def zlp:z8f.σ->WayF:=λ⟨S,e,s,sp⟩=>{
 cut:=λi _ _=>match i with
  |4=>some {σ:=Unit,t:=λ_=>[],h:=λ_=>[],more:=0,μ:=λ_=>0,keep:=[0,1,2,6,7]}
  |_=>none
 ann:=λ_ _ _=>some {σ:=Nat×Bool,pre:=λ⟨j,d⟩=>j<=s.size,t:=λ⟨j,d⟩=>[(9, .sv (.int .i64 (j:Int))),(8, .sv (.bool d))],h:=λ_=>[],more:=0,μ:=λ⟨j,d⟩=>s.size- j,keep:=[0,1,2,6,7]}}
section
variable (x0:GJ×ByteArray) (x1:List AT) (x2:Int) (x3:GJ) (x4:ByteArray) (x5:Nat×Int×List ByteArray) (x6:Prop) (x7:Nat×Int×List ByteArray) (x8:Nat->Option Obj) (x9:Nat) (x10:Option Addr)
 abbrev zao:=z00 AT.cells x1=z00 AT.cells x1
 abbrev z38:=Option.getD (z0c x0.2 x0.1) zJ
 def zwd:=GJ.k (z38 x0)=GJ.k (z38 x0)/\GJ.n (z38 x0)=GJ.n (z38 x0)/\GJ.s (z38 x0)=GJ.s (z38 x0)/\(GJ.y (z38 x0)).1=(GJ.y (z38 x0)).1/\(GJ.y (z38 x0)).2.1=(GJ.y (z38 x0)).2.1/\(GJ.y (z38 x0)).2.2=(GJ.y (z38 x0)).2.2/\(GJ.x (z38 x0)).1=(GJ.x (z38 x0)).1/\(GJ.x (z38 x0)).2.1=(GJ.x (z38 x0)).2.1/\(GJ.x (z38 x0)).2.2=(GJ.x (z38 x0)).2.2/\(∀i0,True/\GJ.ok x3 i0->True/\GJ.ok x3 i0)/\x6
 abbrev zap:=GJ.l (Option.getD (z0c x4 x3) zJ)
 def j0q:=x5.1<=length (zap x3 x4)/\length x5.2.2<=x5.1/\z33 (drop x5.1 (zap x3 x4)) x5.2.1 x5.2.2=z33 (zap x3 x4) (tyE x3 x4 x2) []
 abbrev zow:=(↑x5.1:Int)<(↑(GJ.y (z38 x0)).2.1:Int)
 def zis:=(0<=(↑x5.1:Int)/\zow x0 x5)/\(GJ.y (z38 x0)).1≠noA/\x6
 def zou:=(∀i0,True/\GJ.ok x3 i0->q3p i0 (Addr.add (adr (GJ.y (z38 x0)).1 (toNat (↑x5.1:Int)*5)) 2) [string x4])/\length (z00 txV x5.2.2)=length x5.2.2*1/\(length x5.2.2+nat_lit 1)*16<=140737488355328/\Jb ((↑x5.1:Int)+1)/\x6
 def zox:=(↑x5.1:Int)=(↑x7.1:Int)+1/\length x5.2.2=length x7.2.2+nat_lit 1/\x6
 def zov:=zwd x0 x3 ((j0q x2 x3 x4 x5)/\length (zap x3 x4)- x5.1<length (zap x3 x4)- x7.1/\True)
 def j6t:=zis x0 x5 (∃i0,zou x0 x3 i0 x5 (∃(i2:Nat×Int×List ByteArray),zox i2 (length x1=length x1/\i2.2.1=x5.2.1/\z00 txV i2.2.2=z00 txV x5.2.2++[string i0]/\zao x1/\zov x0 x2 x3 x4 i2 x5) x5))
 def j6s:=zis x0 x5 (∃(i0:Int),(∀i1,True/\GJ.ok x3 i1->q3p i1 (Addr.add (adr (GJ.y (z38 x0)).1 (toNat (↑x5.1:Int)*5)) 0) [int i64 i0])/\((!decide (i0=4))=true->∃(i2:List AT),(2:Int)=2/\length i2=length x1/\x5.2.1=x5.2.1/\z00 AT.cells i2=z00 AT.cells x1/\True/\zis x0 x5 (∃i3,zou x0 x3 i3 x5 (∃(i5:Nat×Int×List ByteArray),zox i5 (length x1=length i2/\i5.2.1=faE x5.2.1 2/\z00 txV i5.2.2=z00 txV x5.2.2++[string i3]/\z00 AT.cells x1=z00 AT.cells i2/\zov x0 x2 x3 x4 i5 x5) x5)))/\((!decide (i0=4))=false->j6t x0 x1 x2 x3 x4 x5))
 def zoy:=(True/\GJ.ok x3 x8)/\length x5.2.2<=x9/\qik x8 x10 (take (length x5.2.2*nat_lit 1) (z00 txV x5.2.2))
 def j2m:=∀(i0 i1 i2:Nat) (i3:Option Addr) (i4 i5:Nat),(∃i6,zoy x3 x5 i6 i5 i3)->∃(i7:Unit),i3=i3/\length x5.2.2=length x5.2.2/\i5=i5/\(z1l x3 x4 x2).2.1=true/\length x1=length x1/\(z1l x3 x4 x2).2.2=x5.2.1/\zao x1/\Pl i3/\True/\(∀i8,zoy x3 x5 i8 i5 i3->slP txV (i3,length x5.2.2,i5) (z1l x3 x4 x2).1 i8)/\True
 def j6r:=Ji (x5.2.1=0) (j6s x0 x1 x2 x3 x4 x5) (j2m x1 x2 x3 x4 x5)
 abbrev j6q:=Ji (zow x0 x5) (j6r x0 x1 x2 x3 x4 x5) (j2m x1 x2 x3 x4 x5)
 def j6p:=(∃(i0:Nat×Int×List ByteArray),(↑i0.1:Int)=0/\length i0.2.2=0/\length x1=length x1/\i0.2.1=tyE x3 x4 x2/\zao x1/\zwd x0 x3 ((j0q x2 x3 x4 i0)/\True))/\∀(i2:Nat×Int×List ByteArray),j0q x2 x3 x4 i2->j6q x0 x1 x2 x3 x4 i2
 def j6o:=(((!decide (GJ.k (z38 x0)=5))=true->∃(i0:List AT),(2:Int)=2/\length i0=length x1/\x2=x2/\z00 AT.cells i0=z00 AT.cells x1/\True/\∃(i1:Unit),length x1=length i0/\tyE x3 x4 x2=faE x2 2/\z00 AT.cells x1=z00 AT.cells i0/\zwd x0 x3 (True/\True))/\((!decide (GJ.k (z38 x0)=5))=false->∃(i3:Unit),length x1=length x1/\tyE x3 x4 x2=x2/\zao x1/\zwd x0 x3 (True/\True)))/\∀(i5:Unit),True->j6p x0 x1 x2 x3 x4
end
def zdo(S:List AT) (e:Int) (g:GJ) (s:ByteArray):qm2 P (qh2 [(28,z45),(25,z1j)]) Try.f53 z4j (zlq) ⟨S,e,g,s⟩=(GJ.wf g->(∃(p:Pub),True/\GJ.ok g p)->∃(s_1:GJ×ByteArray),GJ.k s_1.1=GJ.k g/\GJ.n s_1.1=GJ.n g/\GJ.s s_1.1=GJ.s g/\(GJ.y s_1.1).1=(GJ.y g).1/\(GJ.y s_1.1).2.1=(GJ.y g).2.1/\(GJ.y s_1.1).2.2=(GJ.y g).2.2/\(GJ.x s_1.1).1=(GJ.x g).1/\(GJ.x s_1.1).2.1=(GJ.x g).2.1/\(GJ.x s_1.1).2.2=(GJ.x g).2.2/\s_1.2=s/\GJ.wf s_1.1/\(∀(p:Pub),True/\GJ.ok g p->GJ.ok s_1.1 p)/\((!Option.isSome (z0c s_1.2 s_1.1))=true->∃(b:Unit),noA=noA/\(0:Nat)=0/\(0:Nat)=0/\(z1l g s e).2.1=false/\length S=length S/\(z1l g s e).2.2=e/\zao S/\Pl noA/\True/\(∀(p:Pub),True/\GJ.ok g p->slP txV (noA,(0:Nat),(0:Nat)) (z1l g s e).1 p)/\True)/\((!Option.isSome (z0c s_1.2 s_1.1))=false->j6o s_1 S e g s)):=by kernel_rfl
def zhy:=λS e g s=>Eq.trans (zdo S e g s) (by delta Ji Jb Jt Jf zao z38 zwd zap j0q zow zis zou zox zov j6t j6s zoy j2m j6r j6q j6p j6o;exact rfl)
section
variable (x0:ByteArray) (x1:List AT) (x2:Int) (x3:ByteArray) (x4:Nat×Bool) (x5:TmB) (x6:List AT) (x7:Prop) (x8:Nat×Bool)
 abbrev j0r:=(grown x1 x2 x5.1 x5.2.1/\(x5.2.1=0->0<=x5.2.2/\x5.2.2<(↑(length (x1++x5.1)):Int)))/\(∀i0,True->∀(i1:AT),i1∈x5.1->AT.ok i1 i0)/\True
 def zaq:=length x1=length x1/\x2=x2/\z00 AT.cells x1=z00 AT.cells x1/\x7
 def j6z:=Ji (z0b x0<=8) (∃(i0:List AT×Int×AT),AT.k i0.2.2=z0b x0/\AT.nm i0.2.2=mkS []/\(AT.al i0.2.2).1=noA/\(AT.al i0.2.2).2.1=0/\(AT.al i0.2.2).2.2=0/\AT.it i0.2.2=0/\(AT.sy i0.2.2).1=noA/\(AT.sy i0.2.2).2.1=0/\(AT.sy i0.2.2).2.2=0/\AT.hd i0.2.2=false/\AT.df i0.2.2=mkS []/\AT.sz i0.2.2=0/\(AT.f i0.2.2).1=noA/\(AT.f i0.2.2).2.1=0/\(AT.f i0.2.2).2.2=0/\(AT.br i0.2.2).1=noA/\(AT.br i0.2.2).2.1=0/\(AT.br i0.2.2).2.2=0/\length i0.1=length x1/\i0.2.1=x2/\z00 AT.cells i0.1=z00 AT.cells x1/\True/\∃(i1:TmB),i1.2.2=adR i0.1/\length (x1++i1.1)=length (adS i0.1 i0.2.2)/\i1.2.1=adE i0.1 i0.2.1/\z00 AT.cells (x1++i1.1)=z00 AT.cells (adS i0.1 i0.2.2)/\j0r x1 x2 i1) (∃(i4:Unit),x0=x0/\z0b x0=z0b x0/\x3=x3/\zaq x1 x2 (True/\True))
 abbrev zoz:=Jb ((↑x4.1:Int)+1)
 def zp1:=x4.1<=size x0/\size x0- x4.1<size x0- x8.1/\True
 def zwe:=zoz x4/\∃(i0:Nat×Bool),x0=x0/\z0b x0=z0b x0/\(↑i0.1:Int)=(↑x4.1:Int)+1/\x3=x3/\i0.2=true/\zaq x1 x2 (zp1 x0 i0 x4)
 def j71:=(0<=(↑x4.1:Int)/\(↑x4.1:Int)<(↑(size x0):Int))/\zoz x4/\∃(i0:Nat×Bool),x0=x0/\z0b x0=z0b x0/\(↑i0.1:Int)=(↑x4.1:Int)+1/\x3=x3/\i0.2=decide ((↑(bat x0 (toNat (↑x4.1:Int))):Int)=46)/\zaq x1 x2 (zp1 x0 i0 x4)
 def j70:=(x4.2=true->zwe x0 x1 x2 x3 x4)/\(x4.2=false->j71 x0 x1 x2 x3 x4)
 def zel:=length x1=length x6/\x2=x2/\z00 AT.cells x1=z00 AT.cells x6/\x7
 def zp0:=length (x1++x5.1)=length x6/\x5.2.1=x2/\z00 AT.cells (x1++x5.1)=z00 AT.cells x6/\j0r x1 x2 x5
 def j2n:=length x1<1000/\((!Option.isSome (findF x0 x1 0))=true->∃(i0:List AT),(4:Int)=4/\zel i0 x2 x1 (True/\∃(i1:TmB),i1.2.2=0/\length (x6++i1.1)=length i0/\i1.2.1=faE x2 4/\z00 AT.cells (x6++i1.1)=z00 AT.cells i0/\j0r x6 x2 i1))/\((!Option.isSome (findF x0 x1 0))=false->∃(i2:TmB),i2.2.2=fnI (findF x0 x1 0)/\zp0 x6 x2 i2 x1)
 def j6y:=x0=x0/\x3=x3/\(size x0<1000000/\size x3<1000000)/\∃(i0:List AT),z20 x0 x3=z20 x0 x3/\zel i0 x2 x1 (length i0<1000/\(Option.isSome (findF (z20 x0 x3) i0 0)=true->∃(i1:TmB),i1.2.2=fnI (findF (z20 x0 x3) i0 0)/\zp0 x1 x2 i1 i0)/\(Option.isSome (findF (z20 x0 x3) i0 0)=false->∃(i4:List AT),x3=x3/\zel i4 x2 i0 (j2n x3 i4 x2 x1)))
 def j6x:=((!x4.2)=true->j6y x0 x1 x2 x3)/\((!x4.2)=false->∃(i12:List AT),x3=x3/\zel i12 x2 x1 (j2n x3 i12 x2 x1))
 def j6w:=Ji ((↑x4.1:Int)<(↑(size x0):Int)) (j70 x0 x1 x2 x3 x4) (j6x x3 x1 x2 x0 x4)
 def j6v:=(∃(i0:Nat×Bool),x0=x0/\z0b x0=z0b x0/\(↑i0.1:Int)=0/\x3=x3/\i0.2=false/\zaq x1 x2 (i0.1<=size x0/\True))/\∀(i1:Nat×Bool),i1.1<=size x0->j6w x0 x1 x2 x3 i1
 def j6u:=x0=x0/\True/\(Ji (1<=z0b x0) (j6z x0 x1 x2 x3) (∃(i5:Unit),x0=x0/\z0b x0=z0b x0/\x3=x3/\zaq x1 x2 (True/\True)))/\∀(i6:Unit),True->j6v x0 x1 x2 x3
end
def zdm(S:List AT) (e:Int) (s sp:ByteArray):qm3 P (qh2 [(30,zbm),(31,zt8),(48,zfz),(47,zbi),(25,z1j)]) (qi5 []) Try.f26 z8f (zlp) ⟨S,e,s,sp⟩=(length S<=60/\size s<100000/\size sp<100000->j6u s S e sp):=by kernel_rfl
def zhv:=λS e s sp=>Eq.trans (zdm S e s sp) (by delta Ji Jb Jt Jf j0r zaq j6z zoz zp1 zwe j71 j70 zel zp0 j2n j6y j6x j6w j6v j6u;exact rfl)
section
def z8q{s:ByteArray}:∀{nm:List ByteArray} {l:List GJ} {t:GJ},z34 s nm l=some t->∃(i:Nat) (h:i<l.length),t=l[i]
  | [],l,t,h=>by simp[z34]at h
  |x::nm,[],t,h=>by simp[z34]at h
  | x::nm,g::l,t,h=>by
    rw[z34]at h
    split at h
    · cases h;exact⟨0,by simp,rfl⟩
    · obtain⟨i,hi,e⟩:=z8q h;exact⟨i+1,by simpa using hi,by simpa using e⟩
variable {s:ByteArray}
def za6{g t:GJ} (h:z0c s g=some t) (hw:g.wf):t.wf/\∀p,g.ok p->t.ok p:=by
 unfold z0c at h
 split at h
 ·obtain⟨i,hi,rfl⟩:=z8q h
  rw[GJ.wf_eq]at hw
  exact⟨GJ.wfs_at hw.2.2.2.2.2.2 hi,λp hp=>by rw[GJ.ok_eq]at hp;exact GJ.oks_at hp.2.2 hi⟩
 ·cases h
def j1y:zJ.wf:=by
 unfold zJ GJ.wf GJ.wfs
 exact⟨by decide,by decide,by decide,λt h=>by simp at h,⟨by decide,by decide⟩,λ_=>rfl,trivial⟩
def j1x(p:Pub):zJ.ok p:=by
 unfold zJ GJ.ok GJ.oks;exact⟨z06,z06,trivial⟩
def z12(s:ByteArray) {g:GJ} (hw:g.wf):((z0c s g).getD zJ).wf/\∀p,g.ok p->((z0c s g).getD zJ).ok p:=by
 cases h:z0c s g with
 |none=>exact⟨j1y,λp _=>j1x p⟩
 |some t=>exact za6 h hw
variable {l:List GJ} {acc:List ByteArray}
def z6d{j:Nat} {e:Int} (h:j<l.length):z33 (l.drop j) e acc=if e=0 then z33 (l.drop (j+1)) (if l[j].k=4 then 0 else 2) (acc++[l[j].s])else(acc,e):=by
 rw[List.drop_eq_getElem_cons h,z33]
def z9b{j:Nat} {e:Int} (h:l.length<=j\/e≠0):z33 (l.drop j) e acc=(acc,e):=by
 by_cases hj:l.length<=j
 ·rw[List.drop_of_length_le hj,z33]
 ·rw[z6d (by omega),if_neg (by omega)]
def z9p(x:Addr):x.add 0=x:=by
 cases x;simp[Addr.add]
def z5b:q5k P 53 z4j:=by
  refine qm5 mixed (qee (qih z27 (qih z0z qlq))) (W:=zlq) Try.func53 (by kernel_rfl) (by decide) (by decide) (λs=>by kernel_rfl) λ⟨S,(e:Int),g,s⟩=>(zhy S e g s).mpr ?_
  rintro hg ⟨p,_,hp⟩
  simp only[sbS,exists_const]
  refine⟨⟨g,s⟩,rfl,rfl,rfl,rfl,rfl,rfl,rfl,rfl,rfl,rfl,hg,λq hq=>hq,λhn=> ?_,λhy=> ?_⟩
  · have e0:z1l g s e=([],false,e):=by unfold z1l;rw[if_neg (by rw[hn];decide)]
    rw[e0];exact⟨rfl,rfl,zba,λq _=>z06⟩
  obtain⟨tw,tok⟩:=z12 s hg
  have e1:z1l g s e=((z33 ((z0c s g).getD zJ).l (tyE g s e) []).1,true,(z33 ((z0c s g).getD zJ).l (tyE g s e) []).2):=by unfold z1l;rw[if_pos hy]
  rw[e1]
  have hty:tyE g s e=if((z0c s g).getD zJ).k=5 then e else faE e 2:=rfl
  simp only
  generalize (z0c s g).getD zJ=t at*
  generalize tyE g s e=e2 at*
  have hy2:=λq (hq:g.ok q)=>(show slP GJ.cells t.y t.l q by have:=tok q hq;rw[GJ.ok_eq]at this;exact this.1)
  have tl:t.y.2.1=t.l.length:=(hy2 p hp).1
  rw[GJ.wf_eq]at tw
  refine⟨⟨λh=>⟨S,rfl,rfl,rfl,by rw[hty,if_neg h],rfl⟩,λh=>by rw[hty,if_pos h]⟩,?_⟩
  rintro _ _
  refine⟨⟨⟨0,e2,[]⟩,rfl,rfl,rfl,by show 0<=_;omega,by show 0<=_;omega,rfl⟩,?_⟩
  rintro⟨j,e',acc⟩ ⟨hj,ha,he⟩
  simp only at*
  have done:z33 (t.l.drop j) e' acc=(acc,e')->∀(a:Option Addr) (c:Nat),(z33 t.l e2 []).2=e'/\∀q,acc.length<=c/\qik q a (List.take (acc.length*1) (z00 txV acc))->slP txV (a,acc.length,c) (z33 t.l e2 []).1 q:=λh a c=>by
    rw[←he,h]
    refine⟨rfl,λq hq=>⟨rfl,hq.1,?_⟩⟩
    have:=hq.2
    rw[List.take_of_length_le (by rw[z01 z0t];exact Nat.le_refl _)]at this
    exact this
  refine⟨λhlt=>⟨λh0=> ?_,λh0=> ?_⟩,λhge=> ?_⟩
  · have hjl:j<t.l.length:=by omega
    have hat:=λq (hq:g.ok q)=>z0w z2y (by decide) (hy2 q hq) hjl
    have hd:=z6d (e:=e') (acc:=acc) hjl
    rw[if_pos h0]at hd
    have cell:∀q (hq:g.ok q) (k:Nat) (v:Value),t.l[j].cells[k]? =some v->q3p q ((adr t.y.1 (j*5)).add k) [v]:=λq hq k v hv i u hu=>by
      have:=(hat q hq).2
      match i with
      | 0=>
        simp at hu;subst hu
        rw[z9p]
        exact this k v hv
      |i+1=>simp at hu
    refine⟨by omega,(hat p hp).1,t.l[j].k,λq hq=>cell q hq 0 _ rfl,λhk=>⟨S,rfl,rfl,by omega,(hat p hp).1,t.l[j].s,λq hq=>cell q hq 2 _ rfl,z01 z0t acc,by omega,⟨by omega,by omega⟩,⟨j+1,2,acc++[t.l[j].s]⟩,by show((j+1:Nat):Int)=_;omega,by show(acc++[t.l[j].s]).length=_;simp,rfl,by show 2=faE e' 2;unfold faE;rw[if_pos h0],by show z00 txV (acc++[t.l[j].s])=_;rw[z05];rfl,rfl,⟨by show j+1<=_;omega,by show(acc++[t.l[j].s]).length<=j+1;simp;omega,?_⟩,by show _- (j+1)<_;omega⟩,λhk=>⟨by omega,(hat p hp).1,t.l[j].s,λq hq=>cell q hq 2 _ rfl,z01 z0t acc,by omega,⟨by omega,by omega⟩,⟨j+1,0,acc++[t.l[j].s]⟩,by show((j+1:Nat):Int)=_;omega,by show(acc++[t.l[j].s]).length=_;simp,h0.symm,by show z00 txV (acc++[t.l[j].s])=_;rw[z05];rfl,⟨by show j+1<=_;omega,by show(acc++[t.l[j].s]).length<=j+1;simp;omega,?_⟩,by show _- (j+1)<_;omega⟩⟩
    · rw[←he,hd,if_neg hk]
    · rw[←he,hd,if_pos hk]
  · rintro b s4 u a n c ⟨q0,hq0⟩
    obtain⟨d1,d2⟩:=done (z9b (.inr h0)) a c
    exact⟨trivial,d1,rowP_Pl hq0.2.2,λq hq=>d2 q hq.2⟩
  · rintro b s4 u a n c ⟨q0,hq0⟩
    obtain⟨d1,d2⟩:=done (z9b (.inl (by omega))) a c
    exact⟨trivial,d1,rowP_Pl hq0.2.2,λq hq=>d2 q hq.2⟩
def pmT(k it:Int):AT:=⟨k,mkS [],(none,0,0),[],it,(none,0,0),[],false,mkS [],0,(none,0,0),[],(none,0,0),[]⟩
def z90(k it:Int) (p:Pub):(pmT k it).ok p:=⟨z06,z06,z06,z06,λf hf=>absurd hf (by simp[pmT])⟩
def zhe{n:Nat} {k it:Int} (h1:1<=k) (h8:k<=8):z1m n (pmT k it):=by
 have hk:(pmT k it).k=k:=rfl
 unfold z1m
 rw[hk]
 exact⟨⟨h1,by omega⟩,λh=>(by omega),λb hb=>(by cases hb),λh=>(by omega),λf hf=>(by cases hf),λh=>(by omega),λh=>(by omega),Nat.zero_le _,Nat.zero_le _,Nat.zero_le _⟩
def z8k{s:ByteArray}:∀{l:List AT} {i k:Nat},findF s l i=some k->i<=k/\k<i+l.length
  | [],i,k,h=>by simp[findF]at h
  | a::l,i,k,h=>by
    rw[findF]at h
    split at h
    · cases h;simp
    · have:=z8k h;simp;omega
def z8p{S:List AT} (h:(findF s S 0).isSome=true):0<=fnI (findF s S 0)/\fnI (findF s S 0)<S.length:=by
  cases hf:findF s S 0 with
  |none=>rw[hf]at h;cases h
  | some k=>
    have:=z8k hf
    show 0<=(k:Int)/\(k:Int)<_
    omega
def z0j{e0 e:Int} (h:e≠0):faE e0 e≠0:=by unfold faE;split<;>omega
def zhw:q22 P 26 z8f:=by
 refine qlb mixed (qee (qih zcm (qih z4q (qih zcj (qih z8l (qih z0z qlq)))))) (qf7 qlp) (W:=zlp) Try.func26 (by kernel_rfl) (by decide) (by decide) (λs=>by kernel_rfl) λ⟨S,(e:Int),s,sp⟩=>(zhv S e s sp).mpr ?_
 rintro⟨hS,hs,hsp⟩
 simp only[sbS,exists_const,forall_const]
 have same:∀r:Int,(0<=r/\r<S.length)->grown S e [] e/\(e=0->0<=r/\r<(S++[]).length):=λr hr=>by
  unfold grown;rw[List.append_nil]
  exact⟨⟨hS,λh=>⟨h,λa ha=>by cases ha⟩⟩,λ_=>hr⟩
 have bad:grown S e [] (faE e 4)/\(faE e 4=0->0<=(0:Int)/\0<((S++[]).length:Int)):=by
  have:=z0j (e0:=e) (e:=4) (by decide)
  unfold grown;rw[List.append_nil]
  exact⟨⟨hS,λh=>absurd h this⟩,λh=>absurd h this⟩
 refine⟨λh1=>λh8=>⟨⟨S,e,pmT (z0b s) 0⟩,rfl,rfl,rfl,rfl,rfl,rfl,rfl,rfl,rfl,rfl,rfl,rfl,rfl,rfl,rfl,rfl,rfl,rfl,rfl,rfl,rfl,?_⟩,?_⟩
 ·by_cases hl:60<=S.length
  ·refine⟨⟨[],adE S e,adR S⟩,rfl,?_,rfl,?_,?_,λp a ha=>by cases ha⟩
   ·show(S++[]).length=(adS S (pmT (z0b s) 0)).length
    unfold adS;rw[if_pos hl,List.append_nil]
   ·show z00 AT.cells (S++[])=z00 AT.cells (adS S (pmT (z0b s) 0))
    unfold adS;rw[if_pos hl,List.append_nil]
   ·have:adE S e≠0:=by unfold adE;rw[if_pos hl];exact z0j (by decide)
    unfold grown
    exact⟨⟨by rw[List.append_nil];exact hS,λh=>absurd h this⟩,λh=>absurd h this⟩
  ·refine⟨⟨[pmT (z0b s) 0],adE S e,adR S⟩,rfl,?_,rfl,?_,?_,λp a ha=> ?_⟩
   ·show(S++[_]).length=(adS S (pmT (z0b s) 0)).length
    unfold adS;rw[if_neg hl]
   ·show z00 AT.cells (S++[_])=z00 AT.cells (adS S (pmT (z0b s) 0))
    unfold adS;rw[if_neg hl]
   ·have e1:adE S e=e:=by unfold adE;rw[if_neg hl]
    have e2:adR S=S.length:=by unfold adR;rw[if_neg hl]
    show grown S e [_] (adE S e)/\(adE S e=0->0<=adR S/\adR S<((S++[_]).length:Int))
    rw[e1,e2]
    refine⟨⟨by simp;omega,λh=>⟨h,λa ha=> ?_⟩⟩,λ_=>by simp;omega⟩
    simp at ha;subst ha
    exact zhe h1 h8
   ·simp at ha;subst ha;exact z90 _ _ _
 refine⟨⟨⟨0,false⟩,rfl,rfl,Nat.zero_le _⟩,?_⟩
 rintro⟨j,d⟩ hj
 simp only at*
 have tail:∀b1:List AT,b1=S->(b1.length<1000/\((findF s b1 0).isSome=true->0<=fnI (findF s b1 0)/\fnI (findF s b1 0)<S.length)):=λb1 h=>by
  subst h;exact⟨by omega,z8p⟩
 refine⟨λhlt=>⟨λhd=>⟨⟨by omega,by omega⟩,⟨j+1,true⟩,by show((j+1:Nat):Int)=_;omega,rfl,by show j+1<=_;omega,by show _- (j+1)<_;omega⟩,λhd=>⟨⟨by omega,hlt⟩,⟨by omega,by omega⟩,⟨j+1,_⟩,by show((j+1:Nat):Int)=_;omega,rfl,by show j+1<=_;omega,by show _- (j+1)<_;omega⟩⟩,λhge=>⟨λhd=>⟨⟨by omega,by omega⟩,S,rfl,rfl,by omega,λhf=>⟨⟨[],e,fnI (findF (z20 sp s) S 0)⟩,rfl,by rw[List.append_nil],rfl,by rw[List.append_nil],same _ (z8p hf),λp a ha=>by cases ha⟩,λhf=>⟨S,rfl,rfl,by omega,λhg=>⟨S,rfl,rfl,⟨[],faE e 4,0⟩,rfl,by rw[List.append_nil],rfl,by rw[List.append_nil],bad,λp a ha=>by cases ha⟩,λhg=>⟨⟨[],e,fnI (findF s S 0)⟩,rfl,by rw[List.append_nil],rfl,by rw[List.append_nil],same _ (z8p hg),λp a ha=>by cases ha⟩⟩⟩,λhd=>⟨S,rfl,rfl,by omega,λhg=>⟨S,rfl,rfl,⟨[],faE e 4,0⟩,rfl,by rw[List.append_nil],rfl,by rw[List.append_nil],bad,λp a ha=>by cases ha⟩,λhg=>⟨⟨[],e,fnI (findF s S 0)⟩,rfl,by rw[List.append_nil],rfl,by rw[List.append_nil],same _ (z8p hg),λp a ha=>by cases ha⟩⟩⟩⟩
end
abbrev TmS:=List AT×Int×GJ×ByteArray×Int
def z2q:TmS->Prop:=λ⟨S,e,g,sp,d⟩=>S.length<=60/\g.wf/\1<=d/\d<=21/\(sp.size:Int)<=1100*d
def z0d:TmS->TmB->Prop:=λ⟨S,e,g,sp,d⟩ ⟨T,e',r⟩=>grown S e T e'/\(e'=0->0<=r/\r<(S++T).length)
def z1k:CtR where
 σ:=TmS
 args:=λ⟨S,e,g,sp,d⟩=>[.ptr 1 0,g.av, .sv (.string sp), .sv (.int .i64 d)]
 h:=λ⟨S,e,g,sp,d⟩=>mkO S e 2 3
 m:=4
 pre:=z2q
 mem:=λ⟨S,e,g,sp,d⟩=>gM g
 β:=λ_=>TmB
 post:=z0d
 pm:=λ_ ⟨T,e',r⟩=>toM T
 r:=λ_ ⟨T,e',r⟩=> .sv (.int .i64 r)
 h':=λ⟨S,e,g,sp,d⟩ ⟨T,e',r⟩=>mkO (S++T) e' 4 5
 m':=6
def z4z:CtR:={z1k with pre:=λs=>z2q s/\s.2.2.2.2<=20}
def z4n:TmS->Nat:=λ⟨S,e,g,sp,d⟩=>(25- d).toNat
abbrev UnS:=Nat×Int×List AT×List Int
def zi2(S:List AT) (e:Int) (g:GJ):UnS->Prop:=λ⟨i,e',T,l⟩=>i<=g.l.length/\(S++T).length<=60/\(e'=0->e=0/\S.length<60/\l.length=i/\(∃T',T=pmT 14 0::T'/\∀a∈T',z1m (S++T).length a)/\∀b∈l,0<=b/\b<(S++T).length)
def ze8:TmS->WayF:=λ⟨S,e,g,sp,d⟩=>{
 ann:=λid _ _=>match id with
  |0=>some {σ:=UnS,pre:=zi2 S e g,mem:=λ⟨i,e',T,l⟩=>toM T,t:=λ⟨i,e',T,l⟩=>[(11, .sv (.int .i64 (i:Int))),(10, .ssl 13 0 l.length 1 14)],h:=λ⟨i,e',T,l⟩=>mkO (S++T) e' 11 12++[(13, .row 3 0 (z00 inV l))],more:=4,μ:=λ⟨i,e',T,l⟩=>g.l.length- i,keep:=[0,2,3,5,8,9],del:=[9]}
  |_=>some {σ:=Nat,t:=λm=>[(13, .sv (.int .i64 (m:Int)))],h:=λ_=>[],more:=0,μ:=λm=>100- m,keep:=[0,2,3,5,8,9,10,11,12]}
 pub:=λi k=>match i,k with
  |22,9=>[109]
  |_,_=>[]}
section
variable (x0:GJ) (x1:List AT×Int×AT) (x2:List AT) (x3:Int) (x4:ByteArray) (x5:Int) (x6:Nat) (x7:UnS) (x8:TmB) (x9:TmS) (x10:Prop) (x11:Nat->Option Obj) (x12:Option Addr) (x13:List AT×Int) (x14:Int) (x15:List AT)
 abbrev zen:=(↑(GJ.y x0).2.1:Int)
 def z7j:=∀(i0:AT),i0∈x8.1->AT.ok i0 x11
 def zp2:=∃(i0:List AT),x14=x14/\length i0=length (adS x1.1 x1.2.2)/\adE x1.1 x1.2.1=adE x1.1 x1.2.1/\z00 AT.cells i0=z00 AT.cells (adS x1.1 x1.2.2)/\True/\∃(i1:TmB),i1.2.2=0/\length (x2++i1.1)=length i0/\i1.2.1=faE (adE x1.1 x1.2.1) x14/\z00 AT.cells (x2++i1.1)=z00 AT.cells i0/\z0d (x2,x3,x0,x4,x5) i1/\(∀i2,True/\GJ.ok x0 i2->z7j i1 i2)/\True
 def zem:=GJ.k x0=GJ.k x0/\GJ.n x0=GJ.n x0/\GJ.s x0=GJ.s x0/\(GJ.y x0).1=(GJ.y x0).1/\(GJ.y x0).2.1=(GJ.y x0).2.1/\(GJ.y x0).2.2=(GJ.y x0).2.2/\(GJ.x x0).1=(GJ.x x0).1/\(GJ.x x0).2.1=(GJ.x x0).2.1/\(GJ.x x0).2.2=(GJ.x x0).2.2/\x10
 def z7i:=(True/\GJ.ok x0 x11)/\∀(i0:AT),i0∈x7.2.2.1->AT.ok i0 x11
 def z49:=(z7i x0 x7 x11)/\z7j x8 x11
 def zp3:=True/\∃(i0:TmB),i0.2.2=0/\length (x2++i0.1)=length x15/\i0.2.1=faE x8.2.1 6/\z00 AT.cells (x2++i0.1)=z00 AT.cells x15/\z0d (x2,x3,x0,x4,x5) i0/\(∀i1,(z49 x0 x7 x8 i1)->z7j i0 i1)/\True
 def zp4:=x8.2.2=x8.2.2/\length x7.2.2.2=length x7.2.2.2/\length (x9.1++x8.1)=length (x9.1++x8.1)/\x8.2.1=x8.2.1/\x10
 def zwj:=Jb ((↑x6:Int)+1)/\∃(i0:Nat),x3=x3/\(↑x7.1:Int)=(↑x7.1:Int)/\adR x1.1=adR x1.1/\(↑i0:Int)=(↑x6:Int)+1/\x4=x4/\zp4 x7 x8 x9 (z00 AT.cells (x9.1++x8.1)=z00 AT.cells x13.1/\z00 inV x7.2.2.2=z00 inV x7.2.2.2/\zem x0 ((∀i1,(z49 x0 x7 x8 i1)->z49 x0 x7 x8 i1)/\True/\(100:Nat)- i0<100- x6/\True))
 def zwf:=(0<=(↑x6:Int)/\(↑x6:Int)<(↑(length x7.2.2.2):Int))/\∃(i0:Int),qi8 (z00 inV x7.2.2.2) (nat_lit 0+toNat (↑x6:Int)*nat_lit 1) [int i64 i0]/\∃(i1:List AT×Int),length i1.1=length (x9.1++x8.1)/\i1.2=i0/\z00 AT.cells i1.1=z00 AT.cells (x9.1++x8.1)/\length i1.1<1000/\∃(i2:List AT×Int),length i2.1=length (x9.1++x8.1)/\i2.2=x8.2.2/\z00 AT.cells i2.1=z00 AT.cells i1.1/\length i2.1<1000/\AV.agg [AV.ssl (nat_lit 19) (nat_lit 0) (length (x9.1++x8.1)) (nat_lit 10) (nat_lit 20)]=AV.agg [AV.ssl (nat_lit 19) (nat_lit 0) (length (x9.1++x8.1)) (nat_lit 10) (nat_lit 20)]/\Ji (zdl i1.1 i1.2=zdl i2.1 i2.2) (∃(i3:List AT),(6:Int)=6/\length i3=length (x9.1++x8.1)/\x8.2.1=x8.2.1/\z00 AT.cells i3=z00 AT.cells i2.1/\zp3 x0 x2 x3 x4 x5 x7 x8 i3) (zwj x0 x1 x5 x4 x6 x7 x8 x9 i2)
 def zwg:=length (z00 inV x7.2.2.2)=length x7.2.2.2*1/\(length x7.2.2.2+nat_lit 1)*8<=140737488355328/\Jb ((↑x7.1:Int)+1)/\∃(i0:UnS),x3=x3/\(↑i0.1:Int)=(↑x7.1:Int)+1/\adR x1.1=adR x1.1/\x4=x4/\length i0.2.2.2=length x7.2.2.2+nat_lit 1/\length (x2++i0.2.2.1)=length (x9.1++x8.1)/\i0.2.1=x8.2.1/\z00 AT.cells (x2++i0.2.2.1)=z00 AT.cells (x9.1++x8.1)/\z00 inV i0.2.2.2=z00 inV x7.2.2.2++[int i64 x8.2.2]/\zem x0 ((∀i1,(z49 x0 x7 x8 i1)->True/\GJ.ok x0 i1)/\(∀i4,(z49 x0 x7 x8 i4)->∀(i7:AT),i7∈i0.2.2.1->AT.ok i7 i4)/\zi2 x2 x5 x0 i0/\length (GJ.l x0)- i0.1<length (GJ.l x0)- x7.1/\True)
 def j7a:=Ji ((↑x6:Int)<(↑(length x7.2.2.2):Int)) (zwf x0 x1 x2 x3 x4 x5 x6 x7 x8 x9) (zwg x0 x1 x2 x5 x4 x3 x7 x8 x9)
 def j79:=(∃(i0:Nat),x3=x3/\(↑x7.1:Int)=(↑x7.1:Int)/\adR x1.1=adR x1.1/\(↑i0:Int)=0/\x4=x4/\zp4 x7 x8 x9 (z00 AT.cells (x9.1++x8.1)=z00 AT.cells (x9.1++x8.1)/\z00 inV x7.2.2.2=z00 inV x7.2.2.2/\zem x0 ((∀i1,(z49 x0 x7 x8 i1)->z49 x0 x7 x8 i1)/\True/\True)))/\∀(i6:Nat),True->j7a x0 x1 x2 x5 x4 x3 i6 x7 x8 x9
 def j78:=(0<=x8.2.2/\x8.2.2<(↑(length (x9.1++x8.1)):Int))/\∃(i0:Int),qi8 (z00 AT.cells (x9.1++x8.1)) (nat_lit 0+toNat x8.2.2*nat_lit 10+0) [int i64 i0]/\Ji (i0=14) (∃(i1:List AT),(6:Int)=6/\length i1=length (x9.1++x8.1)/\x8.2.1=x8.2.1/\z00 AT.cells i1=z00 AT.cells (x9.1++x8.1)/\zp3 x0 x2 x3 x4 x5 x7 x8 i1) (j79 x0 x1 x2 x5 x4 x3 x7 x8 x9)
 def j77:=((!decide (x8.2.1=0))=true->∃(i0:TmB),i0.2.2=0/\length (x2++i0.1)=length (x9.1++x8.1)/\i0.2.1=x8.2.1/\z00 AT.cells (x2++i0.1)=z00 AT.cells (x9.1++x8.1)/\z0d (x2,x3,x0,x4,x5) i0/\(∀i1,(z49 x0 x7 x8 i1)->z7j i0 i1)/\True)/\((!decide (x8.2.1=0))=false->j78 x0 x1 x2 x3 x4 x5 x7 x8 x9)
 def j76:=(0<=(↑x7.1:Int)/\(↑x7.1:Int)<(zen x0))/\(GJ.y x0).1≠noA/\∃(i0:Int),∃(i1:Int),∃i2,∃i3,∃(i4:Nat),∃(i5:Nat),∃i6,∃(i7:Nat),∃(i8:Nat),(∀i9,(z7i x0 x7 i9)->q3p i9 (adr (GJ.y x0).1 (toNat (↑x7.1:Int)*5)) [int i64 i0,int i64 i1,string i2,slice i3 i4 i5,slice i6 i7 i8])/\Jb (x3+1)/\∃(i11:TmS),GJ.k i11.2.2.1=i0/\GJ.n i11.2.2.1=i1/\GJ.s i11.2.2.1=i2/\(GJ.y i11.2.2.1).1=i3/\(GJ.y i11.2.2.1).2.1=i4/\(GJ.y i11.2.2.1).2.2=i5/\(GJ.x i11.2.2.1).1=i6/\(GJ.x i11.2.2.1).2.1=i7/\(GJ.x i11.2.2.1).2.2=i8/\i11.2.2.2.1=x4/\i11.2.2.2.2=x3+1/\length i11.1=length (x2++x7.2.2.1)/\i11.2.1=x7.2.1/\z00 AT.cells i11.1=z00 AT.cells (x2++x7.2.2.1)/\(z4n i11<x6/\z2q i11)/\(∀i12,(z7i x0 x7 i12)->GJ.ok i11.2.2.1 i12)/\∀(i14:TmB),z0d i11 i14->(∃i15,z49 x0 x7 i14 i15)->j77 x0 x1 x2 x5 x4 x3 x7 i14 i11
 def zp5:=(z7i x0 x7 x11)/\length x7.2.2.2<=x6/\qik x11 x12 (take (length x7.2.2.2*nat_lit 1) (z00 inV x7.2.2.2))
 def zwi:=nat_lit 0+toNat (adR x1.1)*nat_lit 10+9+length [slice x12 (length x7.2.2.2) x6]<=length (z00 AT.cells (x2++x7.2.2.1))/\∃(i0:TmB),i0.2.2=adR x1.1/\length (x2++i0.1)=length (x2++x7.2.2.1)/\i0.2.1=x7.2.1/\z00 AT.cells (x2++i0.1)=spl (z00 AT.cells (x2++x7.2.2.1)) (nat_lit 0+toNat (adR x1.1)*nat_lit 10+9) [slice x12 (length x7.2.2.2) x6]/\z0d (x2,x3,x0,x4,x5) i0/\(∀i1,zp5 x0 x6 x7 i1 x12->z7j i0 i1)/\True
 def zwh:=(0<=adR x1.1/\adR x1.1<(↑(length (x2++x7.2.2.1)):Int))/\∀(i0 i1 i2:Nat) (i3:Option Addr) (i4 i5:Nat),(∃i6,zp5 x0 i5 x7 i6 i3)->zwi x0 x1 x2 x3 x4 x5 i5 x7 i3
 def j2o:=Ji (x7.2.1=0) (zwh x0 x1 x2 x3 x4 x5 x7) (∃(i12:TmB),i12.2.2=adR x1.1/\length (x2++i12.1)=length (x2++x7.2.2.1)/\i12.2.1=x7.2.1/\z00 AT.cells (x2++i12.1)=z00 AT.cells (x2++x7.2.2.1)/\z0d (x2,x3,x0,x4,x5) i12/\(∀i13,(z7i x0 x7 i13)->z7j i12 i13)/\True)
 def j75:=Ji (x7.2.1=0) (j76 x0 x1 x2 x3 x4 x5 x6 x7) (j2o x0 x1 x2 x5 x4 x3 x7)
 def j74:=Ji ((↑x7.1:Int)<(zen x0)) (j75 x0 x1 x2 x3 x4 x5 x6 x7) (j2o x0 x1 x2 x5 x4 x3 x7)
 def j73:=(∃(i0:UnS),x3=x3/\(↑i0.1:Int)=0/\adR x1.1=adR x1.1/\x4=x4/\length i0.2.2.2=0/\length (x2++i0.2.2.1)=length (adS x1.1 x1.2.2)/\i0.2.1=adE x1.1 x1.2.1/\z00 AT.cells (x2++i0.2.2.1)=z00 AT.cells (adS x1.1 x1.2.2)/\zem x0 ((∀i1,True/\GJ.ok x0 i1->True/\GJ.ok x0 i1)/\(∀i2,True/\GJ.ok x0 i2->∀(i3:AT),i3∈i0.2.2.1->AT.ok i3 i2)/\zi2 x2 x5 x0 i0/\True))/\∀(i4:UnS),zi2 x2 x5 x0 i4->(∃i5,z7i x0 i4 i5)->j74 x0 x1 x2 x3 x4 x5 x6 i4
 def j72:=Ji (30<(zen x0)) (zp2 x0 x1 x2 x3 x4 x5 3) (j73 x0 x1 x2 x5 x4 x3 x6)
end
def zaj(n:Nat) (S:List AT) (e:Int) (g:GJ) (sp:ByteArray) (d:Int):qm3 P (qh2 [(31,zt8),(49,j19),(25,z1j)]) (qi5 [(17,z1k.below z4n n)]) Try.f27 (z4z.below z4n (n+1)) (ze8) ⟨S,e,g,sp,d⟩=(z4n (S,e,g,sp,d)<n+1/\z2q (S,e,g,sp,d)/\d<=20->(∃(p:Pub),True/\GJ.ok g p)->∃(s:List AT×Int×AT),AT.k s.2.2=14/\AT.nm s.2.2=mkS []/\(AT.al s.2.2).1=noA/\(AT.al s.2.2).2.1=0/\(AT.al s.2.2).2.2=0/\AT.it s.2.2=0/\(AT.sy s.2.2).1=noA/\(AT.sy s.2.2).2.1=0/\(AT.sy s.2.2).2.2=0/\AT.hd s.2.2=false/\AT.df s.2.2=mkS []/\AT.sz s.2.2=0/\(AT.f s.2.2).1=noA/\(AT.f s.2.2).2.1=0/\(AT.f s.2.2).2.2=0/\(AT.br s.2.2).1=noA/\(AT.br s.2.2).2.1=0/\(AT.br s.2.2).2.2=0/\length s.1=length S/\s.2.1=e/\z00 AT.cells s.1=z00 AT.cells S/\True/\Ji ((zen g)=0) (zp2 g s S e sp d 6) (j72 g s S e sp d n)):=by kernel_rfl
def zds:=λn S e g sp d=>Eq.trans (zaj n S e g sp d) (by delta Ji Jb Jt Jf zen z7j zp2 zem z7i z49 zp3 zp4 zwj zwf zwg j7a j79 j78 j77 j76 zp5 zwi zwh j2o j75 j74 j73 j72;exact rfl)
def unT(x:SV) (l:List Int):AT:={pmT 14 0 with br:=x,brs:=l}
def z14{α:Type} {f:α->List Value} (a:α) (l:List α):z00 f (a::l)=f a++z00 f l:=rfl
def zv0(A B:List AT) (x:SV) (l:List Int):z00 AT.cells (A++unT x l::B)=spl (z00 AT.cells (A++pmT 14 0::B)) (0+A.length*10+9) [svV x]:=by
 rw[z05,z05,z14,z14,Nat.zero_add]
 have hl:=z01 z1c A
 rw[←hl]
 show _=(z00 AT.cells A++((pmT 14 0).cells++z00 AT.cells B)).set ((z00 AT.cells A).length+9) (svV x)
 have key:∀(P Q:List Value) (v:Value),(P++Q).set (P.length+9) v=P++Q.set 9 v:=λP Q v=>by
  induction P with
  |nil=>simp
  |cons a P ih=>rw[List.cons_append,List.length_cons,Nat.add_right_comm,List.set_cons_succ,ih];rfl
 rw[key]
 rfl
def zua{l:List Int} {i:Nat} (h:i<l.length):∀(j:Nat) (v:Value),[Value.int .i64 l[i]][j]? =some v->(z00 inV l)[0+i*1+j]? =some v:=λj v hj=>by
 cases j with
 |zero=>rw[Nat.zero_add,z1t z8t l i h 0 (by decide)];exact hj
 |succ j=>simp at hj
def z4l{n m:Nat} {a:AT} (h:n<=m) (g:z1m n a):z1m m a:=
 ⟨g.1,λk=>by have:=g.2.1 k;omega,λb hb=>by have:=g.2.2.1 b hb;omega,g.2.2.2.1,λf hf=>⟨by have:=(g.2.2.2.2.1 f hf).1;omega,(g.2.2.2.2.1 f hf).2⟩,g.2.2.2.2.2⟩
def zbc{S:List AT} {e:Int} (h:60<=S.length):adE S e≠0:=by unfold adE;rw[if_pos h];exact z0j (by decide)
def adT(S:List AT) (t:AT):List AT:=if 60<=S.length then []else [t]
def z0r(S:List AT) (t:AT):adS S t=S++adT S t:=by
 unfold adS adT
 split
 ·rw[List.append_nil]
 ·rfl
def zdt(n:Nat) (ht:q22 P 17 (z1k.below z4n n)):q22 P 27 (z4z.below z4n (n+1)):=by
 refine qlb mixed (qee (qih z4q (qih zv6 (qih z0z qlq)))) (qf7 (qig ht qlp)) (W:=ze8) Try.func27 (by kernel_rfl) (show 1<=4 by decide) (show 4<=6 by decide) (λs=>by kernel_rfl) λ⟨S,(e:Int),g,sp,(d:Int)⟩=>(zds n S e g sp d).mpr ?_
 rintro⟨hmu,⟨hS,hg,hd1,hd2,hsp⟩,hd20⟩ ⟨p,_,hp⟩
 have hmu:(25- d).toNat<n+1:=hmu
 have hd20:d<=20:=hd20
 have hgw:=hg
 rw[GJ.wf_eq]at hgw
 have hy:=λq (hq:g.ok q)=>(show slP GJ.cells g.y g.l q by rw[GJ.ok_eq]at hq;exact hq.1)
 have yl:g.y.2.1=g.l.length:=(hy p hp).1
 simp only[sbS,exists_const,forall_const,Int.toNat_natCast]
 have adl:(adT S (pmT 14 0)).length<=1/\(S++adT S (pmT 14 0)).length<=60:=by
  unfold adT
  split
  ·rw[List.append_nil];exact⟨by decide,hS⟩
  ·exact⟨by decide,by simp;omega⟩
 have adok:∀q,∀a∈adT S (pmT 14 0),a.ok q:=λq a ha=>by
  unfold adT at ha
  split at ha
  ·cases ha
  ·simp at ha;subst ha;exact z90 _ _ _
 have bad0:∀k:Int,k≠0->z0d (S,e,g,sp,d) (adT S (pmT 14 0),faE (adE S e) k,0):=λk hk=>by
  have:=z0j (e0:=adE S e) hk
  exact⟨⟨adl.2,λh=>absurd h this⟩,λh=>absurd h this⟩
 refine⟨⟨S,e,pmT 14 0⟩,rfl,rfl,rfl,rfl,rfl,rfl,rfl,rfl,rfl,rfl,rfl,rfl,rfl,rfl,rfl,rfl,rfl,rfl,rfl,rfl,rfl,λh0=>⟨adS S (pmT 14 0),rfl,rfl,⟨adT S (pmT 14 0),faE (adE S e) 6,0⟩,rfl,by rw[z0r],rfl,by rw[z0r],bad0 6 (by decide),λq _=>adok q⟩,λh0=>⟨λh30=>⟨adS S (pmT 14 0),rfl,rfl,⟨adT S (pmT 14 0),faE (adE S e) 3,0⟩,rfl,by rw[z0r],rfl,by rw[z0r],bad0 3 (by decide),λq _=>adok q⟩,λh30=>⟨⟨⟨0,adE S e,adT S (pmT 14 0),[]⟩,rfl,rfl,by rw[z0r],rfl,by rw[z0r],λq _=>adok q,?_⟩,?_⟩⟩⟩
 ·refine⟨by show 0<=_;omega,adl.2,λh=> ?_⟩
  by_cases hl:60<=S.length
  ·exact absurd h (zbc hl)
  ·have e1:adE S e=e:=by unfold adE;rw[if_neg hl]
   have e2:adT S (pmT 14 0)=[pmT 14 0]:=by unfold adT;rw[if_neg hl]
   exact⟨by rw[←e1];exact h,by omega,rfl,⟨[],e2,λa ha=>(by cases ha)⟩,λb hb=>(by cases hb)⟩
 rintro⟨i,e',T,l⟩ ⟨hi,hT,hE⟩ _
 simp only at*
 have fin:e'=0->g.l.length<=i->∀(a:Option Addr) (c:Nat) (q0:Pub),(l.length<=c/\qik q0 a (List.take (l.length*1) (z00 inV l)))->0+(adR S).toNat*10+9+1<=(z00 AT.cells (S++T)).length/\∃b:TmB,b.2.2=adR S/\(S++b.1).length=(S++T).length/\b.2.1=e'/\z00 AT.cells (S++b.1)=spl (z00 AT.cells (S++T)) (0+(adR S).toNat*10+9) [.slice a l.length c]/\z0d (S,e,g,sp,d) b/\∀q,(g.ok q/\∀a∈T,a.ok q)/\(l.length<=c/\qik q a (List.take (l.length*1) (z00 inV l)))->∀a∈b.1,a.ok q:=λh0' hge a c q0 hq0=>by
  obtain⟨he0,hl60,hll,⟨T',rfl,hT'⟩,hlr⟩:=hE h0'
  have er:adR S=S.length:=by unfold adR;rw[if_neg (by omega)]
  rw[er,Int.toNat_natCast]
  have hlen:(S++pmT 14 0::T').length=S.length+T'.length+1:=by simp;omega
  have hlen2:∀x,(S++unT x l::T').length=S.length+T'.length+1:=λx=>by simp;omega
  refine⟨by rw[z01 z1c,hlen];omega,⟨unT (a,l.length,c) l::T',e',S.length⟩,rfl,by rw[hlen,hlen2],rfl,zv0 S T' _ l,⟨⟨by rw[hlen2];omega,λ_=>⟨he0,λx hx=> ?_⟩⟩,λ_=>⟨by show 0<=(S.length:Int);omega,by rw[hlen2];show(S.length:Int)<_;omega⟩⟩,λq hq x hx=> ?_⟩
  ·rw [hlen2]
   rw[hlen]at hT' hlr
   rcases List.mem_cons.1 hx with rfl|hx
   ·refine⟨⟨by show(1:Int)<=14;omega,by show(14:Int)<=14;omega⟩,λh=> ?_,hlr,λ_ h=> ?_,λf hf=>(by cases hf),λh=> ?_,λh=> ?_,⟨Nat.zero_le _,?_,Nat.zero_le _⟩⟩
    ·have h:(14:Int)=12\/(14:Int)=13:=h
     omega
    ·have h:l=[]:=h
     rw[h]at hll
     have:i=0:=hll.symm
     omega
    ·have h:(14:Int)=10:=h
     omega
    ·have h:(14:Int)=11:=h
     omega
    ·show l.length<=30;omega
   ·exact hT' x hx
  ·rcases List.mem_cons.1 hx with rfl|hx
   ·refine⟨z06,z06,z06,⟨rfl,hq.2.1,?_⟩,λf hf=>(by cases hf)⟩
    have:=hq.2.2
    rw[List.take_of_length_le (by rw[z01 z8t];exact Nat.le_refl _)]at this
    exact this
   ·exact hq.1.2 x (List.mem_cons_of_mem _ hx)
 have out:e'≠0->z0d (S,e,g,sp,d) (T,e',adR S):=λh=>⟨⟨hT,λh2=>absurd h2 h⟩,λh2=>absurd h2 h⟩
 refine⟨λhlt=>⟨λh0'=> ?_,λh0'=>⟨λh=>absurd h h0',λ_=>⟨⟨T,e',adR S⟩,rfl,rfl,rfl,rfl,out h0',λq hq=>hq.2⟩⟩⟩,λhge=>⟨λh0'=> ?_,λh0'=>⟨⟨T,e',adR S⟩,rfl,rfl,rfl,rfl,out h0',λq hq=>hq.2⟩⟩⟩
 ·have hil:i<g.l.length:=by omega
  obtain⟨he0,hl60,hll,⟨T',hTe,hT'⟩,hlr⟩:=hE h0'
  have hat:=λq (hq:g.ok q)=>z0w z2y (by decide) (hy q hq) hil
  have hgi:g.l[i].wf:=GJ.wfs_at hgw.2.2.2.2.2.2 hil
  refine⟨by omega,(hat p hp).1,g.l[i].k,g.l[i].n,g.l[i].s,g.l[i].y.1,g.l[i].y.2.1,g.l[i].y.2.2,g.l[i].x.1,g.l[i].x.2.1,g.l[i].x.2.2,λq hq=>(hat q hq.1).2,⟨by omega,by omega⟩,⟨S++T,e',g.l[i],sp,d+1⟩,rfl,rfl,rfl,rfl,rfl,rfl,rfl,rfl,rfl,rfl,rfl,rfl,rfl,rfl,⟨by show(25- (d+1)).toNat<n;omega,hT,hgi,by omega,by omega,by omega⟩,λq hq=>by have:=hq.1;rw[GJ.ok_eq]at this;exact GJ.oks_at this.2.2 hil,?_⟩
  rintro⟨U,e2,r⟩ ⟨⟨hU,hU2⟩,hr⟩ _
  simp only at hU hU2 hr⊢
  have ass:S++T++U=S++(T++U):=List.append_assoc _ _ _
  have badU:∀k,k≠0->z0d (S,e,g,sp,d) (T++U,k,0):=λk hk=>⟨⟨by rw[←ass];exact hU,λh2=>absurd h2 hk⟩,λh2=>absurd h2 hk⟩
  have okU:∀q,((g.ok q/\∀a∈T,a.ok q)/\∀a∈U,a.ok q)->∀a∈T++U,a.ok q:=λq hq a ha=>(List.mem_append.1 ha).elim (hq.1.2 a) (hq.2 a)
  refine⟨λhne=>⟨⟨T++U,e2,0⟩,rfl,by rw[ass],rfl,by rw[ass],badU e2 hne,okU⟩,λheq=> ?_⟩
  subst heq
  obtain⟨r0,r1⟩:=hr rfl
  obtain⟨_,hUg⟩:=hU2 rfl
  obtain⟨k,rfl⟩:=Int.eq_ofNat_of_zero_le r0
  have hk:k<(S++T++U).length:=by omega
  rw[Int.toNat_natCast]
  refine⟨⟨r0,r1⟩,(S++T++U)[k].k,λj v hj=> ?_,λh14=>⟨S++T++U,rfl,rfl,⟨T++U,faE 0 6,0⟩,rfl,by rw[ass],rfl,by rw[ass],badU _ (z0j (by decide)),okU⟩,λh14=>⟨⟨0,rfl⟩,?_⟩⟩
  ·cases j with
   |zero=>have hj:some (Value.int .i64 (S++T++U)[k].k)=some v:=hj;cases hj;exact z89 hk 0 _ rfl
   |succ j=>simp at hj
  intro m
  refine⟨λhm=> ?_,λhm=> ?_⟩
  ·have hml:m<l.length:=by omega
   refine⟨by omega,l[m],zua hml,⟨S++T++U,l[m]⟩,rfl,rfl,rfl,by show(S++T++U).length<_;omega,⟨S++T++U,(k:Int)⟩,rfl,rfl,rfl,by show(S++T++U).length<_;omega,?_⟩
   refine⟨λ_=>⟨S++T++U,rfl,rfl,⟨T++U,faE 0 6,0⟩,rfl,by rw[ass],rfl,by rw[ass],badU _ (z0j (by decide)),okU⟩,λ_=>⟨⟨by omega,by omega⟩,m+1,by omega,rfl,by omega⟩⟩
  ·refine⟨z01 z8t l,by omega,⟨by omega,by omega⟩,⟨i+1,0,T++U,l++[(k:Int)]⟩,by show((i+1:Nat):Int)=_;omega,by show(l++[_]).length=_;simp,by rw[ass],rfl,by rw[ass],by show z00 inV (l++[_])=_;rw[z05];rfl,λq hq=>hq.1.1,λq hq=>okU q hq,⟨by show i+1<=_;omega,by rw[←ass];exact hU,λ_=>⟨he0,hl60,by show(l++[_]).length=i+1;simp;omega,⟨T'++U,by show T++U=_;rw[hTe];rfl,λa ha=> ?_⟩,λb hb=> ?_⟩⟩,by show _- (i+1)<_;omega⟩
   ·show z1m (S++(T++U)).length a
    rw[←ass]
    rcases List.mem_append.1 ha with ha|ha
    ·exact z4l (by have:(S++T++U).length=(S++T).length+U.length:=List.length_append;omega) (hT' a ha)
    ·exact hUg a ha
   ·show 0<=b/\b<((S++(T++U)).length:Int)
    rw[←ass]
    have hlen:(S++T++U).length=(S++T).length+U.length:=List.length_append
    rcases List.mem_append.1 hb with hb|hb
    ·have:=hlr b hb;omega
    ·simp at hb;subst hb;exact⟨r0,r1⟩
 ·obtain⟨he0,hl60,hll,⟨T',hTe,hT'⟩,hlr⟩:=hE h0'
  have er:adR S=S.length:=by unfold adR;rw[if_neg (by omega)]
  refine⟨⟨by omega,by rw[er,hTe];simp;omega⟩,?_⟩
  rintro a c ⟨q0,hq0⟩
  exact fin h0' (by omega) a c q0 hq0.2
abbrev NmS:=List AT×Int×GJ×Int×ByteArray×Int
def z4w:CtR where
 σ:=NmS
 args:=λ⟨S,e,g,k,sp,d⟩=>[.ptr 1 0,g.av, .sv (.int .i64 k), .sv (.string sp), .sv (.int .i64 d)]
 h:=λ⟨S,e,g,k,sp,d⟩=>mkO S e 2 3
 m:=4
 pre:=λ⟨S,e,g,k,sp,d⟩=>z2q (S,e,g,sp,d)/\d<=20/\(k=9\/k=10\/k=11)
 mem:=λ⟨S,e,g,k,sp,d⟩=>gM g
 β:=λ_=>TmB
 post:=λ⟨S,e,g,k,sp,d⟩ b=>z0d (S,e,g,sp,d) b
 pm:=λ_ ⟨T,e',r⟩=>toM T
 r:=λ_ ⟨T,e',r⟩=> .sv (.int .i64 r)
 h':=λ⟨S,e,g,k,sp,d⟩ ⟨T,e',r⟩=>mkO (S++T) e' 4 5
 m':=6
def ztg:NmS->Nat:=λ⟨S,e,g,k,sp,d⟩=>(25- d).toNat
def nmB(s:ByteArray):Bool:=decide (s=mkS [114,101,99,111,114,100])||decide (s=mkS [101,110,117,109])||decide (s=mkS [102,105,120,101,100])
def arB(s:ByteArray):Bool:=decide (s=mkS [97,114,114,97,121])||decide (s=mkS [109,97,112])
def wdB(s:ByteArray):ByteArray:=if s=mkS [109,97,112]then mkS [118,97,108,117,101,115]else mkS [105,116,101,109,115]
def tyJ(g:GJ):GJ:=(z0c (mkS [116,121,112,101]) g).getD zJ
def zlr:TmS->WayF:=λ⟨S,e,g,sp,d⟩=>{
 cut:=λi t _=>match i with
  |20=>some {σ:=Unit,t:=λ_=>[(63, .sv (.bool (nmB (tyJ g).s)))],h:=λ_=>[],more:=0,μ:=λ_=>0,keep:=[0,2,3,5,8,9,62]}
  |23=>some {σ:=Unit,t:=λ_=>[(75, .sv (.bool (arB (tyJ g).s)))],h:=λ_=>[],more:=0,μ:=λ_=>0,keep:=[0,2,3,5,8,9,62]}
  |27=>some {σ:=Unit,t:=λ_=>[(12, .sv (.string (wdB (tyJ g).s)))],h:=λ_=>[],more:=0,μ:=λ_=>0,keep:=[0,2,3,5,8,9,11]}
  |_=>none
 spl:=λi=>match i with
  |20=>some 7
  |_=>none}
section
variable (x0:Int) (x1:List AT) (x2:GJ) (x3:ByteArray) (x4:Int) (x5:Nat) (x6:GJ×ByteArray) (x7:List AT×Int×AT) (x8:TmB) (x9:TmS) (x10:List AT×Int×ByteArray×ByteArray) (x11:Prop) (x12:Int) (x13:TmB)
 abbrev ziu:=z0d (x1,x0,x2,x3,x4) x8/\(∀i0,True/\GJ.ok x2 i0->∀(i1:AT),i1∈x8.1->AT.ok i1 i0)/\True
 def zit:=∃(i0:List AT),x12=x12/\length i0=length x1/\x0=x0/\z00 AT.cells i0=z00 AT.cells x1/\True/\∃(i1:TmB),i1.2.2=0/\length (x1++i1.1)=length i0/\i1.2.1=faE x0 x12/\z00 AT.cells (x1++i1.1)=z00 AT.cells i0/\ziu x0 x1 x2 x3 x4 i1
 def zwr:=0<=x8.2.2/\x8.2.2<(↑(length (x10.1++x8.1)):Int)
 def zeo:=∃i0,(True/\GJ.ok x2 i0)/\∀(i1:AT),i1∈x8.1->AT.ok i1 i0
 def zas:=z0d (x1,x0,x2,x3,x4) x8/\(∀i0,((True/\GJ.ok x2 i0)/\∀(i1:AT),i1∈x13.1->AT.ok i1 i0)->∀(i2:AT),i2∈x8.1->AT.ok i2 i0)/\True
 def zp7:=x10.2.2.2=x3/\length x10.1=length x1/\x10.2.1=x0/\z00 AT.cells x10.1=z00 AT.cells x1/\(length x10.1<=60/\size x10.2.2.1<100000/\size x10.2.2.2<100000)/\∀(i0:TmB),grown x10.1 x10.2.1 i0.1 i0.2.1/\(i0.2.1=0->zwr i0 x10)->(zeo x2 i0)->∃(i3:TmB),i3.2.2=i0.2.2/\length (x1++i3.1)=length (x10.1++i0.1)/\i3.2.1=i0.2.1/\z00 AT.cells (x1++i3.1)=z00 AT.cells (x10.1++i0.1)/\zas x0 x1 x2 x3 x4 i3 i0
 def zpj:=length (x1++x8.1)=length (x9.1++x13.1)/\x8.2.1=x13.2.1/\z00 AT.cells (x1++x8.1)=z00 AT.cells (x9.1++x13.1)/\x11
 def zpb:=(∀i0,True/\GJ.ok x2 i0->GJ.ok x9.2.2.1 i0)/\∀(i1:TmB),z0d x9 i1->(zeo x2 i1)->∃(i4:TmB),i4.2.2=i1.2.2/\zpj x1 i4 x9 (zas x0 x1 x2 x3 x4 i4 i1) i1
 def zpa:=GJ.k x6.1=GJ.k x2/\GJ.n x6.1=GJ.n x2/\GJ.s x6.1=GJ.s x2/\(GJ.y x6.1).1=(GJ.y x2).1/\(GJ.y x6.1).2.1=(GJ.y x2).2.1/\(GJ.y x6.1).2.2=(GJ.y x2).2.2/\(GJ.x x6.1).1=(GJ.x x2).1/\(GJ.x x6.1).2.1=(GJ.x x2).2.1/\(GJ.x x6.1).2.2=(GJ.x x2).2.2/\x11
 abbrev z0g:=Option.getD (z0c x6.2 x6.1) zJ
 abbrev zpk:=Jb (x0+1)
 def zp9:=GJ.k x9.2.2.1=GJ.k (z0g x6)/\GJ.n x9.2.2.1=GJ.n (z0g x6)/\GJ.s x9.2.2.1=GJ.s (z0g x6)/\(GJ.y x9.2.2.1).1=(GJ.y (z0g x6)).1/\(GJ.y x9.2.2.1).2.1=(GJ.y (z0g x6)).2.1/\(GJ.y x9.2.2.1).2.2=(GJ.y (z0g x6)).2.2/\(GJ.x x9.2.2.1).1=(GJ.x (z0g x6)).1/\(GJ.x x9.2.2.1).2.1=(GJ.x (z0g x6)).2.1/\(GJ.x x9.2.2.1).2.2=(GJ.x (z0g x6)).2.2/\x9.2.2.2.1=x3/\x9.2.2.2.2=x0+1/\x11
 def zwn:=zpk x0/\∃(i0:TmS),zp9 x0 x3 x6 i0 (length i0.1=length x1/\i0.2.1=x4/\z00 AT.cells i0.1=z00 AT.cells x1/\(z4n i0<x5/\z2q i0)/\zpb x4 x1 x2 x3 x0 i0)
 abbrev zpc:=GJ.s (z0g x6)=mkS [114,101,99,111,114,100]
 def zp8:=GJ.k x2=GJ.k x2/\GJ.n x2=GJ.n x2/\GJ.s x2=GJ.s x2/\(GJ.y x2).1=(GJ.y x2).1/\(GJ.y x2).2.1=(GJ.y x2).2.1/\(GJ.y x2).2.2=(GJ.y x2).2.2/\(GJ.x x2).1=(GJ.x x2).1/\(GJ.x x2).2.1=(GJ.x x2).2.1/\(GJ.x x2).2.2=(GJ.x x2).2.2/\x11
 def zp6:=GJ.k (z0g x6)=GJ.k (z0g x6)/\GJ.n (z0g x6)=GJ.n (z0g x6)/\GJ.s (z0g x6)=GJ.s (z0g x6)/\(GJ.y (z0g x6)).1=(GJ.y (z0g x6)).1/\(GJ.y (z0g x6)).2.1=(GJ.y (z0g x6)).2.1/\(GJ.y (z0g x6)).2.2=(GJ.y (z0g x6)).2.2/\(GJ.x (z0g x6)).1=(GJ.x (z0g x6)).1/\(GJ.x (z0g x6)).2.1=(GJ.x (z0g x6)).2.1/\(GJ.x (z0g x6)).2.2=(GJ.x (z0g x6)).2.2/\(∀i0,True/\GJ.ok x2 i0->True/\GJ.ok x2 i0)/\True/\True
 def zar:=x3=x3/\GJ.s (z0g x6)=GJ.s (z0g x6)/\length x1=length x1/\x0=x0/\z00 AT.cells x1=z00 AT.cells x1/\zp8 x2 (zp6 x2 x6)
 abbrev zpf:=GJ.s (z0g x6)=mkS [101,110,117,109]
 def zwp:=Ji (zpf x6) (∃(i0:Unit),x0=x0/\nmB (GJ.s (tyJ x2))=decide (zpf x6)/\zar x4 x1 x2 x3 x6) (∃(i1:Unit),x0=x0/\nmB (GJ.s (tyJ x2))=decide (GJ.s (z0g x6)=mkS [102,105,120,101,100])/\zar x4 x1 x2 x3 x6)
 abbrev zph:=slice (GJ.y x2).1 (GJ.y x2).2.1 (GJ.y x2).2.2
 abbrev zpi:=slice (GJ.x x2).1 (GJ.x x2).2.1 (GJ.x x2).2.2
 def zwm:=GJ.s (z0g x6)=GJ.s (z0g x6)/\True/\AV.agg [AV.sv (int i64 (GJ.k x2)),AV.sv (int i64 (GJ.n x2)),AV.sv (string (GJ.s x2)),AV.sv (zph x2),AV.sv (zpi x2)]=AV.agg [AV.sv (int i64 (GJ.k x2)),AV.sv (int i64 (GJ.n x2)),AV.sv (string (GJ.s x2)),AV.sv (zph x2),AV.sv (zpi x2)]/\∃(i0:NmS),GJ.k i0.2.2.1=GJ.k x2/\GJ.n i0.2.2.1=GJ.n x2/\GJ.s i0.2.2.1=GJ.s x2/\(GJ.y i0.2.2.1).1=(GJ.y x2).1/\(GJ.y i0.2.2.1).2.1=(GJ.y x2).2.1/\(GJ.y i0.2.2.1).2.2=(GJ.y x2).2.2/\(GJ.x i0.2.2.1).1=(GJ.x x2).1/\(GJ.x i0.2.2.1).2.1=(GJ.x x2).2.1/\(GJ.x i0.2.2.1).2.2=(GJ.x x2).2.2/\i0.2.2.2.1=z0b (GJ.s (z0g x6))/\i0.2.2.2.2.1=x3/\i0.2.2.2.2.2=x0/\length i0.1=length x1/\i0.2.1=x4/\z00 AT.cells i0.1=z00 AT.cells x1/\(ztg i0<x5+1/\z2q (i0.1,i0.2.1,i0.2.2.1,i0.2.2.2.2.1,i0.2.2.2.2.2)/\i0.2.2.2.2.2<=20/\(i0.2.2.2.1=9\/i0.2.2.2.1=10\/i0.2.2.2.1=11))/\(∀i1,True/\GJ.ok x2 i1->GJ.ok i0.2.2.1 i1)/\∀(i2:TmB),z0d (i0.1,i0.2.1,i0.2.2.1,i0.2.2.2.2.1,i0.2.2.2.2.2) i2->(zeo x2 i2)->∃(i5:TmB),i5.2.2=i2.2.2/\length (x1++i5.1)=length (i0.1++i2.1)/\i5.2.1=i2.2.1/\z00 AT.cells (x1++i5.1)=z00 AT.cells (i0.1++i2.1)/\zas x4 x1 x2 x3 x0 i5 i2
 abbrev zpe:=GJ.s (z0g x6)=mkS [97,114,114,97,121]
 abbrev zpg:=GJ.s (z0g x6)=mkS [109,97,112]
 def zpd:=length (adS x7.1 x7.2.2)=length (adS x7.1 x7.2.2)/\adE x7.1 x7.2.1=adE x7.1 x7.2.1/\zp8 x2 (z00 AT.cells (adS x7.1 x7.2.2)=z00 AT.cells (adS x7.1 x7.2.2)/\zp6 x2 x6)
 def zwq:=(0<=adR x7.1/\adR x7.1<(↑(length (x9.1++x8.1)):Int))/\nat_lit 0+toNat (adR x7.1)*nat_lit 10+3+length [int i64 x8.2.2]<=length (z00 AT.cells (x9.1++x8.1))/\∃(i0:TmB),i0.2.2=adR x7.1/\length (x1++i0.1)=length (x9.1++x8.1)/\i0.2.1=x8.2.1/\z00 AT.cells (x1++i0.1)=spl (z00 AT.cells (x9.1++x8.1)) (nat_lit 0+toNat (adR x7.1)*nat_lit 10+3) [int i64 x8.2.2]/\zas x0 x1 x2 x3 x4 i0 x8
 def zwo:=Ji (x8.2.1=0) (zwq x0 x1 x2 x3 x4 x7 x8 x9) (∃(i4:TmB),i4.2.2=adR x7.1/\zpj x1 i4 x9 (zas x0 x1 x2 x3 x4 i4 x8) x8)
 def zwl:=zpk x0/\∃(i0:TmS),zp9 x0 x3 x6 i0 (length i0.1=length (adS x7.1 x7.2.2)/\i0.2.1=adE x7.1 x7.2.1/\z00 AT.cells i0.1=z00 AT.cells (adS x7.1 x7.2.2)/\(z4n i0<x5/\z2q i0)/\(∀i1,True/\GJ.ok x2 i1->GJ.ok i0.2.2.1 i1)/\∀(i2:TmB),z0d i0 i2->(zeo x2 i2)->zwo x4 x1 x2 x3 x0 x7 i2 i0)
 def zwk:=GJ.s (z0g x6)=GJ.s (z0g x6)/\True/\∃(i0:List AT×Int×AT),AT.k i0.2.2=z0b (GJ.s (z0g x6))/\AT.nm i0.2.2=mkS []/\(AT.al i0.2.2).1=noA/\(AT.al i0.2.2).2.1=0/\(AT.al i0.2.2).2.2=0/\AT.it i0.2.2=0/\(AT.sy i0.2.2).1=noA/\(AT.sy i0.2.2).2.1=0/\(AT.sy i0.2.2).2.2=0/\AT.hd i0.2.2=false/\AT.df i0.2.2=mkS []/\AT.sz i0.2.2=0/\(AT.f i0.2.2).1=noA/\(AT.f i0.2.2).2.1=0/\(AT.f i0.2.2).2.2=0/\(AT.br i0.2.2).1=noA/\(AT.br i0.2.2).2.1=0/\(AT.br i0.2.2).2.2=0/\length i0.1=length x1/\i0.2.1=x0/\z00 AT.cells i0.1=z00 AT.cells x1/\True/\(Ji (zpg x6) (∃(i1:Unit),x4=x4/\adR i0.1=adR i0.1/\x3=x3/\wdB (GJ.s (tyJ x2))=mkS [118,97,108,117,101,115]/\zpd x2 x6 i0) (∃(i3:Unit),x4=x4/\adR i0.1=adR i0.1/\x3=x3/\wdB (GJ.s (tyJ x2))=mkS [105,116,101,109,115]/\zpd x2 x6 i0))/\∀(i5:Unit),True->∃(i6:GJ×ByteArray),zpa x2 i6 (i6.2=wdB (GJ.s (tyJ x2))/\GJ.wf i6.1/\(∀i7,True/\GJ.ok x2 i7->GJ.ok i6.1 i7)/\((!Option.isSome (z0c i6.2 i6.1))=true->∃(i8:List AT),(2:Int)=2/\length i8=length (adS i0.1 i0.2.2)/\adE i0.1 i0.2.1=adE i0.1 i0.2.1/\z00 AT.cells i8=z00 AT.cells (adS i0.1 i0.2.2)/\True/\∃(i9:TmB),i9.2.2=0/\length (x1++i9.1)=length i8/\i9.2.1=faE (adE i0.1 i0.2.1) 2/\z00 AT.cells (x1++i9.1)=z00 AT.cells i8/\ziu x0 x1 x2 x3 x4 i9)/\((!Option.isSome (z0c i6.2 i6.1))=false->zwl x4 x1 x2 x3 x0 x5 i6 i0))
 def j7k:=(arB (GJ.s (tyJ x2))=true->zwk x0 x1 x2 x3 x4 x5 x6)/\(arB (GJ.s (tyJ x2))=false->∃(i25:List AT×Int×ByteArray×ByteArray),i25.2.2.1=GJ.s (z0g x6)/\zp7 x0 x1 x2 x3 x4 i25)
 def j7j:=(Ji (zpe x6) (∃(i0:Unit),x0=x0/\arB (GJ.s (tyJ x2))=decide (zpe x6)/\zar x4 x1 x2 x3 x6) (∃(i2:Unit),x0=x0/\arB (GJ.s (tyJ x2))=decide (zpg x6)/\zar x4 x1 x2 x3 x6))/\∀(i4:Unit),True->j7k x4 x1 x2 x3 x0 x5 x6
 def j7i:=(nmB (GJ.s (tyJ x2))=true->zwm x0 x1 x2 x3 x4 x5 x6)/\(nmB (GJ.s (tyJ x2))=false->j7j x0 x1 x2 x3 x4 x5 x6)
 def j7h:=(Ji (zpc x6) (∃(i0:Unit),x0=x0/\nmB (GJ.s (tyJ x2))=decide (zpc x6)/\zar x4 x1 x2 x3 x6) (zwp x0 x1 x2 x3 x4 x6))/\∀(i6:Unit),True->j7i x0 x1 x2 x3 x4 x5 x6
 def j7g:=((!decide (GJ.k (z0g x6)=4))=true->zwn x0 x1 x2 x3 x4 x5 x6)/\((!decide (GJ.k (z0g x6)=4))=false->j7h x0 x1 x2 x3 x4 x5 x6)
 def j7f:=Ji (GJ.k x2=6) (∃(i0:GJ×ByteArray),zpa x2 i0 (i0.2=mkS [116,121,112,101]/\GJ.wf i0.1/\(∀i1,True/\GJ.ok x2 i1->GJ.ok i0.1 i1)/\((!Option.isSome (z0c i0.2 i0.1))=true->zit x0 x1 x2 x3 x4 2)/\((!Option.isSome (z0c i0.2 i0.1))=false->j7g x4 x1 x2 x3 x0 x5 i0))) (zit x0 x1 x2 x3 x4 2)
 def j7e:=Ji (GJ.k x2=5) (∃(i0:TmS),GJ.k i0.2.2.1=GJ.k x2/\GJ.n i0.2.2.1=GJ.n x2/\GJ.s i0.2.2.1=GJ.s x2/\(GJ.y i0.2.2.1).1=(GJ.y x2).1/\(GJ.y i0.2.2.1).2.1=(GJ.y x2).2.1/\(GJ.y i0.2.2.1).2.2=(GJ.y x2).2.2/\(GJ.x i0.2.2.1).1=(GJ.x x2).1/\(GJ.x i0.2.2.1).2.1=(GJ.x x2).2.1/\(GJ.x i0.2.2.1).2.2=(GJ.x x2).2.2/\i0.2.2.2.1=x3/\i0.2.2.2.2=x0/\length i0.1=length x1/\i0.2.1=x4/\z00 AT.cells i0.1=z00 AT.cells x1/\(z4n i0<x5+1/\z2q i0/\i0.2.2.2.2<=20)/\zpb x4 x1 x2 x3 x0 i0) (j7f x4 x1 x2 x3 x0 x5)
 def j7d:=Ji (GJ.k x2=4) (∃(i0:List AT×Int×ByteArray×ByteArray),i0.2.2.1=GJ.s x2/\zp7 x0 x1 x2 x3 x4 i0) (j7e x4 x1 x2 x3 x0 x5)
 def j7c:=Ji (20<x0) (zit x4 x1 x2 x3 x0 3) (j7d x4 x1 x2 x3 x0 x5)
 def j7b:=((!decide (x0=0))=true->∃(i0:TmB),i0.2.2=0/\length (x1++i0.1)=length x1/\i0.2.1=x0/\z00 AT.cells (x1++i0.1)=z00 AT.cells x1/\ziu x0 x1 x2 x3 x4 i0)/\((!decide (x0=0))=false->j7c x4 x1 x2 x3 x0 x5)
end
def zdp(n:Nat) (S:List AT) (e:Int) (g:GJ) (sp:ByteArray) (d:Int):qm3 P (qh2 [(31,zt8),(28,z45),(30,zbm),(25,z1j)]) (qi5 [(17,z1k.below z4n n),(26,z8f),(27,z4z.below z4n (n+1)),(29,z4w.below ztg (n+1))]) Try.f17 (z1k.below z4n (n+1)) (zlr) ⟨S,e,g,sp,d⟩=(z4n (S,e,g,sp,d)<n+1/\z2q (S,e,g,sp,d)->(∃(p:Pub),True/\GJ.ok g p)->j7b e S g sp d n):=by kernel_rfl
def zhz:=λn S e g sp d=>Eq.trans (zdp n S e g sp d) (by delta Ji Jb Jt Jf ziu zit zwr zeo zas zp7 zpj zpb zpa z0g zpk zp9 zwn zpc zp8 zp6 zar zpf zwp zph zpi zwm zpe zpg zpd zwq zwo zwl zwk j7k j7j j7i j7h j7g j7f j7e j7d j7c j7b;exact rfl)
section
def z2p(P Q:List Value) (k:Nat) (v:Value):(P++Q).set (P.length+k) v=P++Q.set k v:=by
 induction P with
 |nil=>simp
 |cons a P ih=>rw[List.cons_append,List.length_cons,Nat.add_right_comm,List.set_cons_succ,ih];rfl
def zv1(A B:List AT) (k r:Int):z00 AT.cells (A++pmT k r::B)=spl (z00 AT.cells (A++pmT k 0::B)) (0+A.length*10+3) [.int .i64 r]:=by
 rw[z05,z05,z14,z14,Nat.zero_add,←z01 z1c A]
 show _=(z00 AT.cells A++((pmT k 0).cells++z00 AT.cells B)).set ((z00 AT.cells A).length+3) (.int .i64 r)
 rw[z2p]
 rfl
variable {s:ByteArray}
def zne(h:nmB s=true):z0b s=9\/z0b s=10\/z0b s=11:=by
 unfold nmB at h
 simp only[Bool.or_eq_true,decide_eq_true_eq]at h
 rcases h with(h|h)|h<;>subst h
 ·exact .inl (by decide)
 ·exact .inr (.inl (by decide))
 ·exact .inr (.inr (by decide))
def zm6(h:arB s=true):z0b s=12\/z0b s=13:=by
 unfold arB at h
 simp only[Bool.or_eq_true,decide_eq_true_eq]at h
 rcases h with h|h<;>subst h
 ·exact .inl (by decide)
 ·exact .inr (by decide)
def zbd(S:List AT) (t:AT) (h:S.length<=60):(S++adT S t).length<=60:=by
 unfold adT
 split
 ·rw[List.append_nil];exact h
 ·simp;omega
def zhf{n:Nat} {k r:Int} (h:k=12\/k=13) (r0:0<=r) (r1:r<n):z1m n (pmT k r):=by
 have hk:(pmT k r).k=k:=rfl
 have hi:(pmT k r).it=r:=rfl
 unfold z1m
 rw[hk,hi]
 exact⟨(by omega),λ_=>⟨r0,r1⟩,λb hb=>(by cases hb),λh=>(by omega),λf hf=>(by cases hf),λh=>(by omega),λh=>(by omega),Nat.zero_le _,Nat.zero_le _,Nat.zero_le _⟩
def zi0(n:Nat) (ht:q22 P 17 (z1k.below z4n n)) (hu:q22 P 27 (z4z.below z4n (n+1))) (hn:q22 P 29 (z4w.below ztg (n+1))):q22 P 17 (z1k.below z4n (n+1)):=by
 refine qlb mixed (qee (qih z4q (qih z27 (qih zcm (qih z0z qlq))))) (qf7 (qig ht (qig zhw (qig hu (qig hn qlp))))) (W:=zlr) Try.func17 (by kernel_rfl) (show 1<=4 by decide) (show 4<=6 by decide) (λs=>by kernel_rfl) λ⟨S,(e:Int),g,sp,(d:Int)⟩=>(zhz n S e g sp d).mpr ?_
 rintro⟨hmu,⟨hS,hg,hd1,hd2,hsp⟩⟩ ⟨p,_,hp⟩
 have hmu:(25- d).toNat<n+1:=hmu
 simp only[sbS,exists_const,forall_const,Int.toNat_natCast,tyJ]
 have bad:∀k:Int,k≠0->z0d (S,e,g,sp,d) ([],k,0):=λk hk=>⟨⟨by rw[List.append_nil];exact hS,λh=>absurd h hk⟩,λh=>absurd h hk⟩
 have gsz:g.s.size<1000:=by rw[GJ.wf_eq]at hg;exact hg.1
 refine⟨λhe=>⟨⟨[],e,0⟩,rfl,by rw[List.append_nil],rfl,by rw[List.append_nil],bad e he,λq _ a ha=>(by cases ha)⟩,λhe=>⟨λh20=>⟨S,rfl,rfl,⟨[],faE e 3,0⟩,rfl,by rw[List.append_nil],rfl,by rw[List.append_nil],bad _ (z0j (by decide)),λq _ a ha=>(by cases ha)⟩,λh20=>⟨λh4=>⟨⟨S,e,g.s,sp⟩,rfl,rfl,rfl,rfl,rfl,⟨hS,by show g.s.size<_;omega,by show sp.size<_;omega⟩,λb hb _=>⟨b,rfl,rfl,rfl,rfl,hb,λq hq=>hq.2⟩⟩,λh4=>⟨λh5=>⟨⟨S,e,g,sp,d⟩,rfl,rfl,rfl,rfl,rfl,rfl,rfl,rfl,rfl,rfl,rfl,rfl,rfl,rfl,⟨hmu,⟨hS,hg,hd1,hd2,hsp⟩,by show d<=20;omega⟩,λq hq=>hq,λb hb _=>⟨b,rfl,rfl,rfl,rfl,hb,λq hq=>hq.2⟩⟩,λh5=>⟨λh6=> ?_,λh6=>⟨S,rfl,rfl,⟨[],faE e 2,0⟩,rfl,by rw[List.append_nil],rfl,by rw[List.append_nil],bad _ (z0j (by decide)),λq _ a ha=>(by cases ha)⟩⟩⟩⟩⟩⟩
 refine⟨⟨g,mkS [116,121,112,101]⟩,rfl,rfl,rfl,rfl,rfl,rfl,rfl,rfl,rfl,rfl,hg,λq hq=>hq,λhno=>⟨S,rfl,rfl,⟨[],faE e 2,0⟩,rfl,by rw[List.append_nil],rfl,by rw[List.append_nil],bad _ (z0j (by decide)),λq _ a ha=>(by cases ha)⟩,λhyes=> ?_⟩
 obtain⟨tw,tok⟩:=z12 (mkS [116,121,112,101]) hg
 simp only
 generalize (z0c (mkS [116,121,112,101]) g).getD zJ=t at*
 have tsz:t.s.size<1000:=by rw[GJ.wf_eq]at tw;exact tw.1
 refine⟨λhk=>⟨⟨by omega,by omega⟩,⟨S,e,t,sp,d+1⟩,rfl,rfl,rfl,rfl,rfl,rfl,rfl,rfl,rfl,rfl,rfl,rfl,rfl,rfl,⟨by show(25- (d+1)).toNat<n;omega,hS,tw,by omega,by omega,by omega⟩,λq hq=>tok q hq,λb hb _=>⟨b,rfl,rfl,rfl,rfl,hb,λq hq=>hq.2⟩⟩,λhk=>⟨⟨λh1=> ?_,λh1=>⟨λh2=> ?_,λh2=> ?_⟩⟩,λhN=> ?_,λhN=>⟨⟨λh1=> ?_,λh1=> ?_⟩,λhA=> ?_,λhA=> ?_⟩⟩⟩
 ·unfold nmB;rw[h1];rfl
 ·unfold nmB;rw[h2];rfl
 ·unfold nmB;rw[decide_eq_false h1,decide_eq_false h2,Bool.false_or,Bool.false_or]
 ·exact⟨⟨S,e,g,z0b t.s,sp,d⟩,rfl,rfl,rfl,rfl,rfl,rfl,rfl,rfl,rfl,rfl,rfl,rfl,rfl,rfl,rfl,⟨hmu,⟨hS,hg,hd1,hd2,hsp⟩,by show d<=20;omega,zne hN⟩,λq hq=>hq,λb hb _=>⟨b,rfl,rfl,rfl,rfl,hb,λq hq=>hq.2⟩⟩
 ·unfold arB;rw[h1];rfl
 ·unfold arB;rw[decide_eq_false h1,Bool.false_or]
 ·have hkd:=zm6 hA
  have adl:=zbd S (pmT (z0b t.s) 0) hS
  have adok:∀q,∀a∈adT S (pmT (z0b t.s) 0),a.ok q:=λq a ha=>by
   unfold adT at ha
   split at ha
   ·cases ha
   ·simp at ha;subst ha;exact z90 _ _ _
  have bad2:∀k:Int,k≠0->z0d (S,e,g,sp,d) (adT S (pmT (z0b t.s) 0),k,0):=λk hk=>⟨⟨adl,λh=>absurd h hk⟩,λh=>absurd h hk⟩
  refine⟨⟨S,e,pmT (z0b t.s) 0⟩,rfl,rfl,rfl,rfl,rfl,rfl,rfl,rfl,rfl,rfl,rfl,rfl,rfl,rfl,rfl,rfl,rfl,rfl,rfl,rfl,rfl,⟨λhm=>by unfold wdB;rw[if_pos hm],λhm=>by unfold wdB;rw[if_neg hm]⟩,⟨g,wdB t.s⟩,rfl,rfl,rfl,rfl,rfl,rfl,rfl,rfl,rfl,rfl,hg,λq hq=>hq,λhno=>⟨adS S (pmT (z0b t.s) 0),rfl,rfl,⟨adT S (pmT (z0b t.s) 0),faE (adE S e) 2,0⟩,rfl,by rw[z0r],rfl,by rw[z0r],bad2 _ (z0j (by decide)),λq _=>adok q⟩,λhyes=> ?_⟩
  obtain⟨uw,uok⟩:=z12 (wdB t.s) hg
  refine⟨⟨by omega,by omega⟩,⟨adS S (pmT (z0b t.s) 0),adE S e,(z0c (wdB t.s) g).getD zJ,sp,d+1⟩,rfl,rfl,rfl,rfl,rfl,rfl,rfl,rfl,rfl,rfl,rfl,rfl,rfl,rfl,⟨by show(25- (d+1)).toNat<n;omega,by rw[z0r];exact adl,uw,by omega,by omega,by omega⟩,λq hq=>uok q hq,?_⟩
  rintro⟨U,e2,r⟩ ⟨⟨hU,hU2⟩,hr⟩ _
  simp only at hU hU2 hr⊢
  have ass:adS S (pmT (z0b t.s) 0)++U=S++(adT S (pmT (z0b t.s) 0)++U):=by rw[z0r,List.append_assoc]
  refine⟨λh0=> ?_,λh0=>⟨⟨adT S (pmT (z0b t.s) 0)++U,e2,adR S⟩,rfl,by rw[ass],rfl,by rw[ass],⟨⟨by rw[←ass];exact hU,λh=>absurd h h0⟩,λh=>absurd h h0⟩,λq hq a ha=>(List.mem_append.1 ha).elim (adok q a) (hq.2 a)⟩⟩
  obtain⟨ha0,hUg⟩:=hU2 h0
  obtain⟨r0,r1⟩:=hr h0
  have hl:S.length<60:=by
   by_cases hl:60<=S.length
   ·exact absurd ha0 (zbc hl)
   ·omega
  have e1:adE S e=e:=by unfold adE;rw[if_neg (by omega)]
  have e3:adT S (pmT (z0b t.s) 0)=[pmT (z0b t.s) 0]:=by unfold adT;rw[if_neg (by omega)]
  have er:adR S=S.length:=by unfold adR;rw[if_neg (by omega)]
  rw[ass,e3]at hU hUg r1
  rw[ass,e3,er,Int.toNat_natCast]
  have hlen:∀x,(S++([pmT (z0b t.s) x]++U)).length=S.length+U.length+1:=λx=>by simp;omega
  rw[hlen]at hU hUg r1
  refine⟨⟨by omega,by rw[hlen];omega⟩,by rw[z01 z1c,hlen];show 0+S.length*10+3+1<=_;omega,⟨pmT (z0b t.s) r::U,e2,S.length⟩,rfl,by show(S++([pmT (z0b t.s) r]++U)).length=_;rw[hlen,hlen],rfl,zv1 S U _ r,⟨⟨by show(S++([pmT (z0b t.s) r]++U)).length<=60;rw[hlen];omega,λ_=>⟨by rw[←e1];exact ha0,λx hx=> ?_⟩⟩,λ_=>⟨by show 0<=(S.length:Int);omega,by show(S.length:Int)<((S++([pmT (z0b t.s) r]++U)).length:Int);rw[hlen];omega⟩⟩,λq hq x hx=> ?_⟩
  ·show z1m (S++([pmT (z0b t.s) r]++U)).length x
   rw[hlen]
   rcases List.mem_cons.1 hx with rfl|hx
   ·exact zhf hkd r0 r1
   ·exact hUg x hx
  ·rcases List.mem_cons.1 hx with rfl|hx
   ·exact z90 _ _ _
   ·exact hq.2 x hx
 ·exact⟨⟨S,e,t.s,sp⟩,rfl,rfl,rfl,rfl,rfl,⟨hS,by show t.s.size<_;omega,by show sp.size<_;omega⟩,λb hb _=>⟨b,rfl,rfl,rfl,rfl,hb,λq hq=>hq.2⟩⟩
end
def jdz:ByteArray:=mkS [115,121,109,98,111,108,115]
abbrev SyB:=Int×SV×List ByteArray×Bool×ByteArray
def zht(S:List AT) (at_:Int) (y:SV) (l:List ByteArray) (hd:Bool) (df:ByteArray):List AT:=match S[at_.toNat]? with
 |some a=>S.set at_.toNat {a with sy:=y,sys:=l,hd:=hd,df:=df}
 |none=>S
def zg0:CtR where
 σ:=List AT×Int×GJ×Int
 args:=λ⟨S,e,g,i⟩=>[.ptr 1 0,g.av, .sv (.int .i64 i)]
 h:=λ⟨S,e,g,i⟩=>mkO S e 2 3
 m:=4
 pre:=λ⟨S,e,g,i⟩=>S.length<=60/\g.wf/\0<=i/\(e=0->i<S.length)
 mem:=λ⟨S,e,g,i⟩=>gM g
 β:=λ_=>SyB
 post:=λ⟨S,e,g,i⟩ ⟨e',y,l,hd,df⟩=>e'=0->e=0/\l≠[]/\l.length<=30
 pm:=λ_ ⟨e',y,l,hd,df⟩=>⟨true,slP txV y l,λ_ _ h e=>z0e h e⟩
 r:=λ_ _=> .tup []
 h':=λ⟨S,e,g,i⟩ ⟨e',y,l,hd,df⟩=>mkO (if e'=0 then zht S i y l hd df else S) e' 4 5
 m':=6
def slE(h:T AO):Option Int:=mkE h 1
def smL(g:GJ) (e:Int):List ByteArray:=(z1l g jdz e).1
def zvl:zg0.σ->WayF:=λ⟨S,e,g,i⟩=>{
  cut:=λr _ _=>match r with
    |4=>some {σ:=Int,pre:=λe'=>e'=0->e=0,find:=some λ_ h=>slE h,t:=λ_=>[],h:=λe'=>[mkC S e' 2 3],more:=0,μ:=λ_=>0,keep:=[0,2,4,6,7]}
    |6=>some {σ:=Int,pre:=λe'=>e'=0->e=0/\smL g e≠[],find:=some λ_ h=>slE h,t:=λ_=>[],h:=λe'=>[mkC S e' 2 3],more:=0,μ:=λ_=>0,keep:=[0,2,4,6,7]}
    |8=>some {σ:=Int,pre:=λe'=>e'=0->e=0/\smL g e≠[]/\(smL g e).length<=30,find:=some λ_ h=>slE h,t:=λ_=>[],h:=λe'=>[mkC S e' 2 3],more:=0,μ:=λ_=>0,keep:=[0,2,4,6,7]}
    |13=>some {σ:=Int,pre:=λe'=>e'=0->e=0/\smL g e≠[]/\(smL g e).length<=30,find:=some λ_ h=>slE h,t:=λ_=>[],h:=λe'=>[mkC S e' 2 3],more:=0,μ:=λ_=>0,keep:=[0,2,4,6,7,8]}
    |27=>some {σ:=Int,pre:=λe'=>e'=0->e=0/\smL g e≠[]/\(smL g e).length<=30,find:=some λ_ h=>slE h,t:=λ_=>[],h:=λe'=>[mkC S e' 2 3],more:=0,μ:=λ_=>0,keep:=[0,2,4,6,7,11,12]}
    |_=>none
  ann :=λid t _=>match id with
    |0=>some {σ:=Nat×Int,pre:=λ⟨j,e'⟩=>j<=(smL g e).length/\(e'=0->e=0/\smL g e≠[]/\(smL g e).length<=30),t:=λ⟨j,e'⟩=>[(8, .sv (.int .i64 (j:Int)))],h:=λ⟨j,e'⟩=>[mkC S e' 2 3],more:=0,μ:=λ⟨j,e'⟩=>(smL g e).length- j,keep:=[0,2,4,6,7]}
    | 2=>match slI t 8 with
      |some i=>some {σ:=Nat×Int,pre:=λ⟨k,e'⟩=>(k:Int)<=i/\(e'=0->e=0/\smL g e≠[]/\(smL g e).length<=30),t:=λ⟨k,e'⟩=>[(9, .sv (.int .i64 (k:Int)))],h:=λ⟨k,e'⟩=>[mkC S e' 2 3],more:=0,μ:=λ⟨k,e'⟩=>(i- k).toNat,keep:=[0,2,4,6,7,8]}
      |none=>none
    |_=>some {σ:=Nat×Bool,pre:=λ⟨k,b⟩=>k<=(smL g e).length,t:=λ⟨k,b⟩=>[(13, .sv (.bool b)),(14, .sv (.int .i64 (k:Int)))],h:=λ_=>[],more:=0,μ:=λ⟨k,b⟩=>(smL g e).length- k,keep:=[0,2,4,6,7,11,12]}}
section
variable (x0:List AT×Int×GJ×ByteArray) (x1:Int) (x2:Option Addr) (x3 x4:Nat) (x5:List AT) (x6:GJ) (x7 x8:Int) (x9:Nat×Int) (x10:Nat×Bool) (x11:GJ×ByteArray) (x12:List AT×Int×GJ×ByteArray×Bool) (x13:Prop) (x14:Nat×Int) (x15:Nat->Option Obj) (x16:Nat×Bool) (x17:SyB) (x18:List AT) (x19:ByteArray) (x20:Nat×Int)
 abbrev zau:=z00 AT.cells x0.1=z00 AT.cells x5
 def z4a:=(True/\GJ.ok x6 x15)/\slP txV (x2,x3,x4) (z1l x0.2.2.1 x0.2.2.2 x0.2.1).1 x15
 abbrev z2s:=(z1l x0.2.2.1 x0.2.2.2 x0.2.1).2
 def zer:=z00 AT.cells x5=z00 AT.cells x0.1/\True/\x13
 def z2g:=(z2s x0).1=(z2s x0).1
 def z5k:=length x5=length x18
 def z5y:=GJ.k x6=GJ.k x6/\GJ.n x6=GJ.n x6/\GJ.s x6=GJ.s x6/\(GJ.y x6).1=(GJ.y x6).1/\(GJ.y x6).2.1=(GJ.y x6).2.1/\(GJ.y x6).2.2=(GJ.y x6).2.2/\(GJ.x x6).1=(GJ.x x6).1/\(GJ.x x6).2.1=(GJ.x x6).2.1/\(GJ.x x6).2.2=(GJ.x x6).2.2/\(∀i0,z4a x0 x2 x3 x4 x6 i0->z4a x0 x2 x3 x4 x6 i0)/\x13
 def z5j:=z00 AT.cells x0.1=z00 AT.cells x0.1
 def zx3:=z2g x0/\x1=x1/\x2=x2/\x3=x3/\x4=x4/\length x5=length x0.1/\(z2s x0).2=(z2s x0).2/\z5j x0/\z5y x0 x2 x3 x4 x6 (((z2s x0).2=0->x7=0)/\True)
 def zpp:=x8=x8/\z5k x5 x18/\x1=x1/\zer x0 x5 (z2g x0/\x7=x7/\x2=x2/\x3=x3/\x4=x4/\z5k x18 x5/\faE x1 x8=faE x1 x8/\zau x0 x5/\x13)
 def zj0:=x1=0/\smL x6 x1≠[]
 def z6h:=x2=x2/\x3=x3/\x4=x4/\length x5=length x5/\x13
 def z39:=x1=0/\smL x6 x1≠[]/\length (smL x6 x1)<=30
 def ziz:=x9.1<=length (smL x6 x1)/\(x9.2=0->z39 x1 x6)
 def zj1:=(0<=(↑x9.1:Int)/\(↑x9.1:Int)<(↑x3:Int))/\x2≠noA/\x13
 def zix:=(∀i0,z4a x0 x2 x3 x4 x6 i0->q3p i0 (adr x2 (toNat (↑x9.1:Int)*1)) [string x19])
 def zav:=x1=x1/\(↑x9.1:Int)=(↑x9.1:Int)/\x13
 def ziw:=(↑x9.1:Int)<=(↑x14.1:Int)/\(x9.2=0->z39 x1 x6)
 abbrev ziv:=Jb ((↑x9.1:Int)+1)
 def zps:=(ziw x1 x6 x9 x14)/\toNat ((↑x14.1:Int)- (↑x9.1:Int))<toNat ((↑x14.1:Int)- (↑x20.1:Int))/\True
 def zx1:=ziv x9/\∃(i0:Nat×Int),z2g x0/\(↑i0.1:Int)=(↑x9.1:Int)+1/\zav x1 x14 (z6h x2 x3 x4 x5 (i0.2=x9.2/\z5j x0/\z5y x0 x2 x3 x4 x6 (zps x7 x6 i0 x14 x9)))
 def zwv:=zj1 x2 x3 x9 (∃i0,zix x0 x2 x3 x4 x6 x9 i0/\zj1 x2 x3 x14 (∃i2,zix x0 x2 x3 x4 x6 x14 i2/\Ji (i0=i2) (∃(i4:List AT),(5:Int)=5/\z5k i4 x5/\x9.2=x9.2/\zer x0 i4 (ziv x9/\∃(i5:Nat×Int),z2g x0/\(↑i5.1:Int)=(↑x9.1:Int)+1/\zav x1 x14 (x2=x2/\x3=x3/\x4=x4/\z5k x5 i4/\i5.2=faE x9.2 5/\zau x0 i4/\z5y x0 x2 x3 x4 x6 (zps x7 x6 i5 x14 x9)))) (zx1 x0 x1 x2 x3 x4 x5 x6 x7 x9 x14)))
 def zx2:=ziv x9/\∃(i0:Nat×Int),z2g x0/\x1=x1/\(↑i0.1:Int)=(↑x9.1:Int)+1/\z6h x2 x3 x4 x5 (i0.2=x14.2/\z5j x0/\z5y x0 x2 x3 x4 x6 ((ziz x7 x6 i0)/\length (smL x6 x7)- i0.1<length (smL x6 x7)- x9.1/\True))
 def zwt:=Ji ((↑x9.1:Int)<(↑x14.1:Int)) (zwv x0 x1 x2 x3 x4 x5 x6 x7 x9 x14) (zx2 x0 x1 x2 x3 x4 x5 x6 x7 x14 x9)
 def zws:=(∃(i0:Nat×Int),z2g x0/\(↑i0.1:Int)=0/\zav x1 x9 (z6h x2 x3 x4 x5 (i0.2=x7/\z5j x0/\z5y x0 x2 x3 x4 x6 ((ziw x8 x6 i0 x9)/\True))))/\∀(i1:Nat×Int),ziw x8 x6 i1 x9->zwt x0 x1 x2 x3 x4 x5 x6 x8 i1 x9
 def j7s:=(zj1 x2 x3 x9 (∃i0,zix x0 x2 x3 x4 x6 x9 i0/\i0=i0/\size i0<1000000/\((!z21 i0)=true->∃(i2:List AT),(6:Int)=6/\z5k i2 x5/\x9.2=x9.2/\zer x0 i2 (z2g x0/\zav x1 x9 (x2=x2/\x3=x3/\x4=x4/\z5k x5 i2/\faE x9.2 (6:Int)=faE x9.2 6/\zau x0 i2/\z5y x0 x2 x3 x4 x6 ((faE x9.2 (6:Int)=0->z39 x7 x6)/\True))))/\((!z21 i0)=false->z2g x0/\zav x1 x9 (z6h x2 x3 x4 x5 (x9.2=x9.2/\z5j x0/\z5y x0 x2 x3 x4 x6 ((x9.2=0->z39 x7 x6)/\True))))))/\∀(i3:Int),(i3=0->z39 x7 x6)->zws x0 x1 x2 x3 x4 x5 x6 i3 x7 x9
 def zat:=z2g x0/\Option.isSome (z0c x11.2 x11.1)=Option.isSome (z0c x11.2 x11.1)/\x13
 abbrev z2h:=woR x12.2.2.1 x12.2.2.2.1 x12.2.2.2.2 x12.2.1
 def zeq:=(z2h x12).1=(z2h x12).1/\x2=x2/\x3=x3/\x4=x4/\x13
 def ziy:=(z2h x12).2=(z2h x12).2/\z00 AT.cells x12.1=z00 AT.cells x12.1/\x13
 abbrev zpr:=Jb ((↑x10.1:Int)+1)
 def zpn:=zeq x2 x3 x4 x12 ((↑x10.1:Int)=(↑x16.1:Int)+1/\length x12.1=length x12.1/\ziy x12 (z5y x0 x2 x3 x4 x6 (x10.1<=length (smL x6 x1)/\length (smL x6 x1)- x10.1<length (smL x6 x1)- x16.1/\True)))
 def zx0:=zpr x10/\∃(i0:Nat×Bool),zat x0 x11 (i0.2=true/\x1=x1/\zpn x0 x7 x2 x3 x4 x6 i0 x12 x10)
 def zwy:=(0<=(↑x10.1:Int)/\(↑x10.1:Int)<(↑x3:Int))/\x2≠noA/\∃i0,(∀i1,z4a x0 x2 x3 x4 x6 i1->q3p i1 (adr x2 (toNat (↑x10.1:Int)*1)) [string i0])/\zpr x10/\∃(i2:Nat×Bool),zat x0 x11 (i2.2=decide (i0=(z2h x12).1)/\x1=x1/\zpn x0 x7 x2 x3 x4 x6 i2 x12 x10)
 def zww:=(x10.2=true->zx0 x0 x1 x2 x3 x4 x6 x7 x10 x11 x12)/\(x10.2=false->zwy x0 x1 x2 x3 x4 x6 x7 x10 x11 x12)
 def zpm:=zat x0 x11 (x1=x1/\zeq x2 x3 x4 x12 (length x5=length x12.1/\ziy x12 (z5y x0 x2 x3 x4 x6 (((z2h x12).2=0->z39 x7 x6)/\True))))
 def zwz:=((!x10.2)=true->∃(i0:List AT),(6:Int)=6/\length i0=length x12.1/\(z2h x12).2=(z2h x12).2/\z00 AT.cells i0=z00 AT.cells x12.1/\True/\zat x0 x11 (x1=x1/\zeq x2 x3 x4 x12 (z5k x5 i0/\faE (z2h x12).2 (6:Int)=faE (z2h x12).2 6/\z00 AT.cells x12.1=z00 AT.cells i0/\z5y x0 x2 x3 x4 x6 ((faE (z2h x12).2 (6:Int)=0->z39 x7 x6)/\True))))/\((!x10.2)=false->zpm x0 x1 x2 x3 x4 x5 x6 x7 x11 x12)
 abbrev zpq:=spl (spl (z00 AT.cells x12.1) (nat_lit 0+toNat x1*nat_lit 10+4) [slice x2 x3 x4]) (nat_lit 0+toNat x1*nat_lit 10+5) [bool (Option.isSome (z0c x11.2 x11.1))]
 abbrev zep:=if x17.1=0 then zht x5 x1 x17.2.1 x17.2.2.1 x17.2.2.2.1 x17.2.2.2.2 else x5
 def zpo:=x1=0/\x17.2.2.1≠[]/\length x17.2.2.1<=30
 def zwx:=(0<=x1/\x1<(↑(length x5):Int))/\nat_lit 0+toNat x1*nat_lit 10+4+length [slice x2 x3 x4]<=length (z00 AT.cells x12.1)/\(0<=x1/\x1<(↑(length x5):Int))/\nat_lit 0+toNat x1*nat_lit 10+5+length [bool (Option.isSome (z0c x11.2 x11.1))]<=length (spl (z00 AT.cells x12.1) (nat_lit 0+toNat x1*nat_lit 10+4) [slice x2 x3 x4])/\(0<=x1/\x1<(↑(length x5):Int))/\nat_lit 0+toNat x1*nat_lit 10+6+length [string (z2h x12).1]<=length (zpq x1 x2 x3 x4 x11 x12)/\∃(i0:SyB),length (zep x1 x5 i0)=length x5/\i0.1=x7/\z00 AT.cells (zep x1 x5 i0)=spl (zpq x1 x2 x3 x4 x11 x12) (nat_lit 0+toNat x1*nat_lit 10+6) [string (z2h x12).1]/\(i0.1=0->zpo x8 i0)/\(∀i1,z4a x0 x2 x3 x4 x6 i1->slP txV i0.2.1 i0.2.2.1 i1)/\True
 def zwu:=Ji (x1=0) (zwx x0 x7 x2 x3 x4 x5 x6 x1 x8 x11 x12) (∃(i2:SyB),length (zep x7 x5 i2)=length x5/\i2.1=x1/\z00 AT.cells (zep x7 x5 i2)=z00 AT.cells x12.1/\(i2.1=0->zpo x8 i2)/\(∀i3,z4a x0 x2 x3 x4 x6 i3->slP txV i2.2.1 i2.2.2.1 i3)/\True)
 def j7t:=((Option.isSome (z0c x11.2 x11.1)=true->zwz x0 x1 x2 x3 x4 x5 x6 x7 x10 x11 x12)/\(Option.isSome (z0c x11.2 x11.1)=false->zpm x0 x1 x2 x3 x4 x5 x6 x7 x11 x12))/\∀(i1:Int),(i1=0->z39 x7 x6)->zwu x0 i1 x2 x3 x4 x5 x6 x1 x7 x11 x12
 def j7q:=Ji ((↑x10.1:Int)<(↑x3:Int)) (zww x0 x1 x2 x3 x4 x6 x7 x10 x11 x12) (j7t x0 x1 x2 x3 x4 x5 x6 x7 x10 x11 x12)
 def zpl:=∃(i0:GJ×ByteArray),GJ.k i0.1=GJ.k x6/\GJ.n i0.1=GJ.n x6/\GJ.s i0.1=GJ.s x6/\(GJ.y i0.1).1=(GJ.y x6).1/\(GJ.y i0.1).2.1=(GJ.y x6).2.1/\(GJ.y i0.1).2.2=(GJ.y x6).2.2/\(GJ.x i0.1).1=(GJ.x x6).1/\(GJ.x i0.1).2.1=(GJ.x x6).2.1/\(GJ.x i0.1).2.2=(GJ.x x6).2.2/\i0.2=mkS [100,101,102,97,117,108,116]/\GJ.wf i0.1/\(∀i1,z4a x0 x2 x3 x4 x6 i1->GJ.ok i0.1 i1)/\∃(i2:List AT×Int×GJ×ByteArray×Bool),GJ.k i2.2.2.1=GJ.k x6/\GJ.n i2.2.2.1=GJ.n x6/\GJ.s i2.2.2.1=GJ.s x6/\(GJ.y i2.2.2.1).1=(GJ.y x6).1/\(GJ.y i2.2.2.1).2.1=(GJ.y x6).2.1/\(GJ.y i2.2.2.1).2.2=(GJ.y x6).2.2/\(GJ.x i2.2.2.1).1=(GJ.x x6).1/\(GJ.x i2.2.2.1).2.1=(GJ.x x6).2.1/\(GJ.x i2.2.2.1).2.2=(GJ.x x6).2.2/\i2.2.2.2.1=mkS [100,101,102,97,117,108,116]/\i2.2.2.2.2=false/\length i2.1=length x5/\i2.2.1=x9.2/\z00 AT.cells i2.1=z00 AT.cells x0.1/\GJ.wf i2.2.2.1/\(∀i3,z4a x0 x2 x3 x4 x6 i3->GJ.ok i2.2.2.1 i3)/\(∃(i4:Nat×Bool),zat x0 i0 (i4.2=false/\x1=x1/\zeq x2 x3 x4 i2 ((↑i4.1:Int)=0/\length i2.1=length i2.1/\ziy i2 (z5y x0 x2 x3 x4 x6 (i4.1<=length (smL x6 x7)/\True)))))/\∀(i5:Nat×Bool),i5.1<=length (smL x6 x7)->j7q x0 x1 x2 x3 x4 x5 x6 x7 i5 i0 i2
 def j7r:=Ji (x9.2=0) (j7s x0 x1 x2 x3 x4 x5 x6 x7 x9) (zpl x0 x1 x2 x3 x4 x5 x6 x7 x9)
 def j7p:=Ji ((↑x9.1:Int)<(↑x3:Int)) (j7r x0 x1 x2 x3 x4 x5 x6 x7 x9) (zpl x0 x1 x2 x3 x4 x5 x6 x7 x9)
 def j7o:=(∃(i0:Nat×Int),z2g x0/\x1=x1/\(↑i0.1:Int)=0/\z6h x2 x3 x4 x5 (i0.2=x7/\z5j x0/\z5y x0 x2 x3 x4 x6 ((ziz x8 x6 i0)/\True)))/\∀(i2:Nat×Int),ziz x8 x6 i2->j7p x0 x1 x2 x3 x4 x5 x6 x8 i2
 def j7n:=(Ji (30<(↑x3:Int)) (∃(i0:List AT),zpp x0 x1 x2 x3 x4 i0 x7 3 (z5y x0 x2 x3 x4 x6 ((faE x1 (3:Int)=0->z39 x8 x6)/\True)) x5) (z2g x0/\x7=x7/\z6h x2 x3 x4 x5 (x1=x1/\z5j x0/\z5y x0 x2 x3 x4 x6 ((x1=0->z39 x8 x6)/\True))))/\∀(i3:Int),(i3=0->z39 x8 x6)->j7o x0 x7 x2 x3 x4 x5 x6 i3 x8
 def j7m:=(Ji ((↑x3:Int)=0) (∃(i0:List AT),zpp x0 x1 x2 x3 x4 i0 x7 6 (z5y x0 x2 x3 x4 x6 ((faE x1 (6:Int)=0->zj0 x8 x6)/\True)) x5) (z2g x0/\x7=x7/\z6h x2 x3 x4 x5 (x1=x1/\z5j x0/\z5y x0 x2 x3 x4 x6 ((x1=0->zj0 x8 x6)/\True))))/\∀(i3:Int),(i3=0->zj0 x8 x6)->j7n x0 i3 x2 x3 x4 x5 x6 x7 x8
 def j7l:=(((!(z2s x0).1)=true->∃(i0:List AT),(2:Int)=2/\length i0=length x0.1/\(z2s x0).2=(z2s x0).2/\zer x0 i0 (z2g x0/\x1=x1/\x2=x2/\x3=x3/\x4=x4/\z5k x5 i0/\faE (z2s x0).2 (2:Int)=faE (z2s x0).2 2/\zau x0 i0/\z5y x0 x2 x3 x4 x6 ((faE (z2s x0).2 (2:Int)=0->x7=0)/\True)))/\((!(z2s x0).1)=false->zx3 x0 x1 x2 x3 x4 x5 x6 x7))/\∀(i3:Int),(i3=0->x7=0)->j7m x0 i3 x2 x3 x4 x5 x6 x1 x7
end
def zhs(S:List AT) (e:Int) (g:GJ) (i:Int):qm3 P (qh2 [(53,z4j),(28,z45),(50,z61),(71,z9w),(25,z1j)]) (qi5 []) Try.f55 zg0 (zvl) ⟨S,e,g,i⟩=(length S<=60/\GJ.wf g/\0<=i/\(e=0->i<(↑(length S):Int))->(∃(p:Pub),True/\GJ.ok g p)->∃(s:List AT×Int×GJ×ByteArray),GJ.k s.2.2.1=GJ.k g/\GJ.n s.2.2.1=GJ.n g/\GJ.s s.2.2.1=GJ.s g/\(GJ.y s.2.2.1).1=(GJ.y g).1/\(GJ.y s.2.2.1).2.1=(GJ.y g).2.1/\(GJ.y s.2.2.1).2.2=(GJ.y g).2.2/\(GJ.x s.2.2.1).1=(GJ.x g).1/\(GJ.x s.2.2.1).2.1=(GJ.x g).2.1/\(GJ.x s.2.2.1).2.2=(GJ.x g).2.2/\s.2.2.2=mkS [115,121,109,98,111,108,115]/\length s.1=length S/\s.2.1=e/\zau s S/\GJ.wf s.2.2.1/\(∀(p:Pub),True/\GJ.ok g p->GJ.ok s.2.2.1 p)/\∀(b:Unit),True->∀(a:Option Addr) (n c:Nat),(∃(p:Pub),z4a s a n c g p)->j7l s i a n c S g e):=by kernel_rfl
def zo4:=λS e g i=>Eq.trans (zhs S e g i) (by delta Ji Jb Jt Jf zau z4a z2s zer z2g z5k z5y z5j zx3 zpp zj0 z6h z39 ziz zj1 zix zav ziw ziv zps zx1 zwv zx2 zwt zws j7s zat z2h zeq ziy zpr zpn zx0 zwy zww zpm zwz zpq zep zpo zwx zwu j7t j7q zpl j7r j7p j7o j7n j7m j7l;exact rfl)
section
def z9d:∀{l:List GJ} {e:Int} {acc:List ByteArray},GJ.wfs l->(∀x∈acc,x.size<1000)->∀x∈(z33 l e acc).1,x.size<1000
  | [],e,acc,_,ha=>by rw[z33];exact ha
  | g ::l,e,acc,hw,ha=>by
    rw[GJ.wfs]at hw
    rw[z33]
    split
    · refine z9d hw.2 λx hx=> ?_
      rcases List.mem_append.1 hx with hx|hx
      · exact ha x hx
      · simp at hx;subst hx;have:=hw.1;rw[GJ.wf_eq]at this;exact this.1
    · exact ha
def zv7:∀{l:List GJ} {e:Int} {acc:List ByteArray},(z33 l e acc).2=0->e=0
  | [],e,acc,h=>by rw[z33]at h;exact h
  | g::l,e,acc,h=>by
    rw[z33]at h
    split at h
    · assumption
    · exact h
def z2m{e k:Int} (hk:k≠0):faE e k=0->False:=λh=>z0j hk h
variable {g:GJ} {s:ByteArray} {e:Int}
def z5d(hg:g.wf):∀x∈(z1l g s e).1,x.size<1000:=by
 unfold z1l
 split
 ·have:=(z12 s hg).1
  rw[GJ.wf_eq]at this
  exact z9d this.2.2.2.2.2.2 λx hx=>(by cases hx)
 ·intro x hx;cases hx
def z9c:∀{l:List GJ} {e:Int} {acc:List ByteArray},(z33 l e acc).1.length<=acc.length+l.length
  | [],e,acc=>by rw[z33];exact Nat.le_refl _
  | g ::l,e,acc=>by
    rw[z33]
    split
    · refine Nat.le_trans z9c ?_
      simp;omega
    · simp
def z5c(hg:g.wf):(z1l g s e).1.length<1000:=by
 unfold z1l
 split
 ·have:=(z12 s hg).1
  rw[GJ.wf_eq]at this
  refine Nat.lt_of_le_of_lt z9c ?_
  simp;exact this.2.1
 ·exact Nat.zero_lt_succ _
def zdr:(z1l g s e).2.2=0->e=0:=by
 unfold z1l
 split
 ·intro h
  have:=zv7 h
  unfold tyE at this
  split at this
  ·exact this
  ·exact absurd this (z0j (by decide))
 ·exactλh=>h
def zog{b:Bool}:(woR g s b e).2=0->e=0:=by
 unfold woR
 split
 ·split
  ·exactλh=>absurd h (z0j (by decide))
  ·exactλh=>h
 ·split
  ·exactλh=>h
  ·exactλh=>absurd h (z0j (by decide))
def z57(S:List AT) (k:Nat) (hk:k<S.length) (x:AT):z00 AT.cells (S.set k x)=z00 AT.cells (S.take k)++(x.cells++z00 AT.cells (S.drop (k+1))):=by
 rw[List.set_eq_take_append_cons_drop,if_pos hk,z05,z14]
def z69(S:List AT) (k:Nat) (hk:k<S.length):z00 AT.cells S=z00 AT.cells (S.take k)++((S[k]).cells++z00 AT.cells (S.drop (k+1))):=by
 rw[←z57 S k hk,List.set_getElem_self]
def z6c(S:List AT) (k:Nat) (hk:k<S.length):(z00 AT.cells (S.take k)).length=k*10:=by
 rw[z01 z1c,List.length_take];congr 1;omega
def zhu(S:List AT) (k:Nat) (hk:k<S.length) (y:SV) (l:List ByteArray) (hd:Bool) (df:ByteArray):z00 AT.cells (S.set k {S[k]with sy:=y,sys:=l,hd:=hd,df:=df})=spl (spl (spl (z00 AT.cells S) (0+k*10+4) [svV y]) (0+k*10+5) [.bool hd]) (0+k*10+6) [.string df]:=by
 rw[z57 S k hk]
 conv=>rhs;rw[z69 S k hk]
 rw[Nat.zero_add,←z6c S k hk]
 generalize z00 AT.cells (S.take k)=A
 generalize z00 AT.cells (S.drop (k+1))=B
 show _=(((A++((S[k]).cells++B)).set (A.length+4) (svV y)).set (A.length+5) (.bool hd)).set (A.length+6) (.string df)
 rw[z2p,z2p,z2p]
 rfl
def zo5:q22 P 55 zg0:=by
 refine qlb mixed (qee (qih z5b (qih z27 (qih z5f (qih z78 (qih z0z qlq)))))) (qf7 qlp) (W:=zvl) Try.func55 (by kernel_rfl) (by decide) (by decide) (λs=>by kernel_rfl) λ⟨S,(e:Int),g,(i:Int)⟩=>(zo4 S e g i).mpr ?_
 rintro⟨hS,hg,hi0,hi1⟩ ⟨p,_,hp⟩
 simp only[sbS,exists_const,forall_const,Int.toNat_natCast]
 refine⟨⟨S,e,g,mkS [115,121,109,98,111,108,115]⟩,rfl,rfl,rfl,rfl,rfl,rfl,rfl,rfl,rfl,rfl,rfl,rfl,rfl,hg,λq hq=>hq,?_⟩
 have hL:(z1l g (mkS [115,121,109,98,111,108,115]) e).1=smL g e:=rfl
 have hsz:∀x∈smL g e,x.size<1000:=z5d hg
 have hLl:(smL g e).length<1000:=z5c hg
 have hE:(z1l g (mkS [115,121,109,98,111,108,115]) e).2.2=0->e=0:=zdr
 simp only[hL]
 generalize z1l g (mkS [115,121,109,98,111,108,115]) e=F at*
 generalize smL g e=L at*
 clear hL
 rintro a n c ⟨p1,hp1,hl1⟩
 have hn:n=L.length:=hl1.1
 subst hn
 have hat:=λ(j:Nat) (hj:j<L.length) (q:Pub) (hq:slP txV (a,L.length,c) L q)=>(show a≠noA/\q3p q (adr a (j*1)) [.string L[j]]from z0w z0t (by decide) hq hj)
 refine⟨⟨λ_=>⟨S,rfl,rfl,rfl,rfl,λh=>(z2m (by decide) h).elim⟩,λ_=>⟨trivial,hE⟩⟩,?_⟩
 intro e1 h1
 refine⟨⟨λ_=>⟨S,rfl,rfl,rfl,rfl,λh=>(z2m (by decide) h).elim⟩,λhz h=>⟨h1 h,λhh=>hz (by rw[hh];rfl)⟩⟩,?_⟩
 intro e2 h2
 refine⟨⟨λ_=>⟨S,rfl,rfl,rfl,rfl,λh=>(z2m (by decide) h).elim⟩,λhz h=>⟨(h2 h).1,(h2 h).2,by omega⟩⟩,?_⟩
 intro e3 h3
 refine⟨⟨⟨0,e3⟩,rfl,rfl,Nat.zero_le _,h3⟩,?_⟩
 rintro⟨j,e4⟩ ⟨hj,h4⟩
 simp only at*
 refine⟨λhlt=>⟨λh0=>⟨⟨by omega,(hat j (by omega) p1 hl1).1,L[j]'(by omega),λq hq=>(hat j (by omega) q hq.2).2,by have:=hsz _ (List.getElem_mem (show j<L.length by omega));omega,λ_=>⟨S,rfl,rfl,rfl,rfl,λh=>(z2m (by decide) h).elim⟩,λ_=>h4⟩,?_⟩,λh0=> ?xa⟩,λhge=> ?xb⟩
 ·intro e5 h5
  refine⟨⟨⟨0,e5⟩,rfl,rfl,by show(0:Int)<=_;omega,h5⟩,?_⟩
  rintro⟨k,e6⟩ ⟨hk,h6⟩
  simp only at*
  refine⟨λhkj=>⟨⟨by omega,by omega⟩,(hat k (by omega) p1 hl1).1,L[k]'(by omega),λq hq=>(hat k (by omega) q hq.2).2,⟨by omega,by omega⟩,(hat j (by omega) p1 hl1).1,L[j]'(by omega),λq hq=>(hat j (by omega) q hq.2).2,λ_=>⟨S,rfl,rfl,⟨by omega,by omega⟩,⟨k+1,faE e6 5⟩,by show((k+1:Nat):Int)=_;omega,rfl,rfl,rfl,⟨by show((k+1:Nat):Int)<=_;omega,λh=>(z2m (by decide) h).elim⟩,by show((j:Int)- ((k+1:Nat):Int)).toNat<_;omega⟩,λ_=>⟨⟨by omega,by omega⟩,⟨k+1,e6⟩,by show((k+1:Nat):Int)=_;omega,rfl,⟨by show((k+1:Nat):Int)<=_;omega,h6⟩,by show((j:Int)- ((k+1:Nat):Int)).toNat<_;omega⟩⟩,λhkj=>⟨⟨by omega,by omega⟩,⟨j+1,e6⟩,by show((j+1:Nat):Int)=_;omega,rfl,⟨by show j+1<=_;omega,h6⟩,by show _- (j+1)<_;omega⟩⟩
 case xa|xb=>
  refine⟨⟨g,mkS [100,101,102,97,117,108,116]⟩,rfl,rfl,rfl,rfl,rfl,rfl,rfl,rfl,rfl,rfl,hg,λq hq=>hq.1,⟨S,e4,g,mkS [100,101,102,97,117,108,116],false⟩,rfl,rfl,rfl,rfl,rfl,rfl,rfl,rfl,rfl,rfl,rfl,rfl,rfl,rfl,hg,λq hq=>hq.1,⟨⟨0,false⟩,rfl,rfl,Nat.zero_le _⟩,?_⟩
  rintro⟨k,b⟩ hk
  simp only at*
  have hw:(woR g (mkS [100,101,102,97,117,108,116]) false e4).2=0->e=0/\L≠[]/\L.length<=30:=λh=>h4 (zog h)
  generalize woR g (mkS [100,101,102,97,117,108,116]) false e4=W at*
  generalize (z0c (mkS [100,101,102,97,117,108,116]) g).isSome=hb at*
  refine⟨λhkl=>⟨λ_=>⟨⟨by omega,by omega⟩,⟨k+1,true⟩,rfl,by show((k+1:Nat):Int)=_;omega,by show k+1<=_;omega,by show _- (k+1)<_;omega⟩,λ_=>⟨by omega,(hat k (by omega) p1 hl1).1,L[k]'(by omega),λq hq=>(hat k (by omega) q hq.2).2,⟨by omega,by omega⟩,⟨k+1,_⟩,rfl,by show((k+1:Nat):Int)=_;omega,by show k+1<=_;omega,by show _- (k+1)<_;omega⟩⟩,λhkl=>⟨⟨λ_=>⟨λ_=>⟨S,rfl,rfl,rfl,rfl,λh=>(z2m (by decide) h).elim⟩,λ_=>⟨trivial,hw⟩⟩,λ_=>⟨trivial,hw⟩⟩,?_⟩⟩
  intro e8 h8
  refine⟨λhz=> ?_,λhz=>⟨⟨e8,(a,L.length,c),L,hb,W.1⟩,by show(if e8=0 then _ else S).length=_;rw[if_neg hz],rfl,by show z00 AT.cells (if e8=0 then _ else S)=_;rw[if_neg hz],h8,λq hq=>hq.2⟩⟩
  obtain⟨z0,z1,z2⟩:=h8 hz
  have hi:=hi1 z0
  obtain⟨m,rfl⟩:=Int.eq_ofNat_of_zero_le hi0
  have hm:m<S.length:=by omega
  have es:zht S (m:Int) (a,L.length,c) L hb W.1=S.set m {S[m]with sy:=(a,L.length,c),sys:=L,hd:=hb,df:=W.1}:=by
   unfold zht;rw[Int.toNat_natCast,List.getElem?_eq_getElem hm]
  have hrl:=z01 z1c S
  simp only[Int.toNat_natCast,q92,List.length_singleton]
  refine⟨⟨hi0,hi⟩,by omega,⟨hi0,hi⟩,by omega,⟨hi0,hi⟩,by omega,⟨e8,(a,L.length,c),L,hb,W.1⟩,?_,rfl,?_,h8,λq hq=>hq.2⟩
  ·show(if e8=0 then zht S (m:Int) (a,L.length,c) L hb W.1 else S).length=_
   rw[if_pos hz,es,List.length_set]
  ·show z00 AT.cells (if e8=0 then zht S (m:Int) (a,L.length,c) L hb W.1 else S)=_
   rw[if_pos hz,es]
   exact zhu S m hm _ _ _ _
end
abbrev FdS:=List AT×Int×GJ×Int×ByteArray×Int
abbrev FdB:=List AT×Int×SV×List AF
def z74(S:List AT) (at_:Int) (x:SV) (l:List AF):List AT:=match S[at_.toNat]? with
 |some a=>S.set at_.toNat {a with f:=x,fs:=l}
 |none=>S
def tfM(T:List AT) (l:List AF):PF:=⟨true,λp=>(∀a∈T,a.ok p)/\∀f∈l,f.ok p,λ_ _ h e=>⟨λa ha=>AT.ok_mono h (e.1 a ha),λf hf=>⟨z0e h (e.2 f hf).1,GJ.ok_mono h (e.2 f hf).2⟩⟩⟩
def z3j:CtR where
 σ:=FdS
 args:=λ⟨S,e,g,i,sp,d⟩=>[.ptr 1 0,g.av, .sv (.int .i64 i), .sv (.string sp), .sv (.int .i64 d)]
 h:=λ⟨S,e,g,i,sp,d⟩=>mkO S e 2 3
 m:=4
 pre:=λ⟨S,e,g,i,sp,d⟩=>S.length<=60/\g.wf/\0<=i/\(e=0->i<S.length)/\1<=d/\d<=20/\(sp.size:Int)<=1100*(d+1)
 mem:=λ⟨S,e,g,i,sp,d⟩=>gM g
 β:=λ_=>FdB
 post:=λ⟨S,e,g,i,sp,d⟩ ⟨T,e',x,fs⟩=>(S++T).length<=60/\(e'=0->e=0/\(∀a∈T,z1m (S++T).length a)/\(∀f∈fs,(0<=f.ty/\f.ty<(S++T).length)/\f.df.wf)/\fs.length<=30)
 pm:=λ_ ⟨T,e',x,fs⟩=>⟨true,λp=>(∀a∈T,a.ok p)/\slP AF.cells x fs p/\∀f∈fs,f.ok p,λ_ _ h e=>⟨λa ha=>AT.ok_mono h (e.1 a ha),z0e h e.2.1,λf hf=>⟨z0e h (e.2.2 f hf).1,GJ.ok_mono h (e.2.2 f hf).2⟩⟩⟩
 r:=λ_ _=> .tup []
 h':=λ⟨S,e,g,i,sp,d⟩ ⟨T,e',x,fs⟩=>mkO ((if e'=0 then z74 S i x fs else S)++T) e' 4 5
 m':=6
def ztd:FdS->Nat:=λ⟨S,e,g,i,sp,d⟩=>(25- d).toNat
def j0a(h:T AO) (e:Int):List (Nat×AO):=match h.get 1 with
 |some (.cells a b c [sl,_])=>[(1, .cells a b c [sl, .sv (.int .i64 e)])]
 |_=>[]
def fdN:ByteArray:=mkS [102,105,101,108,100,115]
def fdJ(g:GJ):GJ:=(z0c fdN g).getD zJ
abbrev FlS:=Nat×Int×List AT×List AF
def zg8(S:List AT) (e:Int) (g:GJ):FlS->Prop:=λ⟨i,e',T,fs⟩=>i<=(fdJ g).l.length/\fs.length<=i/\(S++T).length<=60/\(e'=0->e=0/\(∀a∈T,z1m (S++T).length a)/\(∀f∈fs,(0<=f.ty/\f.ty<(S++T).length)/\f.df.wf))
def z9m:FdS->WayF:=λ⟨S,e,g,i,sp,d⟩=>{
 cut:=λr t h=>match r with
  |15=>some {σ:=Bool,t:=λb=>[(78, .sv (.bool b))],h:=λ_=>[],more:=0,μ:=λ_=>0,keep:=[0,2,3,4,6,10,12,13,14,15]}
  |16=>match mkE h 1 with|none=>none|some e0=>some {σ:=Int,pre:=λe'=>e'=0->e0=0,find:=some λ_ h=>mkE h 1,t:=λ_=>[],h:=λe'=>j0a h e',more:=0,μ:=λ_=>0,keep:=[0,2,3,4,6,10,12,13,14,15]}
  |24=>match mkE h 1 with|none=>none|some e0=>some {σ:=Int,pre:=λe'=>e'=0->e0=0,find:=some λ_ h=>mkE h 1,t:=λ_=>[],h:=λe'=>j0a h e',more:=0,μ:=λ_=>0,keep:=[0,2,3,4,6,10,12,13,14,15,17]}
  |_=>none
 ann:=λid t h=>match id with
  |0=>some {σ:=FlS,pre:=zg8 S e g,mem:=λ⟨i,e',T,fs⟩=>tfM T fs,t:=λ⟨i,e',T,fs⟩=>[(13, .sv (.int .i64 (i:Int))),(12, .ssl 9 0 fs.length 9 10)],h:=λ⟨i,e',T,fs⟩=>mkO (S++T) e' 7 8++[(9, .row 71 0 (z00 AF.cells fs))],more:=4,μ:=λ⟨i,e',T,fs⟩=>(fdJ g).l.length- i,keep:=[0,2,3,4,6,10],del:=[2]}
  |2=>match mkE h 1 with|none=>none|some e0=>some {σ:=Nat×Int,pre:=λ⟨k,e'⟩=>e'=0->e0=0,t:=λ⟨k,e'⟩=>[(16, .sv (.int .i64 (k:Int)))],h:=λ⟨k,e'⟩=>j0a h e',more:=0,μ:=λ⟨k,e'⟩=>100- k,keep:=[0,2,3,4,6,10,12,13,14,15]}
  |_=>match mkE h 1 with|none=>none|some e0=>some {σ:=Nat×Int,pre:=λ⟨k,e'⟩=>e'=0->e0=0,t:=λ⟨k,e'⟩=>[(19, .sv (.int .i64 (k:Int)))],h:=λ⟨k,e'⟩=>j0a h e',more:=0,μ:=λ⟨k,e'⟩=>2000- k,keep:=[0,2,3,4,6,10,12,13,14,15]}
 pub:=λi k=>match i,k with
  |34,9=>[165]
  |_,_=>[]}
section
variable (x0:GJ×ByteArray) (x1:List AT) (x2 x3:Int) (x4:GJ) (x5:ByteArray) (x6:Int) (x7:Nat) (x8:FlS) (x9:List AT×Int×GJ×ByteArray×Bool) (x10 x11:Int) (x12:ByteArray) (x13:Option Addr) (x14:Nat) (x15:Option Addr) (x16 x17 x18:Nat) (x19:Int) (x20:Nat×Int) (x21:GJ×ByteArray) (x22:List AT×Int×GJ×ByteArray) (x23:Option Addr) (x24:Nat) (x25:TmB) (x26:Prop) (x27:Nat->Option Obj) (x28:FdB) (x29:Bool) (x30:Nat×Int)
 abbrev z5m:=(if x28.2.1=0 then z74 x1 x2 x28.2.2.1 x28.2.2.2 else x1)++x28.1
 def zx5:=x2=0/\(∀(i0:AT),i0∈x28.1->z1m (length (x1++x28.1)) i0)/\(∀(i1:AF),i1∈x28.2.2.2->(0<=AF.ty i1/\AF.ty i1<(↑(length (x1++x28.1)):Int))/\GJ.wf (AF.df i1))/\length x28.2.2.2<=30
 def zeu:=(length (x1++x28.1)<=60/\(x28.2.1=0->zx5 x1 x2 x28))
 def zes:=(∀(i0:AT),i0∈x28.1->AT.ok i0 x27)/\slP AF.cells x28.2.2.1 x28.2.2.2 x27/\∀(i1:AF),i1∈x28.2.2.2->AF.ok i1 x27
 def zj2:=∃(i0:List AT),x6=x6/\length i0=length x1/\x2=x2/\z00 AT.cells i0=z00 AT.cells x1/\True/\∃(i1:FdB),length (z5m x1 x3 i1)=length i0/\i1.2.1=faE x2 x6/\z00 AT.cells (z5m x1 x3 i1)=z00 AT.cells i0/\zeu x1 x2 i1/\(∀i2,True/\GJ.ok x4 i2->zes i2 i1)/\True
 abbrev z0i:=Option.getD (z0c x0.2 x0.1) zJ
 abbrev zj7:=(↑(GJ.y (z0i x0)).2.1:Int)
 def zj3:=GJ.k x4=GJ.k x4/\GJ.n x4=GJ.n x4/\GJ.s x4=GJ.s x4/\(GJ.y x4).1=(GJ.y x4).1/\(GJ.y x4).2.1=(GJ.y x4).2.1/\(GJ.y x4).2.2=(GJ.y x4).2.2/\(GJ.x x4).1=(GJ.x x4).1/\(GJ.x x4).2.1=(GJ.x x4).2.1/\(GJ.x x4).2.2=(GJ.x x4).2.2/\x26
 def z1o:=GJ.k (z0i x0)=GJ.k (z0i x0)/\GJ.n (z0i x0)=GJ.n (z0i x0)/\GJ.s (z0i x0)=GJ.s (z0i x0)/\(GJ.y (z0i x0)).1=(GJ.y (z0i x0)).1/\(GJ.y (z0i x0)).2.1=(GJ.y (z0i x0)).2.1/\(GJ.y (z0i x0)).2.2=(GJ.y (z0i x0)).2.2/\(GJ.x (z0i x0)).1=(GJ.x (z0i x0)).1/\(GJ.x (z0i x0)).2.1=(GJ.x (z0i x0)).2.1/\(GJ.x (z0i x0)).2.2=(GJ.x (z0i x0)).2.2/\x26
 def zj4:=(∀(i0:AT),i0∈x8.2.2.1->AT.ok i0 x27)/\∀(i1:AF),i1∈x8.2.2.2->AF.ok i1 x27
 def z3a:=(True/\GJ.ok x4 x27)/\zj4 x8 x27
 abbrev z1p:=woR x9.2.2.1 x9.2.2.2.1 x9.2.2.2.2 x9.2.1
 abbrev zex:=(z1p x9).2=0
 def zev:=length x8.2.2.2=length x8.2.2.2
 def z4b:=(↑x8.1:Int)=(↑x8.1:Int)/\x2=x2/\x3=x3/\zev x8/\x26
 def zf0:=length x9.1=length x9.1
 def zew:=z00 AT.cells x9.1=z00 AT.cells x9.1
 def zj5:=zf0 x9/\(z1p x9).2=(z1p x9).2/\zew x9/\x26
 def z2t:=x2=x2/\x3=x3/\x5=x5/\x13=x13/\x7=x7/\x14=x14/\x15=x15/\x16=x16/\x17=x17/\z00 AF.cells x8.2.2.2=z00 AF.cells x8.2.2.2/\zj3 x4 ((z1p x9).1=(z1p x9).1/\x26)
 def z4c:=(∀i0,(z3a x4 x8 i0)->z3a x4 x8 i0)
 def zxe:=(z1p x9).1=(z1p x9).1/\size (z1p x9).1<1000000/\∃(i0:Bool),x5=x5/\z4b x2 x3 x8 (i0= !z21 (z1p x9).1/\zj5 x9 (z2t x6 x10 x4 x12 x7 x8 x9 x13 x14 x15 x16 x17 (z1o x0 (z4c x4 x8/\True/\True))))
 def zx9:=(x29=true->∃(i0:List AT),(6:Int)=6/\length i0=length x9.1/\(z1p x9).2=(z1p x9).2/\z00 AT.cells i0=z00 AT.cells x9.1/\True/\x5=x5/\z4b x2 x3 x8 (length x9.1=length i0/\faE (z1p x9).2 (6:Int)=faE (z1p x9).2 6/\z00 AT.cells x9.1=z00 AT.cells i0/\z2t x6 x10 x4 x12 x7 x8 x9 x13 x14 x15 x16 x17 (z1o x0 (z4c x4 x8/\(faE (z1p x9).2 (6:Int)=0->zex x9)/\True))))/\(x29=false->x5=x5/\z4b x2 x3 x8 (zj5 x9 (z2t x6 x10 x4 x12 x7 x8 x9 x13 x14 x15 x16 x17 (z1o x0 (z4c x4 x8/\((z1p x9).2=0->zex x9)/\True)))))
 def zez:=x20.2=0->x2=0
 def zpx:=x2=x2/\length x1=length x9.1/\x20.2=x20.2/\z00 AT.cells x1=z00 AT.cells x9.1/\True/\x26
 abbrev zet:=Jb ((↑x20.1:Int)+1)
 def zf1:=(↑x20.1:Int)=(↑x30.1:Int)+1
 def zxd:=zet x20/\∃(i0:Nat×Int),x5=x5/\(↑x8.1:Int)=(↑x8.1:Int)/\x2=x2/\x3=x3/\zf1 i0 x20/\zev x8/\zf0 x9/\i0.2=x20.2/\zew x9/\z2t x6 x10 x4 x12 x7 x8 x9 x13 x14 x15 x16 x17 (z1o x0 (z4c x4 x8/\(zez x11 i0)/\(100:Nat)- i0.1<100- x20.1/\True))
 def zx8:=(0<=(↑x20.1:Int)/\(↑x20.1:Int)<(↑(length x8.2.2.2):Int))/\∃i0,qi8 (z00 AF.cells x8.2.2.2) (nat_lit 0+toNat (↑x20.1:Int)*nat_lit 9+0) [string i0]/\Ji (i0=(z1p x9).1) (∃(i1:List AT),zpx i1 5 x9 x20 (zet x20/\∃(i2:Nat×Int),x5=x5/\(↑x8.1:Int)=(↑x8.1:Int)/\x2=x2/\x3=x3/\zf1 i2 x20/\zev x8/\length x9.1=length i1/\i2.2=faE x20.2 5/\z00 AT.cells x9.1=z00 AT.cells i1/\z2t x6 x10 x4 x12 x7 x8 x9 x13 x14 x15 x16 x17 (z1o x0 (z4c x4 x8/\(zez x11 i2)/\(100:Nat)- i2.1<100- x20.1/\True)))) (zxd x0 x2 x3 x4 x5 x6 x7 x8 x9 x10 x11 x12 x13 x14 x15 x16 x17 x20)
 def zpw:=GJ.k x0.1=x2/\GJ.n x0.1=x3/\GJ.s x0.1=x5/\(GJ.y x0.1).1=x13/\(GJ.y x0.1).2.1=x7/\(GJ.y x0.1).2.2=x14/\(GJ.x x0.1).1=x15/\(GJ.x x0.1).2.1=x16/\(GJ.x x0.1).2.2=x17/\x26
 def zey:=(z3a x4 x8 x27)/\∀(i0:AT),i0∈x25.1->AT.ok i0 x27
 def z5l:=(zey x4 x8 x25 x27)/\slP txV (x13,x7,x14) (z1l x22.2.2.1 x22.2.2.2 x22.2.1).1 x27
 def zj6:=x20.2=0->(z1l x22.2.2.1 x22.2.2.2 x22.2.1).2.2=0
 def zpv:=x13=x13/\x7=x7/\x14=x14/\x25.2.2=x25.2.2/\Option.isSome (z0c x0.2 x0.1)=Option.isSome (z0c x0.2 x0.1)/\z1o x0 (z1o x21 ((∀i0,z5l x4 x7 x8 x13 x14 x22 x25 i0->z5l x4 x7 x8 x13 x14 x22 x25 i0)/\(zj6 x20 x22)/\(2000:Nat)- x20.1<2000- x30.1/\True))
 def zxc:=zet x20/\∃(i0:Nat×Int),x5=x5/\zf1 i0 x20/\z4b x2 x3 x8 (length x22.1=length x22.1/\i0.2=x20.2/\z00 AT.cells x22.1=z00 AT.cells x22.1/\z2t x6 x10 x4 x12 x7 x8 x9 x13 x14 x15 x16 x17 (zpv x0 x4 x18 x8 x23 x24 i0 x21 x22 x25 x20))
 def zx7:=(0<=(↑x20.1:Int)/\(↑x20.1:Int)<(↑x7:Int))/\x13≠noA/\∃i0,(∀i1,z5l x4 x7 x8 x13 x14 x22 x25 i1->q3p i1 (adr x13 (toNat (↑x20.1:Int)*1)) [string i0])/\i0=i0/\size i0<1000000/\((!z21 i0)=true->∃(i3:List AT),(6:Int)=6/\length i3=length x22.1/\x20.2=x20.2/\z00 AT.cells i3=z00 AT.cells x22.1/\True/\zet x20/\∃(i4:Nat×Int),x5=x5/\zf1 i4 x20/\z4b x2 x3 x8 (length x22.1=length i3/\i4.2=faE x20.2 6/\z00 AT.cells x22.1=z00 AT.cells i3/\z2t x6 x10 x4 x12 x16 x8 x9 x15 x17 x23 x18 x24 (zpv x0 x4 x7 x8 x13 x14 i4 x21 x22 x25 x20)))/\((!z21 i0)=false->zxc x0 x2 x3 x4 x5 x6 x16 x8 x9 x10 x12 x15 x17 x23 x18 x24 x7 x20 x21 x22 x13 x14 x25)
 def zpu:=length (z00 AF.cells x8.2.2.2)=length x8.2.2.2*9/\(length x8.2.2.2+nat_lit 1)*136<=140737488355328/\Jb ((↑x8.1:Int)+1)/\∃(i0:FlS),x5=x5/\(↑i0.1:Int)=(↑x8.1:Int)+1/\x2=x2/\x3=x3/\length i0.2.2.2=length x8.2.2.2+nat_lit 1/\length (x1++i0.2.2.1)=length x22.1/\i0.2.1=x20.2/\z00 AT.cells (x1++i0.2.2.1)=z00 AT.cells x22.1/\z00 AF.cells i0.2.2.2=z00 AF.cells x8.2.2.2++[string (z1p x9).1,slice x13 x7 x14,int i64 x25.2.2,bool (Option.isSome (z0c x0.2 x0.1)),int i64 (GJ.k (z0i x0)),int i64 (GJ.n (z0i x0)),string (GJ.s (z0i x0)),slice (GJ.y (z0i x0)).1 (GJ.y (z0i x0)).2.1 (GJ.y (z0i x0)).2.2,slice (GJ.x (z0i x0)).1 (GJ.x (z0i x0)).2.1 (GJ.x (z0i x0)).2.2]/\zj3 x4 (z1o x21 ((∀i1,z5l x4 x7 x8 x13 x14 x22 x25 i1->True/\GJ.ok x4 i1)/\(∀i5,z5l x4 x7 x8 x13 x14 x22 x25 i5->zj4 i0 i5)/\zg8 x1 x6 x4 i0/\length (GJ.l (fdJ x4))- i0.1<length (GJ.l (fdJ x4))- x8.1/\True))
 def zx6:=Ji (x20.2=0) (zx7 x0 x2 x3 x4 x5 x6 x7 x8 x9 x10 x12 x13 x14 x15 x16 x17 x18 x20 x21 x22 x23 x24 x25) (zpu x0 x1 x2 x3 x4 x5 x11 x7 x8 x9 x13 x14 x20 x21 x22 x25)
 def zx4:=Ji ((↑x20.1:Int)<(↑x7:Int)) (zx6 x0 x1 x2 x3 x4 x5 x6 x7 x8 x9 x10 x11 x12 x13 x14 x15 x16 x17 x18 x20 x21 x22 x23 x24 x25) (zpu x0 x1 x2 x3 x4 x5 x11 x7 x8 x9 x13 x14 x20 x21 x22 x25)
 def j83:=(∃(i0:Nat×Int),x5=x5/\(↑i0.1:Int)=0/\z4b x2 x3 x8 (length x22.1=length x22.1/\i0.2=(z1l x22.2.2.1 x22.2.2.2 x22.2.1).2.2/\z00 AT.cells x22.1=z00 AT.cells x22.1/\z2t x6 x10 x4 x12 x7 x8 x9 x13 x14 x15 x16 x17 (x23=x23/\x18=x18/\x24=x24/\x25.2.2=x25.2.2/\Option.isSome (z0c x0.2 x0.1)=Option.isSome (z0c x0.2 x0.1)/\z1o x0 (z1o x21 ((∀i1,z5l x4 x18 x8 x23 x24 x22 x25 i1->z5l x4 x18 x8 x23 x24 x22 x25 i1)/\(zj6 i0 x22)/\True)))))/\∀(i8:Nat×Int),(zj6 i8 x22)->zx4 x0 x1 x2 x3 x4 x5 x6 x18 x8 x9 x10 x11 x12 x23 x24 x13 x7 x14 x16 i8 x21 x22 x15 x17 x25
 def j82:=Jb (x2+1)/\∃(i0:TmS),GJ.k i0.2.2.1=GJ.k (z0i x0)/\GJ.n i0.2.2.1=GJ.n (z0i x0)/\GJ.s i0.2.2.1=GJ.s (z0i x0)/\(GJ.y i0.2.2.1).1=(GJ.y (z0i x0)).1/\(GJ.y i0.2.2.1).2.1=(GJ.y (z0i x0)).2.1/\(GJ.y i0.2.2.1).2.2=(GJ.y (z0i x0)).2.2/\(GJ.x i0.2.2.1).1=(GJ.x (z0i x0)).1/\(GJ.x i0.2.2.1).2.1=(GJ.x (z0i x0)).2.1/\(GJ.x i0.2.2.1).2.2=(GJ.x (z0i x0)).2.2/\i0.2.2.2.1=x5/\i0.2.2.2.2=x2+1/\length i0.1=length x9.1/\i0.2.1=x3/\z00 AT.cells i0.1=z00 AT.cells x9.1/\(z4n i0<x7/\z2q i0)/\(∀i1,(z3a x4 x8 i1)->GJ.ok i0.2.2.1 i1)/\∀(i4:TmB),z0d i0 i4->(∃i5,zey x4 x8 i4 i5)->∃(i9:GJ×ByteArray),zpw i9 x6 x10 x12 x14 x13 x16 x15 x17 x18 (i9.2=mkS [100,101,102,97,117,108,116]/\GJ.wf i9.1/\(∀i10,(zey x4 x8 i4 i10)->GJ.ok i9.1 i10)/\∃(i14:List AT×Int×GJ×ByteArray),GJ.k i14.2.2.1=x6/\GJ.n i14.2.2.1=x10/\GJ.s i14.2.2.1=x12/\(GJ.y i14.2.2.1).1=x13/\(GJ.y i14.2.2.1).2.1=x14/\(GJ.y i14.2.2.1).2.2=x16/\(GJ.x i14.2.2.1).1=x15/\(GJ.x i14.2.2.1).2.1=x17/\(GJ.x i14.2.2.1).2.2=x18/\i14.2.2.2=mkS [97,108,105,97,115,101,115]/\length i14.1=length (i0.1++i4.1)/\i14.2.1=i4.2.1/\z00 AT.cells i14.1=z00 AT.cells (i0.1++i4.1)/\GJ.wf i14.2.2.1/\(∀i15,(zey x4 x8 i4 i15)->GJ.ok i14.2.2.1 i15)/\∀(i19:Unit),True->∀(i20:Option Addr) (i21 i22:Nat),(∃i23,z5l x4 i21 x8 i20 i22 i14 i4 i23)->j83 i9 x1 x11 x2 x4 x5 x6 x14 x8 x9 x10 x19 x12 x13 x16 x15 x17 x18 i21 x21 i14 i20 i22 i4)
 def j81:=Ji ((↑x20.1:Int)<(↑(length x8.2.2.2):Int)) (zx8 x0 x2 x3 x4 x5 x6 x7 x8 x9 x10 x11 x12 x13 x14 x15 x16 x17 x20) (∃(i14:GJ×ByteArray),zpw i14 x6 x10 x12 x7 x13 x14 x15 x16 x17 (i14.2=mkS [116,121,112,101]/\GJ.wf i14.1/\(∀i15,(z3a x4 x8 i15)->GJ.ok i14.1 i15)/\(((!Option.isSome (z0c i14.2 i14.1))=true->∃(i18:List AT),zpx i18 2 x9 x20 (x5=x5/\z4b x2 x3 x8 (length x9.1=length i18/\faE x20.2 (2:Int)=faE x20.2 2/\z00 AT.cells x9.1=z00 AT.cells i18/\z2t x6 x10 x4 x12 x7 x8 x9 x13 x14 x15 x16 x17 (z1o x0 (z1o i14 (z4c x4 x8/\(faE x20.2 (2:Int)=0->x20.2=0)/\True))))))/\((!Option.isSome (z0c i14.2 i14.1))=false->x5=x5/\z4b x2 x3 x8 (zf0 x9/\x20.2=x20.2/\zew x9/\z2t x6 x10 x4 x12 x7 x8 x9 x13 x14 x15 x16 x17 (z1o x0 (z1o i14 (z4c x4 x8/\(x20.2=0->x20.2=0)/\True))))))/\∀(i29:Int),(i29=0->x20.2=0)->j82 i14 x1 x3 i29 x4 x5 x6 x18 x8 x9 x10 x2 x12 x13 x7 x15 x14 x16 x17 x19 x0))
 def j80:=(∃(i0:Nat×Int),x5=x5/\(↑x8.1:Int)=(↑x8.1:Int)/\x2=x2/\x3=x3/\(↑i0.1:Int)=0/\zev x8/\zf0 x9/\i0.2=x6/\zew x9/\z2t x10 x11 x4 x12 x7 x8 x9 x13 x14 x15 x16 x17 (z1o x0 (z4c x4 x8/\(zez x6 i0)/\True)))/\∀(i6:Nat×Int),(zez x6 i6)->j81 x0 x1 x2 x3 x4 x5 x10 x7 x8 x9 x11 x6 x12 x13 x14 x15 x16 x17 x18 x19 i6
 def j7z:=(0<=(↑x8.1:Int)/\(↑x8.1:Int)<(zj7 x0))/\(GJ.y (z0i x0)).1≠noA/\∃(i0:Int),∃(i1:Int),∃i2,∃i3,∃(i4:Nat),∃(i5:Nat),∃i6,∃(i7:Nat),∃(i8:Nat),(∀i9,(z3a x4 x8 i9)->q3p i9 (adr (GJ.y (z0i x0)).1 (toNat (↑x8.1:Int)*5)) [int i64 i0,int i64 i1,string i2,slice i3 i4 i5,slice i6 i7 i8])/\((!decide (i0=6))=true->∃(i12:List AT),(2:Int)=2/\length i12=length (x1++x8.2.2.1)/\x8.2.1=x8.2.1/\z00 AT.cells i12=z00 AT.cells (x1++x8.2.2.1)/\True/\∃(i13:FdB),length (z5m x1 x2 i13)=length i12/\i13.2.1=faE x8.2.1 2/\z00 AT.cells (z5m x1 x2 i13)=z00 AT.cells i12/\zeu x1 x3 i13/\(∀i16,(z3a x4 x8 i16)->zes i16 i13)/\True)/\((!decide (i0=6))=false->∃(i21:List AT×Int×GJ×ByteArray×Bool),GJ.k i21.2.2.1=i0/\GJ.n i21.2.2.1=i1/\GJ.s i21.2.2.1=i2/\(GJ.y i21.2.2.1).1=i3/\(GJ.y i21.2.2.1).2.1=i4/\(GJ.y i21.2.2.1).2.2=i5/\(GJ.x i21.2.2.1).1=i6/\(GJ.x i21.2.2.1).2.1=i7/\(GJ.x i21.2.2.1).2.2=i8/\i21.2.2.2.1=mkS [110,97,109,101]/\i21.2.2.2.2=true/\length i21.1=length (x1++x8.2.2.1)/\i21.2.1=x8.2.1/\z00 AT.cells i21.1=z00 AT.cells (x1++x8.2.2.1)/\GJ.wf i21.2.2.1/\(∀i22,(z3a x4 x8 i22)->GJ.ok i21.2.2.1 i22)/\((Ji (zex i21) (zxe x0 x2 x6 x4 x5 i0 i4 x8 i21 i1 i2 i3 i5 i6 i7 i8) (∃(i31:Bool),x5=x5/\z4b x2 x6 x8 (i31=false/\zj5 i21 (z2t i0 i1 x4 i2 i4 x8 i21 i3 i5 i6 i7 i8 (z1o x0 (z4c x4 x8/\True/\True))))))/\∀(i37:Bool),True->zx9 x0 x2 x6 x4 x5 i0 i4 x8 i21 i1 i2 i3 i5 i6 i7 i8 i37)/\∀(i49:Int),(i49=0->zex i21)->j80 x0 x1 x2 x6 x4 x5 i49 i4 x8 i21 i0 i1 i2 i3 i5 i6 i7 i8 x7 x3)
 def zpy:=(z3a x4 x8 x27)/\length x8.2.2.2<=x7/\qik x27 x13 (take (length x8.2.2.2*nat_lit 9) (z00 AF.cells x8.2.2.2))
 def zxb:=nat_lit 0+toNat x2*nat_lit 10+8+length [slice x13 (length x8.2.2.2) x7]<=length (z00 AT.cells (x1++x8.2.2.1))/\∃(i0:FdB),length (z5m x1 x2 i0)=length (x1++x8.2.2.1)/\i0.2.1=x8.2.1/\z00 AT.cells (z5m x1 x2 i0)=spl (z00 AT.cells (x1++x8.2.2.1)) (nat_lit 0+toNat x2*nat_lit 10+8) [slice x13 (length x8.2.2.2) x7]/\zeu x1 x3 i0/\(∀i1,zpy x4 x7 x8 x13 i1->zes i1 i0)/\True
 def zxa:=(0<=x2/\x2<(↑(length (x1++x8.2.2.1)):Int))/\∀(i0 i1 i2:Nat) (i3:Option Addr) (i4 i5:Nat),(∃i6,zpy x4 i5 x8 i3 i6)->zxb x1 x2 x3 x4 i5 x8 i3
 def zpt:=Ji (x8.2.1=0) (zxa x1 x2 x3 x4 x8) (∃(i17:FdB),length (z5m x1 x2 i17)=length (x1++x8.2.2.1)/\i17.2.1=x8.2.1/\z00 AT.cells (z5m x1 x2 i17)=z00 AT.cells (x1++x8.2.2.1)/\zeu x1 x3 i17/\(∀i20,(z3a x4 x8 i20)->zes i20 i17)/\True)
 def j7y:=Ji (x8.2.1=0) (j7z x0 x1 x2 x3 x4 x5 x6 x7 x8) (zpt x1 x2 x3 x4 x8)
 def j7x:=Ji ((↑x8.1:Int)<(zj7 x0)) (j7y x0 x1 x2 x3 x4 x5 x6 x7 x8) (zpt x1 x2 x3 x4 x8)
 def j7w:=(∃(i0:FlS),x5=x5/\(↑i0.1:Int)=0/\x2=x2/\x3=x3/\length i0.2.2.2=0/\length (x1++i0.2.2.1)=length x1/\i0.2.1=x6/\z00 AT.cells (x1++i0.2.2.1)=z00 AT.cells x1/\zj3 x4 (z1o x0 ((∀i1,True/\GJ.ok x4 i1->True/\GJ.ok x4 i1)/\(∀i2,True/\GJ.ok x4 i2->zj4 i0 i2)/\zg8 x1 x6 x4 i0/\True)))/\∀(i5:FlS),zg8 x1 x6 x4 i5->(∃i6,z3a x4 i5 i6)->j7x x0 x1 x2 x6 x4 x5 x3 x7 i5
 def j7v:=Ji (30<(zj7 x0)) (zj2 x1 x2 x3 x4 3) (j7w x0 x1 x3 x6 x4 x5 x2 x7)
 def j7u:=((!decide (GJ.k (z0i x0)=5))=true->zj2 x1 x2 x3 x4 2)/\((!decide (GJ.k (z0i x0)=5))=false->j7v x0 x1 x2 x3 x4 x5 x6 x7)
end
def z73(n:Nat) (S:List AT) (e:Int) (g:GJ) (i:Int) (sp:ByteArray) (d:Int):qm3 P (qh2 [(28,z45),(50,z61),(71,z9w),(53,z4j),(25,z1j)]) (qi5 [(17,z1k.below z4n n)]) Try.f54 (z3j.below ztd (n+1)) (z9m) ⟨S,e,g,i,sp,d⟩=(ztd (S,e,g,i,sp,d)<n+1/\length S<=60/\GJ.wf g/\0<=i/\(e=0->i<(↑(length S):Int))/\1<=d/\d<=20/\(↑(size sp):Int)<=1100*(d+1)->(∃(p:Pub),True/\GJ.ok g p)->∃(s:GJ×ByteArray),GJ.k s.1=GJ.k g/\GJ.n s.1=GJ.n g/\GJ.s s.1=GJ.s g/\(GJ.y s.1).1=(GJ.y g).1/\(GJ.y s.1).2.1=(GJ.y g).2.1/\(GJ.y s.1).2.2=(GJ.y g).2.2/\(GJ.x s.1).1=(GJ.x g).1/\(GJ.x s.1).2.1=(GJ.x g).2.1/\(GJ.x s.1).2.2=(GJ.x g).2.2/\s.2=mkS [102,105,101,108,100,115]/\GJ.wf s.1/\(∀(p:Pub),True/\GJ.ok g p->GJ.ok s.1 p)/\((!Option.isSome (z0c s.2 s.1))=true->zj2 S e i g 2)/\((!Option.isSome (z0c s.2 s.1))=false->j7u s S e i g sp d n)):=by kernel_rfl
def za2:=λn S e g i sp d=>Eq.trans (z73 n S e g i sp d) (by delta Ji Jb Jt Jf z5m zx5 zeu zes zj2 z0i zj7 zj3 z1o zj4 z3a z1p zex zev z4b zf0 zew zj5 z2t z4c zxe zx9 zez zpx zet zf1 zxd zx8 zpw zey z5l zj6 zpv zxc zx7 zpu zx6 zx4 j83 j82 j81 j80 j7z zpy zxb zxa zpt j7y j7x j7w j7v j7u;exact rfl)
def zgg(S:List AT) (k:Nat) (hk:k<S.length) (x:SV) (l:List AF) (B:List AT):z00 AT.cells (S.set k {S[k]with f:=x,fs:=l}++B)=spl (z00 AT.cells (S++B)) (0+k*10+8) [svV x]:=by
 rw[z05,z05,z57 S k hk]
 conv=>rhs;rw[z69 S k hk]
 rw[Nat.zero_add,←z6c S k hk]
 generalize z00 AT.cells (S.take k)=A
 generalize z00 AT.cells (S.drop (k+1))=C
 generalize z00 AT.cells B=D
 show _=((A++((S[k]).cells++C))++D).set (A.length+8) (svV x)
 rw[List.append_assoc A (S[k].cells++C) D,z2p,List.append_assoc A]
 rfl
def ztp{l:List AF} {i:Nat} (h:i<l.length):∀(j:Nat) (v:Value),[Value.string l[i].nm][j]? =some v->(z00 AF.cells l)[0+i*9+0+j]? =some v:=λj v hj=>by
 cases j with
 |zero=>have:=z1t z88 l i h 0 (by decide);rw[Nat.add_zero]at this;rw[Nat.zero_add,Nat.add_zero,this];exact hj
 |succ j=>simp at hj
def zlv{g:GJ} (hg:g.wf) (s:ByteArray) (b:Bool) (e:Int):(woR g s b e).1.size<1000:=by
  have h:=(z12 s hg).1
  unfold woR
  cases hk:z0c s g with
  | none=>
    simp only
    split<;>exact Nat.zero_lt_succ _
  | some t=>
    rw[hk]at h
    simp only
    split
    · have h:t.wf:=h
      rw[GJ.wf_eq]at h;exact h.1
    · exact Nat.zero_lt_succ _
def za3(n:Nat) (ht:q22 P 17 (z1k.below z4n n)):q22 P 54 (z3j.below ztd (n+1)):=by
 refine qlb mixed (qee (qih z27 (qih z5f (qih z78 (qih z5b (qih z0z qlq)))))) (qf7 (qig ht qlp)) (W:=z9m) Try.func54 (by kernel_rfl) (show 1<=4 by decide) (show 4<=6 by decide) (λs=>by kernel_rfl) λ⟨S,(e:Int),g,(i:Int),sp,(d:Int)⟩=>(za2 n S e g i sp d).mpr ?_
 rintro⟨hmu,hS,hg,hi0,hi1,hd1,hd2,hsp⟩ ⟨p,_,hp⟩
 have hmu:(25- d).toNat<n+1:=hmu
 simp only[sbS,exists_const,forall_const,Int.toNat_natCast]
 have bad:∀(T:List AT) (e1 k:Int),k≠0->(S++T).length<=60->(∀q,g.ok q->∀a∈T,a.ok q)->True:=λ_ _ _ _ _ _=>trivial
 have z:∀(T:List AT) (k:Int) (x:SV) (fs:List AF),k≠0->((if k=0 then z74 S i x fs else S)++T)=S++T:=λT k x fs hk=>by rw[if_neg hk]
 obtain⟨lw,lok⟩:=z12 (mkS [102,105,101,108,100,115]) hg
 refine⟨⟨g,mkS [102,105,101,108,100,115]⟩,rfl,rfl,rfl,rfl,rfl,rfl,rfl,rfl,rfl,rfl,hg,λq hq=>hq,λhno=>⟨S,rfl,rfl,⟨[],faE e 2,(none,0,0),[]⟩,by show(_++[]).length=_;rw[z _ _ _ _ (z0j (by decide)),List.append_nil],rfl,by show z00 AT.cells (_++[])=_;rw[z _ _ _ _ (z0j (by decide)),List.append_nil],⟨by show(S++[]).length<=60;rw[List.append_nil];exact hS,λh=>absurd h (z0j (by decide))⟩,λq hq=>⟨λa ha=>(by cases ha),z06,λf hf=>(by cases hf)⟩⟩,λhyes=>⟨λhk=>⟨S,rfl,rfl,⟨[],faE e 2,(none,0,0),[]⟩,by show(_++[]).length=_;rw[z _ _ _ _ (z0j (by decide)),List.append_nil],rfl,by show z00 AT.cells (_++[])=_;rw[z _ _ _ _ (z0j (by decide)),List.append_nil],⟨by show(S++[]).length<=60;rw[List.append_nil];exact hS,λh=>absurd h (z0j (by decide))⟩,λq hq=>⟨λa ha=>(by cases ha),z06,λf hf=>(by cases hf)⟩⟩,λhk=>⟨λh30=>⟨S,rfl,rfl,⟨[],faE e 3,(none,0,0),[]⟩,by show(_++[]).length=_;rw[z _ _ _ _ (z0j (by decide)),List.append_nil],rfl,by show z00 AT.cells (_++[])=_;rw[z _ _ _ _ (z0j (by decide)),List.append_nil],⟨by show(S++[]).length<=60;rw[List.append_nil];exact hS,λh=>absurd h (z0j (by decide))⟩,λq hq=>⟨λa ha=>(by cases ha),z06,λf hf=>(by cases hf)⟩⟩,λh30=> ?_⟩⟩⟩
 have hfd:fdJ g=(z0c (mkS [102,105,101,108,100,115]) g).getD zJ:=rfl
 simp only at*
 generalize (z0c (mkS [102,105,101,108,100,115]) g).getD zJ=t at*
 have hy:=λq (hq:g.ok q)=>(show slP GJ.cells t.y t.l q by have:=lok q hq;rw[GJ.ok_eq]at this;exact this.1)
 have tl:t.y.2.1=t.l.length:=(hy p hp).1
 have lww:=lw
 rw[GJ.wf_eq]at lww
 refine⟨⟨⟨0,e,[],[]⟩,rfl,rfl,by show(S++[]).length=_;rw[List.append_nil],rfl,by show z00 AT.cells (S++[])=_;rw[List.append_nil],λq hq=>⟨λa ha=>(by cases ha),λf hf=>(by cases hf)⟩,⟨Nat.zero_le _,Nat.zero_le _,by show(S++[]).length<=60;rw[List.append_nil];exact hS,λh=>⟨h,λa ha=>(by cases ha),λf hf=>(by cases hf)⟩⟩⟩,?_⟩
 rintro⟨j,e1,T,fs⟩ ⟨hj,hfl,hST,hinv⟩ ⟨p1,hp1,hT1,hf1⟩
 simp only[hfd]at hj⊢
 have fin0:e1≠0->∃b:FdB,((if b.snd.fst=0 then z74 S i b.snd.snd.fst b.snd.snd.snd else S)++b.fst).length=(S++T).length/\b.snd.fst=e1/\z00 AT.cells ((if b.snd.fst=0 then z74 S i b.snd.snd.fst b.snd.snd.snd else S)++b.fst)=z00 AT.cells (S++T)/\((S++b.fst).length<=60/\(b.snd.fst=0->e=0/\(∀(a:AT),a∈b.fst->z1m (S++b.fst).length a)/\(∀(f:AF),f∈b.snd.snd.snd->(0<=f.ty/\f.ty<↑(S++b.fst).length)/\f.df.wf)/\b.snd.snd.snd.length<=30))/\∀(p:Nat->Option Obj),(g.ok p/\(∀(a:AT),a∈T->a.ok p)/\∀(f:AF),f∈fs->f.ok p)->(∀(a:AT),a∈b.fst->a.ok p)/\slP AF.cells b.snd.snd.fst b.snd.snd.snd p/\∀(f:AF),f∈b.snd.snd.snd->f.ok p:=λhe=>⟨⟨T,e1,(none,0,0),[]⟩,by show(_++T).length=_;rw[z _ _ _ _ he],rfl,by show z00 AT.cells (_++T)=_;rw[z _ _ _ _ he],⟨hST,λh=>absurd h he⟩,λq hq=>⟨hq.2.1,z06,λf hf=>(by cases hf)⟩⟩
 have fin1:e1=0->(0<=i/\i<((S++T).length:Int))/\∀(a:Option Addr) (c:Nat),(∃p,(g.ok p/\(∀(a:AT),a∈T->a.ok p)/\∀(f:AF),f∈fs->f.ok p)/\fs.length<=c/\qik p a (List.take (fs.length*9) (z00 AF.cells fs)))->0+i.toNat*10+8+[Value.slice a fs.length c].length<=(z00 AT.cells (S++T)).length/\∃b:FdB,((if b.snd.fst=0 then z74 S i b.snd.snd.fst b.snd.snd.snd else S)++b.fst).length=(S++T).length/\b.snd.fst=e1/\z00 AT.cells ((if b.snd.fst=0 then z74 S i b.snd.snd.fst b.snd.snd.snd else S)++b.fst)=spl (z00 AT.cells (S++T)) (0+i.toNat*10+8) [Value.slice a fs.length c]/\((S++b.fst).length<=60/\(b.snd.fst=0->e=0/\(∀(a:AT),a∈b.fst->z1m (S++b.fst).length a)/\(∀(f:AF),f∈b.snd.snd.snd->(0<=f.ty/\f.ty<↑(S++b.fst).length)/\f.df.wf)/\b.snd.snd.snd.length<=30))/\∀(p:Nat->Option Obj),(g.ok p/\(∀(a:AT),a∈T->a.ok p)/\∀(f:AF),f∈fs->f.ok p)/\fs.length<=c/\qik p a (List.take (fs.length*9) (z00 AF.cells fs))->(∀(a:AT),a∈b.fst->a.ok p)/\slP AF.cells b.snd.snd.fst b.snd.snd.snd p/\∀(f:AF),f∈b.snd.snd.snd->f.ok p:=λhe=>by
  obtain⟨i0,iT,iF⟩:=hinv he
  have hi:=hi1 i0
  obtain⟨m,rfl⟩:=Int.eq_ofNat_of_zero_le hi0
  have hm:m<S.length:=by omega
  have es:∀x,z74 S (m:Int) x fs=S.set m {S[m]with f:=x,fs:=fs}:=λx=>by
   unfold z74;rw[Int.toNat_natCast,List.getElem?_eq_getElem hm]
  have hl:(S++T).length=S.length+T.length:=List.length_append
  refine⟨⟨hi0,by omega⟩,λa c _=>⟨by rw[z01 z1c,hl,Int.toNat_natCast];show 0+m*10+8+1<=_;omega,⟨T,e1,(a,fs.length,c),fs⟩,?_,rfl,?_,⟨hST,λ_=>⟨i0,iT,iF,by show fs.length<=30;omega⟩⟩,λq hq=>⟨hq.1.2.1,?_,hq.1.2.2⟩⟩⟩
  ·show((if e1=0 then z74 S (m:Int) (a,fs.length,c) fs else S)++T).length=_
   rw[if_pos he,es,List.length_append,List.length_set,hl]
  ·show z00 AT.cells ((if e1=0 then z74 S (m:Int) (a,fs.length,c) fs else S)++T)=_
   rw[if_pos he,es]
   exact zgg S m hm _ _ T
  ·refine⟨rfl,hq.2.1,?_⟩
   have:=hq.2.2
   rw[List.take_of_length_le (by rw[z01 z88];exact Nat.le_refl _)]at this
   exact this
 refine⟨λhlt=>⟨λhe0=> ?_,λhe0=>⟨λh=>fin1 h,λh=>fin0 h⟩⟩,λhge=>⟨λh=>fin1 h,λh=>fin0 h⟩⟩
 have hjl:j<t.l.length:=by omega
 have hat:=λq (hq:g.ok q)=>z0w z2y (by decide) (hy q hq) hjl
 have cw:t.l[j].wf:=GJ.wfs_at lww.2.2.2.2.2.2 hjl
 have cok:∀q,g.ok q->t.l[j].ok q:=λq hq=>by have:=lok q hq;rw[GJ.ok_eq]at this;exact GJ.oks_at this.2.2 hjl
 refine⟨⟨by omega,by omega⟩,(hat p1 hp1).1,t.l[j].k,t.l[j].n,t.l[j].s,t.l[j].y.1,t.l[j].y.2.1,t.l[j].y.2.2,t.l[j].x.1,t.l[j].x.2.1,t.l[j].x.2.2,λq hq=>(hat q hq.1).2,λh6=>⟨S++T,rfl,rfl,⟨T,faE e1 2,(none,0,0),[]⟩,by show(_++T).length=_;rw[z _ _ _ _ (z0j (by decide))],rfl,by show z00 AT.cells (_++T)=_;rw[z _ _ _ _ (z0j (by decide))],⟨hST,λh=>absurd h (z0j (by decide))⟩,λq hq=>⟨hq.2.1,z06,λf hf=>(by cases hf)⟩⟩,λh6=> ?_⟩
 obtain⟨e00,hTg,hfg⟩:=hinv he0
 clear fin0 fin1 z bad
 refine⟨⟨S++T,e1,t.l[j],mkS [110,97,109,101],true⟩,rfl,rfl,rfl,rfl,rfl,rfl,rfl,rfl,rfl,rfl,rfl,rfl,rfl,rfl,cw,λq hq=>cok q hq.1,?_⟩
 simp only
 have hnm:=zlv cw (mkS [110,97,109,101]) true e1
 have hwe:(woR t.l[j] (mkS [110,97,109,101]) true e1).2=0->e1=0:=zog
 generalize woR t.l[j] (mkS [110,97,109,101]) true e1=W at*
 refine⟨⟨⟨λ_=>⟨by omega,_,rfl⟩,λ_=>⟨false,rfl⟩⟩,λ_ _=>⟨S++T,rfl,rfl,rfl,rfl,λh=>(z2m (by decide) h).elim⟩⟩,?_⟩
 intro e4 h4
 refine⟨⟨⟨0,e4⟩,rfl,rfl,λh=>h⟩,?_⟩
 rintro⟨k,e5⟩ h5
 simp only at h5⊢
 have hST':=hST
 refine⟨λhkl=>⟨⟨by omega,by omega⟩,fs[k]'(by omega)|>.nm,ztp (by omega),λ_=>⟨S++T,rfl,rfl,⟨by omega,by omega⟩,⟨k+1,faE e5 5⟩,by show((k+1:Nat):Int)=_;omega,rfl,rfl,rfl,λh=>(z2m (by decide) h).elim,by show 100- (k+1)<100- k;omega⟩,λ_=>⟨⟨by omega,by omega⟩,⟨k+1,e5⟩,by show((k+1:Nat):Int)=_;omega,rfl,h5,by show 100- (k+1)<100- k;omega⟩⟩,λhkl=> ?_⟩
 obtain⟨tw,tok⟩:=z12 (mkS [116,121,112,101]) cw
 refine⟨⟨t.l[j],mkS [116,121,112,101]⟩,rfl,rfl,rfl,rfl,rfl,rfl,rfl,rfl,rfl,rfl,cw,λq hq=>cok q hq.1,?_⟩
 simp only
 generalize (z0c (mkS [116,121,112,101]) t.l[j]).getD zJ=ty at*
 refine⟨λ_=>⟨S++T,rfl,rfl,rfl,rfl,λh=>(z2m (by decide) h).elim⟩,?_⟩
 intro e7 h7
 refine⟨⟨by omega,by omega⟩,⟨S++T,e7,ty,sp,d+1⟩,rfl,rfl,rfl,rfl,rfl,rfl,rfl,rfl,rfl,rfl,rfl,rfl,rfl,rfl,⟨by show(25- (d+1)).toNat<n;omega,hST,tw,by omega,by omega,hsp⟩,λq hq=>tok q (cok q hq.1),?_⟩
 rintro⟨U,e8,r⟩ ⟨⟨hU,hU2⟩,hr⟩ ⟨p2,hp2,hU3⟩
 simp only at hU hU2 hr hU3⊢
 obtain⟨dw,dok⟩:=z12 (mkS [100,101,102,97,117,108,116]) cw
 refine⟨⟨t.l[j],mkS [100,101,102,97,117,108,116]⟩,rfl,rfl,rfl,rfl,rfl,rfl,rfl,rfl,rfl,rfl,cw,λq hq=>cok q hq.1.1,⟨S++T++U,e8,t.l[j],mkS [97,108,105,97,115,101,115]⟩,rfl,rfl,rfl,rfl,rfl,rfl,rfl,rfl,rfl,rfl,rfl,rfl,rfl,cw,λq hq=>cok q hq.1.1,?_⟩
 have hsz:∀x∈(z1l t.l[j] (mkS [97,108,105,97,115,101,115]) e8).1,x.size<1000:=z5d cw
 have hLl:(z1l t.l[j] (mkS [97,108,105,97,115,101,115]) e8).1.length<1000:=z5c cw
 have hE:(z1l t.l[j] (mkS [97,108,105,97,115,101,115]) e8).2.2=0->e8=0:=zdr
 simp only
 generalize z1l t.l[j] (mkS [97,108,105,97,115,101,115]) e8=F at*
 generalize hdj:(z0c (mkS [100,101,102,97,117,108,116]) t.l[j]).getD zJ=df at*
 rintro a m c ⟨p3,hp3,hl3⟩
 have hm:m=F.1.length:=hl3.1
 subst hm
 have hat2:=λ(k:Nat) (hk:k<F.1.length) (q:Pub) (hq:slP txV (a,F.1.length,c) F.1 q)=>(show a≠noA/\q3p q (adr a (k*1)) [.string F.1[k]]from z0w z0t (by decide) hq hk)
 refine⟨⟨⟨0,F.2.2⟩,rfl,rfl,λh=>h⟩,?_⟩
 rintro⟨x,e9⟩ h9
 simp only at h9⊢
 have hlen:(S++(T++U)).length=(S++T).length+U.length:=by rw[←List.append_assoc];exact List.length_append
 refine⟨λhx=>⟨λh0=>⟨⟨by omega,by omega⟩,(hat2 x (by omega) p3 hl3).1,F.1[x]'(by omega),λq hq=>(hat2 x (by omega) q hq.2).2,by have:=hsz _ (List.getElem_mem (show x<F.1.length by omega));omega,λ_=>⟨S++T++U,rfl,rfl,⟨by omega,by omega⟩,⟨x+1,faE e9 6⟩,by show((x+1:Nat):Int)=_;omega,rfl,rfl,rfl,λh=>(z2m (by decide) h).elim,by show 2000- (x+1)<2000- x;omega⟩,λ_=>⟨⟨by omega,by omega⟩,⟨x+1,e9⟩,by show((x+1:Nat):Int)=_;omega,rfl,h9,by show 2000- (x+1)<2000- x;omega⟩⟩,λh0=> ?xa⟩,λhx=> ?xb⟩
 case xa|xb=>
  refine⟨z01 z88 fs,by omega,⟨by omega,by omega⟩,⟨j+1,e9,T++U,fs++[⟨W.1,(a,F.1.length,c),F.1,r,(z0c (mkS [100,101,102,97,117,108,116]) t.l[j]).isSome,df⟩]⟩,by show((j+1:Nat):Int)=_;omega,by simp,by rw[List.append_assoc],rfl,by rw[List.append_assoc],by rw[z05];rfl,λq hq=>hq.1.1.1,λq hq=>⟨λy hy=>(List.mem_append.1 hy).elim (hq.1.1.2.1 y) (hq.1.2 y),λf hf=>(List.mem_append.1 hf).elim (hq.1.1.2.2 f) λh=> ?_⟩,⟨by show j+1<=(fdJ g).l.length;rw[hfd];omega,by show(fs++[_]).length<=j+1;simp;omega,by show(S++(T++U)).length<=60;rw[←List.append_assoc];exact hU,λh=>⟨e00,λy hy=> ?_,λf hf=> ?_⟩⟩,by show _- (j+1)<_;omega⟩
  ·simp at h;subst h;exact⟨hq.2,dok q (cok q hq.1.1.1)⟩
  ·show z1m (S++(T++U)).length y
   obtain⟨u1,u2⟩:=hU2 (hE (h9 h))
   rcases List.mem_append.1 hy with hy|hy
   ·exact z4l (by omega) (hTg y hy)
   ·have:=u2 y hy;rw[List.append_assoc]at this;exact this
  ·show(0<=f.ty/\f.ty<((S++(T++U)).length:Int))/\f.df.wf
   obtain⟨r0,r1⟩:=hr (hE (h9 h))
   rw[List.append_assoc]at r1
   rcases List.mem_append.1 hf with hf|hf
   ·have:=hfg f hf;exact⟨by omega,this.2⟩
   ·simp at hf;subst hf;exact⟨⟨r0,r1⟩,dw⟩
def nmT(k:Int) (W:ByteArray) (r n:Nat) (num:Nat):AO:= .cells 45 (some 0) false [.sv (.int .i64 k), .sv (.string W), .ssl r 0 n 1 num, .int .i64 0, .nsl, .bool false, .str [], .int .i64 0, .nsl, .nsl]
abbrev NlS:=Nat×Int×List ByteArray
def ze6:NmS->WayF:=λ⟨S,e,g,k,sp,d⟩=>{
  cut:=λr _ _=>match r with
    | 7 =>some {σ:=Int×ByteArray,pre:=λ⟨e',s⟩=>(e'=0->e=0)/\(s.size:Int)<=1100*d,find:=some λt h=>(match mkE h 1 with
        | some e'=>match slS t 3 with
          |some s=>some (e',s)
          |none=>none
        |none=>none),t:=λ⟨e',s⟩=>[(3, .sv (.string s))],h:=λ⟨e',s⟩=>[mkC S e' 2 3],more:=0,μ:=λ_=>0,keep:=[0,2,4,6,11]}
    |19=>some {σ:=Int,pre:=λe'=>e'=0->e=0,find:=some λ_ h=>mkE h 1,t:=λ_=>[],h:=λe'=>[mkC S e' 2 3],more:=0,μ:=λ_=>0,keep:=[0,2,3,4,6,14]}
    |_=>none
  ann:=λid t h=>match h.get 15 with
    |some (.cells _ _ _ (_:: .sv (.string W)::_))=>some {σ:=NlS,pre:=λ⟨j,e',acc⟩=>(j:Int)<=1000/\acc.length<=j/\(e'=0->e=0),t:=λ⟨j,e',acc⟩=>[(17, .sv (.int .i64 (j:Int)))],h:=λ⟨j,e',acc⟩=>[mkC S e' 2 3,(15,nmT k W 22 acc.length 23),(22, .row 9 0 (z00 txV acc))],more:=2,μ:=λ⟨j,e',acc⟩=>1000- j,keep:=[0,2,3,4,6,14,15]}
    |_=>none
  pub:=λi k=>match i,k with
    |21,2=>[107]
    |_,_=>[]}
section
variable (x0:Int×ByteArray) (x1:List AT) (x2:List AT×Int×GJ×ByteArray×Bool) (x3:Int) (x4:GJ) (x5:ByteArray) (x6 x7:Int) (x8:Nat) (x9:Option Addr) (x10:Nat) (x11:List AT×Int×GJ×ByteArray) (x12:Nat) (x13:NlS) (x14:List AT) (x15:Int) (x16:List AT×Int×AT) (x17:Option Addr) (x18:GJ×ByteArray) (x19:Prop) (x20:Nat->Option Obj) (x21:FdS) (x22:FdB) (x23:TmB) (x24:AF) (x25:List AT×Int×GJ×Int) (x26:SyB)
 abbrev zpz:=GJ.k x18.1=GJ.k x4/\GJ.n x18.1=GJ.n x4/\GJ.s x18.1=GJ.s x4/\(GJ.y x18.1).1=(GJ.y x4).1/\(GJ.y x18.1).2.1=(GJ.y x4).2.1/\(GJ.y x18.1).2.2=(GJ.y x4).2.2/\(GJ.x x18.1).1=(GJ.x x4).1/\(GJ.x x18.1).2.1=(GJ.x x4).2.1/\(GJ.x x18.1).2.2=(GJ.x x4).2.2/\x19
 abbrev z3c:=Option.getD (z0c x18.2 x18.1) zJ
 def zf4:= !decide (GJ.k (z3c x18)=x3)
 abbrev z17:=woR x2.2.2.1 x2.2.2.2.1 x2.2.2.2.2 x2.2.1
 def z5n:=length x1=length x14
 def z6i:=GJ.k x4=GJ.k x4/\GJ.n x4=GJ.n x4/\GJ.s x4=GJ.s x4/\(GJ.y x4).1=(GJ.y x4).1/\(GJ.y x4).2.1=(GJ.y x4).2.1/\(GJ.y x4).2.2=(GJ.y x4).2.2/\(GJ.x x4).1=(GJ.x x4).1/\(GJ.x x4).2.1=(GJ.x x4).2.1/\(GJ.x x4).2.2=(GJ.x x4).2.2/\x19
 def zj9:=(∀i0,True/\GJ.ok x4 i0->True/\GJ.ok x4 i0)
 def zq1:=(z17 x2).1=(z17 x2).1/\x3=x3/\x6=x6/\length x1=length x2.1/\(z17 x2).2=(z17 x2).2/\z00 AT.cells x2.1=z00 AT.cells x2.1/\x19
 def zxk:=GJ.s (z3c x18)=GJ.s (z3c x18)/\zq1 x1 x2 x3 x6 (z6i x4 (zj9 x4/\(((z17 x2).2=0->x7=0)/\(↑(size (GJ.s (z3c x18))):Int)<=1100*x6)/\True))
 def zxg:=((zf4 4 x18)=true->∃(i0:List AT),(2:Int)=2/\length i0=length x2.1/\(z17 x2).2=(z17 x2).2/\z00 AT.cells i0=z00 AT.cells x2.1/\True/\GJ.s (z3c x18)=GJ.s (z3c x18)/\(z17 x2).1=(z17 x2).1/\x3=x3/\x6=x6/\z5n x1 i0/\faE (z17 x2).2 (2:Int)=faE (z17 x2).2 2/\z00 AT.cells x2.1=z00 AT.cells i0/\z6i x4 (zj9 x4/\((faE (z17 x2).2 (2:Int)=0->x7=0)/\(↑(size (GJ.s (z3c x18))):Int)<=1100*x6)/\True))/\((zf4 4 x18)=false->zxk x1 x2 x3 x4 x6 x7 x18)
 def zxl:=x5=x5/\zq1 x1 x2 x3 x6 (z6i x4 (zj9 x4/\(((z17 x2).2=0->x7=0)/\(↑(size x5):Int)<=1100*x6)/\True))
 def z6j:=∀(i0:AT),i0∈x23.1->AT.ok i0 x20
 def z7l:=z13 (z17 x2).1 x0.2=z13 (z17 x2).1 x0.2
 abbrev z22:=z13 (z17 x2).1 x0.2
 def z7k:=(True/\GJ.ok x4 x20)/\slP txV (x9,x8,x10) (z1l x11.2.2.1 x11.2.2.2 x11.2.1).1 x20
 def zaw:=z4r (z22 x0 x2) (size (z22 x0 x2))=z4r (z22 x0 x2) (size (z22 x0 x2))
 def zf3:=(∀i0,z7k x4 x8 x9 x10 x11 i0->z7k x4 x8 x9 x10 x11 i0)
 def zj8:=(↑x13.1:Int)<=1000/\length x13.2.2<=x13.1/\(x13.2.1=0->x3=0)
 def j8c:=(0<=(↑x13.1:Int)/\(↑x13.1:Int)<(↑x8:Int))/\x9≠noA/\∃i0,(∀i1,z7k x4 x8 x9 x10 x11 i1->q3p i1 (adr x9 (toNat (↑x13.1:Int)*1)) [string i0])/\∃(i2:List AT),i0=i0/\zaw x0 x2/\z5n i2 x1/\x13.2.1=x13.2.1/\z00 AT.cells i2=z00 AT.cells x11.1/\(size i0<10000/\size (z4r (z22 x0 x2) (size (z22 x0 x2)))<50000)/\length (z00 txV x13.2.2)=length x13.2.2*1/\(length x13.2.2+nat_lit 1)*16<=140737488355328/\AV.ssl (nat_lit 22) (nat_lit 0) (length x13.2.2) (nat_lit 1) (nat_lit 23)=AV.ssl (nat_lit 22) (nat_lit 0) (length x13.2.2) (nat_lit 1) (nat_lit 23)/\Jb ((↑x13.1:Int)+1)/\∃(i3:NlS),zaw x0 x2/\x9=x9/\x8=x8/\x10=x10/\(↑i3.1:Int)=(↑x13.1:Int)+1/\x3=x3/\x6=x6/\z5n x1 i2/\i3.2.1=whE i0 (z4r (z22 x0 x2) (size (z22 x0 x2))) x13.2.1/\x3=x3/\z7l x0 x2/\length i3.2.2=length x13.2.2+nat_lit 1/\z00 AT.cells x11.1=z00 AT.cells i2/\z6i x4 (z00 txV i3.2.2=z00 txV x13.2.2++[string (z13 i0 (z4r (z22 x0 x2) (size (z22 x0 x2))))]/\zf3 x4 x8 x9 x10 x11/\(zj8 x7 i3)/\(1000:Nat)- i3.1<1000- x13.1/\True)
 def j2p:=zaw x0 x2/\x3=x3/\x6=x6/\z5n x1 x14/\x13.2.1=x13.2.1/\x3=x3/\z7l x0 x2/\length x13.2.2=length x13.2.2/\z00 AT.cells x14=z00 AT.cells x14/\z6i x4 (z00 txV x13.2.2=z00 txV x13.2.2/\zf3 x4 x8 x9 x10 x11/\(x13.2.1=0->x7=0)/\True)
 def j88:=(Option.isSome (findF (z22 x0 x2) x1 0)=true->∃(i0:List AT),(5:Int)=5/\z5n i0 x1/\x13.2.1=x13.2.1/\z00 AT.cells i0=z00 AT.cells x1/\True/\zaw x0 x2/\x3=x3/\x6=x6/\z5n x14 i0/\faE x13.2.1 (5:Int)=faE x13.2.1 5/\x3=x3/\z7l x0 x2/\length x13.2.2=length x13.2.2/\z00 AT.cells x1=z00 AT.cells i0/\z6i x4 (z00 txV x13.2.2=z00 txV x13.2.2/\zf3 x4 x8 x9 x10 x11/\(faE x13.2.1 (5:Int)=0->x7=0)/\True))/\(Option.isSome (findF (z22 x0 x2) x1 0)=false->j2p x0 x14 x2 x3 x4 x6 x7 x8 x9 x10 x11 x13 x1)
 def z3b:=(z7k x4 x8 x9 x10 x11 x20)/\length x13.2.2<=x12/\qik x20 x17 (take (length x13.2.2*nat_lit 1) (z00 txV x13.2.2))
 def zxn:=(0<=AF.ty x24/\AF.ty x24<(↑(length (x21.1++x22.1)):Int))/\GJ.wf (AF.df x24)
 def zxm:=x21.2.1=0/\(∀(i0:AT),i0∈x22.1->z1m (length (x21.1++x22.1)) i0)/\(∀(i1:AF),i1∈x22.2.2.2->zxn x21 x22 i1)/\length x22.2.2.2<=30
 def zq2:=(∀(i0:AT),i0∈x22.1->AT.ok i0 x20)/\slP AF.cells x22.2.2.1 x22.2.2.2 x20/\∀(i1:AF),i1∈x22.2.2.2->AF.ok i1 x20
 def zxo:=x25.2.1=0/\x26.2.2.1≠[]/\length x26.2.2.1<=30
 abbrev zq3:=if x26.1=0 then zht x25.1 x25.2.2.2 x26.2.1 x26.2.2.1 x26.2.2.2.1 x26.2.2.2.2 else x25.1
 def zf2:=∃(i0:List AT),x7=x7/\length i0=length (adS x16.1 x16.2.2)/\adE x16.1 x16.2.1=adE x16.1 x16.2.1/\z00 AT.cells i0=z00 AT.cells (adS x16.1 x16.2.2)/\True/\∃(i1:TmB),i1.2.2=0/\length (x1++i1.1)=length i0/\i1.2.1=faE (adE x16.1 x16.2.1) x7/\z00 AT.cells (x1++i1.1)=z00 AT.cells i0/\z0d (x1,x3,x4,x5,x6) i1/\(∀i2,z3b x4 x8 x9 x10 x11 x12 x13 x17 i2->z6j i2 i1)/\True
 def zq4:=x23.2.2=adR x16.1/\length (x1++x23.1)=length (adS x16.1 x16.2.2)/\x23.2.1=adE x16.1 x16.2.1/\x19
 def zxj:=(0<=adR x16.1/\adR x16.1<(↑(length (adS x16.1 x16.2.2)):Int))/\nat_lit 0+toNat (adR x16.1)*nat_lit 10+7+length [int i64 (GJ.n (z3c x18))]<=length (z00 AT.cells (adS x16.1 x16.2.2))/\∃(i0:TmB),zq4 x1 x16 (z00 AT.cells (x1++i0.1)=spl (z00 AT.cells (adS x16.1 x16.2.2)) (nat_lit 0+toNat (adR x16.1)*nat_lit 10+7) [int i64 (GJ.n (z3c x18))]/\z0d (x1,x3,x4,x5,x6) i0/\(∀i1,z3b x4 x8 x9 x10 x11 x12 x13 x17 i1->z6j i1 i0)/\True) i0
 def zxi:=Ji (adE x16.1 x16.2.1=0) (zxj x1 x3 x4 x5 x6 x8 x9 x10 x11 x12 x13 x16 x17 x18) (∃(i3:TmB),zq4 x1 x16 (z00 AT.cells (x1++i3.1)=z00 AT.cells (adS x16.1 x16.2.2)/\z0d (x1,x3,x4,x5,x6) i3/\(∀i4,z3b x4 x8 x9 x10 x11 x12 x13 x17 i4->z6j i4 i3)/\True) i3)
 def zxh:=Ji (5000<GJ.n (z3c x18)) (zf2 x1 x3 x4 x5 x6 6 x8 x9 x10 x11 x12 x13 x16 x17) (zxi x1 x3 x4 x5 x6 x8 x9 x10 x11 x12 x13 x16 x17 x18)
 def zxf:=Ji (GJ.n (z3c x18)<0) (zf2 x1 x3 x4 x5 x6 6 x8 x9 x10 x11 x12 x13 x16 x17) (zxh x1 x3 x4 x5 x6 x8 x9 x10 x11 x12 x13 x16 x17 x18)
 def j8a:=((zf4 3 x18)=true->zf2 x1 x3 x4 x5 x6 2 x8 x9 x10 x11 x12 x13 x16 x17)/\((zf4 3 x18)=false->zxf x1 x3 x4 x5 x6 x8 x9 x10 x11 x12 x13 x16 x17 x18)
 def j89:=Ji (x3=10) (∃(i0:List AT×Int×GJ×Int),GJ.k i0.2.2.1=GJ.k x4/\GJ.n i0.2.2.1=GJ.n x4/\GJ.s i0.2.2.1=GJ.s x4/\(GJ.y i0.2.2.1).1=(GJ.y x4).1/\(GJ.y i0.2.2.1).2.1=(GJ.y x4).2.1/\(GJ.y i0.2.2.1).2.2=(GJ.y x4).2.2/\(GJ.x i0.2.2.1).1=(GJ.x x4).1/\(GJ.x i0.2.2.1).2.1=(GJ.x x4).2.1/\(GJ.x i0.2.2.1).2.2=(GJ.x x4).2.2/\i0.2.2.2=adR x16.1/\length i0.1=length (adS x16.1 x16.2.2)/\i0.2.1=adE x16.1 x16.2.1/\z00 AT.cells i0.1=z00 AT.cells (adS x16.1 x16.2.2)/\(length i0.1<=60/\GJ.wf i0.2.2.1/\0<=i0.2.2.2/\(i0.2.1=0->i0.2.2.2<(↑(length i0.1):Int)))/\(∀i1,z3b x4 x8 x9 x10 x11 x12 x13 x17 i1->GJ.ok i0.2.2.1 i1)/\∀(i2:SyB),(i2.1=0->zxo i0 i2)->(∃i3,(z3b x4 x8 x9 x10 x11 x12 x13 x17 i3)/\slP txV i2.2.1 i2.2.2.1 i3)->∃(i4:TmB),i4.2.2=adR x16.1/\length (x1++i4.1)=length (zq3 i0 i2)/\i4.2.1=i2.1/\z00 AT.cells (x1++i4.1)=z00 AT.cells (zq3 i0 i2)/\z0d (x1,x6,x4,x5,x7) i4/\(∀i5,(z3b x4 x8 x9 x10 x11 x12 x13 x17 i5)/\slP txV i2.2.1 i2.2.2.1 i5->z6j i5 i4)/\True) (∃(i7:GJ×ByteArray),zpz x4 i7 (i7.2=mkS [115,105,122,101]/\GJ.wf i7.1/\(∀i8,z3b x4 x8 x9 x10 x11 x12 x13 x17 i8->GJ.ok i7.1 i8)/\((!Option.isSome (z0c i7.2 i7.1))=true->zf2 x1 x6 x4 x5 x7 2 x8 x9 x10 x11 x12 x13 x16 x17)/\((!Option.isSome (z0c i7.2 i7.1))=false->j8a x1 x6 x4 x5 x7 x8 x9 x10 x11 x12 x13 x16 x17 i7)))
 abbrev j87:=((!decide (x3=0))=true->∃(i0:TmB),i0.2.2=0/\length (x1++i0.1)=length x1/\i0.2.1=x3/\z00 AT.cells (x1++i0.1)=z00 AT.cells x14/\z0d (x1,x6,x4,x5,x7) i0/\(∀i1,z7k x4 x8 x9 x10 x11 i1->z6j i1 i0)/\True)/\((!decide (x3=0))=false->∀(i3 i4 i5:Nat) (i6:Option Addr) (i7 i8:Nat),(∃i9,z3b x4 x8 x9 x10 x11 i8 x13 i6 i9)->∃(i10:List AT×Int×AT),AT.k i10.2.2=x15/\AT.nm i10.2.2=z13 (z17 x2).1 x0.2/\(AT.al i10.2.2).1=i6/\(AT.al i10.2.2).2.1=length x13.2.2/\(AT.al i10.2.2).2.2=i8/\AT.it i10.2.2=0/\(AT.sy i10.2.2).1=noA/\(AT.sy i10.2.2).2.1=0/\(AT.sy i10.2.2).2.2=0/\AT.hd i10.2.2=false/\AT.df i10.2.2=mkS []/\AT.sz i10.2.2=0/\(AT.f i10.2.2).1=noA/\(AT.f i10.2.2).2.1=0/\(AT.f i10.2.2).2.2=0/\(AT.br i10.2.2).1=noA/\(AT.br i10.2.2).2.1=0/\(AT.br i10.2.2).2.2=0/\length i10.1=length x1/\i10.2.1=x3/\z00 AT.cells i10.1=z00 AT.cells x14/\True/\Ji (x15=9) (∃(i11:FdS),GJ.k i11.2.2.1=GJ.k x4/\GJ.n i11.2.2.1=GJ.n x4/\GJ.s i11.2.2.1=GJ.s x4/\(GJ.y i11.2.2.1).1=(GJ.y x4).1/\(GJ.y i11.2.2.1).2.1=(GJ.y x4).2.1/\(GJ.y i11.2.2.1).2.2=(GJ.y x4).2.2/\(GJ.x i11.2.2.1).1=(GJ.x x4).1/\(GJ.x i11.2.2.1).2.1=(GJ.x x4).2.1/\(GJ.x i11.2.2.1).2.2=(GJ.x x4).2.2/\i11.2.2.2.1=adR i10.1/\i11.2.2.2.2.1=z4r (z22 x0 x2) (size (z22 x0 x2))/\i11.2.2.2.2.2=x7/\length i11.1=length (adS i10.1 i10.2.2)/\i11.2.1=adE i10.1 i10.2.1/\z00 AT.cells i11.1=z00 AT.cells (adS i10.1 i10.2.2)/\(ztd i11<x12+1/\length i11.1<=60/\GJ.wf i11.2.2.1/\0<=i11.2.2.2.1/\(i11.2.1=0->i11.2.2.2.1<(↑(length i11.1):Int))/\1<=i11.2.2.2.2.2/\i11.2.2.2.2.2<=20/\(↑(size i11.2.2.2.2.1):Int)<=1100*(i11.2.2.2.2.2+1))/\(∀i12,z3b x4 x8 x9 x10 x11 i8 x13 i6 i12->GJ.ok i11.2.2.1 i12)/\∀(i13:FdB),length (i11.1++i13.1)<=60/\(i13.2.1=0->zxm i11 i13)->(∃i16,(z3b x4 x8 x9 x10 x11 i8 x13 i6 i16)/\zq2 i16 i13)->∃(i19:TmB),i19.2.2=adR i10.1/\length (x1++i19.1)=length ((if i13.2.1=0 then z74 i11.1 i11.2.2.2.1 i13.2.2.1 i13.2.2.2 else i11.1)++i13.1)/\i19.2.1=i13.2.1/\z00 AT.cells (x1++i19.1)=z00 AT.cells ((if i13.2.1=0 then z74 i11.1 i11.2.2.2.1 i13.2.2.1 i13.2.2.2 else i11.1)++i13.1)/\z0d (x1,x6,x4,x5,x7) i19/\(∀i20,((z3b x4 x8 x9 x10 x11 i8 x13 i6 i20)/\zq2 i20 i13)->z6j i20 i19)/\True) (j89 x1 x15 x4 x5 x6 x7 x8 x9 x10 x11 i8 x13 i10 i6))
 def zq0:=∃(i0:List AT),z7l x0 x2/\z5n i0 x1/\x13.2.1=x13.2.1/\z00 AT.cells i0=z00 AT.cells x11.1/\length i0<1000/\(Ji (x13.2.1=0) (j88 x0 i0 x2 x3 x4 x6 x7 x8 x9 x10 x11 x13 x1) (j2p x0 x1 x2 x3 x4 x6 x7 x8 x9 x10 x11 x13 i0))/\∀(i1:Int),(i1=0->x7=0)->j87 x0 x1 x2 i1 x4 x5 x7 x6 x8 x9 x10 x11 x12 x13 i0 x3
 def j8b:=Ji (x13.2.1=0) (j8c x0 x1 x2 x3 x4 x6 x7 x8 x9 x10 x11 x13) (zq0 x0 x1 x2 x3 x4 x5 x6 x7 x8 x9 x10 x11 x12 x13)
 def j86:=Ji ((↑x13.1:Int)<(↑x8:Int)) (j8b x0 x1 x2 x3 x4 x5 x6 x7 x8 x9 x10 x11 x12 x13) (zq0 x0 x1 x2 x3 x4 x5 x6 x7 x8 x9 x10 x11 x12 x13)
 def j85:=(∃(i0:NlS),zaw x0 x2/\x9=x9/\x8=x8/\x10=x10/\(↑i0.1:Int)=0/\x3=x3/\x6=x6/\length x1=length x11.1/\i0.2.1=(z1l x11.2.2.1 x11.2.2.2 x11.2.1).2.2/\x3=x3/\z7l x0 x2/\length i0.2.2=0/\z00 AT.cells x11.1=z00 AT.cells x11.1/\z6i x4 (zf3 x4 x8 x9 x10 x11/\(zj8 x7 i0)/\True))/\∀(i2:NlS),zj8 x7 i2->j86 x0 x1 x2 x3 x4 x5 x6 x7 x8 x9 x10 x11 x12 i2
 def j84:=((!decide (x0.1=0))=true->∃(i0:TmB),i0.2.2=0/\length (x1++i0.1)=length x1/\i0.2.1=x0.1/\z00 AT.cells (x1++i0.1)=z00 AT.cells x2.1/\z0d (x1,x3,x4,x5,x6) i0/\(∀i1,True/\GJ.ok x4 i1->z6j i1 i0)/\True)/\((!decide (x0.1=0))=false->∃(i3:List AT),(z17 x2).1=(z17 x2).1/\x0.2=x0.2/\z5n i3 x1/\x0.1=x0.1/\z00 AT.cells i3=z00 AT.cells x2.1/\(size (z17 x2).1<10000/\size x0.2<50000)/\z7l x0 x2/\size (z22 x0 x2)<1000000/\∃(i4:List AT×Int×GJ×ByteArray),GJ.k i4.2.2.1=GJ.k x4/\GJ.n i4.2.2.1=GJ.n x4/\GJ.s i4.2.2.1=GJ.s x4/\(GJ.y i4.2.2.1).1=(GJ.y x4).1/\(GJ.y i4.2.2.1).2.1=(GJ.y x4).2.1/\(GJ.y i4.2.2.1).2.2=(GJ.y x4).2.2/\(GJ.x i4.2.2.1).1=(GJ.x x4).1/\(GJ.x i4.2.2.1).2.1=(GJ.x x4).2.1/\(GJ.x i4.2.2.1).2.2=(GJ.x x4).2.2/\i4.2.2.2=mkS [97,108,105,97,115,101,115]/\length i4.1=length i3/\i4.2.1=whE (z17 x2).1 x0.2 x0.1/\z00 AT.cells i4.1=z00 AT.cells i3/\GJ.wf i4.2.2.1/\(∀i5,True/\GJ.ok x4 i5->GJ.ok i4.2.2.1 i5)/\∀(i6:Unit),True->∀(i7:Option Addr) (i8 i9:Nat),(∃i10,z7k x4 i8 i7 i9 i4 i10)->j85 x0 x1 x2 x7 x4 x5 x6 x3 i8 i7 i9 i4 x8)
end
def zab(n:Nat) (S:List AT) (e:Int) (g:GJ) (k:Int) (sp:ByteArray) (d:Int):qm3 P (qh2 [(28,z45),(50,z61),(51,z51),(52,z4s),(53,z4j),(47,zbi),(31,zt8),(25,z1j)]) (qi5 [(54,z3j.below ztd (n+1)),(55,zg0)]) Try.f29 (z4w.below ztg (n+1)) (ze6) ⟨S,e,g,k,sp,d⟩=(ztg (S,e,g,k,sp,d)<n+1/\z2q (S,e,g,sp,d)/\d<=20/\(k=9\/k=10\/k=11)->(∃(p:Pub),True/\GJ.ok g p)->∃(s:List AT×Int×GJ×ByteArray×Bool),GJ.k s.2.2.1=GJ.k g/\GJ.n s.2.2.1=GJ.n g/\GJ.s s.2.2.1=GJ.s g/\(GJ.y s.2.2.1).1=(GJ.y g).1/\(GJ.y s.2.2.1).2.1=(GJ.y g).2.1/\(GJ.y s.2.2.1).2.2=(GJ.y g).2.2/\(GJ.x s.2.2.1).1=(GJ.x g).1/\(GJ.x s.2.2.1).2.1=(GJ.x g).2.1/\(GJ.x s.2.2.1).2.2=(GJ.x g).2.2/\s.2.2.2.1=mkS [110,97,109,101]/\s.2.2.2.2=true/\length s.1=length S/\s.2.1=e/\z00 AT.cells s.1=z00 AT.cells S/\GJ.wf s.2.2.1/\(∀(p:Pub),True/\GJ.ok g p->GJ.ok s.2.2.1 p)/\∃(s_1:GJ×ByteArray),zpz g s_1 (s_1.2=mkS [110,97,109,101,115,112,97,99,101]/\GJ.wf s_1.1/\(∀(p:Pub),True/\GJ.ok g p->GJ.ok s_1.1 p)/\((Option.isSome (z0c s_1.2 s_1.1)=true->zxg S s k g d e s_1)/\(Option.isSome (z0c s_1.2 s_1.1)=false->zxl S s k g sp d e))/\∀(s_2:Int×ByteArray),(s_2.1=0->e=0)/\(↑(size s_2.2):Int)<=1100*d->j84 s_2 S s e g sp d k n)):=by kernel_rfl
def zcu:=λn S e g k sp d=>Eq.trans (zab n S e g k sp d) (by delta Ji Jb Jt Jf zpz z3c zf4 z17 z5n z6i zj9 zq1 zxk zxg zxl z6j z7l z22 z7k zaw zf3 zj8 j8c j2p j88 z3b zxn zxm zq2 zxo zq3 zf2 zq4 zxj zxi zxh zxf j8a j89 j87 zq0 j8b j86 j85 j84;exact rfl)
def zth(k:Int) (W:ByteArray) (al:SV) (als:List ByteArray):AT:=⟨k,W,al,als,0,(none,0,0),[],false,mkS [],0,(none,0,0),[],(none,0,0),[]⟩
def znd{k:Int} {W:ByteArray} {al:SV} {als:List ByteArray} {p:Pub} (h:slP txV al als p):(zth k W al als).ok p:=⟨h,z06,z06,z06,λf hf=>(by cases hf)⟩
def z97(S:List AT) (t u:AT):(S++[t]).set S.length u=S++[u]:=by
 induction S with
 |nil=>rfl
 |cons a S ih=>rw[List.cons_append,List.length_cons,List.set_cons_succ,ih];rfl
def z8r(S:List AT) (t:AT):(S++[t])[S.length]? =some t:=by
 rw[List.getElem?_append_right (Nat.le_refl _),Nat.sub_self];rfl
def zc3(S:List AT) (t:AT) (x:SV) (l:List AF):z74 (S++[t]) (S.length:Int) x l=S++[{t with f:=x,fs:=l}]:=by
 unfold z74;rw[Int.toNat_natCast,z8r];exact z97 _ _ _
def zdg(S:List AT) (t:AT) (y:SV) (l:List ByteArray) (hd:Bool) (df:ByteArray):zht (S++[t]) (S.length:Int) y l hd df=S++[{t with sy:=y,sys:=l,hd:=hd,df:=df}]:=by
 unfold zht;rw[Int.toNat_natCast,z8r];exact z97 _ _ _
def zv2(S:List AT) (t:AT) (r:Int):z00 AT.cells (S++[{t with sz:=r}])=spl (z00 AT.cells (S++[t])) (0+S.length*10+7) [.int .i64 r]:=by
 rw[z05,z05,z14,z14,Nat.zero_add,←z01 z1c S]
 show _=(z00 AT.cells S++(t.cells++z00 AT.cells [])).set ((z00 AT.cells S).length+7) (.int .i64 r)
 rw[z2p]
 rfl
def z5z{s:ByteArray}:∀i,i<=s.size->(z4r s i).size<=s.size
  |0,_=>Nat.zero_le _
  | i+1,h=>by
    rw[z4r]
    split
    · rw[ByteArray.size_extract];omega
    · exact z5z i (by omega)
def zvp{a b:ByteArray} {e:Int}:whE a b e=0->e=0:=by
 unfold whE
 split
 ·exactλh=>(z2m (by decide) h).elim
 ·exactλh=>h
def zcv (n:Nat) (hf:q22 P 54 (z3j.below ztd (n+1))):q22 P 29 (z4w.below ztg (n+1)):=by
 refine qlb mixed (qee (qih z27 (qih z5f (qih zeb (qih zbf (qih z5b (qih z8l (qih z4q (qih z0z qlq))))))))) (qf7 (qig hf (qig zo5 qlp))) (W:=ze6) Try.func29 (by kernel_rfl) (show 1<=4 by decide) (show 4<=6 by decide) (λs=>by kernel_rfl) λ⟨S,(e:Int),g,(k:Int),sp,(d:Int)⟩=>(zcu n S e g k sp d).mpr ?_
 rintro⟨hmu,⟨hS,hg,hd1,hd2,hsp⟩,hd3,hk⟩ ⟨p,_,hp⟩
 have hmu:(25- d).toNat<n+1:=hmu
 simp only[sbS,exists_const,forall_const,Int.toNat_natCast]
 have hnm:=zlv hg (mkS [110,97,109,101]) true e
 have hwe:(woR g (mkS [110,97,109,101]) true e).2=0->e=0:=zog
 obtain⟨oww,_⟩:=z12 (mkS [110,97,109,101,115,112,97,99,101]) hg
 have osz:((z0c (mkS [110,97,109,101,115,112,97,99,101]) g).getD zJ).s.size<1000:=by rw[GJ.wf_eq]at oww;exact oww.1
 have bad0:∀k:Int,k≠0->z0d (S,e,g,sp,d) ([],k,0):=λk hk=>⟨⟨by rw[List.append_nil];exact hS,λh=>absurd h hk⟩,λh=>absurd h hk⟩
 refine⟨⟨S,e,g,mkS [110,97,109,101],true⟩,rfl,rfl,rfl,rfl,rfl,rfl,rfl,rfl,rfl,rfl,rfl,rfl,rfl,rfl,hg,λq hq=>hq,⟨g,mkS [110,97,109,101,115,112,97,99,101]⟩,rfl,rfl,rfl,rfl,rfl,rfl,rfl,rfl,rfl,rfl,hg,λq hq=>hq,?_⟩
 simp only
 clear oww
 generalize (z0c (mkS [110,97,109,101,115,112,97,99,101]) g).getD zJ=ow at*
 generalize woR g (mkS [110,97,109,101]) true e=W at*
 refine⟨⟨λ_=>⟨λ_=>⟨S,rfl,rfl,rfl,rfl,λh=>(z2m (by decide) h).elim,by omega⟩,λ_=>⟨trivial,hwe,by omega⟩⟩,λ_=>⟨trivial,hwe,hsp⟩⟩,?_⟩
 rintro⟨e2,sp2⟩ ⟨h2,hsp2⟩
 simp only at h2 hsp2⊢
 refine⟨λhne=>⟨⟨[],e2,0⟩,rfl,by rw[List.append_nil],rfl,by rw[List.append_nil],bad0 _ hne,λq _ a ha=>(by cases ha)⟩,λhe2=> ?_⟩
 have hws:=z3y (a:=W.1) (b:=sp2)
 have hbs:=z5z (s:=z13 W.1 sp2) _ (Nat.le_refl _)
 refine⟨S,rfl,rfl,⟨by omega,by omega⟩,by omega,⟨S,whE W.1 sp2 e2,g,mkS [97,108,105,97,115,101,115]⟩,rfl,rfl,rfl,rfl,rfl,rfl,rfl,rfl,rfl,rfl,rfl,rfl,rfl,hg,λq hq=>hq,?_⟩
 have hsz:∀x∈(z1l g (mkS [97,108,105,97,115,101,115]) (whE W.1 sp2 e2)).1,x.size<1000:=z5d hg
 have hLl:(z1l g (mkS [97,108,105,97,115,101,115]) (whE W.1 sp2 e2)).1.length<1000:=z5c hg
 have hE:(z1l g (mkS [97,108,105,97,115,101,115]) (whE W.1 sp2 e2)).2.2=0->e=0:=λh=>h2 (zvp (zdr h))
 simp only
 generalize z1l g (mkS [97,108,105,97,115,101,115]) (whE W.1 sp2 e2)=F at*
 generalize z13 W.1 sp2=N at*
 generalize z4r N N.size=sp3 at*
 rintro a m c ⟨p1,hp1,hl1⟩
 have hm:m=F.1.length:=hl1.1
 subst hm
 have hat2:=λ(k:Nat) (hk:k<F.1.length) (q:Pub) (hq:slP txV (a,F.1.length,c) F.1 q)=>(show a≠noA/\q3p q (adr a (k*1)) [.string F.1[k]]from z0w z0t (by decide) hq hk)
 refine⟨⟨⟨0,F.2.2,[]⟩,rfl,trivial,rfl,rfl,by show((0:Nat):Int)<=1000;omega,Nat.le_refl _,hE⟩,?_⟩
 rintro⟨x,e4,acc⟩ ⟨hx0,hacc,h4⟩
 simp only at hx0 hacc h4⊢
 refine⟨λhx=>⟨λh0=>⟨⟨by omega,by omega⟩,(hat2 x (by omega) p1 hl1).1,F.1[x]'(by omega),λq hq=>(hat2 x (by omega) q hq.2).2,S,rfl,rfl,⟨by have:=hsz _ (List.getElem_mem (show x<F.1.length by omega));omega,by omega⟩,z01 z0t acc,by omega,⟨by omega,by omega⟩,⟨x+1,whE (F.1[x]'(by omega)) sp3 e4,acc++[z13 (F.1[x]'(by omega)) sp3]⟩,by show((x+1:Nat):Int)=_;omega,rfl,rfl,by simp,rfl,by rw[z05];rfl,⟨by show((x+1:Nat):Int)<=1000;omega,by show(acc++[_]).length<=x+1;simp;omega,λh=>h4 (zvp h)⟩,by show 1000- (x+1)<1000- x;omega⟩,λh0=> ?xa⟩,λhx=> ?xb⟩
 case xa | xb=>
  refine⟨S,rfl,rfl,by omega,⟨⟨λ_=>⟨λ_=>⟨S,rfl,rfl,rfl,rfl,λh=>(z2m (by decide) h).elim⟩,λ_=>⟨rfl,h4⟩⟩,λ_=>⟨rfl,h4⟩⟩,?_⟩⟩
  intro e5 h5
  refine⟨λhne=>⟨⟨[],e5,0⟩,rfl,by rw[List.append_nil],rfl,by rw[List.append_nil],bad0 _ hne,λq _ a ha=>(by cases ha)⟩,λhe5=> ?_⟩
  intro a7 c1 _
  have e0:=h5 he5
  have hal:∀q,(acc.length<=c1/\qik q a7 (List.take (acc.length*1) (z00 txV acc)))->slP txV (a7,acc.length,c1) acc q:=λq hq=>by
   refine⟨rfl,hq.1,?_⟩
   have:=hq.2
   rw[List.take_of_length_le (by rw[z01 z0t];exact Nat.le_refl _)]at this
   exact this
  refine⟨⟨S,e5,zth k N (a7,acc.length,c1) acc⟩,rfl,rfl,rfl,rfl,rfl,rfl,rfl,rfl,rfl,rfl,rfl,rfl,rfl,rfl,rfl,rfl,rfl,rfl,rfl,rfl,rfl,?_⟩
  have hto:∀q,slP txV (a7,acc.length,c1) acc q->(zth k N (a7,acc.length,c1) acc).ok q:=λq h=>znd h
  have htk:(zth k N (a7,acc.length,c1) acc).k=k:=rfl
  have hte:zth k N (a7,acc.length,c1) acc=⟨k,N,(a7,acc.length,c1),acc,0,(none,0,0),[],false,mkS [],0,(none,0,0),[],(none,0,0),[]⟩:=rfl
  simp only
  generalize zth k N (a7,acc.length,c1) acc=t at*
  have adl:=zbd S t hS
  have adok:∀q,slP txV (a7,acc.length,c1) acc q->∀a∈adT S t,a.ok q:=λq hq a ha=>by
   unfold adT at ha
   split at ha
   ·cases ha
   ·simp at ha;subst ha;exact hto q hq
  have hR0:0<=adR S:=by unfold adR;split<;>omega
  have hgood:adE S e5=0->S.length<60/\adS S t=S++[t]/\adR S=S.length:=λh=>by
   have hl:S.length<60:=by
    by_cases hl:60<=S.length
    ·exact absurd h (zbc hl)
    ·omega
   exact⟨hl,by unfold adS;rw[if_neg (by omega)],by unfold adR;rw[if_neg (by omega)]⟩
  have hbad:∀e6:Int,e6≠0->z0d (S,e,g,sp,d) (adT S t,e6,0):=λe6 h6=>⟨⟨adl,λh=>absurd h h6⟩,λh=>absurd h h6⟩
  refine⟨λh9=> ?_,λh9=>⟨λh10=> ?_,λh10=> ?_⟩⟩
  ·refine ⟨⟨adS S t,adE S e5,g,adR S,sp3,d⟩,rfl,rfl,rfl,rfl,rfl,rfl,rfl,rfl,rfl,rfl,rfl,rfl,rfl,rfl,rfl,⟨hmu,by rw[z0r];exact adl,hg,hR0,λh=> ?_,hd1,hd3,by show(sp3.size:Int)<=1100*(d+1);omega⟩,λq hq=>hq.1.1,?_⟩
   ·obtain⟨hl,q2,q3⟩:=hgood h
    show adR S<((adS S t).length:Int)
    rw[q2,q3];simp;omega
   ·rintro⟨T,e6,x,fs⟩ ⟨hT,hT2⟩ ⟨p3,_,hTok,hsl,hfok⟩
    simp only at hT hT2 hTok hsl hfok⊢
    by_cases h6:e6=0
    ·obtain⟨ha0,hTg,hfg,hf30⟩:=hT2 h6
     obtain⟨hl,q2,q3⟩:=hgood ha0
     rw[q2]at hT hTg hfg
     rw[if_pos h6,q2,q3,zc3,List.append_assoc]
     have hlen:∀u:AT,(S++(u::T)).length=S.length+T.length+1:=λu=>by simp;omega
     have hlen2:(S++[t]++T).length=S.length+T.length+1:=by simp;omega
     refine⟨⟨{t with f:=x,fs:=fs}::T,e6,S.length⟩,rfl,rfl,rfl,rfl,⟨⟨by rw[hlen];omega,λ_=>⟨e0,λy hy=> ?_⟩⟩,λ_=>⟨by show 0<=(S.length:Int);omega,by show(S.length:Int)<((S++_::T).length:Int);rw[hlen];omega⟩⟩,λq hq y hy=> ?_⟩
     ·rw[hlen]
      rw[hlen2]at hTg hfg
      rcases List.mem_cons.1 hy with rfl|hy
      ·subst hte
       exact⟨by show 1<=k/\k<=14;omega,λh=>(by have h:k=12\/k=13:=h;omega),λb hb=>(by cases hb),λh=>(by have h:k=14:=h;omega),hfg,λh=>(by have h:k=10:=h;omega),λh=>(by have h:k=11:=h;omega),hf30,Nat.zero_le _,Nat.zero_le _⟩
      ·exact hTg y hy
     ·rcases List.mem_cons.1 hy with rfl|hy
      ·have ho:=hto q (hal q hq.1.2)
       exact⟨ho.1,ho.2.1,hq.2.2.1,ho.2.2.2.1,hq.2.2.2⟩
      ·exact hq.2.1 y hy
    ·rw[if_neg h6]
     refine⟨⟨adT S t++T,e6,adR S⟩,rfl,by rw[z0r,List.append_assoc],rfl,by rw[z0r,List.append_assoc],⟨⟨by rw[←List.append_assoc,←z0r];exact hT,λh=>absurd h h6⟩,λh=>absurd h h6⟩,λq hq y hy=>(List.mem_append.1 hy).elim (adok q (hal q hq.1.2) y) (hq.2.1 y)⟩
  ·refine⟨⟨adS S t,adE S e5,g,adR S⟩,rfl,rfl,rfl,rfl,rfl,rfl,rfl,rfl,rfl,rfl,rfl,rfl,rfl,⟨by rw[z0r];exact adl,hg,hR0,λh=> ?_⟩,λq hq=>hq.1.1,?_⟩
   ·obtain⟨hl,q2,q3⟩:=hgood h
    show adR S<((adS S t).length:Int)
    rw[q2,q3];simp;omega
   ·rintro⟨e6,y,l,hd,df⟩ hT2 ⟨p3,_,hsl⟩
    simp only at hT2 hsl⊢
    by_cases h6:e6=0
    ·obtain⟨ha0,hl0,hl30⟩:=hT2 h6
     obtain⟨hl,q2,q3⟩:=hgood ha0
     rw[if_pos h6,q2,q3,zdg]
     refine⟨⟨[{t with sy:=y,sys:=l,hd:=hd,df:=df}],e6,S.length⟩,rfl,rfl,rfl,rfl,⟨⟨by simp;omega,λ_=>⟨e0,λz hz=> ?_⟩⟩,λ_=>⟨by show 0<=(S.length:Int);omega,by simp;omega⟩⟩,λq hq z hz=> ?_⟩
     ·simp at hz;subst hz;subst hte
      exact⟨by show 1<=k/\k<=14;omega,λh=>(by have h:k=12\/k=13:=h;omega),λb hb=>(by cases hb),λh=>(by have h:k=14:=h;omega),λf hf=>(by cases hf),λ_=>hl0,λh=>(by have h:k=11:=h;omega),Nat.zero_le _,Nat.zero_le _,hl30⟩
     ·simp at hz;subst hz
      have ho:=hto q (hal q hq.1.2)
      exact⟨ho.1,hq.2,ho.2.2.1,ho.2.2.2.1,ho.2.2.2.2⟩
    ·rw[if_neg h6]
     refine⟨⟨adT S t,e6,adR S⟩,rfl,by rw[z0r],rfl,by rw[z0r],⟨⟨adl,λh=>absurd h h6⟩,λh=>absurd h h6⟩,λq hq y hy=>adok q (hal q hq.1.2) y hy⟩
  ·obtain⟨zw,_⟩:=z12 (mkS [115,105,122,101]) hg
   refine⟨⟨g,mkS [115,105,122,101]⟩,rfl,rfl,rfl,rfl,rfl,rfl,rfl,rfl,rfl,rfl,hg,λq hq=>hq.1.1,?_⟩
   simp only
   have hbd:∀k:Int,k≠0->∃b:List AT,b.length=(adS S t).length/\z00 AT.cells b=z00 AT.cells (adS S t)/\∃b_2:TmB,b_2.2.2=0/\(S++b_2.1).length=b.length/\b_2.2.1=faE (adE S e5) k/\z00 AT.cells (S++b_2.1)=z00 AT.cells b/\z0d (S,e,g,sp,d) b_2/\∀q,((g.ok q/\slP txV (a,F.1.length,c) F.1 q)/\acc.length<=c1/\qik q a7 (List.take (acc.length*1) (z00 txV acc)))->∀y∈b_2.1,y.ok q:=λk hk=>⟨adS S t,rfl,rfl,⟨adT S t,faE (adE S e5) k,0⟩,rfl,by rw[z0r],rfl,by rw[z0r],hbad _ (z0j hk),λq hq=>adok q (hal q hq.2)⟩
   generalize (z0c (mkS [115,105,122,101]) g).getD zJ=zs at*
   refine⟨λ_=>hbd 2 (by decide),λ_=>⟨λ_=>hbd 2 (by decide),λ_=>⟨λ_=>hbd 6 (by decide),λz0=>⟨λ_=>hbd 6 (by decide),λz1=>⟨λha0=> ?_,λha0=>⟨⟨adT S t,adE S e5,adR S⟩,rfl,by rw[z0r],rfl,by rw[z0r],⟨⟨adl,λh=>absurd h ha0⟩,λh=>absurd h ha0⟩,λq hq=>adok q (hal q hq.2)⟩⟩⟩⟩⟩⟩
   clear hbd
   obtain⟨hl,q2,q3⟩:=hgood ha0
   rw[q2,q3,Int.toNat_natCast]
   have hlen:∀u:AT,(S++[u]).length=S.length+1:=λu=>by simp
   refine⟨⟨by omega,by rw[hlen];omega⟩,by rw[z01 z1c,hlen];show 0+S.length*10+7+1<=_;omega,⟨[{t with sz:=zs.n}],adE S e5,S.length⟩,rfl,by show(S++[_]).length=_;rw[hlen,hlen],rfl,zv2 S t zs.n,⟨⟨by rw[hlen];omega,λ_=>⟨e0,λz hz=> ?_⟩⟩,λ_=>⟨by show 0<=(S.length:Int);omega,by rw[hlen];show(S.length:Int)<_;omega⟩⟩,λq hq z hz=> ?_⟩
   ·simp at hz;subst hz;subst hte
    exact⟨by show 1<=k/\k<=14;omega,λh=>(by have h:k=12\/k=13:=h;omega),λb hb=>(by cases hb),λh=>(by have h:k=14:=h;omega),λf hf=>(by cases hf),λh=>(by have h:k=10:=h;omega),λ_=>⟨by show 0<=zs.n;omega,by show zs.n<=5000;omega⟩,Nat.zero_le _,Nat.zero_le _,Nat.zero_le _⟩
   ·simp at hz;subst hz
    have ho:=hto q (hal q hq.2)
    exact⟨ho.1,ho.2.1,ho.2.2.1,ho.2.2.2.1,ho.2.2.2.2⟩
def vM(v:GV):PF:=⟨true,v.ok,λ_ _ h e=>GV.ok_mono h e⟩
def svM(S:List AT) (x:SV) (v:GV):PF:=⟨true,λp=>z0a S x p/\v.ok p,λ_ _ h e=>⟨z0s h e.1,GV.ok_mono h e.2⟩⟩
def jdx(S:List AT) (x:SV) (a:AT) (v:GV):PF:=⟨true,λp=>z0a S x p/\a.ok p/\v.ok p,λ_ _ h e=>⟨z0s h e.1,AT.ok_mono h e.2.1,GV.ok_mono h e.2.2⟩⟩
def vwM(v w:GV):PF:=⟨true,λp=>v.ok p/\w.ok p,λ_ _ h e=>⟨GV.ok_mono h e.1,GV.ok_mono h e.2⟩⟩
abbrev scA(x:SV):AV:= .agg [svA x]
def ctP(σ:Type) (args:σ->List AV) (pre:σ->Prop) (mem:σ->PF) (r:σ->AV):Ct where
 σ:=σ
 args:=args
 h:=λ_=>[]
 m:=1
 pre:=pre
 mem:=mem
 r:=r
 h':=λ_=>[]
 m':=1
 g:=λ_=>none
abbrev FpS:=List AT×SV×AT×GV
abbrev FtS:=List AT×SV×Int×GV
def swc(f:Int->Bool) (i k:Nat) (keep:List Nat) (t:T AV):Option LT:=match slI t k with
 |some a=>some {σ:=Unit,t:=λ_=>[(i, .sv (.bool (f a)))],h:=λ_=>[],more:=0,μ:=λ_=>0,keep:=keep}
 |none=>none
def zna:GV×GV->Nat:=λ⟨v,w⟩=>SizeOf.sizeOf v
section
def zei(n:Int):IntKind.wrap .u64 n=n % 18446744073709551616:=by
 simp[IntKind.wrap,IntKind.bits,IntKind.signed]
variable {ks:List ByteArray} {p:Pub}
def zoa{y:SV} (h:slP txV y ks p) {i:Nat} (hi:i<ks.length):y.1≠noA/\q3p p (adr y.1 (i*1)) [.string ks[i]]:=z0w z0t (by decide) h hi
variable {j:Nat}
def zcl(h:j+1<ks.length):z2i (ks.drop j)=(vld (ks[j]'(by omega))&&qfa (ks[j]'(by omega)) ks[j+1]&&z2i (ks.drop (j+1))):=by
 rw[List.drop_eq_getElem_cons (by omega),List.drop_eq_getElem_cons h,z2i]
def z8u:∀{ks:List ByteArray} {i:Nat} (hi:i<ks.length),vld ks[i]=false->z2i ks=false
 | [k],0,_,h=>by rw[z2i];exact h
 |k::j::l,0,_,h=>by rw[z2i];simp at h;rw[h];rfl
 |k::j::l,i+1,hi,h=>by rw[z2i,z8u (ks:=j::l) (i:=i) (by simpa using hi) (by simpa using h),Bool.and_false]
def zai:∀{l m:List PV} {j:Nat} (h1:j<l.length) (h2:j<m.length),PV.sames (l.drop j) (m.drop j)=(PV.same l[j] m[j]&&PV.sames (l.drop (j+1)) (m.drop (j+1))):=λ{l m j} h1 h2=>by
 rw[List.drop_eq_getElem_cons h1,List.drop_eq_getElem_cons h2,PV.sames]
def z6b:∀{l m:List PV},l.length≠m.length->PV.sames l m=false
 | [],[],h=>absurd rfl h
 | [],_::_,h=>by rw[PV.sames]<;>simp
 |_::_,[],h=>by rw[PV.sames]<;>simp
 |v::l,w::m,h=>by rw[PV.sames,z6b (l:=l) (m:=m) (by simpa using h),Bool.and_false]
variable {l:List GV}
def z93(h:j<l.length):(GV.pvs l)[j]'(by rw[GV.pvs_len];exact h)=(l[j]).pv:=by simp[GV.pvs_map]
def zdd(h:j<l.length):SizeOf.sizeOf l[j]<SizeOf.sizeOf l:=List.sizeOf_lt_of_mem (List.getElem_mem h)
mutual
def z6a:∀v:PV,PV.same v v=true
 | .mk n s l ks b=>by rw[PV.same,sames_refl l];simp
def sames_refl:∀l:List PV,PV.sames l l=true
 | []=>by rw[PV.sames]
 |v::l=>by rw[PV.sames,z6a v,sames_refl l];rfl
end
variable {S:List AT}
def zby{f:Nat->Int} {l:List PV} (h:j<l.length):PV.fitL S f j (l.drop j)=(PV.fits S (f j) l[j]&&PV.fitL S f (j+1) (l.drop (j+1))):=by
 rw[List.drop_eq_getElem_cons h,PV.fitL]
def z8o{a:AT} (h:a.ok p) {j:Nat} (hj:j<a.fs.length):a.f.1≠noA/\q3p p (adr a.f.1 (j*9)) a.fs[j].cells:=z0w z88 (by decide) h.2.2.1 hj
def z60{a:AT} (h:a.ok p) {j:Nat} (hj:j<a.brs.length):a.br.1≠noA/\q3p p (adr a.br.1 (j*1)) [.int .i64 a.brs[j]]:=z0w z8t (by decide) h.2.2.2.1 hj
def z9e{x:SV} (h:z0a S x p) {j:Nat} (hj:j<S.length):x.1≠noA/\q3p p (adr x.1 (j*10)) S[j].cells:=z0w z1c (by decide) h.1 hj
def zn7{s:ByteArray}:s=mkS []↔s.size=0:=⟨λh=>by rw[h];rfl,λh=>by
 apply ByteArray.ext
 apply Array.ext
 ·exact h
 ·intro i h1 h2;exact absurd h2 (by show¬i<0;omega)⟩
end
def z2c:∀n,q22 P 17 (z1k.below z4n n)
 |0=>CtR.below_zero (by decide) (by decide) (Sen.enters_of Try.func17 (by kernel_rfl)) λs=>rfl
 |n+1=>zi0 n (z2c n) (zdt n (z2c n)) (zcv n (za3 n (z2c n)))
def zdq:q22 P 17 z1k:=CtR.of_below z2c
def z0v(S:List AT):Prop:=S.length<=60/\∀a∈S,z1m S.length a
def zbl:CtR where
 σ:=GJ
 args:=λg=>[g.av]
 h:=λ_=>[]
 m:=1
 pre:=λg=>g.wf
 mem:=gM
 β:=λ_=>List AT×SV×Int
 post:=λg ⟨S,x,e⟩=>z0v S/\(e=0->S≠[])
 pm:=λ_ ⟨S,x,e⟩=>⟨true,z0a S x,λ_ _ h e=>z0s h e⟩
 r:=λ_ ⟨S,x,e⟩=> .tup [scA x, .sv (.int .i64 e)]
 h':=λ_ _=>[]
 m':=1
def zli:GJ->WayF:=λg=>{pubE:=[23]}
section
variable (x0:TmB) (x1:GJ) (x2:TmS) (x3:Nat->Option Obj) (x4:Nat) (x5:Option Addr)
 def j8e:=AV.sv (int i64 x0.2.1)=AV.sv (int i64 x0.2.1)/\∃(i0:List AT×(Option Addr×Nat×Nat)×Int),i0.2.1.1=noA/\i0.2.1.2.1=0/\i0.2.1.2.2=0/\i0.2.2=x0.2.1/\(z0v i0.1/\(i0.2.2=0->i0.1≠[]))/\(∀i1,((True/\GJ.ok x1 i1)/\∀(i2:AT),i2∈x0.1->AT.ok i2 i1)->z0a i0.1 i0.2.1 i1)/\True
 def j2q:=((True/\GJ.ok x1 x3)/\∀(i0:AT),i0∈x0.1->AT.ok i0 x3)/\length (x2.1++x0.1)<=x4/\qik x3 x5 (take (length (x2.1++x0.1)*nat_lit 10) (z00 AT.cells (x2.1++x0.1)))
 def j8d:=((!decide (x0.2.1=0))=true->j8e x0 x1)/\((!decide (x0.2.1=0))=false->∀(i3 i4 i5:Nat) (i6:Option Addr) (i7 i8:Nat),(∃i9,j2q x0 x1 x2 i9 i8 i6)->∃(i11:List AT×(Option Addr×Nat×Nat)×Int),i11.2.1.1=i6/\i11.2.1.2.1=length (x2.1++x0.1)/\i11.2.1.2.2=i8/\i11.2.2=0/\(z0v i11.1/\(i11.2.2=0->i11.1≠[]))/\(∀i12,j2q x0 x1 x2 i12 i8 i6->z0a i11.1 i11.2.1 i12)/\True)
end
def zc5(g:GJ):qm3 P (qh2 []) (qi5 [(17,z1k)]) Try.f10 zbl (zli) g=(GJ.wf g->(∃(p:Pub),True/\GJ.ok g p)->∃(s:TmS),GJ.k s.2.2.1=GJ.k g/\GJ.n s.2.2.1=GJ.n g/\GJ.s s.2.2.1=GJ.s g/\(GJ.y s.2.2.1).1=(GJ.y g).1/\(GJ.y s.2.2.1).2.1=(GJ.y g).2.1/\(GJ.y s.2.2.1).2.2=(GJ.y g).2.2/\(GJ.x s.2.2.1).1=(GJ.x g).1/\(GJ.x s.2.2.1).2.1=(GJ.x g).2.1/\(GJ.x s.2.2.1).2.2=(GJ.x g).2.2/\s.2.2.2.1=mkS []/\s.2.2.2.2=1/\length s.1=0/\s.2.1=0/\z2q s/\(∀(p:Pub),True/\GJ.ok g p->GJ.ok s.2.2.1 p)/\∀(b:TmB),z0d s b->(∃(p:Pub),(True/\GJ.ok g p)/\∀(a:AT),a∈b.1->AT.ok a p)->j8d b g s):=by kernel_rfl
def zgl:=λg=>Eq.trans (zc5 g) (by delta j8e j2q j8d;exact rfl)
def zgm:q22 P 10 zbl:=by
 refine qlb mixed (qee qlq) (qf7 (qig zdq qlp)) (W:=zli) Try.func10 (by kernel_rfl) (show 1<=1 by decide) (show 1<=1 by decide) (λs=>by kernel_rfl) λg=>(zgl g).mpr ?_
 rintro hg ⟨p,_,hp⟩
 simp only[sbS,exists_const,forall_const,Int.toNat_natCast]
 refine⟨⟨[],0,g,mkS [],1⟩,rfl,rfl,rfl,rfl,rfl,rfl,rfl,rfl,rfl,rfl,rfl,rfl,rfl,⟨Nat.zero_le _,hg,by decide,by decide,by show((0:Nat):Int)<=_;decide⟩,λq hq=>hq,?_⟩
 rintro⟨T,e,r⟩ ⟨⟨hT,hT2⟩,hr⟩ _
 simp only at hT hT2 hr⊢
 rw[List.nil_append]at hT hT2 hr
 refine⟨λhne=>⟨⟨[],(none,0,0),e⟩,rfl,rfl,rfl,rfl,⟨⟨Nat.zero_le _,λa ha=>(by cases ha)⟩,λh=>absurd h hne⟩,λq hq=>⟨z06,λa ha=>(by cases ha)⟩⟩,λhe=> ?_⟩
 intro a c _
 obtain⟨_,hg2⟩:=hT2 he
 refine⟨⟨T,(a,T.length,c),0⟩,rfl,rfl,rfl,rfl,⟨⟨hT,hg2⟩,λ_ h=> ?_⟩,λq hq=>⟨⟨rfl,hq.2.1,?_⟩,hq.1.2⟩⟩
 ·have h:T=[]:=h
  subst h;have:=hr he;simp at this;omega
 ·have:=hq.2.2
  rw[List.nil_append,List.take_of_length_le (by rw[z01 z1c];exact Nat.le_refl _)]at this
  exact this
end
end Go.Proofs.Ytniogjgfomaicaa.Wd
