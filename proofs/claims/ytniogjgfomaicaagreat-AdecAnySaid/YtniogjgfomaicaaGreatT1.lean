/-
  What the functions do: contracts, and their questions answered. No condition but what its theorems ask.
-/
import Derived.Test.YtniogjgfomaicaaGreatU6
import Derived.Test.YtniogjgfomaicaaGreatProg
import Derived.Test.YtniogjgfomaicaaGreatRvr
import Derived.Laws.BitsAllLaws
namespace Go.Proofs.YtniogjgfomaicaaGreat.Wd
open Go.Proofs.YtniogjgfomaicaaGreat.Eng Go.Proofs.YtniogjgfomaicaaGreat.Sen Go.RowKit
set_option linter.defProp false
set_option linter.unusedVariables false
set_option linter.unusedSimpArgs false
set_option maxRecDepth 1000000
open Go.Value (int string slice bool)
open Go.IntKind (i64 u64 u8 u32 i32)
open _root_.List (length take drop)
open _root_.ByteArray (size)
open _root_.Int (toNat)
noncomputable section
abbrev P:=Go.Proofs.Tryz.prog
def mixed:P.follows .mixedOrders=true:=by decide+kernel
theorem aok{calls:Nat->Option Ct} (hc:∀g C,calls g=some C->q5k P g C) {f:Nat} {fn:Func} {C:Ct} {W:C.σ->WayF} (hfn:P.funcs[f]? =some fn) (hv:∀s,qm2 P calls fn C W s) (hb:q2l P f fn=true:=by kernel_rfl) (h1:1<=C.m:=by exact Nat.le_of_ble_eq_true rfl) (hle:C.m<=C.m':=by exact Nat.le_of_ble_eq_true rfl) (hn:∀s,Nat.ble (C.args s).length fn.ntmps=true:=by exactλ_=>by kernel_rfl):q5k P f C:=qm5 mixed hc hfn hb h1 hle hn hv
theorem aokX{calls:Nat->Option Ct} (hc:∀g C,calls g=some C->q5k P g C) {rel:Nat->Option CtR} (hrel:∀g C,rel g=some C->q22 P g C) {f:Nat} {fn:Func} {C:Ct} {W:C.σ->WayF} (hfn:P.funcs[f]? =some fn) (hv:∀s,qm4 P calls rel fn C W s) (hb:q2l P f fn=true:=by kernel_rfl) (h1:1<=C.m:=by exact Nat.le_of_ble_eq_true rfl) (hle:C.m<=C.m':=by exact Nat.le_of_ble_eq_true rfl) (hn:∀s,Nat.ble (C.args s).length fn.ntmps=true:=by exactλ_=>by kernel_rfl):q5k P f C:=qlc mixed hc hrel hfn hb h1 hle hn hv
theorem aokR{calls:Nat->Option Ct} (hc:∀g C,calls g=some C->q5k P g C) {rel:Nat->Option CtR} (hrel:∀g C,rel g=some C->q22 P g C) {f:Nat} {fn:Func} {C:CtR} {W:C.σ->WayF} (hfn:P.funcs[f]? =some fn) (hv:∀s,qm3 P calls rel fn C W s) (hb:q2l P f fn=true:=by kernel_rfl) (h1:1<=C.m:=by exact Nat.le_of_ble_eq_true rfl) (hle:C.m<=C.m':=by exact Nat.le_of_ble_eq_true rfl) (hn:∀s,Nat.ble (C.args s).length fn.ntmps=true:=by exactλ_=>by kernel_rfl):q22 P f C:=qlb mixed hc hrel hfn hb h1 hle hn hv
theorem sbS:(∀(p:Prop) [Decidable p],(decide p=true)=p)/\(∀(p:Prop) [Decidable p],(decide p=false)=¬p)/\(∀b:Bool,((!b)=true)=(b=false))/\(∀b:Bool,((!b)=false)=(b=true))/\(∀p,(True/\p)=p)/\(∀p,(p/\True)=p)/\(∀(α:Type) (a:α),(a=a)=True)/\(∀p:Prop,(p->p)=True)/\(∀α:Type,(α->True)=True)/\(∀p:Prop,(p->True)=True):=⟨λ_ _=>by simp,λ_ _=>by simp,by simp,by simp,by simp,by simp,by simp,by simp,by simp,by simp⟩
abbrev Jb(a:Int):Prop:=(-9223372036854775808:Int)<=a/\a<=9223372036854775807
abbrev Jt(p:Prop) [Decidable p]:Prop:=decide p=true
abbrev Jf(p:Prop) [Decidable p]:Prop:=decide p=false
abbrev Ji(p:Prop) [Decidable p] (a b:Prop):Prop:=(Jt p->a)/\(Jf p->b)
def z0p:∀g C,(λ_=>none:Nat->Option Ct) g=some C->q5k P g C:=λg C h=>by cases h
def slI(t:T AV) (k:Nat):Option Int:=match t.get k with
  | some a=>match gi a with
    |some (_,i)=>some i
    |none=>none
  |none=>none
def zbq:Pl noA:=trivial
def z00{α:Type} (f:α->List Value):List α->List Value
 | []=>[]
 |x::l=>f x++z00 f l
def z01{α:Type} {f:α->List Value} {e:Nat} (hf:∀x,(f x).length=e):∀l,(z00 f l).length=l.length*e
  | []=>by simp[z00]
  | x::l=>by
    rw[z00,List.length_append,hf,z01 hf l,List.length_cons,Nat.succ_mul];omega
def z04{α:Type} {f:α->List Value}:∀l m,z00 f (l++m)=z00 f l++z00 f m
  | [],m=>rfl
  | x::l,m=>by
    show f x++z00 f (l++m)=_
    rw[z04 l m,←List.append_assoc];rfl
def z20{α:Type} {f:α->List Value} {e:Nat} (hf:∀x,(f x).length=e):∀(l:List α) (i:Nat) (hi:i<l.length) (j:Nat),j<e->(z00 f l)[i*e+j]? =(f l[i])[j]?
  | x::l,0,_,j,hj=>by
    show(f x++z00 f l)[0*e+j]? =_
    rw[Nat.zero_mul,Nat.zero_add,List.getElem?_append_left (by rw[hf];exact hj)];rfl
  | x::l,i+1,hi,j,hj=>by
    show(f x++z00 f l)[(i+1)*e+j]? =_
    have:(i+1)*e=i*e+e:=Nat.succ_mul i e
    rw[List.getElem?_append_right (by rw[hf];omega),show(i+1)*e+j- (f x).length=i*e+j by rw[hf];omega]
    exact z20 hf l i (by simpa using hi) j hj
def jig(x:Addr) (h:x.spot=none) (i j:Nat):(x.add i).add j=x.add (i+j):=by
 obtain⟨b,o,s⟩:=x
 simp only at h
 subst h
 unfold Addr.add
 by_cases hi:i=0
 ·subst hi;simp
 ·by_cases hj:j=0
  ·subst hj;simp[hi]
  ·rw[if_neg hi,if_neg hj,if_neg (by omega)]
   simp only[Nat.add_assoc]
def zay{α:Type} {f:α->List Value} {e:Nat} (hf:∀x,(f x).length=e) (he:0<e) {p:Pub} {a:Option Addr} {n c:Nat} {l:List α} (h:qil p a n c (z00 f l)) {i:Nat} (hi:i<l.length):a≠noA/\q3p p (adr a (i*e)) (f l[i]):=by
 rcases h.2 with h|⟨x,rfl,h1,h2⟩
 ·have:=congrArg List.length h.1
  rw[z01 hf,List.length_nil]at this
  have:=Nat.mul_pos (show 0<l.length by omega) he
  omega
 ·refine⟨by simp,λj v hj=> ?_⟩
  have hje:j<e:=by have:=(List.getElem?_eq_some_iff.mp hj).1;rw[hf]at this;exact this
  show q6r p ((x.add (i*e)).add j)=some v
  rw[jig x h1]
  exact h2 _ v (by rw[z20 hf l i hi j hje];exact hj)
open Go.Proofs.YtniogjgfomaicaaGreat.Rv
def unz(r:Nat):Int:=if r % 2=0 then(r / 2:Nat)else -((r / 2:Nat):Int)- 1
def z7j:Ct where
 σ:=ByteArray
 args:=λs=>[.sv (.string s)]
 h:=λ_=>[]
 m:=1
 pre:=λs=>s.size<1000000
 find:=some λl _=>match l with
  | [a]=>gs a
  |_=>none
 r:=λs=> .tup [.sv (.int .u64 (vval s.data.toList:Nat)), .sv (.int .i64 (vlen s.data.toList:Nat)), .sv (.int .i64 (verr s.data.toList:Nat))]
 h':=λ_=>[]
 m':=1
 g:=λ_=>none
def zc7:Ct where
 σ:=Nat
 args:=λr=>[.sv (.int .u64 (r:Nat))]
 h:=λ_=>[]
 m:=1
 pre:=λr=>r<18446744073709551616
 r:=λr=> .sv (.int .u64 ((unz r) % 18446744073709551616))
 h':=λ_=>[]
 m':=1
 g:=λ_=>none
def zc2:Ct where
 σ:=Nat
 args:=λr=>[.int .i64 8, .sv (.int .u64 (r:Nat))]
 h:=λ_=>[]
 m:=1
 pre:=λr=>r<18446744073709551616
 r:=λr=> .sv (.int .u64 ((unz r) % 18446744073709551616))
 h':=λ_=>[]
 m':=1
 g:=λ_=>none
def dcd(x:SV) (s:ByteArray) (i c:Int):List (Nat×AO):=[(1, .cells 75 (some 0) false [.sv (.slice x.1 x.2.1 x.2.2), .sv (.string s), .sv (.int .i64 i), .sv (.int .i64 c)])]
def lgR(s:ByteArray) (i:Nat):Int×Nat×Nat:=(unz (vval (s.data.toList.drop i)),verr (s.data.toList.drop i),i+vlen (s.data.toList.drop i))
def j4o(h:T AO) (id:Nat):Option (SV×ByteArray×Int×Int):=match h.get id with
  | some (.cells _ _ _ [.sv (.slice a n c),s,i,k])=>match gs s with
    | some s=>match gi i with
      | some (_,i)=>match gi k with
        |some (_,k)=>some ((a,n,c),s,i,k)
        |none=>none
      |none=>none
    |none=>none
  |_=>none
abbrev DcS:=SV×ByteArray×Int×Int
def z93(l:List AV) (h:T AO):Option DcS:=match l with
 | .ptr id _::_=>j4o h id
 |_=>none
def z0g:DcS->Prop:=λ⟨x,s,i,c⟩=>0<=i/\i<=s.size/\s.size<100000
def zab:Ct where
 σ:=DcS
 args:=λ⟨x,s,i,c⟩=>[.ptr 1 0]
 h:=λ⟨x,s,i,c⟩=>dcd x s i c
 m:=2
 pre:=z0g
 find:=some z93
 r:=λ⟨x,s,i,c⟩=> .tup [.sv (.int .i64 (lgR s i.toNat).1), .sv (.int .i64 ((lgR s i.toNat).2.1:Nat))]
 h':=λ⟨x,s,i,c⟩=>dcd x s ((lgR s i.toNat).2.2:Nat) c
 m':=2
 g:=λ_=>none
def hdR(s:ByteArray) (i:Nat):Int×Int×Int×Nat:=
 if(lgR s i).2.1≠0\/0<=(lgR s i).1 then((lgR s i).1, -1,((lgR s i).2.1:Nat),(lgR s i).2.2)else
 if(lgR s i).1= -9223372036854775808 then(0,0,2,(lgR s i).2.2)else
 if(lgR s (lgR s i).2.2).2.1≠0 then(0,0,((lgR s (lgR s i).2.2).2.1:Nat),(lgR s (lgR s i).2.2).2.2)else
 if(lgR s (lgR s i).2.2).1<0 then(0,0,2,(lgR s (lgR s i).2.2).2.2)else
 (-(lgR s i).1,(((lgR s (lgR s i).2.2).2.2:Nat):Int)+(if(9223372036854775807:Int)- (((lgR s (lgR s i).2.2).2.2:Nat):Int)<(lgR s (lgR s i).2.2).1 then(9223372036854775807:Int)- (((lgR s (lgR s i).2.2).2.2:Nat):Int)else(lgR s (lgR s i).2.2).1),0,(lgR s (lgR s i).2.2).2.2)
def zns:Ct where
 σ:=DcS
 args:=λ⟨x,s,i,c⟩=>[.ptr 1 0]
 h:=λ⟨x,s,i,c⟩=>dcd x s i c
 m:=2
 pre:=z0g
 find:=some z93
 r:=λ⟨x,s,i,c⟩=> .tup [.sv (.int .i64 (hdR s i.toNat).1), .sv (.int .i64 (hdR s i.toNat).2.1), .sv (.int .i64 (hdR s i.toNat).2.2.1)]
 h':=λ⟨x,s,i,c⟩=>dcd x s ((hdR s i.toNat).2.2.2:Nat) c
 m':=2
 g:=λ_=>none
def chE(s:ByteArray) (i:Nat) (o:Int):Nat:=if(lgR s i).2.1=0/\((lgR s i).1<0\/o<=(lgR s i).1)then 2 else(lgR s i).2.1
def z5b:Ct where
 σ:=Int×DcS
 args:=λ⟨o,x,s,i,c⟩=>[.ptr 1 0, .sv (.int .i64 o)]
 h:=λ⟨o,x,s,i,c⟩=>dcd x s i c
 m:=2
 pre:=λ⟨o,d⟩=>z0g d
 r:=λ⟨o,x,s,i,c⟩=> .tup [.sv (.int .i64 (lgR s i.toNat).1), .sv (.int .i64 (chE s i.toNat o:Nat))]
 h':=λ⟨o,x,s,i,c⟩=>dcd x s ((lgR s i.toNat).2.2:Nat) c
 m':=2
 g:=λ_=>none
def zj3(r:Nat):qm2 P (λ_=>none) Go.Proofs.Tryz.f130 zc7 (λ_=>{}) r=(r<(18446744073709551616:Nat)->(0:Int)<=(1:Int)/\unz r % (18446744073709551616:Int)=qbu BinOp.xor IntKind.u64 (shP BinOp.shr IntKind.u64 (↑r:Int) (1:Int)) (IntKind.wrap IntKind.u64 ((0:Int)- qbu BinOp.and IntKind.u64 (↑r:Int) (1:Int)))/\True):=by kernel_rfl
def zh4(r:Nat):qm2 P (qh2 [(130,zc7)]) Go.Proofs.Tryz.f116 zc2 (λ_=>{}) r=(r<(18446744073709551616:Nat)->∃(s:Nat),(↑s:Int)=(↑r:Int)/\s<(18446744073709551616:Nat)/\unz r % (18446744073709551616:Int)=unz s % (18446744073709551616:Int)/\True):=by kernel_rfl
section
variable (x0:Int) (x1:ByteArray) (x2:SV) (x3:Int)
 abbrev j3f:=Array.toList (ByteArray.data (ByteArray.extract x1 (toNat x0) (size x1)))
 abbrev j5e:=(↑(Proofs.YtniogjgfomaicaaGreat.Rv.vlen (j3f x0 x1)):Int)
 def j7u:=(0<=x0/\x0<=(↑(size x1):Int))/\ByteArray.extract x1 (toNat x0) (size x1)=ByteArray.extract x1 (toNat x0) (size x1)/\size (ByteArray.extract x1 (toNat x0) (size x1))<1000000/\Jb (x0+(j5e x0 x1))/\∃(i0:Nat),(↑i0:Int)=(↑(Proofs.YtniogjgfomaicaaGreat.Rv.vval (j3f x0 x1)):Int)/\i0<18446744073709551616/\(lgR x1 (toNat x0)).1=IntKind.wrap i64 (unz i0 % 18446744073709551616)/\(↑(lgR x1 (toNat x0)).2.1:Int)=(↑(Proofs.YtniogjgfomaicaaGreat.Rv.verr (j3f x0 x1)):Int)/\x2.1=x2.1/\x2.2.1=x2.2.1/\x2.2.2=x2.2.2/\x1=x1/\(↑(lgR x1 (toNat x0)).2.2:Int)=x0+(j5e x0 x1)/\x3=x3/\True
end
def zhr(x:SV) (s:ByteArray) (i c:Int):qm2 P (qh2 [(115,z7j),(116,zc2)]) Go.Proofs.Tryz.f86 zab (λ_=>{}) ⟨x,s,i,c⟩=(z0g (x,s,i,c)->j7u i s x c):=by kernel_rfl
def zoq:=λx s i c=>Eq.trans (zhr x s i c) (by delta Jb j3f j5e j7u;exact rfl)
section
variable (x0:SV) (x1:ByteArray) (x2 x3:Int) (x4:Prop) (x5:Int)
 abbrev zq8:=x0.1=x0.1/\x0.2.1=x0.2.1/\x0.2.2=x0.2.2/\x1=x1/\x4
 abbrev zjf:=(↑(lgR x1 (toNat x2)).2.1:Int)
 abbrev z5w:=(hdR x1 (toNat x2)).2.2
 abbrev z7w:=(↑(lgR x1 (toNat x2)).2.2:Int)
 def j5f:=(hdR x1 (toNat x2)).1=(lgR x1 (toNat x2)).1/\(hdR x1 (toNat x2)).2.1= -1/\(z5w x1 x2).1=(zjf x1 x2)/\zq8 x0 x1 ((↑(z5w x1 x2).2:Int)=(z7w x1 x2)/\x3=x3/\True)
 def zjd:=(hdR x1 (toNat x2)).1=0/\(hdR x1 (toNat x2)).2.1=0/\x4
 def zyh:=zjd x1 x2 ((z5w x1 x2).1=2/\zq8 x0 x1 ((↑(z5w x1 x2).2:Int)=(z7w x1 x2)/\x3=x3/\True))
 abbrev z5v:=lgR x1 (toNat (z7w x1 x2))
 abbrev zbo:=(↑(z5v x1 x2).2.2:Int)
 def zyi:=zjd x1 x2 ((z5w x1 x2).1=(↑(z5v x1 x2).2.1:Int)/\zq8 x0 x1 ((↑(z5w x1 x2).2:Int)=(zbo x1 x2)/\x3=x3/\True))
 def zje:=(z5w x1 x2).1=x5/\zq8 x0 x1 ((↑(z5w x1 x2).2:Int)=(zbo x1 x2)/\x3=x3/\True)
 abbrev zyj:=zjd x1 x2 (zje x0 x1 x2 x3 2)
 def zq7:=((-9223372036854775808:Int)<=9223372036854775807- (zbo x1 x2)/\(9223372036854775807:Int)- (zbo x1 x2)<=9223372036854775807)
 def j81:=zq7 x1 x2/\∃(i0:Int),i0=IntKind.wrap i64 ((0:Int)- (lgR x1 (toNat x2)).1)/\Jb ((zbo x1 x2)+((9223372036854775807:Int)- (zbo x1 x2)))/\(hdR x1 (toNat x2)).1=i0/\(hdR x1 (toNat x2)).2.1=(zbo x1 x2)+((9223372036854775807:Int)- (zbo x1 x2))/\zje x0 x1 x2 x3 0
 def j80:=zq7 x1 x2/\Ji ((9223372036854775807:Int)- (zbo x1 x2)<(z5v x1 x2).1) (j81 x0 x1 x2 x3) (∃(i1:Int),i1=IntKind.wrap i64 ((0:Int)- (lgR x1 (toNat x2)).1)/\Jb ((zbo x1 x2)+(z5v x1 x2).1)/\(hdR x1 (toNat x2)).1=i1/\(hdR x1 (toNat x2)).2.1=(zbo x1 x2)+(z5v x1 x2).1/\zje x0 x1 x2 x3 0)
 def j7z:=Ji ((z5v x1 x2).1<0) (zyj x0 x1 x2 x3) (j80 x0 x1 x2 x3)
 def j7y:=zq8 x0 x1 ((z7w x1 x2)=(z7w x1 x2)/\x3=x3/\z0g ((x0.1,x0.2.1,x0.2.2),x1,(z7w x1 x2),x3)/\((!decide ((↑(z5v x1 x2).2.1:Int)=0))=true->zyi x0 x1 x2 x3)/\((!decide ((↑(z5v x1 x2).2.1:Int)=0))=false->j7z x0 x1 x2 x3))
 def j7x:=Ji ((lgR x1 (toNat x2)).1= -9223372036854775808) (zyh x0 x1 x2 x3) (j7y x0 x1 x2 x3)
 def j7w:=Ji (0<=(lgR x1 (toNat x2)).1) (j5f x0 x1 x2 x3) (j7x x0 x1 x2 x3)
 def j7v:=zq8 x0 x1 (x2=x2/\x3=x3/\z0g ((x0.1,x0.2.1,x0.2.2),x1,x2,x3)/\((!decide ((zjf x1 x2)=0))=true->j5f x0 x1 x2 x3)/\((!decide ((zjf x1 x2)=0))=false->j7w x0 x1 x2 x3))
end
def zhe(x:SV) (s:ByteArray) (i c:Int):qm2 P (qh2 [(86,zab)]) Go.Proofs.Tryz.f81 zns (λ_=>{}) ⟨x,s,i,c⟩=(z0g (x,s,i,c)->j7v x s i c):=by kernel_rfl
def head_eq:=λx s i c=>Eq.trans (zhe x s i c) (by delta Ji Jb Jt Jf zq8 zjf z5w z7w j5f zjd zyh z5v zbo zyi zje zyj zq7 j81 j80 j7z j7y j7x j7w j7v;exact rfl)
section
variable (x0:SV) (x1:ByteArray) (x2 x3 x4:Int) (x5:Prop)
 abbrev j3g:=x0.1=x0.1/\x0.2.1=x0.2.1/\x0.2.2=x0.2.2/\x1=x1/\x5
 abbrev j5i:=(↑(lgR x1 (toNat x2)).2.1:Int)
 abbrev zyk:=(↑(lgR x1 (toNat x2)).2.2:Int)
 def j5h:=(lgR x1 (toNat x2)).1=(lgR x1 (toNat x2)).1/\(↑(chE x1 (toNat x2) x3):Int)=2/\j3g x0 x1 ((zyk x1 x2)=(zyk x1 x2)/\x4=x4/\True)
 def j5g:=(lgR x1 (toNat x2)).1=(lgR x1 (toNat x2)).1/\(↑(chE x1 (toNat x2) x3):Int)=(j5i x1 x2)/\j3g x0 x1 ((zyk x1 x2)=(zyk x1 x2)/\x4=x4/\True)
 def j84:=Ji (x2<=(lgR x1 (toNat x3)).1) (j5h x0 x1 x3 x2 x4) (j5g x0 x1 x3 x2 x4)
 def j83:=Ji ((lgR x1 (toNat x2)).1<0) (j5h x0 x1 x2 x3 x4) (j84 x0 x1 x3 x2 x4)
 def j82:=j3g x0 x1 (x2=x2/\x3=x3/\z0g ((x0.1,x0.2.1,x0.2.2),x1,x2,x3)/\Ji ((j5i x1 x2)=0) (j83 x0 x1 x2 x4 x3) (j5g x0 x1 x2 x4 x3))
end
def zag(o:Int) (x:SV) (s:ByteArray) (i c:Int):qm2 P (qh2 [(86,zab)]) Go.Proofs.Tryz.f84 z5b (λ_=>{}) ⟨o,x,s,i,c⟩=(z0g (x,s,i,c)->j82 x s i c o):=by kernel_rfl
def zca:=λo x s i c=>Eq.trans (zag o x s i c) (by delta Ji Jt Jf j3g j5i zyk j5h j5g j84 j83 j82;exact rfl)
open Go.Proofs.YtniogjgfomaicaaGreat.Rv
def wrap_u64(n:Int):IntKind.wrap .u64 n=n % 18446744073709551616:=by
 simp[IntKind.wrap,IntKind.bits,IntKind.signed]
def z14(r:Nat) (h:r<18446744073709551616):(BitVec.ofInt 64 (r:Int)).toNat=r:=by
 rw[BitVec.toNat_ofInt]
 simp
 omega
def and_one(r:Nat) (h:r<18446744073709551616):qbu .and .u64 (r:Int) 1=((r % 2:Nat):Int):=by
 show IntKind.wrap .u64 (BitVec.ofInt 64 (r:Int)&&&BitVec.ofInt 64 1).toNat=_
 rw[BitVec.toNat_and,z14 r h,show(BitVec.ofInt 64 1).toNat=1 from rfl,Nat.and_one_is_mod,wrap_u64]
 omega
def zpn(r:Nat):shP .shr .u64 (r:Int) 1=((r / 2:Nat):Int):=by
 show Int.fdiv (r:Int) (2 ^ min (1:Int).toNat 64)=_
 rw[show(2:Int) ^ min (1:Int).toNat 64=2 from rfl,Int.fdiv_eq_ediv_of_nonneg _ (by omega)]
 omega
def zb1(r:Nat) (h:r<18446744073709551616):qbu .xor .u64 (shP .shr .u64 (r:Int) 1) (IntKind.wrap .u64 (0- qbu .and .u64 (r:Int) 1))=unz r % 18446744073709551616:=by
 rw[and_one r h,zpn,wrap_u64]
 unfold unz
 have h2:r / 2<18446744073709551616:=by omega
 by_cases e:r % 2=0
 ·rw[if_pos e,e]
  show IntKind.wrap .u64 (BitVec.ofInt 64 ((r / 2:Nat):Int) ^^^ BitVec.ofInt 64 ((0- (0:Int)) % 18446744073709551616)).toNat=_
  rw[show BitVec.ofInt 64 ((0- (0:Int)) % 18446744073709551616)=0#64 from rfl,BitVec.xor_zero,z14 _ h2,wrap_u64]
 ·have e1:r % 2=1:=by omega
  rw[if_neg e,e1]
  show IntKind.wrap .u64 (BitVec.ofInt 64 ((r / 2:Nat):Int) ^^^ BitVec.ofInt 64 ((0- (1:Int)) % 18446744073709551616)).toNat=_
  rw[show BitVec.ofInt 64 ((0- (1:Int)) % 18446744073709551616)=BitVec.allOnes 64 from rfl,BitVec.xor_allOnes,BitVec.toNat_not,z14 _ h2,wrap_u64]
  omega
def zhw(r:Nat) (h:r<18446744073709551616):qbu .xor .u64 (IntKind.max .u64) (r:Int)=((18446744073709551615- r:Nat):Int):=by
 show IntKind.wrap .u64 (BitVec.ofInt 64 (IntKind.max .u64) ^^^ BitVec.ofInt 64 (r:Int)).toNat=_
 rw[show BitVec.ofInt 64 (IntKind.max .u64)=BitVec.allOnes 64 from rfl,BitVec.allOnes_xor,BitVec.toNat_not,z14 _ h,wrap_u64]
 omega
def z6y(m:Int) (h1: -9223372036854775808<=m) (h2:m<9223372036854775808):IntKind.wrap .i64 (m % 18446744073709551616)=m:=by
 simp[IntKind.wrap,IntKind.bits,IntKind.signed]
 omega
def z54:∀(l:List UInt8) (i acc v n:Nat),i<=10->acc<2 ^ (7*i)->vdec l i acc=some (v,n)->v<18446744073709551616/\i<n/\n<=i+l.length
  | [],i,acc,v,n,_,_,h=>by simp[vdec]at h
  | c ::r,i,acc,v,n,hi,ha,h=>by
    rw[vdec]at h
    split at h
    · cases h
    rename_i h10
    split at h
    · cases h
    rename_i h9
    have hg:=group_lt (k:=i) (g:=c.toNat % 128) (by omega) (Nat.mod_lt _ (by decide)) h9
    split at h
    · cases h
      exact⟨by omega,by omega,by simp⟩
    · have p:=pow7 i
      have hm:c.toNat % 128<128:=Nat.mod_lt _ (by decide)
      have hq:c.toNat % 128*2 ^ (7*i)<=127*2 ^ (7*i):=Nat.mul_le_mul_right _ (by omega)
      obtain⟨h1,h2,h3⟩:=z54 r (i+1) _ v n (by omega) (by rw[p];omega) h
      exact⟨h1,by omega,by simp;omega⟩
def z3y(l:List UInt8):vval l<18446744073709551616/\vlen l<=l.length/\verr l<=2/\(verr l=0->1<=vlen l):=by
  unfold vval vlen verr
  cases h:vdec l 0 0 with
  |none=>simp
  | some p=>
    obtain⟨v,n⟩:=p
    obtain⟨h1,h2,h3⟩:=z54 l 0 0 v n (by omega) (by decide) h
    simp;omega
def z9x(r:Nat) (h:r<18446744073709551616): -9223372036854775808<=unz r/\unz r<9223372036854775808:=by
 unfold unz;split<;>omega
def zgw(s:ByteArray) (i:Nat):(s.extract i s.size).data.toList=s.data.toList.drop i:=by
 rw[ByteArray.data_extract,Array.toList_extract]
 show List.take _ _=_
 rw[List.take_of_length_le]
 rw[List.length_drop];exact Nat.le_refl _
def z0m(s:ByteArray) (i:Nat) (hi:i<=s.size): -9223372036854775808<=(lgR s i).1/\(lgR s i).1<9223372036854775808/\(lgR s i).2.1<=2/\i<=(lgR s i).2.2/\(lgR s i).2.2<=s.size/\((lgR s i).2.1=0->i<(lgR s i).2.2):=by
 obtain⟨h1,h2,h3,h4⟩:=z3y (s.data.toList.drop i)
 have hl:(s.data.toList.drop i).length=s.size- i:=by rw[List.length_drop];rfl
 have:=z9x _ h1
 unfold lgR
 exact⟨this.1,this.2,h3,by show i<=i+_;omega,by show i+_<=s.size;omega,λh=>by have:=h4 h;show i<i+_;omega⟩
def zeh:q5k P 115 z7j:=
 qlw (Sen.enters_of Go.Proofs.Tryz.func115 (by kernel_rfl)) (by decide) (by decide) (λs=>[.string s]) (λs=> .tuple #[.int .u64 (vval s.data.toList:Nat), .int .i64 (vlen s.data.toList:Nat), .int .i64 (verr s.data.toList:Nat)]) (λs=>rfl) (λs=>rfl) (λs=>rfl) (λs=>rfl)
  (λs I=> .tup (.cons (.sv _) (.cons (.sv _) (.cons (.sv _) .nil))))
  λs w h=>(varint_any s w (by have:s.size<1000000:=h;unfold maxLen;omega)).mono λe w' he=>by
   obtain⟨rfl,rfl⟩:=he
   exact⟨rfl, .refl _ _⟩
def zj4:q5k P 130 zc7:=by
 refine qm5 mixed z0p (W:=λ_=>{}) Go.Proofs.Tryz.func130 (by kernel_rfl) (by decide) (by decide) (λs=>by kernel_rfl) λ(r:Nat)=>(zj3 r).mpr ?_
 intro h
 exact⟨by decide,(zb1 r h).symm,trivial⟩
def zh5:q5k P 116 zc2:=by
 refine qm5 mixed (qee (qih zj4 qlq)) (W:=λ_=>{}) Go.Proofs.Tryz.func116 (by kernel_rfl) (by decide) (by decide) (λs=>by kernel_rfl) λ(r:Nat)=>(zh4 r).mpr ?_
 exactλh=>⟨r,rfl,h,rfl,trivial⟩
def z5j:q5k P 86 zab:=by
 refine qm5 mixed (qee (qih zeh (qih zh5 qlq))) (W:=λ_=>{}) Go.Proofs.Tryz.func86 (by kernel_rfl) (by decide) (by decide) (λs=>by kernel_rfl) λ⟨(x:SV),s,(i:Int),(c:Int)⟩=>(zoq x s i c).mpr ?_
 rintro⟨h1,h2,h3⟩
 simp only[zgw,true_and,and_true,eq_self]
 obtain⟨f1,f2,f3,f4⟩:=z3y (s.data.toList.drop i.toNat)
 have hl:(s.data.toList.drop i.toNat).length=s.size- i.toNat:=by rw[List.length_drop];rfl
 have hu:=z9x _ f1
 have he:(s.extract i.toNat s.size).size=s.size- i.toNat:=by rw[ByteArray.size_extract];omega
 refine⟨⟨h1,h2⟩,by omega,by omega,vval (s.data.toList.drop i.toNat),rfl,f1,(z6y _ hu.1 hu.2).symm,rfl,?_⟩
 show(((i.toNat+vlen (s.data.toList.drop i.toNat):Nat)):Int)=_
 omega
def z6j:q5k P 84 z5b:=by
 refine qm5 mixed (qee (qih z5j qlq)) (W:=λ_=>{}) Go.Proofs.Tryz.func84 (by kernel_rfl) (by decide) (by decide) (λs=>by kernel_rfl) λ⟨(o:Int),(x:SV),s,(i:Int),(c:Int)⟩=>(zca o x s i c).mpr ?_
 intro h
 simp only[decide_eq_true_eq,decide_eq_false_iff_not,true_and,and_true,eq_self]
 unfold chE
 refine⟨h,λh0=>⟨λh1=> ?_,λh1=>⟨λh2=> ?_,λh2=> ?_⟩⟩,λh0=> ?_⟩
 ·rw[if_pos ⟨by omega, .inl h1⟩];rfl
 ·rw[if_pos ⟨by omega, .inr h2⟩];rfl
 ·rw[if_neg (by omega)]
 ·rw[if_neg (by omega)]
def z29{v:Int} (h1: -9223372036854775808<v) (h2:v<9223372036854775808):IntKind.wrap .i64 (0- v)= -v:=by
 simp[IntKind.wrap,IntKind.bits,IntKind.signed];omega
def zoc:q5k P 81 zns:=by
 refine qm5 mixed (qee (qih z5j qlq)) (W:=λ_=>{}) Go.Proofs.Tryz.func81 (by kernel_rfl) (by decide) (by decide) (λs=>by kernel_rfl) λ⟨(x:SV),s,(i:Int),(c:Int)⟩=>(head_eq x s i c).mpr ?_
 rintro⟨h1,h2,h3⟩
 obtain⟨i,rfl⟩:=Int.eq_ofNat_of_zero_le h1
 simp only[decide_eq_true_eq,decide_eq_false_iff_not,Bool.not_eq_true',Bool.not_eq_false',true_and,and_true,eq_self,Int.toNat_natCast]
 obtain⟨a1,a2,a3,a4,a5,a6⟩:=z0m s i (by omega)
 obtain⟨b1,b2,b3,b4,b5,b6⟩:=z0m s (lgR s i).2.2 a5
 refine⟨⟨h1,h2,h3⟩,λg0=> ?_,λg0=>⟨λg1=> ?_,λg1=>⟨λg2=> ?_,λg2=>⟨⟨by show(0:Int)<=_;omega,by show(((lgR s i).2.2:Nat):Int)<=_;omega,h3⟩,?_⟩⟩⟩⟩
 ·unfold hdR;rw[if_pos (.inl (by omega))];exact⟨rfl,rfl,rfl,rfl⟩
 ·unfold hdR;rw[if_pos (.inr g1)];exact⟨rfl,rfl,rfl,rfl⟩
 ·unfold hdR;rw[if_neg (by omega),if_pos g2];exact⟨rfl,rfl,rfl,rfl⟩
 unfold hdR
 rw[if_neg (show¬((lgR s i).2.1≠0\/0<=(lgR s i).1)by omega),if_neg g2]
 clear g0 a3 a6
 generalize lgR s (lgR s i).2.2=B at*
 obtain⟨n2,e2,j2⟩:=B
 simp only at b1 b2 b3 b4 b5 b6⊢
 refine⟨λg3=> ?_,λg3=> ?_⟩
 ·rw[if_pos (by omega)];exact⟨rfl,rfl,rfl,rfl⟩
 ·rw[if_neg (show¬e2≠0 by omega)]
  refine⟨λg4=>by rw[if_pos g4];exact⟨rfl,rfl,rfl,rfl⟩,λg4=>⟨by omega,λg5=>⟨by omega, -(lgR s i).1,(z29 (by omega) (by omega)).symm,by omega,?_⟩,λg5=>⟨-(lgR s i).1,(z29 (by omega) (by omega)).symm,by omega,?_⟩⟩⟩
  ·rw[if_neg g4,if_pos g5];exact⟨by show -(_:Int)=_;omega,rfl,rfl,rfl⟩
  ·rw[if_neg g4,if_neg g5];exact⟨by show -(_:Int)=_;omega,rfl,rfl,rfl⟩
section
def f1s:List Value->Option ByteArray
 | [.string s]=>some s
 |_=>none
def f1i:List Value->Option Int
 | [.int _ c]=>some c
 |_=>none
def z1y(s:ByteArray) (j:Nat):bat s j<256:=by unfold bat;exact UInt8.toNat_lt _
variable {s:ByteArray}
def znl{j:Nat} (h:s.size<=j):bat s j=0:=by
 unfold bat
 rw[getElem?_neg s j (by omega)];rfl
def zm1{j:Nat} (h:j<s.size):bat s j=s[j].toNat:=by
 unfold bat
 rw[getElem?_pos s j h];rfl
def ldN(c:Nat):Nat:=if c<128 then 1 else if 192<=c/\c<224 then 2 else if 224<=c/\c<240 then 3 else if 240<=c/\c<248 then 4 else 0
def ldV(c:Nat):Nat:=if c<128 then c else if 192<=c/\c<224 then c- 192 else if 224<=c/\c<240 then c- 224 else if 240<=c/\c<248 then c- 240 else 0
def ctC(c:Nat):Bool:=decide (128<=c)&&decide (c<192)
def vlF(s:ByteArray):Nat->Option Nat
  |0=>some 0
  |1=>some (ldV (bat s 0))
  | i+2=>match vlF s (i+1)with
    |some r=>if ctC (bat s (i+1))=true then some (r*64+(bat s (i+1)- 128))else none
    |none=>none
def lnN(r:Nat):Nat:=if r<128 then 1 else if r<2048 then 2 else if r<65536 then 3 else 4
def isC(r:Nat):Bool:=decide (r<=1114111)&& !(decide (55296<=r)&&decide (r<=57343))
def frt(s:ByteArray):Nat:=if s.size<ldN (bat s 0)then 0 else match vlF s (ldN (bat s 0))with
 |none=>0
 |some r=>if ldN (bat s 0)=0\/isC r=false\/lnN r≠ldN (bat s 0)then 0 else ldN (bat s 0)
def zei:Nat->ByteArray->Bool
 |0,_=>true
 |f+1,s=>if s.size=0 then true else if frt s=0 then false else zei f (s.extract (frt s) s.size)
def vld(s:ByteArray):Bool:=zei s.size s
def znt:Ct:=ctS Int (λc=>[.int .u8 c]) f1i (λc=>0<=c/\c<256) (λ_=>{}) λc=> .tup [.sv (.int .i64 (ldN c.toNat:Nat)), .sv (.int .u32 (ldV c.toNat:Nat))]
def cIs:Ct:=ctS Int (λc=>[.int .u32 c]) f1i (λc=>0<=c/\c<4294967296) (λ_=>{}) λc=> .sv (.bool (isC c.toNat))
def z7g:Ct:=ctS Int (λc=>[.int .u32 c]) f1i (λc=>0<=c/\c<4294967296) (λ_=>{}) λc=> .sv (.int .i64 (lnN c.toNat:Nat))
def z8w:Ct:=ctS ByteArray (λs=>[.string s]) f1s (λs=>0<s.size/\s.size<9223372036854775808) (λ_=>{}) λs=> .sv (.int .i64 (frt s:Nat))
def z2h:Ct:=ctS ByteArray (λs=>[.string s]) f1s (λs=>s.size<9223372036854775808) (λ_=>{}) λs=> .sv (.bool (vld s))
def slS(t:T AV) (k:Nat):Option ByteArray:=match t.get k with
 |some a=>gs a
 |none=>none
def zmv:z8w.σ->WayF:=λs=>{ann:=λ_ _ _=>some {σ:=Int×Int,pre:=λ⟨r,i⟩=>1<=i/\(i<=ldN (bat s 0)\/i=1)/\∃q:Nat,r=q/\(ldN (bat s 0)=0\/vlF s i.toNat=some q),find:=some λt _=>match slI t 4 with|some r=>(match slI t 5 with|some i=>some (r,i)|none=>none)|none=>none,t:=λ⟨r,i⟩=>[(4, .sv (.int .u32 r)),(5, .sv (.int .i64 i))],h:=λ_=>[],more:=0,μ:=λ⟨r,i⟩=>5- i.toNat,keep:=[0,2,3]}}
def zmr:Nat->Option Ct:=qh2 [(131,znt),(132,cIs),(133,z7g)]
def zn4:z2h.σ->WayF:=λs=>{ann:=λ_ _ _=>some {σ:=ByteArray,pre:=λt=>t.size<=s.size/\vld t=vld s,find:=some λt _=>slS t 0,t:=λu=>[(0, .sv (.string u))],h:=λ_=>[],more:=0,μ:=λu=>u.size,keep:=[2]}}
def zxu:Nat->Option Ct:=qh2 [(117,z8w)]
def ptV(s:ByteArray):Nat:=if frt s=0 then 0 else(vlF s (frt s)).getD 0
def z35:Ct:=ctS ByteArray (λs=>[.string s]) f1s (λs=>s.size<9223372036854775808) (λ_=>{}) λs=> .tup [.sv (.int .u32 (ptV s:Nat)), .sv (.int .i64 (frt s:Nat))]
def leN(n:Nat):Nat:=if n=2 then 128 else if n=3 then 2048 else 65536
def zmz:z35.σ->WayF:=λs=>{
 ann:=λ_ _ _=>some {σ:=Int×Int,pre:=λ⟨v,i⟩=>1<=i/\i<=ldN (bat s 0)/\∃q:Nat,v=q/\vlF s i.toNat=some q,find:=some λt _=>match slI t 6 with|some v=>(match slI t 8 with|some i=>some (v,i)|none=>none)|none=>none,t:=λ⟨v,i⟩=>[(6, .sv (.int .u32 v)),(8, .sv (.int .i64 i))],h:=λ_=>[],more:=0,μ:=λ⟨v,i⟩=>5- i.toNat,keep:=[0,5,7]}
 cut:=λr _ _=>match r with
  |14=>some {σ:=Unit,pre:=λ_=>0<s.size/\2<=ldN (bat s 0),find:=some λ_ _=>some (),t:=λ_=>[(5, .sv (.int .i64 (ldN (bat s 0):Nat))),(6, .sv (.int .u32 (ldV (bat s 0):Nat))),(7, .sv (.int .u32 (leN (ldN (bat s 0)):Nat)))],h:=λ_=>[],more:=0,μ:=λ_=>0,keep:=[0]}
  |_=>none}
def zer:z2h.σ->WayF:=λs=>{ann:=λ_ _ _=>some {σ:=ByteArray,pre:=λt=>t.size<=s.size/\vld t=vld s,find:=some λt _=>slS t 0,t:=λu=>[(0, .sv (.string u))],h:=λ_=>[],more:=0,μ:=λu=>u.size,keep:=[]}}
end
section
def z19{p q:Prop} [Decidable p] [Decidable q] (h:p↔q):decide p=decide q:=by simp[h]
abbrev svV(x:SV):Value:= .slice x.1 x.2.1 x.2.2
abbrev svA(x:SV):AV:= .sv (.slice x.1 x.2.1 x.2.2)
def txV(s:ByteArray):List Value:=[.string s]
def inV(i:Int):List Value:=[.int .i64 i]
def slP{α:Type} (f:α->List Value) (x:SV) (l:List α) (p:Pub):Prop:=x.2.1=l.length/\qil p x.1 x.2.1 x.2.2 (z00 f l)
variable {α:Type}
def z0e{f:α->List Value} {x:SV} {l:List α} {p q:Pub} (h:Pub.le p q) (e:slP f x l p):slP f x l q:=⟨e.1,q5g h e.2⟩
def z0z{f:α->List Value} {e:Nat} (hf:∀x,(f x).length=e) (he:0<e) {p:Pub} {x:SV} {l:List α} (h:slP f x l p) {i:Nat} (hi:i<l.length):x.1≠noA/\q3p p (adr x.1 (i*e)) (f l[i]):=zay hf he h.2 hi
variable {p:Pub}
def z05{f:α->List Value}:slP f (none,0,0) [] p:=⟨rfl,Nat.le_refl _, .inl ⟨rfl,zbq⟩⟩
inductive GJ where
 |mk (k n:Int) (s:ByteArray) (y:SV) (l:List GJ) (x:SV) (nm:List ByteArray)
def GJ.k:GJ->Int| .mk k _ _ _ _ _ _=>k
def GJ.n:GJ->Int| .mk _ n _ _ _ _ _=>n
def GJ.s:GJ->ByteArray| .mk _ _ s _ _ _ _=>s
def GJ.y:GJ->SV| .mk _ _ _ y _ _ _=>y
def GJ.l:GJ->List GJ| .mk _ _ _ _ l _ _=>l
def GJ.x:GJ->SV| .mk _ _ _ _ _ x _=>x
def GJ.nm:GJ->List ByteArray| .mk _ _ _ _ _ _ nm=>nm
def GJ.cells(g:GJ):List Value:=[.int .i64 g.k, .int .i64 g.n, .string g.s,svV g.y,svV g.x]
def GJ.av(g:GJ):AV:= .agg [.sv (.int .i64 g.k), .sv (.int .i64 g.n), .sv (.string g.s),svA g.y,svA g.x]
mutual
def GJ.ok:GJ->Pub->Prop
 | .mk k n s y l x nm,p=>slP GJ.cells y l p/\slP txV x nm p/\GJ.oks l p
def GJ.oks:List GJ->Pub->Prop
 | [],_=>True
 |g::l,p=>GJ.ok g p/\GJ.oks l p
end
mutual
def GJ.ok_mono:∀{g:GJ} {p q:Pub},Pub.le p q->g.ok p->g.ok q
  | .mk k n s y l x nm,p,q,h,e=>by
    unfold GJ.ok at e⊢
    exact⟨z0e h e.1,z0e h e.2.1,GJ.oks_mono h e.2.2⟩
def GJ.oks_mono:∀{l:List GJ} {p q:Pub},Pub.le p q->GJ.oks l p->GJ.oks l q
  | [],p,q,h,e=>by unfold GJ.oks;trivial
  | g::l,p,q,h,e=>by
    unfold GJ.oks at e⊢
    exact⟨GJ.ok_mono h e.1,GJ.oks_mono h e.2⟩
end
structure AF where
 nm:ByteArray
 al:SV
 als:List ByteArray
 ty:Int
 hd:Bool
 df:GJ
def AF.cells(f:AF):List Value:=[.string f.nm,svV f.al, .int .i64 f.ty, .bool f.hd, .int .i64 f.df.k, .int .i64 f.df.n, .string f.df.s,svV f.df.y,svV f.df.x]
def AF.ok(f:AF) (p:Pub):Prop:=slP txV f.al f.als p/\f.df.ok p
structure AT where
 k:Int
 nm:ByteArray
 al:SV
 als:List ByteArray
 it:Int
 sy:SV
 sys:List ByteArray
 hd:Bool
 df:ByteArray
 sz:Int
 f:SV
 fs:List AF
 br:SV
 brs:List Int
def AT.cells(e:AT):List Value:=[.int .i64 e.k, .string e.nm,svV e.al, .int .i64 e.it,svV e.sy, .bool e.hd, .string e.df, .int .i64 e.sz,svV e.f,svV e.br]
def AT.av(e:AT):AV:= .agg [.sv (.int .i64 e.k), .sv (.string e.nm),svA e.al, .sv (.int .i64 e.it),svA e.sy, .sv (.bool e.hd), .sv (.string e.df), .sv (.int .i64 e.sz),svA e.f,svA e.br]
def AT.ok(e:AT) (p:Pub):Prop:=slP txV e.al e.als p/\slP txV e.sy e.sys p/\slP AF.cells e.f e.fs p/\slP inV e.br e.brs p/\∀f∈e.fs,f.ok p
def AT.ok_mono{e:AT} {p q:Pub} (h:Pub.le p q) (g:e.ok p):e.ok q:=⟨z0e h g.1,z0e h g.2.1,z0e h g.2.2.1,z0e h g.2.2.2.1,λf hf=>⟨z0e h (g.2.2.2.2 f hf).1,GJ.ok_mono h (g.2.2.2.2 f hf).2⟩⟩
def z09(S:List AT) (x:SV) (p:Pub):Prop:=slP AT.cells x S p/\∀e∈S,e.ok p
def z0y{S:List AT} {x:SV} {p q:Pub} (h:Pub.le p q) (g:z09 S x p):z09 S x q:=⟨z0e h g.1,λe he=>AT.ok_mono h (g.2 e he)⟩
def z1i(e:AT):e.cells.length=10:=rfl
def z8s(f:AF):f.cells.length=9:=rfl
def z0t(s:ByteArray):(txV s).length=1:=rfl
def z9a(i:Int):(inV i).length=1:=rfl
def z37(g:GJ):g.cells.length=5:=rfl
def small(S:List AT):Prop:=S.length<1000000/\∀e∈S,e.fs.length<1000000/\e.brs.length<1000000/\e.sys.length<1000000
inductive GV where
 |mk (n:Int) (s:ByteArray) (x:SV) (l:List GV) (y:SV) (ks:List ByteArray) (b:Int)
inductive PV where
 |mk (n:Int) (s:ByteArray) (l:List PV) (ks:List ByteArray) (b:Int)
def GV.n:GV->Int| .mk n _ _ _ _ _ _=>n
def GV.s:GV->ByteArray| .mk _ s _ _ _ _ _=>s
def GV.x:GV->SV| .mk _ _ x _ _ _ _=>x
def GV.l:GV->List GV| .mk _ _ _ l _ _ _=>l
def GV.y:GV->SV| .mk _ _ _ _ y _ _=>y
def GV.ks:GV->List ByteArray| .mk _ _ _ _ _ ks _=>ks
def GV.b:GV->Int| .mk _ _ _ _ _ _ b=>b
def GV.cells(v:GV):List Value:=[.int .u64 v.n, .string v.s,svV v.x,svV v.y, .int .i64 v.b]
def GV.av(v:GV):AV:= .agg [.sv (.int .u64 v.n), .sv (.string v.s),svA v.x,svA v.y, .sv (.int .i64 v.b)]
def z0c(v:GV):v.cells.length=5:=rfl
mutual
def GV.ok:GV->Pub->Prop
 | .mk n s x l y ks b,p=>slP GV.cells x l p/\slP txV y ks p/\GV.oks l p
def GV.oks:List GV->Pub->Prop
 | [],_=>True
 |v::l,p=>GV.ok v p/\GV.oks l p
end
mutual
def GV.ok_mono:∀{v:GV} {p q:Pub},Pub.le p q->v.ok p->v.ok q
  | .mk n s x l y ks b,p,q,h,e=>by
    unfold GV.ok at e⊢
    exact⟨z0e h e.1,z0e h e.2.1,GV.oks_mono h e.2.2⟩
def GV.oks_mono:∀{l:List GV} {p q:Pub},Pub.le p q->GV.oks l p->GV.oks l q
  | [],p,q,h,e=>by unfold GV.oks;trivial
  | g::l,p,q,h,e=>by
    unfold GV.oks at e⊢
    exact⟨GV.ok_mono h e.1,GV.oks_mono h e.2⟩
end
def GV.ok_eq(v:GV) (p:Pub):v.ok p=(slP GV.cells v.x v.l p/\slP txV v.y v.ks p/\GV.oks v.l p):=by cases v;unfold GV.ok;rfl
def GV.oks_at:∀{l:List GV} {p:Pub},GV.oks l p->∀{i:Nat} (h:i<l.length),l[i].ok p
 |v::l,p,e,0,h=>by unfold GV.oks at e;exact e.1
 |v::l,p,e,i+1,h=>by unfold GV.oks at e;exact GV.oks_at e.2 (by simpa using h)
mutual
def GV.pv:GV->PV
 | .mk n s x l y ks b=> .mk n s (GV.pvs l) ks b
def GV.pvs:List GV->List PV
 | []=>[]
 |v::l=>GV.pv v::GV.pvs l
end
def GV.pv_eq(v:GV):v.pv= .mk v.n v.s (GV.pvs v.l) v.ks v.b:=by cases v;rw[GV.pv];rfl
def GV.pvs_map:∀l:List GV,GV.pvs l=l.map GV.pv
 | []=>by rw[GV.pvs];rfl
 |v::l=>by rw[GV.pvs,GV.pvs_map l];rfl
def GV.pvs_len(l:List GV):(GV.pvs l).length=l.length:=by rw[GV.pvs_map,List.length_map]
mutual
def PV.sm:PV->Prop
 | .mk n s l ks b=>(0<=n/\n<18446744073709551616)/\s.size<9223372036854775808/\l.length<4611686018427387904/\ks.length<4611686018427387904/\(∀k∈ks,k.size<9223372036854775808)/\PV.sms l
def PV.sms:List PV->Prop
 | []=>True
 |v::l=>PV.sm v/\PV.sms l
end
def PV.sms_at:∀{l:List PV},PV.sms l->∀{i:Nat} (h:i<l.length),l[i].sm
 |v::l,e,0,h=>by unfold PV.sms at e;exact e.1
 |v::l,e,i+1,h=>by unfold PV.sms at e;exact PV.sms_at e.2 (by simpa using h)
def GV.sm_eq(v:GV):v.pv.sm=((0<=v.n/\v.n<18446744073709551616)/\v.s.size<9223372036854775808/\v.l.length<4611686018427387904/\v.ks.length<4611686018427387904/\(∀k∈v.ks,k.size<9223372036854775808)/\PV.sms (GV.pvs v.l)):=by rw[GV.pv_eq,PV.sm,GV.pvs_len]
def GV.cells_at{v:GV} (h:v.ok p) {i:Nat} (hi:i<v.l.length):v.x.1≠noA/\q3p p (adr v.x.1 (i*5)) v.l[i].cells:=by
 rw[GV.ok_eq]at h;exact z0z z0c (by decide) h.1 hi
def GV.x_len{v:GV} (h:v.ok p):v.x.2.1=v.l.length:=by rw[GV.ok_eq]at h;exact h.1.1
mutual
def PV.same:PV->PV->Bool
 | .mk n s l ks b, .mk n' s' l' ks' b'=>decide (n=n')&&decide (s=s')&&decide (b=b')&&decide (ks=ks')&&PV.sames l l'
def PV.sames:List PV->List PV->Bool
 | [],[]=>true
 |v::l,w::m=>PV.same v w&&PV.sames l m
 |_,_=>false
end
end
open Go.Proofs.YtniogjgfomaicaaGreat.Rv
def dcO(x y:SV) (n all e:Int):List (Nat×AO):=[(1, .cells 86 (some 0) false [svA x,svA y, .sv (.int .i64 n), .sv (.int .i64 all), .sv (.int .i64 e)])]
def dM(y:SV) (D:ByteArray):PF:=⟨true,λp=>y.2.1=D.size/\qil p y.1 y.2.1 y.2.2 (q1h D),λ_ _ h e=>⟨e.1,q5g h e.2⟩⟩
abbrev DcR:=SV×SV×ByteArray×Int×Int×Int
def z0x(D:ByteArray) (n:Int):Prop:=0<=n/\n<=D.size/\D.size<1000000000000
def zwl:Ct:={z7j with m':=1}
def znz:Ct where
 σ:=Nat
 args:=λr=>[.sv (.int .u64 (r:Nat))]
 h:=λ_=>[]
 m:=1
 pre:=λr=>r<18446744073709551616
 r:=λr=> .sv (.int .u64 (unz r % 18446744073709551616))
 h':=λ_=>[]
 m':=1
 g:=λ_=>none
def zc4:Ct where
 σ:=Nat
 args:=λr=>[.int .i64 8, .sv (.int .u64 (r:Nat))]
 h:=λ_=>[]
 m:=1
 pre:=λr=>r<18446744073709551616
 r:=λr=> .sv (.int .u64 (unz r % 18446744073709551616))
 h':=λ_=>[]
 m':=1
 g:=λ_=>none
def z34:Ct where
 σ:=SV×SV×Int×Int×Int×Int
 args:=λ⟨x,y,n,all,e,k⟩=>[.ptr 1 0, .sv (.int .i64 k)]
 h:=λ⟨x,y,n,all,e,k⟩=>dcO x y n all e
 m:=2
 r:=λ_=> .tup []
 h':=λ⟨x,y,n,all,e,k⟩=>dcO x y n all (if e=0 then k else e)
 m':=2
 g:=λ_=>none
def tkF(D:ByteArray) (n e k:Int):ByteArray×Int×Int:=if e≠0\/D.size- n<k then(mkS [],n,if e=0 then 2 else e)else(D.extract n.toNat (n+k).toNat,n+k,e)
def z6g:Ct where
 σ:=DcR×Int
 args:=λ⟨⟨x,y,D,n,all,e⟩,k⟩=>[.ptr 1 0, .sv (.int .i64 k)]
 h:=λ⟨⟨x,y,D,n,all,e⟩,k⟩=>dcO x y n all e
 m:=2
 pre:=λ⟨⟨x,y,D,n,all,e⟩,k⟩=>z0x D n/\0<=k/\k<9223372036854775808
 mem:=λ⟨⟨x,y,D,n,all,e⟩,k⟩=>dM y D
 r:=λ⟨⟨x,y,D,n,all,e⟩,k⟩=> .sv (.string (tkF D n e k).1)
 h':=λ⟨⟨x,y,D,n,all,e⟩,k⟩=>dcO x y (tkF D n e k).2.1 all (tkF D n e k).2.2
 m':=2
 g:=λ_=>none
def lnS(D:ByteArray) (n:Int):ByteArray:=D.extract n.toNat (min (D.size:Int) (n+10)).toNat
def lnF(D:ByteArray) (n e:Int):Int×Int×Int:=if e≠0 then(0,n,e)else if(verr (lnS D n).data.toList:Int)=0 then(unz (vval (lnS D n).data.toList),n+vlen (lnS D n).data.toList,0)else(0,n,verr (lnS D n).data.toList)
def z43:Ct where
 σ:=DcR
 args:=λ_=>[.ptr 1 0]
 h:=λ⟨x,y,D,n,all,e⟩=>dcO x y n all e
 m:=2
 pre:=λ⟨x,y,D,n,all,e⟩=>z0x D n
 mem:=λ⟨x,y,D,n,all,e⟩=>dM y D
 r:=λ⟨x,y,D,n,all,e⟩=> .sv (.int .i64 (lnF D n e).1)
 h':=λ⟨x,y,D,n,all,e⟩=>dcO x y (lnF D n e).2.1 all (lnF D n e).2.2
 m':=2
 g:=λ_=>none
def txE(m e:Int):Int:=if e=0 then(if m<0 then 2 else if 5000<m then 3 else 0)else e
def txF(D:ByteArray) (n e:Int):ByteArray×Int×Int:=if txE (lnF D n e).1 (lnF D n e).2.2≠0 then(mkS [],(lnF D n e).2.1,txE (lnF D n e).1 (lnF D n e).2.2)else tkF D (lnF D n e).2.1 0 (lnF D n e).1
def z6h:Ct where
 σ:=DcR
 args:=λ_=>[.ptr 1 0]
 h:=λ⟨x,y,D,n,all,e⟩=>dcO x y n all e
 m:=2
 pre:=λ⟨x,y,D,n,all,e⟩=>z0x D n
 mem:=λ⟨x,y,D,n,all,e⟩=>dM y D
 r:=λ⟨x,y,D,n,all,e⟩=> .sv (.string (txF D n e).1)
 h':=λ⟨x,y,D,n,all,e⟩=>dcO x y (txF D n e).2.1 all (txF D n e).2.2
 m':=2
 g:=λ_=>none
def ixE(m e k:Int):Int:=if e=0/\(m<0\/k<=m)then 2 else e
def ixF(D:ByteArray) (n e k:Int):Int×Int×Int:=(if ixE (lnF D n e).1 (lnF D n e).2.2 k≠0 then 0 else(lnF D n e).1,(lnF D n e).2.1,ixE (lnF D n e).1 (lnF D n e).2.2 k)
def z7f:Ct where
 σ:=DcR×Int
 args:=λ⟨⟨x,y,D,n,all,e⟩,k⟩=>[.ptr 1 0, .sv (.int .i64 k)]
 h:=λ⟨⟨x,y,D,n,all,e⟩,k⟩=>dcO x y n all e
 m:=2
 pre:=λ⟨⟨x,y,D,n,all,e⟩,k⟩=>z0x D n/\0<=k/\k<9223372036854775808
 mem:=λ⟨⟨x,y,D,n,all,e⟩,k⟩=>dM y D
 r:=λ⟨⟨x,y,D,n,all,e⟩,k⟩=> .sv (.int .i64 (ixF D n e k).1)
 h':=λ⟨⟨x,y,D,n,all,e⟩,k⟩=>dcO x y (ixF D n e k).2.1 all (ixF D n e k).2.2
 m':=2
 g:=λ_=>none
def loL:List UInt8->Nat
 | []=>0
 |c::l=>c.toNat+256*loL l
def znu:Ct where
 σ:=DcR×Int
 args:=λ⟨⟨x,y,D,n,all,e⟩,k⟩=>[.ptr 1 0, .sv (.int .i64 k)]
 h:=λ⟨⟨x,y,D,n,all,e⟩,k⟩=>dcO x y n all e
 m:=2
 pre:=λ⟨⟨x,y,D,n,all,e⟩,k⟩=>z0x D n/\0<=k/\k<=8
 mem:=λ⟨⟨x,y,D,n,all,e⟩,k⟩=>dM y D
 r:=λ⟨⟨x,y,D,n,all,e⟩,k⟩=> .sv (.int .u64 (loL (tkF D n e k).1.data.toList:Nat))
 h':=λ⟨⟨x,y,D,n,all,e⟩,k⟩=>dcO x y (tkF D n e k).2.1 all (tkF D n e k).2.2
 m':=2
 g:=λ_=>none
def zy7:DcR×Int->WayF:=λ⟨⟨x,y,D,n,all,e⟩,k⟩=>{
 ann:=λ_ _ _=>some {σ:=Nat,pre:=λj=>j<=(tkF D n e k).1.size,t:=λj=>[(6, .sv (.int .u64 (loL ((tkF D n e k).1.data.toList.drop j):Nat))),(7, .sv (.int .i64 ((j:Int)- 1)))],h:=λ_=>[],more:=0,μ:=λj=>j,keep:=[5]}}
def zq5(r:Nat):qm2 P (λ_=>none) Go.Proofs.Tryz.f121 znz (λ_=>{}) r=(r<(18446744073709551616:Nat)->(2:Int)≠(0:Int)/\(decide (Int.tmod (↑r:Int) (2:Int)=(1:Int))=true->(2:Int)≠(0:Int)/\unz r % (18446744073709551616:Int)=qbu BinOp.xor u64 (IntKind.max u64) (IntKind.wrap u64 (Int.tdiv (↑r:Int) (2:Int)))/\True)/\(decide (Int.tmod (↑r:Int) (2:Int)=(1:Int))=false->(2:Int)≠(0:Int)/\unz r % (18446744073709551616:Int)=IntKind.wrap u64 (Int.tdiv (↑r:Int) (2:Int))/\True)):=by kernel_rfl
def zh8(r:Nat):qm2 P (qh2 [(121,znz)]) Go.Proofs.Tryz.f95 zc4 (λ_=>{}) r=(r<(18446744073709551616:Nat)->∃(s:Nat),(↑s:Int)=(↑r:Int)/\s<(18446744073709551616:Nat)/\unz r % (18446744073709551616:Int)=unz s % (18446744073709551616:Int)/\True):=by kernel_rfl
def zgy(x y:SV) (n all e k:Int):qm2 P (λ_=>none) Go.Proofs.Tryz.f55 z34 (λ_=>{}) ⟨x,y,n,all,e,k⟩=(True->(decide (e=(0:Int))=true->Prod.fst x=Prod.fst x/\Prod.fst (Prod.snd x)=Prod.fst (Prod.snd x)/\Prod.snd (Prod.snd x)=Prod.snd (Prod.snd x)/\Prod.fst y=Prod.fst y/\Prod.fst (Prod.snd y)=Prod.fst (Prod.snd y)/\Prod.snd (Prod.snd y)=Prod.snd (Prod.snd y)/\n=n/\all=all/\(if e=(0:Int)then k else e)=k/\True)/\(decide (e=(0:Int))=false->Prod.fst x=Prod.fst x/\Prod.fst (Prod.snd x)=Prod.fst (Prod.snd x)/\Prod.snd (Prod.snd x)=Prod.snd (Prod.snd x)/\Prod.fst y=Prod.fst y/\Prod.fst (Prod.snd y)=Prod.fst (Prod.snd y)/\Prod.snd (Prod.snd y)=Prod.snd (Prod.snd y)/\n=n/\all=all/\(if e=(0:Int)then k else e)=e/\True)):=by kernel_rfl
section
variable (x0:Int) (x1 x2:SV) (x3 x4:Int) (x5:ByteArray) (x6:Int) (x7:Prop) (x8:Nat->Option Obj)
 abbrev zq9:=True/\x1.2.1=size x5/\qil x8 x1.1 x1.2.1 x1.2.2 (q1h x5)
 def zn7:=(!decide (x0=0))= !decide (x0=0)
 def zez:=zn7 x0/\zn7 x0/\zn7 x0/\zn7 x0/\zn7 x0/\x7
 abbrev j3h:=∃(i0:(Option Addr×Nat×Nat)×(Option Addr×Nat×Nat)×Int×Int×Int×Int),i0.2.2.2.2.2=2/\i0.1.1=x1.1/\i0.1.2.1=x1.2.1/\i0.1.2.2=x1.2.2/\i0.2.1.1=x2.1/\i0.2.1.2.1=x2.2.1/\i0.2.1.2.2=x2.2.2/\i0.2.2.1=x0/\i0.2.2.2.1=x3/\i0.2.2.2.2.1=x4/\True/\(tkF x5 x0 x4 x6).1=mkS []/\x1.1=i0.1.1/\x1.2.1=i0.1.2.1/\x1.2.2=i0.1.2.2/\x2.1=i0.2.1.1/\x2.2.1=i0.2.1.2.1/\x2.2.2=i0.2.1.2.2/\(tkF x5 x0 x4 x6).2.1=i0.2.2.1/\x3=i0.2.2.2.1/\((tkF x5 x0 x4 x6).2.2=if i0.2.2.2.2.1=0 then i0.2.2.2.2.2 else i0.2.2.2.2.1)/\True
 def j89:=zn7 x0/\zez x0 (zez x0 (((!decide (x0=0))=true->j3h x3 x1 x2 x4 x0 x5 x6)/\((!decide (x0=0))=false->False)))
 abbrev j3j:=λ(i0:Nat)=>(λ(i1:Nat)=>(λ(i2:Nat)=>i2) i1) i0
 abbrev j3i:=λ(i0:Nat)=>(λ(i1:Nat)=>(λ(i2:Nat)=>(0:Nat)) i1) i0
 def j5j:=x1.1=x1.1/\x1.2.1=x1.2.1/\x1.2.2=x1.2.2/\x7
 def j88:=Jb (x0+x3)/\x1.2.1<=x1.2.2/\(0<=x0/\x0<=x0+x3/\x0+x3<=(↑x1.2.2:Int))/\∃i0,size i0=Int.rec (j3j) (j3i) (x0+x3)- Int.rec (j3j) (j3i) x0/\(∀i13,zq9 x1 x5 i13->qik i13 (slA x1.1 x1.2.2 (Int.rec (j3j) (j3i) x0) 1) (q1h i0))/\Jb (x0+x3)/\(tkF x5 x0 x4 x3).1=i0/\j5j x2 (j5j x1 ((tkF x5 x0 x4 x3).2.1=x0+x3/\x6=x6/\(tkF x5 x0 x4 x3).2.2=x4/\True))
 def j87:=Ji ((↑x1.2.1:Int)- x0<x3) (j3h x0 x2 x1 x4 x6 x5 x3) (j88 x0 x1 x2 x3 x6 x5 x4)
 def j86:=zez x0 (zez x0 (Jb ((↑x1.2.1:Int)- x3)/\zn7 x0/\((!decide (x0=0))=true->j3h x3 x2 x1 x4 x0 x5 x6)/\((!decide (x0=0))=false->j87 x3 x1 x2 x6 x4 x5 x0)))
 def j85:=((!decide (x0=0))=true->j89 x0 x1 x2 x3 x4 x5 x6)/\((!decide (x0=0))=false->j86 x0 x2 x1 x3 x4 x5 x6)
end
def ze2(x y:SV) (D:ByteArray) (n all e k:Int):qm2 P (qh2 [(55,z34)]) Go.Proofs.Tryz.f61 z6g (λ_=>{}) ⟨⟨x,y,D,n,all,e⟩,k⟩=(z0x D n/\0<=k/\k<9223372036854775808->(∃(p:Pub),zq9 y D p)->j85 e x y n all D k):=by kernel_rfl
def ziq:=λx y D n all e k=>Eq.trans (ze2 x y D n all e k) (by delta Ji Jb Jt Jf zq9 zn7 zez j3h j89 j3j j3i j5j j88 j87 j86 j85;exact rfl)
section
variable (x0:Int) (x1:ByteArray) (x2:Int) (x3 x4:SV) (x5:Int) (x6:ByteArray) (x7:Prop) (x8:Nat->Option Obj)
 def j5l:=True/\x3.2.1=size x1/\qil x8 x3.1 x3.2.1 x3.2.2 (q1h x1)
 def zym:=x3.1=x3.1/\x3.2.1=x3.2.1/\x3.2.2=x3.2.2/\x7
 def zyl:=(lnF x1 x0 x2).1=0/\zym x3 (zym x4 ((lnF x1 x0 x2).2.1=x0/\x5=x5/\(lnF x1 x0 x2).2.2=x2/\True))
 abbrev zqa:=(↑x3.2.1:Int)
 abbrev j3m:=λ(i0:Nat)=>(λ(i1:Nat)=>(λ(i2:Nat)=>i2) i1) i0
 abbrev j3l:=λ(i0:Nat)=>(λ(i1:Nat)=>(λ(i2:Nat)=>(0:Nat)) i1) i0
 abbrev j3k:=(↑(Proofs.YtniogjgfomaicaaGreat.Rv.verr (Array.toList (ByteArray.data x1))):Int)
 abbrev j5k:=(↑(Proofs.YtniogjgfomaicaaGreat.Rv.vlen (Array.toList (ByteArray.data x1))):Int)
 def j8c:=Jb (x0+(j5k x1))/\∃(i0:Nat),(↑i0:Int)=(↑(Proofs.YtniogjgfomaicaaGreat.Rv.vval (Array.toList (ByteArray.data x1))):Int)/\i0<18446744073709551616/\(lnF x6 x0 x2).1=IntKind.wrap i64 (unz i0 % 18446744073709551616)/\zym x3 (zym x4 ((lnF x6 x0 x2).2.1=x0+(j5k x1)/\x5=x5/\(lnF x6 x0 x2).2.2=x2/\True))
 abbrev j8b:=Jb (x0+10)/\x3.2.1<=x3.2.2/\(0<=x0/\(x0<=if x0+10<(zqa x3)then x0+10 else(zqa x3))/\(if x0+10<(zqa x3)then x0+10 else(zqa x3))<=(↑x3.2.2:Int))/\∃i0,size i0=Int.rec (j3m) (j3l) (if x0+10<(zqa x3)then x0+10 else(zqa x3))- Int.rec (j3m) (j3l) x0/\(∀i13,j5l x1 x3 i13->qik i13 (slA x3.1 x3.2.2 (Int.rec (j3m) (j3l) x0) 1) (q1h i0))/\i0=i0/\size i0<1000000/\((!decide ((j3k i0)=0))=true->∃(i20:(Option Addr×Nat×Nat)×(Option Addr×Nat×Nat)×Int×Int×Int×Int),i20.2.2.2.2.2=(j3k i0)/\i20.1.1=x4.1/\i20.1.2.1=x4.2.1/\i20.1.2.2=x4.2.2/\i20.2.1.1=x3.1/\i20.2.1.2.1=x3.2.1/\i20.2.1.2.2=x3.2.2/\i20.2.2.1=x0/\i20.2.2.2.1=x2/\i20.2.2.2.2.1=x5/\True/\(lnF x1 x0 x5).1=0/\x4.1=i20.1.1/\x4.2.1=i20.1.2.1/\x4.2.2=i20.1.2.2/\x3.1=i20.2.1.1/\x3.2.1=i20.2.1.2.1/\x3.2.2=i20.2.1.2.2/\(lnF x1 x0 x5).2.1=i20.2.2.1/\x2=i20.2.2.2.1/\((lnF x1 x0 x5).2.2=if i20.2.2.2.2.1=0 then i20.2.2.2.2.2 else i20.2.2.2.2.1)/\True)/\((!decide ((j3k i0)=0))=false->j8c x0 i0 x5 x4 x3 x2 x1)
 def j8a:=((!decide (x0=0))=true->zyl x2 x1 x0 x3 x4 x5)/\((!decide (x0=0))=false->j8b x2 x1 x5 x4 x3 x0)
end
def zd5(x y:SV) (D:ByteArray) (n all e:Int):qm2 P (qh2 [(55,z34),(94,zwl),(95,zc4)]) Go.Proofs.Tryz.f57 z43 (λ_=>{}) ⟨x,y,D,n,all,e⟩=(z0x D n->(∃(p:Pub),j5l D y p)->j8a e D n x y all):=by kernel_rfl
def zhq:=λx y D n all e=>Eq.trans (zd5 x y D n all e) (by delta Jb j5l zym zyl zqa j3m j3l j3k j5k j8c j8b j8a;exact rfl)
section
variable (x0:(Option Addr×Nat×Nat)×(Option Addr×Nat×Nat)×Int×Int×Int×Int) (x1:ByteArray) (x2 x3:Int) (x4 x5:SV) (x6:Int) (x7:DcR) (x8:DcR×Int) (x9:Prop) (x10:Nat->Option Obj)
 abbrev j3o:=True/\x4.2.1=size x1/\qil x10 x4.1 x4.2.1 x4.2.2 (q1h x1)
 def zyn:=x7.2.1.2.1=size x7.2.2.1/\qil x10 x7.2.1.1 x7.2.1.2.1 x7.2.1.2.2 (q1h x7.2.2.1)
 abbrev za5:=lnF x7.2.2.1 x7.2.2.2.1 x7.2.2.2.2.2
 def j5n:=x0.2.2.2.2.2=x2/\x0.1.1=x7.1.1/\x0.1.2.1=x7.1.2.1/\x0.1.2.2=x7.1.2.2/\x0.2.1.1=x7.2.1.1/\x0.2.1.2.1=x7.2.1.2.1/\x0.2.1.2.2=x7.2.1.2.2/\x0.2.2.1=(za5 x7).2.1/\x0.2.2.2.1=x7.2.2.2.2.1/\x0.2.2.2.2.1=(za5 x7).2.2/\True/\x9
 abbrev zqb:= !decide ((if x0.2.2.2.2.1=0 then x0.2.2.2.2.2 else x0.2.2.2.2.1)=0)
 abbrev j8g:=(txF x1 x2 x3).1=mkS []/\x4.1=x0.1.1/\x4.2.1=x0.1.2.1/\x4.2.2=x0.1.2.2/\x5.1=x0.2.1.1/\x5.2.1=x0.2.1.2.1/\x5.2.2=x0.2.1.2.2/\(txF x1 x2 x3).2.1=x0.2.2.1/\x6=x0.2.2.2.1/\((txF x1 x2 x3).2.2=if x0.2.2.2.2.1=0 then x0.2.2.2.2.2 else x0.2.2.2.2.1)/\True
 def j8h:=x8.1.2.1.2.1=size x8.1.2.2.1/\qil x10 x8.1.2.1.1 x8.1.2.1.2.1 x8.1.2.1.2.2 (q1h x8.1.2.2.1)
 abbrev zjg:=tkF x8.1.2.2.1 x8.1.2.2.2.1 x8.1.2.2.2.2.2 x8.2
 def j5m:=(z0x x8.1.2.2.1 x8.1.2.2.2.1/\0<=x8.2/\x8.2<9223372036854775808)/\(∀i0,j3o x1 x4 i0->j8h x8 i0)/\(txF x1 x2 x3).1=(zjg x8).1/\x5.1=x8.1.1.1/\x5.2.1=x8.1.1.2.1/\x5.2.2=x8.1.1.2.2/\x4.1=x8.1.2.1.1/\x4.2.1=x8.1.2.1.2.1/\x4.2.2=x8.1.2.1.2.2/\(txF x1 x2 x3).2.1=(zjg x8).2.1/\x6=x8.1.2.2.2.2.1/\(txF x1 x2 x3).2.2=(zjg x8).2.2/\True
 abbrev j3n:=((zqb x0)=true->j8g x0 x1 x2 x3 x4 x5 x6)/\((zqb x0)=false->∃(i0:DcR×Int),i0.2=(za5 x7).1/\i0.1.1.1=x0.1.1/\i0.1.1.2.1=x0.1.2.1/\i0.1.1.2.2=x0.1.2.2/\i0.1.2.1.1=x0.2.1.1/\i0.1.2.1.2.1=x0.2.1.2.1/\i0.1.2.1.2.2=x0.2.1.2.2/\i0.1.2.2.2.1=x0.2.2.1/\i0.1.2.2.2.2.1=x0.2.2.2.1/\(i0.1.2.2.2.2.2=if x0.2.2.2.2.1=0 then x0.2.2.2.2.2 else x0.2.2.2.2.1)/\j5m x1 x2 x3 x5 x4 x6 i0)
 def j8f:=(txF x1 x2 x3).1=mkS []/\x4.1=x7.1.1/\x4.2.1=x7.1.2.1/\x4.2.2=x7.1.2.2/\x5.1=x7.2.1.1/\x5.2.1=x7.2.1.2.1/\x5.2.2=x7.2.1.2.2/\(txF x1 x2 x3).2.1=(za5 x7).2.1/\x6=x7.2.2.2.2.1/\(txF x1 x2 x3).2.2=(za5 x7).2.2/\True
 def j8e:=((!decide ((za5 x7).2.2=0))=true->j8f x1 x2 x3 x4 x5 x6 x7)/\((!decide ((za5 x7).2.2=0))=false->∃(i0:DcR×Int),i0.2=(za5 x7).1/\i0.1.1.1=x7.1.1/\i0.1.1.2.1=x7.1.2.1/\i0.1.1.2.2=x7.1.2.2/\i0.1.2.1.1=x7.2.1.1/\i0.1.2.1.2.1=x7.2.1.2.1/\i0.1.2.1.2.2=x7.2.1.2.2/\i0.1.2.2.2.1=(za5 x7).2.1/\i0.1.2.2.2.2.1=x7.2.2.2.2.1/\i0.1.2.2.2.2.2=(za5 x7).2.2/\j5m x1 x2 x3 x5 x4 x6 i0)
 def j8d:=Ji (5000<(za5 x7).1) (∃(i0:(Option Addr×Nat×Nat)×(Option Addr×Nat×Nat)×Int×Int×Int×Int),j5n i0 3 x7 (j3n i0 x1 x2 x3 x4 x5 x6 x7)) (j8e x1 x2 x3 x4 x5 x6 x7)
end
def ze3(x y:SV) (D:ByteArray) (n all e:Int):qm2 P (qh2 [(55,z34),(57,z43),(61,z6g)]) Go.Proofs.Tryz.f58 z6h (λ_=>{}) ⟨x,y,D,n,all,e⟩=(z0x D n->(∃(p:Pub),j3o D y p)->∃(s:DcR),s.1.1=x.1/\s.1.2.1=x.2.1/\s.1.2.2=x.2.2/\s.2.1.1=y.1/\s.2.1.2.1=y.2.1/\s.2.1.2.2=y.2.2/\s.2.2.2.1=n/\s.2.2.2.2.1=all/\s.2.2.2.2.2=e/\z0x s.2.2.1 s.2.2.2.1/\(∀(p:Pub),j3o D y p->zyn s p)/\Ji ((za5 s).1<0) (∃(s_1:(Option Addr×Nat×Nat)×(Option Addr×Nat×Nat)×Int×Int×Int×Int),j5n s_1 2 s (Ji (5000<(za5 s).1) (∃(s_2:(Option Addr×Nat×Nat)×(Option Addr×Nat×Nat)×Int×Int×Int×Int),s_2.2.2.2.2.2=3/\s_2.1.1=s_1.1.1/\s_2.1.2.1=s_1.1.2.1/\s_2.1.2.2=s_1.1.2.2/\s_2.2.1.1=s_1.2.1.1/\s_2.2.1.2.1=s_1.2.1.2.1/\s_2.2.1.2.2=s_1.2.1.2.2/\s_2.2.2.1=s_1.2.2.1/\s_2.2.2.2.1=s_1.2.2.2.1/\(s_2.2.2.2.2.1=if s_1.2.2.2.2.1=0 then s_1.2.2.2.2.2 else s_1.2.2.2.2.1)/\True/\j3n s_2 D n e x y all s) (j3n s_1 D n e x y all s))) (j8d D n e x y all s)):=by kernel_rfl
def zir:=λx y D n all e=>Eq.trans (ze3 x y D n all e) (by delta Ji Jt Jf j3o zyn za5 j5n zqb j8g j8h zjg j5m j3n j8f j8e j8d;exact rfl)
section
variable (x0:DcR) (x1:ByteArray) (x2 x3 x4:Int) (x5 x6:SV) (x7:Int) (x8:Prop) (x9:Nat->Option Obj)
 abbrev j5q:=True/\x5.2.1=size x1/\qil x9 x5.1 x5.2.1 x5.2.2 (q1h x1)
 def j8j:=x0.2.1.2.1=size x0.2.2.1/\qil x9 x0.2.1.1 x0.2.1.2.1 x0.2.1.2.2 (q1h x0.2.2.1)
 abbrev zn8:=lnF x0.2.2.1 x0.2.2.2.1 x0.2.2.2.2.2
 abbrev j3q:=(zn8 x0).2.2=0
 def j3p:=x5.1=x0.1.1/\x5.2.1=x0.1.2.1/\x5.2.2=x0.1.2.2/\x6.1=x0.2.1.1/\x6.2.1=x0.2.1.2.1/\x6.2.2=x0.2.1.2.2/\(ixF x1 x2 x3 x4).2.1=(zn8 x0).2.1/\x7=x0.2.2.2.2.1/\x8
 def j5p:=(ixF x1 x2 x3 x4).1=0/\j3p x0 x1 x2 x3 x4 x5 x6 x7 ((ixF x1 x2 x3 x4).2.2=2/\True)
 def j8k:=(ixF x1 x2 x3 x4).1=(zn8 x0).1/\j3p x0 x1 x2 x3 x4 x5 x6 x7 ((ixF x1 x2 x3 x4).2.2=(zn8 x0).2.2/\True)
 def j5o:=((!decide (j3q x0))=true->(ixF x1 x2 x3 x4).1=0/\j3p x0 x1 x2 x3 x4 x5 x6 x7 ((ixF x1 x2 x3 x4).2.2=(zn8 x0).2.2/\True))/\((!decide (j3q x0))=false->j8k x0 x1 x2 x3 x4 x5 x6 x7)
 def j8i:=Ji ((zn8 x0).1<0) (j5p x0 x1 x2 x3 x4 x5 x6 x7) (Ji (x4<=(zn8 x0).1) (j5p x0 x1 x2 x3 x4 x5 x6 x7) (j5o x0 x1 x2 x3 x4 x5 x6 x7))
end
def zan(x y:SV) (D:ByteArray) (n all e k:Int):qm2 P (qh2 [(57,z43)]) Go.Proofs.Tryz.f60 z7f (λ_=>{}) ⟨⟨x,y,D,n,all,e⟩,k⟩=(z0x D n/\0<=k/\k<9223372036854775808->(∃(p:Pub),j5q D y p)->∃(s:DcR),s.1.1=x.1/\s.1.2.1=x.2.1/\s.1.2.2=x.2.2/\s.2.1.1=y.1/\s.2.1.2.1=y.2.1/\s.2.1.2.2=y.2.2/\s.2.2.2.1=n/\s.2.2.2.2.1=all/\s.2.2.2.2.2=e/\z0x s.2.2.1 s.2.2.2.1/\(∀(p:Pub),j5q D y p->j8j s p)/\Ji (j3q s) (j8i s D n e k x y all) (j5o s D n e k x y all)):=by kernel_rfl
def zcq:=λx y D n all e k=>Eq.trans (zan x y D n all e k) (by delta Ji Jt Jf j5q j8j zn8 j3q j3p j5p j8k j5o j8i;exact rfl)
section
variable (x0:Nat) (x1:DcR×Int) (x2:ByteArray) (x3 x4 x5:Int) (x6 x7:SV) (x8:Int) (x9:Prop) (x10:Nat->Option Obj)
 abbrev zyo:=True/\x6.2.1=size x2/\qil x10 x6.1 x6.2.1 x6.2.2 (q1h x2)
 def j8o:=x1.1.2.1.2.1=size x1.1.2.2.1/\qil x10 x1.1.2.1.1 x1.1.2.1.2.1 x1.1.2.1.2.2 (q1h x1.1.2.2.1)
 abbrev zb5:=tkF x1.1.2.2.1 x1.1.2.2.2.1 x1.1.2.2.2.2.2 x1.2
 abbrev j3s:=(↑(size (zb5 x1).1):Int)
 abbrev zyp:=(↑(loL (drop x0 (Array.toList (ByteArray.data (tkF x2 x3 x4 x5).1)))):Int)
 def j5r:=x1.1.1.1=x1.1.1.1/\x1.1.1.2.1=x1.1.1.2.1/\x1.1.1.2.2=x1.1.1.2.2/\x1.1.2.1.1=x1.1.2.1.1/\x1.1.2.1.2.1=x1.1.2.1.2.1/\x1.1.2.1.2.2=x1.1.2.1.2.2/\(zb5 x1).2.1=(zb5 x1).2.1/\x1.1.2.2.2.2.1=x1.1.2.2.2.2.1/\(zb5 x1).2.2=(zb5 x1).2.2/\(∀i0,zyo x2 x6 i0->zyo x2 x6 i0)/\x0<=size (tkF x2 x3 x4 x5).1/\x9
 abbrev j3r:=(↑(bat (zb5 x1).1 (toNat ((↑x0:Int)- 1))):Int)
 def j8m:=(0:Int)<=8/\(0<=(↑x0:Int)- 1/\(↑x0:Int)- 1<(j3s x1))/\(0<=(j3r x0 x1)/\(j3r x0 x1)<=18446744073709551615)/\Jb ((↑x0:Int)- 1- 1)/\∃(i0:Nat),(↑i0:Int)- 1=(↑x0:Int)- 1- 1/\(zb5 x1).1=(zb5 x1).1/\(zyp i0 x2 x3 x4 x5)=qbu BinOp.or u64 (shP BinOp.shl u64 (zyp x0 x2 x3 x4 x5) 8) (j3r x0 x1)/\j5r i0 x1 x2 x3 x4 x5 x6 (i0<x0/\True)
 def j8n:=(↑(loL (Array.toList (ByteArray.data (tkF x2 x3 x4 x5).1))):Int)=(zyp x0 x2 x3 x4 x5)/\x6.1=x1.1.1.1/\x6.2.1=x1.1.1.2.1/\x6.2.2=x1.1.1.2.2/\x7.1=x1.1.2.1.1/\x7.2.1=x1.1.2.1.2.1/\x7.2.2=x1.1.2.1.2.2/\(tkF x2 x3 x4 x5).2.1=(zb5 x1).2.1/\x8=x1.1.2.2.2.2.1/\(tkF x2 x3 x4 x5).2.2=(zb5 x1).2.2/\True
 def j8l:=Ji (0<=(↑x0:Int)- 1) (j8m x0 x1 x2 x3 x4 x5 x6) (j8n x0 x1 x2 x3 x4 x5 x7 x6 x8)
end
def zhs(x y:SV) (D:ByteArray) (n all e k:Int):qm2 P (qh2 [(61,z6g)]) Go.Proofs.Tryz.f56 znu (zy7) ⟨⟨x,y,D,n,all,e⟩,k⟩=(z0x D n/\0<=k/\k<=8->(∃(p:Pub),zyo D y p)->∃(s:DcR×Int),s.2=k/\s.1.1.1=x.1/\s.1.1.2.1=x.2.1/\s.1.1.2.2=x.2.2/\s.1.2.1.1=y.1/\s.1.2.1.2.1=y.2.1/\s.1.2.1.2.2=y.2.2/\s.1.2.2.2.1=n/\s.1.2.2.2.2.1=all/\s.1.2.2.2.2.2=e/\(z0x s.1.2.2.1 s.1.2.2.2.1/\0<=s.2/\s.2<9223372036854775808)/\(∀(p:Pub),zyo D y p->j8o s p)/\Jb ((j3s s)- 1)/\(∃(s_1:Nat),(↑s_1:Int)- 1=(j3s s)- 1/\(zb5 s).1=(zb5 s).1/\(zyp s_1 D n e k)=0/\j5r s_1 s D n e k y True)/\∀(s_1:Nat),s_1<=size (tkF D n e k).1->j8l s_1 s D n e k y x all):=by kernel_rfl
def zor:=λx y D n all e k=>Eq.trans (zhs x y D n all e k) (by delta Ji Jb Jt Jf zyo j8o zb5 j3s zyp j5r j3r j8m j8n j8l;exact rfl)
section
open Go.Proofs.YtniogjgfomaicaaGreat.Rv
def zq6:q5k P 121 znz:=by
 refine qm5 mixed z0p (W:=λ_=>{}) Go.Proofs.Tryz.func121 (by kernel_rfl) (by decide) (by decide) (λs=>by kernel_rfl) λ(r:Nat)=>(zq5 r).mpr ?_
 intro h
 have e1:Int.tmod (r:Int) 2=(r:Int) % 2:=Int.tmod_eq_emod_of_nonneg (by omega)
 have e2:Int.tdiv (r:Int) 2=((r / 2:Nat):Int):=by rw[Int.tdiv_eq_ediv_of_nonneg (by omega)];omega
 have w:IntKind.wrap .u64 ((r / 2:Nat):Int)=((r / 2:Nat):Int):=by rw[wrap_u64];omega
 simp only[decide_eq_true_eq,decide_eq_false_iff_not,e1,e2,w,and_true]
 unfold unz
 refine⟨by decide,λh1=>⟨by decide,?_⟩,λh0=>⟨by decide,?_⟩⟩
 ·rw[zhw _ (by omega),if_neg (by omega)];omega
 ·rw[if_pos (by omega)];omega
def zq2:q5k P 94 zwl:=
 qlw (Sen.enters_of Go.Proofs.Tryz.func94 (by kernel_rfl)) (by decide) (by decide) (λs=>[.string s]) (λs=> .tuple #[.int .u64 (vval s.data.toList:Nat), .int .i64 (vlen s.data.toList:Nat), .int .i64 (verr s.data.toList:Nat)]) (λs=>rfl) (λs=>rfl) (λs=>rfl) (λs=>rfl)
  (λs I=> .tup (.cons (.sv _) (.cons (.sv _) (.cons (.sv _) .nil))))
  λs w h=>(rvarint_any s w (by have:s.size<1000000:=h;unfold maxLen;omega)).mono λe w' he=>by
   obtain⟨rfl,rfl⟩:=he
   exact⟨rfl, .refl _ _⟩
def zh9:q5k P 95 zc4:=by
 refine qm5 mixed (qee (qih zq6 qlq)) (W:=λ_=>{}) Go.Proofs.Tryz.func95 (by kernel_rfl) (by decide) (by decide) (λs=>by kernel_rfl) λ(r:Nat)=>(zh8 r).mpr ?_
 exactλh=>⟨r,rfl,h,rfl,trivial⟩
def z25:q5k P 55 z34:=by
 refine qm5 mixed z0p (W:=λ_=>{}) Go.Proofs.Tryz.func55 (by kernel_rfl) (by decide) (by decide) (λs=>by kernel_rfl) λ⟨(x:SV),(y:SV),(n:Int),(all:Int),(e:Int),(k:Int)⟩=>(zgy x y n all e k).mpr ?_
 intro _
 simp only[decide_eq_true_eq,decide_eq_false_iff_not,true_and,and_true,eq_self]
 exact⟨λh=>if_pos h,λh=>if_neg h⟩
def j53{x:Addr} (h:x.spot=none) (k:Nat):(x.add k).spot=none:=by
 unfold Addr.add;split
 ·exact h
 ·rfl
def z9l{p:Pub} {a:Option Addr} {c l:Nat} {vs us:List Value} (h:qik p a vs) (hl:l<=c) (hlen:vs.length<=c) (hu:∀(j:Nat) v,us[j]? =some v->vs[l+j]? =some v):qik p (slA a c l 1) us:=by
  cases us with
  |nil=>exact .inl ⟨rfl,trivial⟩
  | cons u us=>
    have h0:=hu 0 u rfl
    rcases h with⟨rfl,_⟩|⟨x,rfl,hs,hc⟩
    · simp at h0
    · have hne:c≠l:=λe=>by
        subst e
        have:=(List.getElem?_eq_some_iff.mp h0).1
        omega
      refine .inr ⟨x.add (l*1),?_,j53 hs _,λj v hj=> ?_⟩
      · unfold slA;rw[if_neg hne];rfl
      · have:=hc (l+j) v (hu j v hj)
        rw[Addr.add_add,Nat.mul_one];exact this
def zm6(D:ByteArray) (i m:Nat) (h:m<=D.size):∀(j:Nat) v,(q1h (D.extract i m))[j]? =some v->(q1h D)[i+j]? =some v:=λj v hj=>by
 unfold q1h at hj⊢
 rw[ByteArray.data_extract,Array.toList_extract]at hj
 change(List.map _ (List.take (m- i) (List.drop i D.data.toList)))[j]? =some v at hj
 rw[List.getElem?_map,List.getElem?_take]at hj
 rw[List.getElem?_map]
 split at hj
 ·rw[List.getElem?_drop]at hj;exact hj
 ·simp at hj
def toN(z:Int):(Int.rec (λa=>(λa=>(λn=>n) a) a) (λa=>(λa=>(λa=>0) a) a) z:Nat)=z.toNat:=by cases z<;>rfl
def z5o:q5k P 61 z6g:=by
 refine qm5 mixed (qee (qih z25 qlq)) (W:=λ_=>{}) Go.Proofs.Tryz.func61 (by kernel_rfl) (by decide) (by decide) (λs=>by kernel_rfl) λ⟨⟨(x:SV),(y:SV),D,(n:Int),(all:Int),(e:Int)⟩,(k:Int)⟩=>(ziq x y D n all e k).mpr ?_
 rintro⟨⟨hn0,hn1,hD⟩,hk0,hk1⟩ ⟨p,_,hyl,hy⟩
 have hc:=hy.1
 simp only[sbS,hyl,toN]
 have bad:(e≠0\/(D.size:Int)- n<k)->tkF D n e k=(mkS [],n,if e=0 then 2 else e):=λh=>by unfold tkF;rw[if_pos h]
 refine⟨λhe=>⟨λ_=> ?_,λh=>absurd h he⟩,λhe=>⟨⟨by omega,by omega⟩,λh=>absurd he h,λ_=>⟨λhlt=> ?_,λhge=> ?_⟩⟩⟩
 ·rw[bad (.inl he)]
  exact⟨⟨x,y,n,all,e,2⟩,rfl,rfl,rfl,rfl,rfl,hyl,rfl,rfl,rfl,rfl,rfl,rfl,rfl,rfl,rfl,hyl.symm,rfl,rfl,rfl,rfl⟩
 ·rw[bad (.inr hlt)]
  exact⟨⟨x,y,n,all,e,2⟩,rfl,rfl,rfl,rfl,rfl,hyl,rfl,rfl,rfl,rfl,rfl,rfl,rfl,rfl,rfl,hyl.symm,rfl,rfl,rfl,rfl⟩
 ·have ok:tkF D n e k=(D.extract n.toNat (n+k).toNat,n+k,e):=by unfold tkF;rw[if_neg (by omega)]
  rw[ok]
  refine⟨⟨by omega,by omega⟩,by omega,⟨hn0,by omega,by omega⟩,D.extract n.toNat (n+k).toNat,?_,λq hq=> ?_,⟨by omega,by omega⟩,rfl,rfl,rfl⟩
  ·rw[ByteArray.size_extract];omega
  ·exact z9l hq.2 (by omega) (by rw[q3b];omega) (zm6 D _ _ (by omega))
variable {D:ByteArray}
def z9d{n:Int} (h:z0x D n):(lnS D n).size=(min (D.size:Int) (n+10)).toNat- n.toNat:=by
 obtain⟨h0,h1,h2⟩:=h
 unfold lnS
 rw[ByteArray.size_extract];omega
def zho{n e:Int} (h:z0x D n):z0x D (lnF D n e).2.1/\n<=(lnF D n e).2.1/\ -9223372036854775808<=(lnF D n e).1/\(lnF D n e).1<9223372036854775808/\(0<=e->0<=(lnF D n e).2.2):=by
 have hs:=z9d h
 obtain⟨h0,h1,h2⟩:=h
 obtain⟨v1,v2,v3,v4⟩:=z3y (lnS D n).data.toList
 have hl:(lnS D n).data.toList.length=(lnS D n).size:=rfl
 have u:=z9x _ v1
 unfold lnF z0x
 split
 ·exact⟨⟨h0,h1,h2⟩,Int.le_refl _,by show _<=(0:Int);decide,by show(0:Int)<_;decide,λh=>h⟩
 ·split
  ·exact⟨⟨by show 0<=n+_;omega,by show n+_<=_;omega,h2⟩,by show n<=n+_;omega,u.1,u.2,λ_=>Int.le_refl _⟩
  ·exact⟨⟨h0,h1,h2⟩,Int.le_refl _,by show _<=(0:Int);decide,by show(0:Int)<_;decide,λ_=>by show(0:Int)<=(verr _:Nat);omega⟩
def z2o:q5k P 57 z43:=by
 refine qm5 mixed (qee (qih z25 (qih zq2 (qih zh9 qlq)))) (W:=λ_=>{}) Go.Proofs.Tryz.func57 (by kernel_rfl) (by decide) (by decide) (λs=>by kernel_rfl) λ⟨(x:SV),(y:SV),D,(n:Int),(all:Int),(e:Int)⟩=>(zhq x y D n all e).mpr ?_
 rintro hd ⟨p,_,hyl,hy⟩
 have hs:=z9d hd
 obtain⟨hn0,hn1,hD⟩:=hd
 have hc:=hy.1
 obtain⟨v1,v2,v3,v4⟩:=z3y (lnS D n).data.toList
 have hl:(lnS D n).data.toList.length=(lnS D n).size:=rfl
 have u:=z9x _ v1
 have wu:=z6y _ u.1 u.2
 have hm:(if n+10<(D.size:Int)then n+10 else(D.size:Int))=min (D.size:Int) (n+10):=by split<;>omega
 simp only[sbS,hyl,toN,hm]
 refine⟨λhe=> ?_,λhe=>⟨⟨by omega,by omega⟩,by omega,⟨hn0,by omega,by omega⟩,lnS D n,hs,λq hq=> ?_,by omega,λhv=> ?_,λhv=>⟨⟨by omega,by omega⟩,_,rfl,v1,?_⟩⟩⟩
 ·have:lnF D n e=(0,n,e):=by unfold lnF;rw[if_pos he]
  rw[this];exact⟨rfl,rfl,rfl⟩
 ·refine z9l hq.2 (by omega) (by rw[q3b];omega) ?_
  unfold lnS
  exact zm6 D _ _ (by omega)
 ·have:lnF D n e=(0,n,(verr (lnS D n).data.toList:Int)):=by unfold lnF;rw[if_neg (by omega),if_neg hv]
  rw[this]
  exact⟨⟨x,y,n,all,e,_⟩,rfl,rfl,rfl,rfl,rfl,hyl,rfl,rfl,rfl,rfl,rfl,rfl,rfl,rfl,rfl,hyl.symm,rfl,rfl,rfl,(if_pos he).symm⟩
 ·have:lnF D n e=(unz (vval (lnS D n).data.toList),n+vlen (lnS D n).data.toList,0):=by unfold lnF;rw[if_neg (by omega),if_pos hv]
  rw[this,wu]
  exact⟨rfl,rfl,he.symm⟩
def zcr:q5k P 60 z7f:=by
 refine qm5 mixed (qee (qih z2o qlq)) (W:=λ_=>{}) Go.Proofs.Tryz.func60 (by kernel_rfl) (by decide) (by decide) (λs=>by kernel_rfl) λ⟨⟨(x:SV),(y:SV),D,(n:Int),(all:Int),(e:Int)⟩,(k:Int)⟩=>(zcq x y D n all e k).mpr ?_
 rintro⟨hd,hk0,hk1⟩ ⟨p,_,hyl,hy⟩
 refine⟨⟨x,y,D,n,all,e⟩,rfl,rfl,rfl,rfl,rfl,rfl,rfl,rfl,rfl,hd,λq hq=>hq.2,?_⟩
 unfold ixF
 generalize lnF D n e=L
 obtain⟨m,n1,e1⟩:=L
 simp only[sbS]
 unfold ixE
 refine⟨λhe=>⟨λhm=> ?_,λhm=>⟨λhk=> ?_,λhk=>⟨λh=>absurd he h,λ_=> ?_⟩⟩⟩,λhe=>⟨λ_=> ?_,λh=>absurd h he⟩⟩
 ·simp[he,hm]
 ·simp[he,hk]
 ·rw[if_neg (show¬(e1=0/\(m<0\/k<=m))by omega),if_neg (show¬e1≠0 by omega)];exact⟨rfl,rfl⟩
 ·rw[if_neg (show¬(e1=0/\(m<0\/k<=m))by omega),if_pos he];exact⟨rfl,rfl⟩
def z5p:q5k P 58 z6h:=by
 refine qm5 mixed (qee (qih z25 (qih z2o (qih z5o qlq)))) (W:=λ_=>{}) Go.Proofs.Tryz.func58 (by kernel_rfl) (by decide) (by decide) (λs=>by kernel_rfl) λ⟨(x:SV),(y:SV),D,(n:Int),(all:Int),(e:Int)⟩=>(zir x y D n all e).mpr ?_
 rintro hd ⟨p,_,hyl,hy⟩
 refine⟨⟨x,y,D,n,all,e⟩,rfl,rfl,rfl,rfl,rfl,rfl,rfl,rfl,rfl,hd,λq hq=>hq.2,?_⟩
 obtain⟨f1,_,f3,f4,_⟩:=zho (e:=e) hd
 unfold txF
 generalize lnF D n e=L at*
 obtain⟨m,n1,e1⟩:=L
 simp only[sbS]at f1 f3 f4⊢
 refine⟨λhm=>⟨⟨x,y,n1,all,e1,2⟩,?_⟩,λhm=>⟨λh5=>⟨⟨x,y,n1,all,e1,3⟩,?_⟩,λh5=>⟨λhe=> ?_,λhe=>⟨⟨⟨x,y,D,n1,all,e1⟩,m⟩,?_⟩⟩⟩⟩
 ·simp only[true_and,eq_self,and_true]
  have hx:txE m e1=if e1=0 then 2 else e1:=by unfold txE;rw[if_pos hm]
  have hne:(if e1=0 then(2:Int)else e1)≠0:=by split<;>omega
  refine⟨λh=>absurd h (by omega),λ_=>⟨λ_=> ?_,λh=>absurd h hne⟩⟩
  rw[hx,if_pos hne]
  exact⟨rfl,rfl,rfl⟩
 ·simp only[true_and,eq_self,and_true]
  have hx:txE m e1=if e1=0 then 3 else e1:=by unfold txE;rw[if_neg hm,if_pos h5]
  have hne:(if e1=0 then(3:Int)else e1)≠0:=by split<;>omega
  refine⟨λ_=> ?_,λh=>absurd h hne⟩
  rw[hx,if_pos hne]
  exact⟨rfl,rfl,rfl⟩
 ·have hx:txE m e1=e1:=by unfold txE;rw[if_neg he]
  rw[hx,if_pos he]
  exact⟨rfl,rfl,rfl⟩
 ·simp only[true_and,eq_self,and_true]
  have hx:txE m e1=0:=by unfold txE;rw[if_pos he,if_neg hm,if_neg h5]
  rw[hx,if_neg (by decide),he]
  exact⟨⟨f1,by omega,by omega⟩,λq hq=>hq,rfl,rfl,rfl⟩
def zp2(v b:Nat) (h:v*256+255<18446744073709551616) (hb:b<256):qbu .or .u64 (shP .shl .u64 (v:Int) 8) (b:Int)=((b+256*v:Nat):Int):=by
 have hs:shP .shl .u64 (v:Int) 8=((v*256:Nat):Int):=by
  show IntKind.wrap .u64 ((v:Int)*2 ^ min (8:Int).toNat 64)=_
  rw[wrap_u64,show(2:Int) ^ min (8:Int).toNat 64=256 from rfl];omega
 rw[hs]
 show IntKind.wrap .u64 (BitVec.ofInt 64 ((v*256:Nat):Int)|||BitVec.ofInt 64 (b:Int)).toNat=_
 rw[BitVec.toNat_or,z14 _ (by omega),z14 _ (by omega)]
 have:=Nat.two_pow_add_eq_or_of_lt (b:=b) (i:=8) (by omega) v
 rw[show 2 ^ 8*v=v*256 by omega]at this
 rw[←this,wrap_u64];omega
def z9e:∀l:List UInt8,loL l<256 ^ l.length
  | []=>by decide
  | c::l=>by
    have:=z9e l
    have:=c.toNat_lt
    rw[loL,List.length_cons,Nat.pow_succ];omega
def zpv{n e k:Int} (h:z0x D n) (hk:0<=k):((tkF D n e k).1.size:Int)<=k:=by
 obtain⟨h0,h1,h2⟩:=h
 unfold tkF
 split
 ·show(((mkS []).size:Nat):Int)<=k;rw[show(mkS []).size=0 from rfl];omega
 ·show((D.extract n.toNat (n+k).toNat).size:Int)<=k
  rw[ByteArray.size_extract];omega
def zop{s:ByteArray} {j:Nat} (h:j<s.size):loL (s.data.toList.drop j)=bat s j+256*loL (s.data.toList.drop (j+1)):=by
 have hl:j<s.data.toList.length:=h
 rw[List.drop_eq_getElem_cons hl,loL,zm1 h];rfl
def zos:q5k P 56 znu:=by
 refine qm5 mixed (qee (qih z5o qlq)) (W:=zy7) Go.Proofs.Tryz.func56 (by kernel_rfl) (by decide) (by decide) (λs=>by kernel_rfl) λ⟨⟨(x:SV),(y:SV),D,(n:Int),(all:Int),(e:Int)⟩,(k:Int)⟩=>(zor x y D n all e k).mpr ?_
 rintro⟨hd,hk0,hk8⟩ ⟨p,_,hyl,hy⟩
 have hz:=zpv (e:=e) hd hk0
 refine⟨⟨⟨x,y,D,n,all,e⟩,k⟩,rfl,rfl,rfl,rfl,rfl,rfl,rfl,rfl,rfl,rfl,⟨hd,hk0,by show k<_;omega⟩,λq hq=>hq.2,?_⟩
 generalize tkF D n e k=T at*
 obtain⟨s,n1,e1⟩:=T
 simp only[decide_eq_true_eq,decide_eq_false_iff_not,true_and,and_true,eq_self,imp_self,implies_true]at hz⊢
 have hlen:s.data.toList.length=s.size:=rfl
 refine⟨⟨by omega,by omega⟩,⟨s.size,rfl,?_,Nat.le_refl _⟩,λj hj=>⟨λhpos=> ?_,λhno=> ?_⟩⟩
 ·rw[←hlen,List.drop_length];rfl
 ·obtain⟨i,rfl⟩:∃i,j=i+1:=⟨j- 1,by omega⟩
  have hi:i<s.size:=by omega
  have hb:=z1y s i
  have ht:(((i+1:Nat):Int)- 1).toNat=i:=by omega
  have hl:=z9e (s.data.toList.drop (i+1))
  have h7:(s.data.toList.drop (i+1)).length<=7:=by rw[List.length_drop,hlen];omega
  have hp:256 ^ (s.data.toList.drop (i+1)).length<=256 ^ 7:=Nat.pow_le_pow_right (by decide) h7
  have h56:(256:Nat) ^ 7=72057594037927936:=by decide
  rw[ht]
  refine⟨by decide,⟨by omega,by omega⟩,⟨by omega,by omega⟩,⟨by omega,by omega⟩,i,by omega,?_,by omega,by omega⟩
  rw[zop hi,zp2 _ _ (by omega) hb]
 ·obtain rfl:j=0:=by omega
  rfl
end
def ctQ(σ:Type) (args:σ->List AV) (pre:σ->Prop) (mem:σ->PF) (r:σ->AV):Ct where
 σ:=σ
 args:=args
 h:=λ_=>[]
 m:=1
 pre:=pre
 mem:=mem
 r:=r
 h':=λ_=>[]
 m':=1
 g:=λ_=>none
def byV(b:Int):List Value:=[.int .u8 b]
def zwi(b:Int):(byV b).length=1:=rfl
def byM(x:SV) (L:List Int):PF:=⟨true,slP byV x L,λ_ _ h e=>z0e h e⟩
def z0q(L:List Int):Prop:=L.length<1000000/\∀b∈L,0<=b/\b<256
def z0u(L:List Int) (n m:Int):Int:=if L.length<=n then 0 else Int.tmod (L.getD n.toNat 0) m
def z06(L:List Int) (n:Int):Int:=if L.length<=n then n else n+1
def pkO(x:SV) (n:Int):List (Nat×AO):=[(1, .cells 57 (some 0) false [svA x, .sv (.int .i64 n)])]
def j52(h:T AO) (id:Nat):Option (SV×Int):=match h.get id with
  | some (.cells _ _ _ [a,i])=>match a with
    | .sv (.slice a n c)=>match gi i with
      |some (_,i)=>some ((a,n,c),i)
      |none=>none
    |_=>none
  |_=>none
def zxn(l:List AV) (h:T AO):Option (Sel (SV×List Int×Int×Int)):=match l with
  | [.ptr id _,m]=>match j52 h id with
    | some (x,n)=>match gi m with
      |some (_,m)=>some ⟨List Int,λL=>(x,L,n,m)⟩
      |none=>none
    |none=>none
  |_=>none
def zw0:Ct where
 σ:=SV×List Int×Int×Int
 args:=λ⟨x,L,n,m⟩=>[.ptr 1 0, .sv (.int .i64 m)]
 h:=λ⟨x,L,n,m⟩=>pkO x n
 m:=2
 pre:=λ⟨x,L,n,m⟩=>0<=n/\n<=L.length/\0<m/\m<1000000/\z0q L
 mem:=λ⟨x,L,n,m⟩=>byM x L
 sel:=some zxn
 r:=λ⟨x,L,n,m⟩=> .sv (.int .i64 (z0u L n m))
 h':=λ⟨x,L,n,m⟩=>pkO x (z06 L n)
 m':=2
 g:=λ_=>none
def zpl(l:List AV) (h:T AO):Option (Sel (SV×List Int×Int)):=match l with
  | [.ptr id _]=>match j52 h id with
    |some (x,n)=>some ⟨List Int,λL=>(x,L,n)⟩
    |none=>none
  |_=>none
def znv:Ct where
 σ:=SV×List Int×Int
 args:=λ⟨x,L,n⟩=>[.ptr 1 0]
 h:=λ⟨x,L,n⟩=>pkO x n
 m:=2
 pre:=λ⟨x,L,n⟩=>True
 mem:=λ⟨x,L,n⟩=>byM x L
 sel:=some zpl
 r:=λ⟨x,L,n⟩=> .sv (.bool (decide ((L.length:Int)<=n)))
 h':=λ⟨x,L,n⟩=>pkO x n
 m':=2
 g:=λ_=>none
def zad:Ct:={ctQ ByteArray (λs=>[.sv (.string s)]) (λ_=>True) (λ_=>{}) (λs=> .agg [.int .i64 4, .int .i64 0, .sv (.string s), .nsl, .nsl])with find:=some λl _=>match l with
 | [a]=>gs a
 |_=>none}
inductive N3 where
 |two
 |three
 |four
def N3.v:N3->Nat
 | .two=>2
 | .three=>3
 | .four=>4
def z4y:Ct where
  σ:=N3
  args:=λn=>[.sl 1 0 n.v n.v, .sl 2 0 n.v n.v]
  h:=λ_=>[]
  m:=3
  find:=some λl _=>match l with
    | [.sl _ _ n _,_]=>match n with
      |2=>some .two
      |3=>some .three
      |4=>some .four
      |_=>none
    |_=>none
  r:=λn=> .agg [.int .i64 6, .int .i64 0, .str [], .sl 2 0 n.v n.v, .sl 1 0 n.v n.v]
  h':=λ_=>[]
  m':=3
  g:=λ_=>none
mutual
def GJ.wf:GJ->Prop
 | .mk k n s y l x nm=>s.size<1000/\l.length<1000/\nm.length<=l.length/\(∀t∈nm,t.size<1000)/\(-9223372036854775808<=n/\n<9223372036854775808)/\(k=6->nm.length=l.length)/\GJ.wfs l
def GJ.wfs:List GJ->Prop
 | []=>True
 |g::l=>GJ.wf g/\GJ.wfs l
end
def GJ.wf_eq(g:GJ):g.wf=(g.s.size<1000/\g.l.length<1000/\g.nm.length<=g.l.length/\(∀t∈g.nm,t.size<1000)/\(-9223372036854775808<=g.n/\g.n<9223372036854775808)/\(g.k=6->g.nm.length=g.l.length)/\GJ.wfs g.l):=by cases g;rw[GJ.wf];rfl
def GJ.ok_eq(g:GJ) (p:Pub):g.ok p=(slP GJ.cells g.y g.l p/\slP txV g.x g.nm p/\GJ.oks g.l p):=by cases g;unfold GJ.ok;rfl
def GJ.wfs_at:∀{l:List GJ},GJ.wfs l->∀{i:Nat} (h:i<l.length),l[i].wf
 |v::l,e,0,h=>by unfold GJ.wfs at e;exact e.1
 |v::l,e,i+1,h=>by unfold GJ.wfs at e;exact GJ.wfs_at e.2 (by simpa using h)
def GJ.oks_at:∀{l:List GJ} {p:Pub},GJ.oks l p->∀{i:Nat} (h:i<l.length),l[i].ok p
 |v::l,p,e,0,h=>by unfold GJ.oks at e;exact e.1
 |v::l,p,e,i+1,h=>by unfold GJ.oks at e;exact GJ.oks_at e.2 (by simpa using h)
def gM(g:GJ):PF:=⟨true,g.ok,λ_ _ h e=>GJ.ok_mono h e⟩
def zJ:GJ:= .mk 0 0 (mkS []) (none,0,0) [] (none,0,0) []
def z3d(s:ByteArray):List ByteArray->List GJ->Option GJ
 |t::nm,g::l=>if t=s then some g else z3d s nm l
 |_,_=>none
def j3a:Ct:=ctQ (GJ×ByteArray) (λ⟨g,s⟩=>[g.av, .sv (.string s)]) (λ⟨g,s⟩=>g.wf) (λ⟨g,s⟩=>gM g) λ⟨g,s⟩=> .tup [((z3d s g.nm g.l).getD zJ).av, .sv (.bool (z3d s g.nm g.l).isSome)]
def j7p:j3a.σ->WayF:=λ⟨g,s⟩=>{
 ann:=λ_ _ _=>some {σ:=Nat,pre:=λj=>j<=g.nm.length/\z3d s (g.nm.drop j) (g.l.drop j)=z3d s g.nm g.l,t:=λj=>[(6, .sv (.int .i64 (j:Int)))],h:=λ_=>[],more:=0,μ:=λj=>g.nm.length- j,keep:=[1,2,4,5]}}
def isNum(s:ByteArray):Bool:=decide (s=mkS [105,110,116])||decide (s=mkS [108,111,110,103])||decide (s=mkS [102,108,111,97,116])||decide (s=mkS [100,111,117,98,108,101])
def z3e(s:ByteArray):Bool:=decide (s=mkS [115,116,114,105,110,103])||decide (s=mkS [98,121,116,101,115])
def z7n(s:ByteArray):Bool:=decide (s=mkS [98,111,111,108,101,97,110])
def zao(s:ByteArray):Bool:=decide (s=mkS [110,117,108,108])
def zgs(i:Int):ByteArray:=if i=0 then mkS []else if i=1 then mkS [100]else mkS [195,164]
def z2j(g:GJ) (L:List Int) (n:Int):Int×Int×ByteArray×Int:=
 if g.k=4/\isNum g.s=true then(3,z0u L n 200- 50,mkS [],z06 L n)else
 if g.k=4/\z3e g.s=true then(4,0,zgs (z0u L n 3),z06 L n)else
 if g.k=4/\z7n g.s=true then(2,z0u L n 2,mkS [],z06 L n)else
 if g.k=4/\zao g.s=true then(1,0,mkS [],n)else
 if g.k=5 then(1,0,mkS [],n)else
 if((z3d (mkS [116,121,112,101]) g.nm g.l).getD zJ).s=mkS [97,114,114,97,121]then(5,0,mkS [],n)else
 if((z3d (mkS [116,121,112,101]) g.nm g.l).getD zJ).s=mkS [101,110,117,109]then(4,0,mkS [88],n)else(6,0,mkS [],n)
def zxm(l:List AV) (h:T AO):Option (Sel (SV×List Int×Int×GJ)):=match l with
  | [.ptr id _,_]=>match j52 h id with
    |some (x,n)=>some ⟨List Int×GJ,λL=>(x,L.1,n,L.2)⟩
    |none=>none
  |_=>none
def z3u:Ct where
 σ:=SV×List Int×Int×GJ
 args:=λ⟨x,L,n,g⟩=>[.ptr 1 0,g.av]
 h:=λ⟨x,L,n,g⟩=>pkO x n
 m:=2
 pre:=λ⟨x,L,n,g⟩=>0<=n/\n<=L.length/\z0q L/\g.wf
 mem:=λ⟨x,L,n,g⟩=>⟨true,λp=>slP byV x L p/\g.ok p,λ_ _ h e=>⟨z0e h e.1,GJ.ok_mono h e.2⟩⟩
 sel:=some zxm
 r:=λ⟨x,L,n,g⟩=> .agg [.sv (.int .i64 (z2j g L n).1), .sv (.int .i64 (z2j g L n).2.1), .sv (.string (z2j g L n).2.2.1), .nsl, .nsl]
 h':=λ⟨x,L,n,g⟩=>pkO x (z2j g L n).2.2.2
 m':=2
 g:=λ_=>none
def swS(f:ByteArray->Bool) (i k:Nat) (keep:List Nat) (t:T AV):Option LT:=match slS t k with
 |some a=>some {σ:=Unit,t:=λ_=>[(i, .sv (.bool (f a)))],h:=λ_=>[],more:=0,μ:=λ_=>0,keep:=keep}
 |none=>none
def za2:z3u.σ->WayF:=λ⟨x,L,n,g⟩=>{
 cut:=λi t _=>match i with
  |7=>swS isNum 12 11 [0,3,4,11] t
  |10=>swS z3e 21 11 [0,3,4,11] t
  |15=>some {σ:=Unit,pre:=λ_=>¬(g.k=4/\(isNum g.s=true\/z3e g.s=true\/z7n g.s=true\/zao g.s=true)),t:=λ_=>[],h:=λ_=>[],more:=0,μ:=λ_=>0,keep:=[0,3,4]}
  |_=>none}
def mkO(S:List AT) (e:Int) (r k:Nat):List (Nat×AO):=[(1, .cells 90 (some 0) false [.ssl r 0 S.length 10 k, .sv (.int .i64 e)]),(r, .row 55 0 (z00 AT.cells S))]
def mkE(h:T AO) (id:Nat):Option Int:=match h.get id with
  | some (.cells _ _ _ [_,e])=>match gi e with
    |some (_,e)=>some e
    |none=>none
  |_=>none
def zpj(l:List AV) (h:T AO):Option (Sel (List AT×Int×Int)):=match l with
  | [.ptr id _,e]=>match mkE h id with
    | some e0=>match gi e with
      |some (_,e)=>some ⟨List AT,λS=>(S,e0,e)⟩
      |none=>none
    |none=>none
  |_=>none
def faE(e0 e:Int):Int:=if e0=0 then e else e0
def z1s:Ct where
 σ:=List AT×Int×Int
 args:=λ⟨S,e0,e⟩=>[.ptr 1 0, .sv (.int .i64 e)]
 h:=λ⟨S,e0,e⟩=>mkO S e0 2 3
 m:=4
 sel:=some zpj
 r:=λ⟨S,e0,e⟩=> .int .i64 0
 h':=λ⟨S,e0,e⟩=>mkO S (faE e0 e) 2 3
 m':=4
 g:=λ_=>none
def adS(S:List AT) (t:AT):List AT:=if 60<=S.length then S else S++[t]
def adE(S:List AT) (e:Int):Int:=if 60<=S.length then faE e 3 else e
def adR(S:List AT):Int:=if 60<=S.length then 0 else S.length
def zvz:Ct where
 σ:=List AT×Int×AT
 args:=λ⟨S,e,t⟩=>[.ptr 1 0,t.av]
 h:=λ⟨S,e,t⟩=>mkO S e 2 3
 m:=4
 r:=λ⟨S,e,t⟩=> .sv (.int .i64 (adR S))
 h':=λ⟨S,e,t⟩=>mkO (adS S t) (adE S e) 4 5
 m':=6
 g:=λ_=>none
def kinds:List ByteArray:=[mkS [110,117,108,108],mkS [98,111,111,108,101,97,110],mkS [105,110,116],mkS [108,111,110,103],mkS [102,108,111,97,116],mkS [100,111,117,98,108,101],mkS [98,121,116,101,115],mkS [115,116,114,105,110,103],mkS [114,101,99,111,114,100],mkS [101,110,117,109],mkS [102,105,120,101,100],mkS [97,114,114,97,121],mkS [109,97,112],mkS [117,110,105,111,110]]
def zmb(s:ByteArray):List ByteArray->Nat->Int
 | [],_=>0
 |k::l,i=>if k=s then(i:Int)+1 else zmb s l (i+1)
def z0a(s:ByteArray):Int:=zmb s kinds 0
def zc5:Ct:={ctQ ByteArray (λs=>[.sv (.string s)]) (λ_=>True) (λ_=>{}) (λs=> .sv (.int .i64 (z0a s)))with find:=some λl _=>match l with
 | [a]=>gs a
 |_=>none}
def zy6:zc5.σ->WayF:=λs=>{
 ann:=λ_ _ _=>some {σ:=Nat,pre:=λj=>j<=14/\zmb s (kinds.drop j) j=z0a s,t:=λj=>[(4, .sv (.int .i64 (j:Int)))],h:=λ_=>[],more:=0,μ:=λj=>14- j,keep:=[0,2,3]}}
def z3f(k:Int):ByteArray:=if k<1\/14<k then mkS []else kinds.getD (k.toNat- 1) (mkS [])
def zny:Ct:=ctQ Int (λk=>[.sv (.int .i64 k)]) (λ_=>True) (λ_=>{}) λk=> .sv (.string (z3f k))
def findF(s:ByteArray):List AT->Nat->Option Nat
 | [],_=>none
 |a::l,i=>if a.nm=s/\9<=a.k/\a.k<=11 then some i else findF s l (i+1)
def fnI(o:Option Nat):Int:=match o with
 |some i=>i
 |none=>0
def zpk(l:List AV) (h:T AO):Option (Sel (List AT×Int×ByteArray)):=match l with
  | [.ptr id _,a]=>match mkE h id with
    | some e=>match gs a with
      |some s=>some ⟨List AT,λS=>(S,e,s)⟩
      |none=>none
    |none=>none
  |_=>none
def zc0:Ct where
 σ:=List AT×Int×ByteArray
 args:=λ⟨S,e,s⟩=>[.ptr 1 0, .sv (.string s)]
 h:=λ⟨S,e,s⟩=>mkO S e 2 3
 m:=4
 pre:=λ⟨S,e,s⟩=>S.length<1000
 sel:=some zpk
 r:=λ⟨S,e,s⟩=> .tup [.sv (.int .i64 (fnI (findF s S 0))), .sv (.bool (findF s S 0).isSome)]
 h':=λ⟨S,e,s⟩=>mkO S e 2 3
 m':=4
 g:=λ_=>none
def zy4:zc0.σ->WayF:=λ⟨S,e,s⟩=>{
 ann:=λ_ _ _=>some {σ:=Nat,pre:=λj=>j<=S.length/\findF s (S.drop j) j=findF s S 0,t:=λj=>[(6, .sv (.int .i64 (j:Int)))],h:=λ_=>[],more:=0,μ:=λj=>S.length- j,keep:=[0,1,4,5]}}
def ze1(S:List AT) (t:Int):ByteArray:=if t<0\/S.length<=t then mkS []else match S[t.toNat]? with
 |some a=>if a.nm=mkS []then z3f a.k else a.nm
 |none=>mkS []
def j4n:Ct where
 σ:=List AT×Int
 args:=λ⟨S,t⟩=>[.agg [.ssl 1 0 S.length 10 2], .sv (.int .i64 t)]
 h:=λ⟨S,t⟩=>[(1, .row 55 0 (z00 AT.cells S))]
 m:=3
 pre:=λ⟨S,t⟩=>S.length<1000
 r:=λ⟨S,t⟩=> .sv (.string (ze1 S t))
 h':=λ⟨S,t⟩=>[(1, .row 55 0 (z00 AT.cells S))]
 m':=3
 g:=λ_=>none
def z2b(a b:ByteArray):ByteArray:=if a=mkS []\/b=mkS []then a++b else a++mkS [46]++b
def jik(l:List AV):Option (ByteArray×ByteArray):=match l with
  | [a,b]=>match gs a with
    | some a=>match gs b with
      |some b=>some (a,b)
      |none=>none
    |none=>none
  |_=>none
def zgo:Ct:={ctQ (ByteArray×ByteArray) (λ⟨a,b⟩=>[.sv (.string a), .sv (.string b)]) (λ⟨a,b⟩=>a.size<1000000/\b.size<1000000) (λ_=>{}) (λ⟨a,b⟩=> .sv (.string (z2b a b)))with find:=some λl _=>jik l}
def isLt(c:Nat):Bool:=(c==95)|| (decide (65<=c)&&decide (c<=90))|| (decide (97<=c)&&decide (c<=122))
def zog(c:Nat):Bool:=decide (48<=c)&&decide (c<=57)
def z7h:Ct:=ctS Int (λc=>[.int .u8 c]) f1i (λc=>0<=c/\c<256) (λ_=>{}) λc=> .sv (.bool (isLt c.toNat))
def zbz:Ct:=ctS Int (λc=>[.int .u8 c]) f1i (λc=>0<=c/\c<256) (λ_=>{}) λc=> .sv (.bool (zog c.toNat))
def ptC(s:ByteArray) (i:Nat):Bool:=isLt (bat s i)|| (decide (0<i)&&zog (bat s i))
def ptA(s:ByteArray):Nat->Nat->Bool
 |0,_=>true
 |f+1,i=>if i<s.size then ptC s i&&ptA s f (i+1)else true
def z2c(s:ByteArray):Bool:=ptA s s.size 0&&decide (0<s.size)
def zac:Ct:={ctQ ByteArray (λs=>[.sv (.string s)]) (λs=>s.size<1000000) (λ_=>{}) (λs=> .sv (.bool (z2c s)))with find:=some λl _=>match l with
 | [a]=>gs a
 |_=>none}
def zy9:zac.σ->WayF:=λs=>{
 ann:=λ_ _ _=>some {σ:=Nat,pre:=λj=>j<=s.size/\ptA s (s.size- j) j=ptA s s.size 0,t:=λj=>[(3, .sv (.int .i64 (j:Int)))],h:=λ_=>[],more:=0,μ:=λj=>s.size- j,keep:=[0,2]}}
def zge(s:ByteArray):Nat->Nat->ByteArray->Bool
 |0,_,_=>true
 |f+1,i,q=>if i<s.size/\bat s i≠46 then zge s f (i+1) (q++s.extract i (i+1))else if z2c q=true then zge s f (i+1) (mkS [])else false
def z38(s:ByteArray):Bool:=zge s (s.size+1) 0 (mkS [])
def z8y:Ct:={ctQ ByteArray (λs=>[.sv (.string s)]) (λs=>s.size<100000) (λ_=>{}) (λs=> .sv (.bool (z38 s)))with find:=some λl _=>match l with
 | [a]=>gs a
 |_=>none}
def zmy:z8y.σ->WayF:=λs=>{
 ann:=λ_ _ _=>some {σ:=Nat×ByteArray,pre:=λ⟨j,q⟩=>j<=s.size+1/\q.size<=j/\zge s (s.size+1- j) j q=z38 s,t:=λ⟨j,q⟩=>[(3, .sv (.string q)),(4, .sv (.int .i64 (j:Int)))],h:=λ_=>[],more:=0,μ:=λ⟨j,q⟩=>s.size+1- j,keep:=[0,2]}}
def z58(s:ByteArray):Nat->ByteArray
 |0=>mkS []
 |i+1=>if bat s i=46 then s.extract 0 i else z58 s i
def z59:Ct:={ctQ ByteArray (λs=>[.sv (.string s)]) (λs=>s.size<1000000) (λ_=>{}) (λs=> .sv (.string (z58 s s.size)))with find:=some λl _=>match l with
 | [a]=>gs a
 |_=>none}
def zel:z59.σ->WayF:=λs=>{
 ann:=λ_ _ _=>some {σ:=Nat,pre:=λj=>j<=s.size/\z58 s j=z58 s s.size,t:=λj=>[(3, .sv (.int .i64 ((j:Int)- 1)))],h:=λ_=>[],more:=0,μ:=λj=>j,keep:=[0,2]}}
def zm7(s:ByteArray):Nat->Nat->Bool
 |0,_=>false
 |f+1,i=>if i<s.size then decide (bat s i=46)||zm7 s f (i+1)else false
def zwu(s:ByteArray):Bool:=zm7 s s.size 0
def z18(nm sp:ByteArray):ByteArray:=if zwu nm=true then nm else z2b sp nm
def whE(nm sp:ByteArray) (e:Int):Int:=if nm=mkS []\/z38 (z18 nm sp)=false then faE e 6 else e
def zik(l:List AV) (h:T AO):Option (Sel (List AT×Int×ByteArray×ByteArray)):=match l with
  | [.ptr id _,a,b]=>match mkE h id with
    | some e=>match gs a with
      | some a=>match gs b with
        |some b=>some ⟨List AT,λS=>(S,e,a,b)⟩
        |none=>none
      |none=>none
    |none=>none
  |_=>none
def z5i:Ct where
 σ:=List AT×Int×ByteArray×ByteArray
 args:=λ⟨S,e,a,b⟩=>[.ptr 1 0, .sv (.string a), .sv (.string b)]
 h:=λ⟨S,e,a,b⟩=>mkO S e 2 3
 m:=4
 pre:=λ⟨S,e,a,b⟩=>a.size<10000/\b.size<50000
 sel:=some zik
 r:=λ⟨S,e,a,b⟩=> .sv (.string (z18 a b))
 h':=λ⟨S,e,a,b⟩=>mkO S (whE a b e) 2 3
 m':=4
 g:=λ_=>none
def zn5:z5i.σ->WayF:=λ⟨S,e,a,b⟩=>{
 ann:=λ_ _ _=>some {σ:=Nat×ByteArray,pre:=λ⟨j,q⟩=>j<=a.size/\((if zm7 a (a.size- j) j=true then a else q)=z18 a b),t:=λ⟨j,q⟩=>[(7, .sv (.string q)),(8, .sv (.int .i64 (j:Int)))],h:=λ_=>[],more:=0,μ:=λ⟨j,q⟩=>a.size- j,keep:=[0,1,2,6]}}
def z0b(s:ByteArray) (g:GJ):Option GJ:=if g.k=6 then z3d s g.nm g.l else none
def z4l:Ct:=ctQ (GJ×ByteArray) (λ⟨g,s⟩=>[g.av, .sv (.string s)]) (λ⟨g,s⟩=>g.wf) (λ⟨g,s⟩=>gM g) λ⟨g,s⟩=> .tup [((z0b s g).getD zJ).av, .sv (.bool (z0b s g).isSome)]
def zy5:z4l.σ->WayF:=λ⟨g,s⟩=>{
 ann:=λ_ _ _=>some {σ:=Nat,pre:=λj=>j<=g.nm.length/\(if g.k=6 then z3d s (g.nm.drop j) (g.l.drop j)else none)=z0b s g,t:=λj=>[(6, .sv (.int .i64 (j:Int)))],h:=λ_=>[],more:=0,μ:=λj=>g.nm.length- j,keep:=[1,2,4,5]}}
def woR(g:GJ) (s:ByteArray) (must:Bool) (e:Int):ByteArray×Int:=match z0b s g with
 |none=>if must=true then(mkS [],faE e 2)else(mkS [],e)
 |some t=>if t.k=4 then(t.s,e)else(mkS [],faE e 2)
def z6i:Ct where
 σ:=List AT×Int×GJ×ByteArray×Bool
 args:=λ⟨S,e,g,s,b⟩=>[.ptr 1 0,g.av, .sv (.string s), .sv (.bool b)]
 h:=λ⟨S,e,g,s,b⟩=>mkO S e 2 3
 m:=4
 pre:=λ⟨S,e,g,s,b⟩=>g.wf
 mem:=λ⟨S,e,g,s,b⟩=>gM g
 r:=λ⟨S,e,g,s,b⟩=> .sv (.string (woR g s b e).1)
 h':=λ⟨S,e,g,s,b⟩=>mkO S (woR g s b e).2 2 3
 m':=4
 g:=λ_=>none
def zgx(S:List AT) (e0 e:Int):qm2 P (λ_=>none) Go.Proofs.Tryz.f63 z1s (λ_=>{}) ⟨S,e0,e⟩=(True->(decide (e0=(0:Int))=true->List.length S=List.length S/\faE e0 e=e/\z00 AT.cells S=z00 AT.cells S/\True)/\(decide (e0=(0:Int))=false->List.length S=List.length S/\faE e0 e=e0/\z00 AT.cells S=z00 AT.cells S/\True)):=by kernel_rfl
def znh(S:List AT) (e:Int) (t:AT):qm2 P (qh2 [(63,z1s)]) Go.Proofs.Tryz.f69 zvz (λ_=>{}) ⟨S,e,t⟩=(True->(decide ((60:Int)<=(↑(length S):Int))=true->∃(b:List AT),(3:Int)=(3:Int)/\length b=length S/\e=e/\z00 AT.cells b=z00 AT.cells S/\True/\adR S=(0:Int)/\length (adS S t)=length b/\adE S e=faE e (3:Int)/\z00 AT.cells (adS S t)=z00 AT.cells b/\True)/\(decide ((60:Int)<=(↑(length S):Int))=false->length (z00 AT.cells S)=length S*(10:Nat)/\(length S+nat_lit 1)*(160:Nat)<=(140737488355328:Nat)/\((-9223372036854775808:Int)<=(↑(length S+nat_lit 1):Int)- (1:Int)/\(↑(length S+nat_lit 1):Int)- (1:Int)<=(9223372036854775807:Int))/\adR S=(↑(length S+nat_lit 1):Int)- (1:Int)/\length (adS S t)=length S+nat_lit 1/\adE S e=e/\z00 AT.cells (adS S t)=z00 AT.cells S++[int i64 (AT.k t),string (AT.nm t),slice (Prod.fst (AT.al t)) (Prod.fst (Prod.snd (AT.al t))) (Prod.snd (Prod.snd (AT.al t))),int i64 (AT.it t),slice (Prod.fst (AT.sy t)) (Prod.fst (Prod.snd (AT.sy t))) (Prod.snd (Prod.snd (AT.sy t))),bool (AT.hd t),string (AT.df t),int i64 (AT.sz t),slice (Prod.fst (AT.f t)) (Prod.fst (Prod.snd (AT.f t))) (Prod.snd (Prod.snd (AT.f t))),slice (Prod.fst (AT.br t)) (Prod.fst (Prod.snd (AT.br t))) (Prod.snd (Prod.snd (AT.br t)))]/\True)):=by kernel_rfl
section
variable (x0:ByteArray) (x1:Nat)
 abbrev j3t:=x1<=14/\zmb x0 (drop x1 kinds) x1=z0a x0
 abbrev j5s:=Jb ((↑x1:Int)+1)
 def j8t:=j5s x1/\z0a x0=(↑x1:Int)+1/\True
 def j8s:=j5s x1/\∃(i0:Nat),x0=x0/\(↑i0:Int)=(↑x1:Int)+1/\(j3t x0 i0)/\(14:Nat)- i0<14- x1/\True
 def j8r:=(0<=(↑x1:Int)/\(↑x1:Int)<(↑(nat_lit 14):Int))/\∃i0,qi8 [string (mkS [110,117,108,108]),string (mkS [98,111,111,108,101,97,110]),string (mkS [105,110,116]),string (mkS [108,111,110,103]),string (mkS [102,108,111,97,116]),string (mkS [100,111,117,98,108,101]),string (mkS [98,121,116,101,115]),string (mkS [115,116,114,105,110,103]),string (mkS [114,101,99,111,114,100]),string (mkS [101,110,117,109]),string (mkS [102,105,120,101,100]),string (mkS [97,114,114,97,121]),string (mkS [109,97,112]),string (mkS [117,110,105,111,110])] (nat_lit 0+toNat (↑x1:Int)*1) [string i0]/\Ji (i0=x0) (j8t x0 x1) (j8s x0 x1)
 def j8q:=Ji ((↑x1:Int)<Int.ofNat (nat_lit 14)) (j8r x0 x1) (z0a x0=0/\True)
 def j8p:=(∃(i0:Nat),x0=x0/\(↑i0:Int)=0/\(j3t x0 i0)/\True)/\∀(i1:Nat),j3t x0 i1->j8q x0 i1
end
def zhi(s:ByteArray):qm2 P (λ_=>none) Go.Proofs.Tryz.f68 zc5 (zy6) s=(True->j8p s):=by kernel_rfl
def zoj:=λs=>Eq.trans (zhi s) (by delta Ji Jb Jt Jf j3t j5s j8t j8s j8r j8q j8p;exact rfl)
section
variable (x0:Int)
 abbrev j8w:=(0<=x0/\x0<(↑(nat_lit 15):Int))/\∃i0,qi8 [string (mkS []),string (mkS [110,117,108,108]),string (mkS [98,111,111,108,101,97,110]),string (mkS [105,110,116]),string (mkS [108,111,110,103]),string (mkS [102,108,111,97,116]),string (mkS [100,111,117,98,108,101]),string (mkS [98,121,116,101,115]),string (mkS [115,116,114,105,110,103]),string (mkS [114,101,99,111,114,100]),string (mkS [101,110,117,109]),string (mkS [102,105,120,101,100]),string (mkS [97,114,114,97,121]),string (mkS [109,97,112]),string (mkS [117,110,105,111,110])] (nat_lit 0+toNat x0*1) [string i0]/\z3f x0=i0/\True
 def j8v:=Ji (14<x0) (z3f x0=mkS []/\True) (j8w x0)
 def j8u:=Ji (x0<1) (z3f x0=mkS []/\True) (j8v x0)
end
def zeu(k:Int):qm2 P (λ_=>none) Go.Proofs.Tryz.f122 zny (λ_=>{}) k=(True->j8u k):=by kernel_rfl
def zj9:=λk=>Eq.trans (zeu k) (by delta Ji Jt Jf j8w j8v j8u;exact rfl)
section
variable (x0:ByteArray) (x1:List AT) (x2:Int) (x3:Nat) (x4:Int) (x5:Prop)
 abbrev zyq:=length x1=length x1/\x2=x2/\z00 AT.cells x1=z00 AT.cells x1/\x5
 def j3v:=x3<=length x1/\findF x0 (drop x3 x1) x3=findF x0 x1 0
 def j3u:=Jb ((↑x3:Int)+1)/\∃(i0:Nat),x0=x0/\(↑i0:Int)=(↑x3:Int)+1/\zyq x1 x2 ((j3v x0 x1 i0)/\length x1- i0<length x1- x3/\True)
 def j91:=Ji (x2<=11) (fnI (findF x0 x1 0)=(↑x3:Int)/\Option.isSome (findF x0 x1 0)=true/\zyq x1 x4 True) (j3u x0 x1 x4 x3)
 def j90:=Ji (9<=x2) (j91 x0 x1 x2 x3 x4) (j3u x0 x1 x4 x3)
 def j8z:=(0<=(↑x3:Int)/\(↑x3:Int)<(↑(length x1):Int))/\∃(i0:Int),∃i1,∃i2,∃(i3:Nat),∃(i4:Nat),∃(i5:Int),∃i6,∃(i7:Nat),∃(i8:Nat),∃(i9:Bool),∃i10,∃(i11:Int),∃i12,∃(i13:Nat),∃(i14:Nat),∃i15,∃(i16:Nat),∃(i17:Nat),qi8 (z00 AT.cells x1) (nat_lit 0+toNat (↑x3:Int)*nat_lit 10) [int i64 i0,string i1,slice i2 i3 i4,int i64 i5,slice i6 i7 i8,bool i9,string i10,int i64 i11,slice i12 i13 i14,slice i15 i16 i17]/\Ji (i1=x0) (j90 x0 x1 i0 x3 x2) (j3u x0 x1 x2 x3)
 def j92:=fnI (findF x0 x1 0)=0/\Option.isSome (findF x0 x1 0)=false/\zyq x1 x2 True
 def j8y:=Ji ((↑x3:Int)<(↑(length x1):Int)) (j8z x0 x1 x2 x3) (j92 x0 x1 x2)
 def j8x:=(∃(i0:Nat),x0=x0/\(↑i0:Int)=0/\zyq x1 x2 ((j3v x0 x1 i0)/\True))/\∀(i1:Nat),j3v x0 x1 i1->j8y x0 x1 x2 i1
end
def zcg(S:List AT) (e:Int) (s:ByteArray):qm2 P (λ_=>none) Go.Proofs.Tryz.f97 zc0 (zy4) ⟨S,e,s⟩=(length S<1000->j8x s S e):=by kernel_rfl
def zh0:=λS e s=>Eq.trans (zcg S e s) (by delta Ji Jb Jt Jf zyq j3v j3u j91 j90 j8z j92 j8y j8x;exact rfl)
def zxv(S:List AT) (t:Int):qm2 P (qh2 [(122,zny)]) Go.Proofs.Tryz.f99 j4n (λ_=>{}) ⟨S,t⟩=(length S<(1000:Nat)->(decide (t<(0:Int))=true->ze1 S t=mkS []/\z00 AT.cells S=z00 AT.cells S/\True)/\(decide (t<(0:Int))=false->(decide ((↑(length S):Int)<=t)=true->ze1 S t=mkS []/\z00 AT.cells S=z00 AT.cells S/\True)/\(decide ((↑(length S):Int)<=t)=false->((0:Int)<=t/\t<(↑(length S):Int))/\∃(s:ByteArray),qi8 (z00 AT.cells S) (nat_lit 0+toNat t*nat_lit 10+(1:Nat)) [string s]/\((!decide (s=mkS []))=true->((0:Int)<=t/\t<(↑(length S):Int))/\∃(s:ByteArray),qi8 (z00 AT.cells S) (nat_lit 0+toNat t*nat_lit 10+(1:Nat)) [string s]/\ze1 S t=s/\z00 AT.cells S=z00 AT.cells S/\True)/\((!decide (s=mkS []))=false->((0:Int)<=t/\t<(↑(length S):Int))/\∃(n:Int),qi8 (z00 AT.cells S) (nat_lit 0+toNat t*nat_lit 10+(0:Nat)) [int i64 n]/\∃(s:Int),s=n/\True/\ze1 S t=z3f s/\z00 AT.cells S=z00 AT.cells S/\True)))):=by kernel_rfl
def join_eq(a b:ByteArray):qm2 P (λ_=>none) Go.Proofs.Tryz.f98 zgo (λ_=>{}) ⟨a,b⟩=(size a<(1000000:Nat)/\size b<(1000000:Nat)->(decide (a=mkS [])=true->size a+size b<=(9223372036854775807:Nat)/\z2b a b=a++b/\True)/\(decide (a=mkS [])=false->(decide (b=mkS [])=true->size a+size b<=(9223372036854775807:Nat)/\z2b a b=a++b/\True)/\(decide (b=mkS [])=false->size a+size (mkS [(46:Nat)])<=(9223372036854775807:Nat)/\size (a++mkS [(46:Nat)])+size b<=(9223372036854775807:Nat)/\z2b a b=a++mkS [(46:Nat)]++b/\True))):=by kernel_rfl
def zd2(c:Int):qm2 P (λ_=>none) Go.Proofs.Tryz.f134 z7h (λ_=>{}) c=((0:Int)<=c/\c<(256:Int)->(decide ((97:Int)<=c)=true->(decide (c<=(122:Int))=true->isLt (toNat c)=true/\True)/\(decide (c<=(122:Int))=false->(decide ((65:Int)<=c)=true->(decide (c<=(90:Int))=true->isLt (toNat c)=true/\True)/\(decide (c<=(90:Int))=false->isLt (toNat c)=decide (c=(95:Int))/\True))/\(decide ((65:Int)<=c)=false->isLt (toNat c)=decide (c=(95:Int))/\True)))/\(decide ((97:Int)<=c)=false->(decide ((65:Int)<=c)=true->(decide (c<=(90:Int))=true->isLt (toNat c)=true/\True)/\(decide (c<=(90:Int))=false->isLt (toNat c)=decide (c=(95:Int))/\True))/\(decide ((65:Int)<=c)=false->isLt (toNat c)=decide (c=(95:Int))/\True))):=by kernel_rfl
def zgu(c:Int):qm2 P (λ_=>none) Go.Proofs.Tryz.f135 zbz (λ_=>{}) c=((0:Int)<=c/\c<(256:Int)->(decide ((48:Int)<=c)=true->zog (Int.toNat c)=decide (c<=(57:Int))/\True)/\(decide ((48:Int)<=c)=false->zog (Int.toNat c)=false/\True)):=by kernel_rfl
section
variable (x0:ByteArray) (x1:Nat) (x2:Prop)
 abbrev j3w:=x1<=size x0/\ptA x0 (size x0- x1) x1=ptA x0 (size x0) 0
 abbrev zjh:=(↑(bat x0 (toNat (↑x1:Int))):Int)
 def j5u:=(0<=(↑x1:Int)/\(↑x1:Int)<(↑(size x0):Int))/\(zjh x0 x1)=(zjh x0 x1)/\(0<=(zjh x0 x1)/\(zjh x0 x1)<256)/\x2
 def j5t:=Jb ((↑x1:Int)+1)/\∃(i0:Nat),x0=x0/\(↑i0:Int)=(↑x1:Int)+1/\(j3w x0 i0)/\size x0- i0<size x0- x1/\True
 def j97:=j5u x0 x1 (((!zog (toNat (zjh x0 x1)))=true->z2c x0=false/\True)/\((!zog (toNat (zjh x0 x1)))=false->j5t x0 x1))
 def j96:=Ji ((↑x1:Int)=0) (z2c x0=false/\True) (j97 x0 x1)
 def j95:=j5u x0 x1 (((!isLt (toNat (zjh x0 x1)))=true->j96 x0 x1)/\((!isLt (toNat (zjh x0 x1)))=false->j5t x0 x1))
 def j94:=Ji ((↑x1:Int)<(↑(size x0):Int)) (j95 x0 x1) (z2c x0=decide (0<(↑(size x0):Int))/\True)
 def j93:=(∃(i0:Nat),x0=x0/\(↑i0:Int)=0/\(j3w x0 i0)/\True)/\∀(i1:Nat),j3w x0 i1->j94 x0 i1
end
def zi3(s:ByteArray):qm2 P (qh2 [(134,z7h),(135,zbz)]) Go.Proofs.Tryz.f124 zac (zy9) s=(size s<1000000->j93 s):=by kernel_rfl
def zp6:=λs=>Eq.trans (zi3 s) (by delta Ji Jb Jt Jf j3w zjh j5u j5t j97 j96 j95 j94 j93;exact rfl)
section
variable (x0:ByteArray) (x1 x2:Nat×ByteArray)
 abbrev j3x:=x1.1<=size x0+1/\size x1.2<=x1.1/\zge x0 (size x0+1- x1.1) x1.1 x1.2=z38 x0
 abbrev j3y:=Jb ((↑x1.1:Int)+1)
 def j5w:=(↑x1.1:Int)=(↑x2.1:Int)+1/\(j3x x0 x1)/\size x0+1- x1.1<size x0+1- x2.1/\True
 def j9c:=j3y x1/\(0<=(↑x1.1:Int)/\(↑x1.1:Int)<=(↑x1.1:Int)+1/\(↑x1.1:Int)+1<=(↑(size x0):Int))/\size x1.2+size (ByteArray.extract x0 (toNat (↑x1.1:Int)) (toNat ((↑x1.1:Int)+1)))<=9223372036854775807/\j3y x1/\∃(i0:Nat×ByteArray),x0=x0/\i0.2=x1.2++ByteArray.extract x0 (toNat (↑x1.1:Int)) (toNat ((↑x1.1:Int)+1))/\j5w x0 i0 x1
 def j9d:=j3y x1/\∃(i0:Nat×ByteArray),x0=x0/\i0.2=mkS []/\j5w x0 i0 x1
 def j5v:=x1.2=x1.2/\size x1.2<1000000/\((!z2c x1.2)=true->z38 x0=false/\True)/\((!z2c x1.2)=false->j9d x0 x1)
 def j9b:=(0<=(↑x1.1:Int)/\(↑x1.1:Int)<(↑(size x0):Int))/\((!decide ((↑(bat x0 (toNat (↑x1.1:Int))):Int)=46))=true->j9c x0 x1)/\((!decide ((↑(bat x0 (toNat (↑x1.1:Int))):Int)=46))=false->j5v x0 x1)
 def j9a:=Ji ((↑x1.1:Int)<(↑(size x0):Int)) (j9b x0 x1) (j5v x0 x1)
 def j99:=Ji ((↑x1.1:Int)<=(↑(size x0):Int)) (j9a x0 x1) (z38 x0=true/\True)
 def j98:=(∃(i0:Nat×ByteArray),x0=x0/\i0.2=mkS []/\(↑i0.1:Int)=0/\(j3x x0 i0)/\True)/\∀(i1:Nat×ByteArray),j3x x0 i1->j99 x0 i1
end
def zdc(s:ByteArray):qm2 P (qh2 [(124,zac)]) Go.Proofs.Tryz.f123 z8y (zmy) s=(size s<100000->j98 s):=by kernel_rfl
def parts_eq:=λs=>Eq.trans (zdc s) (by delta Ji Jb Jt Jf j3x j3y j5w j9c j9d j5v j9b j9a j99 j98;exact rfl)
section
variable (x0:ByteArray) (x1:Nat)
 abbrev j3z:=x1<=size x0/\z58 x0 x1=z58 x0 (size x0)
 abbrev j40:=0<=(↑x1:Int)- 1
 def j9i:=(j40 x1/\(↑x1:Int)- 1<=(↑(size x0):Int))/\z58 x0 (size x0)=ByteArray.extract x0 0 (toNat ((↑x1:Int)- 1))/\True
 def j9h:=Jb ((↑x1:Int)- 1- 1)/\∃(i0:Nat),x0=x0/\(↑i0:Int)- 1=(↑x1:Int)- 1- 1/\(j3z x0 i0)/\i0<x1/\True
 def j9g:=(j40 x1/\(↑x1:Int)- 1<(↑(size x0):Int))/\Ji ((↑(bat x0 (toNat ((↑x1:Int)- 1))):Int)=46) (j9i x0 x1) (j9h x0 x1)
 def j9f:=Ji (j40 x1) (j9g x0 x1) (z58 x0 (size x0)=mkS []/\True)
 def j9e:=Jb ((↑(size x0):Int)- 1)/\(∃(i0:Nat),x0=x0/\(↑i0:Int)- 1=(↑(size x0):Int)- 1/\(j3z x0 i0)/\True)/\∀(i1:Nat),j3z x0 i1->j9f x0 i1
end
def za7(s:ByteArray):qm2 P (λ_=>none) Go.Proofs.Tryz.f102 z59 (zel) s=(size s<1000000->j9e s):=by kernel_rfl
def zbv:=λs=>Eq.trans (za7 s) (by delta Ji Jb Jt Jf j3z j40 j9i j9h j9g j9f j9e;exact rfl)
section
variable (x0 x1:ByteArray) (x2:List AT) (x3:Int) (x4:Nat×ByteArray) (x5:Prop) (x6:Nat×ByteArray)
 abbrev j5z:=x4.1<=size x0/\(if zm7 x0 (size x0- x4.1) x4.1=true then x0 else x4.2)=z18 x0 x1
 def j5x:=length x2=length x2/\x3=x3/\z00 AT.cells x2=z00 AT.cells x2/\(j5z x0 x1 x4)/\x5
 abbrev zqc:=Jb ((↑x4.1:Int)+1)
 def zqd:=x0=x0/\(↑x4.1:Int)=(↑x6.1:Int)+1/\j5x x1 x0 x2 x3 x4 (size x1- x4.1<size x1- x6.1/\True)
 def j9o:=zqc x4/\∃(i0:Nat×ByteArray),x0=x0/\i0.2=x0/\zqd x1 x0 x2 x3 i0 x4
 def j9n:=zqc x4/\∃(i0:Nat×ByteArray),x0=x0/\i0.2=x4.2/\zqd x1 x0 x2 x3 i0 x4
 def j9l:=(0<=(↑x4.1:Int)/\(↑x4.1:Int)<(↑(size x0):Int))/\Ji ((↑(bat x0 (toNat (↑x4.1:Int))):Int)=46) (j9o x0 x1 x2 x3 x4) (j9n x0 x1 x2 x3 x4)
 def j5y:=∃(i0:List AT),(6:Int)=6/\length i0=length x2/\x3=x3/\z00 AT.cells i0=z00 AT.cells x2/\True/\z18 x0 x1=x4.2/\length x2=length i0/\whE x0 x1 x3=faE x3 6/\z00 AT.cells x2=z00 AT.cells i0/\True
 def j9p:=x4.2=x4.2/\size x4.2<100000/\((!z38 x4.2)=true->j5y x0 x1 x2 x3 x4)/\((!z38 x4.2)=false->z18 x0 x1=x4.2/\length x2=length x2/\whE x0 x1 x3=x3/\z00 AT.cells x2=z00 AT.cells x2/\True)
 def j9m:=Ji (x0=mkS []) (j5y x0 x1 x2 x3 x4) (j9p x0 x1 x2 x3 x4)
 def j9k:=Ji ((↑x4.1:Int)<(↑(size x0):Int)) (j9l x0 x1 x2 x3 x4) (j9m x0 x1 x2 x3 x4)
 def j9j:=x0=x0/\x1=x1/\(size x0<1000000/\size x1<1000000)/\(∃(i0:Nat×ByteArray),x1=x1/\i0.2=z2b x0 x1/\x0=x0/\(↑i0.1:Int)=0/\j5x x1 x0 x2 x3 i0 True)/\∀(i1:Nat×ByteArray),j5z x1 x0 i1->j9k x1 x0 x2 x3 i1
end
def zb4(S:List AT) (e:Int) (a b:ByteArray):qm2 P (qh2 [(98,zgo),(123,z8y),(63,z1s)]) Go.Proofs.Tryz.f101 z5i (zn5) ⟨S,e,a,b⟩=(size a<10000/\size b<50000->j9j b a S e):=by kernel_rfl
def zes:=λS e a b=>Eq.trans (zb4 S e a b) (by delta Ji Jb Jt Jf j5z j5x zqc zqd j9o j9n j9l j5y j9p j9m j9k j9j;exact rfl)
section
variable (x0:ByteArray) (x1:GJ) (x2:Nat) (x3:Prop)
 abbrev j61:=x2<=length (GJ.nm x1)/\(if GJ.k x1=6 then z3d x0 (drop x2 (GJ.nm x1)) (drop x2 (GJ.l x1))else none)=z0b x0 x1
 def j60:=GJ.k x1=GJ.k x1/\GJ.n x1=GJ.n x1/\GJ.s x1=GJ.s x1/\(GJ.y x1).1=(GJ.y x1).1/\(GJ.y x1).2.1=(GJ.y x1).2.1/\(GJ.y x1).2.2=(GJ.y x1).2.2/\(GJ.x x1).1=(GJ.x x1).1/\(GJ.x x1).2.1=(GJ.x x1).2.1/\(GJ.x x1).2.2=(GJ.x x1).2.2/\(∀i0,True/\GJ.ok x1 i0->True/\GJ.ok x1 i0)/\(j61 x0 x1 x2)/\x3
 abbrev zqe:=(↑x2:Int)<(↑(GJ.x x1).2.1:Int)
 abbrev zqf:=(↑x2:Int)<(↑(GJ.y x1).2.1:Int)
 abbrev z7x:=GJ.y (Option.getD (z0b x0 x1) zJ)
 abbrev z7y:=GJ.x (Option.getD (z0b x0 x1) zJ)
 def j9v:=(0<=(↑x2:Int)/\zqf x1 x2)/\(GJ.y x1).1≠noA/\∃(i0:Int),∃(i1:Int),∃i2,∃i3,∃(i4:Nat),∃(i5:Nat),∃i6,∃(i7:Nat),∃(i8:Nat),(∀i9,True/\GJ.ok x1 i9->q3p i9 (adr (GJ.y x1).1 (toNat (↑x2:Int)*5)) [int i64 i0,int i64 i1,string i2,slice i3 i4 i5,slice i6 i7 i8])/\GJ.k (Option.getD (z0b x0 x1) zJ)=i0/\GJ.n (Option.getD (z0b x0 x1) zJ)=i1/\GJ.s (Option.getD (z0b x0 x1) zJ)=i2/\(z7x x0 x1).1=i3/\(z7x x0 x1).2.1=i4/\(z7x x0 x1).2.2=i5/\(z7y x0 x1).1=i6/\(z7y x0 x1).2.1=i7/\(z7y x0 x1).2.2=i8/\Option.isSome (z0b x0 x1)=true/\True
 def j9w:=Jb ((↑x2:Int)+1)/\∃(i0:Nat),x0=x0/\(↑i0:Int)=(↑x2:Int)+1/\j60 x0 x1 i0 (length (GJ.nm x1)- i0<length (GJ.nm x1)- x2/\True)
 def j9u:=(0<=(↑x2:Int)/\zqe x1 x2)/\(GJ.x x1).1≠noA/\∃i0,(∀i1,True/\GJ.ok x1 i1->q3p i1 (adr (GJ.x x1).1 (toNat (↑x2:Int)*1)) [string i0])/\Ji (i0=x0) (j9v x0 x1 x2) (j9w x0 x1 x2)
 def j41:=GJ.k (Option.getD (z0b x0 x1) zJ)=0/\GJ.n (Option.getD (z0b x0 x1) zJ)=0/\GJ.s (Option.getD (z0b x0 x1) zJ)=mkS []/\(z7x x0 x1).1=noA/\(z7x x0 x1).2.1=0/\(z7x x0 x1).2.2=0/\(z7y x0 x1).1=noA/\(z7y x0 x1).2.1=0/\(z7y x0 x1).2.2=0/\Option.isSome (z0b x0 x1)=false/\True
 abbrev j9t:=Ji (zqf x1 x2) (j9u x0 x1 x2) (j41 x0 x1)
 abbrev j9s:=Ji (zqe x1 x2) (j9t x0 x1 x2) (j41 x0 x1)
 def j9r:=Ji (GJ.k x1=6) (j9s x0 x1 x2) (j41 x0 x1)
 def j9q:=(∃(i0:Nat),x0=x0/\(↑i0:Int)=0/\j60 x0 x1 i0 True)/\∀(i2:Nat),j61 x0 x1 i2->j9r x0 x1 i2
end
def zhb(g:GJ) (s:ByteArray):qm2 P (λ_=>none) Go.Proofs.Tryz.f66 z4l (zy5) ⟨g,s⟩=(GJ.wf g->(∃(p:Pub),True/\GJ.ok g p)->j9q s g):=by kernel_rfl
def zo8:=λg s=>Eq.trans (zhb g s) (by delta Ji Jb Jt Jf j61 j60 zqe zqf z7x z7y j9v j9w j9u j41 j9t j9s j9r j9q;exact rfl)
section
variable (x0:GJ×ByteArray) (x1:List AT) (x2:Int) (x3:GJ) (x4:ByteArray) (x5:Bool)
 def ja0:=(woR x3 x4 x5 x2).1=mkS []/\length x1=length x1/\(woR x3 x4 x5 x2).2=x2/\z00 AT.cells x1=z00 AT.cells x1/\True
 def j63:=∃(i0:List AT),(2:Int)=2/\length i0=length x1/\x2=x2/\z00 AT.cells i0=z00 AT.cells x1/\True/\(woR x3 x4 x5 x2).1=mkS []/\length x1=length i0/\(woR x3 x4 x5 x2).2=faE x2 2/\z00 AT.cells x1=z00 AT.cells i0/\True
 def j9z:=(woR x3 x4 x5 x2).1=GJ.s (Option.getD (z0b x0.2 x0.1) zJ)/\length x1=length x1/\(woR x3 x4 x5 x2).2=x2/\z00 AT.cells x1=z00 AT.cells x1/\True
 def j9x:=((!decide (GJ.k (Option.getD (z0b x0.2 x0.1) zJ)=4))=true->j63 x1 x2 x3 x4 x5)/\((!decide (GJ.k (Option.getD (z0b x0.2 x0.1) zJ)=4))=false->j9z x0 x1 x2 x3 x4 x5)
 def j62:=((!Option.isSome (z0b x0.2 x0.1))=true->j63 x1 x2 x3 x4 x5)/\((!Option.isSome (z0b x0.2 x0.1))=false->j9x x0 x1 x2 x3 x4 x5)
 def j9y:=((!x5)=true->ja0 x1 x2 x3 x4 x5)/\((!x5)=false->j62 x0 x1 x2 x3 x4 x5)
end
def zev(S:List AT) (e:Int) (g:GJ) (s:ByteArray) (b:Bool):qm2 P (qh2 [(66,z4l),(63,z1s)]) Go.Proofs.Tryz.f100 z6i (λ_=>{}) ⟨S,e,g,s,b⟩=(GJ.wf g->(∃(p:Pub),True/\GJ.ok g p)->∃(s_1:GJ×ByteArray),GJ.k s_1.1=GJ.k g/\GJ.n s_1.1=GJ.n g/\GJ.s s_1.1=GJ.s g/\(GJ.y s_1.1).1=(GJ.y g).1/\(GJ.y s_1.1).2.1=(GJ.y g).2.1/\(GJ.y s_1.1).2.2=(GJ.y g).2.2/\(GJ.x s_1.1).1=(GJ.x g).1/\(GJ.x s_1.1).2.1=(GJ.x g).2.1/\(GJ.x s_1.1).2.2=(GJ.x g).2.2/\s_1.2=s/\GJ.wf s_1.1/\(∀(p:Pub),True/\GJ.ok g p->GJ.ok s_1.1 p)/\((!Option.isSome (z0b s_1.2 s_1.1))=true->j9y s_1 S e g s b)/\((!Option.isSome (z0b s_1.2 s_1.1))=false->j62 s_1 S e g s b)):=by kernel_rfl
def zjb:=λS e g s b=>Eq.trans (zev S e g s b) (by delta ja0 j63 j9z j9x j62 j9y;exact rfl)
section
variable (x0:SV) (x1:Int) (x2:List Int) (x3:Int) (x4:Prop)
 abbrev j64:=x0.1=x0.1/\x0.2.1=x0.2.1/\x0.2.2=x0.2.2/\x4
 def ja3:=z0u x2 x1 x3=0/\j64 x0 (z06 x2 x1=x1/\True)
 def ja2:=Jb (x1+1)/\Jb (x1+1- 1)/\(0<=x1+1- 1/\x1+1- 1<(↑x0.2.1:Int))/\x0.1≠noA/\∃(i0:Int),(∀i1,True/\slP byV x0 x2 i1->q3p i1 (adr x0.1 (toNat (x1+1- 1)*1)) [int u8 i0])/\Jb (i0)/\x3≠0/\z0u x2 x1 x3=Int.tmod i0 x3/\j64 x0 (z06 x2 x1=x1+1/\True)
 def ja1:=Ji ((↑x0.2.1:Int)<=x1) (ja3 x0 x1 x2 x3) (ja2 x0 x1 x2 x3)
end
def zp0(x:SV) (L:List Int) (n m:Int):qm2 P (λ_=>none) Go.Proofs.Tryz.f23 zw0 (λ_=>{}) ⟨x,L,n,m⟩=(0<=n/\n<=(↑(length L):Int)/\0<m/\m<1000000/\z0q L->(∃(p:Pub),True/\slP byV x L p)->ja1 x n L m):=by kernel_rfl
def zx8:=λx L n m=>Eq.trans (zp0 x L n m) (by delta Ji Jb Jt Jf j64 ja3 ja2 ja1;exact rfl)
def zp4(x:SV) (L:List Int) (n:Int):qm2 P (λ_=>none) Go.Proofs.Tryz.f22 znv (λ_=>{}) ⟨x,L,n⟩=(True->(∃(p:Nat->Option Obj),True/\slP byV x L p)->decide ((↑(List.length L):Int)<=n)=decide ((↑(Prod.fst (Prod.snd x)):Int)<=n)/\Prod.fst x=Prod.fst x/\Prod.fst (Prod.snd x)=Prod.fst (Prod.snd x)/\Prod.snd (Prod.snd x)=Prod.snd (Prod.snd x)/\n=n/\True):=by kernel_rfl
def zpu(s:ByteArray):qm2 P (λ_=>none) Go.Proofs.Tryz.f72 zad (λ_=>{}) s=(True->s=s/\True):=by kernel_rfl
def zdy(u:Unit):qm2 P (λ_=>none) Go.Proofs.Tryz.f71 z4y (λ_=>{}) N3.two=(True->True):=by kernel_rfl
def zdz(u:Unit):qm2 P (λ_=>none) Go.Proofs.Tryz.f71 z4y (λ_=>{}) N3.three=(True->True):=by kernel_rfl
def ze0(u:Unit):qm2 P (λ_=>none) Go.Proofs.Tryz.f71 z4y (λ_=>{}) N3.four=(True->True):=by kernel_rfl
section
variable (x0:ByteArray) (x1:GJ) (x2:Nat) (x3:Prop)
 abbrev j66:=x2<=length (GJ.nm x1)/\z3d x0 (drop x2 (GJ.nm x1)) (drop x2 (GJ.l x1))=z3d x0 (GJ.nm x1) (GJ.l x1)
 def j65:=GJ.k x1=GJ.k x1/\GJ.n x1=GJ.n x1/\GJ.s x1=GJ.s x1/\(GJ.y x1).1=(GJ.y x1).1/\(GJ.y x1).2.1=(GJ.y x1).2.1/\(GJ.y x1).2.2=(GJ.y x1).2.2/\(GJ.x x1).1=(GJ.x x1).1/\(GJ.x x1).2.1=(GJ.x x1).2.1/\(GJ.x x1).2.2=(GJ.x x1).2.2/\(∀i0,True/\GJ.ok x1 i0->True/\GJ.ok x1 i0)/\(j66 x0 x1 x2)/\x3
 abbrev j67:=(↑x2:Int)<(↑(GJ.x x1).2.1:Int)
 abbrev z5x:=Option.getD (z3d x0 (GJ.nm x1) (GJ.l x1)) zJ
 def ja7:=(0<=(↑x2:Int)/\(↑x2:Int)<(↑(GJ.y x1).2.1:Int))/\(GJ.y x1).1≠noA/\∃(i0:Int),∃(i1:Int),∃i2,∃i3,∃(i4:Nat),∃(i5:Nat),∃i6,∃(i7:Nat),∃(i8:Nat),(∀i9,True/\GJ.ok x1 i9->q3p i9 (adr (GJ.y x1).1 (toNat (↑x2:Int)*5)) [int i64 i0,int i64 i1,string i2,slice i3 i4 i5,slice i6 i7 i8])/\GJ.k (z5x x0 x1)=i0/\GJ.n (z5x x0 x1)=i1/\GJ.s (z5x x0 x1)=i2/\(GJ.y (z5x x0 x1)).1=i3/\(GJ.y (z5x x0 x1)).2.1=i4/\(GJ.y (z5x x0 x1)).2.2=i5/\(GJ.x (z5x x0 x1)).1=i6/\(GJ.x (z5x x0 x1)).2.1=i7/\(GJ.x (z5x x0 x1)).2.2=i8/\Option.isSome (z3d x0 (GJ.nm x1) (GJ.l x1))=true/\True
 def ja8:=Jb ((↑x2:Int)+1)/\∃(i0:Nat),x0=x0/\(↑i0:Int)=(↑x2:Int)+1/\j65 x0 x1 i0 (length (GJ.nm x1)- i0<length (GJ.nm x1)- x2/\True)
 def ja6:=(0<=(↑x2:Int)/\j67 x1 x2)/\(GJ.x x1).1≠noA/\∃i0,(∀i1,True/\GJ.ok x1 i1->q3p i1 (adr (GJ.x x1).1 (toNat (↑x2:Int)*1)) [string i0])/\Ji (i0=x0) (ja7 x0 x1 x2) (ja8 x0 x1 x2)
 def ja9:=GJ.k (z5x x0 x1)=0/\GJ.n (z5x x0 x1)=0/\GJ.s (z5x x0 x1)=mkS []/\(GJ.y (z5x x0 x1)).1=noA/\(GJ.y (z5x x0 x1)).2.1=0/\(GJ.y (z5x x0 x1)).2.2=0/\(GJ.x (z5x x0 x1)).1=noA/\(GJ.x (z5x x0 x1)).2.1=0/\(GJ.x (z5x x0 x1)).2.2=0/\Option.isSome (z3d x0 (GJ.nm x1) (GJ.l x1))=false/\True
 abbrev ja5:=Ji (j67 x1 x2) (ja6 x0 x1 x2) (ja9 x0 x1)
 def ja4:=(∃(i0:Nat),x0=x0/\(↑i0:Int)=0/\j65 x0 x1 i0 True)/\∀(i2:Nat),j66 x0 x1 i2->ja5 x0 x1 i2
end
def zo9(g:GJ) (s:ByteArray):qm2 P (λ_=>none) Go.Proofs.Tryz.f107 j3a (j7p) ⟨g,s⟩=(GJ.wf g->(∃(p:Pub),True/\GJ.ok g p)->ja4 s g):=by kernel_rfl
def get_eq:=λg s=>Eq.trans (zo9 g s) (by delta Ji Jb Jt Jf j66 j65 j67 z5x ja7 ja8 ja6 ja9 ja5 ja4;exact rfl)
section
variable (x0:GJ) (x1:SV) (x2:Int) (x3:List Int) (x4:Prop) (x5:Int) (x6:GJ×ByteArray) (x7:List Int)
 abbrev zqk:=GJ.s x0=mkS [105,110,116]
 def zgf:=x1.1=x1.1/\x1.2.1=x1.2.1/\x1.2.2=x1.2.2/\x4
 def zjk:=zgf x1 (x2=x2/\GJ.k x0=GJ.k x0/\GJ.n x0=GJ.n x0/\GJ.s x0=GJ.s x0/\(GJ.y x0).1=(GJ.y x0).1/\(GJ.y x0).2.1=(GJ.y x0).2.1/\(GJ.y x0).2.2=(GJ.y x0).2.2/\(GJ.x x0).1=(GJ.x x0).1/\(GJ.x x0).2.1=(GJ.x x0).2.1/\(GJ.x x0).2.2=(GJ.x x0).2.2/\(∀i0,True/\slP byV x1 x3 i0/\GJ.ok x0 i0->True/\slP byV x1 x3 i0/\GJ.ok x0 i0)/\x4)
 abbrev zqj:=GJ.s x0=mkS [108,111,110,103]
 abbrev zqh:=GJ.s x0=mkS [102,108,111,97,116]
 def zyt:=Ji (zqh x0) (∃(i0:Unit),GJ.s x0=GJ.s x0/\isNum (GJ.s x0)=decide (zqh x0)/\zjk x0 x1 x2 x3 (True/\True)) (∃(i1:Unit),GJ.s x0=GJ.s x0/\isNum (GJ.s x0)=decide (GJ.s x0=mkS [100,111,117,98,108,101])/\zjk x0 x1 x2 x3 (True/\True))
 def zyr:=Ji (zqj x0) (∃(i0:Unit),GJ.s x0=GJ.s x0/\isNum (GJ.s x0)=decide (zqj x0)/\zjk x0 x1 x2 x3 (True/\True)) (zyt x0 x1 x2 x3)
 def zji:=x2=x2/\(0<=x2/\x2<=(↑(length x3):Int)/\0<x5/\x5<1000000/\z0q x3)/\(∀i0,True/\slP byV x1 x7 i0/\GJ.ok x0 i0->slP byV (x1.1,x1.2.1,x1.2.2) x3 i0)/\x4
 abbrev z4e:=(z2j x0 x3 x2).2.2
 abbrev zqg:=GJ.s x0=mkS [115,116,114,105,110,103]
 abbrev zyw:=GJ.s x0=mkS [98,111,111,108,101,97,110]
 def zyy:=(z2j x0 x3 x2).1=x5/\(z2j x0 x3 x2).2.1=0/\(z4e x0 x2 x3).1=mkS []/\zgf x1 ((z4e x0 x2 x3).2=x2/\True)
 def zjj:=GJ.k x0=4/\(isNum (GJ.s x0)=true\/z3e (GJ.s x0)=true\/z7n (GJ.s x0)=true\/zao (GJ.s x0)=true)
 def zyu:=Ji (GJ.s x0=mkS [110,117,108,108]) (zyy x0 x1 x2 x3 1) (∃(i0:Unit),zjk x0 x1 x2 x3 (¬(zjj x0)/\True))
 def jag:=Ji (zyw x0) (∃(i0:List Int),(2:Int)=2/\zgf x1 (zji x0 x1 x2 i0 ((z2j x0 x3 x2).1=2/\(z2j x0 x3 x2).2.1=z0u i0 x2 2/\(z4e x0 x2 x3).1=mkS []/\zgf x1 ((z4e x0 x2 x3).2=z06 i0 x2/\True)) 2 x3)) (zyu x0 x1 x2 x3)
 def jae:=(z3e (GJ.s x0)=true->∃(i0:List Int),(3:Int)=3/\zgf x1 (zji x0 x1 x2 i0 ((0<=z0u i0 x2 3/\z0u i0 x2 (3:Int)<(↑(nat_lit 3):Int))/\∃i2,qi8 [string (mkS []),string (mkS [100]),string (mkS [195,164])] (nat_lit 0+toNat (z0u i0 x2 3)*1) [string i2]/\i2=i2/\True/\(z2j x0 x3 x2).1=4/\(z2j x0 x3 x2).2.1=0/\(z4e x0 x2 x3).1=i2/\zgf x1 ((z4e x0 x2 x3).2=z06 i0 x2/\True)) 3 x3))/\(z3e (GJ.s x0)=false->jag x0 x1 x2 x3)
 def jad:=(Ji (zqg x0) (∃(i0:Unit),GJ.s x0=GJ.s x0/\z3e (GJ.s x0)=decide (zqg x0)/\zjk x0 x1 x2 x3 (True/\True)) (∃(i2:Unit),GJ.s x0=GJ.s x0/\z3e (GJ.s x0)=decide (GJ.s x0=mkS [98,121,116,101,115])/\zjk x0 x1 x2 x3 (True/\True)))/\∀(i4:Unit),True->jae x0 x1 x2 x3
 def jac:=(isNum (GJ.s x0)=true->∃(i0:List Int),(200:Int)=200/\zgf x1 (zji x0 x1 x2 i0 (Jb (z0u i0 x2 200- 50)/\(z2j x0 x3 x2).1=3/\(z2j x0 x3 x2).2.1=z0u i0 x2 200- 50/\(z4e x0 x2 x3).1=mkS []/\zgf x1 ((z4e x0 x2 x3).2=z06 i0 x2/\True)) 200 x3))/\(isNum (GJ.s x0)=false->jad x0 x1 x2 x3)
 def jab:=(Ji (zqk x0) (∃(i0:Unit),GJ.s x0=GJ.s x0/\isNum (GJ.s x0)=decide (zqk x0)/\zjk x0 x1 x2 x3 (True/\True)) (zyr x0 x1 x2 x3))/\∀(i8:Unit),True->jac x0 x1 x2 x3
 abbrev zqi:=Option.getD (z3d x6.2 (GJ.nm x6.1) (GJ.l x6.1)) zJ
 abbrev zyx:=GJ.s (zqi x6)=mkS [97,114,114,97,121]
 def zyv:=mkS [88]=mkS [88]/\True/\(z2j x0 x3 x2).1=4/\(z2j x0 x3 x2).2.1=0/\(z4e x0 x2 x3).1=mkS [88]/\zgf x1 ((z4e x0 x2 x3).2=x2/\True)
 def zys:=Ji (GJ.s (zqi x6)=mkS [101,110,117,109]) (zyv x0 x1 x2 x3) (zyy x0 x1 x2 x3 6)
 def jaf:=Ji (GJ.k x0=5) (zyy x0 x1 x2 x3 1) (∃(i0:GJ×ByteArray),GJ.k i0.1=GJ.k x0/\GJ.n i0.1=GJ.n x0/\GJ.s i0.1=GJ.s x0/\(GJ.y i0.1).1=(GJ.y x0).1/\(GJ.y i0.1).2.1=(GJ.y x0).2.1/\(GJ.y i0.1).2.2=(GJ.y x0).2.2/\(GJ.x i0.1).1=(GJ.x x0).1/\(GJ.x i0.1).2.1=(GJ.x x0).2.1/\(GJ.x i0.1).2.2=(GJ.x x0).2.2/\i0.2=mkS [116,121,112,101]/\GJ.wf i0.1/\(∀i1,True/\slP byV x1 x3 i1/\GJ.ok x0 i1->GJ.ok i0.1 i1)/\Ji (zyx i0) (zyy x0 x1 x2 x3 5) (zys x0 x1 x2 x3 i0))
 def jaa:=(Ji (GJ.k x0=4) (jab x0 x1 x2 x3) (∃(i23:Unit),zjk x0 x1 x2 x3 (¬(zjj x0)/\True)))/\∀(i25:Unit),¬(zjj x0)->jaf x0 x1 x2 x3
end
def zgt(x:SV) (L:List Int) (n:Int) (g:GJ):qm2 P (qh2 [(23,zw0),(72,zad),(107,j3a)]) Go.Proofs.Tryz.f73 z3u (za2) ⟨x,L,n,g⟩=(0<=n/\n<=(↑(length L):Int)/\z0q L/\GJ.wf g->(∃(p:Pub),True/\slP byV x L p/\GJ.ok g p)->jaa g x n L):=by kernel_rfl
def zo5:=λx L n g=>Eq.trans (zgt x L n g) (by delta Ji Jb Jt Jf zqk zgf zjk zqj zqh zyt zyr zji z4e zqg zyw zyy zjj zyu jag jae jad jac jab zqi zyx zyv zys jaf jaa;exact rfl)
def zwz(c:Nat):ldN c<=4:=by
 unfold ldN;repeat' split
 all_goals omega
def zx1(c:Nat):ldV c<128:=by
 unfold ldV;repeat' split
 all_goals omega
section
variable (x0 x1 x2:Int)
 abbrev jal:=(↑(ldN (toNat x0)):Int)=1/\(↑(ldV (toNat x0)):Int)=IntKind.wrap u32 x0/\True
 abbrev j43:=shP BinOp.shr u8 x0 x1=x2
 def j42:=(↑(ldN (toNat x0)):Int)=x1/\(↑(ldV (toNat x0)):Int)=IntKind.wrap u32 (qbu BinOp.and u8 x0 x2)/\True
 def jam:=(↑(ldN (toNat x0)):Int)=0/\(↑(ldV (toNat x0)):Int)=0/\True
 def jak:=(0:Int)<=3/\Ji (j43 x0 3 30) (j42 x0 4 7) (jam x0)
 def jaj:=(0:Int)<=4/\Ji (j43 x0 4 14) (j42 x0 3 15) (jak x0)
 def jai:=(0:Int)<=5/\Ji (j43 x0 5 6) (j42 x0 2 31) (jaj x0)
 def jah:=Ji (x0<128) (jal x0) (jai x0)
end
def zhl(c:Int):qm2 P ((λ_=>none)) Go.Proofs.Tryz.f131 znt (λ_=>{}) c=(0<=c/\c<256->jah c):=by kernel_rfl
def zom:=λc=>Eq.trans (zhl c) (by delta Ji Jt Jf jal j43 j42 jam jak jaj jai jah;exact rfl)
def j4w:∀c<256,¬c<128->(decide (shP BinOp.shr IntKind.u8 (c:Nat) 5=6)=(decide (192<=c)&&decide (c<224)))/\(decide (shP BinOp.shr IntKind.u8 (c:Nat) 4=14)=(decide (224<=c)&&decide (c<240)))/\(decide (shP BinOp.shr IntKind.u8 (c:Nat) 3=30)=(decide (240<=c)&&decide (c<248))):=by decide+kernel
def j4x:∀c<256,IntKind.wrap IntKind.u32 ((c:Nat):Int)=(c:Nat)/\(192<=c->c<224->IntKind.wrap IntKind.u32 (qbu BinOp.and IntKind.u8 (c:Nat) 31)=((c- 192:Nat):Int))/\(224<=c->c<240->IntKind.wrap IntKind.u32 (qbu BinOp.and IntKind.u8 (c:Nat) 15)=((c- 224:Nat):Int))/\(240<=c->c<248->IntKind.wrap IntKind.u32 (qbu BinOp.and IntKind.u8 (c:Nat) 7)=((c- 240:Nat):Int)):=by decide+kernel
def zon:q5k P 131 znt:=by
 refine qm5 mixed z0p (W:=λ_=>{}) Go.Proofs.Tryz.func131 (by kernel_rfl) (by decide) (by decide) (λc=>by kernel_rfl) λ(c:Int)=>(zom c).mpr ?_
 rintro⟨h1,h2⟩
 obtain⟨n,rfl⟩:=Int.eq_ofNat_of_zero_le h1
 have hn:n<256:=by omega
 obtain⟨b0,b1,b2,b3⟩:=j4x n hn
 simp only[Int.toNat_natCast,and_true,decide_eq_true_eq,decide_eq_false_iff_not]
 refine⟨λh=> ?_,λh=>⟨by omega,?_⟩⟩
 ·unfold ldN ldV;rw[if_pos (by omega),if_pos (by omega),b0];simp
 have hg:¬n<128:=by omega
 obtain⟨a1,a2,a3⟩:=j4w n hn hg
 have a1:(shP BinOp.shr IntKind.u8 (n:Nat) 5=6)↔(192<=n/\n<224):=by
  rw[←decide_eq_true_iff (p:=shP BinOp.shr IntKind.u8 (n:Nat) 5=6),a1];simp
 have a2:(shP BinOp.shr IntKind.u8 (n:Nat) 4=14)↔(224<=n/\n<240):=by
  rw[←decide_eq_true_iff (p:=shP BinOp.shr IntKind.u8 (n:Nat) 4=14),a2];simp
 have a3:(shP BinOp.shr IntKind.u8 (n:Nat) 3=30)↔(240<=n/\n<248):=by
  rw[←decide_eq_true_iff (p:=shP BinOp.shr IntKind.u8 (n:Nat) 3=30),a3];simp
 rw[a1,a2,a3]
 refine⟨λg=> ?_,λg=>⟨by omega,λg2=> ?_,λg2=>⟨by omega,λg3=> ?_,λg3=> ?_⟩⟩⟩
 ·unfold ldN ldV
  rw[if_neg hg,if_pos g,if_neg hg,if_pos g,b1 g.1 g.2];simp
 ·unfold ldN ldV
  rw[if_neg hg,if_neg g,if_pos g2,if_neg hg,if_neg g,if_pos g2,b2 g2.1 g2.2];simp
 ·unfold ldN ldV
  rw[if_neg hg,if_neg g,if_neg g2,if_pos g3,if_neg hg,if_neg g,if_neg g2,if_pos g3,b3 g3.1 g3.2];simp
 ·unfold ldN ldV
  rw[if_neg hg,if_neg g,if_neg g2,if_neg g3,if_neg hg,if_neg g,if_neg g2,if_neg g3];simp
def zww(c:Int):qm2 P ((λ_=>none)) Go.Proofs.Tryz.f132 cIs (λ_=>{}) c=((0:Int)<=c/\c<(4294967296:Int)->(decide (c<=(1114111:Int))=true->(0:Int)<=(11:Int)/\isC (Int.toNat c)= !decide (shP BinOp.shr IntKind.u32 c (11:Int)=(27:Int))/\True)/\(decide (c<=(1114111:Int))=false->isC (Int.toNat c)=false/\True)):=by kernel_rfl
def j4q:q5k P 132 cIs:=by
 refine qm5 mixed z0p (W:=λ_=>{}) Go.Proofs.Tryz.func132 (by kernel_rfl) (by decide) (by decide) (λc=>by kernel_rfl) λ(c:Int)=>(zww c).mpr ?_
 rintro⟨h1,h2⟩
 obtain⟨n,rfl⟩:=Int.eq_ofNat_of_zero_le h1
 simp only[Int.toNat_natCast,and_true,decide_eq_true_eq,decide_eq_false_iff_not,isC]
 refine⟨λh=>⟨by omega,?_⟩,λh=> ?_⟩
 ·have:shP BinOp.shr IntKind.u32 (n:Nat) 11=((n / 2048:Nat):Int):=by
   show(n:Int).fdiv (2 ^ 11)=_
   rw[Int.fdiv_eq_ediv_of_nonneg _ (by decide)];omega
  rw[this]
  by_cases g:55296<=n/\n<=57343
  ·have e:n / 2048=27:=by omega
   rw[e];simp;omega
  ·have e:n / 2048≠27:=by omega
   have e2:¬((n / 2048:Nat):Int)=27:=by omega
   rw[decide_eq_false e2]
   simp;omega
 ·rw[decide_eq_false (by omega)];rfl
def zaq(c:Int):qm2 P ((λ_=>none)) Go.Proofs.Tryz.f133 z7g (λ_=>{}) c=((0:Int)<=c/\c<(4294967296:Int)->(decide (c<(128:Int))=true->(↑(lnN (toNat c)):Int)=(1:Int)/\True)/\(decide (c<(128:Int))=false->(decide (c<(2048:Int))=true->(↑(lnN (toNat c)):Int)=(2:Int)/\True)/\(decide (c<(2048:Int))=false->(decide (c<(65536:Int))=true->(↑(lnN (toNat c)):Int)=(3:Int)/\True)/\(decide (c<(65536:Int))=false->(↑(lnN (toNat c)):Int)=(4:Int)/\True)))):=by kernel_rfl
def zd1:q5k P 133 z7g:=by
 refine qm5 mixed z0p (W:=λ_=>{}) Go.Proofs.Tryz.func133 (by kernel_rfl) (by decide) (by decide) (λc=>by kernel_rfl) λ(c:Int)=>(zaq c).mpr ?_
 rintro⟨h1,h2⟩
 simp only[and_true,decide_eq_true_eq,decide_eq_false_iff_not,lnN]
 refine⟨λh=> ?_,λh=>⟨λg=> ?_,λg=>⟨λk=> ?_,λk=> ?_⟩⟩⟩
 ·rw[if_pos (by omega)];rfl
 ·rw[if_neg (by omega),if_pos (by omega)];rfl
 ·rw[if_neg (by omega),if_neg (by omega),if_pos (by omega)];rfl
 ·rw[if_neg (by omega),if_neg (by omega),if_neg (by omega)];rfl
def ct1:∀c<256,decide (shP BinOp.shr IntKind.u8 (c:Nat) 6=2)=ctC c:=by decide+kernel
def ct2:∀c<256,ctC c=true->IntKind.wrap IntKind.u32 (qbu BinOp.and IntKind.u8 (c:Nat) 63)=((c- 128:Nat):Int)/\c- 128<64:=by decide+kernel
def z9y(s:ByteArray):∀(i r:Nat),vlF s i=some r->i<=4->r<128*64 ^ (i- 1)
  |0,r,h,_=>by simp[vlF]at h;subst h;decide
  | 1,r,h,_=>by
    simp[vlF]at h
    have:=zx1 (bat s 0)
    rw[h]at this;simpa using this
  | i + 2,r,h,hi=>by
    simp only[vlF]at h
    split at h
    · rename_i q hq
      have ih:=z9y s (i+1) q hq (by omega)
      split at h
      · rename_i hc
        cases h
        have:=z1y s (i+1)
        simp[ctC]at hc
        have e:i+1- 1=i:=by omega
        have e2:i+2- 1=i+1:=by omega
        rw[e]at ih
        rw[e2,Nat.pow_succ]
        omega
      · cases h
    · cases h
def jio(r d:Nat) (hr:r<67108864) (hd:d<64):qbu BinOp.or IntKind.u32 (shP BinOp.shl IntKind.u32 (r:Int) 6) (d:Int)=((r*64+d:Nat):Int):=by
 have e:shP BinOp.shl IntKind.u32 (r:Int) 6=((r*64:Nat):Int):=by
  show IntKind.u32.wrap ((r:Int)*2 ^ 6)=_
  unfold IntKind.wrap;simp[IntKind.bits,IntKind.signed];omega
 rw[e]
 have h0:=u32_or_nat (r*64) d (by omega) (by omega)
 have h1:qbu BinOp.or IntKind.u32 ((r*64:Nat):Int) (d:Int)=bits .or .u32 ((r*64:Nat):Int) (d:Int):=rfl
 rw[h1,h0]
 congr 1
 have h:=Nat.two_pow_add_eq_or_of_lt (i:=6) (b:=d) hd r
 rw[show 2 ^ 6*r=r*64 by omega]at h
 exact h.symm
def z9z(s:ByteArray) (i j:Nat) (hij:i<=j) (h1:1<=i) (h:vlF s i=none):vlF s j=none:=by
  induction j with
  |zero=>omega
  | succ j ih=>
    by_cases e:i=j+1
    · subst e;exact h
    · have:=ih (by omega)
      cases j with
      |zero=>omega
      |succ j=>simp only[vlF];rw[this]
section
variable (x0:ByteArray) (x1:Int×Int)
 abbrev zf0:=(↑(ldN (toNat (↑(bat x0 0):Int))):Int)
 def zw8:=(↑(frt x0):Int)=0/\True
 abbrev zjm:=(↑(ldV (toNat (↑(bat x0 0):Int))):Int)
 def zql:= !decide (shP BinOp.shr u8 (↑(bat x0 (toNat x1.2)):Int) (6:Int)=2)
 abbrev zjl:=IntKind.wrap u32 (qbu BinOp.and u8 (↑(bat x0 (toNat x1.2)):Int) 63)
 def jar:=(0:Int)<=6/\(0<=x1.2/\x1.2<(↑(size x0):Int))/\Jb (x1.2+1)/\x0=x0/\(zf0 x0)=(zf0 x0)/\x1.2+1=x1.2+1/\qbu BinOp.or u32 (shP BinOp.shl u32 x1.1 6) (zjl x0 x1)=qbu BinOp.or u32 (shP BinOp.shl u32 x1.1 6) (zjl x0 x1)/\(1<=x1.2+1/\(x1.2+1<=(↑(ldN (bat x0 0)):Int)\/x1.2+1=1)/\∃(i0:Nat),qbu BinOp.or u32 (shP BinOp.shl u32 x1.1 6) (zjl x0 x1)=(↑i0:Int)/\(ldN (bat x0 0)=0\/vlF x0 (toNat (x1.2+1))=some i0))/\(5:Nat)- toNat (x1.2+1)<5- toNat x1.2/\True
 def jaq:=(0<=x1.2/\x1.2<(↑(size x0):Int))/\(0:Int)<=6/\((zql x0 x1)=true->zw8 x0)/\((zql x0 x1)=false->jar x0 x1)
 def jau:=x1.1=x1.1/\(0<=x1.1/\x1.1<4294967296)/\((!decide ((↑(lnN (toNat x1.1)):Int)=(zf0 x0)))=true->zw8 x0)/\((!decide ((↑(lnN (toNat x1.1)):Int)=(zf0 x0)))=false->(↑(frt x0):Int)=(zf0 x0)/\True)
 def jat:=x1.1=x1.1/\(0<=x1.1/\x1.1<4294967296)/\((!isC (toNat x1.1))=true->zw8 x0)/\((!isC (toNat x1.1))=false->jau x0 x1)
 def jas:=Ji ((zf0 x0)=0) (zw8 x0) (jat x0 x1)
 def jap:=Ji (x1.2<(zf0 x0)) (jaq x0 x1) (jas x0 x1)
 def jao:=(x0=x0/\(zf0 x0)=(zf0 x0)/\(1:Int)=1/\(zjm x0)=(zjm x0)/\((1:Int)<=1/\(1<=(↑(ldN (bat x0 0)):Int)\/(1:Int)=1)/\∃(i0:Nat),(zjm x0)=(↑i0:Int)/\(ldN (bat x0 0)=0\/vlF x0 (1:Nat)=some i0))/\True)/\∀(i1:Int×Int),(1<=i1.2/\(i1.2<=(↑(ldN (bat x0 0)):Int)\/i1.2=1)/\∃(i2:Nat),i1.1=(↑i2:Int)/\(ldN (bat x0 0)=0\/vlF x0 (toNat i1.2)=some i2))->jap x0 i1
 def jan:=((0:Int)<=0/\0<(↑(size x0):Int))/\(↑(bat x0 0):Int)=(↑(bat x0 0):Int)/\(0<=(↑(bat x0 0):Int)/\(↑(bat x0 0):Int)<256)/\Ji ((↑(size x0):Int)<(zf0 x0)) (zw8 x0) (jao x0)
end
def zcm(s:ByteArray):qm2 P (zmr) Go.Proofs.Tryz.f117 z8w (zmv) s=(0<size s/\size s<9223372036854775808->jan s):=by kernel_rfl
def front_eq:=λs=>Eq.trans (zcm s) (by delta Ji Jb Jt Jf zf0 zw8 zjm zql zjl jar jaq jau jat jas jap jao jan;exact rfl)
def zdx:∀g C,zmr g=some C->q5k P g C:=qee (qih zon (qih j4q (qih zd1 qlq)))
def zha:q5k P 117 z8w:=by
 refine qm5 mixed zdx (W:=zmv) Go.Proofs.Tryz.func117 (by kernel_rfl) (by decide) (by decide) (λc=>by kernel_rfl) λ(s:ByteArray)=>(front_eq s).mpr ?_
 rintro⟨h1,h2⟩
 have b0:=z1y s 0
 simp only[Int.toNat_natCast,Int.toNat_zero,and_true,true_and,decide_eq_true_eq,decide_eq_false_iff_not,Bool.not_eq_true',Bool.not_eq_false']
 obtain⟨n,hn⟩:∃n,n=ldN (bat s 0):=⟨_,rfl⟩
 have hn4:=zwz (bat s 0)
 have hfr:frt s=if s.size<n then 0 else match vlF s n with
  |none=>0
  |some r=>if n=0\/isC r=false\/lnN r≠n then 0 else n:=by rw[hn];rfl
 rw[←hn]at hn4⊢
 refine⟨by omega,by omega,λg=> ?_,λg=>⟨⟨by omega, .inr trivial,ldV (bat s 0),rfl, .inr rfl⟩,?_⟩⟩
 ·rw[hfr,if_pos (by omega)];rfl
 rintro⟨r,i⟩ ⟨i1,i2,q,hq,hv⟩
 simp only at i1 i2 hq hv⊢
 obtain⟨m,rfl⟩:=Int.eq_ofNat_of_zero_le (show 0<=i by omega)
 have em:((m:Int)+1).toNat=m+1:=by omega
 simp only[Int.toNat_natCast,em]at hv⊢
 subst hq
 simp only[Int.toNat_natCast]at hv⊢
 rw[if_neg (by omega)]at hfr
 refine⟨λk=>⟨by omega,by omega,?_⟩,λk=>⟨λk2=> ?_,λk2=> ?_⟩⟩
 ·have bm:=z1y s m
  have c1:shP BinOp.shr IntKind.u8 ((bat s m:Nat):Int) 6=2↔ctC (bat s m)=true:=by rw[←ct1 (bat s m) bm,decide_eq_true_iff]
  rw[c1]
  have hv:vlF s m=some q:=by
   rcases hv with h|h
   ·omega
   ·exact h
  have hbd:=z9y s m q hv (by omega)
  have hq26:q<67108864:=by
   have:m<=3:=by omega
   rcases m with _|_|_|_|m<;>simp at hbd<;>omega
  obtain⟨m',rfl⟩:∃m',m=m'+1:=⟨m- 1,by omega⟩
  refine⟨λk3=> ?_,λk3=>⟨by omega,by omega,by omega,⟨by omega,by omega,?_⟩,by omega⟩⟩
  ·have:vlF s (m'+2)=none:=by simp only[vlF];rw[hv];simp[k3]
   rw[hfr,z9z s (m'+2) n (by omega) (by omega) this];rfl
  ·obtain⟨c2,c3⟩:=ct2 (bat s (m'+1)) bm k3
   rw[c2]
   refine⟨_,jio q _ hq26 c3, .inr ?_⟩
   simp only[vlF]
   rw[hv];simp[k3]
 ·have h0:n=0:=by omega
  rw[hfr,h0];simp[vlF]
 ·have hn0:n≠0:=by omega
  have hm:m=n:=by omega
  have hv:vlF s n=some q:=by
   rcases hv with h|h
   ·omega
   ·rw[←hm];exact h
  have hbd:=z9y s n q hv (by omega)
  have hq32:q<4294967296:=by
   rcases n with _|_|_|_|_|n<;>simp at hbd<;>omega
  rw[hv]at hfr
  simp only at hfr
  refine⟨by omega,λk3=> ?_,λk3=>⟨by omega,λk4=> ?_,λk4=> ?_⟩⟩
  ·rw[hfr,if_pos (.inr (.inl k3))];rfl
  ·rw[hfr,if_pos (.inr (.inr (by omega)))];rfl
  ·rw[hfr,if_neg]
   rw[k3];simp;omega
def zcn(s:ByteArray):frt s<=s.size:=by
 unfold frt
 split
 ·omega
 ·split
  ·omega
  ·split<;>omega
def z6x:∀(f g:Nat) (s:ByteArray),s.size<=f->s.size<=g->zei f s=zei g s
  |0,0,s,_,_=>rfl
  |0,g+1,s,h,_=>by rw[zei,zei,if_pos (by omega)]
  |f+1,0,s,_,h=>by rw[zei,zei,if_pos (by omega)]
  | f +1,g+1,s,h1,h2=>by
    rw[zei,zei]
    split
    · rfl
    · split
      · rfl
      · exact z6x f g _ (by simp;omega) (by simp;omega)
def z3x(s:ByteArray) (h:0<s.size):vld s=if frt s=0 then false else vld (s.extract (frt s) s.size):=by
 unfold vld
 obtain⟨f,hf⟩:∃f,s.size=f+1:=⟨s.size- 1,by omega⟩
 rw[hf,zei,if_neg (by omega)]
 split
 ·rfl
 ·rw[hf]
  refine z6x _ _ _ ?_ (Nat.le_refl _)
  simp;omega
def zej(s:ByteArray) (h:s.size=0):vld s=true:=by unfold vld;rw[h];rfl
def zj6(s:ByteArray):qm2 P (zxu) Go.Proofs.Tryz.f90 z2h (zn4) s=(size s<(9223372036854775808:Nat)->(s=s/\(size s<=size s/\vld s=vld s)/\True)/\∀(s_1:ByteArray),size s_1<=size s/\vld s_1=vld s->(decide ((0:Int)<(↑(size s_1):Int))=true->s_1=s_1/\((0:Nat)<size s_1/\size s_1<(9223372036854775808:Nat))/\(decide ((↑(frt s_1):Int)=(0:Int))=true->vld s=false/\True)/\(decide ((↑(frt s_1):Int)=(0:Int))=false->((0:Int)<=(↑(frt s_1):Int)/\(↑(frt s_1):Int)<=(↑(size s_1):Int))/\ByteArray.extract s_1 (toNat (↑(frt s_1):Int)) (size s_1)=ByteArray.extract s_1 (toNat (↑(frt s_1):Int)) (size s_1)/\(size (ByteArray.extract s_1 (toNat (↑(frt s_1):Int)) (size s_1))<=size s/\vld (ByteArray.extract s_1 (toNat (↑(frt s_1):Int)) (size s_1))=vld s)/\size (ByteArray.extract s_1 (toNat (↑(frt s_1):Int)) (size s_1))<size s_1/\True))/\(decide ((0:Int)<(↑(size s_1):Int))=false->vld s=true/\True)):=by kernel_rfl
def zj7:q5k P 90 z2h:=by
 refine qm5 mixed (qee (qih zha qlq)) (W:=zn4) Go.Proofs.Tryz.func90 (by kernel_rfl) (by decide) (by decide) (λc=>by kernel_rfl) λ(s:ByteArray)=>(zj6 s).mpr ?_
 intro h
 simp only[Int.toNat_natCast,and_true,true_and,decide_eq_true_eq,decide_eq_false_iff_not]
 refine⟨Nat.le_refl _,λt ht=>⟨λg=>⟨by omega,λg2=> ?_,λg2=> ?_⟩,λg=> ?_⟩⟩
 ·rw[←ht.2,z3x t (by omega),if_pos (by omega)]
 ·have:=zcn t
  rw[←ht.2,z3x t (by omega),if_neg (by omega)]
  refine⟨by omega,⟨?_,rfl⟩,?_⟩
  ·simp;omega
  ·simp;omega
 ·rw[←ht.2];exact zej t (by omega)
def zjc(x:Int):IntKind.u8.wrap x=x % 256:=by
 unfold IntKind.wrap;simp[IntKind.bits,IntKind.signed]
def tn1(n:Nat):((n:Int)+1).toNat=n+1:=by omega
def wrap32(x:Int):IntKind.u32.wrap x=x % 4294967296:=by
 unfold IntKind.wrap;simp[IntKind.bits,IntKind.signed]
def z9c(b:Nat):(b<128/\ldN b=1/\ldV b=b)\/(192<=b/\b<224/\ldN b=2/\ldV b=b- 192)\/(224<=b/\b<240/\ldN b=3/\ldV b=b- 224)\/(240<=b/\b<248/\ldN b=4/\ldV b=b- 240)\/(((128<=b/\b<192)\/248<=b)/\ldN b=0):=by
 unfold ldN ldV
 repeat' split
 all_goals omega
def zx2(n q:Nat) (hn:n=2\/n=3\/n=4) (hq:q<128*64 ^ (n- 1)) (h2:n=2->q<2048) (h3:n=3->q<65536):lnN q=n↔leN n<=q:=by
 unfold lnN leN
 rcases hn with rfl|rfl|rfl
 all_goals (repeat' split)
 all_goals (first|omega| (have:=h2 rfl;omega)| (have:=h3 rfl;omega))
section
variable (x0:ByteArray) (x1:Int×Int) (x2 x3 x4:Int)
 abbrev z4o:=(↑(ptV x0):Int)=0/\(↑(frt x0):Int)=0/\True
 abbrev zf1:=IntKind.wrap u32 (↑(bat x0 0):Int)<x2
 def zz4:=(↑(ptV x0):Int)=IntKind.wrap u32 (↑(bat x0 0):Int)/\(↑(frt x0):Int)=1/\True
 abbrev zjo:=x2<=IntKind.wrap u32 (↑(bat x0 0):Int)
 abbrev z7z:=(↑(leN (ldN (bat x0 0))):Int)
 abbrev z3g:=(↑(ldN (bat x0 0)):Int)
 def j44:=x0=x0/\(z7z x0)=x2/\(z3g x0)=x3/\(↑(ldV (bat x0 0)):Int)=IntKind.wrap u32 (IntKind.wrap u32 (↑(bat x0 0):Int)- x4)/\(0<size x0/\2<=ldN (bat x0 0))/\True
 abbrev zz5:=Ji (zf1 x0 248) (j44 x0 65536 4 240) (z4o x0)
 abbrev j69:=Ji (zjo x0 240) (zz5 x0) (z4o x0)
 abbrev zz6:=Ji (zf1 x0 240) (j44 x0 2048 3 224) (j69 x0)
 abbrev j68:=Ji (zjo x0 224) (zz6 x0) (j69 x0)
 abbrev zz7:=Ji (zf1 x0 224) (j44 x0 128 2 192) (j68 x0)
 abbrev zz2:=Ji (zjo x0 192) (zz7 x0) (j68 x0)
 def zjp:=(0<=x1.2/\x1.2<(↑(size x0):Int))
 abbrev zjn:=IntKind.wrap u32 (x1.1*64)+IntKind.wrap u32 (IntKind.wrap u8 ((↑(bat x0 (toNat x1.2)):Int)- 128))
 def zyz:=zjp x0 x1/\Jb (x1.2+1)/\x0=x0/\(z7z x0)=(z7z x0)/\(z3g x0)=(z3g x0)/\x1.2+1=x1.2+1/\IntKind.wrap u32 (zjn x0 x1)=IntKind.wrap u32 (zjn x0 x1)/\(1<=x1.2+1/\x1.2+1<=(z3g x0)/\∃(i0:Nat),IntKind.wrap u32 (zjn x0 x1)=(↑i0:Int)/\vlF x0 (toNat (x1.2+1))=some i0)/\(5:Nat)- toNat (x1.2+1)<5- toNat x1.2/\True
 def jb1:=zjp x0 x1/\Ji (191<(↑(bat x0 (toNat x1.2)):Int)) (z4o x0) (zyz x0 x1)
 def jb0:=zjp x0 x1/\Ji ((↑(bat x0 (toNat x1.2)):Int)<128) (z4o x0) (jb1 x0 x1)
 def zqm:=(↑(ptV x0):Int)=x1.1/\(↑(frt x0):Int)=(z3g x0)/\True
 def zz8:=Ji (x1.1<=57343) (z4o x0) (zqm x0 x1)
 def zz3:=Ji (55296<=x1.1) (zz8 x0 x1) (zqm x0 x1)
 def zz1:=Ji (1114111<x1.1) (z4o x0) (zz3 x0 x1)
 def zz0:=Ji (x1.1<(z7z x0)) (z4o x0) (zz1 x0 x1)
 def jaz:=Ji (x1.2<(z3g x0)) (jb0 x0 x1) (zz0 x0 x1)
 def jay:=(x0=x0/\(z7z x0)=(z7z x0)/\(z3g x0)=(z3g x0)/\(1:Int)=1/\(↑(ldV (bat x0 0)):Int)=(↑(ldV (bat x0 0)):Int)/\((1:Int)<=1/\1<=(z3g x0)/\∃(i0:Nat),(↑(ldV (bat x0 0)):Int)=(↑i0:Int)/\vlF x0 (1:Nat)=some i0)/\True)/\∀(i1:Int×Int),(1<=i1.2/\i1.2<=(z3g x0)/\∃(i2:Nat),i1.1=(↑i2:Int)/\vlF x0 (toNat i1.2)=some i2)->jaz x0 i1
 def jax:=Ji ((↑(size x0):Int)<(z3g x0)) (z4o x0) (jay x0)
 def jaw:=((0:Int)<=0/\0<(↑(size x0):Int))/\(Ji (zf1 x0 128) (zz4 x0) (zz2 x0))/\∀(i0:Unit),0<size x0/\2<=ldN (bat x0 0)->jax x0
 def jav:=Ji ((↑(size x0):Int)=0) (z4o x0) (jaw x0)
end
def zdh(s:ByteArray):qm2 P (λ_=>none) Go.Proofs.Tryz.f96 z35 (zmz) s=(size s<9223372036854775808->jav s):=by kernel_rfl
def zi7:=λs=>Eq.trans (zdh s) (by delta Ji Jb Jt Jf z4o zf1 zz4 zjo z7z z3g j44 zz5 j69 zz6 j68 zz7 zz2 zjp zjn zyz jb1 jb0 zqm zz8 zz3 zz1 zz0 jaz jay jax jaw jav;exact rfl)
def zx0(b:Nat):(ldN b=2->ldV b<32)/\(ldN b=3->ldV b<16):=by
 have:=z9c b;omega
def j57(s:ByteArray) (q:Nat) (h:vlF s 2=some q) (h2:ldN (bat s 0)=2):q<2048:=by
 have b:=(zx0 (bat s 0)).1 h2
 simp only[vlF]at h
 split at h
 ·rename_i hc
  have hb:=z1y s 1
  simp only[ctC,Bool.and_eq_true,decide_eq_true_eq]at hc
  cases h
  simp only[Nat.zero_add]at hc⊢
  omega
 ·cases h
def j58(s:ByteArray) (q:Nat) (h:vlF s 3=some q) (h2:ldN (bat s 0)=3):q<65536:=by
 have b:=(zx0 (bat s 0)).2 h2
 simp only[vlF]at h
 split at h
 ·rename_i r hr
  split at hr
  ·cases hr
   rename_i hc0
   split at h
   ·rename_i hc
    have hb:=z1y s 1
    have hb2:=z1y s 2
    simp only[ctC,Bool.and_eq_true,decide_eq_true_eq]at hc hc0
    cases h
    simp only[Nat.zero_add,show 1+1=2 from rfl]at hc hc0⊢
    omega
   ·cases h
  ·cases hr
 ·cases h
def zmc(q:Nat):isC q=true↔q<=1114111/\¬(55296<=q/\q<=57343):=by
 simp[isC];omega
def zwn(b:Nat):ctC b=true↔128<=b/\b<192:=by simp[ctC]
def z9i:q5k P 96 z35:=by
 refine qm5 mixed z0p (W:=zmz) Go.Proofs.Tryz.func96 (by kernel_rfl) (by decide) (by decide) (λc=>by kernel_rfl) λ(s:ByteArray)=>(zi7 s).mpr ?_
 intro h2
 have b0:=z1y s 0
 obtain⟨n,hn⟩:∃n,n=ldN (bat s 0):=⟨_,rfl⟩
 have hc:=z9c (bat s 0)
 have hz:frt s=0->ptV s=0:=λh=>by unfold ptV;rw[if_pos h]
 have hfr:frt s=if s.size<n then 0 else match vlF s n with
  |none=>0
  |some r=>if n=0\/isC r=false\/lnN r≠n then 0 else n:=by rw[hn];rfl
 rw[←hn]at hc
 have A0:s.size=0->frt s=0:=λh=>by
  have:=znl (s:=s) (j:=0) (by omega)
  rw[hfr,if_pos (by omega)]
 have A1:s.size≠0->bat s 0<128->ptV s=bat s 0/\frt s=1:=λh h1=>by
  have e1:n=1:=by omega
  have ev:ldV (bat s 0)=bat s 0:=by omega
  have ef:frt s=1:=by
   rw[hfr,if_neg (by omega),e1]
   simp only[vlF]
   rw[ev,if_neg]
   have hi:=(zmc (bat s 0)).mpr (by omega)
   have hl:lnN (bat s 0)=1:=by unfold lnN;rw[if_pos h1]
   rw[hi,hl];simp
  refine⟨?_,ef⟩
  unfold ptV
  rw[if_neg (by omega),ef]
  simp only[vlF,ev];rfl
 have A5:n=0->frt s=0:=λh=>by
  rw[hfr,if_neg (by omega),h];simp[vlF]
 have hle:(n=2->leN n=128)/\(n=3->leN n=2048)/\(n=4->leN n=65536):=by
  refine⟨λh=> ?_,λh=> ?_,λh=> ?_⟩<;>rw[h]<;>rfl
 have e0:IntKind.u32.wrap (bat s 0:Nat)=(bat s 0:Nat):=by rw[wrap32];omega
 simp only[Int.toNat_natCast,Int.toNat_zero,and_true,true_and,decide_eq_true_eq,decide_eq_false_iff_not,Bool.not_eq_true',Bool.not_eq_false',e0,←hn]
 refine⟨?_,λg0=>⟨by omega,?_,?_⟩⟩
 ·intro h;have:=A0 (by omega);have:=hz this;omega
 ·simp only[wrap32]
  clear hfr A0 e0
  rcases hc with⟨c1,c2,c3⟩|⟨c0,c1,c2,c3⟩|⟨c0,c1,c2,c3⟩|⟨c0,c1,c2,c3⟩|⟨c1,c2⟩
  ·obtain⟨p,f⟩:=A1 (by omega) c1
   clear A1 A5 hle hz
   refine⟨λ_=>by omega,λh=>absurd (by omega) h⟩
  ·have l:=hle.1 c2
   clear A1 A5 hle hz
   refine⟨λh=>by omega,λh=>⟨λ_=>⟨λ_=>by omega,λk=>absurd (by omega) k⟩,λk=>absurd (by omega) k⟩⟩
  ·have l:=hle.2.1 c2
   clear A1 A5 hle hz
   refine⟨λh=>by omega,λh=>⟨λ_=>⟨λk=>by omega,λ_=>⟨λ_=>⟨λ_=>by omega,λk=>absurd (by omega) k⟩,λk=>absurd (by omega) k⟩⟩,λk=>absurd (by omega) k⟩⟩
  ·have l:=hle.2.2 c2
   clear A1 A5 hle hz
   refine⟨λh=>by omega,λh=>⟨λ_=>⟨λk=>by omega,λ_=>⟨λ_=>⟨λk=>by omega,λ_=>⟨λ_=>⟨λ_=>by omega,λk=>absurd (by omega) k⟩,λk=>absurd (by omega) k⟩⟩,λk=>absurd (by omega) k⟩⟩,λk=>absurd (by omega) k⟩⟩
  ·have f:=A5 c2
   have p:=hz f
   clear A1 A5 hle hz
   repeat' first|intro _|apply And.intro
   all_goals omega
 ·clear A0 A1 A5
  rintro _ ⟨g1,g2⟩
  have Z:frt s=0->((ptV s:Nat):Int)=0/\((frt s:Nat):Int)=0:=λh=>by have:=hz h;omega
  refine⟨λk=>Z ?_,λk=>⟨⟨by omega,by omega,ldV (bat s 0),rfl,rfl⟩,?_⟩⟩
  ·rw[hfr,if_pos (by omega)]
  rw[if_neg (by omega)]at hfr
  rintro⟨v,i⟩ ⟨i1,i2,q,hq,hv⟩
  simp only at i1 i2 hq hv⊢
  obtain⟨m,rfl⟩:=Int.eq_ofNat_of_zero_le (show 0<=i by omega)
  subst hq
  simp only[Int.toNat_natCast,tn1]at hv⊢
  have hbd:=z9y s m q hv (by omega)
  have bm:=z1y s m
  obtain⟨m',rfl⟩:∃m',m=m'+1:=⟨m- 1,by omega⟩
  have cn:¬(128<=bat s (m'+1)/\bat s (m'+1)<192)->((m'+1:Nat):Int)<n->frt s=0:=λh hl=>by
   have:vlF s (m'+2)=none:=by
    simp only[vlF];rw[hv];simp only[]
    rw[if_neg (by rw[zwn];exact h)]
   rw[hfr,z9z s (m'+2) n (by omega) (by omega) this]
  refine⟨λk1=>⟨by omega,λk2=>Z (cn (by omega) k1),λk2=>⟨by omega,λk3=>Z (cn (by omega) k1),λk3=>⟨by omega,by omega,⟨by omega,by omega,?_⟩,by omega⟩⟩⟩,λk1=> ?_⟩
  ·have hq26:q<67108864:=by
    have:m'+1<=3:=by omega
    rcases m' with _|_|_|m'<;>simp at hbd<;>omega
   refine⟨q*64+(bat s (m'+1)- 128),?_,?_⟩
   ·rw[zjc,wrap32,wrap32,wrap32];omega
   ·simp only[vlF];rw[hv];simp only[]
    rw[if_pos (by rw[zwn];omega)]
  ·have em:m'+1=n:=by omega
   rw[em]at hv hbd
   rw[hv]at hfr
   simp only at hfr
   have nn:n=2\/n=3\/n=4:=by omega
   have ln:=zx2 n q nn hbd (λh=>j57 s q (h ▸ hv) (by omega)) (λh=>j58 s q (h ▸ hv) (by omega))
   have ic:=zmc q
   have bad:¬(leN n<=q)\/¬(q<=1114111/\¬(55296<=q/\q<=57343))->frt s=0:=λh=>by
    rw[hfr,if_pos]
    rcases h with h|h
    ·exact .inr (.inr λe=>h (ln.mp e))
    ·exact .inr (.inl (by rw[←Bool.not_eq_true];exactλe=>h (ic.mp e)))
   have good:leN n<=q->(q<=1114111/\¬(55296<=q/\q<=57343))->((ptV s:Nat):Int)=q/\((frt s:Nat):Int)=n:=λh1 h2=>by
    have ef:frt s=n:=by
     rw[hfr,if_neg]
     rw[ic.mpr h2,ln.mpr h1];simp;omega
    refine⟨?_,by omega⟩
    unfold ptV
    rw[if_neg (by omega),ef,hv];rfl
   refine⟨λc1=>Z (bad (.inl (by omega))),λc1=>⟨λc2=>Z (bad (.inr (by omega))),λc2=>⟨λc3=>⟨λc4=>Z (bad (.inr (by omega))),λc4=>good (by omega) (by omega)⟩,λc3=>good (by omega) (by omega)⟩⟩⟩
def zee(s:ByteArray):qm2 P (qh2 [(96,z35)]) Go.Proofs.Tryz.f59 z2h (zer) s=(size s<(9223372036854775808:Nat)->(s=s/\(size s<=size s/\vld s=vld s)/\True)/\∀(s_1:ByteArray),size s_1<=size s/\vld s_1=vld s->(decide ((0:Int)<(↑(size s_1):Int))=true->s_1=s_1/\size s_1<(9223372036854775808:Nat)/\(decide ((↑(frt s_1):Int)=(0:Int))=true->vld s=false/\True)/\(decide ((↑(frt s_1):Int)=(0:Int))=false->((0:Int)<=(↑(frt s_1):Int)/\(↑(frt s_1):Int)<=(↑(size s_1):Int))/\ByteArray.extract s_1 (toNat (↑(frt s_1):Int)) (size s_1)=ByteArray.extract s_1 (toNat (↑(frt s_1):Int)) (size s_1)/\(size (ByteArray.extract s_1 (toNat (↑(frt s_1):Int)) (size s_1))<=size s/\vld (ByteArray.extract s_1 (toNat (↑(frt s_1):Int)) (size s_1))=vld s)/\size (ByteArray.extract s_1 (toNat (↑(frt s_1):Int)) (size s_1))<size s_1/\True))/\(decide ((0:Int)<(↑(size s_1):Int))=false->vld s=true/\True)):=by kernel_rfl
def z4c:q5k P 59 z2h:=by
 refine qm5 mixed (qee (qih z9i qlq)) (W:=zer) Go.Proofs.Tryz.func59 (by kernel_rfl) (by decide) (by decide) (λc=>by kernel_rfl) λ(s:ByteArray)=>(zee s).mpr ?_
 intro h
 simp only[Int.toNat_natCast,and_true,true_and,decide_eq_true_eq,decide_eq_false_iff_not]
 refine⟨Nat.le_refl _,λt ht=>⟨λg=>⟨by omega,λg2=> ?_,λg2=> ?_⟩,λg=> ?_⟩⟩
 ·rw[←ht.2,z3x t (by omega),if_pos (by omega)]
 ·have:=zcn t
  rw[←ht.2,z3x t (by omega),if_neg (by omega)]
  refine⟨by omega,⟨?_,rfl⟩,?_⟩
  ·simp;omega
  ·simp;omega
 ·rw[←ht.2];exact zej t (by omega)
section
def z5q:q5k P 72 zad:=by
 refine qm5 mixed z0p (W:=λ_=>{}) Go.Proofs.Tryz.func72 (by kernel_rfl) (by decide) (by decide) (λs=>by kernel_rfl) λ(s:ByteArray)=>(zpu s).mpr ?_
 intro _;exact⟨rfl,trivial⟩
def z9q:q5k P 71 z4y:=by
 refine qm5 mixed z0p (W:=λ_=>{}) Go.Proofs.Tryz.func71 (by kernel_rfl) (by decide) (by decide) (λs=>by kernel_rfl) λn=> ?_
 cases n with
 |two=>exact(zdy ()).mpr λ_=>trivial
 |three=>exact(zdz ()).mpr λ_=>trivial
 |four=>exact(ze0 ()).mpr λ_=>trivial
variable {L:List Int} {p:Pub}
def zwh{x:SV} (h:slP byV x L p) {i:Nat} (hi:i<L.length):x.1≠noA/\q3p p (adr x.1 (i*1)) [.int .u8 L[i]]:=z0z zwi (by decide) h hi
def z9g:q5k P 23 zw0:=by
 refine qm5 mixed z0p (W:=λ_=>{}) Go.Proofs.Tryz.func23 (by kernel_rfl) (by decide) (by decide) (λs=>by kernel_rfl) λ⟨(x:SV),(L:List Int),(n:Int),(m:Int)⟩=>(zx8 x L n m).mpr ?_
 rintro⟨hn0,hn1,hm0,hm1,hL,hb⟩ ⟨p,_,hp⟩
 have hx:x.2.1=L.length:=hp.1
 simp only[sbS,Int.toNat_natCast,hx]
 obtain⟨i,rfl⟩:=Int.eq_ofNat_of_zero_le hn0
 have e:((i:Int)+1- 1).toNat=i:=by omega
 refine⟨λh=>⟨?_,?_⟩,λh=> ?_⟩
 ·unfold z0u;rw[if_pos h]
 ·unfold z06;rw[if_pos h]
 ·have hi:i<L.length:=by omega
  rw[e]
  refine⟨by omega,by omega,by omega,(zwh hp hi).1,L[i],λq hq=>(zwh hq hi).2,?_⟩
  have r:z0u L i m=Int.tmod L[i] m:=by
   unfold z0u
   rw[if_neg h,Int.toNat_natCast,List.getD_eq_getElem?_getD,List.getElem?_eq_getElem hi];rfl
  have hbi:=hb L[i] (List.getElem_mem hi)
  have nn:z06 L i=i+1:=by unfold z06;rw[if_neg h]
  rw[r,nn]
  exact⟨by omega,by omega,rfl,rfl⟩
def zp5:q5k P 22 znv:=by
 refine qm5 mixed z0p (W:=λ_=>{}) Go.Proofs.Tryz.func22 (by kernel_rfl) (by decide) (by decide) (λs=>by kernel_rfl) λ⟨(x:SV),(L:List Int),(n:Int)⟩=>(zp4 x L n).mpr ?_
 rintro _ ⟨p,_,hp⟩
 have hx:x.2.1=L.length:=hp.1
 simp only[true_and,and_true,eq_self,hx]
variable {l:List GJ}
def z6l{s:ByteArray} {nm:List ByteArray} {j:Nat} (h1:j<nm.length) (h2:j<l.length):z3d s (nm.drop j) (l.drop j)=if nm[j]=s then some l[j]else z3d s (nm.drop (j+1)) (l.drop (j+1)):=by
 rw[List.drop_eq_getElem_cons h1,List.drop_eq_getElem_cons h2,z3d]
def zhc{y:SV} (h:slP GJ.cells y l p) {i:Nat} (hi:i<l.length):y.1≠noA/\q3p p (adr y.1 (i*5)) l[i].cells:=z0z z37 (by decide) h hi
def z9s{y:SV} {ks:List ByteArray} (h:slP txV y ks p) {i:Nat} (hi:i<ks.length):y.1≠noA/\q3p p (adr y.1 (i*1)) [.string ks[i]]:=z0z z0t (by decide) h hi
def zws:q5k P 107 j3a:=by
 refine qm5 mixed z0p (W:=j7p) Go.Proofs.Tryz.func107 (by kernel_rfl) (by decide) (by decide) (λs=>by kernel_rfl) λ⟨g,s⟩=>(get_eq g s).mpr ?_
 rintro hw ⟨p,_,hp⟩
 rw[GJ.wf_eq]at hw
 obtain⟨_,hl,hnl,_⟩:=hw
 have gx:=λq (hq:g.ok q)=>(by rw[GJ.ok_eq]at hq;exact hq.2.1:slP txV g.x g.nm q)
 have gy:=λq (hq:g.ok q)=>(by rw[GJ.ok_eq]at hq;exact hq.1:slP GJ.cells g.y g.l q)
 have xl:g.x.2.1=g.nm.length:=(gx p hp).1
 have yl:g.y.2.1=g.l.length:=(gy p hp).1
 simp only[sbS,Int.toNat_natCast,xl,yl]
 refine⟨⟨0,rfl,by omega,by simp⟩,?_⟩
 rintro j ⟨hj,ht⟩
 refine⟨λhlt=> ?_,λhge=> ?_⟩
 ·have h1:j<g.nm.length:=by omega
  have h2:j<g.l.length:=by omega
  have hd:=z6l (s:=s) h1 h2
  rw[ht]at hd
  refine⟨⟨by omega,by omega⟩,(z9s (gx p hp) h1).1,g.nm[j],λq hq=>(z9s (gx q hq) h1).2,λhs=> ?_,λhs=>⟨by omega,j+1,by omega,⟨by omega,?_⟩,by omega⟩⟩
  ·rw[if_pos hs]at hd
   refine⟨⟨by omega,by omega⟩,(zhc (gy p hp) h2).1,g.l[j].k,g.l[j].n,g.l[j].s,g.l[j].y.1,g.l[j].y.2.1,g.l[j].y.2.2,g.l[j].x.1,g.l[j].x.2.1,g.l[j].x.2.2,λq hq=>(zhc (gy q hq) h2).2,?_⟩
   rw[hd]
   exact⟨rfl,rfl,rfl,rfl,rfl,rfl,rfl,rfl,rfl,rfl⟩
  ·rw[if_neg hs]at hd
   exact hd.symm
 ·have:g.nm.drop j=[]:=List.drop_of_length_le (by omega)
  rw[this,z3d]at ht
  ·rw[←ht]
   exact⟨rfl,rfl,rfl,rfl,rfl,rfl,rfl,rfl,rfl,rfl⟩
  ·intros;simp at*
def z1h{n m:Int} (hL:z0q L) (h:0<m):0<=z0u L n m/\z0u L n m<m:=by
 unfold z0u
 split
 ·omega
 ·have:0<=L.getD n.toNat 0:=by
   rw[List.getD_eq_getElem?_getD]
   cases hg:L[n.toNat]? with
   |none=>simp
   |some b=>exact(hL.2 b (List.mem_of_getElem? hg)).1
  rw[Int.tmod_eq_emod_of_nonneg this]
  exact⟨Int.emod_nonneg _ (by omega),Int.emod_lt_of_pos _ h⟩
def z1r{n:Int} (h:n<=L.length):n<=z06 L n/\z06 L n<=L.length/\z06 L n<=n+1:=by
 unfold z06;split<;>omega
def zo6:q5k P 73 z3u:=by
  refine qm5 mixed (qee (qih z9g (qih z5q (qih zws qlq)))) (W:=za2) Go.Proofs.Tryz.func73 (by kernel_rfl) (by decide) (by decide) (λs=>by kernel_rfl) λ⟨(x:SV),(L:List Int),(n:Int),g⟩=>(zo5 x L n g).mpr ?_
  rintro⟨hn0,hn1,hL,hw⟩ ⟨p,_,hp,hg⟩
  simp only[sbS,Int.toNat_natCast,exists_const]
  have hnum:=λm (h:0<m)=>z1h (n:=n) (m:=m) hL h
  refine⟨⟨λh4=>⟨⟨λh=> ?_,λh1=>⟨λh=> ?_,λh2=>⟨λh=> ?_,λh3=> ?_⟩⟩⟩,?_⟩,λh4=>λh=>h4 h.1⟩,?_⟩
  · unfold isNum;rw[h];decide
  · unfold isNum;rw[h];decide
  · unfold isNum;rw[h];decide
  · unfold isNum;rw[decide_eq_false h1,decide_eq_false h2,decide_eq_false h3];rfl
  · rintro _ _
    have d0:∀{a b c d:Int×Int×ByteArray×Int},True:=λ{_ _ _ _}=>trivial
    refine⟨λhN=>⟨L,⟨hn0,hn1,by omega,by omega,hL⟩,λq hq=>hq.1,?_,?_⟩,λhN=>⟨⟨λh=> ?_,λh=> ?_⟩,?_⟩⟩
    · have:=hnum 200 (by omega);omega
    · unfold z2j;rw[if_pos ⟨h4,hN⟩];exact⟨rfl,rfl,rfl,rfl⟩
    · unfold z3e;rw[h];decide
    · unfold z3e;rw[decide_eq_false h];rfl
    rintro _ _
    have n1:¬(g.k=4/\isNum g.s=true):=λh=>by rw[hN]at h;exact absurd h.2 (by simp)
    refine⟨λhT=>⟨L,⟨hn0,hn1,by omega,by omega,hL⟩,λq hq=>hq.1,hnum 3 (by omega),zgs (z0u L n 3),?_,?_⟩,λhT=> ?_⟩
    · have h3:=hnum 3 (by omega)
      generalize z0u L n 3=r at h3⊢
      intro j v hj
      cases j with
      |succ j=>simp at hj
      | zero=>
        have:r=0\/r=1\/r=2:=by omega
        rcases this with rfl|rfl|rfl<;>exact hj
    · unfold z2j;rw[if_neg n1,if_pos ⟨h4,hT⟩];exact⟨rfl,rfl,rfl,rfl⟩
    have n2:¬(g.k=4/\z3e g.s=true):=λh=>by rw[hT]at h;exact absurd h.2 (by simp)
    refine⟨λhB=>⟨L,⟨hn0,hn1,by omega,by omega,hL⟩,λq hq=>hq.1,?_⟩,λhB=>⟨λhU=> ?_,λhU=> ?_⟩⟩
    · unfold z2j;rw[if_neg n1,if_neg n2,if_pos ⟨h4,by unfold z7n;rw[hB];decide⟩];exact⟨rfl,rfl,rfl,rfl⟩
    · unfold z2j;rw[if_neg n1,if_neg n2,if_neg (λh=>by unfold z7n at h;exact absurd h.2 (by rw[decide_eq_false hB];simp)),if_pos ⟨h4,by unfold zao;rw[hU];decide⟩];exact⟨rfl,rfl,rfl,rfl⟩
    · rintro⟨_,h|h|h|h⟩
      · rw[hN]at h;cases h
      · rw[hT]at h;cases h
      · unfold z7n at h;rw[decide_eq_false hB]at h;cases h
      · unfold zao at h;rw[decide_eq_false hU]at h;cases h
  · rintro _ hno
    have n1:¬(g.k=4/\isNum g.s=true):=λh=>hno ⟨h.1, .inl h.2⟩
    have n2:¬(g.k=4/\z3e g.s=true):=λh=>hno ⟨h.1, .inr (.inl h.2)⟩
    have n3:¬(g.k=4/\z7n g.s=true):=λh=>hno ⟨h.1, .inr (.inr (.inl h.2))⟩
    have n4:¬(g.k=4/\zao g.s=true):=λh=>hno ⟨h.1, .inr (.inr (.inr h.2))⟩
    unfold z2j
    rw[if_neg n1,if_neg n2,if_neg n3,if_neg n4]
    refine⟨λh5=>by rw[if_pos h5];exact⟨rfl,rfl,rfl,rfl⟩,λh5=>⟨⟨g,mkS [116,121,112,101]⟩,?_⟩⟩
    simp only[true_and,eq_self]
    rw[if_neg h5]
    refine⟨hw,λq hq=>hq.2,λh=>by rw[if_pos h];exact⟨rfl,rfl,rfl,rfl⟩,λh=>⟨λh2=>by rw[if_neg h,if_pos h2];exact⟨rfl,rfl,rfl,rfl⟩,λh2=>by rw[if_neg h,if_neg h2];exact⟨rfl,rfl,rfl,rfl⟩⟩⟩
def zo4{g:GJ} {n:Int} (hL:z0q L) (h:n<=L.length):(n<=(z2j g L n).2.2.2/\(z2j g L n).2.2.2<=L.length)/\(-50<=(z2j g L n).2.1/\(z2j g L n).2.1<200)/\(z2j g L n).2.2.1.size<10:=by
 have b:=z1r h
 have h1:=z1h (n:=n) (m:=200) hL (by omega)
 have h2:=z1h (n:=n) (m:=2) hL (by omega)
 have t:(zgs (z0u L n 3)).size<10:=by
  unfold zgs
  split
  ·decide
  ·split<;>decide
 have z:(mkS []).size<10:=by decide
 have z1:(mkS [88]).size<10:=by decide
 unfold z2j
 repeat' split
 all_goals refine⟨⟨?_,?_⟩,⟨?_,?_⟩,?_⟩
 all_goals first|exact t|exact z|exact z1| (simp only;omega)
end
section
def z13:q5k P 63 z1s:=by
 refine qm5 mixed z0p (W:=λ_=>{}) Go.Proofs.Tryz.func63 (by kernel_rfl) (by decide) (by decide) (λs=>by kernel_rfl) λ⟨S,(e0:Int),(e:Int)⟩=>(zgx S e0 e).mpr ?_
 simp only[decide_eq_true_eq,decide_eq_false_iff_not,true_and,and_true,eq_self]
 intro _
 exact⟨λh=>if_pos h,λh=>if_neg h⟩
def z56:q5k P 69 zvz:=by
 refine qm5 mixed (qee (qih z13 qlq)) (W:=λ_=>{}) Go.Proofs.Tryz.func69 (by kernel_rfl) (by decide) (by decide) (λs=>by kernel_rfl) λ⟨S,(e:Int),t⟩=>(znh S e t).mpr ?_
 simp only[decide_eq_true_eq,decide_eq_false_iff_not,true_and,and_true,eq_self]
 intro _
 refine⟨λh=>⟨S,rfl,rfl,?_,?_,?_,?_⟩,λh=>⟨z01 z1i S,by omega,by omega,?_,?_,?_,?_⟩⟩
 ·unfold adR;rw[if_pos (by omega)]
 ·unfold adS;rw[if_pos (by omega)]
 ·unfold adE;rw[if_pos (by omega)]
 ·unfold adS;rw[if_pos (by omega)]
 ·unfold adR;rw[if_neg (by omega)];omega
 ·unfold adS;rw[if_neg (by omega)];simp
 ·unfold adE;rw[if_neg (by omega)]
 ·unfold adS;rw[if_neg (by omega),z04];rfl
variable {s:ByteArray} {l:List ByteArray} {j:Nat}
def zcp(h:j<l.length):zmb s (l.drop j) j=if l[j]=s then(j:Int)+1 else zmb s (l.drop (j+1)) (j+1):=by
 rw[List.drop_eq_getElem_cons h,zmb]
def zms{i:Nat} (h:i<l.length):∀(j:Nat) (v:Value),[Value.string l[i]][j]? =some v->(z00 txV l)[0+i*1+j]? =some v:=λj v hj=>by
 cases j with
 |zero=>rw[Nat.zero_add,z20 z0t l i h 0 (by decide)];exact hj
 |succ j=>simp at hj
def zcz:q5k P 68 zc5:=by
 refine qm5 mixed z0p (W:=zy6) Go.Proofs.Tryz.func68 (by kernel_rfl) (by decide) (by decide) (λs=>by kernel_rfl) λ(s:ByteArray)=>(zoj s).mpr ?_
 simp only[decide_eq_true_eq,decide_eq_false_iff_not,true_and,and_true,eq_self,Int.toNat_natCast]
 intro _
 refine⟨⟨0,rfl,by omega,rfl⟩,?_⟩
 rintro j ⟨hj,ht⟩
 refine⟨λhlt=> ?_,λhge=> ?_⟩
 ·have hl:j<kinds.length:=by show j<14;have:(j:Int)<14:=hlt;omega
  have hd:=zcp (s:=s) hl
  rw[ht]at hd
  refine⟨⟨by omega,by have:(j:Int)<14:=hlt;exact this⟩,kinds[j],zms hl,λh=>⟨by omega,by rw[hd,if_pos h]⟩,λh=>⟨by omega,j+1,by omega,⟨by have:(j:Int)<14:=hlt;omega,by rw[hd,if_neg h]⟩,by have:(j:Int)<14:=hlt;omega⟩⟩
 ·have:¬((j:Int)<14):=hge
  rw[List.drop_of_length_le (by show 14<=j;omega),zmb]at ht
  exact ht.symm
def zja:q5k P 122 zny:=by
 refine qm5 mixed z0p (W:=λ_=>{}) Go.Proofs.Tryz.func122 (by kernel_rfl) (by decide) (by decide) (λs=>by kernel_rfl) λ(k:Int)=>(zj9 k).mpr ?_
 simp only[decide_eq_true_eq,decide_eq_false_iff_not,true_and,and_true,eq_self,Int.toNat_natCast]
 intro _
 refine⟨λh=>by unfold z3f;rw[if_pos (.inl h)],λh=>⟨λh2=>by unfold z3f;rw[if_pos (.inr h2)],λh2=>⟨⟨by omega,by show k<15;omega⟩,z3f k,?_,rfl⟩⟩⟩
 obtain⟨j,rfl⟩:=Int.eq_ofNat_of_zero_le (show 0<=k by omega)
 obtain⟨i,rfl⟩:∃i,j=i+1:=⟨j- 1,by omega⟩
 have hi:i+1<(mkS []::kinds).length:=by show i+1<15;omega
 have e:z3f ((i+1:Nat):Int)=(mkS []::kinds)[i+1]:=by
  unfold z3f
  rw[if_neg (by omega),Int.toNat_natCast,Nat.add_sub_cancel,List.getD_eq_getElem?_getD,List.getElem?_eq_getElem (by simpa using hi)];rfl
 rw[e,Int.toNat_natCast]
 exact zms (l:=mkS []::kinds) hi
def zak{l:List AT} (h:j<l.length):findF s (l.drop j) j=if l[j].nm=s/\9<=l[j].k/\l[j].k<=11 then some j else findF s (l.drop (j+1)) (j+1):=by
 rw[List.drop_eq_getElem_cons h,findF]
def z8t{l:List AT} {i:Nat} (h:i<l.length):∀(j:Nat) (v:Value),l[i].cells[j]? =some v->(z00 AT.cells l)[0+i*10+j]? =some v:=λj v hj=>by
 have hl:j<10:=(List.getElem?_eq_some_iff.mp hj).1
 rw[Nat.zero_add,z20 z1i l i h j hl];exact hj
def z95:q5k P 97 zc0:=by
 refine qm5 mixed z0p (W:=zy4) Go.Proofs.Tryz.func97 (by kernel_rfl) (by decide) (by decide) (λs=>by kernel_rfl) λ⟨S,(e:Int),s⟩=>(zh0 S e s).mpr ?_
 simp only[decide_eq_true_eq,decide_eq_false_iff_not,true_and,and_true,eq_self,Int.toNat_natCast]
 intro hl
 refine⟨⟨0,rfl,by omega,rfl⟩,?_⟩
 rintro j ⟨hj,ht⟩
 refine⟨λhlt=> ?_,λhge=> ?_⟩
 ·have hjl:j<S.length:=by omega
  have hd:=zak (s:=s) hjl
  rw[ht]at hd
  refine⟨⟨by omega,by omega⟩,S[j].k,S[j].nm,S[j].al.1,S[j].al.2.1,S[j].al.2.2,S[j].it,S[j].sy.1,S[j].sy.2.1,S[j].sy.2.2,S[j].hd,S[j].df,S[j].sz,S[j].f.1,S[j].f.2.1,S[j].f.2.2,S[j].br.1,S[j].br.2.1,S[j].br.2.2,z8t hjl,λh1=>⟨λh2=>⟨λh3=> ?_,λh3=>⟨by omega,j+1,by omega,⟨by omega,?_⟩,by omega⟩⟩,λh2=>⟨by omega,j+1,by omega,⟨by omega,?_⟩,by omega⟩⟩,λh1=>⟨by omega,j+1,by omega,⟨by omega,?_⟩,by omega⟩⟩
  ·rw[hd,if_pos ⟨h1,h2,h3⟩];exact⟨rfl,rfl⟩
  ·rw[hd,if_neg (λh=>h3 h.2.2)]
  ·rw[hd,if_neg (λh=>h2 h.2.1)]
  ·rw[hd,if_neg (λh=>h1 h.1)]
 ·rw[List.drop_of_length_le (by omega),findF]at ht
  rw[←ht];exact⟨rfl,rfl⟩
def zxw:q5k P 99 j4n:=by
 refine qm5 mixed (qee (qih zja qlq)) (W:=λ_=>{}) Go.Proofs.Tryz.func99 (by kernel_rfl) (by decide) (by decide) (λs=>by kernel_rfl) λ⟨S,(t:Int)⟩=>(zxv S t).mpr ?_
 simp only[decide_eq_true_eq,decide_eq_false_iff_not,Bool.not_eq_true',Bool.not_eq_false',true_and,and_true,eq_self,Int.toNat_natCast]
 intro hl
 refine⟨λh=>by unfold ze1;rw[if_pos (.inl h)],λh=>⟨λh2=>by unfold ze1;rw[if_pos (.inr h2)],λh2=> ?_⟩⟩
 obtain⟨j,rfl⟩:=Int.eq_ofNat_of_zero_le (show 0<=t by omega)
 have hj:j<S.length:=by omega
 rw[Int.toNat_natCast]
 have e1:ze1 S (j:Int)=if S[j].nm=mkS []then z3f S[j].k else S[j].nm:=by
  unfold ze1
  rw[if_neg (by omega),Int.toNat_natCast,List.getElem?_eq_getElem hj]
 have c1:∀(i:Nat) (v:Value),[Value.string S[j].nm][i]? =some v->(z00 AT.cells S)[0+j*10+1+i]? =some v:=λi v hi=>by
  cases i with
  |zero=>exact z8t hj 1 v hi
  |succ i=>simp at hi
 refine⟨⟨by omega,by omega⟩,S[j].nm,c1,λh3=>⟨⟨by omega,by omega⟩,S[j].nm,c1,by rw[e1,if_neg h3]⟩,λh3=>⟨⟨by omega,by omega⟩,S[j].k,λi v hi=> ?_,S[j].k,rfl,by rw[e1,if_pos h3]⟩⟩
 cases i with
 |zero=>exact z8t hj 0 v hi
 |succ i=>simp at hi
def zd3:q5k P 134 z7h:=by
 refine qm5 mixed z0p (W:=λ_=>{}) Go.Proofs.Tryz.func134 (by kernel_rfl) (by decide) (by decide) (λc=>by kernel_rfl) λ(c:Int)=>(zd2 c).mpr ?_
 rintro⟨h1,h2⟩
 obtain⟨n,rfl⟩:=Int.eq_ofNat_of_zero_le h1
 simp only[decide_eq_true_eq,decide_eq_false_iff_not,Int.toNat_natCast,and_true]
 repeat' first|intro _|apply And.intro
 all_goals (rw[Bool.eq_iff_iff];simp[isLt];omega)
def zgv:q5k P 135 zbz:=by
 refine qm5 mixed z0p (W:=λ_=>{}) Go.Proofs.Tryz.func135 (by kernel_rfl) (by decide) (by decide) (λc=>by kernel_rfl) λ(c:Int)=>(zgu c).mpr ?_
 rintro⟨h1,h2⟩
 obtain⟨n,rfl⟩:=Int.eq_ofNat_of_zero_le h1
 simp only[decide_eq_true_eq,decide_eq_false_iff_not,Int.toNat_natCast,and_true]
 repeat' first|intro _|apply And.intro
 all_goals (rw[Bool.eq_iff_iff];simp[zog];omega)
def zxa(h:j<s.size):ptA s (s.size- j) j=(ptC s j&&ptA s (s.size- (j+1)) (j+1)):=by
 rw[show s.size- j=s.size- (j+1)+1 by omega,ptA,if_pos h]
def z7s:q5k P 124 zac:=by
 refine qm5 mixed (qee (qih zd3 (qih zgv qlq))) (W:=zy9) Go.Proofs.Tryz.func124 (by kernel_rfl) (by decide) (by decide) (λs=>by kernel_rfl) λ(s:ByteArray)=>(zp6 s).mpr ?_
 simp only[decide_eq_true_eq,decide_eq_false_iff_not,Bool.not_eq_true',Bool.not_eq_false',true_and,and_true,eq_self,Int.toNat_natCast]
 intro hs
 refine⟨⟨0,rfl,by omega,rfl⟩,?_⟩
 rintro j ⟨hj,ht⟩
 have hb:=z1y s j
 refine⟨λhlt=> ?_,λhge=> ?_⟩
 ·have hd:=zxa (s:=s) (j:=j) (by omega)
  rw[ht]at hd
  refine⟨⟨by omega,by omega⟩,⟨by omega,by omega⟩,λh1=>⟨λh2=> ?_,λh2=>⟨⟨by omega,by omega⟩,⟨by omega,by omega⟩,λh3=> ?_,λh3=>⟨by omega,j+1,by omega,⟨by omega,?_⟩,by omega⟩⟩⟩,λh1=>⟨by omega,j+1,by omega,⟨by omega,?_⟩,by omega⟩⟩
  ·unfold z2c;rw[hd];unfold ptC;rw[h1,decide_eq_false (by omega)];rfl
  ·unfold z2c;rw[hd];unfold ptC;rw[h1,h3,Bool.and_false];rfl
  ·rw[hd];unfold ptC;rw[h1,h3,decide_eq_true (by omega)];rfl
  ·rw[hd];unfold ptC;rw[h1];rfl
 ·rw[show s.size- j=0 by omega,ptA]at ht
  unfold z2c;rw[←ht]
  exact z19 (by omega)
def zp7{s q:ByteArray} (h:j<s.size+1):zge s (s.size+1- j) j q=if j<s.size/\bat s j≠46 then zge s (s.size+1- (j+1)) (j+1) (q++s.extract j (j+1))else if z2c q=true then zge s (s.size+1- (j+1)) (j+1) (mkS [])else false:=by
 rw[show s.size+1- j=s.size+1- (j+1)+1 by omega,zge]
def zi4:q5k P 123 z8y:=by
 refine qm5 mixed (qee (qih z7s qlq)) (W:=zmy) Go.Proofs.Tryz.func123 (by kernel_rfl) (by decide) (by decide) (λs=>by kernel_rfl) λ(s:ByteArray)=>(parts_eq s).mpr ?_
 simp only[decide_eq_true_eq,decide_eq_false_iff_not,Bool.not_eq_true',Bool.not_eq_false',true_and,and_true,eq_self,Int.toNat_natCast]
 intro hs
 refine⟨⟨⟨0,mkS []⟩,rfl,rfl,by omega,Nat.le_refl _,rfl⟩,?_⟩
 rintro⟨j,q⟩ ⟨hj,hq,ht⟩
 simp only at hj hq ht⊢
 have t1:((j:Int)+1).toNat=j+1:=by omega
 refine⟨λhle=> ?_,λhge=> ?_⟩
 ·have hd:=zp7 (s:=s) (q:=q) (j:=j) (by omega)
  rw[ht]at hd
  rw[t1]
  refine⟨λhlt=>⟨⟨by omega,by omega⟩,λh46=>⟨by omega,⟨by omega,by omega,by omega⟩,?_,by omega,⟨j+1,q++s.extract j (j+1)⟩,rfl,rfl,⟨by show j+1<=_;omega,?_,?_⟩,by show s.size+1- (j+1)<_;omega⟩,λh46=>⟨by omega,λhp=> ?_,λhp=>⟨by omega,⟨j+1,mkS []⟩,rfl,rfl,⟨by show j+1<=_;omega,Nat.zero_le _,?_⟩,by show s.size+1- (j+1)<_;omega⟩⟩⟩,λhge=>⟨by omega,λhp=> ?_,λhp=>⟨by omega,⟨j+1,mkS []⟩,rfl,rfl,⟨by show j+1<=_;omega,Nat.zero_le _,?_⟩,by show s.size+1- (j+1)<_;omega⟩⟩⟩
  ·rw[ByteArray.size_extract];omega
  ·show(q++s.extract j (j+1)).size<=j+1
   rw[ByteArray.size_append,ByteArray.size_extract];omega
  ·rw[hd,if_pos ⟨by omega,by omega⟩]
  ·rw[hd,if_neg (by omega),hp];rfl
  ·rw[hd,if_neg (by omega),if_pos hp]
  ·rw[hd,if_neg (by omega),hp];rfl
  ·rw[hd,if_neg (by omega),if_pos hp]
 ·rw[show s.size+1- j=0 by omega,zge]at ht
  exact ht.symm
def zbw:q5k P 102 z59:=by
 refine qm5 mixed z0p (W:=zel) Go.Proofs.Tryz.func102 (by kernel_rfl) (by decide) (by decide) (λs=>by kernel_rfl) λ(s:ByteArray)=>(zbv s).mpr ?_
 simp only[decide_eq_true_eq,decide_eq_false_iff_not,Bool.not_eq_true',Bool.not_eq_false',true_and,and_true,eq_self,Int.toNat_natCast]
 intro hs
 refine⟨by omega,⟨s.size,rfl,Nat.le_refl _,rfl⟩,?_⟩
 rintro j ⟨hj,ht⟩
 refine⟨λh0=> ?_,λh0=> ?_⟩
 ·obtain⟨i,rfl⟩:∃i,j=i+1:=⟨j- 1,by omega⟩
  have e:((i+1:Nat):Int)- 1=(i:Int):=by omega
  rw[z58]at ht
  rw[e,Int.toNat_natCast]
  refine⟨⟨by omega,by omega⟩,λh=>⟨⟨by omega,by omega⟩,?_⟩,λh=>⟨by omega,i,by omega,⟨by omega,?_⟩,by omega⟩⟩
  ·rw[←ht,if_pos (by omega)]
  ·rw[←ht,if_neg (by omega)]
 ·obtain rfl:j=0:=by omega
  rw[z58]at ht;exact ht.symm
def zcy:q5k P 98 zgo:=by
 refine qm5 mixed z0p (W:=λ_=>{}) Go.Proofs.Tryz.func98 (by kernel_rfl) (by decide) (by decide) (λs=>by kernel_rfl) λ⟨a,b⟩=>(join_eq a b).mpr ?_
 simp only[decide_eq_true_eq,decide_eq_false_iff_not,Bool.not_eq_true',Bool.not_eq_false',true_and,and_true,eq_self,Int.toNat_natCast]
 rintro⟨ha,hb⟩
 have z:(mkS [46]).size=1:=rfl
 unfold z2b
 refine⟨λh=>⟨by omega,if_pos (.inl h)⟩,λh=>⟨λh2=>⟨by omega,if_pos (.inr h2)⟩,λh2=>⟨by omega,by rw[ByteArray.size_append];omega,if_neg (by simp[h,h2])⟩⟩⟩
def zo7(h:j<s.size):zm7 s (s.size- j) j=(decide (bat s j=46)||zm7 s (s.size- (j+1)) (j+1)):=by
 rw[show s.size- j=s.size- (j+1)+1 by omega,zm7,if_pos h]
def zap{a b:ByteArray}:(z2b a b).size<=a.size+b.size+1:=by
 have z:(mkS [46]).size=1:=rfl
 unfold z2b
 split
 ·rw[ByteArray.size_append];omega
 ·rw[ByteArray.size_append,ByteArray.size_append];omega
def z4d{a b:ByteArray}:(z18 a b).size<=a.size+b.size+1:=by
 unfold z18
 split
 ·omega
 ·have:=zap (a:=b) (b:=a);omega
def zet:q5k P 101 z5i:=by
 refine qm5 mixed (qee (qih zcy (qih zi4 (qih z13 qlq)))) (W:=zn5) Go.Proofs.Tryz.func101 (by kernel_rfl) (by decide) (by decide) (λs=>by kernel_rfl) λ⟨S,(e:Int),a,b⟩=>(zes S e a b).mpr ?_
 simp only[decide_eq_true_eq,decide_eq_false_iff_not,Bool.not_eq_true',Bool.not_eq_false',true_and,and_true,eq_self,Int.toNat_natCast]
 rintro⟨ha,hb⟩
 have hw:=z4d (a:=a) (b:=b)
 refine⟨⟨by omega,by omega⟩,⟨⟨0,z2b b a⟩,rfl,rfl,Nat.zero_le _,rfl⟩,?_⟩
 rintro⟨j,q⟩ ⟨hj,ht⟩
 simp only at hj ht⊢
 refine⟨λhlt=> ?_,λhge=> ?_⟩
 ·have hd:=zo7 (s:=a) (j:=j) (by omega)
  rw[hd]at ht
  refine⟨⟨by omega,by omega⟩,λh=>⟨by omega,⟨j+1,a⟩,rfl,by show((j+1:Nat):Int)=_;omega,⟨by show j+1<=_;omega,?_⟩,by show a.size- (j+1)<_;omega⟩,λh=>⟨by omega,⟨j+1,q⟩,rfl,by show((j+1:Nat):Int)=_;omega,⟨by show j+1<=_;omega,?_⟩,by show a.size- (j+1)<_;omega⟩⟩
  ·rw[decide_eq_true (by omega),Bool.true_or,if_pos rfl]at ht
   rw[←ht];exact ite_self _
  ·rw[decide_eq_false (by omega),Bool.false_or]at ht
   exact ht
 ·rw[show a.size- j=0 by omega,zm7,if_neg (by simp)]at ht
  rw[ht]
  unfold whE
  refine⟨λh=>⟨S,rfl,rfl,rfl,rfl,if_pos (.inl h),rfl⟩,λh=>⟨by omega,λh2=>⟨S,rfl,rfl,rfl,rfl,if_pos (.inr h2),rfl⟩,λh2=>⟨rfl,if_neg (by rw[h2];simp[h])⟩⟩⟩
def z2k:q5k P 66 z4l:=by
 refine qm5 mixed z0p (W:=zy5) Go.Proofs.Tryz.func66 (by kernel_rfl) (by decide) (by decide) (λs=>by kernel_rfl) λ⟨g,s⟩=>(zo8 g s).mpr ?_
 rintro hw ⟨p,_,hp⟩
 rw[GJ.wf_eq]at hw
 obtain⟨_,hl,hnl,_⟩:=hw
 have gx:=λq (hq:g.ok q)=>(by rw[GJ.ok_eq]at hq;exact hq.2.1:slP txV g.x g.nm q)
 have gy:=λq (hq:g.ok q)=>(by rw[GJ.ok_eq]at hq;exact hq.1:slP GJ.cells g.y g.l q)
 have xl:g.x.2.1=g.nm.length:=(gx p hp).1
 have yl:g.y.2.1=g.l.length:=(gy p hp).1
 simp only[sbS,Int.toNat_natCast,xl,yl]
 refine⟨⟨0,rfl,by omega,rfl⟩,?_⟩
 rintro j ⟨hj,ht⟩
 have none0:z0b s g=none->(((z0b s g).getD zJ).k=0/\((z0b s g).getD zJ).n=0/\((z0b s g).getD zJ).s=mkS []/\((z0b s g).getD zJ).y.1=noA/\((z0b s g).getD zJ).y.2.1=0/\((z0b s g).getD zJ).y.2.2=0/\((z0b s g).getD zJ).x.1=noA/\((z0b s g).getD zJ).x.2.1=0/\((z0b s g).getD zJ).x.2.2=0/\(z0b s g).isSome=false):=λh=>by
  rw[h];exact⟨rfl,rfl,rfl,rfl,rfl,rfl,rfl,rfl,rfl,rfl⟩
 have endd:g.nm.length<=j->z0b s g=none:=λh=>by
  rw[←ht,List.drop_of_length_le h]
  split
  ·rw[z3d];intros;simp at*
  ·rfl
 refine⟨λh6=>⟨λhlt=>⟨λhlt2=> ?_,λh=>by omega⟩,λh=>none0 (endd (by omega))⟩,λh6=>none0 (by rw[←ht,if_neg h6])⟩
 have h1:j<g.nm.length:=by omega
 have h2:j<g.l.length:=by omega
 have hd:=z6l (s:=s) h1 h2
 rw[if_pos h6]at ht
 rw[ht]at hd
 refine⟨⟨by omega,by omega⟩,(z9s (gx p hp) h1).1,g.nm[j],λq hq=>(z9s (gx q hq) h1).2,λhs=> ?_,λhs=>⟨by omega,j+1,by omega,⟨by omega,?_⟩,by omega⟩⟩
 ·rw[if_pos hs]at hd
  refine⟨⟨by omega,by omega⟩,(zhc (gy p hp) h2).1,g.l[j].k,g.l[j].n,g.l[j].s,g.l[j].y.1,g.l[j].y.2.1,g.l[j].y.2.2,g.l[j].x.1,g.l[j].x.2.1,g.l[j].x.2.2,λq hq=>(zhc (gy q hq) h2).2,?_⟩
  rw[hd]
  exact⟨rfl,rfl,rfl,rfl,rfl,rfl,rfl,rfl,rfl,rfl⟩
 ·rw[if_neg hs]at hd
  rw[if_pos h6]
  exact hd.symm
def z5u:q5k P 100 z6i:=by
  refine qm5 mixed (qee (qih z2k (qih z13 qlq))) (W:=λ_=>{}) Go.Proofs.Tryz.func100 (by kernel_rfl) (by decide) (by decide) (λs=>by kernel_rfl) λ⟨S,(e:Int),g,s,b⟩=>(zjb S e g s b).mpr ?_
  rintro hw ⟨p,_,hp⟩
  simp only[sbS,Int.toNat_natCast]
  refine⟨⟨g,s⟩,rfl,rfl,rfl,rfl,rfl,rfl,rfl,rfl,rfl,rfl,hw,λq hq=>hq,?_⟩
  simp only
  unfold woR
  cases hk:z0b s g with
  | none=>
    refine⟨λ_=>⟨λhb=> ?_,λhb=>⟨λ_=>⟨S,rfl,rfl,?_,rfl,?_,rfl⟩,λh=>absurd h (by simp)⟩⟩,λh=>absurd h (by simp)⟩
    · simp only[hb];refine⟨?_,?_⟩<;>first|rfl|trivial
    · simp only[hb];rfl
    · simp only[hb];rfl
  | some t=>
    refine⟨λh=>absurd h (by simp),λ_=>⟨λh=>absurd h (by simp),λ_=>⟨λh4=>⟨S,rfl,rfl,?_,rfl,?_,rfl⟩,λh4=> ?_⟩⟩⟩
    · have h4:¬t.k=4:=h4
      simp only[if_neg h4]
    · have h4:¬t.k=4:=h4
      simp only[if_neg h4]
    · have h4:t.k=4:=h4
      simp only[if_pos h4];refine⟨?_,?_⟩<;>first|rfl|trivial
end
def z3c:List GJ->Int->List ByteArray->List ByteArray×Int
 | [],e,acc=>(acc,e)
 |g::l,e,acc=>if e=0 then z3c l (if g.k=4 then 0 else 2) (acc++[g.s])else(acc,e)
def tyE(g:GJ) (s:ByteArray) (e:Int):Int:=if((z0b s g).getD zJ).k=5 then e else faE e 2
def z1u(g:GJ) (s:ByteArray) (e:Int):List ByteArray×Bool×Int:=if(z0b s g).isSome=true then((z3c ((z0b s g).getD zJ).l (tyE g s e) []).1,true,(z3c ((z0b s g).getD zJ).l (tyE g s e) []).2)else([],false,e)
def jis(l:List ByteArray):List SV->PF
 | [x]=>⟨true,slP txV x l,λ_ _ h e=>z0e h e⟩
 |_=>{}
def z4z:Ct where
 σ:=List AT×Int×GJ×ByteArray
 args:=λ⟨S,e,g,s⟩=>[.ptr 1 0,g.av, .sv (.string s)]
 h:=λ⟨S,e,g,s⟩=>mkO S e 2 3
 m:=4
 pre:=λ⟨S,e,g,s⟩=>g.wf
 mem:=λ⟨S,e,g,s⟩=>gM g
 r:=λ⟨S,e,g,s⟩=> .tup [.tsl 4, .sv (.bool (z1u g s e).2.1)]
 h':=λ⟨S,e,g,s⟩=>mkO S (z1u g s e).2.2 2 3
 m':=5
 g:=λ⟨S,e,g,s⟩=>some {β:=Unit,ks:=[4],pre:=λ_=>True,mem:=λ_ xs=>jis (z1u g s e).1 xs}
def mkC(S:List AT) (e:Int) (r k:Nat):Nat×AO:=(1, .cells 90 (some 0) false [.ssl r 0 S.length 10 k, .sv (.int .i64 e)])
def zn1:z4z.σ->WayF:=λ⟨S,e,g,s⟩=>{
 cut:=λi _ _=>match i with
  |6=>some {σ:=Unit,t:=λ_=>[],h:=λ_=>[mkC S (tyE g s e) 2 3],more:=0,μ:=λ_=>0,keep:=[0,6,7,8]}
  |_=>none
 ann:=λ_ _ _=>some {σ:=Nat×Int×List ByteArray,pre:=λ⟨j,e',acc⟩=>j<=((z0b s g).getD zJ).l.length/\acc.length<=j/\z3c (((z0b s g).getD zJ).l.drop j) e' acc=z3c ((z0b s g).getD zJ).l (tyE g s e) [],t:=λ⟨j,e',acc⟩=>[(11, .sv (.int .i64 (j:Int))),(10, .ssl 7 0 acc.length 1 8)],h:=λ⟨j,e',acc⟩=>[(7, .row 9 0 (z00 txV acc)),mkC S e' 2 3],more:=2,μ:=λ⟨j,e',acc⟩=>((z0b s g).getD zJ).l.length- j,keep:=[0,6,7,8]}
 pubE:=[6]}
def z1v(n:Nat) (a:AT):Prop:=(1<=a.k/\a.k<=14)/\(a.k=12\/a.k=13->0<=a.it/\a.it<n)/\(∀b∈a.brs,0<=b/\b<n)/\(a.k=14->a.brs≠[])/\(∀f∈a.fs,(0<=f.ty/\f.ty<n)/\f.df.wf)/\(a.k=10->a.sys≠[])/\(a.k=11->0<=a.sz/\a.sz<=5000)/\(a.fs.length<=30/\a.brs.length<=30/\a.sys.length<=30)
def grown(S:List AT) (e:Int) (T:List AT) (e':Int):Prop:=(S++T).length<=60/\(e'=0->e=0/\∀a∈T,z1v (S++T).length a)
def toM(T:List AT):PF:=⟨true,λp=>∀a∈T,a.ok p,λ_ _ h e a ha=>AT.ok_mono h (e a ha)⟩
abbrev TmB:=List AT×Int×Int
def z8z:CtR where
 σ:=List AT×Int×ByteArray×ByteArray
 args:=λ⟨S,e,s,sp⟩=>[.ptr 1 0, .sv (.string s), .sv (.string sp)]
 h:=λ⟨S,e,s,sp⟩=>mkO S e 2 3
 m:=4
 pre:=λ⟨S,e,s,sp⟩=>S.length<=60/\s.size<100000/\sp.size<100000
 β:=λ_=>TmB
 post:=λ⟨S,e,s,sp⟩ ⟨T,e',r⟩=>grown S e T e'/\(e'=0->0<=r/\r<(S++T).length)
 pm:=λ_ ⟨T,e',r⟩=>toM T
 r:=λ_ ⟨T,e',r⟩=> .sv (.int .i64 r)
 h':=λ⟨S,e,s,sp⟩ ⟨T,e',r⟩=>mkO (S++T) e' 4 5
 m':=6
def zn0:z8z.σ->WayF:=λ⟨S,e,s,sp⟩=>{
 cut:=λi _ _=>match i with
  |4=>some {σ:=Unit,t:=λ_=>[],h:=λ_=>[],more:=0,μ:=λ_=>0,keep:=[0,1,2,6,7]}
  |_=>none
 ann:=λ_ _ _=>some {σ:=Nat×Bool,pre:=λ⟨j,d⟩=>j<=s.size,t:=λ⟨j,d⟩=>[(9, .sv (.int .i64 (j:Int))),(8, .sv (.bool d))],h:=λ_=>[],more:=0,μ:=λ⟨j,d⟩=>s.size- j,keep:=[0,1,2,6,7]}}
section
variable (x0:GJ×ByteArray) (x1:List AT) (x2:Int) (x3:GJ) (x4:ByteArray) (x5:Nat×Int×List ByteArray) (x6:Prop) (x7:Nat×Int×List ByteArray) (x8:Nat->Option Obj) (x9:Nat) (x10:Option Addr)
 abbrev zb6:=z00 AT.cells x1=z00 AT.cells x1
 abbrev z3h:=Option.getD (z0b x0.2 x0.1) zJ
 def zz9:=GJ.k (z3h x0)=GJ.k (z3h x0)/\GJ.n (z3h x0)=GJ.n (z3h x0)/\GJ.s (z3h x0)=GJ.s (z3h x0)/\(GJ.y (z3h x0)).1=(GJ.y (z3h x0)).1/\(GJ.y (z3h x0)).2.1=(GJ.y (z3h x0)).2.1/\(GJ.y (z3h x0)).2.2=(GJ.y (z3h x0)).2.2/\(GJ.x (z3h x0)).1=(GJ.x (z3h x0)).1/\(GJ.x (z3h x0)).2.1=(GJ.x (z3h x0)).2.1/\(GJ.x (z3h x0)).2.2=(GJ.x (z3h x0)).2.2/\(∀i0,True/\GJ.ok x3 i0->True/\GJ.ok x3 i0)/\x6
 abbrev zb7:=GJ.l (Option.getD (z0b x4 x3) zJ)
 def j45:=x5.1<=length (zb7 x3 x4)/\length x5.2.2<=x5.1/\z3c (drop x5.1 (zb7 x3 x4)) x5.2.1 x5.2.2=z3c (zb7 x3 x4) (tyE x3 x4 x2) []
 abbrev zqp:=(↑x5.1:Int)<(↑(GJ.y (z3h x0)).2.1:Int)
 def zjq:=(0<=(↑x5.1:Int)/\zqp x0 x5)/\(GJ.y (z3h x0)).1≠noA/\x6
 def zqn:=(∀i0,True/\GJ.ok x3 i0->q3p i0 (Addr.add (adr (GJ.y (z3h x0)).1 (toNat (↑x5.1:Int)*5)) 2) [string x4])/\length (z00 txV x5.2.2)=length x5.2.2*1/\(length x5.2.2+nat_lit 1)*16<=140737488355328/\Jb ((↑x5.1:Int)+1)/\x6
 def zqq:=(↑x5.1:Int)=(↑x7.1:Int)+1/\length x5.2.2=length x7.2.2+nat_lit 1/\x6
 def zqo:=zz9 x0 x3 ((j45 x2 x3 x4 x5)/\length (zb7 x3 x4)- x5.1<length (zb7 x3 x4)- x7.1/\True)
 def jb7:=zjq x0 x5 (∃i0,zqn x0 x3 i0 x5 (∃(i2:Nat×Int×List ByteArray),zqq i2 (length x1=length x1/\i2.2.1=x5.2.1/\z00 txV i2.2.2=z00 txV x5.2.2++[string i0]/\zb6 x1/\zqo x0 x2 x3 x4 i2 x5) x5))
 def jb6:=zjq x0 x5 (∃(i0:Int),(∀i1,True/\GJ.ok x3 i1->q3p i1 (Addr.add (adr (GJ.y (z3h x0)).1 (toNat (↑x5.1:Int)*5)) 0) [int i64 i0])/\((!decide (i0=4))=true->∃(i2:List AT),(2:Int)=2/\length i2=length x1/\x5.2.1=x5.2.1/\z00 AT.cells i2=z00 AT.cells x1/\True/\zjq x0 x5 (∃i3,zqn x0 x3 i3 x5 (∃(i5:Nat×Int×List ByteArray),zqq i5 (length x1=length i2/\i5.2.1=faE x5.2.1 2/\z00 txV i5.2.2=z00 txV x5.2.2++[string i3]/\z00 AT.cells x1=z00 AT.cells i2/\zqo x0 x2 x3 x4 i5 x5) x5)))/\((!decide (i0=4))=false->jb7 x0 x1 x2 x3 x4 x5))
 def zqr:=(True/\GJ.ok x3 x8)/\length x5.2.2<=x9/\qik x8 x10 (take (length x5.2.2*nat_lit 1) (z00 txV x5.2.2))
 def j6a:=∀(i0 i1 i2:Nat) (i3:Option Addr) (i4 i5:Nat),(∃i6,zqr x3 x5 i6 i5 i3)->∃(i7:Unit),i3=i3/\length x5.2.2=length x5.2.2/\i5=i5/\(z1u x3 x4 x2).2.1=true/\length x1=length x1/\(z1u x3 x4 x2).2.2=x5.2.1/\zb6 x1/\Pl i3/\True/\(∀i8,zqr x3 x5 i8 i5 i3->slP txV (i3,length x5.2.2,i5) (z1u x3 x4 x2).1 i8)/\True
 def jb5:=Ji (x5.2.1=0) (jb6 x0 x1 x2 x3 x4 x5) (j6a x1 x2 x3 x4 x5)
 abbrev jb4:=Ji (zqp x0 x5) (jb5 x0 x1 x2 x3 x4 x5) (j6a x1 x2 x3 x4 x5)
 def jb3:=(∃(i0:Nat×Int×List ByteArray),(↑i0.1:Int)=0/\length i0.2.2=0/\length x1=length x1/\i0.2.1=tyE x3 x4 x2/\zb6 x1/\zz9 x0 x3 ((j45 x2 x3 x4 i0)/\True))/\∀(i2:Nat×Int×List ByteArray),j45 x2 x3 x4 i2->jb4 x0 x1 x2 x3 x4 i2
 def jb2:=(((!decide (GJ.k (z3h x0)=5))=true->∃(i0:List AT),(2:Int)=2/\length i0=length x1/\x2=x2/\z00 AT.cells i0=z00 AT.cells x1/\True/\∃(i1:Unit),length x1=length i0/\tyE x3 x4 x2=faE x2 2/\z00 AT.cells x1=z00 AT.cells i0/\zz9 x0 x3 (True/\True))/\((!decide (GJ.k (z3h x0)=5))=false->∃(i3:Unit),length x1=length x1/\tyE x3 x4 x2=x2/\zb6 x1/\zz9 x0 x3 (True/\True)))/\∀(i5:Unit),True->jb3 x0 x1 x2 x3 x4
end
def ze6(S:List AT) (e:Int) (g:GJ) (s:ByteArray):qm2 P (qh2 [(66,z4l),(63,z1s)]) Go.Proofs.Tryz.f103 z4z (zn1) ⟨S,e,g,s⟩=(GJ.wf g->(∃(p:Pub),True/\GJ.ok g p)->∃(s_1:GJ×ByteArray),GJ.k s_1.1=GJ.k g/\GJ.n s_1.1=GJ.n g/\GJ.s s_1.1=GJ.s g/\(GJ.y s_1.1).1=(GJ.y g).1/\(GJ.y s_1.1).2.1=(GJ.y g).2.1/\(GJ.y s_1.1).2.2=(GJ.y g).2.2/\(GJ.x s_1.1).1=(GJ.x g).1/\(GJ.x s_1.1).2.1=(GJ.x g).2.1/\(GJ.x s_1.1).2.2=(GJ.x g).2.2/\s_1.2=s/\GJ.wf s_1.1/\(∀(p:Pub),True/\GJ.ok g p->GJ.ok s_1.1 p)/\((!Option.isSome (z0b s_1.2 s_1.1))=true->∃(b:Unit),noA=noA/\(0:Nat)=0/\(0:Nat)=0/\(z1u g s e).2.1=false/\length S=length S/\(z1u g s e).2.2=e/\zb6 S/\Pl noA/\True/\(∀(p:Pub),True/\GJ.ok g p->slP txV (noA,(0:Nat),(0:Nat)) (z1u g s e).1 p)/\True)/\((!Option.isSome (z0b s_1.2 s_1.1))=false->jb2 s_1 S e g s)):=by kernel_rfl
def ziv:=λS e g s=>Eq.trans (ze6 S e g s) (by delta Ji Jb Jt Jf zb6 z3h zz9 zb7 j45 zqp zjq zqn zqq zqo jb7 jb6 zqr j6a jb5 jb4 jb3 jb2;exact rfl)
section
variable (x0:ByteArray) (x1:List AT) (x2:Int) (x3:ByteArray) (x4:Nat×Bool) (x5:TmB) (x6:List AT) (x7:Prop) (x8:Nat×Bool)
 abbrev j46:=(grown x1 x2 x5.1 x5.2.1/\(x5.2.1=0->0<=x5.2.2/\x5.2.2<(↑(length (x1++x5.1)):Int)))/\(∀i0,True->∀(i1:AT),i1∈x5.1->AT.ok i1 i0)/\True
 def zb8:=length x1=length x1/\x2=x2/\z00 AT.cells x1=z00 AT.cells x1/\x7
 def jbd:=Ji (z0a x0<=8) (∃(i0:List AT×Int×AT),AT.k i0.2.2=z0a x0/\AT.nm i0.2.2=mkS []/\(AT.al i0.2.2).1=noA/\(AT.al i0.2.2).2.1=0/\(AT.al i0.2.2).2.2=0/\AT.it i0.2.2=0/\(AT.sy i0.2.2).1=noA/\(AT.sy i0.2.2).2.1=0/\(AT.sy i0.2.2).2.2=0/\AT.hd i0.2.2=false/\AT.df i0.2.2=mkS []/\AT.sz i0.2.2=0/\(AT.f i0.2.2).1=noA/\(AT.f i0.2.2).2.1=0/\(AT.f i0.2.2).2.2=0/\(AT.br i0.2.2).1=noA/\(AT.br i0.2.2).2.1=0/\(AT.br i0.2.2).2.2=0/\length i0.1=length x1/\i0.2.1=x2/\z00 AT.cells i0.1=z00 AT.cells x1/\True/\∃(i1:TmB),i1.2.2=adR i0.1/\length (x1++i1.1)=length (adS i0.1 i0.2.2)/\i1.2.1=adE i0.1 i0.2.1/\z00 AT.cells (x1++i1.1)=z00 AT.cells (adS i0.1 i0.2.2)/\j46 x1 x2 i1) (∃(i4:Unit),x0=x0/\z0a x0=z0a x0/\x3=x3/\zb8 x1 x2 (True/\True))
 abbrev zqs:=Jb ((↑x4.1:Int)+1)
 def zqu:=x4.1<=size x0/\size x0- x4.1<size x0- x8.1/\True
 def zza:=zqs x4/\∃(i0:Nat×Bool),x0=x0/\z0a x0=z0a x0/\(↑i0.1:Int)=(↑x4.1:Int)+1/\x3=x3/\i0.2=true/\zb8 x1 x2 (zqu x0 i0 x4)
 def jbf:=(0<=(↑x4.1:Int)/\(↑x4.1:Int)<(↑(size x0):Int))/\zqs x4/\∃(i0:Nat×Bool),x0=x0/\z0a x0=z0a x0/\(↑i0.1:Int)=(↑x4.1:Int)+1/\x3=x3/\i0.2=decide ((↑(bat x0 (toNat (↑x4.1:Int))):Int)=46)/\zb8 x1 x2 (zqu x0 i0 x4)
 def jbe:=(x4.2=true->zza x0 x1 x2 x3 x4)/\(x4.2=false->jbf x0 x1 x2 x3 x4)
 def zf2:=length x1=length x6/\x2=x2/\z00 AT.cells x1=z00 AT.cells x6/\x7
 def zqt:=length (x1++x5.1)=length x6/\x5.2.1=x2/\z00 AT.cells (x1++x5.1)=z00 AT.cells x6/\j46 x1 x2 x5
 def j6b:=length x1<1000/\((!Option.isSome (findF x0 x1 0))=true->∃(i0:List AT),(4:Int)=4/\zf2 i0 x2 x1 (True/\∃(i1:TmB),i1.2.2=0/\length (x6++i1.1)=length i0/\i1.2.1=faE x2 4/\z00 AT.cells (x6++i1.1)=z00 AT.cells i0/\j46 x6 x2 i1))/\((!Option.isSome (findF x0 x1 0))=false->∃(i2:TmB),i2.2.2=fnI (findF x0 x1 0)/\zqt x6 x2 i2 x1)
 def jbc:=x0=x0/\x3=x3/\(size x0<1000000/\size x3<1000000)/\∃(i0:List AT),z2b x0 x3=z2b x0 x3/\zf2 i0 x2 x1 (length i0<1000/\(Option.isSome (findF (z2b x0 x3) i0 0)=true->∃(i1:TmB),i1.2.2=fnI (findF (z2b x0 x3) i0 0)/\zqt x1 x2 i1 i0)/\(Option.isSome (findF (z2b x0 x3) i0 0)=false->∃(i4:List AT),x3=x3/\zf2 i4 x2 i0 (j6b x3 i4 x2 x1)))
 def jbb:=((!x4.2)=true->jbc x0 x1 x2 x3)/\((!x4.2)=false->∃(i12:List AT),x3=x3/\zf2 i12 x2 x1 (j6b x3 i12 x2 x1))
 def jba:=Ji ((↑x4.1:Int)<(↑(size x0):Int)) (jbe x0 x1 x2 x3 x4) (jbb x3 x1 x2 x0 x4)
 def jb9:=(∃(i0:Nat×Bool),x0=x0/\z0a x0=z0a x0/\(↑i0.1:Int)=0/\x3=x3/\i0.2=false/\zb8 x1 x2 (i0.1<=size x0/\True))/\∀(i1:Nat×Bool),i1.1<=size x0->jba x0 x1 x2 x3 i1
 def jb8:=x0=x0/\True/\(Ji (1<=z0a x0) (jbd x0 x1 x2 x3) (∃(i5:Unit),x0=x0/\z0a x0=z0a x0/\x3=x3/\zb8 x1 x2 (True/\True)))/\∀(i6:Unit),True->jb9 x0 x1 x2 x3
end
def ze4(S:List AT) (e:Int) (s sp:ByteArray):qm3 P (qh2 [(68,zc5),(69,zvz),(98,zgo),(97,zc0),(63,z1s)]) (qi5 []) Go.Proofs.Tryz.f64 z8z (zn0) ⟨S,e,s,sp⟩=(length S<=60/\size s<100000/\size sp<100000->jb8 s S e sp):=by kernel_rfl
def zis:=λS e s sp=>Eq.trans (ze4 S e s sp) (by delta Ji Jb Jt Jf j46 zb8 jbd zqs zqu zza jbf jbe zf2 zqt j6b jbc jbb jba jb9 jb8;exact rfl)
section
def z97{s:ByteArray}:∀{nm:List ByteArray} {l:List GJ} {t:GJ},z3d s nm l=some t->∃(i:Nat) (h:i<l.length),t=l[i]
  | [],l,t,h=>by simp[z3d]at h
  |x::nm,[],t,h=>by simp[z3d]at h
  | x::nm,g::l,t,h=>by
    rw[z3d]at h
    split at h
    · cases h;exact⟨0,by simp,rfl⟩
    · obtain⟨i,hi,e⟩:=z97 h;exact⟨i+1,by simpa using hi,by simpa using e⟩
variable {s:ByteArray}
def zam{g t:GJ} (h:z0b s g=some t) (hw:g.wf):t.wf/\∀p,g.ok p->t.ok p:=by
 unfold z0b at h
 split at h
 ·obtain⟨i,hi,rfl⟩:=z97 h
  rw[GJ.wf_eq]at hw
  exact⟨GJ.wfs_at hw.2.2.2.2.2.2 hi,λp hp=>by rw[GJ.ok_eq]at hp;exact GJ.oks_at hp.2.2 hi⟩
 ·cases h
def j5d:zJ.wf:=by
 unfold zJ GJ.wf GJ.wfs
 exact⟨by decide,by decide,by decide,λt h=>by simp at h,⟨by decide,by decide⟩,λ_=>rfl,trivial⟩
def j5c(p:Pub):zJ.ok p:=by
 unfold zJ GJ.ok GJ.oks;exact⟨z05,z05,trivial⟩
def z16(s:ByteArray) {g:GJ} (hw:g.wf):((z0b s g).getD zJ).wf/\∀p,g.ok p->((z0b s g).getD zJ).ok p:=by
 cases h:z0b s g with
 |none=>exact⟨j5d,λp _=>j5c p⟩
 |some t=>exact zam h hw
variable {l:List GJ} {acc:List ByteArray}
def z6u{j:Nat} {e:Int} (h:j<l.length):z3c (l.drop j) e acc=if e=0 then z3c (l.drop (j+1)) (if l[j].k=4 then 0 else 2) (acc++[l[j].s])else(acc,e):=by
 rw[List.drop_eq_getElem_cons h,z3c]
def z9t{j:Nat} {e:Int} (h:l.length<=j\/e≠0):z3c (l.drop j) e acc=(acc,e):=by
 by_cases hj:l.length<=j
 ·rw[List.drop_of_length_le hj,z3c]
 ·rw[z6u (by omega),if_neg (by omega)]
def za6(x:Addr):x.add 0=x:=by
 cases x;simp[Addr.add]
def z5r:q5k P 103 z4z:=by
  refine qm5 mixed (qee (qih z2k (qih z13 qlq))) (W:=zn1) Go.Proofs.Tryz.func103 (by kernel_rfl) (by decide) (by decide) (λs=>by kernel_rfl) λ⟨S,(e:Int),g,s⟩=>(ziv S e g s).mpr ?_
  rintro hg ⟨p,_,hp⟩
  simp only[sbS,exists_const]
  refine⟨⟨g,s⟩,rfl,rfl,rfl,rfl,rfl,rfl,rfl,rfl,rfl,rfl,hg,λq hq=>hq,λhn=> ?_,λhy=> ?_⟩
  · have e0:z1u g s e=([],false,e):=by unfold z1u;rw[if_neg (by rw[hn];decide)]
    rw[e0];exact⟨rfl,rfl,zbq,λq _=>z05⟩
  obtain⟨tw,tok⟩:=z16 s hg
  have e1:z1u g s e=((z3c ((z0b s g).getD zJ).l (tyE g s e) []).1,true,(z3c ((z0b s g).getD zJ).l (tyE g s e) []).2):=by unfold z1u;rw[if_pos hy]
  rw[e1]
  have hty:tyE g s e=if((z0b s g).getD zJ).k=5 then e else faE e 2:=rfl
  simp only
  generalize (z0b s g).getD zJ=t at*
  generalize tyE g s e=e2 at*
  have hy2:=λq (hq:g.ok q)=>(show slP GJ.cells t.y t.l q by have:=tok q hq;rw[GJ.ok_eq]at this;exact this.1)
  have tl:t.y.2.1=t.l.length:=(hy2 p hp).1
  rw[GJ.wf_eq]at tw
  refine⟨⟨λh=>⟨S,rfl,rfl,rfl,by rw[hty,if_neg h],rfl⟩,λh=>by rw[hty,if_pos h]⟩,?_⟩
  rintro _ _
  refine⟨⟨⟨0,e2,[]⟩,rfl,rfl,rfl,by show 0<=_;omega,by show 0<=_;omega,rfl⟩,?_⟩
  rintro⟨j,e',acc⟩ ⟨hj,ha,he⟩
  simp only at*
  have done:z3c (t.l.drop j) e' acc=(acc,e')->∀(a:Option Addr) (c:Nat),(z3c t.l e2 []).2=e'/\∀q,acc.length<=c/\qik q a (List.take (acc.length*1) (z00 txV acc))->slP txV (a,acc.length,c) (z3c t.l e2 []).1 q:=λh a c=>by
    rw[←he,h]
    refine⟨rfl,λq hq=>⟨rfl,hq.1,?_⟩⟩
    have:=hq.2
    rw[List.take_of_length_le (by rw[z01 z0t];exact Nat.le_refl _)]at this
    exact this
  refine⟨λhlt=>⟨λh0=> ?_,λh0=> ?_⟩,λhge=> ?_⟩
  · have hjl:j<t.l.length:=by omega
    have hat:=λq (hq:g.ok q)=>z0z z37 (by decide) (hy2 q hq) hjl
    have hd:=z6u (e:=e') (acc:=acc) hjl
    rw[if_pos h0]at hd
    have cell:∀q (hq:g.ok q) (k:Nat) (v:Value),t.l[j].cells[k]? =some v->q3p q ((adr t.y.1 (j*5)).add k) [v]:=λq hq k v hv i u hu=>by
      have:=(hat q hq).2
      match i with
      | 0=>
        simp at hu;subst hu
        rw[za6]
        exact this k v hv
      |i+1=>simp at hu
    refine⟨by omega,(hat p hp).1,t.l[j].k,λq hq=>cell q hq 0 _ rfl,λhk=>⟨S,rfl,rfl,by omega,(hat p hp).1,t.l[j].s,λq hq=>cell q hq 2 _ rfl,z01 z0t acc,by omega,⟨by omega,by omega⟩,⟨j+1,2,acc++[t.l[j].s]⟩,by show((j+1:Nat):Int)=_;omega,by show(acc++[t.l[j].s]).length=_;simp,rfl,by show 2=faE e' 2;unfold faE;rw[if_pos h0],by show z00 txV (acc++[t.l[j].s])=_;rw[z04];rfl,rfl,⟨by show j+1<=_;omega,by show(acc++[t.l[j].s]).length<=j+1;simp;omega,?_⟩,by show _- (j+1)<_;omega⟩,λhk=>⟨by omega,(hat p hp).1,t.l[j].s,λq hq=>cell q hq 2 _ rfl,z01 z0t acc,by omega,⟨by omega,by omega⟩,⟨j+1,0,acc++[t.l[j].s]⟩,by show((j+1:Nat):Int)=_;omega,by show(acc++[t.l[j].s]).length=_;simp,h0.symm,by show z00 txV (acc++[t.l[j].s])=_;rw[z04];rfl,⟨by show j+1<=_;omega,by show(acc++[t.l[j].s]).length<=j+1;simp;omega,?_⟩,by show _- (j+1)<_;omega⟩⟩
    · rw[←he,hd,if_neg hk]
    · rw[←he,hd,if_pos hk]
  · rintro b s4 u a n c ⟨q0,hq0⟩
    obtain⟨d1,d2⟩:=done (z9t (.inr h0)) a c
    exact⟨trivial,d1,rowP_Pl hq0.2.2,λq hq=>d2 q hq.2⟩
  · rintro b s4 u a n c ⟨q0,hq0⟩
    obtain⟨d1,d2⟩:=done (z9t (.inl (by omega))) a c
    exact⟨trivial,d1,rowP_Pl hq0.2.2,λq hq=>d2 q hq.2⟩
def pmT(k it:Int):AT:=⟨k,mkS [],(none,0,0),[],it,(none,0,0),[],false,mkS [],0,(none,0,0),[],(none,0,0),[]⟩
def z9h(k it:Int) (p:Pub):(pmT k it).ok p:=⟨z05,z05,z05,z05,λf hf=>absurd hf (by simp[pmT])⟩
def zi5{n:Nat} {k it:Int} (h1:1<=k) (h8:k<=8):z1v n (pmT k it):=by
 have hk:(pmT k it).k=k:=rfl
 unfold z1v
 rw[hk]
 exact⟨⟨h1,by omega⟩,λh=>(by omega),λb hb=>(by cases hb),λh=>(by omega),λf hf=>(by cases hf),λh=>(by omega),λh=>(by omega),Nat.zero_le _,Nat.zero_le _,Nat.zero_le _⟩
def z94{s:ByteArray}:∀{l:List AT} {i k:Nat},findF s l i=some k->i<=k/\k<i+l.length
  | [],i,k,h=>by simp[findF]at h
  | a::l,i,k,h=>by
    rw[findF]at h
    split at h
    · cases h;simp
    · have:=z94 h;simp;omega
def z96{S:List AT} (h:(findF s S 0).isSome=true):0<=fnI (findF s S 0)/\fnI (findF s S 0)<S.length:=by
  cases hf:findF s S 0 with
  |none=>rw[hf]at h;cases h
  | some k=>
    have:=z94 hf
    show 0<=(k:Int)/\(k:Int)<_
    omega
def z0i{e0 e:Int} (h:e≠0):faE e0 e≠0:=by unfold faE;split<;>omega
def zit:q22 P 64 z8z:=by
 refine qlb mixed (qee (qih zcz (qih z56 (qih zcy (qih z95 (qih z13 qlq)))))) (qf7 qlp) (W:=zn0) Go.Proofs.Tryz.func64 (by kernel_rfl) (by decide) (by decide) (λs=>by kernel_rfl) λ⟨S,(e:Int),s,sp⟩=>(zis S e s sp).mpr ?_
 rintro⟨hS,hs,hsp⟩
 simp only[sbS,exists_const,forall_const]
 have same:∀r:Int,(0<=r/\r<S.length)->grown S e [] e/\(e=0->0<=r/\r<(S++[]).length):=λr hr=>by
  unfold grown;rw[List.append_nil]
  exact⟨⟨hS,λh=>⟨h,λa ha=>by cases ha⟩⟩,λ_=>hr⟩
 have bad:grown S e [] (faE e 4)/\(faE e 4=0->0<=(0:Int)/\0<((S++[]).length:Int)):=by
  have:=z0i (e0:=e) (e:=4) (by decide)
  unfold grown;rw[List.append_nil]
  exact⟨⟨hS,λh=>absurd h this⟩,λh=>absurd h this⟩
 refine⟨λh1=>λh8=>⟨⟨S,e,pmT (z0a s) 0⟩,rfl,rfl,rfl,rfl,rfl,rfl,rfl,rfl,rfl,rfl,rfl,rfl,rfl,rfl,rfl,rfl,rfl,rfl,rfl,rfl,rfl,?_⟩,?_⟩
 ·by_cases hl:60<=S.length
  ·refine⟨⟨[],adE S e,adR S⟩,rfl,?_,rfl,?_,?_,λp a ha=>by cases ha⟩
   ·show(S++[]).length=(adS S (pmT (z0a s) 0)).length
    unfold adS;rw[if_pos hl,List.append_nil]
   ·show z00 AT.cells (S++[])=z00 AT.cells (adS S (pmT (z0a s) 0))
    unfold adS;rw[if_pos hl,List.append_nil]
   ·have:adE S e≠0:=by unfold adE;rw[if_pos hl];exact z0i (by decide)
    unfold grown
    exact⟨⟨by rw[List.append_nil];exact hS,λh=>absurd h this⟩,λh=>absurd h this⟩
  ·refine⟨⟨[pmT (z0a s) 0],adE S e,adR S⟩,rfl,?_,rfl,?_,?_,λp a ha=> ?_⟩
   ·show(S++[_]).length=(adS S (pmT (z0a s) 0)).length
    unfold adS;rw[if_neg hl]
   ·show z00 AT.cells (S++[_])=z00 AT.cells (adS S (pmT (z0a s) 0))
    unfold adS;rw[if_neg hl]
   ·have e1:adE S e=e:=by unfold adE;rw[if_neg hl]
    have e2:adR S=S.length:=by unfold adR;rw[if_neg hl]
    show grown S e [_] (adE S e)/\(adE S e=0->0<=adR S/\adR S<((S++[_]).length:Int))
    rw[e1,e2]
    refine⟨⟨by simp;omega,λh=>⟨h,λa ha=> ?_⟩⟩,λ_=>by simp;omega⟩
    simp at ha;subst ha
    exact zi5 h1 h8
   ·simp at ha;subst ha;exact z9h _ _ _
 refine⟨⟨⟨0,false⟩,rfl,rfl,Nat.zero_le _⟩,?_⟩
 rintro⟨j,d⟩ hj
 simp only at*
 have tail:∀b1:List AT,b1=S->(b1.length<1000/\((findF s b1 0).isSome=true->0<=fnI (findF s b1 0)/\fnI (findF s b1 0)<S.length)):=λb1 h=>by
  subst h;exact⟨by omega,z96⟩
 refine⟨λhlt=>⟨λhd=>⟨⟨by omega,by omega⟩,⟨j+1,true⟩,by show((j+1:Nat):Int)=_;omega,rfl,by show j+1<=_;omega,by show _- (j+1)<_;omega⟩,λhd=>⟨⟨by omega,hlt⟩,⟨by omega,by omega⟩,⟨j+1,_⟩,by show((j+1:Nat):Int)=_;omega,rfl,by show j+1<=_;omega,by show _- (j+1)<_;omega⟩⟩,λhge=>⟨λhd=>⟨⟨by omega,by omega⟩,S,rfl,rfl,by omega,λhf=>⟨⟨[],e,fnI (findF (z2b sp s) S 0)⟩,rfl,by rw[List.append_nil],rfl,by rw[List.append_nil],same _ (z96 hf),λp a ha=>by cases ha⟩,λhf=>⟨S,rfl,rfl,by omega,λhg=>⟨S,rfl,rfl,⟨[],faE e 4,0⟩,rfl,by rw[List.append_nil],rfl,by rw[List.append_nil],bad,λp a ha=>by cases ha⟩,λhg=>⟨⟨[],e,fnI (findF s S 0)⟩,rfl,by rw[List.append_nil],rfl,by rw[List.append_nil],same _ (z96 hg),λp a ha=>by cases ha⟩⟩⟩,λhd=>⟨S,rfl,rfl,by omega,λhg=>⟨S,rfl,rfl,⟨[],faE e 4,0⟩,rfl,by rw[List.append_nil],rfl,by rw[List.append_nil],bad,λp a ha=>by cases ha⟩,λhg=>⟨⟨[],e,fnI (findF s S 0)⟩,rfl,by rw[List.append_nil],rfl,by rw[List.append_nil],same _ (z96 hg),λp a ha=>by cases ha⟩⟩⟩⟩
end
abbrev TmS:=List AT×Int×GJ×ByteArray×Int
def z2y:TmS->Prop:=λ⟨S,e,g,sp,d⟩=>S.length<=60/\g.wf/\1<=d/\d<=21/\(sp.size:Int)<=1100*d
def z0d:TmS->TmB->Prop:=λ⟨S,e,g,sp,d⟩ ⟨T,e',r⟩=>grown S e T e'/\(e'=0->0<=r/\r<(S++T).length)
def z1t:CtR where
 σ:=TmS
 args:=λ⟨S,e,g,sp,d⟩=>[.ptr 1 0,g.av, .sv (.string sp), .sv (.int .i64 d)]
 h:=λ⟨S,e,g,sp,d⟩=>mkO S e 2 3
 m:=4
 pre:=z2y
 mem:=λ⟨S,e,g,sp,d⟩=>gM g
 β:=λ_=>TmB
 post:=z0d
 pm:=λ_ ⟨T,e',r⟩=>toM T
 r:=λ_ ⟨T,e',r⟩=> .sv (.int .i64 r)
 h':=λ⟨S,e,g,sp,d⟩ ⟨T,e',r⟩=>mkO (S++T) e' 4 5
 m':=6
def z5g:CtR:={z1t with pre:=λs=>z2y s/\s.2.2.2.2<=20}
def z53:TmS->Nat:=λ⟨S,e,g,sp,d⟩=>(25- d).toNat
abbrev UnS:=Nat×Int×List AT×List Int
def zj0(S:List AT) (e:Int) (g:GJ):UnS->Prop:=λ⟨i,e',T,l⟩=>i<=g.l.length/\(S++T).length<=60/\(e'=0->e=0/\S.length<60/\l.length=i/\(∃T',T=pmT 14 0::T'/\∀a∈T',z1v (S++T).length a)/\∀b∈l,0<=b/\b<(S++T).length)
def zeq:TmS->WayF:=λ⟨S,e,g,sp,d⟩=>{
 ann:=λid _ _=>match id with
  |0=>some {σ:=UnS,pre:=zj0 S e g,mem:=λ⟨i,e',T,l⟩=>toM T,t:=λ⟨i,e',T,l⟩=>[(11, .sv (.int .i64 (i:Int))),(10, .ssl 13 0 l.length 1 14)],h:=λ⟨i,e',T,l⟩=>mkO (S++T) e' 11 12++[(13, .row 3 0 (z00 inV l))],more:=4,μ:=λ⟨i,e',T,l⟩=>g.l.length- i,keep:=[0,2,3,5,8,9],del:=[9]}
  |_=>some {σ:=Nat,t:=λm=>[(13, .sv (.int .i64 (m:Int)))],h:=λ_=>[],more:=0,μ:=λm=>100- m,keep:=[0,2,3,5,8,9,10,11,12]}
 pub:=λi k=>match i,k with
  |22,9=>[109]
  |_,_=>[]}
section
variable (x0:GJ) (x1:List AT×Int×AT) (x2:List AT) (x3:Int) (x4:ByteArray) (x5:Int) (x6:Nat) (x7:UnS) (x8:TmB) (x9:TmS) (x10:Prop) (x11:Nat->Option Obj) (x12:Option Addr) (x13:List AT×Int) (x14:Int) (x15:List AT)
 abbrev zf4:=(↑(GJ.y x0).2.1:Int)
 def z81:=∀(i0:AT),i0∈x8.1->AT.ok i0 x11
 def zqv:=∃(i0:List AT),x14=x14/\length i0=length (adS x1.1 x1.2.2)/\adE x1.1 x1.2.1=adE x1.1 x1.2.1/\z00 AT.cells i0=z00 AT.cells (adS x1.1 x1.2.2)/\True/\∃(i1:TmB),i1.2.2=0/\length (x2++i1.1)=length i0/\i1.2.1=faE (adE x1.1 x1.2.1) x14/\z00 AT.cells (x2++i1.1)=z00 AT.cells i0/\z0d (x2,x3,x0,x4,x5) i1/\(∀i2,True/\GJ.ok x0 i2->z81 i1 i2)/\True
 def zf3:=GJ.k x0=GJ.k x0/\GJ.n x0=GJ.n x0/\GJ.s x0=GJ.s x0/\(GJ.y x0).1=(GJ.y x0).1/\(GJ.y x0).2.1=(GJ.y x0).2.1/\(GJ.y x0).2.2=(GJ.y x0).2.2/\(GJ.x x0).1=(GJ.x x0).1/\(GJ.x x0).2.1=(GJ.x x0).2.1/\(GJ.x x0).2.2=(GJ.x x0).2.2/\x10
 def z80:=(True/\GJ.ok x0 x11)/\∀(i0:AT),i0∈x7.2.2.1->AT.ok i0 x11
 def z4p:=(z80 x0 x7 x11)/\z81 x8 x11
 def zqw:=True/\∃(i0:TmB),i0.2.2=0/\length (x2++i0.1)=length x15/\i0.2.1=faE x8.2.1 6/\z00 AT.cells (x2++i0.1)=z00 AT.cells x15/\z0d (x2,x3,x0,x4,x5) i0/\(∀i1,(z4p x0 x7 x8 i1)->z81 i0 i1)/\True
 def zqx:=x8.2.2=x8.2.2/\length x7.2.2.2=length x7.2.2.2/\length (x9.1++x8.1)=length (x9.1++x8.1)/\x8.2.1=x8.2.1/\x10
 def zzf:=Jb ((↑x6:Int)+1)/\∃(i0:Nat),x3=x3/\(↑x7.1:Int)=(↑x7.1:Int)/\adR x1.1=adR x1.1/\(↑i0:Int)=(↑x6:Int)+1/\x4=x4/\zqx x7 x8 x9 (z00 AT.cells (x9.1++x8.1)=z00 AT.cells x13.1/\z00 inV x7.2.2.2=z00 inV x7.2.2.2/\zf3 x0 ((∀i1,(z4p x0 x7 x8 i1)->z4p x0 x7 x8 i1)/\True/\(100:Nat)- i0<100- x6/\True))
 def zzb:=(0<=(↑x6:Int)/\(↑x6:Int)<(↑(length x7.2.2.2):Int))/\∃(i0:Int),qi8 (z00 inV x7.2.2.2) (nat_lit 0+toNat (↑x6:Int)*nat_lit 1) [int i64 i0]/\∃(i1:List AT×Int),length i1.1=length (x9.1++x8.1)/\i1.2=i0/\z00 AT.cells i1.1=z00 AT.cells (x9.1++x8.1)/\length i1.1<1000/\∃(i2:List AT×Int),length i2.1=length (x9.1++x8.1)/\i2.2=x8.2.2/\z00 AT.cells i2.1=z00 AT.cells i1.1/\length i2.1<1000/\AV.agg [AV.ssl (nat_lit 19) (nat_lit 0) (length (x9.1++x8.1)) (nat_lit 10) (nat_lit 20)]=AV.agg [AV.ssl (nat_lit 19) (nat_lit 0) (length (x9.1++x8.1)) (nat_lit 10) (nat_lit 20)]/\Ji (ze1 i1.1 i1.2=ze1 i2.1 i2.2) (∃(i3:List AT),(6:Int)=6/\length i3=length (x9.1++x8.1)/\x8.2.1=x8.2.1/\z00 AT.cells i3=z00 AT.cells i2.1/\zqw x0 x2 x3 x4 x5 x7 x8 i3) (zzf x0 x1 x5 x4 x6 x7 x8 x9 i2)
 def zzc:=length (z00 inV x7.2.2.2)=length x7.2.2.2*1/\(length x7.2.2.2+nat_lit 1)*8<=140737488355328/\Jb ((↑x7.1:Int)+1)/\∃(i0:UnS),x3=x3/\(↑i0.1:Int)=(↑x7.1:Int)+1/\adR x1.1=adR x1.1/\x4=x4/\length i0.2.2.2=length x7.2.2.2+nat_lit 1/\length (x2++i0.2.2.1)=length (x9.1++x8.1)/\i0.2.1=x8.2.1/\z00 AT.cells (x2++i0.2.2.1)=z00 AT.cells (x9.1++x8.1)/\z00 inV i0.2.2.2=z00 inV x7.2.2.2++[int i64 x8.2.2]/\zf3 x0 ((∀i1,(z4p x0 x7 x8 i1)->True/\GJ.ok x0 i1)/\(∀i4,(z4p x0 x7 x8 i4)->∀(i7:AT),i7∈i0.2.2.1->AT.ok i7 i4)/\zj0 x2 x5 x0 i0/\length (GJ.l x0)- i0.1<length (GJ.l x0)- x7.1/\True)
 def jbo:=Ji ((↑x6:Int)<(↑(length x7.2.2.2):Int)) (zzb x0 x1 x2 x3 x4 x5 x6 x7 x8 x9) (zzc x0 x1 x2 x5 x4 x3 x7 x8 x9)
 def jbn:=(∃(i0:Nat),x3=x3/\(↑x7.1:Int)=(↑x7.1:Int)/\adR x1.1=adR x1.1/\(↑i0:Int)=0/\x4=x4/\zqx x7 x8 x9 (z00 AT.cells (x9.1++x8.1)=z00 AT.cells (x9.1++x8.1)/\z00 inV x7.2.2.2=z00 inV x7.2.2.2/\zf3 x0 ((∀i1,(z4p x0 x7 x8 i1)->z4p x0 x7 x8 i1)/\True/\True)))/\∀(i6:Nat),True->jbo x0 x1 x2 x5 x4 x3 i6 x7 x8 x9
 def jbm:=(0<=x8.2.2/\x8.2.2<(↑(length (x9.1++x8.1)):Int))/\∃(i0:Int),qi8 (z00 AT.cells (x9.1++x8.1)) (nat_lit 0+toNat x8.2.2*nat_lit 10+0) [int i64 i0]/\Ji (i0=14) (∃(i1:List AT),(6:Int)=6/\length i1=length (x9.1++x8.1)/\x8.2.1=x8.2.1/\z00 AT.cells i1=z00 AT.cells (x9.1++x8.1)/\zqw x0 x2 x3 x4 x5 x7 x8 i1) (jbn x0 x1 x2 x5 x4 x3 x7 x8 x9)
 def jbl:=((!decide (x8.2.1=0))=true->∃(i0:TmB),i0.2.2=0/\length (x2++i0.1)=length (x9.1++x8.1)/\i0.2.1=x8.2.1/\z00 AT.cells (x2++i0.1)=z00 AT.cells (x9.1++x8.1)/\z0d (x2,x3,x0,x4,x5) i0/\(∀i1,(z4p x0 x7 x8 i1)->z81 i0 i1)/\True)/\((!decide (x8.2.1=0))=false->jbm x0 x1 x2 x3 x4 x5 x7 x8 x9)
 def jbk:=(0<=(↑x7.1:Int)/\(↑x7.1:Int)<(zf4 x0))/\(GJ.y x0).1≠noA/\∃(i0:Int),∃(i1:Int),∃i2,∃i3,∃(i4:Nat),∃(i5:Nat),∃i6,∃(i7:Nat),∃(i8:Nat),(∀i9,(z80 x0 x7 i9)->q3p i9 (adr (GJ.y x0).1 (toNat (↑x7.1:Int)*5)) [int i64 i0,int i64 i1,string i2,slice i3 i4 i5,slice i6 i7 i8])/\Jb (x3+1)/\∃(i11:TmS),GJ.k i11.2.2.1=i0/\GJ.n i11.2.2.1=i1/\GJ.s i11.2.2.1=i2/\(GJ.y i11.2.2.1).1=i3/\(GJ.y i11.2.2.1).2.1=i4/\(GJ.y i11.2.2.1).2.2=i5/\(GJ.x i11.2.2.1).1=i6/\(GJ.x i11.2.2.1).2.1=i7/\(GJ.x i11.2.2.1).2.2=i8/\i11.2.2.2.1=x4/\i11.2.2.2.2=x3+1/\length i11.1=length (x2++x7.2.2.1)/\i11.2.1=x7.2.1/\z00 AT.cells i11.1=z00 AT.cells (x2++x7.2.2.1)/\(z53 i11<x6/\z2y i11)/\(∀i12,(z80 x0 x7 i12)->GJ.ok i11.2.2.1 i12)/\∀(i14:TmB),z0d i11 i14->(∃i15,z4p x0 x7 i14 i15)->jbl x0 x1 x2 x5 x4 x3 x7 i14 i11
 def zqy:=(z80 x0 x7 x11)/\length x7.2.2.2<=x6/\qik x11 x12 (take (length x7.2.2.2*nat_lit 1) (z00 inV x7.2.2.2))
 def zze:=nat_lit 0+toNat (adR x1.1)*nat_lit 10+9+length [slice x12 (length x7.2.2.2) x6]<=length (z00 AT.cells (x2++x7.2.2.1))/\∃(i0:TmB),i0.2.2=adR x1.1/\length (x2++i0.1)=length (x2++x7.2.2.1)/\i0.2.1=x7.2.1/\z00 AT.cells (x2++i0.1)=spl (z00 AT.cells (x2++x7.2.2.1)) (nat_lit 0+toNat (adR x1.1)*nat_lit 10+9) [slice x12 (length x7.2.2.2) x6]/\z0d (x2,x3,x0,x4,x5) i0/\(∀i1,zqy x0 x6 x7 i1 x12->z81 i0 i1)/\True
 def zzd:=(0<=adR x1.1/\adR x1.1<(↑(length (x2++x7.2.2.1)):Int))/\∀(i0 i1 i2:Nat) (i3:Option Addr) (i4 i5:Nat),(∃i6,zqy x0 i5 x7 i6 i3)->zze x0 x1 x2 x3 x4 x5 i5 x7 i3
 def j6c:=Ji (x7.2.1=0) (zzd x0 x1 x2 x3 x4 x5 x7) (∃(i12:TmB),i12.2.2=adR x1.1/\length (x2++i12.1)=length (x2++x7.2.2.1)/\i12.2.1=x7.2.1/\z00 AT.cells (x2++i12.1)=z00 AT.cells (x2++x7.2.2.1)/\z0d (x2,x3,x0,x4,x5) i12/\(∀i13,(z80 x0 x7 i13)->z81 i12 i13)/\True)
 def jbj:=Ji (x7.2.1=0) (jbk x0 x1 x2 x3 x4 x5 x6 x7) (j6c x0 x1 x2 x5 x4 x3 x7)
 def jbi:=Ji ((↑x7.1:Int)<(zf4 x0)) (jbj x0 x1 x2 x3 x4 x5 x6 x7) (j6c x0 x1 x2 x5 x4 x3 x7)
 def jbh:=(∃(i0:UnS),x3=x3/\(↑i0.1:Int)=0/\adR x1.1=adR x1.1/\x4=x4/\length i0.2.2.2=0/\length (x2++i0.2.2.1)=length (adS x1.1 x1.2.2)/\i0.2.1=adE x1.1 x1.2.1/\z00 AT.cells (x2++i0.2.2.1)=z00 AT.cells (adS x1.1 x1.2.2)/\zf3 x0 ((∀i1,True/\GJ.ok x0 i1->True/\GJ.ok x0 i1)/\(∀i2,True/\GJ.ok x0 i2->∀(i3:AT),i3∈i0.2.2.1->AT.ok i3 i2)/\zj0 x2 x5 x0 i0/\True))/\∀(i4:UnS),zj0 x2 x5 x0 i4->(∃i5,z80 x0 i4 i5)->jbi x0 x1 x2 x3 x4 x5 x6 i4
 def jbg:=Ji (30<(zf4 x0)) (zqv x0 x1 x2 x3 x4 x5 3) (jbh x0 x1 x2 x5 x4 x3 x6)
end
def zb0(n:Nat) (S:List AT) (e:Int) (g:GJ) (sp:ByteArray) (d:Int):qm3 P (qh2 [(69,zvz),(99,j4n),(63,z1s)]) (qi5 [(32,z1t.below z53 n)]) Go.Proofs.Tryz.f65 (z5g.below z53 (n+1)) (zeq) ⟨S,e,g,sp,d⟩=(z53 (S,e,g,sp,d)<n+1/\z2y (S,e,g,sp,d)/\d<=20->(∃(p:Pub),True/\GJ.ok g p)->∃(s:List AT×Int×AT),AT.k s.2.2=14/\AT.nm s.2.2=mkS []/\(AT.al s.2.2).1=noA/\(AT.al s.2.2).2.1=0/\(AT.al s.2.2).2.2=0/\AT.it s.2.2=0/\(AT.sy s.2.2).1=noA/\(AT.sy s.2.2).2.1=0/\(AT.sy s.2.2).2.2=0/\AT.hd s.2.2=false/\AT.df s.2.2=mkS []/\AT.sz s.2.2=0/\(AT.f s.2.2).1=noA/\(AT.f s.2.2).2.1=0/\(AT.f s.2.2).2.2=0/\(AT.br s.2.2).1=noA/\(AT.br s.2.2).2.1=0/\(AT.br s.2.2).2.2=0/\length s.1=length S/\s.2.1=e/\z00 AT.cells s.1=z00 AT.cells S/\True/\Ji ((zf4 g)=0) (zqv g s S e sp d 6) (jbg g s S e sp d n)):=by kernel_rfl
def zea:=λn S e g sp d=>Eq.trans (zb0 n S e g sp d) (by delta Ji Jb Jt Jf zf4 z81 zqv zf3 z80 z4p zqw zqx zzf zzb zzc jbo jbn jbm jbl jbk zqy zze zzd j6c jbj jbi jbh jbg;exact rfl)
def unT(x:SV) (l:List Int):AT:={pmT 14 0 with br:=x,brs:=l}
def z1b{α:Type} {f:α->List Value} (a:α) (l:List α):z00 f (a::l)=f a++z00 f l:=rfl
def zxq(A B:List AT) (x:SV) (l:List Int):z00 AT.cells (A++unT x l::B)=spl (z00 AT.cells (A++pmT 14 0::B)) (0+A.length*10+9) [svV x]:=by
 rw[z04,z04,z1b,z1b,Nat.zero_add]
 have hl:=z01 z1i A
 rw[←hl]
 show _=(z00 AT.cells A++((pmT 14 0).cells++z00 AT.cells B)).set ((z00 AT.cells A).length+9) (svV x)
 have key:∀(P Q:List Value) (v:Value),(P++Q).set (P.length+9) v=P++Q.set 9 v:=λP Q v=>by
  induction P with
  |nil=>simp
  |cons a P ih=>rw[List.cons_append,List.length_cons,Nat.add_right_comm,List.set_cons_succ,ih];rfl
 rw[key]
 rfl
def zwv{l:List Int} {i:Nat} (h:i<l.length):∀(j:Nat) (v:Value),[Value.int .i64 l[i]][j]? =some v->(z00 inV l)[0+i*1+j]? =some v:=λj v hj=>by
 cases j with
 |zero=>rw[Nat.zero_add,z20 z9a l i h 0 (by decide)];exact hj
 |succ j=>simp at hj
def z51{n m:Nat} {a:AT} (h:n<=m) (g:z1v n a):z1v m a:=
 ⟨g.1,λk=>by have:=g.2.1 k;omega,λb hb=>by have:=g.2.2.1 b hb;omega,g.2.2.2.1,λf hf=>⟨by have:=(g.2.2.2.2.1 f hf).1;omega,(g.2.2.2.2.1 f hf).2⟩,g.2.2.2.2.2⟩
def zbs{S:List AT} {e:Int} (h:60<=S.length):adE S e≠0:=by unfold adE;rw[if_pos h];exact z0i (by decide)
def adT(S:List AT) (t:AT):List AT:=if 60<=S.length then []else [t]
def z0r(S:List AT) (t:AT):adS S t=S++adT S t:=by
 unfold adS adT
 split
 ·rw[List.append_nil]
 ·rfl
def zeb(n:Nat) (ht:q22 P 32 (z1t.below z53 n)):q22 P 65 (z5g.below z53 (n+1)):=by
 refine qlb mixed (qee (qih z56 (qih zxw (qih z13 qlq)))) (qf7 (qig ht qlp)) (W:=zeq) Go.Proofs.Tryz.func65 (by kernel_rfl) (show 1<=4 by decide) (show 4<=6 by decide) (λs=>by kernel_rfl) λ⟨S,(e:Int),g,sp,(d:Int)⟩=>(zea n S e g sp d).mpr ?_
 rintro⟨hmu,⟨hS,hg,hd1,hd2,hsp⟩,hd20⟩ ⟨p,_,hp⟩
 have hmu:(25- d).toNat<n+1:=hmu
 have hd20:d<=20:=hd20
 have hgw:=hg
 rw[GJ.wf_eq]at hgw
 have hy:=λq (hq:g.ok q)=>(show slP GJ.cells g.y g.l q by rw[GJ.ok_eq]at hq;exact hq.1)
 have yl:g.y.2.1=g.l.length:=(hy p hp).1
 simp only[sbS,exists_const,forall_const,Int.toNat_natCast]
 have adl:(adT S (pmT 14 0)).length<=1/\(S++adT S (pmT 14 0)).length<=60:=by
  unfold adT
  split
  ·rw[List.append_nil];exact⟨by decide,hS⟩
  ·exact⟨by decide,by simp;omega⟩
 have adok:∀q,∀a∈adT S (pmT 14 0),a.ok q:=λq a ha=>by
  unfold adT at ha
  split at ha
  ·cases ha
  ·simp at ha;subst ha;exact z9h _ _ _
 have bad0:∀k:Int,k≠0->z0d (S,e,g,sp,d) (adT S (pmT 14 0),faE (adE S e) k,0):=λk hk=>by
  have:=z0i (e0:=adE S e) hk
  exact⟨⟨adl.2,λh=>absurd h this⟩,λh=>absurd h this⟩
 refine⟨⟨S,e,pmT 14 0⟩,rfl,rfl,rfl,rfl,rfl,rfl,rfl,rfl,rfl,rfl,rfl,rfl,rfl,rfl,rfl,rfl,rfl,rfl,rfl,rfl,rfl,λh0=>⟨adS S (pmT 14 0),rfl,rfl,⟨adT S (pmT 14 0),faE (adE S e) 6,0⟩,rfl,by rw[z0r],rfl,by rw[z0r],bad0 6 (by decide),λq _=>adok q⟩,λh0=>⟨λh30=>⟨adS S (pmT 14 0),rfl,rfl,⟨adT S (pmT 14 0),faE (adE S e) 3,0⟩,rfl,by rw[z0r],rfl,by rw[z0r],bad0 3 (by decide),λq _=>adok q⟩,λh30=>⟨⟨⟨0,adE S e,adT S (pmT 14 0),[]⟩,rfl,rfl,by rw[z0r],rfl,by rw[z0r],λq _=>adok q,?_⟩,?_⟩⟩⟩
 ·refine⟨by show 0<=_;omega,adl.2,λh=> ?_⟩
  by_cases hl:60<=S.length
  ·exact absurd h (zbs hl)
  ·have e1:adE S e=e:=by unfold adE;rw[if_neg hl]
   have e2:adT S (pmT 14 0)=[pmT 14 0]:=by unfold adT;rw[if_neg hl]
   exact⟨by rw[←e1];exact h,by omega,rfl,⟨[],e2,λa ha=>(by cases ha)⟩,λb hb=>(by cases hb)⟩
 rintro⟨i,e',T,l⟩ ⟨hi,hT,hE⟩ _
 simp only at*
 have fin:e'=0->g.l.length<=i->∀(a:Option Addr) (c:Nat) (q0:Pub),(l.length<=c/\qik q0 a (List.take (l.length*1) (z00 inV l)))->0+(adR S).toNat*10+9+1<=(z00 AT.cells (S++T)).length/\∃b:TmB,b.2.2=adR S/\(S++b.1).length=(S++T).length/\b.2.1=e'/\z00 AT.cells (S++b.1)=spl (z00 AT.cells (S++T)) (0+(adR S).toNat*10+9) [.slice a l.length c]/\z0d (S,e,g,sp,d) b/\∀q,(g.ok q/\∀a∈T,a.ok q)/\(l.length<=c/\qik q a (List.take (l.length*1) (z00 inV l)))->∀a∈b.1,a.ok q:=λh0' hge a c q0 hq0=>by
  obtain⟨he0,hl60,hll,⟨T',rfl,hT'⟩,hlr⟩:=hE h0'
  have er:adR S=S.length:=by unfold adR;rw[if_neg (by omega)]
  rw[er,Int.toNat_natCast]
  have hlen:(S++pmT 14 0::T').length=S.length+T'.length+1:=by simp;omega
  have hlen2:∀x,(S++unT x l::T').length=S.length+T'.length+1:=λx=>by simp;omega
  refine⟨by rw[z01 z1i,hlen];omega,⟨unT (a,l.length,c) l::T',e',S.length⟩,rfl,by rw[hlen,hlen2],rfl,zxq S T' _ l,⟨⟨by rw[hlen2];omega,λ_=>⟨he0,λx hx=> ?_⟩⟩,λ_=>⟨by show 0<=(S.length:Int);omega,by rw[hlen2];show(S.length:Int)<_;omega⟩⟩,λq hq x hx=> ?_⟩
  ·rw [hlen2]
   rw[hlen]at hT' hlr
   rcases List.mem_cons.1 hx with rfl|hx
   ·refine⟨⟨by show(1:Int)<=14;omega,by show(14:Int)<=14;omega⟩,λh=> ?_,hlr,λ_ h=> ?_,λf hf=>(by cases hf),λh=> ?_,λh=> ?_,⟨Nat.zero_le _,?_,Nat.zero_le _⟩⟩
    ·have h:(14:Int)=12\/(14:Int)=13:=h
     omega
    ·have h:l=[]:=h
     rw[h]at hll
     have:i=0:=hll.symm
     omega
    ·have h:(14:Int)=10:=h
     omega
    ·have h:(14:Int)=11:=h
     omega
    ·show l.length<=30;omega
   ·exact hT' x hx
  ·rcases List.mem_cons.1 hx with rfl|hx
   ·refine⟨z05,z05,z05,⟨rfl,hq.2.1,?_⟩,λf hf=>(by cases hf)⟩
    have:=hq.2.2
    rw[List.take_of_length_le (by rw[z01 z9a];exact Nat.le_refl _)]at this
    exact this
   ·exact hq.1.2 x (List.mem_cons_of_mem _ hx)
 have out:e'≠0->z0d (S,e,g,sp,d) (T,e',adR S):=λh=>⟨⟨hT,λh2=>absurd h2 h⟩,λh2=>absurd h2 h⟩
 refine⟨λhlt=>⟨λh0'=> ?_,λh0'=>⟨λh=>absurd h h0',λ_=>⟨⟨T,e',adR S⟩,rfl,rfl,rfl,rfl,out h0',λq hq=>hq.2⟩⟩⟩,λhge=>⟨λh0'=> ?_,λh0'=>⟨⟨T,e',adR S⟩,rfl,rfl,rfl,rfl,out h0',λq hq=>hq.2⟩⟩⟩
 ·have hil:i<g.l.length:=by omega
  obtain⟨he0,hl60,hll,⟨T',hTe,hT'⟩,hlr⟩:=hE h0'
  have hat:=λq (hq:g.ok q)=>z0z z37 (by decide) (hy q hq) hil
  have hgi:g.l[i].wf:=GJ.wfs_at hgw.2.2.2.2.2.2 hil
  refine⟨by omega,(hat p hp).1,g.l[i].k,g.l[i].n,g.l[i].s,g.l[i].y.1,g.l[i].y.2.1,g.l[i].y.2.2,g.l[i].x.1,g.l[i].x.2.1,g.l[i].x.2.2,λq hq=>(hat q hq.1).2,⟨by omega,by omega⟩,⟨S++T,e',g.l[i],sp,d+1⟩,rfl,rfl,rfl,rfl,rfl,rfl,rfl,rfl,rfl,rfl,rfl,rfl,rfl,rfl,⟨by show(25- (d+1)).toNat<n;omega,hT,hgi,by omega,by omega,by omega⟩,λq hq=>by have:=hq.1;rw[GJ.ok_eq]at this;exact GJ.oks_at this.2.2 hil,?_⟩
  rintro⟨U,e2,r⟩ ⟨⟨hU,hU2⟩,hr⟩ _
  simp only at hU hU2 hr⊢
  have ass:S++T++U=S++(T++U):=List.append_assoc _ _ _
  have badU:∀k,k≠0->z0d (S,e,g,sp,d) (T++U,k,0):=λk hk=>⟨⟨by rw[←ass];exact hU,λh2=>absurd h2 hk⟩,λh2=>absurd h2 hk⟩
  have okU:∀q,((g.ok q/\∀a∈T,a.ok q)/\∀a∈U,a.ok q)->∀a∈T++U,a.ok q:=λq hq a ha=>(List.mem_append.1 ha).elim (hq.1.2 a) (hq.2 a)
  refine⟨λhne=>⟨⟨T++U,e2,0⟩,rfl,by rw[ass],rfl,by rw[ass],badU e2 hne,okU⟩,λheq=> ?_⟩
  subst heq
  obtain⟨r0,r1⟩:=hr rfl
  obtain⟨_,hUg⟩:=hU2 rfl
  obtain⟨k,rfl⟩:=Int.eq_ofNat_of_zero_le r0
  have hk:k<(S++T++U).length:=by omega
  rw[Int.toNat_natCast]
  refine⟨⟨r0,r1⟩,(S++T++U)[k].k,λj v hj=> ?_,λh14=>⟨S++T++U,rfl,rfl,⟨T++U,faE 0 6,0⟩,rfl,by rw[ass],rfl,by rw[ass],badU _ (z0i (by decide)),okU⟩,λh14=>⟨⟨0,rfl⟩,?_⟩⟩
  ·cases j with
   |zero=>have hj:some (Value.int .i64 (S++T++U)[k].k)=some v:=hj;cases hj;exact z8t hk 0 _ rfl
   |succ j=>simp at hj
  intro m
  refine⟨λhm=> ?_,λhm=> ?_⟩
  ·have hml:m<l.length:=by omega
   refine⟨by omega,l[m],zwv hml,⟨S++T++U,l[m]⟩,rfl,rfl,rfl,by show(S++T++U).length<_;omega,⟨S++T++U,(k:Int)⟩,rfl,rfl,rfl,by show(S++T++U).length<_;omega,?_⟩
   refine⟨λ_=>⟨S++T++U,rfl,rfl,⟨T++U,faE 0 6,0⟩,rfl,by rw[ass],rfl,by rw[ass],badU _ (z0i (by decide)),okU⟩,λ_=>⟨⟨by omega,by omega⟩,m+1,by omega,rfl,by omega⟩⟩
  ·refine⟨z01 z9a l,by omega,⟨by omega,by omega⟩,⟨i+1,0,T++U,l++[(k:Int)]⟩,by show((i+1:Nat):Int)=_;omega,by show(l++[_]).length=_;simp,by rw[ass],rfl,by rw[ass],by show z00 inV (l++[_])=_;rw[z04];rfl,λq hq=>hq.1.1,λq hq=>okU q hq,⟨by show i+1<=_;omega,by rw[←ass];exact hU,λ_=>⟨he0,hl60,by show(l++[_]).length=i+1;simp;omega,⟨T'++U,by show T++U=_;rw[hTe];rfl,λa ha=> ?_⟩,λb hb=> ?_⟩⟩,by show _- (i+1)<_;omega⟩
   ·show z1v (S++(T++U)).length a
    rw[←ass]
    rcases List.mem_append.1 ha with ha|ha
    ·exact z51 (by have:(S++T++U).length=(S++T).length+U.length:=List.length_append;omega) (hT' a ha)
    ·exact hUg a ha
   ·show 0<=b/\b<((S++(T++U)).length:Int)
    rw[←ass]
    have hlen:(S++T++U).length=(S++T).length+U.length:=List.length_append
    rcases List.mem_append.1 hb with hb|hb
    ·have:=hlr b hb;omega
    ·simp at hb;subst hb;exact⟨r0,r1⟩
 ·obtain⟨he0,hl60,hll,⟨T',hTe,hT'⟩,hlr⟩:=hE h0'
  have er:adR S=S.length:=by unfold adR;rw[if_neg (by omega)]
  refine⟨⟨by omega,by rw[er,hTe];simp;omega⟩,?_⟩
  rintro a c ⟨q0,hq0⟩
  exact fin h0' (by omega) a c q0 hq0.2
abbrev NmS:=List AT×Int×GJ×Int×ByteArray×Int
def z5d:CtR where
 σ:=NmS
 args:=λ⟨S,e,g,k,sp,d⟩=>[.ptr 1 0,g.av, .sv (.int .i64 k), .sv (.string sp), .sv (.int .i64 d)]
 h:=λ⟨S,e,g,k,sp,d⟩=>mkO S e 2 3
 m:=4
 pre:=λ⟨S,e,g,k,sp,d⟩=>z2y (S,e,g,sp,d)/\d<=20/\(k=9\/k=10\/k=11)
 mem:=λ⟨S,e,g,k,sp,d⟩=>gM g
 β:=λ_=>TmB
 post:=λ⟨S,e,g,k,sp,d⟩ b=>z0d (S,e,g,sp,d) b
 pm:=λ_ ⟨T,e',r⟩=>toM T
 r:=λ_ ⟨T,e',r⟩=> .sv (.int .i64 r)
 h':=λ⟨S,e,g,k,sp,d⟩ ⟨T,e',r⟩=>mkO (S++T) e' 4 5
 m':=6
def zw5:NmS->Nat:=λ⟨S,e,g,k,sp,d⟩=>(25- d).toNat
def nmB(s:ByteArray):Bool:=decide (s=mkS [114,101,99,111,114,100])||decide (s=mkS [101,110,117,109])||decide (s=mkS [102,105,120,101,100])
def arB(s:ByteArray):Bool:=decide (s=mkS [97,114,114,97,121])||decide (s=mkS [109,97,112])
def wdB(s:ByteArray):ByteArray:=if s=mkS [109,97,112]then mkS [118,97,108,117,101,115]else mkS [105,116,101,109,115]
def tyJ(g:GJ):GJ:=(z0b (mkS [116,121,112,101]) g).getD zJ
def zn2:TmS->WayF:=λ⟨S,e,g,sp,d⟩=>{
 cut:=λi t _=>match i with
  |20=>some {σ:=Unit,t:=λ_=>[(63, .sv (.bool (nmB (tyJ g).s)))],h:=λ_=>[],more:=0,μ:=λ_=>0,keep:=[0,2,3,5,8,9,62]}
  |23=>some {σ:=Unit,t:=λ_=>[(75, .sv (.bool (arB (tyJ g).s)))],h:=λ_=>[],more:=0,μ:=λ_=>0,keep:=[0,2,3,5,8,9,62]}
  |27=>some {σ:=Unit,t:=λ_=>[(12, .sv (.string (wdB (tyJ g).s)))],h:=λ_=>[],more:=0,μ:=λ_=>0,keep:=[0,2,3,5,8,9,11]}
  |_=>none
 spl:=λi=>match i with
  |20=>some 7
  |_=>none}
section
variable (x0:Int) (x1:List AT) (x2:GJ) (x3:ByteArray) (x4:Int) (x5:Nat) (x6:GJ×ByteArray) (x7:List AT×Int×AT) (x8:TmB) (x9:TmS) (x10:List AT×Int×ByteArray×ByteArray) (x11:Prop) (x12:Int) (x13:TmB)
 abbrev zjs:=z0d (x1,x0,x2,x3,x4) x8/\(∀i0,True/\GJ.ok x2 i0->∀(i1:AT),i1∈x8.1->AT.ok i1 i0)/\True
 def zjr:=∃(i0:List AT),x12=x12/\length i0=length x1/\x0=x0/\z00 AT.cells i0=z00 AT.cells x1/\True/\∃(i1:TmB),i1.2.2=0/\length (x1++i1.1)=length i0/\i1.2.1=faE x0 x12/\z00 AT.cells (x1++i1.1)=z00 AT.cells i0/\zjs x0 x1 x2 x3 x4 i1
 def zzn:=0<=x8.2.2/\x8.2.2<(↑(length (x10.1++x8.1)):Int)
 def zf5:=∃i0,(True/\GJ.ok x2 i0)/\∀(i1:AT),i1∈x8.1->AT.ok i1 i0
 def zba:=z0d (x1,x0,x2,x3,x4) x8/\(∀i0,((True/\GJ.ok x2 i0)/\∀(i1:AT),i1∈x13.1->AT.ok i1 i0)->∀(i2:AT),i2∈x8.1->AT.ok i2 i0)/\True
 def zr0:=x10.2.2.2=x3/\length x10.1=length x1/\x10.2.1=x0/\z00 AT.cells x10.1=z00 AT.cells x1/\(length x10.1<=60/\size x10.2.2.1<100000/\size x10.2.2.2<100000)/\∀(i0:TmB),grown x10.1 x10.2.1 i0.1 i0.2.1/\(i0.2.1=0->zzn i0 x10)->(zf5 x2 i0)->∃(i3:TmB),i3.2.2=i0.2.2/\length (x1++i3.1)=length (x10.1++i0.1)/\i3.2.1=i0.2.1/\z00 AT.cells (x1++i3.1)=z00 AT.cells (x10.1++i0.1)/\zba x0 x1 x2 x3 x4 i3 i0
 def zrc:=length (x1++x8.1)=length (x9.1++x13.1)/\x8.2.1=x13.2.1/\z00 AT.cells (x1++x8.1)=z00 AT.cells (x9.1++x13.1)/\x11
 def zr4:=(∀i0,True/\GJ.ok x2 i0->GJ.ok x9.2.2.1 i0)/\∀(i1:TmB),z0d x9 i1->(zf5 x2 i1)->∃(i4:TmB),i4.2.2=i1.2.2/\zrc x1 i4 x9 (zba x0 x1 x2 x3 x4 i4 i1) i1
 def zr3:=GJ.k x6.1=GJ.k x2/\GJ.n x6.1=GJ.n x2/\GJ.s x6.1=GJ.s x2/\(GJ.y x6.1).1=(GJ.y x2).1/\(GJ.y x6.1).2.1=(GJ.y x2).2.1/\(GJ.y x6.1).2.2=(GJ.y x2).2.2/\(GJ.x x6.1).1=(GJ.x x2).1/\(GJ.x x6.1).2.1=(GJ.x x2).2.1/\(GJ.x x6.1).2.2=(GJ.x x2).2.2/\x11
 abbrev z0f:=Option.getD (z0b x6.2 x6.1) zJ
 abbrev zrd:=Jb (x0+1)
 def zr2:=GJ.k x9.2.2.1=GJ.k (z0f x6)/\GJ.n x9.2.2.1=GJ.n (z0f x6)/\GJ.s x9.2.2.1=GJ.s (z0f x6)/\(GJ.y x9.2.2.1).1=(GJ.y (z0f x6)).1/\(GJ.y x9.2.2.1).2.1=(GJ.y (z0f x6)).2.1/\(GJ.y x9.2.2.1).2.2=(GJ.y (z0f x6)).2.2/\(GJ.x x9.2.2.1).1=(GJ.x (z0f x6)).1/\(GJ.x x9.2.2.1).2.1=(GJ.x (z0f x6)).2.1/\(GJ.x x9.2.2.1).2.2=(GJ.x (z0f x6)).2.2/\x9.2.2.2.1=x3/\x9.2.2.2.2=x0+1/\x11
 def zzj:=zrd x0/\∃(i0:TmS),zr2 x0 x3 x6 i0 (length i0.1=length x1/\i0.2.1=x4/\z00 AT.cells i0.1=z00 AT.cells x1/\(z53 i0<x5/\z2y i0)/\zr4 x4 x1 x2 x3 x0 i0)
 abbrev zr5:=GJ.s (z0f x6)=mkS [114,101,99,111,114,100]
 def zr1:=GJ.k x2=GJ.k x2/\GJ.n x2=GJ.n x2/\GJ.s x2=GJ.s x2/\(GJ.y x2).1=(GJ.y x2).1/\(GJ.y x2).2.1=(GJ.y x2).2.1/\(GJ.y x2).2.2=(GJ.y x2).2.2/\(GJ.x x2).1=(GJ.x x2).1/\(GJ.x x2).2.1=(GJ.x x2).2.1/\(GJ.x x2).2.2=(GJ.x x2).2.2/\x11
 def zqz:=GJ.k (z0f x6)=GJ.k (z0f x6)/\GJ.n (z0f x6)=GJ.n (z0f x6)/\GJ.s (z0f x6)=GJ.s (z0f x6)/\(GJ.y (z0f x6)).1=(GJ.y (z0f x6)).1/\(GJ.y (z0f x6)).2.1=(GJ.y (z0f x6)).2.1/\(GJ.y (z0f x6)).2.2=(GJ.y (z0f x6)).2.2/\(GJ.x (z0f x6)).1=(GJ.x (z0f x6)).1/\(GJ.x (z0f x6)).2.1=(GJ.x (z0f x6)).2.1/\(GJ.x (z0f x6)).2.2=(GJ.x (z0f x6)).2.2/\(∀i0,True/\GJ.ok x2 i0->True/\GJ.ok x2 i0)/\True/\True
 def zb9:=x3=x3/\GJ.s (z0f x6)=GJ.s (z0f x6)/\length x1=length x1/\x0=x0/\z00 AT.cells x1=z00 AT.cells x1/\zr1 x2 (zqz x2 x6)
 abbrev zr8:=GJ.s (z0f x6)=mkS [101,110,117,109]
 def zzl:=Ji (zr8 x6) (∃(i0:Unit),x0=x0/\nmB (GJ.s (tyJ x2))=decide (zr8 x6)/\zb9 x4 x1 x2 x3 x6) (∃(i1:Unit),x0=x0/\nmB (GJ.s (tyJ x2))=decide (GJ.s (z0f x6)=mkS [102,105,120,101,100])/\zb9 x4 x1 x2 x3 x6)
 abbrev zra:=slice (GJ.y x2).1 (GJ.y x2).2.1 (GJ.y x2).2.2
 abbrev zrb:=slice (GJ.x x2).1 (GJ.x x2).2.1 (GJ.x x2).2.2
 def zzi:=GJ.s (z0f x6)=GJ.s (z0f x6)/\True/\AV.agg [AV.sv (int i64 (GJ.k x2)),AV.sv (int i64 (GJ.n x2)),AV.sv (string (GJ.s x2)),AV.sv (zra x2),AV.sv (zrb x2)]=AV.agg [AV.sv (int i64 (GJ.k x2)),AV.sv (int i64 (GJ.n x2)),AV.sv (string (GJ.s x2)),AV.sv (zra x2),AV.sv (zrb x2)]/\∃(i0:NmS),GJ.k i0.2.2.1=GJ.k x2/\GJ.n i0.2.2.1=GJ.n x2/\GJ.s i0.2.2.1=GJ.s x2/\(GJ.y i0.2.2.1).1=(GJ.y x2).1/\(GJ.y i0.2.2.1).2.1=(GJ.y x2).2.1/\(GJ.y i0.2.2.1).2.2=(GJ.y x2).2.2/\(GJ.x i0.2.2.1).1=(GJ.x x2).1/\(GJ.x i0.2.2.1).2.1=(GJ.x x2).2.1/\(GJ.x i0.2.2.1).2.2=(GJ.x x2).2.2/\i0.2.2.2.1=z0a (GJ.s (z0f x6))/\i0.2.2.2.2.1=x3/\i0.2.2.2.2.2=x0/\length i0.1=length x1/\i0.2.1=x4/\z00 AT.cells i0.1=z00 AT.cells x1/\(zw5 i0<x5+1/\z2y (i0.1,i0.2.1,i0.2.2.1,i0.2.2.2.2.1,i0.2.2.2.2.2)/\i0.2.2.2.2.2<=20/\(i0.2.2.2.1=9\/i0.2.2.2.1=10\/i0.2.2.2.1=11))/\(∀i1,True/\GJ.ok x2 i1->GJ.ok i0.2.2.1 i1)/\∀(i2:TmB),z0d (i0.1,i0.2.1,i0.2.2.1,i0.2.2.2.2.1,i0.2.2.2.2.2) i2->(zf5 x2 i2)->∃(i5:TmB),i5.2.2=i2.2.2/\length (x1++i5.1)=length (i0.1++i2.1)/\i5.2.1=i2.2.1/\z00 AT.cells (x1++i5.1)=z00 AT.cells (i0.1++i2.1)/\zba x4 x1 x2 x3 x0 i5 i2
 abbrev zr7:=GJ.s (z0f x6)=mkS [97,114,114,97,121]
 abbrev zr9:=GJ.s (z0f x6)=mkS [109,97,112]
 def zr6:=length (adS x7.1 x7.2.2)=length (adS x7.1 x7.2.2)/\adE x7.1 x7.2.1=adE x7.1 x7.2.1/\zr1 x2 (z00 AT.cells (adS x7.1 x7.2.2)=z00 AT.cells (adS x7.1 x7.2.2)/\zqz x2 x6)
 def zzm:=(0<=adR x7.1/\adR x7.1<(↑(length (x9.1++x8.1)):Int))/\nat_lit 0+toNat (adR x7.1)*nat_lit 10+3+length [int i64 x8.2.2]<=length (z00 AT.cells (x9.1++x8.1))/\∃(i0:TmB),i0.2.2=adR x7.1/\length (x1++i0.1)=length (x9.1++x8.1)/\i0.2.1=x8.2.1/\z00 AT.cells (x1++i0.1)=spl (z00 AT.cells (x9.1++x8.1)) (nat_lit 0+toNat (adR x7.1)*nat_lit 10+3) [int i64 x8.2.2]/\zba x0 x1 x2 x3 x4 i0 x8
 def zzk:=Ji (x8.2.1=0) (zzm x0 x1 x2 x3 x4 x7 x8 x9) (∃(i4:TmB),i4.2.2=adR x7.1/\zrc x1 i4 x9 (zba x0 x1 x2 x3 x4 i4 x8) x8)
 def zzh:=zrd x0/\∃(i0:TmS),zr2 x0 x3 x6 i0 (length i0.1=length (adS x7.1 x7.2.2)/\i0.2.1=adE x7.1 x7.2.1/\z00 AT.cells i0.1=z00 AT.cells (adS x7.1 x7.2.2)/\(z53 i0<x5/\z2y i0)/\(∀i1,True/\GJ.ok x2 i1->GJ.ok i0.2.2.1 i1)/\∀(i2:TmB),z0d i0 i2->(zf5 x2 i2)->zzk x4 x1 x2 x3 x0 x7 i2 i0)
 def zzg:=GJ.s (z0f x6)=GJ.s (z0f x6)/\True/\∃(i0:List AT×Int×AT),AT.k i0.2.2=z0a (GJ.s (z0f x6))/\AT.nm i0.2.2=mkS []/\(AT.al i0.2.2).1=noA/\(AT.al i0.2.2).2.1=0/\(AT.al i0.2.2).2.2=0/\AT.it i0.2.2=0/\(AT.sy i0.2.2).1=noA/\(AT.sy i0.2.2).2.1=0/\(AT.sy i0.2.2).2.2=0/\AT.hd i0.2.2=false/\AT.df i0.2.2=mkS []/\AT.sz i0.2.2=0/\(AT.f i0.2.2).1=noA/\(AT.f i0.2.2).2.1=0/\(AT.f i0.2.2).2.2=0/\(AT.br i0.2.2).1=noA/\(AT.br i0.2.2).2.1=0/\(AT.br i0.2.2).2.2=0/\length i0.1=length x1/\i0.2.1=x0/\z00 AT.cells i0.1=z00 AT.cells x1/\True/\(Ji (zr9 x6) (∃(i1:Unit),x4=x4/\adR i0.1=adR i0.1/\x3=x3/\wdB (GJ.s (tyJ x2))=mkS [118,97,108,117,101,115]/\zr6 x2 x6 i0) (∃(i3:Unit),x4=x4/\adR i0.1=adR i0.1/\x3=x3/\wdB (GJ.s (tyJ x2))=mkS [105,116,101,109,115]/\zr6 x2 x6 i0))/\∀(i5:Unit),True->∃(i6:GJ×ByteArray),zr3 x2 i6 (i6.2=wdB (GJ.s (tyJ x2))/\GJ.wf i6.1/\(∀i7,True/\GJ.ok x2 i7->GJ.ok i6.1 i7)/\((!Option.isSome (z0b i6.2 i6.1))=true->∃(i8:List AT),(2:Int)=2/\length i8=length (adS i0.1 i0.2.2)/\adE i0.1 i0.2.1=adE i0.1 i0.2.1/\z00 AT.cells i8=z00 AT.cells (adS i0.1 i0.2.2)/\True/\∃(i9:TmB),i9.2.2=0/\length (x1++i9.1)=length i8/\i9.2.1=faE (adE i0.1 i0.2.1) 2/\z00 AT.cells (x1++i9.1)=z00 AT.cells i8/\zjs x0 x1 x2 x3 x4 i9)/\((!Option.isSome (z0b i6.2 i6.1))=false->zzh x4 x1 x2 x3 x0 x5 i6 i0))
 def jby:=(arB (GJ.s (tyJ x2))=true->zzg x0 x1 x2 x3 x4 x5 x6)/\(arB (GJ.s (tyJ x2))=false->∃(i25:List AT×Int×ByteArray×ByteArray),i25.2.2.1=GJ.s (z0f x6)/\zr0 x0 x1 x2 x3 x4 i25)
 def jbx:=(Ji (zr7 x6) (∃(i0:Unit),x0=x0/\arB (GJ.s (tyJ x2))=decide (zr7 x6)/\zb9 x4 x1 x2 x3 x6) (∃(i2:Unit),x0=x0/\arB (GJ.s (tyJ x2))=decide (zr9 x6)/\zb9 x4 x1 x2 x3 x6))/\∀(i4:Unit),True->jby x4 x1 x2 x3 x0 x5 x6
 def jbw:=(nmB (GJ.s (tyJ x2))=true->zzi x0 x1 x2 x3 x4 x5 x6)/\(nmB (GJ.s (tyJ x2))=false->jbx x0 x1 x2 x3 x4 x5 x6)
 def jbv:=(Ji (zr5 x6) (∃(i0:Unit),x0=x0/\nmB (GJ.s (tyJ x2))=decide (zr5 x6)/\zb9 x4 x1 x2 x3 x6) (zzl x0 x1 x2 x3 x4 x6))/\∀(i6:Unit),True->jbw x0 x1 x2 x3 x4 x5 x6
 def jbu:=((!decide (GJ.k (z0f x6)=4))=true->zzj x0 x1 x2 x3 x4 x5 x6)/\((!decide (GJ.k (z0f x6)=4))=false->jbv x0 x1 x2 x3 x4 x5 x6)
 def jbt:=Ji (GJ.k x2=6) (∃(i0:GJ×ByteArray),zr3 x2 i0 (i0.2=mkS [116,121,112,101]/\GJ.wf i0.1/\(∀i1,True/\GJ.ok x2 i1->GJ.ok i0.1 i1)/\((!Option.isSome (z0b i0.2 i0.1))=true->zjr x0 x1 x2 x3 x4 2)/\((!Option.isSome (z0b i0.2 i0.1))=false->jbu x4 x1 x2 x3 x0 x5 i0))) (zjr x0 x1 x2 x3 x4 2)
 def jbs:=Ji (GJ.k x2=5) (∃(i0:TmS),GJ.k i0.2.2.1=GJ.k x2/\GJ.n i0.2.2.1=GJ.n x2/\GJ.s i0.2.2.1=GJ.s x2/\(GJ.y i0.2.2.1).1=(GJ.y x2).1/\(GJ.y i0.2.2.1).2.1=(GJ.y x2).2.1/\(GJ.y i0.2.2.1).2.2=(GJ.y x2).2.2/\(GJ.x i0.2.2.1).1=(GJ.x x2).1/\(GJ.x i0.2.2.1).2.1=(GJ.x x2).2.1/\(GJ.x i0.2.2.1).2.2=(GJ.x x2).2.2/\i0.2.2.2.1=x3/\i0.2.2.2.2=x0/\length i0.1=length x1/\i0.2.1=x4/\z00 AT.cells i0.1=z00 AT.cells x1/\(z53 i0<x5+1/\z2y i0/\i0.2.2.2.2<=20)/\zr4 x4 x1 x2 x3 x0 i0) (jbt x4 x1 x2 x3 x0 x5)
 def jbr:=Ji (GJ.k x2=4) (∃(i0:List AT×Int×ByteArray×ByteArray),i0.2.2.1=GJ.s x2/\zr0 x0 x1 x2 x3 x4 i0) (jbs x4 x1 x2 x3 x0 x5)
 def jbq:=Ji (20<x0) (zjr x4 x1 x2 x3 x0 3) (jbr x4 x1 x2 x3 x0 x5)
 def jbp:=((!decide (x0=0))=true->∃(i0:TmB),i0.2.2=0/\length (x1++i0.1)=length x1/\i0.2.1=x0/\z00 AT.cells (x1++i0.1)=z00 AT.cells x1/\zjs x0 x1 x2 x3 x4 i0)/\((!decide (x0=0))=false->jbq x4 x1 x2 x3 x0 x5)
end
def ze7(n:Nat) (S:List AT) (e:Int) (g:GJ) (sp:ByteArray) (d:Int):qm3 P (qh2 [(69,zvz),(66,z4l),(68,zc5),(63,z1s)]) (qi5 [(32,z1t.below z53 n),(64,z8z),(65,z5g.below z53 (n+1)),(67,z5d.below zw5 (n+1))]) Go.Proofs.Tryz.f32 (z1t.below z53 (n+1)) (zn2) ⟨S,e,g,sp,d⟩=(z53 (S,e,g,sp,d)<n+1/\z2y (S,e,g,sp,d)->(∃(p:Pub),True/\GJ.ok g p)->jbp e S g sp d n):=by kernel_rfl
def zix:=λn S e g sp d=>Eq.trans (ze7 n S e g sp d) (by delta Ji Jb Jt Jf zjs zjr zzn zf5 zba zr0 zrc zr4 zr3 z0f zrd zr2 zzj zr5 zr1 zqz zb9 zr8 zzl zra zrb zzi zr7 zr9 zr6 zzm zzk zzh zzg jby jbx jbw jbv jbu jbt jbs jbr jbq jbp;exact rfl)
section
def z2x(P Q:List Value) (k:Nat) (v:Value):(P++Q).set (P.length+k) v=P++Q.set k v:=by
 induction P with
 |nil=>simp
 |cons a P ih=>rw[List.cons_append,List.length_cons,Nat.add_right_comm,List.set_cons_succ,ih];rfl
def zxr(A B:List AT) (k r:Int):z00 AT.cells (A++pmT k r::B)=spl (z00 AT.cells (A++pmT k 0::B)) (0+A.length*10+3) [.int .i64 r]:=by
 rw[z04,z04,z1b,z1b,Nat.zero_add,←z01 z1i A]
 show _=(z00 AT.cells A++((pmT k 0).cells++z00 AT.cells B)).set ((z00 AT.cells A).length+3) (.int .i64 r)
 rw[z2x]
 rfl
variable {s:ByteArray}
def zoz(h:nmB s=true):z0a s=9\/z0a s=10\/z0a s=11:=by
 unfold nmB at h
 simp only[Bool.or_eq_true,decide_eq_true_eq]at h
 rcases h with(h|h)|h<;>subst h
 ·exact .inl (by decide)
 ·exact .inr (.inl (by decide))
 ·exact .inr (.inr (by decide))
def zni(h:arB s=true):z0a s=12\/z0a s=13:=by
 unfold arB at h
 simp only[Bool.or_eq_true,decide_eq_true_eq]at h
 rcases h with h|h<;>subst h
 ·exact .inl (by decide)
 ·exact .inr (by decide)
def zbt(S:List AT) (t:AT) (h:S.length<=60):(S++adT S t).length<=60:=by
 unfold adT
 split
 ·rw[List.append_nil];exact h
 ·simp;omega
def zi6{n:Nat} {k r:Int} (h:k=12\/k=13) (r0:0<=r) (r1:r<n):z1v n (pmT k r):=by
 have hk:(pmT k r).k=k:=rfl
 have hi:(pmT k r).it=r:=rfl
 unfold z1v
 rw[hk,hi]
 exact⟨(by omega),λ_=>⟨r0,r1⟩,λb hb=>(by cases hb),λh=>(by omega),λf hf=>(by cases hf),λh=>(by omega),λh=>(by omega),Nat.zero_le _,Nat.zero_le _,Nat.zero_le _⟩
def ziy(n:Nat) (ht:q22 P 32 (z1t.below z53 n)) (hu:q22 P 65 (z5g.below z53 (n+1))) (hn:q22 P 67 (z5d.below zw5 (n+1))):q22 P 32 (z1t.below z53 (n+1)):=by
 refine qlb mixed (qee (qih z56 (qih z2k (qih zcz (qih z13 qlq))))) (qf7 (qig ht (qig zit (qig hu (qig hn qlp))))) (W:=zn2) Go.Proofs.Tryz.func32 (by kernel_rfl) (show 1<=4 by decide) (show 4<=6 by decide) (λs=>by kernel_rfl) λ⟨S,(e:Int),g,sp,(d:Int)⟩=>(zix n S e g sp d).mpr ?_
 rintro⟨hmu,⟨hS,hg,hd1,hd2,hsp⟩⟩ ⟨p,_,hp⟩
 have hmu:(25- d).toNat<n+1:=hmu
 simp only[sbS,exists_const,forall_const,Int.toNat_natCast,tyJ]
 have bad:∀k:Int,k≠0->z0d (S,e,g,sp,d) ([],k,0):=λk hk=>⟨⟨by rw[List.append_nil];exact hS,λh=>absurd h hk⟩,λh=>absurd h hk⟩
 have gsz:g.s.size<1000:=by rw[GJ.wf_eq]at hg;exact hg.1
 refine⟨λhe=>⟨⟨[],e,0⟩,rfl,by rw[List.append_nil],rfl,by rw[List.append_nil],bad e he,λq _ a ha=>(by cases ha)⟩,λhe=>⟨λh20=>⟨S,rfl,rfl,⟨[],faE e 3,0⟩,rfl,by rw[List.append_nil],rfl,by rw[List.append_nil],bad _ (z0i (by decide)),λq _ a ha=>(by cases ha)⟩,λh20=>⟨λh4=>⟨⟨S,e,g.s,sp⟩,rfl,rfl,rfl,rfl,rfl,⟨hS,by show g.s.size<_;omega,by show sp.size<_;omega⟩,λb hb _=>⟨b,rfl,rfl,rfl,rfl,hb,λq hq=>hq.2⟩⟩,λh4=>⟨λh5=>⟨⟨S,e,g,sp,d⟩,rfl,rfl,rfl,rfl,rfl,rfl,rfl,rfl,rfl,rfl,rfl,rfl,rfl,rfl,⟨hmu,⟨hS,hg,hd1,hd2,hsp⟩,by show d<=20;omega⟩,λq hq=>hq,λb hb _=>⟨b,rfl,rfl,rfl,rfl,hb,λq hq=>hq.2⟩⟩,λh5=>⟨λh6=> ?_,λh6=>⟨S,rfl,rfl,⟨[],faE e 2,0⟩,rfl,by rw[List.append_nil],rfl,by rw[List.append_nil],bad _ (z0i (by decide)),λq _ a ha=>(by cases ha)⟩⟩⟩⟩⟩⟩
 refine⟨⟨g,mkS [116,121,112,101]⟩,rfl,rfl,rfl,rfl,rfl,rfl,rfl,rfl,rfl,rfl,hg,λq hq=>hq,λhno=>⟨S,rfl,rfl,⟨[],faE e 2,0⟩,rfl,by rw[List.append_nil],rfl,by rw[List.append_nil],bad _ (z0i (by decide)),λq _ a ha=>(by cases ha)⟩,λhyes=> ?_⟩
 obtain⟨tw,tok⟩:=z16 (mkS [116,121,112,101]) hg
 simp only
 generalize (z0b (mkS [116,121,112,101]) g).getD zJ=t at*
 have tsz:t.s.size<1000:=by rw[GJ.wf_eq]at tw;exact tw.1
 refine⟨λhk=>⟨⟨by omega,by omega⟩,⟨S,e,t,sp,d+1⟩,rfl,rfl,rfl,rfl,rfl,rfl,rfl,rfl,rfl,rfl,rfl,rfl,rfl,rfl,⟨by show(25- (d+1)).toNat<n;omega,hS,tw,by omega,by omega,by omega⟩,λq hq=>tok q hq,λb hb _=>⟨b,rfl,rfl,rfl,rfl,hb,λq hq=>hq.2⟩⟩,λhk=>⟨⟨λh1=> ?_,λh1=>⟨λh2=> ?_,λh2=> ?_⟩⟩,λhN=> ?_,λhN=>⟨⟨λh1=> ?_,λh1=> ?_⟩,λhA=> ?_,λhA=> ?_⟩⟩⟩
 ·unfold nmB;rw[h1];rfl
 ·unfold nmB;rw[h2];rfl
 ·unfold nmB;rw[decide_eq_false h1,decide_eq_false h2,Bool.false_or,Bool.false_or]
 ·exact⟨⟨S,e,g,z0a t.s,sp,d⟩,rfl,rfl,rfl,rfl,rfl,rfl,rfl,rfl,rfl,rfl,rfl,rfl,rfl,rfl,rfl,⟨hmu,⟨hS,hg,hd1,hd2,hsp⟩,by show d<=20;omega,zoz hN⟩,λq hq=>hq,λb hb _=>⟨b,rfl,rfl,rfl,rfl,hb,λq hq=>hq.2⟩⟩
 ·unfold arB;rw[h1];rfl
 ·unfold arB;rw[decide_eq_false h1,Bool.false_or]
 ·have hkd:=zni hA
  have adl:=zbt S (pmT (z0a t.s) 0) hS
  have adok:∀q,∀a∈adT S (pmT (z0a t.s) 0),a.ok q:=λq a ha=>by
   unfold adT at ha
   split at ha
   ·cases ha
   ·simp at ha;subst ha;exact z9h _ _ _
  have bad2:∀k:Int,k≠0->z0d (S,e,g,sp,d) (adT S (pmT (z0a t.s) 0),k,0):=λk hk=>⟨⟨adl,λh=>absurd h hk⟩,λh=>absurd h hk⟩
  refine⟨⟨S,e,pmT (z0a t.s) 0⟩,rfl,rfl,rfl,rfl,rfl,rfl,rfl,rfl,rfl,rfl,rfl,rfl,rfl,rfl,rfl,rfl,rfl,rfl,rfl,rfl,rfl,⟨λhm=>by unfold wdB;rw[if_pos hm],λhm=>by unfold wdB;rw[if_neg hm]⟩,⟨g,wdB t.s⟩,rfl,rfl,rfl,rfl,rfl,rfl,rfl,rfl,rfl,rfl,hg,λq hq=>hq,λhno=>⟨adS S (pmT (z0a t.s) 0),rfl,rfl,⟨adT S (pmT (z0a t.s) 0),faE (adE S e) 2,0⟩,rfl,by rw[z0r],rfl,by rw[z0r],bad2 _ (z0i (by decide)),λq _=>adok q⟩,λhyes=> ?_⟩
  obtain⟨uw,uok⟩:=z16 (wdB t.s) hg
  refine⟨⟨by omega,by omega⟩,⟨adS S (pmT (z0a t.s) 0),adE S e,(z0b (wdB t.s) g).getD zJ,sp,d+1⟩,rfl,rfl,rfl,rfl,rfl,rfl,rfl,rfl,rfl,rfl,rfl,rfl,rfl,rfl,⟨by show(25- (d+1)).toNat<n;omega,by rw[z0r];exact adl,uw,by omega,by omega,by omega⟩,λq hq=>uok q hq,?_⟩
  rintro⟨U,e2,r⟩ ⟨⟨hU,hU2⟩,hr⟩ _
  simp only at hU hU2 hr⊢
  have ass:adS S (pmT (z0a t.s) 0)++U=S++(adT S (pmT (z0a t.s) 0)++U):=by rw[z0r,List.append_assoc]
  refine⟨λh0=> ?_,λh0=>⟨⟨adT S (pmT (z0a t.s) 0)++U,e2,adR S⟩,rfl,by rw[ass],rfl,by rw[ass],⟨⟨by rw[←ass];exact hU,λh=>absurd h h0⟩,λh=>absurd h h0⟩,λq hq a ha=>(List.mem_append.1 ha).elim (adok q a) (hq.2 a)⟩⟩
  obtain⟨ha0,hUg⟩:=hU2 h0
  obtain⟨r0,r1⟩:=hr h0
  have hl:S.length<60:=by
   by_cases hl:60<=S.length
   ·exact absurd ha0 (zbs hl)
   ·omega
  have e1:adE S e=e:=by unfold adE;rw[if_neg (by omega)]
  have e3:adT S (pmT (z0a t.s) 0)=[pmT (z0a t.s) 0]:=by unfold adT;rw[if_neg (by omega)]
  have er:adR S=S.length:=by unfold adR;rw[if_neg (by omega)]
  rw[ass,e3]at hU hUg r1
  rw[ass,e3,er,Int.toNat_natCast]
  have hlen:∀x,(S++([pmT (z0a t.s) x]++U)).length=S.length+U.length+1:=λx=>by simp;omega
  rw[hlen]at hU hUg r1
  refine⟨⟨by omega,by rw[hlen];omega⟩,by rw[z01 z1i,hlen];show 0+S.length*10+3+1<=_;omega,⟨pmT (z0a t.s) r::U,e2,S.length⟩,rfl,by show(S++([pmT (z0a t.s) r]++U)).length=_;rw[hlen,hlen],rfl,zxr S U _ r,⟨⟨by show(S++([pmT (z0a t.s) r]++U)).length<=60;rw[hlen];omega,λ_=>⟨by rw[←e1];exact ha0,λx hx=> ?_⟩⟩,λ_=>⟨by show 0<=(S.length:Int);omega,by show(S.length:Int)<((S++([pmT (z0a t.s) r]++U)).length:Int);rw[hlen];omega⟩⟩,λq hq x hx=> ?_⟩
  ·show z1v (S++([pmT (z0a t.s) r]++U)).length x
   rw[hlen]
   rcases List.mem_cons.1 hx with rfl|hx
   ·exact zi6 hkd r0 r1
   ·exact hUg x hx
  ·rcases List.mem_cons.1 hx with rfl|hx
   ·exact z9h _ _ _
   ·exact hq.2 x hx
 ·exact⟨⟨S,e,t.s,sp⟩,rfl,rfl,rfl,rfl,rfl,⟨hS,by show t.s.size<_;omega,by show sp.size<_;omega⟩,λb hb _=>⟨b,rfl,rfl,rfl,rfl,hb,λq hq=>hq.2⟩⟩
end
def jir:ByteArray:=mkS [115,121,109,98,111,108,115]
abbrev SyB:=Int×SV×List ByteArray×Bool×ByteArray
def zin(S:List AT) (at_:Int) (y:SV) (l:List ByteArray) (hd:Bool) (df:ByteArray):List AT:=match S[at_.toNat]? with
 |some a=>S.set at_.toNat {a with sy:=y,sys:=l,hd:=hd,df:=df}
 |none=>S
def zgp:CtR where
 σ:=List AT×Int×GJ×Int
 args:=λ⟨S,e,g,i⟩=>[.ptr 1 0,g.av, .sv (.int .i64 i)]
 h:=λ⟨S,e,g,i⟩=>mkO S e 2 3
 m:=4
 pre:=λ⟨S,e,g,i⟩=>S.length<=60/\g.wf/\0<=i/\(e=0->i<S.length)
 mem:=λ⟨S,e,g,i⟩=>gM g
 β:=λ_=>SyB
 post:=λ⟨S,e,g,i⟩ ⟨e',y,l,hd,df⟩=>e'=0->e=0/\l≠[]/\l.length<=30
 pm:=λ_ ⟨e',y,l,hd,df⟩=>⟨true,slP txV y l,λ_ _ h e=>z0e h e⟩
 r:=λ_ _=> .tup []
 h':=λ⟨S,e,g,i⟩ ⟨e',y,l,hd,df⟩=>mkO (if e'=0 then zin S i y l hd df else S) e' 4 5
 m':=6
def slE(h:T AO):Option Int:=mkE h 1
def smL(g:GJ) (e:Int):List ByteArray:=(z1u g jir e).1
def zyb:zgp.σ->WayF:=λ⟨S,e,g,i⟩=>{
  cut:=λr _ _=>match r with
    |4=>some {σ:=Int,pre:=λe'=>e'=0->e=0,find:=some λ_ h=>slE h,t:=λ_=>[],h:=λe'=>[mkC S e' 2 3],more:=0,μ:=λ_=>0,keep:=[0,2,4,6,7]}
    |6=>some {σ:=Int,pre:=λe'=>e'=0->e=0/\smL g e≠[],find:=some λ_ h=>slE h,t:=λ_=>[],h:=λe'=>[mkC S e' 2 3],more:=0,μ:=λ_=>0,keep:=[0,2,4,6,7]}
    |8=>some {σ:=Int,pre:=λe'=>e'=0->e=0/\smL g e≠[]/\(smL g e).length<=30,find:=some λ_ h=>slE h,t:=λ_=>[],h:=λe'=>[mkC S e' 2 3],more:=0,μ:=λ_=>0,keep:=[0,2,4,6,7]}
    |13=>some {σ:=Int,pre:=λe'=>e'=0->e=0/\smL g e≠[]/\(smL g e).length<=30,find:=some λ_ h=>slE h,t:=λ_=>[],h:=λe'=>[mkC S e' 2 3],more:=0,μ:=λ_=>0,keep:=[0,2,4,6,7,8]}
    |27=>some {σ:=Int,pre:=λe'=>e'=0->e=0/\smL g e≠[]/\(smL g e).length<=30,find:=some λ_ h=>slE h,t:=λ_=>[],h:=λe'=>[mkC S e' 2 3],more:=0,μ:=λ_=>0,keep:=[0,2,4,6,7,11,12]}
    |_=>none
  ann :=λid t _=>match id with
    |0=>some {σ:=Nat×Int,pre:=λ⟨j,e'⟩=>j<=(smL g e).length/\(e'=0->e=0/\smL g e≠[]/\(smL g e).length<=30),t:=λ⟨j,e'⟩=>[(8, .sv (.int .i64 (j:Int)))],h:=λ⟨j,e'⟩=>[mkC S e' 2 3],more:=0,μ:=λ⟨j,e'⟩=>(smL g e).length- j,keep:=[0,2,4,6,7]}
    | 2=>match slI t 8 with
      |some i=>some {σ:=Nat×Int,pre:=λ⟨k,e'⟩=>(k:Int)<=i/\(e'=0->e=0/\smL g e≠[]/\(smL g e).length<=30),t:=λ⟨k,e'⟩=>[(9, .sv (.int .i64 (k:Int)))],h:=λ⟨k,e'⟩=>[mkC S e' 2 3],more:=0,μ:=λ⟨k,e'⟩=>(i- k).toNat,keep:=[0,2,4,6,7,8]}
      |none=>none
    |_=>some {σ:=Nat×Bool,pre:=λ⟨k,b⟩=>k<=(smL g e).length,t:=λ⟨k,b⟩=>[(13, .sv (.bool b)),(14, .sv (.int .i64 (k:Int)))],h:=λ_=>[],more:=0,μ:=λ⟨k,b⟩=>(smL g e).length- k,keep:=[0,2,4,6,7,11,12]}}
section
variable (x0:List AT×Int×GJ×ByteArray) (x1:Int) (x2:Option Addr) (x3 x4:Nat) (x5:List AT) (x6:GJ) (x7 x8:Int) (x9:Nat×Int) (x10:Nat×Bool) (x11:GJ×ByteArray) (x12:List AT×Int×GJ×ByteArray×Bool) (x13:Prop) (x14:Nat×Int) (x15:Nat->Option Obj) (x16:Nat×Bool) (x17:SyB) (x18:List AT) (x19:ByteArray) (x20:Nat×Int)
 abbrev zbc:=z00 AT.cells x0.1=z00 AT.cells x5
 def z4q:=(True/\GJ.ok x6 x15)/\slP txV (x2,x3,x4) (z1u x0.2.2.1 x0.2.2.2 x0.2.1).1 x15
 abbrev z30:=(z1u x0.2.2.1 x0.2.2.2 x0.2.1).2
 def zf8:=z00 AT.cells x5=z00 AT.cells x0.1/\True/\x13
 def z2s:=(z30 x0).1=(z30 x0).1
 def z5z:=length x5=length x18
 def z6e:=GJ.k x6=GJ.k x6/\GJ.n x6=GJ.n x6/\GJ.s x6=GJ.s x6/\(GJ.y x6).1=(GJ.y x6).1/\(GJ.y x6).2.1=(GJ.y x6).2.1/\(GJ.y x6).2.2=(GJ.y x6).2.2/\(GJ.x x6).1=(GJ.x x6).1/\(GJ.x x6).2.1=(GJ.x x6).2.1/\(GJ.x x6).2.2=(GJ.x x6).2.2/\(∀i0,z4q x0 x2 x3 x4 x6 i0->z4q x0 x2 x3 x4 x6 i0)/\x13
 def z5y:=z00 AT.cells x0.1=z00 AT.cells x0.1
 def zzz:=z2s x0/\x1=x1/\x2=x2/\x3=x3/\x4=x4/\length x5=length x0.1/\(z30 x0).2=(z30 x0).2/\z5y x0/\z6e x0 x2 x3 x4 x6 (((z30 x0).2=0->x7=0)/\True)
 def zri:=x8=x8/\z5z x5 x18/\x1=x1/\zf8 x0 x5 (z2s x0/\x7=x7/\x2=x2/\x3=x3/\x4=x4/\z5z x18 x5/\faE x1 x8=faE x1 x8/\zbc x0 x5/\x13)
 def zjy:=x1=0/\smL x6 x1≠[]
 def z6z:=x2=x2/\x3=x3/\x4=x4/\length x5=length x5/\x13
 def z3i:=x1=0/\smL x6 x1≠[]/\length (smL x6 x1)<=30
 def zjx:=x9.1<=length (smL x6 x1)/\(x9.2=0->z3i x1 x6)
 def zjz:=(0<=(↑x9.1:Int)/\(↑x9.1:Int)<(↑x3:Int))/\x2≠noA/\x13
 def zjv:=(∀i0,z4q x0 x2 x3 x4 x6 i0->q3p i0 (adr x2 (toNat (↑x9.1:Int)*1)) [string x19])
 def zbd:=x1=x1/\(↑x9.1:Int)=(↑x9.1:Int)/\x13
 def zju:=(↑x9.1:Int)<=(↑x14.1:Int)/\(x9.2=0->z3i x1 x6)
 abbrev zjt:=Jb ((↑x9.1:Int)+1)
 def zrl:=(zju x1 x6 x9 x14)/\toNat ((↑x14.1:Int)- (↑x9.1:Int))<toNat ((↑x14.1:Int)- (↑x20.1:Int))/\True
 def zzx:=zjt x9/\∃(i0:Nat×Int),z2s x0/\(↑i0.1:Int)=(↑x9.1:Int)+1/\zbd x1 x14 (z6z x2 x3 x4 x5 (i0.2=x9.2/\z5y x0/\z6e x0 x2 x3 x4 x6 (zrl x7 x6 i0 x14 x9)))
 def zzr:=zjz x2 x3 x9 (∃i0,zjv x0 x2 x3 x4 x6 x9 i0/\zjz x2 x3 x14 (∃i2,zjv x0 x2 x3 x4 x6 x14 i2/\Ji (i0=i2) (∃(i4:List AT),(5:Int)=5/\z5z i4 x5/\x9.2=x9.2/\zf8 x0 i4 (zjt x9/\∃(i5:Nat×Int),z2s x0/\(↑i5.1:Int)=(↑x9.1:Int)+1/\zbd x1 x14 (x2=x2/\x3=x3/\x4=x4/\z5z x5 i4/\i5.2=faE x9.2 5/\zbc x0 i4/\z6e x0 x2 x3 x4 x6 (zrl x7 x6 i5 x14 x9)))) (zzx x0 x1 x2 x3 x4 x5 x6 x7 x9 x14)))
 def zzy:=zjt x9/\∃(i0:Nat×Int),z2s x0/\x1=x1/\(↑i0.1:Int)=(↑x9.1:Int)+1/\z6z x2 x3 x4 x5 (i0.2=x14.2/\z5y x0/\z6e x0 x2 x3 x4 x6 ((zjx x7 x6 i0)/\length (smL x6 x7)- i0.1<length (smL x6 x7)- x9.1/\True))
 def zzp:=Ji ((↑x9.1:Int)<(↑x14.1:Int)) (zzr x0 x1 x2 x3 x4 x5 x6 x7 x9 x14) (zzy x0 x1 x2 x3 x4 x5 x6 x7 x14 x9)
 def zzo:=(∃(i0:Nat×Int),z2s x0/\(↑i0.1:Int)=0/\zbd x1 x9 (z6z x2 x3 x4 x5 (i0.2=x7/\z5y x0/\z6e x0 x2 x3 x4 x6 ((zju x8 x6 i0 x9)/\True))))/\∀(i1:Nat×Int),zju x8 x6 i1 x9->zzp x0 x1 x2 x3 x4 x5 x6 x8 i1 x9
 def jc6:=(zjz x2 x3 x9 (∃i0,zjv x0 x2 x3 x4 x6 x9 i0/\i0=i0/\size i0<1000000/\((!z2c i0)=true->∃(i2:List AT),(6:Int)=6/\z5z i2 x5/\x9.2=x9.2/\zf8 x0 i2 (z2s x0/\zbd x1 x9 (x2=x2/\x3=x3/\x4=x4/\z5z x5 i2/\faE x9.2 (6:Int)=faE x9.2 6/\zbc x0 i2/\z6e x0 x2 x3 x4 x6 ((faE x9.2 (6:Int)=0->z3i x7 x6)/\True))))/\((!z2c i0)=false->z2s x0/\zbd x1 x9 (z6z x2 x3 x4 x5 (x9.2=x9.2/\z5y x0/\z6e x0 x2 x3 x4 x6 ((x9.2=0->z3i x7 x6)/\True))))))/\∀(i3:Int),(i3=0->z3i x7 x6)->zzo x0 x1 x2 x3 x4 x5 x6 i3 x7 x9
 def zbb:=z2s x0/\Option.isSome (z0b x11.2 x11.1)=Option.isSome (z0b x11.2 x11.1)/\x13
 abbrev z2t:=woR x12.2.2.1 x12.2.2.2.1 x12.2.2.2.2 x12.2.1
 def zf7:=(z2t x12).1=(z2t x12).1/\x2=x2/\x3=x3/\x4=x4/\x13
 def zjw:=(z2t x12).2=(z2t x12).2/\z00 AT.cells x12.1=z00 AT.cells x12.1/\x13
 abbrev zrk:=Jb ((↑x10.1:Int)+1)
 def zrg:=zf7 x2 x3 x4 x12 ((↑x10.1:Int)=(↑x16.1:Int)+1/\length x12.1=length x12.1/\zjw x12 (z6e x0 x2 x3 x4 x6 (x10.1<=length (smL x6 x1)/\length (smL x6 x1)- x10.1<length (smL x6 x1)- x16.1/\True)))
 def zzw:=zrk x10/\∃(i0:Nat×Bool),zbb x0 x11 (i0.2=true/\x1=x1/\zrg x0 x7 x2 x3 x4 x6 i0 x12 x10)
 def zzu:=(0<=(↑x10.1:Int)/\(↑x10.1:Int)<(↑x3:Int))/\x2≠noA/\∃i0,(∀i1,z4q x0 x2 x3 x4 x6 i1->q3p i1 (adr x2 (toNat (↑x10.1:Int)*1)) [string i0])/\zrk x10/\∃(i2:Nat×Bool),zbb x0 x11 (i2.2=decide (i0=(z2t x12).1)/\x1=x1/\zrg x0 x7 x2 x3 x4 x6 i2 x12 x10)
 def zzs:=(x10.2=true->zzw x0 x1 x2 x3 x4 x6 x7 x10 x11 x12)/\(x10.2=false->zzu x0 x1 x2 x3 x4 x6 x7 x10 x11 x12)
 def zrf:=zbb x0 x11 (x1=x1/\zf7 x2 x3 x4 x12 (length x5=length x12.1/\zjw x12 (z6e x0 x2 x3 x4 x6 (((z2t x12).2=0->z3i x7 x6)/\True))))
 def zzv:=((!x10.2)=true->∃(i0:List AT),(6:Int)=6/\length i0=length x12.1/\(z2t x12).2=(z2t x12).2/\z00 AT.cells i0=z00 AT.cells x12.1/\True/\zbb x0 x11 (x1=x1/\zf7 x2 x3 x4 x12 (z5z x5 i0/\faE (z2t x12).2 (6:Int)=faE (z2t x12).2 6/\z00 AT.cells x12.1=z00 AT.cells i0/\z6e x0 x2 x3 x4 x6 ((faE (z2t x12).2 (6:Int)=0->z3i x7 x6)/\True))))/\((!x10.2)=false->zrf x0 x1 x2 x3 x4 x5 x6 x7 x11 x12)
 abbrev zrj:=spl (spl (z00 AT.cells x12.1) (nat_lit 0+toNat x1*nat_lit 10+4) [slice x2 x3 x4]) (nat_lit 0+toNat x1*nat_lit 10+5) [bool (Option.isSome (z0b x11.2 x11.1))]
 abbrev zf6:=if x17.1=0 then zin x5 x1 x17.2.1 x17.2.2.1 x17.2.2.2.1 x17.2.2.2.2 else x5
 def zrh:=x1=0/\x17.2.2.1≠[]/\length x17.2.2.1<=30
 def zzt:=(0<=x1/\x1<(↑(length x5):Int))/\nat_lit 0+toNat x1*nat_lit 10+4+length [slice x2 x3 x4]<=length (z00 AT.cells x12.1)/\(0<=x1/\x1<(↑(length x5):Int))/\nat_lit 0+toNat x1*nat_lit 10+5+length [bool (Option.isSome (z0b x11.2 x11.1))]<=length (spl (z00 AT.cells x12.1) (nat_lit 0+toNat x1*nat_lit 10+4) [slice x2 x3 x4])/\(0<=x1/\x1<(↑(length x5):Int))/\nat_lit 0+toNat x1*nat_lit 10+6+length [string (z2t x12).1]<=length (zrj x1 x2 x3 x4 x11 x12)/\∃(i0:SyB),length (zf6 x1 x5 i0)=length x5/\i0.1=x7/\z00 AT.cells (zf6 x1 x5 i0)=spl (zrj x1 x2 x3 x4 x11 x12) (nat_lit 0+toNat x1*nat_lit 10+6) [string (z2t x12).1]/\(i0.1=0->zrh x8 i0)/\(∀i1,z4q x0 x2 x3 x4 x6 i1->slP txV i0.2.1 i0.2.2.1 i1)/\True
 def zzq:=Ji (x1=0) (zzt x0 x7 x2 x3 x4 x5 x6 x1 x8 x11 x12) (∃(i2:SyB),length (zf6 x7 x5 i2)=length x5/\i2.1=x1/\z00 AT.cells (zf6 x7 x5 i2)=z00 AT.cells x12.1/\(i2.1=0->zrh x8 i2)/\(∀i3,z4q x0 x2 x3 x4 x6 i3->slP txV i2.2.1 i2.2.2.1 i3)/\True)
 def jc7:=((Option.isSome (z0b x11.2 x11.1)=true->zzv x0 x1 x2 x3 x4 x5 x6 x7 x10 x11 x12)/\(Option.isSome (z0b x11.2 x11.1)=false->zrf x0 x1 x2 x3 x4 x5 x6 x7 x11 x12))/\∀(i1:Int),(i1=0->z3i x7 x6)->zzq x0 i1 x2 x3 x4 x5 x6 x1 x7 x11 x12
 def jc4:=Ji ((↑x10.1:Int)<(↑x3:Int)) (zzs x0 x1 x2 x3 x4 x6 x7 x10 x11 x12) (jc7 x0 x1 x2 x3 x4 x5 x6 x7 x10 x11 x12)
 def zre:=∃(i0:GJ×ByteArray),GJ.k i0.1=GJ.k x6/\GJ.n i0.1=GJ.n x6/\GJ.s i0.1=GJ.s x6/\(GJ.y i0.1).1=(GJ.y x6).1/\(GJ.y i0.1).2.1=(GJ.y x6).2.1/\(GJ.y i0.1).2.2=(GJ.y x6).2.2/\(GJ.x i0.1).1=(GJ.x x6).1/\(GJ.x i0.1).2.1=(GJ.x x6).2.1/\(GJ.x i0.1).2.2=(GJ.x x6).2.2/\i0.2=mkS [100,101,102,97,117,108,116]/\GJ.wf i0.1/\(∀i1,z4q x0 x2 x3 x4 x6 i1->GJ.ok i0.1 i1)/\∃(i2:List AT×Int×GJ×ByteArray×Bool),GJ.k i2.2.2.1=GJ.k x6/\GJ.n i2.2.2.1=GJ.n x6/\GJ.s i2.2.2.1=GJ.s x6/\(GJ.y i2.2.2.1).1=(GJ.y x6).1/\(GJ.y i2.2.2.1).2.1=(GJ.y x6).2.1/\(GJ.y i2.2.2.1).2.2=(GJ.y x6).2.2/\(GJ.x i2.2.2.1).1=(GJ.x x6).1/\(GJ.x i2.2.2.1).2.1=(GJ.x x6).2.1/\(GJ.x i2.2.2.1).2.2=(GJ.x x6).2.2/\i2.2.2.2.1=mkS [100,101,102,97,117,108,116]/\i2.2.2.2.2=false/\length i2.1=length x5/\i2.2.1=x9.2/\z00 AT.cells i2.1=z00 AT.cells x0.1/\GJ.wf i2.2.2.1/\(∀i3,z4q x0 x2 x3 x4 x6 i3->GJ.ok i2.2.2.1 i3)/\(∃(i4:Nat×Bool),zbb x0 i0 (i4.2=false/\x1=x1/\zf7 x2 x3 x4 i2 ((↑i4.1:Int)=0/\length i2.1=length i2.1/\zjw i2 (z6e x0 x2 x3 x4 x6 (i4.1<=length (smL x6 x7)/\True)))))/\∀(i5:Nat×Bool),i5.1<=length (smL x6 x7)->jc4 x0 x1 x2 x3 x4 x5 x6 x7 i5 i0 i2
 def jc5:=Ji (x9.2=0) (jc6 x0 x1 x2 x3 x4 x5 x6 x7 x9) (zre x0 x1 x2 x3 x4 x5 x6 x7 x9)
 def jc3:=Ji ((↑x9.1:Int)<(↑x3:Int)) (jc5 x0 x1 x2 x3 x4 x5 x6 x7 x9) (zre x0 x1 x2 x3 x4 x5 x6 x7 x9)
 def jc2:=(∃(i0:Nat×Int),z2s x0/\x1=x1/\(↑i0.1:Int)=0/\z6z x2 x3 x4 x5 (i0.2=x7/\z5y x0/\z6e x0 x2 x3 x4 x6 ((zjx x8 x6 i0)/\True)))/\∀(i2:Nat×Int),zjx x8 x6 i2->jc3 x0 x1 x2 x3 x4 x5 x6 x8 i2
 def jc1:=(Ji (30<(↑x3:Int)) (∃(i0:List AT),zri x0 x1 x2 x3 x4 i0 x7 3 (z6e x0 x2 x3 x4 x6 ((faE x1 (3:Int)=0->z3i x8 x6)/\True)) x5) (z2s x0/\x7=x7/\z6z x2 x3 x4 x5 (x1=x1/\z5y x0/\z6e x0 x2 x3 x4 x6 ((x1=0->z3i x8 x6)/\True))))/\∀(i3:Int),(i3=0->z3i x8 x6)->jc2 x0 x7 x2 x3 x4 x5 x6 i3 x8
 def jc0:=(Ji ((↑x3:Int)=0) (∃(i0:List AT),zri x0 x1 x2 x3 x4 i0 x7 6 (z6e x0 x2 x3 x4 x6 ((faE x1 (6:Int)=0->zjy x8 x6)/\True)) x5) (z2s x0/\x7=x7/\z6z x2 x3 x4 x5 (x1=x1/\z5y x0/\z6e x0 x2 x3 x4 x6 ((x1=0->zjy x8 x6)/\True))))/\∀(i3:Int),(i3=0->zjy x8 x6)->jc1 x0 i3 x2 x3 x4 x5 x6 x7 x8
 def jbz:=(((!(z30 x0).1)=true->∃(i0:List AT),(2:Int)=2/\length i0=length x0.1/\(z30 x0).2=(z30 x0).2/\zf8 x0 i0 (z2s x0/\x1=x1/\x2=x2/\x3=x3/\x4=x4/\z5z x5 i0/\faE (z30 x0).2 (2:Int)=faE (z30 x0).2 2/\zbc x0 i0/\z6e x0 x2 x3 x4 x6 ((faE (z30 x0).2 (2:Int)=0->x7=0)/\True)))/\((!(z30 x0).1)=false->zzz x0 x1 x2 x3 x4 x5 x6 x7))/\∀(i3:Int),(i3=0->x7=0)->jc0 x0 i3 x2 x3 x4 x5 x6 x1 x7
end
def zim(S:List AT) (e:Int) (g:GJ) (i:Int):qm3 P (qh2 [(103,z4z),(66,z4l),(100,z6i),(124,zac),(63,z1s)]) (qi5 []) Go.Proofs.Tryz.f105 zgp (zyb) ⟨S,e,g,i⟩=(length S<=60/\GJ.wf g/\0<=i/\(e=0->i<(↑(length S):Int))->(∃(p:Pub),True/\GJ.ok g p)->∃(s:List AT×Int×GJ×ByteArray),GJ.k s.2.2.1=GJ.k g/\GJ.n s.2.2.1=GJ.n g/\GJ.s s.2.2.1=GJ.s g/\(GJ.y s.2.2.1).1=(GJ.y g).1/\(GJ.y s.2.2.1).2.1=(GJ.y g).2.1/\(GJ.y s.2.2.1).2.2=(GJ.y g).2.2/\(GJ.x s.2.2.1).1=(GJ.x g).1/\(GJ.x s.2.2.1).2.1=(GJ.x g).2.1/\(GJ.x s.2.2.1).2.2=(GJ.x g).2.2/\s.2.2.2=mkS [115,121,109,98,111,108,115]/\length s.1=length S/\s.2.1=e/\zbc s S/\GJ.wf s.2.2.1/\(∀(p:Pub),True/\GJ.ok g p->GJ.ok s.2.2.1 p)/\∀(b:Unit),True->∀(a:Option Addr) (n c:Nat),(∃(p:Pub),z4q s a n c g p)->jbz s i a n c S g e):=by kernel_rfl
def zps:=λS e g i=>Eq.trans (zim S e g i) (by delta Ji Jb Jt Jf zbc z4q z30 zf8 z2s z5z z6e z5y zzz zri zjy z6z z3i zjx zjz zjv zbd zju zjt zrl zzx zzr zzy zzp zzo jc6 zbb z2t zf7 zjw zrk zrg zzw zzu zzs zrf zzv zrj zf6 zrh zzt zzq jc7 jc4 zre jc5 jc3 jc2 jc1 jc0 jbz;exact rfl)
section
def z9v:∀{l:List GJ} {e:Int} {acc:List ByteArray},GJ.wfs l->(∀x∈acc,x.size<1000)->∀x∈(z3c l e acc).1,x.size<1000
  | [],e,acc,_,ha=>by rw[z3c];exact ha
  | g ::l,e,acc,hw,ha=>by
    rw[GJ.wfs]at hw
    rw[z3c]
    split
    · refine z9v hw.2 λx hx=> ?_
      rcases List.mem_append.1 hx with hx|hx
      · exact ha x hx
      · simp at hx;subst hx;have:=hw.1;rw[GJ.wf_eq]at this;exact this.1
    · exact ha
def zxy:∀{l:List GJ} {e:Int} {acc:List ByteArray},(z3c l e acc).2=0->e=0
  | [],e,acc,h=>by rw[z3c]at h;exact h
  | g::l,e,acc,h=>by
    rw[z3c]at h
    split at h
    · assumption
    · exact h
def z2v{e k:Int} (hk:k≠0):faE e k=0->False:=λh=>z0i hk h
variable {g:GJ} {s:ByteArray} {e:Int}
def z5t(hg:g.wf):∀x∈(z1u g s e).1,x.size<1000:=by
 unfold z1u
 split
 ·have:=(z16 s hg).1
  rw[GJ.wf_eq]at this
  exact z9v this.2.2.2.2.2.2 λx hx=>(by cases hx)
 ·intro x hx;cases hx
def z9u:∀{l:List GJ} {e:Int} {acc:List ByteArray},(z3c l e acc).1.length<=acc.length+l.length
  | [],e,acc=>by rw[z3c];exact Nat.le_refl _
  | g ::l,e,acc=>by
    rw[z3c]
    split
    · refine Nat.le_trans z9u ?_
      simp;omega
    · simp
def z5s(hg:g.wf):(z1u g s e).1.length<1000:=by
 unfold z1u
 split
 ·have:=(z16 s hg).1
  rw[GJ.wf_eq]at this
  refine Nat.lt_of_le_of_lt z9u ?_
  simp;exact this.2.1
 ·exact Nat.zero_lt_succ _
def ze9:(z1u g s e).2.2=0->e=0:=by
 unfold z1u
 split
 ·intro h
  have:=zxy h
  unfold tyE at this
  split at this
  ·exact this
  ·exact absurd this (z0i (by decide))
 ·exactλh=>h
def zq4{b:Bool}:(woR g s b e).2=0->e=0:=by
 unfold woR
 split
 ·split
  ·exactλh=>absurd h (z0i (by decide))
  ·exactλh=>h
 ·split
  ·exactλh=>h
  ·exactλh=>absurd h (z0i (by decide))
def z5l(S:List AT) (k:Nat) (hk:k<S.length) (x:AT):z00 AT.cells (S.set k x)=z00 AT.cells (S.take k)++(x.cells++z00 AT.cells (S.drop (k+1))):=by
 rw[List.set_eq_take_append_cons_drop,if_pos hk,z04,z1b]
def z6q(S:List AT) (k:Nat) (hk:k<S.length):z00 AT.cells S=z00 AT.cells (S.take k)++((S[k]).cells++z00 AT.cells (S.drop (k+1))):=by
 rw[←z5l S k hk,List.set_getElem_self]
def z6t(S:List AT) (k:Nat) (hk:k<S.length):(z00 AT.cells (S.take k)).length=k*10:=by
 rw[z01 z1i,List.length_take];congr 1;omega
def zio(S:List AT) (k:Nat) (hk:k<S.length) (y:SV) (l:List ByteArray) (hd:Bool) (df:ByteArray):z00 AT.cells (S.set k {S[k]with sy:=y,sys:=l,hd:=hd,df:=df})=spl (spl (spl (z00 AT.cells S) (0+k*10+4) [svV y]) (0+k*10+5) [.bool hd]) (0+k*10+6) [.string df]:=by
 rw[z5l S k hk]
 conv=>rhs;rw[z6q S k hk]
 rw[Nat.zero_add,←z6t S k hk]
 generalize z00 AT.cells (S.take k)=A
 generalize z00 AT.cells (S.drop (k+1))=B
 show _=(((A++((S[k]).cells++B)).set (A.length+4) (svV y)).set (A.length+5) (.bool hd)).set (A.length+6) (.string df)
 rw[z2x,z2x,z2x]
 rfl
def zpt:q22 P 105 zgp:=by
 refine qlb mixed (qee (qih z5r (qih z2k (qih z5u (qih z7s (qih z13 qlq)))))) (qf7 qlp) (W:=zyb) Go.Proofs.Tryz.func105 (by kernel_rfl) (by decide) (by decide) (λs=>by kernel_rfl) λ⟨S,(e:Int),g,(i:Int)⟩=>(zps S e g i).mpr ?_
 rintro⟨hS,hg,hi0,hi1⟩ ⟨p,_,hp⟩
 simp only[sbS,exists_const,forall_const,Int.toNat_natCast]
 refine⟨⟨S,e,g,mkS [115,121,109,98,111,108,115]⟩,rfl,rfl,rfl,rfl,rfl,rfl,rfl,rfl,rfl,rfl,rfl,rfl,rfl,hg,λq hq=>hq,?_⟩
 have hL:(z1u g (mkS [115,121,109,98,111,108,115]) e).1=smL g e:=rfl
 have hsz:∀x∈smL g e,x.size<1000:=z5t hg
 have hLl:(smL g e).length<1000:=z5s hg
 have hE:(z1u g (mkS [115,121,109,98,111,108,115]) e).2.2=0->e=0:=ze9
 simp only[hL]
 generalize z1u g (mkS [115,121,109,98,111,108,115]) e=F at*
 generalize smL g e=L at*
 clear hL
 rintro a n c ⟨p1,hp1,hl1⟩
 have hn:n=L.length:=hl1.1
 subst hn
 have hat:=λ(j:Nat) (hj:j<L.length) (q:Pub) (hq:slP txV (a,L.length,c) L q)=>(show a≠noA/\q3p q (adr a (j*1)) [.string L[j]]from z0z z0t (by decide) hq hj)
 refine⟨⟨λ_=>⟨S,rfl,rfl,rfl,rfl,λh=>(z2v (by decide) h).elim⟩,λ_=>⟨trivial,hE⟩⟩,?_⟩
 intro e1 h1
 refine⟨⟨λ_=>⟨S,rfl,rfl,rfl,rfl,λh=>(z2v (by decide) h).elim⟩,λhz h=>⟨h1 h,λhh=>hz (by rw[hh];rfl)⟩⟩,?_⟩
 intro e2 h2
 refine⟨⟨λ_=>⟨S,rfl,rfl,rfl,rfl,λh=>(z2v (by decide) h).elim⟩,λhz h=>⟨(h2 h).1,(h2 h).2,by omega⟩⟩,?_⟩
 intro e3 h3
 refine⟨⟨⟨0,e3⟩,rfl,rfl,Nat.zero_le _,h3⟩,?_⟩
 rintro⟨j,e4⟩ ⟨hj,h4⟩
 simp only at*
 refine⟨λhlt=>⟨λh0=>⟨⟨by omega,(hat j (by omega) p1 hl1).1,L[j]'(by omega),λq hq=>(hat j (by omega) q hq.2).2,by have:=hsz _ (List.getElem_mem (show j<L.length by omega));omega,λ_=>⟨S,rfl,rfl,rfl,rfl,λh=>(z2v (by decide) h).elim⟩,λ_=>h4⟩,?_⟩,λh0=> ?xa⟩,λhge=> ?xb⟩
 ·intro e5 h5
  refine⟨⟨⟨0,e5⟩,rfl,rfl,by show(0:Int)<=_;omega,h5⟩,?_⟩
  rintro⟨k,e6⟩ ⟨hk,h6⟩
  simp only at*
  refine⟨λhkj=>⟨⟨by omega,by omega⟩,(hat k (by omega) p1 hl1).1,L[k]'(by omega),λq hq=>(hat k (by omega) q hq.2).2,⟨by omega,by omega⟩,(hat j (by omega) p1 hl1).1,L[j]'(by omega),λq hq=>(hat j (by omega) q hq.2).2,λ_=>⟨S,rfl,rfl,⟨by omega,by omega⟩,⟨k+1,faE e6 5⟩,by show((k+1:Nat):Int)=_;omega,rfl,rfl,rfl,⟨by show((k+1:Nat):Int)<=_;omega,λh=>(z2v (by decide) h).elim⟩,by show((j:Int)- ((k+1:Nat):Int)).toNat<_;omega⟩,λ_=>⟨⟨by omega,by omega⟩,⟨k+1,e6⟩,by show((k+1:Nat):Int)=_;omega,rfl,⟨by show((k+1:Nat):Int)<=_;omega,h6⟩,by show((j:Int)- ((k+1:Nat):Int)).toNat<_;omega⟩⟩,λhkj=>⟨⟨by omega,by omega⟩,⟨j+1,e6⟩,by show((j+1:Nat):Int)=_;omega,rfl,⟨by show j+1<=_;omega,h6⟩,by show _- (j+1)<_;omega⟩⟩
 case xa|xb=>
  refine⟨⟨g,mkS [100,101,102,97,117,108,116]⟩,rfl,rfl,rfl,rfl,rfl,rfl,rfl,rfl,rfl,rfl,hg,λq hq=>hq.1,⟨S,e4,g,mkS [100,101,102,97,117,108,116],false⟩,rfl,rfl,rfl,rfl,rfl,rfl,rfl,rfl,rfl,rfl,rfl,rfl,rfl,rfl,hg,λq hq=>hq.1,⟨⟨0,false⟩,rfl,rfl,Nat.zero_le _⟩,?_⟩
  rintro⟨k,b⟩ hk
  simp only at*
  have hw:(woR g (mkS [100,101,102,97,117,108,116]) false e4).2=0->e=0/\L≠[]/\L.length<=30:=λh=>h4 (zq4 h)
  generalize woR g (mkS [100,101,102,97,117,108,116]) false e4=W at*
  generalize (z0b (mkS [100,101,102,97,117,108,116]) g).isSome=hb at*
  refine⟨λhkl=>⟨λ_=>⟨⟨by omega,by omega⟩,⟨k+1,true⟩,rfl,by show((k+1:Nat):Int)=_;omega,by show k+1<=_;omega,by show _- (k+1)<_;omega⟩,λ_=>⟨by omega,(hat k (by omega) p1 hl1).1,L[k]'(by omega),λq hq=>(hat k (by omega) q hq.2).2,⟨by omega,by omega⟩,⟨k+1,_⟩,rfl,by show((k+1:Nat):Int)=_;omega,by show k+1<=_;omega,by show _- (k+1)<_;omega⟩⟩,λhkl=>⟨⟨λ_=>⟨λ_=>⟨S,rfl,rfl,rfl,rfl,λh=>(z2v (by decide) h).elim⟩,λ_=>⟨trivial,hw⟩⟩,λ_=>⟨trivial,hw⟩⟩,?_⟩⟩
  intro e8 h8
  refine⟨λhz=> ?_,λhz=>⟨⟨e8,(a,L.length,c),L,hb,W.1⟩,by show(if e8=0 then _ else S).length=_;rw[if_neg hz],rfl,by show z00 AT.cells (if e8=0 then _ else S)=_;rw[if_neg hz],h8,λq hq=>hq.2⟩⟩
  obtain⟨z0,z1,z2⟩:=h8 hz
  have hi:=hi1 z0
  obtain⟨m,rfl⟩:=Int.eq_ofNat_of_zero_le hi0
  have hm:m<S.length:=by omega
  have es:zin S (m:Int) (a,L.length,c) L hb W.1=S.set m {S[m]with sy:=(a,L.length,c),sys:=L,hd:=hb,df:=W.1}:=by
   unfold zin;rw[Int.toNat_natCast,List.getElem?_eq_getElem hm]
  have hrl:=z01 z1i S
  simp only[Int.toNat_natCast,q92,List.length_singleton]
  refine⟨⟨hi0,hi⟩,by omega,⟨hi0,hi⟩,by omega,⟨hi0,hi⟩,by omega,⟨e8,(a,L.length,c),L,hb,W.1⟩,?_,rfl,?_,h8,λq hq=>hq.2⟩
  ·show(if e8=0 then zin S (m:Int) (a,L.length,c) L hb W.1 else S).length=_
   rw[if_pos hz,es,List.length_set]
  ·show z00 AT.cells (if e8=0 then zin S (m:Int) (a,L.length,c) L hb W.1 else S)=_
   rw[if_pos hz,es]
   exact zio S m hm _ _ _ _
end
abbrev FdS:=List AT×Int×GJ×Int×ByteArray×Int
abbrev FdB:=List AT×Int×SV×List AF
def z7m(S:List AT) (at_:Int) (x:SV) (l:List AF):List AT:=match S[at_.toNat]? with
 |some a=>S.set at_.toNat {a with f:=x,fs:=l}
 |none=>S
def tfM(T:List AT) (l:List AF):PF:=⟨true,λp=>(∀a∈T,a.ok p)/\∀f∈l,f.ok p,λ_ _ h e=>⟨λa ha=>AT.ok_mono h (e.1 a ha),λf hf=>⟨z0e h (e.2 f hf).1,GJ.ok_mono h (e.2 f hf).2⟩⟩⟩
def z3v:CtR where
 σ:=FdS
 args:=λ⟨S,e,g,i,sp,d⟩=>[.ptr 1 0,g.av, .sv (.int .i64 i), .sv (.string sp), .sv (.int .i64 d)]
 h:=λ⟨S,e,g,i,sp,d⟩=>mkO S e 2 3
 m:=4
 pre:=λ⟨S,e,g,i,sp,d⟩=>S.length<=60/\g.wf/\0<=i/\(e=0->i<S.length)/\1<=d/\d<=20/\(sp.size:Int)<=1100*(d+1)
 mem:=λ⟨S,e,g,i,sp,d⟩=>gM g
 β:=λ_=>FdB
 post:=λ⟨S,e,g,i,sp,d⟩ ⟨T,e',x,fs⟩=>(S++T).length<=60/\(e'=0->e=0/\(∀a∈T,z1v (S++T).length a)/\(∀f∈fs,(0<=f.ty/\f.ty<(S++T).length)/\f.df.wf)/\fs.length<=30)
 pm:=λ_ ⟨T,e',x,fs⟩=>⟨true,λp=>(∀a∈T,a.ok p)/\slP AF.cells x fs p/\∀f∈fs,f.ok p,λ_ _ h e=>⟨λa ha=>AT.ok_mono h (e.1 a ha),z0e h e.2.1,λf hf=>⟨z0e h (e.2.2 f hf).1,GJ.ok_mono h (e.2.2 f hf).2⟩⟩⟩
 r:=λ_ _=> .tup []
 h':=λ⟨S,e,g,i,sp,d⟩ ⟨T,e',x,fs⟩=>mkO ((if e'=0 then z7m S i x fs else S)++T) e' 4 5
 m':=6
def zw3:FdS->Nat:=λ⟨S,e,g,i,sp,d⟩=>(25- d).toNat
def j3d(h:T AO) (e:Int):List (Nat×AO):=match h.get 1 with
 |some (.cells a b c [sl,_])=>[(1, .cells a b c [sl, .sv (.int .i64 e)])]
 |_=>[]
def fdN:ByteArray:=mkS [102,105,101,108,100,115]
def fdJ(g:GJ):GJ:=(z0b fdN g).getD zJ
abbrev FlS:=Nat×Int×List AT×List AF
def zgz(S:List AT) (e:Int) (g:GJ):FlS->Prop:=λ⟨i,e',T,fs⟩=>i<=(fdJ g).l.length/\fs.length<=i/\(S++T).length<=60/\(e'=0->e=0/\(∀a∈T,z1v (S++T).length a)/\(∀f∈fs,(0<=f.ty/\f.ty<(S++T).length)/\f.df.wf))
def za3:FdS->WayF:=λ⟨S,e,g,i,sp,d⟩=>{
 cut:=λr t h=>match r with
  |15=>some {σ:=Bool,t:=λb=>[(78, .sv (.bool b))],h:=λ_=>[],more:=0,μ:=λ_=>0,keep:=[0,2,3,4,6,10,12,13,14,15]}
  |16=>match mkE h 1 with|none=>none|some e0=>some {σ:=Int,pre:=λe'=>e'=0->e0=0,find:=some λ_ h=>mkE h 1,t:=λ_=>[],h:=λe'=>j3d h e',more:=0,μ:=λ_=>0,keep:=[0,2,3,4,6,10,12,13,14,15]}
  |24=>match mkE h 1 with|none=>none|some e0=>some {σ:=Int,pre:=λe'=>e'=0->e0=0,find:=some λ_ h=>mkE h 1,t:=λ_=>[],h:=λe'=>j3d h e',more:=0,μ:=λ_=>0,keep:=[0,2,3,4,6,10,12,13,14,15,17]}
  |_=>none
 ann:=λid t h=>match id with
  |0=>some {σ:=FlS,pre:=zgz S e g,mem:=λ⟨i,e',T,fs⟩=>tfM T fs,t:=λ⟨i,e',T,fs⟩=>[(13, .sv (.int .i64 (i:Int))),(12, .ssl 9 0 fs.length 9 10)],h:=λ⟨i,e',T,fs⟩=>mkO (S++T) e' 7 8++[(9, .row 70 0 (z00 AF.cells fs))],more:=4,μ:=λ⟨i,e',T,fs⟩=>(fdJ g).l.length- i,keep:=[0,2,3,4,6,10],del:=[2]}
  |2=>match mkE h 1 with|none=>none|some e0=>some {σ:=Nat×Int,pre:=λ⟨k,e'⟩=>e'=0->e0=0,t:=λ⟨k,e'⟩=>[(16, .sv (.int .i64 (k:Int)))],h:=λ⟨k,e'⟩=>j3d h e',more:=0,μ:=λ⟨k,e'⟩=>100- k,keep:=[0,2,3,4,6,10,12,13,14,15]}
  |_=>match mkE h 1 with|none=>none|some e0=>some {σ:=Nat×Int,pre:=λ⟨k,e'⟩=>e'=0->e0=0,t:=λ⟨k,e'⟩=>[(19, .sv (.int .i64 (k:Int)))],h:=λ⟨k,e'⟩=>j3d h e',more:=0,μ:=λ⟨k,e'⟩=>2000- k,keep:=[0,2,3,4,6,10,12,13,14,15]}
 pub:=λi k=>match i,k with
  |34,9=>[165]
  |_,_=>[]}
section
variable (x0:GJ×ByteArray) (x1:List AT) (x2 x3:Int) (x4:GJ) (x5:ByteArray) (x6:Int) (x7:Nat) (x8:FlS) (x9:List AT×Int×GJ×ByteArray×Bool) (x10 x11:Int) (x12:ByteArray) (x13:Option Addr) (x14:Nat) (x15:Option Addr) (x16 x17 x18:Nat) (x19:Int) (x20:Nat×Int) (x21:GJ×ByteArray) (x22:List AT×Int×GJ×ByteArray) (x23:Option Addr) (x24:Nat) (x25:TmB) (x26:Prop) (x27:Nat->Option Obj) (x28:FdB) (x29:Bool) (x30:Nat×Int)
 abbrev z61:=(if x28.2.1=0 then z7m x1 x2 x28.2.2.1 x28.2.2.2 else x1)++x28.1
 def j01:=x2=0/\(∀(i0:AT),i0∈x28.1->z1v (length (x1++x28.1)) i0)/\(∀(i1:AF),i1∈x28.2.2.2->(0<=AF.ty i1/\AF.ty i1<(↑(length (x1++x28.1)):Int))/\GJ.wf (AF.df i1))/\length x28.2.2.2<=30
 def zfb:=(length (x1++x28.1)<=60/\(x28.2.1=0->j01 x1 x2 x28))
 def zf9:=(∀(i0:AT),i0∈x28.1->AT.ok i0 x27)/\slP AF.cells x28.2.2.1 x28.2.2.2 x27/\∀(i1:AF),i1∈x28.2.2.2->AF.ok i1 x27
 def zk0:=∃(i0:List AT),x6=x6/\length i0=length x1/\x2=x2/\z00 AT.cells i0=z00 AT.cells x1/\True/\∃(i1:FdB),length (z61 x1 x3 i1)=length i0/\i1.2.1=faE x2 x6/\z00 AT.cells (z61 x1 x3 i1)=z00 AT.cells i0/\zfb x1 x2 i1/\(∀i2,True/\GJ.ok x4 i2->zf9 i2 i1)/\True
 abbrev z0h:=Option.getD (z0b x0.2 x0.1) zJ
 abbrev zk5:=(↑(GJ.y (z0h x0)).2.1:Int)
 def zk1:=GJ.k x4=GJ.k x4/\GJ.n x4=GJ.n x4/\GJ.s x4=GJ.s x4/\(GJ.y x4).1=(GJ.y x4).1/\(GJ.y x4).2.1=(GJ.y x4).2.1/\(GJ.y x4).2.2=(GJ.y x4).2.2/\(GJ.x x4).1=(GJ.x x4).1/\(GJ.x x4).2.1=(GJ.x x4).2.1/\(GJ.x x4).2.2=(GJ.x x4).2.2/\x26
 def z1w:=GJ.k (z0h x0)=GJ.k (z0h x0)/\GJ.n (z0h x0)=GJ.n (z0h x0)/\GJ.s (z0h x0)=GJ.s (z0h x0)/\(GJ.y (z0h x0)).1=(GJ.y (z0h x0)).1/\(GJ.y (z0h x0)).2.1=(GJ.y (z0h x0)).2.1/\(GJ.y (z0h x0)).2.2=(GJ.y (z0h x0)).2.2/\(GJ.x (z0h x0)).1=(GJ.x (z0h x0)).1/\(GJ.x (z0h x0)).2.1=(GJ.x (z0h x0)).2.1/\(GJ.x (z0h x0)).2.2=(GJ.x (z0h x0)).2.2/\x26
 def zk2:=(∀(i0:AT),i0∈x8.2.2.1->AT.ok i0 x27)/\∀(i1:AF),i1∈x8.2.2.2->AF.ok i1 x27
 def z3j:=(True/\GJ.ok x4 x27)/\zk2 x8 x27
 abbrev z1x:=woR x9.2.2.1 x9.2.2.2.1 x9.2.2.2.2 x9.2.1
 abbrev zfe:=(z1x x9).2=0
 def zfc:=length x8.2.2.2=length x8.2.2.2
 def z4r:=(↑x8.1:Int)=(↑x8.1:Int)/\x2=x2/\x3=x3/\zfc x8/\x26
 def zfh:=length x9.1=length x9.1
 def zfd:=z00 AT.cells x9.1=z00 AT.cells x9.1
 def zk3:=zfh x9/\(z1x x9).2=(z1x x9).2/\zfd x9/\x26
 def z31:=x2=x2/\x3=x3/\x5=x5/\x13=x13/\x7=x7/\x14=x14/\x15=x15/\x16=x16/\x17=x17/\z00 AF.cells x8.2.2.2=z00 AF.cells x8.2.2.2/\zk1 x4 ((z1x x9).1=(z1x x9).1/\x26)
 def z4s:=(∀i0,(z3j x4 x8 i0)->z3j x4 x8 i0)
 def j0a:=(z1x x9).1=(z1x x9).1/\size (z1x x9).1<1000000/\∃(i0:Bool),x5=x5/\z4r x2 x3 x8 (i0= !z2c (z1x x9).1/\zk3 x9 (z31 x6 x10 x4 x12 x7 x8 x9 x13 x14 x15 x16 x17 (z1w x0 (z4s x4 x8/\True/\True))))
 def j05:=(x29=true->∃(i0:List AT),(6:Int)=6/\length i0=length x9.1/\(z1x x9).2=(z1x x9).2/\z00 AT.cells i0=z00 AT.cells x9.1/\True/\x5=x5/\z4r x2 x3 x8 (length x9.1=length i0/\faE (z1x x9).2 (6:Int)=faE (z1x x9).2 6/\z00 AT.cells x9.1=z00 AT.cells i0/\z31 x6 x10 x4 x12 x7 x8 x9 x13 x14 x15 x16 x17 (z1w x0 (z4s x4 x8/\(faE (z1x x9).2 (6:Int)=0->zfe x9)/\True))))/\(x29=false->x5=x5/\z4r x2 x3 x8 (zk3 x9 (z31 x6 x10 x4 x12 x7 x8 x9 x13 x14 x15 x16 x17 (z1w x0 (z4s x4 x8/\((z1x x9).2=0->zfe x9)/\True)))))
 def zfg:=x20.2=0->x2=0
 def zrq:=x2=x2/\length x1=length x9.1/\x20.2=x20.2/\z00 AT.cells x1=z00 AT.cells x9.1/\True/\x26
 abbrev zfa:=Jb ((↑x20.1:Int)+1)
 def zfi:=(↑x20.1:Int)=(↑x30.1:Int)+1
 def j09:=zfa x20/\∃(i0:Nat×Int),x5=x5/\(↑x8.1:Int)=(↑x8.1:Int)/\x2=x2/\x3=x3/\zfi i0 x20/\zfc x8/\zfh x9/\i0.2=x20.2/\zfd x9/\z31 x6 x10 x4 x12 x7 x8 x9 x13 x14 x15 x16 x17 (z1w x0 (z4s x4 x8/\(zfg x11 i0)/\(100:Nat)- i0.1<100- x20.1/\True))
 def j04:=(0<=(↑x20.1:Int)/\(↑x20.1:Int)<(↑(length x8.2.2.2):Int))/\∃i0,qi8 (z00 AF.cells x8.2.2.2) (nat_lit 0+toNat (↑x20.1:Int)*nat_lit 9+0) [string i0]/\Ji (i0=(z1x x9).1) (∃(i1:List AT),zrq i1 5 x9 x20 (zfa x20/\∃(i2:Nat×Int),x5=x5/\(↑x8.1:Int)=(↑x8.1:Int)/\x2=x2/\x3=x3/\zfi i2 x20/\zfc x8/\length x9.1=length i1/\i2.2=faE x20.2 5/\z00 AT.cells x9.1=z00 AT.cells i1/\z31 x6 x10 x4 x12 x7 x8 x9 x13 x14 x15 x16 x17 (z1w x0 (z4s x4 x8/\(zfg x11 i2)/\(100:Nat)- i2.1<100- x20.1/\True)))) (j09 x0 x2 x3 x4 x5 x6 x7 x8 x9 x10 x11 x12 x13 x14 x15 x16 x17 x20)
 def zrp:=GJ.k x0.1=x2/\GJ.n x0.1=x3/\GJ.s x0.1=x5/\(GJ.y x0.1).1=x13/\(GJ.y x0.1).2.1=x7/\(GJ.y x0.1).2.2=x14/\(GJ.x x0.1).1=x15/\(GJ.x x0.1).2.1=x16/\(GJ.x x0.1).2.2=x17/\x26
 def zff:=(z3j x4 x8 x27)/\∀(i0:AT),i0∈x25.1->AT.ok i0 x27
 def z60:=(zff x4 x8 x25 x27)/\slP txV (x13,x7,x14) (z1u x22.2.2.1 x22.2.2.2 x22.2.1).1 x27
 def zk4:=x20.2=0->(z1u x22.2.2.1 x22.2.2.2 x22.2.1).2.2=0
 def zro:=x13=x13/\x7=x7/\x14=x14/\x25.2.2=x25.2.2/\Option.isSome (z0b x0.2 x0.1)=Option.isSome (z0b x0.2 x0.1)/\z1w x0 (z1w x21 ((∀i0,z60 x4 x7 x8 x13 x14 x22 x25 i0->z60 x4 x7 x8 x13 x14 x22 x25 i0)/\(zk4 x20 x22)/\(2000:Nat)- x20.1<2000- x30.1/\True))
 def j08:=zfa x20/\∃(i0:Nat×Int),x5=x5/\zfi i0 x20/\z4r x2 x3 x8 (length x22.1=length x22.1/\i0.2=x20.2/\z00 AT.cells x22.1=z00 AT.cells x22.1/\z31 x6 x10 x4 x12 x7 x8 x9 x13 x14 x15 x16 x17 (zro x0 x4 x18 x8 x23 x24 i0 x21 x22 x25 x20))
 def j03:=(0<=(↑x20.1:Int)/\(↑x20.1:Int)<(↑x7:Int))/\x13≠noA/\∃i0,(∀i1,z60 x4 x7 x8 x13 x14 x22 x25 i1->q3p i1 (adr x13 (toNat (↑x20.1:Int)*1)) [string i0])/\i0=i0/\size i0<1000000/\((!z2c i0)=true->∃(i3:List AT),(6:Int)=6/\length i3=length x22.1/\x20.2=x20.2/\z00 AT.cells i3=z00 AT.cells x22.1/\True/\zfa x20/\∃(i4:Nat×Int),x5=x5/\zfi i4 x20/\z4r x2 x3 x8 (length x22.1=length i3/\i4.2=faE x20.2 6/\z00 AT.cells x22.1=z00 AT.cells i3/\z31 x6 x10 x4 x12 x16 x8 x9 x15 x17 x23 x18 x24 (zro x0 x4 x7 x8 x13 x14 i4 x21 x22 x25 x20)))/\((!z2c i0)=false->j08 x0 x2 x3 x4 x5 x6 x16 x8 x9 x10 x12 x15 x17 x23 x18 x24 x7 x20 x21 x22 x13 x14 x25)
 def zrn:=length (z00 AF.cells x8.2.2.2)=length x8.2.2.2*9/\(length x8.2.2.2+nat_lit 1)*136<=140737488355328/\Jb ((↑x8.1:Int)+1)/\∃(i0:FlS),x5=x5/\(↑i0.1:Int)=(↑x8.1:Int)+1/\x2=x2/\x3=x3/\length i0.2.2.2=length x8.2.2.2+nat_lit 1/\length (x1++i0.2.2.1)=length x22.1/\i0.2.1=x20.2/\z00 AT.cells (x1++i0.2.2.1)=z00 AT.cells x22.1/\z00 AF.cells i0.2.2.2=z00 AF.cells x8.2.2.2++[string (z1x x9).1,slice x13 x7 x14,int i64 x25.2.2,bool (Option.isSome (z0b x0.2 x0.1)),int i64 (GJ.k (z0h x0)),int i64 (GJ.n (z0h x0)),string (GJ.s (z0h x0)),slice (GJ.y (z0h x0)).1 (GJ.y (z0h x0)).2.1 (GJ.y (z0h x0)).2.2,slice (GJ.x (z0h x0)).1 (GJ.x (z0h x0)).2.1 (GJ.x (z0h x0)).2.2]/\zk1 x4 (z1w x21 ((∀i1,z60 x4 x7 x8 x13 x14 x22 x25 i1->True/\GJ.ok x4 i1)/\(∀i5,z60 x4 x7 x8 x13 x14 x22 x25 i5->zk2 i0 i5)/\zgz x1 x6 x4 i0/\length (GJ.l (fdJ x4))- i0.1<length (GJ.l (fdJ x4))- x8.1/\True))
 def j02:=Ji (x20.2=0) (j03 x0 x2 x3 x4 x5 x6 x7 x8 x9 x10 x12 x13 x14 x15 x16 x17 x18 x20 x21 x22 x23 x24 x25) (zrn x0 x1 x2 x3 x4 x5 x11 x7 x8 x9 x13 x14 x20 x21 x22 x25)
 def j00:=Ji ((↑x20.1:Int)<(↑x7:Int)) (j02 x0 x1 x2 x3 x4 x5 x6 x7 x8 x9 x10 x11 x12 x13 x14 x15 x16 x17 x18 x20 x21 x22 x23 x24 x25) (zrn x0 x1 x2 x3 x4 x5 x11 x7 x8 x9 x13 x14 x20 x21 x22 x25)
 def jch:=(∃(i0:Nat×Int),x5=x5/\(↑i0.1:Int)=0/\z4r x2 x3 x8 (length x22.1=length x22.1/\i0.2=(z1u x22.2.2.1 x22.2.2.2 x22.2.1).2.2/\z00 AT.cells x22.1=z00 AT.cells x22.1/\z31 x6 x10 x4 x12 x7 x8 x9 x13 x14 x15 x16 x17 (x23=x23/\x18=x18/\x24=x24/\x25.2.2=x25.2.2/\Option.isSome (z0b x0.2 x0.1)=Option.isSome (z0b x0.2 x0.1)/\z1w x0 (z1w x21 ((∀i1,z60 x4 x18 x8 x23 x24 x22 x25 i1->z60 x4 x18 x8 x23 x24 x22 x25 i1)/\(zk4 i0 x22)/\True)))))/\∀(i8:Nat×Int),(zk4 i8 x22)->j00 x0 x1 x2 x3 x4 x5 x6 x18 x8 x9 x10 x11 x12 x23 x24 x13 x7 x14 x16 i8 x21 x22 x15 x17 x25
 def jcg:=Jb (x2+1)/\∃(i0:TmS),GJ.k i0.2.2.1=GJ.k (z0h x0)/\GJ.n i0.2.2.1=GJ.n (z0h x0)/\GJ.s i0.2.2.1=GJ.s (z0h x0)/\(GJ.y i0.2.2.1).1=(GJ.y (z0h x0)).1/\(GJ.y i0.2.2.1).2.1=(GJ.y (z0h x0)).2.1/\(GJ.y i0.2.2.1).2.2=(GJ.y (z0h x0)).2.2/\(GJ.x i0.2.2.1).1=(GJ.x (z0h x0)).1/\(GJ.x i0.2.2.1).2.1=(GJ.x (z0h x0)).2.1/\(GJ.x i0.2.2.1).2.2=(GJ.x (z0h x0)).2.2/\i0.2.2.2.1=x5/\i0.2.2.2.2=x2+1/\length i0.1=length x9.1/\i0.2.1=x3/\z00 AT.cells i0.1=z00 AT.cells x9.1/\(z53 i0<x7/\z2y i0)/\(∀i1,(z3j x4 x8 i1)->GJ.ok i0.2.2.1 i1)/\∀(i4:TmB),z0d i0 i4->(∃i5,zff x4 x8 i4 i5)->∃(i9:GJ×ByteArray),zrp i9 x6 x10 x12 x14 x13 x16 x15 x17 x18 (i9.2=mkS [100,101,102,97,117,108,116]/\GJ.wf i9.1/\(∀i10,(zff x4 x8 i4 i10)->GJ.ok i9.1 i10)/\∃(i14:List AT×Int×GJ×ByteArray),GJ.k i14.2.2.1=x6/\GJ.n i14.2.2.1=x10/\GJ.s i14.2.2.1=x12/\(GJ.y i14.2.2.1).1=x13/\(GJ.y i14.2.2.1).2.1=x14/\(GJ.y i14.2.2.1).2.2=x16/\(GJ.x i14.2.2.1).1=x15/\(GJ.x i14.2.2.1).2.1=x17/\(GJ.x i14.2.2.1).2.2=x18/\i14.2.2.2=mkS [97,108,105,97,115,101,115]/\length i14.1=length (i0.1++i4.1)/\i14.2.1=i4.2.1/\z00 AT.cells i14.1=z00 AT.cells (i0.1++i4.1)/\GJ.wf i14.2.2.1/\(∀i15,(zff x4 x8 i4 i15)->GJ.ok i14.2.2.1 i15)/\∀(i19:Unit),True->∀(i20:Option Addr) (i21 i22:Nat),(∃i23,z60 x4 i21 x8 i20 i22 i14 i4 i23)->jch i9 x1 x11 x2 x4 x5 x6 x14 x8 x9 x10 x19 x12 x13 x16 x15 x17 x18 i21 x21 i14 i20 i22 i4)
 def jcf:=Ji ((↑x20.1:Int)<(↑(length x8.2.2.2):Int)) (j04 x0 x2 x3 x4 x5 x6 x7 x8 x9 x10 x11 x12 x13 x14 x15 x16 x17 x20) (∃(i14:GJ×ByteArray),zrp i14 x6 x10 x12 x7 x13 x14 x15 x16 x17 (i14.2=mkS [116,121,112,101]/\GJ.wf i14.1/\(∀i15,(z3j x4 x8 i15)->GJ.ok i14.1 i15)/\(((!Option.isSome (z0b i14.2 i14.1))=true->∃(i18:List AT),zrq i18 2 x9 x20 (x5=x5/\z4r x2 x3 x8 (length x9.1=length i18/\faE x20.2 (2:Int)=faE x20.2 2/\z00 AT.cells x9.1=z00 AT.cells i18/\z31 x6 x10 x4 x12 x7 x8 x9 x13 x14 x15 x16 x17 (z1w x0 (z1w i14 (z4s x4 x8/\(faE x20.2 (2:Int)=0->x20.2=0)/\True))))))/\((!Option.isSome (z0b i14.2 i14.1))=false->x5=x5/\z4r x2 x3 x8 (zfh x9/\x20.2=x20.2/\zfd x9/\z31 x6 x10 x4 x12 x7 x8 x9 x13 x14 x15 x16 x17 (z1w x0 (z1w i14 (z4s x4 x8/\(x20.2=0->x20.2=0)/\True))))))/\∀(i29:Int),(i29=0->x20.2=0)->jcg i14 x1 x3 i29 x4 x5 x6 x18 x8 x9 x10 x2 x12 x13 x7 x15 x14 x16 x17 x19 x0))
 def jce:=(∃(i0:Nat×Int),x5=x5/\(↑x8.1:Int)=(↑x8.1:Int)/\x2=x2/\x3=x3/\(↑i0.1:Int)=0/\zfc x8/\zfh x9/\i0.2=x6/\zfd x9/\z31 x10 x11 x4 x12 x7 x8 x9 x13 x14 x15 x16 x17 (z1w x0 (z4s x4 x8/\(zfg x6 i0)/\True)))/\∀(i6:Nat×Int),(zfg x6 i6)->jcf x0 x1 x2 x3 x4 x5 x10 x7 x8 x9 x11 x6 x12 x13 x14 x15 x16 x17 x18 x19 i6
 def jcd:=(0<=(↑x8.1:Int)/\(↑x8.1:Int)<(zk5 x0))/\(GJ.y (z0h x0)).1≠noA/\∃(i0:Int),∃(i1:Int),∃i2,∃i3,∃(i4:Nat),∃(i5:Nat),∃i6,∃(i7:Nat),∃(i8:Nat),(∀i9,(z3j x4 x8 i9)->q3p i9 (adr (GJ.y (z0h x0)).1 (toNat (↑x8.1:Int)*5)) [int i64 i0,int i64 i1,string i2,slice i3 i4 i5,slice i6 i7 i8])/\((!decide (i0=6))=true->∃(i12:List AT),(2:Int)=2/\length i12=length (x1++x8.2.2.1)/\x8.2.1=x8.2.1/\z00 AT.cells i12=z00 AT.cells (x1++x8.2.2.1)/\True/\∃(i13:FdB),length (z61 x1 x2 i13)=length i12/\i13.2.1=faE x8.2.1 2/\z00 AT.cells (z61 x1 x2 i13)=z00 AT.cells i12/\zfb x1 x3 i13/\(∀i16,(z3j x4 x8 i16)->zf9 i16 i13)/\True)/\((!decide (i0=6))=false->∃(i21:List AT×Int×GJ×ByteArray×Bool),GJ.k i21.2.2.1=i0/\GJ.n i21.2.2.1=i1/\GJ.s i21.2.2.1=i2/\(GJ.y i21.2.2.1).1=i3/\(GJ.y i21.2.2.1).2.1=i4/\(GJ.y i21.2.2.1).2.2=i5/\(GJ.x i21.2.2.1).1=i6/\(GJ.x i21.2.2.1).2.1=i7/\(GJ.x i21.2.2.1).2.2=i8/\i21.2.2.2.1=mkS [110,97,109,101]/\i21.2.2.2.2=true/\length i21.1=length (x1++x8.2.2.1)/\i21.2.1=x8.2.1/\z00 AT.cells i21.1=z00 AT.cells (x1++x8.2.2.1)/\GJ.wf i21.2.2.1/\(∀i22,(z3j x4 x8 i22)->GJ.ok i21.2.2.1 i22)/\((Ji (zfe i21) (j0a x0 x2 x6 x4 x5 i0 i4 x8 i21 i1 i2 i3 i5 i6 i7 i8) (∃(i31:Bool),x5=x5/\z4r x2 x6 x8 (i31=false/\zk3 i21 (z31 i0 i1 x4 i2 i4 x8 i21 i3 i5 i6 i7 i8 (z1w x0 (z4s x4 x8/\True/\True))))))/\∀(i37:Bool),True->j05 x0 x2 x6 x4 x5 i0 i4 x8 i21 i1 i2 i3 i5 i6 i7 i8 i37)/\∀(i49:Int),(i49=0->zfe i21)->jce x0 x1 x2 x6 x4 x5 i49 i4 x8 i21 i0 i1 i2 i3 i5 i6 i7 i8 x7 x3)
 def zrr:=(z3j x4 x8 x27)/\length x8.2.2.2<=x7/\qik x27 x13 (take (length x8.2.2.2*nat_lit 9) (z00 AF.cells x8.2.2.2))
 def j07:=nat_lit 0+toNat x2*nat_lit 10+8+length [slice x13 (length x8.2.2.2) x7]<=length (z00 AT.cells (x1++x8.2.2.1))/\∃(i0:FdB),length (z61 x1 x2 i0)=length (x1++x8.2.2.1)/\i0.2.1=x8.2.1/\z00 AT.cells (z61 x1 x2 i0)=spl (z00 AT.cells (x1++x8.2.2.1)) (nat_lit 0+toNat x2*nat_lit 10+8) [slice x13 (length x8.2.2.2) x7]/\zfb x1 x3 i0/\(∀i1,zrr x4 x7 x8 x13 i1->zf9 i1 i0)/\True
 def j06:=(0<=x2/\x2<(↑(length (x1++x8.2.2.1)):Int))/\∀(i0 i1 i2:Nat) (i3:Option Addr) (i4 i5:Nat),(∃i6,zrr x4 i5 x8 i3 i6)->j07 x1 x2 x3 x4 i5 x8 i3
 def zrm:=Ji (x8.2.1=0) (j06 x1 x2 x3 x4 x8) (∃(i17:FdB),length (z61 x1 x2 i17)=length (x1++x8.2.2.1)/\i17.2.1=x8.2.1/\z00 AT.cells (z61 x1 x2 i17)=z00 AT.cells (x1++x8.2.2.1)/\zfb x1 x3 i17/\(∀i20,(z3j x4 x8 i20)->zf9 i20 i17)/\True)
 def jcc:=Ji (x8.2.1=0) (jcd x0 x1 x2 x3 x4 x5 x6 x7 x8) (zrm x1 x2 x3 x4 x8)
 def jcb:=Ji ((↑x8.1:Int)<(zk5 x0)) (jcc x0 x1 x2 x3 x4 x5 x6 x7 x8) (zrm x1 x2 x3 x4 x8)
 def jca:=(∃(i0:FlS),x5=x5/\(↑i0.1:Int)=0/\x2=x2/\x3=x3/\length i0.2.2.2=0/\length (x1++i0.2.2.1)=length x1/\i0.2.1=x6/\z00 AT.cells (x1++i0.2.2.1)=z00 AT.cells x1/\zk1 x4 (z1w x0 ((∀i1,True/\GJ.ok x4 i1->True/\GJ.ok x4 i1)/\(∀i2,True/\GJ.ok x4 i2->zk2 i0 i2)/\zgz x1 x6 x4 i0/\True)))/\∀(i5:FlS),zgz x1 x6 x4 i5->(∃i6,z3j x4 i5 i6)->jcb x0 x1 x2 x6 x4 x5 x3 x7 i5
 def jc9:=Ji (30<(zk5 x0)) (zk0 x1 x2 x3 x4 3) (jca x0 x1 x3 x6 x4 x5 x2 x7)
 def jc8:=((!decide (GJ.k (z0h x0)=5))=true->zk0 x1 x2 x3 x4 2)/\((!decide (GJ.k (z0h x0)=5))=false->jc9 x0 x1 x2 x3 x4 x5 x6 x7)
end
def z7l(n:Nat) (S:List AT) (e:Int) (g:GJ) (i:Int) (sp:ByteArray) (d:Int):qm3 P (qh2 [(66,z4l),(100,z6i),(124,zac),(103,z4z),(63,z1s)]) (qi5 [(32,z1t.below z53 n)]) Go.Proofs.Tryz.f104 (z3v.below zw3 (n+1)) (za3) ⟨S,e,g,i,sp,d⟩=(zw3 (S,e,g,i,sp,d)<n+1/\length S<=60/\GJ.wf g/\0<=i/\(e=0->i<(↑(length S):Int))/\1<=d/\d<=20/\(↑(size sp):Int)<=1100*(d+1)->(∃(p:Pub),True/\GJ.ok g p)->∃(s:GJ×ByteArray),GJ.k s.1=GJ.k g/\GJ.n s.1=GJ.n g/\GJ.s s.1=GJ.s g/\(GJ.y s.1).1=(GJ.y g).1/\(GJ.y s.1).2.1=(GJ.y g).2.1/\(GJ.y s.1).2.2=(GJ.y g).2.2/\(GJ.x s.1).1=(GJ.x g).1/\(GJ.x s.1).2.1=(GJ.x g).2.1/\(GJ.x s.1).2.2=(GJ.x g).2.2/\s.2=mkS [102,105,101,108,100,115]/\GJ.wf s.1/\(∀(p:Pub),True/\GJ.ok g p->GJ.ok s.1 p)/\((!Option.isSome (z0b s.2 s.1))=true->zk0 S e i g 2)/\((!Option.isSome (z0b s.2 s.1))=false->jc8 s S e i g sp d n)):=by kernel_rfl
def zai:=λn S e g i sp d=>Eq.trans (z7l n S e g i sp d) (by delta Ji Jb Jt Jf z61 j01 zfb zf9 zk0 z0h zk5 zk1 z1w zk2 z3j z1x zfe zfc z4r zfh zfd zk3 z31 z4s j0a j05 zfg zrq zfa zfi j09 j04 zrp zff z60 zk4 zro j08 j03 zrn j02 j00 jch jcg jcf jce jcd zrr j07 j06 zrm jcc jcb jca jc9 jc8;exact rfl)
def zh1(S:List AT) (k:Nat) (hk:k<S.length) (x:SV) (l:List AF) (B:List AT):z00 AT.cells (S.set k {S[k]with f:=x,fs:=l}++B)=spl (z00 AT.cells (S++B)) (0+k*10+8) [svV x]:=by
 rw[z04,z04,z5l S k hk]
 conv=>rhs;rw[z6q S k hk]
 rw[Nat.zero_add,←z6t S k hk]
 generalize z00 AT.cells (S.take k)=A
 generalize z00 AT.cells (S.drop (k+1))=C
 generalize z00 AT.cells B=D
 show _=((A++((S[k]).cells++C))++D).set (A.length+8) (svV x)
 rw[List.append_assoc A (S[k].cells++C) D,z2x,List.append_assoc A]
 rfl
def zwd{l:List AF} {i:Nat} (h:i<l.length):∀(j:Nat) (v:Value),[Value.string l[i].nm][j]? =some v->(z00 AF.cells l)[0+i*9+0+j]? =some v:=λj v hj=>by
 cases j with
 |zero=>have:=z20 z8s l i h 0 (by decide);rw[Nat.add_zero]at this;rw[Nat.zero_add,Nat.add_zero,this];exact hj
 |succ j=>simp at hj
def zn6{g:GJ} (hg:g.wf) (s:ByteArray) (b:Bool) (e:Int):(woR g s b e).1.size<1000:=by
  have h:=(z16 s hg).1
  unfold woR
  cases hk:z0b s g with
  | none=>
    simp only
    split<;>exact Nat.zero_lt_succ _
  | some t=>
    rw[hk]at h
    simp only
    split
    · have h:t.wf:=h
      rw[GJ.wf_eq]at h;exact h.1
    · exact Nat.zero_lt_succ _
def zaj(n:Nat) (ht:q22 P 32 (z1t.below z53 n)):q22 P 104 (z3v.below zw3 (n+1)):=by
 refine qlb mixed (qee (qih z2k (qih z5u (qih z7s (qih z5r (qih z13 qlq)))))) (qf7 (qig ht qlp)) (W:=za3) Go.Proofs.Tryz.func104 (by kernel_rfl) (show 1<=4 by decide) (show 4<=6 by decide) (λs=>by kernel_rfl) λ⟨S,(e:Int),g,(i:Int),sp,(d:Int)⟩=>(zai n S e g i sp d).mpr ?_
 rintro⟨hmu,hS,hg,hi0,hi1,hd1,hd2,hsp⟩ ⟨p,_,hp⟩
 have hmu:(25- d).toNat<n+1:=hmu
 simp only[sbS,exists_const,forall_const,Int.toNat_natCast]
 have bad:∀(T:List AT) (e1 k:Int),k≠0->(S++T).length<=60->(∀q,g.ok q->∀a∈T,a.ok q)->True:=λ_ _ _ _ _ _=>trivial
 have z:∀(T:List AT) (k:Int) (x:SV) (fs:List AF),k≠0->((if k=0 then z7m S i x fs else S)++T)=S++T:=λT k x fs hk=>by rw[if_neg hk]
 obtain⟨lw,lok⟩:=z16 (mkS [102,105,101,108,100,115]) hg
 refine⟨⟨g,mkS [102,105,101,108,100,115]⟩,rfl,rfl,rfl,rfl,rfl,rfl,rfl,rfl,rfl,rfl,hg,λq hq=>hq,λhno=>⟨S,rfl,rfl,⟨[],faE e 2,(none,0,0),[]⟩,by show(_++[]).length=_;rw[z _ _ _ _ (z0i (by decide)),List.append_nil],rfl,by show z00 AT.cells (_++[])=_;rw[z _ _ _ _ (z0i (by decide)),List.append_nil],⟨by show(S++[]).length<=60;rw[List.append_nil];exact hS,λh=>absurd h (z0i (by decide))⟩,λq hq=>⟨λa ha=>(by cases ha),z05,λf hf=>(by cases hf)⟩⟩,λhyes=>⟨λhk=>⟨S,rfl,rfl,⟨[],faE e 2,(none,0,0),[]⟩,by show(_++[]).length=_;rw[z _ _ _ _ (z0i (by decide)),List.append_nil],rfl,by show z00 AT.cells (_++[])=_;rw[z _ _ _ _ (z0i (by decide)),List.append_nil],⟨by show(S++[]).length<=60;rw[List.append_nil];exact hS,λh=>absurd h (z0i (by decide))⟩,λq hq=>⟨λa ha=>(by cases ha),z05,λf hf=>(by cases hf)⟩⟩,λhk=>⟨λh30=>⟨S,rfl,rfl,⟨[],faE e 3,(none,0,0),[]⟩,by show(_++[]).length=_;rw[z _ _ _ _ (z0i (by decide)),List.append_nil],rfl,by show z00 AT.cells (_++[])=_;rw[z _ _ _ _ (z0i (by decide)),List.append_nil],⟨by show(S++[]).length<=60;rw[List.append_nil];exact hS,λh=>absurd h (z0i (by decide))⟩,λq hq=>⟨λa ha=>(by cases ha),z05,λf hf=>(by cases hf)⟩⟩,λh30=> ?_⟩⟩⟩
 have hfd:fdJ g=(z0b (mkS [102,105,101,108,100,115]) g).getD zJ:=rfl
 simp only at*
 generalize (z0b (mkS [102,105,101,108,100,115]) g).getD zJ=t at*
 have hy:=λq (hq:g.ok q)=>(show slP GJ.cells t.y t.l q by have:=lok q hq;rw[GJ.ok_eq]at this;exact this.1)
 have tl:t.y.2.1=t.l.length:=(hy p hp).1
 have lww:=lw
 rw[GJ.wf_eq]at lww
 refine⟨⟨⟨0,e,[],[]⟩,rfl,rfl,by show(S++[]).length=_;rw[List.append_nil],rfl,by show z00 AT.cells (S++[])=_;rw[List.append_nil],λq hq=>⟨λa ha=>(by cases ha),λf hf=>(by cases hf)⟩,⟨Nat.zero_le _,Nat.zero_le _,by show(S++[]).length<=60;rw[List.append_nil];exact hS,λh=>⟨h,λa ha=>(by cases ha),λf hf=>(by cases hf)⟩⟩⟩,?_⟩
 rintro⟨j,e1,T,fs⟩ ⟨hj,hfl,hST,hinv⟩ ⟨p1,hp1,hT1,hf1⟩
 simp only[hfd]at hj⊢
 have fin0:e1≠0->∃b:FdB,((if b.snd.fst=0 then z7m S i b.snd.snd.fst b.snd.snd.snd else S)++b.fst).length=(S++T).length/\b.snd.fst=e1/\z00 AT.cells ((if b.snd.fst=0 then z7m S i b.snd.snd.fst b.snd.snd.snd else S)++b.fst)=z00 AT.cells (S++T)/\((S++b.fst).length<=60/\(b.snd.fst=0->e=0/\(∀(a:AT),a∈b.fst->z1v (S++b.fst).length a)/\(∀(f:AF),f∈b.snd.snd.snd->(0<=f.ty/\f.ty<↑(S++b.fst).length)/\f.df.wf)/\b.snd.snd.snd.length<=30))/\∀(p:Nat->Option Obj),(g.ok p/\(∀(a:AT),a∈T->a.ok p)/\∀(f:AF),f∈fs->f.ok p)->(∀(a:AT),a∈b.fst->a.ok p)/\slP AF.cells b.snd.snd.fst b.snd.snd.snd p/\∀(f:AF),f∈b.snd.snd.snd->f.ok p:=λhe=>⟨⟨T,e1,(none,0,0),[]⟩,by show(_++T).length=_;rw[z _ _ _ _ he],rfl,by show z00 AT.cells (_++T)=_;rw[z _ _ _ _ he],⟨hST,λh=>absurd h he⟩,λq hq=>⟨hq.2.1,z05,λf hf=>(by cases hf)⟩⟩
 have fin1:e1=0->(0<=i/\i<((S++T).length:Int))/\∀(a:Option Addr) (c:Nat),(∃p,(g.ok p/\(∀(a:AT),a∈T->a.ok p)/\∀(f:AF),f∈fs->f.ok p)/\fs.length<=c/\qik p a (List.take (fs.length*9) (z00 AF.cells fs)))->0+i.toNat*10+8+[Value.slice a fs.length c].length<=(z00 AT.cells (S++T)).length/\∃b:FdB,((if b.snd.fst=0 then z7m S i b.snd.snd.fst b.snd.snd.snd else S)++b.fst).length=(S++T).length/\b.snd.fst=e1/\z00 AT.cells ((if b.snd.fst=0 then z7m S i b.snd.snd.fst b.snd.snd.snd else S)++b.fst)=spl (z00 AT.cells (S++T)) (0+i.toNat*10+8) [Value.slice a fs.length c]/\((S++b.fst).length<=60/\(b.snd.fst=0->e=0/\(∀(a:AT),a∈b.fst->z1v (S++b.fst).length a)/\(∀(f:AF),f∈b.snd.snd.snd->(0<=f.ty/\f.ty<↑(S++b.fst).length)/\f.df.wf)/\b.snd.snd.snd.length<=30))/\∀(p:Nat->Option Obj),(g.ok p/\(∀(a:AT),a∈T->a.ok p)/\∀(f:AF),f∈fs->f.ok p)/\fs.length<=c/\qik p a (List.take (fs.length*9) (z00 AF.cells fs))->(∀(a:AT),a∈b.fst->a.ok p)/\slP AF.cells b.snd.snd.fst b.snd.snd.snd p/\∀(f:AF),f∈b.snd.snd.snd->f.ok p:=λhe=>by
  obtain⟨i0,iT,iF⟩:=hinv he
  have hi:=hi1 i0
  obtain⟨m,rfl⟩:=Int.eq_ofNat_of_zero_le hi0
  have hm:m<S.length:=by omega
  have es:∀x,z7m S (m:Int) x fs=S.set m {S[m]with f:=x,fs:=fs}:=λx=>by
   unfold z7m;rw[Int.toNat_natCast,List.getElem?_eq_getElem hm]
  have hl:(S++T).length=S.length+T.length:=List.length_append
  refine⟨⟨hi0,by omega⟩,λa c _=>⟨by rw[z01 z1i,hl,Int.toNat_natCast];show 0+m*10+8+1<=_;omega,⟨T,e1,(a,fs.length,c),fs⟩,?_,rfl,?_,⟨hST,λ_=>⟨i0,iT,iF,by show fs.length<=30;omega⟩⟩,λq hq=>⟨hq.1.2.1,?_,hq.1.2.2⟩⟩⟩
  ·show((if e1=0 then z7m S (m:Int) (a,fs.length,c) fs else S)++T).length=_
   rw[if_pos he,es,List.length_append,List.length_set,hl]
  ·show z00 AT.cells ((if e1=0 then z7m S (m:Int) (a,fs.length,c) fs else S)++T)=_
   rw[if_pos he,es]
   exact zh1 S m hm _ _ T
  ·refine⟨rfl,hq.2.1,?_⟩
   have:=hq.2.2
   rw[List.take_of_length_le (by rw[z01 z8s];exact Nat.le_refl _)]at this
   exact this
 refine⟨λhlt=>⟨λhe0=> ?_,λhe0=>⟨λh=>fin1 h,λh=>fin0 h⟩⟩,λhge=>⟨λh=>fin1 h,λh=>fin0 h⟩⟩
 have hjl:j<t.l.length:=by omega
 have hat:=λq (hq:g.ok q)=>z0z z37 (by decide) (hy q hq) hjl
 have cw:t.l[j].wf:=GJ.wfs_at lww.2.2.2.2.2.2 hjl
 have cok:∀q,g.ok q->t.l[j].ok q:=λq hq=>by have:=lok q hq;rw[GJ.ok_eq]at this;exact GJ.oks_at this.2.2 hjl
 refine⟨⟨by omega,by omega⟩,(hat p1 hp1).1,t.l[j].k,t.l[j].n,t.l[j].s,t.l[j].y.1,t.l[j].y.2.1,t.l[j].y.2.2,t.l[j].x.1,t.l[j].x.2.1,t.l[j].x.2.2,λq hq=>(hat q hq.1).2,λh6=>⟨S++T,rfl,rfl,⟨T,faE e1 2,(none,0,0),[]⟩,by show(_++T).length=_;rw[z _ _ _ _ (z0i (by decide))],rfl,by show z00 AT.cells (_++T)=_;rw[z _ _ _ _ (z0i (by decide))],⟨hST,λh=>absurd h (z0i (by decide))⟩,λq hq=>⟨hq.2.1,z05,λf hf=>(by cases hf)⟩⟩,λh6=> ?_⟩
 obtain⟨e00,hTg,hfg⟩:=hinv he0
 clear fin0 fin1 z bad
 refine⟨⟨S++T,e1,t.l[j],mkS [110,97,109,101],true⟩,rfl,rfl,rfl,rfl,rfl,rfl,rfl,rfl,rfl,rfl,rfl,rfl,rfl,rfl,cw,λq hq=>cok q hq.1,?_⟩
 simp only
 have hnm:=zn6 cw (mkS [110,97,109,101]) true e1
 have hwe:(woR t.l[j] (mkS [110,97,109,101]) true e1).2=0->e1=0:=zq4
 generalize woR t.l[j] (mkS [110,97,109,101]) true e1=W at*
 refine⟨⟨⟨λ_=>⟨by omega,_,rfl⟩,λ_=>⟨false,rfl⟩⟩,λ_ _=>⟨S++T,rfl,rfl,rfl,rfl,λh=>(z2v (by decide) h).elim⟩⟩,?_⟩
 intro e4 h4
 refine⟨⟨⟨0,e4⟩,rfl,rfl,λh=>h⟩,?_⟩
 rintro⟨k,e5⟩ h5
 simp only at h5⊢
 have hST':=hST
 refine⟨λhkl=>⟨⟨by omega,by omega⟩,fs[k]'(by omega)|>.nm,zwd (by omega),λ_=>⟨S++T,rfl,rfl,⟨by omega,by omega⟩,⟨k+1,faE e5 5⟩,by show((k+1:Nat):Int)=_;omega,rfl,rfl,rfl,λh=>(z2v (by decide) h).elim,by show 100- (k+1)<100- k;omega⟩,λ_=>⟨⟨by omega,by omega⟩,⟨k+1,e5⟩,by show((k+1:Nat):Int)=_;omega,rfl,h5,by show 100- (k+1)<100- k;omega⟩⟩,λhkl=> ?_⟩
 obtain⟨tw,tok⟩:=z16 (mkS [116,121,112,101]) cw
 refine⟨⟨t.l[j],mkS [116,121,112,101]⟩,rfl,rfl,rfl,rfl,rfl,rfl,rfl,rfl,rfl,rfl,cw,λq hq=>cok q hq.1,?_⟩
 simp only
 generalize (z0b (mkS [116,121,112,101]) t.l[j]).getD zJ=ty at*
 refine⟨λ_=>⟨S++T,rfl,rfl,rfl,rfl,λh=>(z2v (by decide) h).elim⟩,?_⟩
 intro e7 h7
 refine⟨⟨by omega,by omega⟩,⟨S++T,e7,ty,sp,d+1⟩,rfl,rfl,rfl,rfl,rfl,rfl,rfl,rfl,rfl,rfl,rfl,rfl,rfl,rfl,⟨by show(25- (d+1)).toNat<n;omega,hST,tw,by omega,by omega,hsp⟩,λq hq=>tok q (cok q hq.1),?_⟩
 rintro⟨U,e8,r⟩ ⟨⟨hU,hU2⟩,hr⟩ ⟨p2,hp2,hU3⟩
 simp only at hU hU2 hr hU3⊢
 obtain⟨dw,dok⟩:=z16 (mkS [100,101,102,97,117,108,116]) cw
 refine⟨⟨t.l[j],mkS [100,101,102,97,117,108,116]⟩,rfl,rfl,rfl,rfl,rfl,rfl,rfl,rfl,rfl,rfl,cw,λq hq=>cok q hq.1.1,⟨S++T++U,e8,t.l[j],mkS [97,108,105,97,115,101,115]⟩,rfl,rfl,rfl,rfl,rfl,rfl,rfl,rfl,rfl,rfl,rfl,rfl,rfl,cw,λq hq=>cok q hq.1.1,?_⟩
 have hsz:∀x∈(z1u t.l[j] (mkS [97,108,105,97,115,101,115]) e8).1,x.size<1000:=z5t cw
 have hLl:(z1u t.l[j] (mkS [97,108,105,97,115,101,115]) e8).1.length<1000:=z5s cw
 have hE:(z1u t.l[j] (mkS [97,108,105,97,115,101,115]) e8).2.2=0->e8=0:=ze9
 simp only
 generalize z1u t.l[j] (mkS [97,108,105,97,115,101,115]) e8=F at*
 generalize hdj:(z0b (mkS [100,101,102,97,117,108,116]) t.l[j]).getD zJ=df at*
 rintro a m c ⟨p3,hp3,hl3⟩
 have hm:m=F.1.length:=hl3.1
 subst hm
 have hat2:=λ(k:Nat) (hk:k<F.1.length) (q:Pub) (hq:slP txV (a,F.1.length,c) F.1 q)=>(show a≠noA/\q3p q (adr a (k*1)) [.string F.1[k]]from z0z z0t (by decide) hq hk)
 refine⟨⟨⟨0,F.2.2⟩,rfl,rfl,λh=>h⟩,?_⟩
 rintro⟨x,e9⟩ h9
 simp only at h9⊢
 have hlen:(S++(T++U)).length=(S++T).length+U.length:=by rw[←List.append_assoc];exact List.length_append
 refine⟨λhx=>⟨λh0=>⟨⟨by omega,by omega⟩,(hat2 x (by omega) p3 hl3).1,F.1[x]'(by omega),λq hq=>(hat2 x (by omega) q hq.2).2,by have:=hsz _ (List.getElem_mem (show x<F.1.length by omega));omega,λ_=>⟨S++T++U,rfl,rfl,⟨by omega,by omega⟩,⟨x+1,faE e9 6⟩,by show((x+1:Nat):Int)=_;omega,rfl,rfl,rfl,λh=>(z2v (by decide) h).elim,by show 2000- (x+1)<2000- x;omega⟩,λ_=>⟨⟨by omega,by omega⟩,⟨x+1,e9⟩,by show((x+1:Nat):Int)=_;omega,rfl,h9,by show 2000- (x+1)<2000- x;omega⟩⟩,λh0=> ?xa⟩,λhx=> ?xb⟩
 case xa|xb=>
  refine⟨z01 z8s fs,by omega,⟨by omega,by omega⟩,⟨j+1,e9,T++U,fs++[⟨W.1,(a,F.1.length,c),F.1,r,(z0b (mkS [100,101,102,97,117,108,116]) t.l[j]).isSome,df⟩]⟩,by show((j+1:Nat):Int)=_;omega,by simp,by rw[List.append_assoc],rfl,by rw[List.append_assoc],by rw[z04];rfl,λq hq=>hq.1.1.1,λq hq=>⟨λy hy=>(List.mem_append.1 hy).elim (hq.1.1.2.1 y) (hq.1.2 y),λf hf=>(List.mem_append.1 hf).elim (hq.1.1.2.2 f) λh=> ?_⟩,⟨by show j+1<=(fdJ g).l.length;rw[hfd];omega,by show(fs++[_]).length<=j+1;simp;omega,by show(S++(T++U)).length<=60;rw[←List.append_assoc];exact hU,λh=>⟨e00,λy hy=> ?_,λf hf=> ?_⟩⟩,by show _- (j+1)<_;omega⟩
  ·simp at h;subst h;exact⟨hq.2,dok q (cok q hq.1.1.1)⟩
  ·show z1v (S++(T++U)).length y
   obtain⟨u1,u2⟩:=hU2 (hE (h9 h))
   rcases List.mem_append.1 hy with hy|hy
   ·exact z51 (by omega) (hTg y hy)
   ·have:=u2 y hy;rw[List.append_assoc]at this;exact this
  ·show(0<=f.ty/\f.ty<((S++(T++U)).length:Int))/\f.df.wf
   obtain⟨r0,r1⟩:=hr (hE (h9 h))
   rw[List.append_assoc]at r1
   rcases List.mem_append.1 hf with hf|hf
   ·have:=hfg f hf;exact⟨by omega,this.2⟩
   ·simp at hf;subst hf;exact⟨⟨r0,r1⟩,dw⟩
def nmT(k:Int) (W:ByteArray) (r n:Nat) (num:Nat):AO:= .cells 55 (some 0) false [.sv (.int .i64 k), .sv (.string W), .ssl r 0 n 1 num, .int .i64 0, .nsl, .bool false, .str [], .int .i64 0, .nsl, .nsl]
abbrev NlS:=Nat×Int×List ByteArray
def zeo:NmS->WayF:=λ⟨S,e,g,k,sp,d⟩=>{
  cut:=λr _ _=>match r with
    | 7 =>some {σ:=Int×ByteArray,pre:=λ⟨e',s⟩=>(e'=0->e=0)/\(s.size:Int)<=1100*d,find:=some λt h=>(match mkE h 1 with
        | some e'=>match slS t 3 with
          |some s=>some (e',s)
          |none=>none
        |none=>none),t:=λ⟨e',s⟩=>[(3, .sv (.string s))],h:=λ⟨e',s⟩=>[mkC S e' 2 3],more:=0,μ:=λ_=>0,keep:=[0,2,4,6,11]}
    |19=>some {σ:=Int,pre:=λe'=>e'=0->e=0,find:=some λ_ h=>mkE h 1,t:=λ_=>[],h:=λe'=>[mkC S e' 2 3],more:=0,μ:=λ_=>0,keep:=[0,2,3,4,6,14]}
    |_=>none
  ann:=λid t h=>match h.get 15 with
    |some (.cells _ _ _ (_:: .sv (.string W)::_))=>some {σ:=NlS,pre:=λ⟨j,e',acc⟩=>(j:Int)<=1000/\acc.length<=j/\(e'=0->e=0),t:=λ⟨j,e',acc⟩=>[(17, .sv (.int .i64 (j:Int)))],h:=λ⟨j,e',acc⟩=>[mkC S e' 2 3,(15,nmT k W 22 acc.length 23),(22, .row 9 0 (z00 txV acc))],more:=2,μ:=λ⟨j,e',acc⟩=>1000- j,keep:=[0,2,3,4,6,14,15]}
    |_=>none
  pub:=λi k=>match i,k with
    |21,2=>[107]
    |_,_=>[]}
end
end Go.Proofs.YtniogjgfomaicaaGreat.Wd
