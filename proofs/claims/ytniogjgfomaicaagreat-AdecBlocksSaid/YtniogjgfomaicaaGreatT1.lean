/-
  What the functions do: contracts, and their questions answered. No condition but what its theorems ask.
-/
import Derived.Test.YtniogjgfomaicaaGreatRx
import Derived.Test.YtniogjgfomaicaaGreatU6
import Derived.Test.YtniogjgfomaicaaGreatProg
import Derived.Laws.BitsAllLaws
namespace Go.Proofs.YtniogjgfomaicaaGreat.Wd
open Go.Proofs.YtniogjgfomaicaaGreat.Eng Go.Proofs.YtniogjgfomaicaaGreat.Sen Go.RowKit
set_option linter.defProp false
set_option linter.unusedVariables false
set_option linter.unusedSimpArgs false
set_option maxRecDepth 1000000
open Go.Value (int string slice bool)
open Go.IntKind (i64 u64 u8 u32 i32)
open _root_.List (length take drop)
open _root_.ByteArray (size)
open _root_.Int (toNat)
noncomputable section
abbrev P:=Tryz.prog
def mixed:P.follows .mixedOrders=true:=by decide+kernel
theorem qF{calls:Nat->Option Ct} (hc:∀g C,calls g=some C->q4p P g C) {f:Nat} {fn:Func} {C:Ct} {W:C.σ->WayF} (hfn:P.funcs[f]? =some fn) (hv:∀s,qk3 P calls fn C W s) (hb:q25 P f fn=true:=by kernel_rfl) (h1:1<=C.m:=by exact Nat.le_of_ble_eq_true rfl) (hle:C.m<=C.m':=by exact Nat.le_of_ble_eq_true rfl) (hn:∀s,Nat.ble (C.args s).length fn.ntmps=true:=by exactλ_=>by kernel_rfl):q4p P f C:=qk6 mixed hc hfn hb h1 hle hn hv
theorem bA{calls:Nat->Option Ct} (hc:∀g C,calls g=some C->q4p P g C) {rel:Nat->Option CtR} (hrel:∀g C,rel g=some C->q1q P g C) {f:Nat} {fn:Func} {C:Ct} {W:C.σ->WayF} (hfn:P.funcs[f]? =some fn) (hv:∀s,qk5 P calls rel fn C W s) (hb:q25 P f fn=true:=by kernel_rfl) (h1:1<=C.m:=by exact Nat.le_of_ble_eq_true rfl) (hle:C.m<=C.m':=by exact Nat.le_of_ble_eq_true rfl) (hn:∀s,Nat.ble (C.args s).length fn.ntmps=true:=by exactλ_=>by kernel_rfl):q4p P f C:=qjc mixed hc hrel hfn hb h1 hle hn hv
theorem zt{calls:Nat->Option Ct} (hc:∀g C,calls g=some C->q4p P g C) {rel:Nat->Option CtR} (hrel:∀g C,rel g=some C->q1q P g C) {f:Nat} {fn:Func} {C:CtR} {W:C.σ->WayF} (hfn:P.funcs[f]? =some fn) (hv:∀s,qk4 P calls rel fn C W s) (hb:q25 P f fn=true:=by kernel_rfl) (h1:1<=C.m:=by exact Nat.le_of_ble_eq_true rfl) (hle:C.m<=C.m':=by exact Nat.le_of_ble_eq_true rfl) (hn:∀s,Nat.ble (C.args s).length fn.ntmps=true:=by exactλ_=>by kernel_rfl):q1q P f C:=qjb mixed hc hrel hfn hb h1 hle hn hv
theorem qH:(∀(p:Prop) [Decidable p],(decide p=true)=p)/\(∀(p:Prop) [Decidable p],(decide p=false)=¬p)/\(∀b:Bool,((!b)=true)=(b=false))/\(∀b:Bool,((!b)=false)=(b=true))/\(∀p,(True/\p)=p)/\(∀p,(p/\True)=p)/\(∀(α:Type) (a:α),(a=a)=True)/\(∀p:Prop,(p->p)=True)/\(∀α:Type,(α->True)=True)/\(∀p:Prop,(p->True)=True):=⟨λ_ _=>by simp,λ_ _=>by simp,by simp,by simp,by simp,by simp,by simp,by simp,by simp,by simp⟩
abbrev Jb(a:Int):Prop:=(-9223372036854775808:Int)<=a/\a<=9223372036854775807
abbrev Jt(p:Prop) [Decidable p]:Prop:=decide p=true
abbrev Jf(p:Prop) [Decidable p]:Prop:=decide p=false
abbrev Ji(p:Prop) [Decidable p] (a b:Prop):Prop:=(Jt p->a)/\(Jf p->b)
def jz:∀g C,(λ_=>none:Nat->Option Ct) g=some C->q4p P g C:=λg C h=>by cases h
def jT(t:T AV) (k:Nat):Option Int:=match t.get k with
  | some a=>match gi a with
    |some (_,i)=>some i
    |none=>none
  |none=>none
def z46:Pl noA:=trivial
def qa{α:Type} (f:α->List Value):List α->List Value
 | []=>[]
 |x::l=>f x++qa f l
def qv{α:Type} {f:α->List Value} {e:Nat} (hf:∀x,(f x).length=e):∀l,(qa f l).length=l.length*e
  | []=>by simp[qa]
  | x::l=>by rw[qa,List.length_append,hf,qv hf l,List.length_cons,Nat.succ_mul];omega
def zx{α:Type} {f:α->List Value}:∀l m,qa f (l++m)=qa f l++qa f m
  | [],m=>rfl
  | x::l,m=>by show f x++qa f (l++m)=_;rw[zx l m,←List.append_assoc];rfl
def Zb{α:Type} {f:α->List Value} {e:Nat} (hf:∀x,(f x).length=e):∀(l:List α) (i:Nat) (hi:i<l.length) (j:Nat),j<e->(qa f l)[i*e+j]? =(f l[i])[j]?
  | x::l,0,_,j,hj=>by show(f x++qa f l)[0*e+j]? =_;rw[Nat.zero_mul,Nat.zero_add,List.getElem?_append_left (by rw[hf];exact hj)];rfl
  | x::l,i+1,hi,j,hj=>by show(f x++qa f l)[(i+1)*e+j]? =_;have:(i+1)*e=i*e+e:=Nat.succ_mul i e;rw[List.getElem?_append_right (by rw[hf];omega),show(i+1)*e+j- (f x).length=i*e+j by rw[hf];omega];exact Zb hf l i (by simpa using hi) j hj
def jv4(x:Addr) (h:x.spot=none) (i j:Nat):(x.add i).add j=x.add (i+j):=by
 obtain⟨b,o,s⟩:=x;simp only at h;subst h;unfold Addr.add;by_cases hi:i=0
 ·subst hi;simp
 ·by_cases hj:j=0
  ·subst hj;simp[hi]
  ·rw[if_neg hi,if_neg hj,if_neg (by omega)];simp only[Nat.add_assoc]
def zff{α:Type} {f:α->List Value} {e:Nat} (hf:∀x,(f x).length=e) (he:0<e) {p:Pub} {a:Option Addr} {n c:Nat} {l:List α} (h:qgt p a n c (qa f l)) {i:Nat} (hi:i<l.length):a≠noA/\q37 p (adr a (i*e)) (f l[i]):=by
 rcases h.2 with h|⟨x,rfl,h1,h2⟩
 ·have:=congrArg List.length h.1;rw[qv hf,List.length_nil]at this;have:=Nat.mul_pos (show 0<l.length by omega) he;omega
 ·refine⟨by simp,λj v hj=> ?_⟩;have hje:j<e:=by have:=(List.getElem?_eq_some_iff.mp hj).1;rw[hf]at this;exact this
  show q5n p ((x.add (i*e)).add j)=some v;rw[jv4 x h1];exact h2 _ v (by rw[Zb hf l i hi j hje];exact hj)
open Go.Proofs.YtniogjgfomaicaaGreat.Rv
def vi(r:Nat):Int:=if r % 2=0 then(r / 2:Nat)else -((r / 2:Nat):Int)- 1
def zg(n:Int):Nat:=if 0<=n then 2*n.toNat else 2*(-n- 1).toNat+1
def zhc:Ct where
 σ:=IV
 args:=λs=>[.sv (.string s)]
 h:=λ_=>[]
 m:=1
 pre:=λs=>s.size<1000000000000000000
 find:=some λl _=>match l with
  | [a]=>gs a
  |_=>none
 r:=λs=> .tup [.sv (.int .u64 (vval s.data.toList:Nat)), .sv (.int .i64 (vlen s.data.toList:Nat)), .sv (.int .i64 (verr s.data.toList:Nat))]
 h':=λ_=>[]
 m':=1
 g:=λ_=>none
def N4:Ct where
 σ:=Nat
 args:=λr=>[.sv (.int .u64 (r:Nat))]
 h:=λ_=>[]
 m:=1
 pre:=λr=>r<18446744073709551616
 r:=λr=> .sv (.int .u64 ((vi r) % 18446744073709551616))
 h':=λ_=>[]
 m':=1
 g:=λ_=>none
def NY:Ct where
 σ:=Nat
 args:=λr=>[.int .i64 8, .sv (.int .u64 (r:Nat))]
 h:=λ_=>[]
 m:=1
 pre:=λr=>r<18446744073709551616
 r:=λr=> .sv (.int .u64 ((vi r) % 18446744073709551616))
 h':=λ_=>[]
 m':=1
 g:=λ_=>none
def Dc:Ct where
 σ:=Int
 args:=λn=>[.sv (.int .u64 (n % 18446744073709551616))]
 h:=λ_=>[]
 m:=1
 pre:=λn=> -9223372036854775808<=n/\n<9223372036854775808
 r:=λn=> .sv (.int .u64 (zg n:Nat))
 h':=λ_=>[]
 m':=1
 g:=λ_=>none
def Db:Ct where
 σ:=Int
 args:=λn=>[.int .i64 8, .sv (.int .u64 (n % 18446744073709551616))]
 h:=λ_=>[]
 m:=1
 pre:=λn=> -9223372036854775808<=n/\n<9223372036854775808
 r:=λn=> .sv (.int .u64 (zg n:Nat))
 h':=λ_=>[]
 m':=1
 g:=λ_=>none
def Og:Ct where
 σ:=Nat
 args:=λz=>[.sv (.int .u64 (z:Nat))]
 h:=λ_=>[]
 m:=1
 pre:=λz=>z<18446744073709551616
 r:=λz=> .sv (.string ⟨(venc z).toArray⟩)
 h':=λ_=>[]
 m':=2
 g:=λ_=>none
def Hc:Ct where
 σ:=Int
 args:=λn=>[.sv (.int .i64 n)]
 h:=λ_=>[]
 m:=1
 pre:=λn=> -9223372036854775808<=n/\n<9223372036854775808
 r:=λn=> .sv (.string ⟨(venc (zg n)).toArray⟩)
 h':=λ_=>[]
 m':=2
 g:=λ_=>none
def jm(x:SV) (s:IV) (i c:Int):List (Nat×AO):=[(1, .cells 75 (some 0) false [.sv (.slice x.1 x.2.1 x.2.2), .sv (.string s), .sv (.int .i64 i), .sv (.int .i64 c)])]
def qb(s:IV) (i:Nat):Int×Nat×Nat:=(vi (vval (s.data.toList.drop i)),verr (s.data.toList.drop i),i+vlen (s.data.toList.drop i))
def Dd(h:T AO) (id:Nat):Option (SV×IV×Int×Int):=match h.get id with
  | some (.cells _ _ _ [.sv (.slice a n c),s,i,k])=>match gs s with
    | some s=>match gi i with
      | some (_,i)=>match gi k with
        |some (_,k)=>some ((a,n,c),s,i,k)
        |none=>none
      |none=>none
    |none=>none
  |_=>none
abbrev kQ:=SV×IV×Int×Int
def Hj(l:List AV) (h:T AO):Option kQ:=match l with
 | .ptr id _::_=>Dd h id
 |_=>none
def qW:kQ->Prop:=λ⟨x,s,i,c⟩=>0<=i/\i<=s.size/\s.size<100000000000000000
def VI:Ct where
 σ:=kQ
 args:=λ⟨x,s,i,c⟩=>[.ptr 1 0]
 h:=λ⟨x,s,i,c⟩=>jm x s i c
 m:=2
 pre:=qW
 find:=some Hj
 r:=λ⟨x,s,i,c⟩=> .tup [.sv (.int .i64 (qb s i.toNat).1), .sv (.int .i64 ((qb s i.toNat).2.1:Nat))]
 h':=λ⟨x,s,i,c⟩=>jm x s ((qb s i.toNat).2.2:Nat) c
 m':=2
 g:=λ_=>none
def qN(s:IV) (i:Nat):Int×Int×Int×Nat:=
 if(qb s i).2.1≠0\/0<=(qb s i).1 then((qb s i).1, -1,((qb s i).2.1:Nat),(qb s i).2.2)else
 if(qb s i).1= -9223372036854775808 then(0,0,2,(qb s i).2.2)else
 if(qb s (qb s i).2.2).2.1≠0 then(0,0,((qb s (qb s i).2.2).2.1:Nat),(qb s (qb s i).2.2).2.2)else
 if(qb s (qb s i).2.2).1<0 then(0,0,2,(qb s (qb s i).2.2).2.2)else
 (-(qb s i).1,(((qb s (qb s i).2.2).2.2:Nat):Int)+(if(9223372036854775807:Int)- (((qb s (qb s i).2.2).2.2:Nat):Int)<(qb s (qb s i).2.2).1 then(9223372036854775807:Int)- (((qb s (qb s i).2.2).2.2:Nat):Int)else(qb s (qb s i).2.2).1),0,(qb s (qb s i).2.2).2.2)
def Ig:Ct where
 σ:=kQ
 args:=λ⟨x,s,i,c⟩=>[.ptr 1 0]
 h:=λ⟨x,s,i,c⟩=>jm x s i c
 m:=2
 pre:=qW
 find:=some Hj
 r:=λ⟨x,s,i,c⟩=> .tup [.sv (.int .i64 (qN s i.toNat).1), .sv (.int .i64 (qN s i.toNat).2.1), .sv (.int .i64 (qN s i.toNat).2.2.1)]
 h':=λ⟨x,s,i,c⟩=>jm x s ((qN s i.toNat).2.2.2:Nat) c
 m':=2
 g:=λ_=>none
def kR(s:IV) (i:Nat) (o:Int):Nat:=if(qb s i).2.1=0/\((qb s i).1<0\/o<=(qb s i).1)then 2 else(qb s i).2.1
def z72:Ct where
 σ:=Int×kQ
 args:=λ⟨o,x,s,i,c⟩=>[.ptr 1 0, .sv (.int .i64 o)]
 h:=λ⟨o,x,s,i,c⟩=>jm x s i c
 m:=2
 pre:=λ⟨o,d⟩=>qW d
 r:=λ⟨o,x,s,i,c⟩=> .tup [.sv (.int .i64 (qb s i.toNat).1), .sv (.int .i64 (kR s i.toNat o:Nat))]
 h':=λ⟨o,x,s,i,c⟩=>jm x s ((qb s i.toNat).2.2:Nat) c
 m':=2
 g:=λ_=>none
def zqe(r:Nat):qk3 P (λ_=>none) Tryz.f130 N4 (λ_=>{}) r=(r<(18446744073709551616:Nat)->(0:Int)<=(1:Int)/\vi r % (18446744073709551616:Int)=qaf BinOp.xor IntKind.u64 (shP BinOp.shr IntKind.u64 (↑r:Int) (1:Int)) (IntKind.wrap IntKind.u64 ((0:Int)- qaf BinOp.and IntKind.u64 (↑r:Int) (1:Int)))/\True):=by kernel_rfl
def zoh(r:Nat):qk3 P (qfa [(130,N4)]) Tryz.f116 NY (λ_=>{}) r=(r<(18446744073709551616:Nat)->∃(s:Nat),(↑s:Int)=(↑r:Int)/\s<(18446744073709551616:Nat)/\vi r % (18446744073709551616:Int)=vi s % (18446744073709551616:Int)/\True):=by kernel_rfl
def jeg(n:Int):qk3 P (λ_=>none) Tryz.f78 Dc (λ_=>{}) n=((-9223372036854775808:Int)<=n/\n<(9223372036854775808:Int)->(decide ((9223372036854775808:Int)<=n % (18446744073709551616:Int))=true->(↑(zg n):Int)=IntKind.wrap u64 (IntKind.wrap u64 (qaf BinOp.xor u64 (IntKind.max u64) (n % (18446744073709551616:Int))*(2:Int))+(1:Int))/\True)/\(decide ((9223372036854775808:Int)<=n % (18446744073709551616:Int))=false->(↑(zg n):Int)=IntKind.wrap u64 (n % (18446744073709551616:Int)*(2:Int))/\True)):=by kernel_rfl
def j7n(n:Int):qk3 P (qfa [(78,Dc)]) Tryz.f39 Db (λ_=>{}) n=((-9223372036854775808:Int)<=n/\n<(9223372036854775808:Int)->∃(s:Int),s % (18446744073709551616:Int)=n % (18446744073709551616:Int)/\((-9223372036854775808:Int)<=s/\s<(9223372036854775808:Int))/\(↑(zg n):Int)=(↑(zg s):Int)/\True):=by kernel_rfl
def zp4(n:Int):qk3 P (qfa [(39,Db),(38,Og)]) Tryz.f25 Hc (λ_=>{}) n=((-9223372036854775808:Int)<=n/\n<(9223372036854775808:Int)->∃(s:Int),s % (18446744073709551616:Int)=IntKind.wrap u64 n/\((-9223372036854775808:Int)<=s/\s<(9223372036854775808:Int))/\∃(s_1:Nat),(↑s_1:Int)=(↑(zg s):Int)/\s_1<(18446744073709551616:Nat)/\ByteArray.mk (List.toArray (Proofs.YtniogjgfomaicaaGreat.Rv.venc (zg n)))=ByteArray.mk (List.toArray (Proofs.YtniogjgfomaicaaGreat.Rv.venc s_1))/\True):=by kernel_rfl
section
variable (b:Int) (a:IV) (c:SV) (e:Int)
 abbrev Xq:=Array.toList (ByteArray.data (ByteArray.extract a (toNat b) (size a)))
 abbrev Dh:=(↑(Proofs.YtniogjgfomaicaaGreat.Rv.vlen (Xq b a)):Int)
 def bM:=(0<=b/\b<=(↑(size a):Int))/\ByteArray.extract a (toNat b) (size a)=ByteArray.extract a (toNat b) (size a)/\size (ByteArray.extract a (toNat b) (size a))<1000000000000000000/\Jb (b+(Dh b a))/\∃(d:Nat),(↑d:Int)=(↑(Proofs.YtniogjgfomaicaaGreat.Rv.vval (Xq b a)):Int)/\d<18446744073709551616/\(qb a (toNat b)).1=IntKind.wrap i64 (vi d % 18446744073709551616)/\(↑(qb a (toNat b)).2.1:Int)=(↑(Proofs.YtniogjgfomaicaaGreat.Rv.verr (Xq b a)):Int)/\c.1=c.1/\c.2.1=c.2.1/\c.2.2=c.2.2/\a=a/\(↑(qb a (toNat b)).2.2:Int)=b+(Dh b a)/\e=e/\True
end
def zp5(x:SV) (s:IV) (i c:Int):qk3 P (qfa [(115,zhc),(116,NY)]) Tryz.f86 VI (λ_=>{}) ⟨x,s,i,c⟩=(qW (x,s,i,c)->bM i s x c):=by kernel_rfl
def zxh:=λx s i c=>Eq.trans (zp5 x s i c) (by delta Jb Xq Dh bM;exact rfl)
section
variable (c:SV) (a:IV) (b d:Int) (g:Prop) (h:Int)
 abbrev Ks:=c.1=c.1/\c.2.1=c.2.1/\c.2.2=c.2.2/\a=a/\g
 abbrev HQ:=(↑(qb a (toNat b)).2.1:Int)
 abbrev Qk:=(qN a (toNat b)).2.2
 abbrev JG:=(↑(qb a (toNat b)).2.2:Int)
 def Di:=(qN a (toNat b)).1=(qb a (toNat b)).1/\(qN a (toNat b)).2.1= -1/\(Qk a b).1=(HQ a b)/\Ks c a ((↑(Qk a b).2:Int)=(JG a b)/\d=d/\True)
 def HO:=(qN a (toNat b)).1=0/\(qN a (toNat b)).2.1=0/\g
 def OK:=HO a b ((Qk a b).1=2/\Ks c a ((↑(Qk a b).2:Int)=(JG a b)/\d=d/\True))
 abbrev Qj:=qb a (toNat (JG a b))
 abbrev wN:=(↑(Qj a b).2.2:Int)
 def OL:=HO a b ((Qk a b).1=(↑(Qj a b).2.1:Int)/\Ks c a ((↑(Qk a b).2:Int)=(wN a b)/\d=d/\True))
 def HP:=(Qk a b).1=h/\Ks c a ((↑(Qk a b).2:Int)=(wN a b)/\d=d/\True)
 abbrev OM:=HO a b (HP c a b d 2)
 def Is:=((-9223372036854775808:Int)<=9223372036854775807- (wN a b)/\(9223372036854775807:Int)- (wN a b)<=9223372036854775807)
 def bW:=Is a b/\∃(e:Int),e=IntKind.wrap i64 ((0:Int)- (qb a (toNat b)).1)/\Jb ((wN a b)+((9223372036854775807:Int)- (wN a b)))/\(qN a (toNat b)).1=e/\(qN a (toNat b)).2.1=(wN a b)+((9223372036854775807:Int)- (wN a b))/\HP c a b d 0
 def bV:=Is a b/\Ji ((9223372036854775807:Int)- (wN a b)<(Qj a b).1) (bW c a b d) (∃(f:Int),f=IntKind.wrap i64 ((0:Int)- (qb a (toNat b)).1)/\Jb ((wN a b)+(Qj a b).1)/\(qN a (toNat b)).1=f/\(qN a (toNat b)).2.1=(wN a b)+(Qj a b).1/\HP c a b d 0)
 def bU:=Ji ((Qj a b).1<0) (OM c a b d) (bV c a b d)
 def bS:=Ks c a ((JG a b)=(JG a b)/\d=d/\qW ((c.1,c.2.1,c.2.2),a,(JG a b),d)/\((!decide ((↑(Qj a b).2.1:Int)=0))=true->OL c a b d)/\((!decide ((↑(Qj a b).2.1:Int)=0))=false->bU c a b d))
 def bR:=Ji ((qb a (toNat b)).1= -9223372036854775808) (OK c a b d) (bS c a b d)
 def bQ:=Ji (0<=(qb a (toNat b)).1) (Di c a b d) (bR c a b d)
 def bO:=Ks c a (b=b/\d=d/\qW ((c.1,c.2.1,c.2.2),a,b,d)/\((!decide ((HQ a b)=0))=true->Di c a b d)/\((!decide ((HQ a b)=0))=false->bQ c a b d))
end
def zop(x:SV) (s:IV) (i c:Int):qk3 P (qfa [(86,VI)]) Tryz.f81 Ig (λ_=>{}) ⟨x,s,i,c⟩=(qW (x,s,i,c)->bO x s i c):=by kernel_rfl
def head_eq:=λx s i c=>Eq.trans (zop x s i c) (by delta Ji Jb Jt Jf Ks HQ Qk JG Di HO OK Qj wN OL HP OM Is bW bV bU bS bR bQ bO;exact rfl)
section
variable (c:SV) (a:IV) (b d e:Int) (f:Prop)
 abbrev Xr:=c.1=c.1/\c.2.1=c.2.1/\c.2.2=c.2.2/\a=a/\f
 abbrev Dl:=(↑(qb a (toNat b)).2.1:Int)
 abbrev YC:=(↑(qb a (toNat b)).2.2:Int)
 def Dk:=(qb a (toNat b)).1=(qb a (toNat b)).1/\(↑(kR a (toNat b) d):Int)=2/\Xr c a ((YC a b)=(YC a b)/\e=e/\True)
 def Dj:=(qb a (toNat b)).1=(qb a (toNat b)).1/\(↑(kR a (toNat b) d):Int)=(Dl a b)/\Xr c a ((YC a b)=(YC a b)/\e=e/\True)
 def bZ:=Ji (b<=(qb a (toNat d)).1) (Dk c a d b e) (Dj c a d b e)
 def bY:=Ji ((qb a (toNat b)).1<0) (Dk c a b d e) (bZ c a d b e)
 def bX:=Xr c a (b=b/\d=d/\qW ((c.1,c.2.1,c.2.2),a,b,d)/\Ji ((Dl a b)=0) (bY c a b e d) (Dj c a b e d))
end
def zep(o:Int) (x:SV) (s:IV) (i c:Int):qk3 P (qfa [(86,VI)]) Tryz.f84 z72 (λ_=>{}) ⟨o,x,s,i,c⟩=(qW (x,s,i,c)->bX x s i c o):=by kernel_rfl
def zhf:=λo x s i c=>Eq.trans (zep o x s i c) (by delta Ji Jt Jf Xr Dl YC Dk Dj bZ bY bX;exact rfl)
open Go.Proofs.YtniogjgfomaicaaGreat.Rv
def wrap_u64(n:Int):IntKind.wrap .u64 n=n % 18446744073709551616:=by simp[IntKind.wrap,IntKind.bits,IntKind.signed]
def Vv(r:Nat) (h:r<18446744073709551616):(BitVec.ofInt 64 (r:Int)).toNat=r:=by rw[BitVec.toNat_ofInt];simp;omega
def and_one(r:Nat) (h:r<18446744073709551616):qaf .and .u64 (r:Int) 1=((r % 2:Nat):Int):=by show IntKind.wrap .u64 (BitVec.ofInt 64 (r:Int)&&&BitVec.ofInt 64 1).toNat=_;rw[BitVec.toNat_and,Vv r h,show(BitVec.ofInt 64 1).toNat=1 from rfl,Nat.and_one_is_mod,wrap_u64];omega
def zyq(r:Nat):shP .shr .u64 (r:Int) 1=((r / 2:Nat):Int):=by show Int.fdiv (r:Int) (2 ^ min (1:Int).toNat 64)=_;rw[show(2:Int) ^ min (1:Int).toNat 64=2 from rfl,Int.fdiv_eq_ediv_of_nonneg _ (by omega)];omega
def zfi(r:Nat) (h:r<18446744073709551616):qaf .xor .u64 (shP .shr .u64 (r:Int) 1) (IntKind.wrap .u64 (0- qaf .and .u64 (r:Int) 1))=vi r % 18446744073709551616:=by
 rw[and_one r h,zyq,wrap_u64];unfold vi;have h2:r / 2<18446744073709551616:=by omega
 by_cases e:r % 2=0
 ·rw[if_pos e,e];show IntKind.wrap .u64 (BitVec.ofInt 64 ((r / 2:Nat):Int) ^^^ BitVec.ofInt 64 ((0- (0:Int)) % 18446744073709551616)).toNat=_;rw[show BitVec.ofInt 64 ((0- (0:Int)) % 18446744073709551616)=0#64 from rfl,BitVec.xor_zero,Vv _ h2,wrap_u64]
 ·have e1:r % 2=1:=by omega
  rw[if_neg e,e1];show IntKind.wrap .u64 (BitVec.ofInt 64 ((r / 2:Nat):Int) ^^^ BitVec.ofInt 64 ((0- (1:Int)) % 18446744073709551616)).toNat=_;rw[show BitVec.ofInt 64 ((0- (1:Int)) % 18446744073709551616)=BitVec.allOnes 64 from rfl,BitVec.xor_allOnes,BitVec.toNat_not,Vv _ h2,wrap_u64];omega
def zpb(r:Nat) (h:r<18446744073709551616):qaf .xor .u64 (IntKind.max .u64) (r:Int)=((18446744073709551615- r:Nat):Int):=by show IntKind.wrap .u64 (BitVec.ofInt 64 (IntKind.max .u64) ^^^ BitVec.ofInt 64 (r:Int)).toNat=_;rw[show BitVec.ofInt 64 (IntKind.max .u64)=BitVec.allOnes 64 from rfl,BitVec.allOnes_xor,BitVec.toNat_not,Vv _ h,wrap_u64];omega
def zl1(m:Int) (h1: -9223372036854775808<=m) (h2:m<9223372036854775808):IntKind.wrap .i64 (m % 18446744073709551616)=m:=by simp[IntKind.wrap,IntKind.bits,IntKind.signed];omega
def z6r:∀(l:List UInt8) (i acc v n:Nat),i<=10->acc<2 ^ (7*i)->vdec l i acc=some (v,n)->v<18446744073709551616/\i<n/\n<=i+l.length
  | [],i,acc,v,n,_,_,h=>by simp[vdec]at h
  | c ::r,i,acc,v,n,hi,ha,h=>by
    rw[vdec]at h;split at h
    · cases h
    rename_i h10;split at h
    · cases h
    rename_i h9;have hg:=group_lt (k:=i) (g:=c.toNat % 128) (by omega) (Nat.mod_lt _ (by decide)) h9;split at h
    · cases h;exact⟨by omega,by omega,by simp⟩
    · have p:=pow7 i;have hm:c.toNat % 128<128:=Nat.mod_lt _ (by decide);have hq:c.toNat % 128*2 ^ (7*i)<=127*2 ^ (7*i):=Nat.mul_le_mul_right _ (by omega);obtain⟨h1,h2,h3⟩:=z6r r (i+1) _ v n (by omega) (by rw[p];omega) h;exact⟨h1,by omega,by simp;omega⟩
def ze1(l:List UInt8):vval l<18446744073709551616/\vlen l<=l.length/\verr l<=2/\(verr l=0->1<=vlen l):=by
  unfold vval vlen verr;cases h:vdec l 0 0 with
  |none=>simp
  | some p=>
    obtain⟨v,n⟩:=p;obtain⟨h1,h2,h3⟩:=z6r l 0 0 v n (by omega) (by decide) h;simp;omega
def zv6(r:Nat) (h:r<18446744073709551616): -9223372036854775808<=vi r/\vi r<9223372036854775808:=by unfold vi;split<;>omega
def zo4(s:IV) (i:Nat):(s.extract i s.size).data.toList=s.data.toList.drop i:=by rw[ByteArray.data_extract,Array.toList_extract];show List.take _ _=_;rw[List.take_of_length_le];rw[List.length_drop];exact Nat.le_refl _
def xm(s:IV) (i:Nat) (hi:i<=s.size): -9223372036854775808<=(qb s i).1/\(qb s i).1<9223372036854775808/\(qb s i).2.1<=2/\i<=(qb s i).2.2/\(qb s i).2.2<=s.size/\((qb s i).2.1=0->i<(qb s i).2.2):=by
 obtain⟨h1,h2,h3,h4⟩:=ze1 (s.data.toList.drop i);have hl:(s.data.toList.drop i).length=s.size- i:=by rw[List.length_drop];rfl
 have:=zv6 _ h1;unfold qb;exact⟨this.1,this.2,h3,by show i<=i+_;omega,by show i+_<=s.size;omega,λh=>by have:=h4 h;show i<i+_;omega⟩
def zkb:q4p P 115 zhc:=
 qjw (Sen.enters_of Tryz.func115 (by kernel_rfl)) (by decide) (by decide) (λs=>[.string s]) (λs=> .tuple #[.int .u64 (vval s.data.toList:Nat), .int .i64 (vlen s.data.toList:Nat), .int .i64 (verr s.data.toList:Nat)]) (λs=>rfl) (λs=>rfl) (λs=>rfl) (λs=>rfl)
  (λs I=> .tup (.cons (.sv _) (.cons (.sv _) (.cons (.sv _) .nil))))
  λs w h=>(varint_any s w (by have:s.size<1000000000000000000:=h;unfold maxLen;omega)).mono λe w' he=>by obtain⟨rfl,rfl⟩:=he;exact⟨rfl, .refl _ _⟩
def zy8:q4p P 38 Og:=
 qjw (Sen.enters_of Tryz.func38 (by kernel_rfl)) (by decide) (by decide) (λ(z:Nat)=>[.int .u64 (z:Int)]) (λ(z:Nat)=> .string ⟨(venc z).toArray⟩) (λs=>rfl) (λs=>rfl) (λs=>rfl) (λs=>rfl)
  (λs I=> .sv _) λ(z:Nat) w h=>rput_any z w h
def zqf:q4p P 130 N4:=by refine qF jz (W:=λ_=>{}) Tryz.func130 λ(r:Nat)=>(zqe r).mpr ?_;intro h;exact⟨by decide,(zfi r h).symm,trivial⟩
def zoi:q4p P 116 NY:=by
 refine qF (qcn (qgp zqf qjr)) (W:=λ_=>{}) Tryz.func116 λ(r:Nat)=>(zoh r).mpr ?_
 exactλh=>⟨r,rfl,h,rfl,trivial⟩
def jeh:q4p P 78 Dc:=by
 refine qF jz (W:=λ_=>{}) Tryz.func78 λ(n:Int)=>(jeg n).mpr ?_;rintro⟨h1,h2⟩;simp only[decide_eq_true_eq,decide_eq_false_iff_not,and_true];obtain⟨r,hr⟩:=Int.eq_ofNat_of_zero_le (show 0<=n % 18446744073709551616 by omega);refine⟨λh=> ?_,λh=> ?_⟩
 ·rw[hr,zpb r (by omega),wrap_u64,wrap_u64];unfold zg;rw[if_neg (by omega)];omega
 ·rw[wrap_u64];unfold zg;rw[if_pos (by omega)];omega
def j7o:q4p P 39 Db:=by
 refine qF (qcn (qgp jeh qjr)) (W:=λ_=>{}) Tryz.func39 λ(n:Int)=>(j7n n).mpr ?_
 exactλh=>⟨n,rfl,h,rfl,trivial⟩
def B9{n:Int} (h1: -9223372036854775808<=n) (h2:n<9223372036854775808):zg n<18446744073709551616:=by unfold zg;split<;>omega
def j7r{n:Int}:vi (zg n)=n:=by
 unfold zg;split
 ·unfold vi;rw[if_pos (by omega)];omega
 ·unfold vi;rw[if_neg (by omega)];omega
def zde:q4p P 25 Hc:=by refine qF (qcn (qgp j7o (qgp zy8 qjr))) (W:=λ_=>{}) Tryz.func25 λ(n:Int)=>(zp4 n).mpr ?_;rintro⟨h1,h2⟩;exact⟨n,(wrap_u64 n).symm,⟨h1,h2⟩,zg n,rfl,B9 h1 h2,rfl,trivial⟩
def G1:q4p P 86 VI:=by
 refine qF (qcn (qgp zkb (qgp zoi qjr))) (W:=λ_=>{}) Tryz.func86 λ⟨(x:SV),s,(i:Int),(c:Int)⟩=>(zxh x s i c).mpr ?_;rintro⟨h1,h2,h3⟩;simp only[zo4,true_and,and_true,eq_self];obtain⟨f1,f2,f3,f4⟩:=ze1 (s.data.toList.drop i.toNat);have hl:(s.data.toList.drop i.toNat).length=s.size- i.toNat:=by rw[List.length_drop];rfl
 have hu:=zv6 _ f1;have he:(s.extract i.toNat s.size).size=s.size- i.toNat:=by rw[ByteArray.size_extract];omega
 refine⟨⟨h1,h2⟩,by omega,by omega,vval (s.data.toList.drop i.toNat),rfl,f1,(zl1 _ hu.1 hu.2).symm,rfl,?_⟩;show(((i.toNat+vlen (s.data.toList.drop i.toNat):Nat)):Int)=_;omega
def z8r:q4p P 84 z72:=by
 refine qF (qcn (qgp G1 qjr)) (W:=λ_=>{}) Tryz.func84 λ⟨(o:Int),(x:SV),s,(i:Int),(c:Int)⟩=>(zhf o x s i c).mpr ?_;intro h;simp only[decide_eq_true_eq,decide_eq_false_iff_not,true_and,and_true,eq_self];unfold kR;refine⟨h,λh0=>⟨λh1=> ?_,λh1=>⟨λh2=> ?_,λh2=> ?_⟩⟩,λh0=> ?_⟩
 ·rw[if_pos ⟨by omega, .inl h1⟩];rfl
 ·rw[if_pos ⟨by omega, .inr h2⟩];rfl
 ·rw[if_neg (by omega)]
 ·rw[if_neg (by omega)]
def ze9{v:Int} (h1: -9223372036854775808<v) (h2:v<9223372036854775808):IntKind.wrap .i64 (0- v)= -v:=by simp[IntKind.wrap,IntKind.bits,IntKind.signed];omega
def zx3:q4p P 81 Ig:=by
 refine qF (qcn (qgp G1 qjr)) (W:=λ_=>{}) Tryz.func81 λ⟨(x:SV),s,(i:Int),(c:Int)⟩=>(head_eq x s i c).mpr ?_;rintro⟨h1,h2,h3⟩;obtain⟨i,rfl⟩:=Int.eq_ofNat_of_zero_le h1;simp only[decide_eq_true_eq,decide_eq_false_iff_not,Bool.not_eq_true',Bool.not_eq_false',true_and,and_true,eq_self,Int.toNat_natCast];obtain⟨a1,a2,a3,a4,a5,a6⟩:=xm s i (by omega);obtain⟨b1,b2,b3,b4,b5,b6⟩:=xm s (qb s i).2.2 a5;refine⟨⟨h1,h2,h3⟩,λg0=> ?_,λg0=>⟨λg1=> ?_,λg1=>⟨λg2=> ?_,λg2=>⟨⟨by show(0:Int)<=_;omega,by show(((qb s i).2.2:Nat):Int)<=_;omega,h3⟩,?_⟩⟩⟩⟩
 ·unfold qN;rw[if_pos (.inl (by omega))];exact⟨rfl,rfl,rfl,rfl⟩
 ·unfold qN;rw[if_pos (.inr g1)];exact⟨rfl,rfl,rfl,rfl⟩
 ·unfold qN;rw[if_neg (by omega),if_pos g2];exact⟨rfl,rfl,rfl,rfl⟩
 unfold qN;rw[if_neg (show¬((qb s i).2.1≠0\/0<=(qb s i).1)by omega),if_neg g2];clear g0 a3 a6;generalize qb s (qb s i).2.2=B at*;obtain⟨n2,e2,j2⟩:=B;simp only at b1 b2 b3 b4 b5 b6⊢;refine⟨λg3=> ?_,λg3=> ?_⟩
 ·rw[if_pos (by omega)];exact⟨rfl,rfl,rfl,rfl⟩
 ·rw[if_neg (show¬e2≠0 by omega)];refine⟨λg4=>by rw[if_pos g4];exact⟨rfl,rfl,rfl,rfl⟩,λg4=>⟨by omega,λg5=>⟨by omega, -(qb s i).1,(ze9 (by omega) (by omega)).symm,by omega,?_⟩,λg5=>⟨-(qb s i).1,(ze9 (by omega) (by omega)).symm,by omega,?_⟩⟩⟩
  ·rw[if_neg g4,if_pos g5];exact⟨by show -(_:Int)=_;omega,rfl,rfl,rfl⟩
  ·rw[if_neg g4,if_neg g5];exact⟨by show -(_:Int)=_;omega,rfl,rfl,rfl⟩
section
def MT:List Value->Option IV
 | [.string s]=>some s
 |_=>none
def Yx:List Value->Option Int
 | [.int _ c]=>some c
 |_=>none
def xo(s:IV) (j:Nat):bat s j<256:=by unfold bat;exact UInt8.toNat_lt _
variable {s:IV}
def zw8{j:Nat} (h:s.size<=j):bat s j=0:=by unfold bat;rw[getElem?_neg s j (by omega)];rfl
def j5x{j:Nat} (h:j<s.size):bat s j=s[j].toNat:=by unfold bat;rw[getElem?_pos s j h];rfl
def qQ(c:Nat):Nat:=if c<128 then 1 else if 192<=c/\c<224 then 2 else if 224<=c/\c<240 then 3 else if 240<=c/\c<248 then 4 else 0
def z7(c:Nat):Nat:=if c<128 then c else if 192<=c/\c<224 then c- 192 else if 224<=c/\c<240 then c- 224 else if 240<=c/\c<248 then c- 240 else 0
def xQ(c:Nat):Bool:=decide (128<=c)&&decide (c<192)
def zm(s:IV):Nat->Option Nat
  |0=>some 0
  |1=>some (z7 (bat s 0))
  | i+2=>match zm s (i+1)with
    |some r=>if xQ (bat s (i+1))=true then some (r*64+(bat s (i+1)- 128))else none
    |none=>none
def vF(r:Nat):Nat:=if r<128 then 1 else if r<2048 then 2 else if r<65536 then 3 else 4
def vX(r:Nat):Bool:=decide (r<=1114111)&& !(decide (55296<=r)&&decide (r<=57343))
def qE(s:IV):Nat:=if s.size<qQ (bat s 0)then 0 else match zm s (qQ (bat s 0))with
 |none=>0
 |some r=>if qQ (bat s 0)=0\/vX r=false\/vF r≠qQ (bat s 0)then 0 else qQ (bat s 0)
def uD:Nat->IV->Bool
 |0,_=>true
 |f+1,s=>if s.size=0 then true else if qE s=0 then false else uD f (s.extract (qE s) s.size)
def qu(s:IV):Bool:=uD s.size s
def Ih:Ct:=ctS Int (λc=>[.int .u8 c]) Yx (λc=>0<=c/\c<256) (λ_=>{}) λc=> .tup [.sv (.int .i64 (qQ c.toNat:Nat)), .sv (.int .u32 (z7 c.toNat:Nat))]
def MP:Ct:=ctS Int (λc=>[.int .u32 c]) Yx (λc=>0<=c/\c<4294967296) (λ_=>{}) λc=> .sv (.bool (vX c.toNat))
def Nw:Ct:=ctS Int (λc=>[.int .u32 c]) Yx (λc=>0<=c/\c<4294967296) (λ_=>{}) λc=> .sv (.int .i64 (vF c.toNat:Nat))
def G_:Ct:=ctS IV (λs=>[.string s]) MT (λs=>0<s.size/\s.size<9223372036854775808) (λ_=>{}) λs=> .sv (.int .i64 (qE s:Nat))
def Qh:Ct:=ctS IV (λs=>[.string s]) MT (λs=>s.size<9223372036854775808) (λ_=>{}) λs=> .sv (.bool (qu s))
def Gs(t:T AV) (k:Nat):Option IV:=match t.get k with
 |some a=>gs a
 |none=>none
def zvb:G_.σ->WayF:=λs=>{ann:=λ_ _ _=>some {σ:=Int×Int,pre:=λ⟨r,i⟩=>1<=i/\(i<=qQ (bat s 0)\/i=1)/\∃q:Nat,r=q/\(qQ (bat s 0)=0\/zm s i.toNat=some q),find:=some λt _=>match jT t 4 with|some r=>(match jT t 5 with|some i=>some (r,i)|none=>none)|none=>none,t:=λ⟨r,i⟩=>[(4, .sv (.int .u32 r)),(5, .sv (.int .i64 i))],h:=λ_=>[],more:=0,μ:=λ⟨r,i⟩=>5- i.toNat,keep:=[0,2,3]}}
def zv3:Nat->Option Ct:=qfa [(131,Ih),(132,MP),(133,Nw)]
def zvl:Qh.σ->WayF:=λs=>{ann:=λ_ _ _=>some {σ:=IV,pre:=λt=>t.size<=s.size/\qu t=qu s,find:=some λt _=>Gs t 0,t:=λu=>[(0, .sv (.string u))],h:=λ_=>[],more:=0,μ:=λu=>u.size,keep:=[2]}}
def j7k:Nat->Option Ct:=qfa [(117,G_)]
def jR(s:IV):Nat:=if qE s=0 then 0 else(zm s (qE s)).getD 0
def Zc:Ct:=ctS IV (λs=>[.string s]) MT (λs=>s.size<9223372036854775808) (λ_=>{}) λs=> .tup [.sv (.int .u32 (jR s:Nat)), .sv (.int .i64 (qE s:Nat))]
def xT(n:Nat):Nat:=if n=2 then 128 else if n=3 then 2048 else 65536
def zvg:Zc.σ->WayF:=λs=>{
 ann:=λ_ _ _=>some {σ:=Int×Int,pre:=λ⟨v,i⟩=>1<=i/\i<=qQ (bat s 0)/\∃q:Nat,v=q/\zm s i.toNat=some q,find:=some λt _=>match jT t 6 with|some v=>(match jT t 8 with|some i=>some (v,i)|none=>none)|none=>none,t:=λ⟨v,i⟩=>[(6, .sv (.int .u32 v)),(8, .sv (.int .i64 i))],h:=λ_=>[],more:=0,μ:=λ⟨v,i⟩=>5- i.toNat,keep:=[0,5,7]}
 cut:=λr _ _=>match r with
  |14=>some {σ:=Unit,pre:=λ_=>0<s.size/\2<=qQ (bat s 0),find:=some λ_ _=>some (),t:=λ_=>[(5, .sv (.int .i64 (qQ (bat s 0):Nat))),(6, .sv (.int .u32 (z7 (bat s 0):Nat))),(7, .sv (.int .u32 (xT (qQ (bat s 0)):Nat)))],h:=λ_=>[],more:=0,μ:=λ_=>0,keep:=[0]}
  |_=>none}
def zkt:Qh.σ->WayF:=λs=>{ann:=λ_ _ _=>some {σ:=IV,pre:=λt=>t.size<=s.size/\qu t=qu s,find:=some λt _=>Gs t 0,t:=λu=>[(0, .sv (.string u))],h:=λ_=>[],more:=0,μ:=λu=>u.size,keep:=[]}}
end
section
def kA{p q:Prop} [Decidable p] [Decidable q] (h:p↔q):decide p=decide q:=by simp[h]
abbrev kW(x:SV):Value:= .slice x.1 x.2.1 x.2.2
abbrev z_(x:SV):AV:= .sv (.slice x.1 x.2.1 x.2.2)
def qp(s:IV):List Value:=[.string s]
def qi(i:Int):List Value:=[.int .i64 i]
def qc{α:Type} (f:α->List Value) (x:SV) (l:List α) (p:Pub):Prop:=x.2.1=l.length/\qgt p x.1 x.2.1 x.2.2 (qa f l)
variable {α:Type}
def jo{f:α->List Value} {x:SV} {l:List α} {p q:Pub} (h:Pub.le p q) (e:qc f x l p):qc f x l q:=⟨e.1,q4n h e.2⟩
def z17{f:α->List Value} {e:Nat} (hf:∀x,(f x).length=e) (he:0<e) {p:Pub} {x:SV} {l:List α} (h:qc f x l p) {i:Nat} (hi:i<l.length):x.1≠noA/\q37 p (adr x.1 (i*e)) (f l[i]):=zff hf he h.2 hi
variable {p:Pub}
def qY{f:α->List Value}:qc f (none,0,0) [] p:=⟨rfl,Nat.le_refl _, .inl ⟨rfl,z46⟩⟩
inductive GJ where
 |mk (k n:Int) (s:IV) (y:SV) (l:List GJ) (x:SV) (nm:List IV)
def GJ.k:GJ->Int| .mk k _ _ _ _ _ _=>k
def GJ.n:GJ->Int| .mk _ n _ _ _ _ _=>n
def GJ.s:GJ->IV| .mk _ _ s _ _ _ _=>s
def GJ.y:GJ->SV| .mk _ _ _ y _ _ _=>y
def GJ.l:GJ->List GJ| .mk _ _ _ _ l _ _=>l
def GJ.x:GJ->SV| .mk _ _ _ _ _ x _=>x
def GJ.nm:GJ->List IV| .mk _ _ _ _ _ _ nm=>nm
def GJ.cells(g:GJ):List Value:=[.int .i64 g.k, .int .i64 g.n, .string g.s,kW g.y,kW g.x]
def GJ.av(g:GJ):AV:= .agg [.sv (.int .i64 g.k), .sv (.int .i64 g.n), .sv (.string g.s),z_ g.y,z_ g.x]
mutual
def GJ.ok:GJ->Pub->Prop
 | .mk k n s y l x nm,p=>qc GJ.cells y l p/\qc qp x nm p/\GJ.oks l p
def GJ.oks:List GJ->Pub->Prop
 | [],_=>True
 |g::l,p=>GJ.ok g p/\GJ.oks l p
end
mutual
def GJ.ok_mono:∀{g:GJ} {p q:Pub},Pub.le p q->g.ok p->g.ok q
  | .mk k n s y l x nm,p,q,h,e=>by unfold GJ.ok at e⊢;exact⟨jo h e.1,jo h e.2.1,GJ.oks_mono h e.2.2⟩
def GJ.oks_mono:∀{l:List GJ} {p q:Pub},Pub.le p q->GJ.oks l p->GJ.oks l q
  | [],p,q,h,e=>by unfold GJ.oks;trivial
  | g::l,p,q,h,e=>by unfold GJ.oks at e⊢;exact⟨GJ.ok_mono h e.1,GJ.oks_mono h e.2⟩
end
structure AF where
 nm:IV
 al:SV
 als:List IV
 ty:Int
 hd:Bool
 df:GJ
def AF.cells(f:AF):List Value:=[.string f.nm,kW f.al, .int .i64 f.ty, .bool f.hd, .int .i64 f.df.k, .int .i64 f.df.n, .string f.df.s,kW f.df.y,kW f.df.x]
def AF.ok(f:AF) (p:Pub):Prop:=qc qp f.al f.als p/\f.df.ok p
structure AT where
 k:Int
 nm:IV
 al:SV
 als:List IV
 it:Int
 sy:SV
 sys:List IV
 hd:Bool
 df:IV
 sz:Int
 f:SV
 fs:List AF
 br:SV
 brs:List Int
def AT.cells(e:AT):List Value:=[.int .i64 e.k, .string e.nm,kW e.al, .int .i64 e.it,kW e.sy, .bool e.hd, .string e.df, .int .i64 e.sz,kW e.f,kW e.br]
def AT.av(e:AT):AV:= .agg [.sv (.int .i64 e.k), .sv (.string e.nm),z_ e.al, .sv (.int .i64 e.it),z_ e.sy, .sv (.bool e.hd), .sv (.string e.df), .sv (.int .i64 e.sz),z_ e.f,z_ e.br]
def AT.ok(e:AT) (p:Pub):Prop:=qc qp e.al e.als p/\qc qp e.sy e.sys p/\qc AF.cells e.f e.fs p/\qc qi e.br e.brs p/\∀f∈e.fs,f.ok p
def AT.ok_mono{e:AT} {p q:Pub} (h:Pub.le p q) (g:e.ok p):e.ok q:=⟨jo h g.1,jo h g.2.1,jo h g.2.2.1,jo h g.2.2.2.1,λf hf=>⟨jo h (g.2.2.2.2 f hf).1,GJ.ok_mono h (g.2.2.2.2 f hf).2⟩⟩
def qd(S:List AT) (x:SV) (p:Pub):Prop:=qc AT.cells x S p/\∀e∈S,e.ok p
def yC{S:List AT} {x:SV} {p q:Pub} (h:Pub.le p q) (g:qd S x p):qd S x q:=⟨jo h g.1,λe he=>AT.ok_mono h (g.2 e he)⟩
def z21(e:AT):e.cells.length=10:=rfl
def G7(f:AF):f.cells.length=9:=rfl
def jV(s:IV):(qp s).length=1:=rfl
def z24(i:Int):(qi i).length=1:=rfl
def Ze(g:GJ):g.cells.length=5:=rfl
def small(S:List AT):Prop:=S.length<1000000/\∀e∈S,e.fs.length<1000000/\e.brs.length<1000000/\e.sys.length<1000000
inductive GV where
 |mk (n:Int) (s:IV) (x:SV) (l:List GV) (y:SV) (ks:List IV) (b:Int)
inductive PV where
 |mk (n:Int) (s:IV) (l:List PV) (ks:List IV) (b:Int)
def GV.n:GV->Int| .mk n _ _ _ _ _ _=>n
def GV.s:GV->IV| .mk _ s _ _ _ _ _=>s
def GV.x:GV->SV| .mk _ _ x _ _ _ _=>x
def GV.l:GV->List GV| .mk _ _ _ l _ _ _=>l
def GV.y:GV->SV| .mk _ _ _ _ y _ _=>y
def GV.ks:GV->List IV| .mk _ _ _ _ _ ks _=>ks
def GV.b:GV->Int| .mk _ _ _ _ _ _ b=>b
def GV.cells(v:GV):List Value:=[.int .u64 v.n, .string v.s,kW v.x,kW v.y, .int .i64 v.b]
def GV.av(v:GV):AV:= .agg [.sv (.int .u64 v.n), .sv (.string v.s),z_ v.x,z_ v.y, .sv (.int .i64 v.b)]
def zr(v:GV):v.cells.length=5:=rfl
mutual
def GV.ok:GV->Pub->Prop
 | .mk n s x l y ks b,p=>qc GV.cells x l p/\qc qp y ks p/\GV.oks l p
def GV.oks:List GV->Pub->Prop
 | [],_=>True
 |v::l,p=>GV.ok v p/\GV.oks l p
end
mutual
def GV.ok_mono:∀{v:GV} {p q:Pub},Pub.le p q->v.ok p->v.ok q
  | .mk n s x l y ks b,p,q,h,e=>by unfold GV.ok at e⊢;exact⟨jo h e.1,jo h e.2.1,GV.oks_mono h e.2.2⟩
def GV.oks_mono:∀{l:List GV} {p q:Pub},Pub.le p q->GV.oks l p->GV.oks l q
  | [],p,q,h,e=>by unfold GV.oks;trivial
  | g::l,p,q,h,e=>by unfold GV.oks at e⊢;exact⟨GV.ok_mono h e.1,GV.oks_mono h e.2⟩
end
def GV.ok_eq(v:GV) (p:Pub):v.ok p=(qc GV.cells v.x v.l p/\qc qp v.y v.ks p/\GV.oks v.l p):=by cases v;unfold GV.ok;rfl
def GV.oks_at:∀{l:List GV} {p:Pub},GV.oks l p->∀{i:Nat} (h:i<l.length),l[i].ok p
 |v::l,p,e,0,h=>by unfold GV.oks at e;exact e.1
 |v::l,p,e,i+1,h=>by unfold GV.oks at e;exact GV.oks_at e.2 (by simpa using h)
mutual
def GV.pv:GV->PV
 | .mk n s x l y ks b=> .mk n s (GV.pvs l) ks b
def GV.pvs:List GV->List PV
 | []=>[]
 |v::l=>GV.pv v::GV.pvs l
end
def GV.pv_eq(v:GV):v.pv= .mk v.n v.s (GV.pvs v.l) v.ks v.b:=by cases v;rw[GV.pv];rfl
def GV.pvs_map:∀l:List GV,GV.pvs l=l.map GV.pv
 | []=>by rw[GV.pvs];rfl
 |v::l=>by rw[GV.pvs,GV.pvs_map l];rfl
def GV.pvs_len(l:List GV):(GV.pvs l).length=l.length:=by rw[GV.pvs_map,List.length_map]
mutual
def PV.sm:PV->Prop
 | .mk n s l ks b=>(0<=n/\n<18446744073709551616)/\s.size<9223372036854775808/\l.length<4611686018427387904/\ks.length<4611686018427387904/\(∀k∈ks,k.size<9223372036854775808)/\PV.sms l
def PV.sms:List PV->Prop
 | []=>True
 |v::l=>PV.sm v/\PV.sms l
end
def PV.sms_at:∀{l:List PV},PV.sms l->∀{i:Nat} (h:i<l.length),l[i].sm
 |v::l,e,0,h=>by unfold PV.sms at e;exact e.1
 |v::l,e,i+1,h=>by unfold PV.sms at e;exact PV.sms_at e.2 (by simpa using h)
def GV.sm_eq(v:GV):v.pv.sm=((0<=v.n/\v.n<18446744073709551616)/\v.s.size<9223372036854775808/\v.l.length<4611686018427387904/\v.ks.length<4611686018427387904/\(∀k∈v.ks,k.size<9223372036854775808)/\PV.sms (GV.pvs v.l)):=by rw[GV.pv_eq,PV.sm,GV.pvs_len]
variable {v:GV}
def GV.sm_at(h:v.pv.sm) {i:Nat} (hi:i<v.l.length):v.l[i].pv.sm:=by rw[GV.sm_eq]at h;have:=PV.sms_at h.2.2.2.2.2 (i:=i) (by rw[GV.pvs_len];exact hi);simpa[GV.pvs_map]using this
def GV.ok_at(h:v.ok p) {i:Nat} (hi:i<v.l.length):v.l[i].ok p:=by rw[GV.ok_eq]at h;exact GV.oks_at h.2.2 hi
def GV.cells_at(h:v.ok p) {i:Nat} (hi:i<v.l.length):v.x.1≠noA/\q37 p (adr v.x.1 (i*5)) v.l[i].cells:=by rw[GV.ok_eq]at h;exact z17 zr (by decide) h.1 hi
def GV.x_len(h:v.ok p):v.x.2.1=v.l.length:=by rw[GV.ok_eq]at h;exact h.1.1
def GV.y_len(h:v.ok p):v.y.2.1=v.ks.length:=by rw[GV.ok_eq]at h;exact h.2.1.1
def km(a:AT) (n:Int):Bool:=if a.k=1 then decide (n=0)else if a.k=2 then decide (n<=1)else if a.k=3 then decide (n<2147483648\/18446744071562067968<=n)else if a.k=5 then decide (n<4294967296)else if a.k=10 then decide (n<a.sys.length)else true
def vZ(a:AT) (s:IV):Bool:=if a.k=8 then qu s else if a.k=11 then decide ((s.size:Int)=a.sz)else true
def zo:List IV->Bool
 | []=>true
 | [k]=>qu k
 |k::j::l=>qu k&&qdg k j&&zo (j::l)
def ko(a:AT) (n:Nat) (ks:List IV) (b:Int):Bool:=
 if ks.length>0/\a.k≠13\/b≠0/\a.k≠14 then false else
 if a.k=9 then decide (n=a.fs.length)else if a.k=14 then decide (0<=b/\b<a.brs.length/\n=1)else if a.k=13 then decide (n=ks.length)&&zo ks else true
def zd(k:Int):Bool:=decide (k=1\/k=2\/k=3\/k=4\/k=5\/k=6\/k=10)
def qS(k:Int):Bool:=decide (k=7\/k=8\/k=11)
def qq(k:Int):Bool:=decide (k=9\/k=12\/k=13\/k=14)
def xE(n m:Nat) (b:Int):Bool:=decide (n=0)&&decide (m=0)&&decide (b=0)
def qo(a:AT) (b:Int) (i:Nat):Int:=if a.k=9 then(match a.fs[i]? with|some f=>f.ty|none=>0)else if a.k=14 then a.brs.getD b.toNat 0 else a.it
mutual
def PV.fits(S:List AT) (t:Int):PV->Bool
  | .mk n s l ks b=>if t<0\/S.length<=t then false else match S[t.toNat]? with
    |none=>false
    | some a=>if zd a.k=true then km a n&&decide (s.size=0)&&xE l.length ks.length b else
      if qS a.k=true then vZ a s&&decide (n=0)&&xE l.length ks.length b else
      if qq a.k=true then ko a l.length ks b&&PV.fitL S (qo a b) 0 l&&decide (n=0)&&decide (s.size=0)else false
def PV.fitL(S:List AT) (f:Nat->Int) (i:Nat):List PV->Bool
 | []=>true
 |v::l=>PV.fits S (f i) v&&PV.fitL S f (i+1) l
end
mutual
def PV.same:PV->PV->Bool
 | .mk n s l ks b, .mk n' s' l' ks' b'=>decide (n=n')&&decide (s=s')&&decide (b=b')&&decide (ks=ks')&&PV.sames l l'
def PV.sames:List PV->List PV->Bool
 | [],[]=>true
 |v::l,w::m=>PV.same v w&&PV.sames l m
 |_,_=>false
end
end
open Go.Proofs.YtniogjgfomaicaaGreat.Rv
def jP:List UInt8->Nat
 | []=>0
 |c::l=>c.toNat+256*jP l
open Go.Proofs.YtniogjgfomaicaaGreat.Rv
def zut:∀l:List UInt8,jP l<256 ^ l.length
  | []=>by decide
  | c::l=>by have:=zut l;have:=c.toNat_lt;rw[jP,List.length_cons,Nat.pow_succ];omega
def xR(σ:Type) (args:σ->List AV) (pre:σ->Prop) (mem:σ->PF) (r:σ->AV):Ct where
 σ:=σ
 args:=args
 h:=λ_=>[]
 m:=1
 pre:=pre
 mem:=mem
 r:=r
 h':=λ_=>[]
 m':=1
 g:=λ_=>none
def qn(b:Int):List Value:=[.int .u8 b]
def j69(b:Int):(qn b).length=1:=rfl
def Yr(x:SV) (L:List Int):PF:=⟨true,qc qn x L,λ_ _ h e=>jo h e⟩
def zM(L:List Int):Prop:=L.length<1000000/\∀b∈L,0<=b/\b<256
def ql(L:List Int) (n m:Int):Int:=if L.length<=n then 0 else Int.tmod (L.getD n.toNat 0) m
def qh(L:List Int) (n:Int):Int:=if L.length<=n then n else n+1
def jc(x:SV) (n:Int):List (Nat×AO):=[(1, .cells 57 (some 0) false [z_ x, .sv (.int .i64 n)])]
def De(h:T AO) (id:Nat):Option (SV×Int):=match h.get id with
  | some (.cells _ _ _ [a,i])=>match a with
    | .sv (.slice a n c)=>match gi i with
      |some (_,i)=>some ((a,n,c),i)
      |none=>none
    |_=>none
  |_=>none
def j79(l:List AV) (h:T AO):Option (Sel (SV×List Int×Int×Int)):=match l with
  | [.ptr id _,m]=>match De h id with
    | some (x,n)=>match gi m with
      |some (_,m)=>some ⟨List Int,λL=>(x,L,n,m)⟩
      |none=>none
    |none=>none
  |_=>none
def Qz:Ct where
 σ:=SV×List Int×Int×Int
 args:=λ⟨x,L,n,m⟩=>[.ptr 1 0, .sv (.int .i64 m)]
 h:=λ⟨x,L,n,m⟩=>jc x n
 m:=2
 pre:=λ⟨x,L,n,m⟩=>0<=n/\n<=L.length/\0<m/\m<1000000/\zM L
 mem:=λ⟨x,L,n,m⟩=>Yr x L
 sel:=some j79
 r:=λ⟨x,L,n,m⟩=> .sv (.int .i64 (ql L n m))
 h':=λ⟨x,L,n,m⟩=>jc x (qh L n)
 m':=2
 g:=λ_=>none
def zym(l:List AV) (h:T AO):Option (Sel (SV×List Int×Int)):=match l with
  | [.ptr id _]=>match De h id with
    |some (x,n)=>some ⟨List Int,λL=>(x,L,n)⟩
    |none=>none
  |_=>none
def WW:Ct where
 σ:=SV×List Int×Int
 args:=λ⟨x,L,n⟩=>[.ptr 1 0]
 h:=λ⟨x,L,n⟩=>jc x n
 m:=2
 pre:=λ⟨x,L,n⟩=>True
 mem:=λ⟨x,L,n⟩=>Yr x L
 sel:=some zym
 r:=λ⟨x,L,n⟩=> .sv (.bool (decide ((L.length:Int)<=n)))
 h':=λ⟨x,L,n⟩=>jc x n
 m':=2
 g:=λ_=>none
def VK:Ct:={xR IV (λs=>[.sv (.string s)]) (λ_=>True) (λ_=>{}) (λs=> .agg [.int .i64 4, .int .i64 0, .sv (.string s), .nsl, .nsl])with find:=some λl _=>match l with
 | [a]=>gs a
 |_=>none}
inductive N3 where
 |two
 |three
 |four
def N3.v:N3->Nat
 | .two=>2
 | .three=>3
 | .four=>4
def Vz:Ct where
  σ:=N3
  args:=λn=>[.sl 1 0 n.v n.v, .sl 2 0 n.v n.v]
  h:=λ_=>[]
  m:=3
  find:=some λl _=>match l with
    | [.sl _ _ n _,_]=>match n with
      |2=>some .two
      |3=>some .three
      |4=>some .four
      |_=>none
    |_=>none
  r:=λn=> .agg [.int .i64 6, .int .i64 0, .str [], .sl 2 0 n.v n.v, .sl 1 0 n.v n.v]
  h':=λ_=>[]
  m':=3
  g:=λ_=>none
mutual
def GJ.wf:GJ->Prop
 | .mk k n s y l x nm=>s.size<1000/\l.length<8/\nm.length<=l.length/\(∀t∈nm,t.size<1000)/\(-9223372036854775808<=n/\n<9223372036854775808)/\(k=6->nm.length=l.length)/\GJ.wfs l
def GJ.wfs:List GJ->Prop
 | []=>True
 |g::l=>GJ.wf g/\GJ.wfs l
end
def GJ.wf_eq(g:GJ):g.wf=(g.s.size<1000/\g.l.length<8/\g.nm.length<=g.l.length/\(∀t∈g.nm,t.size<1000)/\(-9223372036854775808<=g.n/\g.n<9223372036854775808)/\(g.k=6->g.nm.length=g.l.length)/\GJ.wfs g.l):=by cases g;rw[GJ.wf];rfl
def GJ.ok_eq(g:GJ) (p:Pub):g.ok p=(qc GJ.cells g.y g.l p/\qc qp g.x g.nm p/\GJ.oks g.l p):=by cases g;unfold GJ.ok;rfl
def GJ.wfs_at:∀{l:List GJ},GJ.wfs l->∀{i:Nat} (h:i<l.length),l[i].wf
 |v::l,e,0,h=>by unfold GJ.wfs at e;exact e.1
 |v::l,e,i+1,h=>by unfold GJ.wfs at e;exact GJ.wfs_at e.2 (by simpa using h)
def GJ.oks_at:∀{l:List GJ} {p:Pub},GJ.oks l p->∀{i:Nat} (h:i<l.length),l[i].ok p
 |v::l,p,e,0,h=>by unfold GJ.oks at e;exact e.1
 |v::l,p,e,i+1,h=>by unfold GJ.oks at e;exact GJ.oks_at e.2 (by simpa using h)
def gM(g:GJ):PF:=⟨true,g.ok,λ_ _ h e=>GJ.ok_mono h e⟩
def zJ:GJ:= .mk 0 0 (mkS []) (none,0,0) [] (none,0,0) []
def js(s:IV):List IV->List GJ->Option GJ
 |t::nm,g::l=>if t=s then some g else js s nm l
 |_,_=>none
def Xi:Ct:=xR (GJ×IV) (λ⟨g,s⟩=>[g.av, .sv (.string s)]) (λ⟨g,s⟩=>g.wf) (λ⟨g,s⟩=>gM g) λ⟨g,s⟩=> .tup [((js s g.nm g.l).getD zJ).av, .sv (.bool (js s g.nm g.l).isSome)]
def bF:Xi.σ->WayF:=λ⟨g,s⟩=>{
 ann:=λ_ _ _=>some {σ:=Nat,pre:=λj=>j<=g.nm.length/\js s (g.nm.drop j) (g.l.drop j)=js s g.nm g.l,t:=λj=>[(6, .sv (.int .i64 (j:Int)))],h:=λ_=>[],more:=0,μ:=λj=>g.nm.length- j,keep:=[1,2,4,5]}}
def isNum(s:IV):Bool:=decide (s=mkS [105,110,116])||decide (s=mkS [108,111,110,103])||decide (s=mkS [102,108,111,97,116])||decide (s=mkS [100,111,117,98,108,101])
def wD(s:IV):Bool:=decide (s=mkS [115,116,114,105,110,103])||decide (s=mkS [98,121,116,101,115])
def JE(s:IV):Bool:=decide (s=mkS [98,111,111,108,101,97,110])
def VM(s:IV):Bool:=decide (s=mkS [110,117,108,108])
def HD(i:Int):IV:=if i=0 then mkS []else if i=1 then mkS [100]else mkS [195,164]
def zP(g:GJ) (L:List Int) (n:Int):Int×Int×IV×Int:=
 if g.k=4/\isNum g.s=true then(3,ql L n 200- 50,mkS [],qh L n)else
 if g.k=4/\wD g.s=true then(4,0,HD (ql L n 3),qh L n)else
 if g.k=4/\JE g.s=true then(2,ql L n 2,mkS [],qh L n)else
 if g.k=4/\VM g.s=true then(1,0,mkS [],n)else
 if g.k=5 then(1,0,mkS [],n)else
 if((js (mkS [116,121,112,101]) g.nm g.l).getD zJ).s=mkS [97,114,114,97,121]then(5,0,mkS [],n)else
 if((js (mkS [116,121,112,101]) g.nm g.l).getD zJ).s=mkS [101,110,117,109]then(4,0,mkS [88],n)else(6,0,mkS [],n)
def j78(l:List AV) (h:T AO):Option (Sel (SV×List Int×Int×GJ)):=match l with
  | [.ptr id _,_]=>match De h id with
    |some (x,n)=>some ⟨List Int×GJ,λL=>(x,L.1,n,L.2)⟩
    |none=>none
  |_=>none
def GC:Ct where
 σ:=SV×List Int×Int×GJ
 args:=λ⟨x,L,n,g⟩=>[.ptr 1 0,g.av]
 h:=λ⟨x,L,n,g⟩=>jc x n
 m:=2
 pre:=λ⟨x,L,n,g⟩=>0<=n/\n<=L.length/\zM L/\g.wf
 mem:=λ⟨x,L,n,g⟩=>⟨true,λp=>qc qn x L p/\g.ok p,λ_ _ h e=>⟨jo h e.1,GJ.ok_mono h e.2⟩⟩
 sel:=some j78
 r:=λ⟨x,L,n,g⟩=> .agg [.sv (.int .i64 (zP g L n).1), .sv (.int .i64 (zP g L n).2.1), .sv (.string (zP g L n).2.2.1), .nsl, .nsl]
 h':=λ⟨x,L,n,g⟩=>jc x (zP g L n).2.2.2
 m':=2
 g:=λ_=>none
def tV(f:IV->Bool) (i k:Nat) (keep:List Nat) (t:T AV):Option LT:=match Gs t k with
 |some a=>some {σ:=Unit,t:=λ_=>[(i, .sv (.bool (f a)))],h:=λ_=>[],more:=0,μ:=λ_=>0,keep:=keep}
 |none=>none
def ze3:GC.σ->WayF:=λ⟨x,L,n,g⟩=>{
 cut:=λi t _=>match i with
  |7=>tV isNum 12 11 [0,3,4,11] t
  |10=>tV wD 21 11 [0,3,4,11] t
  |15=>some {σ:=Unit,pre:=λ_=>¬(g.k=4/\(isNum g.s=true\/wD g.s=true\/JE g.s=true\/VM g.s=true)),t:=λ_=>[],h:=λ_=>[],more:=0,μ:=λ_=>0,keep:=[0,3,4]}
  |_=>none}
def jw(S:List AT) (e:Int) (r k:Nat):List (Nat×AO):=[(1, .cells 90 (some 0) false [.ssl r 0 S.length 10 k, .sv (.int .i64 e)]),(r, .row 55 0 (qa AT.cells S))]
def yZ(h:T AO) (id:Nat):Option Int:=match h.get id with
  | some (.cells _ _ _ [_,e])=>match gi e with
    |some (_,e)=>some e
    |none=>none
  |_=>none
def zyk(l:List AV) (h:T AO):Option (Sel (List AT×Int×Int)):=match l with
  | [.ptr id _,e]=>match yZ h id with
    | some e0=>match gi e with
      |some (_,e)=>some ⟨List AT,λS=>(S,e0,e)⟩
      |none=>none
    |none=>none
  |_=>none
def qt(e0 e:Int):Int:=if e0=0 then e else e0
def wz:Ct where
 σ:=List AT×Int×Int
 args:=λ⟨S,e0,e⟩=>[.ptr 1 0, .sv (.int .i64 e)]
 h:=λ⟨S,e0,e⟩=>jw S e0 2 3
 m:=4
 sel:=some zyk
 r:=λ⟨S,e0,e⟩=> .int .i64 0
 h':=λ⟨S,e0,e⟩=>jw S (qt e0 e) 2 3
 m':=4
 g:=λ_=>none
def qC(S:List AT) (t:AT):List AT:=if 60<=S.length then S else S++[t]
def qI(S:List AT) (e:Int):Int:=if 60<=S.length then qt e 3 else e
def qw(S:List AT):Int:=if 60<=S.length then 0 else S.length
def KF:Ct where
 σ:=List AT×Int×AT
 args:=λ⟨S,e,t⟩=>[.ptr 1 0,t.av]
 h:=λ⟨S,e,t⟩=>jw S e 2 3
 m:=4
 r:=λ⟨S,e,t⟩=> .sv (.int .i64 (qw S))
 h':=λ⟨S,e,t⟩=>jw (qC S t) (qI S e) 4 5
 m':=6
 g:=λ_=>none
def kinds:List IV:=[mkS [110,117,108,108],mkS [98,111,111,108,101,97,110],mkS [105,110,116],mkS [108,111,110,103],mkS [102,108,111,97,116],mkS [100,111,117,98,108,101],mkS [98,121,116,101,115],mkS [115,116,114,105,110,103],mkS [114,101,99,111,114,100],mkS [101,110,117,109],mkS [102,105,120,101,100],mkS [97,114,114,97,121],mkS [109,97,112],mkS [117,110,105,111,110]]
def ZB(s:IV):List IV->Nat->Int
 | [],_=>0
 |k::l,i=>if k=s then(i:Int)+1 else ZB s l (i+1)
def qK(s:IV):Int:=ZB s kinds 0
def WU:Ct:={xR IV (λs=>[.sv (.string s)]) (λ_=>True) (λ_=>{}) (λs=> .sv (.int .i64 (qK s)))with find:=some λl _=>match l with
 | [a]=>gs a
 |_=>none}
def OB:WU.σ->WayF:=λs=>{
 ann:=λ_ _ _=>some {σ:=Nat,pre:=λj=>j<=14/\ZB s (kinds.drop j) j=qK s,t:=λj=>[(4, .sv (.int .i64 (j:Int)))],h:=λ_=>[],more:=0,μ:=λj=>14- j,keep:=[0,2,3]}}
def wF(k:Int):IV:=if k<1\/14<k then mkS []else kinds.getD (k.toNat- 1) (mkS [])
def Ii:Ct:=xR Int (λk=>[.sv (.int .i64 k)]) (λ_=>True) (λ_=>{}) λk=> .sv (.string (wF k))
def findF(s:IV):List AT->Nat->Option Nat
 | [],_=>none
 |a::l,i=>if a.nm=s/\9<=a.k/\a.k<=11 then some i else findF s l (i+1)
def yX(o:Option Nat):Int:=match o with
 |some i=>i
 |none=>0
def zyl(l:List AV) (h:T AO):Option (Sel (List AT×Int×IV)):=match l with
  | [.ptr id _,a]=>match yZ h id with
    | some e=>match gs a with
      |some s=>some ⟨List AT,λS=>(S,e,s)⟩
      |none=>none
    |none=>none
  |_=>none
def WT:Ct where
 σ:=List AT×Int×IV
 args:=λ⟨S,e,s⟩=>[.ptr 1 0, .sv (.string s)]
 h:=λ⟨S,e,s⟩=>jw S e 2 3
 m:=4
 pre:=λ⟨S,e,s⟩=>S.length<1000
 sel:=some zyl
 r:=λ⟨S,e,s⟩=> .tup [.sv (.int .i64 (yX (findF s S 0))), .sv (.bool (findF s S 0).isSome)]
 h':=λ⟨S,e,s⟩=>jw S e 2 3
 m':=4
 g:=λ_=>none
def Oz:WT.σ->WayF:=λ⟨S,e,s⟩=>{
 ann:=λ_ _ _=>some {σ:=Nat,pre:=λj=>j<=S.length/\findF s (S.drop j) j=findF s S 0,t:=λj=>[(6, .sv (.int .i64 (j:Int)))],h:=λ_=>[],more:=0,μ:=λj=>S.length- j,keep:=[0,1,4,5]}}
def uC(S:List AT) (t:Int):IV:=if t<0\/S.length<=t then mkS []else match S[t.toNat]? with
 |some a=>if a.nm=mkS []then wF a.k else a.nm
 |none=>mkS []
def Da:Ct where
 σ:=List AT×Int
 args:=λ⟨S,t⟩=>[.agg [.ssl 1 0 S.length 10 2], .sv (.int .i64 t)]
 h:=λ⟨S,t⟩=>[(1, .row 55 0 (qa AT.cells S))]
 m:=3
 pre:=λ⟨S,t⟩=>S.length<1000
 r:=λ⟨S,t⟩=> .sv (.string (uC S t))
 h':=λ⟨S,t⟩=>[(1, .row 55 0 (qa AT.cells S))]
 m':=3
 g:=λ_=>none
def z39(a b:IV):IV:=if a=mkS []\/b=mkS []then a++b else a++mkS [46]++b
def jv7(l:List AV):Option (IV×IV):=match l with
  | [a,b]=>match gs a with
    | some a=>match gs b with
      |some b=>some (a,b)
      |none=>none
    |none=>none
  |_=>none
def HB:Ct:={xR (IV×IV) (λ⟨a,b⟩=>[.sv (.string a), .sv (.string b)]) (λ⟨a,b⟩=>a.size<1000000/\b.size<1000000) (λ_=>{}) (λ⟨a,b⟩=> .sv (.string (z39 a b)))with find:=some λl _=>jv7 l}
def isLt(c:Nat):Bool:=(c==95)|| (decide (65<=c)&&decide (c<=90))|| (decide (97<=c)&&decide (c<=122))
def Kk(c:Nat):Bool:=decide (48<=c)&&decide (c<=57)
def Nx:Ct:=ctS Int (λc=>[.int .u8 c]) Yx (λc=>0<=c/\c<256) (λ_=>{}) λc=> .sv (.bool (isLt c.toNat))
def NW:Ct:=ctS Int (λc=>[.int .u8 c]) Yx (λc=>0<=c/\c<256) (λ_=>{}) λc=> .sv (.bool (Kk c.toNat))
def KX(s:IV) (i:Nat):Bool:=isLt (bat s i)|| (decide (0<i)&&Kk (bat s i))
def uT(s:IV):Nat->Nat->Bool
 |0,_=>true
 |f+1,i=>if i<s.size then KX s i&&uT s f (i+1)else true
def vp(s:IV):Bool:=uT s s.size 0&&decide (0<s.size)
def VJ:Ct:={xR IV (λs=>[.sv (.string s)]) (λs=>s.size<1000000) (λ_=>{}) (λs=> .sv (.bool (vp s)))with find:=some λl _=>match l with
 | [a]=>gs a
 |_=>none}
def OD:VJ.σ->WayF:=λs=>{
 ann:=λ_ _ _=>some {σ:=Nat,pre:=λj=>j<=s.size/\uT s (s.size- j) j=uT s s.size 0,t:=λj=>[(3, .sv (.int .i64 (j:Int)))],h:=λ_=>[],more:=0,μ:=λj=>s.size- j,keep:=[0,2]}}
def xF(s:IV):Nat->Nat->IV->Bool
 |0,_,_=>true
 |f+1,i,q=>if i<s.size/\bat s i≠46 then xF s f (i+1) (q++s.extract i (i+1))else if vp q=true then xF s f (i+1) (mkS [])else false
def Zf(s:IV):Bool:=xF s (s.size+1) 0 (mkS [])
def Hd:Ct:={xR IV (λs=>[.sv (.string s)]) (λs=>s.size<100000) (λ_=>{}) (λs=> .sv (.bool (Zf s)))with find:=some λl _=>match l with
 | [a]=>gs a
 |_=>none}
def zvf:Hd.σ->WayF:=λs=>{
 ann:=λ_ _ _=>some {σ:=Nat×IV,pre:=λ⟨j,q⟩=>j<=s.size+1/\q.size<=j/\xF s (s.size+1- j) j q=Zf s,t:=λ⟨j,q⟩=>[(3, .sv (.string q)),(4, .sv (.int .i64 (j:Int)))],h:=λ_=>[],more:=0,μ:=λ⟨j,q⟩=>s.size+1- j,keep:=[0,2]}}
def kg(s:IV):Nat->IV
 |0=>mkS []
 |i+1=>if bat s i=46 then s.extract 0 i else kg s i
def z70:Ct:={xR IV (λs=>[.sv (.string s)]) (λs=>s.size<1000000) (λ_=>{}) (λs=> .sv (.string (kg s s.size)))with find:=some λl _=>match l with
 | [a]=>gs a
 |_=>none}
def zkg:z70.σ->WayF:=λs=>{
 ann:=λ_ _ _=>some {σ:=Nat,pre:=λj=>j<=s.size/\kg s j=kg s s.size,t:=λj=>[(3, .sv (.int .i64 ((j:Int)- 1)))],h:=λ_=>[],more:=0,μ:=λj=>j,keep:=[0,2]}}
def ZA(s:IV):Nat->Nat->Bool
 |0,_=>false
 |f+1,i=>if i<s.size then decide (bat s i=46)||ZA s f (i+1)else false
def j6l(s:IV):Bool:=ZA s s.size 0
def vm(nm sp:IV):IV:=if j6l nm=true then nm else z39 sp nm
def v8(nm sp:IV) (e:Int):Int:=if nm=mkS []\/Zf (vm nm sp)=false then qt e 6 else e
def zpx(l:List AV) (h:T AO):Option (Sel (List AT×Int×IV×IV)):=match l with
  | [.ptr id _,a,b]=>match yZ h id with
    | some e=>match gs a with
      | some a=>match gs b with
        |some b=>some ⟨List AT,λS=>(S,e,a,b)⟩
        |none=>none
      |none=>none
    |none=>none
  |_=>none
def GW:Ct where
 σ:=List AT×Int×IV×IV
 args:=λ⟨S,e,a,b⟩=>[.ptr 1 0, .sv (.string a), .sv (.string b)]
 h:=λ⟨S,e,a,b⟩=>jw S e 2 3
 m:=4
 pre:=λ⟨S,e,a,b⟩=>a.size<10000/\b.size<50000
 sel:=some zpx
 r:=λ⟨S,e,a,b⟩=> .sv (.string (vm a b))
 h':=λ⟨S,e,a,b⟩=>jw S (v8 a b e) 2 3
 m':=4
 g:=λ_=>none
def zvm:GW.σ->WayF:=λ⟨S,e,a,b⟩=>{
 ann:=λ_ _ _=>some {σ:=Nat×IV,pre:=λ⟨j,q⟩=>j<=a.size/\((if ZA a (a.size- j) j=true then a else q)=vm a b),t:=λ⟨j,q⟩=>[(7, .sv (.string q)),(8, .sv (.int .i64 (j:Int)))],h:=λ_=>[],more:=0,μ:=λ⟨j,q⟩=>a.size- j,keep:=[0,1,2,6]}}
def qm(s:IV) (g:GJ):Option GJ:=if g.k=6 then js s g.nm g.l else none
def z64:Ct:=xR (GJ×IV) (λ⟨g,s⟩=>[g.av, .sv (.string s)]) (λ⟨g,s⟩=>g.wf) (λ⟨g,s⟩=>gM g) λ⟨g,s⟩=> .tup [((qm s g).getD zJ).av, .sv (.bool (qm s g).isSome)]
def OA:z64.σ->WayF:=λ⟨g,s⟩=>{
 ann:=λ_ _ _=>some {σ:=Nat,pre:=λj=>j<=g.nm.length/\(if g.k=6 then js s (g.nm.drop j) (g.l.drop j)else none)=qm s g,t:=λj=>[(6, .sv (.int .i64 (j:Int)))],h:=λ_=>[],more:=0,μ:=λj=>g.nm.length- j,keep:=[1,2,4,5]}}
def jL(g:GJ) (s:IV) (must:Bool) (e:Int):IV×Int:=match qm s g with
 |none=>if must=true then(mkS [],qt e 2)else(mkS [],e)
 |some t=>if t.k=4 then(t.s,e)else(mkS [],qt e 2)
def WN:Ct where
 σ:=List AT×Int×GJ×IV×Bool
 args:=λ⟨S,e,g,s,b⟩=>[.ptr 1 0,g.av, .sv (.string s), .sv (.bool b)]
 h:=λ⟨S,e,g,s,b⟩=>jw S e 2 3
 m:=4
 pre:=λ⟨S,e,g,s,b⟩=>g.wf
 mem:=λ⟨S,e,g,s,b⟩=>gM g
 r:=λ⟨S,e,g,s,b⟩=> .sv (.string (jL g s b e).1)
 h':=λ⟨S,e,g,s,b⟩=>jw S (jL g s b e).2 2 3
 m':=4
 g:=λ_=>none
def zo5(S:List AT) (e0 e:Int):qk3 P (λ_=>none) Tryz.f63 wz (λ_=>{}) ⟨S,e0,e⟩=(True->(decide (e0=(0:Int))=true->List.length S=List.length S/\qt e0 e=e/\qa AT.cells S=qa AT.cells S/\True)/\(decide (e0=(0:Int))=false->List.length S=List.length S/\qt e0 e=e0/\qa AT.cells S=qa AT.cells S/\True)):=by kernel_rfl
def zw3(S:List AT) (e:Int) (t:AT):qk3 P (qfa [(63,wz)]) Tryz.f69 KF (λ_=>{}) ⟨S,e,t⟩=(True->(decide ((60:Int)<=(↑(length S):Int))=true->∃(b:List AT),(3:Int)=(3:Int)/\length b=length S/\e=e/\qa AT.cells b=qa AT.cells S/\True/\qw S=(0:Int)/\length (qC S t)=length b/\qI S e=qt e (3:Int)/\qa AT.cells (qC S t)=qa AT.cells b/\True)/\(decide ((60:Int)<=(↑(length S):Int))=false->length (qa AT.cells S)=length S*(10:Nat)/\(length S+nat_lit 1)*(160:Nat)<=(140737488355328:Nat)/\((-9223372036854775808:Int)<=(↑(length S+nat_lit 1):Int)- (1:Int)/\(↑(length S+nat_lit 1):Int)- (1:Int)<=(9223372036854775807:Int))/\qw S=(↑(length S+nat_lit 1):Int)- (1:Int)/\length (qC S t)=length S+nat_lit 1/\qI S e=e/\qa AT.cells (qC S t)=qa AT.cells S++[int i64 (AT.k t),string (AT.nm t),slice (Prod.fst (AT.al t)) (Prod.fst (Prod.snd (AT.al t))) (Prod.snd (Prod.snd (AT.al t))),int i64 (AT.it t),slice (Prod.fst (AT.sy t)) (Prod.fst (Prod.snd (AT.sy t))) (Prod.snd (Prod.snd (AT.sy t))),bool (AT.hd t),string (AT.df t),int i64 (AT.sz t),slice (Prod.fst (AT.f t)) (Prod.fst (Prod.snd (AT.f t))) (Prod.snd (Prod.snd (AT.f t))),slice (Prod.fst (AT.br t)) (Prod.fst (Prod.snd (AT.br t))) (Prod.snd (Prod.snd (AT.br t)))]/\True)):=by kernel_rfl
section
variable (a:IV) (b:Nat)
 abbrev Xs:=b<=14/\ZB a (drop b kinds) b=qK a
 abbrev Dm:=Jb ((↑b:Int)+1)
 def cb:=Dm b/\qK a=(↑b:Int)+1/\True
 def ca:=Dm b/\∃(c:Nat),a=a/\(↑c:Int)=(↑b:Int)+1/\(Xs a c)/\(14:Nat)- c<14- b/\True
 def b_:=(0<=(↑b:Int)/\(↑b:Int)<(↑(nat_lit 14):Int))/\∃c,qgf [string (mkS [110,117,108,108]),string (mkS [98,111,111,108,101,97,110]),string (mkS [105,110,116]),string (mkS [108,111,110,103]),string (mkS [102,108,111,97,116]),string (mkS [100,111,117,98,108,101]),string (mkS [98,121,116,101,115]),string (mkS [115,116,114,105,110,103]),string (mkS [114,101,99,111,114,100]),string (mkS [101,110,117,109]),string (mkS [102,105,120,101,100]),string (mkS [97,114,114,97,121]),string (mkS [109,97,112]),string (mkS [117,110,105,111,110])] (nat_lit 0+toNat (↑b:Int)*1) [string c]/\Ji (c=a) (cb a b) (ca a b)
 def b9:=Ji ((↑b:Int)<Int.ofNat (nat_lit 14)) (b_ a b) (qK a=0/\True)
 def b8:=(∃(c:Nat),a=a/\(↑c:Int)=0/\(Xs a c)/\True)/\∀(d:Nat),Xs a d->b9 a d
end
def zoy(s:IV):qk3 P (λ_=>none) Tryz.f68 WU (OB) s=(True->b8 s):=by kernel_rfl
def zxb:=λs=>Eq.trans (zoy s) (by delta Ji Jb Jt Jf Xs Dm cb ca b_ b9 b8;exact rfl)
section
variable (a:Int)
 abbrev cg:=(0<=a/\a<(↑(nat_lit 15):Int))/\∃b,qgf [string (mkS []),string (mkS [110,117,108,108]),string (mkS [98,111,111,108,101,97,110]),string (mkS [105,110,116]),string (mkS [108,111,110,103]),string (mkS [102,108,111,97,116]),string (mkS [100,111,117,98,108,101]),string (mkS [98,121,116,101,115]),string (mkS [115,116,114,105,110,103]),string (mkS [114,101,99,111,114,100]),string (mkS [101,110,117,109]),string (mkS [102,105,120,101,100]),string (mkS [97,114,114,97,121]),string (mkS [109,97,112]),string (mkS [117,110,105,111,110])] (nat_lit 0+toNat a*1) [string b]/\wF a=b/\True
 def cf:=Ji (14<a) (wF a=mkS []/\True) (cg a)
 def cd:=Ji (a<1) (wF a=mkS []/\True) (cf a)
end
def zkx(k:Int):qk3 P (λ_=>none) Tryz.f122 Ii (λ_=>{}) k=(True->cd k):=by kernel_rfl
def zqm:=λk=>Eq.trans (zkx k) (by delta Ji Jt Jf cg cf cd;exact rfl)
section
variable (b:IV) (a:List AT) (d:Int) (c:Nat) (g:Int) (v:Prop)
 abbrev YD:=length a=length a/\d=d/\qa AT.cells a=qa AT.cells a/\v
 def Xu:=c<=length a/\findF b (drop c a) c=findF b a 0
 def Xt:=Jb ((↑c:Int)+1)/\∃(e:Nat),b=b/\(↑e:Int)=(↑c:Int)+1/\YD a d ((Xu b a e)/\length a- e<length a- c/\True)
 def ct:=Ji (d<=11) (yX (findF b a 0)=(↑c:Int)/\Option.isSome (findF b a 0)=true/\YD a g True) (Xt b a g c)
 def cr:=Ji (9<=d) (ct b a d c g) (Xt b a g c)
 def cq:=(0<=(↑c:Int)/\(↑c:Int)<(↑(length a):Int))/\∃(e:Int),∃f,∃o,∃(p:Nat),∃(q:Nat),∃(r:Int),∃s,∃(t:Nat),∃(i8:Nat),∃(u:Bool),∃h,∃(i:Int),∃j,∃(k:Nat),∃(l:Nat),∃m,∃(i16:Nat),∃(n:Nat),qgf (qa AT.cells a) (nat_lit 0+toNat (↑c:Int)*nat_lit 10) [int i64 e,string f,slice o p q,int i64 r,slice s t i8,bool u,string h,int i64 i,slice j k l,slice m i16 n]/\Ji (f=b) (cr b a e c d) (Xt b a d c)
 def cu:=yX (findF b a 0)=0/\Option.isSome (findF b a 0)=false/\YD a d True
 def cp:=Ji ((↑c:Int)<(↑(length a):Int)) (cq b a d c) (cu b a d)
 def ch:=(∃(e:Nat),b=b/\(↑e:Int)=0/\YD a d ((Xu b a e)/\True))/\∀(f:Nat),Xu b a f->cp b a d f
end
def zho(S:List AT) (e:Int) (s:IV):qk3 P (λ_=>none) Tryz.f97 WT (Oz) ⟨S,e,s⟩=(length S<1000->ch s S e):=by kernel_rfl
def zo7:=λS e s=>Eq.trans (zho S e s) (by delta Ji Jb Jt Jf YD Xu Xt ct cr cq cu cp ch;exact rfl)
def j7l(S:List AT) (t:Int):qk3 P (qfa [(122,Ii)]) Tryz.f99 Da (λ_=>{}) ⟨S,t⟩=(length S<(1000:Nat)->(decide (t<(0:Int))=true->uC S t=mkS []/\qa AT.cells S=qa AT.cells S/\True)/\(decide (t<(0:Int))=false->(decide ((↑(length S):Int)<=t)=true->uC S t=mkS []/\qa AT.cells S=qa AT.cells S/\True)/\(decide ((↑(length S):Int)<=t)=false->((0:Int)<=t/\t<(↑(length S):Int))/\∃(s:IV),qgf (qa AT.cells S) (nat_lit 0+toNat t*nat_lit 10+(1:Nat)) [string s]/\((!decide (s=mkS []))=true->((0:Int)<=t/\t<(↑(length S):Int))/\∃(s:IV),qgf (qa AT.cells S) (nat_lit 0+toNat t*nat_lit 10+(1:Nat)) [string s]/\uC S t=s/\qa AT.cells S=qa AT.cells S/\True)/\((!decide (s=mkS []))=false->((0:Int)<=t/\t<(↑(length S):Int))/\∃(n:Int),qgf (qa AT.cells S) (nat_lit 0+toNat t*nat_lit 10+(0:Nat)) [int i64 n]/\∃(s:Int),s=n/\True/\uC S t=wF s/\qa AT.cells S=qa AT.cells S/\True)))):=by kernel_rfl
def join_eq(a b:IV):qk3 P (λ_=>none) Tryz.f98 HB (λ_=>{}) ⟨a,b⟩=(size a<(1000000:Nat)/\size b<(1000000:Nat)->(decide (a=mkS [])=true->size a+size b<=(9223372036854775807:Nat)/\z39 a b=a++b/\True)/\(decide (a=mkS [])=false->(decide (b=mkS [])=true->size a+size b<=(9223372036854775807:Nat)/\z39 a b=a++b/\True)/\(decide (b=mkS [])=false->size a+size (mkS [(46:Nat)])<=(9223372036854775807:Nat)/\size (a++mkS [(46:Nat)])+size b<=(9223372036854775807:Nat)/\z39 a b=a++mkS [(46:Nat)]++b/\True))):=by kernel_rfl
def zim(c:Int):qk3 P (λ_=>none) Tryz.f134 Nx (λ_=>{}) c=((0:Int)<=c/\c<(256:Int)->(decide ((97:Int)<=c)=true->(decide (c<=(122:Int))=true->isLt (toNat c)=true/\True)/\(decide (c<=(122:Int))=false->(decide ((65:Int)<=c)=true->(decide (c<=(90:Int))=true->isLt (toNat c)=true/\True)/\(decide (c<=(90:Int))=false->isLt (toNat c)=decide (c=(95:Int))/\True))/\(decide ((65:Int)<=c)=false->isLt (toNat c)=decide (c=(95:Int))/\True)))/\(decide ((97:Int)<=c)=false->(decide ((65:Int)<=c)=true->(decide (c<=(90:Int))=true->isLt (toNat c)=true/\True)/\(decide (c<=(90:Int))=false->isLt (toNat c)=decide (c=(95:Int))/\True))/\(decide ((65:Int)<=c)=false->isLt (toNat c)=decide (c=(95:Int))/\True))):=by kernel_rfl
def zo0(c:Int):qk3 P (λ_=>none) Tryz.f135 NW (λ_=>{}) c=((0:Int)<=c/\c<(256:Int)->(decide ((48:Int)<=c)=true->Kk (Int.toNat c)=decide (c<=(57:Int))/\True)/\(decide ((48:Int)<=c)=false->Kk (Int.toNat c)=false/\True)):=by kernel_rfl
section
variable (a:IV) (b:Nat) (e:Prop)
 abbrev Xv:=b<=size a/\uT a (size a- b) b=uT a (size a) 0
 abbrev QF:=(↑(bat a (toNat (↑b:Int))):Int)
 def Do:=(0<=(↑b:Int)/\(↑b:Int)<(↑(size a):Int))/\(QF a b)=(QF a b)/\(0<=(QF a b)/\(QF a b)<256)/\e
 def Dn:=Jb ((↑b:Int)+1)/\∃(c:Nat),a=a/\(↑c:Int)=(↑b:Int)+1/\(Xv a c)/\size a- c<size a- b/\True
 def cB:=Do a b (((!Kk (toNat (QF a b)))=true->vp a=false/\True)/\((!Kk (toNat (QF a b)))=false->Dn a b))
 def cA:=Ji ((↑b:Int)=0) (vp a=false/\True) (cB a b)
 def cz:=Do a b (((!isLt (toNat (QF a b)))=true->cA a b)/\((!isLt (toNat (QF a b)))=false->Dn a b))
 def cy:=Ji ((↑b:Int)<(↑(size a):Int)) (cz a b) (vp a=decide (0<(↑(size a):Int))/\True)
 def cx:=(∃(c:Nat),a=a/\(↑c:Int)=0/\(Xv a c)/\True)/\∀(d:Nat),Xv a d->cy a d
end
def zpi(s:IV):qk3 P (qfa [(134,Nx),(135,NW)]) Tryz.f124 VJ (OD) s=(size s<1000000->cx s):=by kernel_rfl
def zy4:=λs=>Eq.trans (zpi s) (by delta Ji Jb Jt Jf Xv QF Do Dn cB cA cz cy cx;exact rfl)
section
variable (b:IV) (a e:Nat×IV)
 abbrev Xw:=a.1<=size b+1/\size a.2<=a.1/\xF b (size b+1- a.1) a.1 a.2=Zf b
 abbrev Xx:=Jb ((↑a.1:Int)+1)
 def Dq:=(↑a.1:Int)=(↑e.1:Int)+1/\(Xw b a)/\size b+1- a.1<size b+1- e.1/\True
 def cG:=Xx a/\(0<=(↑a.1:Int)/\(↑a.1:Int)<=(↑a.1:Int)+1/\(↑a.1:Int)+1<=(↑(size b):Int))/\size a.2+size (ByteArray.extract b (toNat (↑a.1:Int)) (toNat ((↑a.1:Int)+1)))<=9223372036854775807/\Xx a/\∃(c:Nat×IV),b=b/\c.2=a.2++ByteArray.extract b (toNat (↑a.1:Int)) (toNat ((↑a.1:Int)+1))/\Dq b c a
 def cH:=Xx a/\∃(c:Nat×IV),b=b/\c.2=mkS []/\Dq b c a
 def Dp:=a.2=a.2/\size a.2<1000000/\((!vp a.2)=true->Zf b=false/\True)/\((!vp a.2)=false->cH b a)
 def cF:=(0<=(↑a.1:Int)/\(↑a.1:Int)<(↑(size b):Int))/\((!decide ((↑(bat b (toNat (↑a.1:Int))):Int)=46))=true->cG b a)/\((!decide ((↑(bat b (toNat (↑a.1:Int))):Int)=46))=false->Dp b a)
 def cE:=Ji ((↑a.1:Int)<(↑(size b):Int)) (cF b a) (Dp b a)
 def cD:=Ji ((↑a.1:Int)<=(↑(size b):Int)) (cE b a) (Zf b=true/\True)
 def cC:=(∃(c:Nat×IV),b=b/\c.2=mkS []/\(↑c.1:Int)=0/\(Xw b c)/\True)/\∀(d:Nat×IV),Xw b d->cD b d
end
def zj2(s:IV):qk3 P (qfa [(124,VJ)]) Tryz.f123 Hd (zvf) s=(size s<100000->cC s):=by kernel_rfl
def parts_eq:=λs=>Eq.trans (zj2 s) (by delta Ji Jb Jt Jf Xw Xx Dq cG cH Dp cF cE cD cC;exact rfl)
section
variable (a:IV) (b:Nat)
 abbrev Xy:=b<=size a/\kg a b=kg a (size a)
 abbrev Xz:=0<=(↑b:Int)- 1
 def cM:=(Xz b/\(↑b:Int)- 1<=(↑(size a):Int))/\kg a (size a)=ByteArray.extract a 0 (toNat ((↑b:Int)- 1))/\True
 def cL:=Jb ((↑b:Int)- 1- 1)/\∃(c:Nat),a=a/\(↑c:Int)- 1=(↑b:Int)- 1- 1/\(Xy a c)/\c<b/\True
 def cK:=(Xz b/\(↑b:Int)- 1<(↑(size a):Int))/\Ji ((↑(bat a (toNat ((↑b:Int)- 1))):Int)=46) (cM a b) (cL a b)
 def cJ:=Ji (Xz b) (cK a b) (kg a (size a)=mkS []/\True)
 def cI:=Jb ((↑(size a):Int)- 1)/\(∃(c:Nat),a=a/\(↑c:Int)- 1=(↑(size a):Int)- 1/\(Xy a c)/\True)/\∀(d:Nat),Xy a d->cJ a d
end
def zee(s:IV):qk3 P (λ_=>none) Tryz.f102 z70 (zkg) s=(size s<1000000->cI s):=by kernel_rfl
def zgy:=λs=>Eq.trans (zee s) (by delta Ji Jb Jt Jf Xy Xz cM cL cK cJ cI;exact rfl)
section
variable (a c:IV) (d:List AT) (e:Int) (b:Nat×IV) (i:Prop) (h:Nat×IV)
 abbrev Dt:=b.1<=size a/\(if ZA a (size a- b.1) b.1=true then a else b.2)=vm a c
 def Dr:=length d=length d/\e=e/\qa AT.cells d=qa AT.cells d/\(Dt a c b)/\i
 abbrev It:=Jb ((↑b.1:Int)+1)
 def Iu:=a=a/\(↑b.1:Int)=(↑h.1:Int)+1/\Dr c a d e b (size c- b.1<size c- h.1/\True)
 def cS:=It b/\∃(f:Nat×IV),a=a/\f.2=a/\Iu c a d e f b
 def cR:=It b/\∃(f:Nat×IV),a=a/\f.2=b.2/\Iu c a d e f b
 def cP:=(0<=(↑b.1:Int)/\(↑b.1:Int)<(↑(size a):Int))/\Ji ((↑(bat a (toNat (↑b.1:Int))):Int)=46) (cS a c d e b) (cR a c d e b)
 def Ds:=∃(f:List AT),(6:Int)=6/\length f=length d/\e=e/\qa AT.cells f=qa AT.cells d/\True/\vm a c=b.2/\length d=length f/\v8 a c e=qt e 6/\qa AT.cells d=qa AT.cells f/\True
 def cT:=b.2=b.2/\size b.2<100000/\((!Zf b.2)=true->Ds a c d e b)/\((!Zf b.2)=false->vm a c=b.2/\length d=length d/\v8 a c e=e/\qa AT.cells d=qa AT.cells d/\True)
 def cQ:=Ji (a=mkS []) (Ds a c d e b) (cT a c d e b)
 def cO:=Ji ((↑b.1:Int)<(↑(size a):Int)) (cP a c d e b) (cQ a c d e b)
 def cN:=a=a/\c=c/\(size a<1000000/\size c<1000000)/\(∃(f:Nat×IV),c=c/\f.2=z39 a c/\a=a/\(↑f.1:Int)=0/\Dr c a d e f True)/\∀(g:Nat×IV),Dt c a g->cO c a d e g
end
def zfn(S:List AT) (e:Int) (a b:IV):qk3 P (qfa [(98,HB),(123,Hd),(63,wz)]) Tryz.f101 GW (zvm) ⟨S,e,a,b⟩=(size a<10000/\size b<50000->cN b a S e):=by kernel_rfl
def zkv:=λS e a b=>Eq.trans (zfn S e a b) (by delta Ji Jb Jt Jf Dt Dr It Iu cS cR cP Ds cT cQ cO cN;exact rfl)
section
variable (b:IV) (a:GJ) (c:Nat) (p:Prop)
 abbrev Dv:=c<=length (GJ.nm a)/\(if GJ.k a=6 then js b (drop c (GJ.nm a)) (drop c (GJ.l a))else none)=qm b a
 def Du:=GJ.k a=GJ.k a/\GJ.n a=GJ.n a/\GJ.s a=GJ.s a/\(GJ.y a).1=(GJ.y a).1/\(GJ.y a).2.1=(GJ.y a).2.1/\(GJ.y a).2.2=(GJ.y a).2.2/\(GJ.x a).1=(GJ.x a).1/\(GJ.x a).2.1=(GJ.x a).2.1/\(GJ.x a).2.2=(GJ.x a).2.2/\(∀d,True/\GJ.ok a d->True/\GJ.ok a d)/\(Dv b a c)/\p
 abbrev Iv:=(↑c:Int)<(↑(GJ.x a).2.1:Int)
 abbrev Iw:=(↑c:Int)<(↑(GJ.y a).2.1:Int)
 abbrev JH:=GJ.y (Option.getD (qm b a) zJ)
 abbrev JI:=GJ.x (Option.getD (qm b a) zJ)
 def cZ:=(0<=(↑c:Int)/\Iw a c)/\(GJ.y a).1≠noA/\∃(d:Int),∃(e:Int),∃f,∃g,∃(h:Nat),∃(i:Nat),∃j,∃(m:Nat),∃(i8:Nat),(∀o,True/\GJ.ok a o->q37 o (adr (GJ.y a).1 (toNat (↑c:Int)*5)) [int i64 d,int i64 e,string f,slice g h i,slice j m i8])/\GJ.k (Option.getD (qm b a) zJ)=d/\GJ.n (Option.getD (qm b a) zJ)=e/\GJ.s (Option.getD (qm b a) zJ)=f/\(JH b a).1=g/\(JH b a).2.1=h/\(JH b a).2.2=i/\(JI b a).1=j/\(JI b a).2.1=m/\(JI b a).2.2=i8/\Option.isSome (qm b a)=true/\True
 def c5:=Jb ((↑c:Int)+1)/\∃(d:Nat),b=b/\(↑d:Int)=(↑c:Int)+1/\Du b a d (length (GJ.nm a)- d<length (GJ.nm a)- c/\True)
 def cY:=(0<=(↑c:Int)/\Iv a c)/\(GJ.x a).1≠noA/\∃d,(∀e,True/\GJ.ok a e->q37 e (adr (GJ.x a).1 (toNat (↑c:Int)*1)) [string d])/\Ji (d=b) (cZ b a c) (c5 b a c)
 def XA:=GJ.k (Option.getD (qm b a) zJ)=0/\GJ.n (Option.getD (qm b a) zJ)=0/\GJ.s (Option.getD (qm b a) zJ)=mkS []/\(JH b a).1=noA/\(JH b a).2.1=0/\(JH b a).2.2=0/\(JI b a).1=noA/\(JI b a).2.1=0/\(JI b a).2.2=0/\Option.isSome (qm b a)=false/\True
 abbrev cX:=Ji (Iw a c) (cY b a c) (XA b a)
 abbrev cW:=Ji (Iv a c) (cX b a c) (XA b a)
 def cV:=Ji (GJ.k a=6) (cW b a c) (XA b a)
 def cU:=(∃(d:Nat),b=b/\(↑d:Int)=0/\Du b a d True)/\∀(f:Nat),Dv b a f->cV b a f
end
def zom(g:GJ) (s:IV):qk3 P (λ_=>none) Tryz.f66 z64 (OA) ⟨g,s⟩=(GJ.wf g->(∃(p:Pub),True/\GJ.ok g p)->cU s g):=by kernel_rfl
def zwy:=λg s=>Eq.trans (zom g s) (by delta Ji Jb Jt Jf Dv Du Iv Iw JH JI cZ c5 cY XA cX cW cV cU;exact rfl)
section
variable (d:GJ×IV) (a:List AT) (b:Int) (e:GJ) (f:IV) (c:Bool)
 def c_:=(jL e f c b).1=mkS []/\length a=length a/\(jL e f c b).2=b/\qa AT.cells a=qa AT.cells a/\True
 def Dx:=∃(g:List AT),(2:Int)=2/\length g=length a/\b=b/\qa AT.cells g=qa AT.cells a/\True/\(jL e f c b).1=mkS []/\length a=length g/\(jL e f c b).2=qt b 2/\qa AT.cells a=qa AT.cells g/\True
 def c9:=(jL e f c b).1=GJ.s (Option.getD (qm d.2 d.1) zJ)/\length a=length a/\(jL e f c b).2=b/\qa AT.cells a=qa AT.cells a/\True
 def c6:=((!decide (GJ.k (Option.getD (qm d.2 d.1) zJ)=4))=true->Dx a b e f c)/\((!decide (GJ.k (Option.getD (qm d.2 d.1) zJ)=4))=false->c9 d a b e f c)
 def Dw:=((!Option.isSome (qm d.2 d.1))=true->Dx a b e f c)/\((!Option.isSome (qm d.2 d.1))=false->c6 d a b e f c)
 def c7:=((!c)=true->c_ a b e f c)/\((!c)=false->Dw d a b e f c)
end
def zky(S:List AT) (e:Int) (g:GJ) (s:IV) (b:Bool):qk3 P (qfa [(66,z64),(63,wz)]) Tryz.f100 WN (λ_=>{}) ⟨S,e,g,s,b⟩=(GJ.wf g->(∃(p:Pub),True/\GJ.ok g p)->∃(s_1:GJ×IV),GJ.k s_1.1=GJ.k g/\GJ.n s_1.1=GJ.n g/\GJ.s s_1.1=GJ.s g/\(GJ.y s_1.1).1=(GJ.y g).1/\(GJ.y s_1.1).2.1=(GJ.y g).2.1/\(GJ.y s_1.1).2.2=(GJ.y g).2.2/\(GJ.x s_1.1).1=(GJ.x g).1/\(GJ.x s_1.1).2.1=(GJ.x g).2.1/\(GJ.x s_1.1).2.2=(GJ.x g).2.2/\s_1.2=s/\GJ.wf s_1.1/\(∀(p:Pub),True/\GJ.ok g p->GJ.ok s_1.1 p)/\((!Option.isSome (qm s_1.2 s_1.1))=true->c7 s_1 S e g s b)/\((!Option.isSome (qm s_1.2 s_1.1))=false->Dw s_1 S e g s b)):=by kernel_rfl
def zqo:=λS e g s b=>Eq.trans (zky S e g s b) (by delta c_ Dx c9 c6 Dw c7;exact rfl)
section
variable (a:SV) (b:Int) (c:List Int) (d:Int) (g:Prop)
 abbrev Dy:=a.1=a.1/\a.2.1=a.2.1/\a.2.2=a.2.2/\g
 def dc:=ql c b d=0/\Dy a (qh c b=b/\True)
 def db:=Jb (b+1)/\Jb (b+1- 1)/\(0<=b+1- 1/\b+1- 1<(↑a.2.1:Int))/\a.1≠noA/\∃(e:Int),(∀f,True/\qc qn a c f->q37 f (adr a.1 (toNat (b+1- 1)*1)) [int u8 e])/\Jb (e)/\d≠0/\ql c b d=Int.tmod e d/\Dy a (qh c b=b+1/\True)
 def da:=Ji ((↑a.2.1:Int)<=b) (dc a b c d) (db a b c d)
end
def zy0(x:SV) (L:List Int) (n m:Int):qk3 P (λ_=>none) Tryz.f23 Qz (λ_=>{}) ⟨x,L,n,m⟩=(0<=n/\n<=(↑(length L):Int)/\0<m/\m<1000000/\zM L->(∃(p:Pub),True/\qc qn x L p)->da x n L m):=by kernel_rfl
def j71:=λx L n m=>Eq.trans (zy0 x L n m) (by delta Ji Jb Jt Jf Dy dc db da;exact rfl)
def zy3(x:SV) (L:List Int) (n:Int):qk3 P (λ_=>none) Tryz.f22 WW (λ_=>{}) ⟨x,L,n⟩=(True->(∃(p:Nat->Option Obj),True/\qc qn x L p)->decide ((↑(List.length L):Int)<=n)=decide ((↑(Prod.fst (Prod.snd x)):Int)<=n)/\Prod.fst x=Prod.fst x/\Prod.fst (Prod.snd x)=Prod.fst (Prod.snd x)/\Prod.snd (Prod.snd x)=Prod.snd (Prod.snd x)/\n=n/\True):=by kernel_rfl
def zyw(s:IV):qk3 P (λ_=>none) Tryz.f72 VK (λ_=>{}) s=(True->s=s/\True):=by kernel_rfl
def zjt(u:Unit):qk3 P (λ_=>none) Tryz.f71 Vz (λ_=>{}) N3.two=(True->True):=by kernel_rfl
def zju(u:Unit):qk3 P (λ_=>none) Tryz.f71 Vz (λ_=>{}) N3.three=(True->True):=by kernel_rfl
def zjv(u:Unit):qk3 P (λ_=>none) Tryz.f71 Vz (λ_=>{}) N3.four=(True->True):=by kernel_rfl
section
variable (b:IV) (a:GJ) (c:Nat) (p:Prop)
 abbrev DA:=c<=length (GJ.nm a)/\js b (drop c (GJ.nm a)) (drop c (GJ.l a))=js b (GJ.nm a) (GJ.l a)
 def Dz:=GJ.k a=GJ.k a/\GJ.n a=GJ.n a/\GJ.s a=GJ.s a/\(GJ.y a).1=(GJ.y a).1/\(GJ.y a).2.1=(GJ.y a).2.1/\(GJ.y a).2.2=(GJ.y a).2.2/\(GJ.x a).1=(GJ.x a).1/\(GJ.x a).2.1=(GJ.x a).2.1/\(GJ.x a).2.2=(GJ.x a).2.2/\(∀d,True/\GJ.ok a d->True/\GJ.ok a d)/\(DA b a c)/\p
 abbrev DB:=(↑c:Int)<(↑(GJ.x a).2.1:Int)
 abbrev z80:=Option.getD (js b (GJ.nm a) (GJ.l a)) zJ
 def dh:=(0<=(↑c:Int)/\(↑c:Int)<(↑(GJ.y a).2.1:Int))/\(GJ.y a).1≠noA/\∃(d:Int),∃(e:Int),∃f,∃g,∃(h:Nat),∃(i:Nat),∃j,∃(m:Nat),∃(i8:Nat),(∀o,True/\GJ.ok a o->q37 o (adr (GJ.y a).1 (toNat (↑c:Int)*5)) [int i64 d,int i64 e,string f,slice g h i,slice j m i8])/\GJ.k (z80 b a)=d/\GJ.n (z80 b a)=e/\GJ.s (z80 b a)=f/\(GJ.y (z80 b a)).1=g/\(GJ.y (z80 b a)).2.1=h/\(GJ.y (z80 b a)).2.2=i/\(GJ.x (z80 b a)).1=j/\(GJ.x (z80 b a)).2.1=m/\(GJ.x (z80 b a)).2.2=i8/\Option.isSome (js b (GJ.nm a) (GJ.l a))=true/\True
 def dm:=Jb ((↑c:Int)+1)/\∃(d:Nat),b=b/\(↑d:Int)=(↑c:Int)+1/\Dz b a d (length (GJ.nm a)- d<length (GJ.nm a)- c/\True)
 def dg:=(0<=(↑c:Int)/\DB a c)/\(GJ.x a).1≠noA/\∃d,(∀e,True/\GJ.ok a e->q37 e (adr (GJ.x a).1 (toNat (↑c:Int)*1)) [string d])/\Ji (d=b) (dh b a c) (dm b a c)
 def dn:=GJ.k (z80 b a)=0/\GJ.n (z80 b a)=0/\GJ.s (z80 b a)=mkS []/\(GJ.y (z80 b a)).1=noA/\(GJ.y (z80 b a)).2.1=0/\(GJ.y (z80 b a)).2.2=0/\(GJ.x (z80 b a)).1=noA/\(GJ.x (z80 b a)).2.1=0/\(GJ.x (z80 b a)).2.2=0/\Option.isSome (js b (GJ.nm a) (GJ.l a))=false/\True
 abbrev de:=Ji (DB a c) (dg b a c) (dn b a)
 def dd:=(∃(d:Nat),b=b/\(↑d:Int)=0/\Dz b a d True)/\∀(f:Nat),DA b a f->de b a f
end
def zwz(g:GJ) (s:IV):qk3 P (λ_=>none) Tryz.f107 Xi (bF) ⟨g,s⟩=(GJ.wf g->(∃(p:Pub),True/\GJ.ok g p)->dd s g):=by kernel_rfl
def get_eq:=λg s=>Eq.trans (zwz g s) (by delta Ji Jb Jt Jf DA Dz DB z80 dh dm dg dn de dd;exact rfl)
section
variable (a:GJ) (d:SV) (b:Int) (c:List Int) (i:Prop) (j:Int) (g:GJ×IV) (p:List Int)
 abbrev IB:=GJ.s a=mkS [105,110,116]
 def xG:=d.1=d.1/\d.2.1=d.2.1/\d.2.2=d.2.2/\i
 def QG:=xG d (b=b/\GJ.k a=GJ.k a/\GJ.n a=GJ.n a/\GJ.s a=GJ.s a/\(GJ.y a).1=(GJ.y a).1/\(GJ.y a).2.1=(GJ.y a).2.1/\(GJ.y a).2.2=(GJ.y a).2.2/\(GJ.x a).1=(GJ.x a).1/\(GJ.x a).2.1=(GJ.x a).2.1/\(GJ.x a).2.2=(GJ.x a).2.2/\(∀e,True/\qc qn d c e/\GJ.ok a e->True/\qc qn d c e/\GJ.ok a e)/\i)
 abbrev IA:=GJ.s a=mkS [108,111,110,103]
 abbrev Iy:=GJ.s a=mkS [102,108,111,97,116]
 def OP:=Ji (Iy a) (∃(e:Unit),GJ.s a=GJ.s a/\isNum (GJ.s a)=decide (Iy a)/\QG a d b c (True/\True)) (∃(h:Unit),GJ.s a=GJ.s a/\isNum (GJ.s a)=decide (GJ.s a=mkS [100,111,117,98,108,101])/\QG a d b c (True/\True))
 def ON:=Ji (IA a) (∃(e:Unit),GJ.s a=GJ.s a/\isNum (GJ.s a)=decide (IA a)/\QG a d b c (True/\True)) (OP a d b c)
 def HR:=b=b/\(0<=b/\b<=(↑(length c):Int)/\0<j/\j<1000000/\zM c)/\(∀e,True/\qc qn d p e/\GJ.ok a e->qc qn (d.1,d.2.1,d.2.2) c e)/\i
 abbrev uq:=(zP a c b).2.2
 abbrev Ix:=GJ.s a=mkS [115,116,114,105,110,103]
 abbrev OT:=GJ.s a=mkS [98,111,111,108,101,97,110]
 def YE:=(zP a c b).1=j/\(zP a c b).2.1=0/\(uq a b c).1=mkS []/\xG d ((uq a b c).2=b/\True)
 def HS:=GJ.k a=4/\(isNum (GJ.s a)=true\/wD (GJ.s a)=true\/JE (GJ.s a)=true\/VM (GJ.s a)=true)
 def OQ:=Ji (GJ.s a=mkS [110,117,108,108]) (YE a d b c 1) (∃(e:Unit),QG a d b c (¬(HS a)/\True))
 def dy:=Ji (OT a) (∃(e:List Int),(2:Int)=2/\xG d (HR a d b e ((zP a c b).1=2/\(zP a c b).2.1=ql e b 2/\(uq a b c).1=mkS []/\xG d ((uq a b c).2=qh e b/\True)) 2 c)) (OQ a d b c)
 def dv:=(wD (GJ.s a)=true->∃(e:List Int),(3:Int)=3/\xG d (HR a d b e ((0<=ql e b 3/\ql e b (3:Int)<(↑(nat_lit 3):Int))/\∃f,qgf [string (mkS []),string (mkS [100]),string (mkS [195,164])] (nat_lit 0+toNat (ql e b 3)*1) [string f]/\f=f/\True/\(zP a c b).1=4/\(zP a c b).2.1=0/\(uq a b c).1=f/\xG d ((uq a b c).2=qh e b/\True)) 3 c))/\(wD (GJ.s a)=false->dy a d b c)
 def du:=(Ji (Ix a) (∃(e:Unit),GJ.s a=GJ.s a/\wD (GJ.s a)=decide (Ix a)/\QG a d b c (True/\True)) (∃(f:Unit),GJ.s a=GJ.s a/\wD (GJ.s a)=decide (GJ.s a=mkS [98,121,116,101,115])/\QG a d b c (True/\True)))/\∀(q:Unit),True->dv a d b c
 def dt:=(isNum (GJ.s a)=true->∃(e:List Int),(200:Int)=200/\xG d (HR a d b e (Jb (ql e b 200- 50)/\(zP a c b).1=3/\(zP a c b).2.1=ql e b 200- 50/\(uq a b c).1=mkS []/\xG d ((uq a b c).2=qh e b/\True)) 200 c))/\(isNum (GJ.s a)=false->du a d b c)
 def dr:=(Ji (IB a) (∃(e:Unit),GJ.s a=GJ.s a/\isNum (GJ.s a)=decide (IB a)/\QG a d b c (True/\True)) (ON a d b c))/\∀(i8:Unit),True->dt a d b c
 abbrev Iz:=Option.getD (js g.2 (GJ.nm g.1) (GJ.l g.1)) zJ
 abbrev OU:=GJ.s (Iz g)=mkS [97,114,114,97,121]
 def OS:=mkS [88]=mkS [88]/\True/\(zP a c b).1=4/\(zP a c b).2.1=0/\(uq a b c).1=mkS [88]/\xG d ((uq a b c).2=b/\True)
 def OO:=Ji (GJ.s (Iz g)=mkS [101,110,117,109]) (OS a d b c) (YE a d b c 6)
 def dx:=Ji (GJ.k a=5) (YE a d b c 1) (∃(e:GJ×IV),GJ.k e.1=GJ.k a/\GJ.n e.1=GJ.n a/\GJ.s e.1=GJ.s a/\(GJ.y e.1).1=(GJ.y a).1/\(GJ.y e.1).2.1=(GJ.y a).2.1/\(GJ.y e.1).2.2=(GJ.y a).2.2/\(GJ.x e.1).1=(GJ.x a).1/\(GJ.x e.1).2.1=(GJ.x a).2.1/\(GJ.x e.1).2.2=(GJ.x a).2.2/\e.2=mkS [116,121,112,101]/\GJ.wf e.1/\(∀h,True/\qc qn d c h/\GJ.ok a h->GJ.ok e.1 h)/\Ji (OU e) (YE a d b c 5) (OO a d b c e))
 def dq:=(Ji (GJ.k a=4) (dr a d b c) (∃(m:Unit),QG a d b c (¬(HS a)/\True)))/\∀(o:Unit),¬(HS a)->dx a d b c
end
def znz(x:SV) (L:List Int) (n:Int) (g:GJ):qk3 P (qfa [(23,Qz),(72,VK),(107,Xi)]) Tryz.f73 GC (ze3) ⟨x,L,n,g⟩=(0<=n/\n<=(↑(length L):Int)/\zM L/\GJ.wf g->(∃(p:Pub),True/\qc qn x L p/\GJ.ok g p)->dq g x n L):=by kernel_rfl
def zwq:=λx L n g=>Eq.trans (znz x L n g) (by delta Ji Jb Jt Jf IB xG QG IA Iy OP ON HR uq Ix OT YE HS OQ dy dv du dt dr Iz OU OS OO dx dq;exact rfl)
def j6r(c:Nat):qQ c<=4:=by
 unfold qQ;repeat' split
 all_goals omega
def j6t(c:Nat):z7 c<128:=by
 unfold z7;repeat' split
 all_goals omega
section
variable (a b c:Int)
 abbrev dD:=(↑(qQ (toNat a)):Int)=1/\(↑(z7 (toNat a)):Int)=IntKind.wrap u32 a/\True
 abbrev XC:=shP BinOp.shr u8 a b=c
 def XB:=(↑(qQ (toNat a)):Int)=b/\(↑(z7 (toNat a)):Int)=IntKind.wrap u32 (qaf BinOp.and u8 a c)/\True
 def dE:=(↑(qQ (toNat a)):Int)=0/\(↑(z7 (toNat a)):Int)=0/\True
 def dC:=(0:Int)<=3/\Ji (XC a 3 30) (XB a 4 7) (dE a)
 def dB:=(0:Int)<=4/\Ji (XC a 4 14) (XB a 3 15) (dC a)
 def dA:=(0:Int)<=5/\Ji (XC a 5 6) (XB a 2 31) (dB a)
 def dz:=Ji (a<128) (dD a) (dA a)
end
def zp1(c:Int):qk3 P ((λ_=>none)) Tryz.f131 Ih (λ_=>{}) c=(0<=c/\c<256->dz c):=by kernel_rfl
def zxd:=λc=>Eq.trans (zp1 c) (by delta Ji Jt Jf dD XC XB dE dC dB dA dz;exact rfl)
def jg6:∀c<256,¬c<128->(decide (shP BinOp.shr IntKind.u8 (c:Nat) 5=6)=(decide (192<=c)&&decide (c<224)))/\(decide (shP BinOp.shr IntKind.u8 (c:Nat) 4=14)=(decide (224<=c)&&decide (c<240)))/\(decide (shP BinOp.shr IntKind.u8 (c:Nat) 3=30)=(decide (240<=c)&&decide (c<248))):=by decide+kernel
def jg7:∀c<256,IntKind.wrap IntKind.u32 ((c:Nat):Int)=(c:Nat)/\(192<=c->c<224->IntKind.wrap IntKind.u32 (qaf BinOp.and IntKind.u8 (c:Nat) 31)=((c- 192:Nat):Int))/\(224<=c->c<240->IntKind.wrap IntKind.u32 (qaf BinOp.and IntKind.u8 (c:Nat) 15)=((c- 224:Nat):Int))/\(240<=c->c<248->IntKind.wrap IntKind.u32 (qaf BinOp.and IntKind.u8 (c:Nat) 7)=((c- 240:Nat):Int)):=by decide+kernel
def zxe:q4p P 131 Ih:=by
 refine qF jz (W:=λ_=>{}) Tryz.func131 λ(c:Int)=>(zxd c).mpr ?_;rintro⟨h1,h2⟩;obtain⟨n,rfl⟩:=Int.eq_ofNat_of_zero_le h1;have hn:n<256:=by omega
 obtain⟨b0,b1,b2,b3⟩:=jg7 n hn;simp only[Int.toNat_natCast,and_true,decide_eq_true_eq,decide_eq_false_iff_not];refine⟨λh=> ?_,λh=>⟨by omega,?_⟩⟩
 ·unfold qQ z7;rw[if_pos (by omega),if_pos (by omega),b0];simp
 have hg:¬n<128:=by omega
 obtain⟨a1,a2,a3⟩:=jg6 n hn hg;have a1:(shP BinOp.shr IntKind.u8 (n:Nat) 5=6)↔(192<=n/\n<224):=by rw[←decide_eq_true_iff (p:=shP BinOp.shr IntKind.u8 (n:Nat) 5=6),a1];simp
 have a2:(shP BinOp.shr IntKind.u8 (n:Nat) 4=14)↔(224<=n/\n<240):=by rw[←decide_eq_true_iff (p:=shP BinOp.shr IntKind.u8 (n:Nat) 4=14),a2];simp
 have a3:(shP BinOp.shr IntKind.u8 (n:Nat) 3=30)↔(240<=n/\n<248):=by rw[←decide_eq_true_iff (p:=shP BinOp.shr IntKind.u8 (n:Nat) 3=30),a3];simp
 rw[a1,a2,a3];refine⟨λg=> ?_,λg=>⟨by omega,λg2=> ?_,λg2=>⟨by omega,λg3=> ?_,λg3=> ?_⟩⟩⟩
 ·unfold qQ z7;rw[if_neg hg,if_pos g,if_neg hg,if_pos g,b1 g.1 g.2];simp
 ·unfold qQ z7;rw[if_neg hg,if_neg g,if_pos g2,if_neg hg,if_neg g,if_pos g2,b2 g2.1 g2.2];simp
 ·unfold qQ z7;rw[if_neg hg,if_neg g,if_neg g2,if_pos g3,if_neg hg,if_neg g,if_neg g2,if_pos g3,b3 g3.1 g3.2];simp
 ·unfold qQ z7;rw[if_neg hg,if_neg g,if_neg g2,if_neg g3,if_neg hg,if_neg g,if_neg g2,if_neg g3];simp
def j6n(c:Int):qk3 P ((λ_=>none)) Tryz.f132 MP (λ_=>{}) c=((0:Int)<=c/\c<(4294967296:Int)->(decide (c<=(1114111:Int))=true->(0:Int)<=(11:Int)/\vX (Int.toNat c)= !decide (shP BinOp.shr IntKind.u32 c (11:Int)=(27:Int))/\True)/\(decide (c<=(1114111:Int))=false->vX (Int.toNat c)=false/\True)):=by kernel_rfl
def jg2:q4p P 132 MP:=by
 refine qF jz (W:=λ_=>{}) Tryz.func132 λ(c:Int)=>(j6n c).mpr ?_;rintro⟨h1,h2⟩;obtain⟨n,rfl⟩:=Int.eq_ofNat_of_zero_le h1;simp only[Int.toNat_natCast,and_true,decide_eq_true_eq,decide_eq_false_iff_not,vX];refine⟨λh=>⟨by omega,?_⟩,λh=> ?_⟩
 ·have:shP BinOp.shr IntKind.u32 (n:Nat) 11=((n / 2048:Nat):Int):=by show(n:Int).fdiv (2 ^ 11)=_;rw[Int.fdiv_eq_ediv_of_nonneg _ (by decide)];omega
  rw[this];by_cases g:55296<=n/\n<=57343
  ·have e:n / 2048=27:=(by omega);rw[e];simp;omega
  ·have e:n / 2048≠27:=(by omega);have e2:¬((n / 2048:Nat):Int)=27:=(by omega);rw[decide_eq_false e2];simp;omega
 ·rw[decide_eq_false (by omega)];rfl
def zf5(c:Int):qk3 P ((λ_=>none)) Tryz.f133 Nw (λ_=>{}) c=((0:Int)<=c/\c<(4294967296:Int)->(decide (c<(128:Int))=true->(↑(vF (toNat c)):Int)=(1:Int)/\True)/\(decide (c<(128:Int))=false->(decide (c<(2048:Int))=true->(↑(vF (toNat c)):Int)=(2:Int)/\True)/\(decide (c<(2048:Int))=false->(decide (c<(65536:Int))=true->(↑(vF (toNat c)):Int)=(3:Int)/\True)/\(decide (c<(65536:Int))=false->(↑(vF (toNat c)):Int)=(4:Int)/\True)))):=by kernel_rfl
def zil:q4p P 133 Nw:=by
 refine qF jz (W:=λ_=>{}) Tryz.func133 λ(c:Int)=>(zf5 c).mpr ?_;rintro⟨h1,h2⟩;simp only[and_true,decide_eq_true_eq,decide_eq_false_iff_not,vF];refine⟨λh=> ?_,λh=>⟨λg=> ?_,λg=>⟨λk=> ?_,λk=> ?_⟩⟩⟩
 ·rw[if_pos (by omega)];rfl
 ·rw[if_neg (by omega),if_pos (by omega)];rfl
 ·rw[if_neg (by omega),if_neg (by omega),if_pos (by omega)];rfl
 ·rw[if_neg (by omega),if_neg (by omega),if_neg (by omega)];rfl
def ct1:∀c<256,decide (shP BinOp.shr IntKind.u8 (c:Nat) 6=2)=xQ c:=by decide+kernel
def ct2:∀c<256,xQ c=true->IntKind.wrap IntKind.u32 (qaf BinOp.and IntKind.u8 (c:Nat) 63)=((c- 128:Nat):Int)/\c- 128<64:=by decide+kernel
def Hv(s:IV):∀(i r:Nat),zm s i=some r->i<=4->r<128*64 ^ (i- 1)
  |0,r,h,_=>by simp[zm]at h;subst h;decide
  | 1,r,h,_=>by simp[zm]at h;have:=j6t (bat s 0);rw[h]at this;simpa using this
  | i + 2,r,h,hi=>by
    simp only[zm]at h;split at h
    · rename_i q hq;have ih:=Hv s (i+1) q hq (by omega);split at h
      · rename_i hc;cases h;have:=xo s (i+1);simp[xQ]at hc;have e:i+1- 1=i:=(by omega);have e2:i+2- 1=i+1:=(by omega);rw[e]at ih;rw[e2,Nat.pow_succ];omega
      · cases h
    · cases h
def jvb(r d:Nat) (hr:r<67108864) (hd:d<64):qaf BinOp.or IntKind.u32 (shP BinOp.shl IntKind.u32 (r:Int) 6) (d:Int)=((r*64+d:Nat):Int):=by
 have e:shP BinOp.shl IntKind.u32 (r:Int) 6=((r*64:Nat):Int):=by show IntKind.u32.wrap ((r:Int)*2 ^ 6)=_;unfold IntKind.wrap;simp[IntKind.bits,IntKind.signed];omega
 rw[e];have h0:=u32_or_nat (r*64) d (by omega) (by omega);have h1:qaf BinOp.or IntKind.u32 ((r*64:Nat):Int) (d:Int)=bits .or .u32 ((r*64:Nat):Int) (d:Int):=rfl;rw[h1,h0];congr 1;have h:=Nat.two_pow_add_eq_or_of_lt (i:=6) (b:=d) hd r;rw[show 2 ^ 6*r=r*64 by omega]at h;exact h.symm
def zdz(s:IV) (i j:Nat) (hij:i<=j) (h1:1<=i) (h:zm s i=none):zm s j=none:=by
  induction j with
  |zero=>omega
  | succ j ih=>
    by_cases e:i=j+1
    · subst e;exact h
    · have:=ih (by omega);cases j with
      |zero=>omega
      |succ j=>simp only[zm];rw[this]
section
variable (a:IV) (b:Int×Int)
 abbrev uE:=(↑(qQ (toNat (↑(bat a 0):Int))):Int)
 def KQ:=(↑(qE a):Int)=0/\True
 abbrev HU:=(↑(z7 (toNat (↑(bat a 0):Int))):Int)
 def IC:= !decide (shP BinOp.shr u8 (↑(bat a (toNat b.2)):Int) (6:Int)=2)
 abbrev HT:=IntKind.wrap u32 (qaf BinOp.and u8 (↑(bat a (toNat b.2)):Int) 63)
 def dJ:=(0:Int)<=6/\(0<=b.2/\b.2<(↑(size a):Int))/\Jb (b.2+1)/\a=a/\(uE a)=(uE a)/\b.2+1=b.2+1/\qaf BinOp.or u32 (shP BinOp.shl u32 b.1 6) (HT a b)=qaf BinOp.or u32 (shP BinOp.shl u32 b.1 6) (HT a b)/\(1<=b.2+1/\(b.2+1<=(↑(qQ (bat a 0)):Int)\/b.2+1=1)/\∃(d:Nat),qaf BinOp.or u32 (shP BinOp.shl u32 b.1 6) (HT a b)=(↑d:Int)/\(qQ (bat a 0)=0\/zm a (toNat (b.2+1))=some d))/\(5:Nat)- toNat (b.2+1)<5- toNat b.2/\True
 def dI:=(0<=b.2/\b.2<(↑(size a):Int))/\(0:Int)<=6/\((IC a b)=true->KQ a)/\((IC a b)=false->dJ a b)
 def dM:=b.1=b.1/\(0<=b.1/\b.1<4294967296)/\((!decide ((↑(vF (toNat b.1)):Int)=(uE a)))=true->KQ a)/\((!decide ((↑(vF (toNat b.1)):Int)=(uE a)))=false->(↑(qE a):Int)=(uE a)/\True)
 def dL:=b.1=b.1/\(0<=b.1/\b.1<4294967296)/\((!vX (toNat b.1))=true->KQ a)/\((!vX (toNat b.1))=false->dM a b)
 def dK:=Ji ((uE a)=0) (KQ a) (dL a b)
 def dH:=Ji (b.2<(uE a)) (dI a b) (dK a b)
 def dG:=(a=a/\(uE a)=(uE a)/\(1:Int)=1/\(HU a)=(HU a)/\((1:Int)<=1/\(1<=(↑(qQ (bat a 0)):Int)\/(1:Int)=1)/\∃(d:Nat),(HU a)=(↑d:Int)/\(qQ (bat a 0)=0\/zm a (1:Nat)=some d))/\True)/\∀(c:Int×Int),(1<=c.2/\(c.2<=(↑(qQ (bat a 0)):Int)\/c.2=1)/\∃(e:Nat),c.1=(↑e:Int)/\(qQ (bat a 0)=0\/zm a (toNat c.2)=some e))->dH a c
 def dF:=((0:Int)<=0/\0<(↑(size a):Int))/\(↑(bat a 0):Int)=(↑(bat a 0):Int)/\(0<=(↑(bat a 0):Int)/\(↑(bat a 0):Int)<256)/\Ji ((↑(size a):Int)<(uE a)) (KQ a) (dG a)
end
def zhy(s:IV):qk3 P (zv3) Tryz.f117 G_ (zvb) s=(0<size s/\size s<9223372036854775808->dF s):=by kernel_rfl
def front_eq:=λs=>Eq.trans (zhy s) (by delta Ji Jb Jt Jf uE KQ HU IC HT dJ dI dM dL dK dH dG dF;exact rfl)
def zjs:∀g C,zv3 g=some C->q4p P g C:=qcn (qgp zxe (qgp jg2 (qgp zil qjr)))
def zol:q4p P 117 G_:=by
 refine qF zjs (W:=zvb) Tryz.func117 λ(s:IV)=>(front_eq s).mpr ?_;rintro⟨h1,h2⟩;have b0:=xo s 0;simp only[Int.toNat_natCast,Int.toNat_zero,and_true,true_and,decide_eq_true_eq,decide_eq_false_iff_not,Bool.not_eq_true',Bool.not_eq_false'];obtain⟨n,hn⟩:∃n,n=qQ (bat s 0):=⟨_,rfl⟩;have hn4:=j6r (bat s 0);have hfr:qE s=if s.size<n then 0 else match zm s n with
  |none=>0
  |some r=>if n=0\/vX r=false\/vF r≠n then 0 else n:=by rw[hn];rfl
 rw[←hn]at hn4⊢;refine⟨by omega,by omega,λg=> ?_,λg=>⟨⟨by omega, .inr trivial,z7 (bat s 0),rfl, .inr rfl⟩,?_⟩⟩
 ·rw[hfr,if_pos (by omega)];rfl
 rintro⟨r,i⟩ ⟨i1,i2,q,hq,hv⟩;simp only at i1 i2 hq hv⊢;obtain⟨m,rfl⟩:=Int.eq_ofNat_of_zero_le (show 0<=i by omega);have em:((m:Int)+1).toNat=m+1:=by omega
 simp only[Int.toNat_natCast,em]at hv⊢;subst hq;simp only[Int.toNat_natCast]at hv⊢;rw[if_neg (by omega)]at hfr;refine⟨λk=>⟨by omega,by omega,?_⟩,λk=>⟨λk2=> ?_,λk2=> ?_⟩⟩
 ·have bm:=xo s m;have c1:shP BinOp.shr IntKind.u8 ((bat s m:Nat):Int) 6=2↔xQ (bat s m)=true:=by rw[←ct1 (bat s m) bm,decide_eq_true_iff]
  rw[c1];have hv:zm s m=some q:=by
   rcases hv with h|h
   ·omega
   ·exact h
  have hbd:=Hv s m q hv (by omega);have hq26:q<67108864:=by have:m<=3:=(by omega);rcases m with _|_|_|_|m<;>simp at hbd<;>omega
  obtain⟨m',rfl⟩:∃m',m=m'+1:=⟨m- 1,by omega⟩;refine⟨λk3=> ?_,λk3=>⟨by omega,by omega,by omega,⟨by omega,by omega,?_⟩,by omega⟩⟩
  ·have:zm s (m'+2)=none:=(by simp only[zm];rw[hv];simp[k3]);rw[hfr,zdz s (m'+2) n (by omega) (by omega) this];rfl
  ·obtain⟨c2,c3⟩:=ct2 (bat s (m'+1)) bm k3;rw[c2];refine⟨_,jvb q _ hq26 c3, .inr ?_⟩;simp only[zm];rw[hv];simp[k3]
 ·have h0:n=0:=by omega
  rw[hfr,h0];simp[zm]
 ·have hn0:n≠0:=by omega
  have hm:m=n:=by omega
  have hv:zm s n=some q:=by
   rcases hv with h|h
   ·omega
   ·rw[←hm];exact h
  have hbd:=Hv s n q hv (by omega);have hq32:q<4294967296:=by rcases n with _|_|_|_|_|n<;>simp at hbd<;>omega
  rw[hv]at hfr;simp only at hfr;refine⟨by omega,λk3=> ?_,λk3=>⟨by omega,λk4=> ?_,λk4=> ?_⟩⟩
  ·rw[hfr,if_pos (.inr (.inl k3))];rfl
  ·rw[hfr,if_pos (.inr (.inr (by omega)))];rfl
  ·rw[hfr,if_neg];rw[k3];simp;omega
def N6(s:IV):qE s<=s.size:=by
 unfold qE;split
 ·omega
 ·split
  ·omega
  ·split<;>omega
def z9e:∀(f g:Nat) (s:IV),s.size<=f->s.size<=g->uD f s=uD g s
  |0,0,s,_,_=>rfl
  |0,g+1,s,h,_=>by rw[uD,uD,if_pos (by omega)]
  |f+1,0,s,_,h=>by rw[uD,uD,if_pos (by omega)]
  | f +1,g+1,s,h1,h2=>by
    rw[uD,uD];split
    · rfl
    · split
      · rfl
      · exact z9e f g _ (by simp;omega) (by simp;omega)
def GI(s:IV) (h:0<s.size):qu s=if qE s=0 then false else qu (s.extract (qE s) s.size):=by
 unfold qu;obtain⟨f,hf⟩:∃f,s.size=f+1:=⟨s.size- 1,by omega⟩;rw[hf,uD,if_neg (by omega)];split
 ·rfl
 ·rw[hf];refine z9e _ _ _ ?_ (Nat.le_refl _);simp;omega
def zke(s:IV) (h:s.size=0):qu s=true:=by unfold qu;rw[h];rfl
def zqh(s:IV):qk3 P (j7k) Tryz.f90 Qh (zvl) s=(size s<(9223372036854775808:Nat)->(s=s/\(size s<=size s/\qu s=qu s)/\True)/\∀(s_1:IV),size s_1<=size s/\qu s_1=qu s->(decide ((0:Int)<(↑(size s_1):Int))=true->s_1=s_1/\((0:Nat)<size s_1/\size s_1<(9223372036854775808:Nat))/\(decide ((↑(qE s_1):Int)=(0:Int))=true->qu s=false/\True)/\(decide ((↑(qE s_1):Int)=(0:Int))=false->((0:Int)<=(↑(qE s_1):Int)/\(↑(qE s_1):Int)<=(↑(size s_1):Int))/\ByteArray.extract s_1 (toNat (↑(qE s_1):Int)) (size s_1)=ByteArray.extract s_1 (toNat (↑(qE s_1):Int)) (size s_1)/\(size (ByteArray.extract s_1 (toNat (↑(qE s_1):Int)) (size s_1))<=size s/\qu (ByteArray.extract s_1 (toNat (↑(qE s_1):Int)) (size s_1))=qu s)/\size (ByteArray.extract s_1 (toNat (↑(qE s_1):Int)) (size s_1))<size s_1/\True))/\(decide ((0:Int)<(↑(size s_1):Int))=false->qu s=true/\True)):=by kernel_rfl
def zqi:q4p P 90 Qh:=by
 refine qF (qcn (qgp zol qjr)) (W:=zvl) Tryz.func90 λ(s:IV)=>(zqh s).mpr ?_;intro h;simp only[Int.toNat_natCast,and_true,true_and,decide_eq_true_eq,decide_eq_false_iff_not];refine⟨Nat.le_refl _,λt ht=>⟨λg=>⟨by omega,λg2=> ?_,λg2=> ?_⟩,λg=> ?_⟩⟩
 ·rw[←ht.2,GI t (by omega),if_pos (by omega)]
 ·have:=N6 t;rw[←ht.2,GI t (by omega),if_neg (by omega)];refine⟨by omega,⟨?_,rfl⟩,?_⟩
  ·simp;omega
  ·simp;omega
 ·rw[←ht.2];exact zke t (by omega)
def VP(x:Int):IntKind.u8.wrap x=x % 256:=by unfold IntKind.wrap;simp[IntKind.bits,IntKind.signed]
def tn1(n:Nat):((n:Int)+1).toNat=n+1:=by omega
def wrap32(x:Int):IntKind.u32.wrap x=x % 4294967296:=by unfold IntKind.wrap;simp[IntKind.bits,IntKind.signed]
def zdb(b:Nat):(b<128/\qQ b=1/\z7 b=b)\/(192<=b/\b<224/\qQ b=2/\z7 b=b- 192)\/(224<=b/\b<240/\qQ b=3/\z7 b=b- 224)\/(240<=b/\b<248/\qQ b=4/\z7 b=b- 240)\/(((128<=b/\b<192)\/248<=b)/\qQ b=0):=by
 unfold qQ z7;repeat' split
 all_goals omega
def j6v(n q:Nat) (hn:n=2\/n=3\/n=4) (hq:q<128*64 ^ (n- 1)) (h2:n=2->q<2048) (h3:n=3->q<65536):vF q=n↔xT n<=q:=by
 unfold vF xT;rcases hn with rfl|rfl|rfl;all_goals (repeat' split)
 all_goals (first|omega| (have:=h2 rfl;omega)| (have:=h3 rfl;omega))
section
variable (a:IV) (b:Int×Int) (e g h:Int)
 abbrev z67:=(↑(jR a):Int)=0/\(↑(qE a):Int)=0/\True
 abbrev WZ:=IntKind.wrap u32 (↑(bat a 0):Int)<e
 def O0:=(↑(jR a):Int)=IntKind.wrap u32 (↑(bat a 0):Int)/\(↑(qE a):Int)=1/\True
 abbrev HW:=e<=IntKind.wrap u32 (↑(bat a 0):Int)
 abbrev JJ:=(↑(xT (qQ (bat a 0))):Int)
 abbrev wH:=(↑(qQ (bat a 0)):Int)
 def XD:=a=a/\(JJ a)=e/\(wH a)=g/\(↑(z7 (bat a 0)):Int)=IntKind.wrap u32 (IntKind.wrap u32 (↑(bat a 0):Int)- h)/\(0<size a/\2<=qQ (bat a 0))/\True
 abbrev O1:=Ji (WZ a 248) (XD a 65536 4 240) (z67 a)
 abbrev DD:=Ji (HW a 240) (O1 a) (z67 a)
 abbrev O2:=Ji (WZ a 240) (XD a 2048 3 224) (DD a)
 abbrev DC:=Ji (HW a 224) (O2 a) (DD a)
 abbrev O3:=Ji (WZ a 224) (XD a 128 2 192) (DC a)
 abbrev OY:=Ji (HW a 192) (O3 a) (DC a)
 def HX:=(0<=b.2/\b.2<(↑(size a):Int))
 abbrev HV:=IntKind.wrap u32 (b.1*64)+IntKind.wrap u32 (IntKind.wrap u8 ((↑(bat a (toNat b.2)):Int)- 128))
 def OV:=HX a b/\Jb (b.2+1)/\a=a/\(JJ a)=(JJ a)/\(wH a)=(wH a)/\b.2+1=b.2+1/\IntKind.wrap u32 (HV a b)=IntKind.wrap u32 (HV a b)/\(1<=b.2+1/\b.2+1<=(wH a)/\∃(c:Nat),IntKind.wrap u32 (HV a b)=(↑c:Int)/\zm a (toNat (b.2+1))=some c)/\(5:Nat)- toNat (b.2+1)<5- toNat b.2/\True
 def dU:=HX a b/\Ji (191<(↑(bat a (toNat b.2)):Int)) (z67 a) (OV a b)
 def dT:=HX a b/\Ji ((↑(bat a (toNat b.2)):Int)<128) (z67 a) (dU a b)
 def ID:=(↑(jR a):Int)=b.1/\(↑(qE a):Int)=(wH a)/\True
 def O4:=Ji (b.1<=57343) (z67 a) (ID a b)
 def OZ:=Ji (55296<=b.1) (O4 a b) (ID a b)
 def OX:=Ji (1114111<b.1) (z67 a) (OZ a b)
 def OW:=Ji (b.1<(JJ a)) (z67 a) (OX a b)
 def dS:=Ji (b.2<(wH a)) (dT a b) (OW a b)
 def dR:=(a=a/\(JJ a)=(JJ a)/\(wH a)=(wH a)/\(1:Int)=1/\(↑(z7 (bat a 0)):Int)=(↑(z7 (bat a 0)):Int)/\((1:Int)<=1/\1<=(wH a)/\∃(c:Nat),(↑(z7 (bat a 0)):Int)=(↑c:Int)/\zm a (1:Nat)=some c)/\True)/\∀(d:Int×Int),(1<=d.2/\d.2<=(wH a)/\∃(f:Nat),d.1=(↑f:Int)/\zm a (toNat d.2)=some f)->dS a d
 def dQ:=Ji ((↑(size a):Int)<(wH a)) (z67 a) (dR a)
 def dO:=((0:Int)<=0/\0<(↑(size a):Int))/\(Ji (WZ a 128) (O0 a) (OY a))/\∀(c:Unit),0<size a/\2<=qQ (bat a 0)->dQ a
 def dN:=Ji ((↑(size a):Int)=0) (z67 a) (dO a)
end
def zj7(s:IV):qk3 P (λ_=>none) Tryz.f96 Zc (zvg) s=(size s<9223372036854775808->dN s):=by kernel_rfl
def zpm:=λs=>Eq.trans (zj7 s) (by delta Ji Jb Jt Jf z67 WZ O0 HW JJ wH XD O1 DD O2 DC O3 OY HX HV OV dU dT ID O4 OZ OX OW dS dR dQ dO dN;exact rfl)
def Om(b:Nat):(qQ b=2->z7 b<32)/\(qQ b=3->z7 b<16):=by have:=zdb b;omega
def jgh(s:IV) (q:Nat) (h:zm s 2=some q) (h2:qQ (bat s 0)=2):q<2048:=by
 have b:=(Om (bat s 0)).1 h2;simp only[zm]at h;split at h
 ·rename_i hc;have hb:=xo s 1;simp only[xQ,Bool.and_eq_true,decide_eq_true_eq]at hc;cases h;simp only[Nat.zero_add]at hc⊢;omega
 ·cases h
def jgi(s:IV) (q:Nat) (h:zm s 3=some q) (h2:qQ (bat s 0)=3):q<65536:=by
 have b:=(Om (bat s 0)).2 h2;simp only[zm]at h;split at h
 ·rename_i r hr;split at hr
  ·cases hr;rename_i hc0;split at h
   ·rename_i hc;have hb:=xo s 1;have hb2:=xo s 2;simp only[xQ,Bool.and_eq_true,decide_eq_true_eq]at hc hc0;cases h;simp only[Nat.zero_add,show 1+1=2 from rfl]at hc hc0⊢;omega
   ·cases h
  ·cases hr
 ·cases h
def zun(q:Nat):vX q=true↔q<=1114111/\¬(55296<=q/\q<=57343):=by simp[vX];omega
def Oi(b:Nat):xQ b=true↔128<=b/\b<192:=by simp[xQ]
def zdk:q4p P 96 Zc:=by
 refine qF jz (W:=zvg) Tryz.func96 λ(s:IV)=>(zpm s).mpr ?_;intro h2;have b0:=xo s 0;obtain⟨n,hn⟩:∃n,n=qQ (bat s 0):=⟨_,rfl⟩;have hc:=zdb (bat s 0);have hz:qE s=0->jR s=0:=λh=>by unfold jR;rw[if_pos h]
 have hfr:qE s=if s.size<n then 0 else match zm s n with
  |none=>0
  |some r=>if n=0\/vX r=false\/vF r≠n then 0 else n:=by rw[hn];rfl
 rw[←hn]at hc;have A0:s.size=0->qE s=0:=λh=>by have:=zw8 (s:=s) (j:=0) (by omega);rw[hfr,if_pos (by omega)]
 have A1:s.size≠0->bat s 0<128->jR s=bat s 0/\qE s=1:=λh h1=>by
  have e1:n=1:=by omega
  have ev:z7 (bat s 0)=bat s 0:=by omega
  have ef:qE s=1:=by rw[hfr,if_neg (by omega),e1];simp only[zm];rw[ev,if_neg];have hi:=(zun (bat s 0)).mpr (by omega);have hl:vF (bat s 0)=1:=(by unfold vF;rw[if_pos h1]);rw[hi,hl];simp
  refine⟨?_,ef⟩;unfold jR;rw[if_neg (by omega),ef];simp only[zm,ev];rfl
 have A5:n=0->qE s=0:=λh=>by rw[hfr,if_neg (by omega),h];simp[zm]
 have hle:(n=2->xT n=128)/\(n=3->xT n=2048)/\(n=4->xT n=65536):=by refine⟨λh=> ?_,λh=> ?_,λh=> ?_⟩<;>rw[h]<;>rfl
 have e0:IntKind.u32.wrap (bat s 0:Nat)=(bat s 0:Nat):=by rw[wrap32];omega
 simp only[Int.toNat_natCast,Int.toNat_zero,and_true,true_and,decide_eq_true_eq,decide_eq_false_iff_not,Bool.not_eq_true',Bool.not_eq_false',e0,←hn];refine⟨?_,λg0=>⟨by omega,?_,?_⟩⟩
 ·intro h;have:=A0 (by omega);have:=hz this;omega
 ·simp only[wrap32];clear hfr A0 e0;rcases hc with⟨c1,c2,c3⟩|⟨c0,c1,c2,c3⟩|⟨c0,c1,c2,c3⟩|⟨c0,c1,c2,c3⟩|⟨c1,c2⟩
  ·obtain⟨p,f⟩:=A1 (by omega) c1;clear A1 A5 hle hz;refine⟨λ_=>by omega,λh=>absurd (by omega) h⟩
  ·have l:=hle.1 c2;clear A1 A5 hle hz;refine⟨λh=>by omega,λh=>⟨λ_=>⟨λ_=>by omega,λk=>absurd (by omega) k⟩,λk=>absurd (by omega) k⟩⟩
  ·have l:=hle.2.1 c2;clear A1 A5 hle hz;refine⟨λh=>by omega,λh=>⟨λ_=>⟨λk=>by omega,λ_=>⟨λ_=>⟨λ_=>by omega,λk=>absurd (by omega) k⟩,λk=>absurd (by omega) k⟩⟩,λk=>absurd (by omega) k⟩⟩
  ·have l:=hle.2.2 c2;clear A1 A5 hle hz;refine⟨λh=>by omega,λh=>⟨λ_=>⟨λk=>by omega,λ_=>⟨λ_=>⟨λk=>by omega,λ_=>⟨λ_=>⟨λ_=>by omega,λk=>absurd (by omega) k⟩,λk=>absurd (by omega) k⟩⟩,λk=>absurd (by omega) k⟩⟩,λk=>absurd (by omega) k⟩⟩
  ·have f:=A5 c2;have p:=hz f;clear A1 A5 hle hz;repeat' first|intro _|apply And.intro
   all_goals omega
 ·clear A0 A1 A5;rintro _ ⟨g1,g2⟩;have Z:qE s=0->((jR s:Nat):Int)=0/\((qE s:Nat):Int)=0:=λh=>by have:=hz h;omega
  refine⟨λk=>Z ?_,λk=>⟨⟨by omega,by omega,z7 (bat s 0),rfl,rfl⟩,?_⟩⟩
  ·rw[hfr,if_pos (by omega)]
  rw[if_neg (by omega)]at hfr;rintro⟨v,i⟩ ⟨i1,i2,q,hq,hv⟩;simp only at i1 i2 hq hv⊢;obtain⟨m,rfl⟩:=Int.eq_ofNat_of_zero_le (show 0<=i by omega);subst hq;simp only[Int.toNat_natCast,tn1]at hv⊢;have hbd:=Hv s m q hv (by omega);have bm:=xo s m;obtain⟨m',rfl⟩:∃m',m=m'+1:=⟨m- 1,by omega⟩;have cn:¬(128<=bat s (m'+1)/\bat s (m'+1)<192)->((m'+1:Nat):Int)<n->qE s=0:=λh hl=>by have:zm s (m'+2)=none:=(by simp only[zm];rw[hv];simp only[];rw[if_neg (by rw[Oi];exact h)]);rw[hfr,zdz s (m'+2) n (by omega) (by omega) this]
  refine⟨λk1=>⟨by omega,λk2=>Z (cn (by omega) k1),λk2=>⟨by omega,λk3=>Z (cn (by omega) k1),λk3=>⟨by omega,by omega,⟨by omega,by omega,?_⟩,by omega⟩⟩⟩,λk1=> ?_⟩
  ·have hq26:q<67108864:=by have:m'+1<=3:=(by omega);rcases m' with _|_|_|m'<;>simp at hbd<;>omega
   refine⟨q*64+(bat s (m'+1)- 128),?_,?_⟩
   ·rw[VP,wrap32,wrap32,wrap32];omega
   ·simp only[zm];rw[hv];simp only[];rw[if_pos (by rw[Oi];omega)]
  ·have em:m'+1=n:=(by omega);rw[em]at hv hbd;rw[hv]at hfr;simp only at hfr;have nn:n=2\/n=3\/n=4:=(by omega);have ln:=j6v n q nn hbd (λh=>jgh s q (h ▸ hv) (by omega)) (λh=>jgi s q (h ▸ hv) (by omega));have ic:=zun q;have bad:¬(xT n<=q)\/¬(q<=1114111/\¬(55296<=q/\q<=57343))->qE s=0:=λh=>by
    rw[hfr,if_pos];rcases h with h|h
    ·exact .inr (.inr λe=>h (ln.mp e))
    ·exact .inr (.inl (by rw[←Bool.not_eq_true];exactλe=>h (ic.mp e)))
   have good:xT n<=q->(q<=1114111/\¬(55296<=q/\q<=57343))->((jR s:Nat):Int)=q/\((qE s:Nat):Int)=n:=λh1 h2=>by have ef:qE s=n:=(by rw[hfr,if_neg];rw[ic.mpr h2,ln.mpr h1];simp;omega);refine⟨?_,by omega⟩;unfold jR;rw[if_neg (by omega),ef,hv];rfl
   refine⟨λc1=>Z (bad (.inl (by omega))),λc1=>⟨λc2=>Z (bad (.inr (by omega))),λc2=>⟨λc3=>⟨λc4=>Z (bad (.inr (by omega))),λc4=>good (by omega) (by omega)⟩,λc3=>good (by omega) (by omega)⟩⟩⟩
def zk8(s:IV):qk3 P (qfa [(96,Zc)]) Tryz.f59 Qh (zkt) s=(size s<(9223372036854775808:Nat)->(s=s/\(size s<=size s/\qu s=qu s)/\True)/\∀(s_1:IV),size s_1<=size s/\qu s_1=qu s->(decide ((0:Int)<(↑(size s_1):Int))=true->s_1=s_1/\size s_1<(9223372036854775808:Nat)/\(decide ((↑(qE s_1):Int)=(0:Int))=true->qu s=false/\True)/\(decide ((↑(qE s_1):Int)=(0:Int))=false->((0:Int)<=(↑(qE s_1):Int)/\(↑(qE s_1):Int)<=(↑(size s_1):Int))/\ByteArray.extract s_1 (toNat (↑(qE s_1):Int)) (size s_1)=ByteArray.extract s_1 (toNat (↑(qE s_1):Int)) (size s_1)/\(size (ByteArray.extract s_1 (toNat (↑(qE s_1):Int)) (size s_1))<=size s/\qu (ByteArray.extract s_1 (toNat (↑(qE s_1):Int)) (size s_1))=qu s)/\size (ByteArray.extract s_1 (toNat (↑(qE s_1):Int)) (size s_1))<size s_1/\True))/\(decide ((0:Int)<(↑(size s_1):Int))=false->qu s=true/\True)):=by kernel_rfl
def z9d:q4p P 59 Qh:=by
 refine qF (qcn (qgp zdk qjr)) (W:=zkt) Tryz.func59 λ(s:IV)=>(zk8 s).mpr ?_;intro h;simp only[Int.toNat_natCast,and_true,true_and,decide_eq_true_eq,decide_eq_false_iff_not];refine⟨Nat.le_refl _,λt ht=>⟨λg=>⟨by omega,λg2=> ?_,λg2=> ?_⟩,λg=> ?_⟩⟩
 ·rw[←ht.2,GI t (by omega),if_pos (by omega)]
 ·have:=N6 t;rw[←ht.2,GI t (by omega),if_neg (by omega)];refine⟨by omega,⟨?_,rfl⟩,?_⟩
  ·simp;omega
  ·simp;omega
 ·rw[←ht.2];exact zke t (by omega)
section
def G6:q4p P 72 VK:=by refine qF jz (W:=λ_=>{}) Tryz.func72 λ(s:IV)=>(zyw s).mpr ?_;intro _;exact⟨rfl,trivial⟩
def zdr:q4p P 71 Vz:=by
 refine qF jz (W:=λ_=>{}) Tryz.func71 λn=> ?_;cases n with
 |two=>exact(zjt ()).mpr λ_=>trivial
 |three=>exact(zju ()).mpr λ_=>trivial
 |four=>exact(zjv ()).mpr λ_=>trivial
variable {L:List Int} {p:Pub}
def Of{x:SV} (h:qc qn x L p) {i:Nat} (hi:i<L.length):x.1≠noA/\q37 p (adr x.1 (i*1)) [.int .u8 L[i]]:=z17 j69 (by decide) h hi
def JC:q4p P 23 Qz:=by
 refine qF jz (W:=λ_=>{}) Tryz.func23 λ⟨(x:SV),(L:List Int),(n:Int),(m:Int)⟩=>(j71 x L n m).mpr ?_;rintro⟨hn0,hn1,hm0,hm1,hL,hb⟩ ⟨p,_,hp⟩;have hx:x.2.1=L.length:=hp.1;simp only[qH,Int.toNat_natCast,hx];obtain⟨i,rfl⟩:=Int.eq_ofNat_of_zero_le hn0;have e:((i:Int)+1- 1).toNat=i:=by omega
 refine⟨λh=>⟨?_,?_⟩,λh=> ?_⟩
 ·unfold ql;rw[if_pos h]
 ·unfold qh;rw[if_pos h]
 ·have hi:i<L.length:=by omega
  rw[e];refine⟨by omega,by omega,by omega,(Of hp hi).1,L[i],λq hq=>(Of hq hi).2,?_⟩;have r:ql L i m=Int.tmod L[i] m:=by unfold ql;rw[if_neg h,Int.toNat_natCast,List.getD_eq_getElem?_getD,List.getElem?_eq_getElem hi];rfl
  have hbi:=hb L[i] (List.getElem_mem hi);have nn:qh L i=i+1:=by unfold qh;rw[if_neg h]
  rw[r,nn];exact⟨by omega,by omega,rfl,rfl⟩
def NI:q4p P 22 WW:=by refine qF jz (W:=λ_=>{}) Tryz.func22 λ⟨(x:SV),(L:List Int),(n:Int)⟩=>(zy3 x L n).mpr ?_;rintro _ ⟨p,_,hp⟩;have hx:x.2.1=L.length:=hp.1;simp only[true_and,and_true,eq_self,hx]
variable {l:List GJ}
def z8v{s:IV} {nm:List IV} {j:Nat} (h1:j<nm.length) (h2:j<l.length):js s (nm.drop j) (l.drop j)=if nm[j]=s then some l[j]else js s (nm.drop (j+1)) (l.drop (j+1)):=by rw[List.drop_eq_getElem_cons h1,List.drop_eq_getElem_cons h2,js]
def HF{y:SV} (h:qc GJ.cells y l p) {i:Nat} (hi:i<l.length):y.1≠noA/\q37 p (adr y.1 (i*5)) l[i].cells:=z17 Ze (by decide) h hi
def Hu{y:SV} {ks:List IV} (h:qc qp y ks p) {i:Nat} (hi:i<ks.length):y.1≠noA/\q37 p (adr y.1 (i*1)) [.string ks[i]]:=z17 jV (by decide) h hi
def j6j:q4p P 107 Xi:=by
 refine qF jz (W:=bF) Tryz.func107 λ⟨g,s⟩=>(get_eq g s).mpr ?_;rintro hw ⟨p,_,hp⟩;rw[GJ.wf_eq]at hw;obtain⟨_,hl,hnl,_⟩:=hw;have gx:=λq (hq:g.ok q)=>(by rw[GJ.ok_eq]at hq;exact hq.2.1:qc qp g.x g.nm q);have gy:=λq (hq:g.ok q)=>(by rw[GJ.ok_eq]at hq;exact hq.1:qc GJ.cells g.y g.l q);have xl:g.x.2.1=g.nm.length:=(gx p hp).1;have yl:g.y.2.1=g.l.length:=(gy p hp).1;simp only[qH,Int.toNat_natCast,xl,yl];refine⟨⟨0,rfl,by omega,by simp⟩,?_⟩;rintro j ⟨hj,ht⟩;refine⟨λhlt=> ?_,λhge=> ?_⟩
 ·have h1:j<g.nm.length:=by omega
  have h2:j<g.l.length:=by omega
  have hd:=z8v (s:=s) h1 h2;rw[ht]at hd;refine⟨⟨by omega,by omega⟩,(Hu (gx p hp) h1).1,g.nm[j],λq hq=>(Hu (gx q hq) h1).2,λhs=> ?_,λhs=>⟨by omega,j+1,by omega,⟨by omega,?_⟩,by omega⟩⟩
  ·rw[if_pos hs]at hd;refine⟨⟨by omega,by omega⟩,(HF (gy p hp) h2).1,g.l[j].k,g.l[j].n,g.l[j].s,g.l[j].y.1,g.l[j].y.2.1,g.l[j].y.2.2,g.l[j].x.1,g.l[j].x.2.1,g.l[j].x.2.2,λq hq=>(HF (gy q hq) h2).2,?_⟩;rw[hd];exact⟨rfl,rfl,rfl,rfl,rfl,rfl,rfl,rfl,rfl,rfl⟩
  ·rw[if_neg hs]at hd;exact hd.symm
 ·have:g.nm.drop j=[]:=List.drop_of_length_le (by omega);rw[this,js]at ht
  ·rw[←ht];exact⟨rfl,rfl,rfl,rfl,rfl,rfl,rfl,rfl,rfl,rfl⟩
  ·intros;simp at*
def yd{n m:Int} (hL:zM L) (h:0<m):0<=ql L n m/\ql L n m<m:=by
 unfold ql;split
 ·omega
 ·have:0<=L.getD n.toNat 0:=by
   rw[List.getD_eq_getElem?_getD];cases hg:L[n.toNat]? with
   |none=>simp
   |some b=>exact(hL.2 b (List.mem_of_getElem? hg)).1
  rw[Int.tmod_eq_emod_of_nonneg this];exact⟨Int.emod_nonneg _ (by omega),Int.emod_lt_of_pos _ h⟩
def v_{n:Int} (h:n<=L.length):n<=qh L n/\qh L n<=L.length/\qh L n<=n+1:=by unfold qh;split<;>omega
def zwr:q4p P 73 GC:=by
  refine qF (qcn (qgp JC (qgp G6 (qgp j6j qjr)))) (W:=ze3) Tryz.func73 λ⟨(x:SV),(L:List Int),(n:Int),g⟩=>(zwq x L n g).mpr ?_;rintro⟨hn0,hn1,hL,hw⟩ ⟨p,_,hp,hg⟩;simp only[qH,Int.toNat_natCast,exists_const];have hnum:=λm (h:0<m)=>yd (n:=n) (m:=m) hL h;refine⟨⟨λh4=>⟨⟨λh=> ?_,λh1=>⟨λh=> ?_,λh2=>⟨λh=> ?_,λh3=> ?_⟩⟩⟩,?_⟩,λh4=>λh=>h4 h.1⟩,?_⟩
  · unfold isNum;rw[h];decide
  · unfold isNum;rw[h];decide
  · unfold isNum;rw[h];decide
  · unfold isNum;rw[decide_eq_false h1,decide_eq_false h2,decide_eq_false h3];rfl
  · rintro _ _;have d0:∀{a b c d:Int×Int×IV×Int},True:=λ{_ _ _ _}=>trivial;refine⟨λhN=>⟨L,⟨hn0,hn1,by omega,by omega,hL⟩,λq hq=>hq.1,?_,?_⟩,λhN=>⟨⟨λh=> ?_,λh=> ?_⟩,?_⟩⟩
    · have:=hnum 200 (by omega);omega
    · unfold zP;rw[if_pos ⟨h4,hN⟩];exact⟨rfl,rfl,rfl,rfl⟩
    · unfold wD;rw[h];decide
    · unfold wD;rw[decide_eq_false h];rfl
    rintro _ _;have n1:¬(g.k=4/\isNum g.s=true):=λh=>(by rw[hN]at h;exact absurd h.2 (by simp));refine⟨λhT=>⟨L,⟨hn0,hn1,by omega,by omega,hL⟩,λq hq=>hq.1,hnum 3 (by omega),HD (ql L n 3),?_,?_⟩,λhT=> ?_⟩
    · have h3:=hnum 3 (by omega);generalize ql L n 3=r at h3⊢;intro j v hj;cases j with
      |succ j=>simp at hj
      | zero=>
        have:r=0\/r=1\/r=2:=(by omega);rcases this with rfl|rfl|rfl<;>exact hj
    · unfold zP;rw[if_neg n1,if_pos ⟨h4,hT⟩];exact⟨rfl,rfl,rfl,rfl⟩
    have n2:¬(g.k=4/\wD g.s=true):=λh=>(by rw[hT]at h;exact absurd h.2 (by simp));refine⟨λhB=>⟨L,⟨hn0,hn1,by omega,by omega,hL⟩,λq hq=>hq.1,?_⟩,λhB=>⟨λhU=> ?_,λhU=> ?_⟩⟩
    · unfold zP;rw[if_neg n1,if_neg n2,if_pos ⟨h4,by unfold JE;rw[hB];decide⟩];exact⟨rfl,rfl,rfl,rfl⟩
    · unfold zP;rw[if_neg n1,if_neg n2,if_neg (λh=>by unfold JE at h;exact absurd h.2 (by rw[decide_eq_false hB];simp)),if_pos ⟨h4,by unfold VM;rw[hU];decide⟩];exact⟨rfl,rfl,rfl,rfl⟩
    · rintro⟨_,h|h|h|h⟩
      · rw[hN]at h;cases h
      · rw[hT]at h;cases h
      · unfold JE at h;rw[decide_eq_false hB]at h;cases h
      · unfold VM at h;rw[decide_eq_false hU]at h;cases h
  · rintro _ hno;have n1:¬(g.k=4/\isNum g.s=true):=λh=>hno ⟨h.1, .inl h.2⟩;have n2:¬(g.k=4/\wD g.s=true):=λh=>hno ⟨h.1, .inr (.inl h.2)⟩;have n3:¬(g.k=4/\JE g.s=true):=λh=>hno ⟨h.1, .inr (.inr (.inl h.2))⟩;have n4:¬(g.k=4/\VM g.s=true):=λh=>hno ⟨h.1, .inr (.inr (.inr h.2))⟩;unfold zP;rw[if_neg n1,if_neg n2,if_neg n3,if_neg n4];refine⟨λh5=>by rw[if_pos h5];exact⟨rfl,rfl,rfl,rfl⟩,λh5=>⟨⟨g,mkS [116,121,112,101]⟩,?_⟩⟩;simp only[true_and,eq_self];rw[if_neg h5];refine⟨hw,λq hq=>hq.2,λh=>by rw[if_pos h];exact⟨rfl,rfl,rfl,rfl⟩,λh=>⟨λh2=>by rw[if_neg h,if_pos h2];exact⟨rfl,rfl,rfl,rfl⟩,λh2=>by rw[if_neg h,if_neg h2];exact⟨rfl,rfl,rfl,rfl⟩⟩⟩
def zwp{g:GJ} {n:Int} (hL:zM L) (h:n<=L.length):(n<=(zP g L n).2.2.2/\(zP g L n).2.2.2<=L.length)/\(-50<=(zP g L n).2.1/\(zP g L n).2.1<200)/\(zP g L n).2.2.1.size<10:=by
 have b:=v_ h;have h1:=yd (n:=n) (m:=200) hL (by omega);have h2:=yd (n:=n) (m:=2) hL (by omega);have t:(HD (ql L n 3)).size<10:=by
  unfold HD;split
  ·decide
  ·split<;>decide
 have z:(mkS []).size<10:=by decide
 have z1:(mkS [88]).size<10:=by decide
 unfold zP;repeat' split
 all_goals refine⟨⟨?_,?_⟩,⟨?_,?_⟩,?_⟩
 all_goals first|exact t|exact z|exact z1| (simp only;omega)
end
section
def xk:q4p P 63 wz:=by refine qF jz (W:=λ_=>{}) Tryz.func63 λ⟨S,(e0:Int),(e:Int)⟩=>(zo5 S e0 e).mpr ?_;simp only[decide_eq_true_eq,decide_eq_false_iff_not,true_and,and_true,eq_self];intro _;exact⟨λh=>if_pos h,λh=>if_neg h⟩
def GN:q4p P 69 KF:=by
 refine qF (qcn (qgp xk qjr)) (W:=λ_=>{}) Tryz.func69 λ⟨S,(e:Int),t⟩=>(zw3 S e t).mpr ?_;simp only[decide_eq_true_eq,decide_eq_false_iff_not,true_and,and_true,eq_self];intro _;refine⟨λh=>⟨S,rfl,rfl,?_,?_,?_,?_⟩,λh=>⟨qv z21 S,by omega,by omega,?_,?_,?_,?_⟩⟩
 ·unfold qw;rw[if_pos (by omega)]
 ·unfold qC;rw[if_pos (by omega)]
 ·unfold qI;rw[if_pos (by omega)]
 ·unfold qC;rw[if_pos (by omega)]
 ·unfold qw;rw[if_neg (by omega)];omega
 ·unfold qC;rw[if_neg (by omega)];simp
 ·unfold qI;rw[if_neg (by omega)]
 ·unfold qC;rw[if_neg (by omega),zx];rfl
variable {s:IV} {l:List IV} {j:Nat}
def zi1(h:j<l.length):ZB s (l.drop j) j=if l[j]=s then(j:Int)+1 else ZB s (l.drop (j+1)) (j+1):=by rw[List.drop_eq_getElem_cons h,ZB]
def zv5{i:Nat} (h:i<l.length):∀(j:Nat) (v:Value),[Value.string l[i]][j]? =some v->(qa qp l)[0+i*1+j]? =some v:=λj v hj=>by
 cases j with
 |zero=>rw[Nat.zero_add,Zb jV l i h 0 (by decide)];exact hj
 |succ j=>simp at hj
def zif:q4p P 68 WU:=by
 refine qF jz (W:=OB) Tryz.func68 λ(s:IV)=>(zxb s).mpr ?_;simp only[decide_eq_true_eq,decide_eq_false_iff_not,true_and,and_true,eq_self,Int.toNat_natCast];intro _;refine⟨⟨0,rfl,by omega,rfl⟩,?_⟩;rintro j ⟨hj,ht⟩;refine⟨λhlt=> ?_,λhge=> ?_⟩
 ·have hl:j<kinds.length:=by show j<14;have:(j:Int)<14:=hlt;omega
  have hd:=zi1 (s:=s) hl;rw[ht]at hd;refine⟨⟨by omega,by have:(j:Int)<14:=hlt;exact this⟩,kinds[j],zv5 hl,λh=>⟨by omega,by rw[hd,if_pos h]⟩,λh=>⟨by omega,j+1,by omega,⟨by have:(j:Int)<14:=hlt;omega,by rw[hd,if_neg h]⟩,by have:(j:Int)<14:=hlt;omega⟩⟩
 ·have:¬((j:Int)<14):=hge;rw[List.drop_of_length_le (by show 14<=j;omega),ZB]at ht;exact ht.symm
def zqn:q4p P 122 Ii:=by
 refine qF jz (W:=λ_=>{}) Tryz.func122 λ(k:Int)=>(zqm k).mpr ?_;simp only[decide_eq_true_eq,decide_eq_false_iff_not,true_and,and_true,eq_self,Int.toNat_natCast];intro _;refine⟨λh=>by unfold wF;rw[if_pos (.inl h)],λh=>⟨λh2=>by unfold wF;rw[if_pos (.inr h2)],λh2=>⟨⟨by omega,by show k<15;omega⟩,wF k,?_,rfl⟩⟩⟩;obtain⟨j,rfl⟩:=Int.eq_ofNat_of_zero_le (show 0<=k by omega);obtain⟨i,rfl⟩:∃i,j=i+1:=⟨j- 1,by omega⟩;have hi:i+1<(mkS []::kinds).length:=by show i+1<15;omega
 have e:wF ((i+1:Nat):Int)=(mkS []::kinds)[i+1]:=by unfold wF;rw[if_neg (by omega),Int.toNat_natCast,Nat.add_sub_cancel,List.getD_eq_getElem?_getD,List.getElem?_eq_getElem (by simpa using hi)];rfl
 rw[e,Int.toNat_natCast];exact zv5 (l:=mkS []::kinds) hi
def zew{l:List AT} (h:j<l.length):findF s (l.drop j) j=if l[j].nm=s/\9<=l[j].k/\l[j].k<=11 then some j else findF s (l.drop (j+1)) (j+1):=by rw[List.drop_eq_getElem_cons h,findF]
def G9{l:List AT} {i:Nat} (h:i<l.length):∀(j:Nat) (v:Value),l[i].cells[j]? =some v->(qa AT.cells l)[0+i*10+j]? =some v:=λj v hj=>by have hl:j<10:=(List.getElem?_eq_some_iff.mp hj).1;rw[Nat.zero_add,Zb z21 l i h j hl];exact hj
def zct:q4p P 97 WT:=by
 refine qF jz (W:=Oz) Tryz.func97 λ⟨S,(e:Int),s⟩=>(zo7 S e s).mpr ?_;simp only[decide_eq_true_eq,decide_eq_false_iff_not,true_and,and_true,eq_self,Int.toNat_natCast];intro hl;refine⟨⟨0,rfl,by omega,rfl⟩,?_⟩;rintro j ⟨hj,ht⟩;refine⟨λhlt=> ?_,λhge=> ?_⟩
 ·have hjl:j<S.length:=by omega
  have hd:=zew (s:=s) hjl;rw[ht]at hd;refine⟨⟨by omega,by omega⟩,S[j].k,S[j].nm,S[j].al.1,S[j].al.2.1,S[j].al.2.2,S[j].it,S[j].sy.1,S[j].sy.2.1,S[j].sy.2.2,S[j].hd,S[j].df,S[j].sz,S[j].f.1,S[j].f.2.1,S[j].f.2.2,S[j].br.1,S[j].br.2.1,S[j].br.2.2,G9 hjl,λh1=>⟨λh2=>⟨λh3=> ?_,λh3=>⟨by omega,j+1,by omega,⟨by omega,?_⟩,by omega⟩⟩,λh2=>⟨by omega,j+1,by omega,⟨by omega,?_⟩,by omega⟩⟩,λh1=>⟨by omega,j+1,by omega,⟨by omega,?_⟩,by omega⟩⟩
  ·rw[hd,if_pos ⟨h1,h2,h3⟩];exact⟨rfl,rfl⟩
  ·rw[hd,if_neg (λh=>h3 h.2.2)]
  ·rw[hd,if_neg (λh=>h2 h.2.1)]
  ·rw[hd,if_neg (λh=>h1 h.1)]
 ·rw[List.drop_of_length_le (by omega),findF]at ht;rw[←ht];exact⟨rfl,rfl⟩
def j7m:q4p P 99 Da:=by
 refine qF (qcn (qgp zqn qjr)) (W:=λ_=>{}) Tryz.func99 λ⟨S,(t:Int)⟩=>(j7l S t).mpr ?_;simp only[decide_eq_true_eq,decide_eq_false_iff_not,Bool.not_eq_true',Bool.not_eq_false',true_and,and_true,eq_self,Int.toNat_natCast];intro hl;refine⟨λh=>by unfold uC;rw[if_pos (.inl h)],λh=>⟨λh2=>by unfold uC;rw[if_pos (.inr h2)],λh2=> ?_⟩⟩;obtain⟨j,rfl⟩:=Int.eq_ofNat_of_zero_le (show 0<=t by omega);have hj:j<S.length:=by omega
 rw[Int.toNat_natCast];have e1:uC S (j:Int)=if S[j].nm=mkS []then wF S[j].k else S[j].nm:=by unfold uC;rw[if_neg (by omega),Int.toNat_natCast,List.getElem?_eq_getElem hj]
 have c1:∀(i:Nat) (v:Value),[Value.string S[j].nm][i]? =some v->(qa AT.cells S)[0+j*10+1+i]? =some v:=λi v hi=>by
  cases i with
  |zero=>exact G9 hj 1 v hi
  |succ i=>simp at hi
 refine⟨⟨by omega,by omega⟩,S[j].nm,c1,λh3=>⟨⟨by omega,by omega⟩,S[j].nm,c1,by rw[e1,if_neg h3]⟩,λh3=>⟨⟨by omega,by omega⟩,S[j].k,λi v hi=> ?_,S[j].k,rfl,by rw[e1,if_pos h3]⟩⟩;cases i with
 |zero=>exact G9 hj 0 v hi
 |succ i=>simp at hi
def zin:q4p P 134 Nx:=by
 refine qF jz (W:=λ_=>{}) Tryz.func134 λ(c:Int)=>(zim c).mpr ?_;rintro⟨h1,h2⟩;obtain⟨n,rfl⟩:=Int.eq_ofNat_of_zero_le h1;simp only[decide_eq_true_eq,decide_eq_false_iff_not,Int.toNat_natCast,and_true];repeat' first|intro _|apply And.intro
 all_goals (rw[Bool.eq_iff_iff];simp[isLt];omega)
def zo1:q4p P 135 NW:=by
 refine qF jz (W:=λ_=>{}) Tryz.func135 λ(c:Int)=>(zo0 c).mpr ?_;rintro⟨h1,h2⟩;obtain⟨n,rfl⟩:=Int.eq_ofNat_of_zero_le h1;simp only[decide_eq_true_eq,decide_eq_false_iff_not,Int.toNat_natCast,and_true];repeat' first|intro _|apply And.intro
 all_goals (rw[Bool.eq_iff_iff];simp[Kk];omega)
def j72(h:j<s.size):uT s (s.size- j) j=(KX s j&&uT s (s.size- (j+1)) (j+1)):=by rw[show s.size- j=s.size- (j+1)+1 by omega,uT,if_pos h]
def NJ:q4p P 124 VJ:=by
 refine qF (qcn (qgp zin (qgp zo1 qjr))) (W:=OD) Tryz.func124 λ(s:IV)=>(zy4 s).mpr ?_;simp only[decide_eq_true_eq,decide_eq_false_iff_not,Bool.not_eq_true',Bool.not_eq_false',true_and,and_true,eq_self,Int.toNat_natCast];intro hs;refine⟨⟨0,rfl,by omega,rfl⟩,?_⟩;rintro j ⟨hj,ht⟩;have hb:=xo s j;refine⟨λhlt=> ?_,λhge=> ?_⟩
 ·have hd:=j72 (s:=s) (j:=j) (by omega);rw[ht]at hd;refine⟨⟨by omega,by omega⟩,⟨by omega,by omega⟩,λh1=>⟨λh2=> ?_,λh2=>⟨⟨by omega,by omega⟩,⟨by omega,by omega⟩,λh3=> ?_,λh3=>⟨by omega,j+1,by omega,⟨by omega,?_⟩,by omega⟩⟩⟩,λh1=>⟨by omega,j+1,by omega,⟨by omega,?_⟩,by omega⟩⟩
  ·unfold vp;rw[hd];unfold KX;rw[h1,decide_eq_false (by omega)];rfl
  ·unfold vp;rw[hd];unfold KX;rw[h1,h3,Bool.and_false];rfl
  ·rw[hd];unfold KX;rw[h1,h3,decide_eq_true (by omega)];rfl
  ·rw[hd];unfold KX;rw[h1];rfl
 ·rw[show s.size- j=0 by omega,uT]at ht;unfold vp;rw[←ht];exact kA (by omega)
def zy5{s q:IV} (h:j<s.size+1):xF s (s.size+1- j) j q=if j<s.size/\bat s j≠46 then xF s (s.size+1- (j+1)) (j+1) (q++s.extract j (j+1))else if vp q=true then xF s (s.size+1- (j+1)) (j+1) (mkS [])else false:=by rw[show s.size+1- j=s.size+1- (j+1)+1 by omega,xF]
def zpj:q4p P 123 Hd:=by
 refine qF (qcn (qgp NJ qjr)) (W:=zvf) Tryz.func123 λ(s:IV)=>(parts_eq s).mpr ?_;simp only[decide_eq_true_eq,decide_eq_false_iff_not,Bool.not_eq_true',Bool.not_eq_false',true_and,and_true,eq_self,Int.toNat_natCast];intro hs;refine⟨⟨⟨0,mkS []⟩,rfl,rfl,by omega,Nat.le_refl _,rfl⟩,?_⟩;rintro⟨j,q⟩ ⟨hj,hq,ht⟩;simp only at hj hq ht⊢;have t1:((j:Int)+1).toNat=j+1:=by omega
 refine⟨λhle=> ?_,λhge=> ?_⟩
 ·have hd:=zy5 (s:=s) (q:=q) (j:=j) (by omega);rw[ht]at hd;rw[t1];refine⟨λhlt=>⟨⟨by omega,by omega⟩,λh46=>⟨by omega,⟨by omega,by omega,by omega⟩,?_,by omega,⟨j+1,q++s.extract j (j+1)⟩,rfl,rfl,⟨by show j+1<=_;omega,?_,?_⟩,by show s.size+1- (j+1)<_;omega⟩,λh46=>⟨by omega,λhp=> ?_,λhp=>⟨by omega,⟨j+1,mkS []⟩,rfl,rfl,⟨by show j+1<=_;omega,Nat.zero_le _,?_⟩,by show s.size+1- (j+1)<_;omega⟩⟩⟩,λhge=>⟨by omega,λhp=> ?_,λhp=>⟨by omega,⟨j+1,mkS []⟩,rfl,rfl,⟨by show j+1<=_;omega,Nat.zero_le _,?_⟩,by show s.size+1- (j+1)<_;omega⟩⟩⟩
  ·rw[ByteArray.size_extract];omega
  ·show(q++s.extract j (j+1)).size<=j+1;rw[ByteArray.size_append,ByteArray.size_extract];omega
  ·rw[hd,if_pos ⟨by omega,by omega⟩]
  ·rw[hd,if_neg (by omega),hp];rfl
  ·rw[hd,if_neg (by omega),if_pos hp]
  ·rw[hd,if_neg (by omega),hp];rfl
  ·rw[hd,if_neg (by omega),if_pos hp]
 ·rw[show s.size+1- j=0 by omega,xF]at ht;exact ht.symm
def zgz:q4p P 102 z70:=by
 refine qF jz (W:=zkg) Tryz.func102 λ(s:IV)=>(zgy s).mpr ?_;simp only[decide_eq_true_eq,decide_eq_false_iff_not,Bool.not_eq_true',Bool.not_eq_false',true_and,and_true,eq_self,Int.toNat_natCast];intro hs;refine⟨by omega,⟨s.size,rfl,Nat.le_refl _,rfl⟩,?_⟩;rintro j ⟨hj,ht⟩;refine⟨λh0=> ?_,λh0=> ?_⟩
 ·obtain⟨i,rfl⟩:∃i,j=i+1:=⟨j- 1,by omega⟩;have e:((i+1:Nat):Int)- 1=(i:Int):=by omega
  rw[kg]at ht;rw[e,Int.toNat_natCast];refine⟨⟨by omega,by omega⟩,λh=>⟨⟨by omega,by omega⟩,?_⟩,λh=>⟨by omega,i,by omega,⟨by omega,?_⟩,by omega⟩⟩
  ·rw[←ht,if_pos (by omega)]
  ·rw[←ht,if_neg (by omega)]
 ·obtain rfl:j=0:=by omega
  rw[kg]at ht;exact ht.symm
def zia:q4p P 98 HB:=by refine qF jz (W:=λ_=>{}) Tryz.func98 λ⟨a,b⟩=>(join_eq a b).mpr ?_;simp only[decide_eq_true_eq,decide_eq_false_iff_not,Bool.not_eq_true',Bool.not_eq_false',true_and,and_true,eq_self,Int.toNat_natCast];rintro⟨ha,hb⟩;have z:(mkS [46]).size=1:=rfl;unfold z39;refine⟨λh=>⟨by omega,if_pos (.inl h)⟩,λh=>⟨λh2=>⟨by omega,if_pos (.inr h2)⟩,λh2=>⟨by omega,by rw[ByteArray.size_append];omega,if_neg (by simp[h,h2])⟩⟩⟩
def zws(h:j<s.size):ZA s (s.size- j) j=(decide (bat s j=46)||ZA s (s.size- (j+1)) (j+1)):=by rw[show s.size- j=s.size- (j+1)+1 by omega,ZA,if_pos h]
def zf2{a b:IV}:(z39 a b).size<=a.size+b.size+1:=by
 have z:(mkS [46]).size=1:=rfl;unfold z39;split
 ·rw[ByteArray.size_append];omega
 ·rw[ByteArray.size_append,ByteArray.size_append];omega
def z5u{a b:IV}:(vm a b).size<=a.size+b.size+1:=by
 unfold vm;split
 ·omega
 ·have:=zf2 (a:=b) (b:=a);omega
def zkw:q4p P 101 GW:=by
 refine qF (qcn (qgp zia (qgp zpj (qgp xk qjr)))) (W:=zvm) Tryz.func101 λ⟨S,(e:Int),a,b⟩=>(zkv S e a b).mpr ?_;simp only[decide_eq_true_eq,decide_eq_false_iff_not,Bool.not_eq_true',Bool.not_eq_false',true_and,and_true,eq_self,Int.toNat_natCast];rintro⟨ha,hb⟩;have hw:=z5u (a:=a) (b:=b);refine⟨⟨by omega,by omega⟩,⟨⟨0,z39 b a⟩,rfl,rfl,Nat.zero_le _,rfl⟩,?_⟩;rintro⟨j,q⟩ ⟨hj,ht⟩;simp only at hj ht⊢;refine⟨λhlt=> ?_,λhge=> ?_⟩
 ·have hd:=zws (s:=a) (j:=j) (by omega);rw[hd]at ht;refine⟨⟨by omega,by omega⟩,λh=>⟨by omega,⟨j+1,a⟩,rfl,by show((j+1:Nat):Int)=_;omega,⟨by show j+1<=_;omega,?_⟩,by show a.size- (j+1)<_;omega⟩,λh=>⟨by omega,⟨j+1,q⟩,rfl,by show((j+1:Nat):Int)=_;omega,⟨by show j+1<=_;omega,?_⟩,by show a.size- (j+1)<_;omega⟩⟩
  ·rw[decide_eq_true (by omega),Bool.true_or,if_pos rfl]at ht;rw[←ht];exact ite_self _
  ·rw[decide_eq_false (by omega),Bool.false_or]at ht;exact ht
 ·rw[show a.size- j=0 by omega,ZA,if_neg (by simp)]at ht;rw[ht];unfold v8;refine⟨λh=>⟨S,rfl,rfl,rfl,rfl,if_pos (.inl h),rfl⟩,λh=>⟨by omega,λh2=>⟨S,rfl,rfl,rfl,rfl,if_pos (.inr h2),rfl⟩,λh2=>⟨rfl,if_neg (by rw[h2];simp[h])⟩⟩⟩
def Ju:q4p P 66 z64:=by
 refine qF jz (W:=OA) Tryz.func66 λ⟨g,s⟩=>(zwy g s).mpr ?_;rintro hw ⟨p,_,hp⟩;rw[GJ.wf_eq]at hw;obtain⟨_,hl,hnl,_⟩:=hw;have gx:=λq (hq:g.ok q)=>(by rw[GJ.ok_eq]at hq;exact hq.2.1:qc qp g.x g.nm q);have gy:=λq (hq:g.ok q)=>(by rw[GJ.ok_eq]at hq;exact hq.1:qc GJ.cells g.y g.l q);have xl:g.x.2.1=g.nm.length:=(gx p hp).1;have yl:g.y.2.1=g.l.length:=(gy p hp).1;simp only[qH,Int.toNat_natCast,xl,yl];refine⟨⟨0,rfl,by omega,rfl⟩,?_⟩;rintro j ⟨hj,ht⟩;have none0:qm s g=none->(((qm s g).getD zJ).k=0/\((qm s g).getD zJ).n=0/\((qm s g).getD zJ).s=mkS []/\((qm s g).getD zJ).y.1=noA/\((qm s g).getD zJ).y.2.1=0/\((qm s g).getD zJ).y.2.2=0/\((qm s g).getD zJ).x.1=noA/\((qm s g).getD zJ).x.2.1=0/\((qm s g).getD zJ).x.2.2=0/\(qm s g).isSome=false):=λh=>by rw[h];exact⟨rfl,rfl,rfl,rfl,rfl,rfl,rfl,rfl,rfl,rfl⟩
 have endd:g.nm.length<=j->qm s g=none:=λh=>by
  rw[←ht,List.drop_of_length_le h];split
  ·rw[js];intros;simp at*
  ·rfl
 refine⟨λh6=>⟨λhlt=>⟨λhlt2=> ?_,λh=>by omega⟩,λh=>none0 (endd (by omega))⟩,λh6=>none0 (by rw[←ht,if_neg h6])⟩;have h1:j<g.nm.length:=by omega
 have h2:j<g.l.length:=by omega
 have hd:=z8v (s:=s) h1 h2;rw[if_pos h6]at ht;rw[ht]at hd;refine⟨⟨by omega,by omega⟩,(Hu (gx p hp) h1).1,g.nm[j],λq hq=>(Hu (gx q hq) h1).2,λhs=> ?_,λhs=>⟨by omega,j+1,by omega,⟨by omega,?_⟩,by omega⟩⟩
 ·rw[if_pos hs]at hd;refine⟨⟨by omega,by omega⟩,(HF (gy p hp) h2).1,g.l[j].k,g.l[j].n,g.l[j].s,g.l[j].y.1,g.l[j].y.2.1,g.l[j].y.2.2,g.l[j].x.1,g.l[j].x.2.1,g.l[j].x.2.2,λq hq=>(HF (gy q hq) h2).2,?_⟩;rw[hd];exact⟨rfl,rfl,rfl,rfl,rfl,rfl,rfl,rfl,rfl,rfl⟩
 ·rw[if_neg hs]at hd;rw[if_pos h6];exact hd.symm
def Nr:q4p P 100 WN:=by
  refine qF (qcn (qgp Ju (qgp xk qjr))) (W:=λ_=>{}) Tryz.func100 λ⟨S,(e:Int),g,s,b⟩=>(zqo S e g s b).mpr ?_;rintro hw ⟨p,_,hp⟩;simp only[qH,Int.toNat_natCast];refine⟨⟨g,s⟩,rfl,rfl,rfl,rfl,rfl,rfl,rfl,rfl,rfl,rfl,hw,λq hq=>hq,?_⟩;simp only;unfold jL;cases hk:qm s g with
  | none=>
    refine⟨λ_=>⟨λhb=> ?_,λhb=>⟨λ_=>⟨S,rfl,rfl,?_,rfl,?_,rfl⟩,λh=>absurd h (by simp)⟩⟩,λh=>absurd h (by simp)⟩
    · simp only[hb];refine⟨?_,?_⟩<;>first|rfl|trivial
    · simp only[hb];rfl
    · simp only[hb];rfl
  | some t=>
    refine⟨λh=>absurd h (by simp),λ_=>⟨λh=>absurd h (by simp),λ_=>⟨λh4=>⟨S,rfl,rfl,?_,rfl,?_,rfl⟩,λh4=> ?_⟩⟩⟩
    · have h4:¬t.k=4:=h4;simp only[if_neg h4]
    · have h4:¬t.k=4:=h4;simp only[if_neg h4]
    · have h4:t.k=4:=h4;simp only[if_pos h4];refine⟨?_,?_⟩<;>first|rfl|trivial
end
def jk:List GJ->Int->List IV->List IV×Int
 | [],e,acc=>(acc,e)
 |g::l,e,acc=>if e=0 then jk l (if g.k=4 then 0 else 2) (acc++[g.s])else(acc,e)
def yB(g:GJ) (s:IV) (e:Int):Int:=if((qm s g).getD zJ).k=5 then e else qt e 2
def zi(g:GJ) (s:IV) (e:Int):List IV×Bool×Int:=if(qm s g).isSome=true then((jk ((qm s g).getD zJ).l (yB g s e) []).1,true,(jk ((qm s g).getD zJ).l (yB g s e) []).2)else([],false,e)
def jvi(l:List IV):List SV->PF
 | [x]=>⟨true,qc qp x l,λ_ _ h e=>jo h e⟩
 |_=>{}
def VA:Ct where
 σ:=List AT×Int×GJ×IV
 args:=λ⟨S,e,g,s⟩=>[.ptr 1 0,g.av, .sv (.string s)]
 h:=λ⟨S,e,g,s⟩=>jw S e 2 3
 m:=4
 pre:=λ⟨S,e,g,s⟩=>g.wf
 mem:=λ⟨S,e,g,s⟩=>gM g
 r:=λ⟨S,e,g,s⟩=> .tup [.tsl 4, .sv (.bool (zi g s e).2.1)]
 h':=λ⟨S,e,g,s⟩=>jw S (zi g s e).2.2 2 3
 m':=5
 g:=λ⟨S,e,g,s⟩=>some {β:=Unit,ks:=[4],pre:=λ_=>True,mem:=λ_ xs=>jvi (zi g s e).1 xs}
def yY(S:List AT) (e:Int) (r k:Nat):Nat×AO:=(1, .cells 90 (some 0) false [.ssl r 0 S.length 10 k, .sv (.int .i64 e)])
def zvi:VA.σ->WayF:=λ⟨S,e,g,s⟩=>{
 cut:=λi _ _=>match i with
  |6=>some {σ:=Unit,t:=λ_=>[],h:=λ_=>[yY S (yB g s e) 2 3],more:=0,μ:=λ_=>0,keep:=[0,6,7,8]}
  |_=>none
 ann:=λ_ _ _=>some {σ:=Nat×Int×List IV,pre:=λ⟨j,e',acc⟩=>j<=((qm s g).getD zJ).l.length/\acc.length<=j/\jk (((qm s g).getD zJ).l.drop j) e' acc=jk ((qm s g).getD zJ).l (yB g s e) [],t:=λ⟨j,e',acc⟩=>[(11, .sv (.int .i64 (j:Int))),(10, .ssl 7 0 acc.length 1 8)],h:=λ⟨j,e',acc⟩=>[(7, .row 9 0 (qa qp acc)),yY S e' 2 3],more:=2,μ:=λ⟨j,e',acc⟩=>((qm s g).getD zJ).l.length- j,keep:=[0,6,7,8]}
 pubE:=[6]}
def kF(n:Nat) (a:AT):Prop:=(1<=a.k/\a.k<=14)/\(a.k=12\/a.k=13->0<=a.it/\a.it<n)/\(∀b∈a.brs,0<=b/\b<n)/\(a.k=14->a.brs≠[])/\(∀f∈a.fs,(0<=f.ty/\f.ty<n)/\f.df.wf)/\(a.k=10->a.sys≠[])/\(a.k=11->0<=a.sz/\a.sz<=5000)/\(a.fs.length<=7/\a.brs.length<=30/\a.sys.length<=30)
def grown(S:List AT) (e:Int) (T:List AT) (e':Int):Prop:=(S++T).length<=60/\(e'=0->e=0/\∀a∈T,kF (S++T).length a)
def Gu(T:List AT):PF:=⟨true,λp=>∀a∈T,a.ok p,λ_ _ h e a ha=>AT.ok_mono h (e a ha)⟩
abbrev qR:=List AT×Int×Int
def He:CtR where
 σ:=List AT×Int×IV×IV
 args:=λ⟨S,e,s,sp⟩=>[.ptr 1 0, .sv (.string s), .sv (.string sp)]
 h:=λ⟨S,e,s,sp⟩=>jw S e 2 3
 m:=4
 pre:=λ⟨S,e,s,sp⟩=>S.length<=60/\s.size<100000/\sp.size<100000
 β:=λ_=>qR
 post:=λ⟨S,e,s,sp⟩ ⟨T,e',r⟩=>grown S e T e'/\(e'=0->0<=r/\r<(S++T).length)
 pm:=λ_ ⟨T,e',r⟩=>Gu T
 r:=λ_ ⟨T,e',r⟩=> .sv (.int .i64 r)
 h':=λ⟨S,e,s,sp⟩ ⟨T,e',r⟩=>jw (S++T) e' 4 5
 m':=6
def zvh:He.σ->WayF:=λ⟨S,e,s,sp⟩=>{
 cut:=λi _ _=>match i with
  |4=>some {σ:=Unit,t:=λ_=>[],h:=λ_=>[],more:=0,μ:=λ_=>0,keep:=[0,1,2,6,7]}
  |_=>none
 ann:=λ_ _ _=>some {σ:=Nat×Bool,pre:=λ⟨j,d⟩=>j<=s.size,t:=λ⟨j,d⟩=>[(9, .sv (.int .i64 (j:Int))),(8, .sv (.bool d))],h:=λ_=>[],more:=0,μ:=λ⟨j,d⟩=>s.size- j,keep:=[0,1,2,6,7]}}
section
variable (b:GJ×IV) (d:List AT) (g:Int) (c:GJ) (e:IV) (a:Nat×Int×List IV) (o:Prop) (q:Nat×Int×List IV) (r:Nat->Option Obj) (u:Nat) (p:Option Addr)
 abbrev VQ:=qa AT.cells d=qa AT.cells d
 abbrev ju:=Option.getD (qm b.2 b.1) zJ
 def YF:=GJ.k (ju b)=GJ.k (ju b)/\GJ.n (ju b)=GJ.n (ju b)/\GJ.s (ju b)=GJ.s (ju b)/\(GJ.y (ju b)).1=(GJ.y (ju b)).1/\(GJ.y (ju b)).2.1=(GJ.y (ju b)).2.1/\(GJ.y (ju b)).2.2=(GJ.y (ju b)).2.2/\(GJ.x (ju b)).1=(GJ.x (ju b)).1/\(GJ.x (ju b)).2.1=(GJ.x (ju b)).2.1/\(GJ.x (ju b)).2.2=(GJ.x (ju b)).2.2/\(∀f,True/\GJ.ok c f->True/\GJ.ok c f)/\o
 abbrev VS:=GJ.l (Option.getD (qm e c) zJ)
 def XE:=a.1<=length (VS c e)/\length a.2.2<=a.1/\jk (drop a.1 (VS c e)) a.2.1 a.2.2=jk (VS c e) (yB c e g) []
 abbrev IG:=(↑a.1:Int)<(↑(GJ.y (ju b)).2.1:Int)
 def HY:=(0<=(↑a.1:Int)/\IG b a)/\(GJ.y (ju b)).1≠noA/\o
 def IE:=(∀f,True/\GJ.ok c f->q37 f (Addr.add (adr (GJ.y (ju b)).1 (toNat (↑a.1:Int)*5)) 2) [string e])/\length (qa qp a.2.2)=length a.2.2*1/\(length a.2.2+nat_lit 1)*16<=140737488355328/\Jb ((↑a.1:Int)+1)/\o
 def IH:=(↑a.1:Int)=(↑q.1:Int)+1/\length a.2.2=length q.2.2+nat_lit 1/\o
 def IF:=YF b c ((XE g c e a)/\length (VS c e)- a.1<length (VS c e)- q.1/\True)
 def d_:=HY b a (∃f,IE b c f a (∃(h:Nat×Int×List IV),IH h (length d=length d/\h.2.1=a.2.1/\qa qp h.2.2=qa qp a.2.2++[string f]/\VQ d/\IF b g c e h a) a))
 def dZ:=HY b a (∃(f:Int),(∀m,True/\GJ.ok c m->q37 m (Addr.add (adr (GJ.y (ju b)).1 (toNat (↑a.1:Int)*5)) 0) [int i64 f])/\((!decide (f=4))=true->∃(h:List AT),(2:Int)=2/\length h=length d/\a.2.1=a.2.1/\qa AT.cells h=qa AT.cells d/\True/\HY b a (∃j,IE b c j a (∃(i:Nat×Int×List IV),IH i (length d=length h/\i.2.1=qt a.2.1 2/\qa qp i.2.2=qa qp a.2.2++[string j]/\qa AT.cells d=qa AT.cells h/\IF b g c e i a) a)))/\((!decide (f=4))=false->d_ b d g c e a))
 def II:=(True/\GJ.ok c r)/\length a.2.2<=u/\qgs r p (take (length a.2.2*nat_lit 1) (qa qp a.2.2))
 def DE:=∀(f m h:Nat) (j:Option Addr) (v i:Nat),(∃t,II c a t i j)->∃(w:Unit),j=j/\length a.2.2=length a.2.2/\i=i/\(zi c e g).2.1=true/\length d=length d/\(zi c e g).2.2=a.2.1/\VQ d/\Pl j/\True/\(∀i8,II c a i8 i j->qc qp (j,length a.2.2,i) (zi c e g).1 i8)/\True
 def dY:=Ji (a.2.1=0) (dZ b d g c e a) (DE d g c e a)
 abbrev dX:=Ji (IG b a) (dY b d g c e a) (DE d g c e a)
 def dW:=(∃(f:Nat×Int×List IV),(↑f.1:Int)=0/\length f.2.2=0/\length d=length d/\f.2.1=yB c e g/\VQ d/\YF b c ((XE g c e f)/\True))/\∀(h:Nat×Int×List IV),XE g c e h->dX b d g c e h
 def dV:=(((!decide (GJ.k (ju b)=5))=true->∃(f:List AT),(2:Int)=2/\length f=length d/\g=g/\qa AT.cells f=qa AT.cells d/\True/\∃(m:Unit),length d=length f/\yB c e g=qt g 2/\qa AT.cells d=qa AT.cells f/\YF b c (True/\True))/\((!decide (GJ.k (ju b)=5))=false->∃(j:Unit),length d=length d/\yB c e g=g/\VQ d/\YF b c (True/\True)))/\∀(i:Unit),True->dW b d g c e
end
def zjz(S:List AT) (e:Int) (g:GJ) (s:IV):qk3 P (qfa [(66,z64),(63,wz)]) Tryz.f103 VA (zvi) ⟨S,e,g,s⟩=(GJ.wf g->(∃(p:Pub),True/\GJ.ok g p)->∃(s_1:GJ×IV),GJ.k s_1.1=GJ.k g/\GJ.n s_1.1=GJ.n g/\GJ.s s_1.1=GJ.s g/\(GJ.y s_1.1).1=(GJ.y g).1/\(GJ.y s_1.1).2.1=(GJ.y g).2.1/\(GJ.y s_1.1).2.2=(GJ.y g).2.2/\(GJ.x s_1.1).1=(GJ.x g).1/\(GJ.x s_1.1).2.1=(GJ.x g).2.1/\(GJ.x s_1.1).2.2=(GJ.x g).2.2/\s_1.2=s/\GJ.wf s_1.1/\(∀(p:Pub),True/\GJ.ok g p->GJ.ok s_1.1 p)/\((!Option.isSome (qm s_1.2 s_1.1))=true->∃(b:Unit),noA=noA/\(0:Nat)=0/\(0:Nat)=0/\(zi g s e).2.1=false/\length S=length S/\(zi g s e).2.2=e/\VQ S/\Pl noA/\True/\(∀(p:Pub),True/\GJ.ok g p->qc qp (noA,(0:Nat),(0:Nat)) (zi g s e).1 p)/\True)/\((!Option.isSome (qm s_1.2 s_1.1))=false->dV s_1 S e g s)):=by kernel_rfl
def zq7:=λS e g s=>Eq.trans (zjz S e g s) (by delta Ji Jb Jt Jf VQ ju YF VS XE IG HY IE IH IF d_ dZ II DE dY dX dW dV;exact rfl)
section
variable (b:IV) (c:List AT) (d:Int) (e:IV) (g:Nat×Bool) (i:qR) (j:List AT) (o:Prop) (p:Nat×Bool)
 abbrev XF:=(grown c d i.1 i.2.1/\(i.2.1=0->0<=i.2.2/\i.2.2<(↑(length (c++i.1)):Int)))/\(∀a,True->∀(h:AT),h∈i.1->AT.ok h a)/\True
 def VT:=length c=length c/\d=d/\qa AT.cells c=qa AT.cells c/\o
 def eu:=Ji (qK b<=8) (∃(a:List AT×Int×AT),AT.k a.2.2=qK b/\AT.nm a.2.2=mkS []/\(AT.al a.2.2).1=noA/\(AT.al a.2.2).2.1=0/\(AT.al a.2.2).2.2=0/\AT.it a.2.2=0/\(AT.sy a.2.2).1=noA/\(AT.sy a.2.2).2.1=0/\(AT.sy a.2.2).2.2=0/\AT.hd a.2.2=false/\AT.df a.2.2=mkS []/\AT.sz a.2.2=0/\(AT.f a.2.2).1=noA/\(AT.f a.2.2).2.1=0/\(AT.f a.2.2).2.2=0/\(AT.br a.2.2).1=noA/\(AT.br a.2.2).2.1=0/\(AT.br a.2.2).2.2=0/\length a.1=length c/\a.2.1=d/\qa AT.cells a.1=qa AT.cells c/\True/\∃(h:qR),h.2.2=qw a.1/\length (c++h.1)=length (qC a.1 a.2.2)/\h.2.1=qI a.1 a.2.1/\qa AT.cells (c++h.1)=qa AT.cells (qC a.1 a.2.2)/\XF c d h) (∃(m:Unit),b=b/\qK b=qK b/\e=e/\VT c d (True/\True))
 abbrev IJ:=Jb ((↑g.1:Int)+1)
 def IL:=g.1<=size b/\size b- g.1<size b- p.1/\True
 def O5:=IJ g/\∃(a:Nat×Bool),b=b/\qK b=qK b/\(↑a.1:Int)=(↑g.1:Int)+1/\e=e/\a.2=true/\VT c d (IL b a g)
 def ey:=(0<=(↑g.1:Int)/\(↑g.1:Int)<(↑(size b):Int))/\IJ g/\∃(a:Nat×Bool),b=b/\qK b=qK b/\(↑a.1:Int)=(↑g.1:Int)+1/\e=e/\a.2=decide ((↑(bat b (toNat (↑g.1:Int))):Int)=46)/\VT c d (IL b a g)
 def ew:=(g.2=true->O5 b c d e g)/\(g.2=false->ey b c d e g)
 def W0:=length c=length j/\d=d/\qa AT.cells c=qa AT.cells j/\o
 def IK:=length (c++i.1)=length j/\i.2.1=d/\qa AT.cells (c++i.1)=qa AT.cells j/\XF c d i
 def DF:=length c<1000/\((!Option.isSome (findF b c 0))=true->∃(a:List AT),(4:Int)=4/\W0 a d c (True/\∃(h:qR),h.2.2=0/\length (j++h.1)=length a/\h.2.1=qt d 4/\qa AT.cells (j++h.1)=qa AT.cells a/\XF j d h))/\((!Option.isSome (findF b c 0))=false->∃(n:qR),n.2.2=yX (findF b c 0)/\IK j d n c)
 def eo:=b=b/\e=e/\(size b<1000000/\size e<1000000)/\∃(a:List AT),z39 b e=z39 b e/\W0 a d c (length a<1000/\(Option.isSome (findF (z39 b e) a 0)=true->∃(h:qR),h.2.2=yX (findF (z39 b e) a 0)/\IK c d h a)/\(Option.isSome (findF (z39 b e) a 0)=false->∃(m:List AT),e=e/\W0 m d a (DF e m d c)))
 def eh:=((!g.2)=true->eo b c d e)/\((!g.2)=false->∃(l:List AT),e=e/\W0 l d c (DF e l d c))
 def eg:=Ji ((↑g.1:Int)<(↑(size b):Int)) (ew b c d e g) (eh e c d b g)
 def ed:=(∃(a:Nat×Bool),b=b/\qK b=qK b/\(↑a.1:Int)=0/\e=e/\a.2=false/\VT c d (a.1<=size b/\True))/\∀(h:Nat×Bool),h.1<=size b->eg b c d e h
 def ec:=b=b/\True/\(Ji (1<=qK b) (eu b c d e) (∃(q:Unit),b=b/\qK b=qK b/\e=e/\VT c d (True/\True)))/\∀(r:Unit),True->ed b c d e
end
def zjx(S:List AT) (e:Int) (s sp:IV):qk4 P (qfa [(68,WU),(69,KF),(98,HB),(97,WT),(63,wz)]) (qgc []) Tryz.f64 He (zvh) ⟨S,e,s,sp⟩=(length S<=60/\size s<100000/\size sp<100000->ec s S e sp):=by kernel_rfl
def zq4:=λS e s sp=>Eq.trans (zjx S e s sp) (by delta Ji Jb Jt Jf XF VT eu IJ IL O5 ey ew W0 IK DF eo eh eg ed ec;exact rfl)
section
def zd5{s:IV}:∀{nm:List IV} {l:List GJ} {t:GJ},js s nm l=some t->∃(i:Nat) (h:i<l.length),t=l[i]
  | [],l,t,h=>by simp[js]at h
  |x::nm,[],t,h=>by simp[js]at h
  | x::nm,g::l,t,h=>by
    rw[js]at h;split at h
    · cases h;exact⟨0,by simp,rfl⟩
    · obtain⟨i,hi,e⟩:=zd5 h;exact⟨i+1,by simpa using hi,by simpa using e⟩
variable {s:IV}
def zez{g t:GJ} (h:qm s g=some t) (hw:g.wf):t.wf/\∀p,g.ok p->t.ok p:=by
 unfold qm at h;split at h
 ·obtain⟨i,hi,rfl⟩:=zd5 h;rw[GJ.wf_eq]at hw;exact⟨GJ.wfs_at hw.2.2.2.2.2.2 hi,λp hp=>by rw[GJ.ok_eq]at hp;exact GJ.oks_at hp.2.2 hi⟩
 ·cases h
def jgn:zJ.wf:=by unfold zJ GJ.wf GJ.wfs;exact⟨by decide,by decide,by decide,λt h=>by simp at h,⟨by decide,by decide⟩,λ_=>rfl,trivial⟩
def jgm(p:Pub):zJ.ok p:=by unfold zJ GJ.ok GJ.oks;exact⟨qY,qY,trivial⟩
def wx(s:IV) {g:GJ} (hw:g.wf):((qm s g).getD zJ).wf/\∀p,g.ok p->((qm s g).getD zJ).ok p:=by
 cases h:qm s g with
 |none=>exact⟨jgn,λp _=>jgm p⟩
 |some t=>exact zez h hw
variable {l:List GJ} {acc:List IV}
def z9b{j:Nat} {e:Int} (h:j<l.length):jk (l.drop j) e acc=if e=0 then jk (l.drop (j+1)) (if l[j].k=4 then 0 else 2) (acc++[l[j].s])else(acc,e):=by rw[List.drop_eq_getElem_cons h,jk]
def zdu{j:Nat} {e:Int} (h:l.length<=j\/e≠0):jk (l.drop j) e acc=(acc,e):=by
 by_cases hj:l.length<=j
 ·rw[List.drop_of_length_le hj,jk]
 ·rw[z9b (by omega),if_neg (by omega)]
def zec(x:Addr):x.add 0=x:=by cases x;simp[Addr.add]
def Nn:q4p P 103 VA:=by
  refine qF (qcn (qgp Ju (qgp xk qjr))) (W:=zvi) Tryz.func103 λ⟨S,(e:Int),g,s⟩=>(zq7 S e g s).mpr ?_;rintro hg ⟨p,_,hp⟩;simp only[qH,exists_const];refine⟨⟨g,s⟩,rfl,rfl,rfl,rfl,rfl,rfl,rfl,rfl,rfl,rfl,hg,λq hq=>hq,λhn=> ?_,λhy=> ?_⟩
  · have e0:zi g s e=([],false,e):=(by unfold zi;rw[if_neg (by rw[hn];decide)]);rw[e0];exact⟨rfl,rfl,z46,λq _=>qY⟩
  obtain⟨tw,tok⟩:=wx s hg;have e1:zi g s e=((jk ((qm s g).getD zJ).l (yB g s e) []).1,true,(jk ((qm s g).getD zJ).l (yB g s e) []).2):=by unfold zi;rw[if_pos hy]
  rw[e1];have hty:yB g s e=if((qm s g).getD zJ).k=5 then e else qt e 2:=rfl;simp only;generalize (qm s g).getD zJ=t at*;generalize yB g s e=e2 at*;have hy2:=λq (hq:g.ok q)=>(show qc GJ.cells t.y t.l q by have:=tok q hq;rw[GJ.ok_eq]at this;exact this.1);have tl:t.y.2.1=t.l.length:=(hy2 p hp).1;rw[GJ.wf_eq]at tw;refine⟨⟨λh=>⟨S,rfl,rfl,rfl,by rw[hty,if_neg h],rfl⟩,λh=>by rw[hty,if_pos h]⟩,?_⟩;rintro _ _;refine⟨⟨⟨0,e2,[]⟩,rfl,rfl,rfl,by show 0<=_;omega,by show 0<=_;omega,rfl⟩,?_⟩;rintro⟨j,e',acc⟩ ⟨hj,ha,he⟩;simp only at*;have done:jk (t.l.drop j) e' acc=(acc,e')->∀(a:Option Addr) (c:Nat),(jk t.l e2 []).2=e'/\∀q,acc.length<=c/\qgs q a (List.take (acc.length*1) (qa qp acc))->qc qp (a,acc.length,c) (jk t.l e2 []).1 q:=λh a c=>by rw[←he,h];refine⟨rfl,λq hq=>⟨rfl,hq.1,?_⟩⟩;have:=hq.2;rw[List.take_of_length_le (by rw[qv jV];exact Nat.le_refl _)]at this;exact this
  refine⟨λhlt=>⟨λh0=> ?_,λh0=> ?_⟩,λhge=> ?_⟩
  · have hjl:j<t.l.length:=(by omega);have hat:=λq (hq:g.ok q)=>z17 Ze (by decide) (hy2 q hq) hjl;have hd:=z9b (e:=e') (acc:=acc) hjl;rw[if_pos h0]at hd;have cell:∀q (hq:g.ok q) (k:Nat) (v:Value),t.l[j].cells[k]? =some v->q37 q ((adr t.y.1 (j*5)).add k) [v]:=λq hq k v hv i u hu=>by
      have:=(hat q hq).2
      match i with
      | 0=>
        simp at hu;subst hu;rw[zec];exact this k v hv
      |i+1=>simp at hu
    refine⟨by omega,(hat p hp).1,t.l[j].k,λq hq=>cell q hq 0 _ rfl,λhk=>⟨S,rfl,rfl,by omega,(hat p hp).1,t.l[j].s,λq hq=>cell q hq 2 _ rfl,qv jV acc,by omega,⟨by omega,by omega⟩,⟨j+1,2,acc++[t.l[j].s]⟩,by show((j+1:Nat):Int)=_;omega,by show(acc++[t.l[j].s]).length=_;simp,rfl,by show 2=qt e' 2;unfold qt;rw[if_pos h0],by show qa qp (acc++[t.l[j].s])=_;rw[zx];rfl,rfl,⟨by show j+1<=_;omega,by show(acc++[t.l[j].s]).length<=j+1;simp;omega,?_⟩,by show _- (j+1)<_;omega⟩,λhk=>⟨by omega,(hat p hp).1,t.l[j].s,λq hq=>cell q hq 2 _ rfl,qv jV acc,by omega,⟨by omega,by omega⟩,⟨j+1,0,acc++[t.l[j].s]⟩,by show((j+1:Nat):Int)=_;omega,by show(acc++[t.l[j].s]).length=_;simp,h0.symm,by show qa qp (acc++[t.l[j].s])=_;rw[zx];rfl,⟨by show j+1<=_;omega,by show(acc++[t.l[j].s]).length<=j+1;simp;omega,?_⟩,by show _- (j+1)<_;omega⟩⟩
    · rw[←he,hd,if_neg hk]
    · rw[←he,hd,if_pos hk]
  · rintro b s4 u a n c ⟨q0,hq0⟩;obtain⟨d1,d2⟩:=done (zdu (.inr h0)) a c;exact⟨trivial,d1,rowP_Pl hq0.2.2,λq hq=>d2 q hq.2⟩
  · rintro b s4 u a n c ⟨q0,hq0⟩;obtain⟨d1,d2⟩:=done (zdu (.inl (by omega))) a c;exact⟨trivial,d1,rowP_Pl hq0.2.2,λq hq=>d2 q hq.2⟩
def qJ(k it:Int):AT:=⟨k,mkS [],(none,0,0),[],it,(none,0,0),[],false,mkS [],0,(none,0,0),[],(none,0,0),[]⟩
def Hr(k it:Int) (p:Pub):(qJ k it).ok p:=⟨qY,qY,qY,qY,λf hf=>absurd hf (by simp[qJ])⟩
def zpk{n:Nat} {k it:Int} (h1:1<=k) (h8:k<=8):kF n (qJ k it):=by have hk:(qJ k it).k=k:=rfl;unfold kF;rw[hk];exact⟨⟨h1,by omega⟩,λh=>(by omega),λb hb=>(by cases hb),λh=>(by omega),λf hf=>(by cases hf),λh=>(by omega),λh=>(by omega),Nat.zero_le _,Nat.zero_le _,Nat.zero_le _⟩
def zcs{s:IV}:∀{l:List AT} {i k:Nat},findF s l i=some k->i<=k/\k<i+l.length
  | [],i,k,h=>by simp[findF]at h
  | a::l,i,k,h=>by
    rw[findF]at h;split at h
    · cases h;simp
    · have:=zcs h;simp;omega
def Hm{S:List AT} (h:(findF s S 0).isSome=true):0<=yX (findF s S 0)/\yX (findF s S 0)<S.length:=by
  cases hf:findF s S 0 with
  |none=>rw[hf]at h;cases h
  | some k=>
    have:=zcs hf;show 0<=(k:Int)/\(k:Int)<_;omega
def jf{e0 e:Int} (h:e≠0):qt e0 e≠0:=by unfold qt;split<;>omega
def zq5:q1q P 64 He:=by
 refine zt (qcn (qgp zif (qgp GN (qgp zia (qgp zct (qgp xk qjr)))))) (qde qjq) (W:=zvh) Tryz.func64 λ⟨S,(e:Int),s,sp⟩=>(zq4 S e s sp).mpr ?_;rintro⟨hS,hs,hsp⟩;simp only[qH,exists_const,forall_const];have same:∀r:Int,(0<=r/\r<S.length)->grown S e [] e/\(e=0->0<=r/\r<(S++[]).length):=λr hr=>by unfold grown;rw[List.append_nil];exact⟨⟨hS,λh=>⟨h,λa ha=>by cases ha⟩⟩,λ_=>hr⟩
 have bad:grown S e [] (qt e 4)/\(qt e 4=0->0<=(0:Int)/\0<((S++[]).length:Int)):=by have:=jf (e0:=e) (e:=4) (by decide);unfold grown;rw[List.append_nil];exact⟨⟨hS,λh=>absurd h this⟩,λh=>absurd h this⟩
 refine⟨λh1=>λh8=>⟨⟨S,e,qJ (qK s) 0⟩,rfl,rfl,rfl,rfl,rfl,rfl,rfl,rfl,rfl,rfl,rfl,rfl,rfl,rfl,rfl,rfl,rfl,rfl,rfl,rfl,rfl,?_⟩,?_⟩
 ·by_cases hl:60<=S.length
  ·refine⟨⟨[],qI S e,qw S⟩,rfl,?_,rfl,?_,?_,λp a ha=>by cases ha⟩
   ·show(S++[]).length=(qC S (qJ (qK s) 0)).length;unfold qC;rw[if_pos hl,List.append_nil]
   ·show qa AT.cells (S++[])=qa AT.cells (qC S (qJ (qK s) 0));unfold qC;rw[if_pos hl,List.append_nil]
   ·have:qI S e≠0:=(by unfold qI;rw[if_pos hl];exact jf (by decide));unfold grown;exact⟨⟨by rw[List.append_nil];exact hS,λh=>absurd h this⟩,λh=>absurd h this⟩
  ·refine⟨⟨[qJ (qK s) 0],qI S e,qw S⟩,rfl,?_,rfl,?_,?_,λp a ha=> ?_⟩
   ·show(S++[_]).length=(qC S (qJ (qK s) 0)).length;unfold qC;rw[if_neg hl]
   ·show qa AT.cells (S++[_])=qa AT.cells (qC S (qJ (qK s) 0));unfold qC;rw[if_neg hl]
   ·have e1:qI S e=e:=(by unfold qI;rw[if_neg hl]);have e2:qw S=S.length:=(by unfold qw;rw[if_neg hl]);show grown S e [_] (qI S e)/\(qI S e=0->0<=qw S/\qw S<((S++[_]).length:Int));rw[e1,e2];refine⟨⟨by simp;omega,λh=>⟨h,λa ha=> ?_⟩⟩,λ_=>by simp;omega⟩;simp at ha;subst ha;exact zpk h1 h8
   ·simp at ha;subst ha;exact Hr _ _ _
 refine⟨⟨⟨0,false⟩,rfl,rfl,Nat.zero_le _⟩,?_⟩;rintro⟨j,d⟩ hj;simp only at*;have tail:∀b1:List AT,b1=S->(b1.length<1000/\((findF s b1 0).isSome=true->0<=yX (findF s b1 0)/\yX (findF s b1 0)<S.length)):=λb1 h=>by subst h;exact⟨by omega,Hm⟩
 refine⟨λhlt=>⟨λhd=>⟨⟨by omega,by omega⟩,⟨j+1,true⟩,by show((j+1:Nat):Int)=_;omega,rfl,by show j+1<=_;omega,by show _- (j+1)<_;omega⟩,λhd=>⟨⟨by omega,hlt⟩,⟨by omega,by omega⟩,⟨j+1,_⟩,by show((j+1:Nat):Int)=_;omega,rfl,by show j+1<=_;omega,by show _- (j+1)<_;omega⟩⟩,λhge=>⟨λhd=>⟨⟨by omega,by omega⟩,S,rfl,rfl,by omega,λhf=>⟨⟨[],e,yX (findF (z39 sp s) S 0)⟩,rfl,by rw[List.append_nil],rfl,by rw[List.append_nil],same _ (Hm hf),λp a ha=>by cases ha⟩,λhf=>⟨S,rfl,rfl,by omega,λhg=>⟨S,rfl,rfl,⟨[],qt e 4,0⟩,rfl,by rw[List.append_nil],rfl,by rw[List.append_nil],bad,λp a ha=>by cases ha⟩,λhg=>⟨⟨[],e,yX (findF s S 0)⟩,rfl,by rw[List.append_nil],rfl,by rw[List.append_nil],same _ (Hm hg),λp a ha=>by cases ha⟩⟩⟩,λhd=>⟨S,rfl,rfl,by omega,λhg=>⟨S,rfl,rfl,⟨[],qt e 4,0⟩,rfl,by rw[List.append_nil],rfl,by rw[List.append_nil],bad,λp a ha=>by cases ha⟩,λhg=>⟨⟨[],e,yX (findF s S 0)⟩,rfl,by rw[List.append_nil],rfl,by rw[List.append_nil],same _ (Hm hg),λp a ha=>by cases ha⟩⟩⟩⟩
end
abbrev vE:=List AT×Int×GJ×IV×Int
def yJ:vE->Prop:=λ⟨S,e,g,sp,d⟩=>S.length<=60/\g.wf/\1<=d/\d<=21/\(sp.size:Int)<=1100*d
def zN:vE->qR->Prop:=λ⟨S,e,g,sp,d⟩ ⟨T,e',r⟩=>grown S e T e'/\(e'=0->0<=r/\r<(S++T).length)
def wA:CtR where
 σ:=vE
 args:=λ⟨S,e,g,sp,d⟩=>[.ptr 1 0,g.av, .sv (.string sp), .sv (.int .i64 d)]
 h:=λ⟨S,e,g,sp,d⟩=>jw S e 2 3
 m:=4
 pre:=yJ
 mem:=λ⟨S,e,g,sp,d⟩=>gM g
 β:=λ_=>qR
 post:=zN
 pm:=λ_ ⟨T,e',r⟩=>Gu T
 r:=λ_ ⟨T,e',r⟩=> .sv (.int .i64 r)
 h':=λ⟨S,e,g,sp,d⟩ ⟨T,e',r⟩=>jw (S++T) e' 4 5
 m':=6
def z78:CtR:={wA with pre:=λs=>yJ s/\s.2.2.2.2<=20}
def j4:vE->Nat:=λ⟨S,e,g,sp,d⟩=>(25- d).toNat
abbrev Ky:=Nat×Int×List AT×List Int
def HL(S:List AT) (e:Int) (g:GJ):Ky->Prop:=λ⟨i,e',T,l⟩=>i<=g.l.length/\(S++T).length<=60/\(e'=0->e=0/\S.length<60/\l.length=i/\(∃T',T=qJ 14 0::T'/\∀a∈T',kF (S++T).length a)/\∀b∈l,0<=b/\b<(S++T).length)
def zks:vE->WayF:=λ⟨S,e,g,sp,d⟩=>{
 ann:=λid _ _=>match id with
  |0=>some {σ:=Ky,pre:=HL S e g,mem:=λ⟨i,e',T,l⟩=>Gu T,t:=λ⟨i,e',T,l⟩=>[(11, .sv (.int .i64 (i:Int))),(10, .ssl 13 0 l.length 1 14)],h:=λ⟨i,e',T,l⟩=>jw (S++T) e' 11 12++[(13, .row 3 0 (qa qi l))],more:=4,μ:=λ⟨i,e',T,l⟩=>g.l.length- i,keep:=[0,2,3,5,8,9],del:=[9]}
  |_=>some {σ:=Nat,t:=λm=>[(13, .sv (.int .i64 (m:Int)))],h:=λ_=>[],more:=0,μ:=λm=>100- m,keep:=[0,2,3,5,8,9,10,11,12]}
 pub:=λi k=>match i,k with
  |22,9=>[109]
  |_,_=>[]}
section
variable (a:GJ) (f:List AT×Int×AT) (e:List AT) (i:Int) (j:IV) (o:Int) (r:Nat) (b:Ky) (d:qR) (m:vE) (F:Prop) (t:Nat->Option Obj) (w:Option Addr) (I:List AT×Int) (B:Int) (G:List AT)
 abbrev W2:=(↑(GJ.y a).2.1:Int)
 def JL:=∀(c:AT),c∈d.1->AT.ok c t
 def IM:=∃(c:List AT),B=B/\length c=length (qC f.1 f.2.2)/\qI f.1 f.2.1=qI f.1 f.2.1/\qa AT.cells c=qa AT.cells (qC f.1 f.2.2)/\True/\∃(g:qR),g.2.2=0/\length (e++g.1)=length c/\g.2.1=qt (qI f.1 f.2.1) B/\qa AT.cells (e++g.1)=qa AT.cells c/\zN (e,i,a,j,o) g/\(∀q,True/\GJ.ok a q->JL g q)/\True
 def W1:=GJ.k a=GJ.k a/\GJ.n a=GJ.n a/\GJ.s a=GJ.s a/\(GJ.y a).1=(GJ.y a).1/\(GJ.y a).2.1=(GJ.y a).2.1/\(GJ.y a).2.2=(GJ.y a).2.2/\(GJ.x a).1=(GJ.x a).1/\(GJ.x a).2.1=(GJ.x a).2.1/\(GJ.x a).2.2=(GJ.x a).2.2/\F
 def JK:=(True/\GJ.ok a t)/\∀(c:AT),c∈b.2.2.1->AT.ok c t
 def xr:=(JK a b t)/\JL d t
 def IN:=True/\∃(c:qR),c.2.2=0/\length (e++c.1)=length G/\c.2.1=qt d.2.1 6/\qa AT.cells (e++c.1)=qa AT.cells G/\zN (e,i,a,j,o) c/\(∀g,(xr a b d g)->JL c g)/\True
 def IP:=d.2.2=d.2.2/\length b.2.2.2=length b.2.2.2/\length (m.1++d.1)=length (m.1++d.1)/\d.2.1=d.2.1/\F
 def O':=Jb ((↑r:Int)+1)/\∃(c:Nat),i=i/\(↑b.1:Int)=(↑b.1:Int)/\qw f.1=qw f.1/\(↑c:Int)=(↑r:Int)+1/\j=j/\IP b d m (qa AT.cells (m.1++d.1)=qa AT.cells I.1/\qa qi b.2.2.2=qa qi b.2.2.2/\W1 a ((∀g,(xr a b d g)->xr a b d g)/\True/\(100:Nat)- c<100- r/\True))
 def O6:=(0<=(↑r:Int)/\(↑r:Int)<(↑(length b.2.2.2):Int))/\∃(c:Int),qgf (qa qi b.2.2.2) (nat_lit 0+toNat (↑r:Int)*nat_lit 1) [int i64 c]/\∃(g:List AT×Int),length g.1=length (m.1++d.1)/\g.2=c/\qa AT.cells g.1=qa AT.cells (m.1++d.1)/\length g.1<1000/\∃(q:List AT×Int),length q.1=length (m.1++d.1)/\q.2=d.2.2/\qa AT.cells q.1=qa AT.cells g.1/\length q.1<1000/\AV.agg [AV.ssl (nat_lit 19) (nat_lit 0) (length (m.1++d.1)) (nat_lit 10) (nat_lit 20)]=AV.agg [AV.ssl (nat_lit 19) (nat_lit 0) (length (m.1++d.1)) (nat_lit 10) (nat_lit 20)]/\Ji (uC g.1 g.2=uC q.1 q.2) (∃(u:List AT),(6:Int)=6/\length u=length (m.1++d.1)/\d.2.1=d.2.1/\qa AT.cells u=qa AT.cells q.1/\IN a e i j o b d u) (O' a f o j r b d m q)
 def O7:=length (qa qi b.2.2.2)=length b.2.2.2*1/\(length b.2.2.2+nat_lit 1)*8<=140737488355328/\Jb ((↑b.1:Int)+1)/\∃(c:Ky),i=i/\(↑c.1:Int)=(↑b.1:Int)+1/\qw f.1=qw f.1/\j=j/\length c.2.2.2=length b.2.2.2+nat_lit 1/\length (e++c.2.2.1)=length (m.1++d.1)/\c.2.1=d.2.1/\qa AT.cells (e++c.2.2.1)=qa AT.cells (m.1++d.1)/\qa qi c.2.2.2=qa qi b.2.2.2++[int i64 d.2.2]/\W1 a ((∀g,(xr a b d g)->True/\GJ.ok a g)/\(∀v,(xr a b d v)->∀(E:AT),E∈c.2.2.1->AT.ok E v)/\HL e o a c/\length (GJ.l a)- c.1<length (GJ.l a)- b.1/\True)
 def eL:=Ji ((↑r:Int)<(↑(length b.2.2.2):Int)) (O6 a f e i j o r b d m) (O7 a f e o j i b d m)
 def eK:=(∃(c:Nat),i=i/\(↑b.1:Int)=(↑b.1:Int)/\qw f.1=qw f.1/\(↑c:Int)=0/\j=j/\IP b d m (qa AT.cells (m.1++d.1)=qa AT.cells (m.1++d.1)/\qa qi b.2.2.2=qa qi b.2.2.2/\W1 a ((∀g,(xr a b d g)->xr a b d g)/\True/\True)))/\∀(C:Nat),True->eL a f e o j i C b d m
 def eJ:=(0<=d.2.2/\d.2.2<(↑(length (m.1++d.1)):Int))/\∃(c:Int),qgf (qa AT.cells (m.1++d.1)) (nat_lit 0+toNat d.2.2*nat_lit 10+0) [int i64 c]/\Ji (c=14) (∃(g:List AT),(6:Int)=6/\length g=length (m.1++d.1)/\d.2.1=d.2.1/\qa AT.cells g=qa AT.cells (m.1++d.1)/\IN a e i j o b d g) (eK a f e o j i b d m)
 def eI:=((!decide (d.2.1=0))=true->∃(c:qR),c.2.2=0/\length (e++c.1)=length (m.1++d.1)/\c.2.1=d.2.1/\qa AT.cells (e++c.1)=qa AT.cells (m.1++d.1)/\zN (e,i,a,j,o) c/\(∀g,(xr a b d g)->JL c g)/\True)/\((!decide (d.2.1=0))=false->eJ a f e i j o b d m)
 def eG:=(0<=(↑b.1:Int)/\(↑b.1:Int)<(W2 a))/\(GJ.y a).1≠noA/\∃(c:Int),∃(g:Int),∃q,∃u,∃(v:Nat),∃(A:Nat),∃C,∃(E:Nat),∃(i8:Nat),(∀J,(JK a b J)->q37 J (adr (GJ.y a).1 (toNat (↑b.1:Int)*5)) [int i64 c,int i64 g,string q,slice u v A,slice C E i8])/\Jb (i+1)/\∃(h:vE),GJ.k h.2.2.1=c/\GJ.n h.2.2.1=g/\GJ.s h.2.2.1=q/\(GJ.y h.2.2.1).1=u/\(GJ.y h.2.2.1).2.1=v/\(GJ.y h.2.2.1).2.2=A/\(GJ.x h.2.2.1).1=C/\(GJ.x h.2.2.1).2.1=E/\(GJ.x h.2.2.1).2.2=i8/\h.2.2.2.1=j/\h.2.2.2.2=i+1/\length h.1=length (e++b.2.2.1)/\h.2.1=b.2.1/\qa AT.cells h.1=qa AT.cells (e++b.2.2.1)/\(j4 h<r/\yJ h)/\(∀p,(JK a b p)->GJ.ok h.2.2.1 p)/\∀(z:qR),zN h z->(∃H,xr a b z H)->eI a f e o j i b z h
 def IQ:=(JK a b t)/\length b.2.2.2<=r/\qgs t w (take (length b.2.2.2*nat_lit 1) (qa qi b.2.2.2))
 def O9:=nat_lit 0+toNat (qw f.1)*nat_lit 10+9+length [slice w (length b.2.2.2) r]<=length (qa AT.cells (e++b.2.2.1))/\∃(c:qR),c.2.2=qw f.1/\length (e++c.1)=length (e++b.2.2.1)/\c.2.1=b.2.1/\qa AT.cells (e++c.1)=spl (qa AT.cells (e++b.2.2.1)) (nat_lit 0+toNat (qw f.1)*nat_lit 10+9) [slice w (length b.2.2.2) r]/\zN (e,i,a,j,o) c/\(∀g,IQ a r b g w->JL c g)/\True
 def O8:=(0<=qw f.1/\qw f.1<(↑(length (e++b.2.2.1)):Int))/\∀(c g q:Nat) (u:Option Addr) (v A:Nat),(∃C,IQ a A b C u)->O9 a f e i j o A b u
 def DG:=Ji (b.2.1=0) (O8 a f e i j o b) (∃(p:qR),p.2.2=qw f.1/\length (e++p.1)=length (e++b.2.2.1)/\p.2.1=b.2.1/\qa AT.cells (e++p.1)=qa AT.cells (e++b.2.2.1)/\zN (e,i,a,j,o) p/\(∀D,(JK a b D)->JL p D)/\True)
 def eE:=Ji (b.2.1=0) (eG a f e i j o r b) (DG a f e o j i b)
 def eD:=Ji ((↑b.1:Int)<(W2 a)) (eE a f e i j o r b) (DG a f e o j i b)
 def eC:=(∃(c:Ky),i=i/\(↑c.1:Int)=0/\qw f.1=qw f.1/\j=j/\length c.2.2.2=0/\length (e++c.2.2.1)=length (qC f.1 f.2.2)/\c.2.1=qI f.1 f.2.1/\qa AT.cells (e++c.2.2.1)=qa AT.cells (qC f.1 f.2.2)/\W1 a ((∀g,True/\GJ.ok a g->True/\GJ.ok a g)/\(∀q,True/\GJ.ok a q->∀(u:AT),u∈c.2.2.1->AT.ok u q)/\HL e o a c/\True))/\∀(v:Ky),HL e o a v->(∃A,JK a v A)->eD a f e i j o r v
 def eB:=Ji (30<(W2 a)) (IM a f e i j o 3) (eC a f e o j i r)
end
def zfh(n:Nat) (S:List AT) (e:Int) (g:GJ) (sp:IV) (d:Int):qk4 P (qfa [(69,KF),(99,Da),(63,wz)]) (qgc [(32,wA.below j4 n)]) Tryz.f65 (z78.below j4 (n+1)) (zks) ⟨S,e,g,sp,d⟩=(j4 (S,e,g,sp,d)<n+1/\yJ (S,e,g,sp,d)/\d<=20->(∃(p:Pub),True/\GJ.ok g p)->∃(s:List AT×Int×AT),AT.k s.2.2=14/\AT.nm s.2.2=mkS []/\(AT.al s.2.2).1=noA/\(AT.al s.2.2).2.1=0/\(AT.al s.2.2).2.2=0/\AT.it s.2.2=0/\(AT.sy s.2.2).1=noA/\(AT.sy s.2.2).2.1=0/\(AT.sy s.2.2).2.2=0/\AT.hd s.2.2=false/\AT.df s.2.2=mkS []/\AT.sz s.2.2=0/\(AT.f s.2.2).1=noA/\(AT.f s.2.2).2.1=0/\(AT.f s.2.2).2.2=0/\(AT.br s.2.2).1=noA/\(AT.br s.2.2).2.1=0/\(AT.br s.2.2).2.2=0/\length s.1=length S/\s.2.1=e/\qa AT.cells s.1=qa AT.cells S/\True/\Ji ((W2 g)=0) (IM g s S e sp d 6) (eB g s S e sp d n)):=by kernel_rfl
def zk4:=λn S e g sp d=>Eq.trans (zfh n S e g sp d) (by delta Ji Jb Jt Jf W2 JL IM W1 JK xr IN IP O' O6 O7 eL eK eJ eI eG IQ O9 O8 DG eE eD eC eB;exact rfl)
def S9(x:SV) (l:List Int):AT:={qJ 14 0 with br:=x,brs:=l}
def Jo{α:Type} {f:α->List Value} (a:α) (l:List α):qa f (a::l)=f a++qa f l:=rfl
def j7g(A B:List AT) (x:SV) (l:List Int):qa AT.cells (A++S9 x l::B)=spl (qa AT.cells (A++qJ 14 0::B)) (0+A.length*10+9) [kW x]:=by
 rw[zx,zx,Jo,Jo,Nat.zero_add];have hl:=qv z21 A;rw[←hl];show _=(qa AT.cells A++((qJ 14 0).cells++qa AT.cells B)).set ((qa AT.cells A).length+9) (kW x);have key:∀(P Q:List Value) (v:Value),(P++Q).set (P.length+9) v=P++Q.set 9 v:=λP Q v=>by
  induction P with
  |nil=>simp
  |cons a P ih=>rw[List.cons_append,List.length_cons,Nat.add_right_comm,List.set_cons_succ,ih];rfl
 rw[key];rfl
def j6m{l:List Int} {i:Nat} (h:i<l.length):∀(j:Nat) (v:Value),[Value.int .i64 l[i]][j]? =some v->(qa qi l)[0+i*1+j]? =some v:=λj v hj=>by
 cases j with
 |zero=>rw[Nat.zero_add,Zb z24 l i h 0 (by decide)];exact hj
 |succ j=>simp at hj
def z6l{n m:Nat} {a:AT} (h:n<=m) (g:kF n a):kF m a:=
 ⟨g.1,λk=>by have:=g.2.1 k;omega,λb hb=>by have:=g.2.2.1 b hb;omega,g.2.2.2.1,λf hf=>⟨by have:=(g.2.2.2.2.1 f hf).1;omega,(g.2.2.2.2.1 f hf).2⟩,g.2.2.2.2.2⟩
def NU{S:List AT} {e:Int} (h:60<=S.length):qI S e≠0:=by unfold qI;rw[if_pos h];exact jf (by decide)
def zR(S:List AT) (t:AT):List AT:=if 60<=S.length then []else [t]
def jU(S:List AT) (t:AT):qC S t=S++zR S t:=by
 unfold qC zR;split
 ·rw[List.append_nil]
 ·rfl
def zk5(n:Nat) (ht:q1q P 32 (wA.below j4 n)):q1q P 65 (z78.below j4 (n+1)):=by
 refine zt (qcn (qgp GN (qgp j7m (qgp xk qjr)))) (qde (qgo ht qjq)) (W:=zks) Tryz.func65 λ⟨S,(e:Int),g,sp,(d:Int)⟩=>(zk4 n S e g sp d).mpr ?_;rintro⟨hmu,⟨hS,hg,hd1,hd2,hsp⟩,hd20⟩ ⟨p,_,hp⟩;have hmu:(25- d).toNat<n+1:=hmu;have hd20:d<=20:=hd20;have hgw:=hg;rw[GJ.wf_eq]at hgw;have hy:=λq (hq:g.ok q)=>(show qc GJ.cells g.y g.l q by rw[GJ.ok_eq]at hq;exact hq.1);have yl:g.y.2.1=g.l.length:=(hy p hp).1;simp only[qH,exists_const,forall_const,Int.toNat_natCast];have adl:(zR S (qJ 14 0)).length<=1/\(S++zR S (qJ 14 0)).length<=60:=by
  unfold zR;split
  ·rw[List.append_nil];exact⟨by decide,hS⟩
  ·exact⟨by decide,by simp;omega⟩
 have adok:∀q,∀a∈zR S (qJ 14 0),a.ok q:=λq a ha=>by
  unfold zR at ha;split at ha
  ·cases ha
  ·simp at ha;subst ha;exact Hr _ _ _
 have bad0:∀k:Int,k≠0->zN (S,e,g,sp,d) (zR S (qJ 14 0),qt (qI S e) k,0):=λk hk=>by have:=jf (e0:=qI S e) hk;exact⟨⟨adl.2,λh=>absurd h this⟩,λh=>absurd h this⟩
 refine⟨⟨S,e,qJ 14 0⟩,rfl,rfl,rfl,rfl,rfl,rfl,rfl,rfl,rfl,rfl,rfl,rfl,rfl,rfl,rfl,rfl,rfl,rfl,rfl,rfl,rfl,λh0=>⟨qC S (qJ 14 0),rfl,rfl,⟨zR S (qJ 14 0),qt (qI S e) 6,0⟩,rfl,by rw[jU],rfl,by rw[jU],bad0 6 (by decide),λq _=>adok q⟩,λh0=>⟨λh30=>⟨qC S (qJ 14 0),rfl,rfl,⟨zR S (qJ 14 0),qt (qI S e) 3,0⟩,rfl,by rw[jU],rfl,by rw[jU],bad0 3 (by decide),λq _=>adok q⟩,λh30=>⟨⟨⟨0,qI S e,zR S (qJ 14 0),[]⟩,rfl,rfl,by rw[jU],rfl,by rw[jU],λq _=>adok q,?_⟩,?_⟩⟩⟩
 ·refine⟨by show 0<=_;omega,adl.2,λh=> ?_⟩;by_cases hl:60<=S.length
  ·exact absurd h (NU hl)
  ·have e1:qI S e=e:=(by unfold qI;rw[if_neg hl]);have e2:zR S (qJ 14 0)=[qJ 14 0]:=(by unfold zR;rw[if_neg hl]);exact⟨by rw[←e1];exact h,by omega,rfl,⟨[],e2,λa ha=>(by cases ha)⟩,λb hb=>(by cases hb)⟩
 rintro⟨i,e',T,l⟩ ⟨hi,hT,hE⟩ _;simp only at*;have fin:e'=0->g.l.length<=i->∀(a:Option Addr) (c:Nat) (q0:Pub),(l.length<=c/\qgs q0 a (List.take (l.length*1) (qa qi l)))->0+(qw S).toNat*10+9+1<=(qa AT.cells (S++T)).length/\∃b:qR,b.2.2=qw S/\(S++b.1).length=(S++T).length/\b.2.1=e'/\qa AT.cells (S++b.1)=spl (qa AT.cells (S++T)) (0+(qw S).toNat*10+9) [.slice a l.length c]/\zN (S,e,g,sp,d) b/\∀q,(g.ok q/\∀a∈T,a.ok q)/\(l.length<=c/\qgs q a (List.take (l.length*1) (qa qi l)))->∀a∈b.1,a.ok q:=λh0' hge a c q0 hq0=>by
  obtain⟨he0,hl60,hll,⟨T',rfl,hT'⟩,hlr⟩:=hE h0';have er:qw S=S.length:=by unfold qw;rw[if_neg (by omega)]
  rw[er,Int.toNat_natCast];have hlen:(S++qJ 14 0::T').length=S.length+T'.length+1:=by simp;omega
  have hlen2:∀x,(S++S9 x l::T').length=S.length+T'.length+1:=λx=>by simp;omega
  refine⟨by rw[qv z21,hlen];omega,⟨S9 (a,l.length,c) l::T',e',S.length⟩,rfl,by rw[hlen,hlen2],rfl,j7g S T' _ l,⟨⟨by rw[hlen2];omega,λ_=>⟨he0,λx hx=> ?_⟩⟩,λ_=>⟨by show 0<=(S.length:Int);omega,by rw[hlen2];show(S.length:Int)<_;omega⟩⟩,λq hq x hx=> ?_⟩
  ·rw [hlen2];rw[hlen]at hT' hlr;rcases List.mem_cons.1 hx with rfl|hx
   ·refine⟨⟨by show(1:Int)<=14;omega,by show(14:Int)<=14;omega⟩,λh=> ?_,hlr,λ_ h=> ?_,λf hf=>(by cases hf),λh=> ?_,λh=> ?_,⟨Nat.zero_le _,?_,Nat.zero_le _⟩⟩
    ·have h:(14:Int)=12\/(14:Int)=13:=h;omega
    ·have h:l=[]:=h;rw[h]at hll;have:i=0:=hll.symm;omega
    ·have h:(14:Int)=10:=h;omega
    ·have h:(14:Int)=11:=h;omega
    ·show l.length<=30;omega
   ·exact hT' x hx
  ·rcases List.mem_cons.1 hx with rfl|hx
   ·refine⟨qY,qY,qY,⟨rfl,hq.2.1,?_⟩,λf hf=>(by cases hf)⟩;have:=hq.2.2;rw[List.take_of_length_le (by rw[qv z24];exact Nat.le_refl _)]at this;exact this
   ·exact hq.1.2 x (List.mem_cons_of_mem _ hx)
 have out:e'≠0->zN (S,e,g,sp,d) (T,e',qw S):=λh=>⟨⟨hT,λh2=>absurd h2 h⟩,λh2=>absurd h2 h⟩;refine⟨λhlt=>⟨λh0'=> ?_,λh0'=>⟨λh=>absurd h h0',λ_=>⟨⟨T,e',qw S⟩,rfl,rfl,rfl,rfl,out h0',λq hq=>hq.2⟩⟩⟩,λhge=>⟨λh0'=> ?_,λh0'=>⟨⟨T,e',qw S⟩,rfl,rfl,rfl,rfl,out h0',λq hq=>hq.2⟩⟩⟩
 ·have hil:i<g.l.length:=by omega
  obtain⟨he0,hl60,hll,⟨T',hTe,hT'⟩,hlr⟩:=hE h0';have hat:=λq (hq:g.ok q)=>z17 Ze (by decide) (hy q hq) hil;have hgi:g.l[i].wf:=GJ.wfs_at hgw.2.2.2.2.2.2 hil;refine⟨by omega,(hat p hp).1,g.l[i].k,g.l[i].n,g.l[i].s,g.l[i].y.1,g.l[i].y.2.1,g.l[i].y.2.2,g.l[i].x.1,g.l[i].x.2.1,g.l[i].x.2.2,λq hq=>(hat q hq.1).2,⟨by omega,by omega⟩,⟨S++T,e',g.l[i],sp,d+1⟩,rfl,rfl,rfl,rfl,rfl,rfl,rfl,rfl,rfl,rfl,rfl,rfl,rfl,rfl,⟨by show(25- (d+1)).toNat<n;omega,hT,hgi,by omega,by omega,by omega⟩,λq hq=>by have:=hq.1;rw[GJ.ok_eq]at this;exact GJ.oks_at this.2.2 hil,?_⟩;rintro⟨U,e2,r⟩ ⟨⟨hU,hU2⟩,hr⟩ _;simp only at hU hU2 hr⊢;have ass:S++T++U=S++(T++U):=List.append_assoc _ _ _;have badU:∀k,k≠0->zN (S,e,g,sp,d) (T++U,k,0):=λk hk=>⟨⟨by rw[←ass];exact hU,λh2=>absurd h2 hk⟩,λh2=>absurd h2 hk⟩;have okU:∀q,((g.ok q/\∀a∈T,a.ok q)/\∀a∈U,a.ok q)->∀a∈T++U,a.ok q:=λq hq a ha=>(List.mem_append.1 ha).elim (hq.1.2 a) (hq.2 a);refine⟨λhne=>⟨⟨T++U,e2,0⟩,rfl,by rw[ass],rfl,by rw[ass],badU e2 hne,okU⟩,λheq=> ?_⟩;subst heq;obtain⟨r0,r1⟩:=hr rfl;obtain⟨_,hUg⟩:=hU2 rfl;obtain⟨k,rfl⟩:=Int.eq_ofNat_of_zero_le r0;have hk:k<(S++T++U).length:=by omega
  rw[Int.toNat_natCast];refine⟨⟨r0,r1⟩,(S++T++U)[k].k,λj v hj=> ?_,λh14=>⟨S++T++U,rfl,rfl,⟨T++U,qt 0 6,0⟩,rfl,by rw[ass],rfl,by rw[ass],badU _ (jf (by decide)),okU⟩,λh14=>⟨⟨0,rfl⟩,?_⟩⟩
  ·cases j with
   |zero=>have hj:some (Value.int .i64 (S++T++U)[k].k)=some v:=hj;cases hj;exact G9 hk 0 _ rfl
   |succ j=>simp at hj
  intro m;refine⟨λhm=> ?_,λhm=> ?_⟩
  ·have hml:m<l.length:=(by omega);refine⟨by omega,l[m],j6m hml,⟨S++T++U,l[m]⟩,rfl,rfl,rfl,by show(S++T++U).length<_;omega,⟨S++T++U,(k:Int)⟩,rfl,rfl,rfl,by show(S++T++U).length<_;omega,?_⟩;refine⟨λ_=>⟨S++T++U,rfl,rfl,⟨T++U,qt 0 6,0⟩,rfl,by rw[ass],rfl,by rw[ass],badU _ (jf (by decide)),okU⟩,λ_=>⟨⟨by omega,by omega⟩,m+1,by omega,rfl,by omega⟩⟩
  ·refine⟨qv z24 l,by omega,⟨by omega,by omega⟩,⟨i+1,0,T++U,l++[(k:Int)]⟩,by show((i+1:Nat):Int)=_;omega,by show(l++[_]).length=_;simp,by rw[ass],rfl,by rw[ass],by show qa qi (l++[_])=_;rw[zx];rfl,λq hq=>hq.1.1,λq hq=>okU q hq,⟨by show i+1<=_;omega,by rw[←ass];exact hU,λ_=>⟨he0,hl60,by show(l++[_]).length=i+1;simp;omega,⟨T'++U,by show T++U=_;rw[hTe];rfl,λa ha=> ?_⟩,λb hb=> ?_⟩⟩,by show _- (i+1)<_;omega⟩
   ·show kF (S++(T++U)).length a;rw[←ass];rcases List.mem_append.1 ha with ha|ha
    ·exact z6l (by have:(S++T++U).length=(S++T).length+U.length:=List.length_append;omega) (hT' a ha)
    ·exact hUg a ha
   ·show 0<=b/\b<((S++(T++U)).length:Int);rw[←ass];have hlen:(S++T++U).length=(S++T).length+U.length:=List.length_append;rcases List.mem_append.1 hb with hb|hb
    ·have:=hlr b hb;omega
    ·simp at hb;subst hb;exact⟨r0,r1⟩
 ·obtain⟨he0,hl60,hll,⟨T',hTe,hT'⟩,hlr⟩:=hE h0';have er:qw S=S.length:=by unfold qw;rw[if_neg (by omega)]
  refine⟨⟨by omega,by rw[er,hTe];simp;omega⟩,?_⟩;rintro a c ⟨q0,hq0⟩;exact fin h0' (by omega) a c q0 hq0.2
abbrev U8:=List AT×Int×GJ×Int×IV×Int
def GU:CtR where
 σ:=U8
 args:=λ⟨S,e,g,k,sp,d⟩=>[.ptr 1 0,g.av, .sv (.int .i64 k), .sv (.string sp), .sv (.int .i64 d)]
 h:=λ⟨S,e,g,k,sp,d⟩=>jw S e 2 3
 m:=4
 pre:=λ⟨S,e,g,k,sp,d⟩=>yJ (S,e,g,sp,d)/\d<=20/\(k=9\/k=10\/k=11)
 mem:=λ⟨S,e,g,k,sp,d⟩=>gM g
 β:=λ_=>qR
 post:=λ⟨S,e,g,k,sp,d⟩ b=>zN (S,e,g,sp,d) b
 pm:=λ_ ⟨T,e',r⟩=>Gu T
 r:=λ_ ⟨T,e',r⟩=> .sv (.int .i64 r)
 h':=λ⟨S,e,g,k,sp,d⟩ ⟨T,e',r⟩=>jw (S++T) e' 4 5
 m':=6
def KN:U8->Nat:=λ⟨S,e,g,k,sp,d⟩=>(25- d).toNat
def wY(s:IV):Bool:=decide (s=mkS [114,101,99,111,114,100])||decide (s=mkS [101,110,117,109])||decide (s=mkS [102,105,120,101,100])
def xJ(s:IV):Bool:=decide (s=mkS [97,114,114,97,121])||decide (s=mkS [109,97,112])
def Qc(s:IV):IV:=if s=mkS [109,97,112]then mkS [118,97,108,117,101,115]else mkS [105,116,101,109,115]
def vh(g:GJ):GJ:=(qm (mkS [116,121,112,101]) g).getD zJ
def zvj:vE->WayF:=λ⟨S,e,g,sp,d⟩=>{
 cut:=λi t _=>match i with
  |20=>some {σ:=Unit,t:=λ_=>[(63, .sv (.bool (wY (vh g).s)))],h:=λ_=>[],more:=0,μ:=λ_=>0,keep:=[0,2,3,5,8,9,62]}
  |23=>some {σ:=Unit,t:=λ_=>[(75, .sv (.bool (xJ (vh g).s)))],h:=λ_=>[],more:=0,μ:=λ_=>0,keep:=[0,2,3,5,8,9,62]}
  |27=>some {σ:=Unit,t:=λ_=>[(12, .sv (.string (Qc (vh g).s)))],h:=λ_=>[],more:=0,μ:=λ_=>0,keep:=[0,2,3,5,8,9,11]}
  |_=>none
 spl:=λi=>match i with
  |20=>some 7
  |_=>none}
section
variable (e:Int) (d:List AT) (b:GJ) (g:IV) (h:Int) (p:Nat) (c:GJ×IV) (l:List AT×Int×AT) (m:qR) (o:vE) (j:List AT×Int×IV×IV) (t:Prop) (w:Int) (u:qR)
 abbrev H0:=zN (d,e,b,g,h) m/\(∀a,True/\GJ.ok b a->∀(i:AT),i∈m.1->AT.ok i a)/\True
 def HZ:=∃(a:List AT),w=w/\length a=length d/\e=e/\qa AT.cells a=qa AT.cells d/\True/\∃(i:qR),i.2.2=0/\length (d++i.1)=length a/\i.2.1=qt e w/\qa AT.cells (d++i.1)=qa AT.cells a/\H0 e d b g h i
 def Pg:=0<=m.2.2/\m.2.2<(↑(length (j.1++m.1)):Int)
 def W3:=∃a,(True/\GJ.ok b a)/\∀(i:AT),i∈m.1->AT.ok i a
 def VV:=zN (d,e,b,g,h) m/\(∀a,((True/\GJ.ok b a)/\∀(i:AT),i∈u.1->AT.ok i a)->∀(q:AT),q∈m.1->AT.ok q a)/\True
 def IS:=j.2.2.2=g/\length j.1=length d/\j.2.1=e/\qa AT.cells j.1=qa AT.cells d/\(length j.1<=60/\size j.2.2.1<100000/\size j.2.2.2<100000)/\∀(a:qR),grown j.1 j.2.1 a.1 a.2.1/\(a.2.1=0->Pg a j)->(W3 b a)->∃(z:qR),z.2.2=a.2.2/\length (d++z.1)=length (j.1++a.1)/\z.2.1=a.2.1/\qa AT.cells (d++z.1)=qa AT.cells (j.1++a.1)/\VV e d b g h z a
 def Re:=length (d++m.1)=length (o.1++u.1)/\m.2.1=u.2.1/\qa AT.cells (d++m.1)=qa AT.cells (o.1++u.1)/\t
 def M6:=(∀a,True/\GJ.ok b a->GJ.ok o.2.2.1 a)/\∀(i:qR),zN o i->(W3 b i)->∃(v:qR),v.2.2=i.2.2/\Re d v o (VV e d b g h v i) i
 def M5:=GJ.k c.1=GJ.k b/\GJ.n c.1=GJ.n b/\GJ.s c.1=GJ.s b/\(GJ.y c.1).1=(GJ.y b).1/\(GJ.y c.1).2.1=(GJ.y b).2.1/\(GJ.y c.1).2.2=(GJ.y b).2.2/\(GJ.x c.1).1=(GJ.x b).1/\(GJ.x c.1).2.1=(GJ.x b).2.1/\(GJ.x c.1).2.2=(GJ.x b).2.2/\t
 abbrev qU:=Option.getD (qm c.2 c.1) zJ
 abbrev Rf:=Jb (e+1)
 def IU:=GJ.k o.2.2.1=GJ.k (qU c)/\GJ.n o.2.2.1=GJ.n (qU c)/\GJ.s o.2.2.1=GJ.s (qU c)/\(GJ.y o.2.2.1).1=(GJ.y (qU c)).1/\(GJ.y o.2.2.1).2.1=(GJ.y (qU c)).2.1/\(GJ.y o.2.2.1).2.2=(GJ.y (qU c)).2.2/\(GJ.x o.2.2.1).1=(GJ.x (qU c)).1/\(GJ.x o.2.2.1).2.1=(GJ.x (qU c)).2.1/\(GJ.x o.2.2.1).2.2=(GJ.x (qU c)).2.2/\o.2.2.2.1=g/\o.2.2.2.2=e+1/\t
 def Pc:=Rf e/\∃(a:vE),IU e g c a (length a.1=length d/\a.2.1=h/\qa AT.cells a.1=qa AT.cells d/\(j4 a<p/\yJ a)/\M6 h d b g e a)
 abbrev M7:=GJ.s (qU c)=mkS [114,101,99,111,114,100]
 def IT:=GJ.k b=GJ.k b/\GJ.n b=GJ.n b/\GJ.s b=GJ.s b/\(GJ.y b).1=(GJ.y b).1/\(GJ.y b).2.1=(GJ.y b).2.1/\(GJ.y b).2.2=(GJ.y b).2.2/\(GJ.x b).1=(GJ.x b).1/\(GJ.x b).2.1=(GJ.x b).2.1/\(GJ.x b).2.2=(GJ.x b).2.2/\t
 def IR:=GJ.k (qU c)=GJ.k (qU c)/\GJ.n (qU c)=GJ.n (qU c)/\GJ.s (qU c)=GJ.s (qU c)/\(GJ.y (qU c)).1=(GJ.y (qU c)).1/\(GJ.y (qU c)).2.1=(GJ.y (qU c)).2.1/\(GJ.y (qU c)).2.2=(GJ.y (qU c)).2.2/\(GJ.x (qU c)).1=(GJ.x (qU c)).1/\(GJ.x (qU c)).2.1=(GJ.x (qU c)).2.1/\(GJ.x (qU c)).2.2=(GJ.x (qU c)).2.2/\(∀a,True/\GJ.ok b a->True/\GJ.ok b a)/\True/\True
 def VU:=g=g/\GJ.s (qU c)=GJ.s (qU c)/\length d=length d/\e=e/\qa AT.cells d=qa AT.cells d/\IT b (IR b c)
 abbrev M':=GJ.s (qU c)=mkS [101,110,117,109]
 def Pe:=Ji (M' c) (∃(a:Unit),e=e/\wY (GJ.s (vh b))=decide (M' c)/\VU h d b g c) (∃(i:Unit),e=e/\wY (GJ.s (vh b))=decide (GJ.s (qU c)=mkS [102,105,120,101,100])/\VU h d b g c)
 abbrev Ra:=slice (GJ.y b).1 (GJ.y b).2.1 (GJ.y b).2.2
 abbrev Rb:=slice (GJ.x b).1 (GJ.x b).2.1 (GJ.x b).2.2
 def Pb:=GJ.s (qU c)=GJ.s (qU c)/\True/\AV.agg [AV.sv (int i64 (GJ.k b)),AV.sv (int i64 (GJ.n b)),AV.sv (string (GJ.s b)),AV.sv (Ra b),AV.sv (Rb b)]=AV.agg [AV.sv (int i64 (GJ.k b)),AV.sv (int i64 (GJ.n b)),AV.sv (string (GJ.s b)),AV.sv (Ra b),AV.sv (Rb b)]/\∃(a:U8),GJ.k a.2.2.1=GJ.k b/\GJ.n a.2.2.1=GJ.n b/\GJ.s a.2.2.1=GJ.s b/\(GJ.y a.2.2.1).1=(GJ.y b).1/\(GJ.y a.2.2.1).2.1=(GJ.y b).2.1/\(GJ.y a.2.2.1).2.2=(GJ.y b).2.2/\(GJ.x a.2.2.1).1=(GJ.x b).1/\(GJ.x a.2.2.1).2.1=(GJ.x b).2.1/\(GJ.x a.2.2.1).2.2=(GJ.x b).2.2/\a.2.2.2.1=qK (GJ.s (qU c))/\a.2.2.2.2.1=g/\a.2.2.2.2.2=e/\length a.1=length d/\a.2.1=h/\qa AT.cells a.1=qa AT.cells d/\(KN a<p+1/\yJ (a.1,a.2.1,a.2.2.1,a.2.2.2.2.1,a.2.2.2.2.2)/\a.2.2.2.2.2<=20/\(a.2.2.2.1=9\/a.2.2.2.1=10\/a.2.2.2.1=11))/\(∀i,True/\GJ.ok b i->GJ.ok a.2.2.1 i)/\∀(q:qR),zN (a.1,a.2.1,a.2.2.1,a.2.2.2.2.1,a.2.2.2.2.2) q->(W3 b q)->∃(A:qR),A.2.2=q.2.2/\length (d++A.1)=length (a.1++q.1)/\A.2.1=q.2.1/\qa AT.cells (d++A.1)=qa AT.cells (a.1++q.1)/\VV h d b g e A q
 abbrev M9:=GJ.s (qU c)=mkS [97,114,114,97,121]
 abbrev M_:=GJ.s (qU c)=mkS [109,97,112]
 def M8:=length (qC l.1 l.2.2)=length (qC l.1 l.2.2)/\qI l.1 l.2.1=qI l.1 l.2.1/\IT b (qa AT.cells (qC l.1 l.2.2)=qa AT.cells (qC l.1 l.2.2)/\IR b c)
 def Pf:=(0<=qw l.1/\qw l.1<(↑(length (o.1++m.1)):Int))/\nat_lit 0+toNat (qw l.1)*nat_lit 10+3+length [int i64 m.2.2]<=length (qa AT.cells (o.1++m.1))/\∃(a:qR),a.2.2=qw l.1/\length (d++a.1)=length (o.1++m.1)/\a.2.1=m.2.1/\qa AT.cells (d++a.1)=spl (qa AT.cells (o.1++m.1)) (nat_lit 0+toNat (qw l.1)*nat_lit 10+3) [int i64 m.2.2]/\VV e d b g h a m
 def Pd:=Ji (m.2.1=0) (Pf e d b g h l m o) (∃(v:qR),v.2.2=qw l.1/\Re d v o (VV e d b g h v m) m)
 def Pa:=Rf e/\∃(a:vE),IU e g c a (length a.1=length (qC l.1 l.2.2)/\a.2.1=qI l.1 l.2.1/\qa AT.cells a.1=qa AT.cells (qC l.1 l.2.2)/\(j4 a<p/\yJ a)/\(∀i,True/\GJ.ok b i->GJ.ok a.2.2.1 i)/\∀(q:qR),zN a q->(W3 b q)->Pd h d b g e l q a)
 def O_:=GJ.s (qU c)=GJ.s (qU c)/\True/\∃(a:List AT×Int×AT),AT.k a.2.2=qK (GJ.s (qU c))/\AT.nm a.2.2=mkS []/\(AT.al a.2.2).1=noA/\(AT.al a.2.2).2.1=0/\(AT.al a.2.2).2.2=0/\AT.it a.2.2=0/\(AT.sy a.2.2).1=noA/\(AT.sy a.2.2).2.1=0/\(AT.sy a.2.2).2.2=0/\AT.hd a.2.2=false/\AT.df a.2.2=mkS []/\AT.sz a.2.2=0/\(AT.f a.2.2).1=noA/\(AT.f a.2.2).2.1=0/\(AT.f a.2.2).2.2=0/\(AT.br a.2.2).1=noA/\(AT.br a.2.2).2.1=0/\(AT.br a.2.2).2.2=0/\length a.1=length d/\a.2.1=e/\qa AT.cells a.1=qa AT.cells d/\True/\(Ji (M_ c) (∃(i:Unit),h=h/\qw a.1=qw a.1/\g=g/\Qc (GJ.s (vh b))=mkS [118,97,108,117,101,115]/\M8 b c a) (∃(z:Unit),h=h/\qw a.1=qw a.1/\g=g/\Qc (GJ.s (vh b))=mkS [105,116,101,109,115]/\M8 b c a))/\∀(A:Unit),True->∃(r:GJ×IV),M5 b r (r.2=Qc (GJ.s (vh b))/\GJ.wf r.1/\(∀D,True/\GJ.ok b D->GJ.ok r.1 D)/\((!Option.isSome (qm r.2 r.1))=true->∃(i8:List AT),(2:Int)=2/\length i8=length (qC a.1 a.2.2)/\qI a.1 a.2.1=qI a.1 a.2.1/\qa AT.cells i8=qa AT.cells (qC a.1 a.2.2)/\True/\∃(C:qR),C.2.2=0/\length (d++C.1)=length i8/\C.2.1=qt (qI a.1 a.2.1) 2/\qa AT.cells (d++C.1)=qa AT.cells i8/\H0 e d b g h C)/\((!Option.isSome (qm r.2 r.1))=false->Pa h d b g e p r a))
 def fc:=(xJ (GJ.s (vh b))=true->O_ e d b g h p c)/\(xJ (GJ.s (vh b))=false->∃(B:List AT×Int×IV×IV),B.2.2.1=GJ.s (qU c)/\IS e d b g h B)
 def e_:=(Ji (M9 c) (∃(a:Unit),e=e/\xJ (GJ.s (vh b))=decide (M9 c)/\VU h d b g c) (∃(q:Unit),e=e/\xJ (GJ.s (vh b))=decide (M_ c)/\VU h d b g c))/\∀(v:Unit),True->fc h d b g e p c
 def eZ:=(wY (GJ.s (vh b))=true->Pb e d b g h p c)/\(wY (GJ.s (vh b))=false->e_ e d b g h p c)
 def eY:=(Ji (M7 c) (∃(a:Unit),e=e/\wY (GJ.s (vh b))=decide (M7 c)/\VU h d b g c) (Pe e d b g h c))/\∀(r:Unit),True->eZ e d b g h p c
 def eX:=((!decide (GJ.k (qU c)=4))=true->Pc e d b g h p c)/\((!decide (GJ.k (qU c)=4))=false->eY e d b g h p c)
 def eW:=Ji (GJ.k b=6) (∃(a:GJ×IV),M5 b a (a.2=mkS [116,121,112,101]/\GJ.wf a.1/\(∀i,True/\GJ.ok b i->GJ.ok a.1 i)/\((!Option.isSome (qm a.2 a.1))=true->HZ e d b g h 2)/\((!Option.isSome (qm a.2 a.1))=false->eX h d b g e p a))) (HZ e d b g h 2)
 def eS:=Ji (GJ.k b=5) (∃(a:vE),GJ.k a.2.2.1=GJ.k b/\GJ.n a.2.2.1=GJ.n b/\GJ.s a.2.2.1=GJ.s b/\(GJ.y a.2.2.1).1=(GJ.y b).1/\(GJ.y a.2.2.1).2.1=(GJ.y b).2.1/\(GJ.y a.2.2.1).2.2=(GJ.y b).2.2/\(GJ.x a.2.2.1).1=(GJ.x b).1/\(GJ.x a.2.2.1).2.1=(GJ.x b).2.1/\(GJ.x a.2.2.1).2.2=(GJ.x b).2.2/\a.2.2.2.1=g/\a.2.2.2.2=e/\length a.1=length d/\a.2.1=h/\qa AT.cells a.1=qa AT.cells d/\(j4 a<p+1/\yJ a/\a.2.2.2.2<=20)/\M6 h d b g e a) (eW h d b g e p)
 def eR:=Ji (GJ.k b=4) (∃(a:List AT×Int×IV×IV),a.2.2.1=GJ.s b/\IS e d b g h a) (eS h d b g e p)
 def eQ:=Ji (20<e) (HZ h d b g e 3) (eR h d b g e p)
 def eP:=((!decide (e=0))=true->∃(a:qR),a.2.2=0/\length (d++a.1)=length d/\a.2.1=e/\qa AT.cells (d++a.1)=qa AT.cells d/\H0 e d b g h a)/\((!decide (e=0))=false->eQ h d b g e p)
end
def zk0(n:Nat) (S:List AT) (e:Int) (g:GJ) (sp:IV) (d:Int):qk4 P (qfa [(69,KF),(66,z64),(68,WU),(63,wz)]) (qgc [(32,wA.below j4 n),(64,He),(65,z78.below j4 (n+1)),(67,GU.below KN (n+1))]) Tryz.f32 (wA.below j4 (n+1)) (zvj) ⟨S,e,g,sp,d⟩=(j4 (S,e,g,sp,d)<n+1/\yJ (S,e,g,sp,d)->(∃(p:Pub),True/\GJ.ok g p)->eP e S g sp d n):=by kernel_rfl
def zq8:=λn S e g sp d=>Eq.trans (zk0 n S e g sp d) (by delta Ji Jb Jt Jf H0 HZ Pg W3 VV IS Re M6 M5 qU Rf IU Pc M7 IT IR VU M' Pe Ra Rb Pb M9 M_ M8 Pf Pd Pa O_ fc e_ eZ eY eX eW eS eR eQ eP;exact rfl)
section
def Vx(P Q:List Value) (k:Nat) (v:Value):(P++Q).set (P.length+k) v=P++Q.set k v:=by
 induction P with
 |nil=>simp
 |cons a P ih=>rw[List.cons_append,List.length_cons,Nat.add_right_comm,List.set_cons_succ,ih];rfl
def j7h(A B:List AT) (k r:Int):qa AT.cells (A++qJ k r::B)=spl (qa AT.cells (A++qJ k 0::B)) (0+A.length*10+3) [.int .i64 r]:=by rw[zx,zx,Jo,Jo,Nat.zero_add,←qv z21 A];show _=(qa AT.cells A++((qJ k 0).cells++qa AT.cells B)).set ((qa AT.cells A).length+3) (.int .i64 r);rw[Vx];rfl
variable {s:IV}
def zxz(h:wY s=true):qK s=9\/qK s=10\/qK s=11:=by
 unfold wY at h;simp only[Bool.or_eq_true,decide_eq_true_eq]at h;rcases h with(h|h)|h<;>subst h
 ·exact .inl (by decide)
 ·exact .inr (.inl (by decide))
 ·exact .inr (.inr (by decide))
def zw5(h:xJ s=true):qK s=12\/qK s=13:=by
 unfold xJ at h;simp only[Bool.or_eq_true,decide_eq_true_eq]at h;rcases h with h|h<;>subst h
 ·exact .inl (by decide)
 ·exact .inr (by decide)
def zgs(S:List AT) (t:AT) (h:S.length<=60):(S++zR S t).length<=60:=by
 unfold zR;split
 ·rw[List.append_nil];exact h
 ·simp;omega
def zpl{n:Nat} {k r:Int} (h:k=12\/k=13) (r0:0<=r) (r1:r<n):kF n (qJ k r):=by have hk:(qJ k r).k=k:=rfl;have hi:(qJ k r).it=r:=rfl;unfold kF;rw[hk,hi];exact⟨(by omega),λ_=>⟨r0,r1⟩,λb hb=>(by cases hb),λh=>(by omega),λf hf=>(by cases hf),λh=>(by omega),λh=>(by omega),Nat.zero_le _,Nat.zero_le _,Nat.zero_le _⟩
def zq9(n:Nat) (ht:q1q P 32 (wA.below j4 n)) (hu:q1q P 65 (z78.below j4 (n+1))) (hn:q1q P 67 (GU.below KN (n+1))):q1q P 32 (wA.below j4 (n+1)):=by
 refine zt (qcn (qgp GN (qgp Ju (qgp zif (qgp xk qjr))))) (qde (qgo ht (qgo zq5 (qgo hu (qgo hn qjq))))) (W:=zvj) Tryz.func32 λ⟨S,(e:Int),g,sp,(d:Int)⟩=>(zq8 n S e g sp d).mpr ?_;rintro⟨hmu,⟨hS,hg,hd1,hd2,hsp⟩⟩ ⟨p,_,hp⟩;have hmu:(25- d).toNat<n+1:=hmu;simp only[qH,exists_const,forall_const,Int.toNat_natCast,vh];have bad:∀k:Int,k≠0->zN (S,e,g,sp,d) ([],k,0):=λk hk=>⟨⟨by rw[List.append_nil];exact hS,λh=>absurd h hk⟩,λh=>absurd h hk⟩;have gsz:g.s.size<1000:=by rw[GJ.wf_eq]at hg;exact hg.1
 refine⟨λhe=>⟨⟨[],e,0⟩,rfl,by rw[List.append_nil],rfl,by rw[List.append_nil],bad e he,λq _ a ha=>(by cases ha)⟩,λhe=>⟨λh20=>⟨S,rfl,rfl,⟨[],qt e 3,0⟩,rfl,by rw[List.append_nil],rfl,by rw[List.append_nil],bad _ (jf (by decide)),λq _ a ha=>(by cases ha)⟩,λh20=>⟨λh4=>⟨⟨S,e,g.s,sp⟩,rfl,rfl,rfl,rfl,rfl,⟨hS,by show g.s.size<_;omega,by show sp.size<_;omega⟩,λb hb _=>⟨b,rfl,rfl,rfl,rfl,hb,λq hq=>hq.2⟩⟩,λh4=>⟨λh5=>⟨⟨S,e,g,sp,d⟩,rfl,rfl,rfl,rfl,rfl,rfl,rfl,rfl,rfl,rfl,rfl,rfl,rfl,rfl,⟨hmu,⟨hS,hg,hd1,hd2,hsp⟩,by show d<=20;omega⟩,λq hq=>hq,λb hb _=>⟨b,rfl,rfl,rfl,rfl,hb,λq hq=>hq.2⟩⟩,λh5=>⟨λh6=> ?_,λh6=>⟨S,rfl,rfl,⟨[],qt e 2,0⟩,rfl,by rw[List.append_nil],rfl,by rw[List.append_nil],bad _ (jf (by decide)),λq _ a ha=>(by cases ha)⟩⟩⟩⟩⟩⟩;refine⟨⟨g,mkS [116,121,112,101]⟩,rfl,rfl,rfl,rfl,rfl,rfl,rfl,rfl,rfl,rfl,hg,λq hq=>hq,λhno=>⟨S,rfl,rfl,⟨[],qt e 2,0⟩,rfl,by rw[List.append_nil],rfl,by rw[List.append_nil],bad _ (jf (by decide)),λq _ a ha=>(by cases ha)⟩,λhyes=> ?_⟩;obtain⟨tw,tok⟩:=wx (mkS [116,121,112,101]) hg;simp only;generalize (qm (mkS [116,121,112,101]) g).getD zJ=t at*;have tsz:t.s.size<1000:=by rw[GJ.wf_eq]at tw;exact tw.1
 refine⟨λhk=>⟨⟨by omega,by omega⟩,⟨S,e,t,sp,d+1⟩,rfl,rfl,rfl,rfl,rfl,rfl,rfl,rfl,rfl,rfl,rfl,rfl,rfl,rfl,⟨by show(25- (d+1)).toNat<n;omega,hS,tw,by omega,by omega,by omega⟩,λq hq=>tok q hq,λb hb _=>⟨b,rfl,rfl,rfl,rfl,hb,λq hq=>hq.2⟩⟩,λhk=>⟨⟨λh1=> ?_,λh1=>⟨λh2=> ?_,λh2=> ?_⟩⟩,λhN=> ?_,λhN=>⟨⟨λh1=> ?_,λh1=> ?_⟩,λhA=> ?_,λhA=> ?_⟩⟩⟩
 ·unfold wY;rw[h1];rfl
 ·unfold wY;rw[h2];rfl
 ·unfold wY;rw[decide_eq_false h1,decide_eq_false h2,Bool.false_or,Bool.false_or]
 ·exact⟨⟨S,e,g,qK t.s,sp,d⟩,rfl,rfl,rfl,rfl,rfl,rfl,rfl,rfl,rfl,rfl,rfl,rfl,rfl,rfl,rfl,⟨hmu,⟨hS,hg,hd1,hd2,hsp⟩,by show d<=20;omega,zxz hN⟩,λq hq=>hq,λb hb _=>⟨b,rfl,rfl,rfl,rfl,hb,λq hq=>hq.2⟩⟩
 ·unfold xJ;rw[h1];rfl
 ·unfold xJ;rw[decide_eq_false h1,Bool.false_or]
 ·have hkd:=zw5 hA;have adl:=zgs S (qJ (qK t.s) 0) hS;have adok:∀q,∀a∈zR S (qJ (qK t.s) 0),a.ok q:=λq a ha=>by
   unfold zR at ha;split at ha
   ·cases ha
   ·simp at ha;subst ha;exact Hr _ _ _
  have bad2:∀k:Int,k≠0->zN (S,e,g,sp,d) (zR S (qJ (qK t.s) 0),k,0):=λk hk=>⟨⟨adl,λh=>absurd h hk⟩,λh=>absurd h hk⟩;refine⟨⟨S,e,qJ (qK t.s) 0⟩,rfl,rfl,rfl,rfl,rfl,rfl,rfl,rfl,rfl,rfl,rfl,rfl,rfl,rfl,rfl,rfl,rfl,rfl,rfl,rfl,rfl,⟨λhm=>by unfold Qc;rw[if_pos hm],λhm=>by unfold Qc;rw[if_neg hm]⟩,⟨g,Qc t.s⟩,rfl,rfl,rfl,rfl,rfl,rfl,rfl,rfl,rfl,rfl,hg,λq hq=>hq,λhno=>⟨qC S (qJ (qK t.s) 0),rfl,rfl,⟨zR S (qJ (qK t.s) 0),qt (qI S e) 2,0⟩,rfl,by rw[jU],rfl,by rw[jU],bad2 _ (jf (by decide)),λq _=>adok q⟩,λhyes=> ?_⟩;obtain⟨uw,uok⟩:=wx (Qc t.s) hg;refine⟨⟨by omega,by omega⟩,⟨qC S (qJ (qK t.s) 0),qI S e,(qm (Qc t.s) g).getD zJ,sp,d+1⟩,rfl,rfl,rfl,rfl,rfl,rfl,rfl,rfl,rfl,rfl,rfl,rfl,rfl,rfl,⟨by show(25- (d+1)).toNat<n;omega,by rw[jU];exact adl,uw,by omega,by omega,by omega⟩,λq hq=>uok q hq,?_⟩;rintro⟨U,e2,r⟩ ⟨⟨hU,hU2⟩,hr⟩ _;simp only at hU hU2 hr⊢;have ass:qC S (qJ (qK t.s) 0)++U=S++(zR S (qJ (qK t.s) 0)++U):=by rw[jU,List.append_assoc]
  refine⟨λh0=> ?_,λh0=>⟨⟨zR S (qJ (qK t.s) 0)++U,e2,qw S⟩,rfl,by rw[ass],rfl,by rw[ass],⟨⟨by rw[←ass];exact hU,λh=>absurd h h0⟩,λh=>absurd h h0⟩,λq hq a ha=>(List.mem_append.1 ha).elim (adok q a) (hq.2 a)⟩⟩;obtain⟨ha0,hUg⟩:=hU2 h0;obtain⟨r0,r1⟩:=hr h0;have hl:S.length<60:=by
   by_cases hl:60<=S.length
   ·exact absurd ha0 (NU hl)
   ·omega
  have e1:qI S e=e:=by unfold qI;rw[if_neg (by omega)]
  have e3:zR S (qJ (qK t.s) 0)=[qJ (qK t.s) 0]:=by unfold zR;rw[if_neg (by omega)]
  have er:qw S=S.length:=by unfold qw;rw[if_neg (by omega)]
  rw[ass,e3]at hU hUg r1;rw[ass,e3,er,Int.toNat_natCast];have hlen:∀x,(S++([qJ (qK t.s) x]++U)).length=S.length+U.length+1:=λx=>by simp;omega
  rw[hlen]at hU hUg r1;refine⟨⟨by omega,by rw[hlen];omega⟩,by rw[qv z21,hlen];show 0+S.length*10+3+1<=_;omega,⟨qJ (qK t.s) r::U,e2,S.length⟩,rfl,by show(S++([qJ (qK t.s) r]++U)).length=_;rw[hlen,hlen],rfl,j7h S U _ r,⟨⟨by show(S++([qJ (qK t.s) r]++U)).length<=60;rw[hlen];omega,λ_=>⟨by rw[←e1];exact ha0,λx hx=> ?_⟩⟩,λ_=>⟨by show 0<=(S.length:Int);omega,by show(S.length:Int)<((S++([qJ (qK t.s) r]++U)).length:Int);rw[hlen];omega⟩⟩,λq hq x hx=> ?_⟩
  ·show kF (S++([qJ (qK t.s) r]++U)).length x;rw[hlen];rcases List.mem_cons.1 hx with rfl|hx
   ·exact zpl hkd r0 r1
   ·exact hUg x hx
  ·rcases List.mem_cons.1 hx with rfl|hx
   ·exact Hr _ _ _
   ·exact hq.2 x hx
 ·exact⟨⟨S,e,t.s,sp⟩,rfl,rfl,rfl,rfl,rfl,⟨hS,by show t.s.size<_;omega,by show sp.size<_;omega⟩,λb hb _=>⟨b,rfl,rfl,rfl,rfl,hb,λq hq=>hq.2⟩⟩
end
def jvh:IV:=mkS [115,121,109,98,111,108,115]
abbrev Kx:=Int×SV×List IV×Bool×IV
def QD(S:List AT) (at_:Int) (y:SV) (l:List IV) (hd:Bool) (df:IV):List AT:=match S[at_.toNat]? with
 |some a=>S.set at_.toNat {a with sy:=y,sys:=l,hd:=hd,df:=df}
 |none=>S
def HC:CtR where
 σ:=List AT×Int×GJ×Int
 args:=λ⟨S,e,g,i⟩=>[.ptr 1 0,g.av, .sv (.int .i64 i)]
 h:=λ⟨S,e,g,i⟩=>jw S e 2 3
 m:=4
 pre:=λ⟨S,e,g,i⟩=>S.length<=60/\g.wf/\0<=i/\(e=0->i<S.length)
 mem:=λ⟨S,e,g,i⟩=>gM g
 β:=λ_=>Kx
 post:=λ⟨S,e,g,i⟩ ⟨e',y,l,hd,df⟩=>e'=0->e=0/\l≠[]/\l.length<=30
 pm:=λ_ ⟨e',y,l,hd,df⟩=>⟨true,qc qp y l,λ_ _ h e=>jo h e⟩
 r:=λ_ _=> .tup []
 h':=λ⟨S,e,g,i⟩ ⟨e',y,l,hd,df⟩=>jw (if e'=0 then QD S i y l hd df else S) e' 4 5
 m':=6
def Wx(h:T AO):Option Int:=yZ h 1
def zU(g:GJ) (e:Int):List IV:=(zi g jvh e).1
def OF:HC.σ->WayF:=λ⟨S,e,g,i⟩=>{
  cut:=λr _ _=>match r with
    |4=>some {σ:=Int,pre:=λe'=>e'=0->e=0,find:=some λ_ h=>Wx h,t:=λ_=>[],h:=λe'=>[yY S e' 2 3],more:=0,μ:=λ_=>0,keep:=[0,2,4,6,7]}
    |6=>some {σ:=Int,pre:=λe'=>e'=0->e=0/\zU g e≠[],find:=some λ_ h=>Wx h,t:=λ_=>[],h:=λe'=>[yY S e' 2 3],more:=0,μ:=λ_=>0,keep:=[0,2,4,6,7]}
    |8=>some {σ:=Int,pre:=λe'=>e'=0->e=0/\zU g e≠[]/\(zU g e).length<=30,find:=some λ_ h=>Wx h,t:=λ_=>[],h:=λe'=>[yY S e' 2 3],more:=0,μ:=λ_=>0,keep:=[0,2,4,6,7]}
    |13=>some {σ:=Int,pre:=λe'=>e'=0->e=0/\zU g e≠[]/\(zU g e).length<=30,find:=some λ_ h=>Wx h,t:=λ_=>[],h:=λe'=>[yY S e' 2 3],more:=0,μ:=λ_=>0,keep:=[0,2,4,6,7,8]}
    |27=>some {σ:=Int,pre:=λe'=>e'=0->e=0/\zU g e≠[]/\(zU g e).length<=30,find:=some λ_ h=>Wx h,t:=λ_=>[],h:=λe'=>[yY S e' 2 3],more:=0,μ:=λ_=>0,keep:=[0,2,4,6,7,11,12]}
    |_=>none
  ann :=λid t _=>match id with
    |0=>some {σ:=Nat×Int,pre:=λ⟨j,e'⟩=>j<=(zU g e).length/\(e'=0->e=0/\zU g e≠[]/\(zU g e).length<=30),t:=λ⟨j,e'⟩=>[(8, .sv (.int .i64 (j:Int)))],h:=λ⟨j,e'⟩=>[yY S e' 2 3],more:=0,μ:=λ⟨j,e'⟩=>(zU g e).length- j,keep:=[0,2,4,6,7]}
    | 2=>match jT t 8 with
      |some i=>some {σ:=Nat×Int,pre:=λ⟨k,e'⟩=>(k:Int)<=i/\(e'=0->e=0/\zU g e≠[]/\(zU g e).length<=30),t:=λ⟨k,e'⟩=>[(9, .sv (.int .i64 (k:Int)))],h:=λ⟨k,e'⟩=>[yY S e' 2 3],more:=0,μ:=λ⟨k,e'⟩=>(i- k).toNat,keep:=[0,2,4,6,7,8]}
      |none=>none
    |_=>some {σ:=Nat×Bool,pre:=λ⟨k,b⟩=>k<=(zU g e).length,t:=λ⟨k,b⟩=>[(13, .sv (.bool b)),(14, .sv (.int .i64 (k:Int)))],h:=λ_=>[],more:=0,μ:=λ⟨k,b⟩=>(zU g e).length- k,keep:=[0,2,4,6,7,11,12]}}
section
variable (b:List AT×Int×GJ×IV) (e:Int) (f:Option Addr) (c g:Nat) (i:List AT) (a:GJ) (m r:Int) (l:Nat×Int) (p:Nat×Bool) (j:GJ×IV) (d:List AT×Int×GJ×IV×Bool) (t:Prop) (q:Nat×Int) (C:Nat->Option Obj) (D:Nat×Bool) (v:Kx) (A:List AT) (E:IV) (F:Nat×Int)
 abbrev VX:=qa AT.cells b.1=qa AT.cells i
 def xu:=(True/\GJ.ok a C)/\qc qp (f,c,g) (zi b.2.2.1 b.2.2.2 b.2.1).1 C
 abbrev yL:=(zi b.2.2.1 b.2.2.2 b.2.1).2
 def W6:=qa AT.cells i=qa AT.cells b.1/\True/\t
 def ye:=(yL b).1=(yL b).1
 def z82:=length i=length A
 def kP:=GJ.k a=GJ.k a/\GJ.n a=GJ.n a/\GJ.s a=GJ.s a/\(GJ.y a).1=(GJ.y a).1/\(GJ.y a).2.1=(GJ.y a).2.1/\(GJ.y a).2.2=(GJ.y a).2.2/\(GJ.x a).1=(GJ.x a).1/\(GJ.x a).2.1=(GJ.x a).2.1/\(GJ.x a).2.2=(GJ.x a).2.2/\(∀h,xu b f c g a h->xu b f c g a h)/\t
 def Ql:=qa AT.cells b.1=qa AT.cells b.1
 def Pt:=ye b/\e=e/\f=f/\c=c/\g=g/\length i=length b.1/\(yL b).2=(yL b).2/\Ql b/\kP b f c g a (((yL b).2=0->m=0)/\True)
 def Rk:=r=r/\z82 i A/\e=e/\W6 b i (ye b/\m=m/\f=f/\c=c/\g=g/\z82 A i/\qt e r=qt e r/\VX b i/\t)
 def H6:=e=0/\zU a e≠[]
 def Zk:=f=f/\c=c/\g=g/\length i=length i/\t
 def z50:=e=0/\zU a e≠[]/\length (zU a e)<=30
 def H5:=l.1<=length (zU a e)/\(l.2=0->z50 e a)
 def H7:=(0<=(↑l.1:Int)/\(↑l.1:Int)<(↑c:Int))/\f≠noA/\t
 def H3:=(∀h,xu b f c g a h->q37 h (adr f (toNat (↑l.1:Int)*1)) [string E])
 def VY:=e=e/\(↑l.1:Int)=(↑l.1:Int)/\t
 def H2:=(↑l.1:Int)<=(↑q.1:Int)/\(l.2=0->z50 e a)
 abbrev H1:=Jb ((↑l.1:Int)+1)
 def Rn:=(H2 e a l q)/\toNat ((↑q.1:Int)- (↑l.1:Int))<toNat ((↑q.1:Int)- (↑F.1:Int))/\True
 def Pr:=H1 l/\∃(h:Nat×Int),ye b/\(↑h.1:Int)=(↑l.1:Int)+1/\VY e q (Zk f c g i (h.2=l.2/\Ql b/\kP b f c g a (Rn m a h q l)))
 def Pk:=H7 f c l (∃h,H3 b f c g a l h/\H7 f c q (∃o,H3 b f c g a q o/\Ji (h=o) (∃(z:List AT),(5:Int)=5/\z82 z i/\l.2=l.2/\W6 b z (H1 l/\∃(B:Nat×Int),ye b/\(↑B.1:Int)=(↑l.1:Int)+1/\VY e q (f=f/\c=c/\g=g/\z82 i z/\B.2=qt l.2 5/\VX b z/\kP b f c g a (Rn m a B q l)))) (Pr b e f c g i a m l q)))
 def Ps:=H1 l/\∃(h:Nat×Int),ye b/\e=e/\(↑h.1:Int)=(↑l.1:Int)+1/\Zk f c g i (h.2=q.2/\Ql b/\kP b f c g a ((H5 m a h)/\length (zU a m)- h.1<length (zU a m)- l.1/\True))
 def Pi:=Ji ((↑l.1:Int)<(↑q.1:Int)) (Pk b e f c g i a m l q) (Ps b e f c g i a m q l)
 def Ph:=(∃(h:Nat×Int),ye b/\(↑h.1:Int)=0/\VY e l (Zk f c g i (h.2=m/\Ql b/\kP b f c g a ((H2 r a h l)/\True))))/\∀(w:Nat×Int),H2 r a w l->Pi b e f c g i a r w l
 def fo:=(H7 f c l (∃h,H3 b f c g a l h/\h=h/\size h<1000000/\((!vp h)=true->∃(o:List AT),(6:Int)=6/\z82 o i/\l.2=l.2/\W6 b o (ye b/\VY e l (f=f/\c=c/\g=g/\z82 i o/\qt l.2 (6:Int)=qt l.2 6/\VX b o/\kP b f c g a ((qt l.2 (6:Int)=0->z50 m a)/\True))))/\((!vp h)=false->ye b/\VY e l (Zk f c g i (l.2=l.2/\Ql b/\kP b f c g a ((l.2=0->z50 m a)/\True))))))/\∀(u:Int),(u=0->z50 m a)->Ph b e f c g i a u m l
 def VW:=ye b/\Option.isSome (qm j.2 j.1)=Option.isSome (qm j.2 j.1)/\t
 abbrev z44:=jL d.2.2.1 d.2.2.2.1 d.2.2.2.2 d.2.1
 def W5:=(z44 d).1=(z44 d).1/\f=f/\c=c/\g=g/\t
 def H4:=(z44 d).2=(z44 d).2/\qa AT.cells d.1=qa AT.cells d.1/\t
 abbrev Rm:=Jb ((↑p.1:Int)+1)
 def Ri:=W5 f c g d ((↑p.1:Int)=(↑D.1:Int)+1/\length d.1=length d.1/\H4 d (kP b f c g a (p.1<=length (zU a e)/\length (zU a e)- p.1<length (zU a e)- D.1/\True)))
 def Pq:=Rm p/\∃(h:Nat×Bool),VW b j (h.2=true/\e=e/\Ri b m f c g a h d p)
 def Po:=(0<=(↑p.1:Int)/\(↑p.1:Int)<(↑c:Int))/\f≠noA/\∃h,(∀w,xu b f c g a w->q37 w (adr f (toNat (↑p.1:Int)*1)) [string h])/\Rm p/\∃(o:Nat×Bool),VW b j (o.2=decide (h=(z44 d).1)/\e=e/\Ri b m f c g a o d p)
 def Pm:=(p.2=true->Pq b e f c g a m p j d)/\(p.2=false->Po b e f c g a m p j d)
 def Rh:=VW b j (e=e/\W5 f c g d (length i=length d.1/\H4 d (kP b f c g a (((z44 d).2=0->z50 m a)/\True))))
 def Pp:=((!p.2)=true->∃(h:List AT),(6:Int)=6/\length h=length d.1/\(z44 d).2=(z44 d).2/\qa AT.cells h=qa AT.cells d.1/\True/\VW b j (e=e/\W5 f c g d (z82 i h/\qt (z44 d).2 (6:Int)=qt (z44 d).2 6/\qa AT.cells d.1=qa AT.cells h/\kP b f c g a ((qt (z44 d).2 (6:Int)=0->z50 m a)/\True))))/\((!p.2)=false->Rh b e f c g i a m j d)
 abbrev Rl:=spl (spl (qa AT.cells d.1) (nat_lit 0+toNat e*nat_lit 10+4) [slice f c g]) (nat_lit 0+toNat e*nat_lit 10+5) [bool (Option.isSome (qm j.2 j.1))]
 abbrev W4:=if v.1=0 then QD i e v.2.1 v.2.2.1 v.2.2.2.1 v.2.2.2.2 else i
 def Rj:=e=0/\v.2.2.1≠[]/\length v.2.2.1<=30
 def Pn:=(0<=e/\e<(↑(length i):Int))/\nat_lit 0+toNat e*nat_lit 10+4+length [slice f c g]<=length (qa AT.cells d.1)/\(0<=e/\e<(↑(length i):Int))/\nat_lit 0+toNat e*nat_lit 10+5+length [bool (Option.isSome (qm j.2 j.1))]<=length (spl (qa AT.cells d.1) (nat_lit 0+toNat e*nat_lit 10+4) [slice f c g])/\(0<=e/\e<(↑(length i):Int))/\nat_lit 0+toNat e*nat_lit 10+6+length [string (z44 d).1]<=length (Rl e f c g j d)/\∃(h:Kx),length (W4 e i h)=length i/\h.1=m/\qa AT.cells (W4 e i h)=spl (Rl e f c g j d) (nat_lit 0+toNat e*nat_lit 10+6) [string (z44 d).1]/\(h.1=0->Rj r h)/\(∀w,xu b f c g a w->qc qp h.2.1 h.2.2.1 w)/\True
 def Pj:=Ji (e=0) (Pn b m f c g i a e r j d) (∃(o:Kx),length (W4 m i o)=length i/\o.1=e/\qa AT.cells (W4 m i o)=qa AT.cells d.1/\(o.1=0->Rj r o)/\(∀u,xu b f c g a u->qc qp o.2.1 o.2.2.1 u)/\True)
 def fp:=((Option.isSome (qm j.2 j.1)=true->Pp b e f c g i a m p j d)/\(Option.isSome (qm j.2 j.1)=false->Rh b e f c g i a m j d))/\∀(w:Int),(w=0->z50 m a)->Pj b w f c g i a e m j d
 def fj:=Ji ((↑p.1:Int)<(↑c:Int)) (Pm b e f c g a m p j d) (fp b e f c g i a m p j d)
 def Rg:=∃(h:GJ×IV),GJ.k h.1=GJ.k a/\GJ.n h.1=GJ.n a/\GJ.s h.1=GJ.s a/\(GJ.y h.1).1=(GJ.y a).1/\(GJ.y h.1).2.1=(GJ.y a).2.1/\(GJ.y h.1).2.2=(GJ.y a).2.2/\(GJ.x h.1).1=(GJ.x a).1/\(GJ.x h.1).2.1=(GJ.x a).2.1/\(GJ.x h.1).2.2=(GJ.x a).2.2/\h.2=mkS [100,101,102,97,117,108,116]/\GJ.wf h.1/\(∀w,xu b f c g a w->GJ.ok h.1 w)/\∃(o:List AT×Int×GJ×IV×Bool),GJ.k o.2.2.1=GJ.k a/\GJ.n o.2.2.1=GJ.n a/\GJ.s o.2.2.1=GJ.s a/\(GJ.y o.2.2.1).1=(GJ.y a).1/\(GJ.y o.2.2.1).2.1=(GJ.y a).2.1/\(GJ.y o.2.2.1).2.2=(GJ.y a).2.2/\(GJ.x o.2.2.1).1=(GJ.x a).1/\(GJ.x o.2.2.1).2.1=(GJ.x a).2.1/\(GJ.x o.2.2.1).2.2=(GJ.x a).2.2/\o.2.2.2.1=mkS [100,101,102,97,117,108,116]/\o.2.2.2.2=false/\length o.1=length i/\o.2.1=l.2/\qa AT.cells o.1=qa AT.cells b.1/\GJ.wf o.2.2.1/\(∀u,xu b f c g a u->GJ.ok o.2.2.1 u)/\(∃(z:Nat×Bool),VW b h (z.2=false/\e=e/\W5 f c g o ((↑z.1:Int)=0/\length o.1=length o.1/\H4 o (kP b f c g a (z.1<=length (zU a m)/\True)))))/\∀(B:Nat×Bool),B.1<=length (zU a m)->fj b e f c g i a m B h o
 def fk:=Ji (l.2=0) (fo b e f c g i a m l) (Rg b e f c g i a m l)
 def fi:=Ji ((↑l.1:Int)<(↑c:Int)) (fk b e f c g i a m l) (Rg b e f c g i a m l)
 def fh:=(∃(h:Nat×Int),ye b/\e=e/\(↑h.1:Int)=0/\Zk f c g i (h.2=m/\Ql b/\kP b f c g a ((H5 r a h)/\True)))/\∀(o:Nat×Int),H5 r a o->fi b e f c g i a r o
 def fg:=(Ji (30<(↑c:Int)) (∃(h:List AT),Rk b e f c g h m 3 (kP b f c g a ((qt e (3:Int)=0->z50 r a)/\True)) i) (ye b/\m=m/\Zk f c g i (e=e/\Ql b/\kP b f c g a ((e=0->z50 r a)/\True))))/\∀(u:Int),(u=0->z50 r a)->fh b m f c g i a u r
 def ff:=(Ji ((↑c:Int)=0) (∃(h:List AT),Rk b e f c g h m 6 (kP b f c g a ((qt e (6:Int)=0->H6 r a)/\True)) i) (ye b/\m=m/\Zk f c g i (e=e/\Ql b/\kP b f c g a ((e=0->H6 r a)/\True))))/\∀(u:Int),(u=0->H6 r a)->fg b u f c g i a m r
 def jmp:=(((!(yL b).1)=true->∃(h:List AT),(2:Int)=2/\length h=length b.1/\(yL b).2=(yL b).2/\W6 b h (ye b/\e=e/\f=f/\c=c/\g=g/\z82 i h/\qt (yL b).2 (2:Int)=qt (yL b).2 2/\VX b h/\kP b f c g a ((qt (yL b).2 (2:Int)=0->m=0)/\True)))/\((!(yL b).1)=false->Pt b e f c g i a m))/\∀(u:Int),(u=0->m=0)->ff b u f c g i a e m
end
def zq1(S:List AT) (e:Int) (g:GJ) (i:Int):qk4 P (qfa [(103,VA),(66,z64),(100,WN),(124,VJ),(63,wz)]) (qgc []) Tryz.f105 HC (OF) ⟨S,e,g,i⟩=(length S<=60/\GJ.wf g/\0<=i/\(e=0->i<(↑(length S):Int))->(∃(p:Pub),True/\GJ.ok g p)->∃(s:List AT×Int×GJ×IV),GJ.k s.2.2.1=GJ.k g/\GJ.n s.2.2.1=GJ.n g/\GJ.s s.2.2.1=GJ.s g/\(GJ.y s.2.2.1).1=(GJ.y g).1/\(GJ.y s.2.2.1).2.1=(GJ.y g).2.1/\(GJ.y s.2.2.1).2.2=(GJ.y g).2.2/\(GJ.x s.2.2.1).1=(GJ.x g).1/\(GJ.x s.2.2.1).2.1=(GJ.x g).2.1/\(GJ.x s.2.2.1).2.2=(GJ.x g).2.2/\s.2.2.2=mkS [115,121,109,98,111,108,115]/\length s.1=length S/\s.2.1=e/\VX s S/\GJ.wf s.2.2.1/\(∀(p:Pub),True/\GJ.ok g p->GJ.ok s.2.2.1 p)/\∀(b:Unit),True->∀(a:Option Addr) (n c:Nat),(∃(p:Pub),xu s a n c g p)->jmp s i a n c S g e):=by kernel_rfl
def zyu:=λS e g i=>Eq.trans (zq1 S e g i) (by delta Ji Jb Jt Jf VX xu yL W6 ye z82 kP Ql Pt Rk H6 Zk z50 H5 H7 H3 VY H2 H1 Rn Pr Pk Ps Pi Ph fo VW z44 W5 H4 Rm Ri Pq Po Pm Rh Pp Rl W4 Rj Pn Pj fp fj Rg fk fi fh fg ff jmp;exact rfl)
section
def zdw:∀{l:List GJ} {e:Int} {acc:List IV},GJ.wfs l->(∀x∈acc,x.size<1000)->∀x∈(jk l e acc).1,x.size<1000
  | [],e,acc,_,ha=>by rw[jk];exact ha
  | g ::l,e,acc,hw,ha=>by
    rw[GJ.wfs]at hw;rw[jk];split
    · refine zdw hw.2 λx hx=> ?_;rcases List.mem_append.1 hx with hx|hx
      · exact ha x hx
      · simp at hx;subst hx;have:=hw.1;rw[GJ.wf_eq]at this;exact this.1
    · exact ha
def j7q:∀{l:List GJ} {e:Int} {acc:List IV},(jk l e acc).2=0->e=0
  | [],e,acc,h=>by rw[jk]at h;exact h
  | g::l,e,acc,h=>by
    rw[jk]at h;split at h
    · assumption
    · exact h
def yI{e k:Int} (hk:k≠0):qt e k=0->False:=λh=>jf hk h
variable {g:GJ} {s:IV} {e:Int}
def Nq(hg:g.wf):∀x∈(zi g s e).1,x.size<1000:=by
 unfold zi;split
 ·have:=(wx s hg).1;rw[GJ.wf_eq]at this;exact zdw this.2.2.2.2.2.2 λx hx=>(by cases hx)
 ·intro x hx;cases hx
def zdv:∀{l:List GJ} {e:Int} {acc:List IV},(jk l e acc).1.length<=acc.length+l.length
  | [],e,acc=>by rw[jk];exact Nat.le_refl _
  | g ::l,e,acc=>by
    rw[jk];split
    · refine Nat.le_trans zdv ?_;simp;omega
    · simp
def Np(hg:g.wf):(zi g s e).1.length<1000:=by
 unfold zi;split
 ·have:=(wx s hg).1;rw[GJ.wf_eq]at this;refine Nat.lt_of_le_of_lt zdv ?_;simp;have:=this.2.1;omega
 ·exact Nat.zero_lt_succ _
def Ic:(zi g s e).2.2=0->e=0:=by
 unfold zi;split
 ·intro h;have:=j7q h;unfold yB at this;split at this
  ·exact this
  ·exact absurd this (jf (by decide))
 ·exactλh=>h
def Iq{b:Bool}:(jL g s b e).2=0->e=0:=by
 unfold jL;split
 ·split
  ·exactλh=>absurd h (jf (by decide))
  ·exactλh=>h
 ·split
  ·exactλh=>h
  ·exactλh=>absurd h (jf (by decide))
def Nj(S:List AT) (k:Nat) (hk:k<S.length) (x:AT):qa AT.cells (S.set k x)=qa AT.cells (S.take k)++(x.cells++qa AT.cells (S.drop (k+1))):=by rw[List.set_eq_take_append_cons_drop,if_pos hk,zx,Jo]
def z96(S:List AT) (k:Nat) (hk:k<S.length):qa AT.cells S=qa AT.cells (S.take k)++((S[k]).cells++qa AT.cells (S.drop (k+1))):=by rw[←Nj S k hk,List.set_getElem_self]
def z99(S:List AT) (k:Nat) (hk:k<S.length):(qa AT.cells (S.take k)).length=k*10:=by rw[qv z21,List.length_take];congr 1;omega
def zq3(S:List AT) (k:Nat) (hk:k<S.length) (y:SV) (l:List IV) (hd:Bool) (df:IV):qa AT.cells (S.set k {S[k]with sy:=y,sys:=l,hd:=hd,df:=df})=spl (spl (spl (qa AT.cells S) (0+k*10+4) [kW y]) (0+k*10+5) [.bool hd]) (0+k*10+6) [.string df]:=by
 rw[Nj S k hk];conv=>rhs;rw[z96 S k hk]
 rw[Nat.zero_add,←z99 S k hk];generalize qa AT.cells (S.take k)=A;generalize qa AT.cells (S.drop (k+1))=B;show _=(((A++((S[k]).cells++B)).set (A.length+4) (kW y)).set (A.length+5) (.bool hd)).set (A.length+6) (.string df);rw[Vx,Vx,Vx];rfl
def zyv:q1q P 105 HC:=by
 refine zt (qcn (qgp Nn (qgp Ju (qgp Nr (qgp NJ (qgp xk qjr)))))) (qde qjq) (W:=OF) Tryz.func105 λ⟨S,(e:Int),g,(i:Int)⟩=>(zyu S e g i).mpr ?_;rintro⟨hS,hg,hi0,hi1⟩ ⟨p,_,hp⟩;simp only[qH,exists_const,forall_const,Int.toNat_natCast];refine⟨⟨S,e,g,mkS [115,121,109,98,111,108,115]⟩,rfl,rfl,rfl,rfl,rfl,rfl,rfl,rfl,rfl,rfl,rfl,rfl,rfl,hg,λq hq=>hq,?_⟩;have hL:(zi g (mkS [115,121,109,98,111,108,115]) e).1=zU g e:=rfl;have hsz:∀x∈zU g e,x.size<1000:=Nq hg;have hLl:(zU g e).length<1000:=Np hg;have hE:(zi g (mkS [115,121,109,98,111,108,115]) e).2.2=0->e=0:=Ic;simp only[hL];generalize zi g (mkS [115,121,109,98,111,108,115]) e=F at*;generalize zU g e=L at*;clear hL;rintro a n c ⟨p1,hp1,hl1⟩;have hn:n=L.length:=hl1.1;subst hn;have hat:=λ(j:Nat) (hj:j<L.length) (q:Pub) (hq:qc qp (a,L.length,c) L q)=>(show a≠noA/\q37 q (adr a (j*1)) [.string L[j]]from z17 jV (by decide) hq hj);refine⟨⟨λ_=>⟨S,rfl,rfl,rfl,rfl,λh=>(yI (by decide) h).elim⟩,λ_=>⟨trivial,hE⟩⟩,?_⟩;intro e1 h1;refine⟨⟨λ_=>⟨S,rfl,rfl,rfl,rfl,λh=>(yI (by decide) h).elim⟩,λhz h=>⟨h1 h,λhh=>hz (by rw[hh];rfl)⟩⟩,?_⟩;intro e2 h2;refine⟨⟨λ_=>⟨S,rfl,rfl,rfl,rfl,λh=>(yI (by decide) h).elim⟩,λhz h=>⟨(h2 h).1,(h2 h).2,by omega⟩⟩,?_⟩;intro e3 h3;refine⟨⟨⟨0,e3⟩,rfl,rfl,Nat.zero_le _,h3⟩,?_⟩;rintro⟨j,e4⟩ ⟨hj,h4⟩;simp only at*;refine⟨λhlt=>⟨λh0=>⟨⟨by omega,(hat j (by omega) p1 hl1).1,L[j]'(by omega),λq hq=>(hat j (by omega) q hq.2).2,by have:=hsz _ (List.getElem_mem (show j<L.length by omega));omega,λ_=>⟨S,rfl,rfl,rfl,rfl,λh=>(yI (by decide) h).elim⟩,λ_=>h4⟩,?_⟩,λh0=> ?xa⟩,λhge=> ?xb⟩
 ·intro e5 h5;refine⟨⟨⟨0,e5⟩,rfl,rfl,by show(0:Int)<=_;omega,h5⟩,?_⟩;rintro⟨k,e6⟩ ⟨hk,h6⟩;simp only at*;refine⟨λhkj=>⟨⟨by omega,by omega⟩,(hat k (by omega) p1 hl1).1,L[k]'(by omega),λq hq=>(hat k (by omega) q hq.2).2,⟨by omega,by omega⟩,(hat j (by omega) p1 hl1).1,L[j]'(by omega),λq hq=>(hat j (by omega) q hq.2).2,λ_=>⟨S,rfl,rfl,⟨by omega,by omega⟩,⟨k+1,qt e6 5⟩,by show((k+1:Nat):Int)=_;omega,rfl,rfl,rfl,⟨by show((k+1:Nat):Int)<=_;omega,λh=>(yI (by decide) h).elim⟩,by show((j:Int)- ((k+1:Nat):Int)).toNat<_;omega⟩,λ_=>⟨⟨by omega,by omega⟩,⟨k+1,e6⟩,by show((k+1:Nat):Int)=_;omega,rfl,⟨by show((k+1:Nat):Int)<=_;omega,h6⟩,by show((j:Int)- ((k+1:Nat):Int)).toNat<_;omega⟩⟩,λhkj=>⟨⟨by omega,by omega⟩,⟨j+1,e6⟩,by show((j+1:Nat):Int)=_;omega,rfl,⟨by show j+1<=_;omega,h6⟩,by show _- (j+1)<_;omega⟩⟩
 case xa|xb=>
  refine⟨⟨g,mkS [100,101,102,97,117,108,116]⟩,rfl,rfl,rfl,rfl,rfl,rfl,rfl,rfl,rfl,rfl,hg,λq hq=>hq.1,⟨S,e4,g,mkS [100,101,102,97,117,108,116],false⟩,rfl,rfl,rfl,rfl,rfl,rfl,rfl,rfl,rfl,rfl,rfl,rfl,rfl,rfl,hg,λq hq=>hq.1,⟨⟨0,false⟩,rfl,rfl,Nat.zero_le _⟩,?_⟩;rintro⟨k,b⟩ hk;simp only at*;have hw:(jL g (mkS [100,101,102,97,117,108,116]) false e4).2=0->e=0/\L≠[]/\L.length<=30:=λh=>h4 (Iq h);generalize jL g (mkS [100,101,102,97,117,108,116]) false e4=W at*;generalize (qm (mkS [100,101,102,97,117,108,116]) g).isSome=hb at*;refine⟨λhkl=>⟨λ_=>⟨⟨by omega,by omega⟩,⟨k+1,true⟩,rfl,by show((k+1:Nat):Int)=_;omega,by show k+1<=_;omega,by show _- (k+1)<_;omega⟩,λ_=>⟨by omega,(hat k (by omega) p1 hl1).1,L[k]'(by omega),λq hq=>(hat k (by omega) q hq.2).2,⟨by omega,by omega⟩,⟨k+1,_⟩,rfl,by show((k+1:Nat):Int)=_;omega,by show k+1<=_;omega,by show _- (k+1)<_;omega⟩⟩,λhkl=>⟨⟨λ_=>⟨λ_=>⟨S,rfl,rfl,rfl,rfl,λh=>(yI (by decide) h).elim⟩,λ_=>⟨trivial,hw⟩⟩,λ_=>⟨trivial,hw⟩⟩,?_⟩⟩;intro e8 h8;refine⟨λhz=> ?_,λhz=>⟨⟨e8,(a,L.length,c),L,hb,W.1⟩,by show(if e8=0 then _ else S).length=_;rw[if_neg hz],rfl,by show qa AT.cells (if e8=0 then _ else S)=_;rw[if_neg hz],h8,λq hq=>hq.2⟩⟩;obtain⟨z0,z1,z2⟩:=h8 hz;have hi:=hi1 z0;obtain⟨m,rfl⟩:=Int.eq_ofNat_of_zero_le hi0;have hm:m<S.length:=by omega
  have es:QD S (m:Int) (a,L.length,c) L hb W.1=S.set m {S[m]with sy:=(a,L.length,c),sys:=L,hd:=hb,df:=W.1}:=by unfold QD;rw[Int.toNat_natCast,List.getElem?_eq_getElem hm]
  have hrl:=qv z21 S;simp only[Int.toNat_natCast,q7q,List.length_singleton];refine⟨⟨hi0,hi⟩,by omega,⟨hi0,hi⟩,by omega,⟨hi0,hi⟩,by omega,⟨e8,(a,L.length,c),L,hb,W.1⟩,?_,rfl,?_,h8,λq hq=>hq.2⟩
  ·show(if e8=0 then QD S (m:Int) (a,L.length,c) L hb W.1 else S).length=_;rw[if_pos hz,es,List.length_set]
  ·show qa AT.cells (if e8=0 then QD S (m:Int) (a,L.length,c) L hb W.1 else S)=_;rw[if_pos hz,es];exact zq3 S m hm _ _ _ _
end
abbrev Yl:=List AT×Int×GJ×Int×IV×Int
abbrev uI:=List AT×Int×SV×List AF
def vR(S:List AT) (at_:Int) (x:SV) (l:List AF):List AT:=match S[at_.toNat]? with
 |some a=>S.set at_.toNat {a with f:=x,fs:=l}
 |none=>S
def tfM(T:List AT) (l:List AF):PF:=⟨true,λp=>(∀a∈T,a.ok p)/\∀f∈l,f.ok p,λ_ _ h e=>⟨λa ha=>AT.ok_mono h (e.1 a ha),λf hf=>⟨jo h (e.2 f hf).1,GJ.ok_mono h (e.2 f hf).2⟩⟩⟩
def GE:CtR where
 σ:=Yl
 args:=λ⟨S,e,g,i,sp,d⟩=>[.ptr 1 0,g.av, .sv (.int .i64 i), .sv (.string sp), .sv (.int .i64 d)]
 h:=λ⟨S,e,g,i,sp,d⟩=>jw S e 2 3
 m:=4
 pre:=λ⟨S,e,g,i,sp,d⟩=>S.length<=60/\g.wf/\0<=i/\(e=0->i<S.length)/\1<=d/\d<=20/\(sp.size:Int)<=1100*(d+1)
 mem:=λ⟨S,e,g,i,sp,d⟩=>gM g
 β:=λ_=>uI
 post:=λ⟨S,e,g,i,sp,d⟩ ⟨T,e',x,fs⟩=>(S++T).length<=60/\(e'=0->e=0/\(∀a∈T,kF (S++T).length a)/\(∀f∈fs,(0<=f.ty/\f.ty<(S++T).length)/\f.df.wf)/\fs.length<=7)
 pm:=λ_ ⟨T,e',x,fs⟩=>⟨true,λp=>(∀a∈T,a.ok p)/\qc AF.cells x fs p/\∀f∈fs,f.ok p,λ_ _ h e=>⟨λa ha=>AT.ok_mono h (e.1 a ha),jo h e.2.1,λf hf=>⟨jo h (e.2.2 f hf).1,GJ.ok_mono h (e.2.2 f hf).2⟩⟩⟩
 r:=λ_ _=> .tup []
 h':=λ⟨S,e,g,i,sp,d⟩ ⟨T,e',x,fs⟩=>jw ((if e'=0 then vR S i x fs else S)++T) e' 4 5
 m':=6
def KJ:Yl->Nat:=λ⟨S,e,g,i,sp,d⟩=>(25- d).toNat
def Xl(h:T AO) (e:Int):List (Nat×AO):=match h.get 1 with
 |some (.cells a b c [sl,_])=>[(1, .cells a b c [sl, .sv (.int .i64 e)])]
 |_=>[]
def fdN:IV:=mkS [102,105,101,108,100,115]
def KE(g:GJ):GJ:=(qm fdN g).getD zJ
abbrev Ku:=Nat×Int×List AT×List AF
def HE(S:List AT) (e:Int) (g:GJ):Ku->Prop:=λ⟨i,e',T,fs⟩=>i<=(KE g).l.length/\fs.length<=i/\(S++T).length<=60/\(e'=0->e=0/\(∀a∈T,kF (S++T).length a)/\(∀f∈fs,(0<=f.ty/\f.ty<(S++T).length)/\f.df.wf))
def ze5:Yl->WayF:=λ⟨S,e,g,i,sp,d⟩=>{
 cut:=λr t h=>match r with
  |15=>some {σ:=Bool,t:=λb=>[(78, .sv (.bool b))],h:=λ_=>[],more:=0,μ:=λ_=>0,keep:=[0,2,3,4,6,10,12,13,14,15]}
  |16=>match yZ h 1 with|none=>none|some e0=>some {σ:=Int,pre:=λe'=>e'=0->e0=0,find:=some λ_ h=>yZ h 1,t:=λ_=>[],h:=λe'=>Xl h e',more:=0,μ:=λ_=>0,keep:=[0,2,3,4,6,10,12,13,14,15]}
  |24=>match yZ h 1 with|none=>none|some e0=>some {σ:=Int,pre:=λe'=>e'=0->e0=0,find:=some λ_ h=>yZ h 1,t:=λ_=>[],h:=λe'=>Xl h e',more:=0,μ:=λ_=>0,keep:=[0,2,3,4,6,10,12,13,14,15,17]}
  |_=>none
 ann:=λid t h=>match id with
  |0=>some {σ:=Ku,pre:=HE S e g,mem:=λ⟨i,e',T,fs⟩=>tfM T fs,t:=λ⟨i,e',T,fs⟩=>[(13, .sv (.int .i64 (i:Int))),(12, .ssl 9 0 fs.length 9 10)],h:=λ⟨i,e',T,fs⟩=>jw (S++T) e' 7 8++[(9, .row 70 0 (qa AF.cells fs))],more:=4,μ:=λ⟨i,e',T,fs⟩=>(KE g).l.length- i,keep:=[0,2,3,4,6,10],del:=[2]}
  |2=>match yZ h 1 with|none=>none|some e0=>some {σ:=Nat×Int,pre:=λ⟨k,e'⟩=>e'=0->e0=0,t:=λ⟨k,e'⟩=>[(16, .sv (.int .i64 (k:Int)))],h:=λ⟨k,e'⟩=>Xl h e',more:=0,μ:=λ⟨k,e'⟩=>100- k,keep:=[0,2,3,4,6,10,12,13,14,15]}
  |_=>match yZ h 1 with|none=>none|some e0=>some {σ:=Nat×Int,pre:=λ⟨k,e'⟩=>e'=0->e0=0,t:=λ⟨k,e'⟩=>[(19, .sv (.int .i64 (k:Int)))],h:=λ⟨k,e'⟩=>Xl h e',more:=0,μ:=λ⟨k,e'⟩=>2000- k,keep:=[0,2,3,4,6,10,12,13,14,15]}
 pub:=λi k=>match i,k with
  |34,9=>[165]
  |_,_=>[]}
section
variable (e:GJ×IV) (m:List AT) (j u:Int) (d:GJ) (v:IV) (D:Int) (A:Nat) (a:Ku) (i:List AT×Int×GJ×IV×Bool) (w I:Int) (z:IV) (f:Option Addr) (h:Nat) (q:Option Addr) (r t F:Nat) (x19:Int) (c:Nat×Int) (H:GJ×IV) (g:List AT×Int×GJ×IV) (K:Option Addr) (L:Nat) (C:qR) (O:Prop) (G:Nat->Option Obj) (E:uI) (x29:Bool) (x30:Nat×Int)
 abbrev Qn:=(if E.2.1=0 then vR m j E.2.2.1 E.2.2.2 else m)++E.1
 def Pv:=j=0/\(∀(b:AT),b∈E.1->kF (length (m++E.1)) b)/\(∀(B:AF),B∈E.2.2.2->(0<=AF.ty B/\AF.ty B<(↑(length (m++E.1)):Int))/\GJ.wf (AF.df B))/\length E.2.2.2<=7
 def W9:=(length (m++E.1)<=60/\(E.2.1=0->Pv m j E))
 def W7:=(∀(b:AT),b∈E.1->AT.ok b G)/\qc AF.cells E.2.2.1 E.2.2.2 G/\∀(B:AF),B∈E.2.2.2->AF.ok B G
 def H8:=∃(b:List AT),D=D/\length b=length m/\j=j/\qa AT.cells b=qa AT.cells m/\True/\∃(B:uI),length (Qn m u B)=length b/\B.2.1=qt j D/\qa AT.cells (Qn m u B)=qa AT.cells b/\W9 m j B/\(∀M,True/\GJ.ok d M->W7 M B)/\True
 abbrev qZ:=Option.getD (qm e.2 e.1) zJ
 abbrev Lb:=(↑(GJ.y (qZ e)).2.1:Int)
 def H9:=GJ.k d=GJ.k d/\GJ.n d=GJ.n d/\GJ.s d=GJ.s d/\(GJ.y d).1=(GJ.y d).1/\(GJ.y d).2.1=(GJ.y d).2.1/\(GJ.y d).2.2=(GJ.y d).2.2/\(GJ.x d).1=(GJ.x d).1/\(GJ.x d).2.1=(GJ.x d).2.1/\(GJ.x d).2.2=(GJ.x d).2.2/\O
 def kH:=GJ.k (qZ e)=GJ.k (qZ e)/\GJ.n (qZ e)=GJ.n (qZ e)/\GJ.s (qZ e)=GJ.s (qZ e)/\(GJ.y (qZ e)).1=(GJ.y (qZ e)).1/\(GJ.y (qZ e)).2.1=(GJ.y (qZ e)).2.1/\(GJ.y (qZ e)).2.2=(GJ.y (qZ e)).2.2/\(GJ.x (qZ e)).1=(GJ.x (qZ e)).1/\(GJ.x (qZ e)).2.1=(GJ.x (qZ e)).2.1/\(GJ.x (qZ e)).2.2=(GJ.x (qZ e)).2.2/\O
 def H':=(∀(b:AT),b∈a.2.2.1->AT.ok b G)/\∀(B:AF),B∈a.2.2.2->AF.ok B G
 def z51:=(True/\GJ.ok d G)/\H' a G
 abbrev kJ:=jL i.2.2.1 i.2.2.2.1 i.2.2.2.2 i.2.1
 abbrev Ua:=(kJ i).2=0
 def W':=length a.2.2.2=length a.2.2.2
 def xw:=(↑a.1:Int)=(↑a.1:Int)/\j=j/\u=u/\W' a/\O
 def Ud:=length i.1=length i.1
 def W_:=qa AT.cells i.1=qa AT.cells i.1
 def H_:=Ud i/\(kJ i).2=(kJ i).2/\W_ i/\O
 def yM:=j=j/\u=u/\v=v/\f=f/\A=A/\h=h/\q=q/\r=r/\t=t/\qa AF.cells a.2.2.2=qa AF.cells a.2.2.2/\H9 d ((kJ i).1=(kJ i).1/\O)
 def xy:=(∀b,(z51 d a b)->z51 d a b)
 def PE:=(kJ i).1=(kJ i).1/\size (kJ i).1<1000000/\∃(b:Bool),v=v/\xw j u a (b= !vp (kJ i).1/\H_ i (yM D w d z A a i f h q r t (kH e (xy d a/\True/\True))))
 def Pz:=(x29=true->∃(b:List AT),(6:Int)=6/\length b=length i.1/\(kJ i).2=(kJ i).2/\qa AT.cells b=qa AT.cells i.1/\True/\v=v/\xw j u a (length i.1=length b/\qt (kJ i).2 (6:Int)=qt (kJ i).2 6/\qa AT.cells i.1=qa AT.cells b/\yM D w d z A a i f h q r t (kH e (xy d a/\(qt (kJ i).2 (6:Int)=0->Ua i)/\True))))/\(x29=false->v=v/\xw j u a (H_ i (yM D w d z A a i f h q r t (kH e (xy d a/\((kJ i).2=0->Ua i)/\True)))))
 def Uc:=c.2=0->j=0
 def Rt:=j=j/\length m=length i.1/\c.2=c.2/\qa AT.cells m=qa AT.cells i.1/\True/\O
 abbrev W8:=Jb ((↑c.1:Int)+1)
 def Ue:=(↑c.1:Int)=(↑x30.1:Int)+1
 def PD:=W8 c/\∃(b:Nat×Int),v=v/\(↑a.1:Int)=(↑a.1:Int)/\j=j/\u=u/\Ue b c/\W' a/\Ud i/\b.2=c.2/\W_ i/\yM D w d z A a i f h q r t (kH e (xy d a/\(Uc I b)/\(100:Nat)- b.1<100- c.1/\True))
 def Py:=(0<=(↑c.1:Int)/\(↑c.1:Int)<(↑(length a.2.2.2):Int))/\∃b,qgf (qa AF.cells a.2.2.2) (nat_lit 0+toNat (↑c.1:Int)*nat_lit 9+0) [string b]/\Ji (b=(kJ i).1) (∃(B:List AT),Rt B 5 i c (W8 c/\∃(M:Nat×Int),v=v/\(↑a.1:Int)=(↑a.1:Int)/\j=j/\u=u/\Ue M c/\W' a/\length i.1=length B/\M.2=qt c.2 5/\qa AT.cells i.1=qa AT.cells B/\yM D w d z A a i f h q r t (kH e (xy d a/\(Uc I M)/\(100:Nat)- M.1<100- c.1/\True)))) (PD e j u d v D A a i w I z f h q r t c)
 def Rr:=GJ.k e.1=j/\GJ.n e.1=u/\GJ.s e.1=v/\(GJ.y e.1).1=f/\(GJ.y e.1).2.1=A/\(GJ.y e.1).2.2=h/\(GJ.x e.1).1=q/\(GJ.x e.1).2.1=r/\(GJ.x e.1).2.2=t/\O
 def Ub:=(z51 d a G)/\∀(b:AT),b∈C.1->AT.ok b G
 def Qm:=(Ub d a C G)/\qc qp (f,A,h) (zi g.2.2.1 g.2.2.2 g.2.1).1 G
 def La:=c.2=0->(zi g.2.2.1 g.2.2.2 g.2.1).2.2=0
 def Rq:=f=f/\A=A/\h=h/\C.2.2=C.2.2/\Option.isSome (qm e.2 e.1)=Option.isSome (qm e.2 e.1)/\kH e (kH H ((∀b,Qm d A a f h g C b->Qm d A a f h g C b)/\(La c g)/\(2000:Nat)- c.1<2000- x30.1/\True))
 def PC:=W8 c/\∃(b:Nat×Int),v=v/\Ue b c/\xw j u a (length g.1=length g.1/\b.2=c.2/\qa AT.cells g.1=qa AT.cells g.1/\yM D w d z A a i f h q r t (Rq e d F a K L b H g C c))
 def Px:=(0<=(↑c.1:Int)/\(↑c.1:Int)<(↑A:Int))/\f≠noA/\∃b,(∀B,Qm d A a f h g C B->q37 B (adr f (toNat (↑c.1:Int)*1)) [string b])/\b=b/\size b<1000000/\((!vp b)=true->∃(Q:List AT),(6:Int)=6/\length Q=length g.1/\c.2=c.2/\qa AT.cells Q=qa AT.cells g.1/\True/\W8 c/\∃(J:Nat×Int),v=v/\Ue J c/\xw j u a (length g.1=length Q/\J.2=qt c.2 6/\qa AT.cells g.1=qa AT.cells Q/\yM D w d z r a i q t K F L (Rq e d A a f h J H g C c)))/\((!vp b)=false->PC e j u d v D r a i w z q t K F L A c H g f h C)
 def Rp:=length (qa AF.cells a.2.2.2)=length a.2.2.2*9/\(length a.2.2.2+nat_lit 1)*136<=140737488355328/\Jb ((↑a.1:Int)+1)/\∃(b:Ku),v=v/\(↑b.1:Int)=(↑a.1:Int)+1/\j=j/\u=u/\length b.2.2.2=length a.2.2.2+nat_lit 1/\length (m++b.2.2.1)=length g.1/\b.2.1=c.2/\qa AT.cells (m++b.2.2.1)=qa AT.cells g.1/\qa AF.cells b.2.2.2=qa AF.cells a.2.2.2++[string (kJ i).1,slice f A h,int i64 C.2.2,bool (Option.isSome (qm e.2 e.1)),int i64 (GJ.k (qZ e)),int i64 (GJ.n (qZ e)),string (GJ.s (qZ e)),slice (GJ.y (qZ e)).1 (GJ.y (qZ e)).2.1 (GJ.y (qZ e)).2.2,slice (GJ.x (qZ e)).1 (GJ.x (qZ e)).2.1 (GJ.x (qZ e)).2.2]/\H9 d (kH H ((∀B,Qm d A a f h g C B->True/\GJ.ok d B)/\(∀N,Qm d A a f h g C N->H' b N)/\HE m D d b/\length (GJ.l (KE d))- b.1<length (GJ.l (KE d))- a.1/\True))
 def Pw:=Ji (c.2=0) (Px e j u d v D A a i w z f h q r t F c H g K L C) (Rp e m j u d v I A a i f h c H g C)
 def Pu:=Ji ((↑c.1:Int)<(↑A:Int)) (Pw e m j u d v D A a i w I z f h q r t F c H g K L C) (Rp e m j u d v I A a i f h c H g C)
 def fE:=(∃(b:Nat×Int),v=v/\(↑b.1:Int)=0/\xw j u a (length g.1=length g.1/\b.2=(zi g.2.2.1 g.2.2.2 g.2.1).2.2/\qa AT.cells g.1=qa AT.cells g.1/\yM D w d z A a i f h q r t (K=K/\F=F/\L=L/\C.2.2=C.2.2/\Option.isSome (qm e.2 e.1)=Option.isSome (qm e.2 e.1)/\kH e (kH H ((∀B,Qm d F a K L g C B->Qm d F a K L g C B)/\(La b g)/\True)))))/\∀(i8:Nat×Int),(La i8 g)->Pu e m j u d v D F a i w I z K L f A h r i8 H g q t C
 def fD:=Jb (j+1)/\∃(b:vE),GJ.k b.2.2.1=GJ.k (qZ e)/\GJ.n b.2.2.1=GJ.n (qZ e)/\GJ.s b.2.2.1=GJ.s (qZ e)/\(GJ.y b.2.2.1).1=(GJ.y (qZ e)).1/\(GJ.y b.2.2.1).2.1=(GJ.y (qZ e)).2.1/\(GJ.y b.2.2.1).2.2=(GJ.y (qZ e)).2.2/\(GJ.x b.2.2.1).1=(GJ.x (qZ e)).1/\(GJ.x b.2.2.1).2.1=(GJ.x (qZ e)).2.1/\(GJ.x b.2.2.1).2.2=(GJ.x (qZ e)).2.2/\b.2.2.2.1=v/\b.2.2.2.2=j+1/\length b.1=length i.1/\b.2.1=u/\qa AT.cells b.1=qa AT.cells i.1/\(j4 b<A/\yJ b)/\(∀B,(z51 d a B)->GJ.ok b.2.2.1 B)/\∀(J:qR),zN b J->(∃N,Ub d a J N)->∃(Y:GJ×IV),Rr Y D w z h f r q t F (Y.2=mkS [100,101,102,97,117,108,116]/\GJ.wf Y.1/\(∀i10,(Ub d a J i10)->GJ.ok Y.1 i10)/\∃(o:List AT×Int×GJ×IV),GJ.k o.2.2.1=D/\GJ.n o.2.2.1=w/\GJ.s o.2.2.1=z/\(GJ.y o.2.2.1).1=f/\(GJ.y o.2.2.1).2.1=h/\(GJ.y o.2.2.1).2.2=r/\(GJ.x o.2.2.1).1=q/\(GJ.x o.2.2.1).2.1=t/\(GJ.x o.2.2.1).2.2=F/\o.2.2.2=mkS [97,108,105,97,115,101,115]/\length o.1=length (b.1++J.1)/\o.2.1=J.2.1/\qa AT.cells o.1=qa AT.cells (b.1++J.1)/\GJ.wf o.2.2.1/\(∀T,(Ub d a J T)->GJ.ok o.2.2.1 T)/\∀(i19:Unit),True->∀(V:Option Addr) (p W:Nat),(∃i23,Qm d p a V W o J i23)->fE Y m I j d v D h a i w x19 z f r q t F p H o V W J)
 def fC:=Ji ((↑c.1:Int)<(↑(length a.2.2.2):Int)) (Py e j u d v D A a i w I z f h q r t c) (∃(o:GJ×IV),Rr o D w z A f h q r t (o.2=mkS [116,121,112,101]/\GJ.wf o.1/\(∀T,(z51 d a T)->GJ.ok o.1 T)/\(((!Option.isSome (qm o.2 o.1))=true->∃(Z:List AT),Rt Z 2 i c (v=v/\xw j u a (length i.1=length Z/\qt c.2 (2:Int)=qt c.2 2/\qa AT.cells i.1=qa AT.cells Z/\yM D w d z A a i f h q r t (kH e (kH o (xy d a/\(qt c.2 (2:Int)=0->c.2=0)/\True))))))/\((!Option.isSome (qm o.2 o.1))=false->v=v/\xw j u a (Ud i/\c.2=c.2/\W_ i/\yM D w d z A a i f h q r t (kH e (kH o (xy d a/\(c.2=0->c.2=0)/\True))))))/\∀(i29:Int),(i29=0->c.2=0)->fD o m u i29 d v D F a i w j z f A q h r t x19 e))
 def fB:=(∃(b:Nat×Int),v=v/\(↑a.1:Int)=(↑a.1:Int)/\j=j/\u=u/\(↑b.1:Int)=0/\W' a/\Ud i/\b.2=D/\W_ i/\yM w I d z A a i f h q r t (kH e (xy d a/\(Uc D b)/\True)))/\∀(R:Nat×Int),(Uc D R)->fC e m j u d v w A a i I D z f h q r t F x19 R
 def fA:=(0<=(↑a.1:Int)/\(↑a.1:Int)<(Lb e))/\(GJ.y (qZ e)).1≠noA/\∃(b:Int),∃(B:Int),∃M,∃Q,∃(J:Nat),∃(N:Nat),∃R,∃(i7:Nat),∃(i8:Nat),(∀Y,(z51 d a Y)->q37 Y (adr (GJ.y (qZ e)).1 (toNat (↑a.1:Int)*5)) [int i64 b,int i64 B,string M,slice Q J N,slice R i7 i8])/\((!decide (b=6))=true->∃(X:List AT),(2:Int)=2/\length X=length (m++a.2.2.1)/\a.2.1=a.2.1/\qa AT.cells X=qa AT.cells (m++a.2.2.1)/\True/\∃(S:uI),length (Qn m j S)=length X/\S.2.1=qt a.2.1 2/\qa AT.cells (Qn m j S)=qa AT.cells X/\W9 m u S/\(∀i16,(z51 d a i16)->W7 i16 S)/\True)/\((!decide (b=6))=false->∃(p:List AT×Int×GJ×IV×Bool),GJ.k p.2.2.1=b/\GJ.n p.2.2.1=B/\GJ.s p.2.2.1=M/\(GJ.y p.2.2.1).1=Q/\(GJ.y p.2.2.1).2.1=J/\(GJ.y p.2.2.1).2.2=N/\(GJ.x p.2.2.1).1=R/\(GJ.x p.2.2.1).2.1=i7/\(GJ.x p.2.2.1).2.2=i8/\p.2.2.2.1=mkS [110,97,109,101]/\p.2.2.2.2=true/\length p.1=length (m++a.2.2.1)/\p.2.1=a.2.1/\qa AT.cells p.1=qa AT.cells (m++a.2.2.1)/\GJ.wf p.2.2.1/\(∀W,(z51 d a W)->GJ.ok p.2.2.1 W)/\((Ji (Ua p) (PE e j D d v b J a p B M Q N R i7 i8) (∃(i31:Bool),v=v/\xw j D a (i31=false/\H_ p (yM b B d M J a p Q N R i7 i8 (kH e (xy d a/\True/\True))))))/\∀(i37:Bool),True->Pz e j D d v b J a p B M Q N R i7 i8 i37)/\∀(i49:Int),(i49=0->Ua p)->fB e m j D d v i49 J a p b B M Q N R i7 i8 A u)
 def Ru:=(z51 d a G)/\length a.2.2.2<=A/\qgs G f (take (length a.2.2.2*nat_lit 9) (qa AF.cells a.2.2.2))
 def PB:=nat_lit 0+toNat j*nat_lit 10+8+length [slice f (length a.2.2.2) A]<=length (qa AT.cells (m++a.2.2.1))/\∃(b:uI),length (Qn m j b)=length (m++a.2.2.1)/\b.2.1=a.2.1/\qa AT.cells (Qn m j b)=spl (qa AT.cells (m++a.2.2.1)) (nat_lit 0+toNat j*nat_lit 10+8) [slice f (length a.2.2.2) A]/\W9 m u b/\(∀B,Ru d A a f B->W7 B b)/\True
 def PA:=(0<=j/\j<(↑(length (m++a.2.2.1)):Int))/\∀(b B M:Nat) (Q:Option Addr) (J N:Nat),(∃R,Ru d N a Q R)->PB m j u d N a Q
 def Ro:=Ji (a.2.1=0) (PA m j u d a) (∃(U:uI),length (Qn m j U)=length (m++a.2.2.1)/\U.2.1=a.2.1/\qa AT.cells (Qn m j U)=qa AT.cells (m++a.2.2.1)/\W9 m u U/\(∀V,(z51 d a V)->W7 V U)/\True)
 def fy:=Ji (a.2.1=0) (fA e m j u d v D A a) (Ro m j u d a)
 def fx:=Ji ((↑a.1:Int)<(Lb e)) (fy e m j u d v D A a) (Ro m j u d a)
 def fw:=(∃(b:Ku),v=v/\(↑b.1:Int)=0/\j=j/\u=u/\length b.2.2.2=0/\length (m++b.2.2.1)=length m/\b.2.1=D/\qa AT.cells (m++b.2.2.1)=qa AT.cells m/\H9 d (kH e ((∀B,True/\GJ.ok d B->True/\GJ.ok d B)/\(∀M,True/\GJ.ok d M->H' b M)/\HE m D d b/\True)))/\∀(N:Ku),HE m D d N->(∃R,z51 d N R)->fx e m j D d v u A N
 def fu:=Ji (30<(Lb e)) (H8 m j u d 3) (fw e m u D d v j A)
 def fq:=((!decide (GJ.k (qZ e)=5))=true->H8 m j u d 2)/\((!decide (GJ.k (qZ e)=5))=false->fu e m j u d v D A)
end
def zaa(n:Nat) (S:List AT) (e:Int) (g:GJ) (i:Int) (sp:IV) (d:Int):qk4 P (qfa [(66,z64),(100,WN),(124,VJ),(103,VA),(63,wz)]) (qgc [(32,wA.below j4 n)]) Tryz.f104 (GE.below KJ (n+1)) (ze5) ⟨S,e,g,i,sp,d⟩=(KJ (S,e,g,i,sp,d)<n+1/\length S<=60/\GJ.wf g/\0<=i/\(e=0->i<(↑(length S):Int))/\1<=d/\d<=20/\(↑(size sp):Int)<=1100*(d+1)->(∃(p:Pub),True/\GJ.ok g p)->∃(s:GJ×IV),GJ.k s.1=GJ.k g/\GJ.n s.1=GJ.n g/\GJ.s s.1=GJ.s g/\(GJ.y s.1).1=(GJ.y g).1/\(GJ.y s.1).2.1=(GJ.y g).2.1/\(GJ.y s.1).2.2=(GJ.y g).2.2/\(GJ.x s.1).1=(GJ.x g).1/\(GJ.x s.1).2.1=(GJ.x g).2.1/\(GJ.x s.1).2.2=(GJ.x g).2.2/\s.2=mkS [102,105,101,108,100,115]/\GJ.wf s.1/\(∀(p:Pub),True/\GJ.ok g p->GJ.ok s.1 p)/\((!Option.isSome (qm s.2 s.1))=true->H8 S e i g 2)/\((!Option.isSome (qm s.2 s.1))=false->fq s S e i g sp d n)):=by kernel_rfl
def zeu:=λn S e g i sp d=>Eq.trans (zaa n S e g i sp d) (by delta Ji Jb Jt Jf Qn Pv W9 W7 H8 qZ Lb H9 kH H' z51 kJ Ua W' xw Ud W_ H_ yM xy PE Pz Uc Rt W8 Ue PD Py Rr Ub Qm La Rq PC Px Rp Pw Pu fE fD fC fB fA Ru PB PA Ro fy fx fw fu fq;exact rfl)
def zoe(S:List AT) (k:Nat) (hk:k<S.length) (x:SV) (l:List AF) (B:List AT):qa AT.cells (S.set k {S[k]with f:=x,fs:=l}++B)=spl (qa AT.cells (S++B)) (0+k*10+8) [kW x]:=by
 rw[zx,zx,Nj S k hk];conv=>rhs;rw[z96 S k hk]
 rw[Nat.zero_add,←z99 S k hk];generalize qa AT.cells (S.take k)=A;generalize qa AT.cells (S.drop (k+1))=C;generalize qa AT.cells B=D;show _=((A++((S[k]).cells++C))++D).set (A.length+8) (kW x);rw[List.append_assoc A (S[k].cells++C) D,Vx,List.append_assoc A];rfl
def j5u{l:List AF} {i:Nat} (h:i<l.length):∀(j:Nat) (v:Value),[Value.string l[i].nm][j]? =some v->(qa AF.cells l)[0+i*9+0+j]? =some v:=λj v hj=>by
 cases j with
 |zero=>have:=Zb G7 l i h 0 (by decide);rw[Nat.add_zero]at this;rw[Nat.zero_add,Nat.add_zero,this];exact hj
 |succ j=>simp at hj
def zvo{g:GJ} (hg:g.wf) (s:IV) (b:Bool) (e:Int):(jL g s b e).1.size<1000:=by
  have h:=(wx s hg).1;unfold jL;cases hk:qm s g with
  | none=>
    simp only;split<;>exact Nat.zero_lt_succ _
  | some t=>
    rw[hk]at h;simp only;split
    · have h:t.wf:=h;rw[GJ.wf_eq]at h;exact h.1
    · exact Nat.zero_lt_succ _
def zev(n:Nat) (ht:q1q P 32 (wA.below j4 n)):q1q P 104 (GE.below KJ (n+1)):=by
 refine zt (qcn (qgp Ju (qgp Nr (qgp NJ (qgp Nn (qgp xk qjr)))))) (qde (qgo ht qjq)) (W:=ze5) Tryz.func104 λ⟨S,(e:Int),g,(i:Int),sp,(d:Int)⟩=>(zeu n S e g i sp d).mpr ?_;rintro⟨hmu,hS,hg,hi0,hi1,hd1,hd2,hsp⟩ ⟨p,_,hp⟩;have hmu:(25- d).toNat<n+1:=hmu;simp only[qH,exists_const,forall_const,Int.toNat_natCast];have bad:∀(T:List AT) (e1 k:Int),k≠0->(S++T).length<=60->(∀q,g.ok q->∀a∈T,a.ok q)->True:=λ_ _ _ _ _ _=>trivial;have z:∀(T:List AT) (k:Int) (x:SV) (fs:List AF),k≠0->((if k=0 then vR S i x fs else S)++T)=S++T:=λT k x fs hk=>by rw[if_neg hk]
 obtain⟨lw,lok⟩:=wx (mkS [102,105,101,108,100,115]) hg;refine⟨⟨g,mkS [102,105,101,108,100,115]⟩,rfl,rfl,rfl,rfl,rfl,rfl,rfl,rfl,rfl,rfl,hg,λq hq=>hq,λhno=>⟨S,rfl,rfl,⟨[],qt e 2,(none,0,0),[]⟩,by show(_++[]).length=_;rw[z _ _ _ _ (jf (by decide)),List.append_nil],rfl,by show qa AT.cells (_++[])=_;rw[z _ _ _ _ (jf (by decide)),List.append_nil],⟨by show(S++[]).length<=60;rw[List.append_nil];exact hS,λh=>absurd h (jf (by decide))⟩,λq hq=>⟨λa ha=>(by cases ha),qY,λf hf=>(by cases hf)⟩⟩,λhyes=>⟨λhk=>⟨S,rfl,rfl,⟨[],qt e 2,(none,0,0),[]⟩,by show(_++[]).length=_;rw[z _ _ _ _ (jf (by decide)),List.append_nil],rfl,by show qa AT.cells (_++[])=_;rw[z _ _ _ _ (jf (by decide)),List.append_nil],⟨by show(S++[]).length<=60;rw[List.append_nil];exact hS,λh=>absurd h (jf (by decide))⟩,λq hq=>⟨λa ha=>(by cases ha),qY,λf hf=>(by cases hf)⟩⟩,λhk=>⟨λh30=>⟨S,rfl,rfl,⟨[],qt e 3,(none,0,0),[]⟩,by show(_++[]).length=_;rw[z _ _ _ _ (jf (by decide)),List.append_nil],rfl,by show qa AT.cells (_++[])=_;rw[z _ _ _ _ (jf (by decide)),List.append_nil],⟨by show(S++[]).length<=60;rw[List.append_nil];exact hS,λh=>absurd h (jf (by decide))⟩,λq hq=>⟨λa ha=>(by cases ha),qY,λf hf=>(by cases hf)⟩⟩,λh30=> ?_⟩⟩⟩;have hfd:KE g=(qm (mkS [102,105,101,108,100,115]) g).getD zJ:=rfl;simp only at*;generalize (qm (mkS [102,105,101,108,100,115]) g).getD zJ=t at*;have hy:=λq (hq:g.ok q)=>(show qc GJ.cells t.y t.l q by have:=lok q hq;rw[GJ.ok_eq]at this;exact this.1);have tl:t.y.2.1=t.l.length:=(hy p hp).1;have lww:=lw;rw[GJ.wf_eq]at lww;refine⟨⟨⟨0,e,[],[]⟩,rfl,rfl,by show(S++[]).length=_;rw[List.append_nil],rfl,by show qa AT.cells (S++[])=_;rw[List.append_nil],λq hq=>⟨λa ha=>(by cases ha),λf hf=>(by cases hf)⟩,⟨Nat.zero_le _,Nat.zero_le _,by show(S++[]).length<=60;rw[List.append_nil];exact hS,λh=>⟨h,λa ha=>(by cases ha),λf hf=>(by cases hf)⟩⟩⟩,?_⟩;rintro⟨j,e1,T,fs⟩ ⟨hj,hfl,hST,hinv⟩ ⟨p1,hp1,hT1,hf1⟩;simp only[hfd]at hj⊢;have fin0:e1≠0->∃b:uI,((if b.snd.fst=0 then vR S i b.snd.snd.fst b.snd.snd.snd else S)++b.fst).length=(S++T).length/\b.snd.fst=e1/\qa AT.cells ((if b.snd.fst=0 then vR S i b.snd.snd.fst b.snd.snd.snd else S)++b.fst)=qa AT.cells (S++T)/\((S++b.fst).length<=60/\(b.snd.fst=0->e=0/\(∀(a:AT),a∈b.fst->kF (S++b.fst).length a)/\(∀(f:AF),f∈b.snd.snd.snd->(0<=f.ty/\f.ty<↑(S++b.fst).length)/\f.df.wf)/\b.snd.snd.snd.length<=7))/\∀(p:Nat->Option Obj),(g.ok p/\(∀(a:AT),a∈T->a.ok p)/\∀(f:AF),f∈fs->f.ok p)->(∀(a:AT),a∈b.fst->a.ok p)/\qc AF.cells b.snd.snd.fst b.snd.snd.snd p/\∀(f:AF),f∈b.snd.snd.snd->f.ok p:=λhe=>⟨⟨T,e1,(none,0,0),[]⟩,by show(_++T).length=_;rw[z _ _ _ _ he],rfl,by show qa AT.cells (_++T)=_;rw[z _ _ _ _ he],⟨hST,λh=>absurd h he⟩,λq hq=>⟨hq.2.1,qY,λf hf=>(by cases hf)⟩⟩;have fin1:e1=0->(0<=i/\i<((S++T).length:Int))/\∀(a:Option Addr) (c:Nat),(∃p,(g.ok p/\(∀(a:AT),a∈T->a.ok p)/\∀(f:AF),f∈fs->f.ok p)/\fs.length<=c/\qgs p a (List.take (fs.length*9) (qa AF.cells fs)))->0+i.toNat*10+8+[Value.slice a fs.length c].length<=(qa AT.cells (S++T)).length/\∃b:uI,((if b.snd.fst=0 then vR S i b.snd.snd.fst b.snd.snd.snd else S)++b.fst).length=(S++T).length/\b.snd.fst=e1/\qa AT.cells ((if b.snd.fst=0 then vR S i b.snd.snd.fst b.snd.snd.snd else S)++b.fst)=spl (qa AT.cells (S++T)) (0+i.toNat*10+8) [Value.slice a fs.length c]/\((S++b.fst).length<=60/\(b.snd.fst=0->e=0/\(∀(a:AT),a∈b.fst->kF (S++b.fst).length a)/\(∀(f:AF),f∈b.snd.snd.snd->(0<=f.ty/\f.ty<↑(S++b.fst).length)/\f.df.wf)/\b.snd.snd.snd.length<=7))/\∀(p:Nat->Option Obj),(g.ok p/\(∀(a:AT),a∈T->a.ok p)/\∀(f:AF),f∈fs->f.ok p)/\fs.length<=c/\qgs p a (List.take (fs.length*9) (qa AF.cells fs))->(∀(a:AT),a∈b.fst->a.ok p)/\qc AF.cells b.snd.snd.fst b.snd.snd.snd p/\∀(f:AF),f∈b.snd.snd.snd->f.ok p:=λhe=>by
  obtain⟨i0,iT,iF⟩:=hinv he;have hi:=hi1 i0;obtain⟨m,rfl⟩:=Int.eq_ofNat_of_zero_le hi0;have hm:m<S.length:=by omega
  have es:∀x,vR S (m:Int) x fs=S.set m {S[m]with f:=x,fs:=fs}:=λx=>by unfold vR;rw[Int.toNat_natCast,List.getElem?_eq_getElem hm]
  have hl:(S++T).length=S.length+T.length:=List.length_append;refine⟨⟨hi0,by omega⟩,λa c _=>⟨by rw[qv z21,hl,Int.toNat_natCast];show 0+m*10+8+1<=_;omega,⟨T,e1,(a,fs.length,c),fs⟩,?_,rfl,?_,⟨hST,λ_=>⟨i0,iT,iF,by show fs.length<=7;omega⟩⟩,λq hq=>⟨hq.1.2.1,?_,hq.1.2.2⟩⟩⟩
  ·show((if e1=0 then vR S (m:Int) (a,fs.length,c) fs else S)++T).length=_;rw[if_pos he,es,List.length_append,List.length_set,hl]
  ·show qa AT.cells ((if e1=0 then vR S (m:Int) (a,fs.length,c) fs else S)++T)=_;rw[if_pos he,es];exact zoe S m hm _ _ T
  ·refine⟨rfl,hq.2.1,?_⟩;have:=hq.2.2;rw[List.take_of_length_le (by rw[qv G7];exact Nat.le_refl _)]at this;exact this
 refine⟨λhlt=>⟨λhe0=> ?_,λhe0=>⟨λh=>fin1 h,λh=>fin0 h⟩⟩,λhge=>⟨λh=>fin1 h,λh=>fin0 h⟩⟩;have hjl:j<t.l.length:=by omega
 have hat:=λq (hq:g.ok q)=>z17 Ze (by decide) (hy q hq) hjl;have cw:t.l[j].wf:=GJ.wfs_at lww.2.2.2.2.2.2 hjl;have cok:∀q,g.ok q->t.l[j].ok q:=λq hq=>by have:=lok q hq;rw[GJ.ok_eq]at this;exact GJ.oks_at this.2.2 hjl
 refine⟨⟨by omega,by omega⟩,(hat p1 hp1).1,t.l[j].k,t.l[j].n,t.l[j].s,t.l[j].y.1,t.l[j].y.2.1,t.l[j].y.2.2,t.l[j].x.1,t.l[j].x.2.1,t.l[j].x.2.2,λq hq=>(hat q hq.1).2,λh6=>⟨S++T,rfl,rfl,⟨T,qt e1 2,(none,0,0),[]⟩,by show(_++T).length=_;rw[z _ _ _ _ (jf (by decide))],rfl,by show qa AT.cells (_++T)=_;rw[z _ _ _ _ (jf (by decide))],⟨hST,λh=>absurd h (jf (by decide))⟩,λq hq=>⟨hq.2.1,qY,λf hf=>(by cases hf)⟩⟩,λh6=> ?_⟩;obtain⟨e00,hTg,hfg⟩:=hinv he0;clear fin0 fin1 z bad;refine⟨⟨S++T,e1,t.l[j],mkS [110,97,109,101],true⟩,rfl,rfl,rfl,rfl,rfl,rfl,rfl,rfl,rfl,rfl,rfl,rfl,rfl,rfl,cw,λq hq=>cok q hq.1,?_⟩;simp only;have hnm:=zvo cw (mkS [110,97,109,101]) true e1;have hwe:(jL t.l[j] (mkS [110,97,109,101]) true e1).2=0->e1=0:=Iq;generalize jL t.l[j] (mkS [110,97,109,101]) true e1=W at*;refine⟨⟨⟨λ_=>⟨by omega,_,rfl⟩,λ_=>⟨false,rfl⟩⟩,λ_ _=>⟨S++T,rfl,rfl,rfl,rfl,λh=>(yI (by decide) h).elim⟩⟩,?_⟩;intro e4 h4;refine⟨⟨⟨0,e4⟩,rfl,rfl,λh=>h⟩,?_⟩;rintro⟨k,e5⟩ h5;simp only at h5⊢;have hST':=hST;refine⟨λhkl=>⟨⟨by omega,by omega⟩,fs[k]'(by omega)|>.nm,j5u (by omega),λ_=>⟨S++T,rfl,rfl,⟨by omega,by omega⟩,⟨k+1,qt e5 5⟩,by show((k+1:Nat):Int)=_;omega,rfl,rfl,rfl,λh=>(yI (by decide) h).elim,by show 100- (k+1)<100- k;omega⟩,λ_=>⟨⟨by omega,by omega⟩,⟨k+1,e5⟩,by show((k+1:Nat):Int)=_;omega,rfl,h5,by show 100- (k+1)<100- k;omega⟩⟩,λhkl=> ?_⟩;obtain⟨tw,tok⟩:=wx (mkS [116,121,112,101]) cw;refine⟨⟨t.l[j],mkS [116,121,112,101]⟩,rfl,rfl,rfl,rfl,rfl,rfl,rfl,rfl,rfl,rfl,cw,λq hq=>cok q hq.1,?_⟩;simp only;generalize (qm (mkS [116,121,112,101]) t.l[j]).getD zJ=ty at*;refine⟨λ_=>⟨S++T,rfl,rfl,rfl,rfl,λh=>(yI (by decide) h).elim⟩,?_⟩;intro e7 h7;refine⟨⟨by omega,by omega⟩,⟨S++T,e7,ty,sp,d+1⟩,rfl,rfl,rfl,rfl,rfl,rfl,rfl,rfl,rfl,rfl,rfl,rfl,rfl,rfl,⟨by show(25- (d+1)).toNat<n;omega,hST,tw,by omega,by omega,hsp⟩,λq hq=>tok q (cok q hq.1),?_⟩;rintro⟨U,e8,r⟩ ⟨⟨hU,hU2⟩,hr⟩ ⟨p2,hp2,hU3⟩;simp only at hU hU2 hr hU3⊢;obtain⟨dw,dok⟩:=wx (mkS [100,101,102,97,117,108,116]) cw;refine⟨⟨t.l[j],mkS [100,101,102,97,117,108,116]⟩,rfl,rfl,rfl,rfl,rfl,rfl,rfl,rfl,rfl,rfl,cw,λq hq=>cok q hq.1.1,⟨S++T++U,e8,t.l[j],mkS [97,108,105,97,115,101,115]⟩,rfl,rfl,rfl,rfl,rfl,rfl,rfl,rfl,rfl,rfl,rfl,rfl,rfl,cw,λq hq=>cok q hq.1.1,?_⟩;have hsz:∀x∈(zi t.l[j] (mkS [97,108,105,97,115,101,115]) e8).1,x.size<1000:=Nq cw;have hLl:(zi t.l[j] (mkS [97,108,105,97,115,101,115]) e8).1.length<1000:=Np cw;have hE:(zi t.l[j] (mkS [97,108,105,97,115,101,115]) e8).2.2=0->e8=0:=Ic;simp only;generalize zi t.l[j] (mkS [97,108,105,97,115,101,115]) e8=F at*;generalize hdj:(qm (mkS [100,101,102,97,117,108,116]) t.l[j]).getD zJ=df at*;rintro a m c ⟨p3,hp3,hl3⟩;have hm:m=F.1.length:=hl3.1;subst hm;have hat2:=λ(k:Nat) (hk:k<F.1.length) (q:Pub) (hq:qc qp (a,F.1.length,c) F.1 q)=>(show a≠noA/\q37 q (adr a (k*1)) [.string F.1[k]]from z17 jV (by decide) hq hk);refine⟨⟨⟨0,F.2.2⟩,rfl,rfl,λh=>h⟩,?_⟩;rintro⟨x,e9⟩ h9;simp only at h9⊢;have hlen:(S++(T++U)).length=(S++T).length+U.length:=by rw[←List.append_assoc];exact List.length_append
 refine⟨λhx=>⟨λh0=>⟨⟨by omega,by omega⟩,(hat2 x (by omega) p3 hl3).1,F.1[x]'(by omega),λq hq=>(hat2 x (by omega) q hq.2).2,by have:=hsz _ (List.getElem_mem (show x<F.1.length by omega));omega,λ_=>⟨S++T++U,rfl,rfl,⟨by omega,by omega⟩,⟨x+1,qt e9 6⟩,by show((x+1:Nat):Int)=_;omega,rfl,rfl,rfl,λh=>(yI (by decide) h).elim,by show 2000- (x+1)<2000- x;omega⟩,λ_=>⟨⟨by omega,by omega⟩,⟨x+1,e9⟩,by show((x+1:Nat):Int)=_;omega,rfl,h9,by show 2000- (x+1)<2000- x;omega⟩⟩,λh0=> ?xa⟩,λhx=> ?xb⟩;case xa|xb=>
  refine⟨qv G7 fs,by omega,⟨by omega,by omega⟩,⟨j+1,e9,T++U,fs++[⟨W.1,(a,F.1.length,c),F.1,r,(qm (mkS [100,101,102,97,117,108,116]) t.l[j]).isSome,df⟩]⟩,by show((j+1:Nat):Int)=_;omega,by simp,by rw[List.append_assoc],rfl,by rw[List.append_assoc],by rw[zx];rfl,λq hq=>hq.1.1.1,λq hq=>⟨λy hy=>(List.mem_append.1 hy).elim (hq.1.1.2.1 y) (hq.1.2 y),λf hf=>(List.mem_append.1 hf).elim (hq.1.1.2.2 f) λh=> ?_⟩,⟨by show j+1<=(KE g).l.length;rw[hfd];omega,by show(fs++[_]).length<=j+1;simp;omega,by show(S++(T++U)).length<=60;rw[←List.append_assoc];exact hU,λh=>⟨e00,λy hy=> ?_,λf hf=> ?_⟩⟩,by show _- (j+1)<_;omega⟩
  ·simp at h;subst h;exact⟨hq.2,dok q (cok q hq.1.1.1)⟩
  ·show kF (S++(T++U)).length y;obtain⟨u1,u2⟩:=hU2 (hE (h9 h));rcases List.mem_append.1 hy with hy|hy
   ·exact z6l (by omega) (hTg y hy)
   ·have:=u2 y hy;rw[List.append_assoc]at this;exact this
  ·show(0<=f.ty/\f.ty<((S++(T++U)).length:Int))/\f.df.wf;obtain⟨r0,r1⟩:=hr (hE (h9 h));rw[List.append_assoc]at r1;rcases List.mem_append.1 hf with hf|hf
   ·have:=hfg f hf;exact⟨by omega,this.2⟩
   ·simp at hf;subst hf;exact⟨⟨r0,r1⟩,dw⟩
def nmT(k:Int) (W:IV) (r n:Nat) (num:Nat):AO:= .cells 55 (some 0) false [.sv (.int .i64 k), .sv (.string W), .ssl r 0 n 1 num, .int .i64 0, .nsl, .bool false, .str [], .int .i64 0, .nsl, .nsl]
abbrev Ym:=Nat×Int×List IV
def zkl:U8->WayF:=λ⟨S,e,g,k,sp,d⟩=>{
  cut:=λr _ _=>match r with
    | 7 =>some {σ:=Int×IV,pre:=λ⟨e',s⟩=>(e'=0->e=0)/\(s.size:Int)<=1100*d,find:=some λt h=>(match yZ h 1 with
        | some e'=>match Gs t 3 with
          |some s=>some (e',s)
          |none=>none
        |none=>none),t:=λ⟨e',s⟩=>[(3, .sv (.string s))],h:=λ⟨e',s⟩=>[yY S e' 2 3],more:=0,μ:=λ_=>0,keep:=[0,2,4,6,11]}
    |19=>some {σ:=Int,pre:=λe'=>e'=0->e=0,find:=some λ_ h=>yZ h 1,t:=λ_=>[],h:=λe'=>[yY S e' 2 3],more:=0,μ:=λ_=>0,keep:=[0,2,3,4,6,14]}
    |_=>none
  ann:=λid t h=>match h.get 15 with
    |some (.cells _ _ _ (_:: .sv (.string W)::_))=>some {σ:=Ym,pre:=λ⟨j,e',acc⟩=>(j:Int)<=1000/\acc.length<=j/\(e'=0->e=0),t:=λ⟨j,e',acc⟩=>[(17, .sv (.int .i64 (j:Int)))],h:=λ⟨j,e',acc⟩=>[yY S e' 2 3,(15,nmT k W 22 acc.length 23),(22, .row 9 0 (qa qp acc))],more:=2,μ:=λ⟨j,e',acc⟩=>1000- j,keep:=[0,2,3,4,6,14,15]}
    |_=>none
  pub:=λi k=>match i,k with
    |21,2=>[107]
    |_,_=>[]}
section
variable (p:Int×IV) (m:List AT) (h:List AT×Int×GJ×IV×Bool) (o:Int) (b:GJ) (C:IV) (u z:Int) (r:Nat) (t:Option Addr) (g:Nat) (c:List AT×Int×GJ×IV) (q:Nat) (a:Ym) (G:List AT) (T:Int) (d:List AT×Int×AT) (v:Option Addr) (l:GJ×IV) (L:Prop) (H:Nat->Option Obj) (M:Yl) (D:uI) (N:qR) (U:AF) (O:List AT×Int×GJ×Int) (I:Kx)
 abbrev Rw:=GJ.k l.1=GJ.k b/\GJ.n l.1=GJ.n b/\GJ.s l.1=GJ.s b/\(GJ.y l.1).1=(GJ.y b).1/\(GJ.y l.1).2.1=(GJ.y b).2.1/\(GJ.y l.1).2.2=(GJ.y b).2.2/\(GJ.x l.1).1=(GJ.x b).1/\(GJ.x l.1).2.1=(GJ.x b).2.1/\(GJ.x l.1).2.2=(GJ.x b).2.2/\L
 abbrev z53:=Option.getD (qm l.2 l.1) zJ
 def Uh:= !decide (GJ.k (z53 l)=o)
 abbrev jM:=jL h.2.2.1 h.2.2.2.1 h.2.2.2.2 h.2.1
 def z85:=length m=length G
 def Zl:=GJ.k b=GJ.k b/\GJ.n b=GJ.n b/\GJ.s b=GJ.s b/\(GJ.y b).1=(GJ.y b).1/\(GJ.y b).2.1=(GJ.y b).2.1/\(GJ.y b).2.2=(GJ.y b).2.2/\(GJ.x b).1=(GJ.x b).1/\(GJ.x b).2.1=(GJ.x b).2.1/\(GJ.x b).2.2=(GJ.x b).2.2/\L
 def Ld:=(∀e,True/\GJ.ok b e->True/\GJ.ok b e)
 def Ry:=(jM h).1=(jM h).1/\o=o/\u=u/\length m=length h.1/\(jM h).2=(jM h).2/\qa AT.cells h.1=qa AT.cells h.1/\L
 def PL:=GJ.s (z53 l)=GJ.s (z53 l)/\Ry m h o u (Zl b (Ld b/\(((jM h).2=0->z=0)/\(↑(size (GJ.s (z53 l))):Int)<=1100*u)/\True))
 def PH:=((Uh 4 l)=true->∃(e:List AT),(2:Int)=2/\length e=length h.1/\(jM h).2=(jM h).2/\qa AT.cells e=qa AT.cells h.1/\True/\GJ.s (z53 l)=GJ.s (z53 l)/\(jM h).1=(jM h).1/\o=o/\u=u/\z85 m e/\qt (jM h).2 (2:Int)=qt (jM h).2 2/\qa AT.cells h.1=qa AT.cells e/\Zl b (Ld b/\((qt (jM h).2 (2:Int)=0->z=0)/\(↑(size (GJ.s (z53 l))):Int)<=1100*u)/\True))/\((Uh 4 l)=false->PL m h o b u z l)
 def PM:=C=C/\Ry m h o u (Zl b (Ld b/\(((jM h).2=0->z=0)/\(↑(size C):Int)<=1100*u)/\True))
 def Zm:=∀(e:AT),e∈N.1->AT.ok e H
 def JN:=vm (jM h).1 p.2=vm (jM h).1 p.2
 abbrev vq:=vm (jM h).1 p.2
 def JM:=(True/\GJ.ok b H)/\qc qp (t,r,g) (zi c.2.2.1 c.2.2.2 c.2.1).1 H
 def VZ:=kg (vq p h) (size (vq p h))=kg (vq p h) (size (vq p h))
 def Ug:=(∀e,JM b r t g c e->JM b r t g c e)
 def Lc:=(↑a.1:Int)<=1000/\length a.2.2<=a.1/\(a.2.1=0->o=0)
 def fN:=(0<=(↑a.1:Int)/\(↑a.1:Int)<(↑r:Int))/\t≠noA/\∃e,(∀w,JM b r t g c w->q37 w (adr t (toNat (↑a.1:Int)*1)) [string e])/\∃(E:List AT),e=e/\VZ p h/\z85 E m/\a.2.1=a.2.1/\qa AT.cells E=qa AT.cells c.1/\(size e<10000/\size (kg (vq p h) (size (vq p h)))<50000)/\length (qa qp a.2.2)=length a.2.2*1/\(length a.2.2+nat_lit 1)*16<=140737488355328/\AV.ssl (nat_lit 22) (nat_lit 0) (length a.2.2) (nat_lit 1) (nat_lit 23)=AV.ssl (nat_lit 22) (nat_lit 0) (length a.2.2) (nat_lit 1) (nat_lit 23)/\Jb ((↑a.1:Int)+1)/\∃(F:Ym),VZ p h/\t=t/\r=r/\g=g/\(↑F.1:Int)=(↑a.1:Int)+1/\o=o/\u=u/\z85 m E/\F.2.1=v8 e (kg (vq p h) (size (vq p h))) a.2.1/\o=o/\JN p h/\length F.2.2=length a.2.2+nat_lit 1/\qa AT.cells c.1=qa AT.cells E/\Zl b (qa qp F.2.2=qa qp a.2.2++[string (vm e (kg (vq p h) (size (vq p h))))]/\Ug b r t g c/\(Lc z F)/\(1000:Nat)- F.1<1000- a.1/\True)
 def DH:=VZ p h/\o=o/\u=u/\z85 m G/\a.2.1=a.2.1/\o=o/\JN p h/\length a.2.2=length a.2.2/\qa AT.cells G=qa AT.cells G/\Zl b (qa qp a.2.2=qa qp a.2.2/\Ug b r t g c/\(a.2.1=0->z=0)/\True)
 def fJ:=(Option.isSome (findF (vq p h) m 0)=true->∃(e:List AT),(5:Int)=5/\z85 e m/\a.2.1=a.2.1/\qa AT.cells e=qa AT.cells m/\True/\VZ p h/\o=o/\u=u/\z85 G e/\qt a.2.1 (5:Int)=qt a.2.1 5/\o=o/\JN p h/\length a.2.2=length a.2.2/\qa AT.cells m=qa AT.cells e/\Zl b (qa qp a.2.2=qa qp a.2.2/\Ug b r t g c/\(qt a.2.1 (5:Int)=0->z=0)/\True))/\(Option.isSome (findF (vq p h) m 0)=false->DH p G h o b u z r t g c a m)
 def wI:=(JM b r t g c H)/\length a.2.2<=q/\qgs H v (take (length a.2.2*nat_lit 1) (qa qp a.2.2))
 def PO:=(0<=AF.ty U/\AF.ty U<(↑(length (M.1++D.1)):Int))/\GJ.wf (AF.df U)
 def PN:=M.2.1=0/\(∀(e:AT),e∈D.1->kF (length (M.1++D.1)) e)/\(∀(w:AF),w∈D.2.2.2->PO M D w)/\length D.2.2.2<=7
 def Rz:=(∀(e:AT),e∈D.1->AT.ok e H)/\qc AF.cells D.2.2.1 D.2.2.2 H/\∀(w:AF),w∈D.2.2.2->AF.ok w H
 def PP:=O.2.1=0/\I.2.2.1≠[]/\length I.2.2.1<=30
 abbrev RA:=if I.1=0 then QD O.1 O.2.2.2 I.2.1 I.2.2.1 I.2.2.2.1 I.2.2.2.2 else O.1
 def Uf:=∃(e:List AT),z=z/\length e=length (qC d.1 d.2.2)/\qI d.1 d.2.1=qI d.1 d.2.1/\qa AT.cells e=qa AT.cells (qC d.1 d.2.2)/\True/\∃(w:qR),w.2.2=0/\length (m++w.1)=length e/\w.2.1=qt (qI d.1 d.2.1) z/\qa AT.cells (m++w.1)=qa AT.cells e/\zN (m,o,b,C,u) w/\(∀E,wI b r t g c q a v E->Zm E w)/\True
 def RB:=N.2.2=qw d.1/\length (m++N.1)=length (qC d.1 d.2.2)/\N.2.1=qI d.1 d.2.1/\L
 def PK:=(0<=qw d.1/\qw d.1<(↑(length (qC d.1 d.2.2)):Int))/\nat_lit 0+toNat (qw d.1)*nat_lit 10+7+length [int i64 (GJ.n (z53 l))]<=length (qa AT.cells (qC d.1 d.2.2))/\∃(e:qR),RB m d (qa AT.cells (m++e.1)=spl (qa AT.cells (qC d.1 d.2.2)) (nat_lit 0+toNat (qw d.1)*nat_lit 10+7) [int i64 (GJ.n (z53 l))]/\zN (m,o,b,C,u) e/\(∀w,wI b r t g c q a v w->Zm w e)/\True) e
 def PJ:=Ji (qI d.1 d.2.1=0) (PK m o b C u r t g c q a d v l) (∃(F:qR),RB m d (qa AT.cells (m++F.1)=qa AT.cells (qC d.1 d.2.2)/\zN (m,o,b,C,u) F/\(∀B,wI b r t g c q a v B->Zm B F)/\True) F)
 def PI:=Ji (5000<GJ.n (z53 l)) (Uf m o b C u 6 r t g c q a d v) (PJ m o b C u r t g c q a d v l)
 def PG:=Ji (GJ.n (z53 l)<0) (Uf m o b C u 6 r t g c q a d v) (PI m o b C u r t g c q a d v l)
 def fL:=((Uh 3 l)=true->Uf m o b C u 2 r t g c q a d v)/\((Uh 3 l)=false->PG m o b C u r t g c q a d v l)
 def fK:=Ji (o=10) (∃(e:List AT×Int×GJ×Int),GJ.k e.2.2.1=GJ.k b/\GJ.n e.2.2.1=GJ.n b/\GJ.s e.2.2.1=GJ.s b/\(GJ.y e.2.2.1).1=(GJ.y b).1/\(GJ.y e.2.2.1).2.1=(GJ.y b).2.1/\(GJ.y e.2.2.1).2.2=(GJ.y b).2.2/\(GJ.x e.2.2.1).1=(GJ.x b).1/\(GJ.x e.2.2.1).2.1=(GJ.x b).2.1/\(GJ.x e.2.2.1).2.2=(GJ.x b).2.2/\e.2.2.2=qw d.1/\length e.1=length (qC d.1 d.2.2)/\e.2.1=qI d.1 d.2.1/\qa AT.cells e.1=qa AT.cells (qC d.1 d.2.2)/\(length e.1<=60/\GJ.wf e.2.2.1/\0<=e.2.2.2/\(e.2.1=0->e.2.2.2<(↑(length e.1):Int)))/\(∀w,wI b r t g c q a v w->GJ.ok e.2.2.1 w)/\∀(E:Kx),(E.1=0->PP e E)->(∃F,(wI b r t g c q a v F)/\qc qp E.2.1 E.2.2.1 F)->∃(B:qR),B.2.2=qw d.1/\length (m++B.1)=length (RA e E)/\B.2.1=E.1/\qa AT.cells (m++B.1)=qa AT.cells (RA e E)/\zN (m,u,b,C,z) B/\(∀R,(wI b r t g c q a v R)/\qc qp E.2.1 E.2.2.1 R->Zm R B)/\True) (∃(K:GJ×IV),Rw b K (K.2=mkS [115,105,122,101]/\GJ.wf K.1/\(∀i8,wI b r t g c q a v i8->GJ.ok K.1 i8)/\((!Option.isSome (qm K.2 K.1))=true->Uf m u b C z 2 r t g c q a d v)/\((!Option.isSome (qm K.2 K.1))=false->fL m u b C z r t g c q a d v K)))
 abbrev fI:=((!decide (o=0))=true->∃(e:qR),e.2.2=0/\length (m++e.1)=length m/\e.2.1=o/\qa AT.cells (m++e.1)=qa AT.cells G/\zN (m,u,b,C,z) e/\(∀w,JM b r t g c w->Zm w e)/\True)/\((!decide (o=0))=false->∀(F B R:Nat) (S:Option Addr) (K i8:Nat),(∃W,wI b r t g c i8 a S W)->∃(j:List AT×Int×AT),AT.k j.2.2=T/\AT.nm j.2.2=vm (jM h).1 p.2/\(AT.al j.2.2).1=S/\(AT.al j.2.2).2.1=length a.2.2/\(AT.al j.2.2).2.2=i8/\AT.it j.2.2=0/\(AT.sy j.2.2).1=noA/\(AT.sy j.2.2).2.1=0/\(AT.sy j.2.2).2.2=0/\AT.hd j.2.2=false/\AT.df j.2.2=mkS []/\AT.sz j.2.2=0/\(AT.f j.2.2).1=noA/\(AT.f j.2.2).2.1=0/\(AT.f j.2.2).2.2=0/\(AT.br j.2.2).1=noA/\(AT.br j.2.2).2.1=0/\(AT.br j.2.2).2.2=0/\length j.1=length m/\j.2.1=o/\qa AT.cells j.1=qa AT.cells G/\True/\Ji (T=9) (∃(i:Yl),GJ.k i.2.2.1=GJ.k b/\GJ.n i.2.2.1=GJ.n b/\GJ.s i.2.2.1=GJ.s b/\(GJ.y i.2.2.1).1=(GJ.y b).1/\(GJ.y i.2.2.1).2.1=(GJ.y b).2.1/\(GJ.y i.2.2.1).2.2=(GJ.y b).2.2/\(GJ.x i.2.2.1).1=(GJ.x b).1/\(GJ.x i.2.2.1).2.1=(GJ.x b).2.1/\(GJ.x i.2.2.1).2.2=(GJ.x b).2.2/\i.2.2.2.1=qw j.1/\i.2.2.2.2.1=kg (vq p h) (size (vq p h))/\i.2.2.2.2.2=z/\length i.1=length (qC j.1 j.2.2)/\i.2.1=qI j.1 j.2.1/\qa AT.cells i.1=qa AT.cells (qC j.1 j.2.2)/\(KJ i<q+1/\length i.1<=60/\GJ.wf i.2.2.1/\0<=i.2.2.2.1/\(i.2.1=0->i.2.2.2.1<(↑(length i.1):Int))/\1<=i.2.2.2.2.2/\i.2.2.2.2.2<=20/\(↑(size i.2.2.2.2.1):Int)<=1100*(i.2.2.2.2.2+1))/\(∀V,wI b r t g c i8 a S V->GJ.ok i.2.2.1 V)/\∀(A:uI),length (i.1++A.1)<=60/\(A.2.1=0->PN i A)->(∃i16,(wI b r t g c i8 a S i16)/\Rz i16 A)->∃(J:qR),J.2.2=qw j.1/\length (m++J.1)=length ((if A.2.1=0 then vR i.1 i.2.2.2.1 A.2.2.1 A.2.2.2 else i.1)++A.1)/\J.2.1=A.2.1/\qa AT.cells (m++J.1)=qa AT.cells ((if A.2.1=0 then vR i.1 i.2.2.2.1 A.2.2.1 A.2.2.2 else i.1)++A.1)/\zN (m,u,b,C,z) J/\(∀Q,((wI b r t g c i8 a S Q)/\Rz Q A)->Zm Q J)/\True) (fK m T b C u z r t g c i8 a j S))
 def Rx:=∃(e:List AT),JN p h/\z85 e m/\a.2.1=a.2.1/\qa AT.cells e=qa AT.cells c.1/\length e<1000/\(Ji (a.2.1=0) (fJ p e h o b u z r t g c a m) (DH p m h o b u z r t g c a e))/\∀(w:Int),(w=0->z=0)->fI p m h w b C z u r t g c q a e o
 def fM:=Ji (a.2.1=0) (fN p m h o b u z r t g c a) (Rx p m h o b C u z r t g c q a)
 def fH:=Ji ((↑a.1:Int)<(↑r:Int)) (fM p m h o b C u z r t g c q a) (Rx p m h o b C u z r t g c q a)
 def fG:=(∃(e:Ym),VZ p h/\t=t/\r=r/\g=g/\(↑e.1:Int)=0/\o=o/\u=u/\length m=length c.1/\e.2.1=(zi c.2.2.1 c.2.2.2 c.2.1).2.2/\o=o/\JN p h/\length e.2.2=0/\qa AT.cells c.1=qa AT.cells c.1/\Zl b (Ug b r t g c/\(Lc z e)/\True))/\∀(E:Ym),Lc z E->fH p m h o b C u z r t g c q E
 def fF:=((!decide (p.1=0))=true->∃(e:qR),e.2.2=0/\length (m++e.1)=length m/\e.2.1=p.1/\qa AT.cells (m++e.1)=qa AT.cells h.1/\zN (m,o,b,C,u) e/\(∀w,True/\GJ.ok b w->Zm w e)/\True)/\((!decide (p.1=0))=false->∃(F:List AT),(jM h).1=(jM h).1/\p.2=p.2/\z85 F m/\p.1=p.1/\qa AT.cells F=qa AT.cells h.1/\(size (jM h).1<10000/\size p.2<50000)/\JN p h/\size (vq p h)<1000000/\∃(B:List AT×Int×GJ×IV),GJ.k B.2.2.1=GJ.k b/\GJ.n B.2.2.1=GJ.n b/\GJ.s B.2.2.1=GJ.s b/\(GJ.y B.2.2.1).1=(GJ.y b).1/\(GJ.y B.2.2.1).2.1=(GJ.y b).2.1/\(GJ.y B.2.2.1).2.2=(GJ.y b).2.2/\(GJ.x B.2.2.1).1=(GJ.x b).1/\(GJ.x B.2.2.1).2.1=(GJ.x b).2.1/\(GJ.x B.2.2.1).2.2=(GJ.x b).2.2/\B.2.2.2=mkS [97,108,105,97,115,101,115]/\length B.1=length F/\B.2.1=v8 (jM h).1 p.2 p.1/\qa AT.cells B.1=qa AT.cells F/\GJ.wf B.2.2.1/\(∀R,True/\GJ.ok b R->GJ.ok B.2.2.1 R)/\∀(S:Unit),True->∀(K:Option Addr) (i8 W:Nat),(∃j,JM b i8 K W B j)->fG p m h z b C u o i8 K W B r)
end
def zf7(n:Nat) (S:List AT) (e:Int) (g:GJ) (k:Int) (sp:IV) (d:Int):qk4 P (qfa [(66,z64),(100,WN),(101,GW),(102,z70),(103,VA),(97,WT),(69,KF),(63,wz)]) (qgc [(104,GE.below KJ (n+1)),(105,HC)]) Tryz.f67 (GU.below KN (n+1)) (zkl) ⟨S,e,g,k,sp,d⟩=(KN (S,e,g,k,sp,d)<n+1/\yJ (S,e,g,sp,d)/\d<=20/\(k=9\/k=10\/k=11)->(∃(p:Pub),True/\GJ.ok g p)->∃(s:List AT×Int×GJ×IV×Bool),GJ.k s.2.2.1=GJ.k g/\GJ.n s.2.2.1=GJ.n g/\GJ.s s.2.2.1=GJ.s g/\(GJ.y s.2.2.1).1=(GJ.y g).1/\(GJ.y s.2.2.1).2.1=(GJ.y g).2.1/\(GJ.y s.2.2.1).2.2=(GJ.y g).2.2/\(GJ.x s.2.2.1).1=(GJ.x g).1/\(GJ.x s.2.2.1).2.1=(GJ.x g).2.1/\(GJ.x s.2.2.1).2.2=(GJ.x g).2.2/\s.2.2.2.1=mkS [110,97,109,101]/\s.2.2.2.2=true/\length s.1=length S/\s.2.1=e/\qa AT.cells s.1=qa AT.cells S/\GJ.wf s.2.2.1/\(∀(p:Pub),True/\GJ.ok g p->GJ.ok s.2.2.1 p)/\∃(s_1:GJ×IV),Rw g s_1 (s_1.2=mkS [110,97,109,101,115,112,97,99,101]/\GJ.wf s_1.1/\(∀(p:Pub),True/\GJ.ok g p->GJ.ok s_1.1 p)/\((Option.isSome (qm s_1.2 s_1.1)=true->PH S s k g d e s_1)/\(Option.isSome (qm s_1.2 s_1.1)=false->PM S s k g sp d e))/\∀(s_2:Int×IV),(s_2.1=0->e=0)/\(↑(size s_2.2):Int)<=1100*d->fF s_2 S s e g sp d k n)):=by kernel_rfl
def zix:=λn S e g k sp d=>Eq.trans (zf7 n S e g k sp d) (by delta Ji Jb Jt Jf Rw z53 Uh jM z85 Zl Ld Ry PL PH PM Zm JN vq JM VZ Ug Lc fN DH fJ wI PO PN Rz PP RA Uf RB PK PJ PI PG fL fK fI Rx fM fH fG fF;exact rfl)
def KO(k:Int) (W:IV) (al:SV) (als:List IV):AT:=⟨k,W,al,als,0,(none,0,0),[],false,mkS [],0,(none,0,0),[],(none,0,0),[]⟩
def zxy{k:Int} {W:IV} {al:SV} {als:List IV} {p:Pub} (h:qc qp al als p):(KO k W al als).ok p:=⟨h,qY,qY,qY,λf hf=>(by cases hf)⟩
def zdq(S:List AT) (t u:AT):(S++[t]).set S.length u=S++[u]:=by
 induction S with
 |nil=>rfl
 |cons a S ih=>rw[List.cons_append,List.length_cons,List.set_cons_succ,ih];rfl
def zd6(S:List AT) (t:AT):(S++[t])[S.length]? =some t:=by rw[List.getElem?_append_right (Nat.le_refl _),Nat.sub_self];rfl
def zhv(S:List AT) (t:AT) (x:SV) (l:List AF):vR (S++[t]) (S.length:Int) x l=S++[{t with f:=x,fs:=l}]:=by unfold vR;rw[Int.toNat_natCast,zd6];exact zdq _ _ _
def zjr(S:List AT) (t:AT) (y:SV) (l:List IV) (hd:Bool) (df:IV):QD (S++[t]) (S.length:Int) y l hd df=S++[{t with sy:=y,sys:=l,hd:=hd,df:=df}]:=by unfold QD;rw[Int.toNat_natCast,zd6];exact zdq _ _ _
def j7i(S:List AT) (t:AT) (r:Int):qa AT.cells (S++[{t with sz:=r}])=spl (qa AT.cells (S++[t])) (0+S.length*10+7) [.int .i64 r]:=by rw[zx,zx,Jo,Jo,Nat.zero_add,←qv z21 S];show _=(qa AT.cells S++(t.cells++qa AT.cells [])).set ((qa AT.cells S).length+7) (.int .i64 r);rw[Vx];rfl
def z8o{s:IV}:∀i,i<=s.size->(kg s i).size<=s.size
  |0,_=>Nat.zero_le _
  | i+1,h=>by
    rw[kg];split
    · rw[ByteArray.size_extract];omega
    · exact z8o i (by omega)
def OJ{a b:IV} {e:Int}:v8 a b e=0->e=0:=by
 unfold v8;split
 ·exactλh=>(yI (by decide) h).elim
 ·exactλh=>h
def ziy (n:Nat) (hf:q1q P 104 (GE.below KJ (n+1))):q1q P 67 (GU.below KN (n+1)):=by
 refine zt (qcn (qgp Ju (qgp Nr (qgp zkw (qgp zgz (qgp Nn (qgp zct (qgp GN (qgp xk qjr))))))))) (qde (qgo hf (qgo zyv qjq))) (W:=zkl) Tryz.func67 λ⟨S,(e:Int),g,(k:Int),sp,(d:Int)⟩=>(zix n S e g k sp d).mpr ?_;rintro⟨hmu,⟨hS,hg,hd1,hd2,hsp⟩,hd3,hk⟩ ⟨p,_,hp⟩;have hmu:(25- d).toNat<n+1:=hmu;simp only[qH,exists_const,forall_const,Int.toNat_natCast];have hnm:=zvo hg (mkS [110,97,109,101]) true e;have hwe:(jL g (mkS [110,97,109,101]) true e).2=0->e=0:=Iq;obtain⟨oww,_⟩:=wx (mkS [110,97,109,101,115,112,97,99,101]) hg;have osz:((qm (mkS [110,97,109,101,115,112,97,99,101]) g).getD zJ).s.size<1000:=by rw[GJ.wf_eq]at oww;exact oww.1
 have bad0:∀k:Int,k≠0->zN (S,e,g,sp,d) ([],k,0):=λk hk=>⟨⟨by rw[List.append_nil];exact hS,λh=>absurd h hk⟩,λh=>absurd h hk⟩;refine⟨⟨S,e,g,mkS [110,97,109,101],true⟩,rfl,rfl,rfl,rfl,rfl,rfl,rfl,rfl,rfl,rfl,rfl,rfl,rfl,rfl,hg,λq hq=>hq,⟨g,mkS [110,97,109,101,115,112,97,99,101]⟩,rfl,rfl,rfl,rfl,rfl,rfl,rfl,rfl,rfl,rfl,hg,λq hq=>hq,?_⟩;simp only;clear oww;generalize (qm (mkS [110,97,109,101,115,112,97,99,101]) g).getD zJ=ow at*;generalize jL g (mkS [110,97,109,101]) true e=W at*;refine⟨⟨λ_=>⟨λ_=>⟨S,rfl,rfl,rfl,rfl,λh=>(yI (by decide) h).elim,by omega⟩,λ_=>⟨trivial,hwe,by omega⟩⟩,λ_=>⟨trivial,hwe,hsp⟩⟩,?_⟩;rintro⟨e2,sp2⟩ ⟨h2,hsp2⟩;simp only at h2 hsp2⊢;refine⟨λhne=>⟨⟨[],e2,0⟩,rfl,by rw[List.append_nil],rfl,by rw[List.append_nil],bad0 _ hne,λq _ a ha=>(by cases ha)⟩,λhe2=> ?_⟩;have hws:=z5u (a:=W.1) (b:=sp2);have hbs:=z8o (s:=vm W.1 sp2) _ (Nat.le_refl _);refine⟨S,rfl,rfl,⟨by omega,by omega⟩,by omega,⟨S,v8 W.1 sp2 e2,g,mkS [97,108,105,97,115,101,115]⟩,rfl,rfl,rfl,rfl,rfl,rfl,rfl,rfl,rfl,rfl,rfl,rfl,rfl,hg,λq hq=>hq,?_⟩;have hsz:∀x∈(zi g (mkS [97,108,105,97,115,101,115]) (v8 W.1 sp2 e2)).1,x.size<1000:=Nq hg;have hLl:(zi g (mkS [97,108,105,97,115,101,115]) (v8 W.1 sp2 e2)).1.length<1000:=Np hg;have hE:(zi g (mkS [97,108,105,97,115,101,115]) (v8 W.1 sp2 e2)).2.2=0->e=0:=λh=>h2 (OJ (Ic h));simp only;generalize zi g (mkS [97,108,105,97,115,101,115]) (v8 W.1 sp2 e2)=F at*;generalize vm W.1 sp2=N at*;generalize kg N N.size=sp3 at*;rintro a m c ⟨p1,hp1,hl1⟩;have hm:m=F.1.length:=hl1.1;subst hm;have hat2:=λ(k:Nat) (hk:k<F.1.length) (q:Pub) (hq:qc qp (a,F.1.length,c) F.1 q)=>(show a≠noA/\q37 q (adr a (k*1)) [.string F.1[k]]from z17 jV (by decide) hq hk);refine⟨⟨⟨0,F.2.2,[]⟩,rfl,trivial,rfl,rfl,by show((0:Nat):Int)<=1000;omega,Nat.le_refl _,hE⟩,?_⟩;rintro⟨x,e4,acc⟩ ⟨hx0,hacc,h4⟩;simp only at hx0 hacc h4⊢;refine⟨λhx=>⟨λh0=>⟨⟨by omega,by omega⟩,(hat2 x (by omega) p1 hl1).1,F.1[x]'(by omega),λq hq=>(hat2 x (by omega) q hq.2).2,S,rfl,rfl,⟨by have:=hsz _ (List.getElem_mem (show x<F.1.length by omega));omega,by omega⟩,qv jV acc,by omega,⟨by omega,by omega⟩,⟨x+1,v8 (F.1[x]'(by omega)) sp3 e4,acc++[vm (F.1[x]'(by omega)) sp3]⟩,by show((x+1:Nat):Int)=_;omega,rfl,rfl,by simp,rfl,by rw[zx];rfl,⟨by show((x+1:Nat):Int)<=1000;omega,by show(acc++[_]).length<=x+1;simp;omega,λh=>h4 (OJ h)⟩,by show 1000- (x+1)<1000- x;omega⟩,λh0=> ?xa⟩,λhx=> ?xb⟩;case xa | xb=>
  refine⟨S,rfl,rfl,by omega,⟨⟨λ_=>⟨λ_=>⟨S,rfl,rfl,rfl,rfl,λh=>(yI (by decide) h).elim⟩,λ_=>⟨rfl,h4⟩⟩,λ_=>⟨rfl,h4⟩⟩,?_⟩⟩;intro e5 h5;refine⟨λhne=>⟨⟨[],e5,0⟩,rfl,by rw[List.append_nil],rfl,by rw[List.append_nil],bad0 _ hne,λq _ a ha=>(by cases ha)⟩,λhe5=> ?_⟩;intro a7 c1 _;have e0:=h5 he5;have hal:∀q,(acc.length<=c1/\qgs q a7 (List.take (acc.length*1) (qa qp acc)))->qc qp (a7,acc.length,c1) acc q:=λq hq=>by refine⟨rfl,hq.1,?_⟩;have:=hq.2;rw[List.take_of_length_le (by rw[qv jV];exact Nat.le_refl _)]at this;exact this
  refine⟨⟨S,e5,KO k N (a7,acc.length,c1) acc⟩,rfl,rfl,rfl,rfl,rfl,rfl,rfl,rfl,rfl,rfl,rfl,rfl,rfl,rfl,rfl,rfl,rfl,rfl,rfl,rfl,rfl,?_⟩;have hto:∀q,qc qp (a7,acc.length,c1) acc q->(KO k N (a7,acc.length,c1) acc).ok q:=λq h=>zxy h;have htk:(KO k N (a7,acc.length,c1) acc).k=k:=rfl;have hte:KO k N (a7,acc.length,c1) acc=⟨k,N,(a7,acc.length,c1),acc,0,(none,0,0),[],false,mkS [],0,(none,0,0),[],(none,0,0),[]⟩:=rfl;simp only;generalize KO k N (a7,acc.length,c1) acc=t at*;have adl:=zgs S t hS;have adok:∀q,qc qp (a7,acc.length,c1) acc q->∀a∈zR S t,a.ok q:=λq hq a ha=>by
   unfold zR at ha;split at ha
   ·cases ha
   ·simp at ha;subst ha;exact hto q hq
  have hR0:0<=qw S:=by unfold qw;split<;>omega
  have hgood:qI S e5=0->S.length<60/\qC S t=S++[t]/\qw S=S.length:=λh=>by
   have hl:S.length<60:=by
    by_cases hl:60<=S.length
    ·exact absurd h (NU hl)
    ·omega
   exact⟨hl,by unfold qC;rw[if_neg (by omega)],by unfold qw;rw[if_neg (by omega)]⟩
  have hbad:∀e6:Int,e6≠0->zN (S,e,g,sp,d) (zR S t,e6,0):=λe6 h6=>⟨⟨adl,λh=>absurd h h6⟩,λh=>absurd h h6⟩;refine⟨λh9=> ?_,λh9=>⟨λh10=> ?_,λh10=> ?_⟩⟩
  ·refine ⟨⟨qC S t,qI S e5,g,qw S,sp3,d⟩,rfl,rfl,rfl,rfl,rfl,rfl,rfl,rfl,rfl,rfl,rfl,rfl,rfl,rfl,rfl,⟨hmu,by rw[jU];exact adl,hg,hR0,λh=> ?_,hd1,hd3,by show(sp3.size:Int)<=1100*(d+1);omega⟩,λq hq=>hq.1.1,?_⟩
   ·obtain⟨hl,q2,q3⟩:=hgood h;show qw S<((qC S t).length:Int);rw[q2,q3];simp;omega
   ·rintro⟨T,e6,x,fs⟩ ⟨hT,hT2⟩ ⟨p3,_,hTok,hsl,hfok⟩;simp only at hT hT2 hTok hsl hfok⊢;by_cases h6:e6=0
    ·obtain⟨ha0,hTg,hfg,hf30⟩:=hT2 h6;obtain⟨hl,q2,q3⟩:=hgood ha0;rw[q2]at hT hTg hfg;rw[if_pos h6,q2,q3,zhv,List.append_assoc];have hlen:∀u:AT,(S++(u::T)).length=S.length+T.length+1:=λu=>(by simp;omega);have hlen2:(S++[t]++T).length=S.length+T.length+1:=(by simp;omega);refine⟨⟨{t with f:=x,fs:=fs}::T,e6,S.length⟩,rfl,rfl,rfl,rfl,⟨⟨by rw[hlen];omega,λ_=>⟨e0,λy hy=> ?_⟩⟩,λ_=>⟨by show 0<=(S.length:Int);omega,by show(S.length:Int)<((S++_::T).length:Int);rw[hlen];omega⟩⟩,λq hq y hy=> ?_⟩
     ·rw[hlen];rw[hlen2]at hTg hfg;rcases List.mem_cons.1 hy with rfl|hy
      ·subst hte;exact⟨by show 1<=k/\k<=14;omega,λh=>(by have h:k=12\/k=13:=h;omega),λb hb=>(by cases hb),λh=>(by have h:k=14:=h;omega),hfg,λh=>(by have h:k=10:=h;omega),λh=>(by have h:k=11:=h;omega),hf30,Nat.zero_le _,Nat.zero_le _⟩
      ·exact hTg y hy
     ·rcases List.mem_cons.1 hy with rfl|hy
      ·have ho:=hto q (hal q hq.1.2);exact⟨ho.1,ho.2.1,hq.2.2.1,ho.2.2.2.1,hq.2.2.2⟩
      ·exact hq.2.1 y hy
    ·rw[if_neg h6];refine⟨⟨zR S t++T,e6,qw S⟩,rfl,by rw[jU,List.append_assoc],rfl,by rw[jU,List.append_assoc],⟨⟨by rw[←List.append_assoc,←jU];exact hT,λh=>absurd h h6⟩,λh=>absurd h h6⟩,λq hq y hy=>(List.mem_append.1 hy).elim (adok q (hal q hq.1.2) y) (hq.2.1 y)⟩
  ·refine⟨⟨qC S t,qI S e5,g,qw S⟩,rfl,rfl,rfl,rfl,rfl,rfl,rfl,rfl,rfl,rfl,rfl,rfl,rfl,⟨by rw[jU];exact adl,hg,hR0,λh=> ?_⟩,λq hq=>hq.1.1,?_⟩
   ·obtain⟨hl,q2,q3⟩:=hgood h;show qw S<((qC S t).length:Int);rw[q2,q3];simp;omega
   ·rintro⟨e6,y,l,hd,df⟩ hT2 ⟨p3,_,hsl⟩;simp only at hT2 hsl⊢;by_cases h6:e6=0
    ·obtain⟨ha0,hl0,hl30⟩:=hT2 h6;obtain⟨hl,q2,q3⟩:=hgood ha0;rw[if_pos h6,q2,q3,zjr];refine⟨⟨[{t with sy:=y,sys:=l,hd:=hd,df:=df}],e6,S.length⟩,rfl,rfl,rfl,rfl,⟨⟨by simp;omega,λ_=>⟨e0,λz hz=> ?_⟩⟩,λ_=>⟨by show 0<=(S.length:Int);omega,by simp;omega⟩⟩,λq hq z hz=> ?_⟩
     ·simp at hz;subst hz;subst hte;exact⟨by show 1<=k/\k<=14;omega,λh=>(by have h:k=12\/k=13:=h;omega),λb hb=>(by cases hb),λh=>(by have h:k=14:=h;omega),λf hf=>(by cases hf),λ_=>hl0,λh=>(by have h:k=11:=h;omega),Nat.zero_le _,Nat.zero_le _,hl30⟩
     ·simp at hz;subst hz;have ho:=hto q (hal q hq.1.2);exact⟨ho.1,hq.2,ho.2.2.1,ho.2.2.2.1,ho.2.2.2.2⟩
    ·rw[if_neg h6];refine⟨⟨zR S t,e6,qw S⟩,rfl,by rw[jU],rfl,by rw[jU],⟨⟨adl,λh=>absurd h h6⟩,λh=>absurd h h6⟩,λq hq y hy=>adok q (hal q hq.1.2) y hy⟩
  ·obtain⟨zw,_⟩:=wx (mkS [115,105,122,101]) hg;refine⟨⟨g,mkS [115,105,122,101]⟩,rfl,rfl,rfl,rfl,rfl,rfl,rfl,rfl,rfl,rfl,hg,λq hq=>hq.1.1,?_⟩;simp only;have hbd:∀k:Int,k≠0->∃b:List AT,b.length=(qC S t).length/\qa AT.cells b=qa AT.cells (qC S t)/\∃b_2:qR,b_2.2.2=0/\(S++b_2.1).length=b.length/\b_2.2.1=qt (qI S e5) k/\qa AT.cells (S++b_2.1)=qa AT.cells b/\zN (S,e,g,sp,d) b_2/\∀q,((g.ok q/\qc qp (a,F.1.length,c) F.1 q)/\acc.length<=c1/\qgs q a7 (List.take (acc.length*1) (qa qp acc)))->∀y∈b_2.1,y.ok q:=λk hk=>⟨qC S t,rfl,rfl,⟨zR S t,qt (qI S e5) k,0⟩,rfl,by rw[jU],rfl,by rw[jU],hbad _ (jf hk),λq hq=>adok q (hal q hq.2)⟩;generalize (qm (mkS [115,105,122,101]) g).getD zJ=zs at*;refine⟨λ_=>hbd 2 (by decide),λ_=>⟨λ_=>hbd 2 (by decide),λ_=>⟨λ_=>hbd 6 (by decide),λz0=>⟨λ_=>hbd 6 (by decide),λz1=>⟨λha0=> ?_,λha0=>⟨⟨zR S t,qI S e5,qw S⟩,rfl,by rw[jU],rfl,by rw[jU],⟨⟨adl,λh=>absurd h ha0⟩,λh=>absurd h ha0⟩,λq hq=>adok q (hal q hq.2)⟩⟩⟩⟩⟩⟩;clear hbd;obtain⟨hl,q2,q3⟩:=hgood ha0;rw[q2,q3,Int.toNat_natCast];have hlen:∀u:AT,(S++[u]).length=S.length+1:=λu=>(by simp);refine⟨⟨by omega,by rw[hlen];omega⟩,by rw[qv z21,hlen];show 0+S.length*10+7+1<=_;omega,⟨[{t with sz:=zs.n}],qI S e5,S.length⟩,rfl,by show(S++[_]).length=_;rw[hlen,hlen],rfl,j7i S t zs.n,⟨⟨by rw[hlen];omega,λ_=>⟨e0,λz hz=> ?_⟩⟩,λ_=>⟨by show 0<=(S.length:Int);omega,by rw[hlen];show(S.length:Int)<_;omega⟩⟩,λq hq z hz=> ?_⟩
   ·simp at hz;subst hz;subst hte;exact⟨by show 1<=k/\k<=14;omega,λh=>(by have h:k=12\/k=13:=h;omega),λb hb=>(by cases hb),λh=>(by have h:k=14:=h;omega),λf hf=>(by cases hf),λh=>(by have h:k=10:=h;omega),λ_=>⟨by show 0<=zs.n;omega,by show zs.n<=5000;omega⟩,Nat.zero_le _,Nat.zero_le _,Nat.zero_le _⟩
   ·simp at hz;subst hz;have ho:=hto q (hal q hq.2);exact⟨ho.1,ho.2.1,ho.2.2.1,ho.2.2.2.1,ho.2.2.2.2⟩
def vM(v:GV):PF:=⟨true,v.ok,λ_ _ h e=>GV.ok_mono h e⟩
def S8(S:List AT) (x:SV) (v:GV):PF:=⟨true,λp=>qd S x p/\v.ok p,λ_ _ h e=>⟨yC h e.1,GV.ok_mono h e.2⟩⟩
def jve(S:List AT) (x:SV) (a:AT) (v:GV):PF:=⟨true,λp=>qd S x p/\a.ok p/\v.ok p,λ_ _ h e=>⟨yC h e.1,AT.ok_mono h e.2.1,GV.ok_mono h e.2.2⟩⟩
def vwM(v w:GV):PF:=⟨true,λp=>v.ok p/\w.ok p,λ_ _ h e=>⟨GV.ok_mono h e.1,GV.ok_mono h e.2⟩⟩
abbrev kx(x:SV):AV:= .agg [z_ x]
def ZH(σ:Type) (args:σ->List AV) (pre:σ->Prop) (mem:σ->PF) (r:σ->AV):Ct where
 σ:=σ
 args:=args
 h:=λ_=>[]
 m:=1
 pre:=pre
 mem:=mem
 r:=r
 h':=λ_=>[]
 m':=1
 g:=λ_=>none
abbrev U7:=List AT×SV×AT×GV
abbrev jO:=List AT×SV×Int×GV
def Jk(f:Int->Bool) (i k:Nat) (keep:List Nat) (t:T AV):Option LT:=match jT t k with
 |some a=>some {σ:=Unit,t:=λ_=>[(i, .sv (.bool (f a)))],h:=λ_=>[],more:=0,μ:=λ_=>0,keep:=keep}
 |none=>none
def Kp:GV×GV->Nat:=λ⟨v,w⟩=>SizeOf.sizeOf v
section
def zl3(n:Int):IntKind.wrap .u64 n=n % 18446744073709551616:=by simp[IntKind.wrap,IntKind.bits,IntKind.signed]
variable {ks:List IV} {p:Pub}
def WX{y:SV} (h:qc qp y ks p) {i:Nat} (hi:i<ks.length):y.1≠noA/\q37 p (adr y.1 (i*1)) [.string ks[i]]:=z17 jV (by decide) h hi
variable {j:Nat}
def zid(h:j+1<ks.length):zo (ks.drop j)=(qu (ks[j]'(by omega))&&qdg (ks[j]'(by omega)) ks[j+1]&&zo (ks.drop (j+1))):=by rw[List.drop_eq_getElem_cons (by omega),List.drop_eq_getElem_cons h,zo]
def zd8:∀{ks:List IV} {i:Nat} (hi:i<ks.length),qu ks[i]=false->zo ks=false
 | [k],0,_,h=>by rw[zo];exact h
 |k::j::l,0,_,h=>by rw[zo];simp at h;rw[h];rfl
 |k::j::l,i+1,hi,h=>by rw[zo,zd8 (ks:=j::l) (i:=i) (by simpa using hi) (by simpa using h),Bool.and_false]
def zfg:∀{l m:List PV} {j:Nat} (h1:j<l.length) (h2:j<m.length),PV.sames (l.drop j) (m.drop j)=(PV.same l[j] m[j]&&PV.sames (l.drop (j+1)) (m.drop (j+1))):=λ{l m j} h1 h2=>by rw[List.drop_eq_getElem_cons h1,List.drop_eq_getElem_cons h2,PV.sames]
def z98:∀{l m:List PV},l.length≠m.length->PV.sames l m=false
 | [],[],h=>absurd rfl h
 | [],_::_,h=>by rw[PV.sames]<;>simp
 |_::_,[],h=>by rw[PV.sames]<;>simp
 |v::l,w::m,h=>by rw[PV.sames,z98 (l:=l) (m:=m) (by simpa using h),Bool.and_false]
variable {l:List GV}
def Zg(h:j<l.length):(GV.pvs l)[j]'(by rw[GV.pvs_len];exact h)=(l[j]).pv:=by simp[GV.pvs_map]
def NL(h:j<l.length):SizeOf.sizeOf l[j]<SizeOf.sizeOf l:=List.sizeOf_lt_of_mem (List.getElem_mem h)
mutual
def z97:∀v:PV,PV.same v v=true
 | .mk n s l ks b=>by rw[PV.same,sames_refl l];simp
def sames_refl:∀l:List PV,PV.sames l l=true
 | []=>by rw[PV.sames]
 |v::l=>by rw[PV.sames,z97 v,sames_refl l];rfl
end
variable {S:List AT}
def zhp{f:Nat->Int} {l:List PV} (h:j<l.length):PV.fitL S f j (l.drop j)=(PV.fits S (f j) l[j]&&PV.fitL S f (j+1) (l.drop (j+1))):=by rw[List.drop_eq_getElem_cons h,PV.fitL]
def wB{a:AT} (h:a.ok p) {j:Nat} (hj:j<a.fs.length):a.f.1≠noA/\q37 p (adr a.f.1 (j*9)) a.fs[j].cells:=z17 G7 (by decide) h.2.2.1 hj
def z22{a:AT} (h:a.ok p) {j:Nat} (hj:j<a.brs.length):a.br.1≠noA/\q37 p (adr a.br.1 (j*1)) [.int .i64 a.brs[j]]:=z17 z24 (by decide) h.2.2.2.1 hj
def wC{x:SV} (h:qd S x p) {j:Nat} (hj:j<S.length):x.1≠noA/\q37 p (adr x.1 (j*10)) S[j].cells:=z17 z21 (by decide) h.1 hj
def zxq{s:IV}:s=mkS []↔s.size=0:=⟨λh=>by rw[h];rfl,λh=>by
 apply ByteArray.ext;apply Array.ext
 ·exact h
 ·intro i h1 h2;exact absurd h2 (by show¬i<0;omega)⟩
end
def Gy:∀n,q1q P 32 (wA.below j4 n)
 |0=>CtR.below_zero (by decide) (by decide) (Sen.enters_of Tryz.func32 (by kernel_rfl)) λs=>rfl
 |n+1=>zq9 n (Gy n) (zk5 n (Gy n)) (ziy n (zev n (Gy n)))
def zk1:q1q P 32 wA:=CtR.of_below Gy
def qx(S:List AT):Prop:=S.length<=60/\∀a∈S,kF S.length a
def NZ:CtR where
 σ:=GJ
 args:=λg=>[g.av]
 h:=λ_=>[]
 m:=1
 pre:=λg=>g.wf
 mem:=gM
 β:=λ_=>List AT×SV×Int
 post:=λg ⟨S,x,e⟩=>qx S/\(e=0->S≠[])
 pm:=λ_ ⟨S,x,e⟩=>⟨true,qd S x,λ_ _ h e=>yC h e⟩
 r:=λ_ ⟨S,x,e⟩=> .tup [kx x, .sv (.int .i64 e)]
 h':=λ_ _=>[]
 m':=1
def zva:GJ->WayF:=λg=>{pubE:=[23]}
section
variable (b:qR) (f:GJ) (d:vE) (i:Nat->Option Obj) (l:Nat) (m:Option Addr)
 def fP:=AV.sv (int i64 b.2.1)=AV.sv (int i64 b.2.1)/\∃(c:List AT×(Option Addr×Nat×Nat)×Int),c.2.1.1=noA/\c.2.1.2.1=0/\c.2.1.2.2=0/\c.2.2=b.2.1/\(qx c.1/\(c.2.2=0->c.1≠[]))/\(∀g,((True/\GJ.ok f g)/\∀(j:AT),j∈b.1->AT.ok j g)->qd c.1 c.2.1 g)/\True
 def DI:=((True/\GJ.ok f i)/\∀(c:AT),c∈b.1->AT.ok c i)/\length (d.1++b.1)<=l/\qgs i m (take (length (d.1++b.1)*nat_lit 10) (qa AT.cells (d.1++b.1)))
 def fO:=((!decide (b.2.1=0))=true->fP b f)/\((!decide (b.2.1=0))=false->∀(n o p:Nat) (h:Option Addr) (q i8:Nat),(∃k,DI b f d k i8 h)->∃(a:List AT×(Option Addr×Nat×Nat)×Int),a.2.1.1=h/\a.2.1.2.1=length (d.1++b.1)/\a.2.1.2.2=i8/\a.2.2=0/\(qx a.1/\(a.2.2=0->a.1≠[]))/\(∀e,DI b f d e i8 h->qd a.1 a.2.1 e)/\True)
end
def zhx(g:GJ):qk4 P (qfa []) (qgc [(32,wA)]) Tryz.f18 NZ (zva) g=(GJ.wf g->(∃(p:Pub),True/\GJ.ok g p)->∃(s:vE),GJ.k s.2.2.1=GJ.k g/\GJ.n s.2.2.1=GJ.n g/\GJ.s s.2.2.1=GJ.s g/\(GJ.y s.2.2.1).1=(GJ.y g).1/\(GJ.y s.2.2.1).2.1=(GJ.y g).2.1/\(GJ.y s.2.2.1).2.2=(GJ.y g).2.2/\(GJ.x s.2.2.1).1=(GJ.x g).1/\(GJ.x s.2.2.1).2.1=(GJ.x g).2.1/\(GJ.x s.2.2.1).2.2=(GJ.x g).2.2/\s.2.2.2.1=mkS []/\s.2.2.2.2=1/\length s.1=0/\s.2.1=0/\yJ s/\(∀(p:Pub),True/\GJ.ok g p->GJ.ok s.2.2.1 p)/\∀(b:qR),zN s b->(∃(p:Pub),(True/\GJ.ok g p)/\∀(a:AT),a∈b.1->AT.ok a p)->fO b g s):=by kernel_rfl
def zoj:=λg=>Eq.trans (zhx g) (by delta fP DI fO;exact rfl)
end
end Go.Proofs.YtniogjgfomaicaaGreat.Wd
