/-
  What the functions do: contracts, and their questions answered. No condition but what its theorems ask.
-/
import Derived.Test.YtldhaghgonkknaaDoorU6
import Derived.Test.YtldhaghgonkknaaDoorProg
import Derived.Laws.BitsAllLaws
import Derived.Test.YtldhaghgonkknaaDoorSh
import Derived.Lib.ConvBytes
import Derived.Lib.ParseIntBCases
namespace Go.Proofs.YtldhaghgonkknaaDoor.Wd
open Go.Proofs.YtldhaghgonkknaaDoor.Eng Go.Proofs.YtldhaghgonkknaaDoor.Sen Go.RowKit
set_option linter.defProp false
set_option linter.unusedVariables false
set_option linter.unusedSimpArgs false
set_option maxRecDepth 1000000
open Go.Value (int string slice bool)
open Go.IntKind (i64 u64 u8 u32 i32)
open _root_.List (length take drop)
open _root_.ByteArray (size)
open _root_.Int (toNat)
noncomputable section
abbrev P:=Go.Proofs.Tryd.prog
def mixed:P.follows .mixedOrders=true:=by decide+kernel
theorem aok{calls:Nat->Option Ct} (hc:∀g C,calls g=some C->q5b P g C) {f:Nat} {fn:Func} {C:Ct} {W:C.σ->WayF} (hfn:P.funcs[f]? =some fn) (hv:∀s,qky P calls fn C W s) (hb:q3i P f fn=true:=by kernel_rfl) (h1:1<=C.m:=by exact Nat.le_of_ble_eq_true rfl) (hle:C.m<=C.m':=by exact Nat.le_of_ble_eq_true rfl) (hn:∀s,Nat.ble (C.args s).length fn.ntmps=true:=by exactλ_=>by kernel_rfl):q5b P f C:=ql1 mixed hc hfn hb h1 hle hn hv
theorem aokX{calls:Nat->Option Ct} (hc:∀g C,calls g=some C->q5b P g C) {rel:Nat->Option CtR} (hrel:∀g C,rel g=some C->q2d P g C) {f:Nat} {fn:Func} {C:Ct} {W:C.σ->WayF} (hfn:P.funcs[f]? =some fn) (hv:∀s,ql0 P calls rel fn C W s) (hb:q3i P f fn=true:=by kernel_rfl) (h1:1<=C.m:=by exact Nat.le_of_ble_eq_true rfl) (hle:C.m<=C.m':=by exact Nat.le_of_ble_eq_true rfl) (hn:∀s,Nat.ble (C.args s).length fn.ntmps=true:=by exactλ_=>by kernel_rfl):q5b P f C:=qka mixed hc hrel hfn hb h1 hle hn hv
theorem aokR{calls:Nat->Option Ct} (hc:∀g C,calls g=some C->q5b P g C) {rel:Nat->Option CtR} (hrel:∀g C,rel g=some C->q2d P g C) {f:Nat} {fn:Func} {C:CtR} {W:C.σ->WayF} (hfn:P.funcs[f]? =some fn) (hv:∀s,qkz P calls rel fn C W s) (hb:q3i P f fn=true:=by kernel_rfl) (h1:1<=C.m:=by exact Nat.le_of_ble_eq_true rfl) (hle:C.m<=C.m':=by exact Nat.le_of_ble_eq_true rfl) (hn:∀s,Nat.ble (C.args s).length fn.ntmps=true:=by exactλ_=>by kernel_rfl):q2d P f C:=qk9 mixed hc hrel hfn hb h1 hle hn hv
theorem sbS:(∀(p:Prop) [Decidable p],(decide p=true)=p)/\(∀(p:Prop) [Decidable p],(decide p=false)=¬p)/\(∀b:Bool,((!b)=true)=(b=false))/\(∀b:Bool,((!b)=false)=(b=true))/\(∀p,(True/\p)=p)/\(∀p,(p/\True)=p)/\(∀(α:Type) (a:α),(a=a)=True)/\(∀p:Prop,(p->p)=True)/\(∀α:Type,(α->True)=True)/\(∀p:Prop,(p->True)=True):=⟨λ_ _=>by simp,λ_ _=>by simp,by simp,by simp,by simp,by simp,by simp,by simp,by simp,by simp⟩
abbrev Jb(a:Int):Prop:=(-9223372036854775808:Int)<=a/\a<=9223372036854775807
abbrev Jt(p:Prop) [Decidable p]:Prop:=decide p=true
abbrev Jf(p:Prop) [Decidable p]:Prop:=decide p=false
abbrev Ji(p:Prop) [Decidable p] (a b:Prop):Prop:=(Jt p->a)/\(Jf p->b)
def z19:∀g C,(λ_=>none:Nat->Option Ct) g=some C->q5b P g C:=λg C h=>by cases h
def slI(t:T AV) (k:Nat):Option Int:=match t.get k with
  | some a=>match gi a with
    |some (_,i)=>some i
    |none=>none
  |none=>none
def zaz:Pl noA:=trivial
def z00{α:Type} (f:α->List Value):List α->List Value
 | []=>[]
 |x::l=>f x++z00 f l
def z04{α:Type} {f:α->List Value} {e:Nat} (hf:∀x,(f x).length=e):∀l,(z00 f l).length=l.length*e
  | []=>by simp[z00]
  | x::l=>by
    rw[z00,List.length_append,hf,z04 hf l,List.length_cons,Nat.succ_mul];omega
def z02{α:Type} {f:α->List Value}:∀l m,z00 f (l++m)=z00 f l++z00 f m
  | [],m=>rfl
  | x::l,m=>by
    show f x++z00 f (l++m)=_
    rw[z02 l m,←List.append_assoc];rfl
def z2p{α:Type} {f:α->List Value} {e:Nat} (hf:∀x,(f x).length=e):∀(l:List α) (i:Nat) (hi:i<l.length) (j:Nat),j<e->(z00 f l)[i*e+j]? =(f l[i])[j]?
  | x::l,0,_,j,hj=>by
    show(f x++z00 f l)[0*e+j]? =_
    rw[Nat.zero_mul,Nat.zero_add,List.getElem?_append_left (by rw[hf];exact hj)];rfl
  | x::l,i+1,hi,j,hj=>by
    show(f x++z00 f l)[(i+1)*e+j]? =_
    have:(i+1)*e=i*e+e:=Nat.succ_mul i e
    rw[List.getElem?_append_right (by rw[hf];omega),show(i+1)*e+j- (f x).length=i*e+j by rw[hf];omega]
    exact z2p hf l i (by simpa using hi) j hj
def zqs(x:Addr) (h:x.spot=none) (i j:Nat):(x.add i).add j=x.add (i+j):=by
 obtain⟨b,o,s⟩:=x
 simp only at h
 subst h
 unfold Addr.add
 by_cases hi:i=0
 ·subst hi;simp
 ·by_cases hj:j=0
  ·subst hj;simp[hi]
  ·rw[if_neg hi,if_neg hj,if_neg (by omega)]
   simp only[Nat.add_assoc]
def z5a{α:Type} {f:α->List Value} {e:Nat} (hf:∀x,(f x).length=e) (he:0<e) {p:Pub} {a:Option Addr} {n c:Nat} {l:List α} (h:qhq p a n c (z00 f l)) {i:Nat} (hi:i<l.length):a≠noA/\q3g p (adr a (i*e)) (f l[i]):=by
 rcases h.2 with h|⟨x,rfl,h1,h2⟩
 ·have:=congrArg List.length h.1
  rw[z04 hf,List.length_nil]at this
  have:=Nat.mul_pos (show 0<l.length by omega) he
  omega
 ·refine⟨by simp,λj v hj=> ?_⟩
  have hje:j<e:=by have:=(List.getElem?_eq_some_iff.mp hj).1;rw[hf]at this;exact this
  show q6f p ((x.add (i*e)).add j)=some v
  rw[zqs x h1]
  exact h2 _ v (by rw[z2p hf l i hi j hje];exact hj)
section
def f1s:List Value->Option ByteArray
 | [.string s]=>some s
 |_=>none
def fsi:List Value->Option (ByteArray×Int)
 | [.string s, .int _ c]=>some (s,c)
 |_=>none
def f1i:List Value->Option Int
 | [.int _ c]=>some c
 |_=>none
def z0c(s:ByteArray) (j:Nat):bat s j<256:=by unfold bat;exact UInt8.toNat_lt _
variable {s:ByteArray}
def z01{j:Nat} (h:s.size<=j):bat s j=0:=by
 unfold bat
 rw[getElem?_neg s j (by omega)];rfl
def z4e{j:Nat} (h:j<s.size):bat s j=s[j].toNat:=by
 unfold bat
 rw[getElem?_pos s j h];rfl
def ldN(c:Nat):Nat:=if c<128 then 1 else if 192<=c/\c<224 then 2 else if 224<=c/\c<240 then 3 else if 240<=c/\c<248 then 4 else 0
def ldV(c:Nat):Nat:=if c<128 then c else if 192<=c/\c<224 then c- 192 else if 224<=c/\c<240 then c- 224 else if 240<=c/\c<248 then c- 240 else 0
def ctC(c:Nat):Bool:=decide (128<=c)&&decide (c<192)
def vlF(s:ByteArray):Nat->Option Nat
  |0=>some 0
  |1=>some (ldV (bat s 0))
  | i+2=>match vlF s (i+1)with
    |some r=>if ctC (bat s (i+1))=true then some (r*64+(bat s (i+1)- 128))else none
    |none=>none
def lnN(r:Nat):Nat:=if r<128 then 1 else if r<2048 then 2 else if r<65536 then 3 else 4
def isC(r:Nat):Bool:=decide (r<=1114111)&& !(decide (55296<=r)&&decide (r<=57343))
def frt(s:ByteArray):Nat:=if s.size<ldN (bat s 0)then 0 else match vlF s (ldN (bat s 0))with
 |none=>0
 |some r=>if ldN (bat s 0)=0\/isC r=false\/lnN r≠ldN (bat s 0)then 0 else ldN (bat s 0)
def z6w:Nat->ByteArray->Bool
 |0,_=>true
 |f+1,s=>if s.size=0 then true else if frt s=0 then false else z6w f (s.extract (frt s) s.size)
def vld(s:ByteArray):Bool:=z6w s.size s
def zb3:Ct:=ctS Int (λc=>[.int .u8 c]) f1i (λc=>0<=c/\c<256) (λ_=>{}) λc=> .tup [.sv (.int .i64 (ldN c.toNat:Nat)), .sv (.int .u32 (ldV c.toNat:Nat))]
def cIs:Ct:=ctS Int (λc=>[.int .u32 c]) f1i (λc=>0<=c/\c<4294967296) (λ_=>{}) λc=> .sv (.bool (isC c.toNat))
def z2k:Ct:=ctS Int (λc=>[.int .u32 c]) f1i (λc=>0<=c/\c<4294967296) (λ_=>{}) λc=> .sv (.int .i64 (lnN c.toNat:Nat))
def z4f:Ct:=ctS ByteArray (λs=>[.string s]) f1s (λs=>0<s.size/\s.size<9223372036854775808) (λ_=>{}) λs=> .sv (.int .i64 (frt s:Nat))
def z1j:Ct:=ctS ByteArray (λs=>[.string s]) f1s (λs=>s.size<9223372036854775808) (λ_=>{}) λs=> .sv (.bool (vld s))
def slS(t:T AV) (k:Nat):Option ByteArray:=match t.get k with
 |some a=>gs a
 |none=>none
def zaq:z4f.σ->WayF:=λs=>{ann:=λ_ _ _=>some {σ:=Int×Int,pre:=λ⟨r,i⟩=>1<=i/\(i<=ldN (bat s 0)\/i=1)/\∃q:Nat,r=q/\(ldN (bat s 0)=0\/vlF s i.toNat=some q),find:=some λt _=>match slI t 4 with|some r=>(match slI t 5 with|some i=>some (r,i)|none=>none)|none=>none,t:=λ⟨r,i⟩=>[(4, .sv (.int .u32 r)),(5, .sv (.int .i64 i))],h:=λ_=>[],more:=0,μ:=λ⟨r,i⟩=>5- i.toNat,keep:=[0,2,3]}}
def zam:Nat->Option Ct:=qg8 [(64,zb3),(65,cIs),(66,z2k)]
def zaw:z1j.σ->WayF:=λs=>{ann:=λ_ _ _=>some {σ:=ByteArray,pre:=λt=>t.size<=s.size/\vld t=vld s,find:=some λt _=>slS t 0,t:=λu=>[(0, .sv (.string u))],h:=λ_=>[],more:=0,μ:=λu=>u.size,keep:=[2]}}
def zfc:Nat->Option Ct:=qg8 [(52,z4f)]
def ptV(s:ByteArray):Nat:=if frt s=0 then 0 else(vlF s (frt s)).getD 0
def z4h:Ct:=ctS ByteArray (λs=>[.string s]) f1s (λs=>s.size<9223372036854775808) (λ_=>{}) λs=> .tup [.sv (.int .u32 (ptV s:Nat)), .sv (.int .i64 (frt s:Nat))]
def leN(n:Nat):Nat:=if n=2 then 128 else if n=3 then 2048 else 65536
def zas:z4h.σ->WayF:=λs=>{
 ann:=λ_ _ _=>some {σ:=Int×Int,pre:=λ⟨v,i⟩=>1<=i/\i<=ldN (bat s 0)/\∃q:Nat,v=q/\vlF s i.toNat=some q,find:=some λt _=>match slI t 6 with|some v=>(match slI t 8 with|some i=>some (v,i)|none=>none)|none=>none,t:=λ⟨v,i⟩=>[(6, .sv (.int .u32 v)),(8, .sv (.int .i64 i))],h:=λ_=>[],more:=0,μ:=λ⟨v,i⟩=>5- i.toNat,keep:=[0,5,7]}
 cut:=λr _ _=>match r with
  |14=>some {σ:=Unit,pre:=λ_=>0<s.size/\2<=ldN (bat s 0),find:=some λ_ _=>some (),t:=λ_=>[(5, .sv (.int .i64 (ldN (bat s 0):Nat))),(6, .sv (.int .u32 (ldV (bat s 0):Nat))),(7, .sv (.int .u32 (leN (ldN (bat s 0)):Nat)))],h:=λ_=>[],more:=0,μ:=λ_=>0,keep:=[0]}
  |_=>none}
def z70:z1j.σ->WayF:=λs=>{ann:=λ_ _ _=>some {σ:=ByteArray,pre:=λt=>t.size<=s.size/\vld t=vld s,find:=some λt _=>slS t 0,t:=λu=>[(0, .sv (.string u))],h:=λ_=>[],more:=0,μ:=λu=>u.size,keep:=[]}}
end
def zev(c:Nat):ldN c<=4:=by
 unfold ldN;repeat' split
 all_goals omega
def zex(c:Nat):ldV c<128:=by
 unfold ldV;repeat' split
 all_goals omega
section
variable (x0 x1 x2:Int)
 abbrev zkt:=(↑(ldN (toNat x0)):Int)=1/\(↑(ldV (toNat x0)):Int)=IntKind.wrap u32 x0/\True
 abbrev zil:=shP BinOp.shr u8 x0 x1=x2
 def zik:=(↑(ldN (toNat x0)):Int)=x1/\(↑(ldV (toNat x0)):Int)=IntKind.wrap u32 (qbh BinOp.and u8 x0 x2)/\True
 def zku:=(↑(ldN (toNat x0)):Int)=0/\(↑(ldV (toNat x0)):Int)=0/\True
 def zks:=(0:Int)<=3/\Ji (zil x0 3 30) (zik x0 4 7) (zku x0)
 def zkr:=(0:Int)<=4/\Ji (zil x0 4 14) (zik x0 3 15) (zks x0)
 def zkq:=(0:Int)<=5/\Ji (zil x0 5 6) (zik x0 2 31) (zkr x0)
 def zkp:=Ji (x0<128) (zkt x0) (zkq x0)
end
def z88(c:Int):qky P ((λ_=>none)) Go.Proofs.Tryd.f64 zb3 (λ_=>{}) c=(0<=c/\c<256->zkp c):=by kernel_rfl
def zbm:=λc=>Eq.trans (z88 c) (by delta Ji Jt Jf zkt zil zik zku zks zkr zkq zkp;exact rfl)
def zj8:∀c<256,¬c<128->(decide (shP BinOp.shr IntKind.u8 (c:Nat) 5=6)=(decide (192<=c)&&decide (c<224)))/\(decide (shP BinOp.shr IntKind.u8 (c:Nat) 4=14)=(decide (224<=c)&&decide (c<240)))/\(decide (shP BinOp.shr IntKind.u8 (c:Nat) 3=30)=(decide (240<=c)&&decide (c<248))):=by decide+kernel
def zj9:∀c<256,IntKind.wrap IntKind.u32 ((c:Nat):Int)=(c:Nat)/\(192<=c->c<224->IntKind.wrap IntKind.u32 (qbh BinOp.and IntKind.u8 (c:Nat) 31)=((c- 192:Nat):Int))/\(224<=c->c<240->IntKind.wrap IntKind.u32 (qbh BinOp.and IntKind.u8 (c:Nat) 15)=((c- 224:Nat):Int))/\(240<=c->c<248->IntKind.wrap IntKind.u32 (qbh BinOp.and IntKind.u8 (c:Nat) 7)=((c- 240:Nat):Int)):=by decide+kernel
def zbn:q5b P 64 zb3:=by
 refine ql1 mixed z19 (W:=λ_=>{}) Go.Proofs.Tryd.func64 (by kernel_rfl) (by decide) (by decide) (λc=>by kernel_rfl) λ(c:Int)=>(zbm c).mpr ?_
 rintro⟨h1,h2⟩
 obtain⟨n,rfl⟩:=Int.eq_ofNat_of_zero_le h1
 have hn:n<256:=by omega
 obtain⟨b0,b1,b2,b3⟩:=zj9 n hn
 simp only[Int.toNat_natCast,and_true,decide_eq_true_eq,decide_eq_false_iff_not]
 refine⟨λh=> ?_,λh=>⟨by omega,?_⟩⟩
 ·unfold ldN ldV;rw[if_pos (by omega),if_pos (by omega),b0];simp
 have hg:¬n<128:=by omega
 obtain⟨a1,a2,a3⟩:=zj8 n hn hg
 have a1:(shP BinOp.shr IntKind.u8 (n:Nat) 5=6)↔(192<=n/\n<224):=by
  rw[←decide_eq_true_iff (p:=shP BinOp.shr IntKind.u8 (n:Nat) 5=6),a1];simp
 have a2:(shP BinOp.shr IntKind.u8 (n:Nat) 4=14)↔(224<=n/\n<240):=by
  rw[←decide_eq_true_iff (p:=shP BinOp.shr IntKind.u8 (n:Nat) 4=14),a2];simp
 have a3:(shP BinOp.shr IntKind.u8 (n:Nat) 3=30)↔(240<=n/\n<248):=by
  rw[←decide_eq_true_iff (p:=shP BinOp.shr IntKind.u8 (n:Nat) 3=30),a3];simp
 rw[a1,a2,a3]
 refine⟨λg=> ?_,λg=>⟨by omega,λg2=> ?_,λg2=>⟨by omega,λg3=> ?_,λg3=> ?_⟩⟩⟩
 ·unfold ldN ldV
  rw[if_neg hg,if_pos g,if_neg hg,if_pos g,b1 g.1 g.2];simp
 ·unfold ldN ldV
  rw[if_neg hg,if_neg g,if_pos g2,if_neg hg,if_neg g,if_pos g2,b2 g2.1 g2.2];simp
 ·unfold ldN ldV
  rw[if_neg hg,if_neg g,if_neg g2,if_pos g3,if_neg hg,if_neg g,if_neg g2,if_pos g3,b3 g3.1 g3.2];simp
 ·unfold ldN ldV
  rw[if_neg hg,if_neg g,if_neg g2,if_neg g3,if_neg hg,if_neg g,if_neg g2,if_neg g3];simp
def zen(c:Int):qky P ((λ_=>none)) Go.Proofs.Tryd.f65 cIs (λ_=>{}) c=((0:Int)<=c/\c<(4294967296:Int)->(decide (c<=(1114111:Int))=true->(0:Int)<=(11:Int)/\isC (Int.toNat c)= !decide (shP BinOp.shr IntKind.u32 c (11:Int)=(27:Int))/\True)/\(decide (c<=(1114111:Int))=false->isC (Int.toNat c)=false/\True)):=by kernel_rfl
def zbi:q5b P 65 cIs:=by
 refine ql1 mixed z19 (W:=λ_=>{}) Go.Proofs.Tryd.func65 (by kernel_rfl) (by decide) (by decide) (λc=>by kernel_rfl) λ(c:Int)=>(zen c).mpr ?_
 rintro⟨h1,h2⟩
 obtain⟨n,rfl⟩:=Int.eq_ofNat_of_zero_le h1
 simp only[Int.toNat_natCast,and_true,decide_eq_true_eq,decide_eq_false_iff_not,isC]
 refine⟨λh=>⟨by omega,?_⟩,λh=> ?_⟩
 ·have:shP BinOp.shr IntKind.u32 (n:Nat) 11=((n / 2048:Nat):Int):=by
   show(n:Int).fdiv (2 ^ 11)=_
   rw[Int.fdiv_eq_ediv_of_nonneg _ (by decide)];omega
  rw[this]
  by_cases g:55296<=n/\n<=57343
  ·have e:n / 2048=27:=by omega
   rw[e];simp;omega
  ·have e:n / 2048≠27:=by omega
   have e2:¬((n / 2048:Nat):Int)=27:=by omega
   rw[decide_eq_false e2]
   simp;omega
 ·rw[decide_eq_false (by omega)];rfl
def z59(c:Int):qky P ((λ_=>none)) Go.Proofs.Tryd.f66 z2k (λ_=>{}) c=((0:Int)<=c/\c<(4294967296:Int)->(decide (c<(128:Int))=true->(↑(lnN (toNat c)):Int)=(1:Int)/\True)/\(decide (c<(128:Int))=false->(decide (c<(2048:Int))=true->(↑(lnN (toNat c)):Int)=(2:Int)/\True)/\(decide (c<(2048:Int))=false->(decide (c<(65536:Int))=true->(↑(lnN (toNat c)):Int)=(3:Int)/\True)/\(decide (c<(65536:Int))=false->(↑(lnN (toNat c)):Int)=(4:Int)/\True)))):=by kernel_rfl
def z2z:q5b P 66 z2k:=by
 refine ql1 mixed z19 (W:=λ_=>{}) Go.Proofs.Tryd.func66 (by kernel_rfl) (by decide) (by decide) (λc=>by kernel_rfl) λ(c:Int)=>(z59 c).mpr ?_
 rintro⟨h1,h2⟩
 simp only[and_true,decide_eq_true_eq,decide_eq_false_iff_not,lnN]
 refine⟨λh=> ?_,λh=>⟨λg=> ?_,λg=>⟨λk=> ?_,λk=> ?_⟩⟩⟩
 ·rw[if_pos (by omega)];rfl
 ·rw[if_neg (by omega),if_pos (by omega)];rfl
 ·rw[if_neg (by omega),if_neg (by omega),if_pos (by omega)];rfl
 ·rw[if_neg (by omega),if_neg (by omega),if_neg (by omega)];rfl
def ct1:∀c<256,decide (shP BinOp.shr IntKind.u8 (c:Nat) 6=2)=ctC c:=by decide+kernel
def ct2:∀c<256,ctC c=true->IntKind.wrap IntKind.u32 (qbh BinOp.and IntKind.u8 (c:Nat) 63)=((c- 128:Nat):Int)/\c- 128<64:=by decide+kernel
def z53(s:ByteArray):∀(i r:Nat),vlF s i=some r->i<=4->r<128*64 ^ (i- 1)
  |0,r,h,_=>by simp[vlF]at h;subst h;decide
  | 1,r,h,_=>by
    simp[vlF]at h
    have:=zex (bat s 0)
    rw[h]at this;simpa using this
  | i + 2,r,h,hi=>by
    simp only[vlF]at h
    split at h
    · rename_i q hq
      have ih:=z53 s (i+1) q hq (by omega)
      split at h
      · rename_i hc
        cases h
        have:=z0c s (i+1)
        simp[ctC]at hc
        have e:i+1- 1=i:=by omega
        have e2:i+2- 1=i+1:=by omega
        rw[e]at ih
        rw[e2,Nat.pow_succ]
        omega
      · cases h
    · cases h
def zqv(r d:Nat) (hr:r<67108864) (hd:d<64):qbh BinOp.or IntKind.u32 (shP BinOp.shl IntKind.u32 (r:Int) 6) (d:Int)=((r*64+d:Nat):Int):=by
 have e:shP BinOp.shl IntKind.u32 (r:Int) 6=((r*64:Nat):Int):=by
  show IntKind.u32.wrap ((r:Int)*2 ^ 6)=_
  unfold IntKind.wrap;simp[IntKind.bits,IntKind.signed];omega
 rw[e]
 have h0:=u32_or_nat (r*64) d (by omega) (by omega)
 have h1:qbh BinOp.or IntKind.u32 ((r*64:Nat):Int) (d:Int)=bits .or .u32 ((r*64:Nat):Int) (d:Int):=rfl
 rw[h1,h0]
 congr 1
 have h:=Nat.two_pow_add_eq_or_of_lt (i:=6) (b:=d) hd r
 rw[show 2 ^ 6*r=r*64 by omega]at h
 exact h.symm
def z54(s:ByteArray) (i j:Nat) (hij:i<=j) (h1:1<=i) (h:vlF s i=none):vlF s j=none:=by
  induction j with
  |zero=>omega
  | succ j ih=>
    by_cases e:i=j+1
    · subst e;exact h
    · have:=ih (by omega)
      cases j with
      |zero=>omega
      |succ j=>simp only[vlF];rw[this]
section
variable (x0:ByteArray) (x1:Int×Int)
 abbrev z71:=(↑(ldN (toNat (↑(bat x0 0):Int))):Int)
 def ze7:=(↑(frt x0):Int)=0/\True
 abbrev z94:=(↑(ldV (toNat (↑(bat x0 0):Int))):Int)
 def zco:= !decide (shP BinOp.shr u8 (↑(bat x0 (toNat x1.2)):Int) (6:Int)=2)
 abbrev z93:=IntKind.wrap u32 (qbh BinOp.and u8 (↑(bat x0 (toNat x1.2)):Int) 63)
 def zkz:=(0:Int)<=6/\(0<=x1.2/\x1.2<(↑(size x0):Int))/\Jb (x1.2+1)/\x0=x0/\(z71 x0)=(z71 x0)/\x1.2+1=x1.2+1/\qbh BinOp.or u32 (shP BinOp.shl u32 x1.1 6) (z93 x0 x1)=qbh BinOp.or u32 (shP BinOp.shl u32 x1.1 6) (z93 x0 x1)/\(1<=x1.2+1/\(x1.2+1<=(↑(ldN (bat x0 0)):Int)\/x1.2+1=1)/\∃(i0:Nat),qbh BinOp.or u32 (shP BinOp.shl u32 x1.1 6) (z93 x0 x1)=(↑i0:Int)/\(ldN (bat x0 0)=0\/vlF x0 (toNat (x1.2+1))=some i0))/\(5:Nat)- toNat (x1.2+1)<5- toNat x1.2/\True
 def zky:=(0<=x1.2/\x1.2<(↑(size x0):Int))/\(0:Int)<=6/\((zco x0 x1)=true->ze7 x0)/\((zco x0 x1)=false->zkz x0 x1)
 def zl2:=x1.1=x1.1/\(0<=x1.1/\x1.1<4294967296)/\((!decide ((↑(lnN (toNat x1.1)):Int)=(z71 x0)))=true->ze7 x0)/\((!decide ((↑(lnN (toNat x1.1)):Int)=(z71 x0)))=false->(↑(frt x0):Int)=(z71 x0)/\True)
 def zl1:=x1.1=x1.1/\(0<=x1.1/\x1.1<4294967296)/\((!isC (toNat x1.1))=true->ze7 x0)/\((!isC (toNat x1.1))=false->zl2 x0 x1)
 def zl0:=Ji ((z71 x0)=0) (ze7 x0) (zl1 x0 x1)
 def zkx:=Ji (x1.2<(z71 x0)) (zky x0 x1) (zl0 x0 x1)
 def zkw:=(x0=x0/\(z71 x0)=(z71 x0)/\(1:Int)=1/\(z94 x0)=(z94 x0)/\((1:Int)<=1/\(1<=(↑(ldN (bat x0 0)):Int)\/(1:Int)=1)/\∃(i0:Nat),(z94 x0)=(↑i0:Int)/\(ldN (bat x0 0)=0\/vlF x0 (1:Nat)=some i0))/\True)/\∀(i1:Int×Int),(1<=i1.2/\(i1.2<=(↑(ldN (bat x0 0)):Int)\/i1.2=1)/\∃(i2:Nat),i1.1=(↑i2:Int)/\(ldN (bat x0 0)=0\/vlF x0 (toNat i1.2)=some i2))->zkx x0 i1
 def zkv:=((0:Int)<=0/\0<(↑(size x0):Int))/\(↑(bat x0 0):Int)=(↑(bat x0 0):Int)/\(0<=(↑(bat x0 0):Int)/\(↑(bat x0 0):Int)<256)/\Ji ((↑(size x0):Int)<(z71 x0)) (ze7 x0) (zkw x0)
end
def z64(s:ByteArray):qky P (zam) Go.Proofs.Tryd.f52 z4f (zaq) s=(0<size s/\size s<9223372036854775808->zkv s):=by kernel_rfl
def front_eq:=λs=>Eq.trans (z64 s) (by delta Ji Jb Jt Jf z71 ze7 z94 zco z93 zkz zky zl2 zl1 zl0 zkx zkw zkv;exact rfl)
def z6i:∀g C,zam g=some C->q5b P g C:=qdv (qhn zbn (qhn zbi (qhn z2z qkn)))
def z83:q5b P 52 z4f:=by
 refine ql1 mixed z6i (W:=zaq) Go.Proofs.Tryd.func52 (by kernel_rfl) (by decide) (by decide) (λc=>by kernel_rfl) λ(s:ByteArray)=>(front_eq s).mpr ?_
 rintro⟨h1,h2⟩
 have b0:=z0c s 0
 simp only[Int.toNat_natCast,Int.toNat_zero,and_true,true_and,decide_eq_true_eq,decide_eq_false_iff_not,Bool.not_eq_true',Bool.not_eq_false']
 obtain⟨n,hn⟩:∃n,n=ldN (bat s 0):=⟨_,rfl⟩
 have hn4:=zev (bat s 0)
 have hfr:frt s=if s.size<n then 0 else match vlF s n with
  |none=>0
  |some r=>if n=0\/isC r=false\/lnN r≠n then 0 else n:=by rw[hn];rfl
 rw[←hn]at hn4⊢
 refine⟨by omega,by omega,λg=> ?_,λg=>⟨⟨by omega, .inr trivial,ldV (bat s 0),rfl, .inr rfl⟩,?_⟩⟩
 ·rw[hfr,if_pos (by omega)];rfl
 rintro⟨r,i⟩ ⟨i1,i2,q,hq,hv⟩
 simp only at i1 i2 hq hv⊢
 obtain⟨m,rfl⟩:=Int.eq_ofNat_of_zero_le (show 0<=i by omega)
 have em:((m:Int)+1).toNat=m+1:=by omega
 simp only[Int.toNat_natCast,em]at hv⊢
 subst hq
 simp only[Int.toNat_natCast]at hv⊢
 rw[if_neg (by omega)]at hfr
 refine⟨λk=>⟨by omega,by omega,?_⟩,λk=>⟨λk2=> ?_,λk2=> ?_⟩⟩
 ·have bm:=z0c s m
  have c1:shP BinOp.shr IntKind.u8 ((bat s m:Nat):Int) 6=2↔ctC (bat s m)=true:=by rw[←ct1 (bat s m) bm,decide_eq_true_iff]
  rw[c1]
  have hv:vlF s m=some q:=by
   rcases hv with h|h
   ·omega
   ·exact h
  have hbd:=z53 s m q hv (by omega)
  have hq26:q<67108864:=by
   have:m<=3:=by omega
   rcases m with _|_|_|_|m<;>simp at hbd<;>omega
  obtain⟨m',rfl⟩:∃m',m=m'+1:=⟨m- 1,by omega⟩
  refine⟨λk3=> ?_,λk3=>⟨by omega,by omega,by omega,⟨by omega,by omega,?_⟩,by omega⟩⟩
  ·have:vlF s (m'+2)=none:=by simp only[vlF];rw[hv];simp[k3]
   rw[hfr,z54 s (m'+2) n (by omega) (by omega) this];rfl
  ·obtain⟨c2,c3⟩:=ct2 (bat s (m'+1)) bm k3
   rw[c2]
   refine⟨_,zqv q _ hq26 c3, .inr ?_⟩
   simp only[vlF]
   rw[hv];simp[k3]
 ·have h0:n=0:=by omega
  rw[hfr,h0];simp[vlF]
 ·have hn0:n≠0:=by omega
  have hm:m=n:=by omega
  have hv:vlF s n=some q:=by
   rcases hv with h|h
   ·omega
   ·rw[←hm];exact h
  have hbd:=z53 s n q hv (by omega)
  have hq32:q<4294967296:=by
   rcases n with _|_|_|_|_|n<;>simp at hbd<;>omega
  rw[hv]at hfr
  simp only at hfr
  refine⟨by omega,λk3=> ?_,λk3=>⟨by omega,λk4=> ?_,λk4=> ?_⟩⟩
  ·rw[hfr,if_pos (.inr (.inl k3))];rfl
  ·rw[hfr,if_pos (.inr (.inr (by omega)))];rfl
  ·rw[hfr,if_neg]
   rw[k3];simp;omega
def zac(s:ByteArray):frt s<=s.size:=by
 unfold frt
 split
 ·omega
 ·split
  ·omega
  ·split<;>omega
def z35:∀(f g:Nat) (s:ByteArray),s.size<=f->s.size<=g->z6w f s=z6w g s
  |0,0,s,_,_=>rfl
  |0,g+1,s,h,_=>by rw[z6w,z6w,if_pos (by omega)]
  |f+1,0,s,_,h=>by rw[z6w,z6w,if_pos (by omega)]
  | f +1,g+1,s,h1,h2=>by
    rw[z6w,z6w]
    split
    · rfl
    · split
      · rfl
      · exact z35 f g _ (by simp;omega) (by simp;omega)
def z1t(s:ByteArray) (h:0<s.size):vld s=if frt s=0 then false else vld (s.extract (frt s) s.size):=by
 unfold vld
 obtain⟨f,hf⟩:∃f,s.size=f+1:=⟨s.size- 1,by omega⟩
 rw[hf,z6w,if_neg (by omega)]
 split
 ·rfl
 ·rw[hf]
  refine z35 _ _ _ ?_ (Nat.le_refl _)
  simp;omega
def z6x(s:ByteArray) (h:s.size=0):vld s=true:=by unfold vld;rw[h];rfl
def z91(s:ByteArray):qky P (zfc) Go.Proofs.Tryd.f35 z1j (zaw) s=(size s<(9223372036854775808:Nat)->(s=s/\(size s<=size s/\vld s=vld s)/\True)/\∀(s_1:ByteArray),size s_1<=size s/\vld s_1=vld s->(decide ((0:Int)<(↑(size s_1):Int))=true->s_1=s_1/\((0:Nat)<size s_1/\size s_1<(9223372036854775808:Nat))/\(decide ((↑(frt s_1):Int)=(0:Int))=true->vld s=false/\True)/\(decide ((↑(frt s_1):Int)=(0:Int))=false->((0:Int)<=(↑(frt s_1):Int)/\(↑(frt s_1):Int)<=(↑(size s_1):Int))/\ByteArray.extract s_1 (toNat (↑(frt s_1):Int)) (size s_1)=ByteArray.extract s_1 (toNat (↑(frt s_1):Int)) (size s_1)/\(size (ByteArray.extract s_1 (toNat (↑(frt s_1):Int)) (size s_1))<=size s/\vld (ByteArray.extract s_1 (toNat (↑(frt s_1):Int)) (size s_1))=vld s)/\size (ByteArray.extract s_1 (toNat (↑(frt s_1):Int)) (size s_1))<size s_1/\True))/\(decide ((0:Int)<(↑(size s_1):Int))=false->vld s=true/\True)):=by kernel_rfl
def z92:q5b P 35 z1j:=by
 refine ql1 mixed (qdv (qhn z83 qkn)) (W:=zaw) Go.Proofs.Tryd.func35 (by kernel_rfl) (by decide) (by decide) (λc=>by kernel_rfl) λ(s:ByteArray)=>(z91 s).mpr ?_
 intro h
 simp only[Int.toNat_natCast,and_true,true_and,decide_eq_true_eq,decide_eq_false_iff_not]
 refine⟨Nat.le_refl _,λt ht=>⟨λg=>⟨by omega,λg2=> ?_,λg2=> ?_⟩,λg=> ?_⟩⟩
 ·rw[←ht.2,z1t t (by omega),if_pos (by omega)]
 ·have:=zac t
  rw[←ht.2,z1t t (by omega),if_neg (by omega)]
  refine⟨by omega,⟨?_,rfl⟩,?_⟩
  ·simp;omega
  ·simp;omega
 ·rw[←ht.2];exact z6x t (by omega)
def z1n(x:Int):IntKind.u8.wrap x=x % 256:=by
 unfold IntKind.wrap;simp[IntKind.bits,IntKind.signed]
def tn1(n:Nat):((n:Int)+1).toNat=n+1:=by omega
def wrap32(x:Int):IntKind.u32.wrap x=x % 4294967296:=by
 unfold IntKind.wrap;simp[IntKind.bits,IntKind.signed]
def z4q(b:Nat):(b<128/\ldN b=1/\ldV b=b)\/(192<=b/\b<224/\ldN b=2/\ldV b=b- 192)\/(224<=b/\b<240/\ldN b=3/\ldV b=b- 224)\/(240<=b/\b<248/\ldN b=4/\ldV b=b- 240)\/(((128<=b/\b<192)\/248<=b)/\ldN b=0):=by
 unfold ldN ldV
 repeat' split
 all_goals omega
def zez(n q:Nat) (hn:n=2\/n=3\/n=4) (hq:q<128*64 ^ (n- 1)) (h2:n=2->q<2048) (h3:n=3->q<65536):lnN q=n↔leN n<=q:=by
 unfold lnN leN
 rcases hn with rfl|rfl|rfl
 all_goals (repeat' split)
 all_goals (first|omega| (have:=h2 rfl;omega)| (have:=h3 rfl;omega))
section
variable (x0:ByteArray) (x1:Int×Int) (x2 x3 x4:Int)
 abbrev z2c:=(↑(ptV x0):Int)=0/\(↑(frt x0):Int)=0/\True
 abbrev z72:=IntKind.wrap u32 (↑(bat x0 0):Int)<x2
 def zfy:=(↑(ptV x0):Int)=IntKind.wrap u32 (↑(bat x0 0):Int)/\(↑(frt x0):Int)=1/\True
 abbrev z96:=x2<=IntKind.wrap u32 (↑(bat x0 0):Int)
 abbrev z3w:=(↑(leN (ldN (bat x0 0))):Int)
 abbrev z1o:=(↑(ldN (bat x0 0)):Int)
 def zim:=x0=x0/\(z3w x0)=x2/\(z1o x0)=x3/\(↑(ldV (bat x0 0)):Int)=IntKind.wrap u32 (IntKind.wrap u32 (↑(bat x0 0):Int)- x4)/\(0<size x0/\2<=ldN (bat x0 0))/\True
 abbrev zfz:=Ji (z72 x0 248) (zim x0 65536 4 240) (z2c x0)
 abbrev zjr:=Ji (z96 x0 240) (zfz x0) (z2c x0)
 abbrev zg0:=Ji (z72 x0 240) (zim x0 2048 3 224) (zjr x0)
 abbrev zjq:=Ji (z96 x0 224) (zg0 x0) (zjr x0)
 abbrev zg1:=Ji (z72 x0 224) (zim x0 128 2 192) (zjq x0)
 abbrev zfw:=Ji (z96 x0 192) (zg1 x0) (zjq x0)
 def z97:=(0<=x1.2/\x1.2<(↑(size x0):Int))
 abbrev z95:=IntKind.wrap u32 (x1.1*64)+IntKind.wrap u32 (IntKind.wrap u8 ((↑(bat x0 (toNat x1.2)):Int)- 128))
 def zft:=z97 x0 x1/\Jb (x1.2+1)/\x0=x0/\(z3w x0)=(z3w x0)/\(z1o x0)=(z1o x0)/\x1.2+1=x1.2+1/\IntKind.wrap u32 (z95 x0 x1)=IntKind.wrap u32 (z95 x0 x1)/\(1<=x1.2+1/\x1.2+1<=(z1o x0)/\∃(i0:Nat),IntKind.wrap u32 (z95 x0 x1)=(↑i0:Int)/\vlF x0 (toNat (x1.2+1))=some i0)/\(5:Nat)- toNat (x1.2+1)<5- toNat x1.2/\True
 def zl9:=z97 x0 x1/\Ji (191<(↑(bat x0 (toNat x1.2)):Int)) (z2c x0) (zft x0 x1)
 def zl8:=z97 x0 x1/\Ji ((↑(bat x0 (toNat x1.2)):Int)<128) (z2c x0) (zl9 x0 x1)
 def zcp:=(↑(ptV x0):Int)=x1.1/\(↑(frt x0):Int)=(z1o x0)/\True
 def zg2:=Ji (x1.1<=57343) (z2c x0) (zcp x0 x1)
 def zfx:=Ji (55296<=x1.1) (zg2 x0 x1) (zcp x0 x1)
 def zfv:=Ji (1114111<x1.1) (z2c x0) (zfx x0 x1)
 def zfu:=Ji (x1.1<(z3w x0)) (z2c x0) (zfv x0 x1)
 def zl7:=Ji (x1.2<(z1o x0)) (zl8 x0 x1) (zfu x0 x1)
 def zl6:=(x0=x0/\(z3w x0)=(z3w x0)/\(z1o x0)=(z1o x0)/\(1:Int)=1/\(↑(ldV (bat x0 0)):Int)=(↑(ldV (bat x0 0)):Int)/\((1:Int)<=1/\1<=(z1o x0)/\∃(i0:Nat),(↑(ldV (bat x0 0)):Int)=(↑i0:Int)/\vlF x0 (1:Nat)=some i0)/\True)/\∀(i1:Int×Int),(1<=i1.2/\i1.2<=(z1o x0)/\∃(i2:Nat),i1.1=(↑i2:Int)/\vlF x0 (toNat i1.2)=some i2)->zl7 x0 i1
 def zl5:=Ji ((↑(size x0):Int)<(z1o x0)) (z2c x0) (zl6 x0)
 def zl4:=((0:Int)<=0/\0<(↑(size x0):Int))/\(Ji (z72 x0 128) (zfy x0) (zfw x0))/\∀(i0:Unit),0<size x0/\2<=ldN (bat x0 0)->zl5 x0
 def zl3:=Ji ((↑(size x0):Int)=0) (z2c x0) (zl4 x0)
end
def z6c(s:ByteArray):qky P (λ_=>none) Go.Proofs.Tryd.f80 z4h (zas) s=(size s<9223372036854775808->zl3 s):=by kernel_rfl
def z8j:=λs=>Eq.trans (z6c s) (by delta Ji Jb Jt Jf z2c z72 zfy z96 z3w z1o zim zfz zjr zg0 zjq zg1 zfw z97 z95 zft zl9 zl8 zcp zg2 zfx zfv zfu zl7 zl6 zl5 zl4 zl3;exact rfl)
def zew(b:Nat):(ldN b=2->ldV b<32)/\(ldN b=3->ldV b<16):=by
 have:=z4q b;omega
def zjn(s:ByteArray) (q:Nat) (h:vlF s 2=some q) (h2:ldN (bat s 0)=2):q<2048:=by
 have b:=(zew (bat s 0)).1 h2
 simp only[vlF]at h
 split at h
 ·rename_i hc
  have hb:=z0c s 1
  simp only[ctC,Bool.and_eq_true,decide_eq_true_eq]at hc
  cases h
  simp only[Nat.zero_add]at hc⊢
  omega
 ·cases h
def zjo(s:ByteArray) (q:Nat) (h:vlF s 3=some q) (h2:ldN (bat s 0)=3):q<65536:=by
 have b:=(zew (bat s 0)).2 h2
 simp only[vlF]at h
 split at h
 ·rename_i r hr
  split at hr
  ·cases hr
   rename_i hc0
   split at h
   ·rename_i hc
    have hb:=z0c s 1
    have hb2:=z0c s 2
    simp only[ctC,Bool.and_eq_true,decide_eq_true_eq]at hc hc0
    cases h
    simp only[Nat.zero_add,show 1+1=2 from rfl]at hc hc0⊢
    omega
   ·cases h
  ·cases hr
 ·cases h
def z1k(q:Nat):isC q=true↔q<=1114111/\¬(55296<=q/\q<=57343):=by
 simp[isC];omega
def zek(b:Nat):ctC b=true↔128<=b/\b<192:=by simp[ctC]
def z8k:q5b P 80 z4h:=by
 refine ql1 mixed z19 (W:=zas) Go.Proofs.Tryd.func80 (by kernel_rfl) (by decide) (by decide) (λc=>by kernel_rfl) λ(s:ByteArray)=>(z8j s).mpr ?_
 intro h2
 have b0:=z0c s 0
 obtain⟨n,hn⟩:∃n,n=ldN (bat s 0):=⟨_,rfl⟩
 have hc:=z4q (bat s 0)
 have hz:frt s=0->ptV s=0:=λh=>by unfold ptV;rw[if_pos h]
 have hfr:frt s=if s.size<n then 0 else match vlF s n with
  |none=>0
  |some r=>if n=0\/isC r=false\/lnN r≠n then 0 else n:=by rw[hn];rfl
 rw[←hn]at hc
 have A0:s.size=0->frt s=0:=λh=>by
  have:=z01 (s:=s) (j:=0) (by omega)
  rw[hfr,if_pos (by omega)]
 have A1:s.size≠0->bat s 0<128->ptV s=bat s 0/\frt s=1:=λh h1=>by
  have e1:n=1:=by omega
  have ev:ldV (bat s 0)=bat s 0:=by omega
  have ef:frt s=1:=by
   rw[hfr,if_neg (by omega),e1]
   simp only[vlF]
   rw[ev,if_neg]
   have hi:=(z1k (bat s 0)).mpr (by omega)
   have hl:lnN (bat s 0)=1:=by unfold lnN;rw[if_pos h1]
   rw[hi,hl];simp
  refine⟨?_,ef⟩
  unfold ptV
  rw[if_neg (by omega),ef]
  simp only[vlF,ev];rfl
 have A5:n=0->frt s=0:=λh=>by
  rw[hfr,if_neg (by omega),h];simp[vlF]
 have hle:(n=2->leN n=128)/\(n=3->leN n=2048)/\(n=4->leN n=65536):=by
  refine⟨λh=> ?_,λh=> ?_,λh=> ?_⟩<;>rw[h]<;>rfl
 have e0:IntKind.u32.wrap (bat s 0:Nat)=(bat s 0:Nat):=by rw[wrap32];omega
 simp only[Int.toNat_natCast,Int.toNat_zero,and_true,true_and,decide_eq_true_eq,decide_eq_false_iff_not,Bool.not_eq_true',Bool.not_eq_false',e0,←hn]
 refine⟨?_,λg0=>⟨by omega,?_,?_⟩⟩
 ·intro h;have:=A0 (by omega);have:=hz this;omega
 ·simp only[wrap32]
  clear hfr A0 e0
  rcases hc with⟨c1,c2,c3⟩|⟨c0,c1,c2,c3⟩|⟨c0,c1,c2,c3⟩|⟨c0,c1,c2,c3⟩|⟨c1,c2⟩
  ·obtain⟨p,f⟩:=A1 (by omega) c1
   clear A1 A5 hle hz
   refine⟨λ_=>by omega,λh=>absurd (by omega) h⟩
  ·have l:=hle.1 c2
   clear A1 A5 hle hz
   refine⟨λh=>by omega,λh=>⟨λ_=>⟨λ_=>by omega,λk=>absurd (by omega) k⟩,λk=>absurd (by omega) k⟩⟩
  ·have l:=hle.2.1 c2
   clear A1 A5 hle hz
   refine⟨λh=>by omega,λh=>⟨λ_=>⟨λk=>by omega,λ_=>⟨λ_=>⟨λ_=>by omega,λk=>absurd (by omega) k⟩,λk=>absurd (by omega) k⟩⟩,λk=>absurd (by omega) k⟩⟩
  ·have l:=hle.2.2 c2
   clear A1 A5 hle hz
   refine⟨λh=>by omega,λh=>⟨λ_=>⟨λk=>by omega,λ_=>⟨λ_=>⟨λk=>by omega,λ_=>⟨λ_=>⟨λ_=>by omega,λk=>absurd (by omega) k⟩,λk=>absurd (by omega) k⟩⟩,λk=>absurd (by omega) k⟩⟩,λk=>absurd (by omega) k⟩⟩
  ·have f:=A5 c2
   have p:=hz f
   clear A1 A5 hle hz
   repeat' first|intro _|apply And.intro
   all_goals omega
 ·clear A0 A1 A5
  rintro _ ⟨g1,g2⟩
  have Z:frt s=0->((ptV s:Nat):Int)=0/\((frt s:Nat):Int)=0:=λh=>by have:=hz h;omega
  refine⟨λk=>Z ?_,λk=>⟨⟨by omega,by omega,ldV (bat s 0),rfl,rfl⟩,?_⟩⟩
  ·rw[hfr,if_pos (by omega)]
  rw[if_neg (by omega)]at hfr
  rintro⟨v,i⟩ ⟨i1,i2,q,hq,hv⟩
  simp only at i1 i2 hq hv⊢
  obtain⟨m,rfl⟩:=Int.eq_ofNat_of_zero_le (show 0<=i by omega)
  subst hq
  simp only[Int.toNat_natCast,tn1]at hv⊢
  have hbd:=z53 s m q hv (by omega)
  have bm:=z0c s m
  obtain⟨m',rfl⟩:∃m',m=m'+1:=⟨m- 1,by omega⟩
  have cn:¬(128<=bat s (m'+1)/\bat s (m'+1)<192)->((m'+1:Nat):Int)<n->frt s=0:=λh hl=>by
   have:vlF s (m'+2)=none:=by
    simp only[vlF];rw[hv];simp only[]
    rw[if_neg (by rw[zek];exact h)]
   rw[hfr,z54 s (m'+2) n (by omega) (by omega) this]
  refine⟨λk1=>⟨by omega,λk2=>Z (cn (by omega) k1),λk2=>⟨by omega,λk3=>Z (cn (by omega) k1),λk3=>⟨by omega,by omega,⟨by omega,by omega,?_⟩,by omega⟩⟩⟩,λk1=> ?_⟩
  ·have hq26:q<67108864:=by
    have:m'+1<=3:=by omega
    rcases m' with _|_|_|m'<;>simp at hbd<;>omega
   refine⟨q*64+(bat s (m'+1)- 128),?_,?_⟩
   ·rw[z1n,wrap32,wrap32,wrap32];omega
   ·simp only[vlF];rw[hv];simp only[]
    rw[if_pos (by rw[zek];omega)]
  ·have em:m'+1=n:=by omega
   rw[em]at hv hbd
   rw[hv]at hfr
   simp only at hfr
   have nn:n=2\/n=3\/n=4:=by omega
   have ln:=zez n q nn hbd (λh=>zjn s q (h ▸ hv) (by omega)) (λh=>zjo s q (h ▸ hv) (by omega))
   have ic:=z1k q
   have bad:¬(leN n<=q)\/¬(q<=1114111/\¬(55296<=q/\q<=57343))->frt s=0:=λh=>by
    rw[hfr,if_pos]
    rcases h with h|h
    ·exact .inr (.inr λe=>h (ln.mp e))
    ·exact .inr (.inl (by rw[←Bool.not_eq_true];exactλe=>h (ic.mp e)))
   have good:leN n<=q->(q<=1114111/\¬(55296<=q/\q<=57343))->((ptV s:Nat):Int)=q/\((frt s:Nat):Int)=n:=λh1 h2=>by
    have ef:frt s=n:=by
     rw[hfr,if_neg]
     rw[ic.mpr h2,ln.mpr h1];simp;omega
    refine⟨?_,by omega⟩
    unfold ptV
    rw[if_neg (by omega),ef,hv];rfl
   refine⟨λc1=>Z (bad (.inl (by omega))),λc1=>⟨λc2=>Z (bad (.inr (by omega))),λc2=>⟨λc3=>⟨λc4=>Z (bad (.inr (by omega))),λc4=>good (by omega) (by omega)⟩,λc3=>good (by omega) (by omega)⟩⟩⟩
def z6u(s:ByteArray):qky P (qg8 [(80,z4h)]) Go.Proofs.Tryd.f62 z1j (z70) s=(size s<(9223372036854775808:Nat)->(s=s/\(size s<=size s/\vld s=vld s)/\True)/\∀(s_1:ByteArray),size s_1<=size s/\vld s_1=vld s->(decide ((0:Int)<(↑(size s_1):Int))=true->s_1=s_1/\size s_1<(9223372036854775808:Nat)/\(decide ((↑(frt s_1):Int)=(0:Int))=true->vld s=false/\True)/\(decide ((↑(frt s_1):Int)=(0:Int))=false->((0:Int)<=(↑(frt s_1):Int)/\(↑(frt s_1):Int)<=(↑(size s_1):Int))/\ByteArray.extract s_1 (toNat (↑(frt s_1):Int)) (size s_1)=ByteArray.extract s_1 (toNat (↑(frt s_1):Int)) (size s_1)/\(size (ByteArray.extract s_1 (toNat (↑(frt s_1):Int)) (size s_1))<=size s/\vld (ByteArray.extract s_1 (toNat (↑(frt s_1):Int)) (size s_1))=vld s)/\size (ByteArray.extract s_1 (toNat (↑(frt s_1):Int)) (size s_1))<size s_1/\True))/\(decide ((0:Int)<(↑(size s_1):Int))=false->vld s=true/\True)):=by kernel_rfl
def z6v:q5b P 62 z1j:=by
 refine ql1 mixed (qdv (qhn z8k qkn)) (W:=z70) Go.Proofs.Tryd.func62 (by kernel_rfl) (by decide) (by decide) (λc=>by kernel_rfl) λ(s:ByteArray)=>(z6u s).mpr ?_
 intro h
 simp only[Int.toNat_natCast,and_true,true_and,decide_eq_true_eq,decide_eq_false_iff_not]
 refine⟨Nat.le_refl _,λt ht=>⟨λg=>⟨by omega,λg2=> ?_,λg2=> ?_⟩,λg=> ?_⟩⟩
 ·rw[←ht.2,z1t t (by omega),if_pos (by omega)]
 ·have:=zac t
  rw[←ht.2,z1t t (by omega),if_neg (by omega)]
  refine⟨by omega,⟨?_,rfl⟩,?_⟩
  ·simp;omega
  ·simp;omega
 ·rw[←ht.2];exact z6x t (by omega)
section
abbrev svV(x:SV):Value:= .slice x.1 x.2.1 x.2.2
abbrev svA(x:SV):AV:= .sv (.slice x.1 x.2.1 x.2.2)
def txV(s:ByteArray):List Value:=[.string s]
def slP{α:Type} (f:α->List Value) (x:SV) (l:List α) (p:Pub):Prop:=x.2.1=l.length/\qhq p x.1 x.2.1 x.2.2 (z00 f l)
variable {α:Type}
def z4x{f:α->List Value} {x:SV} {l:List α} {p q:Pub} (h:Pub.le p q) (e:slP f x l p):slP f x l q:=⟨e.1,q55 h e.2⟩
def z4w{f:α->List Value} {e:Nat} (hf:∀x,(f x).length=e) (he:0<e) {p:Pub} {x:SV} {l:List α} (h:slP f x l p) {i:Nat} (hi:i<l.length):x.1≠noA/\q3g p (adr x.1 (i*e)) (f l[i]):=z5a hf he h.2 hi
def z2q{f:α->List Value} {p:Pub}:slP f (none,0,0) [] p:=⟨rfl,Nat.le_refl _, .inl ⟨rfl,zaz⟩⟩
inductive GJ where
 |mk (k n:Int) (s:ByteArray) (y:SV) (l:List GJ) (x:SV) (nm:List ByteArray)
def GJ.k:GJ->Int| .mk k _ _ _ _ _ _=>k
def GJ.n:GJ->Int| .mk _ n _ _ _ _ _=>n
def GJ.s:GJ->ByteArray| .mk _ _ s _ _ _ _=>s
def GJ.y:GJ->SV| .mk _ _ _ y _ _ _=>y
def GJ.l:GJ->List GJ| .mk _ _ _ _ l _ _=>l
def GJ.x:GJ->SV| .mk _ _ _ _ _ x _=>x
def GJ.nm:GJ->List ByteArray| .mk _ _ _ _ _ _ nm=>nm
def GJ.cells(g:GJ):List Value:=[.int .i64 g.k, .int .i64 g.n, .string g.s,svV g.y,svV g.x]
def GJ.av(g:GJ):AV:= .agg [.sv (.int .i64 g.k), .sv (.int .i64 g.n), .sv (.string g.s),svA g.y,svA g.x]
mutual
def GJ.ok:GJ->Pub->Prop
 | .mk k n s y l x nm,p=>slP GJ.cells y l p/\slP txV x nm p/\GJ.oks l p
def GJ.oks:List GJ->Pub->Prop
 | [],_=>True
 |g::l,p=>GJ.ok g p/\GJ.oks l p
end
mutual
def GJ.ok_mono:∀{g:GJ} {p q:Pub},Pub.le p q->g.ok p->g.ok q
  | .mk k n s y l x nm,p,q,h,e=>by
    unfold GJ.ok at e⊢
    exact⟨z4x h e.1,z4x h e.2.1,GJ.oks_mono h e.2.2⟩
def GJ.oks_mono:∀{l:List GJ} {p q:Pub},Pub.le p q->GJ.oks l p->GJ.oks l q
  | [],p,q,h,e=>by unfold GJ.oks;trivial
  | g::l,p,q,h,e=>by
    unfold GJ.oks at e⊢
    exact⟨GJ.ok_mono h e.1,GJ.oks_mono h e.2⟩
end
def z24(s:ByteArray):(txV s).length=1:=rfl
def z0j(g:GJ):g.cells.length=5:=rfl
end
def bsL(l:List Nat):ByteArray:=⟨⟨l.map UInt8.ofNat⟩⟩
def hx(c:Nat):Nat:=if 48<=c/\c<=57 then c- 48 else if 97<=c/\c<=102 then c- 87 else if 65<=c/\c<=70 then c- 55 else 16
def hx0(c:Nat):Nat:=if hx c<16 then hx c else 0
def hxI(c:Nat):Int:=if hx c<16 then hx c else -1
def zb1:Ct:=ctS Int (λc=>[.int .u8 c]) f1i (λc=>0<=c/\c<256) (λ_=>{}) λc=> .tup [.sv (.int .u32 (hx0 c.toNat:Nat)), .sv (.bool (decide (hx c.toNat<16)))]
def zb2:Ct:=ctS Int (λc=>[.int .u8 c]) f1i (λc=>0<=c/\c<256) (λ_=>{}) λc=> .sv (.int .i64 (hxI c.toNat))
def upF(v:ByteArray):Nat->Nat
 |0=>0
 |k+1=>upF v k*16+hx (bat v (2+k))
def z3t(v:ByteArray):Bool:=decide (6<=v.size)&&decide (bat v 0=92)&&decide (bat v 1=117)
def unF(v:ByteArray):Option Nat:=if z3t v=true then(if hx (bat v 2)<16/\hx (bat v 3)<16/\hx (bat v 4)<16/\hx (bat v 5)<16 then some (upF v 4)else none)else none
def z1i:Ct:=ctS ByteArray (λs=>[.string s]) f1s (λs=>s.size<1000000) (λ_=>{}) λs=> .tup [.sv (.int .u32 ((unF s).getD 0:Nat)), .sv (.bool (unF s).isSome)]
def unI(v:ByteArray) (u i:Int):Prop:=∃k:Nat,i=2+k/\k<=4/\u=(upF v k:Nat)/\∀j,j<k->hx (bat v (2+j))<16
def z6z:z1i.σ->WayF:=λv=>{ann:=λ_ _ _=>some {σ:=Int×Int,pre:=λ⟨u,i⟩=>unI v u i,find:=some λt _=>match slI t 4 with|some u=>(match slI t 5 with|some i=>some (u,i)|none=>none)|none=>none,t:=λ⟨u,i⟩=>[(4, .sv (.int .u32 u)),(5, .sv (.int .i64 i))],h:=λ_=>[],more:=0,μ:=λ⟨u,i⟩=>6- i.toNat,keep:=[0]}}
def byF(c:Nat):Option Nat:=if c=34\/c=92\/c=47 then some c else if c=98 then some 8 else if c=102 then some 12 else if c=110 then some 10 else if c=114 then some 13 else if c=116 then some 9 else none
def z3l:Ct:=ctS Int (λc=>[.int .u8 c]) f1i (λc=>0<=c/\c<256) (λ_=>{}) λc=> .tup [.sv (.int .u8 ((byF c.toNat).getD 0:Nat)), .sv (.bool (byF c.toNat).isSome)]
def ptL(r:Nat):List Nat:=if r<128 then [r]else if r<2048 then [192+r / 64,128+r % 64]else if r<65536 then [224+r / 4096,128+r / 64 % 64,128+r % 64]else [240+r / 262144,128+r / 4096 % 64,128+r / 64 % 64,128+r % 64]
def zb4:Ct:=ctS Int (λc=>[.int .u32 c]) f1i (λc=>0<=c/\c<4294967296) (λ_=>{}) λc=> .sv (.int .u8 ((128+c.toNat % 64:Nat):Int))
def z57:Ct:=ctS Int (λc=>[.int .u32 c]) f1i (λc=>0<=c/\c<4294967296/\isC c.toNat=true) (λ_=>{}) λc=> .sv (.string (mkS (ptL c.toNat)))
def z2h(v:ByteArray):Option (List Nat×Nat):=
  if v.size<2 then none else
  if bat v 1≠117 then(match byF (bat v 1)with|some c=>some ([c],2)|none=>none)else
  match unF v with
  |none=>none
  | some a=>if isC a=true then some (ptL a,6)else if 56320<=a then none else
    match unF (v.extract 6 v.size)with
    |none=>none
    |some b=>if 56320<=b/\b<=57343 then some (ptL (65536+(a- 55296)*1024+(b- 56320)),12)else none
def esB(v:ByteArray):ByteArray:=match z2h v with
 |some x=>mkS x.1
 |none=>mkS []
def esN(v:ByteArray):Nat:=match z2h v with
 |some x=>x.2
 |none=>0
def z3m:Ct:=ctS ByteArray (λs=>[.string s]) f1s (λs=>s.size<1000000/\(0<s.size->bat s 0=92)) (λ_=>{}) λs=> .tup [.sv (.string (esB s)), .sv (.int .i64 (esN s:Nat))]
def zkl(l:List Nat) (n:Nat):Nat×ByteArray×Nat:=if vld (bsL l)=true then(0,bsL l,n)else(2,mkS [],0)
def z5x:Ct:=ctS (ByteArray×Int) (λ⟨s,n⟩=>[.string s, .int .i64 n]) fsi (λ⟨s,n⟩=>s.size<1000000) (λ_=>{}) λ⟨s,n⟩=> .tup [.sv (.string (if vld s=true then s else mkS [])), .sv (.int .i64 (if vld s=true then n else 0)), .sv (.int .i64 (if vld s=true then 0 else 2))]
def uqG (u:ByteArray):Nat->Nat->List Nat->Option (List Nat×Nat)
  |0,_,_=>none
  | f + 1,i,acc=>if i<u.size then
      if bat u i=34 then some (acc,i+1)else if bat u i<32 then none else if bat u i=92 then
        match z2h (u.extract i u.size)with
        |some x=>uqG u f (i+x.2) (acc++x.1)
        |none=>none
      else uqG u f (i+1) (acc++[bat u i])
    else none
def uqE(u:ByteArray) (i:Nat) (acc:List Nat):Option (List Nat×Nat):=uqG u (u.size+1- i) i acc
def uqR(u:ByteArray):Nat×ByteArray×Nat:=if u.size=0 then(2,mkS [],0)else if bat u 0≠34 then(2,mkS [],0)else match uqE u 1 []with
 |some x=>zkl x.1 x.2
 |none=>(2,mkS [],0)
def za9:Ct:=ctS ByteArray (λs=>[.string s]) f1s (λs=>s.size<100000) (λ_=>{}) λs=> .tup [.sv (.string (uqR s).2.1), .sv (.int .i64 ((uqR s).2.2:Nat)), .sv (.int .i64 ((uqR s).1:Nat))]
def zfj(t:T AV) (h:T AO):Option (List Value×Int):=match slI t 6 with
  | some j=>match t.get 5 with
    | some (.ssl id _ _ _ _)=>match h.get id with
      |some (.row _ _ vs)=>some (vs,j)
      | some (.cells _ _ _ l)=>match qar.concs l with
        |some vs=>some (vs,j)
        |none=>none
      |_=>none
    |some .nsl=>some ([],j)
    |_=>none
  |none=>none
def z6s(u:ByteArray) (vs:List Value) (j:Int):Prop:=∃l:List Nat,vs=q1c (bsL l)/\(∀c∈l,c<256)/\1<=j/\j<=u.size+12/\l.length<=j.toNat/\uqE u j.toNat l=uqE u 1 []
def zko:za9.σ->WayF:=λu=>{
 ann:=λ_ _ _=>some {σ:=List Value×Int,pre:=λ⟨vs,j⟩=>z6s u vs j,find:=some zfj,t:=λ⟨vs,j⟩=>[(5, .ssl 1 0 vs.length 1 2),(6, .sv (.int .i64 j))],h:=λ⟨vs,j⟩=>[(1, .row 5 0 vs)],more:=2,μ:=λ⟨vs,j⟩=>u.size+13- j.toNat,keep:=[0]}}
def zfa:Nat->Option Ct:=qg8 [(88,zb1)]
def zjh:Nat->Option Ct:=qg8 [(65,cIs),(66,z2k),(89,zb4)]
def zjd:Nat->Option Ct:=qg8 [(65,cIs),(72,z3l),(73,z1i),(74,z57)]
def zqy:Nat->Option Ct:=qg8 [(58,z3m),(57,z5x)]
def zf8:Nat->Option Ct:=qg8 [(35,z1j)]
def zfq:z1i.σ->WayF:=λv=>{ann:=λ_ _ _=>some {σ:=Int×Int,pre:=λ⟨u,i⟩=>unI v u i,find:=some λt _=>match slI t 4 with|some u=>(match slI t 5 with|some i=>some (u,i)|none=>none)|none=>none,t:=λ⟨u,i⟩=>[(4, .sv (.int .u32 u)),(5, .sv (.int .i64 i))],h:=λ_=>[],more:=0,μ:=λ⟨u,i⟩=>6- i.toNat,keep:=[0]}}
def frL:List Nat:=[34,92,47,98,102,110,114,116]
def zfl:z3m.σ->WayF:=λv=>{ann:=λ_ _ _=>some {σ:=Int,pre:=λi=>0<=i/\i<=8/\∀m,m<i.toNat->frL[m]?≠some (bat v 1),find:=some λt _=>slI t 6,t:=λi=>[(6, .sv (.int .i64 i))],h:=λ_=>[],more:=0,μ:=λi=>8- i.toNat,keep:=[0,4,5]}}
def zfr:za9.σ->WayF:=λu=>{
 ann:=λ_ _ _=>some {σ:=ByteArray×Int,pre:=λ⟨o,j⟩=>∃l:List Nat,o=bsL l/\(∀c∈l,c<256)/\1<=j/\j<=u.size+12/\l.length<=j.toNat/\uqE u j.toNat l=uqE u 1 [],find:=some λt _=>match slS t 5 with|some o=>(match slI t 6 with|some j=>some (o,j)|none=>none)|none=>none,t:=λ⟨o,j⟩=>[(5, .sv (.string o)),(6, .sv (.int .i64 j))],h:=λ_=>[],more:=0,μ:=λ⟨o,j⟩=>u.size+13- j.toNat,keep:=[0]}}
def zfb:Nat->Option Ct:=qg8 [(95,zb2)]
def zje:Nat->Option Ct:=qg8 [(81,z1i),(82,z57)]
def zjk:Nat->Option Ct:=qg8 [(63,z3m),(62,z1j)]
section
variable (x0 x1:Int)
 abbrev zlc:=(↑(hx0 (toNat x0)):Int)=IntKind.wrap u32 (IntKind.wrap u8 (x0- 48))/\Jt (hx (toNat x0)<16)/\True
 def zju:=(↑(hx0 (toNat x0)):Int)=IntKind.wrap u32 (IntKind.wrap u32 (IntKind.wrap u8 (x0- x1))+10)/\Jt (hx (toNat x0)<16)/\True
 def zjv:=(↑(hx0 (toNat x0)):Int)=0/\Jf (hx (toNat x0)<16)/\True
 def zle:=Ji (x0<=70) (zju x0 65) (zjv x0)
 def zjt:=Ji (65<=x0) (zle x0) (zjv x0)
 def zld:=Ji (x0<=102) (zju x0 97) (zjt x0)
 def zjs:=Ji (97<=x0) (zld x0) (zjt x0)
 def zlb:=Ji (x0<=57) (zlc x0) (zjs x0)
 def zla:=Ji (48<=x0) (zlb x0) (zjs x0)
end
def z7w(c:Int):qky P (λ_=>none) Go.Proofs.Tryd.f88 zb1 (λ_=>{}) c=(0<=c/\c<256->zla c):=by kernel_rfl
def zb6:=λc=>Eq.trans (z7w c) (by delta Ji Jt Jf zlc zju zjv zle zjt zld zjs zlb zla;exact rfl)
section
variable (x0 x1:Int)
 abbrev zlh:=Jb (IntKind.wrap u8 (x0- 48))/\hxI (toNat x0)=IntKind.wrap u8 (x0- 48)/\True
 def zjx:=Jb (IntKind.wrap u8 (x0- x1))/\Jb (IntKind.wrap u8 (x0- x1)+10)/\hxI (toNat x0)=IntKind.wrap u8 (x0- x1)+10/\True
 def zjz:=hxI (toNat x0)= -1/\True
 def zli:=Ji (x0<=70) (zjx x0 65) (zjz x0)
 def zjy:=Ji (65<=x0) (zli x0) (zjz x0)
 def zlj:=Ji (x0<=102) (zjx x0 97) (zjy x0)
 def zjw:=Ji (97<=x0) (zlj x0) (zjy x0)
 def zlg:=Ji (x0<=57) (zlh x0) (zjw x0)
 def zlf:=Ji (48<=x0) (zlg x0) (zjw x0)
end
def z7x(c:Int):qky P (λ_=>none) Go.Proofs.Tryd.f95 zb2 (λ_=>{}) c=(0<=c/\c<256->zlf c):=by kernel_rfl
def zb8:=λc=>Eq.trans (z7x c) (by delta Ji Jb Jt Jf zlh zjx zjz zli zjy zlj zjw zlg zlf;exact rfl)
section
variable (x0:ByteArray) (x1:Int×Int)
 abbrev zg3:=(↑(Option.getD (unF x0) 0):Int)=0/\Option.isSome (unF x0)=false/\True
 abbrev z7q:=(↑(bat x0 (toNat x1.2)):Int)
 def zlq:=(0:Int)<=4/\Jb (x1.2+1)/\x0=x0/\x1.2+1=x1.2+1/\qbh BinOp.or u32 (shP BinOp.shl u32 x1.1 4) (↑(hx0 (toNat (z7q x0 x1))):Int)=qbh BinOp.or u32 (shP BinOp.shl u32 x1.1 4) (↑(hx0 (toNat (z7q x0 x1))):Int)/\unI x0 (qbh BinOp.or u32 (shP BinOp.shl u32 x1.1 4) (↑(hx0 (toNat (z7q x0 x1))):Int)) (x1.2+1)/\(6:Nat)- toNat (x1.2+1)<6- toNat x1.2/\True
 def zlp:=(0<=x1.2/\x1.2<(↑(size x0):Int))/\(z7q x0 x1)=(z7q x0 x1)/\(0<=(z7q x0 x1)/\(z7q x0 x1)<256)/\((!decide (hx (toNat (z7q x0 x1))<16))=true->zg3 x0)/\((!decide (hx (toNat (z7q x0 x1))<16))=false->zlq x0 x1)
 def zlo:=Ji (x1.2<6) (zlp x0 x1) ((↑(Option.getD (unF x0) 0):Int)=x1.1/\Option.isSome (unF x0)=true/\True)
 def zln:=(x0=x0/\(2:Int)=2/\(0:Int)=0/\unI x0 0 2/\True)/\∀(i0:Int×Int),unI x0 i0.1 i0.2->zlo x0 i0
 def zlm:=((0:Int)<=1/\1<(↑(size x0):Int))/\((!decide ((↑(bat x0 1):Int)=117))=true->zg3 x0)/\((!decide ((↑(bat x0 1):Int)=117))=false->zln x0)
 def zll:=((0:Int)<=0/\0<(↑(size x0):Int))/\((!decide ((↑(bat x0 0):Int)=92))=true->zg3 x0)/\((!decide ((↑(bat x0 0):Int)=92))=false->zlm x0)
 def zlk:=Ji ((↑(size x0):Int)<6) (zg3 x0) (zll x0)
end
def z6p(v:ByteArray):qky P (zfa) Go.Proofs.Tryd.f73 z1i (z6z) v=(size v<1000000->zlk v):=by kernel_rfl
def z8v:=λv=>Eq.trans (z6p v) (by delta Ji Jb Jt Jf zg3 z7q zlq zlp zlo zln zlm zll zlk;exact rfl)
section
variable (x0:ByteArray) (x1:Int×Int)
 abbrev zg4:=(↑(Option.getD (unF x0) 0):Int)=0/\Option.isSome (unF x0)=false/\True
 abbrev zcq:=(↑(bat x0 (toNat x1.2)):Int)
 abbrev zin:=IntKind.wrap u32 (x1.1*16)+IntKind.wrap u32 (hxI (toNat (zcq x0 x1)))
 def zlx:=Jb (x1.2+1)/\x0=x0/\x1.2+1=x1.2+1/\IntKind.wrap u32 (zin x0 x1)=IntKind.wrap u32 (zin x0 x1)/\unI x0 (IntKind.wrap u32 (zin x0 x1)) (x1.2+1)/\(6:Nat)- toNat (x1.2+1)<6- toNat x1.2/\True
 def zlw:=(0<=x1.2/\x1.2<(↑(size x0):Int))/\(zcq x0 x1)=(zcq x0 x1)/\(0<=(zcq x0 x1)/\(zcq x0 x1)<256)/\Ji (hxI (toNat (zcq x0 x1))<0) (zg4 x0) (zlx x0 x1)
 def zlv:=Ji (x1.2<6) (zlw x0 x1) ((↑(Option.getD (unF x0) 0):Int)=x1.1/\Option.isSome (unF x0)=true/\True)
 def zlu:=(x0=x0/\(2:Int)=2/\(0:Int)=0/\unI x0 0 2/\True)/\∀(i0:Int×Int),unI x0 i0.1 i0.2->zlv x0 i0
 def zlt:=((0:Int)<=1/\1<(↑(size x0):Int))/\((!decide ((↑(bat x0 1):Int)=117))=true->zg4 x0)/\((!decide ((↑(bat x0 1):Int)=117))=false->zlu x0)
 def zls:=((0:Int)<=0/\0<(↑(size x0):Int))/\((!decide ((↑(bat x0 0):Int)=92))=true->zg4 x0)/\((!decide ((↑(bat x0 0):Int)=92))=false->zlt x0)
 def zlr:=Ji ((↑(size x0):Int)<6) (zg4 x0) (zls x0)
end
def z6q(v:ByteArray):qky P (zfb) Go.Proofs.Tryd.f81 z1i (zfq) v=(size v<1000000->zlr v):=by kernel_rfl
def z8x:=λv=>Eq.trans (z6q v) (by delta Ji Jb Jt Jf zg4 zcq zin zlx zlw zlv zlu zlt zls zlr;exact rfl)
section
variable (x0 x1:Int)
 abbrev z98:=(↑(Option.getD (byF (toNat x0)) 0):Int)
 def zm5:=(z98 x0)=x0/\Option.isSome (byF (toNat x0))=true/\True
 def ze8:=(z98 x0)=x1/\Option.isSome (byF (toNat x0))=true/\True
 def zm4:=(z98 x0)=0/\Option.isSome (byF (toNat x0))=false/\True
 def zm2:=Ji (x0=116) (ze8 x0 9) (zm4 x0)
 def zm1:=Ji (x0=114) (ze8 x0 13) (zm2 x0)
 def zm0:=Ji (x0=110) (ze8 x0 10) (zm1 x0)
 def zlz:=Ji (x0=102) (ze8 x0 12) (zm0 x0)
 def zly:=Ji (x0=98) (ze8 x0 8) (zlz x0)
 def zio:=Ji (x0=x1) (zm5 x0) (zly x0)
 def zg5:=Ji (x0=92) (zio x0 92) (zio x0 47)
 def zm3:=Ji (x0=34) (zio x0 34) (zg5 x0)
end
def z56(c:Int):qky P (λ_=>none) Go.Proofs.Tryd.f72 z3l (λ_=>{}) c=(0<=c/\c<256->zm3 c):=by kernel_rfl
def z5v:=λc=>Eq.trans (z56 c) (by delta Ji Jt Jf z98 zm5 ze8 zm4 zm2 zm1 zm0 zlz zly zio zg5 zm3;exact rfl)
def zca(c:Int):qky P (λ_=>none) Go.Proofs.Tryd.f89 zb4 (λ_=>{}) c=((0:Int)<=c/\c<(4294967296:Int)->(↑((128:Nat)+Int.toNat c % (64:Nat)):Int)=qbh BinOp.or IntKind.u8 (128:Int) (qbh BinOp.and IntKind.u8 (IntKind.wrap IntKind.u8 c) (63:Int))/\True):=by kernel_rfl
section
variable (x0 x1:Int) (x2:Prop) (x3:Int) (x4:ByteArray)
 abbrev z5e:=x0=x0/\(0<=x0/\x0<4294967296)/\x2
 def z9c:=(65533:Int)=65533/\((0:Int)<=65533/\(65533:Int)<4294967296)/\x2
 abbrev z9b:=(↑(lnN 65533):Int)=x0
 abbrev z3x:=(2:Int) ^ min 6 (IntKind.bits u32)
 abbrev z9f:=(↑((128:Nat)+65533 % 64):Int)
 def z37:=mkS (ptL (toNat x0))=x4/\True
 def zg7:=z9c (∃i0,size i0=2/\qhf [int u8 (IntKind.wrap u8 (↑(BitVec.toNat (BitVec.ofInt (IntKind.bits u8) 192|||BitVec.ofInt (IntKind.bits u8) (IntKind.wrap u8 (Int.fdiv 65533 (z3x))))):Int)),int u8 (z9f)] 0 (q1c i0)/\z37 x0 i0)
 def zcr:=Int.fdiv 65533 (z3x)=Int.fdiv 65533 (z3x)/\(0<=Int.fdiv 65533 (z3x)/\Int.fdiv 65533 (z3x)<4294967296)/\z9c x2
 abbrev z3y:=(2:Int) ^ min 12 (IntKind.bits u32)
 abbrev zcs:=(↑((128:Nat)+toNat (Int.fdiv 65533 (z3x)) % 64):Int)
 def zmf:=zcr (∃i0,size i0=3/\qhf [int u8 (IntKind.wrap u8 (↑(BitVec.toNat (BitVec.ofInt (IntKind.bits u8) 224|||BitVec.ofInt (IntKind.bits u8) (Int.fdiv 65533 (z3y)))):Int)),int u8 (zcs),int u8 (z9f)] 0 (q1c i0)/\z37 x0 i0)
 def zmd:=Int.fdiv 65533 (z3y)=Int.fdiv 65533 (z3y)/\(0<=Int.fdiv 65533 (z3y)/\Int.fdiv 65533 (z3y)<4294967296)/\zcr (∃i0,size i0=4/\qhf [int u8 (IntKind.wrap u8 (↑(BitVec.toNat (BitVec.ofInt (IntKind.bits u8) 240|||BitVec.ofInt (IntKind.bits u8) (Int.fdiv 65533 ((2:Int) ^ min 18 (IntKind.bits u32))))):Int)),int u8 (↑((128:Nat)+toNat (Int.fdiv 65533 (z3y)) % 64):Int),int u8 (zcs),int u8 (z9f)] 0 (q1c i0)/\z37 x0 i0)
 abbrev zma:=Ji (z9b 3) (zmf x0) (zmd x0)
 abbrev zm8:=Ji (z9b 2) (zg7 x0) (zma x0)
 def zm7:=z9c (Ji (z9b 1) (mkS (ptL (toNat x0))=mkS [253]/\True) (zm8 x0))
 abbrev z9e:=(↑(lnN (toNat x0)):Int)=x1
 abbrev z9a:=qbh BinOp.or u8 x1 (IntKind.wrap u8 (shP BinOp.shr u32 x0 x3))
 abbrev z9g:=(↑((128:Nat)+toNat x0 % 64):Int)
 def zg8:=(0:Int)<=6/\z5e x0 (∃i0,size i0=2/\qhf [int u8 (z9a x0 192 6),int u8 (z9g x0)] 0 (q1c i0)/\z37 x0 i0)
 def z99:=0<=x1/\shP BinOp.shr u32 x0 x1=shP BinOp.shr u32 x0 x1/\(0<=shP BinOp.shr u32 x0 x1/\shP BinOp.shr u32 x0 x1<4294967296)/\x2
 abbrev z9d:=(↑((128:Nat)+toNat (shP BinOp.shr u32 x0 x1) % 64):Int)
 def zg6:=(0:Int)<=12/\z99 x0 6 (z5e x0 (∃i0,size i0=3/\qhf [int u8 (z9a x0 224 12),int u8 (z9d x0 6),int u8 (z9g x0)] 0 (q1c i0)/\z37 x0 i0))
 def zme:=(0:Int)<=18/\z99 x0 12 (z99 x0 6 (z5e x0 (∃i0,size i0=4/\qhf [int u8 (z9a x0 240 18),int u8 (z9d x0 12),int u8 (z9d x0 6),int u8 (z9g x0)] 0 (q1c i0)/\z37 x0 i0)))
 abbrev zmc:=Ji (z9e x0 3) (zg6 x0) (zme x0)
 abbrev zmb:=Ji (z9e x0 2) (zg8 x0) (zmc x0)
 def zm9:=z5e x0 (Ji (z9e x0 1) (∃i0,size i0=1/\qhf [int u8 (IntKind.wrap u8 x0)] 0 (q1c i0)/\z37 x0 i0) (zmb x0))
 def zm6:=z5e x0 (((!isC (toNat x0))=true->zm7 x0)/\((!isC (toNat x0))=false->zm9 x0))
end
def z8l(c:Int):qky P (zjh) Go.Proofs.Tryd.f74 z57 (λ_=>{}) c=(0<=c/\c<4294967296/\isC (toNat c)=true->zm6 c):=by kernel_rfl
def zc5:=λc=>Eq.trans (z8l c) (by delta Ji Jt Jf z5e z9c z9b z3x z9f z37 zg7 zcr z3y zcs zmf zmd zma zm8 zm7 z9e z9a z9g zg8 z99 z9d zg6 zme zmc zmb zm9 zm6;exact rfl)
section
variable (x0 x1 x2:Int) (x3:Prop)
 abbrev zct:=mkS (ptL (toNat x0))=mkS [239,191,189]/\True
 def z3z:=x0≠0/\x1≠0/\x3
 abbrev ziq:=IntKind.wrap u8 (IntKind.wrap u32 (x1+IntKind.wrap u32 (Int.tdiv x0 x2)))
 abbrev z9h:=IntKind.wrap u8 (IntKind.wrap u32 ((128:Int)+Int.tmod x0 64))
 def zmk:=z3z 64 64 (∃i0,size i0=2/\qhf [int u8 (ziq x0 192 64),int u8 (z9h x0)] 0 (q1c i0)/\mkS (ptL (toNat x0))=i0/\True)
 abbrev zip:=IntKind.wrap u8 (IntKind.wrap u32 ((128:Int)+Int.tmod (IntKind.wrap u32 (Int.tdiv x0 x1)) 64))
 def zmj:=z3z 4096 64 (z3z 64 64 (∃i0,size i0=3/\qhf [int u8 (ziq x0 224 4096),int u8 (zip x0 64),int u8 (z9h x0)] 0 (q1c i0)/\mkS (ptL (toNat x0))=i0/\True))
 def zmi:=z3z 262144 4096 (z3z 64 64 (z3z 64 64 (∃i0,size i0=4/\qhf [int u8 (ziq x0 240 262144),int u8 (zip x0 4096),int u8 (zip x0 64),int u8 (z9h x0)] 0 (q1c i0)/\mkS (ptL (toNat x0))=i0/\True)))
 def zmh:=Ji (x0<65536) (zmj x0) (zmi x0)
 def zmg:=Ji (x0<2048) (zmk x0) (zmh x0)
 def zk0:=Ji (x0<128) (∃i0,size i0=1/\qhf [int u8 (IntKind.wrap u8 x0)] 0 (q1c i0)/\mkS (ptL (toNat x0))=i0/\True) (zmg x0)
 def zg9:=Ji (x0<=57343) (zct x0) (zk0 x0)
 def zmm:=Ji (55296<=x0) (zg9 x0) (zk0 x0)
 def zml:=Ji (1114111<x0) (zct x0) (zmm x0)
end
def z8m(c:Int):qky P (λ_=>none) Go.Proofs.Tryd.f82 z57 (λ_=>{}) c=(0<=c/\c<4294967296/\isC (toNat c)=true->zml c):=by kernel_rfl
def zc7:=λc=>Eq.trans (z8m c) (by delta Ji Jt Jf zct z3z ziq z9h zmk zip zmj zmi zmh zmg zk0 zg9 zmm zml;exact rfl)
section
variable (x0:ByteArray)
 abbrev z40:=esB x0=mkS []/\(↑(esN x0):Int)=0/\True
 def zmv:=((0:Int)<=1/\1<(↑(size x0):Int))/\(↑(bat x0 1):Int)=(↑(bat x0 1):Int)/\(0<=(↑(bat x0 1):Int)/\(↑(bat x0 1):Int)<256)/\((!Option.isSome (byF (toNat (↑(bat x0 1):Int))))=true->z40 x0)/\((!Option.isSome (byF (toNat (↑(bat x0 1):Int))))=false->∃i0,size i0=1/\qhf [int u8 (↑(Option.getD (byF (toNat (↑(bat x0 1):Int))) 0):Int)] 0 (q1c i0)/\esB x0=i0/\(↑(esN x0):Int)=2/\True)
 abbrev z0y:=(↑(Option.getD (unF x0) 0):Int)
 def zga:=(z0y x0)=(z0y x0)/\(0<=(z0y x0)/\(z0y x0)<4294967296/\isC (toNat (z0y x0))=true)/\esB x0=mkS (ptL (toNat (z0y x0)))/\(↑(esN x0):Int)=6/\True
 abbrev z5f:=ByteArray.extract x0 6 (size x0)
 def zcu:= !decide (shP BinOp.shr u32 (↑(Option.getD (unF (z5f x0)) 0):Int) (10:Int)=55)
 abbrev zcv:=IntKind.wrap u32 ((65536:Int)+shP BinOp.shl u32 (qbh BinOp.and u32 (z0y x0) 1023) 10)+qbh BinOp.and u32 (↑(Option.getD (unF (z5f x0)) 0):Int) 1023
 def zmu:=(0:Int)<=10/\IntKind.wrap u32 (zcv x0)=IntKind.wrap u32 (zcv x0)/\(0<=IntKind.wrap u32 (zcv x0)/\IntKind.wrap u32 (zcv x0)<4294967296/\isC (toNat (IntKind.wrap u32 (zcv x0)))=true)/\esB x0=mkS (ptL (toNat (IntKind.wrap u32 (zcv x0))))/\(↑(esN x0):Int)=12/\True
 def zmt:=(0:Int)<=10/\((zcu x0)=true->z40 x0)/\((zcu x0)=false->zmu x0)
 def zms:=(0:Int)<=10/\((!decide (shP BinOp.shr u32 (z0y x0) (10:Int)=54))=true->z40 x0)/\((!decide (shP BinOp.shr u32 (z0y x0) (10:Int)=54))=false->zmt x0)
 def zmr:=((0:Int)<=6/\6<=(↑(size x0):Int))/\ByteArray.extract x0 6 (size x0)=ByteArray.extract x0 6 (size x0)/\size (z5f x0)<1000000/\((!Option.isSome (unF (z5f x0)))=true->z40 x0)/\((!Option.isSome (unF (z5f x0)))=false->zms x0)
 def zmq:=(z0y x0)=(z0y x0)/\(0<=(z0y x0)/\(z0y x0)<4294967296)/\(isC (toNat (z0y x0))=true->zga x0)/\(isC (toNat (z0y x0))=false->zmr x0)
 def zmp:=x0=x0/\size x0<1000000/\((!Option.isSome (unF x0))=true->z40 x0)/\((!Option.isSome (unF x0))=false->zmq x0)
 def zmo:=((0:Int)<=1/\1<(↑(size x0):Int))/\((!decide ((↑(bat x0 1):Int)=117))=true->zmv x0)/\((!decide ((↑(bat x0 1):Int)=117))=false->zmp x0)
 def zmn:=Ji ((↑(size x0):Int)<2) (z40 x0) (zmo x0)
end
def z80(v:ByteArray):qky P (zjd) Go.Proofs.Tryd.f58 z3m (λ_=>{}) v=(size v<1000000/\(0<size v->bat v (0:Nat)=92)->zmn v):=by kernel_rfl
def zba:=λv=>Eq.trans (z80 v) (by delta Ji Jt Jf z40 zmv z0y zga z5f zcu zcv zmu zmt zms zmr zmq zmp zmo zmn;exact rfl)
section
variable (x0:ByteArray) (x1:Int)
 abbrev z41:=esB x0=mkS []/\(↑(esN x0):Int)=0/\True
 abbrev z9i:=mkS [34,92,47,98,102,110,114,116]
 abbrev zgh:=x1<Int.ofNat (length (List.map UInt8.toNat (Array.toList (ByteArray.data (z9i)))))
 abbrev zcy:=Jb (x1+1)
 abbrev zcx:=mkS [34,92,47,8,12,10,13,9]
 def zgd:=zcy x1/\(0<=x1/\x1<=x1+1/\x1+1<=(↑(size (zcx)):Int))/\esB x0=ByteArray.extract (zcx) (toNat x1) (toNat (x1+1))/\(↑(esN x0):Int)=2/\True
 def zge:=zcy x1/\x0=x0/\x1+1=x1+1/\(0<=x1+1/\x1+1<=8/\∀(i0:Nat),i0<toNat (x1+1)->frL[i0]?≠some (bat x0 1))/\(8:Nat)- toNat (x1+1)<8- toNat x1/\True
 def zgb:=(0<=x1/\x1<(↑(size (z9i)):Int))/\((0:Int)<=1/\1<(↑(size x0):Int))/\Ji ((↑(bat (z9i) (toNat x1)):Int)=(↑(bat x0 1):Int)) (zgd x0 x1) (zge x0 x1)
 abbrev z1p:=(↑(Option.getD (unF x0) 0):Int)
 def zcw:=(z1p x0)=(z1p x0)/\(0<=(z1p x0)/\(z1p x0)<4294967296/\isC (toNat (z1p x0))=true)/\esB x0=mkS (ptL (toNat (z1p x0)))/\(↑(esN x0):Int)=6/\True
 abbrev z73:=ByteArray.extract x0 6 (size x0)
 abbrev z9j:=(↑(Option.getD (unF (z73 x0)) 0):Int)
 abbrev zcz:=IntKind.wrap u32 (IntKind.wrap u32 ((65536:Int)+IntKind.wrap u32 (IntKind.wrap u32 ((z1p x0)- 55296)*1024))+(z9j x0))- 56320
 def zn3:=IntKind.wrap u32 (zcz x0)=IntKind.wrap u32 (zcz x0)/\(0<=IntKind.wrap u32 (zcz x0)/\IntKind.wrap u32 (zcz x0)<4294967296/\isC (toNat (IntKind.wrap u32 (zcz x0)))=true)/\esB x0=mkS (ptL (toNat (IntKind.wrap u32 (zcz x0))))/\(↑(esN x0):Int)=12/\True
 def zn1:=Ji (57343<(z9j x0)) (z41 x0) (zn3 x0)
 def zmz:=Ji ((z9j x0)<56320) (z41 x0) (zn1 x0)
 def zmx:=((0:Int)<=6/\6<=(↑(size x0):Int))/\ByteArray.extract x0 6 (size x0)=ByteArray.extract x0 6 (size x0)/\size (z73 x0)<1000000/\((!Option.isSome (unF (z73 x0)))=true->z41 x0)/\((!Option.isSome (unF (z73 x0)))=false->zmz x0)
 def zmw:=Ji (57343<(z1p x0)) (zcw x0) (zmx x0)
 def zk1:=Ji ((z1p x0)<55296) (zcw x0) (zmw x0)
 def zgg:=Ji ((z1p x0)<=57343) (z41 x0) (zk1 x0)
 def zgf:=Ji (56320<=(z1p x0)) (zgg x0) (zk1 x0)
 def zgc:=x0=x0/\size x0<1000000/\((!Option.isSome (unF x0))=true->z41 x0)/\((!Option.isSome (unF x0))=false->zgf x0)
 abbrev zn2:=Ji (zgh x1) (zgb x0 x1) (zgc x0)
 def zn0:=(x0=x0/\(0:Int)=0/\((0:Int)<=0/\(0:Int)<=8/\∀(i0:Nat),i0<0->frL[i0]?≠some (bat x0 1))/\True)/\∀(i1:Int),(0<=i1/\i1<=8/\∀(i2:Nat),i2<toNat i1->frL[i2]?≠some (bat x0 1))->zn2 x0 i1
 def zmy:=Ji ((↑(size x0):Int)<2) (z41 x0) (zn0 x0)
end
def z81(v:ByteArray):qky P (zje) Go.Proofs.Tryd.f63 z3m (zfl) v=(size v<1000000/\(0<size v->bat v (0:Nat)=92)->zmy v):=by kernel_rfl
def zbc:=λv=>Eq.trans (z81 v) (by delta Ji Jb Jt Jf z41 z9i zgh zcy zcx zgd zge zgb z1p zcw z73 z9j zcz zn3 zn1 zmz zmx zmw zk1 zgg zgf zgc zn2 zn0 zmy;exact rfl)
def z7y(s:ByteArray) (n:Int):qky P (zf8) Go.Proofs.Tryd.f57 z5x (λ_=>{}) ⟨s,n⟩=(size s<(1000000:Nat)->s=s/\size s<(9223372036854775808:Nat)/\((!vld s)=true->(if vld s=true then s else mkS [])=mkS []/\(if vld s=true then n else(0:Int))=(0:Int)/\(if vld s=true then(0:Int)else(2:Int))=(2:Int)/\True)/\((!vld s)=false->(if vld s=true then s else mkS [])=s/\(if vld s=true then n else(0:Int))=n/\(if vld s=true then(0:Int)else(2:Int))=(0:Int)/\True)):=by kernel_rfl
section
variable (x0:ByteArray) (x1:List Value×Int)
 abbrev ze9:=(uqR x0).2.1=mkS []/\(↑(uqR x0).2.2:Int)=0/\(↑(uqR x0).1:Int)=2/\True
 abbrev z38:=(↑(bat x0 (toNat x1.2)):Int)
 abbrev zd0:=Jb (x1.2+1)
 abbrev z0z:=ByteArray.extract x0 (toNat x1.2) (size x0)
 def znc:=length x1.1=length x1.1*1/\(length x1.1+size (esB (z0z x0 x1)))*1<=140737488355328/\Jb (x1.2+(↑(esN (z0z x0 x1)):Int))/\x0=x0/\length (x1.1++q1c (esB (z0z x0 x1)))=length x1.1+size (esB (z0z x0 x1))/\x1.2+(↑(esN (z0z x0 x1)):Int)=x1.2+(↑(esN (z0z x0 x1)):Int)/\x1.1++q1c (esB (z0z x0 x1))=x1.1++q1c (esB (z0z x0 x1))/\z6s x0 (x1.1++q1c (esB (z0z x0 x1))) (x1.2+(↑(esN (z0z x0 x1)):Int))/\size x0+13- toNat (x1.2+(↑(esN (z0z x0 x1)):Int))<size x0+13- toNat x1.2/\True
 def znb:=(0<=x1.2/\x1.2<=(↑(size x0):Int))/\ByteArray.extract x0 (toNat x1.2) (size x0)=ByteArray.extract x0 (toNat x1.2) (size x0)/\(size (z0z x0 x1)<1000000/\(0<size (z0z x0 x1)->bat (z0z x0 x1) (0:Nat)=92))/\Ji ((↑(esN (z0z x0 x1)):Int)=0) (ze9 x0) (znc x0 x1)
 def zgi:=length x1.1=length x1.1*1/\(length x1.1+nat_lit 1)*1<=140737488355328/\zd0 x1/\x0=x0/\length (x1.1++[int u8 (z38 x0 x1)])=length x1.1+nat_lit 1/\x1.2+1=x1.2+1/\x1.1++[int u8 (z38 x0 x1)]=x1.1++[int u8 (z38 x0 x1)]/\z6s x0 (x1.1++[int u8 (z38 x0 x1)]) (x1.2+1)/\size x0+13- toNat (x1.2+1)<size x0+13- toNat x1.2/\True
 def zna:=Ji ((z38 x0 x1)=92) (znb x0 x1) (zgi x0 x1)
 def zn9:=Ji ((z38 x0 x1)<32) (ze9 x0) (zna x0 x1)
 abbrev zn8:=(0<=x1.2/\x1.2<(↑(size x0):Int))/\Ji ((z38 x0 x1)=34) (∃i0,size i0=length x1.1/\qhf x1.1 (nat_lit 0) (q1c i0)/\zd0 x1/\i0=i0/\x1.2+1=x1.2+1/\size i0<1000000/\((uqR x0).2.1=if vld i0=true then i0 else mkS [])/\((↑(uqR x0).2.2:Int)=if vld i0=true then x1.2+1 else 0)/\((↑(uqR x0).1:Int)=if vld i0=true then 0 else 2)/\True) (zn9 x0 x1)
 def zn7:=Ji (x1.2<(↑(size x0):Int)) (zn8 x0 x1) (ze9 x0)
 def zn6:=(x0=x0/\nat_lit 0=0/\(1:Int)=1/\z6s x0 [] 1/\True)/\∀(i0:List Value×Int),z6s x0 i0.1 i0.2->zn7 x0 i0
 def zn5:=((0:Int)<=0/\0<(↑(size x0):Int))/\((!decide ((↑(bat x0 0):Int)=34))=true->ze9 x0)/\((!decide ((↑(bat x0 0):Int)=34))=false->zn6 x0)
 def zn4:=Ji ((↑(size x0):Int)=0) (ze9 x0) (zn5 x0)
end
def zcl(u:ByteArray):qky P (zqy) Go.Proofs.Tryd.f46 za9 (zko) u=(size u<100000->zn4 u):=by kernel_rfl
def zfh:=λu=>Eq.trans (zcl u) (by delta Ji Jb Jt Jf ze9 z38 zd0 z0z znc znb zgi zna zn9 zn8 zn7 zn6 zn5 zn4;exact rfl)
section
variable (x0:ByteArray) (x1:ByteArray×Int) (x2:List Nat)
 abbrev zd1:=(uqR x0).2.1=mkS []/\(↑(uqR x0).2.2:Int)=0/\(↑(uqR x0).1:Int)=2/\True
 def z74:=(∀(i0:Nat),i0∈x2->i0<256)
 abbrev z75:=(↑(bat x0 (toNat x1.2)):Int)
 abbrev z9k:=Jb (x1.2+1)
 def zgl:=z9k x1/\(uqR x0).2.1=x1.1/\(↑(uqR x0).2.2:Int)=x1.2+1/\(↑(uqR x0).1:Int)=0/\True
 def zgk:=x1.1=x1.1/\size x1.1<9223372036854775808/\((!vld x1.1)=true->zd1 x0)/\((!vld x1.1)=false->zgl x0 x1)
 abbrev z5g:=toNat (x1.2+1)
 def zgj:=z9k x1/\(0<=x1.2/\x1.2<=x1.2+1/\x1.2+1<=(↑(size x0):Int))/\size x1.1+size (ByteArray.extract x0 (toNat x1.2) (z5g x1))<=9223372036854775807/\z9k x1/\x0=x0/\x1.1++ByteArray.extract x0 (toNat x1.2) (z5g x1)=x1.1++ByteArray.extract x0 (toNat x1.2) (z5g x1)/\x1.2+1=x1.2+1/\(∃(i0:List Nat),x1.1++ByteArray.extract x0 (toNat x1.2) (z5g x1)=bsL i0/\z74 i0/\1<=x1.2+1/\x1.2+1<=(↑(size x0):Int)+12/\length i0<=toNat (x1.2+1)/\uqE x0 (z5g x1) i0=uqE x0 1 [])/\size x0+13- toNat (x1.2+1)<size x0+13- toNat x1.2/\True
 abbrev z0w:=ByteArray.extract x0 (toNat x1.2) (size x0)
 def znl:=size x1.1+size (esB (z0w x0 x1))<=9223372036854775807/\Jb (x1.2+(↑(esN (z0w x0 x1)):Int))/\x0=x0/\x1.1++esB (z0w x0 x1)=x1.1++esB (z0w x0 x1)/\x1.2+(↑(esN (z0w x0 x1)):Int)=x1.2+(↑(esN (z0w x0 x1)):Int)/\(∃(i0:List Nat),x1.1++esB (z0w x0 x1)=bsL i0/\z74 i0/\1<=x1.2+(↑(esN (z0w x0 x1)):Int)/\x1.2+(↑(esN (z0w x0 x1)):Int)<=(↑(size x0):Int)+12/\length i0<=toNat (x1.2+(↑(esN (z0w x0 x1)):Int))/\uqE x0 (toNat (x1.2+(↑(esN (z0w x0 x1)):Int))) i0=uqE x0 1 [])/\size x0+13- toNat (x1.2+(↑(esN (z0w x0 x1)):Int))<size x0+13- toNat x1.2/\True
 def znk:=(0<=x1.2/\x1.2<=(↑(size x0):Int))/\ByteArray.extract x0 (toNat x1.2) (size x0)=ByteArray.extract x0 (toNat x1.2) (size x0)/\(size (z0w x0 x1)<1000000/\(0<size (z0w x0 x1)->bat (z0w x0 x1) (0:Nat)=92))/\Ji ((↑(esN (z0w x0 x1)):Int)=0) (zd1 x0) (znl x0 x1)
 def znj:=((!decide ((z75 x0 x1)=92))=true->zgj x0 x1)/\((!decide ((z75 x0 x1)=92))=false->znk x0 x1)
 def zni:=Ji ((z75 x0 x1)<32) (zd1 x0) (znj x0 x1)
 def znh:=(0<=x1.2/\x1.2<(↑(size x0):Int))/\Ji ((z75 x0 x1)=34) (zgk x0 x1) (zni x0 x1)
 def zng:=Ji (x1.2<(↑(size x0):Int)) (znh x0 x1) (zd1 x0)
 def znf:=(x0=x0/\mkS []=mkS []/\(1:Int)=1/\(∃(i0:List Nat),mkS []=bsL i0/\z74 i0/\(1:Int)<=1/\1<=(↑(size x0):Int)+12/\length i0<=1/\uqE x0 1 i0=uqE x0 1 [])/\True)/\∀(i2:ByteArray×Int),(∃(i3:List Nat),i2.1=bsL i3/\z74 i3/\1<=i2.2/\i2.2<=(↑(size x0):Int)+12/\length i3<=toNat i2.2/\uqE x0 (toNat i2.2) i3=uqE x0 1 [])->zng x0 i2
 def zne:=((0:Int)<=0/\0<(↑(size x0):Int))/\((!decide ((↑(bat x0 0):Int)=34))=true->zd1 x0)/\((!decide ((↑(bat x0 0):Int)=34))=false->znf x0)
 def znd:=Ji ((↑(size x0):Int)=0) (zd1 x0) (zne x0)
end
def z8z(u:ByteArray):qky P (zjk) Go.Proofs.Tryd.f49 za9 (zfr) u=(size u<100000->znd u):=by kernel_rfl
def zcj:=λu=>Eq.trans (z8z u) (by delta Ji Jb Jt Jf zd1 z74 z75 z9k zgl zgk z5g zgj z0w znl znk znj zni znh zng znf zne znd;exact rfl)
section
def z4n(n:Nat):((48<=n/\n<=57)/\hx n=n- 48)\/((97<=n/\n<=102)/\hx n=n- 87)\/((65<=n/\n<=70)/\hx n=n- 55)\/(¬(48<=n/\n<=57)/\¬(97<=n/\n<=102)/\¬(65<=n/\n<=70)/\hx n=16):=by
 unfold hx
 by_cases h1:48<=n/\n<=57
 ·exact .inl ⟨h1,if_pos h1⟩
 ·rw[if_neg h1]
  by_cases h2:97<=n/\n<=102
  ·exact .inr (.inl ⟨h2,if_pos h2⟩)
  ·rw[if_neg h2]
   by_cases h3:65<=n/\n<=70
   ·exact .inr (.inr (.inl ⟨h3,if_pos h3⟩))
   ·exact .inr (.inr (.inr ⟨h1,h2,h3,if_neg h3⟩))
def z4m(n:Nat):(hx n<16->hx0 n=hx n/\hxI n=hx n)/\(¬hx n<16->hx0 n=0/\hxI n= -1):=by
 unfold hx0 hxI
 constructor
 ·intro h;rw[if_pos h,if_pos h];exact⟨rfl,rfl⟩
 ·intro h;rw[if_neg h,if_neg h];exact⟨rfl,rfl⟩
def zb7:q5b P 88 zb1:=by
 refine ql1 mixed z19 (W:=λ_=>{}) Go.Proofs.Tryd.func88 (by kernel_rfl) (by decide) (by decide) (λs=>by kernel_rfl) λ(c:Int)=>(zb6 c).mpr ?_
 rintro⟨h0,h1⟩
 obtain⟨n,rfl⟩:=Int.eq_ofNat_of_zero_le h0
 have a:=z4n n
 have b:=z4m n
 simp only[sbS,Int.toNat_natCast,exists_const,z1n,wrap32]
 repeat' first|intro _|apply And.intro
 all_goals omega
def zb9:q5b P 95 zb2:=by
 refine ql1 mixed z19 (W:=λ_=>{}) Go.Proofs.Tryd.func95 (by kernel_rfl) (by decide) (by decide) (λs=>by kernel_rfl) λ(c:Int)=>(zb8 c).mpr ?_
 rintro⟨h0,h1⟩
 obtain⟨n,rfl⟩:=Int.eq_ofNat_of_zero_le h0
 have a:=z4n n
 have b:=z4m n
 simp only[sbS,Int.toNat_natCast,exists_const,z1n,wrap32]
 repeat' first|intro _|apply And.intro
 all_goals omega
def z90{v:ByteArray}:∀(k:Nat),(∀j,j<k->hx (bat v (2+j))<16)->k<=4->upF v k<65536/\(k<=3->upF v k<4096)/\(k<=2->upF v k<256)/\(k<=1->upF v k<16)/\(k=0->upF v k=0)
  |0,_,_=>by unfold upF;omega
  | k+1,h,h4=>by
    have ih:=z90 k (λj hj=>h j (by omega)) (by omega)
    have:=h k (by omega)
    have e:k=0\/k=1\/k=2\/k=3:=by omega
    rw[upF]
    rcases e with rfl|rfl|rfl|rfl<;>omega
def zqu(r d:Nat) (hr:r<65536) (hd:d<16):qbh BinOp.or IntKind.u32 (shP BinOp.shl IntKind.u32 (r:Int) 4) (d:Int)=((r*16+d:Nat):Int):=by
 have e:shP BinOp.shl IntKind.u32 (r:Int) 4=((r*16:Nat):Int):=by
  show IntKind.u32.wrap ((r:Int)*2 ^ 4)=_
  unfold IntKind.wrap;simp[IntKind.bits,IntKind.signed];omega
 rw[e]
 have h0:=u32_or_nat (r*16) d (by omega) (by omega)
 have h1:qbh BinOp.or IntKind.u32 ((r*16:Nat):Int) (d:Int)=bits .or .u32 ((r*16:Nat):Int) (d:Int):=rfl
 rw[h1,h0]
 congr 1
 have h:=Nat.two_pow_add_eq_or_of_lt (i:=4) (b:=d) hd r
 rw[show 2 ^ 4*r=r*16 by omega]at h
 exact h.symm
variable {v:ByteArray}
def z14(h:z3t v=false):unF v=none:=by unfold unF;rw[if_neg (by rw[h];simp)]
def zap(k:Nat) (hk:k<4) (h:¬hx (bat v (2+k))<16):unF v=none:=by
 unfold unF
 split
 ·rw[if_neg]
  rintro⟨a,b,c,d⟩
  have:k=0\/k=1\/k=2\/k=3:=by omega
  rcases this with rfl|rfl|rfl|rfl<;>contradiction
 ·rfl
def z6o(h:z3t v=true) (hd:∀j,j<4->hx (bat v (2+j))<16):unF v=some (upF v 4):=by
 unfold unF
 rw[if_pos h,if_pos ⟨hd 0 (by omega),hd 1 (by omega),hd 2 (by omega),hd 3 (by omega)⟩]
def z5d{a:Nat} (h:unF v=some a):a<65536/\6<=v.size:=by
 unfold unF at h
 split at h
 ·rename_i h1
  split at h
  ·rename_i h2
   cases h
   refine⟨(z90 4 (λj hj=> ?_) (by omega)).1,?_⟩
   ·have:j=0\/j=1\/j=2\/j=3:=by omega
    rcases this with rfl|rfl|rfl|rfl
    ·exact h2.1
    ·exact h2.2.1
    ·exact h2.2.2.1
    ·exact h2.2.2.2
   ·unfold z3t at h1
    simp only[Bool.and_eq_true,decide_eq_true_eq]at h1;exact h1.1.1
  ·cases h
 ·cases h
def z8w:q5b P 73 z1i:=by
 refine ql1 mixed (qdv (qhn zb7 qkn)) (W:=z6z) Go.Proofs.Tryd.func73 (by kernel_rfl) (by decide) (by decide) (λs=>by kernel_rfl) λ(v:ByteArray)=>(z8v v).mpr ?_
 intro hsz
 have no:unF v=none->(((unF v).getD 0:Nat):Int)=0/\(unF v).isSome=false:=λh=>by rw[h];exact⟨rfl,rfl⟩
 simp only[sbS,Int.toNat_natCast,exists_const]
 refine⟨λh=>no (z14 ?_),λh1=>⟨by omega,λh=>no (z14 ?_),λh2=>⟨by omega,λh=>no (z14 ?_),λh3=>⟨⟨0,rfl,by omega,rfl,λj hj=>by omega⟩,?_⟩⟩⟩⟩
 ·unfold z3t;rw[decide_eq_false (by omega)];rfl
 ·unfold z3t;rw[decide_eq_false (p:=bat v 0=92) (by omega),Bool.and_false,Bool.false_and]
 ·unfold z3t;rw[decide_eq_false (p:=bat v 1=117) (by omega),Bool.and_false]
 have ok:z3t v=true:=by unfold z3t;rw[decide_eq_true (by omega),decide_eq_true (by omega),decide_eq_true (by omega)];rfl
 rintro⟨_,_⟩ ⟨k,rfl,hk,rfl,hd⟩
 have e1:((2:Int)+(k:Nat)).toNat=2+k:=by omega
 have b:=z0c v (2+k)
 simp only[e1,Int.toNat_natCast]
 refine⟨λhlt=>⟨by omega,by omega,λhb=>no (zap k (by omega) (by omega)),λhg=>⟨by omega,by omega,⟨k+1,by omega,by omega,?_,λj hj=> ?_⟩,by omega⟩⟩,λhge=> ?_⟩
 ·rw[(z4m _).1 hg|>.1,zqu _ _ (z90 k hd (by omega)).1 hg];rfl
 ·by_cases hjk:j=k
  ·subst hjk;exact hg
  ·exact hd j (by omega)
 ·have hk4:k=4:=by omega
  subst hk4
  rw[z6o ok hd];exact⟨rfl,rfl⟩
def z8y:q5b P 81 z1i:=by
 refine ql1 mixed (qdv (qhn zb9 qkn)) (W:=z6z) Go.Proofs.Tryd.func81 (by kernel_rfl) (by decide) (by decide) (λs=>by kernel_rfl) λ(v:ByteArray)=>(z8x v).mpr ?_
 intro hsz
 have no:unF v=none->(((unF v).getD 0:Nat):Int)=0/\(unF v).isSome=false:=λh=>by rw[h];exact⟨rfl,rfl⟩
 simp only[sbS,Int.toNat_natCast,exists_const]
 refine⟨λh=>no (z14 ?_),λh1=>⟨by omega,λh=>no (z14 ?_),λh2=>⟨by omega,λh=>no (z14 ?_),λh3=>⟨⟨0,rfl,by omega,rfl,λj hj=>by omega⟩,?_⟩⟩⟩⟩
 ·unfold z3t;rw[decide_eq_false (by omega)];rfl
 ·unfold z3t;rw[decide_eq_false (p:=bat v 0=92) (by omega),Bool.and_false,Bool.false_and]
 ·unfold z3t;rw[decide_eq_false (p:=bat v 1=117) (by omega),Bool.and_false]
 have ok:z3t v=true:=by unfold z3t;rw[decide_eq_true (by omega),decide_eq_true (by omega),decide_eq_true (by omega)];rfl
 rintro⟨_,_⟩ ⟨k,rfl,hk,rfl,hd⟩
 have e1:((2:Int)+(k:Nat)).toNat=2+k:=by omega
 have b:=z0c v (2+k)
 have hI:=z4m (bat v (2+k))
 have up:=(z90 k hd (by omega)).1
 simp only[e1,Int.toNat_natCast]
 refine⟨λhlt=>⟨by omega,by omega,λhb=>no (zap k (by omega) (by omega)),λhg=>⟨by omega,⟨k+1,by omega,by omega,?_,λj hj=> ?_⟩,by omega⟩⟩,λhge=> ?_⟩
 ·have hg2:hx (bat v (2+k))<16:=by omega
  rw[(hI.1 hg2).2,upF,wrap32,wrap32,wrap32];omega
 ·by_cases hjk:j=k
  ·subst hjk;omega
  ·exact hd j (by omega)
 ·have hk4:k=4:=by omega
  subst hk4
  rw[z6o ok hd];exact⟨rfl,rfl⟩
def z1u(n:Nat):((n=34\/n=92\/n=47)/\byF n=some n)\/(n=98/\byF n=some 8)\/(n=102/\byF n=some 12)\/(n=110/\byF n=some 10)\/(n=114/\byF n=some 13)\/(n=116/\byF n=some 9)\/((n≠34/\n≠92/\n≠47/\n≠98/\n≠102/\n≠110/\n≠114/\n≠116)/\byF n=none):=by
 by_cases h:n=34\/n=92\/n=47
 ·exact .inl ⟨h,by unfold byF;rw[if_pos h]⟩
 by_cases h1:n=98
 ·subst h1;exact .inr (.inl ⟨rfl,rfl⟩)
 by_cases h2:n=102
 ·subst h2;exact .inr (.inr (.inl ⟨rfl,rfl⟩))
 by_cases h3:n=110
 ·subst h3;exact .inr (.inr (.inr (.inl ⟨rfl,rfl⟩)))
 by_cases h4:n=114
 ·subst h4;exact .inr (.inr (.inr (.inr (.inl ⟨rfl,rfl⟩))))
 by_cases h5:n=116
 ·subst h5;exact .inr (.inr (.inr (.inr (.inr (.inl ⟨rfl,rfl⟩)))))
 ·exact .inr (.inr (.inr (.inr (.inr (.inr ⟨⟨λe=>h (.inl e),λe=>h (.inr (.inl e)),λe=>h (.inr (.inr e)),h1,h2,h3,h4,h5⟩,by unfold byF;rw[if_neg h,if_neg h1,if_neg h2,if_neg h3,if_neg h4,if_neg h5]⟩)))))
def z5w:q5b P 72 z3l:=by
 refine ql1 mixed z19 (W:=λ_=>{}) Go.Proofs.Tryd.func72 (by kernel_rfl) (by decide) (by decide) (λs=>by kernel_rfl) λ(c:Int)=>(z5v c).mpr ?_
 rintro⟨h0,h1⟩
 obtain⟨n,rfl⟩:=Int.eq_ofNat_of_zero_le h0
 simp only[sbS,Int.toNat_natCast,exists_const]
 have fin:∀(o:Option Nat) (v:Int) (b:Bool),byF n=o->((o.getD 0:Nat):Int)=v->o.isSome=b->(((byF n).getD 0:Nat):Int)=v/\(byF n).isSome=b:=λo v b e h1 h2=>by rw[e];exact⟨h1,h2⟩
 rcases z1u n with⟨rfl|rfl|rfl,e⟩|⟨rfl,e⟩|⟨rfl,e⟩|⟨rfl,e⟩|⟨rfl,e⟩|⟨rfl,e⟩|⟨⟨a1,a2,a3,a4,a5,a6,a7,a8⟩,e⟩
 all_goals
  rw[e]
  (repeat' first|intro _|apply And.intro)<;>first|rfl|contradiction|omega| (exfalso;omega)| (simp_all;done)
def zcb:q5b P 89 zb4:=by
 refine ql1 mixed z19 (W:=λ_=>{}) Go.Proofs.Tryd.func89 (by kernel_rfl) (by decide) (by decide) (λs=>by kernel_rfl) λ(c:Int)=>(zca c).mpr ?_
 rintro⟨h0,h1⟩
 obtain⟨n,rfl⟩:=Int.eq_ofNat_of_zero_le h0
 have key:∀x<256,qbh .or .u8 128 (qbh .and .u8 (x:Nat) 63)=((128+x % 64:Nat):Int):=by decide+kernel
 have e:IntKind.wrap .u8 (n:Int)=((n % 256:Nat):Int):=by rw[z1n];omega
 rw[e,key _ (by omega),Int.toNat_natCast]
 exact⟨by omega,trivial⟩
def zb0:∀(l:List Nat),(∀x∈l,x<256)->q1c (mkS l)=l.map λx=>Value.int .u8 (x:Nat)
  | [],_=>rfl
  | c::l,h=>by
    have:=zb0 l λx hx=>h x (List.mem_cons_of_mem _ hx)
    have hc:=h c List.mem_cons_self
    unfold q1c mkS at*
    simp only[List.map_cons]at*
    rw[this]
    congr 1
    simp[Nat.mod_eq_of_lt hc]
def z1l{l:List Nat} {vs:List Value} (h:∀x∈l,x<256) (e:vs=l.map λx=>Value.int .u8 (x:Nat)):qhf vs 0 (q1c (mkS l)):=λj v hj=>by
 rw[zb0 l h]at hj
 rw[Nat.zero_add,e];exact hj
def z0m(n:Nat) (h:n<=1114111):(n<128/\ptL n=[n])\/(128<=n/\n<2048/\ptL n=[192+n / 64,128+n % 64])\/(2048<=n/\n<65536/\ptL n=[224+n / 4096,128+n / 64 % 64,128+n % 64])\/(65536<=n/\ptL n=[240+n / 262144,128+n / 4096 % 64,128+n / 64 % 64,128+n % 64]):=by
 unfold ptL
 by_cases h1:n<128
 ·exact .inl ⟨h1,if_pos h1⟩
 rw[if_neg h1]
 by_cases h2:n<2048
 ·exact .inr (.inl ⟨by omega,h2,if_pos h2⟩)
 rw[if_neg h2]
 by_cases h3:n<65536
 ·exact .inr (.inr (.inl ⟨by omega,h3,if_pos h3⟩))
 ·exact .inr (.inr (.inr ⟨by omega,if_neg h3⟩))
def z30(n:Nat) (h:n<=1114111):(∀x∈ptL n,x<256)/\1<=(ptL n).length/\(ptL n).length<=4:=by
 rcases z0m n h with⟨_,e⟩|⟨_,_,e⟩|⟨_,_,e⟩|⟨_,e⟩<;>rw[e]<;>refine⟨λx hx=> ?_,by simp,by simp⟩<;>simp only[List.mem_cons,List.not_mem_nil,or_false]at hx<;>omega
def z3r(n:Nat) (hn:n<=1114111):n<128->∃s,ByteArray.size s=1/\qhf [Value.int .u8 (IntKind.wrap .u8 n)] 0 (q1c s)/\mkS (ptL n)=s:=by
 intro h
 have h0:(0:Int)<=(n:Int):=by omega
 have lt:=z30 n hn
 have pc:=z0m n hn
 have e:ptL n=[n]:=by rcases pc with⟨_,e⟩|⟨_,_,e⟩|⟨_,_,e⟩|⟨_,e⟩<;>first|exact e|omega
 refine⟨mkS (ptL n),by rw[q0f,e];rfl,z1l lt.1 ?_,rfl⟩
 rw[e,z1n];simp only[List.map_cons,List.map_nil];congr 2;omega
def z6e(n:Nat) (hn:n<=1114111):128<=n->n<2048->∃s,ByteArray.size s=2/\qhf [Value.int .u8 (IntKind.wrap .u8 (IntKind.wrap .u32 (192+IntKind.wrap .u32 (Int.tdiv n 64)))),Value.int .u8 (IntKind.wrap .u8 (IntKind.wrap .u32 (128+Int.tmod n 64)))] 0 (q1c s)/\mkS (ptL n)=s:=by
 intro h h'
 have h0:(0:Int)<=(n:Int):=by omega
 have lt:=z30 n hn
 have pc:=z0m n hn
 have e:ptL n=[192+n / 64,128+n % 64]:=by rcases pc with⟨_,e⟩|⟨_,_,e⟩|⟨_,_,e⟩|⟨_,e⟩<;>first|exact e|omega
 refine⟨mkS (ptL n),by rw[q0f,e];rfl,z1l lt.1 ?_,rfl⟩
 rw[e,z1n,z1n,wrap32,wrap32,wrap32,Int.tdiv_eq_ediv_of_nonneg h0,Int.tmod_eq_emod_of_nonneg h0];simp only[List.map_cons,List.map_nil];congr 2
 ·omega
 ·congr 2;omega
def z31(n:Nat) (hn:n<=1114111):2048<=n->n<65536->∃s,ByteArray.size s=3/\qhf [Value.int .u8 (IntKind.wrap .u8 (IntKind.wrap .u32 (224+IntKind.wrap .u32 (Int.tdiv n 4096)))),Value.int .u8 (IntKind.wrap .u8 (IntKind.wrap .u32 (128+Int.tmod (IntKind.wrap .u32 (Int.tdiv n 64)) 64))),Value.int .u8 (IntKind.wrap .u8 (IntKind.wrap .u32 (128+Int.tmod n 64)))] 0 (q1c s)/\mkS (ptL n)=s:=by
 intro h h'
 have h0:(0:Int)<=(n:Int):=by omega
 have lt:=z30 n hn
 have pc:=z0m n hn
 have e:ptL n=[224+n / 4096,128+n / 64 % 64,128+n % 64]:=by rcases pc with⟨_,e⟩|⟨_,_,e⟩|⟨_,_,e⟩|⟨_,e⟩<;>first|exact e|omega
 refine⟨mkS (ptL n),by rw[q0f,e];rfl,z1l lt.1 ?_,rfl⟩
 have q:IntKind.wrap .u32 (Int.tdiv n 64)=((n / 64:Nat):Int):=by rw[wrap32,Int.tdiv_eq_ediv_of_nonneg h0];omega
 have q2:IntKind.wrap .u32 (Int.tdiv n 4096)=((n / 4096:Nat):Int):=by rw[wrap32,Int.tdiv_eq_ediv_of_nonneg h0];omega
 rw[e,q,q2]
 have m1:Int.tmod ((n / 64:Nat):Int) 64=((n / 64 % 64:Nat):Int):=rfl
 have m3:Int.tmod (n:Int) 64=((n % 64:Nat):Int):=rfl
 rw[m1,m3]
 have w:∀a b:Nat,a+b<256->IntKind.wrap .u8 (IntKind.wrap .u32 ((a:Int)+(b:Nat)))=((a+b:Nat):Int):=λa b h=>by rw[z1n,wrap32];omega
 have w1:=w 224 (n / 4096) (by omega)
 have w3:=w 128 (n / 64 % 64) (by omega)
 have w4:=w 128 (n % 64) (by omega)
 simp only[List.map_cons,List.map_nil]
 exact congr (congrArg _ (congrArg _ w1)) (congr (congrArg _ (congrArg _ w3)) (congrArg (λx=>[Value.int .u8 x]) w4))
def z4u(n:Nat) (hn:n<=1114111):65536<=n->∃s,ByteArray.size s=4/\qhf [Value.int .u8 (IntKind.wrap .u8 (IntKind.wrap .u32 (240+IntKind.wrap .u32 (Int.tdiv n 262144)))),Value.int .u8 (IntKind.wrap .u8 (IntKind.wrap .u32 (128+Int.tmod (IntKind.wrap .u32 (Int.tdiv n 4096)) 64))),Value.int .u8 (IntKind.wrap .u8 (IntKind.wrap .u32 (128+Int.tmod (IntKind.wrap .u32 (Int.tdiv n 64)) 64))),Value.int .u8 (IntKind.wrap .u8 (IntKind.wrap .u32 (128+Int.tmod n 64)))] 0 (q1c s)/\mkS (ptL n)=s:=by
 intro h
 have h0:(0:Int)<=(n:Int):=by omega
 have lt:=z30 n hn
 have pc:=z0m n hn
 have e:ptL n=[240+n / 262144,128+n / 4096 % 64,128+n / 64 % 64,128+n % 64]:=by rcases pc with⟨_,e⟩|⟨_,_,e⟩|⟨_,_,e⟩|⟨_,e⟩<;>first|exact e|omega
 refine⟨mkS (ptL n),by rw[q0f,e];rfl,z1l lt.1 ?_,rfl⟩
 have q:IntKind.wrap .u32 (Int.tdiv n 64)=((n / 64:Nat):Int):=by rw[wrap32,Int.tdiv_eq_ediv_of_nonneg h0];omega
 have q2:IntKind.wrap .u32 (Int.tdiv n 4096)=((n / 4096:Nat):Int):=by rw[wrap32,Int.tdiv_eq_ediv_of_nonneg h0];omega
 have q3:IntKind.wrap .u32 (Int.tdiv n 262144)=((n / 262144:Nat):Int):=by rw[wrap32,Int.tdiv_eq_ediv_of_nonneg h0];omega
 rw[e,q,q2,q3]
 have m1:Int.tmod ((n / 64:Nat):Int) 64=((n / 64 % 64:Nat):Int):=rfl
 have m2:Int.tmod ((n / 4096:Nat):Int) 64=((n / 4096 % 64:Nat):Int):=rfl
 have m3:Int.tmod (n:Int) 64=((n % 64:Nat):Int):=rfl
 rw[m1,m2,m3]
 have w:∀a b:Nat,a+b<256->IntKind.wrap .u8 (IntKind.wrap .u32 ((a:Int)+(b:Nat)))=((a+b:Nat):Int):=λa b h=>by rw[z1n,wrap32];omega
 have w1:=w 240 (n / 262144) (by omega)
 have w2:=w 128 (n / 4096 % 64) (by omega)
 have w3:=w 128 (n / 64 % 64) (by omega)
 have w4:=w 128 (n % 64) (by omega)
 simp only[List.map_cons,List.map_nil]
 exact congr (congrArg _ (congrArg _ w1)) (congr (congrArg _ (congrArg _ w2)) (congr (congrArg _ (congrArg _ w3)) (congrArg (λx=>[Value.int .u8 x]) w4)))
def zc8:q5b P 82 z57:=by
 refine ql1 mixed z19 (W:=λ_=>{}) Go.Proofs.Tryd.func82 (by kernel_rfl) (by decide) (by decide) (λs=>by kernel_rfl) λ(c:Int)=>(zc7 c).mpr ?_
 rintro⟨h0,h1,hc⟩
 obtain⟨n,rfl⟩:=Int.eq_ofNat_of_zero_le h0
 rw[Int.toNat_natCast]at hc
 have hc2:=(z1k n).1 hc
 have lt:=z30 n hc2.1
 have pc:=z0m n hc2.1
 simp only[sbS,Int.toNat_natCast,exists_const]
 refine⟨λh=>absurd h (by omega),λ_=>⟨λh=>⟨λh'=>absurd h' (by omega),λh'=>⟨λa=>z3r n hc2.1 (by omega),λa=>⟨λb=>⟨by decide,by decide,z6e n hc2.1 (by omega) (by omega)⟩,λb=>⟨λd=>⟨by decide,by decide,by decide,by decide,z31 n hc2.1 (by omega) (by omega)⟩,λd=>⟨by decide,by decide,by decide,by decide,by decide,by decide,z4u n hc2.1 (by omega)⟩⟩⟩⟩⟩,λh'=>⟨λa=>z3r n hc2.1 (by omega),λa=>⟨λb=>⟨by decide,by decide,z6e n hc2.1 (by omega) (by omega)⟩,λb=>⟨λd=>⟨by decide,by decide,by decide,by decide,z31 n hc2.1 (by omega) (by omega)⟩,λd=>⟨by decide,by decide,by decide,by decide,by decide,by decide,z4u n hc2.1 (by omega)⟩⟩⟩⟩⟩⟩
end
section
def z33(n k:Nat) (hk:k<=31):shP BinOp.shr .u32 (n:Int) (k:Nat)=((n / 2 ^ k:Nat):Int):=by
 show Int.fdiv (n:Int) (2 ^ min k 32)=_
 rw[Nat.min_eq_left (by omega),Int.fdiv_eq_ediv_of_nonneg _ (by exact Int.le_of_lt (Int.pow_pos (by decide)))]
 norm_cast
def zbz:(∀x<32,qbh .or .u8 192 (x:Nat)=((192+x:Nat):Int))/\(∀x<16,qbh .or .u8 224 (x:Nat)=((224+x:Nat):Int))/\(∀x<8,qbh .or .u8 240 (x:Nat)=((240+x:Nat):Int)):=by
 refine⟨?_,?_,?_⟩<;>decide+kernel
def z8b(n:Nat) (h:n<=1114111):(n<128/\lnN n=1)\/(128<=n/\n<2048/\lnN n=2)\/(2048<=n/\n<65536/\lnN n=3)\/(65536<=n/\lnN n=4):=by
 unfold lnN
 by_cases h1:n<128
 ·exact .inl ⟨h1,if_pos h1⟩
 rw[if_neg h1]
 by_cases h2:n<2048
 ·exact .inr (.inl ⟨by omega,h2,if_pos h2⟩)
 rw[if_neg h2]
 by_cases h3:n<65536
 ·exact .inr (.inr (.inl ⟨by omega,h3,if_pos h3⟩))
 ·exact .inr (.inr (.inr ⟨by omega,if_neg h3⟩))
def zc6:q5b P 74 z57:=by
 refine ql1 mixed (qdv (qhn zbi (qhn z2z (qhn zcb qkn)))) (W:=λ_=>{}) Go.Proofs.Tryd.func74 (by kernel_rfl) (by decide) (by decide) (λs=>by kernel_rfl) λ(c:Int)=>(zc5 c).mpr ?_
 rintro⟨h0,h1,hc⟩
 obtain⟨n,rfl⟩:=Int.eq_ofNat_of_zero_le h0
 rw[Int.toNat_natCast]at hc
 have hc2:=(z1k n).1 hc
 have lt:=z30 n hc2.1
 have pc:=z0m n hc2.1
 have lc:=z8b n hc2.1
 have s6:shP BinOp.shr .u32 (n:Int) 6=((n / 64:Nat):Int):=z33 n 6 (by omega)
 have s12:shP BinOp.shr .u32 (n:Int) 12=((n / 4096:Nat):Int):=z33 n 12 (by omega)
 have s18:shP BinOp.shr .u32 (n:Int) 18=((n / 262144:Nat):Int):=z33 n 18 (by omega)
 simp only[sbS,Int.toNat_natCast,exists_const,hc]
 refine⟨⟨h0,h1⟩,λh=>absurd h (by simp),λ_=>⟨⟨h0,h1⟩,λh=> ?xa,λhn1=>⟨λh=>⟨by decide,⟨h0,h1⟩,?xb⟩,λhn2=>⟨λh=>⟨by decide,by decide,?xc⟩,λh=>⟨by decide,by decide,?xd⟩⟩⟩⟩⟩
 case xa=>exact z3r n hc2.1 (by omega)
 case xb=>
  have e:ptL n=[192+n / 64,128+n % 64]:=by rcases pc with⟨_,e⟩|⟨_,_,e⟩|⟨_,_,e⟩|⟨_,e⟩<;>first|exact e|omega
  refine⟨mkS (ptL n),by rw[q0f,e];rfl,z1l lt.1 ?_,rfl⟩
  have w:IntKind.wrap .u8 ((n / 64:Nat):Int)=((n / 64:Nat):Int):=by rw[z1n];omega
  rw[e,s6,w,zbz.1 _ (by omega)];rfl
 case xc=>
  have e:ptL n=[224+n / 4096,128+n / 64 % 64,128+n % 64]:=by rcases pc with⟨_,e⟩|⟨_,_,e⟩|⟨_,_,e⟩|⟨_,e⟩<;>first|exact e|omega
  have w:IntKind.wrap .u8 ((n / 4096:Nat):Int)=((n / 4096:Nat):Int):=by rw[z1n];omega
  rw[s6,s12,w,zbz.2.1 _ (by omega)]
  refine⟨⟨by omega,by omega⟩,⟨h0,h1⟩,mkS (ptL n),by rw[q0f,e];rfl,z1l lt.1 ?_,rfl⟩
  rw[e,Int.toNat_natCast];rfl
 case xd=>
  have e:ptL n=[240+n / 262144,128+n / 4096 % 64,128+n / 64 % 64,128+n % 64]:=by rcases pc with⟨_,e⟩|⟨_,_,e⟩|⟨_,_,e⟩|⟨_,e⟩<;>first|exact e|omega
  have w:IntKind.wrap .u8 ((n / 262144:Nat):Int)=((n / 262144:Nat):Int):=by rw[z1n];omega
  rw[s6,s12,s18,w,zbz.2.2 _ (by omega)]
  refine⟨⟨by omega,by omega⟩,by decide,⟨by omega,by omega⟩,⟨h0,h1⟩,mkS (ptL n),by rw[q0f,e];rfl,z1l lt.1 ?_,rfl⟩
  rw[e,Int.toNat_natCast,Int.toNat_natCast];rfl
variable {v:ByteArray}
def z1w(h:v.size<2):z2h v=none:=by unfold z2h;rw[if_pos h]
def z2x(h:¬v.size<2) (h1:bat v 1≠117):z2h v=match byF (bat v 1)with|some c=>some ([c],2)|none=>none:=by unfold z2h;rw[if_neg h,if_pos h1]<;>rfl
def z62(h:¬v.size<2) (h1:¬bat v 1≠117):z2h v=match unF v with
  |none=>none
  | some a=>if isC a=true then some (ptL a,6)else if 56320<=a then none else
    match unF (v.extract 6 v.size)with
    |none=>none
    |some b=>if 56320<=b/\b<=57343 then some (ptL (65536+(a- 55296)*1024+(b- 56320)),12)else none:=by unfold z2h;rw[if_neg h,if_neg h1]<;>rfl
def za8{n c:Nat} (hn:n<256) (h:byF n=some c):c<256:=by
 rcases z1u n with⟨_,e⟩|⟨_,e⟩|⟨_,e⟩|⟨_,e⟩|⟨_,e⟩|⟨_,e⟩|⟨_,e⟩<;>rw[e]at h<;>cases h<;>omega
def zad{a:Nat} (h:isC a=false) (ha:a<65536):55296<=a/\a<=57343:=by
 have:=z1k a
 rw[h]at this
 have h2:¬(a<=1114111/\¬(55296<=a/\a<=57343)):=λq=>by have:=this.2 q;cases this
 omega
variable {x:List Nat×Nat}
def z16(h:z2h v=some x):2<=x.2/\x.2<=12/\x.2<=v.size/\x.1.length<=x.2/\∀c∈x.1,c<256:=by
  by_cases h1:v.size<2
  · rw[z1w h1]at h;cases h
  by_cases h2:bat v 1≠117
  · rw[z2x h1 h2]at h
    cases hb:byF (bat v 1)with
    |none=>rw[hb]at h;cases h
    | some c=>
      rw[hb]at h;cases h
      refine⟨by simp,by simp,by simp;omega,by simp,λy hy=> ?_⟩
      rw[List.mem_singleton.1 hy];exact za8 (z0c _ _) hb
  · rw [z62 h1 h2]at h
    cases ha:unF v with
    |none=>rw[ha]at h;cases h
    | some a=>
      rw[ha]at h
      have la:=z5d ha
      simp only at h
      split at h
      · rename_i hi
        cases h
        have p:=z30 a (by omega)
        exact⟨by simp,by simp,by simp;omega,by simp;omega,p.1⟩
      · rename_i hi
        split at h
        · cases h
        rename_i hge
        cases hb:unF (v.extract 6 v.size)with
        |none=>rw[hb]at h;cases h
        | some b=>
          rw[hb]at h
          have lb:=z5d hb
          rw[ByteArray.size_extract]at lb
          have no:=zad (a:=a) (by simpa using hi) la.1
          simp only at h
          split at h
          · rename_i hbb
            have h:=Option.some.inj h
            subst h
            have p:=z30 (65536+(a- 55296)*1024+(b- 56320)) (by omega)
            generalize 65536+(a- 55296)*1024+(b- 56320)=q at p⊢
            exact⟨show 2<=12 by decide,show 12<=12 by decide,show 12<=v.size by omega,Nat.le_trans p.2.2 (show 4<=12 by decide),p.1⟩
          · cases h
def z0a(h:z2h v=none):esB v=mkS []/\((esN v:Nat):Int)=0:=by
 unfold esB esN;rw[h];exact⟨rfl,rfl⟩
def z0k(h:z2h v=some x):esB v=mkS x.1/\esN v=x.2:=by
 unfold esB esN;rw[h];exact⟨rfl,rfl⟩
def zeh(a:Nat) (ha:a<65536):qbh .and .u32 (a:Int) 1023=((a % 1024:Nat):Int):=by
 have h1:qbh BinOp.and IntKind.u32 (a:Int) 1023=bits .and .u32 (a:Int) ((1023:Nat):Int):=rfl
 rw[h1,u32_and_nat a 1023 (by omega) (by omega)]
 congr 1
 exact Nat.and_two_pow_sub_one_eq_mod a 10
def zjc(a:Nat) (ha:a<1024):shP BinOp.shl .u32 (a:Int) 10=((a*1024:Nat):Int):=by
 show IntKind.u32.wrap ((a:Int)*2 ^ 10)=_
 rw[wrap32];omega
def zbb:q5b P 58 z3m:=by
 refine ql1 mixed (qdv (qhn zbi (qhn z5w (qhn z8w (qhn zc6 qkn))))) (W:=λ_=>{}) Go.Proofs.Tryd.func58 (by kernel_rfl) (by decide) (by decide) (λs=>by kernel_rfl) λ(v:ByteArray)=>(zba v).mpr ?_
 rintro⟨hsz,_⟩
 have b1:=z0c v 1
 simp only[sbS,Int.toNat_natCast,exists_const]
 refine⟨λh=>z0a (z1w (by omega)),λh=>⟨by omega,λh1=>⟨by omega,by omega,λh2=>z0a ?_,λh2=> ?xa⟩,λh1=>⟨hsz,λh2=>z0a ?_,λh2=> ?xb⟩⟩⟩
 ·rw[z2x (by omega) (by omega),Option.isSome_eq_false_iff.1 h2|>Option.isNone_iff_eq_none.1]
 case xa=>
  obtain⟨c,hc⟩:=Option.isSome_iff_exists.1 h2
  have lt:=za8 b1 hc
  have e:=z0k (v:=v) (x:=([c],2)) (by rw[z2x (by omega) (by omega),hc])
  rw[hc]
  exact⟨mkS [c],rfl,z1l (λx hx=>by rw[List.mem_singleton.1 hx];exact lt) rfl,e.1,by rw[e.2];rfl⟩
 ·rw[z62 (by omega) (by omega),Option.isSome_eq_false_iff.1 h2|>Option.isNone_iff_eq_none.1]
 case xb =>
  obtain⟨a,ha⟩:=Option.isSome_iff_exists.1 h2
  have la:=z5d ha
  have eu:=z62 (v:=v) (by omega) (by omega)
  rw[ha]at eu⊢
  simp only[Option.getD_some,Int.toNat_natCast]at eu⊢
  refine⟨by omega,λhi=> ?_,λhi=> ?_⟩
  ·rw[if_pos hi]at eu
   have e:=z0k eu
   exact⟨⟨by omega,by omega,hi⟩,e.1,by rw[e.2];rfl⟩
  ·have no:=zad hi la.1
   rw[if_neg (by rw[hi];simp)]at eu
   refine⟨by omega,by rw[ByteArray.size_extract];omega,λh3=>z0a ?_,λh3=> ?_⟩
   ·rw[eu]
    split
    ·rfl
    ·rw[Option.isSome_eq_false_iff.1 h3|>Option.isNone_iff_eq_none.1]
   obtain⟨b,hb⟩:=Option.isSome_iff_exists.1 h3
   have lb:=z5d hb
   have sa:shP BinOp.shr .u32 (a:Int) 10=((a / 1024:Nat):Int):=z33 a 10 (by omega)
   have sb:shP BinOp.shr .u32 (b:Int) 10=((b / 1024:Nat):Int):=z33 b 10 (by omega)
   rw[hb]at eu⊢
   simp only[Option.getD_some]at eu⊢
   rw[sa,sb]
   refine⟨by decide,λh4=>z0a ?_,λh4=>⟨by decide,λh5=>z0a ?_,λh5=>⟨by decide,?_⟩⟩⟩
   ·rw[eu,if_pos (by omega)]
   ·rw[eu,if_neg (by omega),if_neg (by omega)]
   ·rw[if_neg (by omega),if_pos (by omega)]at eu
    have e:=z0k eu
    clear eu
    have v1:IntKind.wrap .u32 (IntKind.wrap .u32 (65536+shP BinOp.shl .u32 (qbh BinOp.and .u32 (a:Int) 1023) 10)+qbh BinOp.and .u32 (b:Int) 1023)=((65536+(a- 55296)*1024+(b- 56320):Nat):Int):=by
     rw[zeh a la.1,zeh b lb.1,zjc _ (by omega),wrap32,wrap32];omega
    rw[v1]
    have hq:65536<=65536+(a- 55296)*1024+(b- 56320)/\65536+(a- 55296)*1024+(b- 56320)<=1114111:=by omega
    clear v1
    generalize 65536+(a- 55296)*1024+(b- 56320)=q at hq e⊢
    simp only[Int.toNat_natCast]
    exact⟨⟨by omega,by omega,(z1k _).2 ⟨by omega,by omega⟩⟩,e.1,by rw[e.2];rfl⟩
def z7z:q5b P 57 z5x:=by
 refine ql1 mixed (qdv (qhn z92 qkn)) (W:=λ_=>{}) Go.Proofs.Tryd.func57 (by kernel_rfl) (by decide) (by decide) (λs=>by kernel_rfl) λ⟨(s:ByteArray),(n:Int)⟩=>(z7y s n).mpr ?_
 intro h
 simp only[sbS,Int.toNat_natCast,exists_const]
 refine⟨by omega,λh1=> ?_,λh1=> ?_⟩
 ·rw[if_neg (by rw[h1];simp),if_neg (by rw[h1];simp),if_neg (by rw[h1];simp)];exact⟨rfl,rfl,rfl⟩
 ·rw[if_pos h1,if_pos h1,if_pos h1];exact⟨rfl,rfl,rfl⟩
end
def z1q{v:ByteArray}:((esN v:Nat):Int)=0↔z2h v=none:=by
  constructor
  · intro h
    cases he:z2h v with
    |none=>rfl
    | some x=>
      have:=z0k he
      have:=z16 he
      omega
  · intro h;exact(z0a h).2
def zbd:q5b P 63 z3m:=by
 refine ql1 mixed (qdv (qhn z8y (qhn zc8 qkn))) (W:=zfl) Go.Proofs.Tryd.func63 (by kernel_rfl) (by decide) (by decide) (λs=>by kernel_rfl) λ(v:ByteArray)=>(zbc v).mpr ?_
 rintro⟨hsz,h92⟩
 have b1:=z0c v 1
 have len8:Int.ofNat (List.length (List.map UInt8.toNat (Array.toList (ByteArray.data (mkS [34,92,47,98,102,110,114,116])))))=8:=rfl
 simp only[sbS,Int.toNat_natCast,exists_const,len8]
 refine⟨λh=>z0a (z1w (by omega)),λh=>⟨⟨by omega,by omega,λm hm=>by omega⟩,?_⟩⟩
 rintro i ⟨i0,i8,him⟩
 obtain⟨i,rfl⟩:=Int.eq_ofNat_of_zero_le i0
 rw[Int.toNat_natCast]at him
 have bi:bat (mkS [34,92,47,98,102,110,114,116]) i=frL.getD i 0:=(by decide+kernel:∀i<9,bat (mkS [34,92,47,98,102,110,114,116]) i=frL.getD i 0) i (by omega)
 have s8:(mkS [34,92,47,98,102,110,114,116]).size=8:=rfl
 have t8:(mkS [34,92,47,8,12,10,13,9]).size=8:=rfl
 simp only[Int.toNat_natCast,tn1,bi,s8,t8]
 refine⟨λhlt=>⟨⟨by omega,by omega⟩,⟨by omega,by omega⟩,λhe=> ?_,λhne=>⟨by omega,⟨by omega,by omega,λm hm=> ?_⟩,by omega⟩⟩,λhge=> ?_⟩
 ·have hi8:i<8:=by omega
  have he:frL.getD i 0=bat v 1:=by omega
  have tab:∀i<8,frL.getD i 0≠117/\∃c,byF (frL.getD i 0)=some c/\(mkS [34,92,47,8,12,10,13,9]).extract i (i+1)=mkS [c]:=λi hi=>by
   have:i=0\/i=1\/i=2\/i=3\/i=4\/i=5\/i=6\/i=7:=by omega
   rcases this with rfl|rfl|rfl|rfl|rfl|rfl|rfl|rfl<;>exact⟨by decide,_,rfl,rfl⟩
  obtain⟨n1,c,hc,hx⟩:=tab i hi8
  rw[he]at n1 hc
  have e:=z0k (v:=v) (x:=([c],2)) (by rw[z2x (by omega) n1,hc])
  exact⟨by omega,⟨by omega,by omega,by omega⟩,by rw[e.1,hx],by rw[e.2];rfl⟩
 ·by_cases hmi:m=i
  ·subst hmi
   intro h
   have:frL.getD m 0=bat v 1:=by rw[List.getD_eq_getElem?_getD,h];rfl
   omega
  ·exact him m (by omega)
 have i8':i=8:=by omega
 subst i8'
 have nb:bat v 1≠117->z2h v=none:=λh1=>by
  rw[z2x (by omega) h1]
  have n0:=him 0 (by omega)
  have n1:=him 1 (by omega)
  have n2:=him 2 (by omega)
  have n3:=him 3 (by omega)
  have n4:=him 4 (by omega)
  have n5:=him 5 (by omega)
  have n6:=him 6 (by omega)
  have n7:=him 7 (by omega)
  simp[frL]at n0 n1 n2 n3 n4 n5 n6 n7
  rcases z1u (bat v 1)with⟨h,_⟩|⟨h,_⟩|⟨h,_⟩|⟨h,_⟩|⟨h,_⟩|⟨h,_⟩|⟨_,e⟩
  ·omega
  ·omega
  ·omega
  ·omega
  ·omega
  ·omega
  ·rw[e]
 refine⟨hsz,λh2=>z0a ?_,λh2=> ?_⟩
 ·by_cases h1:bat v 1≠117
  ·exact nb h1
  ·rw[z62 (by omega) h1,Option.isSome_eq_false_iff.1 h2|>Option.isNone_iff_eq_none.1]
 obtain⟨a,ha⟩:=Option.isSome_iff_exists.1 h2
 have la:=z5d ha
 have h1:¬bat v 1≠117:=λh1=>by
  have:unF v=none:=by
   refine z14 ?_
   unfold z3t;rw[decide_eq_false (p:=bat v 1=117) h1,Bool.and_false]
  rw[this]at ha;cases ha
 have eu:=z62 (v:=v) (by omega) h1
 rw[ha]at eu⊢
 simp only[Option.getD_some,Int.toNat_natCast]at eu⊢
 have good:isC a=true->((0:Int)<=a/\(a:Int)<4294967296/\isC a=true)/\esB v=mkS (ptL a)/\((esN v:Nat):Int)=6:=λhi=>by
  rw[if_pos hi]at eu
  have e:=z0k eu
  exact⟨⟨by omega,by omega,hi⟩,e.1,by rw[e.2];rfl⟩
 have ic:=z1k a
 have two:55296<=a->a<56320->(((0:Int)<=6/\(6:Int)<=(v.size:Int))/\ByteArray.size (v.extract 6 v.size)<1000000/\((unF (v.extract 6 v.size)).isSome=false->esB v=mkS []/\((esN v:Nat):Int)=0)/\((unF (v.extract 6 v.size)).isSome=true->((((unF (v.extract 6 v.size)).getD 0:Nat):Int)<56320->esB v=mkS []/\((esN v:Nat):Int)=0)/\(¬(((unF (v.extract 6 v.size)).getD 0:Nat):Int)<56320->(57343<(((unF (v.extract 6 v.size)).getD 0:Nat):Int)->esB v=mkS []/\((esN v:Nat):Int)=0)/\(¬57343<(((unF (v.extract 6 v.size)).getD 0:Nat):Int)->(0<=IntKind.wrap .u32 (IntKind.wrap .u32 (IntKind.wrap .u32 (65536+IntKind.wrap .u32 (IntKind.wrap .u32 ((a:Int)- 55296)*1024))+(((unF (v.extract 6 v.size)).getD 0:Nat):Int))- 56320)/\IntKind.wrap .u32 (IntKind.wrap .u32 (IntKind.wrap .u32 (65536+IntKind.wrap .u32 (IntKind.wrap .u32 ((a:Int)- 55296)*1024))+(((unF (v.extract 6 v.size)).getD 0:Nat):Int))- 56320)<4294967296/\isC (IntKind.wrap .u32 (IntKind.wrap .u32 (IntKind.wrap .u32 (65536+IntKind.wrap .u32 (IntKind.wrap .u32 ((a:Int)- 55296)*1024))+(((unF (v.extract 6 v.size)).getD 0:Nat):Int))- 56320)).toNat=true)/\esB v=mkS (ptL (IntKind.wrap .u32 (IntKind.wrap .u32 (IntKind.wrap .u32 (65536+IntKind.wrap .u32 (IntKind.wrap .u32 ((a:Int)- 55296)*1024))+(((unF (v.extract 6 v.size)).getD 0:Nat):Int))- 56320)).toNat)/\((esN v:Nat):Int)=12)))):=λg1 g2=>by
  have hi:isC a=false:=by
   cases h:isC a with
   |false=>rfl
   |true=>have:=ic.1 h;omega
  rw[if_neg (by rw[hi];simp),if_neg (by omega)]at eu
  refine⟨⟨by omega,by omega⟩,by rw[ByteArray.size_extract];omega,λh3=>z0a ?_,λh3=> ?_⟩
  ·rw[eu,Option.isSome_eq_false_iff.1 h3|>Option.isNone_iff_eq_none.1]
  obtain⟨b,hb⟩:=Option.isSome_iff_exists.1 h3
  have lb:=z5d hb
  rw[hb]at eu⊢
  simp only[Option.getD_some]at eu⊢
  refine⟨λh4=>z0a ?_,λh4=>⟨λh5=>z0a ?_,λh5=> ?_⟩⟩
  ·rw[eu,if_neg (by omega)]
  ·rw[eu,if_neg (by omega)]
  ·rw[if_pos (by omega)]at eu
   have e:=z0k eu
   clear eu
   have v1:IntKind.wrap .u32 (IntKind.wrap .u32 (IntKind.wrap .u32 (65536+IntKind.wrap .u32 (IntKind.wrap .u32 ((a:Int)- 55296)*1024))+(b:Int))- 56320)=((65536+(a- 55296)*1024+(b- 56320):Nat):Int):=by
    rw[wrap32,wrap32,wrap32,wrap32,wrap32];omega
   rw[v1]
   have hq:65536<=65536+(a- 55296)*1024+(b- 56320)/\65536+(a- 55296)*1024+(b- 56320)<=1114111:=by omega
   clear v1
   generalize 65536+(a- 55296)*1024+(b- 56320)=q at hq e⊢
   simp only[Int.toNat_natCast]
   exact⟨⟨by omega,by omega,(z1k _).2 ⟨by omega,by omega⟩⟩,e.1,by rw[e.2];rfl⟩
 refine⟨λg1=>⟨λg2=>z0a ?_,λg2=>⟨λg3=>absurd g3 (by clear two good;omega),λg3=>⟨λg4=>good (ic.2 (by clear two good;omega)),λg4=>absurd g2 (by clear two good;omega)⟩⟩⟩,λg1=>⟨λg3=>good (ic.2 (by clear two good;omega)),λg3=>⟨λg4=>absurd g4 (by clear two good;omega),λg4=>two (by clear two good;omega) (by clear two good;omega)⟩⟩⟩
 have hi:isC a=false:=by
  cases h:isC a with
  |false=>rfl
  |true=>have:=ic.1 h;clear two good;omega
 rw[eu,if_neg (by rw[hi];simp),if_pos (by clear two good;omega)]
section
def z1b(u:ByteArray):∀(f g i:Nat) (acc:List Nat),u.size+1- i<=f->u.size+1- i<=g->uqG u f i acc=uqG u g i acc
  |0,0,i,acc,_,_=>rfl
  |0,g+1,i,acc,h,_=>by rw[uqG,uqG,if_neg (by omega)]
  |f+1,0,i,acc,_,h=>by rw[uqG,uqG,if_neg (by omega)]
  | f + 1,g+1,i,acc,h1,h2=>by
    rw[uqG,uqG]
    by_cases h:i<u.size
    · rw [if_pos h,if_pos h]
      by_cases h3:bat u i=34
      · rw[if_pos h3,if_pos h3]
      rw[if_neg h3,if_neg h3]
      by_cases h4:bat u i<32
      · rw[if_pos h4,if_pos h4]
      rw[if_neg h4,if_neg h4]
      by_cases h5:bat u i=92
      · rw[if_pos h5,if_pos h5]
        cases he:z2h (u.extract i u.size)with
        |none=>rfl
        | some x=>
          have:=z16 he
          exact z1b u f g _ _ (by omega) (by omega)
      · rw[if_neg h5,if_neg h5]
        exact z1b u f g _ _ (by omega) (by omega)
    · rw[if_neg h,if_neg h]
def z50(u:ByteArray) (i:Nat) (acc:List Nat):uqE u i acc=if i<u.size then
      if bat u i=34 then some (acc,i+1)else if bat u i<32 then none else if bat u i=92 then
        match z2h (u.extract i u.size)with
        |some x=>uqE u (i+x.2) (acc++x.1)
        |none=>none
      else uqE u (i+1) (acc++[bat u i])
    else none:=by
  by_cases h:i<u.size
  · have e:uqE u i acc=uqG u (u.size+1) i acc:=z1b u _ _ _ _ (by omega) (by omega)
    rw[e,uqG,if_pos h,if_pos h]
    by_cases h3:bat u i=34
    · rw[if_pos h3,if_pos h3]
    rw[if_neg h3,if_neg h3]
    by_cases h4:bat u i<32
    · rw[if_pos h4,if_pos h4]
    rw[if_neg h4,if_neg h4]
    by_cases h5:bat u i=92
    · rw[if_pos h5,if_pos h5]
      cases he:z2h (u.extract i u.size)with
      |none=>rfl
      | some x=>
        have:=z16 he
        exact z1b u _ _ _ _ (by omega) (by omega)
    · rw[if_neg h5,if_neg h5]
      exact z1b u _ _ _ _ (by omega) (by omega)
  · rw[if_neg h]
    unfold uqE
    generalize u.size+1- i=f
    cases f with
    |zero=>rfl
    |succ f=>rw[uqG,if_neg h]
def za7(l m:List Nat):q1c (mkS (l++m))=q1c (mkS l)++q1c (mkS m):=by
 unfold q1c mkS;simp
def z61(s:ByteArray) (i:Nat) (h:i<s.size):s.data.toList.drop i=s[i]::s.data.toList.drop (i+1):=by
 have:s.data.toList[i]? =some s[i]:=by
  rw[Array.getElem?_toList];exact Array.getElem?_eq_getElem h
 rw[List.drop_eq_getElem?_toList_append,this];rfl
def z63(s:ByteArray) (j:Nat) (h:j<s.size):s.extract j (j+1)=mkS [bat s j]:=by
 apply ByteArray.ext;apply Array.toList_inj.mp
 rw[ByteArray.data_extract,Array.toList_extract,List.extract_eq_take_drop,show j+1- j=1 by omega,z61 s j h,z4e h]
 simp[mkS]
def z5t(s:ByteArray) (i:Nat) (h:i<s.size) (k:Nat):bat (s.extract i s.size) k=bat s (i+k):=by
 by_cases hk:i+k<s.size
 ·rw[z4e (s:=s.extract i s.size) (by rw[ByteArray.size_extract];omega),z4e hk]
  congr 1
  exact ByteArray.getElem_extract ..
 ·rw[z01 (by rw[ByteArray.size_extract];omega),z01 (by omega)]
variable {u:ByteArray}
def zfk(h:uqE u 1 []=none) (h0:¬u.size=0) (h1:¬bat u 0≠34):uqR u=(2,mkS [],0):=by
 unfold uqR;rw[if_neg h0,if_neg h1,h]
def z6t{x:List Nat×Nat} (h:uqE u 1 []=some x) (h0:¬u.size=0) (h1:¬bat u 0≠34):uqR u=if vld (mkS x.1)=true then(0,mkS x.1,x.2)else(2,mkS [],0):=by
 unfold uqR;rw[if_neg h0,if_neg h1,h];rfl
def zfi:q5b P 46 za9:=by
  refine ql1 mixed (qdv (qhn zbb (qhn z7z qkn))) (W:=zko) Go.Proofs.Tryd.func46 (by kernel_rfl) (by decide) (by decide) (λs=>by kernel_rfl) λ(u:ByteArray)=>(zfh u).mpr ?_
  intro hsz
  simp only[sbS,Int.toNat_natCast,exists_const]
  have bad:uqR u=(2,mkS [],0)->(uqR u).2.1=mkS []/\(((uqR u).2.2:Nat):Int)=0/\(((uqR u).1:Nat):Int)=2:=λh=>by rw[h];exact⟨rfl,rfl,rfl⟩
  refine⟨λh=>bad ?_,λh0=>⟨⟨by omega,by omega⟩,λh1=>bad ?_,λh1=>⟨⟨[],rfl,λc h=>(by cases h),by omega,by omega,by simp,rfl⟩,?_⟩⟩⟩
  · unfold uqR;rw[if_pos (by omega)]
  · unfold uqR;rw[if_neg (by omega),if_pos (by omega)]
  rintro⟨_,j⟩ ⟨l,rfl,hl,hj,hj2,hlen,inv⟩
  obtain⟨j,rfl⟩:=Int.eq_ofNat_of_zero_le (show 0<=j by omega)
  have bj:=z0c u j
  have hz:(q1c (bsL l)).length=l.length:=by rw[q34];exact q0f l
  have hz2:(bsL l).size=l.length:=q0f l
  simp only[Int.toNat_natCast,hz]at inv hlen⊢
  have step:=z50 u j l
  rw[inv]at step
  have no:=λh=>bad (zfk h (by omega) (by omega))
  refine⟨λhlt=>⟨⟨by omega,by omega⟩,λa1=> ?_,λa1=>⟨λa2=>no ?_,λa2=>⟨λa3=>⟨⟨by omega,by omega⟩,⟨by rw[ByteArray.size_extract];omega,λ_=> ?_⟩,λa4=>no ?_,λa4=> ?_⟩,λa3=> ?_⟩⟩⟩,λhge=>no ?_⟩
  · rw[if_pos (by omega),if_pos (by omega)]at step
    have e:=z6t step (by omega) (by omega)
    refine⟨bsL l,hz2,λa v h=>by rw[Nat.zero_add];exact h,by omega,by omega,?_⟩
    have e2:vld (bsL l)=vld (mkS l):=rfl
    rw[e,e2]
    cases hv:vld (mkS l)
    · exact⟨rfl,rfl,rfl⟩
    · exact⟨rfl,rfl,rfl⟩
  · rw[step,if_pos (by omega),if_neg (by omega),if_pos (by omega)]
  · rw[z5t u j (by omega),Nat.add_zero];omega
  · rw[step,if_pos (by omega),if_neg (by omega),if_neg (by omega),if_pos (by omega),z1q.1 a4]
  · rw [if_pos (by omega),if_neg (by omega),if_neg (by omega),if_pos (by omega)]at step
    cases he:z2h (u.extract j u.size)with
    |none=>exact absurd (z1q.2 he) a4
    | some x=>
      have ex:=z16 he
      have es:=z0k he
      rw[he]at step
      simp only at step
      rw[ByteArray.size_extract]at ex
      have hx:(mkS x.1).size=x.1.length:=q0f _
      rw[es.1,es.2,List.length_append,hz,q34,hx]
      refine⟨by omega,by omega,by omega,rfl,⟨l++x.1,(za7 l x.1).symm,λc hc=> ?_,by omega,by omega,by rw[List.length_append];omega,?_⟩,by omega⟩
      · rcases List.mem_append.1 hc with h|h
        · exact hl c h
        · exact ex.2.2.2.2 c h
      · rw[show((j:Int)+(x.2:Nat)).toNat=j+x.2 by omega];exact step.symm
  · rw[if_pos (by omega),if_neg (by omega),if_neg (by omega),if_neg (by omega)]at step
    rw[List.length_append,hz]
    refine⟨by omega,by omega,by omega,rfl,⟨l++[bat u j],?_,λc hc=> ?_,by omega,by omega,by rw[List.length_append,List.length_singleton];omega,?_⟩,by omega⟩
    · rw[show q1c (bsL (l++[bat u j]))=q1c (mkS l)++q1c (mkS [bat u j])from za7 l [bat u j],zb0 [bat u j] (λx hx=>by rw[List.mem_singleton.1 hx];exact bj)];rfl
    · rcases List.mem_append.1 hc with h|h
      · exact hl c h
      · rw[List.mem_singleton.1 h];exact bj
    · rw[show((j:Int)+1).toNat=j+1 by omega];exact step.symm
  · rw[step,if_neg (by omega)]
def zck:q5b P 49 za9:=by
  refine ql1 mixed (qdv (qhn zbd (qhn z6v qkn))) (W:=zfr) Go.Proofs.Tryd.func49 (by kernel_rfl) (by decide) (by decide) (λs=>by kernel_rfl) λ(u:ByteArray)=>(zcj u).mpr ?_
  intro hsz
  simp only[sbS,Int.toNat_natCast,exists_const]
  have bad:uqR u=(2,mkS [],0)->(uqR u).2.1=mkS []/\(((uqR u).2.2:Nat):Int)=0/\(((uqR u).1:Nat):Int)=2:=λh=>by rw[h];exact⟨rfl,rfl,rfl⟩
  refine⟨λh=>bad ?_,λh0=>⟨⟨by omega,by omega⟩,λh1=>bad ?_,λh1=>⟨⟨[],rfl,λc h=>(by cases h),by omega,by omega,by simp,rfl⟩,?_⟩⟩⟩
  · unfold uqR;rw[if_pos (by omega)]
  · unfold uqR;rw[if_neg (by omega),if_pos (by omega)]
  rintro⟨_,j⟩ ⟨l,rfl,hl,hj,hj2,hlen,inv⟩
  obtain⟨j,rfl⟩:=Int.eq_ofNat_of_zero_le (show 0<=j by omega)
  have bj:=z0c u j
  have hz2:(bsL l).size=l.length:=q0f l
  simp only[Int.toNat_natCast,tn1]at inv hlen⊢
  have step:=z50 u j l
  rw[inv]at step
  have no:=λh=>bad (zfk h (by omega) (by omega))
  have e2:vld (bsL l)=vld (mkS l):=rfl
  refine⟨λhlt=>⟨⟨by omega,by omega⟩,λa1=>⟨by omega,λa2=> ?_,λa2=>⟨by omega,?_⟩⟩,λa1=>⟨λa2=>no ?_,λa2=>⟨λa3=> ?_,λa3=>⟨⟨by omega,by omega⟩,⟨by rw[ByteArray.size_extract];omega,λ_=> ?_⟩,λa4=>no ?_,λa4=> ?_⟩⟩⟩⟩,λhge=>no ?_⟩
  · rw[if_pos (by omega),if_pos (by omega)]at step
    have e:=z6t step (by omega) (by omega)
    refine bad ?_
    rw[e,if_neg (by rw[←e2,a2];simp)]
  · rw[if_pos (by omega),if_pos (by omega)]at step
    have e:=z6t step (by omega) (by omega)
    rw[e,if_pos (by rw[←e2,a2])]
    exact⟨rfl,rfl,rfl⟩
  · rw[step,if_pos (by omega),if_neg (by omega),if_pos (by omega)]
  · rw[if_pos (by omega),if_neg (by omega),if_neg (by omega),if_neg (by omega)]at step
    have e1:(mkS [bat u j]).size=1:=q0f _
    rw[z63 u j (by omega),e1]
    refine⟨by omega,⟨by omega,by omega,by omega⟩,by omega,by omega,⟨l++[bat u j],qa3 l _,λc hc=> ?_,by omega,by omega,by rw[List.length_append,List.length_singleton];omega,step.symm⟩,by omega⟩
    rcases List.mem_append.1 hc with h|h
    · exact hl c h
    · rw[List.mem_singleton.1 h];exact bj
  · rw[z5t u j (by omega),Nat.add_zero];omega
  · rw[step,if_pos (by omega),if_neg (by omega),if_neg (by omega),if_pos (by omega),z1q.1 a4]
  · rw[if_pos (by omega),if_neg (by omega),if_neg (by omega),if_pos (by omega)]at step
    cases he:z2h (u.extract j u.size)with
    |none=>exact absurd (z1q.2 he) a4
    | some x=>
      have ex:=z16 he
      have es:=z0k he
      rw[he]at step
      simp only at step
      rw[ByteArray.size_extract]at ex
      have hx:(mkS x.1).size=x.1.length:=q0f _
      have tj:((j:Int)+(x.2:Nat)).toNat=j+x.2:=by omega
      rw[es.1,es.2,hx,tj]
      refine⟨by omega,by omega,⟨l++x.1,qa3 l _,λc hc=> ?_,by omega,by omega,by rw[List.length_append];omega,step.symm⟩,by omega⟩
      rcases List.mem_append.1 hc with h|h
      · exact hl c h
      · exact ex.2.2.2.2 c h
  · rw[step,if_neg (by omega)]
end
def isW(c:Nat):Bool:=decide (c=9)||decide (c=10)||decide (c=13)||decide (c=32)
def z0f(c:Nat):Bool:=decide (48<=c)&&decide (c<=57)
def skF(s:ByteArray):Nat->Nat->Nat
 |0,i=>i
 |f+1,i=>if isW (bat s i)=true then skF s f (i+1)else i
def sk(s:ByteArray) (i:Nat):Nat:=skF s (s.size- i) i
def pk(s:ByteArray) (i:Nat):Nat:=bat s (sk s i)
def dgF(s:ByteArray):Nat->Nat->Nat
 |0,i=>i
 |f+1,i=>if z0f (bat s i)=true then dgF s f (i+1)else i
def dg(s:ByteArray) (i:Nat):Nat:=dgF s (s.size- i) i
def rdO(s:ByteArray) (i:Int):List (Nat×AO):=[(1, .cells 40 (some 0) false [.sv (.string s), .sv (.int .i64 i)])]
def rqO(s:ByteArray) (i e:Int):List (Nat×AO):=[(1, .cells 45 (some 0) false [.sv (.string s), .sv (.int .i64 i), .sv (.int .i64 e)])]
def rdK(s:ByteArray) (i:Int):Prop:=0<=i/\i<=s.size/\s.size<=10000
abbrev RdS:=ByteArray×Int
abbrev RqS:=ByteArray×Int×Int
def ce2(a b:AV):Option RdS:=match gv a,gv b with
 |some (.string s),some (.int _ i)=>some (s,i)
 |_,_=>none
def ce3(a b c:AV):Option RqS:=match ce2 a b,gv c with
 |some (s,i),some (.int _ e)=>some (s,i,e)
 |_,_=>none
def ze6(l:List AV) (h:T AO):Option RdS:=match l with
  | .ptr k _::_=>match h.get k with
    |some (.cells _ _ _ [a,b])=>ce2 a b
    |_=>none
  |_=>none
def z8n(l:List AV) (h:T AO):Option RqS:=match l with
  | .ptr k _::_=>match h.get k with
    |some (.cells _ _ _ [a,b,c])=>ce3 a b c
    |_=>none
  |_=>none
def arI(l:List AV):Option Int:=match l with
  | [_,a]=>(match gv a with
    |some (.int _ c)=>some c
    |_=>none)
  |_=>none
def arS(l:List AV):Option ByteArray:=match l with
  | [_,a]=>(match gv a with
    |some (.string c)=>some c
    |_=>none)
  |_=>none
def both{α β:Type} (a:Option α) (b:Option β):Option (α×β):=match a with
 |some x=>(match b with|some y=>some (x,y)|none=>none)
 |none=>none
def rdJ(t:T AV) (h:T AO):Option Int:=match h.get 1 with
 |some (.cells _ _ _ [.sv (.string s), .sv (.int .i64 j)])=>some j
 |_=>none
def rqJ(t:T AV) (h:T AO):Option Int:=match h.get 1 with
 |some (.cells _ _ _ [.sv (.string s), .sv (.int .i64 j),_])=>some j
 |_=>none
def z3n:Ct where
 σ:=RdS
 args:=λ_=>[.ptr 1 0]
 h:=λ⟨s,i⟩=>rdO s i
 m:=2
 pre:=λ⟨s,i⟩=>rdK s i
 find:=some ze6
 r:=λ⟨s,i⟩=> .sv (.int .u8 (pk s i.toNat:Nat))
 h':=λ⟨s,i⟩=>rdO s (sk s i.toNat:Nat)
 m':=2
 g:=λ_=>none
def zfo:z3n.σ->WayF:=λ⟨s,i⟩=>{ann:=λ_ _ _=>some {σ:=Int,pre:=λj=>i<=j/\j<=s.size/\sk s j.toNat=sk s i.toNat,find:=some rdJ,t:=λj=>[],h:=λj=>rdO s j,more:=0,μ:=λj=>s.size- j.toNat,keep:=[0]}}
def tkP(s:ByteArray) (i c:Nat):Nat:=if pk s i=c then sk s i+1 else sk s i
def z7u:Ct where
 σ:=RdS×Int
 args:=λ⟨⟨s,i⟩,c⟩=>[.ptr 1 0, .sv (.int .u8 c)]
 h:=λ⟨⟨s,i⟩,c⟩=>rdO s i
 m:=2
 pre:=λ⟨⟨s,i⟩,c⟩=>rdK s i/\0<c/\c<256
 find:=some λl h=>both (ze6 l h) (arI l)
 r:=λ⟨⟨s,i⟩,c⟩=> .sv (.bool (decide (pk s i.toNat=c.toNat)))
 h':=λ⟨⟨s,i⟩,c⟩=>rdO s (tkP s i.toNat c.toNat:Nat)
 m':=2
 g:=λ_=>none
def zji:Nat->Option Ct:=qg8 [(14,z3n)]
def wdF(s:ByteArray) (i:Nat) (w:ByteArray):Bool:=decide (i+w.size<=s.size)&&decide (s.extract i (i+w.size)=w)
def wdP(s:ByteArray) (i:Nat) (w:ByteArray):Nat:=if wdF s i w=true then i+w.size else i
def cHP:Ct:=ctS (ByteArray×ByteArray) (λ⟨s,w⟩=>[.string s, .string w]) (λvs=>match vs with| [.string a, .string b]=>some (a,b)|_=>none) (λ_=>True) (λ_=>{}) λ⟨s,w⟩=> .sv (.bool (Lib.hasPrefix s.data.toList w.data.toList))
def zb5:Ct where
 σ:=RdS×ByteArray
 args:=λ⟨⟨s,i⟩,c⟩=>[.ptr 1 0, .sv (.string c)]
 h:=λ⟨⟨s,i⟩,c⟩=>rdO s i
 m:=2
 pre:=λ⟨⟨s,i⟩,c⟩=>rdK s i
 find:=some λl h=>both (ze6 l h) (arS l)
 r:=λ⟨⟨s,i⟩,c⟩=> .sv (.bool (wdF s i.toNat c))
 h':=λ⟨⟨s,i⟩,c⟩=>rdO s (wdP s i.toNat c:Nat)
 m':=2
 g:=λ_=>none
def zjl:Nat->Option Ct:=qg8 [(48,cHP)]
def uqS(s:ByteArray) (i:Nat):Nat×ByteArray×Nat:=uqR (s.extract (sk s i) s.size)
def z7v:Ct where
 σ:=RdS
 args:=λ_=>[.ptr 1 0]
 h:=λ⟨s,i⟩=>rdO s i
 m:=2
 pre:=λ⟨s,i⟩=>rdK s i
 find:=some ze6
 r:=λ⟨s,i⟩=> .tup [.sv (.string (uqS s i.toNat).2.1), .sv (.int .i64 ((uqS s i.toNat).1:Nat))]
 h':=λ⟨s,i⟩=>rdO s (sk s i.toNat+(uqS s i.toNat).2.2:Nat)
 m':=2
 g:=λ_=>none
def zjj:Nat->Option Ct:=qg8 [(14,z3n),(46,za9)]
def nmM(s:ByteArray) (i:Nat):Nat:=if bat s i=45 then i+1 else i
def nqF(s:ByteArray):Nat->Nat->Nat->Nat×Nat×Bool
 |0,j,v=>(v,j,false)
 |f+1,j,v=>if z0f (bat s j)=true then(if(9223372036854775808- (bat s j- 48)) / 10<v then(v,j,true)else nqF s f (j+1) (v*10+(bat s j- 48)))else(v,j,false)
def nq(s:ByteArray) (j v:Nat):Nat×Nat×Bool:=nqF s (s.size- j) j v
def piR(l:List UInt8):Option Int:=match Lib.parseIntB 64 l with
 | .ok u=>some u
 |_=>none
def erP(p:Pub):Prop:=(∃t v e fr,p 1=some (.cells #[.iface t v] e fr))/\∃t v e fr,p 2=some (.cells #[.iface t v] e fr)
def erM:PF:=⟨true,erP,λp q h ⟨⟨t,v,e,fr,h1⟩,⟨t',v',e',fr',h2⟩⟩=>⟨⟨t,v,e,fr,h _ _ h1⟩,⟨t',v',e',fr',h _ _ h2⟩⟩⟩
def piP(s:ByteArray) (v:Int) (e:Value):Prop:=match piR s.data.toList with
 |some u=>v=u/\e= .nilIface
 |none=>∃t x,e= .iface t x
def cPI:CtR where
 σ:=ByteArray
 args:=λs=>[.sv (.string s), .sv (.int .i64 10), .sv (.int .i64 64)]
 h:=λ_=>[]
 m:=1
 pre:=λs=>s.size<=10000
 mem:=λ_=>erM
 find:=some λl _=>match l with
  | .sv (.string s)::_=>some s
  |_=>none
 β:=λ_=>Int×Value
 post:=λs ⟨v,e⟩=>piP s v e
 r:=λs ⟨v,e⟩=> .tup [.sv (.int .i64 v), .sv e]
 h':=λ_ _=>[]
 m':=1
def nmR(s:ByteArray) (i:Nat):Option Int:=if nmM s i+1<dg s (nmM s i)/\bat s (nmM s i)=48 then none else piR (s.extract i (dg s (nmM s i))).data.toList
def erO{α:Type} (o:Option α):Nat:=match o with
 |some _=>0
 |none=>2
def zig:Ct where
 σ:=RdS
 args:=λ_=>[.ptr 1 0]
 h:=λ⟨s,i⟩=>rdO s i
 m:=2
 pre:=λ⟨s,i⟩=>rdK s i/\i<s.size
 mem:=λ_=>erM
 find:=some ze6
 r:=λ⟨s,i⟩=> .tup [.sv (.int .i64 ((nmR s i.toNat).getD 0)), .sv (.int .i64 (erO (nmR s i.toNat):Nat))]
 h':=λ⟨s,i⟩=>rdO s (dg s (nmM s i.toNat):Nat)
 m':=2
 g:=λ_=>none
def nmL(s:ByteArray) (i:Int) (pre:Prop):LT:={σ:=Unit,pre:=λ_=>pre,find:=some λ_ _=>some (),t:=λ_=>[(5, .sv (.int .i64 (nmM s i.toNat:Nat)))],h:=λ_=>rdO s (dg s (nmM s i.toNat):Nat),more:=0,μ:=λ_=>0,keep:=[0,4]}
def zkn:zig.σ->WayF:=λ⟨s,i⟩=>{
 ann:=λ_ _ _=>some {σ:=Int,pre:=λj=>(nmM s i.toNat:Nat)<=j/\j<=s.size/\dg s j.toNat=dg s (nmM s i.toNat),find:=some rdJ,t:=λj=>[(5, .sv (.int .i64 (nmM s i.toNat:Nat)))],h:=λj=>rdO s j,more:=0,μ:=λj=>s.size- j.toNat,keep:=[0,4]}
 cut:=λk _ _=>match k with
  |7=>some (nmL s i True)
  |9=>some (nmL s i (¬(nmM s i.toNat+1<dg s (nmM s i.toNat)/\bat s (nmM s i.toNat)=48)))
  |_=>none
 spl:=λk=>match k with
  |9=>some 10
  |_=>none
 flo:=λk=>match k with
  |9=>some (13,[])
  |_=>none}
def z1v:Ct where
 σ:=RqS
 args:=λ_=>[.ptr 1 0]
 h:=λ⟨s,i,e⟩=>rqO s i e
 m:=2
 pre:=λ⟨s,i,e⟩=>rdK s i
 find:=some z8n
 r:=λ_=> .tup []
 h':=λ⟨s,i,e⟩=>rqO s (sk s i.toNat:Nat) e
 m':=2
 g:=λ_=>none
def zau:z1v.σ->WayF:=λ⟨s,i,e⟩=>{ann:=λ_ _ _=>some {σ:=Int,pre:=λj=>i<=j/\j<=s.size/\sk s j.toNat=sk s i.toNat,find:=some rqJ,t:=λj=>[],h:=λj=>rqO s j e,more:=0,μ:=λj=>s.size- j.toNat,keep:=[0]}}
def z1g:Ct where
 σ:=RqS×Int
 args:=λ⟨⟨s,i,e⟩,k⟩=>[.ptr 1 0, .sv (.int .i64 k)]
 h:=λ⟨⟨s,i,e⟩,k⟩=>rqO s i e
 m:=2
 find:=some λl h=>both (z8n l h) (arI l)
 r:=λ_=> .tup []
 h':=λ⟨⟨s,i,e⟩,k⟩=>rqO s i (if e=0 then k else e)
 m':=2
 g:=λ_=>none
def isF(s:ByteArray) (i e:Int) (w:ByteArray):Bool:=decide (e=0)&&wdF s (sk s i.toNat) w
def isP(s:ByteArray) (i e:Int) (w:ByteArray):Nat:=if isF s i e w=true then sk s i.toNat+w.size else sk s i.toNat
def ze4:Ct where
 σ:=RqS×ByteArray
 args:=λ⟨⟨s,i,e⟩,w⟩=>[.ptr 1 0, .sv (.string w)]
 h:=λ⟨⟨s,i,e⟩,w⟩=>rqO s i e
 m:=2
 pre:=λ⟨⟨s,i,e⟩,w⟩=>rdK s i/\w.size<=10
 find:=some λl h=>both (z8n l h) (arS l)
 r:=λ⟨⟨s,i,e⟩,w⟩=> .sv (.bool (isF s i e w))
 h':=λ⟨⟨s,i,e⟩,w⟩=>rqO s (isP s i e w:Nat) e
 m':=2
 g:=λ_=>none
def zqw:Nat->Option Ct:=qg8 [(16,z1v)]
def neE(s:ByteArray) (i e:Int) (w:ByteArray):Int:=if isF s i e w=true then e else if e=0 then 2 else e
def z7s:Ct where
 σ:=RqS×ByteArray
 args:=λ⟨⟨s,i,e⟩,w⟩=>[.ptr 1 0, .sv (.string w)]
 h:=λ⟨⟨s,i,e⟩,w⟩=>rqO s i e
 m:=2
 pre:=λ⟨⟨s,i,e⟩,w⟩=>rdK s i/\w.size<=10
 find:=some λl h=>both (z8n l h) (arS l)
 r:=λ_=> .tup []
 h':=λ⟨⟨s,i,e⟩,w⟩=>rqO s (isP s i e w:Nat) (neE s i e w)
 m':=2
 g:=λ_=>none
def zjf:Nat->Option Ct:=qg8 [(34,ze4),(17,z1g)]
def z4j:Ct where
 σ:=RqS
 args:=λ_=>[.ptr 1 0]
 h:=λ⟨s,i,e⟩=>rqO s i e
 m:=2
 pre:=λ⟨s,i,e⟩=>rdK s i
 find:=some z8n
 r:=λ⟨s,i,e⟩=> .sv (.string (if e=0 then(uqS s i.toNat).2.1 else mkS []))
 h':=λ⟨s,i,e⟩=>rqO s (if e=0 then sk s i.toNat+(uqS s i.toNat).2.2 else sk s i.toNat:Nat) (if e=0 then((uqS s i.toNat).1:Nat)else e)
 m':=2
 g:=λ_=>none
def zf9:Nat->Option Ct:=qg8 [(16,z1v),(17,z1g),(49,za9)]
def isX(c:Nat):Bool:=decide (c=46)||decide (c=101)||decide (c=69)
def nqX(s:ByteArray) (i:Nat):Nat×Nat×Bool:=nq s (nmM s i) 0
def z12(s:ByteArray) (i:Nat):Bool:= !(nqX s i).2.2&&(!decide ((nqX s i).2.1=nmM s i)&&(!(decide (bat s (nmM s i)=48)&&decide (nmM s i+1<(nqX s i).2.1))&&(!isX (bat s (nqX s i).2.1)&&(decide (bat s i=45)||decide ((nqX s i).1<9223372036854775808)))))
def nqV(s:ByteArray) (i:Nat):Int:=if bat s i=45 then -((nqX s i).1:Int)else((nqX s i).1:Nat)
def jzA(k n:Int) (t:ByteArray):AV:= .agg [.sv (.int .i64 k), .sv (.int .i64 n), .sv (.string t), .sv (.slice none 0 0), .sv (.slice none 0 0)]
def z7t:Ct where
 σ:=ByteArray×Int
 args:=λ_=>[.ptr 1 0]
 h:=λ⟨s,i⟩=>rqO s i 0
 m:=2
 pre:=λ⟨s,i⟩=>rdK s i/\i<s.size
 find:=some λl h=>match z8n l h with
  |some (s,i,_)=>some (s,i)
  |none=>none
 r:=λ⟨s,i⟩=>jzA (if z12 s i.toNat=true then 3 else 0) (if z12 s i.toNat=true then nqV s i.toNat else 0) (mkS [])
 h':=λ⟨s,i⟩=>rqO s ((nqX s i.toNat).2.1:Nat) (if z12 s i.toNat=true then 0 else 2)
 m':=2
 g:=λ_=>none
def nuI(s:ByteArray) (i j v:Int):Prop:=(nmM s i.toNat:Nat)<=j/\j<=s.size/\0<=v/\v<=9223372036854775808
def nuL(s:ByteArray) (i:Int) (ks:List Nat) (b8:Bool) (pre:Int->Int->Prop):LT:={σ:=Int×Int,pre:=λ⟨j,v⟩=>nuI s i j v/\pre j v,find:=some λt h=>both (rqJ t h) (slI t 6),t:=λ⟨j,v⟩=>(if b8=true then [(8, .sv (.bool (isX (bat s j.toNat))))]else [])++[(4, .sv (.bool (decide (bat s i.toNat=45)))),(5, .sv (.int .i64 (nmM s i.toNat:Nat))),(6, .sv (.int .u64 v))],h:=λ⟨j,v⟩=>rqO s j 0,more:=0,μ:=λ⟨j,v⟩=>s.size- j.toNat,keep:=ks}
def nuX(s:ByteArray) (i j v:Int):Prop:=nqX s i.toNat=(v.toNat,j.toNat,false)
def zfn:z7t.σ->WayF:=λ⟨s,i⟩=>{
 ann:=λ_ _ _=>some (nuL s i [0,2,3] false λj v=>nq s j.toNat v.toNat=nqX s i.toNat)
 cut:=λk _ _=>match k with
  |14=>some (nuL s i [0,2,3] false λj v=>nuX s i j v)
  |15=>some (nuL s i [0,2,3] true λj v=>nuX s i j v)
  |18=>some (nuL s i [0,2] false λj v=>nuX s i j v/\z12 s i.toNat=true)
  |_=>none}
def zjg:Nat->Option Ct:=qg8 [(17,z1g)]
section
variable (x0:ByteArray) (x1 x2 x3:Int)
 abbrev zir:=(↑(bat x0 (toNat x1)):Int)=x2
 def znp:=Jb (x1+1)/\x0=x0/\x1+1=x1+1/\(x2<=x1+1/\x1+1<=(↑(size x0):Int)/\sk x0 (toNat (x1+1))=sk x0 (toNat x2))/\size x0- toNat (x1+1)<size x0- toNat x1/\True
 def zns:=(↑(pk x0 (toNat x1)):Int)=(↑(bat x0 (toNat x2)):Int)/\x0=x0/\(↑(sk x0 (toNat x1)):Int)=x2/\True
 def zgm:=Ji ((↑(bat x0 (toNat x1)):Int)=x3) (znp x0 x1 x2) (zns x0 x2 x1)
 abbrev znr:=Ji (zir x0 x1 13) (zgm x0 x1 x2 13) (zgm x0 x1 x2 32)
 abbrev znq:=Ji (zir x0 x1 10) (zgm x0 x1 x2 10) (znr x0 x1 x2)
 def zno:=(0<=x1/\x1<(↑(size x0):Int))/\Ji (zir x0 x1 9) (zgm x0 x1 x2 9) (znq x0 x1 x2)
 def znn:=Ji (x1<(↑(size x0):Int)) (zno x0 x1 x2) ((↑(pk x0 (toNat x2)):Int)=0/\x0=x0/\(↑(sk x0 (toNat x2)):Int)=x1/\True)
 def znm:=(x0=x0/\x1=x1/\(x1<=x1/\x1<=(↑(size x0):Int)/\sk x0 (toNat x1)=sk x0 (toNat x1))/\True)/\∀(i0:Int),x1<=i0/\i0<=(↑(size x0):Int)/\sk x0 (toNat i0)=sk x0 (toNat x1)->znn x0 i0 x1
end
def z8i(s:ByteArray) (i:Int):qky P (λ_=>none) Go.Proofs.Tryd.f14 z3n (zfo) ⟨s,i⟩=(rdK s i->znm s i):=by kernel_rfl
def zc4:=λs i=>Eq.trans (z8i s i) (by delta Ji Jb Jt Jf zir znp zns zgm znr znq zno znn znm;exact rfl)
def zcc(s:ByteArray) (i c:Int):qky P (zji) Go.Proofs.Tryd.f45 z7u (λ_=>{}) ⟨⟨s,i⟩,c⟩=(rdK s i/\(0:Int)<c/\c<(256:Int)->s=s/\i=i/\rdK s i/\((!decide ((↑(pk s (toNat i)):Int)=c))=true->decide (pk s (toNat i)=toNat c)=false/\s=s/\(↑(tkP s (toNat i) (toNat c)):Int)=(↑(sk s (toNat i)):Int)/\True)/\((!decide ((↑(pk s (toNat i)):Int)=c))=false->((-9223372036854775808:Int)<=(↑(sk s (toNat i)):Int)+(1:Int)/\(↑(sk s (toNat i)):Int)+(1:Int)<=(9223372036854775807:Int))/\decide (pk s (toNat i)=toNat c)=true/\s=s/\(↑(tkP s (toNat i) (toNat c)):Int)=(↑(sk s (toNat i)):Int)+(1:Int)/\True)):=by kernel_rfl
def zcm(s:ByteArray) (i:Int) (c:ByteArray):qky P (zjl) Go.Proofs.Tryd.f29 zb5 (λ_=>{}) ⟨⟨s,i⟩,c⟩=(rdK s i->((0:Int)<=i/\i<=(↑(size s):Int))/\ByteArray.extract s (toNat i) (size s)=ByteArray.extract s (toNat i) (size s)/\c=c/\True/\((!Lib.hasPrefix (Array.toList (ByteArray.data (ByteArray.extract s (toNat i) (size s)))) (Array.toList (ByteArray.data c)))=true->wdF s (toNat i) c=false/\s=s/\(↑(wdP s (toNat i) c):Int)=i/\True)/\((!Lib.hasPrefix (Array.toList (ByteArray.data (ByteArray.extract s (toNat i) (size s)))) (Array.toList (ByteArray.data c)))=false->((-9223372036854775808:Int)<=i+(↑(size c):Int)/\i+(↑(size c):Int)<=(9223372036854775807:Int))/\wdF s (toNat i) c=true/\s=s/\(↑(wdP s (toNat i) c):Int)=i+(↑(size c):Int)/\True)):=by kernel_rfl
section
variable (x0:ByteArray) (x1:Int)
 abbrev zax:=(↑(sk x0 (toNat x1)):Int)
 abbrev zea:=ByteArray.extract x0 (toNat (zax x0 x1)) (size x0)
 def znt:=x0=x0/\x1=x1/\rdK x0 x1/\(0<=(zax x0 x1)/\(zax x0 x1)<=(↑(size x0):Int))/\ByteArray.extract x0 (toNat (zax x0 x1)) (size x0)=ByteArray.extract x0 (toNat (zax x0 x1)) (size x0)/\size (zea x0 x1)<100000/\Jb ((zax x0 x1)+(↑(uqR (zea x0 x1)).2.2:Int))/\(uqS x0 (toNat x1)).2.1=(uqR (zea x0 x1)).2.1/\(↑(uqS x0 (toNat x1)).1:Int)=(↑(uqR (zea x0 x1)).1:Int)/\x0=x0/\(↑(sk x0 (toNat x1)+(uqS x0 (toNat x1)).2.2):Int)=(zax x0 x1)+(↑(uqR (zea x0 x1)).2.2:Int)/\True
end
def z6m(s:ByteArray) (i:Int):qky P (zjj) Go.Proofs.Tryd.f27 z7v (λ_=>{}) ⟨s,i⟩=(rdK s i->znt s i):=by kernel_rfl
def z8s:=λs i=>Eq.trans (z6m s i) (by delta Jb zax zea znt;exact rfl)
section
variable (x0:Int) (x1:ByteArray) (x2:Int) (x3:Int×Value) (x4:Prop)
 abbrev z2d:=x0<(↑(size x1):Int)
 abbrev zd7:=Jb (x0+1)
 abbrev z0p:=(↑(nmM x1 (toNat x0)):Int)
 def z5h:=(∀i0,True/\erP i0->True/\erP i0)
 def zd9:=decide (z2d x0 x1)=decide (z2d x0 x1)
 def z76:=zd9 x0 x1/\zd9 x0 x1/\zd9 x0 x1/\zd9 x0 x1/\x4
 abbrev z5i:=48<=(↑(bat x1 (toNat x0)):Int)
 def zd8:=decide (z5i x0 x1)=decide (z5i x0 x1)
 def z77:=zd8 x0 x1/\zd8 x0 x1/\zd8 x0 x1/\zd8 x0 x1/\x4
 def zgp:=zd7 x0/\(z0p x2 x1)=(z0p x2 x1)/\x2=x2/\x1=x1/\x0+1=x0+1/\z5h/\((z0p x2 x1)<=x0+1/\x0+1<=(↑(size x1):Int)/\dg x1 (toNat (x0+1))=dg x1 (nmM x1 (toNat x2)))/\size x1- toNat (x0+1)<size x1- toNat x0/\True
 abbrev z1e:=(↑(dg x1 (nmM x1 (toNat x0))):Int)
 def zeb:=(z0p x0 x1)=(z0p x0 x1)/\x0=x0/\x1=x1/\(z1e x0 x1)=x2/\z5h/\True/\True
 def zgn:=Ji ((↑(bat x1 (toNat x0)):Int)<=57) (zgp x0 x1 x2) (zeb x2 x1 x0)
 def zny:=z77 x0 x1 (z77 x0 x1 ((0<=x0/\z2d x0 x1)/\zd8 x0 x1/\Ji (z5i x0 x1) (zgn x0 x1 x2) (zeb x2 x1 x0)))
 def zgt:=zd8 x0 x1/\z77 x0 x1 (z77 x0 x1 (Ji (z5i x0 x1) (False) (zeb x2 x1 x0)))
 abbrev znx:=Ji (z5i x0 x1) (zny x0 x1 x2) (zgt x0 x1 x2)
 def znw:=z76 x0 x1 (z76 x0 x1 ((0<=x0/\z2d x0 x1)/\zd9 x0 x1/\Ji (z2d x0 x1) (znx x0 x1 x2) (zeb x2 x1 x0)))
 def zgu:=zd9 x0 x1/\z76 x0 x1 (z76 x0 x1 (Ji (z2d x0 x1) (False) (zeb x2 x1 x0)))
 abbrev znv:=Ji (z2d x0 x1) (znw x0 x1 x2) (zgu x0 x1 x2)
 def zd4:=∀(i0:Int),(z0p x0 x1)<=i0/\i0<=(↑(size x1):Int)/\dg x1 (toNat i0)=dg x1 (nmM x1 (toNat x0))->znv i0 x1 x0
 def zd6:=(↑(erO (nmR x1 (toNat x0))):Int)=x2/\x1=x1/\(z1e x0 x1)=(z1e x0 x1)/\True
 def zd3:=Option.getD (nmR x1 (toNat x0)) (0:Int)=0/\zd6 x0 x1 2
 def zd5:=nmM x1 (toNat x0)+1<dg x1 (nmM x1 (toNat x0))/\bat x1 (nmM x1 (toNat x0))=48
 def zd2:=(z0p x0 x1)=(z0p x0 x1)/\x0=x0/\x1=x1/\(z1e x0 x1)=(z1e x0 x1)/\z5h/\¬(zd5 x0 x1)/\True
 def zgs:=(0<=(z0p x0 x1)/\(z0p x0 x1)<(↑(size x1):Int))/\Ji ((↑(bat x1 (toNat (z0p x0 x1))):Int)=48) (zd3 x0 x1) (zd2 x0 x1)
 def zgv:=Option.getD (nmR x1 (toNat x0)) (0:Int)=x3.1/\zd6 x0 x1 0
 def zgr:=(x3.2=Value.nilIface\/∃(i0:TypeId),∃i1,x3.2=Value.iface i0 i1)/\((!Sen.nilV x3.2)=true->zd3 x0 x1)/\((!Sen.nilV x3.2)=false->zgv x0 x1 x3)
 def znz:=(0<=x0/\x0<=(z1e x0 x1)/\(z1e x0 x1)<=(↑(size x1):Int))/\ByteArray.extract x1 (toNat x0) (toNat (z1e x0 x1))=ByteArray.extract x1 (toNat x0) (toNat (z1e x0 x1))/\(10:Int)=10/\(64:Int)=64/\size (ByteArray.extract x1 (toNat x0) (toNat (z1e x0 x1)))<=10000/\(∀i0,True/\erP i0->erP i0)/\∀(i1:Int×Value),piP (ByteArray.extract x1 (toNat x0) (toNat (z1e x0 x1))) i1.1 i1.2->zgr x0 x1 i1
 def zk2:=(Jb ((z0p x0 x1)+1)/\Ji ((z0p x0 x1)+1<(z1e x0 x1)) (zgs x0 x1) (zd2 x0 x1))/\∀(i2:Unit),¬(zd5 x0 x1)->znz x0 x1
 def zgo:=zd7 x0/\(((z0p x0 x1)=x0+1/\x0=x0/\x1=x1/\x0+1=x0+1/\z5h/\((z0p x0 x1)<=x0+1/\x0+1<=(↑(size x1):Int)/\dg x1 (toNat (x0+1))=dg x1 (nmM x1 (toNat x0)))/\True)/\zd4 x0 x1)/\∀(i2:Unit),True->zk2 x0 x1
 def zgq:=(((z0p x0 x1)=x0/\x0=x0/\x1=x1/\x0=x0/\z5h/\((z0p x0 x1)<=x0/\x0<=(↑(size x1):Int)/\dg x1 (toNat x0)=dg x1 (nmM x1 (toNat x0)))/\True)/\zd4 x0 x1)/\∀(i2:Unit),True->zk2 x0 x1
 def znu:=(0<=x0/\z2d x0 x1)/\Ji ((↑(bat x1 (toNat x0)):Int)=45) (zgo x0 x1) (zgq x0 x1)
end
def z8f(s:ByteArray) (i:Int):ql0 P (λ_=>none) (qhc [(47,cPI)]) Go.Proofs.Tryd.f28 zig (zkn) ⟨s,i⟩=(rdK s i/\z2d i s->(∃(p:Pub),True/\erP p)->znu i s):=by kernel_rfl
def zbx:=λs i=>Eq.trans (z8f s i) (by delta Ji Jb Jt Jf z2d zd7 z0p z5h zd9 z76 z5i zd8 z77 zgp z1e zeb zgn zny zgt znx znw zgu znv zd4 zd6 zd3 zd5 zd2 zgs zgv zgr znz zk2 zgo zgq znu;exact rfl)
section
variable (x0:ByteArray) (x1 x2 x3:Int) (x4:Prop)
 abbrev z27:=x1<(↑(size x0):Int)
 def z1m:=decide (z27 x0 x1)=decide (z27 x0 x1)
 def z39:=z1m x0 x1/\z1m x0 x1/\z1m x0 x1/\z1m x0 x1/\x4
 abbrev z26:=(↑(bat x0 (toNat x1)):Int)=x2
 def z2t:=decide ((↑(bat x0 (toNat x1)):Int)=x2)=decide ((↑(bat x0 (toNat x1)):Int)=x2)
 def z7b:=z2t x0 x1 9/\z2t x0 x1 9/\z2t x0 x1 9/\z2t x0 x1 9/\x4
 def zk3:=Jb (x1+1)/\x0=x0/\x1+1=x1+1/\x2=x2/\(x3<=x1+1/\x1+1<=(↑(size x0):Int)/\sk x0 (toNat (x1+1))=sk x0 (toNat x3))/\size x0- toNat (x1+1)<size x0- toNat x1/\True
 def z78:=x0=x0/\(↑(sk x0 (toNat x1)):Int)=x2/\x3=x3/\True
 abbrev z42:=Ji (z27 x0 x1) (zk3 x0 x1 x2 x3) (z78 x0 x3 x1 x2)
 def zgz:=z2t x0 x1 9/\z7b x0 x1 (z7b x0 x1 (z1m x0 x1/\Ji (z26 x0 x1 9) (z39 x0 x1 (z42 x0 x1 x2 x3)) (z1m x0 x1/\z1m x0 x1/\False)))
 def z79:=z2t x0 x1 10/\z2t x0 x1 10/\z2t x0 x1 10/\z2t x0 x1 10/\x4
 def zh0:=z2t x0 x1 10/\z79 x0 x1 (z79 x0 x1 (z1m x0 x1/\Ji (z26 x0 x1 10) (z1m x0 x1/\z1m x0 x1/\z42 x0 x1 x2 x3) (z1m x0 x1/\z1m x0 x1/\False)))
 def z7a:=z2t x0 x1 13/\z2t x0 x1 13/\z2t x0 x1 13/\z2t x0 x1 13/\x4
 abbrev zda:=Ji (z27 x0 x1) (False) (z78 x0 x2 x1 x3)
 def zgx:=z2t x0 x1 13/\z7a x0 x1 (z7a x0 x1 (z1m x0 x1/\Ji (z26 x0 x1 13) (z42 x0 x1 x2 x3) (zda x0 x1 x3 x2)))
 abbrev zh1:=Ji (z27 x0 x1) (Ji (z26 x0 x1 32) (zk3 x0 x1 x2 x3) (z78 x0 x3 x1 x2)) (z78 x0 x3 x1 x2)
 def zgw:=z7a x0 x1 (z7a x0 x1 ((0<=x1/\z27 x0 x1)/\z2t x0 x1 13/\z1m x0 x1/\Ji (z26 x0 x1 13) (z42 x0 x1 x2 x3) (zh1 x0 x1 x2 x3)))
 def zo6:=z1m x0 x1/\Ji (z26 x0 x1 13) (zgx x0 x1 x2 x3) (zgw x0 x1 x2 x3)
 def zo5:=z79 x0 x1 (z79 x0 x1 ((0<=x1/\z27 x0 x1)/\z2t x0 x1 10/\z1m x0 x1/\Ji (z26 x0 x1 10) (z1m x0 x1/\z1m x0 x1/\z42 x0 x1 x2 x3) (zo6 x0 x1 x2 x3)))
 def zo4:=z1m x0 x1/\Ji (z26 x0 x1 10) (zh0 x0 x1 x2 x3) (zo5 x0 x1 x2 x3)
 def zo3:=z7b x0 x1 (z7b x0 x1 ((0<=x1/\z27 x0 x1)/\z2t x0 x1 9/\z1m x0 x1/\Ji (z26 x0 x1 9) (z39 x0 x1 (z42 x0 x1 x2 x3)) (zo4 x0 x1 x2 x3)))
 def zo2:=z39 x0 x1 (z39 x0 x1 ((0<=x1/\z27 x0 x1)/\z1m x0 x1/\z1m x0 x1/\Ji (z26 x0 x1 9) (zgz x0 x1 x2 x3) (zo3 x0 x1 x2 x3)))
 def zgy:=z1m x0 x1/\z1m x0 x1/\z1m x0 x1/\z39 x0 x1 (z39 x0 x1 (z39 x0 x1 (zda x0 x1 x2 x3)))
 abbrev zo1:=Ji (z27 x0 x1) (zo2 x0 x1 x2 x3) (zgy x0 x1 x3 x2)
 def zo0:=(x0=x0/\x1=x1/\x2=x2/\(x1<=x1/\x1<=(↑(size x0):Int)/\sk x0 (toNat x1)=sk x0 (toNat x1))/\True)/\∀(i0:Int),x1<=i0/\i0<=(↑(size x0):Int)/\sk x0 (toNat i0)=sk x0 (toNat x1)->zo1 x0 i0 x2 x1
end
def z5c(s:ByteArray) (i e:Int):qky P (λ_=>none) Go.Proofs.Tryd.f16 z1v (zau) ⟨s,i,e⟩=(rdK s i->zo0 s i e):=by kernel_rfl
def z6h:=λs i e=>Eq.trans (z5c s i e) (by delta Ji Jb Jt Jf z27 z1m z39 z26 z2t z7b zk3 z78 z42 zgz z79 zh0 z7a zda zgx zh1 zgw zo6 zo5 zo4 zo3 zo2 zgy zo1 zo0;exact rfl)
def z82(s:ByteArray) (i e k:Int):qky P (λ_=>none) Go.Proofs.Tryd.f17 z1g (λ_=>{}) ⟨⟨s,i,e⟩,k⟩=(True->(decide (e=(0:Int))=true->s=s/\i=i/\(if e=(0:Int)then k else e)=k/\True)/\(decide (e=(0:Int))=false->s=s/\i=i/\(if e=(0:Int)then k else e)=e/\True)):=by kernel_rfl
section
variable (x0:ByteArray) (x1 x2:Int) (x3:ByteArray) (x4:Prop)
 abbrev z9m:=(!decide (x1=0))= !decide (x1=0)
 def z9n:=z9m x1/\z9m x1/\z9m x1/\x4
 abbrev z28:=(↑(sk x0 (toNat x1)):Int)
 def zec:=isF x0 x1 x2 x3=false/\x0=x0/\(↑(isP x0 x1 x2 x3):Int)=(z28 x0 x1)/\x2=x2/\True
 abbrev z9l:=Jb ((z28 x0 x1)+(↑(size x3):Int))
 abbrev zed:=(↑(size x0):Int)<(z28 x0 x1)+(↑(size x3):Int)
 def z55:=decide (zed x0 x1 x3)=decide (zed x0 x1 x3)
 def z7c:=z55 x0 x1 x3/\z55 x0 x1 x3/\z55 x0 x1 x3/\z55 x0 x1 x3/\z55 x0 x1 x3/\z55 x0 x1 x3/\z55 x0 x1 x3/\x4
 def zoc:=z55 x0 x1 x3/\z55 x0 x1 x3/\z55 x0 x1 x3/\z7c x0 x1 x3 (z7c x0 x1 x3 (Ji (zed x0 x1 x3) (zec x0 x1 x2 x3) (False)))
 def zdb:= !decide (ByteArray.extract x0 (toNat (z28 x0 x1)) (toNat ((z28 x0 x1)+(↑(size x3):Int)))=x3)
 def zh2:=z9l x0 x1 x3/\isF x0 x1 x2 x3=true/\x0=x0/\(↑(isP x0 x1 x2 x3):Int)=(z28 x0 x1)+(↑(size x3):Int)/\x2=x2/\True
 def zob:=((zdb x0 x1 x3)=true->zec x0 x1 x2 x3)/\((zdb x0 x1 x3)=false->zh2 x0 x1 x2 x3)
 def zoa:=z7c x0 x1 x3 (z7c x0 x1 x3 (z9l x0 x1 x3/\z55 x0 x1 x3/\(0<=(z28 x0 x1)/\(z28 x0 x1)<=(z28 x0 x1)+(↑(size x3):Int)/\(z28 x0 x1)+(↑(size x3):Int)<=(↑(size x0):Int))/\z55 x0 x1 x3/\z55 x0 x1 x3/\Ji (zed x0 x1 x3) (zec x0 x1 x2 x3) (zob x0 x1 x2 x3)))
 abbrev zo9:=Ji (zed x0 x1 x3) (zoc x0 x1 x2 x3) (zoa x0 x1 x2 x3)
 def zo8:=z9n x1 (z9n x1 (z9l x0 x2 x3/\z9n x1 (z9n x1 (((!decide (x1=0))=true->zec x0 x2 x1 x3)/\((!decide (x1=0))=false->zo9 x0 x2 x1 x3)))))
 def zo7:=x0=x0/\x1=x1/\x2=x2/\rdK x0 x1/\((!decide (x2=0))=true->z9n x2 (z9n x2 (z9n x2 (z9n x2 (((!decide (x2=0))=true->zec x0 x1 x2 x3)/\((!decide (x2=0))=false->False))))))/\((!decide (x2=0))=false->zo8 x0 x2 x1 x3)
end
def zbh(s:ByteArray) (i e:Int) (w:ByteArray):qky P (zqw) Go.Proofs.Tryd.f34 ze4 (λ_=>{}) ⟨⟨s,i,e⟩,w⟩=(rdK s i/\size w<=10->zo7 s i e w):=by kernel_rfl
def zem:=λs i e w=>Eq.trans (zbh s i e w) (by delta Ji Jb Jt Jf z9m z9n z28 zec z9l zed z55 z7c zoc zdb zh2 zob zoa zo9 zo8 zo7;exact rfl)
def z8d(s:ByteArray) (i e:Int) (w:ByteArray):qky P (zjf) Go.Proofs.Tryd.f50 z7s (λ_=>{}) ⟨⟨s,i,e⟩,w⟩=(rdK s i/\size w<=(10:Nat)->w=w/\s=s/\i=i/\e=e/\(rdK s i/\size w<=(10:Nat))/\((!isF s i e w)=true->(2:Int)=(2:Int)/\s=s/\(↑(isP s i e w):Int)=(↑(isP s i e w):Int)/\e=e/\True/\s=s/\(↑(isP s i e w):Int)=(↑(isP s i e w):Int)/\(neE s i e w=if e=(0:Int)then(2:Int)else e)/\True)/\((!isF s i e w)=false->s=s/\(↑(isP s i e w):Int)=(↑(isP s i e w):Int)/\neE s i e w=e/\True)):=by kernel_rfl
section
variable (x0:ByteArray) (x1 x2:Int) (x3:Prop)
 abbrev zk5:=(↑(if x1=0 then sk x0 (toNat x2)+(uqS x0 (toNat x2)).2.2 else sk x0 (toNat x2)):Int)
 abbrev z7d:=(↑(sk x0 (toNat x1)):Int)
 abbrev zk4:=(if x1=0 then(uqS x0 (toNat x2)).2.1 else mkS [])=mkS []/\x0=x0/\(zk5 x0 x1 x2)=(z7d x0 x2)/\x3
 abbrev zis:=if x1=0 then(↑(uqS x0 (toNat x2)).1:Int)else x1
 def zoh:=zk4 x0 x1 x2 ((zis x0 x1 x2)=x1/\True)
 abbrev zee:=ByteArray.extract x0 (toNat (z7d x0 x1)) (size x0)
 abbrev z5j:=(↑(uqR (zee x0 x1)).1:Int)
 abbrev zog:=(z5j x0 x1)=(z5j x0 x1)/\x0=x0/\(z7d x0 x1)=(z7d x0 x1)/\x2=x2/\True/\zk4 x0 x2 x1 (((zis x0 x2 x1)=if x2=0 then(z5j x0 x1)else x2)/\True)
 abbrev zof:=Jb ((z7d x0 x1)+(↑(uqR (zee x0 x1)).2.2:Int))/\(if x2=0 then(uqS x0 (toNat x1)).2.1 else mkS [])=(uqR (zee x0 x1)).2.1/\x0=x0/\(zk5 x0 x2 x1)=(z7d x0 x1)+(↑(uqR (zee x0 x1)).2.2:Int)/\(zis x0 x2 x1)=x2/\True
 def zoe:=(0<=(z7d x0 x1)/\(z7d x0 x1)<=(↑(size x0):Int))/\ByteArray.extract x0 (toNat (z7d x0 x1)) (size x0)=ByteArray.extract x0 (toNat (z7d x0 x1)) (size x0)/\size (zee x0 x1)<100000/\((!decide ((z5j x0 x1)=0))=true->zog x0 x1 x2)/\((!decide ((z5j x0 x1)=0))=false->zof x0 x1 x2)
 def zod:=x0=x0/\x1=x1/\x2=x2/\rdK x0 x1/\((!decide (x2=0))=true->zoh x0 x2 x1)/\((!decide (x2=0))=false->zoe x0 x1 x2)
end
def z6l(s:ByteArray) (i e:Int):qky P (zf9) Go.Proofs.Tryd.f30 z4j (λ_=>{}) ⟨s,i,e⟩=(rdK s i->zod s i e):=by kernel_rfl
def z8r:=λs i e=>Eq.trans (z6l s i e) (by delta Jb zk5 z7d zk4 zis zoh zee z5j zog zof zoe zod;exact rfl)
section
variable (x0:Int×Int) (x1:ByteArray) (x2:Int) (x3:Prop) (x4 x5 x6:Int)
 abbrev z2a:=(↑(nmM x1 (toNat x2)):Int)
 abbrev z44:=bat x1 (toNat x2)=45
 def zdh:=decide (z44 x1 x2)=decide ((↑(bat x1 (toNat x2)):Int)=45)/\(0:Int)=0/\x1=x1/\x3
 abbrev z29:=x0.1<(↑(size x1):Int)
 def z0q:=decide (z29 x0 x1)=decide (z29 x0 x1)
 def z2e:=z0q x0 x1/\z0q x0 x1/\z0q x0 x1/\z0q x0 x1/\x3
 def z45:=(0<=x0.1/\z29 x0 x1)
 abbrev z0i:=(↑(bat x1 (toNat x0.1)):Int)
 def z43:=decide (48<=(z0i x0 x1))=decide (48<=(z0i x0 x1))
 def z7i:=z43 x0 x1/\z43 x0 x1/\z43 x0 x1/\z43 x0 x1/\x3
 abbrev zhn:=IntKind.wrap u64 (Int.tdiv (IntKind.wrap u64 ((9223372036854775808:Int)- IntKind.wrap u8 ((z0i x0 x1)- 48))) 10)<x0.2
 abbrev z5l:=(if z12 x1 (toNat x2)=true then x4 else x5)=x6
 abbrev z9r:=if z12 x1 (toNat x2)=true then nqV x1 (toNat x2)else 0
 def z9p:=mkS []=mkS []/\noA=noA/\(0:Nat)=0/\(0:Nat)=0/\noA=noA/\(0:Nat)=0/\(0:Nat)=0/\x1=x1/\(↑(nqX x1 (toNat x2)).2.1:Int)=x0.1/\x3
 abbrev zef:=(2:Int)=2/\x1=x1/\x0.1=x0.1/\(0:Int)=0/\True/\z5l x1 x2 3 0 0/\(z9r x1 x2)=0/\z9p x0 x1 x2 (((if z12 x1 (toNat x2)=true then(0:Int)else 2)=if(0:Int)=0 then 2 else 0)/\True)
 def z3a:=(z2a x1 x2)=(z2a x1 x2)/\decide (z44 x1 x2)=decide (z44 x1 x2)/\x3
 abbrev z7f:=IntKind.wrap u64 (x0.2*10)+IntKind.wrap u8 ((z0i x0 x1)- 48)
 def zha:=Jb (x0.1+1)/\x2=x2/\z3a x1 x2 (IntKind.wrap u64 (z7f x0 x1)=IntKind.wrap u64 (z7f x0 x1)/\x1=x1/\x0.1+1=x0.1+1/\(0:Int)=0/\(nuI x1 x2 (x0.1+1) (IntKind.wrap u64 (z7f x0 x1))/\nq x1 (toNat (x0.1+1)) (toNat (IntKind.wrap u64 (z7f x0 x1)))=nqX x1 (toNat x2))/\size x1- toNat (x0.1+1)<size x1- toNat x0.1/\True)
 def zh7:=z45 x0 x1/\(0<=IntKind.wrap u8 ((z0i x0 x1)- 48)/\IntKind.wrap u8 ((z0i x0 x1)- 48)<=18446744073709551615)/\(10:Int)≠0/\Ji (zhn x0 x1) (zef x0 x1 x2) (zha x0 x1 x2)
 def z7e:=x0.2=x0.2/\x1=x1/\x0.1=x0.1/\(0:Int)=0/\(nuI x1 x2 x0.1 x0.2/\nqX x1 (toNat x2)=(toNat x0.2,toNat x0.1,false))/\True
 def z5k:=x2=x2/\z3a x1 x2 (z7e x0 x1 x2)
 def zh6:=Ji ((z0i x0 x1)<=57) (zh7 x0 x1 x2) (z5k x0 x1 x2)
 def zh3:=z7i x0 x1 (z7i x0 x1 (z45 x0 x1/\z43 x0 x1/\Ji (48<=(z0i x0 x1)) (zh6 x0 x1 x2) (z5k x0 x1 x2)))
 def zhl:=z43 x0 x1/\z7i x0 x1 (z7i x0 x1 (Ji (48<=(z0i x0 x1)) (False) (z5k x0 x1 x2)))
 def zoo:=Ji (48<=(z0i x0 x1)) (zh3 x0 x1 x2) (zhl x0 x1 x2)
 def zom:=z2e x0 x1 (z2e x0 x1 (z45 x0 x1/\z0q x0 x1/\Ji (z29 x0 x1) (zoo x0 x1 x2) (z5k x0 x1 x2)))
 def zho:=z0q x0 x1/\z2e x0 x1 (z2e x0 x1 (Ji (z29 x0 x1) (False) (z5k x0 x1 x2)))
 abbrev zoi:=Ji (z29 x0 x1) (zom x0 x1 x2) (zho x0 x1 x2)
 def zdf:=∀(i0:Int×Int),nuI x1 x2 i0.1 i0.2/\nq x1 (toNat i0.1) (toNat i0.2)=nqX x1 (toNat x2)->zoi i0 x1 x2
 def z9q:=nuI x1 x2 x0.1 x0.2/\nqX x1 (toNat x2)=(toNat x0.2,toNat x0.1,false)
 def z1f:=decide ((z0i x0 x1)=x2)=decide ((z0i x0 x1)=x2)
 def z7h:=z1f x0 x1 46/\z1f x0 x1 46/\z1f x0 x1 46/\z1f x0 x1 46/\x3
 def zh4:=x2=x2/\z3a x1 x2 (isX (bat x1 (toNat x0.1))=true/\z7e x0 x1 x2)
 def zit:=x2=x2/\z3a x1 x2 (isX (bat x1 (toNat x0.1))=false/\z7e x0 x1 x2)
 abbrev z9o:=Ji (z29 x0 x1) (zh4 x0 x1 x2) (zit x0 x1 x2)
 def zdi:=z0q x0 x1/\(Jt ((z0i x0 x1)=46)->z0q x0 x1/\z0q x0 x1/\z9o x0 x1 x2)/\x3
 def zhi:=z1f x0 x1 46/\z7h x0 x1 (z7h x0 x1 (zdi x0 x1 x2 ((Jf ((z0i x0 x1)=46)->z0q x0 x1/\z0q x0 x1/\False))))
 def z7g:=z1f x0 x1 101/\z1f x0 x1 101/\z1f x0 x1 101/\z1f x0 x1 101/\x3
 def zde:=Ji (z29 x0 x1) (x2=x2/\z3a x1 x2 False) (zit x0 x1 x2)
 def zhh:=z1f x0 x1 101/\z7g x0 x1 (z7g x0 x1 (z0q x0 x1/\Ji ((z0i x0 x1)=101) (z9o x0 x1 x2) (zde x0 x1 x2)))
 def zhp:=x2=x2/\z3a x1 x2 (isX (bat x1 (toNat x0.1))=decide ((z0i x0 x1)=69)/\z7e x0 x1 x2)
 abbrev zhm:=Ji (z29 x0 x1) (zhp x0 x1 x2) (zit x0 x1 x2)
 def zhc:=z7g x0 x1 (z7g x0 x1 (z45 x0 x1/\z1f x0 x1 101/\z0q x0 x1/\Ji ((z0i x0 x1)=101) (z9o x0 x1 x2) (zhm x0 x1 x2)))
 def zon:=z0q x0 x1/\Ji ((z0i x0 x1)=101) (zhh x0 x1 x2) (zhc x0 x1 x2)
 def zok:=z7h x0 x1 (z7h x0 x1 (z45 x0 x1/\z1f x0 x1 46/\zdi x0 x1 x2 ((Jf ((z0i x0 x1)=46)->zon x0 x1 x2))))
 def zoj:=z2e x0 x1 (z2e x0 x1 (z45 x0 x1/\z0q x0 x1/\z0q x0 x1/\Ji ((z0i x0 x1)=46) (zhi x0 x1 x2) (zok x0 x1 x2)))
 def zdg:=z3a x1 x2 (x0.2=x0.2/\x1=x1/\x0.1=x0.1/\(0:Int)=0/\(nuI x1 x2 x0.1 x0.2/\nuX x1 x2 x0.1 x0.2/\z12 x1 (toNat x2)=true)/\True)
 def zhk:=Ji (9223372036854775807<x0.2) (zef x0 x1 x2) (zdg x0 x1 x2)
 def zhg:=((!decide (z44 x1 x2))=true->zhk x0 x1 x2)/\((!decide (z44 x1 x2))=false->zdg x0 x1 x2)
 def zdc:=(isX (bat x1 (toNat x0.1))=true->zef x0 x1 x2)/\(isX (bat x1 (toNat x0.1))=false->zhg x0 x1 x2)
 def zhj:=Jb ((z2a x1 x2)+1)/\Ji ((z2a x1 x2)+1<x0.1) (zef x0 x1 x2) (zdc x0 x1 x2)
 def zhf:=(0<=(z2a x1 x2)/\(z2a x1 x2)<(↑(size x1):Int))/\Ji ((↑(bat x1 (toNat (z2a x1 x2))):Int)=48) (zhj x0 x1 x2) (zdc x0 x1 x2)
 abbrev z5m:=IntKind.wrap u64 (x0.2- 1)
 def zhb:=((-9223372036854775808:Int)<=0- IntKind.wrap i64 (z5m x0)/\(0:Int)- IntKind.wrap i64 (z5m x0)<=9223372036854775807)/\((-9223372036854775808:Int)<=0- IntKind.wrap i64 (z5m x0)- 1/\(0:Int)- IntKind.wrap i64 (z5m x0)- 1<=9223372036854775807)/\z5l x1 x2 3 0 3/\(z9r x1 x2)=0- IntKind.wrap i64 (z5m x0)- 1/\z9p x0 x1 x2 (z5l x1 x2 0 2 0/\True)
 def zdd:=z5l x1 x2 3 0 3/\(z9r x1 x2)=IntKind.wrap i64 x0.2/\z9p x0 x1 x2 (z5l x1 x2 0 2 0/\True)
 def zh9:=Ji (0<x0.2) (zhb x0 x1 x2) (zdd x0 x1 x2)
 abbrev zh5:=Ji (z44 x1 x2) (zh9 x0 x1 x2) (zdd x0 x1 x2)
 def zol:=(Ji (x0.1=(z2a x1 x2)) (zef x0 x1 x2) (zhf x0 x1 x2))/\∀(i0:Int×Int),nuI x1 x2 i0.1 i0.2/\nuX x1 x2 i0.1 i0.2/\z12 x1 (toNat x2)=true->zh5 i0 x1 x2
 def zk6:=(Ji (z29 x0 x1) (zoj x0 x1 x2) (z0q x0 x1/\z2e x0 x1 (z2e x0 x1 (z2e x0 x1 (zde x0 x1 x2)))))/\∀(i0:Int×Int),z9q i0 x1 x2->zol i0 x1 x2
 def zhd:=Jb (x2+1)/\((x2=x2/\(z2a x1 x2)=x2+1/\zdh x1 x2 (x2+1=x2+1/\(0:Int)=0/\(nuI x1 x2 (x2+1) 0/\nq x1 (toNat (x2+1)) (0:Nat)=nqX x1 (toNat x2))/\True))/\zdf x1 x2)/\∀(i1:Int×Int),z9q i1 x1 x2->zk6 i1 x1 x2
 def zhe:=((x2=x2/\(z2a x1 x2)=x2/\zdh x1 x2 (x2=x2/\(0:Int)=0/\(nuI x1 x2 x2 0/\nq x1 (toNat x2) (0:Nat)=nqX x1 (toNat x2))/\True))/\zdf x1 x2)/\∀(i1:Int×Int),z9q i1 x1 x2->zk6 i1 x1 x2
 def zh8:=(0<=x2/\x2<(↑(size x1):Int))/\Ji ((↑(bat x1 (toNat x2)):Int)=45) (zhd x1 x2) (zhe x1 x2)
end
def z8e(s:ByteArray) (i:Int):qky P (zjg) Go.Proofs.Tryd.f33 z7t (zfn) ⟨s,i⟩=(rdK s i/\i<(↑(size s):Int)->zh8 s i):=by kernel_rfl
def zbv:=λs i=>Eq.trans (z8e s i) (by delta Ji Jb Jt Jf z2a z44 zdh z29 z0q z2e z45 z0i z43 z7i zhn z5l z9r z9p zef z3a z7f zha zh7 z7e z5k zh6 zh3 zhl zoo zom zho zoi zdf z9q z1f z7h zh4 zit z9o zdi zhi z7g zde zhh zhp zhm zhc zon zok zoj zdg zhk zhg zdc zhj zhf z5m zhb zdd zh9 zh5 zol zk6 zhd zhe zh8;exact rfl)
section
def z66{c:Nat} (h:isW c=true):c≠0:=by unfold isW at h;intro e;subst e;simp at h
def z0l{c:Nat} (h:z0f c=true):48<=c/\c<=57:=by unfold z0f at h;simpa using h
variable {s:ByteArray} {i:Nat}
def zaj(h:s.size<=i):sk s i=i:=by unfold sk;rw[show s.size- i=0 by omega];rfl
def zak(h:isW (bat s i)=true):sk s i=sk s (i+1):=by
 have hl:i<s.size:=Nat.lt_of_not_le λh2=>z66 h (z01 h2)
 unfold sk
 rw[show s.size- i=(s.size- (i+1))+1 by omega,skF,if_pos h]
def z6g(h:isW (bat s i)=false):sk s i=i:=by
 unfold sk
 cases s.size- i with
 |zero=>rfl
 |succ f=>rw[skF,if_neg (by rw[h];decide)]
def z4v(s:ByteArray):∀(f i:Nat),i<=skF s f i/\(i+f<=s.size->skF s f i<=s.size)/\(f=s.size- i->isW (bat s (skF s f i))=false)
  | 0,i=>⟨Nat.le_refl _,λh=>h,λh=>by
    show isW (bat s i)=false
    rw[z01 (by omega)];rfl⟩
  | f +1,i=>by
    rw[skF]
    cases h:isW (bat s i)with
    | true=>
      rw[if_pos rfl]
      have:=z4v s f (i+1)
      exact⟨by omega,λh=>this.2.1 (by omega),λh=>this.2.2 (by omega)⟩
    | false=>
      rw[if_neg (by decide)]
      exact⟨Nat.le_refl _,λh=>by omega,λ_=>h⟩
def z0o(s:ByteArray) (i:Nat):i<=sk s i:=(z4v s _ i).1
def z0u(h:i<=s.size):sk s i<=s.size:=(z4v s _ i).2.1 (by omega)
def zf7(s:ByteArray) (i:Nat):isW (bat s (sk s i))=false:=(z4v s _ i).2.2 rfl
def z03(s:ByteArray) (i:Nat):sk s (sk s i)=sk s i:=z6g (zf7 s i)
def z4k(h:z0f (bat s i)=true):dg s i=dg s (i+1):=by
 have hl:i<s.size:=Nat.lt_of_not_le λh2=>by have:=z0l h;rw[z01 h2]at this;omega
 unfold dg
 rw[show s.size- i=(s.size- (i+1))+1 by omega,dgF,if_pos h]
def z60(h:z0f (bat s i)=false):dg s i=i:=by
 unfold dg
 cases s.size- i with
 |zero=>rfl
 |succ f=>rw[dgF,if_neg (by rw[h];decide)]
def z5y(s:ByteArray):∀(f i:Nat),i<=dgF s f i/\(i+f<=s.size->dgF s f i<=s.size)/\(f=s.size- i->z0f (bat s (dgF s f i))=false)
  | 0,i=>⟨Nat.le_refl _,λh=>h,λh=>by
    show z0f (bat s i)=false
    rw[z01 (by omega)];rfl⟩
  | f +1,i=>by
    rw[dgF]
    cases h:z0f (bat s i)with
    | true=>
      rw[if_pos rfl]
      have:=z5y s f (i+1)
      exact⟨by omega,λh=>this.2.1 (by omega),λh=>this.2.2 (by omega)⟩
    | false=>
      rw[if_neg (by decide)]
      exact⟨Nat.le_refl _,λh=>by omega,λ_=>h⟩
def z58(s:ByteArray) (i:Nat):i<=dg s i:=(z5y s _ i).1
def z5z(h:i<=s.size):dg s i<=s.size:=(z5y s _ i).2.1 (by omega)
def z6r(u:ByteArray):∀(f i:Nat) (acc:List Nat) (x:List Nat×Nat),uqG u f i acc=some x->i<x.2/\x.2<=u.size
  |0,i,acc,x,h=>by cases h
  | f + 1,i,acc,x,h=>by
    rw[uqG]at h
    split at h
    · rename_i hi
      split at h
      · obtain rfl:=Option.some.inj h
        exact⟨by show i<i+1;omega,by show i+1<=u.size;omega⟩
      split at h
      · cases h
      split at h
      · split at h
        · have:=z6r u f _ _ x h
          exact⟨by omega,this.2⟩
        · cases h
      · have:=z6r u f _ _ x h
        exact⟨by omega,this.2⟩
    · cases h
def z51(u:ByteArray):(uqR u).2.2<=u.size/\((uqR u).1=0/\1<(uqR u).2.2\/uqR u=(2,mkS [],0)):=by
 unfold uqR
 split
 ·exact⟨Nat.zero_le _, .inr rfl⟩
 split
 ·exact⟨Nat.zero_le _, .inr rfl⟩
 split
 ·rename_i x hx
  have:=z6r u _ _ _ x hx
  unfold zkl
  split
  ·exact⟨this.2, .inl ⟨rfl,this.1⟩⟩
  ·exact⟨Nat.zero_le _, .inr rfl⟩
 ·exact⟨Nat.zero_le _, .inr rfl⟩
def zj5(s:ByteArray) (i:Nat) (w:ByteArray) (h:i<=s.size):Lib.hasPrefix (s.extract i s.size).data.toList w.data.toList=wdF s i w:=by
 unfold Lib.hasPrefix wdF
 have e1:(s.extract i s.size).data.toList=s.data.toList.drop i:=by
  rw[ByteArray.data_extract,Array.toList_extract,List.extract_eq_take_drop,List.take_of_length_le]
  rw[List.length_drop];exact Nat.le_of_eq (by rw[Array.length_toList];rfl)
 have e2:(s.extract i (i+w.size)=w)↔(s.data.toList.drop i).take w.size=w.data.toList:=by
  have:(s.extract i (i+w.size)).data.toList=(s.data.toList.drop i).take w.size:=by
   rw[ByteArray.data_extract,Array.toList_extract,List.extract_eq_take_drop,show i+w.size- i=w.size by omega]
  rw[←this]
  exact⟨λh=>by rw[h],λh=>ByteArray.ext (Array.toList_inj.mp h)⟩
 have hw:w.data.toList.length=w.size:=Array.length_toList
 have hs:s.data.toList.length=s.size:=Array.length_toList
 rw[e1,Bool.eq_iff_iff,Bool.and_eq_true,decide_eq_true_eq,decide_eq_true_eq,List.isPrefixOf_iff_prefix,e2,List.prefix_iff_eq_take,hw]
 constructor
 ·intro h2
  refine⟨?_,h2.symm⟩
  have:=congrArg List.length h2
  rw[List.length_take,List.length_drop,hw,hs]at this
  omega
 ·exactλh2=>h2.2.symm
def z36{w:ByteArray} (h:wdF s i w=true):i+w.size<=s.size:=by unfold wdF at h;simp only[Bool.and_eq_true,decide_eq_true_eq]at h;exact h.1
def zbu{j v:Nat} (h:z0f (bat s j)=false):nq s j v=(v,j,false):=by
 unfold nq
 cases s.size- j with
 |zero=>rfl
 |succ f=>rw[nqF,if_neg (by rw[h];decide)]
def zai{j v:Nat} (h:z0f (bat s j)=true):nq s j v=if(9223372036854775808- (bat s j- 48)) / 10<v then(v,j,true)else nq s (j+1) (v*10+(bat s j- 48)):=by
 have hl:j<s.size:=Nat.lt_of_not_le λh2=>by have:=z0l h;rw[z01 h2]at this;omega
 unfold nq
 rw[show s.size- j=(s.size- (j+1))+1 by omega,nqF,if_pos h]
end
def z17{c:Nat}:isW c=true↔c=9\/c=10\/c=13\/c=32:=by unfold isW;simp[or_assoc]
def z67{c:Nat} (h1:¬(c:Int)=9) (h2:¬(c:Int)=10) (h3:¬(c:Int)=13) (h4:¬(c:Int)=32):isW c=false:=by
 cases h:isW c with
 |false=>rfl
 |true=>have:=z17.1 h;omega
def z2o:q5b Go.Proofs.Tryd.prog 14 z3n:=by
 refine ql1 mixed (λg C h=>by cases h) (W:=zfo) Go.Proofs.Tryd.func14 (by kernel_rfl) (by decide) (by decide) (λs=>by kernel_rfl) λ(⟨s,i⟩:RdS)=>(zc4 s i).mpr ?_
 rintro⟨h1,h2,h3⟩
 simp only[sbS,Int.toNat_natCast,exists_const]
 refine⟨⟨by omega,h2⟩,?_⟩
 rintro j ⟨g1,g2,g3⟩
 obtain⟨j,rfl⟩:=Int.eq_ofNat_of_zero_le (show 0<=j by omega)
 have adv:isW (bat s j)=true->(-9223372036854775808<=(j:Int)+1/\(j:Int)+1<=9223372036854775807)/\(i<=(j:Int)+1/\(j:Int)+1<=(s.size:Nat)/\sk s ((j:Int)+1).toNat=sk s i.toNat)/\s.size- ((j:Int)+1).toNat<s.size- j:=λh=>by
  have hl:j<s.size:=Nat.lt_of_not_le λh2=>z66 h (z01 h2)
  refine⟨⟨by omega,by omega⟩,⟨by omega,by omega,?_⟩,by omega⟩
  rw[show((j:Int)+1).toNat=j+1 by omega,←zak h];exact g3
 have stay:isW (bat s j)=false->((pk s i.toNat:Nat):Int)=(bat s j:Nat)/\((sk s i.toNat:Nat):Int)=j:=λh=>by
  have e:sk s i.toNat=j:=by rw[←g3];exact z6g h
  exact⟨by unfold pk;rw[e],by rw[e]⟩
 simp only[Int.toNat_natCast]at g3⊢
 refine⟨λhl=>⟨⟨by omega,by omega⟩,λa1=>⟨λ_=>adv (z17.2 (by omega)),λh=>absurd a1 h⟩,λa1=>⟨λa2=>⟨λ_=>adv (z17.2 (by omega)),λh=>absurd a2 h⟩,λa2=>⟨λa3=>⟨λ_=>adv (z17.2 (by omega)),λh=>absurd a3 h⟩,λa3=>⟨λa4=>adv (z17.2 (by omega)),λa4=>stay (z67 a1 a2 a3 a4)⟩⟩⟩⟩,λhl=> ?_⟩
 have e:sk s i.toNat=j:=by rw[←g3];exact zaj (by omega)
 refine⟨?_,by rw[e]⟩
 unfold pk
 rw[e,z01 (by omega)];rfl
def z6k:q5b Go.Proofs.Tryd.prog 45 z7u:=by
 refine ql1 mixed (qdv (qhn z2o qkn)) (W:=λ_=>{}) Go.Proofs.Tryd.func45 (by kernel_rfl) (by decide) (by decide) (λs=>by kernel_rfl) λ(⟨⟨s,i⟩,c⟩:RdS×Int)=>(zcc s i c).mpr ?_
 rintro⟨⟨h1,h2,h3⟩,h4,h5⟩
 simp only[sbS,Int.toNat_natCast,exists_const]
 unfold tkP
 have hl:=z0u (s:=s) (i:=i.toNat) (by omega)
 refine⟨⟨h1,h2,h3⟩,λh=>⟨by omega,by rw[if_neg (by omega)]⟩,λh=>⟨⟨by omega,by omega⟩,by omega,by rw[if_pos (by omega)];rfl⟩⟩
def zcn(hp:q5b Go.Proofs.Tryd.prog 48 cHP):q5b Go.Proofs.Tryd.prog 29 zb5:=by
 refine ql1 mixed (qdv (qhn hp qkn)) (W:=λ_=>{}) Go.Proofs.Tryd.func29 (by kernel_rfl) (by decide) (by decide) (λs=>by kernel_rfl) λ(⟨⟨s,i⟩,c⟩:RdS×ByteArray)=>(zcm s i c).mpr ?_
 rintro⟨h1,h2,h3⟩
 simp only[sbS,Int.toNat_natCast,exists_const]
 unfold wdP
 rw[zj5 s i.toNat c (by omega)]
 refine⟨⟨h1,h2⟩,λh=>⟨h,by rw[if_neg (by rw[h];decide)];omega⟩,λh=>⟨?_,h,by rw[if_pos h];omega⟩⟩
 have:=z36 h
 exact⟨by omega,by omega⟩
def z4z:q5b Go.Proofs.Tryd.prog 27 z7v:=by
 refine ql1 mixed (qdv (qhn z2o (qhn zfi qkn))) (W:=λ_=>{}) Go.Proofs.Tryd.func27 (by kernel_rfl) (by decide) (by decide) (λs=>by kernel_rfl) λ(⟨s,i⟩:RdS)=>(z8s s i).mpr ?_
 rintro⟨h1,h2,h3⟩
 simp only[sbS,Int.toNat_natCast,exists_const]
 have hl:=z0u (s:=s) (i:=i.toNat) (by omega)
 have hu:=(z51 (s.extract (sk s i.toNat) s.size)).1
 have hz:(s.extract (sk s i.toNat) s.size).size=s.size- sk s i.toNat:=by rw[ByteArray.size_extract];omega
 unfold uqS
 refine⟨⟨h1,h2,h3⟩,⟨by omega,by omega⟩,by omega,⟨by omega,by omega⟩,?_⟩
 first|omega|exact⟨rfl,rfl,by omega⟩|exact⟨rfl,by omega⟩|skip
def z0x:q5b Go.Proofs.Tryd.prog 17 z1g:=by
 refine ql1 mixed (λg C h=>by cases h) (W:=λ_=>{}) Go.Proofs.Tryd.func17 (by kernel_rfl) (by decide) (by decide) (λs=>by kernel_rfl) λ(⟨⟨s,i,e⟩,k⟩:RqS×Int)=>(z82 s i e k).mpr ?_
 intro _
 simp only[sbS,Int.toNat_natCast,exists_const]
 exact⟨λh=>if_pos h,λh=>if_neg h⟩
def z1a:q5b Go.Proofs.Tryd.prog 16 z1v:=by
 refine ql1 mixed (λg C h=>by cases h) (W:=zau) Go.Proofs.Tryd.func16 (by kernel_rfl) (by decide) (by decide) (λs=>by kernel_rfl) λ(⟨s,i,e⟩:RqS)=>(z6h s i e).mpr ?_
 rintro⟨h1,h2,h3⟩
 simp only[sbS,Int.toNat_natCast,exists_const]
 refine⟨⟨by omega,h2⟩,?_⟩
 rintro j ⟨g1,g2,g3⟩
 obtain⟨j,rfl⟩:=Int.eq_ofNat_of_zero_le (show 0<=j by omega)
 have adv:isW (bat s j)=true->(-9223372036854775808<=(j:Int)+1/\(j:Int)+1<=9223372036854775807)/\(i<=(j:Int)+1/\(j:Int)+1<=(s.size:Nat)/\sk s ((j:Int)+1).toNat=sk s i.toNat)/\s.size- ((j:Int)+1).toNat<s.size- j:=λh=>by
  have hl:j<s.size:=Nat.lt_of_not_le λh2=>z66 h (z01 h2)
  refine⟨⟨by omega,by omega⟩,⟨by omega,by omega,?_⟩,by omega⟩
  rw[show((j:Int)+1).toNat=j+1 by omega,←zak h];exact g3
 have stay:isW (bat s j)=false->((sk s i.toNat:Nat):Int)=j:=λh=>by
  rw[←g3];exact congrArg _ (z6g h)
 have out:¬(j:Int)<(s.size:Nat)->((sk s i.toNat:Nat):Int)=j:=λh=>by
  rw[←g3];exact congrArg _ (zaj (by omega))
 simp only[Int.toNat_natCast]at g3⊢
 by_cases hl:(j:Int)<(s.size:Nat)
 ·by_cases a1:(bat s j:Int)=9
  ·have A:=adv (z17.2 (by omega))
   simp[hl,a1]at A⊢;first|done|omega
  by_cases a2:(bat s j:Int)=10
  ·have A:=adv (z17.2 (by omega))
   simp[hl,a1,a2]at A⊢;first|done|omega
  by_cases a3:(bat s j:Int)=13
  ·have A:=adv (z17.2 (by omega))
   simp[hl,a1,a2,a3]at A⊢;first|done|omega
  by_cases a4:(bat s j:Int)=32
  ·have A:=adv (z17.2 (by omega))
   simp[hl,a1,a2,a3,a4]at A⊢;first|done|omega
  have B:=stay (z67 a1 a2 a3 a4)
  simp[hl,a1,a2,a3,a4]at B⊢
  first|done|omega
 ·have B:=out hl
  simp[hl]at B⊢
  first|done|omega
def z4o:q5b Go.Proofs.Tryd.prog 34 ze4:=by
 refine ql1 mixed (qdv (qhn z1a qkn)) (W:=λ_=>{}) Go.Proofs.Tryd.func34 (by kernel_rfl) (by decide) (by decide) (λs=>by kernel_rfl) λ(⟨⟨s,i,e⟩,w⟩:RqS×ByteArray)=>(zem s i e w).mpr ?_
 rintro⟨⟨h1,h2,h3⟩,h4⟩
 have hl:=z0u (s:=s) (i:=i.toNat) (by omega)
 have hw:rdK s i:=⟨h1,h2,h3⟩
 have ex:((sk s i.toNat:Nat):Int).toNat=sk s i.toNat:=Int.toNat_natCast _
 have ex2:(((sk s i.toNat:Nat):Int)+(w.size:Nat)).toNat=sk s i.toNat+w.size:=by omega
 rw[ex,ex2]
 unfold isP
 by_cases he:e=0
 ·by_cases hs:(s.size:Int)<((sk s i.toNat:Nat):Int)+(w.size:Nat)
  ·have F:isF s i e w=false:=by unfold isF wdF;simp;intros;omega
   simp[he,hs,hw]at F⊢
   simp[F]
   first|done|omega
  ·by_cases hx:s.extract (sk s i.toNat) (sk s i.toNat+w.size)=w
   ·have F:isF s i e w=true:=by unfold isF wdF;simp[he,hx];omega
    simp[he,hs,hw,hx]at F⊢
    simp[F]
    first|done|omega
   ·have F:isF s i e w=false:=by unfold isF wdF;simp[hx]
    simp[he,hs,hw,hx]at F⊢
    simp[F]
    first|done|omega
 ·have F:isF s i e w=false:=by unfold isF;simp[he]
  simp[he,hw,F]
  first|done|omega
def z4s:q5b Go.Proofs.Tryd.prog 50 z7s:=by
 refine ql1 mixed (qdv (qhn z4o (qhn z0x qkn))) (W:=λ_=>{}) Go.Proofs.Tryd.func50 (by kernel_rfl) (by decide) (by decide) (λs=>by kernel_rfl) λ(⟨⟨s,i,e⟩,w⟩:RqS×ByteArray)=>(z8d s i e w).mpr ?_
 rintro⟨h1,h2⟩
 simp only[sbS,Int.toNat_natCast,exists_const]
 unfold neE
 exact⟨⟨h1,h2⟩,λh=>if_neg (by rw[h];decide),λh=>if_pos h⟩
def z4y:q5b Go.Proofs.Tryd.prog 30 z4j:=by
 refine ql1 mixed (qdv (qhn z1a (qhn z0x (qhn zck qkn)))) (W:=λ_=>{}) Go.Proofs.Tryd.func30 (by kernel_rfl) (by decide) (by decide) (λs=>by kernel_rfl) λ(⟨s,i,e⟩:RqS)=>(z8r s i e).mpr ?_
 rintro⟨h1,h2,h3⟩
 simp only[sbS,Int.toNat_natCast,exists_const]
 have hl:=z0u (s:=s) (i:=i.toNat) (by omega)
 have hu:=z51 (s.extract (sk s i.toNat) s.size)
 have hz:(s.extract (sk s i.toNat) s.size).size=s.size- sk s i.toNat:=by rw[ByteArray.size_extract];omega
 refine⟨⟨h1,h2,h3⟩,λhe=> ?_,λhe=> ?_⟩
 ·rw[if_neg he,if_neg he,if_neg he];exact⟨rfl,rfl,rfl⟩
 subst he
 simp only[if_pos]
 unfold uqS
 refine⟨⟨by omega,by omega⟩,by omega,λh=> ?_,λh=>⟨⟨by omega,by omega⟩,rfl,by omega,by omega⟩⟩
 rcases hu.2 with h5|h5
 ·omega
 ·rw[h5];exact⟨rfl,by simp,rfl⟩
def zj4:q5b Go.Proofs.Tryd.prog 48 cHP:=by
 refine ql3 (Sen.enters_of Go.Proofs.Tryd.func48 (by kernel_rfl)) (λ(s:ByteArray×ByteArray)=> .bool (Lib.hasPrefix s.1.data.toList s.2.data.toList)) (λs I=> .sv _) λ(s:ByteArray×ByteArray) F w _ _=> ?_
 refine(Go.Proofs.Tryd.strings_HasPrefix s.1 s.2 w).mono λe w' h=> ?_
 obtain⟨rfl,rfl⟩:=h
 exact⟨rfl,Below.refl _ _⟩
def zjb:q2d Go.Proofs.Tryd.prog 47 cPI:=by
  refine⟨Nat.le_refl _,Nat.le_refl _,Sen.enters_of Go.Proofs.Tryd.func47 (by kernel_rfl),λ(s:ByteArray)=>⟨.e,rfl,λF I w us hus _ low zf hp hm fr hz=> ?_⟩⟩
  have:=qfl (l:=[.string s, .int .i64 10, .int .i64 64]) hus
  subst this
  obtain⟨⟨t1,v1,e1,f1,c1⟩,t2,v2,e2,f2,c2⟩:=(hm:erP (q13 F w))
  have k1:w.cell? ⟨1,0,none⟩=some (.iface t1 v1):=by simp[World.cell?,(q04.1 c1).2]
  have k2:w.cell? ⟨2,0,none⟩=some (.iface t2 v2):=by simp[World.cell?,(q04.1 c2).2]
  have hz:s.size<=10000:=hp
  have fin:∀(v:Int) (e:Value) (w':World),piP s v e->Below w.heap.size w w'->∃b h1,cPI.post s b/\q0r (cPI.h' s b) .e=some h1/\∃z I',Ending.returned (Value.tuple #[.int .i64 v,e])=Ending.returned z/\VR I' (cPI.r s b) z/\Grow F I cPI.m w I' cPI.m' h1 w'/\(cPI.pm s b).ok (q59 F w I' h1 w'):=λv e w' h hb=>by
    refine⟨(v,e), .e,h,rfl, .tuple #[.int .i64 v,e],I,rfl, .tup (.cons (.sv _) (.cons (.sv _) .nil)),⟨In.le_refl I,λ_ _ h=> .inl h,⟨λid o b t h=> ?_,λid id' o o' b b' t t' h=> ?_,λid o b t h=> ?_⟩,λb hb'=>hb.block b (low b hb'),hb.size,⟨hb.os,hb.tape,hb.output⟩⟩,trivial⟩
    · rw[T.get_e]at h;cases h
    · rw[T.get_e]at h;cases h
    · rw[T.get_e]at h;cases h
  cases h:Lib.parseIntB 64 s.data.toList with
  | ok u=>
    refine(Go.Proofs.Tryd.strconv_ParseInt_10_at64_ok s (by omega) u h w).mono λe w' he=> ?_
    obtain⟨rfl,hw⟩:=he
    refine fin u .nilIface w' (by unfold piP piR;rw[h];exact⟨rfl,rfl⟩) ?_
    rcases hw with rfl|⟨t,rfl⟩
    · exact Below.refl _ _
    · exact⟨rfl,rfl,rfl,by rw[Lib.bytesWorld_size];omega,λk hk=>Lib.bytesWorld_at_old w _ t k hk⟩
  | «syntax» =>
    refine(Go.Proofs.Tryd.strconv_ParseInt_10_at64_syntax s (by omega) h _ w k1 (.inr ⟨_,_,rfl⟩)).mono λe w' he=> ?_
    obtain⟨N,rfl,_,_,hw⟩:=he
    exact fin _ _ w' (by unfold piP piR;rw[h];exact⟨_,_,rfl⟩) hw
  | range=>
    refine(Go.Proofs.Tryd.strconv_ParseInt_10_at64_range s (by omega) h _ w k2 (.inr ⟨_,_,rfl⟩)).mono λe w' he=> ?_
    obtain⟨N,rfl,_,_,hw⟩:=he
    exact fin _ _ w' (by unfold piP piR;rw[h];exact⟨_,_,rfl⟩) hw
def z2i{s:ByteArray} {i:Nat} (h:i<s.size):i<=nmM s i/\nmM s i<=s.size/\nmM s i<=i+1:=by unfold nmM;split<;>omega
def zby:q5b Go.Proofs.Tryd.prog 28 zig:=by
  refine qka mixed (λg C h=>by cases h) (qel (qhm zjb qkm)) (W:=zkn) Go.Proofs.Tryd.func28 (by kernel_rfl) (by decide) (by decide) (λs=>by kernel_rfl) λ(⟨s,i⟩:RdS)=>(zbx s i).mpr ?_
  rintro⟨⟨h1,h2,h3⟩,h4⟩ _
  simp only[sbS,Int.toNat_natCast,exists_const]
  obtain⟨i,rfl⟩:=Int.eq_ofNat_of_zero_le h1
  simp only[Int.toNat_natCast]
  have hm:=z2i (s:=s) (i:=i) (by omega)
  have hd:=z5z hm.2.1
  have hg:=z58 s (nmM s i)
  have er:∀p:Pub,erP p->erP p:=λp h=>h
  have loop:∀(j:Int),(nmM s i:Nat)<=j/\j<=(s.size:Nat)/\dg s j.toNat=dg s (nmM s i)->True:=λ_ _=>trivial
  have tail1:(-9223372036854775808<=(nmM s i:Int)+1/\(nmM s i:Int)+1<=9223372036854775807):=⟨by omega,by omega⟩
  have two:nmM s i+1<dg s (nmM s i)/\bat s (nmM s i)=48->nmR s i=none:=λh=>by unfold nmR;rw[if_pos h]
  have rest:¬(nmM s i+1<dg s (nmM s i)/\bat s (nmM s i)=48)->∀(b:Int×Value),piP (s.extract i (dg s (nmM s i))) b.1 b.2->(b.2= .nilIface\/∃u z,b.2= .iface u z)/\(Sen.nilV b.2=false->(nmR s i).getD 0=0/\((erO (nmR s i):Nat):Int)=2)/\(Sen.nilV b.2=true->(nmR s i).getD 0=b.1/\((erO (nmR s i):Nat):Int)=0):=λh b hb=>by
    have e:nmR s i=piR (s.extract i (dg s (nmM s i))).data.toList:=by unfold nmR;rw[if_neg h]
    rw[e]
    unfold piP at hb
    cases hp:piR (s.extract i (dg s (nmM s i))).data.toList with
    | none=>
      rw[hp]at hb
      obtain⟨t,x,hx⟩:=hb
      exact⟨.inr ⟨t,x,hx⟩,λ_=>⟨rfl,rfl⟩,λh=>absurd h (by rw[show b.2= .iface t x from hx];exact Bool.false_ne_true)⟩
    | some v=>
      rw[hp]at hb
      have h2:=hb.2
      refine⟨.inl h2,λh=> ?_,λ_=>⟨hb.1.symm,rfl⟩⟩
      rw[h2]at h
      cases h
  refine⟨⟨by omega,by omega⟩,λa=>⟨⟨by omega,by omega⟩,⟨⟨?_,?_⟩,?_⟩,?_⟩,λa=>⟨⟨⟨?_,?_⟩,?_⟩,?_⟩⟩
  case refine_3|refine_7=>
    rintro j ⟨g1,g2,g3⟩
    obtain⟨j,rfl⟩:=Int.eq_ofNat_of_zero_le (show 0<=j by omega)
    simp only[Int.toNat_natCast]at g3⊢
    have stay:z0f (bat s j)=false->((dg s (nmM s i):Nat):Int)=j:=λh=>by rw[←g3,z60 h]
    have off1:¬48<=(bat s j:Int)->z0f (bat s j)=false:=λh=>by unfold z0f;simp;omega
    have off2:¬(bat s j:Int)<=57->z0f (bat s j)=false:=λh=>by unfold z0f;simp;omega
    have out:¬(j:Int)<(s.size:Nat)->((dg s (nmM s i):Nat):Int)=j:=λh=>stay (by rw[z01 (by omega)];rfl)
    refine⟨λhl=>⟨⟨by omega,by omega⟩,λ_=>⟨λa1=>⟨⟨by omega,by omega⟩,λ_=>⟨λa2=>⟨⟨by omega,by omega⟩,⟨by omega,by omega,?_⟩,by omega⟩,λa2=>stay (off2 a2)⟩,λh=>absurd a1 h⟩,λa1=>⟨λh=>absurd h a1,λ_=>stay (off1 a1)⟩⟩,λh=>absurd hl h⟩,λhl=>⟨λh=>absurd h hl,λ_=>out hl⟩⟩
    rw[show((j:Int)+1).toNat=j+1 by omega,←g3]
    exact(z4k (by unfold z0f;simp;omega)).symm
  case refine_4|refine_8=>
    refineλ_ _=>⟨⟨⟨by omega,by omega⟩,λb1=>⟨⟨by omega,by omega⟩,λb2=> ?_,λb2 h=>absurd h.2 (by omega)⟩,λb1 h=>absurd h.1 (by omega)⟩,λ_ h=>⟨⟨by omega,by omega,by omega⟩,by rw[ByteArray.size_extract];omega,rest h⟩⟩
    rw[two ⟨by omega,by omega⟩]
    exact⟨rfl,rfl⟩
  · unfold nmM;rw[if_pos (by omega)];omega
  · have e:nmM s i=i+1:=by unfold nmM;rw[if_pos (by omega)]
    refine⟨by omega,by omega,?_⟩
    rw[show((i:Int)+1).toNat=i+1 by omega,e]
  · unfold nmM;rw[if_neg (by omega)]
  · have e:nmM s i=i:=by unfold nmM;rw[if_neg (by omega)]
    exact⟨by omega,by omega,by rw[e]⟩
section
variable {x:Int}
def wu8(h0:0<=x) (h1:x<256):IntKind.wrap .u8 x=x:=by simp[IntKind.wrap,IntKind.bits,IntKind.signed];omega
def zfs(h0:0<=x) (h1:x<18446744073709551616):IntKind.wrap .u64 x=x:=by simp[IntKind.wrap,IntKind.bits,IntKind.signed];omega
def zjp(h0: -9223372036854775808<=x) (h1:x<9223372036854775808):IntKind.wrap .i64 x=x:=by simp[IntKind.wrap,IntKind.bits,IntKind.signed];omega
variable {s:ByteArray}
def zah{i:Nat} {j:Int} (h:z12 s i=false) (e:((nqX s i).2.1:Int)=j):(if z12 s i=true then(3:Int)else 0)=0/\(if z12 s i=true then nqV s i else 0)=0/\((nqX s i).2.1:Int)=j/\(if z12 s i=true then(0:Int)else 2)=if True then 2 else 0:=by
 rw[h];exact⟨rfl,rfl,e,rfl⟩
def z6a{i:Nat} {v j:Nat} (e:nqX s i=(v,j,false)):z12 s i=(!decide (j=nmM s i)&&(!(decide (bat s (nmM s i)=48)&&decide (nmM s i+1<j))&&(!isX (bat s j)&&(decide (bat s i=45)||decide (v<9223372036854775808))))):=by
 unfold z12;rw[e];rfl
def zbw:q5b Go.Proofs.Tryd.prog 33 z7t:=by
 refine ql1 mixed (qdv (qhn z0x qkn)) (W:=zfn) Go.Proofs.Tryd.func33 (by kernel_rfl) (by decide) (by decide) (λs=>by kernel_rfl) λ(⟨s,i⟩:RdS)=>(zbv s i).mpr ?_
 rintro⟨⟨h1,h2,h3⟩,h4⟩
 simp only[sbS,Int.toNat_natCast,exists_const]
 obtain⟨i,rfl⟩:=Int.eq_ofNat_of_zero_le h1
 simp only[Int.toNat_natCast,nuI,nuX]
 have hm:=z2i (s:=s) (i:=i) (by omega)
 refine⟨⟨by omega,by omega⟩,λa=>⟨⟨by omega,by omega⟩,⟨⟨?_,?_⟩,?_⟩,?_⟩,λa=>⟨⟨⟨?_,?_⟩,?_⟩,?_⟩⟩
 case refine_3|refine_7=>
  rintro⟨j,v⟩ ⟨⟨g1,g2,g3,g4⟩,g5⟩
  simp only at g1 g2 g3 g4 g5⊢
  obtain⟨j,rfl⟩:=Int.eq_ofNat_of_zero_le (show 0<=j by omega)
  obtain⟨v,rfl⟩:=Int.eq_ofNat_of_zero_le (show 0<=v by omega)
  simp only[Int.toNat_natCast]at g5⊢
  have stay:z0f (bat s j)=false->((nmM s i:Int)<=j/\(j:Int)<=(s.size:Nat)/\0<=(v:Int)/\(v:Int)<=9223372036854775808)/\nqX s i=(v,j,false):=λh=>⟨⟨g1,g2,g3,g4⟩,by rw[←g5,zbu h]⟩
  have off1:¬48<=(bat s j:Int)->z0f (bat s j)=false:=λh=>by unfold z0f;simp;omega
  have off2:¬(bat s j:Int)<=57->z0f (bat s j)=false:=λh=>by unfold z0f;simp;omega
  have out:¬(j:Int)<(s.size:Nat)->z0f (bat s j)=false:=λh=>by rw[z01 (by omega)];rfl
  refine⟨λhl=>⟨⟨by omega,by omega⟩,λ_=>⟨λa1=>⟨⟨by omega,by omega⟩,λ_=>⟨λa2=> ?_,λa2=>stay (off2 a2)⟩,λh=>absurd a1 h⟩,λa1=>⟨λh=>absurd h a1,λ_=>stay (off1 a1)⟩⟩,λh=>absurd hl h⟩,λhl=>⟨λh=>absurd h hl,λ_=>stay (out hl)⟩⟩
  have hd:z0f (bat s j)=true:=by unfold z0f;simp;omega
  rw[wu8 (x:=(bat s j:Int)- 48) (by omega) (by omega),zfs (x:=9223372036854775808- ((bat s j:Int)- 48)) (by omega) (by omega),Int.tdiv_eq_ediv_of_nonneg (by omega),zfs (x:=(9223372036854775808- ((bat s j:Int)- 48)) / 10) (by omega) (by omega)]
  have g6:=zai (v:=v) hd
  rw[g5]at g6
  refine⟨⟨by omega,by omega⟩,⟨by omega,by omega⟩,by omega,λb1=> ?_,λb1=> ?_⟩
  ·rw[if_pos (by omega)]at g6
   exact zah (by unfold z12;rw[g6];rfl) (by rw[g6])
  ·rw[if_neg (by omega)]at g6
   rw[zfs (x:=(v:Int)*10) (by omega) (by omega),zfs (x:=(v:Int)*10+((bat s j:Int)- 48)) (by omega) (by omega)]
   refine⟨⟨by omega,by omega⟩,⟨⟨by omega,by omega,by omega,by omega⟩,?_⟩,by omega⟩
   rw[g6,show((j:Int)+1).toNat=j+1 by omega,show((v:Int)*10+((bat s j:Int)- 48)).toNat=v*10+(bat s j- 48)by omega]
 case refine_4|refine_8=>
  rintro⟨j,v⟩ ⟨g,g5⟩
  simp only at g g5⊢
  obtain⟨j,rfl⟩:=Int.eq_ofNat_of_zero_le (show 0<=j by omega)
  obtain⟨v,rfl⟩:=Int.eq_ofNat_of_zero_le (show 0<=v by omega)
  simp only[Int.toNat_natCast]at g5⊢
  have K:((nmM s i:Int)<=j/\(j:Int)<=(s.size:Nat)/\0<=(v:Int)/\(v:Int)<=9223372036854775808)/\nqX s i=(v,j,false):=⟨g,g5⟩
  constructor
  ·have X:isX (bat s j)=(decide ((bat s j:Int)=46)||decide ((bat s j:Int)=101)||decide ((bat s j:Int)=69)):=by
    unfold isX;congr 1; · congr 1<;>(rw[decide_eq_decide];omega)
    ·rw[decide_eq_decide];omega
   by_cases p0:(j:Int)<(s.size:Nat)
   ·by_cases p1:(bat s j:Int)=46
    ·simp[p0,p1,K,X]
    by_cases p2:(bat s j:Int)=101
    ·simp[p0,p1,p2,K,X]
    simp[p0,p1,p2,K,X]
   ·have X0:isX (bat s j)=false:=by rw[z01 (by omega)];rfl
    simp[p0,K,X0]
  clear K g g5
  clear v j
  rintro⟨j,v⟩ ⟨g,g5⟩
  simp only at g g5⊢
  obtain⟨j,rfl⟩:=Int.eq_ofNat_of_zero_le (show 0<=j by omega)
  obtain⟨v,rfl⟩:=Int.eq_ofNat_of_zero_le (show 0<=v by omega)
  simp only[Int.toNat_natCast]at g5⊢
  have O:=z6a g5
  have bad:=λh=>zah (s:=s) (i:=i) (j:=j) h (by rw[g5])
  have good:z12 s i=true->((nmM s i:Int)<=j/\(j:Int)<=(s.size:Nat)/\0<=(v:Int)/\(v:Int)<=9223372036854775808)/\nqX s i=(v,j,false)/\z12 s i=true:=λh=>⟨g,g5,h⟩
  constructor
  ·refine⟨λe=>bad ?_,λe=>⟨⟨by omega,by omega⟩,λe1=>⟨⟨by omega,by omega⟩,λe2=>bad ?_,λe2=>⟨λe3=>bad ?_,λe3=>⟨λe4=>⟨λe5=>bad ?_,λe5=>good ?_⟩,λe4=>good ?_⟩⟩⟩,λe1=>⟨λe3=>bad ?_,λe3=>⟨λe4=>⟨λe5=>bad ?_,λe5=>good ?_⟩,λe4=>good ?_⟩⟩⟩⟩
   all_goals rw[O]
   ·rw[show j=nmM s i by omega];simp
   ·rw[show decide (bat s (nmM s i)=48)=true by simp;omega,show decide (nmM s i+1<j)=true by simp;omega];simp
   ·rw[e3];simp
   ·rw[decide_eq_false e4,show decide (v<9223372036854775808)=false by simp;omega];simp
   ·rw[show decide (j=nmM s i)=false by simp;omega,show decide (nmM s i+1<j)=false by simp;omega,e3,show decide (v<9223372036854775808)=true by simp;omega];simp
   ·rw[show decide (j=nmM s i)=false by simp;omega,show decide (nmM s i+1<j)=false by simp;omega,e3,decide_eq_true e4];simp
   ·rw[e3];simp
   ·rw[decide_eq_false e4,show decide (v<9223372036854775808)=false by simp;omega];simp
   ·rw[show decide (j=nmM s i)=false by simp;omega,show decide (bat s (nmM s i)=48)=false by simp;omega,e3,show decide (v<9223372036854775808)=true by simp;omega];simp
   ·rw[show decide (j=nmM s i)=false by simp;omega,show decide (bat s (nmM s i)=48)=false by simp;omega,e3,decide_eq_true e4];simp
  clear bad good O g g5
  clear v j
  rintro⟨j,v⟩ ⟨g,g5,g6⟩
  simp only at g g5 g6⊢
  obtain⟨j,rfl⟩:=Int.eq_ofNat_of_zero_le (show 0<=j by omega)
  obtain⟨v,rfl⟩:=Int.eq_ofNat_of_zero_le (show 0<=v by omega)
  simp only[Int.toNat_natCast]at g5⊢
  rw[if_pos g6,if_pos g6,if_pos g6,g5]
  have V:nqV s i=if bat s i=45 then -(v:Int)else(v:Int):=by unfold nqV;rw[g5]
  have L:¬bat s i=45->v<9223372036854775808:=λh=>by
   have:=z6a g5
   rw[g6,decide_eq_false h]at this
   simp at this
   omega
  refine⟨λe=>⟨λe1=> ?_,λe1=> ?_⟩,λe=> ?_⟩
  ·rw[V,if_pos (by omega),zfs (by omega) (by omega),zjp (by omega) (by omega)]
   exact⟨⟨by omega,by omega⟩,⟨by omega,by omega⟩,rfl,by omega,rfl,rfl⟩
  ·rw[V,if_pos (by omega),zjp (by omega) (by omega)]
   exact⟨rfl,by omega,rfl,rfl⟩
  ·have:=L (by omega)
   rw[V,if_neg (by omega),zjp (by omega) (by omega)]
   exact⟨rfl,rfl,rfl,rfl⟩
 ·unfold nmM;rw[if_pos (by omega)];omega
 ·have e:nmM s i=i+1:=by unfold nmM;rw[if_pos (by omega)]
  refine⟨by rw[decide_eq_decide];omega,⟨by omega,by omega,by omega,by omega⟩,?_⟩
  unfold nqX
  rw[show((i:Int)+1).toNat=i+1 by omega,e]
 ·unfold nmM;rw[if_neg (by omega)]
 ·have e:nmM s i=i:=by unfold nmM;rw[if_neg (by omega)]
  exact⟨by rw[decide_eq_decide];omega,⟨by omega,by omega,by omega,by omega⟩,by unfold nqX;rw[e]⟩
end
section
def z6d(M:Nat):∀(l:List UInt8) (acc:Nat),(∀c∈l,z0f c.toNat=true)->Lib.parseUintM M acc l= .range\/∃u,acc<=u/\Lib.parseUintM M acc l= .ok u
  | [],acc,_=> .inr ⟨acc,Nat.le_refl _,rfl⟩
  | c::l,acc,h=>by
    have hc:=z0l (h c List.mem_cons_self)
    simp only[Lib.parseUintM]
    rw[if_pos hc]
    split
    · exact .inl rfl
    split
    · exact .inl rfl
    rcases z6d M l (acc*10+(c.toNat- 48)) (λx hx=>h x (List.mem_cons_of_mem _ hx))with h1|⟨u,h1,h2⟩
    · exact .inl h1
    · exact .inr ⟨u,by omega,h2⟩
variable {s:ByteArray}
def ext_cons{j q:Nat} (h1:j<q) (h2:q<=s.size):∃c:UInt8,c.toNat=bat s j/\(s.extract j q).data.toList=c::(s.extract (j+1) q).data.toList:=by
 refine⟨s[j]'(by omega),(z4e (by omega)).symm,?_⟩
 rw[ByteArray.data_extract,Array.toList_extract,List.extract_eq_take_drop,ByteArray.data_extract,Array.toList_extract,List.extract_eq_take_drop,z61 s j (by omega),show q- j=(q- (j+1))+1 by omega,List.take_succ_cons]
def ext_nil{j q:Nat} (h1:q<=j):(s.extract j q).data.toList=[]:=by
 rw[ByteArray.data_extract,Array.toList_extract,List.extract_eq_take_drop,show q- j=0 by omega,List.take_zero]
def zab{s:ByteArray} {q:Nat} (hq:q<=s.size):∀(f j:Nat),q- j<=f->(∀k,j<=k->k<q->z0f (bat s k)=true)->∀c∈(s.extract j q).data.toList,z0f c.toNat=true
  |0,j,h1,_,c,hc=>by rw[ext_nil (by omega)]at hc;cases hc
  | f +1,j,h1,h2,c,hc=>by
    by_cases hj:j<q
    · obtain⟨b,hb,he⟩:=ext_cons hj hq
      rw[he]at hc
      rcases List.mem_cons.1 hc with rfl|hc
      · rw[hb];exact h2 j (Nat.le_refl _) hj
      · exact zab hq f (j+1) (by omega) (λk hk=>h2 k (by omega)) c hc
    · rw[ext_nil (by omega)]at hc;cases hc
def zaa{s:ByteArray}:∀(f i:Nat),s.size- i<=f->∀k,i<=k->k<dg s i->z0f (bat s k)=true
  | 0,i,h,k,h1,h2=>by
    have:dg s i=i:=z60 (by rw[z01 (by omega)];rfl)
    omega
  | f +1,i,h,k,h1,h2=>by
    cases hd:z0f (bat s i)with
    |false=>have:=z60 hd;omega
    | true=>
      rw[z4k hd]at h2
      by_cases e:k=i
      · rw[e];exact hd
      · exact zaa f (i+1) (by omega) k (by omega) h2
def zf5{s:ByteArray}:∀(f j v:Nat),s.size- j<=f->j<=s.size->v<=9223372036854775808->((nq s j v).2.2=false/\(nq s j v).2.1=dg s j/\(nq s j v).1<=9223372036854775808/\Lib.parseUintM 18446744073709551615 v (s.extract j (dg s j)).data.toList= .ok (nq s j v).1)\/((nq s j v).2.2=true/\(Lib.parseUintM 18446744073709551615 v (s.extract j (dg s j)).data.toList= .range\/∃u,9223372036854775808<u/\Lib.parseUintM 18446744073709551615 v (s.extract j (dg s j)).data.toList= .ok u))
  | 0,j,v,h,hj,hv=>by
    have hd:z0f (bat s j)=false:=by rw[z01 (by omega)];rfl
    rw[zbu hd,z60 hd,ext_nil (Nat.le_refl _)]
    exact .inl ⟨rfl,rfl,hv,rfl⟩
  | f + 1,j,v,h,hj,hv=>by
    cases hd:z0f (bat s j)with
    | false=>
      rw[zbu hd,z60 hd,ext_nil (Nat.le_refl _)]
      exact .inl ⟨rfl,rfl,hv,rfl⟩
    | true=>
      have hl:j<s.size:=Nat.lt_of_not_le λh2=>by have:=z0l hd;rw[z01 h2]at this;omega
      have hr:=z0l hd
      have hq:=z58 s (j+1)
      have hq2:=z5z (s:=s) (i:=j+1) (by omega)
      rw[zai hd,z4k hd]
      obtain⟨c,hc,he⟩:=ext_cons (s:=s) (j:=j) (q:=dg s (j+1)) (by omega) hq2
      rw[he]
      simp only[Lib.parseUintM,hc]
      rw[if_pos hr]
      by_cases ho:(9223372036854775808- (bat s j- 48)) / 10<v
      · rw[if_pos ho]
        refine .inr ⟨rfl,?_⟩
        split
        · exact .inl rfl
        split
        · exact .inl rfl
        rcases z6d 18446744073709551615 (s.extract (j+1) (dg s (j+1))).data.toList (v*10+(bat s j- 48)) (zab hq2 _ _ (Nat.le_refl _) (zaa _ _ (Nat.le_refl _)))with h1|⟨u,h1,h2⟩
        · exact .inl h1
        · exact .inr ⟨u,by omega,h2⟩
      · rw[if_neg ho,if_neg (by omega),if_neg (by omega)]
        exact zf5 f (j+1) (v*10+(bat s j- 48)) (by omega) (by omega) (by omega)
def zf3{i:Nat} (h:i<s.size) (hc:bat s i=45\/z0f (bat s i)=true):(z12 s i=true->nmR s i=some (nqV s i)/\(nqX s i).2.1=dg s (nmM s i)/\isX (bat s (dg s (nmM s i)))=false)/\(z12 s i=false->nmR s i=none\/isX (bat s (dg s (nmM s i)))=true):=by
 have hm:=z2i h
 have hp:=zf5 _ (nmM s i) 0 (Nat.le_refl _) hm.2.1 (by omega)
 have hg:=z58 s (nmM s i)
 have hl:=z5z hm.2.1
 have L:∀u,Lib.parseUintM 18446744073709551615 0 (s.extract (nmM s i) (dg s (nmM s i))).data.toList= .ok u->piR (s.extract i (dg s (nmM s i))).data.toList=if dg s (nmM s i)=nmM s i then none else if bat s i=45 then(if 9223372036854775808<u then none else some (-(u:Int)))else if 9223372036854775808<=u then none else some (u:Int):=λu hu=>by
  have hB:Lib.parseUintB 64 (s.extract (nmM s i) (dg s (nmM s i))).data.toList=if dg s (nmM s i)=nmM s i then .syntax else .ok u:=by
   unfold Lib.parseUintB
   by_cases e:dg s (nmM s i)=nmM s i
   ·rw[if_pos e,ext_nil (by omega),if_pos rfl]
   ·obtain⟨c,_,he⟩:=ext_cons (s:=s) (j:=nmM s i) (q:=dg s (nmM s i)) (by omega) hl
    rw[if_neg e,if_neg (by rw[he];simp)];exact hu
  unfold piR
  by_cases e45:bat s i=45
  ·have em:nmM s i=i+1:=by unfold nmM;rw[if_pos e45]
   obtain⟨c,hc,he⟩:=ext_cons (s:=s) (j:=i) (q:=dg s (nmM s i)) (by omega) hl
   have c45:c=45:=UInt8.toNat_inj.1 (by rw[hc,e45];rfl)
   rw[he,c45,Lib.parseIntB_minus,←em,hB,if_pos e45]
   by_cases e:dg s (nmM s i)=nmM s i
   ·rw[if_pos e,if_pos e];rfl
   ·rw[if_neg e,if_neg e]
    simp only[Lib.signedC]
    by_cases e2:9223372036854775808<u
    ·rw[if_pos e2,if_pos (by omega)]
    ·rw[if_neg e2,if_neg (by omega)]
  ·have em:nmM s i=i:=by unfold nmM;rw[if_neg e45]
   have hd:z0f (bat s i)=true:=hc.resolve_left e45
   have hn:i<dg s (nmM s i):=by rw[em,z4k hd];have:=z58 s (i+1);omega
   obtain⟨c,hc,he⟩:=ext_cons (s:=s) (j:=i) (q:=dg s (nmM s i)) hn hl
   have:=z0l hd
   rw[em]at hB
   rw[em]at he⊢
   rw[he,Lib.parseIntB_plain 64 c _ (by omega) (by omega),←he,hB,if_neg e45]
   by_cases e:dg s i=i
   ·rw[if_pos e,if_pos e];rfl
   ·rw[if_neg e,if_neg e]
    simp only[Lib.signlessC]
    by_cases e2:9223372036854775808<=u
    ·rw[if_pos e2,if_pos (by omega)]
    ·rw[if_neg e2,if_neg (by omega)]
 have N:Lib.parseUintM 18446744073709551615 0 (s.extract (nmM s i) (dg s (nmM s i))).data.toList= .range->piR (s.extract i (dg s (nmM s i))).data.toList=none:=λhu=>by
  have hne:nmM s i<dg s (nmM s i):=by
   by_cases e:nmM s i<dg s (nmM s i)
   ·exact e
   ·rw[ext_nil (by omega)]at hu;cases hu
  have hB:Lib.parseUintB 64 (s.extract (nmM s i) (dg s (nmM s i))).data.toList= .range:=by
   unfold Lib.parseUintB
   obtain⟨c,_,he⟩:=ext_cons (s:=s) hne hl
   rw[if_neg (by rw[he];simp)];exact hu
  unfold piR
  by_cases e45:bat s i=45
  ·have em:nmM s i=i+1:=by unfold nmM;rw[if_pos e45]
   obtain⟨c,hc,he⟩:=ext_cons (s:=s) (j:=i) (q:=dg s (nmM s i)) (by omega) hl
   have c45:c=45:=UInt8.toNat_inj.1 (by rw[hc,e45];rfl)
   rw[he,c45,Lib.parseIntB_minus,←em,hB];rfl
  ·have em:nmM s i=i:=by unfold nmM;rw[if_neg e45]
   have hd:z0f (bat s i)=true:=hc.resolve_left e45
   obtain⟨c,hc,he⟩:=ext_cons (s:=s) (j:=i) (q:=dg s (nmM s i)) (by omega) hl
   have:=z0l hd
   rw[em]at hB
   rw[em]at he⊢
   rw[he,Lib.parseIntB_plain 64 c _ (by omega) (by omega),←he,hB];rfl
 have X:nqX s i=nq s (nmM s i) 0:=rfl
 rcases hp with⟨p1,p2,p3,p4⟩|⟨p1,p2⟩
 ·rw [←X]at p1 p2 p3 p4
  have E:nqX s i=((nqX s i).1,dg s (nmM s i),false):=by rw[←p1,←p2]
  have O:=z6a E
  have L1:=L _ p4
  rw[O]
  unfold nmR
  rw[L1]
  refine⟨λh=> ?_,λh=> ?_⟩
  ·simp at h
   obtain⟨h1,h2,h3,h4⟩:=h
   refine⟨?_,p2,h3⟩
   rw[if_neg (by omega),if_neg (by omega)]
   unfold nqV
   by_cases e45:bat s i=45
   ·rw[if_pos e45,if_pos e45,if_neg (by omega)]
   ·rw[if_neg e45,if_neg e45,if_neg (by omega)]
  ·by_cases hX:isX (bat s (dg s (nmM s i)))=true
   ·exact .inr hX
   ·left
    simp[hX]at h
    split
    ·rfl
    split
    ·rfl
    rename_i g1 g2
    have:=h g2
    split
    ·rw[if_pos (by omega)]
    ·rw[if_pos (by omega)]
 ·have O:z12 s i=false:=by unfold z12;rw[X,p1];rfl
  rw[O]
  refine⟨λh=>(by cases h),λ_=> .inl ?_⟩
  unfold nmR
  split
  ·rfl
  rcases p2 with p2|⟨u,hu,p2⟩
  ·exact N p2
  ·rw[L u p2,if_pos hu,if_pos (by omega:9223372036854775808<=u)]
   split
   ·rfl
   ·split<;>rfl
end
inductive PJ where
 |mk (k n:Int) (s:ByteArray) (l:List PJ) (nm:List ByteArray)
mutual
def GJ.pj:GJ->PJ
 | .mk k n s y l x nm=> .mk k n s (GJ.pjs l) nm
def GJ.pjs:List GJ->List PJ
 | []=>[]
 |g::l=>GJ.pj g::GJ.pjs l
end
def GJ.pjs_map:∀l:List GJ,GJ.pjs l=l.map GJ.pj
 | []=>by rw[GJ.pjs];rfl
 |g::l=>by rw[GJ.pjs,GJ.pjs_map l];rfl
def GJ.pj_eq(g:GJ):g.pj= .mk g.k g.n g.s (g.l.map GJ.pj) g.nm:=by cases g;rw[GJ.pj,GJ.pjs_map];rfl
inductive JR where
 |err (k:Nat)
 |ok (x:PJ) (j:Nat)
def inB(x:ByteArray) (nm:List ByteArray):Bool:=nm.any λt=>decide (t=x)
def jL(s:ByteArray) (T:Nat->JR):Nat->Nat->List PJ->JR
  |0,_,_=> .err 2
  | f+1,i,acc=>match T i with
    | .err k=> .err k
    | .ok x j=>if pk s j=93 then .ok (.mk 5 0 (mkS []) (acc++[x]) []) (sk s j+1)else if pk s j=44 then jL s T f (sk s j+1) (acc++[x])else .err 2
def jO(s:ByteArray) (T:Nat->JR):Nat->Nat->List PJ->List ByteArray->JR
  |0,_,_,_=> .err 2
  | f+1,i,acc,nm=>
    if(uqS s i).1≠0 then .err 2 else if inB (uqS s i).2.1 nm=true then .err 5 else
    if pk s (sk s i+(uqS s i).2.2)≠58 then .err 2 else
    match T (sk s (sk s i+(uqS s i).2.2)+1)with
    | .err k=> .err k
    | .ok x j=>if pk s j=125 then .ok (.mk 6 0 (mkS []) (acc++[x]) (nm++[(uqS s i).2.1])) (sk s j+1)else if pk s j=44 then jO s T f (sk s j+1) (acc++[x]) (nm++[(uqS s i).2.1])else .err 2
def jLt(s:ByteArray) (T:Option (Nat->JR)) (i:Nat):JR:=match T with
 |none=> .err 3
 |some T=>if pk s (i+1)=93 then .ok (.mk 5 0 (mkS []) [] []) (sk s (i+1)+1)else jL s T (s.size+1) (i+1) []
def jTb(s:ByteArray) (T:Option (Nat->JR)) (i:Nat):JR:=match T with
 |none=> .err 3
 |some T=>if pk s (i+1)=125 then .ok (.mk 6 0 (mkS []) [] []) (sk s (i+1)+1)else jO s T (s.size+1) (i+1) [] []
def z3u:ByteArray:=mkS [110,117,108,108]
def z3v:ByteArray:=mkS [116,114,117,101]
def z25:ByteArray:=mkS [102,97,108,115,101]
def jN(s:ByteArray) (T:Option (Nat->JR)) (i:Nat):JR:=
 if pk s i=91 then jLt s T (sk s i)else if pk s i=123 then jTb s T (sk s i)else
 if pk s i=34 then(if(uqS s i).1=0 then .ok (.mk 4 0 (uqS s i).2.1 [] []) (sk s i+(uqS s i).2.2)else .err 2)else
 if pk s i=45\/z0f (pk s i)=true then(if z12 s (sk s i)=true then .ok (.mk 3 (nqV s (sk s i)) (mkS []) [] []) (nqX s (sk s i)).2.1 else .err 2)else
 if wdF s (sk s i) z3u=true then .ok (.mk 1 0 (mkS []) [] []) (sk s i+4)else
 if wdF s (sk s i) z3v=true then .ok (.mk 2 1 (mkS []) [] []) (sk s i+4)else
 if wdF s (sk s i) z25=true then .ok (.mk 2 0 (mkS []) [] []) (sk s i+5)else .err 2
def jT(s:ByteArray):Nat->Nat->JR
 |0=>jN s none
 |n+1=>jN s (some (jT s n))
def jTo(s:ByteArray):Nat->Option (Nat->JR)
 |0=>none
 |n+1=>some (jT s n)
def zbj(s:ByteArray) (n:Nat):jT s n=jN s (jTo s n):=by cases n<;>rfl
def lv(d:Int):Nat:=(21- d).toNat
abbrev TrS:=RdS×Int
abbrev TrB:=GJ×Int×Int
def rsP(R:JR) (s:ByteArray) (i:Int):TrB->Prop:=λ⟨g,e,j⟩=>rdK s j/\match R with
 | .ok x j'=>(e=0/\i<=j)/\j=j'/\g.pj=x
 | .err k=>e=k/\k≠0
def trP(R:JR) (s:ByteArray) (i:Int) (b:TrB):Prop:=rsP R s i b\/R= .err 2/\rdK s b.2.2/\(b.2.1=0/\i<=b.2.2)/\isX (bat s b.2.2.toNat)=true
def gjM(g:GJ):PF:=⟨true,g.ok,λ_ _ h e=>GJ.ok_mono h e⟩
def zih(l:List GJ):PF:=⟨true,GJ.oks l,λ_ _ h e=>GJ.oks_mono h e⟩
def cTr(pre:TrS->Prop) (post:TrS->TrB->Prop):CtR where
 σ:=TrS
 args:=λ⟨⟨s,i⟩,d⟩=>[.ptr 1 0, .sv (.int .i64 d)]
 h:=λ⟨⟨s,i⟩,d⟩=>rdO s i
 m:=2
 pre:=λ⟨⟨s,i⟩,d⟩=>rdK s i/\(1<=d/\d<=21)/\pre ⟨⟨s,i⟩,d⟩
 mem:=λ_=>erM
 find:=some λl h=>both (ze6 l h) (arI l)
 β:=λ_=>TrB
 post:=post
 pm:=λ_ ⟨g,e,j⟩=>gjM g
 r:=λ_ ⟨g,e,j⟩=> .tup [g.av, .sv (.int .i64 e)]
 h':=λ⟨⟨s,i⟩,d⟩ ⟨g,e,j⟩=>rdO s j
 m':=2
def z0r:TrS->Nat:=λ⟨_,d⟩=>lv d
def z10:TrS->TrB->Prop:=λ⟨⟨s,i⟩,d⟩ b=>trP (jT s (lv d) i.toNat) s i b
def z0d:TrS->TrB->Prop:=λ⟨⟨s,i⟩,d⟩ b=>rsP (jLt s (jTo s (lv d)) i.toNat) s i b
def z07:TrS->TrB->Prop:=λ⟨⟨s,i⟩,d⟩ b=>rsP (jTb s (jTo s (lv d)) i.toNat) s i b
def zel:TrS->Prop:=λ⟨⟨s,i⟩,d⟩=>i<s.size
def z2m:CtR:=cTr (λ_=>True) z10
def z7r:CtR:=cTr zel z0d
def z4i:CtR:=cTr zel z07
def zf6(t:T AV) (k:Nat):Option Nat:=match t.get k with
 |some (.ptr b _)=>some b
 |some (.map b)=>some b
 |_=>none
def zkj(h:T AO) (vb n:Nat):AO:=match h.get vb with
 |some (.cells ty fz g [a,b,c,_,e])=> .cells ty fz g [a,b,c, .ssl 40 0 n 5 41,e]
 |_=> .cells 0 none false []
def zkk(h:T AO) (vb n m:Nat):AO:=match h.get vb with
 |some (.cells ty fz g [a,b,c,_,_])=> .cells ty fz g [a,b,c, .ssl 40 0 n 5 41, .ssl 42 0 m 1 43]
 |_=> .cells 0 none false []
def lsI(s:ByteArray) (i d:Int) (gs:List GJ) (j:Int):Prop:=rdK s j/\(i<j/\gs.length<=j.toNat)/\∃n f,lv d=n+1/\s.size+1<=f+j.toNat/\jL s (jT s n) f j.toNat (gs.map GJ.pj)=jLt s (jTo s (lv d)) i.toNat
def zfm:TrS->WayF:=λ⟨⟨s,i⟩,d⟩=>{
 pubE:=[42]
 ann:=λ_ tt hh=>match zf6 tt 6 with
  |some vb=>some {σ:=List GJ×Int,pre:=λ⟨gs,j⟩=>lsI s i d gs j,mem:=λ⟨gs,j⟩=>zih gs,t:=λ_=>[],h:=λ⟨gs,j⟩=>rdO s j++[(vb,zkj hh vb gs.length),(40, .row 26 0 (z00 GJ.cells gs))],more:=60,μ:=λ⟨gs,j⟩=>s.size- j.toNat,keep:=[0,1,4,6]}
  |none=>none}
def mpF:Nat->List ByteArray->List MapEntry
 |_,[]=>[]
 |c,t::l=>⟨.string t, .int .i64 1,c⟩::mpF (c+1) l
def tbI(s:ByteArray) (i d:Int) (gs:List GJ) (nm:List ByteArray) (j:Int):Prop:=rdK s j/\(i<j/\gs.length<=j.toNat)/\gs.length=nm.length/\∃n f,lv d=n+1/\s.size+1<=f+j.toNat/\jO s (jT s n) f j.toNat (gs.map GJ.pj) nm=jTb s (jTo s (lv d)) i.toNat
def zav:TrS->WayF:=λ⟨⟨s,i⟩,d⟩=>{
 pubE:=[73]
 ann:=λ_ tt hh=>match zf6 tt 6,zf6 tt 7 with
  |some vb,some mb=>some {σ:=List GJ×List ByteArray×Int,pre:=λ⟨gs,nm,j⟩=>tbI s i d gs nm j,mem:=λ⟨gs,nm,j⟩=>zih gs,t:=λ_=>[],h:=λ⟨gs,nm,j⟩=>rdO s j++[(vb,zkk hh vb gs.length nm.length),(40, .row 26 0 (z00 GJ.cells gs)),(42, .row 9 0 (z00 txV nm)),(mb, .mrow (mpF 0 nm) nm.length)],more:=60,μ:=λ⟨gs,nm,j⟩=>s.size- j.toNat,keep:=[0,1,4,6,7]}
  |_,_=>none}
def tLs:Nat->Option Ct:=qg8 [(45,z7u)]
def tTb:Nat->Option Ct:=qg8 [(45,z7u),(27,z7v)]
def tTr:Nat->Option Ct:=qg8 [(14,z3n),(27,z7v),(28,zig),(29,zb5)]
def zfp:TrS->WayF:=λ⟨⟨s,i⟩,d⟩=>{}
section
variable (x0:Int) (x1:ByteArray) (x2:Int) (x3:Nat) (x4:List GJ×Int) (x5:TrB) (x6:Prop) (x7:Nat->Option Obj) (x8:Option Addr)
 abbrev zdj:=(GJ.x x5.1).1=noA/\(GJ.x x5.1).2.1=0/\(GJ.x x5.1).2.2=0/\x6
 def zhq:=GJ.k x5.1=x0/\GJ.n x5.1=0/\GJ.s x5.1=mkS []/\(GJ.y x5.1).1=noA/\(GJ.y x5.1).2.1=0/\(GJ.y x5.1).2.2=0/\zdj x5 x6
 abbrev zdk:=Jb (x0+1)
 def z9s:=0<x0/\x0<256
 def z46:=((True/\erP x7)/\GJ.oks x4.1 x7)/\GJ.ok x5.1 x7
 def zk7:=(z46 x4 x5 x7)/\length x4.1+nat_lit 1<=x3/\qj6 x7 x8 (take ((length x4.1+nat_lit 1)*nat_lit 5) (z00 GJ.cells x4.1++[int i64 (GJ.k x5.1),int i64 (GJ.n x5.1),string (GJ.s x5.1),slice (GJ.y x5.1).1 (GJ.y x5.1).2.1 (GJ.y x5.1).2.2,slice (GJ.x x5.1).1 (GJ.x x5.1).2.1 (GJ.x x5.1).2.2]))
 abbrev z9t:=(↑(tkP x1 (toNat x5.2.2) 93):Int)
 def zov:=(44:Int)=44/\x1=x1/\(z9t x1 x5)=(z9t x1 x5)/\(rdK x1 (z9t x1 x5)/\z9s 44)/\((!decide (pk x1 (toNat (z9t x1 x5))=44))=true->∃(i0:TrB),zhq 0 i0 (i0.2.1=2/\x1=x1/\i0.2.2=(↑(tkP x1 (toNat (z9t x1 x5)) 44):Int)/\z0d ((x1,x0),x2) i0/\(∀i1,z46 x4 x5 i1->GJ.ok i0.1 i1)/\True))/\((!decide (pk x1 (toNat (z9t x1 x5))=44))=false->∃(i2:List GJ×Int),x2=x2/\x1=x1/\i2.2=(↑(tkP x1 (toNat (z9t x1 x5)) 44):Int)/\length i2.1=length x4.1+nat_lit 1/\z00 GJ.cells i2.1=z00 GJ.cells x4.1++[int i64 (GJ.k x5.1),int i64 (GJ.n x5.1),string (GJ.s x5.1),slice (GJ.y x5.1).1 (GJ.y x5.1).2.1 (GJ.y x5.1).2.2,slice (GJ.x x5.1).1 (GJ.x x5.1).2.1 (GJ.x x5.1).2.2]/\(∀i3,z46 x4 x5 i3->True/\erP i3)/\(∀i4,z46 x4 x5 i4->GJ.oks i2.1 i4)/\lsI x1 x0 x2 i2.1 i2.2/\size x1- toNat i2.2<size x1- toNat x4.2/\True)
 def zou:=length (z00 GJ.cells x4.1)=length x4.1*5/\(length x4.1+nat_lit 1)*80<=140737488355328/\(93:Int)=93/\x1=x1/\x5.2.2=x5.2.2/\(rdK x1 x5.2.2/\z9s 93)/\Ji (pk x1 (toNat x5.2.2)=93) (∀(i0 i1 i2:Nat) (i3:Option Addr) (i4 i5:Nat),(∃i6,zk7 i5 x4 x5 i6 i3)->∃(i7:TrB),GJ.k i7.1=5/\GJ.n i7.1=0/\GJ.s i7.1=mkS []/\(GJ.y i7.1).1=i3/\(GJ.y i7.1).2.1=length x4.1+nat_lit 1/\(GJ.y i7.1).2.2=i5/\zdj i7 (i7.2.1=0/\x1=x1/\i7.2.2=(z9t x1 x5)/\z0d ((x1,x0),x2) i7/\(∀i8,zk7 i5 x4 x5 i8 i3->GJ.ok i7.1 i8)/\True)) (zov x0 x1 x2 x4 x5)
 def zot:=((!decide (x5.2.1=0))=true->∃(i0:TrB),zhq 0 i0 (i0.2.1=x5.2.1/\x1=x1/\i0.2.2=x5.2.2/\z0d ((x1,x0),x2) i0/\(∀i1,z46 x4 x5 i1->GJ.ok i0.1 i1)/\True))/\((!decide (x5.2.1=0))=false->zou x0 x1 x2 x4 x5)
 def zos:=zdk x0/\x0+1=x0+1/\x1=x1/\x4.2=x4.2/\(z0r ((x1,x4.2),x0+1)<x3/\rdK x1 x4.2/\(1<=x0+1/\x0+1<=21)/\True)/\(∀i0,(True/\erP i0)/\GJ.oks x4.1 i0->erP i0)/\∀(i1:TrB),z10 ((x1,x4.2),x0+1) i1->(∃i2,z46 x4 i1 i2)->zot x2 x1 x0 x4 i1
 def zor:=(∃(i0:List GJ×Int),x0=x0/\x1=x1/\i0.2=(↑(tkP x1 (toNat (x2+1)) 93):Int)/\length i0.1=0/\(∀i1,True/\erP i1->True/\erP i1)/\(∀i2,True/\erP i2->GJ.oks i0.1 i2)/\lsI x1 x2 x0 i0.1 i0.2/\True)/\∀(i3:List GJ×Int),lsI x1 x2 x0 i3.1 i3.2->(∃i4,(True/\erP i4)/\GJ.oks i3.1 i4)->zos x0 x1 x2 x3 i3
 def zoq:=zdk x0/\(93:Int)=93/\x1=x1/\x0+1=x0+1/\(rdK x1 (x0+1)/\z9s 93)/\Ji (pk x1 (toNat (x0+1))=93) (∃(i0:TrB),zhq 5 i0 (i0.2.1=0/\x1=x1/\i0.2.2=(↑(tkP x1 (toNat (x0+1)) 93):Int)/\z0d ((x1,x0),x2) i0/\(∀i1,True/\erP i1->GJ.ok i0.1 i1)/\True)) (zor x2 x1 x0 x3)
 def zop:=Ji (20<x0) (∃(i0:TrB),zhq 0 i0 (i0.2.1=3/\x1=x1/\i0.2.2=x2/\z0d ((x1,x2),x0) i0/\(∀i1,True/\erP i1->GJ.ok i0.1 i1)/\True)) (zoq x2 x1 x0 x3)
end
def zbp(c:Nat) (s:ByteArray) (i d:Int):qkz P (tLs) (qhc [(13,z2m.below z0r c)]) Go.Proofs.Tryd.f25 (z7r.below z0r (c+1)) (zfm) ⟨⟨s,i⟩,d⟩=(z0r ((s,i),d)<c+1/\rdK s i/\(1<=d/\d<=21)/\zel ((s,i),d)->(∃(p:Pub),True/\erP p)->zop d s i c):=by kernel_rfl
def zf0:=λc s i d=>Eq.trans (zbp c s i d) (by delta Ji Jb Jt Jf zdj zhq zdk z9s z46 zk7 z9t zov zou zot zos zor zoq zop;exact rfl)
section
variable (x0:Int) (x1:ByteArray) (x2:Int) (x3:Nat) (x4:List GJ×List ByteArray×Int) (x5:Int) (x6:TrB) (x7:Prop) (x8:Nat->Option Obj) (x9:Option Addr)
 abbrev z3b:=GJ.k x6.1=x0/\GJ.n x6.1=0/\GJ.s x6.1=mkS []/\(GJ.y x6.1).1=noA/\(GJ.y x6.1).2.1=0/\(GJ.y x6.1).2.2=0/\(GJ.x x6.1).1=noA/\(GJ.x x6.1).2.1=0/\(GJ.x x6.1).2.2=0/\x7
 abbrev z9w:=Jb (x0+1)
 def z7j:=0<x0/\x0<256
 def z2f:=(True/\erP x8)/\GJ.oks x4.1 x8
 abbrev z2u:=(↑(sk x1 (toNat x4.2.2)+(uqS x1 (toNat x4.2.2)).2.2):Int)
 def z9x:=z07 ((x1,x0),x2) x6/\(∀i0,z2f x4 i0->GJ.ok x6.1 i0)/\True
 abbrev z47:=(uqS x1 (toNat x4.2.2)).2.1
 def z9v:=kOK TypeDesc.string (string (z47 x1 x4))/\(∀(i0:MapEntry),i0∈mpF 0 x4.2.1->kOK TypeDesc.string (MapEntry.key i0))/\x7
 def zdm:=ql7 (string (z47 x1 x4)) (mpF 0 x4.2.1) (int i64 0)=int i64 x0
 abbrev z48:=(↑(tkP x1 (toNat (z2u x1 x4)) 58):Int)
 def z9u:=((z2f x4 x8)/\GJ.ok x6.1 x8)/\length x4.1+nat_lit 1<=x3/\qj6 x8 x9 (take ((length x4.1+nat_lit 1)*nat_lit 5) (z00 GJ.cells x4.1++[int i64 (GJ.k x6.1),int i64 (GJ.n x6.1),string (GJ.s x6.1),slice (GJ.y x6.1).1 (GJ.y x6.1).2.1 (GJ.y x6.1).2.2,slice (GJ.x x6.1).1 (GJ.x x6.1).2.1 (GJ.x x6.1).2.2]))
 def zdl:=length x4.2.1+nat_lit 1<=x3/\qj6 x8 x9 (take ((length x4.2.1+nat_lit 1)*nat_lit 1) (z00 txV x4.2.1++[string (z47 x1 x4)]))
 abbrev z2v:=(↑(tkP x1 (toNat x6.2.2) 125):Int)
 def zp5:=(44:Int)=44/\x1=x1/\(z2v x1 x6)=(z2v x1 x6)/\(rdK x1 (z2v x1 x6)/\z7j 44)/\((!decide (pk x1 (toNat (z2v x1 x6))=44))=true->∃(i0:TrB),z3b 0 i0 (i0.2.1=2/\x1=x1/\i0.2.2=(↑(tkP x1 (toNat (z2v x1 x6)) 44):Int)/\z07 ((x1,x0),x2) i0/\(∀i1,(z2f x4 i1)/\GJ.ok x6.1 i1->GJ.ok i0.1 i1)/\True))/\((!decide (pk x1 (toNat (z2v x1 x6))=44))=false->∃(i2:List GJ×List ByteArray×Int),x2=x2/\x1=x1/\i2.2.2=(↑(tkP x1 (toNat (z2v x1 x6)) 44):Int)/\length i2.1=length x4.1+nat_lit 1/\length i2.2.1=length x4.2.1+nat_lit 1/\mpF 0 i2.2.1=qis (string (z47 x1 x4)) (int i64 (x5+1)) (mpF 0 x4.2.1) (length x4.2.1)/\length i2.2.1=qir (string (z47 x1 x4)) (mpF 0 x4.2.1) (length x4.2.1)/\z00 GJ.cells i2.1=z00 GJ.cells x4.1++[int i64 (GJ.k x6.1),int i64 (GJ.n x6.1),string (GJ.s x6.1),slice (GJ.y x6.1).1 (GJ.y x6.1).2.1 (GJ.y x6.1).2.2,slice (GJ.x x6.1).1 (GJ.x x6.1).2.1 (GJ.x x6.1).2.2]/\z00 txV i2.2.1=z00 txV x4.2.1++[string (z47 x1 x4)]/\(∀i3,(z2f x4 i3)/\GJ.ok x6.1 i3->True/\erP i3)/\(∀i4,(z2f x4 i4)/\GJ.ok x6.1 i4->GJ.oks i2.1 i4)/\tbI x1 x0 x2 i2.1 i2.2.1 i2.2.2/\size x1- toNat i2.2.2<size x1- toNat x4.2.2/\True)
 def zp4:=length (z00 txV x4.2.1)=length x4.2.1*1/\(length x4.2.1+nat_lit 1)*16<=140737488355328/\length (z00 GJ.cells x4.1)=length x4.1*5/\(length x4.1+nat_lit 1)*80<=140737488355328/\(125:Int)=125/\x1=x1/\x6.2.2=x6.2.2/\(rdK x1 x6.2.2/\z7j 125)/\Ji (pk x1 (toNat x6.2.2)=125) (∀(i0 i1 i2:Nat) (i3:Option Addr) (i4 i5:Nat),(∃i6,z9u i5 x4 x6 i6 i3)->∀(i7 i8 i9:Nat) (i10:Option Addr) (i11 i12:Nat),(∃i13,(z9u i5 x4 x6 i13 i3)/\zdl x1 i12 x4 i13 i10)->∃(i14:TrB),GJ.k i14.1=6/\GJ.n i14.1=0/\GJ.s i14.1=mkS []/\(GJ.y i14.1).1=i3/\(GJ.y i14.1).2.1=length x4.1+nat_lit 1/\(GJ.y i14.1).2.2=i5/\(GJ.x i14.1).1=i10/\(GJ.x i14.1).2.1=length x4.2.1+nat_lit 1/\(GJ.x i14.1).2.2=i12/\i14.2.1=0/\x1=x1/\i14.2.2=(z2v x1 x6)/\z07 ((x1,x0),x2) i14/\(∀i15,(z9u i5 x4 x6 i15 i3)/\zdl x1 i12 x4 i15 i10->GJ.ok i14.1 i15)/\True) (zp5 x0 x1 x2 x4 x5 x6)
 def zp3:=((!decide (x6.2.1=0))=true->∃(i0:TrB),z3b 0 i0 (i0.2.1=x6.2.1/\x1=x1/\i0.2.2=x6.2.2/\z07 ((x1,x0),x2) i0/\(∀i1,(z2f x4 i1)/\GJ.ok x6.1 i1->GJ.ok i0.1 i1)/\True))/\((!decide (x6.2.1=0))=false->zp4 x0 x1 x2 x4 x5 x6)
 def zp2:=z9w x0/\x0+1=x0+1/\x1=x1/\(z48 x1 x4)=(z48 x1 x4)/\(z0r ((x1,(z48 x1 x4)),x0+1)<x3/\rdK x1 (z48 x1 x4)/\(1<=x0+1/\x0+1<=21)/\True)/\(∀i0,z2f x4 i0->erP i0)/\∀(i1:TrB),z10 ((x1,(z48 x1 x4)),x0+1) i1->(∃i2,(z2f x4 i2)/\GJ.ok i1.1 i2)->zp3 x2 x1 x0 x4 x5 i1
 def zp1:=z9v x1 x4 (∃(i1:Int),zdm i1 x1 x4/\z9w i1/\z9v x1 x4 ((58:Int)=58/\x1=x1/\(z2u x1 x4)=(z2u x1 x4)/\(rdK x1 (z2u x1 x4)/\z7j 58)/\((!decide (pk x1 (toNat (z2u x1 x4))=58))=true->∃(i3:TrB),z3b 0 i3 (i3.2.1=2/\x1=x1/\i3.2.2=(z48 x1 x4)/\z9x x0 x1 x2 x4 i3))/\((!decide (pk x1 (toNat (z2u x1 x4))=58))=false->zp2 x2 x1 x0 x3 x4 i1)))
 def zp0:=z9v x1 x4 (∃(i1:Int),zdm i1 x1 x4/\Ji (0<i1) (∃(i2:TrB),z3b 0 i2 (i2.2.1=5/\x1=x1/\i2.2.2=(z2u x1 x4)/\z9x x0 x1 x2 x4 i2)) (zp1 x0 x1 x2 x3 x4))
 def zoz:=x1=x1/\x4.2.2=x4.2.2/\rdK x1 x4.2.2/\((!decide ((↑(uqS x1 (toNat x4.2.2)).1:Int)=0))=true->∃(i0:TrB),z3b 0 i0 (i0.2.1=(↑(uqS x1 (toNat x4.2.2)).1:Int)/\x1=x1/\i0.2.2=(z2u x1 x4)/\z9x x0 x1 x2 x4 i0))/\((!decide ((↑(uqS x1 (toNat x4.2.2)).1:Int)=0))=false->zp0 x0 x1 x2 x3 x4)
 def zoy:=(∃(i0:List GJ×List ByteArray×Int),x0=x0/\x1=x1/\i0.2.2=(↑(tkP x1 (toNat (x2+1)) 125):Int)/\length i0.1=0/\length i0.2.1=0/\mpF 0 i0.2.1=[]/\length i0.2.1=nat_lit 0/\(∀i1,True/\erP i1->True/\erP i1)/\(∀i2,True/\erP i2->GJ.oks i0.1 i2)/\tbI x1 x2 x0 i0.1 i0.2.1 i0.2.2/\True)/\∀(i3:List GJ×List ByteArray×Int),tbI x1 x2 x0 i3.1 i3.2.1 i3.2.2->(∃i4,z2f i3 i4)->zoz x2 x1 x0 x3 i3
 def zox:=z9w x0/\(125:Int)=125/\x1=x1/\x0+1=x0+1/\(rdK x1 (x0+1)/\z7j 125)/\Ji (pk x1 (toNat (x0+1))=125) (∃(i0:TrB),z3b 6 i0 (i0.2.1=0/\x1=x1/\i0.2.2=(↑(tkP x1 (toNat (x0+1)) 125):Int)/\z07 ((x1,x0),x2) i0/\(∀i1,True/\erP i1->GJ.ok i0.1 i1)/\True)) (zoy x2 x1 x0 x3)
 def zow:=Ji (20<x0) (∃(i0:TrB),z3b 0 i0 (i0.2.1=3/\x1=x1/\i0.2.2=x2/\z07 ((x1,x2),x0) i0/\(∀i1,True/\erP i1->GJ.ok i0.1 i1)/\True)) (zox x2 x1 x0 x3)
end
def zcd(c:Nat) (s:ByteArray) (i d:Int):qkz P (tTb) (qhc [(13,z2m.below z0r c)]) Go.Proofs.Tryd.f26 (z4i.below z0r (c+1)) (zav) ⟨⟨s,i⟩,d⟩=(z0r ((s,i),d)<c+1/\rdK s i/\(1<=d/\d<=21)/\zel ((s,i),d)->(∃(p:Pub),True/\erP p)->zow d s i c):=by kernel_rfl
def zfd:=λc s i d=>Eq.trans (zcd c s i d) (by delta Ji Jb Jt Jf z3b z9w z7j z2f z2u z9x z47 z9v zdm z48 z9u zdl z2v zp5 zp4 zp3 zp2 zp1 zp0 zoz zoy zox zow;exact rfl)
section
variable (x0:ByteArray) (x1 x2:Int) (x3:Nat) (x4:TrB) (x5:Prop) (x6 x7:Int)
 abbrev z7k:=(↑(pk x0 (toNat x1)):Int)=x2
 abbrev z09:=(↑(sk x0 (toNat x1)):Int)
 def zdp:=x1=x1/\x0=x0/\(z09 x0 x2)=(z09 x0 x2)/\(z0r ((x0,(z09 x0 x2)),x1)<x3+1/\rdK x0 (z09 x0 x2)/\(1<=x1/\x1<=21)/\zel ((x0,(z09 x0 x2)),x1))/\(∀i0,True/\erP i0->erP i0)/\x5
 def zdn:=(∃i0,(True/\erP i0)/\GJ.ok x4.1 i0)->∃(i1:TrB),GJ.k i1.1=GJ.k x4.1/\GJ.n i1.1=GJ.n x4.1/\GJ.s i1.1=GJ.s x4.1/\(GJ.y i1.1).1=(GJ.y x4.1).1/\(GJ.y i1.1).2.1=(GJ.y x4.1).2.1/\(GJ.y i1.1).2.2=(GJ.y x4.1).2.2/\(GJ.x i1.1).1=(GJ.x x4.1).1/\(GJ.x i1.1).2.1=(GJ.x x4.1).2.1/\(GJ.x i1.1).2.2=(GJ.x x4.1).2.2/\i1.2.1=x4.2.1/\x0=x0/\i1.2.2=x4.2.2/\z10 ((x0,x1),x2) i1/\(∀i2,(True/\erP i2)/\GJ.ok x4.1 i2->GJ.ok i1.1 i2)/\True
 def zpb:=zdp x0 x1 x2 x3 (∀(i1:TrB),z0d ((x0,(z09 x0 x2)),x1) i1->zdn x0 x2 x1 i1)
 def zhr:=zdp x0 x1 x2 x3 (∀(i1:TrB),z07 ((x0,(z09 x0 x2)),x1) i1->zdn x0 x2 x1 i1)
 def zeg:=(GJ.y x4.1).1=noA/\(GJ.y x4.1).2.1=0/\(GJ.y x4.1).2.2=0/\(GJ.x x4.1).1=noA/\(GJ.x x4.1).2.1=0/\(GJ.x x4.1).2.2=0/\x5
 def z5n:=z10 ((x0,x1),x2) x4/\(∀i0,True/\erP i0->GJ.ok x4.1 i0)/\True
 def zhs:=x0=x0/\(z09 x0 x1)=(z09 x0 x1)/\rdK x0 (z09 x0 x1)/\∃(i0:TrB),GJ.k i0.1=4/\GJ.n i0.1=0/\GJ.s i0.1=(uqS x0 (toNat (z09 x0 x1))).2.1/\zeg i0 (i0.2.1=(↑(uqS x0 (toNat (z09 x0 x1))).1:Int)/\x0=x0/\i0.2.2=(↑(sk x0 (toNat (z09 x0 x1))+(uqS x0 (toNat (z09 x0 x1))).2.2):Int)/\z5n x0 x1 x2 i0)
 def zk9:=x0=x0/\(z09 x0 x1)=(z09 x0 x1)/\(rdK x0 (z09 x0 x1)/\(z09 x0 x1)<(↑(size x0):Int))/\(∀i0,True/\erP i0->erP i0)/\∃(i1:TrB),GJ.k i1.1=3/\GJ.n i1.1=Option.getD (nmR x0 (toNat (z09 x0 x1))) 0/\GJ.s i1.1=mkS []/\zeg i1 (i1.2.1=(↑(erO (nmR x0 (toNat (z09 x0 x1)))):Int)/\x0=x0/\i1.2.2=(↑(dg x0 (nmM x0 (toNat (z09 x0 x1)))):Int)/\z5n x0 x1 x2 i1)
 abbrev z9z:=mkS [110,117,108,108]
 abbrev zay:=(↑(wdP x0 (toNat (z09 x0 x1)) (z9z)):Int)
 abbrev za0:=mkS [116,114,117,101]
 abbrev z3c:=(↑(wdP x0 (toNat (zay x0 x1)) (za0)):Int)
 abbrev z9y:=mkS [102,97,108,115,101]
 def zdo:=∃(i0:TrB),GJ.k i0.1=x6/\GJ.n i0.1=0/\GJ.s i0.1=mkS []/\zeg i0 (i0.2.1=x7/\x0=x0/\i0.2.2=(↑(wdP x0 (toNat (z3c x0 x1)) (z9y)):Int)/\z5n x0 x1 x2 i0)
 def zpa:=mkS [102,97,108,115,101]=mkS [102,97,108,115,101]/\x0=x0/\(z3c x0 x1)=(z3c x0 x1)/\rdK x0 (z3c x0 x1)/\(wdF x0 (toNat (z3c x0 x1)) (z9y)=true->zdo x0 x1 x2 2 0)/\(wdF x0 (toNat (z3c x0 x1)) (z9y)=false->zdo x0 x1 x2 0 2)
 def zp7:=mkS [116,114,117,101]=mkS [116,114,117,101]/\x0=x0/\(zay x0 x1)=(zay x0 x1)/\rdK x0 (zay x0 x1)/\(wdF x0 (toNat (zay x0 x1)) (za0)=true->∃(i0:TrB),GJ.k i0.1=2/\GJ.n i0.1=1/\GJ.s i0.1=mkS []/\zeg i0 (i0.2.1=0/\x0=x0/\i0.2.2=(z3c x0 x1)/\z5n x0 x1 x2 i0))/\(wdF x0 (toNat (zay x0 x1)) (za0)=false->zpa x0 x1 x2)
 def zk8:=mkS [110,117,108,108]=mkS [110,117,108,108]/\x0=x0/\(z09 x0 x1)=(z09 x0 x1)/\rdK x0 (z09 x0 x1)/\(wdF x0 (toNat (z09 x0 x1)) (z9z)=true->∃(i0:TrB),GJ.k i0.1=1/\GJ.n i0.1=0/\GJ.s i0.1=mkS []/\zeg i0 (i0.2.1=0/\x0=x0/\i0.2.2=(zay x0 x1)/\z5n x0 x1 x2 i0))/\(wdF x0 (toNat (z09 x0 x1)) (z9z)=false->zp7 x0 x1 x2)
 def zhv:=Ji ((↑(pk x0 (toNat x1)):Int)<=57) (zk9 x0 x1 x2) (zk8 x0 x1 x2)
 def zhu:=Ji (48<=(↑(pk x0 (toNat x1)):Int)) (zhv x0 x1 x2) (zk8 x0 x1 x2)
 abbrev zht:=Ji (z7k x0 x1 45) (zk9 x0 x1 x2) (zhu x0 x1 x2)
 abbrev zp9:=Ji (z7k x0 x1 34) (zhs x0 x1 x2) (zht x0 x1 x2)
 abbrev zp8:=Ji (z7k x0 x1 123) (zhr x0 x2 x1 x3) (zp9 x0 x1 x2)
 def zp6:=x0=x0/\x1=x1/\rdK x0 x1/\Ji (z7k x0 x1 91) (zpb x0 x2 x1 x3) (zp8 x0 x1 x2 x3)
end
def zcf(c:Nat) (s:ByteArray) (i d:Int):qkz P (tTr) (qhc [(25,z7r.below z0r (c+1)),(26,z4i.below z0r (c+1))]) Go.Proofs.Tryd.f13 (z2m.below z0r (c+1)) (zfp) ⟨⟨s,i⟩,d⟩=(z0r ((s,i),d)<c+1/\rdK s i/\(1<=d/\d<=21)/\True->(∃(p:Pub),True/\erP p)->zp6 s i d c):=by kernel_rfl
def zff:=λc s i d=>Eq.trans (zcf c s i d) (by delta Ji Jt Jf z7k z09 zdp zdn zpb zhr zeg z5n zhs zk9 z9z zay za0 z3c z9y zdo zpa zp7 zk8 zhv zhu zht zp9 zp8 zp6;exact rfl)
section
variable {s:ByteArray}
def z05{i c:Nat} (h:pk s i=c):tkP s i c=sk s i+1:=if_pos h
def z0h{i c:Nat} (h:¬pk s i=c):tkP s i c=sk s i:=if_neg h
variable {i:Nat} {w:ByteArray}
def z1d(h:wdF s i w=true):wdP s i w=i+w.size:=if_pos h
def z2j(h:wdF s i w=false):wdP s i w=i:=if_neg (by rw[h];decide)
def z13(s:ByteArray) (i:Nat):pk s (sk s i)=pk s i:=by unfold pk;rw[z03]
def z52(s:ByteArray) (i:Nat):uqS s (sk s i)=uqS s i:=by unfold uqS;rw[z03]
def z0n(h:pk s i≠0):sk s i<s.size:=Nat.lt_of_not_le λh2=>h (by unfold pk;exact z01 h2)
def zj6(s:ByteArray) (T:Option (Nat->JR)) (i:Nat):jN s T (sk s i)=jN s T i:=by
 unfold jN
 rw[z13,z03,z52]
def zj7(s:ByteArray) (n i:Nat):jT s n (sk s i)=jT s n i:=by rw[zbj];exact zj6 s _ i
def zeo(s:ByteArray) (n f i:Nat) (acc:List PJ):jL s (jT s n) f (sk s i) acc=jL s (jT s n) f i acc:=by
 cases f with
 |zero=>rfl
 |succ f=>rw[jL,jL,zj7]
def zer(s:ByteArray) (T:Nat->JR) (f i:Nat) (acc:List PJ) (nm:List ByteArray):jO s T f (sk s i) acc nm=jO s T f i acc nm:=by
 cases f with
 |zero=>rfl
 |succ f=>rw[jO,jO,z52,z03]
def z0e{p:Pub} {g:GJ}:∀{l:List GJ},GJ.oks l p->g.ok p->GJ.oks (l++[g]) p
  | [],_,hg=>by
    show GJ.oks [g] p
    unfold GJ.oks
    exact⟨hg,by unfold GJ.oks;trivial⟩
  | x::l,h,hg=>by
    unfold GJ.oks at h
    show GJ.oks (x::(l++[g])) p
    unfold GJ.oks
    exact⟨h.1,z0e h.2 hg⟩
def z1y(p:Pub):GJ.oks [] p:=by unfold GJ.oks;trivial
def z08(k n:Int) (s:ByteArray):GJ:= .mk k n s (none,0,0) [] (none,0,0) []
def z0b(k n:Int) (s:ByteArray) (p:Pub):(z08 k n s).ok p:=by
 unfold z08 GJ.ok
 exact⟨z2q,z2q,z1y p⟩
def z11(k n:Int) (s:ByteArray):(z08 k n s).pj= .mk k n s [] []:=by unfold z08;rw[GJ.pj,GJ.pjs]
def z2r(h:i<=s.size):sk s i+(uqS s i).2.2<=s.size:=by
 have h1:=z0u h
 have h2:=(z51 (s.extract (sk s i) s.size)).1
 rw[ByteArray.size_extract]at h2
 unfold uqS
 omega
def z2s(h:(uqS s i).1≠0):(uqS s i).1=2:=by
 unfold uqS at h⊢
 rcases(z51 (s.extract (sk s i) s.size)).2 with h2|h2
 ·exact absurd h2.1 h
 ·rw[h2]
def z68{c:Nat} (h:isX c=true):c=46\/c=101\/c=69:=by unfold isX at h;simp at h;omega
def zaf{j:Nat} (h:isX (bat s j)=true):pk s j=bat s j:=by
 have:=z68 h
 have e:sk s j=j:=z6g (by unfold isW;simp;omega)
 unfold pk;rw[e]
variable {g:GJ}
def z0t{i j:Int} {k:Nat} (h:rdK s j) (hk:k≠0) {e:Int} (he:e=k):rsP (.err k) s i (g,e,j):=⟨h,he,hk⟩
variable {gs:List GJ}
def z4l{k n:Int} {t:ByteArray} {a:Option Addr} {c:Nat} {p:Pub} (h1:GJ.oks gs p) (h2:g.ok p) (hc:gs.length+1<=c) (hr:qj6 p a (List.take ((gs.length+1)*5) (z00 GJ.cells gs++g.cells))):(GJ.mk k n t (a,gs.length+1,c) (gs++[g]) (none,0,0) []).ok p:=by
 have e:z00 GJ.cells (gs++[g])=z00 GJ.cells gs++g.cells:=by rw[z02];exact congrArg _ (List.append_nil _)
 have cl:(z00 GJ.cells gs).length=gs.length*5:=z04 z0j gs
 rw[List.take_of_length_le (by rw[List.length_append,cl,z0j];omega)]at hr
 unfold GJ.ok
 exact⟨⟨by simp,hc,by rw[e];exact hr⟩,z2q,z0e h1 h2⟩
def z2y{k n:Int} {t u:ByteArray} {a b:Option Addr} {c e:Nat} {nm:List ByteArray} {p:Pub} (h1:GJ.oks gs p) (h2:g.ok p) (hc:gs.length+1<=c) (hr:qj6 p a (List.take ((gs.length+1)*5) (z00 GJ.cells gs++g.cells))) (he:nm.length+1<=e) (hs:qj6 p b (List.take ((nm.length+1)*1) (z00 txV nm++[.string u]))):(GJ.mk k n t (a,gs.length+1,c) (gs++[g]) (b,nm.length+1,e) (nm++[u])).ok p:=by
 have e1:z00 GJ.cells (gs++[g])=z00 GJ.cells gs++g.cells:=by rw[z02];exact congrArg _ (List.append_nil _)
 have e2:z00 txV (nm++[u])=z00 txV nm++[.string u]:=by rw[z02];rfl
 have cl:(z00 GJ.cells gs).length=gs.length*5:=z04 z0j gs
 have cm:(z00 txV nm).length=nm.length*1:=z04 z24 nm
 rw[List.take_of_length_le (by rw[List.length_append,cl,z0j];omega)]at hr
 rw[List.take_of_length_le (by rw[List.length_append,cm,List.length_singleton];omega)]at hs
 unfold GJ.ok
 exact⟨⟨by simp,hc,by rw[e1];exact hr⟩,⟨by simp,he,by rw[e2];exact hs⟩,z0e h1 h2⟩
variable {b:TrB}
def z1x{i d:Int} (h:rsP (jLt s (jTo s (lv d)) i.toNat) s i b):z0d ((s,i),d) b:=h
def z21{i d:Int} (h:rsP (jTb s (jTo s (lv d)) i.toNat) s i b):z07 ((s,i),d) b:=h
def zao{i d:Int} (h:trP (jT s (lv d) i.toNat) s i b):z10 ((s,i),d) b:=h
def z0g(s:ByteArray) (n:Nat):jTo s (n+1)=some (jT s n):=rfl
def z1r(s:ByteArray) (T:Nat->JR) (i:Nat):jLt s (some T) i=if pk s (i+1)=93 then .ok (.mk 5 0 (mkS []) [] []) (sk s (i+1)+1)else jL s T (s.size+1) (i+1) []:=rfl
def z18(s:ByteArray) (T:Nat->JR) (i:Nat):jTb s (some T) i=if pk s (i+1)=125 then .ok (.mk 6 0 (mkS []) [] []) (sk s (i+1)+1)else jO s T (s.size+1) (i+1) [] []:=rfl
def z3p(s:ByteArray) (T:Nat->JR) (f i:Nat) (acc:List PJ):jL s T (f+1) i acc=match T i with
  | .err k=> .err k
  | .ok x j=>if pk s j=93 then .ok (.mk 5 0 (mkS []) (acc++[x]) []) (sk s j+1)else if pk s j=44 then jL s T f (sk s j+1) (acc++[x])else .err 2:=rfl
def z22{R:JR} {s:ByteArray} {i:Int} {g:GJ} {e j:Int} (h:trP R s i (g,e,j)):rdK s j/\((∃k:Nat,R= .err k/\e=k/\k≠0)\/(R= .ok g.pj j.toNat/\e=0/\i<=j)\/(R= .err 2/\e=0/\i<=j/\pk s j.toNat≠93/\pk s j.toNat≠44/\pk s j.toNat≠125)):=by
  rcases h with h|⟨h1,h2,h3,h4⟩
  · cases R with
    |err k=>exact⟨h.1, .inl ⟨k,rfl,h.2.1,h.2.2⟩⟩
    | ok x j'=>
      obtain⟨a,⟨b1,b2⟩,b3,b4⟩:=h
      exact⟨a, .inr (.inl ⟨by rw[b3,b4];rfl,b1,b2⟩)⟩
  · have h4:isX (bat s j.toNat)=true:=h4
    have:=z68 h4
    have e:=zaf h4
    exact⟨h2, .inr (.inr ⟨h1,h3.1,h3.2,by omega,by omega,by omega⟩)⟩
end
def zbo (c:Nat) (ht:q2d P 13 (z2m.below z0r c)):q2d P 25 (z7r.below z0r (c+1)):=by
 refine qk9 mixed (qdv (qhn z6k qkn)) (qel (qhm ht qkm)) (W:=zfm) Go.Proofs.Tryd.func25 (by kernel_rfl) (show 1<=2 by decide) (show 2<=2 by decide) (λs=>by kernel_rfl) λ⟨⟨s,(i:Int)⟩,(d:Int)⟩=>(zf0 c s i d).mpr ?_
 rintro⟨hmu,⟨h1,h2,h3⟩,⟨d1,d2⟩,hi⟩ _
 have hmu:lv d<c+1:=hmu
 have hi:i<s.size:=hi
 simp only[sbS,Int.toNat_natCast,exists_const]
 have big: -9223372036854775808<=i+1/\i+1<=9223372036854775807:=⟨by omega,by omega⟩
 refine⟨λh20=> ?_,λh20=>⟨big,⟨⟨by omega,by omega,h3⟩,by decide,by decide⟩,λhE=> ?_,λhE=>⟨?_,?_⟩⟩⟩
 ·have e:lv d=0:=by unfold lv;omega
  refine⟨(z08 0 0 (mkS []),3,i),rfl,rfl,rfl,rfl,rfl,rfl,rfl,rfl,rfl,rfl,rfl,?_,λp _=>z0b 0 0 _ p⟩
  refine z1x ?_
  rw[e]
  exact z0t (k:=3) ⟨h1,h2,h3⟩ (by decide) rfl
 all_goals obtain⟨n,hn⟩:∃n,lv d=n+1:=⟨lv d- 1,by unfold lv;omega⟩
 all_goals obtain⟨i,rfl⟩:=Int.eq_ofNat_of_zero_le h1
 all_goals have e1:((i:Int)+1).toNat=i+1:=by omega
 all_goals simp only[e1]at hE⊢
 ·have hp:=z0n (s:=s) (i:=i+1) (by omega)
  have hq:=z0o s (i+1)
  refine⟨(z08 5 0 (mkS []),0,(tkP s (i+1) 93:Nat)),rfl,rfl,rfl,rfl,rfl,rfl,rfl,rfl,rfl,rfl,rfl,?_,λp _=>z0b 5 0 _ p⟩
  refine z1x ?_
  rw[hn,z05 hE,z0g,Int.toNat_natCast,z1r,if_pos hE]
  exact⟨⟨by omega,by omega,h3⟩,⟨rfl,by omega⟩,rfl,z11 5 0 _⟩
 ·have hq:=z0o s (i+1)
  have hl:=z0u (s:=s) (i:=i+1) (by omega)
  refine⟨([],(tkP s (i+1) 93:Nat)),rfl,rfl,λp _=>z1y p,?_⟩
  rw[z0h hE]
  refine⟨⟨by omega,by omega,h3⟩,⟨by omega,by simp⟩,n,s.size+1,hn,by omega,?_⟩
  show jL s (jT s n) (s.size+1) (sk s (i+1)) []=jLt s (jTo s (lv d)) i
  rw[hn,zeo,z0g,z1r,if_neg hE]
 ·rintro ⟨gs,j⟩ ⟨hj,⟨hij,hgl⟩,n',f,hn',hf,hR⟩ hmem
  have en:n'=n:=by omega
  rw[en]at hR
  obtain⟨j,rfl⟩:=Int.eq_ofNat_of_zero_le hj.1
  have hj2:=hj.2.1
  simp only[Int.toNat_natCast]at hf hR hgl⊢
  obtain⟨f,rfl⟩:∃f',f=f'+1:=⟨f- 1,by omega⟩
  have lv1:lv (d+1)=n:=by unfold lv at hn⊢;omega
  refine⟨⟨by omega,by omega⟩,⟨show lv (d+1)<c by omega,hj,by omega,by omega⟩,λp hp=>hp.1,?_⟩
  rintro⟨g,e,jt⟩ hb ⟨p0,hp0⟩
  have hb:trP (jT s (lv (d+1)) j) s j (g,e,jt):=hb
  rw[lv1]at hb
  rw[z3p]at hR
  obtain⟨hjt,hcs⟩:=z22 hb
  have h3':=hj.2.2
  have cl:(z00 GJ.cells gs).length=gs.length*5:=z04 z0j gs
  have err:∀(k:Nat) (q:Int),jLt s (jTo s (lv d)) i= .err k->k≠0->rdK s q->z0d ((s,(i:Int)),d) (z08 0 0 (mkS []),(k:Int),q):=λk q h1 h2 h3=>z1x (by rw[Int.toNat_natCast,h1];exact z0t h3 h2 rfl)
  refine⟨λhe=> ?_,λhe=>⟨cl,by omega,⟨hjt,by decide,by decide⟩,λa1=> ?_,λa1=> ?_⟩⟩
  ·rcases hcs with⟨k,h1,h2,h3⟩|⟨h1,h2,h3⟩|⟨h1,h2,h3⟩
   ·rw[h1]at hR
    exact⟨(z08 0 0 (mkS []),(k:Int),jt),rfl,rfl,rfl,rfl,rfl,rfl,rfl,rfl,rfl,h2.symm,rfl,err k jt hR.symm h3 hjt,λp _=>z0b 0 0 _ p⟩
   ·exact absurd h2 he
   ·exact absurd h2 he
  ·have he:e=0:=he
   have a1:pk s jt.toNat=93:=a1
   rcases hcs with⟨k,h1,h2,h3⟩|⟨h1,h2,h3⟩|⟨h1,h2,h3,h4,_⟩
   ·omega
   ·intro _ _ _ a n2 c2 hp2
    obtain⟨jt,rfl⟩:=Int.eq_ofNat_of_zero_le hjt.1
    simp only[Int.toNat_natCast]at a1 h1⊢
    rw[h1]at hR
    simp only[if_pos a1]at hR
    have hq:=z0n (s:=s) (i:=jt) (by omega)
    have hg:=z0o s jt
    refine⟨(.mk 5 0 (mkS []) (a,gs.length+1,c2) (gs++[g]) (none,0,0) [],0,(tkP s jt 93:Nat)),rfl,rfl,rfl,rfl,rfl,rfl,rfl,rfl,rfl,rfl,rfl,?_,λp hp=>z4l hp.1.1.2 hp.1.2 hp.2.1 hp.2.2⟩
    refine z1x ?_
    rw[Int.toNat_natCast,←hR,z05 a1]
    exact⟨⟨by omega,by omega,h3'⟩,⟨rfl,by omega⟩,rfl,by rw[GJ.pj,GJ.pjs_map,List.map_append];rfl⟩
   ·exact absurd a1 h4
  ·have he:e=0:=he
   have a1:¬pk s jt.toNat=93:=a1
   have hjl:=z0u (s:=s) (i:=jt.toNat) (by have:=hjt.2.1;omega)
   have hjg:=z0o s jt.toNat
   have hr2:rdK s (sk s jt.toNat:Nat):=⟨by omega,by omega,h3'⟩
   rw[z0h a1]
   simp only[Int.toNat_natCast,z13]
   refine⟨⟨hr2,by decide,by decide⟩,λa2=> ?_,λa2=> ?_⟩
   ·have a2:¬pk s jt.toNat=44:=a2
    have hE2:jLt s (jTo s (lv d)) i= .err 2:=by
     rcases hcs with⟨k,h1,h2,h3⟩|⟨h1,h2,h3⟩|⟨h1,h2,h3,h4,_⟩
     ·omega
     ·rw[h1]at hR
      simp only[if_neg a1,if_neg a2]at hR
      exact hR.symm
     ·rw[h1]at hR;exact hR.symm
    rw[z0h (by rw[z13];exact a2),z03]
    exact⟨(z08 0 0 (mkS []),2,(sk s jt.toNat:Nat)),rfl,rfl,rfl,rfl,rfl,rfl,rfl,rfl,rfl,rfl,rfl,err 2 _ hE2 (by decide) hr2,λp _=>z0b 0 0 _ p⟩
   ·have a2:pk s jt.toNat=44:=a2
    rw[z05 (by rw[z13];exact a2),z03]
    rcases hcs with⟨k,h1,h2,h3⟩|⟨h1,h2,h3⟩|⟨h1,h2,h3,h4,h5,_⟩
    ·omega
    ·rw[h1]at hR
     simp only[if_neg a1,if_pos a2]at hR
     have hq:=z0n (s:=s) (i:=jt.toNat) (by omega)
     refine⟨(gs++[g],((sk s jt.toNat+1:Nat):Int)),rfl,by simp,by rw[z02];rfl,λp hp=>hp.1.1,λp hp=>z0e hp.1.2 hp.2,⟨⟨by omega,by omega,h3'⟩,⟨by omega,by simp;omega⟩,n,f,hn,by omega,?_⟩,by omega⟩
     show jL s (jT s n) f (sk s jt.toNat+1) ((gs++[g]).map GJ.pj)=jLt s (jTo s (lv d)) i
     rw[←hR,List.map_append];rfl
    ·exact absurd a2 h5
section
def z69:∀(nm:List ByteArray) (c:Nat) (t:ByteArray),mpF c (nm++[t])=mpF c nm++[⟨.string t, .int .i64 1,c+nm.length⟩]
  | [],c,t=>rfl
  | a::l,c,t=>by
    show _::mpF (c+1) (l++[t])=_::(mpF (c+1) l++_)
    rw[z69 l (c+1) t,List.length_cons,show c+1+l.length=c+(l.length+1)by omega]
def z2n:∀(nm:List ByteArray) (c:Nat),∀e∈mpF c nm,kOK .string e.key
  | a::l,c,e,h=>by
    rcases List.mem_cons.1 h with rfl|h
    · trivial
    · exact z2n l (c+1) e h
def z1s:∀(nm:List ByteArray) (c i:Nat) (t:ByteArray),(inB t nm=true->∃k,q3m (.string t) (mpF c nm) i=some (k, .int .i64 1))/\(inB t nm=false->q3m (.string t) (mpF c nm) i=none)
  | [],c,i,t=>⟨λh=>(by cases h),λ_=>rfl⟩
  | a ::l,c,i,t=>by
    have ih:=z1s l (c+1) (i+1) t
    have e:inB t (a::l)=(decide (a=t)||inB t l):=rfl
    rw[e]
    have em:q3m (.string t) (mpF c (a::l)) i=(match decide (t=a)with|true=>some (i, .int .i64 1)|false=>q3m (.string t) (mpF (c+1) l) (i+1)):=rfl
    rw[em]
    by_cases h:a=t
    · subst h
      simp
    · have h2:¬t=a:=λe=>h e.symm
      simp only[h,h2,decide_false,Bool.false_or]
      exact ih
variable {nm:List ByteArray} {t:ByteArray}
def zbr(h:inB t nm=true):ql7 (.string t) (mpF 0 nm) (.int .i64 0)= .int .i64 1:=by
 obtain⟨k,hk⟩:=(z1s nm 0 0 t).1 h
 unfold ql7;rw[hk]
def z4r(h:inB t nm=false):ql7 (.string t) (mpF 0 nm) (.int .i64 0)= .int .i64 0:=by
 unfold ql7;rw[(z1s nm 0 0 t).2 h]
def z8c(h:inB t nm=false):qis (.string t) (.int .i64 1) (mpF 0 nm) nm.length=mpF 0 (nm++[t])/\qir (.string t) (mpF 0 nm) nm.length=nm.length+1:=by
 unfold qis qir
 rw[(z1s nm 0 0 t).2 h,z69]
 exact⟨by rw[Nat.zero_add],rfl⟩
def z3q(s:ByteArray) (T:Nat->JR) (f i:Nat) (acc:List PJ) (nm:List ByteArray):jO s T (f+1) i acc nm=if(uqS s i).1≠0 then .err 2 else if inB (uqS s i).2.1 nm=true then .err 5 else
  if pk s (sk s i+(uqS s i).2.2)≠58 then .err 2 else
  match T (sk s (sk s i+(uqS s i).2.2)+1)with
  | .err k=> .err k
  | .ok x j=>if pk s j=125 then .ok (.mk 6 0 (mkS []) (acc++[x]) (nm++[(uqS s i).2.1])) (sk s j+1)else if pk s j=44 then jO s T f (sk s j+1) (acc++[x]) (nm++[(uqS s i).2.1])else .err 2:=rfl
def z8q(c:Nat) (ht:q2d P 13 (z2m.below z0r c)):q2d P 26 (z4i.below z0r (c+1)):=by
  refine qk9 mixed (qdv (qhn z6k (qhn z4z qkn))) (qel (qhm ht qkm)) (W:=zav) Go.Proofs.Tryd.func26 (by kernel_rfl) (show 1<=2 by decide) (show 2<=2 by decide) (λs=>by kernel_rfl) λ⟨⟨s,(i:Int)⟩,(d:Int)⟩=>(zfd c s i d).mpr ?_
  rintro⟨hmu,⟨h1,h2,h3⟩,⟨d1,d2⟩,hi⟩ _
  have hmu:lv d<c+1:=hmu
  have hi:i<s.size:=hi
  simp only[sbS,Int.toNat_natCast,exists_const]
  have rk:∀{q:Nat},q<=s.size->rdK s (q:Int):=λh=>⟨by omega,by omega,h3⟩
  have big: -9223372036854775808<=i+1/\i+1<=9223372036854775807:=⟨by omega,by omega⟩
  refine⟨λh20=> ?_,λh20=>⟨big,⟨⟨by omega,by omega,h3⟩,by decide,by decide⟩,λhE=> ?_,λhE=>⟨?_,?_⟩⟩⟩
  · have e:lv d=0:=by unfold lv;omega
    refine⟨(z08 0 0 (mkS []),3,i),rfl,rfl,rfl,rfl,rfl,rfl,rfl,rfl,rfl,rfl,rfl,?_,λp _=>z0b 0 0 _ p⟩
    refine z21 ?_
    rw[e]
    exact z0t (k:=3) ⟨h1,h2,h3⟩ (by decide) rfl
  all_goals obtain⟨n,hn⟩:∃n,lv d=n+1:=⟨lv d- 1,by unfold lv;omega⟩
  all_goals obtain⟨i,rfl⟩:=Int.eq_ofNat_of_zero_le h1
  all_goals have e1:((i:Int)+1).toNat=i+1:=by omega
  all_goals simp only[e1]at hE⊢
  · have hp:=z0n (s:=s) (i:=i+1) (by omega)
    have hq:=z0o s (i+1)
    refine⟨(z08 6 0 (mkS []),0,(tkP s (i+1) 125:Nat)),rfl,rfl,rfl,rfl,rfl,rfl,rfl,rfl,rfl,rfl,rfl,?_,λp _=>z0b 6 0 _ p⟩
    refine z21 ?_
    rw[hn,z05 hE,z0g,Int.toNat_natCast,z18,if_pos hE]
    exact⟨⟨by omega,by omega,h3⟩,⟨rfl,by omega⟩,rfl,z11 6 0 _⟩
  · have hq:=z0o s (i+1)
    have hl:=z0u (s:=s) (i:=i+1) (by omega)
    refine⟨([],[],(tkP s (i+1) 125:Nat)),rfl,rfl,rfl,rfl,rfl,λp _=>z1y p,?_⟩
    rw[z0h hE]
    refine⟨rk hl,⟨show(i:Int)<(sk s (i+1):Nat)by omega,Nat.zero_le _⟩,rfl,n,s.size+1,hn,Nat.le_add_right _ _,?_⟩
    show jO s (jT s n) (s.size+1) (sk s (i+1)) [] []=jTb s (jTo s (lv d)) i
    rw[hn,zer,z0g,z18,if_neg hE]
  · rintro ⟨gs,nm,j⟩ ⟨hj,⟨hij,hgl⟩,hgn,n',f,hn',hf,hR⟩ hmem
    have en:n'=n:=by omega
    rw[en]at hR
    obtain⟨j,rfl⟩:=Int.eq_ofNat_of_zero_le hj.1
    have hj2:(j:Int)<=s.size:=hj.2.1
    have hij:(i:Int)<j:=hij
    have hgn:gs.length=nm.length:=hgn
    have h3':=hj.2.2
    simp only[Int.toNat_natCast]at hf hR hgl⊢
    obtain⟨f,rfl⟩:∃f',f=f'+1:=⟨f- 1,by omega⟩
    have lv1:lv (d+1)=n:=by unfold lv at hn⊢;omega
    rw[z3q]at hR
    have err:∀(k:Nat) (q:Int),jTb s (jTo s (lv d)) i= .err k->k≠0->rdK s q->z07 ((s,(i:Int)),d) (z08 0 0 (mkS []),(k:Int),q):=λk q h1 h2 h3=>z21 (by rw[Int.toNat_natCast,h1];exact z0t h3 h2 rfl)
    have hp1:=z2r (s:=s) (i:=j) (by omega)
    have hu2:=z2s (s:=s) (i:=j)
    have hje:j<=sk s j+(uqS s j).2.2:=by have:=z0o s j;omega
    generalize (uqS s j).2.1=t at hR⊢
    generalize (uqS s j).1=ue at hR hu2⊢
    generalize sk s j+(uqS s j).2.2=p1 at hR hp1 hje⊢
    have noth:∀(k:Nat) (q:Nat) (x:Int),jTb s (jTo s (lv d)) i= .err k->k≠0->q<=s.size->x=k->∃b:TrB,b.1.k=0/\b.1.n=0/\b.1.s=mkS []/\b.1.y.1=noA/\b.1.y.2.1=0/\b.1.y.2.2=0/\b.1.x.1=noA/\b.1.x.2.1=0/\b.1.x.2.2=0/\b.2.1=x/\b.2.2=(q:Nat)/\z07 ((s,(i:Int)),d) b/\∀p:Pub,b.1.ok p:=λk q x h1 h2 h3 hx=>⟨(z08 0 0 (mkS []),(k:Int),(q:Int)),rfl,rfl,rfl,rfl,rfl,rfl,rfl,rfl,rfl,hx.symm,rfl,err k q h1 h2 (rk h3),λp=>z0b 0 0 _ p⟩
    have fit:∀{Q:Pub->Prop} {x:Int} {q:Int},(∃b:TrB,b.1.k=0/\b.1.n=0/\b.1.s=mkS []/\b.1.y.1=noA/\b.1.y.2.1=0/\b.1.y.2.2=0/\b.1.x.1=noA/\b.1.x.2.1=0/\b.1.x.2.2=0/\b.2.1=x/\b.2.2=q/\z07 ((s,(i:Int)),d) b/\∀p:Pub,b.1.ok p)->∃b:TrB,b.1.k=0/\b.1.n=0/\b.1.s=mkS []/\b.1.y.1=noA/\b.1.y.2.1=0/\b.1.y.2.2=0/\b.1.x.1=noA/\b.1.x.2.1=0/\b.1.x.2.2=0/\b.2.1=x/\b.2.2=q/\z07 ((s,(i:Int)),d) b/\∀p:Pub,Q p->b.1.ok p:=λ⟨b,h1,h2,h3,h4,h5,h6,h7,h8,h9,h10,h11,h12,h13⟩=>⟨b,h1,h2,h3,h4,h5,h6,h7,h8,h9,h10,h11,h12,λp _=>h13 p⟩
    refine⟨hj,λhe=> ?_,λhe=>⟨trivial,z2n nm 0,?_⟩⟩
    · have hu:ue≠0:=λh=>he (by rw[h];rfl)
      rw[if_pos hu]at hR
      exact fit (noth 2 _ _ hR.symm (by decide) hp1 (by rw[hu2 hu]))
    have hu:¬ue≠0:=λh=>h (by have:(ue:Int)=0:=he;omega)
    rw[if_neg hu]at hR
    cases hB:inB t nm with
    | true=>
      rw[if_pos hB]at hR
      exact⟨1,zbr hB,λ_=>fit (noth 5 _ _ hR.symm (by decide) hp1 rfl),λh=>absurd (by decide:(0:Int)<1) h⟩
    |false=>
    rw[if_neg (by rw[hB];decide)]at hR
    refine⟨0,z4r hB,λh=>absurd h (by decide),λ_=>⟨trivial,z2n nm 0,0,z4r hB,⟨by decide,by decide⟩,trivial,z2n nm 0,⟨rk hp1,by decide,by decide⟩,λa0=> ?_,λa0=> ?_⟩⟩
    · rw[if_pos (show pk s p1≠58 from a0)]at hR
      rw[z0h a0]
      exact fit (noth 2 _ _ hR.symm (by decide) (z0u hp1) rfl)
    have a0:pk s p1=58:=a0
    rw[if_neg (λh=>h a0)]at hR
    have ht1:=z0n (s:=s) (i:=p1) (by omega)
    have ht2:=z0o s p1
    rw[z05 a0]
    refine⟨⟨by omega,by omega⟩,⟨show lv (d+1)<c by omega,rk ht1,by omega,by omega⟩,λp hp=>hp.1,?_⟩
    rintro⟨g,e,jt⟩ hb ⟨p0,hp0⟩
    have hb:trP (jT s (lv (d+1)) (((sk s p1+1:Nat):Int)).toNat) s ((sk s p1+1:Nat):Int) (g,e,jt):=hb
    rw[lv1,Int.toNat_natCast]at hb
    obtain⟨hjt,hcs⟩:=z22 hb
    have cl:(z00 GJ.cells gs).length=gs.length*5:=z04 z0j gs
    have cm:(z00 txV nm).length=nm.length*1:=z04 z24 nm
    refine⟨λhe=> ?_,λhe=>⟨cm,by omega,cl,by omega,⟨hjt,by decide,by decide⟩,λa1=> ?_,λa1=> ?_⟩⟩
    · rcases hcs with⟨k,h1,h2,h3⟩|⟨h1,h2,h3⟩|⟨h1,h2,h3⟩
      · rw[h1]at hR
        obtain⟨jt,rfl⟩:=Int.eq_ofNat_of_zero_le hjt.1
        exact fit (noth k jt _ hR.symm h3 (by have:=hjt.2.1;omega) h2)
      · exact absurd h2 he
      · exact absurd h2 he
    · have he:e=0:=he
      have a1:pk s jt.toNat=125:=a1
      rcases hcs with⟨k,h1,h2,h3⟩|⟨h1,h2,h3⟩|⟨h1,h2,h3,_,_,h4⟩
      · omega
      · intro _ _ _ a n2 c2 _ _ _ _ a3 n3 c3 hp3
        obtain⟨jt,rfl⟩:=Int.eq_ofNat_of_zero_le hjt.1
        simp only[Int.toNat_natCast]at a1 h1⊢
        rw[h1]at hR
        simp only[if_pos a1]at hR
        have hq:=z0n (s:=s) (i:=jt) (by omega)
        have hg:=z0o s jt
        refine⟨(.mk 6 0 (mkS []) (a,gs.length+1,c2) (gs++[g]) (a3,nm.length+1,c3) (nm++[t]),0,(tkP s jt 125:Nat)),rfl,rfl,rfl,rfl,rfl,rfl,rfl,rfl,rfl,rfl,rfl,?_,λp hp=>z2y hp.1.1.1.2 hp.1.1.2 hp.1.2.1 hp.1.2.2 hp.2.1 hp.2.2⟩
        refine z21 ?_
        rw[Int.toNat_natCast,←hR,z05 a1]
        exact⟨rk hq,⟨rfl,by omega⟩,rfl,by rw[GJ.pj,GJ.pjs_map,List.map_append];rfl⟩
      · exact absurd a1 h4
    · have he:e=0:=he
      have a1:¬pk s jt.toNat=125:=a1
      have hjl:=z0u (s:=s) (i:=jt.toNat) (by have:=hjt.2.1;omega)
      have hjg:=z0o s jt.toNat
      rw[z0h a1]
      simp only[Int.toNat_natCast,z13]
      refine⟨⟨rk hjl,by decide,by decide⟩,λa2=> ?_,λa2=> ?_⟩
      · have a2:¬pk s jt.toNat=44:=a2
        have hE2:jTb s (jTo s (lv d)) i= .err 2:=by
          rcases hcs with⟨k,h1,h2,h3⟩|⟨h1,h2,h3⟩|⟨h1,h2,h3,h4,_⟩
          · omega
          · rw[h1]at hR
            simp only[if_neg a1,if_neg a2]at hR
            exact hR.symm
          · rw[h1]at hR;exact hR.symm
        rw[z0h (by rw[z13];exact a2),z03]
        exact fit (noth 2 _ _ hE2 (by decide) hjl rfl)
      · have a2:pk s jt.toNat=44:=a2
        rw[z05 (by rw[z13];exact a2),z03]
        rcases hcs with⟨k,h1,h2,h3⟩|⟨h1,h2,h3⟩|⟨h1,h2,h3,h4,h5,_⟩
        · omega
        · rw[h1]at hR
          simp only[if_neg a1,if_pos a2]at hR
          have hq:=z0n (s:=s) (i:=jt.toNat) (by omega)
          have mo:=z8c hB
          refine⟨(gs++[g],nm++[t],((sk s jt.toNat+1:Nat):Int)),rfl,by simp,by simp,mo.1.symm,by rw[mo.2];simp,by rw[z02];rfl,by rw[z02];rfl,λp hp=>hp.1.1,λp hp=>z0e hp.1.2 hp.2,⟨rk hq,⟨show(i:Int)<((sk s jt.toNat+1:Nat):Int)by omega,?_⟩,by simp[hgn],n,f,hn,show s.size+1<=f+(sk s jt.toNat+1)by omega,?_⟩,show s.size- (sk s jt.toNat+1)<s.size- j by omega⟩
          · show(gs++[g]).length<=sk s jt.toNat+1
            simp;omega
          · show jO s (jT s n) f (sk s jt.toNat+1) ((gs++[g]).map GJ.pj) (nm++[t])=jTb s (jTo s (lv d)) i
            rw[←hR,List.map_append];rfl
        · exact absurd a2 h5
end
def z89{Q:Pub->Prop} {s:ByteArray} {i d:Int} {k n:Int} {t:ByteArray} {e q:Int} (h:trP (jT s (lv d) i.toNat) s i (z08 k n t,e,q)):∃b:TrB,b.1.k=k/\b.1.n=n/\b.1.s=t/\b.1.y.1=noA/\b.1.y.2.1=0/\b.1.y.2.2=0/\b.1.x.1=noA/\b.1.x.2.1=0/\b.1.x.2.2=0/\b.2.1=e/\b.2.2=q/\z10 ((s,i),d) b/\∀p:Pub,Q p->b.1.ok p:=
 ⟨(z08 k n t,e,q),rfl,rfl,rfl,rfl,rfl,rfl,rfl,rfl,rfl,rfl,rfl,zao h,λp _=>z0b k n t p⟩
def zch(c:Nat) (hl:q2d P 25 (z7r.below z0r (c+1))) (hb:q2d P 26 (z4i.below z0r (c+1))):q2d P 13 (z2m.below z0r (c+1)):=by
  refine qk9 mixed (qdv (qhn z2o (qhn z4z (qhn zby (qhn (zcn zj4) qkn))))) (qel (qhm hl (qhm hb qkm))) (W:=zfp) Go.Proofs.Tryd.func13 (by kernel_rfl) (show 1<=2 by decide) (show 2<=2 by decide) (λs=>by kernel_rfl) λ⟨⟨s,(i:Int)⟩,(d:Int)⟩=>(zff c s i d).mpr ?_
  rintro⟨hmu,⟨h1,h2,h3⟩,⟨d1,d2⟩,_⟩ _
  have hmu:lv d<c+1:=hmu
  simp only[sbS,Int.toNat_natCast,exists_const]
  obtain⟨i,rfl⟩:=Int.eq_ofNat_of_zero_le h1
  have rk:∀{q:Nat},q<=s.size->rdK s (q:Int):=λh=>⟨by omega,by omega,h3⟩
  have hl:=z0u (s:=s) (i:=i) (by omega)
  have hg:=z0o s i
  simp only[Int.toNat_natCast,z52,z03,z13]
  have J:=zbj s (lv d)
  have J:=congrFun J i
  unfold jN at J
  have ex:∀p:Pub,erP p->erP p:=λp h=>h
  have fin:∀{k n:Int} {t:ByteArray} {e:Int} {q:Nat} {Q:Pub->Prop},trP (jT s (lv d) i) s i (z08 k n t,e,(q:Int))->∃b:TrB,b.1.k=k/\b.1.n=n/\b.1.s=t/\b.1.y.1=noA/\b.1.y.2.1=0/\b.1.y.2.2=0/\b.1.x.1=noA/\b.1.x.2.1=0/\b.1.x.2.2=0/\b.2.1=e/\b.2.2=(q:Int)/\z10 ((s,(i:Int)),d) b/\∀p:Pub,Q p->b.1.ok p:=λh=>z89 (i:=i) (by rw[Int.toNat_natCast];exact h)
  have okL:∀{k n:Int} {t:ByteArray} {q:Nat},jT s (lv d) i= .ok (.mk k n t [] []) q->i<=q->q<=s.size->trP (jT s (lv d) i) s i (z08 k n t,0,(q:Int)):=λh h1 h2=> .inl (by rw[h];exact⟨rk h2,⟨rfl,by omega⟩,rfl,z11 _ _ _⟩)
  have erL:∀{k n:Int} {t:ByteArray} {q:Nat} {e:Int},jT s (lv d) i= .err 2->q<=s.size->e=2->trP (jT s (lv d) i) s i (z08 k n t,e,(q:Int)):=λh h1 h2=> .inl (by rw[h];exact z0t (rk h1) (by decide) h2)
  have up:∀(R:JR) (b:TrB),jT s (lv d) i=R->rsP R s (sk s i:Nat) b->z10 ((s,(i:Int)),d) b:=λR ⟨g,e,q⟩ h hr=>zao (.inl (by
    rw[Int.toNat_natCast,h]
    refine⟨hr.1,?_⟩
    have h2:=hr.2
    cases R with
    |err k=>exact h2
    |ok x j'=>exact⟨⟨h2.1.1,by have:=h2.1.2;omega⟩,h2.2⟩))
  refine⟨rk (by omega),λc1=> ?_,λc1=>⟨λc2=> ?_,λc2=>⟨λc3=> ?_,λc3=> ?_⟩⟩⟩
  · have hq:=z0n (s:=s) (i:=i) (by omega)
    rw[if_pos (by omega)]at J
    refine⟨⟨hmu,rk hl,⟨d1,d2⟩,show((sk s i:Nat):Int)<s.size by omega⟩,?_⟩
    rintro b hb hp
    have hb:rsP (jLt s (jTo s (lv d)) (((sk s i:Nat):Int)).toNat) s (sk s i:Nat) b:=hb
    rw[Int.toNat_natCast]at hb
    exact⟨b,rfl,rfl,rfl,rfl,rfl,rfl,rfl,rfl,rfl,rfl,rfl,up _ b J hb,λp hp=>hp.2⟩
  · have hq:=z0n (s:=s) (i:=i) (by omega)
    rw[if_neg (by omega),if_pos (by omega)]at J
    refine⟨⟨hmu,rk hl,⟨d1,d2⟩,show((sk s i:Nat):Int)<s.size by omega⟩,?_⟩
    rintro b hb hp
    have hb:rsP (jTb s (jTo s (lv d)) (((sk s i:Nat):Int)).toNat) s (sk s i:Nat) b:=hb
    rw[Int.toNat_natCast]at hb
    exact⟨b,rfl,rfl,rfl,rfl,rfl,rfl,rfl,rfl,rfl,rfl,rfl,up _ b J hb,λp hp=>hp.2⟩
  · rw[if_neg (by omega),if_neg (by omega),if_pos (by omega)]at J
    have hp1:=z2r (s:=s) (i:=i) (by omega)
    refine⟨rk hl,fin ?_⟩
    by_cases hu:(uqS s i).1=0
    · rw[if_pos hu]at J
      rw[hu]
      exact okL J (by omega) hp1
    · rw[if_neg hu]at J
      rw[z2s hu]
      exact erL J hp1 rfl
  rw[if_neg (by omega),if_neg (by omega),if_neg (by omega)]at J
  have num:bat s (sk s i)=45\/z0f (bat s (sk s i))=true->sk s i<s.size->trP (jT s (lv d) i) s i (z08 3 ((nmR s (sk s i)).getD 0) (mkS []),((erO (nmR s (sk s i)):Nat):Int),((dg s (nmM s (sk s i)):Nat):Int)):=λhc hq=>by
    have N:=zf3 hq hc
    rw[if_pos (show pk s i=45\/z0f (pk s i)=true from hc)]at J
    have hm:=z2i hq
    have hd:=z58 s (nmM s (sk s i))
    have hd2:=z5z hm.2.1
    cases hO:z12 s (sk s i)with
    | true=>
      obtain⟨n1,n2,n3⟩:=N.1 hO
      rw[if_pos hO,n2]at J
      rw[n1]
      exact okL J (by omega) hd2
    | false=>
      rw[if_neg (by rw[hO];decide)]at J
      cases hr:nmR s (sk s i)with
      |none=>exact erL J hd2 rfl
      | some v=>
        rcases N.2 hO with n1|n1
        · rw[hr]at n1;cases n1
        · exact .inr ⟨J,rk hd2,⟨rfl,by show(i:Int)<=((dg s (nmM s (sk s i)):Nat):Int);omega⟩,by rw[Int.toNat_natCast];exact n1⟩
  have z1:(mkS [110,117,108,108]).size=4:=rfl
  have z2:(mkS [116,114,117,101]).size=4:=rfl
  have z3:(mkS [102,97,108,115,101]).size=5:=rfl
  have lt:pk s i≠0->((sk s i:Nat):Int)<s.size:=λh=>by have:=z0n h;omega
  refine⟨λe=>⟨⟨rk hl,lt (by omega)⟩,fin (num (.inl (show pk s i=45 by omega)) (by have:=lt (by omega);omega))⟩,λe45=>⟨λe48=>⟨λe57=>⟨⟨rk hl,lt (by omega)⟩,fin (num (.inr (show z0f (pk s i)=true by unfold z0f;simp;omega)) (by have:=lt (by omega);omega))⟩,λe57=> ?_⟩,λe48=> ?_⟩⟩
  all_goals
    have no:¬(pk s i=45\/z0f (pk s i)=true):=λh=>by
      rcases h with h|h
      · omega
      · have:=z0l h;omega
    rw[if_neg no]at J
    refine⟨rk hl,λw1=> ?_,λw1=> ?_⟩
    · rw[if_pos (show wdF s (sk s i) z3u=true from w1)]at J
      have:=z36 w1
      rw[z1d w1,z1]
      exact fin (okL J (by omega) (by omega))
    rw[if_neg (show¬wdF s (sk s i) z3u=true by rw[show wdF s (sk s i) z3u=false from w1];decide)]at J
    rw[z2j w1]
    refine⟨rk hl,λw2=> ?_,λw2=> ?_⟩
    · rw[if_pos (show wdF s (sk s i) z3v=true from w2)]at J
      have:=z36 w2
      rw[z1d w2,z2]
      exact fin (okL J (by omega) (by omega))
    rw[if_neg (show¬wdF s (sk s i) z3v=true by rw[show wdF s (sk s i) z3v=false from w2];decide)]at J
    rw[z2j w2]
    refine⟨rk hl,λw3=> ?_,λw3=> ?_⟩
    · rw[if_pos (show wdF s (sk s i) z25=true from w3)]at J
      have:=z36 w3
      rw[z1d w3,z3]
      exact fin (okL J (by omega) (by omega))
    rw[if_neg (show¬wdF s (sk s i) z25=true by rw[show wdF s (sk s i) z25=false from w3];decide)]at J
    rw[z2j w3]
    exact fin (erL J hl rfl)
def z23:∀c:Nat,q2d P 13 (z2m.below z0r c)
 |0=>CtR.below_zero (by decide) (by decide) (Sen.enters_of Go.Proofs.Tryd.func13 (by kernel_rfl)) λs=>rfl
 |c+1=>zch c (zbo c (z23 c)) (z8q c (z23 c))
def z8t:q2d P 13 z2m:=CtR.of_below z23
def jP(s:ByteArray):JR:=match jT s 20 0 with
 | .err k=> .err k
 | .ok x j=>if sk s j<s.size then .err 2 else .ok x (sk s j)
def zja:PJ:= .mk 0 0 (mkS []) [] []
def paP(s:ByteArray):GJ×Int->Prop:=λ⟨g,e⟩=>match jP s with
 | .ok x _=>e=0/\g.pj=x
 | .err k=>e=k/\k≠0/\g.pj=zja
def z2g:CtR where
 σ:=ByteArray
 args:=λs=>[.sv (.string s)]
 h:=λ_=>[]
 m:=1
 pre:=λs=>s.size<=10000
 mem:=λ_=>erM
 find:=some λl _=>match l with
  | .sv (.string s)::_=>some s
  |_=>none
 β:=λ_=>GJ×Int
 post:=λs b=>paP s b
 pm:=λ_ ⟨g,e⟩=>gjM g
 r:=λ_ ⟨g,e⟩=> .tup [g.av, .sv (.int .i64 e)]
 h':=λ_ _=>[]
 m':=1
def zqx:Nat->Option Ct:=qg8 [(14,z3n)]
def gtF:List GJ->List ByteArray->ByteArray->GJ
 |g::gs,t::nm,k=>if t=k then g else gtF gs nm k
 |_,_,_=> .mk 0 0 (mkS []) (none,0,0) [] (none,0,0) []
def gtO(gs:List GJ) (nm:List ByteArray):List (Nat×AO):=[(1, .row 26 0 (z00 GJ.cells gs)),(3, .row 9 0 (z00 txV nm))]
def zif:Ct where
 σ:=List GJ×List ByteArray×ByteArray
 args:=λ⟨gs,nm,k⟩=>[.agg [.sv (.int .i64 6), .sv (.int .i64 0), .sv (.string (mkS [])), .ssl 1 0 gs.length 5 2, .ssl 3 0 nm.length 1 4], .sv (.string k)]
 h:=λ⟨gs,nm,k⟩=>gtO gs nm
 m:=5
 pre:=λ⟨gs,nm,k⟩=>gs.length=nm.length/\gs.length<=20000
 r:=λ⟨gs,nm,k⟩=> .tup [(gtF gs nm k).av, .sv (.bool (inB k nm))]
 h':=λ⟨gs,nm,k⟩=>gtO gs nm
 m':=5
 g:=λ_=>none
def zkm:zif.σ->WayF:=λ⟨gs,nm,k⟩=>{ann:=λ_ _ _=>some {σ:=Nat,pre:=λi=>i<=nm.length/\gtF (gs.drop i) (nm.drop i) k=gtF gs nm k/\inB k (nm.drop i)=inB k nm,t:=λi=>[(6, .sv (.int .i64 (i:Nat)))],h:=λ_=>[],more:=0,μ:=λi=>nm.length- i,keep:=[1,2,4]}}
abbrev TqS:=RqS×Int
def tqP(s:ByteArray) (i e d:Int):TrB->Prop:=λ⟨g,e',j⟩=>if e=0 then rsP (jT s (lv d) i.toNat) s i (g,e',j)else e'=e/\rdK s j
def z15:CtR where
 σ:=TqS
 args:=λ⟨⟨s,i,e⟩,d⟩=>[.ptr 1 0, .sv (.int .i64 d)]
 h:=λ⟨⟨s,i,e⟩,d⟩=>rqO s i e
 m:=2
 pre:=λ⟨⟨s,i,e⟩,d⟩=>rdK s i/\(1<=d/\d<=21)
 find:=some λl h=>both (z8n l h) (arI l)
 β:=λ_=>TrB
 post:=λ⟨⟨s,i,e⟩,d⟩ b=>tqP s i e d b
 pm:=λ_ ⟨g,e,j⟩=>gjM g
 r:=λ_ ⟨g,e,j⟩=>g.av
 h':=λ⟨⟨s,i,e⟩,d⟩ ⟨g,e',j⟩=>rqO s j e'
 m':=2
def z7p:TqS->Nat:=λ⟨_,d⟩=>lv d
def zkh(c:Nat) (post:TrS->TrB->Prop):CtR where
 σ:=TrS
 args:=λ⟨⟨s,i⟩,d⟩=>[.ptr 1 0, .sv (.int .i64 d)]
 h:=λ⟨⟨s,i⟩,d⟩=>rqO s i 0
 m:=2
 pre:=λ⟨⟨s,i⟩,d⟩=>rdK s i/\(1<=d/\d<=20)/\bat s i.toNat=c
 find:=some λl h=>both (match z8n l h with
  |some (s,i,_)=>some (s,i)
  |none=>none) (arI l)
 β:=λ_=>TrB
 post:=post
 pm:=λ_ ⟨g,e,j⟩=>gjM g
 r:=λ_ ⟨g,e,j⟩=>g.av
 h':=λ⟨⟨s,i⟩,d⟩ ⟨g,e,j⟩=>rqO s j e
 m':=2
def z4g:CtR:=zkh 91 z0d
def z2l:CtR:=zkh 123 z07
def lqI(s:ByteArray) (i d:Int) (gs:List GJ) (j e:Int):Prop:=rdK s j/\(e=0/\lsI s i d gs j\/∃k:Nat,k≠0/\e=k/\jLt s (jTo s (lv d)) i.toNat= .err k)
def oqI(s:ByteArray) (i d:Int) (gs:List GJ) (nm:List ByteArray) (j e:Int):Prop:=rdK s j/\gs.length=nm.length/\(e=0/\tbI s i d gs nm j\/∃k:Nat,k≠0/\e=k/\jTb s (jTo s (lv d)) i.toNat= .err k)
def muE(s:ByteArray) (j e:Int):Nat:=if e=0 then s.size+1- j.toNat else 0
def zar:TrS->WayF:=λ⟨⟨s,i⟩,d⟩=>{
 pubE:=[28,31]
 spl:=λk=>match k with
  |6=>some 5
  |_=>none
 flo:=λk=>match k with
  |6=>some (5,[0,1])
  |_=>none
 ann:=λ_ tt hh=>match zf6 tt 5 with
  |some vb=>some {σ:=List GJ×Int×Int,pre:=λ⟨gs,j,e⟩=>lqI s i d gs j e,mem:=λ⟨gs,j,e⟩=>zih gs,t:=λ_=>[],h:=λ⟨gs,j,e⟩=>rqO s j e++[(vb,zkj hh vb gs.length),(40, .row 26 0 (z00 GJ.cells gs))],more:=60,μ:=λ⟨gs,j,e⟩=>muE s j e,keep:=[0,1,4,5]}
  |none=>none}
def slB(t:T AV) (k:Nat):Option Bool:=match t.get k with
  | some a=>(match gv a with
    |some (.bool b)=>some b
    |_=>none)
  |none=>none
def z5s(b:Bool) (e:Int):Int:=if e=0 then(if b=true then 5 else 0)else e
def z6y:TrS->WayF:=λ⟨⟨s,i⟩,d⟩=>{
  cut :=λk tt hh=>match k with
    | 10=>(match z8n [.ptr 1 0] hh,slB tt 8 with
      |some (_,ci,ce),some b=>some {σ:=Int×Int,pre:=λ⟨p,e⟩=>p=ci/\e=z5s b ce,t:=λ_=>[],h:=λ⟨p,e⟩=>rqO s p e,more:=0,μ:=λ_=>0,keep:=[0,1,4,5,6]}
      |_,_=>none)
    |_=>none
  pubE:=[57,60]
  spl:=λk=>match k with
    |12=>some 5
    |_=>none
  flo:=λk=>match k with
    |12=>some (5,[0,1])
    |_=>none
  ann:=λ_ tt hh=>match zf6 tt 5 with
    |some vb=>some {σ:=List GJ×List ByteArray×Int×Int,pre:=λ⟨gs,nm,j,e⟩=>oqI s i d gs nm j e,mem:=λ⟨gs,nm,j,e⟩=>zih gs,t:=λ_=>[],h:=λ⟨gs,nm,j,e⟩=>rqO s j e++[(vb,zkk hh vb gs.length nm.length),(40, .row 26 0 (z00 GJ.cells gs)),(42, .row 9 0 (z00 txV nm))],more:=60,μ:=λ⟨gs,nm,j,e⟩=>muE s j e,keep:=[0,1,4,5]}
    |none=>none}
def tLq:Nat->Option Ct:=qg8 [(50,z7s),(34,ze4)]
def tOq:Nat->Option Ct:=qg8 [(50,z7s),(34,ze4),(30,z4j),(17,z1g),(51,zif)]
def tTq:Nat->Option Ct:=qg8 [(16,z1v),(34,ze4),(30,z4j),(17,z1g),(33,z7t)]
def tPq:Nat->Option Ct:=qg8 [(16,z1v),(17,z1g)]
mutual
def PJ.sm:PJ->Prop
 | .mk k n s l nm=>l.length<1000000/\nm.length<1000000/\PJ.sms l
def PJ.sms:List PJ->Prop
 | []=>True
 |x::l=>PJ.sm x/\PJ.sms l
end
def z1h:Ct where
 σ:=GJ×GJ
 args:=λ⟨g,h⟩=>[g.av,h.av]
 h:=λ_=>[]
 m:=1
 pre:=λ⟨g,h⟩=>g.pj=h.pj/\g.pj.sm
 mem:=λ⟨g,h⟩=>⟨true,λp=>g.ok p/\h.ok p,λ_ _ q e=>⟨GJ.ok_mono q e.1,GJ.ok_mono q e.2⟩⟩
 r:=λ_=> .sv (.bool true)
 h':=λ_=>[]
 m':=1
 g:=λ_=>none
def zbt:GJ×GJ->Nat:=λ⟨g,h⟩=>SizeOf.sizeOf g
def zat:z1h.σ->WayF:=λ⟨g,h⟩=>{
 cut:=λk _ _=>match k with
  |13=>some {σ:=Unit,find:=some λ_ _=>some (),t:=λ_=>[],h:=λ_=>[],more:=0,μ:=λ_=>0,keep:=[2,3,4]}
  |_=>none
 ann:=λid _ _=>match id with
  |1=>some {σ:=Nat,pre:=λi=>i<=g.l.length,t:=λi=>[(5, .sv (.int .i64 (i:Nat)))],h:=λ_=>[],more:=0,μ:=λi=>g.l.length- i,keep:=[2,3,4]}
  |_=>some {σ:=Nat,pre:=λi=>i<=g.nm.length,t:=λi=>[(6, .sv (.int .i64 (i:Nat)))],h:=λ_=>[],more:=0,μ:=λi=>g.nm.length- i,keep:=[2,3,4]}}
def z3k:Ct:=ctS Unit (λ_=>[]) (λ_=>some ()) (λ_=>True) (λ_=>erM) λ_=> .sv (.bool true)
def zej:Ct where
 σ:=ByteArray
 args:=λs=>[.sv (.string s)]
 h:=λ_=>[]
 m:=1
 mem:=λ_=>erM
 r:=λ_=> .sv (.bool true)
 h':=λ_=>[]
 m':=1
 g:=λ_=>none
section
variable (x0:ByteArray) (x1:TrB) (x2:GJ×Int) (x3:Prop)
 abbrev ziu:=GJ.k x2.1=0/\GJ.n x2.1=0/\GJ.s x2.1=mkS []/\(GJ.y x2.1).1=noA/\(GJ.y x2.1).2.1=0/\(GJ.y x2.1).2.2=0/\(GJ.x x2.1).1=noA/\(GJ.x x2.1).2.1=0/\(GJ.x x2.1).2.2=0/\x3
 def ziv:=paP x0 x2/\(∀i0,(True/\erP i0)/\GJ.ok x1.1 i0->GJ.ok x2.1 i0)/\True
 def zpf:=x0=x0/\x1.2.2=x1.2.2/\rdK x0 x1.2.2/\Ji ((↑(sk x0 (toNat x1.2.2)):Int)<(↑(size x0):Int)) (∃(i0:GJ×Int),ziu i0 (i0.2=2/\ziv x0 x1 i0)) (∃(i2:GJ×Int),GJ.k i2.1=GJ.k x1.1/\GJ.n i2.1=GJ.n x1.1/\GJ.s i2.1=GJ.s x1.1/\(GJ.y i2.1).1=(GJ.y x1.1).1/\(GJ.y i2.1).2.1=(GJ.y x1.1).2.1/\(GJ.y i2.1).2.2=(GJ.y x1.1).2.2/\(GJ.x i2.1).1=(GJ.x x1.1).1/\(GJ.x i2.1).2.1=(GJ.x x1.1).2.1/\(GJ.x i2.1).2.2=(GJ.x x1.1).2.2/\i2.2=0/\ziv x0 x1 i2)
 def zpe:=((!decide (x1.2.1=0))=true->∃(i0:GJ×Int),ziu i0 (i0.2=x1.2.1/\ziv x0 x1 i0))/\((!decide (x1.2.1=0))=false->zpf x0 x1)
 def zpd:=(1:Int)=1/\x0=x0/\(0:Int)=0/\(rdK x0 0/\((1:Int)<=1/\(1:Int)<=21)/\True)/\(∀i0,True/\erP i0->erP i0)/\∀(i1:TrB),z10 ((x0,(0:Int)),(1:Int)) i1->(∃i2,(True/\erP i2)/\GJ.ok i1.1 i2)->zpe x0 i1
 def zpc:=Ji (10000<(↑(size x0):Int)) (∃(i0:GJ×Int),ziu i0 (i0.2=3/\paP x0 i0/\(∀i1,True/\erP i1->GJ.ok i0.1 i1)/\True)) (zpd x0)
end
def z8g(s:ByteArray):qkz P (zqx) (qhc [(13,z2m)]) Go.Proofs.Tryd.f6 z2g (λ_=>{}) s=(size s<=10000->(∃(p:Pub),True/\erP p)->zpc s):=by kernel_rfl
def zc0:=λs=>Eq.trans (z8g s) (by delta Ji Jt Jf ziu ziv zpf zpe zpd zpc;exact rfl)
section
variable (x0:ByteArray) (x1:List GJ) (x2:List ByteArray) (x3:Nat) (x4:Prop)
 abbrev zix:=z00 GJ.cells x1=z00 GJ.cells x1/\z00 txV x2=z00 txV x2/\x4
 def zdq:=x3<=length x2/\gtF (drop x3 x1) (drop x3 x2) x0=gtF x1 x2 x0/\inB x0 (drop x3 x2)=inB x0 x2
 def zka:=zix x1 x2 ((6:Int)=6/\(0:Int)=0/\mkS []=mkS []/\length x1=length x1/\length x2=length x2/\(zdq x0 x1 x2 x3)/\x4)
 def zpl:=(0<=(↑x3:Int)/\(↑x3:Int)<(↑(length x1):Int))/\∃(i0:Int),∃(i1:Int),∃i2,∃i3,∃(i4:Nat),∃(i5:Nat),∃i6,∃(i7:Nat),∃(i8:Nat),(∀(i9:Nat) (i10:Value),[int i64 i0,int i64 i1,string i2,slice i3 i4 i5,slice i6 i7 i8][i9]? =some i10->(z00 GJ.cells x1)[nat_lit 0+toNat (↑x3:Int)*nat_lit 5+i9]? =some i10)/\GJ.k (gtF x1 x2 x0)=i0/\GJ.n (gtF x1 x2 x0)=i1/\GJ.s (gtF x1 x2 x0)=i2/\(GJ.y (gtF x1 x2 x0)).1=i3/\(GJ.y (gtF x1 x2 x0)).2.1=i4/\(GJ.y (gtF x1 x2 x0)).2.2=i5/\(GJ.x (gtF x1 x2 x0)).1=i6/\(GJ.x (gtF x1 x2 x0)).2.1=i7/\(GJ.x (gtF x1 x2 x0)).2.2=i8/\inB x0 x2=true/\zix x1 x2 True
 def zpm:=Jb ((↑x3:Int)+1)/\∃(i0:Nat),x0=x0/\(↑i0:Int)=(↑x3:Int)+1/\zka x0 x1 x2 i0 (length x2- i0<length x2- x3/\True)
 def zpk:=(0<=(↑x3:Int)/\(↑x3:Int)<(↑(length x2):Int))/\∃i0,(∀(i1:Nat) (i2:Value),[string i0][i1]? =some i2->(z00 txV x2)[nat_lit 0+toNat (↑x3:Int)*nat_lit 1+i1]? =some i2)/\Ji (i0=x0) (zpl x0 x1 x2 x3) (zpm x0 x1 x2 x3)
 def ziw:=GJ.k (gtF x1 x2 x0)=0/\GJ.n (gtF x1 x2 x0)=0/\GJ.s (gtF x1 x2 x0)=mkS []/\(GJ.y (gtF x1 x2 x0)).1=noA/\(GJ.y (gtF x1 x2 x0)).2.1=0/\(GJ.y (gtF x1 x2 x0)).2.2=0/\(GJ.x (gtF x1 x2 x0)).1=noA/\(GJ.x (gtF x1 x2 x0)).2.1=0/\(GJ.x (gtF x1 x2 x0)).2.2=0/\inB x0 x2=false/\zix x1 x2 True
 def zpj:=Ji ((↑x3:Int)<(↑(length x1):Int)) (zpk x0 x1 x2 x3) (ziw x0 x1 x2)
 def zpi:=Ji ((↑x3:Int)<(↑(length x2):Int)) (zpj x0 x1 x2 x3) (ziw x0 x1 x2)
 def zph:=Ji ((6:Int)=6) (zpi x0 x1 x2 x3) (ziw x0 x1 x2)
 def zpg:=(∃(i0:Nat),x0=x0/\(↑i0:Int)=0/\zka x0 x1 x2 i0 True)/\∀(i1:Nat),zdq x0 x1 x2 i1->zph x0 x1 x2 i1
end
def z84(gs:List GJ) (nm:List ByteArray) (k:ByteArray):qky P (λ_=>none) Go.Proofs.Tryd.f51 zif (zkm) ⟨gs,nm,k⟩=(length gs=length nm/\length gs<=20000->zpg k gs nm):=by kernel_rfl
def zbe:=λgs nm k=>Eq.trans (z84 gs nm k) (by delta Ji Jb Jt Jf zix zdq zka zpl zpm zpk ziw zpj zpi zph zpg;exact rfl)
section
variable (x0:List GJ×Int×Int) (x1:ByteArray) (x2:TrB) (x3 x4:Int) (x5:Nat) (x6:Nat->Option Obj) (x7:Option Addr) (x8:Prop)
 abbrev zdt:=(↑(isP x1 x3 0 (mkS [91])):Int)
 def za1:=GJ.k x2.1=5/\GJ.n x2.1=0/\GJ.s x2.1=mkS []/\x8
 def ziz:=(GJ.x x2.1).1=noA/\(GJ.x x2.1).2.1=0/\(GJ.x x2.1).2.2=0/\x1=x1/\x8
 abbrev zds:=(↑(isP x1 (zdt x1 x3) (neE x1 x3 0 (mkS [91])) (mkS [93])):Int)
 def zkb:=((True/\GJ.oks x0.1 x6)/\GJ.ok x2.1 x6)/\length x0.1+nat_lit 1<=x5/\qj6 x6 x7 (take ((length x0.1+nat_lit 1)*nat_lit 5) (z00 GJ.cells x0.1++[int i64 (GJ.k x2.1),int i64 (GJ.n x2.1),string (GJ.s x2.1),slice (GJ.y x2.1).1 (GJ.y x2.1).2.1 (GJ.y x2.1).2.2,slice (GJ.x x2.1).1 (GJ.x x2.1).2.1 (GJ.x x2.1).2.2]))
 abbrev z49:=(↑(isP x1 x2.2.2 x2.2.1 (mkS [93])):Int)
 def zps:=mkS [44]=mkS [44]/\x1=x1/\(z49 x1 x2)=(z49 x1 x2)/\x2.2.1=x2.2.1/\(rdK x1 (z49 x1 x2)/\size (mkS [44])<=10)/\∃(i0:List GJ×Int×Int),x3=x3/\x1=x1/\i0.2.1=(↑(isP x1 (z49 x1 x2) x2.2.1 (mkS [44])):Int)/\i0.2.2=neE x1 (z49 x1 x2) x2.2.1 (mkS [44])/\length i0.1=length x0.1+nat_lit 1/\z00 GJ.cells i0.1=z00 GJ.cells x0.1++[int i64 (GJ.k x2.1),int i64 (GJ.n x2.1),string (GJ.s x2.1),slice (GJ.y x2.1).1 (GJ.y x2.1).2.1 (GJ.y x2.1).2.2,slice (GJ.x x2.1).1 (GJ.x x2.1).2.1 (GJ.x x2.1).2.2]/\(∀i1,(True/\GJ.oks x0.1 i1)/\GJ.ok x2.1 i1->GJ.oks i0.1 i1)/\lqI x1 x4 x3 i0.1 i0.2.1 i0.2.2/\muE x1 i0.2.1 i0.2.2<muE x1 x0.2.1 x0.2.2/\True
 def zpn:=length (z00 GJ.cells x0.1)=length x0.1*5/\(length x0.1+nat_lit 1)*80<=140737488355328/\mkS [93]=mkS [93]/\x1=x1/\x2.2.2=x2.2.2/\x2.2.1=x2.2.1/\(rdK x1 x2.2.2/\size (mkS [93])<=10)/\(isF x1 x2.2.2 x2.2.1 (mkS [93])=true->∀(i0 i1 i2:Nat) (i3:Option Addr) (i4 i5:Nat),(∃i6,zkb x0 x2 i5 i6 i3)->∃(i7:TrB),za1 i7 ((GJ.y i7.1).1=i3/\(GJ.y i7.1).2.1=length x0.1+nat_lit 1/\(GJ.y i7.1).2.2=i5/\ziz x1 i7 (i7.2.2=(z49 x1 x2)/\i7.2.1=x2.2.1/\z0d ((x1,x3),x4) i7/\(∀i8,zkb x0 x2 i5 i8 i3->GJ.ok i7.1 i8)/\True)))/\(isF x1 x2.2.2 x2.2.1 (mkS [93])=false->zps x0 x1 x2 x4 x3)
 def ziy:=Jb (x3+1)/\x3+1=x3+1/\x1=x1/\x0.2.1=x0.2.1/\x0.2.2=x0.2.2/\(z7p ((x1,x0.2.1,x0.2.2),x3+1)<x5/\rdK x1 x0.2.1/\1<=x3+1/\x3+1<=21)/\∀(i0:TrB),tqP x1 x0.2.1 x0.2.2 (x3+1) i0->(∃i1,(True/\GJ.oks x0.1 i1)/\GJ.ok i0.1 i1)->zpn x0 x1 i0 x4 x3
 def zpr:=(ziy x0 x1 x3 x4 x5)/\(ziy x0 x1 x3 x4 x5)/\ziy x0 x1 x3 x4 x5
 def zdr:=(True/\GJ.oks x0.1 x6)/\length x0.1<=x5/\qj6 x6 x7 (take (length x0.1*nat_lit 5) (z00 GJ.cells x0.1))
 def zpq:=Ji (x0.2.2=0) (zpr x0 x1 x3 x4 x5) (∀(i6 i7 i8:Nat) (i9:Option Addr) (i10 i11:Nat),(∃i12,zdr x0 i11 i12 i9)->∃(i13:TrB),za1 i13 ((GJ.y i13.1).1=i9/\(GJ.y i13.1).2.1=length x0.1/\(GJ.y i13.1).2.2=i11/\ziz x1 i13 (i13.2.2=x0.2.1/\i13.2.1=x0.2.2/\z0d ((x1,x4),x3) i13/\(∀i14,zdr x0 i11 i14 i9->GJ.ok i13.1 i14)/\True)))
 def zpp:=(∃(i0:List GJ×Int×Int),x3=x3/\x1=x1/\i0.2.1=(zds x1 x4)/\i0.2.2=neE x1 x4 0 (mkS [91])/\length i0.1=0/\(∀i1,True->GJ.oks i0.1 i1)/\lqI x1 x4 x3 i0.1 i0.2.1 i0.2.2/\True)/\∀(i2:List GJ×Int×Int),lqI x1 x4 x3 i2.1 i2.2.1 i2.2.2->(∃i3,True/\GJ.oks i2.1 i3)->zpq i2 x1 x3 x4 x5
 def zpo:=mkS [91]=mkS [91]/\x1=x1/\x3=x3/\(0:Int)=0/\(rdK x1 x3/\size (mkS [91])<=10)/\mkS [93]=mkS [93]/\x1=x1/\(zdt x1 x3)=(zdt x1 x3)/\neE x1 x3 0 (mkS [91])=neE x1 x3 0 (mkS [91])/\(rdK x1 (zdt x1 x3)/\size (mkS [93])<=10)/\(isF x1 (zdt x1 x3) (neE x1 x3 0 (mkS [91])) (mkS [93])=true->∃(i0:TrB),za1 i0 ((GJ.y i0.1).1=noA/\(GJ.y i0.1).2.1=0/\(GJ.y i0.1).2.2=0/\ziz x1 i0 (i0.2.2=(zds x1 x3)/\i0.2.1=neE x1 x3 0 (mkS [91])/\z0d ((x1,x3),x4) i0/\(∀i1,True->GJ.ok i0.1 i1)/\True)))/\(isF x1 (zdt x1 x3) (neE x1 x3 0 (mkS [91])) (mkS [93])=false->zpp x1 x4 x3 x5)
end
def zbq(c:Nat) (s:ByteArray) (i d:Int):qkz P (tLq) (qhc [(15,z15.below z7p c)]) Go.Proofs.Tryd.f31 (z4g.below z0r (c+1)) (zar) ⟨⟨s,i⟩,d⟩=(z0r ((s,i),d)<c+1/\rdK s i/\(1<=d/\d<=20)/\bat s (toNat i)=91->zpo s i d c):=by kernel_rfl
def zf1:=λc s i d=>Eq.trans (zbq c s i d) (by delta Ji Jb Jt Jf zdt za1 ziz zds zkb z49 zps zpn ziy zpr zdr zpq zpp zpo;exact rfl)
section
variable (x0:ByteArray) (x1:TrB) (x2:GJ×Int) (x3:Prop)
 abbrev zj0:=GJ.k x2.1=0/\GJ.n x2.1=0/\GJ.s x2.1=mkS []/\(GJ.y x2.1).1=noA/\(GJ.y x2.1).2.1=0/\(GJ.y x2.1).2.2=0/\(GJ.x x2.1).1=noA/\(GJ.x x2.1).2.1=0/\(GJ.x x2.1).2.2=0/\x3
 abbrev z7l:=if x1.2.1=0 then 2 else x1.2.1
 def zj1:=paP x0 x2/\(∀i0,(True/\erP i0)/\GJ.ok x1.1 i0->GJ.ok x2.1 i0)/\True
 abbrev zpy:=AV.sv (int i64 (z7l x1))=AV.sv (int i64 (z7l x1))/\∃(i0:GJ×Int),zj0 i0 ((i0.2=if x1.2.1=0 then 2 else x1.2.1)/\zj1 x0 x1 i0)
 def zkc:=∃(i0:GJ×Int),GJ.k i0.1=GJ.k x1.1/\GJ.n i0.1=GJ.n x1.1/\GJ.s i0.1=GJ.s x1.1/\(GJ.y i0.1).1=(GJ.y x1.1).1/\(GJ.y i0.1).2.1=(GJ.y x1.1).2.1/\(GJ.y i0.1).2.2=(GJ.y x1.1).2.2/\(GJ.x i0.1).1=(GJ.x x1.1).1/\(GJ.x i0.1).2.1=(GJ.x x1.1).2.1/\(GJ.x i0.1).2.2=(GJ.x x1.1).2.2/\i0.2=0/\zj1 x0 x1 i0
 def zpw:=(2:Int)=2/\x0=x0/\(↑(sk x0 (toNat x1.2.2)):Int)=(↑(sk x0 (toNat x1.2.2)):Int)/\x1.2.1=x1.2.1/\True/\((!decide ((z7l x1)=0))=true->zpy x0 x1)/\((!decide ((z7l x1)=0))=false->zkc x0 x1)
 def zpz:=AV.sv (int i64 x1.2.1)=AV.sv (int i64 x1.2.1)/\∃(i0:GJ×Int),zj0 i0 (i0.2=x1.2.1/\zj1 x0 x1 i0)
 def zpx:=((!decide (x1.2.1=0))=true->zpz x0 x1)/\((!decide (x1.2.1=0))=false->zkc x0 x1)
 def zpv:=x0=x0/\x1.2.2=x1.2.2/\x1.2.1=x1.2.1/\rdK x0 x1.2.2/\Ji ((↑(sk x0 (toNat x1.2.2)):Int)<(↑(size x0):Int)) (zpw x0 x1) (zpx x0 x1)
 def zpu:=(1:Int)=1/\x0=x0/\(0:Int)=0/\(0:Int)=0/\(rdK x0 0/\(1:Int)<=1/\(1:Int)<=21)/\∀(i0:TrB),tqP x0 0 0 1 i0->(∃i1,(True/\erP i1)/\GJ.ok i0.1 i1)->zpv x0 i0
 def zpt:=Ji (10000<(↑(size x0):Int)) (∃(i0:GJ×Int),zj0 i0 (i0.2=3/\paP x0 i0/\(∀i1,True/\erP i1->GJ.ok i0.1 i1)/\True)) (zpu x0)
end
def z8h(s:ByteArray):qkz P (tPq) (qhc [(15,z15)]) Go.Proofs.Tryd.f7 z2g (λ_=>{}) s=(size s<=10000->(∃(p:Pub),True/\erP p)->zpt s):=by kernel_rfl
def zc2:=λs=>Eq.trans (z8h s) (by delta Ji Jt Jf zj0 z7l zj1 zpy zkc zpw zpz zpx zpv zpu zpt;exact rfl)
section
variable (x0 x1:GJ) (x2:Nat) (x3:Int) (x4:Nat) (x5:Prop) (x6:Nat->Option Obj)
 abbrev z2w:=True/\GJ.ok x0 x6/\GJ.ok x1 x6
 abbrev z3d:=(↑(GJ.y x0).2.1:Int)
 abbrev z3e:=(↑(GJ.x x0).2.1:Int)
 def zdu:=GJ.k x0=GJ.k x0/\GJ.n x0=GJ.n x0/\GJ.s x0=GJ.s x0/\(GJ.y x0).1=(GJ.y x0).1/\(GJ.y x0).2.1=(GJ.y x0).2.1/\(GJ.y x0).2.2=(GJ.y x0).2.2/\(GJ.x x0).1=(GJ.x x0).1/\(GJ.x x0).2.1=(GJ.x x0).2.1/\(GJ.x x0).2.2=(GJ.x x0).2.2/\x5
 def zdw:=zdu x0 (zdu x1 ((∀i0,z2w x0 x1 i0->z2w x0 x1 i0)/\x5))
 def zhy:=((!decide ((z3e x0)=(z3e x1)))=true->true=false/\True)/\((!decide ((z3e x0)=(z3e x1)))=false->zdw x0 x1 (True/\True))
 def zhx:=Ji (GJ.k x0=6) (zhy x0 x1) (zdw x0 x1 (True/\True))
 abbrev zdv:=Jb ((↑x2:Int)+1)
 def zi0:=zdv x2/\∃(i0:Nat),(↑i0:Int)=(↑x2:Int)+1/\zdw x0 x1 (i0<=length (GJ.l x0)/\length (GJ.l x0)- i0<length (GJ.l x0)- x2/\True)
 def zq3:=(0<=(↑x2:Int)/\(↑x2:Int)<(z3d x0))/\(GJ.y x0).1≠noA/\∃(i0:Int),∃(i1:Int),∃i2,∃i3,∃(i4:Nat),∃(i5:Nat),∃i6,∃(i7:Nat),∃(i8:Nat),(∀i9,z2w x0 x1 i9->q3g i9 (adr (GJ.y x0).1 (toNat (↑x2:Int)*5)) [int i64 i0,int i64 i1,string i2,slice i3 i4 i5,slice i6 i7 i8])/\(0<=(↑x2:Int)/\(↑x2:Int)<(z3d x1))/\(GJ.y x1).1≠noA/\∃(i10:Int),∃(i11:Int),∃i12,∃i13,∃(i14:Nat),∃(i15:Nat),∃i16,∃(i17:Nat),∃(i18:Nat),(∀i19,z2w x0 x1 i19->q3g i19 (adr (GJ.y x1).1 (toNat (↑x2:Int)*5)) [int i64 i10,int i64 i11,string i12,slice i13 i14 i15,slice i16 i17 i18])/\∃(i20:GJ×GJ),GJ.k i20.1=i0/\GJ.n i20.1=i1/\GJ.s i20.1=i2/\(GJ.y i20.1).1=i3/\(GJ.y i20.1).2.1=i4/\(GJ.y i20.1).2.2=i5/\(GJ.x i20.1).1=i6/\(GJ.x i20.1).2.1=i7/\(GJ.x i20.1).2.2=i8/\GJ.k i20.2=i10/\GJ.n i20.2=i11/\GJ.s i20.2=i12/\(GJ.y i20.2).1=i13/\(GJ.y i20.2).2.1=i14/\(GJ.y i20.2).2.2=i15/\(GJ.x i20.2).1=i16/\(GJ.x i20.2).2.1=i17/\(GJ.x i20.2).2.2=i18/\(zbt i20<x4/\GJ.pj i20.1=GJ.pj i20.2/\PJ.sm (GJ.pj i20.1))/\(∀i21,z2w x0 x1 i21->GJ.ok i20.1 i21/\GJ.ok i20.2 i21)/\((!true)=true->true=false/\True)/\((!true)=false->zi0 x0 x1 x2)
 def zhz:=zdv x2/\∃(i0:Nat),(↑i0:Int)=(↑x2:Int)+1/\zdw x0 x1 (i0<=length (GJ.nm x0)/\length (GJ.nm x0)- i0<length (GJ.nm x0)- x2/\True)
 def zhw:=(0<=(↑x2:Int)/\(↑x2:Int)<(z3e x0))/\(GJ.x x0).1≠noA/\∃i0,(∀i1,z2w x0 x1 i1->q3g i1 (adr (GJ.x x0).1 (toNat (↑x2:Int)*1)) [string i0])/\(0<=(↑x2:Int)/\(↑x2:Int)<(z3e x1))/\(GJ.x x1).1≠noA/\∃i2,(∀i3,z2w x0 x1 i3->q3g i3 (adr (GJ.x x1).1 (toNat (↑x2:Int)*1)) [string i2])/\((!decide (i0=i2))=true->true=false/\True)/\((!decide (i0=i2))=false->zhz x0 x1 x2)
 def zq6:=Ji ((↑x2:Int)<(z3e x0)) (zhw x0 x1 x2) (true=true/\True)
 def zq5:=Ji (GJ.k x0=6) (zq6 x0 x1 x2) (true=true/\True)
 def zq4:=(∃(i0:Nat),(↑i0:Int)=0/\zdw x0 x1 (i0<=length (GJ.nm x0)/\True))/\∀(i1:Nat),i1<=length (GJ.nm x0)->zq5 x0 x1 i1
 def zq2:=Ji ((↑x2:Int)<(z3d x0)) (zq3 x0 x1 x2 x4) (zq4 x0 x1)
 def zq1:=(∃(i0:Nat),(↑i0:Int)=0/\zdw x0 x1 (i0<=length (GJ.l x0)/\True))/\∀(i2:Nat),i2<=length (GJ.l x0)->zq2 x0 x1 i2 x2
 def zq0:=(((!decide ((z3d x0)=(z3d x1)))=true->true=false/\True)/\((!decide ((z3d x0)=(z3d x1)))=false->zhx x0 x1))/\∀(i2:Unit),True->zq1 x0 x1 x2
 def zkd:=Ji (GJ.k x0=x3) (zq0 x0 x1 x2) (true=true/\True)
 def zi3:=Ji (GJ.k x0=5) (zkd x0 x1 x2 5) (zkd x0 x1 x2 6)
 def zi1:=Ji (GJ.k x0=4) (true=decide (GJ.s x0=GJ.s x1)/\True) (zi3 x0 x1 x2)
 def zke:=Ji (GJ.k x0=x3) (true=decide (GJ.n x0=GJ.n x1)/\True) (zi1 x0 x1 x2)
 def zi4:=Ji (GJ.k x0=2) (zke x0 x1 x2 2) (zke x0 x1 x2 3)
 def zi2:=((!decide (GJ.k x0=GJ.k x1))=true->true=false/\True)/\((!decide (GJ.k x0=GJ.k x1))=false->zi4 x0 x1 x2)
end
def z6f(c:Nat) (g h:GJ):qky P (qg8 [(8,z1h.below zbt c)]) Go.Proofs.Tryd.f8 (z1h.below zbt (c+1)) (zat) ⟨g,h⟩=(zbt (g,h)<c+1/\GJ.pj g=GJ.pj h/\PJ.sm (GJ.pj g)->(∃(p:Pub),z2w g h p)->zi2 g h c):=by kernel_rfl
def z8o:=λc g h=>Eq.trans (z6f c g h) (by delta Ji Jb Jt Jf z2w z3d z3e zdu zdw zhy zhx zdv zi0 zq3 zhz zhw zq6 zq5 zq4 zq2 zq1 zq0 zkd zi3 zi1 zke zi4 zi2;exact rfl)
section
variable (x0:ByteArray) (x1 x2:GJ×Int)
 abbrev zqb:=Ji (x1.2=x2.2) (∃(i0:GJ×GJ),GJ.k i0.1=GJ.k x1.1/\GJ.n i0.1=GJ.n x1.1/\GJ.s i0.1=GJ.s x1.1/\(GJ.y i0.1).1=(GJ.y x1.1).1/\(GJ.y i0.1).2.1=(GJ.y x1.1).2.1/\(GJ.y i0.1).2.2=(GJ.y x1.1).2.2/\(GJ.x i0.1).1=(GJ.x x1.1).1/\(GJ.x i0.1).2.1=(GJ.x x1.1).2.1/\(GJ.x i0.1).2.2=(GJ.x x1.1).2.2/\GJ.k i0.2=GJ.k x2.1/\GJ.n i0.2=GJ.n x2.1/\GJ.s i0.2=GJ.s x2.1/\(GJ.y i0.2).1=(GJ.y x2.1).1/\(GJ.y i0.2).2.1=(GJ.y x2.1).2.1/\(GJ.y i0.2).2.2=(GJ.y x2.1).2.2/\(GJ.x i0.2).1=(GJ.x x2.1).1/\(GJ.x i0.2).2.1=(GJ.x x2.1).2.1/\(GJ.x i0.2).2.2=(GJ.x x2.1).2.2/\(GJ.pj i0.1=GJ.pj i0.2/\PJ.sm (GJ.pj i0.1))/\(∀i1,((True/\erP i1)/\GJ.ok x1.1 i1)/\GJ.ok x2.1 i1->GJ.ok i0.1 i1/\GJ.ok i0.2 i1)/\true=true/\True) (true=false/\True)
 def zqa:=x0=x0/\size x0<=10000/\(∀i0,(True/\erP i0)/\GJ.ok x1.1 i0->erP i0)/\∀(i1:GJ×Int),paP x0 i1->(∃i2,((True/\erP i2)/\GJ.ok x1.1 i2)/\GJ.ok i1.1 i2)->zqb x1 i1
 def zq9:=x0=x0/\size x0<=10000/\(∀i0,True/\erP i0->erP i0)/\∀(i1:GJ×Int),paP x0 i1->(∃i2,(True/\erP i2)/\GJ.ok i1.1 i2)->zqa x0 i1
 def zq8:=Ji (200<(↑(size x0):Int)) (true=true/\True) (zq9 x0)
 def zq7:=True/\(∀i0,True/\erP i0->erP i0)/\((!true)=true->true=false/\True)/\((!true)=false->zq8 x0)
end
def z87(s:ByteArray):ql0 P (qg8 [(5,z3k),(8,z1h)]) (qhc [(6,z2g),(7,z2g)]) Go.Proofs.Tryd.f3 zej (λ_=>{}) s=(True->(∃(p:Pub),True/\erP p)->zq7 s):=by kernel_rfl
def zbk:=λs=>Eq.trans (z87 s) (by delta Ji Jt Jf zqb zqa zq9 zq8 zq7;exact rfl)
section
variable (x0:ByteArray) (x1 x2:Int) (x3:Nat) (x4:List GJ×List ByteArray×Int×Int) (x5:List GJ×List ByteArray×ByteArray) (x6:TrB) (x7:Int×Int) (x8:Nat->Option Obj) (x9:Option Addr) (x10:Prop)
 abbrev z4a:=(↑(isP x0 x1 0 (mkS [123])):Int)
 def za5:=GJ.k x6.1=6/\GJ.n x6.1=0/\GJ.s x6.1=mkS []/\x10
 abbrev ze1:=(↑(isP x0 (z4a x0 x1) (neE x0 x1 0 (mkS [123])) (mkS [125])):Int)
 abbrev z7m:=(↑(uqS x0 (toNat x4.2.2.1)).1:Int)
 abbrev z5p:=if x4.2.2.2=0 then(z7m x0 x4)else x4.2.2.2
 abbrev z5o:=(↑(if x4.2.2.2=0 then sk x0 (toNat x4.2.2.1)+(uqS x0 (toNat x4.2.2.1)).2.2 else sk x0 (toNat x4.2.2.1)):Int)
 abbrev za3:=if x4.2.2.2=0 then(uqS x0 (toNat x4.2.2.1)).2.1 else mkS []
 abbrev zdy:=x1=x1/\((za3 x0 x4)=if x4.2.2.2=0 then(uqS x0 (toNat x4.2.2.1)).2.1 else mkS [])/\x0=x0/\x7.1=(z5o x0 x4)/\x10
 def zdx:=length x4.1=length x4.1/\length x4.2.1=length x4.2.1/\z00 GJ.cells x5.1=z00 GJ.cells x5.1/\z00 txV x5.2.1=z00 txV x5.2.1/\(∀i0,True/\GJ.oks x4.1 i0->True/\GJ.oks x4.1 i0)/\(x7.1=(z5o x0 x4)/\x7.2=z5s (inB x5.2.2 x5.2.1) (z5p x0 x4))/\True
 abbrev zqj:=(5:Int)=5/\x0=x0/\(z5o x0 x4)=(z5o x0 x4)/\((z5p x0 x4)=if x4.2.2.2=0 then(z7m x0 x4)else x4.2.2.2)/\True/\∃(i0:Int×Int),zdy x0 x1 x4 i0 ((i0.2=if(z5p x0 x4)=0 then 5 else if x4.2.2.2=0 then(z7m x0 x4)else x4.2.2.2)/\zdx x0 x4 x5 i0)
 abbrev ze0:=∃(i0:Int×Int),zdy x0 x1 x4 i0 ((i0.2=if x4.2.2.2=0 then(z7m x0 x4)else x4.2.2.2)/\zdx x0 x4 x5 i0)
 def zqh:=Ji ((z5p x0 x4)=0) (zqj x0 x1 x4 x5) (ze0 x0 x1 x4 x5)
 abbrev z5q:=(↑(isP x0 x7.1 x7.2 (mkS [58])):Int)
 def za2:=((True/\GJ.oks x4.1 x8)/\GJ.ok x6.1 x8)/\length x4.1+nat_lit 1<=x3/\qj6 x8 x9 (take ((length x4.1+nat_lit 1)*nat_lit 5) (z00 GJ.cells x5.1++[int i64 (GJ.k x6.1),int i64 (GJ.n x6.1),string (GJ.s x6.1),slice (GJ.y x6.1).1 (GJ.y x6.1).2.1 (GJ.y x6.1).2.2,slice (GJ.x x6.1).1 (GJ.x x6.1).2.1 (GJ.x x6.1).2.2]))
 def zdz:=length x4.2.1+nat_lit 1<=x3/\qj6 x8 x9 (take ((length x4.2.1+nat_lit 1)*nat_lit 1) (z00 txV x5.2.1++[string (za3 x0 x4)]))
 abbrev z4b:=(↑(isP x0 x6.2.2 x6.2.1 (mkS [125])):Int)
 def zqk:=mkS [44]=mkS [44]/\x0=x0/\(z4b x0 x6)=(z4b x0 x6)/\x6.2.1=x6.2.1/\(rdK x0 (z4b x0 x6)/\size (mkS [44])<=10)/\∃(i0:List GJ×List ByteArray×Int×Int),x1=x1/\x0=x0/\i0.2.2.1=(↑(isP x0 (z4b x0 x6) x6.2.1 (mkS [44])):Int)/\i0.2.2.2=neE x0 (z4b x0 x6) x6.2.1 (mkS [44])/\length i0.1=length x4.1+nat_lit 1/\length i0.2.1=length x4.2.1+nat_lit 1/\z00 GJ.cells i0.1=z00 GJ.cells x5.1++[int i64 (GJ.k x6.1),int i64 (GJ.n x6.1),string (GJ.s x6.1),slice (GJ.y x6.1).1 (GJ.y x6.1).2.1 (GJ.y x6.1).2.2,slice (GJ.x x6.1).1 (GJ.x x6.1).2.1 (GJ.x x6.1).2.2]/\z00 txV i0.2.1=z00 txV x5.2.1++[string (za3 x0 x4)]/\(∀i1,(True/\GJ.oks x4.1 i1)/\GJ.ok x6.1 i1->GJ.oks i0.1 i1)/\oqI x0 x2 x1 i0.1 i0.2.1 i0.2.2.1 i0.2.2.2/\muE x0 i0.2.2.1 i0.2.2.2<muE x0 x4.2.2.1 x4.2.2.2/\True
 def zqf:=length (z00 GJ.cells x5.1)=length x4.1*5/\(length x4.1+nat_lit 1)*80<=140737488355328/\mkS [125]=mkS [125]/\x0=x0/\x6.2.2=x6.2.2/\x6.2.1=x6.2.1/\(rdK x0 x6.2.2/\size (mkS [125])<=10)/\(isF x0 x6.2.2 x6.2.1 (mkS [125])=true->∀(i0 i1 i2:Nat) (i3:Option Addr) (i4 i5:Nat),(∃i6,za2 i5 x4 x5 x6 i6 i3)->∀(i7 i8 i9:Nat) (i10:Option Addr) (i11 i12:Nat),(∃i13,(za2 i5 x4 x5 x6 i13 i3)/\zdz x0 i12 x4 x5 i13 i10)->∃(i14:TrB),za5 i14 ((GJ.y i14.1).1=i3/\(GJ.y i14.1).2.1=length x4.1+nat_lit 1/\(GJ.y i14.1).2.2=i5/\(GJ.x i14.1).1=i10/\(GJ.x i14.1).2.1=length x4.2.1+nat_lit 1/\(GJ.x i14.1).2.2=i12/\x0=x0/\i14.2.2=(z4b x0 x6)/\i14.2.1=x6.2.1/\z07 ((x0,x1),x2) i14/\(∀i15,(za2 i5 x4 x5 x6 i15 i3)/\zdz x0 i12 x4 x5 i15 i10->GJ.ok i14.1 i15)/\True))/\(isF x0 x6.2.2 x6.2.1 (mkS [125])=false->zqk x0 x2 x1 x4 x5 x6)
 def zj2:=Jb (x1+1)/\x1+1=x1+1/\x0=x0/\(z5q x0 x7)=(z5q x0 x7)/\neE x0 x7.1 x7.2 (mkS [58])=neE x0 x7.1 x7.2 (mkS [58])/\(z7p ((x0,(z5q x0 x7),neE x0 x7.1 x7.2 (mkS [58])),x1+1)<x3/\rdK x0 (z5q x0 x7)/\1<=x1+1/\x1+1<=21)/\∀(i0:TrB),tqP x0 (z5q x0 x7) (neE x0 x7.1 x7.2 (mkS [58])) (x1+1) i0->(∃i1,(True/\GJ.oks x4.1 i1)/\GJ.ok i0.1 i1)->zqf x0 x2 x1 x4 x5 i0
 def zqi:=mkS [58]=mkS [58]/\x0=x0/\x7.1=x7.1/\x7.2=x7.2/\(rdK x0 x7.1/\size (mkS [58])<=10)/\length (z00 txV x5.2.1)=length x4.2.1*1/\(length x4.2.1+nat_lit 1)*16<=140737488355328/\(zj2 x0 x1 x2 x3 x4 x5 x7)/\(zj2 x0 x1 x2 x3 x4 x5 x7)/\zj2 x0 x1 x2 x3 x4 x5 x7
 abbrev zqg:=x0=x0/\x4.2.2.1=x4.2.2.1/\x4.2.2.2=x4.2.2.2/\rdK x0 x4.2.2.1/\∃(i0:List GJ×List ByteArray×ByteArray),(6:Int)=6/\(0:Int)=0/\mkS []=mkS []/\length i0.1=length x4.1/\length i0.2.1=length x4.2.1/\(i0.2.2=if x4.2.2.2=0 then(uqS x0 (toNat x4.2.2.1)).2.1 else mkS [])/\z00 GJ.cells i0.1=z00 GJ.cells x4.1/\z00 txV i0.2.1=z00 txV x4.2.1/\(length i0.1=length i0.2.1/\length i0.1<=20000)/\((inB i0.2.2 i0.2.1=true->zqh x0 x1 x4 i0)/\(inB i0.2.2 i0.2.1=false->ze0 x0 x1 x4 i0))/\∀(i7:Int×Int),i7.1=(z5o x0 x4)/\i7.2=z5s (inB i0.2.2 i0.2.1) (z5p x0 x4)->zqi x0 x1 x2 x3 x4 i0 i7
 def za4:=(True/\GJ.oks x4.1 x8)/\length x4.1<=x3/\qj6 x8 x9 (take (length x4.1*nat_lit 5) (z00 GJ.cells x4.1))
 def zqe:=Ji (x4.2.2.2=0) (zqg x0 x1 x2 x3 x4) (∀(i68 i69 i70:Nat) (i71:Option Addr) (i72 i73:Nat),(∃i74,za4 i73 x4 i74 i71)->∀(i75 i76 i77:Nat) (i78:Option Addr) (i79 i80:Nat),(∃i81,(za4 i73 x4 i81 i71)/\length x4.2.1<=i80/\qj6 i81 i78 (take (length x4.2.1*nat_lit 1) (z00 txV x4.2.1)))->∃(i82:TrB),za5 i82 ((GJ.y i82.1).1=i71/\(GJ.y i82.1).2.1=length x4.1/\(GJ.y i82.1).2.2=i73/\(GJ.x i82.1).1=i78/\(GJ.x i82.1).2.1=length x4.2.1/\(GJ.x i82.1).2.2=i80/\x0=x0/\i82.2.2=x4.2.2.1/\i82.2.1=x4.2.2.2/\z07 ((x0,x2),x1) i82/\(∀i83,(za4 i73 x4 i83 i71)/\length x4.2.1<=i80/\qj6 i83 i78 (take (length x4.2.1*nat_lit 1) (z00 txV x4.2.1))->GJ.ok i82.1 i83)/\True))
 def zqd:=(∃(i0:List GJ×List ByteArray×Int×Int),x1=x1/\x0=x0/\i0.2.2.1=(ze1 x0 x2)/\i0.2.2.2=neE x0 x2 0 (mkS [123])/\length i0.1=0/\length i0.2.1=0/\(∀i1,True->GJ.oks i0.1 i1)/\oqI x0 x2 x1 i0.1 i0.2.1 i0.2.2.1 i0.2.2.2/\True)/\∀(i2:List GJ×List ByteArray×Int×Int),oqI x0 x2 x1 i2.1 i2.2.1 i2.2.2.1 i2.2.2.2->(∃i3,True/\GJ.oks i2.1 i3)->zqe x0 x1 x2 x3 i2
 def zqc:=mkS [123]=mkS [123]/\x0=x0/\x1=x1/\(0:Int)=0/\(rdK x0 x1/\size (mkS [123])<=10)/\mkS [125]=mkS [125]/\x0=x0/\(z4a x0 x1)=(z4a x0 x1)/\neE x0 x1 0 (mkS [123])=neE x0 x1 0 (mkS [123])/\(rdK x0 (z4a x0 x1)/\size (mkS [125])<=10)/\(isF x0 (z4a x0 x1) (neE x0 x1 0 (mkS [123])) (mkS [125])=true->∃(i0:TrB),za5 i0 ((GJ.y i0.1).1=noA/\(GJ.y i0.1).2.1=0/\(GJ.y i0.1).2.2=0/\(GJ.x i0.1).1=noA/\(GJ.x i0.1).2.1=0/\(GJ.x i0.1).2.2=0/\x0=x0/\i0.2.2=(ze1 x0 x1)/\i0.2.1=neE x0 x1 0 (mkS [123])/\z07 ((x0,x1),x2) i0/\(∀i1,True->GJ.ok i0.1 i1)/\True))/\(isF x0 (z4a x0 x1) (neE x0 x1 0 (mkS [123])) (mkS [125])=false->zqd x0 x2 x1 x3)
end
def zce(c:Nat) (s:ByteArray) (i d:Int):qkz P (tOq) (qhc [(15,z15.below z7p c)]) Go.Proofs.Tryd.f32 (z2l.below z0r (c+1)) (z6y) ⟨⟨s,i⟩,d⟩=(z0r ((s,i),d)<c+1/\rdK s i/\(1<=d/\d<=20)/\bat s (toNat i)=123->zqc s i d c):=by kernel_rfl
def zfe:=λc s i d=>Eq.trans (zce c s i d) (by delta Ji Jb Jt Jf z4a za5 ze1 z7m z5p z5o za3 zdy zdx zqj ze0 zqh z5q za2 zdz z4b zqk zqf zj2 zqi zqg za4 zqe zqd zqc;exact rfl)
section
variable (x0:ByteArray) (x1 x2 x3:Int) (x4:Nat) (x5:Int) (x6:TrB) (x7:Prop)
 abbrev za6:=(!decide (x1=0))= !decide (x1=0)
 def z4c:=za6 x1/\za6 x1/\za6 x1/\x7
 abbrev z06:=(↑(sk x0 (toNat x1)):Int)
 def z4d:=x0=x0/\(z06 x0 x1)=(z06 x0 x1)/\x7
 def z5r:=GJ.k x6.1=x1/\GJ.n x6.1=x2/\GJ.s x6.1=mkS []/\x7
 def z3f:=(GJ.y x6.1).1=noA/\(GJ.y x6.1).2.1=0/\(GJ.y x6.1).2.2=0/\(GJ.x x6.1).1=noA/\(GJ.x x6.1).2.1=0/\(GJ.x x6.1).2.2=0/\x0=x0/\x7
 def z3i:=tqP x0 x1 x2 x3 x6/\(∀i0,True->GJ.ok x6.1 i0)/\True
 abbrev zie:=x5=x5/\z4d x0 x1 (x2=x2/\True/\∃(i0:TrB),z5r 0 0 i0 (z3f x0 i0 (i0.2.2=(z06 x0 x1)/\(i0.2.1=if x2=0 then x5 else x2)/\z3i x0 x1 x2 x3 i0)))
 abbrev z3h:=(↑(bat x0 (toNat (z06 x0 x1))):Int)
 abbrev zia:=z4d x0 x1 (x2=x2/\rdK x0 (z06 x0 x1)/\∃(i0:TrB),GJ.k i0.1=4/\GJ.n i0.1=0/\(GJ.s i0.1=if x2=0 then(uqS x0 (toNat (z06 x0 x1))).2.1 else mkS [])/\z3f x0 i0 (i0.2.2=(↑(if x2=0 then sk x0 (toNat (z06 x0 x1))+(uqS x0 (toNat (z06 x0 x1))).2.2 else sk x0 (toNat (z06 x0 x1))):Int)/\(i0.2.1=if x2=0 then(↑(uqS x0 (toNat (z06 x0 x1))).1:Int)else x2)/\z3i x0 x1 x2 x3 i0))
 def ze3:=(∃i0,True/\GJ.ok x6.1 i0)->∃(i1:TrB),GJ.k i1.1=GJ.k x6.1/\GJ.n i1.1=GJ.n x6.1/\GJ.s i1.1=GJ.s x6.1/\(GJ.y i1.1).1=(GJ.y x6.1).1/\(GJ.y i1.1).2.1=(GJ.y x6.1).2.1/\(GJ.y i1.1).2.2=(GJ.y x6.1).2.2/\(GJ.x i1.1).1=(GJ.x x6.1).1/\(GJ.x i1.1).2.1=(GJ.x x6.1).2.1/\(GJ.x i1.1).2.2=(GJ.x x6.1).2.2/\x0=x0/\i1.2.2=x6.2.2/\i1.2.1=x6.2.1/\tqP x0 x1 x2 x3 i1/\(∀i2,True/\GJ.ok x6.1 i2->GJ.ok i1.1 i2)/\True
 def zi7:=x1=x1/\z4d x0 x2 (0=x3/\(z0r ((x0,(z06 x0 x2)),x1)<x4+1/\rdK x0 (z06 x0 x2)/\(1<=x1/\x1<=20)/\bat x0 (toNat (z06 x0 x2))=91)/\∀(i0:TrB),z0d ((x0,(z06 x0 x2)),x1) i0->ze3 x0 x2 x3 x1 i0)
 def zi6:=x1=x1/\z4d x0 x2 (0=x3/\(z0r ((x0,(z06 x0 x2)),x1)<x4+1/\rdK x0 (z06 x0 x2)/\(1<=x1/\x1<=20)/\bat x0 (toNat (z06 x0 x2))=123)/\∀(i0:TrB),z07 ((x0,(z06 x0 x2)),x1) i0->ze3 x0 x2 x3 x1 i0)
 def zi5:=Ji ((z3h x0 x1)=91) (zi7 x0 x2 x1 x3 x4) (zi6 x0 x2 x1 x3 x4)
 def zkg:=Ji (20<x1) (zie x0 x2 x3 x1 3) (zi5 x0 x2 x1 x3 x4)
 abbrev ze2:=z4d x0 x1 (0=x2/\(rdK x0 (z06 x0 x1)/\(z06 x0 x1)<(↑(size x0):Int))/\∃(i0:TrB),(GJ.k i0.1=if z12 x0 (toNat (z06 x0 x1))=true then 3 else 0)/\(GJ.n i0.1=if z12 x0 (toNat (z06 x0 x1))=true then nqV x0 (toNat (z06 x0 x1))else 0)/\GJ.s i0.1=mkS []/\z3f x0 i0 (i0.2.2=(↑(nqX x0 (toNat (z06 x0 x1))).2.1:Int)/\(i0.2.1=if z12 x0 (toNat (z06 x0 x1))=true then 0 else 2)/\z3i x0 x1 x2 x3 i0))
 abbrev z7n:=mkS [110,117,108,108]
 abbrev z3j:=(↑(isP x0 (z06 x0 x1) x2 (z7n)):Int)
 abbrev z7o:=mkS [116,114,117,101]
 abbrev z2b:=(↑(isP x0 (z3j x0 x1 x2) x2 (z7o)):Int)
 abbrev z3g:=mkS [102,97,108,115,101]
 abbrev zi9:=(2:Int)=2/\x0=x0/\(↑(isP x0 (z2b x0 x1 x2) x2 (z3g)):Int)=(↑(isP x0 (z2b x0 x1 x2) x2 (z3g)):Int)/\x2=x2/\True/\∃(i0:TrB),z5r 0 0 i0 (z3f x0 i0 (i0.2.2=(↑(isP x0 (z2b x0 x1 x2) x2 (z3g)):Int)/\(i0.2.1=if x2=0 then 2 else x2)/\z3i x0 x1 x2 x3 i0))
 def zqr:=mkS [102,97,108,115,101]=mkS [102,97,108,115,101]/\x0=x0/\(z2b x0 x1 x2)=(z2b x0 x1 x2)/\x2=x2/\(rdK x0 (z2b x0 x1 x2)/\size (z3g)<=10)/\(isF x0 (z2b x0 x1 x2) x2 (z3g)=true->∃(i0:TrB),z5r 2 0 i0 (z3f x0 i0 (i0.2.2=(↑(isP x0 (z2b x0 x1 x2) x2 (z3g)):Int)/\i0.2.1=x2/\z3i x0 x1 x2 x3 i0)))/\(isF x0 (z2b x0 x1 x2) x2 (z3g)=false->zi9 x0 x1 x2 x3)
 def zqq:=mkS [116,114,117,101]=mkS [116,114,117,101]/\x0=x0/\(z3j x0 x1 x2)=(z3j x0 x1 x2)/\x2=x2/\(rdK x0 (z3j x0 x1 x2)/\size (z7o)<=10)/\(isF x0 (z3j x0 x1 x2) x2 (z7o)=true->∃(i0:TrB),z5r 2 1 i0 (z3f x0 i0 (i0.2.2=(z2b x0 x1 x2)/\i0.2.1=x2/\z3i x0 x1 x2 x3 i0)))/\(isF x0 (z3j x0 x1 x2) x2 (z7o)=false->zqr x0 x1 x2 x3)
 def zkf:=mkS [110,117,108,108]=mkS [110,117,108,108]/\z4d x0 x1 (x2=x2/\(rdK x0 (z06 x0 x1)/\size (z7n)<=10)/\(isF x0 (z06 x0 x1) x2 (z7n)=true->∃(i0:TrB),z5r 1 0 i0 (z3f x0 i0 (i0.2.2=(z3j x0 x1 x2)/\i0.2.1=x2/\z3i x0 x1 x2 x3 i0)))/\(isF x0 (z06 x0 x1) x2 (z7n)=false->zqq x0 x1 x2 x3))
 def zid:=Ji ((z3h x0 x1)<=57) (ze2 x0 x1 x2 x3) (zkf x0 x1 x2 x3)
 def zic:=Ji (48<=(z3h x0 x1)) (zid x0 x1 x2 x3) (zkf x0 x1 x2 x3)
 def zib:=Ji ((z3h x0 x1)=45) (ze2 x0 x1 x2 x3) (zic x0 x1 x2 x3)
 def zi8:=Ji ((z3h x0 x1)=123) (zkg x0 x2 x1 x3 x4) (zib x0 x1 x3 x2)
 def zqp:=Ji ((z3h x0 x1)=91) (zkg x0 x2 x1 x3 x4) (zi8 x0 x1 x2 x3 x4)
 def zqo:=(0<=(z06 x0 x1)/\(z06 x0 x1)<(↑(size x0):Int))/\Ji ((z3h x0 x1)=34) (zia x0 x1 x2 x3) (zqp x0 x1 x3 x2 x4)
 def zqn:=Ji ((z06 x0 x1)=(↑(size x0):Int)) (zie x0 x1 x2 x3 2) (zqo x0 x1 x2 x3 x4)
 def zqm:=z4c x1 (z4c x1 (z4c x1 (((!decide (x1=0))=true->zie x0 x2 x1 x3 2)/\((!decide (x1=0))=false->zqn x0 x2 x1 x3 x4))))
 def zql:=x0=x0/\x1=x1/\x2=x2/\rdK x0 x1/\((!decide (x2=0))=true->z4c x2 (z4c x2 (z4c x2 (((!decide (x2=0))=true->zie x0 x1 x2 x3 2)/\((!decide (x2=0))=false->False)))))/\((!decide (x2=0))=false->zqm x0 x2 x1 x3 x4)
end
def zcg(c:Nat) (s:ByteArray) (i e d:Int):qkz P (tTq) (qhc [(31,z4g.below z0r (c+1)),(32,z2l.below z0r (c+1))]) Go.Proofs.Tryd.f15 (z15.below z7p (c+1)) (λ_=>{}) ⟨⟨s,i,e⟩,d⟩=(z7p ((s,i,e),d)<c+1/\rdK s i/\1<=d/\d<=21->zql s i e d c):=by kernel_rfl
def zfg:=λc s i e d=>Eq.trans (zcg c s i e d) (by delta Ji Jt Jf za6 z4c z06 z4d z5r z3f z3i zie z3h zia ze3 zi7 zi6 zi5 zkg ze2 z7n z3j z7o z2b z3g zi9 zqr zqq zkf zid zic zib zi8 zqp zqo zqn zqm zql;exact rfl)
section
variable {Q:Pub->Prop} {s:ByteArray}
def z0s{k:Nat} {e:Int} (h:jP s= .err k) (hk:k≠0) (he:e=k):∃b:GJ×Int,b.1.k=0/\b.1.n=0/\b.1.s=mkS []/\b.1.y.1=noA/\b.1.y.2.1=0/\b.1.y.2.2=0/\b.1.x.1=noA/\b.1.x.2.1=0/\b.1.x.2.2=0/\b.2=e/\paP s b/\∀p:Pub,Q p->b.1.ok p:=
 ⟨(z08 0 0 (mkS []),e),rfl,rfl,rfl,rfl,rfl,rfl,rfl,rfl,rfl,rfl,by unfold paP;rw[h];exact⟨he,hk,z11 _ _ _⟩,λp _=>z0b _ _ _ p⟩
def z4t{g:GJ} {j:Nat} (h:jP s= .ok g.pj j) (hq:∀p:Pub,Q p->g.ok p):∃b:GJ×Int,b.1.k=g.k/\b.1.n=g.n/\b.1.s=g.s/\b.1.y.1=g.y.1/\b.1.y.2.1=g.y.2.1/\b.1.y.2.2=g.y.2.2/\b.1.x.1=g.x.1/\b.1.x.2.1=g.x.2.1/\b.1.x.2.2=g.x.2.2/\b.2=0/\paP s b/\∀p:Pub,Q p->b.1.ok p:=
 ⟨(g,0),rfl,rfl,rfl,rfl,rfl,rfl,rfl,rfl,rfl,rfl,by unfold paP;rw[h];exact⟨rfl,rfl⟩,hq⟩
def z4p{k:Nat} (h:jT s 20 0= .err k):jP s= .err k:=by unfold jP;rw[h]
def z86{x:PJ} {j:Nat} (h:jT s 20 0= .ok x j):jP s=if sk s j<s.size then .err 2 else .ok x (sk s j):=by unfold jP;rw[h]
def zc1:q2d P 6 z2g:=by
 refine qk9 mixed (qdv (qhn z2o qkn)) (qel (qhm z8t qkm)) (W:=λ_=>{}) Go.Proofs.Tryd.func6 (by kernel_rfl) (show 1<=1 by decide) (show 1<=1 by decide) (λs=>by kernel_rfl) λ(s:ByteArray)=>(zc0 s).mpr ?_
 intro hz _
 simp only[sbS,Int.toNat_natCast,exists_const]
 refine⟨λh=>absurd h (by omega),λ_=>⟨⟨⟨by decide,by omega,hz⟩,by decide,by decide⟩,?_⟩⟩
 rintro⟨g,e,j⟩ hb ⟨p0,hp0⟩
 have hb:trP (jT s 20 0) s 0 (g,e,j):=hb
 obtain⟨hj,hcs⟩:=z22 hb
 have hj1:=hj.1
 have hj2:=hj.2.1
 refine⟨λhe=> ?_,λhe=>⟨hj,λh1=> ?_,λh1=> ?_⟩⟩
 ·rcases hcs with⟨k,a1,a2,a3⟩|⟨a1,a2,a3⟩|⟨a1,a2,a3⟩
  ·exact z0s (z4p a1) a3 a2
  ·exact absurd a2 he
  ·exact absurd a2 he
 ·refine z0s (k:=2) ?_ (by decide) rfl
  rcases hcs with⟨k,a1,a2,a3⟩|⟨a1,a2,a3⟩|⟨a1,a2,a3⟩
  ·exact absurd (show e=0 from he) (by omega)
  ·rw[z86 a1,if_pos (by have:((sk s j.toNat:Nat):Int)<s.size:=h1;omega)]
  ·exact z4p a1
 ·rcases hcs with⟨k,a1,a2,a3⟩|⟨a1,a2,a3⟩|⟨a1,a2,a3,a4,a5,a6⟩
  ·exact absurd (show e=0 from he) (by omega)
  ·exact z4t (g:=g) (j:=sk s j.toNat) (by rw[z86 a1,if_neg (by have:¬((sk s j.toNat:Nat):Int)<s.size:=h1;omega)]) λp hp=>hp.2
  ·exfalso
   have hb:trP (jT s 20 0) s 0 (g,e,j):=hb
   rcases hb with hb|⟨_,_,_,hx⟩
   ·rw[a1]at hb
    have:=hb.2.1
    have h2:e=0:=a2
    rw[h2]at this
    exact absurd this (by decide)
   ·have hx:isX (bat s j.toNat)=true:=hx
    have h3:=zaf hx
    have h4:=z68 hx
    have h5:=z0n (s:=s) (i:=j.toNat) (by omega)
    exact h1 (by show((sk s j.toNat:Nat):Int)<s.size;omega)
def zbf:q5b P 51 zif:=by
 refine ql1 mixed (λg C h=>by cases h) (W:=zkm) Go.Proofs.Tryd.func51 (by kernel_rfl) (by decide) (by decide) (λs=>by kernel_rfl) λ(⟨gs,nm,k⟩:List GJ×List ByteArray×ByteArray)=>(zbe gs nm k).mpr ?_
 rintro⟨h1,h2⟩
 simp only[sbS,Int.toNat_natCast,exists_const]
 refine⟨⟨0,rfl,Nat.zero_le _,rfl,rfl⟩,?_⟩
 rintro i ⟨g1,g2,g3⟩
 have stop:¬i<nm.length->(gtF gs nm k).k=0/\(gtF gs nm k).n=0/\(gtF gs nm k).s=mkS []/\(gtF gs nm k).y.1=noA/\(gtF gs nm k).y.2.1=0/\(gtF gs nm k).y.2.2=0/\(gtF gs nm k).x.1=noA/\(gtF gs nm k).x.2.1=0/\(gtF gs nm k).x.2.2=0/\inB k nm=false:=λh=>by
  rw[List.drop_eq_nil_of_le (by omega),List.drop_eq_nil_of_le (by omega)]at g2
  rw[List.drop_eq_nil_of_le (by omega)]at g3
  rw[←g2,←g3]
  exact⟨rfl,rfl,rfl,rfl,rfl,rfl,rfl,rfl,rfl,rfl⟩
 refine⟨λ_=>⟨λhi=>⟨λhj=>⟨⟨by omega,by omega⟩,nm[i]'(by omega),λj v hv=> ?_,λhe=>⟨⟨by omega,by omega⟩,(gs[i]'(by omega)).k,(gs[i]'(by omega)).n,(gs[i]'(by omega)).s,(gs[i]'(by omega)).y.1,(gs[i]'(by omega)).y.2.1,(gs[i]'(by omega)).y.2.2,(gs[i]'(by omega)).x.1,(gs[i]'(by omega)).x.2.1,(gs[i]'(by omega)).x.2.2,λj v hv=> ?_,?_⟩,λhe=>⟨⟨by omega,by omega⟩,i+1,by omega,⟨by omega,?_,?_⟩,by omega⟩⟩,λhj=>stop (by omega)⟩,λhi=>stop (by omega)⟩,λh=>absurd trivial h⟩
 all_goals have e1:gs.drop i=gs[i]'(by omega)::gs.drop (i+1):=List.drop_eq_getElem_cons (by omega)
 all_goals have e2:nm.drop i=nm[i]'(by omega)::nm.drop (i+1):=List.drop_eq_getElem_cons (by omega)
 ·have hj:j<1:=by
   by_cases h:j<1
   ·exact h
   ·rw[List.getElem?_eq_none (by simp;omega)]at hv;cases hv
  rw[Nat.zero_add,z2p z24 nm i (by omega) j hj]
  exact hv
 ·have hj:j<5:=by
   by_cases h:j<5
   ·exact h
   ·rw[List.getElem?_eq_none (by simp;omega)]at hv;cases hv
  rw[Nat.zero_add,z2p z0j gs i (by omega) j hj]
  exact hv
 ·have e3:gtF gs nm k=gs[i]'(by omega):=by rw[←g2,e1,e2,gtF,if_pos he]
  rw[e3,←g3,e2]
  exact⟨rfl,rfl,rfl,rfl,rfl,rfl,rfl,rfl,rfl,by unfold inB;simp[he]⟩
 ·rw[←g2,e1,e2,gtF,if_neg he]
 ·rw[←g3,e2];show inB k (nm.drop (i+1))=(decide (nm[i]'(by omega)=k)||inB k (nm.drop (i+1)));rw[decide_eq_false he,Bool.false_or]
end
section
def zag(s:ByteArray):∀(f j v:Nat),j<=(nqF s f j v).2.1/\(nqF s f j v).2.1<=j+f
  |0,j,v=>⟨Nat.le_refl _,Nat.le_refl _⟩
  | f + 1,j,v=>by
    rw[nqF]
    split
    · split
      · exact⟨Nat.le_refl _,Nat.le_add_right _ _⟩
      · have:=zag s f (j+1) (v*10+(bat s j- 48))
        exact⟨by omega,by omega⟩
    · exact⟨Nat.le_refl _,Nat.le_add_right _ _⟩
variable {s:ByteArray}
def zf4{i:Nat} (h:i<s.size):i<=(nqX s i).2.1/\(nqX s i).2.1<=s.size:=by
 have hm:=z2i h
 have:=zag s (s.size- nmM s i) (nmM s i) 0
 unfold nqX nq
 exact⟨by omega,by omega⟩
def zbs{a b:Nat} (ha:a<256) (hb:b<256):mkS [a]=mkS [b]↔a=b:=by
 constructor
 ·intro h
  have h2:UInt8.ofNat a=UInt8.ofNat b:=by
   have:=congrArg (λx:ByteArray=>x.data.toList) h
   simpa[mkS]using this
  have h3:=congrArg UInt8.toNat h2
  rw[UInt8.toNat_ofNat',UInt8.toNat_ofNat']at h3
  omega
 ·intro h;rw[h]
def wd1{j c:Nat} (h:c<256) (h0:c≠0):wdF s j (mkS [c])=decide (bat s j=c):=by
 unfold wdF
 have z:(mkS [c]).size=1:=rfl
 rw[z]
 by_cases hj:j<s.size
 ·rw[z63 s j hj,show decide (j+1<=s.size)=true from decide_eq_true hj,Bool.true_and,decide_eq_decide]
  exact zbs (z0c s j) h
 ·rw[show decide (j+1<=s.size)=false from decide_eq_false (by omega),z01 (by omega),Bool.false_and]
  exact(decide_eq_false λe=>h0 e.symm).symm
variable {i:Int} {c:Nat}
def zae(h:c<256) (h0:c≠0):isF s i 0 (mkS [c])=decide (pk s i.toNat=c):=by
 unfold isF;rw[wd1 h h0];rfl
variable {w:ByteArray}
def zii{i e:Int} (h:e≠0):isF s i e w=false:=by unfold isF;rw[decide_eq_false h];rfl
def z65(h:c<256) (h0:c≠0):isP s i 0 (mkS [c])=tkP s i.toNat c:=by
 unfold isP tkP;rw[zae h h0]
 by_cases e:pk s i.toNat=c
 ·rw[if_pos (decide_eq_true e),if_pos e];rfl
 ·rw[if_neg (by rw[decide_eq_false e];decide),if_neg e]
def ze5{i e:Int} (h:e≠0):isP s i e w=sk s i.toNat:=by unfold isP;rw[zii h];rfl
def zf2(h:c<256) (h0:c≠0):neE s i 0 (mkS [c])=if pk s i.toNat=c then 0 else 2:=by
 unfold neE;rw[zae h h0]
 by_cases e:pk s i.toNat=c
 ·rw[if_pos (decide_eq_true e),if_pos e]
 ·rw[if_neg (by rw[decide_eq_false e];decide),if_neg e,if_pos rfl]
def zij{i e:Int} (h:e≠0):neE s i e w=e:=by unfold neE;rw[zii h,if_neg (by decide),if_neg h]
def zbg{k n:Int} {t:ByteArray} {a:Option Addr} {gs:List GJ} {p:Pub} (h1:GJ.oks gs p) (hc:gs.length<=c) (hr:qj6 p a (List.take (gs.length*5) (z00 GJ.cells gs))):(GJ.mk k n t (a,gs.length,c) gs (none,0,0) []).ok p:=by
 have cl:(z00 GJ.cells gs).length=gs.length*5:=z04 z0j gs
 rw[List.take_of_length_le (by rw[cl];exact Nat.le_refl _)]at hr
 unfold GJ.ok
 exact⟨⟨rfl,hc,hr⟩,z2q,h1⟩
def z1z{R:JR} {g:GJ} {e j:Int} (h:rsP R s i (g,e,j)):rdK s j/\((∃k:Nat,R= .err k/\e=k/\k≠0)\/(R= .ok g.pj j.toNat/\e=0/\i<=j)):=by
  cases R with
  |err k=>exact⟨h.1, .inl ⟨k,rfl,h.2.1,h.2.2⟩⟩
  | ok x j'=>
    obtain⟨a,⟨b1,b2⟩,b3,b4⟩:=h
    exact⟨a, .inr ⟨by rw[b3,b4];rfl,b1,b2⟩⟩
def zei{i c:Nat} (h:bat s i=c) (hw:isW c=false):sk s i=i/\pk s i=c:=by
 have e:sk s i=i:=z6g (by rw[h];exact hw)
 exact⟨e,by unfold pk;rw[e];exact h⟩
def z8a (c:Nat) (ht:q2d P 15 (z15.below z7p c)):q2d P 31 (z4g.below z0r (c+1)):=by
 refine qk9 mixed (qdv (qhn z4s (qhn z4o qkn))) (qel (qhm ht qkm)) (W:=zar) Go.Proofs.Tryd.func31 (by kernel_rfl) (show 1<=2 by decide) (show 2<=2 by decide) (λs=>by kernel_rfl) λ⟨⟨s,(i:Int)⟩,(d:Int)⟩=>(zf1 c s i d).mpr ?_
 rintro⟨hmu,⟨h1,h2,h3⟩,⟨d1,d2⟩,hb⟩
 have hmu:lv d<c+1:=hmu
 obtain⟨i,rfl⟩:=Int.eq_ofNat_of_zero_le h1
 have hb:bat s i=91:=hb
 obtain⟨hs,hp⟩:=zei hb rfl
 have hi:i<s.size:=Nat.lt_of_not_le λh=>by rw[z01 h]at hb;cases hb
 have P1:isP s (i:Int) 0 (mkS [91])=i+1:=by rw[z65 (by decide) (by decide),Int.toNat_natCast,z05 hp,hs]
 have N1:neE s (i:Int) 0 (mkS [91])=0:=by rw[zf2 (by decide) (by decide),Int.toNat_natCast,if_pos hp]
 obtain⟨n,hn⟩:∃n,lv d=n+1:=⟨lv d- 1,by unfold lv;omega⟩
 have rk:∀{q:Nat},q<=s.size->rdK s (q:Int):=λh=>⟨by omega,by omega,h3⟩
 have z1:∀c:Nat,(mkS [c]).size<=10:=λc=>by show 1<=10;decide
 rw[P1,N1,zae (by decide) (by decide),z65 (by decide) (by decide),Int.toNat_natCast]
 simp only[sbS,Int.toNat_natCast,exists_const]
 have hq:=z0o s (i+1)
 have hl:=z0u (s:=s) (i:=i+1) (by omega)
 have JL:∀T,jLt s (some T) i=if pk s (i+1)=93 then .ok (.mk 5 0 (mkS []) [] []) (sk s (i+1)+1)else jL s T (s.size+1) (i+1) []:=λT=>z1r s T i
 refine⟨⟨rk (by omega),z1 91⟩,⟨rk (by omega),z1 93⟩,λhE=> ?_,λhE=>⟨?_,?_⟩⟩
 ·have hp1:=z0n (s:=s) (i:=i+1) (by omega)
  refine⟨(z08 5 0 (mkS []),0,(tkP s (i+1) 93:Nat)),rfl,rfl,rfl,rfl,rfl,rfl,rfl,rfl,rfl,rfl,rfl,?_,λp _=>z0b 5 0 _ p⟩
  refine z1x ?_
  rw[hn,z05 hE,z0g,Int.toNat_natCast,JL,if_pos hE]
  exact⟨rk hp1,⟨rfl,by omega⟩,rfl,z11 5 0 _⟩
 ·refine⟨([],(tkP s (i+1) 93:Nat),0),rfl,rfl,rfl,λp _=>z1y p,?_⟩
  rw[z0h hE]
  refine⟨rk hl, .inl ⟨rfl,rk hl,⟨show(i:Int)<(sk s (i+1):Nat)by omega,Nat.zero_le _⟩,n,s.size+1,hn,Nat.le_add_right _ _,?_⟩⟩
  show jL s (jT s n) (s.size+1) (sk s (i+1)) []=jLt s (jTo s (lv d)) i
  rw[hn,zeo,z0g,JL,if_neg hE]
 ·rintro ⟨gs,j,e⟩ ⟨hj,hI⟩ hmem
  have hj:rdK s j:=hj
  refine⟨λhe=> ?_,λhe=> ?_⟩
  ·have he :e=0:=he
   subst he
   rcases hI with⟨_,_,⟨hij,hgl⟩,n',f,hn',hf,hR⟩|⟨k,hk,he,_⟩
   case inr=>exact absurd he (by show¬(0:Int)=(k:Int);omega)
   have en:n'=n:=by omega
   rw[en]at hR
   obtain⟨j,rfl⟩:=Int.eq_ofNat_of_zero_le hj.1
   have hj2:(j:Int)<=s.size:=hj.2.1
   have hij:(i:Int)<j:=hij
   simp only[Int.toNat_natCast]at hf hR hgl⊢
   obtain⟨f,rfl⟩:∃f',f=f'+1:=⟨f- 1,by omega⟩
   have lv1:lv (d+1)=n:=by unfold lv at hn⊢;omega
   rw[z3p]at hR
   have cl:(z00 GJ.cells gs).length=gs.length*5:=z04 z0j gs
   refine⟨?_,?_,?_⟩
   all_goals
    refine⟨⟨by omega,by omega⟩,⟨show lv (d+1)<c by omega,hj,by omega,by omega⟩,?_⟩
    rintro⟨g,e,jt⟩ hb hp0
    have hb:rsP (jT s (lv (d+1)) j) s j (g,e,jt):=hb
    rw[lv1]at hb
    obtain⟨hjt,hcs⟩:=z1z hb
    obtain⟨jt,rfl⟩:=Int.eq_ofNat_of_zero_le hjt.1
    have hjt2:(jt:Int)<=s.size:=hjt.2.1
    have hjl:=z0u (s:=s) (i:=jt) (by omega)
    have hjg:=z0o s jt
    have muj:muE s (j:Int) 0=s.size+1- j:=rfl
    refine⟨cl,by omega,⟨hjt,z1 93⟩,?_,?_⟩
    all_goals rcases hcs with⟨k,a1,a2,a3⟩|⟨a1,a2,a3⟩
    ·have e0:e≠0:=by omega
     intro hF
     rw[zii e0]at hF;cases hF
    ·subst a2
     rw[zae (by decide) (by decide),Int.toNat_natCast]
     intro hF
     have hF:pk s jt=93:=of_decide_eq_true hF
     intro _ _ _ a n2 c2 hp2
     rw[a1,Int.toNat_natCast]at hR
     simp only[if_pos hF]at hR
     have hq1:=z0n (s:=s) (i:=jt) (by omega)
     refine⟨(.mk 5 0 (mkS []) (a,gs.length+1,c2) (gs++[g]) (none,0,0) [],0,(isP s (jt:Int) 0 (mkS [93]):Nat)),rfl,rfl,rfl,rfl,rfl,rfl,rfl,rfl,rfl,rfl,rfl,?_,λp hp=>z4l hp.1.1 hp.1.2 hp.2.1 hp.2.2⟩
     refine z1x ?_
     rw[Int.toNat_natCast,←hR,z65 (by decide) (by decide),Int.toNat_natCast,z05 hF]
     exact⟨rk hq1,⟨rfl,by omega⟩,rfl,by rw[GJ.pj,GJ.pjs_map,List.map_append];rfl⟩
    ·have e0:e≠0:=by omega
     intro _
     rw[ze5 e0,Int.toNat_natCast,ze5 e0,zij e0,Int.toNat_natCast,z03]
     rw[a1]at hR
     refine⟨⟨rk hjl,z1 44⟩,(gs++[g],(sk s jt:Nat),e),rfl,rfl,by simp,by rw[z02];rfl,λp hp=>z0e hp.1 hp.2,⟨rk hjl, .inr ⟨k,a3,a2,hR.symm⟩⟩,?_⟩
     show muE s (sk s jt:Nat) e<_
     rw[muj]
     unfold muE
     rw[if_neg e0];omega
    ·subst a2
     rw[zae (by decide) (by decide),Int.toNat_natCast]
     intro hF
     have hF:¬pk s jt=93:=of_decide_eq_false hF
     rw[z65 (by decide) (by decide),Int.toNat_natCast,z0h hF,z65 (by decide) (by decide),zf2 (by decide) (by decide),Int.toNat_natCast,z13]
     rw[a1,Int.toNat_natCast]at hR
     simp only[if_neg hF]at hR
     refine⟨⟨rk hjl,z1 44⟩,?_⟩
     by_cases a4:pk s jt=44
     ·rw[if_pos a4]at hR⊢
      rw[z05 (by rw[z13];exact a4),z03]
      have hq1:=z0n (s:=s) (i:=jt) (by omega)
      refine⟨(gs++[g],((sk s jt+1:Nat):Int),0),rfl,rfl,by simp,by rw[z02];rfl,λp hp=>z0e hp.1 hp.2,⟨rk hq1, .inl ⟨rfl,rk hq1,⟨show(i:Int)<((sk s jt+1:Nat):Int)by omega,?_⟩,n,f,hn,?_,?_⟩⟩,?_⟩
      ·show(gs++[g]).length<=sk s jt+1
       simp;omega
      ·show s.size+1<=f+(sk s jt+1)
       omega
      ·show jL s (jT s n) f (sk s jt+1) ((gs++[g]).map GJ.pj)=jLt s (jTo s (lv d)) i
       rw[←hR,List.map_append];rfl
      ·show s.size+1- (sk s jt+1)<s.size+1- j
       omega
     ·rw[if_neg a4]at hR⊢
      rw[z0h (by rw[z13];exact a4),z03]
      refine⟨(gs++[g],(sk s jt:Nat),2),rfl,rfl,by simp,by rw[z02];rfl,λp hp=>z0e hp.1 hp.2,⟨rk hjl, .inr ⟨2,by decide,rfl,hR.symm⟩⟩,?_⟩
      show 0<s.size+1- j
      omega
  ·have he:e≠0:=he
   rcases hI with⟨e0,_⟩|⟨k,hk,hek,hR⟩
   ·exact absurd e0 he
   intro _ _ _ a n2 c2 hp2
   refine⟨(.mk 5 0 (mkS []) (a,gs.length,c2) gs (none,0,0) [],e,j),rfl,rfl,rfl,rfl,rfl,rfl,rfl,rfl,rfl,rfl,rfl,?_,λp hp=>zbg hp.1 hp.2.1 hp.2.2⟩
   exact z1x (by rw[hR];exact z0t hj hk hek)
end
end
end Go.Proofs.YtldhaghgonkknaaDoor.Wd
