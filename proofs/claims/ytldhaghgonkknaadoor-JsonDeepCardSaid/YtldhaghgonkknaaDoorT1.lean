/-
  What the functions do: contracts, and their questions answered. No condition but what its theorems ask.
-/
import Derived.Test.YtldhaghgonkknaaDoorU6
import Derived.Test.YtldhaghgonkknaaDoorProg
import Derived.Laws.BitsAllLaws
import Derived.Test.YtldhaghgonkknaaDoorSh
import Derived.Lib.ConvBytes
import Derived.Lib.ParseIntBCases
import Derived.WalkKit
import Derived.ProofKit
import Derived.OpenShut
import Derived.WalkLawsBesides
import Derived.WalkSpells
import Derived.Outline
import Derived.Lib.Builder
import Derived.Lib.UnsafeStr
namespace Go.Proofs.YtldhaghgonkknaaDoor.Wd
open Go.Proofs.YtldhaghgonkknaaDoor.Eng Go.Proofs.YtldhaghgonkknaaDoor.Sen Go.RowKit
set_option linter.defProp false
set_option linter.unusedVariables false
set_option linter.unusedSimpArgs false
set_option maxRecDepth 1000000
open Go.Value (int string slice bool)
open Go.IntKind (i64 u64 u8 u32 i32)
open _root_.List (length take drop)
open _root_.ByteArray (size)
open _root_.Int (toNat)
noncomputable section
abbrev P:=Go.Proofs.Tryd.prog
def mixed:P.follows .mixedOrders=true:=by decide+kernel
theorem aok{calls:Nat->Option Ct} (hc:∀g C,calls g=some C->q5b P g C) {f:Nat} {fn:Func} {C:Ct} {W:C.σ->WayF} (hfn:P.funcs[f]? =some fn) (hv:∀s,qky P calls fn C W s) (hb:q3i P f fn=true:=by kernel_rfl) (h1:1<=C.m:=by exact Nat.le_of_ble_eq_true rfl) (hle:C.m<=C.m':=by exact Nat.le_of_ble_eq_true rfl) (hn:∀s,Nat.ble (C.args s).length fn.ntmps=true:=by exactλ_=>by kernel_rfl):q5b P f C:=ql1 mixed hc hfn hb h1 hle hn hv
theorem aokX{calls:Nat->Option Ct} (hc:∀g C,calls g=some C->q5b P g C) {rel:Nat->Option CtR} (hrel:∀g C,rel g=some C->q2d P g C) {f:Nat} {fn:Func} {C:Ct} {W:C.σ->WayF} (hfn:P.funcs[f]? =some fn) (hv:∀s,ql0 P calls rel fn C W s) (hb:q3i P f fn=true:=by kernel_rfl) (h1:1<=C.m:=by exact Nat.le_of_ble_eq_true rfl) (hle:C.m<=C.m':=by exact Nat.le_of_ble_eq_true rfl) (hn:∀s,Nat.ble (C.args s).length fn.ntmps=true:=by exactλ_=>by kernel_rfl):q5b P f C:=qka mixed hc hrel hfn hb h1 hle hn hv
theorem aokR{calls:Nat->Option Ct} (hc:∀g C,calls g=some C->q5b P g C) {rel:Nat->Option CtR} (hrel:∀g C,rel g=some C->q2d P g C) {f:Nat} {fn:Func} {C:CtR} {W:C.σ->WayF} (hfn:P.funcs[f]? =some fn) (hv:∀s,qkz P calls rel fn C W s) (hb:q3i P f fn=true:=by kernel_rfl) (h1:1<=C.m:=by exact Nat.le_of_ble_eq_true rfl) (hle:C.m<=C.m':=by exact Nat.le_of_ble_eq_true rfl) (hn:∀s,Nat.ble (C.args s).length fn.ntmps=true:=by exactλ_=>by kernel_rfl):q2d P f C:=qk9 mixed hc hrel hfn hb h1 hle hn hv
theorem sbS:(∀(p:Prop) [Decidable p],(decide p=true)=p)/\(∀(p:Prop) [Decidable p],(decide p=false)=¬p)/\(∀b:Bool,((!b)=true)=(b=false))/\(∀b:Bool,((!b)=false)=(b=true))/\(∀p,(True/\p)=p)/\(∀p,(p/\True)=p)/\(∀(α:Type) (a:α),(a=a)=True)/\(∀p:Prop,(p->p)=True)/\(∀α:Type,(α->True)=True)/\(∀p:Prop,(p->True)=True):=⟨λ_ _=>by simp,λ_ _=>by simp,by simp,by simp,by simp,by simp,by simp,by simp,by simp,by simp⟩
abbrev Jb(a:Int):Prop:=(-9223372036854775808:Int)<=a/\a<=9223372036854775807
abbrev Jt(p:Prop) [Decidable p]:Prop:=decide p=true
abbrev Jf(p:Prop) [Decidable p]:Prop:=decide p=false
abbrev Ji(p:Prop) [Decidable p] (a b:Prop):Prop:=(Jt p->a)/\(Jf p->b)
def z0v:∀g C,(λ_=>none:Nat->Option Ct) g=some C->q5b P g C:=λg C h=>by cases h
def slI(t:T AV) (k:Nat):Option Int:=match t.get k with
  | some a=>match gi a with
    |some (_,i)=>some i
    |none=>none
  |none=>none
def z4e:Pl noA:=trivial
def z01{α:Type} (f:α->List Value):List α->List Value
 | []=>[]
 |x::l=>f x++z01 f l
def z07{α:Type} {f:α->List Value} {e:Nat} (hf:∀x,(f x).length=e):∀l,(z01 f l).length=l.length*e
  | []=>by simp[z01]
  | x::l=>by
    rw[z01,List.length_append,hf,z07 hf l,List.length_cons,Nat.succ_mul];omega
def z0d{α:Type} {f:α->List Value}:∀l m,z01 f (l++m)=z01 f l++z01 f m
  | [],m=>rfl
  | x::l,m=>by
    show f x++z01 f (l++m)=_
    rw[z0d l m,←List.append_assoc];rfl
def z5n{α:Type} {f:α->List Value} {e:Nat} (hf:∀x,(f x).length=e):∀(l:List α) (i:Nat) (hi:i<l.length) (j:Nat),j<e->(z01 f l)[i*e+j]? =(f l[i])[j]?
  | x::l,0,_,j,hj=>by
    show(f x++z01 f l)[0*e+j]? =_
    rw[Nat.zero_mul,Nat.zero_add,List.getElem?_append_left (by rw[hf];exact hj)];rfl
  | x::l,i+1,hi,j,hj=>by
    show(f x++z01 f l)[(i+1)*e+j]? =_
    have:(i+1)*e=i*e+e:=Nat.succ_mul i e
    rw[List.getElem?_append_right (by rw[hf];omega),show(i+1)*e+j- (f x).length=i*e+j by rw[hf];omega]
    exact z5n hf l i (by simpa using hi) j hj
def zm9(x:Addr) (h:x.spot=none) (i j:Nat):(x.add i).add j=x.add (i+j):=by
 obtain⟨b,o,s⟩:=x
 simp only at h
 subst h
 unfold Addr.add
 by_cases hi:i=0
 ·subst hi;simp
 ·by_cases hj:j=0
  ·subst hj;simp[hi]
  ·rw[if_neg hi,if_neg hj,if_neg (by omega)]
   simp only[Nat.add_assoc]
def z40{α:Type} {f:α->List Value} {e:Nat} (hf:∀x,(f x).length=e) (he:0<e) {p:Pub} {a:Option Addr} {n c:Nat} {l:List α} (h:qhq p a n c (z01 f l)) {i:Nat} (hi:i<l.length):a≠noA/\q3g p (adr a (i*e)) (f l[i]):=by
 rcases h.2 with h|⟨x,rfl,h1,h2⟩
 ·have:=congrArg List.length h.1
  rw[z07 hf,List.length_nil]at this
  have:=Nat.mul_pos (show 0<l.length by omega) he
  omega
 ·refine⟨by simp,λj v hj=> ?_⟩
  have hje:j<e:=by have:=(List.getElem?_eq_some_iff.mp hj).1;rw[hf]at this;exact this
  show q6f p ((x.add (i*e)).add j)=some v
  rw[zm9 x h1]
  exact h2 _ v (by rw[z5n hf l i hi j hje];exact hj)
section
def f1s:List Value->Option ByteArray
 | [.string s]=>some s
 |_=>none
def fsi:List Value->Option (ByteArray×Int)
 | [.string s, .int _ c]=>some (s,c)
 |_=>none
def f1i:List Value->Option Int
 | [.int _ c]=>some c
 |_=>none
def z0u(s:ByteArray) (j:Nat):bat s j<256:=by unfold bat;exact UInt8.toNat_lt _
variable {s:ByteArray}
def z03{j:Nat} (h:s.size<=j):bat s j=0:=by
 unfold bat
 rw[getElem?_neg s j (by omega)];rfl
def z3b{j:Nat} (h:j<s.size):bat s j=s[j].toNat:=by
 unfold bat
 rw[getElem?_pos s j h];rfl
def ldN(c:Nat):Nat:=if c<128 then 1 else if 192<=c/\c<224 then 2 else if 224<=c/\c<240 then 3 else if 240<=c/\c<248 then 4 else 0
def ldV(c:Nat):Nat:=if c<128 then c else if 192<=c/\c<224 then c- 192 else if 224<=c/\c<240 then c- 224 else if 240<=c/\c<248 then c- 240 else 0
def ctC(c:Nat):Bool:=decide (128<=c)&&decide (c<192)
def vlF(s:ByteArray):Nat->Option Nat
  |0=>some 0
  |1=>some (ldV (bat s 0))
  | i+2=>match vlF s (i+1)with
    |some r=>if ctC (bat s (i+1))=true then some (r*64+(bat s (i+1)- 128))else none
    |none=>none
def lnN(r:Nat):Nat:=if r<128 then 1 else if r<2048 then 2 else if r<65536 then 3 else 4
def isC(r:Nat):Bool:=decide (r<=1114111)&& !(decide (55296<=r)&&decide (r<=57343))
def frt(s:ByteArray):Nat:=if s.size<ldN (bat s 0)then 0 else match vlF s (ldN (bat s 0))with
 |none=>0
 |some r=>if ldN (bat s 0)=0\/isC r=false\/lnN r≠ldN (bat s 0)then 0 else ldN (bat s 0)
def z63:Nat->ByteArray->Bool
 |0,_=>true
 |f+1,s=>if s.size=0 then true else if frt s=0 then false else z63 f (s.extract (frt s) s.size)
def vld(s:ByteArray):Bool:=z63 s.size s
def z9v:Ct:=ctS Int (λc=>[.int .u8 c]) f1i (λc=>0<=c/\c<256) (λ_=>{}) λc=> .tup [.sv (.int .i64 (ldN c.toNat:Nat)), .sv (.int .u32 (ldV c.toNat:Nat))]
def cIs:Ct:=ctS Int (λc=>[.int .u32 c]) f1i (λc=>0<=c/\c<4294967296) (λ_=>{}) λc=> .sv (.bool (isC c.toNat))
def z1j:Ct:=ctS Int (λc=>[.int .u32 c]) f1i (λc=>0<=c/\c<4294967296) (λ_=>{}) λc=> .sv (.int .i64 (lnN c.toNat:Nat))
def z3e:Ct:=ctS ByteArray (λs=>[.string s]) f1s (λs=>0<s.size/\s.size<9223372036854775808) (λ_=>{}) λs=> .sv (.int .i64 (frt s:Nat))
def z1f:Ct:=ctS ByteArray (λs=>[.string s]) f1s (λs=>s.size<9223372036854775808) (λ_=>{}) λs=> .sv (.bool (vld s))
def slS(t:T AV) (k:Nat):Option ByteArray:=match t.get k with
 |some a=>gs a
 |none=>none
def z9i:z3e.σ->WayF:=λs=>{ann:=λ_ _ _=>some {σ:=Int×Int,pre:=λ⟨r,i⟩=>1<=i/\(i<=ldN (bat s 0)\/i=1)/\∃q:Nat,r=q/\(ldN (bat s 0)=0\/vlF s i.toNat=some q),find:=some λt _=>match slI t 4 with|some r=>(match slI t 5 with|some i=>some (r,i)|none=>none)|none=>none,t:=λ⟨r,i⟩=>[(4, .sv (.int .u32 r)),(5, .sv (.int .i64 i))],h:=λ_=>[],more:=0,μ:=λ⟨r,i⟩=>5- i.toNat,keep:=[0,2,3]}}
def z9g:Nat->Option Ct:=qg8 [(64,z9v),(65,cIs),(66,z1j)]
def z9m:z1f.σ->WayF:=λs=>{ann:=λ_ _ _=>some {σ:=ByteArray,pre:=λt=>t.size<=s.size/\vld t=vld s,find:=some λt _=>slS t 0,t:=λu=>[(0, .sv (.string u))],h:=λ_=>[],more:=0,μ:=λu=>u.size,keep:=[2]}}
def ze5:Nat->Option Ct:=qg8 [(52,z3e)]
end
def zds(c:Nat):ldN c<=4:=by
 unfold ldN;repeat' split
 all_goals omega
def zdt(c:Nat):ldV c<128:=by
 unfold ldV;repeat' split
 all_goals omega
section
variable (x0 x1 x2:Int)
 abbrev zhh:=(↑(ldN (toNat x0)):Int)=1/\(↑(ldV (toNat x0)):Int)=IntKind.wrap u32 x0/\True
 abbrev zfq:=shP BinOp.shr u8 x0 x1=x2
 def zfp:=(↑(ldN (toNat x0)):Int)=x1/\(↑(ldV (toNat x0)):Int)=IntKind.wrap u32 (qbh BinOp.and u8 x0 x2)/\True
 def zhi:=(↑(ldN (toNat x0)):Int)=0/\(↑(ldV (toNat x0)):Int)=0/\True
 def zhg:=(0:Int)<=3/\Ji (zfq x0 3 30) (zfp x0 4 7) (zhi x0)
 def zhf:=(0:Int)<=4/\Ji (zfq x0 4 14) (zfp x0 3 15) (zhg x0)
 def zhe:=(0:Int)<=5/\Ji (zfq x0 5 6) (zfp x0 2 31) (zhf x0)
 def zhd:=Ji (x0<128) (zhh x0) (zhe x0)
end
def z76(c:Int):qky P ((λ_=>none)) Go.Proofs.Tryd.f64 z9v (λ_=>{}) c=(0<=c/\c<256->zhd c):=by kernel_rfl
def zai:=λc=>Eq.trans (z76 c) (by delta Ji Jt Jf zhh zfq zfp zhi zhg zhf zhe zhd;exact rfl)
def zgb:∀c<256,¬c<128->(decide (shP BinOp.shr IntKind.u8 (c:Nat) 5=6)=(decide (192<=c)&&decide (c<224)))/\(decide (shP BinOp.shr IntKind.u8 (c:Nat) 4=14)=(decide (224<=c)&&decide (c<240)))/\(decide (shP BinOp.shr IntKind.u8 (c:Nat) 3=30)=(decide (240<=c)&&decide (c<248))):=by decide+kernel
def zgc:∀c<256,IntKind.wrap IntKind.u32 ((c:Nat):Int)=(c:Nat)/\(192<=c->c<224->IntKind.wrap IntKind.u32 (qbh BinOp.and IntKind.u8 (c:Nat) 31)=((c- 192:Nat):Int))/\(224<=c->c<240->IntKind.wrap IntKind.u32 (qbh BinOp.and IntKind.u8 (c:Nat) 15)=((c- 224:Nat):Int))/\(240<=c->c<248->IntKind.wrap IntKind.u32 (qbh BinOp.and IntKind.u8 (c:Nat) 7)=((c- 240:Nat):Int)):=by decide+kernel
def zaj:q5b P 64 z9v:=by
 refine ql1 mixed z0v (W:=λ_=>{}) Go.Proofs.Tryd.func64 (by kernel_rfl) (by decide) (by decide) (λc=>by kernel_rfl) λ(c:Int)=>(zai c).mpr ?_
 rintro⟨h1,h2⟩
 obtain⟨n,rfl⟩:=Int.eq_ofNat_of_zero_le h1
 have hn:n<256:=by omega
 obtain⟨b0,b1,b2,b3⟩:=zgc n hn
 simp only[Int.toNat_natCast,and_true,decide_eq_true_eq,decide_eq_false_iff_not]
 refine⟨λh=> ?_,λh=>⟨by omega,?_⟩⟩
 ·unfold ldN ldV;rw[if_pos (by omega),if_pos (by omega),b0];simp
 have hg:¬n<128:=by omega
 obtain⟨a1,a2,a3⟩:=zgb n hn hg
 have a1:(shP BinOp.shr IntKind.u8 (n:Nat) 5=6)↔(192<=n/\n<224):=by
  rw[←decide_eq_true_iff (p:=shP BinOp.shr IntKind.u8 (n:Nat) 5=6),a1];simp
 have a2:(shP BinOp.shr IntKind.u8 (n:Nat) 4=14)↔(224<=n/\n<240):=by
  rw[←decide_eq_true_iff (p:=shP BinOp.shr IntKind.u8 (n:Nat) 4=14),a2];simp
 have a3:(shP BinOp.shr IntKind.u8 (n:Nat) 3=30)↔(240<=n/\n<248):=by
  rw[←decide_eq_true_iff (p:=shP BinOp.shr IntKind.u8 (n:Nat) 3=30),a3];simp
 rw[a1,a2,a3]
 refine⟨λg=> ?_,λg=>⟨by omega,λg2=> ?_,λg2=>⟨by omega,λg3=> ?_,λg3=> ?_⟩⟩⟩
 ·unfold ldN ldV
  rw[if_neg hg,if_pos g,if_neg hg,if_pos g,b1 g.1 g.2];simp
 ·unfold ldN ldV
  rw[if_neg hg,if_neg g,if_pos g2,if_neg hg,if_neg g,if_pos g2,b2 g2.1 g2.2];simp
 ·unfold ldN ldV
  rw[if_neg hg,if_neg g,if_neg g2,if_pos g3,if_neg hg,if_neg g,if_neg g2,if_pos g3,b3 g3.1 g3.2];simp
 ·unfold ldN ldV
  rw[if_neg hg,if_neg g,if_neg g2,if_neg g3,if_neg hg,if_neg g,if_neg g2,if_neg g3];simp
def zdp(c:Int):qky P ((λ_=>none)) Go.Proofs.Tryd.f65 cIs (λ_=>{}) c=((0:Int)<=c/\c<(4294967296:Int)->(decide (c<=(1114111:Int))=true->(0:Int)<=(11:Int)/\isC (Int.toNat c)= !decide (shP BinOp.shr IntKind.u32 c (11:Int)=(27:Int))/\True)/\(decide (c<=(1114111:Int))=false->isC (Int.toNat c)=false/\True)):=by kernel_rfl
def zaf:q5b P 65 cIs:=by
 refine ql1 mixed z0v (W:=λ_=>{}) Go.Proofs.Tryd.func65 (by kernel_rfl) (by decide) (by decide) (λc=>by kernel_rfl) λ(c:Int)=>(zdp c).mpr ?_
 rintro⟨h1,h2⟩
 obtain⟨n,rfl⟩:=Int.eq_ofNat_of_zero_le h1
 simp only[Int.toNat_natCast,and_true,decide_eq_true_eq,decide_eq_false_iff_not,isC]
 refine⟨λh=>⟨by omega,?_⟩,λh=> ?_⟩
 ·have:shP BinOp.shr IntKind.u32 (n:Nat) 11=((n / 2048:Nat):Int):=by
   show(n:Int).fdiv (2 ^ 11)=_
   rw[Int.fdiv_eq_ediv_of_nonneg _ (by decide)];omega
  rw[this]
  by_cases g:55296<=n/\n<=57343
  ·have e:n / 2048=27:=by omega
   rw[e];simp;omega
  ·have e:n / 2048≠27:=by omega
   have e2:¬((n / 2048:Nat):Int)=27:=by omega
   rw[decide_eq_false e2]
   simp;omega
 ·rw[decide_eq_false (by omega)];rfl
def z3x(c:Int):qky P ((λ_=>none)) Go.Proofs.Tryd.f66 z1j (λ_=>{}) c=((0:Int)<=c/\c<(4294967296:Int)->(decide (c<(128:Int))=true->(↑(lnN (toNat c)):Int)=(1:Int)/\True)/\(decide (c<(128:Int))=false->(decide (c<(2048:Int))=true->(↑(lnN (toNat c)):Int)=(2:Int)/\True)/\(decide (c<(2048:Int))=false->(decide (c<(65536:Int))=true->(↑(lnN (toNat c)):Int)=(3:Int)/\True)/\(decide (c<(65536:Int))=false->(↑(lnN (toNat c)):Int)=(4:Int)/\True)))):=by kernel_rfl
def z29:q5b P 66 z1j:=by
 refine ql1 mixed z0v (W:=λ_=>{}) Go.Proofs.Tryd.func66 (by kernel_rfl) (by decide) (by decide) (λc=>by kernel_rfl) λ(c:Int)=>(z3x c).mpr ?_
 rintro⟨h1,h2⟩
 simp only[and_true,decide_eq_true_eq,decide_eq_false_iff_not,lnN]
 refine⟨λh=> ?_,λh=>⟨λg=> ?_,λg=>⟨λk=> ?_,λk=> ?_⟩⟩⟩
 ·rw[if_pos (by omega)];rfl
 ·rw[if_neg (by omega),if_pos (by omega)];rfl
 ·rw[if_neg (by omega),if_neg (by omega),if_pos (by omega)];rfl
 ·rw[if_neg (by omega),if_neg (by omega),if_neg (by omega)];rfl
def ct1:∀c<256,decide (shP BinOp.shr IntKind.u8 (c:Nat) 6=2)=ctC c:=by decide+kernel
def ct2:∀c<256,ctC c=true->IntKind.wrap IntKind.u32 (qbh BinOp.and IntKind.u8 (c:Nat) 63)=((c- 128:Nat):Int)/\c- 128<64:=by decide+kernel
def z62(s:ByteArray):∀(i r:Nat),vlF s i=some r->i<=4->r<128*64 ^ (i- 1)
  |0,r,h,_=>by simp[vlF]at h;subst h;decide
  | 1,r,h,_=>by
    simp[vlF]at h
    have:=zdt (bat s 0)
    rw[h]at this;simpa using this
  | i + 2,r,h,hi=>by
    simp only[vlF]at h
    split at h
    · rename_i q hq
      have ih:=z62 s (i+1) q hq (by omega)
      split at h
      · rename_i hc
        cases h
        have:=z0u s (i+1)
        simp[ctC]at hc
        have e:i+1- 1=i:=by omega
        have e2:i+2- 1=i+1:=by omega
        rw[e]at ih
        rw[e2,Nat.pow_succ]
        omega
      · cases h
    · cases h
def zmc(r d:Nat) (hr:r<67108864) (hd:d<64):qbh BinOp.or IntKind.u32 (shP BinOp.shl IntKind.u32 (r:Int) 6) (d:Int)=((r*64+d:Nat):Int):=by
 have e:shP BinOp.shl IntKind.u32 (r:Int) 6=((r*64:Nat):Int):=by
  show IntKind.u32.wrap ((r:Int)*2 ^ 6)=_
  unfold IntKind.wrap;simp[IntKind.bits,IntKind.signed];omega
 rw[e]
 have h0:=u32_or_nat (r*64) d (by omega) (by omega)
 have h1:qbh BinOp.or IntKind.u32 ((r*64:Nat):Int) (d:Int)=bits .or .u32 ((r*64:Nat):Int) (d:Int):=rfl
 rw[h1,h0]
 congr 1
 have h:=Nat.two_pow_add_eq_or_of_lt (i:=6) (b:=d) hd r
 rw[show 2 ^ 6*r=r*64 by omega]at h
 exact h.symm
def z7y(s:ByteArray) (i j:Nat) (hij:i<=j) (h1:1<=i) (h:vlF s i=none):vlF s j=none:=by
  induction j with
  |zero=>omega
  | succ j ih=>
    by_cases e:i=j+1
    · subst e;exact h
    · have:=ih (by omega)
      cases j with
      |zero=>omega
      |succ j=>simp only[vlF];rw[this]
section
variable (x0:ByteArray) (x1:Int×Int)
 abbrev z69:=(↑(ldN (toNat (↑(bat x0 0):Int))):Int)
 def zdb:=(↑(frt x0):Int)=0/\True
 abbrev z83:=(↑(ldV (toNat (↑(bat x0 0):Int))):Int)
 def zbr:= !decide (shP BinOp.shr u8 (↑(bat x0 (toNat x1.2)):Int) (6:Int)=2)
 abbrev z82:=IntKind.wrap u32 (qbh BinOp.and u8 (↑(bat x0 (toNat x1.2)):Int) 63)
 def zhn:=(0:Int)<=6/\(0<=x1.2/\x1.2<(↑(size x0):Int))/\Jb (x1.2+1)/\x0=x0/\(z69 x0)=(z69 x0)/\x1.2+1=x1.2+1/\qbh BinOp.or u32 (shP BinOp.shl u32 x1.1 6) (z82 x0 x1)=qbh BinOp.or u32 (shP BinOp.shl u32 x1.1 6) (z82 x0 x1)/\(1<=x1.2+1/\(x1.2+1<=(↑(ldN (bat x0 0)):Int)\/x1.2+1=1)/\∃(i0:Nat),qbh BinOp.or u32 (shP BinOp.shl u32 x1.1 6) (z82 x0 x1)=(↑i0:Int)/\(ldN (bat x0 0)=0\/vlF x0 (toNat (x1.2+1))=some i0))/\(5:Nat)- toNat (x1.2+1)<5- toNat x1.2/\True
 def zhm:=(0<=x1.2/\x1.2<(↑(size x0):Int))/\(0:Int)<=6/\((zbr x0 x1)=true->zdb x0)/\((zbr x0 x1)=false->zhn x0 x1)
 def zhq:=x1.1=x1.1/\(0<=x1.1/\x1.1<4294967296)/\((!decide ((↑(lnN (toNat x1.1)):Int)=(z69 x0)))=true->zdb x0)/\((!decide ((↑(lnN (toNat x1.1)):Int)=(z69 x0)))=false->(↑(frt x0):Int)=(z69 x0)/\True)
 def zhp:=x1.1=x1.1/\(0<=x1.1/\x1.1<4294967296)/\((!isC (toNat x1.1))=true->zdb x0)/\((!isC (toNat x1.1))=false->zhq x0 x1)
 def zho:=Ji ((z69 x0)=0) (zdb x0) (zhp x0 x1)
 def zhl:=Ji (x1.2<(z69 x0)) (zhm x0 x1) (zho x0 x1)
 def zhk:=(x0=x0/\(z69 x0)=(z69 x0)/\(1:Int)=1/\(z83 x0)=(z83 x0)/\((1:Int)<=1/\(1<=(↑(ldN (bat x0 0)):Int)\/(1:Int)=1)/\∃(i0:Nat),(z83 x0)=(↑i0:Int)/\(ldN (bat x0 0)=0\/vlF x0 (1:Nat)=some i0))/\True)/\∀(i1:Int×Int),(1<=i1.2/\(i1.2<=(↑(ldN (bat x0 0)):Int)\/i1.2=1)/\∃(i2:Nat),i1.1=(↑i2:Int)/\(ldN (bat x0 0)=0\/vlF x0 (toNat i1.2)=some i2))->zhl x0 i1
 def zhj:=((0:Int)<=0/\0<(↑(size x0):Int))/\(↑(bat x0 0):Int)=(↑(bat x0 0):Int)/\(0<=(↑(bat x0 0):Int)/\(↑(bat x0 0):Int)<256)/\Ji ((↑(size x0):Int)<(z69 x0)) (zdb x0) (zhk x0)
end
def z56(s:ByteArray):qky P (z9g) Go.Proofs.Tryd.f52 z3e (z9i) s=(0<size s/\size s<9223372036854775808->zhj s):=by kernel_rfl
def front_eq:=λs=>Eq.trans (z56 s) (by delta Ji Jb Jt Jf z69 zdb z83 zbr z82 zhn zhm zhq zhp zho zhl zhk zhj;exact rfl)
def z5s:∀g C,z9g g=some C->q5b P g C:=qdv (qhn zaj (qhn zaf (qhn z29 qkn)))
def z70:q5b P 52 z3e:=by
 refine ql1 mixed z5s (W:=z9i) Go.Proofs.Tryd.func52 (by kernel_rfl) (by decide) (by decide) (λc=>by kernel_rfl) λ(s:ByteArray)=>(front_eq s).mpr ?_
 rintro⟨h1,h2⟩
 have b0:=z0u s 0
 simp only[Int.toNat_natCast,Int.toNat_zero,and_true,true_and,decide_eq_true_eq,decide_eq_false_iff_not,Bool.not_eq_true',Bool.not_eq_false']
 obtain⟨n,hn⟩:∃n,n=ldN (bat s 0):=⟨_,rfl⟩
 have hn4:=zds (bat s 0)
 have hfr:frt s=if s.size<n then 0 else match vlF s n with
  |none=>0
  |some r=>if n=0\/isC r=false\/lnN r≠n then 0 else n:=by rw[hn];rfl
 rw[←hn]at hn4⊢
 refine⟨by omega,by omega,λg=> ?_,λg=>⟨⟨by omega, .inr trivial,ldV (bat s 0),rfl, .inr rfl⟩,?_⟩⟩
 ·rw[hfr,if_pos (by omega)];rfl
 rintro⟨r,i⟩ ⟨i1,i2,q,hq,hv⟩
 simp only at i1 i2 hq hv⊢
 obtain⟨m,rfl⟩:=Int.eq_ofNat_of_zero_le (show 0<=i by omega)
 have em:((m:Int)+1).toNat=m+1:=by omega
 simp only[Int.toNat_natCast,em]at hv⊢
 subst hq
 simp only[Int.toNat_natCast]at hv⊢
 rw[if_neg (by omega)]at hfr
 refine⟨λk=>⟨by omega,by omega,?_⟩,λk=>⟨λk2=> ?_,λk2=> ?_⟩⟩
 ·have bm:=z0u s m
  have c1:shP BinOp.shr IntKind.u8 ((bat s m:Nat):Int) 6=2↔ctC (bat s m)=true:=by rw[←ct1 (bat s m) bm,decide_eq_true_iff]
  rw[c1]
  have hv:vlF s m=some q:=by
   rcases hv with h|h
   ·omega
   ·exact h
  have hbd:=z62 s m q hv (by omega)
  have hq26:q<67108864:=by
   have:m<=3:=by omega
   rcases m with _|_|_|_|m<;>simp at hbd<;>omega
  obtain⟨m',rfl⟩:∃m',m=m'+1:=⟨m- 1,by omega⟩
  refine⟨λk3=> ?_,λk3=>⟨by omega,by omega,by omega,⟨by omega,by omega,?_⟩,by omega⟩⟩
  ·have:vlF s (m'+2)=none:=by simp only[vlF];rw[hv];simp[k3]
   rw[hfr,z7y s (m'+2) n (by omega) (by omega) this];rfl
  ·obtain⟨c2,c3⟩:=ct2 (bat s (m'+1)) bm k3
   rw[c2]
   refine⟨_,zmc q _ hq26 c3, .inr ?_⟩
   simp only[vlF]
   rw[hv];simp[k3]
 ·have h0:n=0:=by omega
  rw[hfr,h0];simp[vlF]
 ·have hn0:n≠0:=by omega
  have hm:m=n:=by omega
  have hv:vlF s n=some q:=by
   rcases hv with h|h
   ·omega
   ·rw[←hm];exact h
  have hbd:=z62 s n q hv (by omega)
  have hq32:q<4294967296:=by
   rcases n with _|_|_|_|_|n<;>simp at hbd<;>omega
  rw[hv]at hfr
  simp only at hfr
  refine⟨by omega,λk3=> ?_,λk3=>⟨by omega,λk4=> ?_,λk4=> ?_⟩⟩
  ·rw[hfr,if_pos (.inr (.inl k3))];rfl
  ·rw[hfr,if_pos (.inr (.inr (by omega)))];rfl
  ·rw[hfr,if_neg]
   rw[k3];simp;omega
def zdn(s:ByteArray):frt s<=s.size:=by
 unfold frt
 split
 ·omega
 ·split
  ·omega
  ·split<;>omega
def z2i:∀(f g:Nat) (s:ByteArray),s.size<=f->s.size<=g->z63 f s=z63 g s
  |0,0,s,_,_=>rfl
  |0,g+1,s,h,_=>by rw[z63,z63,if_pos (by omega)]
  |f+1,0,s,_,h=>by rw[z63,z63,if_pos (by omega)]
  | f +1,g+1,s,h1,h2=>by
    rw[z63,z63]
    split
    · rfl
    · split
      · rfl
      · exact z2i f g _ (by simp;omega) (by simp;omega)
def z3t(s:ByteArray) (h:0<s.size):vld s=if frt s=0 then false else vld (s.extract (frt s) s.size):=by
 unfold vld
 obtain⟨f,hf⟩:∃f,s.size=f+1:=⟨s.size- 1,by omega⟩
 rw[hf,z63,if_neg (by omega)]
 split
 ·rfl
 ·rw[hf]
  refine z2i _ _ _ ?_ (Nat.le_refl _)
  simp;omega
def zbo(s:ByteArray) (h:s.size=0):vld s=true:=by unfold vld;rw[h];rfl
def z7x(s:ByteArray):qky P (ze5) Go.Proofs.Tryd.f35 z1f (z9m) s=(size s<(9223372036854775808:Nat)->(s=s/\(size s<=size s/\vld s=vld s)/\True)/\∀(s_1:ByteArray),size s_1<=size s/\vld s_1=vld s->(decide ((0:Int)<(↑(size s_1):Int))=true->s_1=s_1/\((0:Nat)<size s_1/\size s_1<(9223372036854775808:Nat))/\(decide ((↑(frt s_1):Int)=(0:Int))=true->vld s=false/\True)/\(decide ((↑(frt s_1):Int)=(0:Int))=false->((0:Int)<=(↑(frt s_1):Int)/\(↑(frt s_1):Int)<=(↑(size s_1):Int))/\ByteArray.extract s_1 (toNat (↑(frt s_1):Int)) (size s_1)=ByteArray.extract s_1 (toNat (↑(frt s_1):Int)) (size s_1)/\(size (ByteArray.extract s_1 (toNat (↑(frt s_1):Int)) (size s_1))<=size s/\vld (ByteArray.extract s_1 (toNat (↑(frt s_1):Int)) (size s_1))=vld s)/\size (ByteArray.extract s_1 (toNat (↑(frt s_1):Int)) (size s_1))<size s_1/\True))/\(decide ((0:Int)<(↑(size s_1):Int))=false->vld s=true/\True)):=by kernel_rfl
def z1w:q5b P 35 z1f:=by
 refine ql1 mixed (qdv (qhn z70 qkn)) (W:=z9m) Go.Proofs.Tryd.func35 (by kernel_rfl) (by decide) (by decide) (λc=>by kernel_rfl) λ(s:ByteArray)=>(z7x s).mpr ?_
 intro h
 simp only[Int.toNat_natCast,and_true,true_and,decide_eq_true_eq,decide_eq_false_iff_not]
 refine⟨Nat.le_refl _,λt ht=>⟨λg=>⟨by omega,λg2=> ?_,λg2=> ?_⟩,λg=> ?_⟩⟩
 ·rw[←ht.2,z3t t (by omega),if_pos (by omega)]
 ·have:=zdn t
  rw[←ht.2,z3t t (by omega),if_neg (by omega)]
  refine⟨by omega,⟨?_,rfl⟩,?_⟩
  ·simp;omega
  ·simp;omega
 ·rw[←ht.2];exact zbo t (by omega)
def z42(x:Int):IntKind.u8.wrap x=x % 256:=by
 unfold IntKind.wrap;simp[IntKind.bits,IntKind.signed]
def wrap32(x:Int):IntKind.u32.wrap x=x % 4294967296:=by
 unfold IntKind.wrap;simp[IntKind.bits,IntKind.signed]
def z58(q:Nat):isC q=true↔q<=1114111/\¬(55296<=q/\q<=57343):=by
 simp[isC];omega
section
abbrev svV(x:SV):Value:= .slice x.1 x.2.1 x.2.2
abbrev svA(x:SV):AV:= .sv (.slice x.1 x.2.1 x.2.2)
def txV(s:ByteArray):List Value:=[.string s]
def slP{α:Type} (f:α->List Value) (x:SV) (l:List α) (p:Pub):Prop:=x.2.1=l.length/\qhq p x.1 x.2.1 x.2.2 (z01 f l)
variable {α:Type}
def z08{f:α->List Value} {x:SV} {l:List α} {p q:Pub} (h:Pub.le p q) (e:slP f x l p):slP f x l q:=⟨e.1,q55 h e.2⟩
def z02{f:α->List Value} {e:Nat} (hf:∀x,(f x).length=e) (he:0<e) {p:Pub} {x:SV} {l:List α} (h:slP f x l p) {i:Nat} (hi:i<l.length):x.1≠noA/\q3g p (adr x.1 (i*e)) (f l[i]):=z40 hf he h.2 hi
def z30{f:α->List Value} {p:Pub}:slP f (none,0,0) [] p:=⟨rfl,Nat.le_refl _, .inl ⟨rfl,z4e⟩⟩
inductive GJ where
 |mk (k n:Int) (s:ByteArray) (y:SV) (l:List GJ) (x:SV) (nm:List ByteArray)
def GJ.k:GJ->Int| .mk k _ _ _ _ _ _=>k
def GJ.n:GJ->Int| .mk _ n _ _ _ _ _=>n
def GJ.s:GJ->ByteArray| .mk _ _ s _ _ _ _=>s
def GJ.y:GJ->SV| .mk _ _ _ y _ _ _=>y
def GJ.l:GJ->List GJ| .mk _ _ _ _ l _ _=>l
def GJ.x:GJ->SV| .mk _ _ _ _ _ x _=>x
def GJ.nm:GJ->List ByteArray| .mk _ _ _ _ _ _ nm=>nm
def GJ.cells(g:GJ):List Value:=[.int .i64 g.k, .int .i64 g.n, .string g.s,svV g.y,svV g.x]
def GJ.av(g:GJ):AV:= .agg [.sv (.int .i64 g.k), .sv (.int .i64 g.n), .sv (.string g.s),svA g.y,svA g.x]
mutual
def GJ.ok:GJ->Pub->Prop
 | .mk k n s y l x nm,p=>slP GJ.cells y l p/\slP txV x nm p/\GJ.oks l p
def GJ.oks:List GJ->Pub->Prop
 | [],_=>True
 |g::l,p=>GJ.ok g p/\GJ.oks l p
end
mutual
def GJ.ok_mono:∀{g:GJ} {p q:Pub},Pub.le p q->g.ok p->g.ok q
  | .mk k n s y l x nm,p,q,h,e=>by
    unfold GJ.ok at e⊢
    exact⟨z08 h e.1,z08 h e.2.1,GJ.oks_mono h e.2.2⟩
def GJ.oks_mono:∀{l:List GJ} {p q:Pub},Pub.le p q->GJ.oks l p->GJ.oks l q
  | [],p,q,h,e=>by unfold GJ.oks;trivial
  | g::l,p,q,h,e=>by
    unfold GJ.oks at e⊢
    exact⟨GJ.ok_mono h e.1,GJ.oks_mono h e.2⟩
end
def z0f(s:ByteArray):(txV s).length=1:=rfl
def z04(g:GJ):g.cells.length=5:=rfl
end
def bsL(l:List Nat):ByteArray:=⟨⟨l.map UInt8.ofNat⟩⟩
def hx(c:Nat):Nat:=if 48<=c/\c<=57 then c- 48 else if 97<=c/\c<=102 then c- 87 else if 65<=c/\c<=70 then c- 55 else 16
def hx0(c:Nat):Nat:=if hx c<16 then hx c else 0
def hxI(c:Nat):Int:=if hx c<16 then hx c else -1
def z9s:Ct:=ctS Int (λc=>[.int .u8 c]) f1i (λc=>0<=c/\c<256) (λ_=>{}) λc=> .tup [.sv (.int .u32 (hx0 c.toNat:Nat)), .sv (.bool (decide (hx c.toNat<16)))]
def upF(v:ByteArray):Nat->Nat
 |0=>0
 |k+1=>upF v k*16+hx (bat v (2+k))
def z7t(v:ByteArray):Bool:=decide (6<=v.size)&&decide (bat v 0=92)&&decide (bat v 1=117)
def unF(v:ByteArray):Option Nat:=if z7t v=true then(if hx (bat v 2)<16/\hx (bat v 3)<16/\hx (bat v 4)<16/\hx (bat v 5)<16 then some (upF v 4)else none)else none
def z3g:Ct:=ctS ByteArray (λs=>[.string s]) f1s (λs=>s.size<1000000) (λ_=>{}) λs=> .tup [.sv (.int .u32 ((unF s).getD 0:Nat)), .sv (.bool (unF s).isSome)]
def unI(v:ByteArray) (u i:Int):Prop:=∃k:Nat,i=2+k/\k<=4/\u=(upF v k:Nat)/\∀j,j<k->hx (bat v (2+j))<16
def z9l:z3g.σ->WayF:=λv=>{ann:=λ_ _ _=>some {σ:=Int×Int,pre:=λ⟨u,i⟩=>unI v u i,find:=some λt _=>match slI t 4 with|some u=>(match slI t 5 with|some i=>some (u,i)|none=>none)|none=>none,t:=λ⟨u,i⟩=>[(4, .sv (.int .u32 u)),(5, .sv (.int .i64 i))],h:=λ_=>[],more:=0,μ:=λ⟨u,i⟩=>6- i.toNat,keep:=[0]}}
def byF(c:Nat):Option Nat:=if c=34\/c=92\/c=47 then some c else if c=98 then some 8 else if c=102 then some 12 else if c=110 then some 10 else if c=114 then some 13 else if c=116 then some 9 else none
def z2t:Ct:=ctS Int (λc=>[.int .u8 c]) f1i (λc=>0<=c/\c<256) (λ_=>{}) λc=> .tup [.sv (.int .u8 ((byF c.toNat).getD 0:Nat)), .sv (.bool (byF c.toNat).isSome)]
def ptL(r:Nat):List Nat:=if r<128 then [r]else if r<2048 then [192+r / 64,128+r % 64]else if r<65536 then [224+r / 4096,128+r / 64 % 64,128+r % 64]else [240+r / 262144,128+r / 4096 % 64,128+r / 64 % 64,128+r % 64]
def za0:Ct:=ctS Int (λc=>[.int .u32 c]) f1i (λc=>0<=c/\c<4294967296) (λ_=>{}) λc=> .sv (.int .u8 ((128+c.toNat % 64:Nat):Int))
def z9z:Ct:=ctS Int (λc=>[.int .u32 c]) f1i (λc=>0<=c/\c<4294967296/\isC c.toNat=true) (λ_=>{}) λc=> .sv (.string (mkS (ptL c.toNat)))
def z23(v:ByteArray):Option (List Nat×Nat):=
  if v.size<2 then none else
  if bat v 1≠117 then(match byF (bat v 1)with|some c=>some ([c],2)|none=>none)else
  match unF v with
  |none=>none
  | some a=>if isC a=true then some (ptL a,6)else if 56320<=a then none else
    match unF (v.extract 6 v.size)with
    |none=>none
    |some b=>if 56320<=b/\b<=57343 then some (ptL (65536+(a- 55296)*1024+(b- 56320)),12)else none
def esB(v:ByteArray):ByteArray:=match z23 v with
 |some x=>mkS x.1
 |none=>mkS []
def esN(v:ByteArray):Nat:=match z23 v with
 |some x=>x.2
 |none=>0
def z9t:Ct:=ctS ByteArray (λs=>[.string s]) f1s (λs=>s.size<1000000/\(0<s.size->bat s 0=92)) (λ_=>{}) λs=> .tup [.sv (.string (esB s)), .sv (.int .i64 (esN s:Nat))]
def zh9(l:List Nat) (n:Nat):Nat×ByteArray×Nat:=if vld (bsL l)=true then(0,bsL l,n)else(2,mkS [],0)
def z4u:Ct:=ctS (ByteArray×Int) (λ⟨s,n⟩=>[.string s, .int .i64 n]) fsi (λ⟨s,n⟩=>s.size<1000000) (λ_=>{}) λ⟨s,n⟩=> .tup [.sv (.string (if vld s=true then s else mkS [])), .sv (.int .i64 (if vld s=true then n else 0)), .sv (.int .i64 (if vld s=true then 0 else 2))]
def uqG (u:ByteArray):Nat->Nat->List Nat->Option (List Nat×Nat)
  |0,_,_=>none
  | f + 1,i,acc=>if i<u.size then
      if bat u i=34 then some (acc,i+1)else if bat u i<32 then none else if bat u i=92 then
        match z23 (u.extract i u.size)with
        |some x=>uqG u f (i+x.2) (acc++x.1)
        |none=>none
      else uqG u f (i+1) (acc++[bat u i])
    else none
def uqE(u:ByteArray) (i:Nat) (acc:List Nat):Option (List Nat×Nat):=uqG u (u.size+1- i) i acc
def uqR(u:ByteArray):Nat×ByteArray×Nat:=if u.size=0 then(2,mkS [],0)else if bat u 0≠34 then(2,mkS [],0)else match uqE u 1 []with
 |some x=>zh9 x.1 x.2
 |none=>(2,mkS [],0)
def zfo:Ct:=ctS ByteArray (λs=>[.string s]) f1s (λs=>s.size<100000) (λ_=>{}) λs=> .tup [.sv (.string (uqR s).2.1), .sv (.int .i64 ((uqR s).2.2:Nat)), .sv (.int .i64 ((uqR s).1:Nat))]
def zec(t:T AV) (h:T AO):Option (List Value×Int):=match slI t 6 with
  | some j=>match t.get 5 with
    | some (.ssl id _ _ _ _)=>match h.get id with
      |some (.row _ _ vs)=>some (vs,j)
      | some (.cells _ _ _ l)=>match qar.concs l with
        |some vs=>some (vs,j)
        |none=>none
      |_=>none
    |some .nsl=>some ([],j)
    |_=>none
  |none=>none
def z5x(u:ByteArray) (vs:List Value) (j:Int):Prop:=∃l:List Nat,vs=q1c (bsL l)/\(∀c∈l,c<256)/\1<=j/\j<=u.size+12/\l.length<=j.toNat/\uqE u j.toNat l=uqE u 1 []
def zhc:zfo.σ->WayF:=λu=>{
 ann:=λ_ _ _=>some {σ:=List Value×Int,pre:=λ⟨vs,j⟩=>z5x u vs j,find:=some zec,t:=λ⟨vs,j⟩=>[(5, .ssl 1 0 vs.length 1 2),(6, .sv (.int .i64 j))],h:=λ⟨vs,j⟩=>[(1, .row 5 0 vs)],more:=2,μ:=λ⟨vs,j⟩=>u.size+13- j.toNat,keep:=[0]}}
def ze4:Nat->Option Ct:=qg8 [(88,z9s)]
def zgk:Nat->Option Ct:=qg8 [(65,cIs),(66,z1j),(89,za0)]
def zgj:Nat->Option Ct:=qg8 [(65,cIs),(72,z2t),(73,z3g),(74,z9z)]
def zmg:Nat->Option Ct:=qg8 [(58,z9t),(57,z4u)]
def ze3:Nat->Option Ct:=qg8 [(35,z1f)]
section
variable (x0 x1:Int)
 abbrev zht:=(↑(hx0 (toNat x0)):Int)=IntKind.wrap u32 (IntKind.wrap u8 (x0- 48))/\Jt (hx (toNat x0)<16)/\True
 def zgr:=(↑(hx0 (toNat x0)):Int)=IntKind.wrap u32 (IntKind.wrap u32 (IntKind.wrap u8 (x0- x1))+10)/\Jt (hx (toNat x0)<16)/\True
 def zgs:=(↑(hx0 (toNat x0)):Int)=0/\Jf (hx (toNat x0)<16)/\True
 def zhv:=Ji (x0<=70) (zgr x0 65) (zgs x0)
 def zgq:=Ji (65<=x0) (zhv x0) (zgs x0)
 def zhu:=Ji (x0<=102) (zgr x0 97) (zgq x0)
 def zgp:=Ji (97<=x0) (zhu x0) (zgq x0)
 def zhs:=Ji (x0<=57) (zht x0) (zgp x0)
 def zhr:=Ji (48<=x0) (zhs x0) (zgp x0)
end
def z6u(c:Int):qky P (λ_=>none) Go.Proofs.Tryd.f88 z9s (λ_=>{}) c=(0<=c/\c<256->zhr c):=by kernel_rfl
def za2:=λc=>Eq.trans (z6u c) (by delta Ji Jt Jf zht zgr zgs zhv zgq zhu zgp zhs zhr;exact rfl)
section
variable (x0:ByteArray) (x1:Int×Int)
 abbrev zem:=(↑(Option.getD (unF x0) 0):Int)=0/\Option.isSome (unF x0)=false/\True
 abbrev z6k:=(↑(bat x0 (toNat x1.2)):Int)
 def zi2:=(0:Int)<=4/\Jb (x1.2+1)/\x0=x0/\x1.2+1=x1.2+1/\qbh BinOp.or u32 (shP BinOp.shl u32 x1.1 4) (↑(hx0 (toNat (z6k x0 x1))):Int)=qbh BinOp.or u32 (shP BinOp.shl u32 x1.1 4) (↑(hx0 (toNat (z6k x0 x1))):Int)/\unI x0 (qbh BinOp.or u32 (shP BinOp.shl u32 x1.1 4) (↑(hx0 (toNat (z6k x0 x1))):Int)) (x1.2+1)/\(6:Nat)- toNat (x1.2+1)<6- toNat x1.2/\True
 def zi1:=(0<=x1.2/\x1.2<(↑(size x0):Int))/\(z6k x0 x1)=(z6k x0 x1)/\(0<=(z6k x0 x1)/\(z6k x0 x1)<256)/\((!decide (hx (toNat (z6k x0 x1))<16))=true->zem x0)/\((!decide (hx (toNat (z6k x0 x1))<16))=false->zi2 x0 x1)
 def zi0:=Ji (x1.2<6) (zi1 x0 x1) ((↑(Option.getD (unF x0) 0):Int)=x1.1/\Option.isSome (unF x0)=true/\True)
 def zhz:=(x0=x0/\(2:Int)=2/\(0:Int)=0/\unI x0 0 2/\True)/\∀(i0:Int×Int),unI x0 i0.1 i0.2->zi0 x0 i0
 def zhy:=((0:Int)<=1/\1<(↑(size x0):Int))/\((!decide ((↑(bat x0 1):Int)=117))=true->zem x0)/\((!decide ((↑(bat x0 1):Int)=117))=false->zhz x0)
 def zhx:=((0:Int)<=0/\0<(↑(size x0):Int))/\((!decide ((↑(bat x0 0):Int)=92))=true->zem x0)/\((!decide ((↑(bat x0 0):Int)=92))=false->zhy x0)
 def zhw:=Ji ((↑(size x0):Int)<6) (zem x0) (zhx x0)
end
def z5v(v:ByteArray):qky P (ze4) Go.Proofs.Tryd.f73 z3g (z9l) v=(size v<1000000->zhw v):=by kernel_rfl
def z7v:=λv=>Eq.trans (z5v v) (by delta Ji Jb Jt Jf zem z6k zi2 zi1 zi0 zhz zhy zhx zhw;exact rfl)
section
variable (x0 x1:Int)
 abbrev z84:=(↑(Option.getD (byF (toNat x0)) 0):Int)
 def zia:=(z84 x0)=x0/\Option.isSome (byF (toNat x0))=true/\True
 def zdc:=(z84 x0)=x1/\Option.isSome (byF (toNat x0))=true/\True
 def zi9:=(z84 x0)=0/\Option.isSome (byF (toNat x0))=false/\True
 def zi7:=Ji (x0=116) (zdc x0 9) (zi9 x0)
 def zi6:=Ji (x0=114) (zdc x0 13) (zi7 x0)
 def zi5:=Ji (x0=110) (zdc x0 10) (zi6 x0)
 def zi4:=Ji (x0=102) (zdc x0 12) (zi5 x0)
 def zi3:=Ji (x0=98) (zdc x0 8) (zi4 x0)
 def zfr:=Ji (x0=x1) (zia x0) (zi3 x0)
 def zen:=Ji (x0=92) (zfr x0 92) (zfr x0 47)
 def zi8:=Ji (x0=34) (zfr x0 34) (zen x0)
end
def z3w(c:Int):qky P (λ_=>none) Go.Proofs.Tryd.f72 z2t (λ_=>{}) c=(0<=c/\c<256->zi8 c):=by kernel_rfl
def z4q:=λc=>Eq.trans (z3w c) (by delta Ji Jt Jf z84 zia zdc zi9 zi7 zi6 zi5 zi4 zi3 zfr zen zi8;exact rfl)
def zbc(c:Int):qky P (λ_=>none) Go.Proofs.Tryd.f89 za0 (λ_=>{}) c=((0:Int)<=c/\c<(4294967296:Int)->(↑((128:Nat)+Int.toNat c % (64:Nat)):Int)=qbh BinOp.or IntKind.u8 (128:Int) (qbh BinOp.and IntKind.u8 (IntKind.wrap IntKind.u8 c) (63:Int))/\True):=by kernel_rfl
section
variable (x0 x1:Int) (x2:Prop) (x3:Int) (x4:ByteArray)
 abbrev z46:=x0=x0/\(0<=x0/\x0<4294967296)/\x2
 def z88:=(65533:Int)=65533/\((0:Int)<=65533/\(65533:Int)<4294967296)/\x2
 abbrev z87:=(↑(lnN 65533):Int)=x0
 abbrev z35:=(2:Int) ^ min 6 (IntKind.bits u32)
 abbrev z8b:=(↑((128:Nat)+65533 % 64):Int)
 def z2j:=mkS (ptL (toNat x0))=x4/\True
 def zep:=z88 (∃i0,size i0=2/\qhf [int u8 (IntKind.wrap u8 (↑(BitVec.toNat (BitVec.ofInt (IntKind.bits u8) 192|||BitVec.ofInt (IntKind.bits u8) (IntKind.wrap u8 (Int.fdiv 65533 (z35))))):Int)),int u8 (z8b)] 0 (q1c i0)/\z2j x0 i0)
 def zbs:=Int.fdiv 65533 (z35)=Int.fdiv 65533 (z35)/\(0<=Int.fdiv 65533 (z35)/\Int.fdiv 65533 (z35)<4294967296)/\z88 x2
 abbrev z36:=(2:Int) ^ min 12 (IntKind.bits u32)
 abbrev zbt:=(↑((128:Nat)+toNat (Int.fdiv 65533 (z35)) % 64):Int)
 def zik:=zbs (∃i0,size i0=3/\qhf [int u8 (IntKind.wrap u8 (↑(BitVec.toNat (BitVec.ofInt (IntKind.bits u8) 224|||BitVec.ofInt (IntKind.bits u8) (Int.fdiv 65533 (z36)))):Int)),int u8 (zbt),int u8 (z8b)] 0 (q1c i0)/\z2j x0 i0)
 def zii:=Int.fdiv 65533 (z36)=Int.fdiv 65533 (z36)/\(0<=Int.fdiv 65533 (z36)/\Int.fdiv 65533 (z36)<4294967296)/\zbs (∃i0,size i0=4/\qhf [int u8 (IntKind.wrap u8 (↑(BitVec.toNat (BitVec.ofInt (IntKind.bits u8) 240|||BitVec.ofInt (IntKind.bits u8) (Int.fdiv 65533 ((2:Int) ^ min 18 (IntKind.bits u32))))):Int)),int u8 (↑((128:Nat)+toNat (Int.fdiv 65533 (z36)) % 64):Int),int u8 (zbt),int u8 (z8b)] 0 (q1c i0)/\z2j x0 i0)
 abbrev zif:=Ji (z87 3) (zik x0) (zii x0)
 abbrev zid:=Ji (z87 2) (zep x0) (zif x0)
 def zic:=z88 (Ji (z87 1) (mkS (ptL (toNat x0))=mkS [253]/\True) (zid x0))
 abbrev z8a:=(↑(lnN (toNat x0)):Int)=x1
 abbrev z86:=qbh BinOp.or u8 x1 (IntKind.wrap u8 (shP BinOp.shr u32 x0 x3))
 abbrev z8c:=(↑((128:Nat)+toNat x0 % 64):Int)
 def zeq:=(0:Int)<=6/\z46 x0 (∃i0,size i0=2/\qhf [int u8 (z86 x0 192 6),int u8 (z8c x0)] 0 (q1c i0)/\z2j x0 i0)
 def z85:=0<=x1/\shP BinOp.shr u32 x0 x1=shP BinOp.shr u32 x0 x1/\(0<=shP BinOp.shr u32 x0 x1/\shP BinOp.shr u32 x0 x1<4294967296)/\x2
 abbrev z89:=(↑((128:Nat)+toNat (shP BinOp.shr u32 x0 x1) % 64):Int)
 def zeo:=(0:Int)<=12/\z85 x0 6 (z46 x0 (∃i0,size i0=3/\qhf [int u8 (z86 x0 224 12),int u8 (z89 x0 6),int u8 (z8c x0)] 0 (q1c i0)/\z2j x0 i0))
 def zij:=(0:Int)<=18/\z85 x0 12 (z85 x0 6 (z46 x0 (∃i0,size i0=4/\qhf [int u8 (z86 x0 240 18),int u8 (z89 x0 12),int u8 (z89 x0 6),int u8 (z8c x0)] 0 (q1c i0)/\z2j x0 i0)))
 abbrev zih:=Ji (z8a x0 3) (zeo x0) (zij x0)
 abbrev zig:=Ji (z8a x0 2) (zeq x0) (zih x0)
 def zie:=z46 x0 (Ji (z8a x0 1) (∃i0,size i0=1/\qhf [int u8 (IntKind.wrap u8 x0)] 0 (q1c i0)/\z2j x0 i0) (zig x0))
 def zib:=z46 x0 (((!isC (toNat x0))=true->zic x0)/\((!isC (toNat x0))=false->zie x0))
end
def z7k(c:Int):qky P (zgk) Go.Proofs.Tryd.f74 z9z (λ_=>{}) c=(0<=c/\c<4294967296/\isC (toNat c)=true->zib c):=by kernel_rfl
def zb8:=λc=>Eq.trans (z7k c) (by delta Ji Jt Jf z46 z88 z87 z35 z8b z2j zep zbs z36 zbt zik zii zif zid zic z8a z86 z8c zeq z85 z89 zeo zij zih zig zie zib;exact rfl)
section
variable (x0:ByteArray)
 abbrev z37:=esB x0=mkS []/\(↑(esN x0):Int)=0/\True
 def zit:=((0:Int)<=1/\1<(↑(size x0):Int))/\(↑(bat x0 1):Int)=(↑(bat x0 1):Int)/\(0<=(↑(bat x0 1):Int)/\(↑(bat x0 1):Int)<256)/\((!Option.isSome (byF (toNat (↑(bat x0 1):Int))))=true->z37 x0)/\((!Option.isSome (byF (toNat (↑(bat x0 1):Int))))=false->∃i0,size i0=1/\qhf [int u8 (↑(Option.getD (byF (toNat (↑(bat x0 1):Int))) 0):Int)] 0 (q1c i0)/\esB x0=i0/\(↑(esN x0):Int)=2/\True)
 abbrev z0k:=(↑(Option.getD (unF x0) 0):Int)
 def zer:=(z0k x0)=(z0k x0)/\(0<=(z0k x0)/\(z0k x0)<4294967296/\isC (toNat (z0k x0))=true)/\esB x0=mkS (ptL (toNat (z0k x0)))/\(↑(esN x0):Int)=6/\True
 abbrev z47:=ByteArray.extract x0 6 (size x0)
 def zbu:= !decide (shP BinOp.shr u32 (↑(Option.getD (unF (z47 x0)) 0):Int) (10:Int)=55)
 abbrev zbv:=IntKind.wrap u32 ((65536:Int)+shP BinOp.shl u32 (qbh BinOp.and u32 (z0k x0) 1023) 10)+qbh BinOp.and u32 (↑(Option.getD (unF (z47 x0)) 0):Int) 1023
 def zis:=(0:Int)<=10/\IntKind.wrap u32 (zbv x0)=IntKind.wrap u32 (zbv x0)/\(0<=IntKind.wrap u32 (zbv x0)/\IntKind.wrap u32 (zbv x0)<4294967296/\isC (toNat (IntKind.wrap u32 (zbv x0)))=true)/\esB x0=mkS (ptL (toNat (IntKind.wrap u32 (zbv x0))))/\(↑(esN x0):Int)=12/\True
 def zir:=(0:Int)<=10/\((zbu x0)=true->z37 x0)/\((zbu x0)=false->zis x0)
 def ziq:=(0:Int)<=10/\((!decide (shP BinOp.shr u32 (z0k x0) (10:Int)=54))=true->z37 x0)/\((!decide (shP BinOp.shr u32 (z0k x0) (10:Int)=54))=false->zir x0)
 def zip:=((0:Int)<=6/\6<=(↑(size x0):Int))/\ByteArray.extract x0 6 (size x0)=ByteArray.extract x0 6 (size x0)/\size (z47 x0)<1000000/\((!Option.isSome (unF (z47 x0)))=true->z37 x0)/\((!Option.isSome (unF (z47 x0)))=false->ziq x0)
 def zio:=(z0k x0)=(z0k x0)/\(0<=(z0k x0)/\(z0k x0)<4294967296)/\(isC (toNat (z0k x0))=true->zer x0)/\(isC (toNat (z0k x0))=false->zip x0)
 def zin:=x0=x0/\size x0<1000000/\((!Option.isSome (unF x0))=true->z37 x0)/\((!Option.isSome (unF x0))=false->zio x0)
 def zim:=((0:Int)<=1/\1<(↑(size x0):Int))/\((!decide ((↑(bat x0 1):Int)=117))=true->zit x0)/\((!decide ((↑(bat x0 1):Int)=117))=false->zin x0)
 def zil:=Ji ((↑(size x0):Int)<2) (z37 x0) (zim x0)
end
def z6z(v:ByteArray):qky P (zgj) Go.Proofs.Tryd.f58 z9t (λ_=>{}) v=(size v<1000000/\(0<size v->bat v (0:Nat)=92)->zil v):=by kernel_rfl
def za9:=λv=>Eq.trans (z6z v) (by delta Ji Jt Jf z37 zit z0k zer z47 zbu zbv zis zir ziq zip zio zin zim zil;exact rfl)
def z6v(s:ByteArray) (n:Int):qky P (ze3) Go.Proofs.Tryd.f57 z4u (λ_=>{}) ⟨s,n⟩=(size s<(1000000:Nat)->s=s/\size s<(9223372036854775808:Nat)/\((!vld s)=true->(if vld s=true then s else mkS [])=mkS []/\(if vld s=true then n else(0:Int))=(0:Int)/\(if vld s=true then(0:Int)else(2:Int))=(2:Int)/\True)/\((!vld s)=false->(if vld s=true then s else mkS [])=s/\(if vld s=true then n else(0:Int))=n/\(if vld s=true then(0:Int)else(2:Int))=(0:Int)/\True)):=by kernel_rfl
section
variable (x0:ByteArray) (x1:List Value×Int)
 abbrev zdd:=(uqR x0).2.1=mkS []/\(↑(uqR x0).2.2:Int)=0/\(↑(uqR x0).1:Int)=2/\True
 abbrev z2k:=(↑(bat x0 (toNat x1.2)):Int)
 abbrev zbw:=Jb (x1.2+1)
 abbrev z0l:=ByteArray.extract x0 (toNat x1.2) (size x0)
 def zj2:=length x1.1=length x1.1*1/\(length x1.1+size (esB (z0l x0 x1)))*1<=140737488355328/\Jb (x1.2+(↑(esN (z0l x0 x1)):Int))/\x0=x0/\length (x1.1++q1c (esB (z0l x0 x1)))=length x1.1+size (esB (z0l x0 x1))/\x1.2+(↑(esN (z0l x0 x1)):Int)=x1.2+(↑(esN (z0l x0 x1)):Int)/\x1.1++q1c (esB (z0l x0 x1))=x1.1++q1c (esB (z0l x0 x1))/\z5x x0 (x1.1++q1c (esB (z0l x0 x1))) (x1.2+(↑(esN (z0l x0 x1)):Int))/\size x0+13- toNat (x1.2+(↑(esN (z0l x0 x1)):Int))<size x0+13- toNat x1.2/\True
 def zj1:=(0<=x1.2/\x1.2<=(↑(size x0):Int))/\ByteArray.extract x0 (toNat x1.2) (size x0)=ByteArray.extract x0 (toNat x1.2) (size x0)/\(size (z0l x0 x1)<1000000/\(0<size (z0l x0 x1)->bat (z0l x0 x1) (0:Nat)=92))/\Ji ((↑(esN (z0l x0 x1)):Int)=0) (zdd x0) (zj2 x0 x1)
 def zes:=length x1.1=length x1.1*1/\(length x1.1+nat_lit 1)*1<=140737488355328/\zbw x1/\x0=x0/\length (x1.1++[int u8 (z2k x0 x1)])=length x1.1+nat_lit 1/\x1.2+1=x1.2+1/\x1.1++[int u8 (z2k x0 x1)]=x1.1++[int u8 (z2k x0 x1)]/\z5x x0 (x1.1++[int u8 (z2k x0 x1)]) (x1.2+1)/\size x0+13- toNat (x1.2+1)<size x0+13- toNat x1.2/\True
 def zj0:=Ji ((z2k x0 x1)=92) (zj1 x0 x1) (zes x0 x1)
 def ziz:=Ji ((z2k x0 x1)<32) (zdd x0) (zj0 x0 x1)
 abbrev ziy:=(0<=x1.2/\x1.2<(↑(size x0):Int))/\Ji ((z2k x0 x1)=34) (∃i0,size i0=length x1.1/\qhf x1.1 (nat_lit 0) (q1c i0)/\zbw x1/\i0=i0/\x1.2+1=x1.2+1/\size i0<1000000/\((uqR x0).2.1=if vld i0=true then i0 else mkS [])/\((↑(uqR x0).2.2:Int)=if vld i0=true then x1.2+1 else 0)/\((↑(uqR x0).1:Int)=if vld i0=true then 0 else 2)/\True) (ziz x0 x1)
 def zix:=Ji (x1.2<(↑(size x0):Int)) (ziy x0 x1) (zdd x0)
 def ziw:=(x0=x0/\nat_lit 0=0/\(1:Int)=1/\z5x x0 [] 1/\True)/\∀(i0:List Value×Int),z5x x0 i0.1 i0.2->zix x0 i0
 def ziv:=((0:Int)<=0/\0<(↑(size x0):Int))/\((!decide ((↑(bat x0 0):Int)=34))=true->zdd x0)/\((!decide ((↑(bat x0 0):Int)=34))=false->ziw x0)
 def ziu:=Ji ((↑(size x0):Int)=0) (zdd x0) (ziv x0)
end
def zbm(u:ByteArray):qky P (zmg) Go.Proofs.Tryd.f46 zfo (zhc) u=(size u<100000->ziu u):=by kernel_rfl
def zea:=λu=>Eq.trans (zbm u) (by delta Ji Jb Jt Jf zdd z2k zbw z0l zj2 zj1 zes zj0 ziz ziy zix ziw ziv ziu;exact rfl)
section
def z73(n:Nat):((48<=n/\n<=57)/\hx n=n- 48)\/((97<=n/\n<=102)/\hx n=n- 87)\/((65<=n/\n<=70)/\hx n=n- 55)\/(¬(48<=n/\n<=57)/\¬(97<=n/\n<=102)/\¬(65<=n/\n<=70)/\hx n=16):=by
 unfold hx
 by_cases h1:48<=n/\n<=57
 ·exact .inl ⟨h1,if_pos h1⟩
 ·rw[if_neg h1]
  by_cases h2:97<=n/\n<=102
  ·exact .inr (.inl ⟨h2,if_pos h2⟩)
  ·rw[if_neg h2]
   by_cases h3:65<=n/\n<=70
   ·exact .inr (.inr (.inl ⟨h3,if_pos h3⟩))
   ·exact .inr (.inr (.inr ⟨h1,h2,h3,if_neg h3⟩))
def z94(n:Nat):(hx n<16->hx0 n=hx n/\hxI n=hx n)/\(¬hx n<16->hx0 n=0/\hxI n= -1):=by
 unfold hx0 hxI
 constructor
 ·intro h;rw[if_pos h,if_pos h];exact⟨rfl,rfl⟩
 ·intro h;rw[if_neg h,if_neg h];exact⟨rfl,rfl⟩
def za3:q5b P 88 z9s:=by
 refine ql1 mixed z0v (W:=λ_=>{}) Go.Proofs.Tryd.func88 (by kernel_rfl) (by decide) (by decide) (λs=>by kernel_rfl) λ(c:Int)=>(za2 c).mpr ?_
 rintro⟨h0,h1⟩
 obtain⟨n,rfl⟩:=Int.eq_ofNat_of_zero_le h0
 have a:=z73 n
 have b:=z94 n
 simp only[sbS,Int.toNat_natCast,exists_const,z42,wrap32]
 repeat' first|intro _|apply And.intro
 all_goals omega
def zbn{v:ByteArray}:∀(k:Nat),(∀j,j<k->hx (bat v (2+j))<16)->k<=4->upF v k<65536/\(k<=3->upF v k<4096)/\(k<=2->upF v k<256)/\(k<=1->upF v k<16)/\(k=0->upF v k=0)
  |0,_,_=>by unfold upF;omega
  | k+1,h,h4=>by
    have ih:=zbn k (λj hj=>h j (by omega)) (by omega)
    have:=h k (by omega)
    have e:k=0\/k=1\/k=2\/k=3:=by omega
    rw[upF]
    rcases e with rfl|rfl|rfl|rfl<;>omega
def zmb(r d:Nat) (hr:r<65536) (hd:d<16):qbh BinOp.or IntKind.u32 (shP BinOp.shl IntKind.u32 (r:Int) 4) (d:Int)=((r*16+d:Nat):Int):=by
 have e:shP BinOp.shl IntKind.u32 (r:Int) 4=((r*16:Nat):Int):=by
  show IntKind.u32.wrap ((r:Int)*2 ^ 4)=_
  unfold IntKind.wrap;simp[IntKind.bits,IntKind.signed];omega
 rw[e]
 have h0:=u32_or_nat (r*16) d (by omega) (by omega)
 have h1:qbh BinOp.or IntKind.u32 ((r*16:Nat):Int) (d:Int)=bits .or .u32 ((r*16:Nat):Int) (d:Int):=rfl
 rw[h1,h0]
 congr 1
 have h:=Nat.two_pow_add_eq_or_of_lt (i:=4) (b:=d) hd r
 rw[show 2 ^ 4*r=r*16 by omega]at h
 exact h.symm
variable {v:ByteArray}
def z32(h:z7t v=false):unF v=none:=by unfold unF;rw[if_neg (by rw[h];simp)]
def ze9(k:Nat) (hk:k<4) (h:¬hx (bat v (2+k))<16):unF v=none:=by
 unfold unF
 split
 ·rw[if_neg]
  rintro⟨a,b,c,d⟩
  have:k=0\/k=1\/k=2\/k=3:=by omega
  rcases this with rfl|rfl|rfl|rfl<;>contradiction
 ·rfl
def zbl(h:z7t v=true) (hd:∀j,j<4->hx (bat v (2+j))<16):unF v=some (upF v 4):=by
 unfold unF
 rw[if_pos h,if_pos ⟨hd 0 (by omega),hd 1 (by omega),hd 2 (by omega),hd 3 (by omega)⟩]
def z7u{a:Nat} (h:unF v=some a):a<65536/\6<=v.size:=by
 unfold unF at h
 split at h
 ·rename_i h1
  split at h
  ·rename_i h2
   cases h
   refine⟨(zbn 4 (λj hj=> ?_) (by omega)).1,?_⟩
   ·have:j=0\/j=1\/j=2\/j=3:=by omega
    rcases this with rfl|rfl|rfl|rfl
    ·exact h2.1
    ·exact h2.2.1
    ·exact h2.2.2.1
    ·exact h2.2.2.2
   ·unfold z7t at h1
    simp only[Bool.and_eq_true,decide_eq_true_eq]at h1;exact h1.1.1
  ·cases h
 ·cases h
def z7w:q5b P 73 z3g:=by
 refine ql1 mixed (qdv (qhn za3 qkn)) (W:=z9l) Go.Proofs.Tryd.func73 (by kernel_rfl) (by decide) (by decide) (λs=>by kernel_rfl) λ(v:ByteArray)=>(z7v v).mpr ?_
 intro hsz
 have no:unF v=none->(((unF v).getD 0:Nat):Int)=0/\(unF v).isSome=false:=λh=>by rw[h];exact⟨rfl,rfl⟩
 simp only[sbS,Int.toNat_natCast,exists_const]
 refine⟨λh=>no (z32 ?_),λh1=>⟨by omega,λh=>no (z32 ?_),λh2=>⟨by omega,λh=>no (z32 ?_),λh3=>⟨⟨0,rfl,by omega,rfl,λj hj=>by omega⟩,?_⟩⟩⟩⟩
 ·unfold z7t;rw[decide_eq_false (by omega)];rfl
 ·unfold z7t;rw[decide_eq_false (p:=bat v 0=92) (by omega),Bool.and_false,Bool.false_and]
 ·unfold z7t;rw[decide_eq_false (p:=bat v 1=117) (by omega),Bool.and_false]
 have ok:z7t v=true:=by unfold z7t;rw[decide_eq_true (by omega),decide_eq_true (by omega),decide_eq_true (by omega)];rfl
 rintro⟨_,_⟩ ⟨k,rfl,hk,rfl,hd⟩
 have e1:((2:Int)+(k:Nat)).toNat=2+k:=by omega
 have b:=z0u v (2+k)
 simp only[e1,Int.toNat_natCast]
 refine⟨λhlt=>⟨by omega,by omega,λhb=>no (ze9 k (by omega) (by omega)),λhg=>⟨by omega,by omega,⟨k+1,by omega,by omega,?_,λj hj=> ?_⟩,by omega⟩⟩,λhge=> ?_⟩
 ·rw[(z94 _).1 hg|>.1,zmb _ _ (zbn k hd (by omega)).1 hg];rfl
 ·by_cases hjk:j=k
  ·subst hjk;exact hg
  ·exact hd j (by omega)
 ·have hk4:k=4:=by omega
  subst hk4
  rw[zbl ok hd];exact⟨rfl,rfl⟩
def z25(n:Nat):((n=34\/n=92\/n=47)/\byF n=some n)\/(n=98/\byF n=some 8)\/(n=102/\byF n=some 12)\/(n=110/\byF n=some 10)\/(n=114/\byF n=some 13)\/(n=116/\byF n=some 9)\/((n≠34/\n≠92/\n≠47/\n≠98/\n≠102/\n≠110/\n≠114/\n≠116)/\byF n=none):=by
 by_cases h:n=34\/n=92\/n=47
 ·exact .inl ⟨h,by unfold byF;rw[if_pos h]⟩
 by_cases h1:n=98
 ·subst h1;exact .inr (.inl ⟨rfl,rfl⟩)
 by_cases h2:n=102
 ·subst h2;exact .inr (.inr (.inl ⟨rfl,rfl⟩))
 by_cases h3:n=110
 ·subst h3;exact .inr (.inr (.inr (.inl ⟨rfl,rfl⟩)))
 by_cases h4:n=114
 ·subst h4;exact .inr (.inr (.inr (.inr (.inl ⟨rfl,rfl⟩))))
 by_cases h5:n=116
 ·subst h5;exact .inr (.inr (.inr (.inr (.inr (.inl ⟨rfl,rfl⟩)))))
 ·exact .inr (.inr (.inr (.inr (.inr (.inr ⟨⟨λe=>h (.inl e),λe=>h (.inr (.inl e)),λe=>h (.inr (.inr e)),h1,h2,h3,h4,h5⟩,by unfold byF;rw[if_neg h,if_neg h1,if_neg h2,if_neg h3,if_neg h4,if_neg h5]⟩)))))
def z4r:q5b P 72 z2t:=by
 refine ql1 mixed z0v (W:=λ_=>{}) Go.Proofs.Tryd.func72 (by kernel_rfl) (by decide) (by decide) (λs=>by kernel_rfl) λ(c:Int)=>(z4q c).mpr ?_
 rintro⟨h0,h1⟩
 obtain⟨n,rfl⟩:=Int.eq_ofNat_of_zero_le h0
 simp only[sbS,Int.toNat_natCast,exists_const]
 have fin:∀(o:Option Nat) (v:Int) (b:Bool),byF n=o->((o.getD 0:Nat):Int)=v->o.isSome=b->(((byF n).getD 0:Nat):Int)=v/\(byF n).isSome=b:=λo v b e h1 h2=>by rw[e];exact⟨h1,h2⟩
 rcases z25 n with⟨rfl|rfl|rfl,e⟩|⟨rfl,e⟩|⟨rfl,e⟩|⟨rfl,e⟩|⟨rfl,e⟩|⟨rfl,e⟩|⟨⟨a1,a2,a3,a4,a5,a6,a7,a8⟩,e⟩
 all_goals
  rw[e]
  (repeat' first|intro _|apply And.intro)<;>first|rfl|contradiction|omega| (exfalso;omega)| (simp_all;done)
def zbd:q5b P 89 za0:=by
 refine ql1 mixed z0v (W:=λ_=>{}) Go.Proofs.Tryd.func89 (by kernel_rfl) (by decide) (by decide) (λs=>by kernel_rfl) λ(c:Int)=>(zbc c).mpr ?_
 rintro⟨h0,h1⟩
 obtain⟨n,rfl⟩:=Int.eq_ofNat_of_zero_le h0
 have key:∀x<256,qbh .or .u8 128 (qbh .and .u8 (x:Nat) 63)=((128+x % 64:Nat):Int):=by decide+kernel
 have e:IntKind.wrap .u8 (n:Int)=((n % 256:Nat):Int):=by rw[z42];omega
 rw[e,key _ (by omega),Int.toNat_natCast]
 exact⟨by omega,trivial⟩
def z9q:∀(l:List Nat),(∀x∈l,x<256)->q1c (mkS l)=l.map λx=>Value.int .u8 (x:Nat)
  | [],_=>rfl
  | c::l,h=>by
    have:=z9q l λx hx=>h x (List.mem_cons_of_mem _ hx)
    have hc:=h c List.mem_cons_self
    unfold q1c mkS at*
    simp only[List.map_cons]at*
    rw[this]
    congr 1
    simp[Nat.mod_eq_of_lt hc]
def z2h{l:List Nat} {vs:List Value} (h:∀x∈l,x<256) (e:vs=l.map λx=>Value.int .u8 (x:Nat)):qhf vs 0 (q1c (mkS l)):=λj v hj=>by
 rw[z9q l h]at hj
 rw[Nat.zero_add,e];exact hj
def z1r(n:Nat) (h:n<=1114111):(n<128/\ptL n=[n])\/(128<=n/\n<2048/\ptL n=[192+n / 64,128+n % 64])\/(2048<=n/\n<65536/\ptL n=[224+n / 4096,128+n / 64 % 64,128+n % 64])\/(65536<=n/\ptL n=[240+n / 262144,128+n / 4096 % 64,128+n / 64 % 64,128+n % 64]):=by
 unfold ptL
 by_cases h1:n<128
 ·exact .inl ⟨h1,if_pos h1⟩
 rw[if_neg h1]
 by_cases h2:n<2048
 ·exact .inr (.inl ⟨by omega,h2,if_pos h2⟩)
 rw[if_neg h2]
 by_cases h3:n<65536
 ·exact .inr (.inr (.inl ⟨by omega,h3,if_pos h3⟩))
 ·exact .inr (.inr (.inr ⟨by omega,if_neg h3⟩))
def z7j(n:Nat) (h:n<=1114111):(∀x∈ptL n,x<256)/\1<=(ptL n).length/\(ptL n).length<=4:=by
 rcases z1r n h with⟨_,e⟩|⟨_,_,e⟩|⟨_,_,e⟩|⟨_,e⟩<;>rw[e]<;>refine⟨λx hx=> ?_,by simp,by simp⟩<;>simp only[List.mem_cons,List.not_mem_nil,or_false]at hx<;>omega
def zba(n:Nat) (hn:n<=1114111):n<128->∃s,ByteArray.size s=1/\qhf [Value.int .u8 (IntKind.wrap .u8 n)] 0 (q1c s)/\mkS (ptL n)=s:=by
 intro h
 have h0:(0:Int)<=(n:Int):=by omega
 have lt:=z7j n hn
 have pc:=z1r n hn
 have e:ptL n=[n]:=by rcases pc with⟨_,e⟩|⟨_,_,e⟩|⟨_,_,e⟩|⟨_,e⟩<;>first|exact e|omega
 refine⟨mkS (ptL n),by rw[q0f,e];rfl,z2h lt.1 ?_,rfl⟩
 rw[e,z42];simp only[List.map_cons,List.map_nil];congr 2;omega
end
section
def z2g(n k:Nat) (hk:k<=31):shP BinOp.shr .u32 (n:Int) (k:Nat)=((n / 2 ^ k:Nat):Int):=by
 show Int.fdiv (n:Int) (2 ^ min k 32)=_
 rw[Nat.min_eq_left (by omega),Int.fdiv_eq_ediv_of_nonneg _ (by exact Int.le_of_lt (Int.pow_pos (by decide)))]
 norm_cast
def zb4:(∀x<32,qbh .or .u8 192 (x:Nat)=((192+x:Nat):Int))/\(∀x<16,qbh .or .u8 224 (x:Nat)=((224+x:Nat):Int))/\(∀x<8,qbh .or .u8 240 (x:Nat)=((240+x:Nat):Int)):=by
 refine⟨?_,?_,?_⟩<;>decide+kernel
def z78(n:Nat) (h:n<=1114111):(n<128/\lnN n=1)\/(128<=n/\n<2048/\lnN n=2)\/(2048<=n/\n<65536/\lnN n=3)\/(65536<=n/\lnN n=4):=by
 unfold lnN
 by_cases h1:n<128
 ·exact .inl ⟨h1,if_pos h1⟩
 rw[if_neg h1]
 by_cases h2:n<2048
 ·exact .inr (.inl ⟨by omega,h2,if_pos h2⟩)
 rw[if_neg h2]
 by_cases h3:n<65536
 ·exact .inr (.inr (.inl ⟨by omega,h3,if_pos h3⟩))
 ·exact .inr (.inr (.inr ⟨by omega,if_neg h3⟩))
def zb9:q5b P 74 z9z:=by
 refine ql1 mixed (qdv (qhn zaf (qhn z29 (qhn zbd qkn)))) (W:=λ_=>{}) Go.Proofs.Tryd.func74 (by kernel_rfl) (by decide) (by decide) (λs=>by kernel_rfl) λ(c:Int)=>(zb8 c).mpr ?_
 rintro⟨h0,h1,hc⟩
 obtain⟨n,rfl⟩:=Int.eq_ofNat_of_zero_le h0
 rw[Int.toNat_natCast]at hc
 have hc2:=(z58 n).1 hc
 have lt:=z7j n hc2.1
 have pc:=z1r n hc2.1
 have lc:=z78 n hc2.1
 have s6:shP BinOp.shr .u32 (n:Int) 6=((n / 64:Nat):Int):=z2g n 6 (by omega)
 have s12:shP BinOp.shr .u32 (n:Int) 12=((n / 4096:Nat):Int):=z2g n 12 (by omega)
 have s18:shP BinOp.shr .u32 (n:Int) 18=((n / 262144:Nat):Int):=z2g n 18 (by omega)
 simp only[sbS,Int.toNat_natCast,exists_const,hc]
 refine⟨⟨h0,h1⟩,λh=>absurd h (by simp),λ_=>⟨⟨h0,h1⟩,λh=> ?xa,λhn1=>⟨λh=>⟨by decide,⟨h0,h1⟩,?xb⟩,λhn2=>⟨λh=>⟨by decide,by decide,?xc⟩,λh=>⟨by decide,by decide,?xd⟩⟩⟩⟩⟩
 case xa=>exact zba n hc2.1 (by omega)
 case xb=>
  have e:ptL n=[192+n / 64,128+n % 64]:=by rcases pc with⟨_,e⟩|⟨_,_,e⟩|⟨_,_,e⟩|⟨_,e⟩<;>first|exact e|omega
  refine⟨mkS (ptL n),by rw[q0f,e];rfl,z2h lt.1 ?_,rfl⟩
  have w:IntKind.wrap .u8 ((n / 64:Nat):Int)=((n / 64:Nat):Int):=by rw[z42];omega
  rw[e,s6,w,zb4.1 _ (by omega)];rfl
 case xc=>
  have e:ptL n=[224+n / 4096,128+n / 64 % 64,128+n % 64]:=by rcases pc with⟨_,e⟩|⟨_,_,e⟩|⟨_,_,e⟩|⟨_,e⟩<;>first|exact e|omega
  have w:IntKind.wrap .u8 ((n / 4096:Nat):Int)=((n / 4096:Nat):Int):=by rw[z42];omega
  rw[s6,s12,w,zb4.2.1 _ (by omega)]
  refine⟨⟨by omega,by omega⟩,⟨h0,h1⟩,mkS (ptL n),by rw[q0f,e];rfl,z2h lt.1 ?_,rfl⟩
  rw[e,Int.toNat_natCast];rfl
 case xd=>
  have e:ptL n=[240+n / 262144,128+n / 4096 % 64,128+n / 64 % 64,128+n % 64]:=by rcases pc with⟨_,e⟩|⟨_,_,e⟩|⟨_,_,e⟩|⟨_,e⟩<;>first|exact e|omega
  have w:IntKind.wrap .u8 ((n / 262144:Nat):Int)=((n / 262144:Nat):Int):=by rw[z42];omega
  rw[s6,s12,s18,w,zb4.2.2 _ (by omega)]
  refine⟨⟨by omega,by omega⟩,by decide,⟨by omega,by omega⟩,⟨h0,h1⟩,mkS (ptL n),by rw[q0f,e];rfl,z2h lt.1 ?_,rfl⟩
  rw[e,Int.toNat_natCast,Int.toNat_natCast];rfl
variable {v:ByteArray}
def z27(h:v.size<2):z23 v=none:=by unfold z23;rw[if_pos h]
def z55(h:¬v.size<2) (h1:bat v 1≠117):z23 v=match byF (bat v 1)with|some c=>some ([c],2)|none=>none:=by unfold z23;rw[if_neg h,if_pos h1]<;>rfl
def zab(h:¬v.size<2) (h1:¬bat v 1≠117):z23 v=match unF v with
  |none=>none
  | some a=>if isC a=true then some (ptL a,6)else if 56320<=a then none else
    match unF (v.extract 6 v.size)with
    |none=>none
    |some b=>if 56320<=b/\b<=57343 then some (ptL (65536+(a- 55296)*1024+(b- 56320)),12)else none:=by unfold z23;rw[if_neg h,if_neg h1]<;>rfl
def z8z{n c:Nat} (hn:n<256) (h:byF n=some c):c<256:=by
 rcases z25 n with⟨_,e⟩|⟨_,e⟩|⟨_,e⟩|⟨_,e⟩|⟨_,e⟩|⟨_,e⟩|⟨_,e⟩<;>rw[e]at h<;>cases h<;>omega
def z96{a:Nat} (h:isC a=false) (ha:a<65536):55296<=a/\a<=57343:=by
 have:=z58 a
 rw[h]at this
 have h2:¬(a<=1114111/\¬(55296<=a/\a<=57343)):=λq=>by have:=this.2 q;cases this
 omega
variable {x:List Nat×Nat}
def z0y(h:z23 v=some x):2<=x.2/\x.2<=12/\x.2<=v.size/\x.1.length<=x.2/\∀c∈x.1,c<256:=by
  by_cases h1:v.size<2
  · rw[z27 h1]at h;cases h
  by_cases h2:bat v 1≠117
  · rw[z55 h1 h2]at h
    cases hb:byF (bat v 1)with
    |none=>rw[hb]at h;cases h
    | some c=>
      rw[hb]at h;cases h
      refine⟨by simp,by simp,by simp;omega,by simp,λy hy=> ?_⟩
      rw[List.mem_singleton.1 hy];exact z8z (z0u _ _) hb
  · rw [zab h1 h2]at h
    cases ha:unF v with
    |none=>rw[ha]at h;cases h
    | some a=>
      rw[ha]at h
      have la:=z7u ha
      simp only at h
      split at h
      · rename_i hi
        cases h
        have p:=z7j a (by omega)
        exact⟨by simp,by simp,by simp;omega,by simp;omega,p.1⟩
      · rename_i hi
        split at h
        · cases h
        rename_i hge
        cases hb:unF (v.extract 6 v.size)with
        |none=>rw[hb]at h;cases h
        | some b=>
          rw[hb]at h
          have lb:=z7u hb
          rw[ByteArray.size_extract]at lb
          have no:=z96 (a:=a) (by simpa using hi) la.1
          simp only at h
          split at h
          · rename_i hbb
            have h:=Option.some.inj h
            subst h
            have p:=z7j (65536+(a- 55296)*1024+(b- 56320)) (by omega)
            generalize 65536+(a- 55296)*1024+(b- 56320)=q at p⊢
            exact⟨show 2<=12 by decide,show 12<=12 by decide,show 12<=v.size by omega,Nat.le_trans p.2.2 (show 4<=12 by decide),p.1⟩
          · cases h
def z0n(h:z23 v=none):esB v=mkS []/\((esN v:Nat):Int)=0:=by
 unfold esB esN;rw[h];exact⟨rfl,rfl⟩
def z11(h:z23 v=some x):esB v=mkS x.1/\esN v=x.2:=by
 unfold esB esN;rw[h];exact⟨rfl,rfl⟩
def zdj(a:Nat) (ha:a<65536):qbh .and .u32 (a:Int) 1023=((a % 1024:Nat):Int):=by
 have h1:qbh BinOp.and IntKind.u32 (a:Int) 1023=bits .and .u32 (a:Int) ((1023:Nat):Int):=rfl
 rw[h1,u32_and_nat a 1023 (by omega) (by omega)]
 congr 1
 exact Nat.and_two_pow_sub_one_eq_mod a 10
def zgi(a:Nat) (ha:a<1024):shP BinOp.shl .u32 (a:Int) 10=((a*1024:Nat):Int):=by
 show IntKind.u32.wrap ((a:Int)*2 ^ 10)=_
 rw[wrap32];omega
def zaa:q5b P 58 z9t:=by
 refine ql1 mixed (qdv (qhn zaf (qhn z4r (qhn z7w (qhn zb9 qkn))))) (W:=λ_=>{}) Go.Proofs.Tryd.func58 (by kernel_rfl) (by decide) (by decide) (λs=>by kernel_rfl) λ(v:ByteArray)=>(za9 v).mpr ?_
 rintro⟨hsz,_⟩
 have b1:=z0u v 1
 simp only[sbS,Int.toNat_natCast,exists_const]
 refine⟨λh=>z0n (z27 (by omega)),λh=>⟨by omega,λh1=>⟨by omega,by omega,λh2=>z0n ?_,λh2=> ?xa⟩,λh1=>⟨hsz,λh2=>z0n ?_,λh2=> ?xb⟩⟩⟩
 ·rw[z55 (by omega) (by omega),Option.isSome_eq_false_iff.1 h2|>Option.isNone_iff_eq_none.1]
 case xa=>
  obtain⟨c,hc⟩:=Option.isSome_iff_exists.1 h2
  have lt:=z8z b1 hc
  have e:=z11 (v:=v) (x:=([c],2)) (by rw[z55 (by omega) (by omega),hc])
  rw[hc]
  exact⟨mkS [c],rfl,z2h (λx hx=>by rw[List.mem_singleton.1 hx];exact lt) rfl,e.1,by rw[e.2];rfl⟩
 ·rw[zab (by omega) (by omega),Option.isSome_eq_false_iff.1 h2|>Option.isNone_iff_eq_none.1]
 case xb =>
  obtain⟨a,ha⟩:=Option.isSome_iff_exists.1 h2
  have la:=z7u ha
  have eu:=zab (v:=v) (by omega) (by omega)
  rw[ha]at eu⊢
  simp only[Option.getD_some,Int.toNat_natCast]at eu⊢
  refine⟨by omega,λhi=> ?_,λhi=> ?_⟩
  ·rw[if_pos hi]at eu
   have e:=z11 eu
   exact⟨⟨by omega,by omega,hi⟩,e.1,by rw[e.2];rfl⟩
  ·have no:=z96 hi la.1
   rw[if_neg (by rw[hi];simp)]at eu
   refine⟨by omega,by rw[ByteArray.size_extract];omega,λh3=>z0n ?_,λh3=> ?_⟩
   ·rw[eu]
    split
    ·rfl
    ·rw[Option.isSome_eq_false_iff.1 h3|>Option.isNone_iff_eq_none.1]
   obtain⟨b,hb⟩:=Option.isSome_iff_exists.1 h3
   have lb:=z7u hb
   have sa:shP BinOp.shr .u32 (a:Int) 10=((a / 1024:Nat):Int):=z2g a 10 (by omega)
   have sb:shP BinOp.shr .u32 (b:Int) 10=((b / 1024:Nat):Int):=z2g b 10 (by omega)
   rw[hb]at eu⊢
   simp only[Option.getD_some]at eu⊢
   rw[sa,sb]
   refine⟨by decide,λh4=>z0n ?_,λh4=>⟨by decide,λh5=>z0n ?_,λh5=>⟨by decide,?_⟩⟩⟩
   ·rw[eu,if_pos (by omega)]
   ·rw[eu,if_neg (by omega),if_neg (by omega)]
   ·rw[if_neg (by omega),if_pos (by omega)]at eu
    have e:=z11 eu
    clear eu
    have v1:IntKind.wrap .u32 (IntKind.wrap .u32 (65536+shP BinOp.shl .u32 (qbh BinOp.and .u32 (a:Int) 1023) 10)+qbh BinOp.and .u32 (b:Int) 1023)=((65536+(a- 55296)*1024+(b- 56320):Nat):Int):=by
     rw[zdj a la.1,zdj b lb.1,zgi _ (by omega),wrap32,wrap32];omega
    rw[v1]
    have hq:65536<=65536+(a- 55296)*1024+(b- 56320)/\65536+(a- 55296)*1024+(b- 56320)<=1114111:=by omega
    clear v1
    generalize 65536+(a- 55296)*1024+(b- 56320)=q at hq e⊢
    simp only[Int.toNat_natCast]
    exact⟨⟨by omega,by omega,(z58 _).2 ⟨by omega,by omega⟩⟩,e.1,by rw[e.2];rfl⟩
def z6w:q5b P 57 z4u:=by
 refine ql1 mixed (qdv (qhn z1w qkn)) (W:=λ_=>{}) Go.Proofs.Tryd.func57 (by kernel_rfl) (by decide) (by decide) (λs=>by kernel_rfl) λ⟨(s:ByteArray),(n:Int)⟩=>(z6v s n).mpr ?_
 intro h
 simp only[sbS,Int.toNat_natCast,exists_const]
 refine⟨by omega,λh1=> ?_,λh1=> ?_⟩
 ·rw[if_neg (by rw[h1];simp),if_neg (by rw[h1];simp),if_neg (by rw[h1];simp)];exact⟨rfl,rfl,rfl⟩
 ·rw[if_pos h1,if_pos h1,if_pos h1];exact⟨rfl,rfl,rfl⟩
end
def z3k{v:ByteArray}:((esN v:Nat):Int)=0↔z23 v=none:=by
  constructor
  · intro h
    cases he:z23 v with
    |none=>rfl
    | some x=>
      have:=z11 he
      have:=z0y he
      omega
  · intro h;exact(z0n h).2
section
def z0q(u:ByteArray):∀(f g i:Nat) (acc:List Nat),u.size+1- i<=f->u.size+1- i<=g->uqG u f i acc=uqG u g i acc
  |0,0,i,acc,_,_=>rfl
  |0,g+1,i,acc,h,_=>by rw[uqG,uqG,if_neg (by omega)]
  |f+1,0,i,acc,_,h=>by rw[uqG,uqG,if_neg (by omega)]
  | f + 1,g+1,i,acc,h1,h2=>by
    rw[uqG,uqG]
    by_cases h:i<u.size
    · rw [if_pos h,if_pos h]
      by_cases h3:bat u i=34
      · rw[if_pos h3,if_pos h3]
      rw[if_neg h3,if_neg h3]
      by_cases h4:bat u i<32
      · rw[if_pos h4,if_pos h4]
      rw[if_neg h4,if_neg h4]
      by_cases h5:bat u i=92
      · rw[if_pos h5,if_pos h5]
        cases he:z23 (u.extract i u.size)with
        |none=>rfl
        | some x=>
          have:=z0y he
          exact z0q u f g _ _ (by omega) (by omega)
      · rw[if_neg h5,if_neg h5]
        exact z0q u f g _ _ (by omega) (by omega)
    · rw[if_neg h,if_neg h]
def z1v(u:ByteArray) (i:Nat) (acc:List Nat):uqE u i acc=if i<u.size then
      if bat u i=34 then some (acc,i+1)else if bat u i<32 then none else if bat u i=92 then
        match z23 (u.extract i u.size)with
        |some x=>uqE u (i+x.2) (acc++x.1)
        |none=>none
      else uqE u (i+1) (acc++[bat u i])
    else none:=by
  by_cases h:i<u.size
  · have e:uqE u i acc=uqG u (u.size+1) i acc:=z0q u _ _ _ _ (by omega) (by omega)
    rw[e,uqG,if_pos h,if_pos h]
    by_cases h3:bat u i=34
    · rw[if_pos h3,if_pos h3]
    rw[if_neg h3,if_neg h3]
    by_cases h4:bat u i<32
    · rw[if_pos h4,if_pos h4]
    rw[if_neg h4,if_neg h4]
    by_cases h5:bat u i=92
    · rw[if_pos h5,if_pos h5]
      cases he:z23 (u.extract i u.size)with
      |none=>rfl
      | some x=>
        have:=z0y he
        exact z0q u _ _ _ _ (by omega) (by omega)
    · rw[if_neg h5,if_neg h5]
      exact z0q u _ _ _ _ (by omega) (by omega)
  · rw[if_neg h]
    unfold uqE
    generalize u.size+1- i=f
    cases f with
    |zero=>rfl
    |succ f=>rw[uqG,if_neg h]
def z8y(l m:List Nat):q1c (mkS (l++m))=q1c (mkS l)++q1c (mkS m):=by
 unfold q1c mkS;simp
def za4(s:ByteArray) (i:Nat) (h:i<s.size):s.data.toList.drop i=s[i]::s.data.toList.drop (i+1):=by
 have:s.data.toList[i]? =some s[i]:=by
  rw[Array.getElem?_toList];exact Array.getElem?_eq_getElem h
 rw[List.drop_eq_getElem?_toList_append,this];rfl
def z4o(s:ByteArray) (i:Nat) (h:i<s.size) (k:Nat):bat (s.extract i s.size) k=bat s (i+k):=by
 by_cases hk:i+k<s.size
 ·rw[z3b (s:=s.extract i s.size) (by rw[ByteArray.size_extract];omega),z3b hk]
  congr 1
  exact ByteArray.getElem_extract ..
 ·rw[z03 (by rw[ByteArray.size_extract];omega),z03 (by omega)]
variable {u:ByteArray}
def zgo(h:uqE u 1 []=none) (h0:¬u.size=0) (h1:¬bat u 0≠34):uqR u=(2,mkS [],0):=by
 unfold uqR;rw[if_neg h0,if_neg h1,h]
def zed{x:List Nat×Nat} (h:uqE u 1 []=some x) (h0:¬u.size=0) (h1:¬bat u 0≠34):uqR u=if vld (mkS x.1)=true then(0,mkS x.1,x.2)else(2,mkS [],0):=by
 unfold uqR;rw[if_neg h0,if_neg h1,h];rfl
def zeb:q5b P 46 zfo:=by
  refine ql1 mixed (qdv (qhn zaa (qhn z6w qkn))) (W:=zhc) Go.Proofs.Tryd.func46 (by kernel_rfl) (by decide) (by decide) (λs=>by kernel_rfl) λ(u:ByteArray)=>(zea u).mpr ?_
  intro hsz
  simp only[sbS,Int.toNat_natCast,exists_const]
  have bad:uqR u=(2,mkS [],0)->(uqR u).2.1=mkS []/\(((uqR u).2.2:Nat):Int)=0/\(((uqR u).1:Nat):Int)=2:=λh=>by rw[h];exact⟨rfl,rfl,rfl⟩
  refine⟨λh=>bad ?_,λh0=>⟨⟨by omega,by omega⟩,λh1=>bad ?_,λh1=>⟨⟨[],rfl,λc h=>(by cases h),by omega,by omega,by simp,rfl⟩,?_⟩⟩⟩
  · unfold uqR;rw[if_pos (by omega)]
  · unfold uqR;rw[if_neg (by omega),if_pos (by omega)]
  rintro⟨_,j⟩ ⟨l,rfl,hl,hj,hj2,hlen,inv⟩
  obtain⟨j,rfl⟩:=Int.eq_ofNat_of_zero_le (show 0<=j by omega)
  have bj:=z0u u j
  have hz:(q1c (bsL l)).length=l.length:=by rw[q34];exact q0f l
  have hz2:(bsL l).size=l.length:=q0f l
  simp only[Int.toNat_natCast,hz]at inv hlen⊢
  have step:=z1v u j l
  rw[inv]at step
  have no:=λh=>bad (zgo h (by omega) (by omega))
  refine⟨λhlt=>⟨⟨by omega,by omega⟩,λa1=> ?_,λa1=>⟨λa2=>no ?_,λa2=>⟨λa3=>⟨⟨by omega,by omega⟩,⟨by rw[ByteArray.size_extract];omega,λ_=> ?_⟩,λa4=>no ?_,λa4=> ?_⟩,λa3=> ?_⟩⟩⟩,λhge=>no ?_⟩
  · rw[if_pos (by omega),if_pos (by omega)]at step
    have e:=zed step (by omega) (by omega)
    refine⟨bsL l,hz2,λa v h=>by rw[Nat.zero_add];exact h,by omega,by omega,?_⟩
    have e2:vld (bsL l)=vld (mkS l):=rfl
    rw[e,e2]
    cases hv:vld (mkS l)
    · exact⟨rfl,rfl,rfl⟩
    · exact⟨rfl,rfl,rfl⟩
  · rw[step,if_pos (by omega),if_neg (by omega),if_pos (by omega)]
  · rw[z4o u j (by omega),Nat.add_zero];omega
  · rw[step,if_pos (by omega),if_neg (by omega),if_neg (by omega),if_pos (by omega),z3k.1 a4]
  · rw [if_pos (by omega),if_neg (by omega),if_neg (by omega),if_pos (by omega)]at step
    cases he:z23 (u.extract j u.size)with
    |none=>exact absurd (z3k.2 he) a4
    | some x=>
      have ex:=z0y he
      have es:=z11 he
      rw[he]at step
      simp only at step
      rw[ByteArray.size_extract]at ex
      have hx:(mkS x.1).size=x.1.length:=q0f _
      rw[es.1,es.2,List.length_append,hz,q34,hx]
      refine⟨by omega,by omega,by omega,rfl,⟨l++x.1,(z8y l x.1).symm,λc hc=> ?_,by omega,by omega,by rw[List.length_append];omega,?_⟩,by omega⟩
      · rcases List.mem_append.1 hc with h|h
        · exact hl c h
        · exact ex.2.2.2.2 c h
      · rw[show((j:Int)+(x.2:Nat)).toNat=j+x.2 by omega];exact step.symm
  · rw[if_pos (by omega),if_neg (by omega),if_neg (by omega),if_neg (by omega)]at step
    rw[List.length_append,hz]
    refine⟨by omega,by omega,by omega,rfl,⟨l++[bat u j],?_,λc hc=> ?_,by omega,by omega,by rw[List.length_append,List.length_singleton];omega,?_⟩,by omega⟩
    · rw[show q1c (bsL (l++[bat u j]))=q1c (mkS l)++q1c (mkS [bat u j])from z8y l [bat u j],z9q [bat u j] (λx hx=>by rw[List.mem_singleton.1 hx];exact bj)];rfl
    · rcases List.mem_append.1 hc with h|h
      · exact hl c h
      · rw[List.mem_singleton.1 h];exact bj
    · rw[show((j:Int)+1).toNat=j+1 by omega];exact step.symm
  · rw[step,if_neg (by omega)]
end
def isW(c:Nat):Bool:=decide (c=9)||decide (c=10)||decide (c=13)||decide (c=32)
def z0h(c:Nat):Bool:=decide (48<=c)&&decide (c<=57)
def skF(s:ByteArray):Nat->Nat->Nat
 |0,i=>i
 |f+1,i=>if isW (bat s i)=true then skF s f (i+1)else i
def sk(s:ByteArray) (i:Nat):Nat:=skF s (s.size- i) i
def pk(s:ByteArray) (i:Nat):Nat:=bat s (sk s i)
def dgF(s:ByteArray):Nat->Nat->Nat
 |0,i=>i
 |f+1,i=>if z0h (bat s i)=true then dgF s f (i+1)else i
def dg(s:ByteArray) (i:Nat):Nat:=dgF s (s.size- i) i
def rdO(s:ByteArray) (i:Int):List (Nat×AO):=[(1, .cells 40 (some 0) false [.sv (.string s), .sv (.int .i64 i)])]
def rdK(s:ByteArray) (i:Int):Prop:=0<=i/\i<=s.size/\s.size<=10000
abbrev RdS:=ByteArray×Int
def ce2(a b:AV):Option RdS:=match gv a,gv b with
 |some (.string s),some (.int _ i)=>some (s,i)
 |_,_=>none
def zda(l:List AV) (h:T AO):Option RdS:=match l with
  | .ptr k _::_=>match h.get k with
    |some (.cells _ _ _ [a,b])=>ce2 a b
    |_=>none
  |_=>none
def arI(l:List AV):Option Int:=match l with
  | [_,a]=>(match gv a with
    |some (.int _ c)=>some c
    |_=>none)
  |_=>none
def arS(l:List AV):Option ByteArray:=match l with
  | [_,a]=>(match gv a with
    |some (.string c)=>some c
    |_=>none)
  |_=>none
def both{α β:Type} (a:Option α) (b:Option β):Option (α×β):=match a with
 |some x=>(match b with|some y=>some (x,y)|none=>none)
 |none=>none
def rdJ(t:T AV) (h:T AO):Option Int:=match h.get 1 with
 |some (.cells _ _ _ [.sv (.string s), .sv (.int .i64 j)])=>some j
 |_=>none
def z2v:Ct where
 σ:=RdS
 args:=λ_=>[.ptr 1 0]
 h:=λ⟨s,i⟩=>rdO s i
 m:=2
 pre:=λ⟨s,i⟩=>rdK s i
 find:=some zda
 r:=λ⟨s,i⟩=> .sv (.int .u8 (pk s i.toNat:Nat))
 h':=λ⟨s,i⟩=>rdO s (sk s i.toNat:Nat)
 m':=2
 g:=λ_=>none
def zek:z2v.σ->WayF:=λ⟨s,i⟩=>{ann:=λ_ _ _=>some {σ:=Int,pre:=λj=>i<=j/\j<=s.size/\sk s j.toNat=sk s i.toNat,find:=some rdJ,t:=λj=>[],h:=λj=>rdO s j,more:=0,μ:=λj=>s.size- j.toNat,keep:=[0]}}
def tkP(s:ByteArray) (i c:Nat):Nat:=if pk s i=c then sk s i+1 else sk s i
def z6r:Ct where
 σ:=RdS×Int
 args:=λ⟨⟨s,i⟩,c⟩=>[.ptr 1 0, .sv (.int .u8 c)]
 h:=λ⟨⟨s,i⟩,c⟩=>rdO s i
 m:=2
 pre:=λ⟨⟨s,i⟩,c⟩=>rdK s i/\0<c/\c<256
 find:=some λl h=>both (zda l h) (arI l)
 r:=λ⟨⟨s,i⟩,c⟩=> .sv (.bool (decide (pk s i.toNat=c.toNat)))
 h':=λ⟨⟨s,i⟩,c⟩=>rdO s (tkP s i.toNat c.toNat:Nat)
 m':=2
 g:=λ_=>none
def zgl:Nat->Option Ct:=qg8 [(14,z2v)]
def wdF(s:ByteArray) (i:Nat) (w:ByteArray):Bool:=decide (i+w.size<=s.size)&&decide (s.extract i (i+w.size)=w)
def wdP(s:ByteArray) (i:Nat) (w:ByteArray):Nat:=if wdF s i w=true then i+w.size else i
def cHP:Ct:=ctS (ByteArray×ByteArray) (λ⟨s,w⟩=>[.string s, .string w]) (λvs=>match vs with| [.string a, .string b]=>some (a,b)|_=>none) (λ_=>True) (λ_=>{}) λ⟨s,w⟩=> .sv (.bool (Lib.hasPrefix s.data.toList w.data.toList))
def za1:Ct where
 σ:=RdS×ByteArray
 args:=λ⟨⟨s,i⟩,c⟩=>[.ptr 1 0, .sv (.string c)]
 h:=λ⟨⟨s,i⟩,c⟩=>rdO s i
 m:=2
 pre:=λ⟨⟨s,i⟩,c⟩=>rdK s i
 find:=some λl h=>both (zda l h) (arS l)
 r:=λ⟨⟨s,i⟩,c⟩=> .sv (.bool (wdF s i.toNat c))
 h':=λ⟨⟨s,i⟩,c⟩=>rdO s (wdP s i.toNat c:Nat)
 m':=2
 g:=λ_=>none
def zgn:Nat->Option Ct:=qg8 [(48,cHP)]
def uqS(s:ByteArray) (i:Nat):Nat×ByteArray×Nat:=uqR (s.extract (sk s i) s.size)
def z6s:Ct where
 σ:=RdS
 args:=λ_=>[.ptr 1 0]
 h:=λ⟨s,i⟩=>rdO s i
 m:=2
 pre:=λ⟨s,i⟩=>rdK s i
 find:=some zda
 r:=λ⟨s,i⟩=> .tup [.sv (.string (uqS s i.toNat).2.1), .sv (.int .i64 ((uqS s i.toNat).1:Nat))]
 h':=λ⟨s,i⟩=>rdO s (sk s i.toNat+(uqS s i.toNat).2.2:Nat)
 m':=2
 g:=λ_=>none
def zgm:Nat->Option Ct:=qg8 [(14,z2v),(46,zfo)]
def nmM(s:ByteArray) (i:Nat):Nat:=if bat s i=45 then i+1 else i
def nqF(s:ByteArray):Nat->Nat->Nat->Nat×Nat×Bool
 |0,j,v=>(v,j,false)
 |f+1,j,v=>if z0h (bat s j)=true then(if(9223372036854775808- (bat s j- 48)) / 10<v then(v,j,true)else nqF s f (j+1) (v*10+(bat s j- 48)))else(v,j,false)
def nq(s:ByteArray) (j v:Nat):Nat×Nat×Bool:=nqF s (s.size- j) j v
def piR(l:List UInt8):Option Int:=match Lib.parseIntB 64 l with
 | .ok u=>some u
 |_=>none
def erP(p:Pub):Prop:=(∃t v e fr,p 1=some (.cells #[.iface t v] e fr))/\∃t v e fr,p 2=some (.cells #[.iface t v] e fr)
def erM:PF:=⟨true,erP,λp q h ⟨⟨t,v,e,fr,h1⟩,⟨t',v',e',fr',h2⟩⟩=>⟨⟨t,v,e,fr,h _ _ h1⟩,⟨t',v',e',fr',h _ _ h2⟩⟩⟩
def piP(s:ByteArray) (v:Int) (e:Value):Prop:=match piR s.data.toList with
 |some u=>v=u/\e= .nilIface
 |none=>∃t x,e= .iface t x
def cPI:CtR where
 σ:=ByteArray
 args:=λs=>[.sv (.string s), .sv (.int .i64 10), .sv (.int .i64 64)]
 h:=λ_=>[]
 m:=1
 pre:=λs=>s.size<=10000
 mem:=λ_=>erM
 find:=some λl _=>match l with
  | .sv (.string s)::_=>some s
  |_=>none
 β:=λ_=>Int×Value
 post:=λs ⟨v,e⟩=>piP s v e
 r:=λs ⟨v,e⟩=> .tup [.sv (.int .i64 v), .sv e]
 h':=λ_ _=>[]
 m':=1
def nmR(s:ByteArray) (i:Nat):Option Int:=if nmM s i+1<dg s (nmM s i)/\bat s (nmM s i)=48 then none else piR (s.extract i (dg s (nmM s i))).data.toList
def erO{α:Type} (o:Option α):Nat:=match o with
 |some _=>0
 |none=>2
def zfn:Ct where
 σ:=RdS
 args:=λ_=>[.ptr 1 0]
 h:=λ⟨s,i⟩=>rdO s i
 m:=2
 pre:=λ⟨s,i⟩=>rdK s i/\i<s.size
 mem:=λ_=>erM
 find:=some zda
 r:=λ⟨s,i⟩=> .tup [.sv (.int .i64 ((nmR s i.toNat).getD 0)), .sv (.int .i64 (erO (nmR s i.toNat):Nat))]
 h':=λ⟨s,i⟩=>rdO s (dg s (nmM s i.toNat):Nat)
 m':=2
 g:=λ_=>none
def nmL(s:ByteArray) (i:Int) (pre:Prop):LT:={σ:=Unit,pre:=λ_=>pre,find:=some λ_ _=>some (),t:=λ_=>[(5, .sv (.int .i64 (nmM s i.toNat:Nat)))],h:=λ_=>rdO s (dg s (nmM s i.toNat):Nat),more:=0,μ:=λ_=>0,keep:=[0,4]}
def zhb:zfn.σ->WayF:=λ⟨s,i⟩=>{
 ann:=λ_ _ _=>some {σ:=Int,pre:=λj=>(nmM s i.toNat:Nat)<=j/\j<=s.size/\dg s j.toNat=dg s (nmM s i.toNat),find:=some rdJ,t:=λj=>[(5, .sv (.int .i64 (nmM s i.toNat:Nat)))],h:=λj=>rdO s j,more:=0,μ:=λj=>s.size- j.toNat,keep:=[0,4]}
 cut:=λk _ _=>match k with
  |7=>some (nmL s i True)
  |9=>some (nmL s i (¬(nmM s i.toNat+1<dg s (nmM s i.toNat)/\bat s (nmM s i.toNat)=48)))
  |_=>none
 spl:=λk=>match k with
  |9=>some 10
  |_=>none
 flo:=λk=>match k with
  |9=>some (13,[])
  |_=>none}
def isX(c:Nat):Bool:=decide (c=46)||decide (c=101)||decide (c=69)
def nqX(s:ByteArray) (i:Nat):Nat×Nat×Bool:=nq s (nmM s i) 0
def z7c(s:ByteArray) (i:Nat):Bool:= !(nqX s i).2.2&&(!decide ((nqX s i).2.1=nmM s i)&&(!(decide (bat s (nmM s i)=48)&&decide (nmM s i+1<(nqX s i).2.1))&&(!isX (bat s (nqX s i).2.1)&&(decide (bat s i=45)||decide ((nqX s i).1<9223372036854775808)))))
def nqV(s:ByteArray) (i:Nat):Int:=if bat s i=45 then -((nqX s i).1:Int)else((nqX s i).1:Nat)
section
variable (x0:ByteArray) (x1 x2 x3:Int)
 abbrev zfs:=(↑(bat x0 (toNat x1)):Int)=x2
 def zj6:=Jb (x1+1)/\x0=x0/\x1+1=x1+1/\(x2<=x1+1/\x1+1<=(↑(size x0):Int)/\sk x0 (toNat (x1+1))=sk x0 (toNat x2))/\size x0- toNat (x1+1)<size x0- toNat x1/\True
 def zj9:=(↑(pk x0 (toNat x1)):Int)=(↑(bat x0 (toNat x2)):Int)/\x0=x0/\(↑(sk x0 (toNat x1)):Int)=x2/\True
 def zet:=Ji ((↑(bat x0 (toNat x1)):Int)=x3) (zj6 x0 x1 x2) (zj9 x0 x2 x1)
 abbrev zj8:=Ji (zfs x0 x1 13) (zet x0 x1 x2 13) (zet x0 x1 x2 32)
 abbrev zj7:=Ji (zfs x0 x1 10) (zet x0 x1 x2 10) (zj8 x0 x1 x2)
 def zj5:=(0<=x1/\x1<(↑(size x0):Int))/\Ji (zfs x0 x1 9) (zet x0 x1 x2 9) (zj7 x0 x1 x2)
 def zj4:=Ji (x1<(↑(size x0):Int)) (zj5 x0 x1 x2) ((↑(pk x0 (toNat x2)):Int)=0/\x0=x0/\(↑(sk x0 (toNat x2)):Int)=x1/\True)
 def zj3:=(x0=x0/\x1=x1/\(x1<=x1/\x1<=(↑(size x0):Int)/\sk x0 (toNat x1)=sk x0 (toNat x1))/\True)/\∀(i0:Int),x1<=i0/\i0<=(↑(size x0):Int)/\sk x0 (toNat i0)=sk x0 (toNat x1)->zj4 x0 i0 x1
end
def z7g(s:ByteArray) (i:Int):qky P (λ_=>none) Go.Proofs.Tryd.f14 z2v (zek) ⟨s,i⟩=(rdK s i->zj3 s i):=by kernel_rfl
def zb7:=λs i=>Eq.trans (z7g s i) (by delta Ji Jb Jt Jf zfs zj6 zj9 zet zj8 zj7 zj5 zj4 zj3;exact rfl)
def zbe(s:ByteArray) (i c:Int):qky P (zgl) Go.Proofs.Tryd.f45 z6r (λ_=>{}) ⟨⟨s,i⟩,c⟩=(rdK s i/\(0:Int)<c/\c<(256:Int)->s=s/\i=i/\rdK s i/\((!decide ((↑(pk s (toNat i)):Int)=c))=true->decide (pk s (toNat i)=toNat c)=false/\s=s/\(↑(tkP s (toNat i) (toNat c)):Int)=(↑(sk s (toNat i)):Int)/\True)/\((!decide ((↑(pk s (toNat i)):Int)=c))=false->((-9223372036854775808:Int)<=(↑(sk s (toNat i)):Int)+(1:Int)/\(↑(sk s (toNat i)):Int)+(1:Int)<=(9223372036854775807:Int))/\decide (pk s (toNat i)=toNat c)=true/\s=s/\(↑(tkP s (toNat i) (toNat c)):Int)=(↑(sk s (toNat i)):Int)+(1:Int)/\True)):=by kernel_rfl
def zbp(s:ByteArray) (i:Int) (c:ByteArray):qky P (zgn) Go.Proofs.Tryd.f29 za1 (λ_=>{}) ⟨⟨s,i⟩,c⟩=(rdK s i->((0:Int)<=i/\i<=(↑(size s):Int))/\ByteArray.extract s (toNat i) (size s)=ByteArray.extract s (toNat i) (size s)/\c=c/\True/\((!Lib.hasPrefix (Array.toList (ByteArray.data (ByteArray.extract s (toNat i) (size s)))) (Array.toList (ByteArray.data c)))=true->wdF s (toNat i) c=false/\s=s/\(↑(wdP s (toNat i) c):Int)=i/\True)/\((!Lib.hasPrefix (Array.toList (ByteArray.data (ByteArray.extract s (toNat i) (size s)))) (Array.toList (ByteArray.data c)))=false->((-9223372036854775808:Int)<=i+(↑(size c):Int)/\i+(↑(size c):Int)<=(9223372036854775807:Int))/\wdF s (toNat i) c=true/\s=s/\(↑(wdP s (toNat i) c):Int)=i+(↑(size c):Int)/\True)):=by kernel_rfl
section
variable (x0:ByteArray) (x1:Int)
 abbrev z9n:=(↑(sk x0 (toNat x1)):Int)
 abbrev zde:=ByteArray.extract x0 (toNat (z9n x0 x1)) (size x0)
 def zja:=x0=x0/\x1=x1/\rdK x0 x1/\(0<=(z9n x0 x1)/\(z9n x0 x1)<=(↑(size x0):Int))/\ByteArray.extract x0 (toNat (z9n x0 x1)) (size x0)=ByteArray.extract x0 (toNat (z9n x0 x1)) (size x0)/\size (zde x0 x1)<100000/\Jb ((z9n x0 x1)+(↑(uqR (zde x0 x1)).2.2:Int))/\(uqS x0 (toNat x1)).2.1=(uqR (zde x0 x1)).2.1/\(↑(uqS x0 (toNat x1)).1:Int)=(↑(uqR (zde x0 x1)).1:Int)/\x0=x0/\(↑(sk x0 (toNat x1)+(uqS x0 (toNat x1)).2.2):Int)=(z9n x0 x1)+(↑(uqR (zde x0 x1)).2.2:Int)/\True
end
def z5u(s:ByteArray) (i:Int):qky P (zgm) Go.Proofs.Tryd.f27 z6s (λ_=>{}) ⟨s,i⟩=(rdK s i->zja s i):=by kernel_rfl
def z7r:=λs i=>Eq.trans (z5u s i) (by delta Jb z9n zde zja;exact rfl)
section
variable (x0:Int) (x1:ByteArray) (x2:Int) (x3:Int×Value) (x4:Prop)
 abbrev z1d:=x0<(↑(size x1):Int)
 abbrev zc2:=Jb (x0+1)
 abbrev z0g:=(↑(nmM x1 (toNat x0)):Int)
 def z48:=(∀i0,True/\erP i0->True/\erP i0)
 def zc4:=decide (z1d x0 x1)=decide (z1d x0 x1)
 def z6a:=zc4 x0 x1/\zc4 x0 x1/\zc4 x0 x1/\zc4 x0 x1/\x4
 abbrev z49:=48<=(↑(bat x1 (toNat x0)):Int)
 def zc3:=decide (z49 x0 x1)=decide (z49 x0 x1)
 def z6b:=zc3 x0 x1/\zc3 x0 x1/\zc3 x0 x1/\zc3 x0 x1/\x4
 def zew:=zc2 x0/\(z0g x2 x1)=(z0g x2 x1)/\x2=x2/\x1=x1/\x0+1=x0+1/\z48/\((z0g x2 x1)<=x0+1/\x0+1<=(↑(size x1):Int)/\dg x1 (toNat (x0+1))=dg x1 (nmM x1 (toNat x2)))/\size x1- toNat (x0+1)<size x1- toNat x0/\True
 abbrev z0t:=(↑(dg x1 (nmM x1 (toNat x0))):Int)
 def zdf:=(z0g x0 x1)=(z0g x0 x1)/\x0=x0/\x1=x1/\(z0t x0 x1)=x2/\z48/\True/\True
 def zeu:=Ji ((↑(bat x1 (toNat x0)):Int)<=57) (zew x0 x1 x2) (zdf x2 x1 x0)
 def zjf:=z6b x0 x1 (z6b x0 x1 ((0<=x0/\z1d x0 x1)/\zc3 x0 x1/\Ji (z49 x0 x1) (zeu x0 x1 x2) (zdf x2 x1 x0)))
 def zf0:=zc3 x0 x1/\z6b x0 x1 (z6b x0 x1 (Ji (z49 x0 x1) (False) (zdf x2 x1 x0)))
 abbrev zje:=Ji (z49 x0 x1) (zjf x0 x1 x2) (zf0 x0 x1 x2)
 def zjd:=z6a x0 x1 (z6a x0 x1 ((0<=x0/\z1d x0 x1)/\zc4 x0 x1/\Ji (z1d x0 x1) (zje x0 x1 x2) (zdf x2 x1 x0)))
 def zf1:=zc4 x0 x1/\z6a x0 x1 (z6a x0 x1 (Ji (z1d x0 x1) (False) (zdf x2 x1 x0)))
 abbrev zjc:=Ji (z1d x0 x1) (zjd x0 x1 x2) (zf1 x0 x1 x2)
 def zbz:=∀(i0:Int),(z0g x0 x1)<=i0/\i0<=(↑(size x1):Int)/\dg x1 (toNat i0)=dg x1 (nmM x1 (toNat x0))->zjc i0 x1 x0
 def zc1:=(↑(erO (nmR x1 (toNat x0))):Int)=x2/\x1=x1/\(z0t x0 x1)=(z0t x0 x1)/\True
 def zby:=Option.getD (nmR x1 (toNat x0)) (0:Int)=0/\zc1 x0 x1 2
 def zc0:=nmM x1 (toNat x0)+1<dg x1 (nmM x1 (toNat x0))/\bat x1 (nmM x1 (toNat x0))=48
 def zbx:=(z0g x0 x1)=(z0g x0 x1)/\x0=x0/\x1=x1/\(z0t x0 x1)=(z0t x0 x1)/\z48/\¬(zc0 x0 x1)/\True
 def zez:=(0<=(z0g x0 x1)/\(z0g x0 x1)<(↑(size x1):Int))/\Ji ((↑(bat x1 (toNat (z0g x0 x1))):Int)=48) (zby x0 x1) (zbx x0 x1)
 def zf2:=Option.getD (nmR x1 (toNat x0)) (0:Int)=x3.1/\zc1 x0 x1 0
 def zey:=(x3.2=Value.nilIface\/∃(i0:TypeId),∃i1,x3.2=Value.iface i0 i1)/\((!Sen.nilV x3.2)=true->zby x0 x1)/\((!Sen.nilV x3.2)=false->zf2 x0 x1 x3)
 def zjg:=(0<=x0/\x0<=(z0t x0 x1)/\(z0t x0 x1)<=(↑(size x1):Int))/\ByteArray.extract x1 (toNat x0) (toNat (z0t x0 x1))=ByteArray.extract x1 (toNat x0) (toNat (z0t x0 x1))/\(10:Int)=10/\(64:Int)=64/\size (ByteArray.extract x1 (toNat x0) (toNat (z0t x0 x1)))<=10000/\(∀i0,True/\erP i0->erP i0)/\∀(i1:Int×Value),piP (ByteArray.extract x1 (toNat x0) (toNat (z0t x0 x1))) i1.1 i1.2->zey x0 x1 i1
 def zgt:=(Jb ((z0g x0 x1)+1)/\Ji ((z0g x0 x1)+1<(z0t x0 x1)) (zez x0 x1) (zbx x0 x1))/\∀(i2:Unit),¬(zc0 x0 x1)->zjg x0 x1
 def zev:=zc2 x0/\(((z0g x0 x1)=x0+1/\x0=x0/\x1=x1/\x0+1=x0+1/\z48/\((z0g x0 x1)<=x0+1/\x0+1<=(↑(size x1):Int)/\dg x1 (toNat (x0+1))=dg x1 (nmM x1 (toNat x0)))/\True)/\zbz x0 x1)/\∀(i2:Unit),True->zgt x0 x1
 def zex:=(((z0g x0 x1)=x0/\x0=x0/\x1=x1/\x0=x0/\z48/\((z0g x0 x1)<=x0/\x0<=(↑(size x1):Int)/\dg x1 (toNat x0)=dg x1 (nmM x1 (toNat x0)))/\True)/\zbz x0 x1)/\∀(i2:Unit),True->zgt x0 x1
 def zjb:=(0<=x0/\z1d x0 x1)/\Ji ((↑(bat x1 (toNat x0)):Int)=45) (zev x0 x1) (zex x0 x1)
end
def z7d(s:ByteArray) (i:Int):ql0 P (λ_=>none) (qhc [(47,cPI)]) Go.Proofs.Tryd.f28 zfn (zhb) ⟨s,i⟩=(rdK s i/\z1d i s->(∃(p:Pub),True/\erP p)->zjb i s):=by kernel_rfl
def zb1:=λs i=>Eq.trans (z7d s i) (by delta Ji Jb Jt Jf z1d zc2 z0g z48 zc4 z6a z49 zc3 z6b zew z0t zdf zeu zjf zf0 zje zjd zf1 zjc zbz zc1 zby zc0 zbx zez zf2 zey zjg zgt zev zex zjb;exact rfl)
section
def z97{c:Nat} (h:isW c=true):c≠0:=by unfold isW at h;intro e;subst e;simp at h
def z0i{c:Nat} (h:z0h c=true):48<=c/\c<=57:=by unfold z0h at h;simpa using h
variable {s:ByteArray} {i:Nat}
def z9e(h:s.size<=i):sk s i=i:=by unfold sk;rw[show s.size- i=0 by omega];rfl
def ze2(h:isW (bat s i)=true):sk s i=sk s (i+1):=by
 have hl:i<s.size:=Nat.lt_of_not_le λh2=>z97 h (z03 h2)
 unfold sk
 rw[show s.size- i=(s.size- (i+1))+1 by omega,skF,if_pos h]
def z7n(h:isW (bat s i)=false):sk s i=i:=by
 unfold sk
 cases s.size- i with
 |zero=>rfl
 |succ f=>rw[skF,if_neg (by rw[h];decide)]
def z3p(s:ByteArray):∀(f i:Nat),i<=skF s f i/\(i+f<=s.size->skF s f i<=s.size)/\(f=s.size- i->isW (bat s (skF s f i))=false)
  | 0,i=>⟨Nat.le_refl _,λh=>h,λh=>by
    show isW (bat s i)=false
    rw[z03 (by omega)];rfl⟩
  | f +1,i=>by
    rw[skF]
    cases h:isW (bat s i)with
    | true=>
      rw[if_pos rfl]
      have:=z3p s f (i+1)
      exact⟨by omega,λh=>this.2.1 (by omega),λh=>this.2.2 (by omega)⟩
    | false=>
      rw[if_neg (by decide)]
      exact⟨Nat.le_refl _,λh=>by omega,λ_=>h⟩
def z17(s:ByteArray) (i:Nat):i<=sk s i:=(z3p s _ i).1
def z1s(h:i<=s.size):sk s i<=s.size:=(z3p s _ i).2.1 (by omega)
def ze1(s:ByteArray) (i:Nat):isW (bat s (sk s i))=false:=(z3p s _ i).2.2 rfl
def z0e(s:ByteArray) (i:Nat):sk s (sk s i)=sk s i:=z7n (ze1 s i)
def z3j(h:z0h (bat s i)=true):dg s i=dg s (i+1):=by
 have hl:i<s.size:=Nat.lt_of_not_le λh2=>by have:=z0i h;rw[z03 h2]at this;omega
 unfold dg
 rw[show s.size- i=(s.size- (i+1))+1 by omega,dgF,if_pos h]
def z54(h:z0h (bat s i)=false):dg s i=i:=by
 unfold dg
 cases s.size- i with
 |zero=>rfl
 |succ f=>rw[dgF,if_neg (by rw[h];decide)]
def z52(s:ByteArray):∀(f i:Nat),i<=dgF s f i/\(i+f<=s.size->dgF s f i<=s.size)/\(f=s.size- i->z0h (bat s (dgF s f i))=false)
  | 0,i=>⟨Nat.le_refl _,λh=>h,λh=>by
    show z0h (bat s i)=false
    rw[z03 (by omega)];rfl⟩
  | f +1,i=>by
    rw[dgF]
    cases h:z0h (bat s i)with
    | true=>
      rw[if_pos rfl]
      have:=z52 s f (i+1)
      exact⟨by omega,λh=>this.2.1 (by omega),λh=>this.2.2 (by omega)⟩
    | false=>
      rw[if_neg (by decide)]
      exact⟨Nat.le_refl _,λh=>by omega,λ_=>h⟩
def z53(s:ByteArray) (i:Nat):i<=dg s i:=(z52 s _ i).1
def z6t(h:i<=s.size):dg s i<=s.size:=(z52 s _ i).2.1 (by omega)
def z5w(u:ByteArray):∀(f i:Nat) (acc:List Nat) (x:List Nat×Nat),uqG u f i acc=some x->i<x.2/\x.2<=u.size
  |0,i,acc,x,h=>by cases h
  | f + 1,i,acc,x,h=>by
    rw[uqG]at h
    split at h
    · rename_i hi
      split at h
      · obtain rfl:=Option.some.inj h
        exact⟨by show i<i+1;omega,by show i+1<=u.size;omega⟩
      split at h
      · cases h
      split at h
      · split at h
        · have:=z5w u f _ _ x h
          exact⟨by omega,this.2⟩
        · cases h
      · have:=z5w u f _ _ x h
        exact⟨by omega,this.2⟩
    · cases h
def z5y(u:ByteArray):(uqR u).2.2<=u.size/\((uqR u).1=0/\1<(uqR u).2.2\/uqR u=(2,mkS [],0)):=by
 unfold uqR
 split
 ·exact⟨Nat.zero_le _, .inr rfl⟩
 split
 ·exact⟨Nat.zero_le _, .inr rfl⟩
 split
 ·rename_i x hx
  have:=z5w u _ _ _ x hx
  unfold zh9
  split
  ·exact⟨this.2, .inl ⟨rfl,this.1⟩⟩
  ·exact⟨Nat.zero_le _, .inr rfl⟩
 ·exact⟨Nat.zero_le _, .inr rfl⟩
def zg4(s:ByteArray) (i:Nat) (w:ByteArray) (h:i<=s.size):Lib.hasPrefix (s.extract i s.size).data.toList w.data.toList=wdF s i w:=by
 unfold Lib.hasPrefix wdF
 have e1:(s.extract i s.size).data.toList=s.data.toList.drop i:=by
  rw[ByteArray.data_extract,Array.toList_extract,List.extract_eq_take_drop,List.take_of_length_le]
  rw[List.length_drop];exact Nat.le_of_eq (by rw[Array.length_toList];rfl)
 have e2:(s.extract i (i+w.size)=w)↔(s.data.toList.drop i).take w.size=w.data.toList:=by
  have:(s.extract i (i+w.size)).data.toList=(s.data.toList.drop i).take w.size:=by
   rw[ByteArray.data_extract,Array.toList_extract,List.extract_eq_take_drop,show i+w.size- i=w.size by omega]
  rw[←this]
  exact⟨λh=>by rw[h],λh=>ByteArray.ext (Array.toList_inj.mp h)⟩
 have hw:w.data.toList.length=w.size:=Array.length_toList
 have hs:s.data.toList.length=s.size:=Array.length_toList
 rw[e1,Bool.eq_iff_iff,Bool.and_eq_true,decide_eq_true_eq,decide_eq_true_eq,List.isPrefixOf_iff_prefix,e2,List.prefix_iff_eq_take,hw]
 constructor
 ·intro h2
  refine⟨?_,h2.symm⟩
  have:=congrArg List.length h2
  rw[List.length_take,List.length_drop,hw,hs]at this
  omega
 ·exactλh2=>h2.2.symm
def z81{w:ByteArray} (h:wdF s i w=true):i+w.size<=s.size:=by unfold wdF at h;simp only[Bool.and_eq_true,decide_eq_true_eq]at h;exact h.1
def zb0{j v:Nat} (h:z0h (bat s j)=false):nq s j v=(v,j,false):=by
 unfold nq
 cases s.size- j with
 |zero=>rfl
 |succ f=>rw[nqF,if_neg (by rw[h];decide)]
def z9d{j v:Nat} (h:z0h (bat s j)=true):nq s j v=if(9223372036854775808- (bat s j- 48)) / 10<v then(v,j,true)else nq s (j+1) (v*10+(bat s j- 48)):=by
 have hl:j<s.size:=Nat.lt_of_not_le λh2=>by have:=z0i h;rw[z03 h2]at this;omega
 unfold nq
 rw[show s.size- j=(s.size- (j+1))+1 by omega,nqF,if_pos h]
end
def z28{c:Nat}:isW c=true↔c=9\/c=10\/c=13\/c=32:=by unfold isW;simp[or_assoc]
def zae{c:Nat} (h1:¬(c:Int)=9) (h2:¬(c:Int)=10) (h3:¬(c:Int)=13) (h4:¬(c:Int)=32):isW c=false:=by
 cases h:isW c with
 |false=>rfl
 |true=>have:=z28.1 h;omega
def z1q:q5b Go.Proofs.Tryd.prog 14 z2v:=by
 refine ql1 mixed (λg C h=>by cases h) (W:=zek) Go.Proofs.Tryd.func14 (by kernel_rfl) (by decide) (by decide) (λs=>by kernel_rfl) λ(⟨s,i⟩:RdS)=>(zb7 s i).mpr ?_
 rintro⟨h1,h2,h3⟩
 simp only[sbS,Int.toNat_natCast,exists_const]
 refine⟨⟨by omega,h2⟩,?_⟩
 rintro j ⟨g1,g2,g3⟩
 obtain⟨j,rfl⟩:=Int.eq_ofNat_of_zero_le (show 0<=j by omega)
 have adv:isW (bat s j)=true->(-9223372036854775808<=(j:Int)+1/\(j:Int)+1<=9223372036854775807)/\(i<=(j:Int)+1/\(j:Int)+1<=(s.size:Nat)/\sk s ((j:Int)+1).toNat=sk s i.toNat)/\s.size- ((j:Int)+1).toNat<s.size- j:=λh=>by
  have hl:j<s.size:=Nat.lt_of_not_le λh2=>z97 h (z03 h2)
  refine⟨⟨by omega,by omega⟩,⟨by omega,by omega,?_⟩,by omega⟩
  rw[show((j:Int)+1).toNat=j+1 by omega,←ze2 h];exact g3
 have stay:isW (bat s j)=false->((pk s i.toNat:Nat):Int)=(bat s j:Nat)/\((sk s i.toNat:Nat):Int)=j:=λh=>by
  have e:sk s i.toNat=j:=by rw[←g3];exact z7n h
  exact⟨by unfold pk;rw[e],by rw[e]⟩
 simp only[Int.toNat_natCast]at g3⊢
 refine⟨λhl=>⟨⟨by omega,by omega⟩,λa1=>⟨λ_=>adv (z28.2 (by omega)),λh=>absurd a1 h⟩,λa1=>⟨λa2=>⟨λ_=>adv (z28.2 (by omega)),λh=>absurd a2 h⟩,λa2=>⟨λa3=>⟨λ_=>adv (z28.2 (by omega)),λh=>absurd a3 h⟩,λa3=>⟨λa4=>adv (z28.2 (by omega)),λa4=>stay (zae a1 a2 a3 a4)⟩⟩⟩⟩,λhl=> ?_⟩
 have e:sk s i.toNat=j:=by rw[←g3];exact z9e (by omega)
 refine⟨?_,by rw[e]⟩
 unfold pk
 rw[e,z03 (by omega)];rfl
def z5t:q5b Go.Proofs.Tryd.prog 45 z6r:=by
 refine ql1 mixed (qdv (qhn z1q qkn)) (W:=λ_=>{}) Go.Proofs.Tryd.func45 (by kernel_rfl) (by decide) (by decide) (λs=>by kernel_rfl) λ(⟨⟨s,i⟩,c⟩:RdS×Int)=>(zbe s i c).mpr ?_
 rintro⟨⟨h1,h2,h3⟩,h4,h5⟩
 simp only[sbS,Int.toNat_natCast,exists_const]
 unfold tkP
 have hl:=z1s (s:=s) (i:=i.toNat) (by omega)
 refine⟨⟨h1,h2,h3⟩,λh=>⟨by omega,by rw[if_neg (by omega)]⟩,λh=>⟨⟨by omega,by omega⟩,by omega,by rw[if_pos (by omega)];rfl⟩⟩
def zbq(hp:q5b Go.Proofs.Tryd.prog 48 cHP):q5b Go.Proofs.Tryd.prog 29 za1:=by
 refine ql1 mixed (qdv (qhn hp qkn)) (W:=λ_=>{}) Go.Proofs.Tryd.func29 (by kernel_rfl) (by decide) (by decide) (λs=>by kernel_rfl) λ(⟨⟨s,i⟩,c⟩:RdS×ByteArray)=>(zbp s i c).mpr ?_
 rintro⟨h1,h2,h3⟩
 simp only[sbS,Int.toNat_natCast,exists_const]
 unfold wdP
 rw[zg4 s i.toNat c (by omega)]
 refine⟨⟨h1,h2⟩,λh=>⟨h,by rw[if_neg (by rw[h];decide)];omega⟩,λh=>⟨?_,h,by rw[if_pos h];omega⟩⟩
 have:=z81 h
 exact⟨by omega,by omega⟩
def z3s:q5b Go.Proofs.Tryd.prog 27 z6s:=by
 refine ql1 mixed (qdv (qhn z1q (qhn zeb qkn))) (W:=λ_=>{}) Go.Proofs.Tryd.func27 (by kernel_rfl) (by decide) (by decide) (λs=>by kernel_rfl) λ(⟨s,i⟩:RdS)=>(z7r s i).mpr ?_
 rintro⟨h1,h2,h3⟩
 simp only[sbS,Int.toNat_natCast,exists_const]
 have hl:=z1s (s:=s) (i:=i.toNat) (by omega)
 have hu:=(z5y (s.extract (sk s i.toNat) s.size)).1
 have hz:(s.extract (sk s i.toNat) s.size).size=s.size- sk s i.toNat:=by rw[ByteArray.size_extract];omega
 unfold uqS
 refine⟨⟨h1,h2,h3⟩,⟨by omega,by omega⟩,by omega,⟨by omega,by omega⟩,?_⟩
 first|omega|exact⟨rfl,rfl,by omega⟩|exact⟨rfl,by omega⟩|skip
def zg3:q5b Go.Proofs.Tryd.prog 48 cHP:=by
 refine ql3 (Sen.enters_of Go.Proofs.Tryd.func48 (by kernel_rfl)) (λ(s:ByteArray×ByteArray)=> .bool (Lib.hasPrefix s.1.data.toList s.2.data.toList)) (λs I=> .sv _) λ(s:ByteArray×ByteArray) F w _ _=> ?_
 refine(Go.Proofs.Tryd.strings_HasPrefix s.1 s.2 w).mono λe w' h=> ?_
 obtain⟨rfl,rfl⟩:=h
 exact⟨rfl,Below.refl _ _⟩
def zgf:q2d Go.Proofs.Tryd.prog 47 cPI:=by
  refine⟨Nat.le_refl _,Nat.le_refl _,Sen.enters_of Go.Proofs.Tryd.func47 (by kernel_rfl),λ(s:ByteArray)=>⟨.e,rfl,λF I w us hus _ low zf hp hm fr hz=> ?_⟩⟩
  have:=qfl (l:=[.string s, .int .i64 10, .int .i64 64]) hus
  subst this
  obtain⟨⟨t1,v1,e1,f1,c1⟩,t2,v2,e2,f2,c2⟩:=(hm:erP (q13 F w))
  have k1:w.cell? ⟨1,0,none⟩=some (.iface t1 v1):=by simp[World.cell?,(q04.1 c1).2]
  have k2:w.cell? ⟨2,0,none⟩=some (.iface t2 v2):=by simp[World.cell?,(q04.1 c2).2]
  have hz:s.size<=10000:=hp
  have fin:∀(v:Int) (e:Value) (w':World),piP s v e->Below w.heap.size w w'->∃b h1,cPI.post s b/\q0r (cPI.h' s b) .e=some h1/\∃z I',Ending.returned (Value.tuple #[.int .i64 v,e])=Ending.returned z/\VR I' (cPI.r s b) z/\Grow F I cPI.m w I' cPI.m' h1 w'/\(cPI.pm s b).ok (q59 F w I' h1 w'):=λv e w' h hb=>by
    refine⟨(v,e), .e,h,rfl, .tuple #[.int .i64 v,e],I,rfl, .tup (.cons (.sv _) (.cons (.sv _) .nil)),⟨In.le_refl I,λ_ _ h=> .inl h,⟨λid o b t h=> ?_,λid id' o o' b b' t t' h=> ?_,λid o b t h=> ?_⟩,λb hb'=>hb.block b (low b hb'),hb.size,⟨hb.os,hb.tape,hb.output⟩⟩,trivial⟩
    · rw[T.get_e]at h;cases h
    · rw[T.get_e]at h;cases h
    · rw[T.get_e]at h;cases h
  cases h:Lib.parseIntB 64 s.data.toList with
  | ok u=>
    refine(Go.Proofs.Tryd.strconv_ParseInt_10_at64_ok s (by omega) u h w).mono λe w' he=> ?_
    obtain⟨rfl,hw⟩:=he
    refine fin u .nilIface w' (by unfold piP piR;rw[h];exact⟨rfl,rfl⟩) ?_
    rcases hw with rfl|⟨t,rfl⟩
    · exact Below.refl _ _
    · exact⟨rfl,rfl,rfl,by rw[Lib.bytesWorld_size];omega,λk hk=>Lib.bytesWorld_at_old w _ t k hk⟩
  | «syntax» =>
    refine(Go.Proofs.Tryd.strconv_ParseInt_10_at64_syntax s (by omega) h _ w k1 (.inr ⟨_,_,rfl⟩)).mono λe w' he=> ?_
    obtain⟨N,rfl,_,_,hw⟩:=he
    exact fin _ _ w' (by unfold piP piR;rw[h];exact⟨_,_,rfl⟩) hw
  | range=>
    refine(Go.Proofs.Tryd.strconv_ParseInt_10_at64_range s (by omega) h _ w k2 (.inr ⟨_,_,rfl⟩)).mono λe w' he=> ?_
    obtain⟨N,rfl,_,_,hw⟩:=he
    exact fin _ _ w' (by unfold piP piR;rw[h];exact⟨_,_,rfl⟩) hw
def z5h{s:ByteArray} {i:Nat} (h:i<s.size):i<=nmM s i/\nmM s i<=s.size/\nmM s i<=i+1:=by unfold nmM;split<;>omega
def zb2:q5b Go.Proofs.Tryd.prog 28 zfn:=by
  refine qka mixed (λg C h=>by cases h) (qel (qhm zgf qkm)) (W:=zhb) Go.Proofs.Tryd.func28 (by kernel_rfl) (by decide) (by decide) (λs=>by kernel_rfl) λ(⟨s,i⟩:RdS)=>(zb1 s i).mpr ?_
  rintro⟨⟨h1,h2,h3⟩,h4⟩ _
  simp only[sbS,Int.toNat_natCast,exists_const]
  obtain⟨i,rfl⟩:=Int.eq_ofNat_of_zero_le h1
  simp only[Int.toNat_natCast]
  have hm:=z5h (s:=s) (i:=i) (by omega)
  have hd:=z6t hm.2.1
  have hg:=z53 s (nmM s i)
  have er:∀p:Pub,erP p->erP p:=λp h=>h
  have loop:∀(j:Int),(nmM s i:Nat)<=j/\j<=(s.size:Nat)/\dg s j.toNat=dg s (nmM s i)->True:=λ_ _=>trivial
  have tail1:(-9223372036854775808<=(nmM s i:Int)+1/\(nmM s i:Int)+1<=9223372036854775807):=⟨by omega,by omega⟩
  have two:nmM s i+1<dg s (nmM s i)/\bat s (nmM s i)=48->nmR s i=none:=λh=>by unfold nmR;rw[if_pos h]
  have rest:¬(nmM s i+1<dg s (nmM s i)/\bat s (nmM s i)=48)->∀(b:Int×Value),piP (s.extract i (dg s (nmM s i))) b.1 b.2->(b.2= .nilIface\/∃u z,b.2= .iface u z)/\(Sen.nilV b.2=false->(nmR s i).getD 0=0/\((erO (nmR s i):Nat):Int)=2)/\(Sen.nilV b.2=true->(nmR s i).getD 0=b.1/\((erO (nmR s i):Nat):Int)=0):=λh b hb=>by
    have e:nmR s i=piR (s.extract i (dg s (nmM s i))).data.toList:=by unfold nmR;rw[if_neg h]
    rw[e]
    unfold piP at hb
    cases hp:piR (s.extract i (dg s (nmM s i))).data.toList with
    | none=>
      rw[hp]at hb
      obtain⟨t,x,hx⟩:=hb
      exact⟨.inr ⟨t,x,hx⟩,λ_=>⟨rfl,rfl⟩,λh=>absurd h (by rw[show b.2= .iface t x from hx];exact Bool.false_ne_true)⟩
    | some v=>
      rw[hp]at hb
      have h2:=hb.2
      refine⟨.inl h2,λh=> ?_,λ_=>⟨hb.1.symm,rfl⟩⟩
      rw[h2]at h
      cases h
  refine⟨⟨by omega,by omega⟩,λa=>⟨⟨by omega,by omega⟩,⟨⟨?_,?_⟩,?_⟩,?_⟩,λa=>⟨⟨⟨?_,?_⟩,?_⟩,?_⟩⟩
  case refine_3|refine_7=>
    rintro j ⟨g1,g2,g3⟩
    obtain⟨j,rfl⟩:=Int.eq_ofNat_of_zero_le (show 0<=j by omega)
    simp only[Int.toNat_natCast]at g3⊢
    have stay:z0h (bat s j)=false->((dg s (nmM s i):Nat):Int)=j:=λh=>by rw[←g3,z54 h]
    have off1:¬48<=(bat s j:Int)->z0h (bat s j)=false:=λh=>by unfold z0h;simp;omega
    have off2:¬(bat s j:Int)<=57->z0h (bat s j)=false:=λh=>by unfold z0h;simp;omega
    have out:¬(j:Int)<(s.size:Nat)->((dg s (nmM s i):Nat):Int)=j:=λh=>stay (by rw[z03 (by omega)];rfl)
    refine⟨λhl=>⟨⟨by omega,by omega⟩,λ_=>⟨λa1=>⟨⟨by omega,by omega⟩,λ_=>⟨λa2=>⟨⟨by omega,by omega⟩,⟨by omega,by omega,?_⟩,by omega⟩,λa2=>stay (off2 a2)⟩,λh=>absurd a1 h⟩,λa1=>⟨λh=>absurd h a1,λ_=>stay (off1 a1)⟩⟩,λh=>absurd hl h⟩,λhl=>⟨λh=>absurd h hl,λ_=>out hl⟩⟩
    rw[show((j:Int)+1).toNat=j+1 by omega,←g3]
    exact(z3j (by unfold z0h;simp;omega)).symm
  case refine_4|refine_8=>
    refineλ_ _=>⟨⟨⟨by omega,by omega⟩,λb1=>⟨⟨by omega,by omega⟩,λb2=> ?_,λb2 h=>absurd h.2 (by omega)⟩,λb1 h=>absurd h.1 (by omega)⟩,λ_ h=>⟨⟨by omega,by omega,by omega⟩,by rw[ByteArray.size_extract];omega,rest h⟩⟩
    rw[two ⟨by omega,by omega⟩]
    exact⟨rfl,rfl⟩
  · unfold nmM;rw[if_pos (by omega)];omega
  · have e:nmM s i=i+1:=by unfold nmM;rw[if_pos (by omega)]
    refine⟨by omega,by omega,?_⟩
    rw[show((i:Int)+1).toNat=i+1 by omega,e]
  · unfold nmM;rw[if_neg (by omega)]
  · have e:nmM s i=i:=by unfold nmM;rw[if_neg (by omega)]
    exact⟨by omega,by omega,by rw[e]⟩
def z9c{s:ByteArray} {i:Nat} {v j:Nat} (e:nqX s i=(v,j,false)):z7c s i=(!decide (j=nmM s i)&&(!(decide (bat s (nmM s i)=48)&&decide (nmM s i+1<j))&&(!isX (bat s j)&&(decide (bat s i=45)||decide (v<9223372036854775808))))):=by
 unfold z7c;rw[e];rfl
section
def z5j(M:Nat):∀(l:List UInt8) (acc:Nat),(∀c∈l,z0h c.toNat=true)->Lib.parseUintM M acc l= .range\/∃u,acc<=u/\Lib.parseUintM M acc l= .ok u
  | [],acc,_=> .inr ⟨acc,Nat.le_refl _,rfl⟩
  | c::l,acc,h=>by
    have hc:=z0i (h c List.mem_cons_self)
    simp only[Lib.parseUintM]
    rw[if_pos hc]
    split
    · exact .inl rfl
    split
    · exact .inl rfl
    rcases z5j M l (acc*10+(c.toNat- 48)) (λx hx=>h x (List.mem_cons_of_mem _ hx))with h1|⟨u,h1,h2⟩
    · exact .inl h1
    · exact .inr ⟨u,by omega,h2⟩
variable {s:ByteArray}
def ext_cons{j q:Nat} (h1:j<q) (h2:q<=s.size):∃c:UInt8,c.toNat=bat s j/\(s.extract j q).data.toList=c::(s.extract (j+1) q).data.toList:=by
 refine⟨s[j]'(by omega),(z3b (by omega)).symm,?_⟩
 rw[ByteArray.data_extract,Array.toList_extract,List.extract_eq_take_drop,ByteArray.data_extract,Array.toList_extract,List.extract_eq_take_drop,za4 s j (by omega),show q- j=(q- (j+1))+1 by omega,List.take_succ_cons]
def ext_nil{j q:Nat} (h1:q<=j):(s.extract j q).data.toList=[]:=by
 rw[ByteArray.data_extract,Array.toList_extract,List.extract_eq_take_drop,show q- j=0 by omega,List.take_zero]
def z92{s:ByteArray} {q:Nat} (hq:q<=s.size):∀(f j:Nat),q- j<=f->(∀k,j<=k->k<q->z0h (bat s k)=true)->∀c∈(s.extract j q).data.toList,z0h c.toNat=true
  |0,j,h1,_,c,hc=>by rw[ext_nil (by omega)]at hc;cases hc
  | f +1,j,h1,h2,c,hc=>by
    by_cases hj:j<q
    · obtain⟨b,hb,he⟩:=ext_cons hj hq
      rw[he]at hc
      rcases List.mem_cons.1 hc with rfl|hc
      · rw[hb];exact h2 j (Nat.le_refl _) hj
      · exact z92 hq f (j+1) (by omega) (λk hk=>h2 k (by omega)) c hc
    · rw[ext_nil (by omega)]at hc;cases hc
def z91{s:ByteArray}:∀(f i:Nat),s.size- i<=f->∀k,i<=k->k<dg s i->z0h (bat s k)=true
  | 0,i,h,k,h1,h2=>by
    have:dg s i=i:=z54 (by rw[z03 (by omega)];rfl)
    omega
  | f +1,i,h,k,h1,h2=>by
    cases hd:z0h (bat s i)with
    |false=>have:=z54 hd;omega
    | true=>
      rw[z3j hd]at h2
      by_cases e:k=i
      · rw[e];exact hd
      · exact z91 f (i+1) (by omega) k (by omega) h2
def zdx{s:ByteArray}:∀(f j v:Nat),s.size- j<=f->j<=s.size->v<=9223372036854775808->((nq s j v).2.2=false/\(nq s j v).2.1=dg s j/\(nq s j v).1<=9223372036854775808/\Lib.parseUintM 18446744073709551615 v (s.extract j (dg s j)).data.toList= .ok (nq s j v).1)\/((nq s j v).2.2=true/\(Lib.parseUintM 18446744073709551615 v (s.extract j (dg s j)).data.toList= .range\/∃u,9223372036854775808<u/\Lib.parseUintM 18446744073709551615 v (s.extract j (dg s j)).data.toList= .ok u))
  | 0,j,v,h,hj,hv=>by
    have hd:z0h (bat s j)=false:=by rw[z03 (by omega)];rfl
    rw[zb0 hd,z54 hd,ext_nil (Nat.le_refl _)]
    exact .inl ⟨rfl,rfl,hv,rfl⟩
  | f + 1,j,v,h,hj,hv=>by
    cases hd:z0h (bat s j)with
    | false=>
      rw[zb0 hd,z54 hd,ext_nil (Nat.le_refl _)]
      exact .inl ⟨rfl,rfl,hv,rfl⟩
    | true=>
      have hl:j<s.size:=Nat.lt_of_not_le λh2=>by have:=z0i hd;rw[z03 h2]at this;omega
      have hr:=z0i hd
      have hq:=z53 s (j+1)
      have hq2:=z6t (s:=s) (i:=j+1) (by omega)
      rw[z9d hd,z3j hd]
      obtain⟨c,hc,he⟩:=ext_cons (s:=s) (j:=j) (q:=dg s (j+1)) (by omega) hq2
      rw[he]
      simp only[Lib.parseUintM,hc]
      rw[if_pos hr]
      by_cases ho:(9223372036854775808- (bat s j- 48)) / 10<v
      · rw[if_pos ho]
        refine .inr ⟨rfl,?_⟩
        split
        · exact .inl rfl
        split
        · exact .inl rfl
        rcases z5j 18446744073709551615 (s.extract (j+1) (dg s (j+1))).data.toList (v*10+(bat s j- 48)) (z92 hq2 _ _ (Nat.le_refl _) (z91 _ _ (Nat.le_refl _)))with h1|⟨u,h1,h2⟩
        · exact .inl h1
        · exact .inr ⟨u,by omega,h2⟩
      · rw[if_neg ho,if_neg (by omega),if_neg (by omega)]
        exact zdx f (j+1) (v*10+(bat s j- 48)) (by omega) (by omega) (by omega)
def zgd{i:Nat} (h:i<s.size) (hc:bat s i=45\/z0h (bat s i)=true):(z7c s i=true->nmR s i=some (nqV s i)/\(nqX s i).2.1=dg s (nmM s i)/\isX (bat s (dg s (nmM s i)))=false)/\(z7c s i=false->nmR s i=none\/isX (bat s (dg s (nmM s i)))=true):=by
 have hm:=z5h h
 have hp:=zdx _ (nmM s i) 0 (Nat.le_refl _) hm.2.1 (by omega)
 have hg:=z53 s (nmM s i)
 have hl:=z6t hm.2.1
 have L:∀u,Lib.parseUintM 18446744073709551615 0 (s.extract (nmM s i) (dg s (nmM s i))).data.toList= .ok u->piR (s.extract i (dg s (nmM s i))).data.toList=if dg s (nmM s i)=nmM s i then none else if bat s i=45 then(if 9223372036854775808<u then none else some (-(u:Int)))else if 9223372036854775808<=u then none else some (u:Int):=λu hu=>by
  have hB:Lib.parseUintB 64 (s.extract (nmM s i) (dg s (nmM s i))).data.toList=if dg s (nmM s i)=nmM s i then .syntax else .ok u:=by
   unfold Lib.parseUintB
   by_cases e:dg s (nmM s i)=nmM s i
   ·rw[if_pos e,ext_nil (by omega),if_pos rfl]
   ·obtain⟨c,_,he⟩:=ext_cons (s:=s) (j:=nmM s i) (q:=dg s (nmM s i)) (by omega) hl
    rw[if_neg e,if_neg (by rw[he];simp)];exact hu
  unfold piR
  by_cases e45:bat s i=45
  ·have em:nmM s i=i+1:=by unfold nmM;rw[if_pos e45]
   obtain⟨c,hc,he⟩:=ext_cons (s:=s) (j:=i) (q:=dg s (nmM s i)) (by omega) hl
   have c45:c=45:=UInt8.toNat_inj.1 (by rw[hc,e45];rfl)
   rw[he,c45,Lib.parseIntB_minus,←em,hB,if_pos e45]
   by_cases e:dg s (nmM s i)=nmM s i
   ·rw[if_pos e,if_pos e];rfl
   ·rw[if_neg e,if_neg e]
    simp only[Lib.signedC]
    by_cases e2:9223372036854775808<u
    ·rw[if_pos e2,if_pos (by omega)]
    ·rw[if_neg e2,if_neg (by omega)]
  ·have em:nmM s i=i:=by unfold nmM;rw[if_neg e45]
   have hd:z0h (bat s i)=true:=hc.resolve_left e45
   have hn:i<dg s (nmM s i):=by rw[em,z3j hd];have:=z53 s (i+1);omega
   obtain⟨c,hc,he⟩:=ext_cons (s:=s) (j:=i) (q:=dg s (nmM s i)) hn hl
   have:=z0i hd
   rw[em]at hB
   rw[em]at he⊢
   rw[he,Lib.parseIntB_plain 64 c _ (by omega) (by omega),←he,hB,if_neg e45]
   by_cases e:dg s i=i
   ·rw[if_pos e,if_pos e];rfl
   ·rw[if_neg e,if_neg e]
    simp only[Lib.signlessC]
    by_cases e2:9223372036854775808<=u
    ·rw[if_pos e2,if_pos (by omega)]
    ·rw[if_neg e2,if_neg (by omega)]
 have N:Lib.parseUintM 18446744073709551615 0 (s.extract (nmM s i) (dg s (nmM s i))).data.toList= .range->piR (s.extract i (dg s (nmM s i))).data.toList=none:=λhu=>by
  have hne:nmM s i<dg s (nmM s i):=by
   by_cases e:nmM s i<dg s (nmM s i)
   ·exact e
   ·rw[ext_nil (by omega)]at hu;cases hu
  have hB:Lib.parseUintB 64 (s.extract (nmM s i) (dg s (nmM s i))).data.toList= .range:=by
   unfold Lib.parseUintB
   obtain⟨c,_,he⟩:=ext_cons (s:=s) hne hl
   rw[if_neg (by rw[he];simp)];exact hu
  unfold piR
  by_cases e45:bat s i=45
  ·have em:nmM s i=i+1:=by unfold nmM;rw[if_pos e45]
   obtain⟨c,hc,he⟩:=ext_cons (s:=s) (j:=i) (q:=dg s (nmM s i)) (by omega) hl
   have c45:c=45:=UInt8.toNat_inj.1 (by rw[hc,e45];rfl)
   rw[he,c45,Lib.parseIntB_minus,←em,hB];rfl
  ·have em:nmM s i=i:=by unfold nmM;rw[if_neg e45]
   have hd:z0h (bat s i)=true:=hc.resolve_left e45
   obtain⟨c,hc,he⟩:=ext_cons (s:=s) (j:=i) (q:=dg s (nmM s i)) (by omega) hl
   have:=z0i hd
   rw[em]at hB
   rw[em]at he⊢
   rw[he,Lib.parseIntB_plain 64 c _ (by omega) (by omega),←he,hB];rfl
 have X:nqX s i=nq s (nmM s i) 0:=rfl
 rcases hp with⟨p1,p2,p3,p4⟩|⟨p1,p2⟩
 ·rw [←X]at p1 p2 p3 p4
  have E:nqX s i=((nqX s i).1,dg s (nmM s i),false):=by rw[←p1,←p2]
  have O:=z9c E
  have L1:=L _ p4
  rw[O]
  unfold nmR
  rw[L1]
  refine⟨λh=> ?_,λh=> ?_⟩
  ·simp at h
   obtain⟨h1,h2,h3,h4⟩:=h
   refine⟨?_,p2,h3⟩
   rw[if_neg (by omega),if_neg (by omega)]
   unfold nqV
   by_cases e45:bat s i=45
   ·rw[if_pos e45,if_pos e45,if_neg (by omega)]
   ·rw[if_neg e45,if_neg e45,if_neg (by omega)]
  ·by_cases hX:isX (bat s (dg s (nmM s i)))=true
   ·exact .inr hX
   ·left
    simp[hX]at h
    split
    ·rfl
    split
    ·rfl
    rename_i g1 g2
    have:=h g2
    split
    ·rw[if_pos (by omega)]
    ·rw[if_pos (by omega)]
 ·have O:z7c s i=false:=by unfold z7c;rw[X,p1];rfl
  rw[O]
  refine⟨λh=>(by cases h),λ_=> .inl ?_⟩
  unfold nmR
  split
  ·rfl
  rcases p2 with p2|⟨u,hu,p2⟩
  ·exact N p2
  ·rw[L u p2,if_pos hu,if_pos (by omega:9223372036854775808<=u)]
   split
   ·rfl
   ·split<;>rfl
end
inductive PJ where
 |mk (k n:Int) (s:ByteArray) (l:List PJ) (nm:List ByteArray)
mutual
def GJ.pj:GJ->PJ
 | .mk k n s y l x nm=> .mk k n s (GJ.pjs l) nm
def GJ.pjs:List GJ->List PJ
 | []=>[]
 |g::l=>GJ.pj g::GJ.pjs l
end
def GJ.pjs_map:∀l:List GJ,GJ.pjs l=l.map GJ.pj
 | []=>by rw[GJ.pjs];rfl
 |g::l=>by rw[GJ.pjs,GJ.pjs_map l];rfl
def GJ.pj_eq(g:GJ):g.pj= .mk g.k g.n g.s (g.l.map GJ.pj) g.nm:=by cases g;rw[GJ.pj,GJ.pjs_map];rfl
inductive JR where
 |err (k:Nat)
 |ok (x:PJ) (j:Nat)
def inB(x:ByteArray) (nm:List ByteArray):Bool:=nm.any λt=>decide (t=x)
def jL(s:ByteArray) (T:Nat->JR):Nat->Nat->List PJ->JR
  |0,_,_=> .err 2
  | f+1,i,acc=>match T i with
    | .err k=> .err k
    | .ok x j=>if pk s j=93 then .ok (.mk 5 0 (mkS []) (acc++[x]) []) (sk s j+1)else if pk s j=44 then jL s T f (sk s j+1) (acc++[x])else .err 2
def jO(s:ByteArray) (T:Nat->JR):Nat->Nat->List PJ->List ByteArray->JR
  |0,_,_,_=> .err 2
  | f+1,i,acc,nm=>
    if(uqS s i).1≠0 then .err 2 else if inB (uqS s i).2.1 nm=true then .err 5 else
    if pk s (sk s i+(uqS s i).2.2)≠58 then .err 2 else
    match T (sk s (sk s i+(uqS s i).2.2)+1)with
    | .err k=> .err k
    | .ok x j=>if pk s j=125 then .ok (.mk 6 0 (mkS []) (acc++[x]) (nm++[(uqS s i).2.1])) (sk s j+1)else if pk s j=44 then jO s T f (sk s j+1) (acc++[x]) (nm++[(uqS s i).2.1])else .err 2
def jLt(s:ByteArray) (T:Option (Nat->JR)) (i:Nat):JR:=match T with
 |none=> .err 3
 |some T=>if pk s (i+1)=93 then .ok (.mk 5 0 (mkS []) [] []) (sk s (i+1)+1)else jL s T (s.size+1) (i+1) []
def jTb(s:ByteArray) (T:Option (Nat->JR)) (i:Nat):JR:=match T with
 |none=> .err 3
 |some T=>if pk s (i+1)=125 then .ok (.mk 6 0 (mkS []) [] []) (sk s (i+1)+1)else jO s T (s.size+1) (i+1) [] []
def z7z:ByteArray:=mkS [110,117,108,108]
def z80:ByteArray:=mkS [116,114,117,101]
def z3u:ByteArray:=mkS [102,97,108,115,101]
def jN(s:ByteArray) (T:Option (Nat->JR)) (i:Nat):JR:=
 if pk s i=91 then jLt s T (sk s i)else if pk s i=123 then jTb s T (sk s i)else
 if pk s i=34 then(if(uqS s i).1=0 then .ok (.mk 4 0 (uqS s i).2.1 [] []) (sk s i+(uqS s i).2.2)else .err 2)else
 if pk s i=45\/z0h (pk s i)=true then(if z7c s (sk s i)=true then .ok (.mk 3 (nqV s (sk s i)) (mkS []) [] []) (nqX s (sk s i)).2.1 else .err 2)else
 if wdF s (sk s i) z7z=true then .ok (.mk 1 0 (mkS []) [] []) (sk s i+4)else
 if wdF s (sk s i) z80=true then .ok (.mk 2 1 (mkS []) [] []) (sk s i+4)else
 if wdF s (sk s i) z3u=true then .ok (.mk 2 0 (mkS []) [] []) (sk s i+5)else .err 2
def jT(s:ByteArray):Nat->Nat->JR
 |0=>jN s none
 |n+1=>jN s (some (jT s n))
def jTo(s:ByteArray):Nat->Option (Nat->JR)
 |0=>none
 |n+1=>some (jT s n)
def z5c(s:ByteArray) (n:Nat):jT s n=jN s (jTo s n):=by cases n<;>rfl
def lv(d:Int):Nat:=(21- d).toNat
abbrev TrS:=RdS×Int
abbrev TrB:=GJ×Int×Int
def rsP(R:JR) (s:ByteArray) (i:Int):TrB->Prop:=λ⟨g,e,j⟩=>rdK s j/\match R with
 | .ok x j'=>(e=0/\i<=j)/\j=j'/\g.pj=x
 | .err k=>e=k/\k≠0
def trP(R:JR) (s:ByteArray) (i:Int) (b:TrB):Prop:=rsP R s i b\/R= .err 2/\rdK s b.2.2/\(b.2.1=0/\i<=b.2.2)/\isX (bat s b.2.2.toNat)=true
def gjM(g:GJ):PF:=⟨true,g.ok,λ_ _ h e=>GJ.ok_mono h e⟩
def zh8(l:List GJ):PF:=⟨true,GJ.oks l,λ_ _ h e=>GJ.oks_mono h e⟩
def cTr(pre:TrS->Prop) (post:TrS->TrB->Prop):CtR where
 σ:=TrS
 args:=λ⟨⟨s,i⟩,d⟩=>[.ptr 1 0, .sv (.int .i64 d)]
 h:=λ⟨⟨s,i⟩,d⟩=>rdO s i
 m:=2
 pre:=λ⟨⟨s,i⟩,d⟩=>rdK s i/\(1<=d/\d<=21)/\pre ⟨⟨s,i⟩,d⟩
 mem:=λ_=>erM
 find:=some λl h=>both (zda l h) (arI l)
 β:=λ_=>TrB
 post:=post
 pm:=λ_ ⟨g,e,j⟩=>gjM g
 r:=λ_ ⟨g,e,j⟩=> .tup [g.av, .sv (.int .i64 e)]
 h':=λ⟨⟨s,i⟩,d⟩ ⟨g,e,j⟩=>rdO s j
 m':=2
def z1c:TrS->Nat:=λ⟨_,d⟩=>lv d
def z0m:TrS->TrB->Prop:=λ⟨⟨s,i⟩,d⟩ b=>trP (jT s (lv d) i.toNat) s i b
def z0p:TrS->TrB->Prop:=λ⟨⟨s,i⟩,d⟩ b=>rsP (jLt s (jTo s (lv d)) i.toNat) s i b
def z0a:TrS->TrB->Prop:=λ⟨⟨s,i⟩,d⟩ b=>rsP (jTb s (jTo s (lv d)) i.toNat) s i b
def zdo:TrS->Prop:=λ⟨⟨s,i⟩,d⟩=>i<s.size
def z1k:CtR:=cTr (λ_=>True) z0m
def z6p:CtR:=cTr zdo z0p
def z3f:CtR:=cTr zdo z0a
def zdy(t:T AV) (k:Nat):Option Nat:=match t.get k with
 |some (.ptr b _)=>some b
 |some (.map b)=>some b
 |_=>none
def zmd(h:T AO) (vb n:Nat):AO:=match h.get vb with
 |some (.cells ty fz g [a,b,c,_,e])=> .cells ty fz g [a,b,c, .ssl 40 0 n 5 41,e]
 |_=> .cells 0 none false []
def zme(h:T AO) (vb n m:Nat):AO:=match h.get vb with
 |some (.cells ty fz g [a,b,c,_,_])=> .cells ty fz g [a,b,c, .ssl 40 0 n 5 41, .ssl 42 0 m 1 43]
 |_=> .cells 0 none false []
def lsI(s:ByteArray) (i d:Int) (gs:List GJ) (j:Int):Prop:=rdK s j/\(i<j/\gs.length<=j.toNat)/\∃n f,lv d=n+1/\s.size+1<=f+j.toNat/\jL s (jT s n) f j.toNat (gs.map GJ.pj)=jLt s (jTo s (lv d)) i.toNat
def zeh:TrS->WayF:=λ⟨⟨s,i⟩,d⟩=>{
 pubE:=[42]
 ann:=λ_ tt hh=>match zdy tt 6 with
  |some vb=>some {σ:=List GJ×Int,pre:=λ⟨gs,j⟩=>lsI s i d gs j,mem:=λ⟨gs,j⟩=>zh8 gs,t:=λ_=>[],h:=λ⟨gs,j⟩=>rdO s j++[(vb,zmd hh vb gs.length),(40, .row 26 0 (z01 GJ.cells gs))],more:=60,μ:=λ⟨gs,j⟩=>s.size- j.toNat,keep:=[0,1,4,6]}
  |none=>none}
def mpF:Nat->List ByteArray->List MapEntry
 |_,[]=>[]
 |c,t::l=>⟨.string t, .int .i64 1,c⟩::mpF (c+1) l
def tbI(s:ByteArray) (i d:Int) (gs:List GJ) (nm:List ByteArray) (j:Int):Prop:=rdK s j/\(i<j/\gs.length<=j.toNat)/\gs.length=nm.length/\∃n f,lv d=n+1/\s.size+1<=f+j.toNat/\jO s (jT s n) f j.toNat (gs.map GJ.pj) nm=jTb s (jTo s (lv d)) i.toNat
def z9k:TrS->WayF:=λ⟨⟨s,i⟩,d⟩=>{
 pubE:=[73]
 ann:=λ_ tt hh=>match zdy tt 6,zdy tt 7 with
  |some vb,some mb=>some {σ:=List GJ×List ByteArray×Int,pre:=λ⟨gs,nm,j⟩=>tbI s i d gs nm j,mem:=λ⟨gs,nm,j⟩=>zh8 gs,t:=λ_=>[],h:=λ⟨gs,nm,j⟩=>rdO s j++[(vb,zme hh vb gs.length nm.length),(40, .row 26 0 (z01 GJ.cells gs)),(42, .row 9 0 (z01 txV nm)),(mb, .mrow (mpF 0 nm) nm.length)],more:=60,μ:=λ⟨gs,nm,j⟩=>s.size- j.toNat,keep:=[0,1,4,6,7]}
  |_,_=>none}
def tLs:Nat->Option Ct:=qg8 [(45,z6r)]
def tTb:Nat->Option Ct:=qg8 [(45,z6r),(27,z6s)]
def tTr:Nat->Option Ct:=qg8 [(14,z2v),(27,z6s),(28,zfn),(29,za1)]
def zel:TrS->WayF:=λ⟨⟨s,i⟩,d⟩=>{}
section
variable (x0:Int) (x1:ByteArray) (x2:Int) (x3:Nat) (x4:List GJ×Int) (x5:TrB) (x6:Prop) (x7:Nat->Option Obj) (x8:Option Addr)
 abbrev zc5:=(GJ.x x5.1).1=noA/\(GJ.x x5.1).2.1=0/\(GJ.x x5.1).2.2=0/\x6
 def zf3:=GJ.k x5.1=x0/\GJ.n x5.1=0/\GJ.s x5.1=mkS []/\(GJ.y x5.1).1=noA/\(GJ.y x5.1).2.1=0/\(GJ.y x5.1).2.2=0/\zc5 x5 x6
 abbrev zc6:=Jb (x0+1)
 def z8d:=0<x0/\x0<256
 def z38:=((True/\erP x7)/\GJ.oks x4.1 x7)/\GJ.ok x5.1 x7
 def zgu:=(z38 x4 x5 x7)/\length x4.1+nat_lit 1<=x3/\qj6 x7 x8 (take ((length x4.1+nat_lit 1)*nat_lit 5) (z01 GJ.cells x4.1++[int i64 (GJ.k x5.1),int i64 (GJ.n x5.1),string (GJ.s x5.1),slice (GJ.y x5.1).1 (GJ.y x5.1).2.1 (GJ.y x5.1).2.2,slice (GJ.x x5.1).1 (GJ.x x5.1).2.1 (GJ.x x5.1).2.2]))
 abbrev z8e:=(↑(tkP x1 (toNat x5.2.2) 93):Int)
 def zjn:=(44:Int)=44/\x1=x1/\(z8e x1 x5)=(z8e x1 x5)/\(rdK x1 (z8e x1 x5)/\z8d 44)/\((!decide (pk x1 (toNat (z8e x1 x5))=44))=true->∃(i0:TrB),zf3 0 i0 (i0.2.1=2/\x1=x1/\i0.2.2=(↑(tkP x1 (toNat (z8e x1 x5)) 44):Int)/\z0p ((x1,x0),x2) i0/\(∀i1,z38 x4 x5 i1->GJ.ok i0.1 i1)/\True))/\((!decide (pk x1 (toNat (z8e x1 x5))=44))=false->∃(i2:List GJ×Int),x2=x2/\x1=x1/\i2.2=(↑(tkP x1 (toNat (z8e x1 x5)) 44):Int)/\length i2.1=length x4.1+nat_lit 1/\z01 GJ.cells i2.1=z01 GJ.cells x4.1++[int i64 (GJ.k x5.1),int i64 (GJ.n x5.1),string (GJ.s x5.1),slice (GJ.y x5.1).1 (GJ.y x5.1).2.1 (GJ.y x5.1).2.2,slice (GJ.x x5.1).1 (GJ.x x5.1).2.1 (GJ.x x5.1).2.2]/\(∀i3,z38 x4 x5 i3->True/\erP i3)/\(∀i4,z38 x4 x5 i4->GJ.oks i2.1 i4)/\lsI x1 x0 x2 i2.1 i2.2/\size x1- toNat i2.2<size x1- toNat x4.2/\True)
 def zjm:=length (z01 GJ.cells x4.1)=length x4.1*5/\(length x4.1+nat_lit 1)*80<=140737488355328/\(93:Int)=93/\x1=x1/\x5.2.2=x5.2.2/\(rdK x1 x5.2.2/\z8d 93)/\Ji (pk x1 (toNat x5.2.2)=93) (∀(i0 i1 i2:Nat) (i3:Option Addr) (i4 i5:Nat),(∃i6,zgu i5 x4 x5 i6 i3)->∃(i7:TrB),GJ.k i7.1=5/\GJ.n i7.1=0/\GJ.s i7.1=mkS []/\(GJ.y i7.1).1=i3/\(GJ.y i7.1).2.1=length x4.1+nat_lit 1/\(GJ.y i7.1).2.2=i5/\zc5 i7 (i7.2.1=0/\x1=x1/\i7.2.2=(z8e x1 x5)/\z0p ((x1,x0),x2) i7/\(∀i8,zgu i5 x4 x5 i8 i3->GJ.ok i7.1 i8)/\True)) (zjn x0 x1 x2 x4 x5)
 def zjl:=((!decide (x5.2.1=0))=true->∃(i0:TrB),zf3 0 i0 (i0.2.1=x5.2.1/\x1=x1/\i0.2.2=x5.2.2/\z0p ((x1,x0),x2) i0/\(∀i1,z38 x4 x5 i1->GJ.ok i0.1 i1)/\True))/\((!decide (x5.2.1=0))=false->zjm x0 x1 x2 x4 x5)
 def zjk:=zc6 x0/\x0+1=x0+1/\x1=x1/\x4.2=x4.2/\(z1c ((x1,x4.2),x0+1)<x3/\rdK x1 x4.2/\(1<=x0+1/\x0+1<=21)/\True)/\(∀i0,(True/\erP i0)/\GJ.oks x4.1 i0->erP i0)/\∀(i1:TrB),z0m ((x1,x4.2),x0+1) i1->(∃i2,z38 x4 i1 i2)->zjl x2 x1 x0 x4 i1
 def zjj:=(∃(i0:List GJ×Int),x0=x0/\x1=x1/\i0.2=(↑(tkP x1 (toNat (x2+1)) 93):Int)/\length i0.1=0/\(∀i1,True/\erP i1->True/\erP i1)/\(∀i2,True/\erP i2->GJ.oks i0.1 i2)/\lsI x1 x2 x0 i0.1 i0.2/\True)/\∀(i3:List GJ×Int),lsI x1 x2 x0 i3.1 i3.2->(∃i4,(True/\erP i4)/\GJ.oks i3.1 i4)->zjk x0 x1 x2 x3 i3
 def zji:=zc6 x0/\(93:Int)=93/\x1=x1/\x0+1=x0+1/\(rdK x1 (x0+1)/\z8d 93)/\Ji (pk x1 (toNat (x0+1))=93) (∃(i0:TrB),zf3 5 i0 (i0.2.1=0/\x1=x1/\i0.2.2=(↑(tkP x1 (toNat (x0+1)) 93):Int)/\z0p ((x1,x0),x2) i0/\(∀i1,True/\erP i1->GJ.ok i0.1 i1)/\True)) (zjj x2 x1 x0 x3)
 def zjh:=Ji (20<x0) (∃(i0:TrB),zf3 0 i0 (i0.2.1=3/\x1=x1/\i0.2.2=x2/\z0p ((x1,x2),x0) i0/\(∀i1,True/\erP i1->GJ.ok i0.1 i1)/\True)) (zji x2 x1 x0 x3)
end
def zam(c:Nat) (s:ByteArray) (i d:Int):qkz P (tLs) (qhc [(13,z1k.below z1c c)]) Go.Proofs.Tryd.f25 (z6p.below z1c (c+1)) (zeh) ⟨⟨s,i⟩,d⟩=(z1c ((s,i),d)<c+1/\rdK s i/\(1<=d/\d<=21)/\zdo ((s,i),d)->(∃(p:Pub),True/\erP p)->zjh d s i c):=by kernel_rfl
def zdu:=λc s i d=>Eq.trans (zam c s i d) (by delta Ji Jb Jt Jf zc5 zf3 zc6 z8d z38 zgu z8e zjn zjm zjl zjk zjj zji zjh;exact rfl)
section
variable (x0:Int) (x1:ByteArray) (x2:Int) (x3:Nat) (x4:List GJ×List ByteArray×Int) (x5:Int) (x6:TrB) (x7:Prop) (x8:Nat->Option Obj) (x9:Option Addr)
 abbrev z2l:=GJ.k x6.1=x0/\GJ.n x6.1=0/\GJ.s x6.1=mkS []/\(GJ.y x6.1).1=noA/\(GJ.y x6.1).2.1=0/\(GJ.y x6.1).2.2=0/\(GJ.x x6.1).1=noA/\(GJ.x x6.1).2.1=0/\(GJ.x x6.1).2.2=0/\x7
 abbrev z8h:=Jb (x0+1)
 def z6c:=0<x0/\x0<256
 def z1e:=(True/\erP x8)/\GJ.oks x4.1 x8
 abbrev z1x:=(↑(sk x1 (toNat x4.2.2)+(uqS x1 (toNat x4.2.2)).2.2):Int)
 def z8i:=z0a ((x1,x0),x2) x6/\(∀i0,z1e x4 i0->GJ.ok x6.1 i0)/\True
 abbrev z39:=(uqS x1 (toNat x4.2.2)).2.1
 def z8g:=kOK TypeDesc.string (string (z39 x1 x4))/\(∀(i0:MapEntry),i0∈mpF 0 x4.2.1->kOK TypeDesc.string (MapEntry.key i0))/\x7
 def zc8:=ql7 (string (z39 x1 x4)) (mpF 0 x4.2.1) (int i64 0)=int i64 x0
 abbrev z3a:=(↑(tkP x1 (toNat (z1x x1 x4)) 58):Int)
 def z8f:=((z1e x4 x8)/\GJ.ok x6.1 x8)/\length x4.1+nat_lit 1<=x3/\qj6 x8 x9 (take ((length x4.1+nat_lit 1)*nat_lit 5) (z01 GJ.cells x4.1++[int i64 (GJ.k x6.1),int i64 (GJ.n x6.1),string (GJ.s x6.1),slice (GJ.y x6.1).1 (GJ.y x6.1).2.1 (GJ.y x6.1).2.2,slice (GJ.x x6.1).1 (GJ.x x6.1).2.1 (GJ.x x6.1).2.2]))
 def zc7:=length x4.2.1+nat_lit 1<=x3/\qj6 x8 x9 (take ((length x4.2.1+nat_lit 1)*nat_lit 1) (z01 txV x4.2.1++[string (z39 x1 x4)]))
 abbrev z1y:=(↑(tkP x1 (toNat x6.2.2) 125):Int)
 def zjx:=(44:Int)=44/\x1=x1/\(z1y x1 x6)=(z1y x1 x6)/\(rdK x1 (z1y x1 x6)/\z6c 44)/\((!decide (pk x1 (toNat (z1y x1 x6))=44))=true->∃(i0:TrB),z2l 0 i0 (i0.2.1=2/\x1=x1/\i0.2.2=(↑(tkP x1 (toNat (z1y x1 x6)) 44):Int)/\z0a ((x1,x0),x2) i0/\(∀i1,(z1e x4 i1)/\GJ.ok x6.1 i1->GJ.ok i0.1 i1)/\True))/\((!decide (pk x1 (toNat (z1y x1 x6))=44))=false->∃(i2:List GJ×List ByteArray×Int),x2=x2/\x1=x1/\i2.2.2=(↑(tkP x1 (toNat (z1y x1 x6)) 44):Int)/\length i2.1=length x4.1+nat_lit 1/\length i2.2.1=length x4.2.1+nat_lit 1/\mpF 0 i2.2.1=qis (string (z39 x1 x4)) (int i64 (x5+1)) (mpF 0 x4.2.1) (length x4.2.1)/\length i2.2.1=qir (string (z39 x1 x4)) (mpF 0 x4.2.1) (length x4.2.1)/\z01 GJ.cells i2.1=z01 GJ.cells x4.1++[int i64 (GJ.k x6.1),int i64 (GJ.n x6.1),string (GJ.s x6.1),slice (GJ.y x6.1).1 (GJ.y x6.1).2.1 (GJ.y x6.1).2.2,slice (GJ.x x6.1).1 (GJ.x x6.1).2.1 (GJ.x x6.1).2.2]/\z01 txV i2.2.1=z01 txV x4.2.1++[string (z39 x1 x4)]/\(∀i3,(z1e x4 i3)/\GJ.ok x6.1 i3->True/\erP i3)/\(∀i4,(z1e x4 i4)/\GJ.ok x6.1 i4->GJ.oks i2.1 i4)/\tbI x1 x0 x2 i2.1 i2.2.1 i2.2.2/\size x1- toNat i2.2.2<size x1- toNat x4.2.2/\True)
 def zjw:=length (z01 txV x4.2.1)=length x4.2.1*1/\(length x4.2.1+nat_lit 1)*16<=140737488355328/\length (z01 GJ.cells x4.1)=length x4.1*5/\(length x4.1+nat_lit 1)*80<=140737488355328/\(125:Int)=125/\x1=x1/\x6.2.2=x6.2.2/\(rdK x1 x6.2.2/\z6c 125)/\Ji (pk x1 (toNat x6.2.2)=125) (∀(i0 i1 i2:Nat) (i3:Option Addr) (i4 i5:Nat),(∃i6,z8f i5 x4 x6 i6 i3)->∀(i7 i8 i9:Nat) (i10:Option Addr) (i11 i12:Nat),(∃i13,(z8f i5 x4 x6 i13 i3)/\zc7 x1 i12 x4 i13 i10)->∃(i14:TrB),GJ.k i14.1=6/\GJ.n i14.1=0/\GJ.s i14.1=mkS []/\(GJ.y i14.1).1=i3/\(GJ.y i14.1).2.1=length x4.1+nat_lit 1/\(GJ.y i14.1).2.2=i5/\(GJ.x i14.1).1=i10/\(GJ.x i14.1).2.1=length x4.2.1+nat_lit 1/\(GJ.x i14.1).2.2=i12/\i14.2.1=0/\x1=x1/\i14.2.2=(z1y x1 x6)/\z0a ((x1,x0),x2) i14/\(∀i15,(z8f i5 x4 x6 i15 i3)/\zc7 x1 i12 x4 i15 i10->GJ.ok i14.1 i15)/\True) (zjx x0 x1 x2 x4 x5 x6)
 def zjv:=((!decide (x6.2.1=0))=true->∃(i0:TrB),z2l 0 i0 (i0.2.1=x6.2.1/\x1=x1/\i0.2.2=x6.2.2/\z0a ((x1,x0),x2) i0/\(∀i1,(z1e x4 i1)/\GJ.ok x6.1 i1->GJ.ok i0.1 i1)/\True))/\((!decide (x6.2.1=0))=false->zjw x0 x1 x2 x4 x5 x6)
 def zju:=z8h x0/\x0+1=x0+1/\x1=x1/\(z3a x1 x4)=(z3a x1 x4)/\(z1c ((x1,(z3a x1 x4)),x0+1)<x3/\rdK x1 (z3a x1 x4)/\(1<=x0+1/\x0+1<=21)/\True)/\(∀i0,z1e x4 i0->erP i0)/\∀(i1:TrB),z0m ((x1,(z3a x1 x4)),x0+1) i1->(∃i2,(z1e x4 i2)/\GJ.ok i1.1 i2)->zjv x2 x1 x0 x4 x5 i1
 def zjt:=z8g x1 x4 (∃(i1:Int),zc8 i1 x1 x4/\z8h i1/\z8g x1 x4 ((58:Int)=58/\x1=x1/\(z1x x1 x4)=(z1x x1 x4)/\(rdK x1 (z1x x1 x4)/\z6c 58)/\((!decide (pk x1 (toNat (z1x x1 x4))=58))=true->∃(i3:TrB),z2l 0 i3 (i3.2.1=2/\x1=x1/\i3.2.2=(z3a x1 x4)/\z8i x0 x1 x2 x4 i3))/\((!decide (pk x1 (toNat (z1x x1 x4))=58))=false->zju x2 x1 x0 x3 x4 i1)))
 def zjs:=z8g x1 x4 (∃(i1:Int),zc8 i1 x1 x4/\Ji (0<i1) (∃(i2:TrB),z2l 0 i2 (i2.2.1=5/\x1=x1/\i2.2.2=(z1x x1 x4)/\z8i x0 x1 x2 x4 i2)) (zjt x0 x1 x2 x3 x4))
 def zjr:=x1=x1/\x4.2.2=x4.2.2/\rdK x1 x4.2.2/\((!decide ((↑(uqS x1 (toNat x4.2.2)).1:Int)=0))=true->∃(i0:TrB),z2l 0 i0 (i0.2.1=(↑(uqS x1 (toNat x4.2.2)).1:Int)/\x1=x1/\i0.2.2=(z1x x1 x4)/\z8i x0 x1 x2 x4 i0))/\((!decide ((↑(uqS x1 (toNat x4.2.2)).1:Int)=0))=false->zjs x0 x1 x2 x3 x4)
 def zjq:=(∃(i0:List GJ×List ByteArray×Int),x0=x0/\x1=x1/\i0.2.2=(↑(tkP x1 (toNat (x2+1)) 125):Int)/\length i0.1=0/\length i0.2.1=0/\mpF 0 i0.2.1=[]/\length i0.2.1=nat_lit 0/\(∀i1,True/\erP i1->True/\erP i1)/\(∀i2,True/\erP i2->GJ.oks i0.1 i2)/\tbI x1 x2 x0 i0.1 i0.2.1 i0.2.2/\True)/\∀(i3:List GJ×List ByteArray×Int),tbI x1 x2 x0 i3.1 i3.2.1 i3.2.2->(∃i4,z1e i3 i4)->zjr x2 x1 x0 x3 i3
 def zjp:=z8h x0/\(125:Int)=125/\x1=x1/\x0+1=x0+1/\(rdK x1 (x0+1)/\z6c 125)/\Ji (pk x1 (toNat (x0+1))=125) (∃(i0:TrB),z2l 6 i0 (i0.2.1=0/\x1=x1/\i0.2.2=(↑(tkP x1 (toNat (x0+1)) 125):Int)/\z0a ((x1,x0),x2) i0/\(∀i1,True/\erP i1->GJ.ok i0.1 i1)/\True)) (zjq x2 x1 x0 x3)
 def zjo:=Ji (20<x0) (∃(i0:TrB),z2l 0 i0 (i0.2.1=3/\x1=x1/\i0.2.2=x2/\z0a ((x1,x2),x0) i0/\(∀i1,True/\erP i1->GJ.ok i0.1 i1)/\True)) (zjp x2 x1 x0 x3)
end
def zbf(c:Nat) (s:ByteArray) (i d:Int):qkz P (tTb) (qhc [(13,z1k.below z1c c)]) Go.Proofs.Tryd.f26 (z3f.below z1c (c+1)) (z9k) ⟨⟨s,i⟩,d⟩=(z1c ((s,i),d)<c+1/\rdK s i/\(1<=d/\d<=21)/\zdo ((s,i),d)->(∃(p:Pub),True/\erP p)->zjo d s i c):=by kernel_rfl
def ze6:=λc s i d=>Eq.trans (zbf c s i d) (by delta Ji Jb Jt Jf z2l z8h z6c z1e z1x z8i z39 z8g zc8 z3a z8f zc7 z1y zjx zjw zjv zju zjt zjs zjr zjq zjp zjo;exact rfl)
section
variable (x0:ByteArray) (x1 x2:Int) (x3:Nat) (x4:TrB) (x5:Prop) (x6 x7:Int)
 abbrev z6d:=(↑(pk x0 (toNat x1)):Int)=x2
 abbrev z05:=(↑(sk x0 (toNat x1)):Int)
 def zcb:=x1=x1/\x0=x0/\(z05 x0 x2)=(z05 x0 x2)/\(z1c ((x0,(z05 x0 x2)),x1)<x3+1/\rdK x0 (z05 x0 x2)/\(1<=x1/\x1<=21)/\zdo ((x0,(z05 x0 x2)),x1))/\(∀i0,True/\erP i0->erP i0)/\x5
 def zc9:=(∃i0,(True/\erP i0)/\GJ.ok x4.1 i0)->∃(i1:TrB),GJ.k i1.1=GJ.k x4.1/\GJ.n i1.1=GJ.n x4.1/\GJ.s i1.1=GJ.s x4.1/\(GJ.y i1.1).1=(GJ.y x4.1).1/\(GJ.y i1.1).2.1=(GJ.y x4.1).2.1/\(GJ.y i1.1).2.2=(GJ.y x4.1).2.2/\(GJ.x i1.1).1=(GJ.x x4.1).1/\(GJ.x i1.1).2.1=(GJ.x x4.1).2.1/\(GJ.x i1.1).2.2=(GJ.x x4.1).2.2/\i1.2.1=x4.2.1/\x0=x0/\i1.2.2=x4.2.2/\z0m ((x0,x1),x2) i1/\(∀i2,(True/\erP i2)/\GJ.ok x4.1 i2->GJ.ok i1.1 i2)/\True
 def zk3:=zcb x0 x1 x2 x3 (∀(i1:TrB),z0p ((x0,(z05 x0 x2)),x1) i1->zc9 x0 x2 x1 i1)
 def zf4:=zcb x0 x1 x2 x3 (∀(i1:TrB),z0a ((x0,(z05 x0 x2)),x1) i1->zc9 x0 x2 x1 i1)
 def zdg:=(GJ.y x4.1).1=noA/\(GJ.y x4.1).2.1=0/\(GJ.y x4.1).2.2=0/\(GJ.x x4.1).1=noA/\(GJ.x x4.1).2.1=0/\(GJ.x x4.1).2.2=0/\x5
 def z4a:=z0m ((x0,x1),x2) x4/\(∀i0,True/\erP i0->GJ.ok x4.1 i0)/\True
 def zf5:=x0=x0/\(z05 x0 x1)=(z05 x0 x1)/\rdK x0 (z05 x0 x1)/\∃(i0:TrB),GJ.k i0.1=4/\GJ.n i0.1=0/\GJ.s i0.1=(uqS x0 (toNat (z05 x0 x1))).2.1/\zdg i0 (i0.2.1=(↑(uqS x0 (toNat (z05 x0 x1))).1:Int)/\x0=x0/\i0.2.2=(↑(sk x0 (toNat (z05 x0 x1))+(uqS x0 (toNat (z05 x0 x1))).2.2):Int)/\z4a x0 x1 x2 i0)
 def zgw:=x0=x0/\(z05 x0 x1)=(z05 x0 x1)/\(rdK x0 (z05 x0 x1)/\(z05 x0 x1)<(↑(size x0):Int))/\(∀i0,True/\erP i0->erP i0)/\∃(i1:TrB),GJ.k i1.1=3/\GJ.n i1.1=Option.getD (nmR x0 (toNat (z05 x0 x1))) 0/\GJ.s i1.1=mkS []/\zdg i1 (i1.2.1=(↑(erO (nmR x0 (toNat (z05 x0 x1)))):Int)/\x0=x0/\i1.2.2=(↑(dg x0 (nmM x0 (toNat (z05 x0 x1)))):Int)/\z4a x0 x1 x2 i1)
 abbrev z8k:=mkS [110,117,108,108]
 abbrev z9o:=(↑(wdP x0 (toNat (z05 x0 x1)) (z8k)):Int)
 abbrev z8l:=mkS [116,114,117,101]
 abbrev z2m:=(↑(wdP x0 (toNat (z9o x0 x1)) (z8l)):Int)
 abbrev z8j:=mkS [102,97,108,115,101]
 def zca:=∃(i0:TrB),GJ.k i0.1=x6/\GJ.n i0.1=0/\GJ.s i0.1=mkS []/\zdg i0 (i0.2.1=x7/\x0=x0/\i0.2.2=(↑(wdP x0 (toNat (z2m x0 x1)) (z8j)):Int)/\z4a x0 x1 x2 i0)
 def zk2:=mkS [102,97,108,115,101]=mkS [102,97,108,115,101]/\x0=x0/\(z2m x0 x1)=(z2m x0 x1)/\rdK x0 (z2m x0 x1)/\(wdF x0 (toNat (z2m x0 x1)) (z8j)=true->zca x0 x1 x2 2 0)/\(wdF x0 (toNat (z2m x0 x1)) (z8j)=false->zca x0 x1 x2 0 2)
 def zjz:=mkS [116,114,117,101]=mkS [116,114,117,101]/\x0=x0/\(z9o x0 x1)=(z9o x0 x1)/\rdK x0 (z9o x0 x1)/\(wdF x0 (toNat (z9o x0 x1)) (z8l)=true->∃(i0:TrB),GJ.k i0.1=2/\GJ.n i0.1=1/\GJ.s i0.1=mkS []/\zdg i0 (i0.2.1=0/\x0=x0/\i0.2.2=(z2m x0 x1)/\z4a x0 x1 x2 i0))/\(wdF x0 (toNat (z9o x0 x1)) (z8l)=false->zk2 x0 x1 x2)
 def zgv:=mkS [110,117,108,108]=mkS [110,117,108,108]/\x0=x0/\(z05 x0 x1)=(z05 x0 x1)/\rdK x0 (z05 x0 x1)/\(wdF x0 (toNat (z05 x0 x1)) (z8k)=true->∃(i0:TrB),GJ.k i0.1=1/\GJ.n i0.1=0/\GJ.s i0.1=mkS []/\zdg i0 (i0.2.1=0/\x0=x0/\i0.2.2=(z9o x0 x1)/\z4a x0 x1 x2 i0))/\(wdF x0 (toNat (z05 x0 x1)) (z8k)=false->zjz x0 x1 x2)
 def zf8:=Ji ((↑(pk x0 (toNat x1)):Int)<=57) (zgw x0 x1 x2) (zgv x0 x1 x2)
 def zf7:=Ji (48<=(↑(pk x0 (toNat x1)):Int)) (zf8 x0 x1 x2) (zgv x0 x1 x2)
 abbrev zf6:=Ji (z6d x0 x1 45) (zgw x0 x1 x2) (zf7 x0 x1 x2)
 abbrev zk1:=Ji (z6d x0 x1 34) (zf5 x0 x1 x2) (zf6 x0 x1 x2)
 abbrev zk0:=Ji (z6d x0 x1 123) (zf4 x0 x2 x1 x3) (zk1 x0 x1 x2)
 def zjy:=x0=x0/\x1=x1/\rdK x0 x1/\Ji (z6d x0 x1 91) (zk3 x0 x2 x1 x3) (zk0 x0 x1 x2 x3)
end
def zbg(c:Nat) (s:ByteArray) (i d:Int):qkz P (tTr) (qhc [(25,z6p.below z1c (c+1)),(26,z3f.below z1c (c+1))]) Go.Proofs.Tryd.f13 (z1k.below z1c (c+1)) (zel) ⟨⟨s,i⟩,d⟩=(z1c ((s,i),d)<c+1/\rdK s i/\(1<=d/\d<=21)/\True->(∃(p:Pub),True/\erP p)->zjy s i d c):=by kernel_rfl
def ze7:=λc s i d=>Eq.trans (zbg c s i d) (by delta Ji Jt Jf z6d z05 zcb zc9 zk3 zf4 zdg z4a zf5 zgw z8k z9o z8l z2m z8j zca zk2 zjz zgv zf8 zf7 zf6 zk1 zk0 zjy;exact rfl)
section
variable {s:ByteArray}
def z0o{i c:Nat} (h:pk s i=c):tkP s i c=sk s i+1:=if_pos h
def z18{i c:Nat} (h:¬pk s i=c):tkP s i c=sk s i:=if_neg h
variable {i:Nat} {w:ByteArray}
def z33(h:wdF s i w=true):wdP s i w=i+w.size:=if_pos h
def z64(h:wdF s i w=false):wdP s i w=i:=if_neg (by rw[h];decide)
def z2b(s:ByteArray) (i:Nat):pk s (sk s i)=pk s i:=by unfold pk;rw[z0e]
def z60(s:ByteArray) (i:Nat):uqS s (sk s i)=uqS s i:=by unfold uqS;rw[z0e]
def z14(h:pk s i≠0):sk s i<s.size:=Nat.lt_of_not_le λh2=>h (by unfold pk;exact z03 h2)
def zg8(s:ByteArray) (T:Option (Nat->JR)) (i:Nat):jN s T (sk s i)=jN s T i:=by
 unfold jN
 rw[z2b,z0e,z60]
def zga(s:ByteArray) (n i:Nat):jT s n (sk s i)=jT s n i:=by rw[z5c];exact zg8 s _ i
def zg7(s:ByteArray) (n f i:Nat) (acc:List PJ):jL s (jT s n) f (sk s i) acc=jL s (jT s n) f i acc:=by
 cases f with
 |zero=>rfl
 |succ f=>rw[jL,jL,zga]
def zg9(s:ByteArray) (T:Nat->JR) (f i:Nat) (acc:List PJ) (nm:List ByteArray):jO s T f (sk s i) acc nm=jO s T f i acc nm:=by
 cases f with
 |zero=>rfl
 |succ f=>rw[jO,jO,z60,z0e]
def z13{p:Pub} {g:GJ}:∀{l:List GJ},GJ.oks l p->g.ok p->GJ.oks (l++[g]) p
  | [],_,hg=>by
    show GJ.oks [g] p
    unfold GJ.oks
    exact⟨hg,by unfold GJ.oks;trivial⟩
  | x::l,h,hg=>by
    unfold GJ.oks at h
    show GJ.oks (x::(l++[g])) p
    unfold GJ.oks
    exact⟨h.1,z13 h.2 hg⟩
def z2x(p:Pub):GJ.oks [] p:=by unfold GJ.oks;trivial
def z09(k n:Int) (s:ByteArray):GJ:= .mk k n s (none,0,0) [] (none,0,0) []
def z0b(k n:Int) (s:ByteArray) (p:Pub):(z09 k n s).ok p:=by
 unfold z09 GJ.ok
 exact⟨z30,z30,z2x p⟩
def z1o(k n:Int) (s:ByteArray):(z09 k n s).pj= .mk k n s [] []:=by unfold z09;rw[GJ.pj,GJ.pjs]
def z5z(h:i<=s.size):sk s i+(uqS s i).2.2<=s.size:=by
 have h1:=z1s h
 have h2:=(z5y (s.extract (sk s i) s.size)).1
 rw[ByteArray.size_extract]at h2
 unfold uqS
 omega
def z61(h:(uqS s i).1≠0):(uqS s i).1=2:=by
 unfold uqS at h⊢
 rcases(z5y (s.extract (sk s i) s.size)).2 with h2|h2
 ·exact absurd h2.1 h
 ·rw[h2]
def z59{c:Nat} (h:isX c=true):c=46\/c=101\/c=69:=by unfold isX at h;simp at h;omega
def z98{j:Nat} (h:isX (bat s j)=true):pk s j=bat s j:=by
 have:=z59 h
 have e:sk s j=j:=z7n (by unfold isW;simp;omega)
 unfold pk;rw[e]
variable {g:GJ}
def z15{i j:Int} {k:Nat} (h:rdK s j) (hk:k≠0) {e:Int} (he:e=k):rsP (.err k) s i (g,e,j):=⟨h,he,hk⟩
variable {gs:List GJ}
def z72{k n:Int} {t:ByteArray} {a:Option Addr} {c:Nat} {p:Pub} (h1:GJ.oks gs p) (h2:g.ok p) (hc:gs.length+1<=c) (hr:qj6 p a (List.take ((gs.length+1)*5) (z01 GJ.cells gs++g.cells))):(GJ.mk k n t (a,gs.length+1,c) (gs++[g]) (none,0,0) []).ok p:=by
 have e:z01 GJ.cells (gs++[g])=z01 GJ.cells gs++g.cells:=by rw[z0d];exact congrArg _ (List.append_nil _)
 have cl:(z01 GJ.cells gs).length=gs.length*5:=z07 z04 gs
 rw[List.take_of_length_le (by rw[List.length_append,cl,z04];omega)]at hr
 unfold GJ.ok
 exact⟨⟨by simp,hc,by rw[e];exact hr⟩,z30,z13 h1 h2⟩
def z57{k n:Int} {t u:ByteArray} {a b:Option Addr} {c e:Nat} {nm:List ByteArray} {p:Pub} (h1:GJ.oks gs p) (h2:g.ok p) (hc:gs.length+1<=c) (hr:qj6 p a (List.take ((gs.length+1)*5) (z01 GJ.cells gs++g.cells))) (he:nm.length+1<=e) (hs:qj6 p b (List.take ((nm.length+1)*1) (z01 txV nm++[.string u]))):(GJ.mk k n t (a,gs.length+1,c) (gs++[g]) (b,nm.length+1,e) (nm++[u])).ok p:=by
 have e1:z01 GJ.cells (gs++[g])=z01 GJ.cells gs++g.cells:=by rw[z0d];exact congrArg _ (List.append_nil _)
 have e2:z01 txV (nm++[u])=z01 txV nm++[.string u]:=by rw[z0d];rfl
 have cl:(z01 GJ.cells gs).length=gs.length*5:=z07 z04 gs
 have cm:(z01 txV nm).length=nm.length*1:=z07 z0f nm
 rw[List.take_of_length_le (by rw[List.length_append,cl,z04];omega)]at hr
 rw[List.take_of_length_le (by rw[List.length_append,cm,List.length_singleton];omega)]at hs
 unfold GJ.ok
 exact⟨⟨by simp,hc,by rw[e1];exact hr⟩,⟨by simp,he,by rw[e2];exact hs⟩,z13 h1 h2⟩
variable {b:TrB}
def z3l{i d:Int} (h:rsP (jLt s (jTo s (lv d)) i.toNat) s i b):z0p ((s,i),d) b:=h
def z3r{i d:Int} (h:rsP (jTb s (jTo s (lv d)) i.toNat) s i b):z0a ((s,i),d) b:=h
def z9h{i d:Int} (h:trP (jT s (lv d) i.toNat) s i b):z0m ((s,i),d) b:=h
def z0j(s:ByteArray) (n:Nat):jTo s (n+1)=some (jT s n):=rfl
def z1l(s:ByteArray) (T:Nat->JR) (i:Nat):jLt s (some T) i=if pk s (i+1)=93 then .ok (.mk 5 0 (mkS []) [] []) (sk s (i+1)+1)else jL s T (s.size+1) (i+1) []:=rfl
def z1n(s:ByteArray) (T:Nat->JR) (i:Nat):jTb s (some T) i=if pk s (i+1)=125 then .ok (.mk 6 0 (mkS []) [] []) (sk s (i+1)+1)else jO s T (s.size+1) (i+1) [] []:=rfl
def z5a(s:ByteArray) (T:Nat->JR) (f i:Nat) (acc:List PJ):jL s T (f+1) i acc=match T i with
  | .err k=> .err k
  | .ok x j=>if pk s j=93 then .ok (.mk 5 0 (mkS []) (acc++[x]) []) (sk s j+1)else if pk s j=44 then jL s T f (sk s j+1) (acc++[x])else .err 2:=rfl
def z19{R:JR} {s:ByteArray} {i:Int} {g:GJ} {e j:Int} (h:trP R s i (g,e,j)):rdK s j/\((∃k:Nat,R= .err k/\e=k/\k≠0)\/(R= .ok g.pj j.toNat/\e=0/\i<=j)\/(R= .err 2/\e=0/\i<=j/\pk s j.toNat≠93/\pk s j.toNat≠44/\pk s j.toNat≠125)):=by
  rcases h with h|⟨h1,h2,h3,h4⟩
  · cases R with
    |err k=>exact⟨h.1, .inl ⟨k,rfl,h.2.1,h.2.2⟩⟩
    | ok x j'=>
      obtain⟨a,⟨b1,b2⟩,b3,b4⟩:=h
      exact⟨a, .inr (.inl ⟨by rw[b3,b4];rfl,b1,b2⟩)⟩
  · have h4:isX (bat s j.toNat)=true:=h4
    have:=z59 h4
    have e:=z98 h4
    exact⟨h2, .inr (.inr ⟨h1,h3.1,h3.2,by omega,by omega,by omega⟩)⟩
end
def zal (c:Nat) (ht:q2d P 13 (z1k.below z1c c)):q2d P 25 (z6p.below z1c (c+1)):=by
 refine qk9 mixed (qdv (qhn z5t qkn)) (qel (qhm ht qkm)) (W:=zeh) Go.Proofs.Tryd.func25 (by kernel_rfl) (show 1<=2 by decide) (show 2<=2 by decide) (λs=>by kernel_rfl) λ⟨⟨s,(i:Int)⟩,(d:Int)⟩=>(zdu c s i d).mpr ?_
 rintro⟨hmu,⟨h1,h2,h3⟩,⟨d1,d2⟩,hi⟩ _
 have hmu:lv d<c+1:=hmu
 have hi:i<s.size:=hi
 simp only[sbS,Int.toNat_natCast,exists_const]
 have big: -9223372036854775808<=i+1/\i+1<=9223372036854775807:=⟨by omega,by omega⟩
 refine⟨λh20=> ?_,λh20=>⟨big,⟨⟨by omega,by omega,h3⟩,by decide,by decide⟩,λhE=> ?_,λhE=>⟨?_,?_⟩⟩⟩
 ·have e:lv d=0:=by unfold lv;omega
  refine⟨(z09 0 0 (mkS []),3,i),rfl,rfl,rfl,rfl,rfl,rfl,rfl,rfl,rfl,rfl,rfl,?_,λp _=>z0b 0 0 _ p⟩
  refine z3l ?_
  rw[e]
  exact z15 (k:=3) ⟨h1,h2,h3⟩ (by decide) rfl
 all_goals obtain⟨n,hn⟩:∃n,lv d=n+1:=⟨lv d- 1,by unfold lv;omega⟩
 all_goals obtain⟨i,rfl⟩:=Int.eq_ofNat_of_zero_le h1
 all_goals have e1:((i:Int)+1).toNat=i+1:=by omega
 all_goals simp only[e1]at hE⊢
 ·have hp:=z14 (s:=s) (i:=i+1) (by omega)
  have hq:=z17 s (i+1)
  refine⟨(z09 5 0 (mkS []),0,(tkP s (i+1) 93:Nat)),rfl,rfl,rfl,rfl,rfl,rfl,rfl,rfl,rfl,rfl,rfl,?_,λp _=>z0b 5 0 _ p⟩
  refine z3l ?_
  rw[hn,z0o hE,z0j,Int.toNat_natCast,z1l,if_pos hE]
  exact⟨⟨by omega,by omega,h3⟩,⟨rfl,by omega⟩,rfl,z1o 5 0 _⟩
 ·have hq:=z17 s (i+1)
  have hl:=z1s (s:=s) (i:=i+1) (by omega)
  refine⟨([],(tkP s (i+1) 93:Nat)),rfl,rfl,λp _=>z2x p,?_⟩
  rw[z18 hE]
  refine⟨⟨by omega,by omega,h3⟩,⟨by omega,by simp⟩,n,s.size+1,hn,by omega,?_⟩
  show jL s (jT s n) (s.size+1) (sk s (i+1)) []=jLt s (jTo s (lv d)) i
  rw[hn,zg7,z0j,z1l,if_neg hE]
 ·rintro ⟨gs,j⟩ ⟨hj,⟨hij,hgl⟩,n',f,hn',hf,hR⟩ hmem
  have en:n'=n:=by omega
  rw[en]at hR
  obtain⟨j,rfl⟩:=Int.eq_ofNat_of_zero_le hj.1
  have hj2:=hj.2.1
  simp only[Int.toNat_natCast]at hf hR hgl⊢
  obtain⟨f,rfl⟩:∃f',f=f'+1:=⟨f- 1,by omega⟩
  have lv1:lv (d+1)=n:=by unfold lv at hn⊢;omega
  refine⟨⟨by omega,by omega⟩,⟨show lv (d+1)<c by omega,hj,by omega,by omega⟩,λp hp=>hp.1,?_⟩
  rintro⟨g,e,jt⟩ hb ⟨p0,hp0⟩
  have hb:trP (jT s (lv (d+1)) j) s j (g,e,jt):=hb
  rw[lv1]at hb
  rw[z5a]at hR
  obtain⟨hjt,hcs⟩:=z19 hb
  have h3':=hj.2.2
  have cl:(z01 GJ.cells gs).length=gs.length*5:=z07 z04 gs
  have err:∀(k:Nat) (q:Int),jLt s (jTo s (lv d)) i= .err k->k≠0->rdK s q->z0p ((s,(i:Int)),d) (z09 0 0 (mkS []),(k:Int),q):=λk q h1 h2 h3=>z3l (by rw[Int.toNat_natCast,h1];exact z15 h3 h2 rfl)
  refine⟨λhe=> ?_,λhe=>⟨cl,by omega,⟨hjt,by decide,by decide⟩,λa1=> ?_,λa1=> ?_⟩⟩
  ·rcases hcs with⟨k,h1,h2,h3⟩|⟨h1,h2,h3⟩|⟨h1,h2,h3⟩
   ·rw[h1]at hR
    exact⟨(z09 0 0 (mkS []),(k:Int),jt),rfl,rfl,rfl,rfl,rfl,rfl,rfl,rfl,rfl,h2.symm,rfl,err k jt hR.symm h3 hjt,λp _=>z0b 0 0 _ p⟩
   ·exact absurd h2 he
   ·exact absurd h2 he
  ·have he:e=0:=he
   have a1:pk s jt.toNat=93:=a1
   rcases hcs with⟨k,h1,h2,h3⟩|⟨h1,h2,h3⟩|⟨h1,h2,h3,h4,_⟩
   ·omega
   ·intro _ _ _ a n2 c2 hp2
    obtain⟨jt,rfl⟩:=Int.eq_ofNat_of_zero_le hjt.1
    simp only[Int.toNat_natCast]at a1 h1⊢
    rw[h1]at hR
    simp only[if_pos a1]at hR
    have hq:=z14 (s:=s) (i:=jt) (by omega)
    have hg:=z17 s jt
    refine⟨(.mk 5 0 (mkS []) (a,gs.length+1,c2) (gs++[g]) (none,0,0) [],0,(tkP s jt 93:Nat)),rfl,rfl,rfl,rfl,rfl,rfl,rfl,rfl,rfl,rfl,rfl,?_,λp hp=>z72 hp.1.1.2 hp.1.2 hp.2.1 hp.2.2⟩
    refine z3l ?_
    rw[Int.toNat_natCast,←hR,z0o a1]
    exact⟨⟨by omega,by omega,h3'⟩,⟨rfl,by omega⟩,rfl,by rw[GJ.pj,GJ.pjs_map,List.map_append];rfl⟩
   ·exact absurd a1 h4
  ·have he:e=0:=he
   have a1:¬pk s jt.toNat=93:=a1
   have hjl:=z1s (s:=s) (i:=jt.toNat) (by have:=hjt.2.1;omega)
   have hjg:=z17 s jt.toNat
   have hr2:rdK s (sk s jt.toNat:Nat):=⟨by omega,by omega,h3'⟩
   rw[z18 a1]
   simp only[Int.toNat_natCast,z2b]
   refine⟨⟨hr2,by decide,by decide⟩,λa2=> ?_,λa2=> ?_⟩
   ·have a2:¬pk s jt.toNat=44:=a2
    have hE2:jLt s (jTo s (lv d)) i= .err 2:=by
     rcases hcs with⟨k,h1,h2,h3⟩|⟨h1,h2,h3⟩|⟨h1,h2,h3,h4,_⟩
     ·omega
     ·rw[h1]at hR
      simp only[if_neg a1,if_neg a2]at hR
      exact hR.symm
     ·rw[h1]at hR;exact hR.symm
    rw[z18 (by rw[z2b];exact a2),z0e]
    exact⟨(z09 0 0 (mkS []),2,(sk s jt.toNat:Nat)),rfl,rfl,rfl,rfl,rfl,rfl,rfl,rfl,rfl,rfl,rfl,err 2 _ hE2 (by decide) hr2,λp _=>z0b 0 0 _ p⟩
   ·have a2:pk s jt.toNat=44:=a2
    rw[z0o (by rw[z2b];exact a2),z0e]
    rcases hcs with⟨k,h1,h2,h3⟩|⟨h1,h2,h3⟩|⟨h1,h2,h3,h4,h5,_⟩
    ·omega
    ·rw[h1]at hR
     simp only[if_neg a1,if_pos a2]at hR
     have hq:=z14 (s:=s) (i:=jt.toNat) (by omega)
     refine⟨(gs++[g],((sk s jt.toNat+1:Nat):Int)),rfl,by simp,by rw[z0d];rfl,λp hp=>hp.1.1,λp hp=>z13 hp.1.2 hp.2,⟨⟨by omega,by omega,h3'⟩,⟨by omega,by simp;omega⟩,n,f,hn,by omega,?_⟩,by omega⟩
     show jL s (jT s n) f (sk s jt.toNat+1) ((gs++[g]).map GJ.pj)=jLt s (jTo s (lv d)) i
     rw[←hR,List.map_append];rfl
    ·exact absurd a2 h5
section
def z5g:∀(nm:List ByteArray) (c:Nat) (t:ByteArray),mpF c (nm++[t])=mpF c nm++[⟨.string t, .int .i64 1,c+nm.length⟩]
  | [],c,t=>rfl
  | a::l,c,t=>by
    show _::mpF (c+1) (l++[t])=_::(mpF (c+1) l++_)
    rw[z5g l (c+1) t,List.length_cons,show c+1+l.length=c+(l.length+1)by omega]
def z1p:∀(nm:List ByteArray) (c:Nat),∀e∈mpF c nm,kOK .string e.key
  | a::l,c,e,h=>by
    rcases List.mem_cons.1 h with rfl|h
    · trivial
    · exact z1p l (c+1) e h
def z0z:∀(nm:List ByteArray) (c i:Nat) (t:ByteArray),(inB t nm=true->∃k,q3m (.string t) (mpF c nm) i=some (k, .int .i64 1))/\(inB t nm=false->q3m (.string t) (mpF c nm) i=none)
  | [],c,i,t=>⟨λh=>(by cases h),λ_=>rfl⟩
  | a ::l,c,i,t=>by
    have ih:=z0z l (c+1) (i+1) t
    have e:inB t (a::l)=(decide (a=t)||inB t l):=rfl
    rw[e]
    have em:q3m (.string t) (mpF c (a::l)) i=(match decide (t=a)with|true=>some (i, .int .i64 1)|false=>q3m (.string t) (mpF (c+1) l) (i+1)):=rfl
    rw[em]
    by_cases h:a=t
    · subst h
      simp
    · have h2:¬t=a:=λe=>h e.symm
      simp only[h,h2,decide_false,Bool.false_or]
      exact ih
variable {nm:List ByteArray} {t:ByteArray}
def zan(h:inB t nm=true):ql7 (.string t) (mpF 0 nm) (.int .i64 0)= .int .i64 1:=by
 obtain⟨k,hk⟩:=(z0z nm 0 0 t).1 h
 unfold ql7;rw[hk]
def z3m(h:inB t nm=false):ql7 (.string t) (mpF 0 nm) (.int .i64 0)= .int .i64 0:=by
 unfold ql7;rw[(z0z nm 0 0 t).2 h]
def z7b(h:inB t nm=false):qis (.string t) (.int .i64 1) (mpF 0 nm) nm.length=mpF 0 (nm++[t])/\qir (.string t) (mpF 0 nm) nm.length=nm.length+1:=by
 unfold qis qir
 rw[(z0z nm 0 0 t).2 h,z5g]
 exact⟨by rw[Nat.zero_add],rfl⟩
def z5b(s:ByteArray) (T:Nat->JR) (f i:Nat) (acc:List PJ) (nm:List ByteArray):jO s T (f+1) i acc nm=if(uqS s i).1≠0 then .err 2 else if inB (uqS s i).2.1 nm=true then .err 5 else
  if pk s (sk s i+(uqS s i).2.2)≠58 then .err 2 else
  match T (sk s (sk s i+(uqS s i).2.2)+1)with
  | .err k=> .err k
  | .ok x j=>if pk s j=125 then .ok (.mk 6 0 (mkS []) (acc++[x]) (nm++[(uqS s i).2.1])) (sk s j+1)else if pk s j=44 then jO s T f (sk s j+1) (acc++[x]) (nm++[(uqS s i).2.1])else .err 2:=rfl
def z7q(c:Nat) (ht:q2d P 13 (z1k.below z1c c)):q2d P 26 (z3f.below z1c (c+1)):=by
  refine qk9 mixed (qdv (qhn z5t (qhn z3s qkn))) (qel (qhm ht qkm)) (W:=z9k) Go.Proofs.Tryd.func26 (by kernel_rfl) (show 1<=2 by decide) (show 2<=2 by decide) (λs=>by kernel_rfl) λ⟨⟨s,(i:Int)⟩,(d:Int)⟩=>(ze6 c s i d).mpr ?_
  rintro⟨hmu,⟨h1,h2,h3⟩,⟨d1,d2⟩,hi⟩ _
  have hmu:lv d<c+1:=hmu
  have hi:i<s.size:=hi
  simp only[sbS,Int.toNat_natCast,exists_const]
  have rk:∀{q:Nat},q<=s.size->rdK s (q:Int):=λh=>⟨by omega,by omega,h3⟩
  have big: -9223372036854775808<=i+1/\i+1<=9223372036854775807:=⟨by omega,by omega⟩
  refine⟨λh20=> ?_,λh20=>⟨big,⟨⟨by omega,by omega,h3⟩,by decide,by decide⟩,λhE=> ?_,λhE=>⟨?_,?_⟩⟩⟩
  · have e:lv d=0:=by unfold lv;omega
    refine⟨(z09 0 0 (mkS []),3,i),rfl,rfl,rfl,rfl,rfl,rfl,rfl,rfl,rfl,rfl,rfl,?_,λp _=>z0b 0 0 _ p⟩
    refine z3r ?_
    rw[e]
    exact z15 (k:=3) ⟨h1,h2,h3⟩ (by decide) rfl
  all_goals obtain⟨n,hn⟩:∃n,lv d=n+1:=⟨lv d- 1,by unfold lv;omega⟩
  all_goals obtain⟨i,rfl⟩:=Int.eq_ofNat_of_zero_le h1
  all_goals have e1:((i:Int)+1).toNat=i+1:=by omega
  all_goals simp only[e1]at hE⊢
  · have hp:=z14 (s:=s) (i:=i+1) (by omega)
    have hq:=z17 s (i+1)
    refine⟨(z09 6 0 (mkS []),0,(tkP s (i+1) 125:Nat)),rfl,rfl,rfl,rfl,rfl,rfl,rfl,rfl,rfl,rfl,rfl,?_,λp _=>z0b 6 0 _ p⟩
    refine z3r ?_
    rw[hn,z0o hE,z0j,Int.toNat_natCast,z1n,if_pos hE]
    exact⟨⟨by omega,by omega,h3⟩,⟨rfl,by omega⟩,rfl,z1o 6 0 _⟩
  · have hq:=z17 s (i+1)
    have hl:=z1s (s:=s) (i:=i+1) (by omega)
    refine⟨([],[],(tkP s (i+1) 125:Nat)),rfl,rfl,rfl,rfl,rfl,λp _=>z2x p,?_⟩
    rw[z18 hE]
    refine⟨rk hl,⟨show(i:Int)<(sk s (i+1):Nat)by omega,Nat.zero_le _⟩,rfl,n,s.size+1,hn,Nat.le_add_right _ _,?_⟩
    show jO s (jT s n) (s.size+1) (sk s (i+1)) [] []=jTb s (jTo s (lv d)) i
    rw[hn,zg9,z0j,z1n,if_neg hE]
  · rintro ⟨gs,nm,j⟩ ⟨hj,⟨hij,hgl⟩,hgn,n',f,hn',hf,hR⟩ hmem
    have en:n'=n:=by omega
    rw[en]at hR
    obtain⟨j,rfl⟩:=Int.eq_ofNat_of_zero_le hj.1
    have hj2:(j:Int)<=s.size:=hj.2.1
    have hij:(i:Int)<j:=hij
    have hgn:gs.length=nm.length:=hgn
    have h3':=hj.2.2
    simp only[Int.toNat_natCast]at hf hR hgl⊢
    obtain⟨f,rfl⟩:∃f',f=f'+1:=⟨f- 1,by omega⟩
    have lv1:lv (d+1)=n:=by unfold lv at hn⊢;omega
    rw[z5b]at hR
    have err:∀(k:Nat) (q:Int),jTb s (jTo s (lv d)) i= .err k->k≠0->rdK s q->z0a ((s,(i:Int)),d) (z09 0 0 (mkS []),(k:Int),q):=λk q h1 h2 h3=>z3r (by rw[Int.toNat_natCast,h1];exact z15 h3 h2 rfl)
    have hp1:=z5z (s:=s) (i:=j) (by omega)
    have hu2:=z61 (s:=s) (i:=j)
    have hje:j<=sk s j+(uqS s j).2.2:=by have:=z17 s j;omega
    generalize (uqS s j).2.1=t at hR⊢
    generalize (uqS s j).1=ue at hR hu2⊢
    generalize sk s j+(uqS s j).2.2=p1 at hR hp1 hje⊢
    have noth:∀(k:Nat) (q:Nat) (x:Int),jTb s (jTo s (lv d)) i= .err k->k≠0->q<=s.size->x=k->∃b:TrB,b.1.k=0/\b.1.n=0/\b.1.s=mkS []/\b.1.y.1=noA/\b.1.y.2.1=0/\b.1.y.2.2=0/\b.1.x.1=noA/\b.1.x.2.1=0/\b.1.x.2.2=0/\b.2.1=x/\b.2.2=(q:Nat)/\z0a ((s,(i:Int)),d) b/\∀p:Pub,b.1.ok p:=λk q x h1 h2 h3 hx=>⟨(z09 0 0 (mkS []),(k:Int),(q:Int)),rfl,rfl,rfl,rfl,rfl,rfl,rfl,rfl,rfl,hx.symm,rfl,err k q h1 h2 (rk h3),λp=>z0b 0 0 _ p⟩
    have fit:∀{Q:Pub->Prop} {x:Int} {q:Int},(∃b:TrB,b.1.k=0/\b.1.n=0/\b.1.s=mkS []/\b.1.y.1=noA/\b.1.y.2.1=0/\b.1.y.2.2=0/\b.1.x.1=noA/\b.1.x.2.1=0/\b.1.x.2.2=0/\b.2.1=x/\b.2.2=q/\z0a ((s,(i:Int)),d) b/\∀p:Pub,b.1.ok p)->∃b:TrB,b.1.k=0/\b.1.n=0/\b.1.s=mkS []/\b.1.y.1=noA/\b.1.y.2.1=0/\b.1.y.2.2=0/\b.1.x.1=noA/\b.1.x.2.1=0/\b.1.x.2.2=0/\b.2.1=x/\b.2.2=q/\z0a ((s,(i:Int)),d) b/\∀p:Pub,Q p->b.1.ok p:=λ⟨b,h1,h2,h3,h4,h5,h6,h7,h8,h9,h10,h11,h12,h13⟩=>⟨b,h1,h2,h3,h4,h5,h6,h7,h8,h9,h10,h11,h12,λp _=>h13 p⟩
    refine⟨hj,λhe=> ?_,λhe=>⟨trivial,z1p nm 0,?_⟩⟩
    · have hu:ue≠0:=λh=>he (by rw[h];rfl)
      rw[if_pos hu]at hR
      exact fit (noth 2 _ _ hR.symm (by decide) hp1 (by rw[hu2 hu]))
    have hu:¬ue≠0:=λh=>h (by have:(ue:Int)=0:=he;omega)
    rw[if_neg hu]at hR
    cases hB:inB t nm with
    | true=>
      rw[if_pos hB]at hR
      exact⟨1,zan hB,λ_=>fit (noth 5 _ _ hR.symm (by decide) hp1 rfl),λh=>absurd (by decide:(0:Int)<1) h⟩
    |false=>
    rw[if_neg (by rw[hB];decide)]at hR
    refine⟨0,z3m hB,λh=>absurd h (by decide),λ_=>⟨trivial,z1p nm 0,0,z3m hB,⟨by decide,by decide⟩,trivial,z1p nm 0,⟨rk hp1,by decide,by decide⟩,λa0=> ?_,λa0=> ?_⟩⟩
    · rw[if_pos (show pk s p1≠58 from a0)]at hR
      rw[z18 a0]
      exact fit (noth 2 _ _ hR.symm (by decide) (z1s hp1) rfl)
    have a0:pk s p1=58:=a0
    rw[if_neg (λh=>h a0)]at hR
    have ht1:=z14 (s:=s) (i:=p1) (by omega)
    have ht2:=z17 s p1
    rw[z0o a0]
    refine⟨⟨by omega,by omega⟩,⟨show lv (d+1)<c by omega,rk ht1,by omega,by omega⟩,λp hp=>hp.1,?_⟩
    rintro⟨g,e,jt⟩ hb ⟨p0,hp0⟩
    have hb:trP (jT s (lv (d+1)) (((sk s p1+1:Nat):Int)).toNat) s ((sk s p1+1:Nat):Int) (g,e,jt):=hb
    rw[lv1,Int.toNat_natCast]at hb
    obtain⟨hjt,hcs⟩:=z19 hb
    have cl:(z01 GJ.cells gs).length=gs.length*5:=z07 z04 gs
    have cm:(z01 txV nm).length=nm.length*1:=z07 z0f nm
    refine⟨λhe=> ?_,λhe=>⟨cm,by omega,cl,by omega,⟨hjt,by decide,by decide⟩,λa1=> ?_,λa1=> ?_⟩⟩
    · rcases hcs with⟨k,h1,h2,h3⟩|⟨h1,h2,h3⟩|⟨h1,h2,h3⟩
      · rw[h1]at hR
        obtain⟨jt,rfl⟩:=Int.eq_ofNat_of_zero_le hjt.1
        exact fit (noth k jt _ hR.symm h3 (by have:=hjt.2.1;omega) h2)
      · exact absurd h2 he
      · exact absurd h2 he
    · have he:e=0:=he
      have a1:pk s jt.toNat=125:=a1
      rcases hcs with⟨k,h1,h2,h3⟩|⟨h1,h2,h3⟩|⟨h1,h2,h3,_,_,h4⟩
      · omega
      · intro _ _ _ a n2 c2 _ _ _ _ a3 n3 c3 hp3
        obtain⟨jt,rfl⟩:=Int.eq_ofNat_of_zero_le hjt.1
        simp only[Int.toNat_natCast]at a1 h1⊢
        rw[h1]at hR
        simp only[if_pos a1]at hR
        have hq:=z14 (s:=s) (i:=jt) (by omega)
        have hg:=z17 s jt
        refine⟨(.mk 6 0 (mkS []) (a,gs.length+1,c2) (gs++[g]) (a3,nm.length+1,c3) (nm++[t]),0,(tkP s jt 125:Nat)),rfl,rfl,rfl,rfl,rfl,rfl,rfl,rfl,rfl,rfl,rfl,?_,λp hp=>z57 hp.1.1.1.2 hp.1.1.2 hp.1.2.1 hp.1.2.2 hp.2.1 hp.2.2⟩
        refine z3r ?_
        rw[Int.toNat_natCast,←hR,z0o a1]
        exact⟨rk hq,⟨rfl,by omega⟩,rfl,by rw[GJ.pj,GJ.pjs_map,List.map_append];rfl⟩
      · exact absurd a1 h4
    · have he:e=0:=he
      have a1:¬pk s jt.toNat=125:=a1
      have hjl:=z1s (s:=s) (i:=jt.toNat) (by have:=hjt.2.1;omega)
      have hjg:=z17 s jt.toNat
      rw[z18 a1]
      simp only[Int.toNat_natCast,z2b]
      refine⟨⟨rk hjl,by decide,by decide⟩,λa2=> ?_,λa2=> ?_⟩
      · have a2:¬pk s jt.toNat=44:=a2
        have hE2:jTb s (jTo s (lv d)) i= .err 2:=by
          rcases hcs with⟨k,h1,h2,h3⟩|⟨h1,h2,h3⟩|⟨h1,h2,h3,h4,_⟩
          · omega
          · rw[h1]at hR
            simp only[if_neg a1,if_neg a2]at hR
            exact hR.symm
          · rw[h1]at hR;exact hR.symm
        rw[z18 (by rw[z2b];exact a2),z0e]
        exact fit (noth 2 _ _ hE2 (by decide) hjl rfl)
      · have a2:pk s jt.toNat=44:=a2
        rw[z0o (by rw[z2b];exact a2),z0e]
        rcases hcs with⟨k,h1,h2,h3⟩|⟨h1,h2,h3⟩|⟨h1,h2,h3,h4,h5,_⟩
        · omega
        · rw[h1]at hR
          simp only[if_neg a1,if_pos a2]at hR
          have hq:=z14 (s:=s) (i:=jt.toNat) (by omega)
          have mo:=z7b hB
          refine⟨(gs++[g],nm++[t],((sk s jt.toNat+1:Nat):Int)),rfl,by simp,by simp,mo.1.symm,by rw[mo.2];simp,by rw[z0d];rfl,by rw[z0d];rfl,λp hp=>hp.1.1,λp hp=>z13 hp.1.2 hp.2,⟨rk hq,⟨show(i:Int)<((sk s jt.toNat+1:Nat):Int)by omega,?_⟩,by simp[hgn],n,f,hn,show s.size+1<=f+(sk s jt.toNat+1)by omega,?_⟩,show s.size- (sk s jt.toNat+1)<s.size- j by omega⟩
          · show(gs++[g]).length<=sk s jt.toNat+1
            simp;omega
          · show jO s (jT s n) f (sk s jt.toNat+1) ((gs++[g]).map GJ.pj) (nm++[t])=jTb s (jTo s (lv d)) i
            rw[←hR,List.map_append];rfl
        · exact absurd a2 h5
end
def z77{Q:Pub->Prop} {s:ByteArray} {i d:Int} {k n:Int} {t:ByteArray} {e q:Int} (h:trP (jT s (lv d) i.toNat) s i (z09 k n t,e,q)):∃b:TrB,b.1.k=k/\b.1.n=n/\b.1.s=t/\b.1.y.1=noA/\b.1.y.2.1=0/\b.1.y.2.2=0/\b.1.x.1=noA/\b.1.x.2.1=0/\b.1.x.2.2=0/\b.2.1=e/\b.2.2=q/\z0m ((s,i),d) b/\∀p:Pub,Q p->b.1.ok p:=
 ⟨(z09 k n t,e,q),rfl,rfl,rfl,rfl,rfl,rfl,rfl,rfl,rfl,rfl,rfl,z9h h,λp _=>z0b k n t p⟩
def zbh(c:Nat) (hl:q2d P 25 (z6p.below z1c (c+1))) (hb:q2d P 26 (z3f.below z1c (c+1))):q2d P 13 (z1k.below z1c (c+1)):=by
  refine qk9 mixed (qdv (qhn z1q (qhn z3s (qhn zb2 (qhn (zbq zg3) qkn))))) (qel (qhm hl (qhm hb qkm))) (W:=zel) Go.Proofs.Tryd.func13 (by kernel_rfl) (show 1<=2 by decide) (show 2<=2 by decide) (λs=>by kernel_rfl) λ⟨⟨s,(i:Int)⟩,(d:Int)⟩=>(ze7 c s i d).mpr ?_
  rintro⟨hmu,⟨h1,h2,h3⟩,⟨d1,d2⟩,_⟩ _
  have hmu:lv d<c+1:=hmu
  simp only[sbS,Int.toNat_natCast,exists_const]
  obtain⟨i,rfl⟩:=Int.eq_ofNat_of_zero_le h1
  have rk:∀{q:Nat},q<=s.size->rdK s (q:Int):=λh=>⟨by omega,by omega,h3⟩
  have hl:=z1s (s:=s) (i:=i) (by omega)
  have hg:=z17 s i
  simp only[Int.toNat_natCast,z60,z0e,z2b]
  have J:=z5c s (lv d)
  have J:=congrFun J i
  unfold jN at J
  have ex:∀p:Pub,erP p->erP p:=λp h=>h
  have fin:∀{k n:Int} {t:ByteArray} {e:Int} {q:Nat} {Q:Pub->Prop},trP (jT s (lv d) i) s i (z09 k n t,e,(q:Int))->∃b:TrB,b.1.k=k/\b.1.n=n/\b.1.s=t/\b.1.y.1=noA/\b.1.y.2.1=0/\b.1.y.2.2=0/\b.1.x.1=noA/\b.1.x.2.1=0/\b.1.x.2.2=0/\b.2.1=e/\b.2.2=(q:Int)/\z0m ((s,(i:Int)),d) b/\∀p:Pub,Q p->b.1.ok p:=λh=>z77 (i:=i) (by rw[Int.toNat_natCast];exact h)
  have okL:∀{k n:Int} {t:ByteArray} {q:Nat},jT s (lv d) i= .ok (.mk k n t [] []) q->i<=q->q<=s.size->trP (jT s (lv d) i) s i (z09 k n t,0,(q:Int)):=λh h1 h2=> .inl (by rw[h];exact⟨rk h2,⟨rfl,by omega⟩,rfl,z1o _ _ _⟩)
  have erL:∀{k n:Int} {t:ByteArray} {q:Nat} {e:Int},jT s (lv d) i= .err 2->q<=s.size->e=2->trP (jT s (lv d) i) s i (z09 k n t,e,(q:Int)):=λh h1 h2=> .inl (by rw[h];exact z15 (rk h1) (by decide) h2)
  have up:∀(R:JR) (b:TrB),jT s (lv d) i=R->rsP R s (sk s i:Nat) b->z0m ((s,(i:Int)),d) b:=λR ⟨g,e,q⟩ h hr=>z9h (.inl (by
    rw[Int.toNat_natCast,h]
    refine⟨hr.1,?_⟩
    have h2:=hr.2
    cases R with
    |err k=>exact h2
    |ok x j'=>exact⟨⟨h2.1.1,by have:=h2.1.2;omega⟩,h2.2⟩))
  refine⟨rk (by omega),λc1=> ?_,λc1=>⟨λc2=> ?_,λc2=>⟨λc3=> ?_,λc3=> ?_⟩⟩⟩
  · have hq:=z14 (s:=s) (i:=i) (by omega)
    rw[if_pos (by omega)]at J
    refine⟨⟨hmu,rk hl,⟨d1,d2⟩,show((sk s i:Nat):Int)<s.size by omega⟩,?_⟩
    rintro b hb hp
    have hb:rsP (jLt s (jTo s (lv d)) (((sk s i:Nat):Int)).toNat) s (sk s i:Nat) b:=hb
    rw[Int.toNat_natCast]at hb
    exact⟨b,rfl,rfl,rfl,rfl,rfl,rfl,rfl,rfl,rfl,rfl,rfl,up _ b J hb,λp hp=>hp.2⟩
  · have hq:=z14 (s:=s) (i:=i) (by omega)
    rw[if_neg (by omega),if_pos (by omega)]at J
    refine⟨⟨hmu,rk hl,⟨d1,d2⟩,show((sk s i:Nat):Int)<s.size by omega⟩,?_⟩
    rintro b hb hp
    have hb:rsP (jTb s (jTo s (lv d)) (((sk s i:Nat):Int)).toNat) s (sk s i:Nat) b:=hb
    rw[Int.toNat_natCast]at hb
    exact⟨b,rfl,rfl,rfl,rfl,rfl,rfl,rfl,rfl,rfl,rfl,rfl,up _ b J hb,λp hp=>hp.2⟩
  · rw[if_neg (by omega),if_neg (by omega),if_pos (by omega)]at J
    have hp1:=z5z (s:=s) (i:=i) (by omega)
    refine⟨rk hl,fin ?_⟩
    by_cases hu:(uqS s i).1=0
    · rw[if_pos hu]at J
      rw[hu]
      exact okL J (by omega) hp1
    · rw[if_neg hu]at J
      rw[z61 hu]
      exact erL J hp1 rfl
  rw[if_neg (by omega),if_neg (by omega),if_neg (by omega)]at J
  have num:bat s (sk s i)=45\/z0h (bat s (sk s i))=true->sk s i<s.size->trP (jT s (lv d) i) s i (z09 3 ((nmR s (sk s i)).getD 0) (mkS []),((erO (nmR s (sk s i)):Nat):Int),((dg s (nmM s (sk s i)):Nat):Int)):=λhc hq=>by
    have N:=zgd hq hc
    rw[if_pos (show pk s i=45\/z0h (pk s i)=true from hc)]at J
    have hm:=z5h hq
    have hd:=z53 s (nmM s (sk s i))
    have hd2:=z6t hm.2.1
    cases hO:z7c s (sk s i)with
    | true=>
      obtain⟨n1,n2,n3⟩:=N.1 hO
      rw[if_pos hO,n2]at J
      rw[n1]
      exact okL J (by omega) hd2
    | false=>
      rw[if_neg (by rw[hO];decide)]at J
      cases hr:nmR s (sk s i)with
      |none=>exact erL J hd2 rfl
      | some v=>
        rcases N.2 hO with n1|n1
        · rw[hr]at n1;cases n1
        · exact .inr ⟨J,rk hd2,⟨rfl,by show(i:Int)<=((dg s (nmM s (sk s i)):Nat):Int);omega⟩,by rw[Int.toNat_natCast];exact n1⟩
  have z1:(mkS [110,117,108,108]).size=4:=rfl
  have z2:(mkS [116,114,117,101]).size=4:=rfl
  have z3:(mkS [102,97,108,115,101]).size=5:=rfl
  have lt:pk s i≠0->((sk s i:Nat):Int)<s.size:=λh=>by have:=z14 h;omega
  refine⟨λe=>⟨⟨rk hl,lt (by omega)⟩,fin (num (.inl (show pk s i=45 by omega)) (by have:=lt (by omega);omega))⟩,λe45=>⟨λe48=>⟨λe57=>⟨⟨rk hl,lt (by omega)⟩,fin (num (.inr (show z0h (pk s i)=true by unfold z0h;simp;omega)) (by have:=lt (by omega);omega))⟩,λe57=> ?_⟩,λe48=> ?_⟩⟩
  all_goals
    have no:¬(pk s i=45\/z0h (pk s i)=true):=λh=>by
      rcases h with h|h
      · omega
      · have:=z0i h;omega
    rw[if_neg no]at J
    refine⟨rk hl,λw1=> ?_,λw1=> ?_⟩
    · rw[if_pos (show wdF s (sk s i) z7z=true from w1)]at J
      have:=z81 w1
      rw[z33 w1,z1]
      exact fin (okL J (by omega) (by omega))
    rw[if_neg (show¬wdF s (sk s i) z7z=true by rw[show wdF s (sk s i) z7z=false from w1];decide)]at J
    rw[z64 w1]
    refine⟨rk hl,λw2=> ?_,λw2=> ?_⟩
    · rw[if_pos (show wdF s (sk s i) z80=true from w2)]at J
      have:=z81 w2
      rw[z33 w2,z2]
      exact fin (okL J (by omega) (by omega))
    rw[if_neg (show¬wdF s (sk s i) z80=true by rw[show wdF s (sk s i) z80=false from w2];decide)]at J
    rw[z64 w2]
    refine⟨rk hl,λw3=> ?_,λw3=> ?_⟩
    · rw[if_pos (show wdF s (sk s i) z3u=true from w3)]at J
      have:=z81 w3
      rw[z33 w3,z3]
      exact fin (okL J (by omega) (by omega))
    rw[if_neg (show¬wdF s (sk s i) z3u=true by rw[show wdF s (sk s i) z3u=false from w3];decide)]at J
    rw[z64 w3]
    exact fin (erL J hl rfl)
def z1a:∀c:Nat,q2d P 13 (z1k.below z1c c)
 |0=>CtR.below_zero (by decide) (by decide) (Sen.enters_of Go.Proofs.Tryd.func13 (by kernel_rfl)) λs=>rfl
 |c+1=>zbh c (zal c (z1a c)) (z7q c (z1a c))
def z7s:q2d P 13 z1k:=CtR.of_below z1a
def jP(s:ByteArray):JR:=match jT s 20 0 with
 | .err k=> .err k
 | .ok x j=>if sk s j<s.size then .err 2 else .ok x (sk s j)
def zak:PJ:= .mk 0 0 (mkS []) [] []
def paP(s:ByteArray):GJ×Int->Prop:=λ⟨g,e⟩=>match jP s with
 | .ok x _=>e=0/\g.pj=x
 | .err k=>e=k/\k≠0/\g.pj=zak
def z4w:CtR where
 σ:=ByteArray
 args:=λs=>[.sv (.string s)]
 h:=λ_=>[]
 m:=1
 pre:=λs=>s.size<=10000
 mem:=λ_=>erM
 find:=some λl _=>match l with
  | .sv (.string s)::_=>some s
  |_=>none
 β:=λ_=>GJ×Int
 post:=λs b=>paP s b
 pm:=λ_ ⟨g,e⟩=>gjM g
 r:=λ_ ⟨g,e⟩=> .tup [g.av, .sv (.int .i64 e)]
 h':=λ_ _=>[]
 m':=1
def zmf:Nat->Option Ct:=qg8 [(14,z2v)]
mutual
def PJ.sm:PJ->Prop
 | .mk k n s l nm=>l.length<1000000/\nm.length<1000000/\PJ.sms l
def PJ.sms:List PJ->Prop
 | []=>True
 |x::l=>PJ.sm x/\PJ.sms l
end
def zay:GJ×GJ->Nat:=λ⟨g,h⟩=>SizeOf.sizeOf g
def z2s:Ct:=ctS Unit (λ_=>[]) (λ_=>some ()) (λ_=>True) (λ_=>erM) λ_=> .sv (.bool true)
section
variable (x0:ByteArray) (x1:TrB) (x2:GJ×Int) (x3:Prop)
 abbrev zft:=GJ.k x2.1=0/\GJ.n x2.1=0/\GJ.s x2.1=mkS []/\(GJ.y x2.1).1=noA/\(GJ.y x2.1).2.1=0/\(GJ.y x2.1).2.2=0/\(GJ.x x2.1).1=noA/\(GJ.x x2.1).2.1=0/\(GJ.x x2.1).2.2=0/\x3
 def zfu:=paP x0 x2/\(∀i0,(True/\erP i0)/\GJ.ok x1.1 i0->GJ.ok x2.1 i0)/\True
 def zk7:=x0=x0/\x1.2.2=x1.2.2/\rdK x0 x1.2.2/\Ji ((↑(sk x0 (toNat x1.2.2)):Int)<(↑(size x0):Int)) (∃(i0:GJ×Int),zft i0 (i0.2=2/\zfu x0 x1 i0)) (∃(i2:GJ×Int),GJ.k i2.1=GJ.k x1.1/\GJ.n i2.1=GJ.n x1.1/\GJ.s i2.1=GJ.s x1.1/\(GJ.y i2.1).1=(GJ.y x1.1).1/\(GJ.y i2.1).2.1=(GJ.y x1.1).2.1/\(GJ.y i2.1).2.2=(GJ.y x1.1).2.2/\(GJ.x i2.1).1=(GJ.x x1.1).1/\(GJ.x i2.1).2.1=(GJ.x x1.1).2.1/\(GJ.x i2.1).2.2=(GJ.x x1.1).2.2/\i2.2=0/\zfu x0 x1 i2)
 def zk6:=((!decide (x1.2.1=0))=true->∃(i0:GJ×Int),zft i0 (i0.2=x1.2.1/\zfu x0 x1 i0))/\((!decide (x1.2.1=0))=false->zk7 x0 x1)
 def zk5:=(1:Int)=1/\x0=x0/\(0:Int)=0/\(rdK x0 0/\((1:Int)<=1/\(1:Int)<=21)/\True)/\(∀i0,True/\erP i0->erP i0)/\∀(i1:TrB),z0m ((x0,(0:Int)),(1:Int)) i1->(∃i2,(True/\erP i2)/\GJ.ok i1.1 i2)->zk6 x0 i1
 def zk4:=Ji (10000<(↑(size x0):Int)) (∃(i0:GJ×Int),zft i0 (i0.2=3/\paP x0 i0/\(∀i1,True/\erP i1->GJ.ok i0.1 i1)/\True)) (zk5 x0)
end
def z7e(s:ByteArray):qkz P (zmf) (qhc [(13,z1k)]) Go.Proofs.Tryd.f6 z4w (λ_=>{}) s=(size s<=10000->(∃(p:Pub),True/\erP p)->zk4 s):=by kernel_rfl
def zb5:=λs=>Eq.trans (z7e s) (by delta Ji Jt Jf zft zfu zk7 zk6 zk5 zk4;exact rfl)
section
variable {Q:Pub->Prop} {s:ByteArray}
def z2a{k:Nat} {e:Int} (h:jP s= .err k) (hk:k≠0) (he:e=k):∃b:GJ×Int,b.1.k=0/\b.1.n=0/\b.1.s=mkS []/\b.1.y.1=noA/\b.1.y.2.1=0/\b.1.y.2.2=0/\b.1.x.1=noA/\b.1.x.2.1=0/\b.1.x.2.2=0/\b.2=e/\paP s b/\∀p:Pub,Q p->b.1.ok p:=
 ⟨(z09 0 0 (mkS []),e),rfl,rfl,rfl,rfl,rfl,rfl,rfl,rfl,rfl,rfl,by unfold paP;rw[h];exact⟨he,hk,z1o _ _ _⟩,λp _=>z0b _ _ _ p⟩
def z7f{g:GJ} {j:Nat} (h:jP s= .ok g.pj j) (hq:∀p:Pub,Q p->g.ok p):∃b:GJ×Int,b.1.k=g.k/\b.1.n=g.n/\b.1.s=g.s/\b.1.y.1=g.y.1/\b.1.y.2.1=g.y.2.1/\b.1.y.2.2=g.y.2.2/\b.1.x.1=g.x.1/\b.1.x.2.1=g.x.2.1/\b.1.x.2.2=g.x.2.2/\b.2=0/\paP s b/\∀p:Pub,Q p->b.1.ok p:=
 ⟨(g,0),rfl,rfl,rfl,rfl,rfl,rfl,rfl,rfl,rfl,rfl,by unfold paP;rw[h];exact⟨rfl,rfl⟩,hq⟩
def z99{k:Nat} (h:jT s 20 0= .err k):jP s= .err k:=by unfold jP;rw[h]
def zdq{x:PJ} {j:Nat} (h:jT s 20 0= .ok x j):jP s=if sk s j<s.size then .err 2 else .ok x (sk s j):=by unfold jP;rw[h]
def zb6:q2d P 6 z4w:=by
 refine qk9 mixed (qdv (qhn z1q qkn)) (qel (qhm z7s qkm)) (W:=λ_=>{}) Go.Proofs.Tryd.func6 (by kernel_rfl) (show 1<=1 by decide) (show 1<=1 by decide) (λs=>by kernel_rfl) λ(s:ByteArray)=>(zb5 s).mpr ?_
 intro hz _
 simp only[sbS,Int.toNat_natCast,exists_const]
 refine⟨λh=>absurd h (by omega),λ_=>⟨⟨⟨by decide,by omega,hz⟩,by decide,by decide⟩,?_⟩⟩
 rintro⟨g,e,j⟩ hb ⟨p0,hp0⟩
 have hb:trP (jT s 20 0) s 0 (g,e,j):=hb
 obtain⟨hj,hcs⟩:=z19 hb
 have hj1:=hj.1
 have hj2:=hj.2.1
 refine⟨λhe=> ?_,λhe=>⟨hj,λh1=> ?_,λh1=> ?_⟩⟩
 ·rcases hcs with⟨k,a1,a2,a3⟩|⟨a1,a2,a3⟩|⟨a1,a2,a3⟩
  ·exact z2a (z99 a1) a3 a2
  ·exact absurd a2 he
  ·exact absurd a2 he
 ·refine z2a (k:=2) ?_ (by decide) rfl
  rcases hcs with⟨k,a1,a2,a3⟩|⟨a1,a2,a3⟩|⟨a1,a2,a3⟩
  ·exact absurd (show e=0 from he) (by omega)
  ·rw[zdq a1,if_pos (by have:((sk s j.toNat:Nat):Int)<s.size:=h1;omega)]
  ·exact z99 a1
 ·rcases hcs with⟨k,a1,a2,a3⟩|⟨a1,a2,a3⟩|⟨a1,a2,a3,a4,a5,a6⟩
  ·exact absurd (show e=0 from he) (by omega)
  ·exact z7f (g:=g) (j:=sk s j.toNat) (by rw[zdq a1,if_neg (by have:¬((sk s j.toNat:Nat):Int)<s.size:=h1;omega)]) λp hp=>hp.2
  ·exfalso
   have hb:trP (jT s 20 0) s 0 (g,e,j):=hb
   rcases hb with hb|⟨_,_,_,hx⟩
   ·rw[a1]at hb
    have:=hb.2.1
    have h2:e=0:=a2
    rw[h2]at this
    exact absurd this (by decide)
   ·have hx:isX (bat s j.toNat)=true:=hx
    have h3:=z98 hx
    have h4:=z59 hx
    have h5:=z14 (s:=s) (i:=j.toNat) (by omega)
    exact h1 (by show((sk s j.toNat:Nat):Int)<s.size;omega)
end
def z24{s:ByteArray} {i c:Nat} (h:bat s i=c) (hw:isW c=false):sk s i=i/\pk s i=c:=by
 have e:sk s i=i:=z7n (by rw[h];exact hw)
 exact⟨e,by unfold pk;rw[e];exact h⟩
def z9f:∀{l:List PJ},PJ.sms l->∀{i:Nat} (h:i<l.length),l[i].sm
 |x::l,e,0,h=>by unfold PJ.sms at e;exact e.1
 |x::l,e,i+1,h=>by unfold PJ.sms at e;exact z9f e.2 (by simpa using h)
def GJ.ok_eq(g:GJ) (p:Pub):g.ok p=(slP GJ.cells g.y g.l p/\slP txV g.x g.nm p/\GJ.oks g.l p):=by cases g;unfold GJ.ok;rfl
def z12:∀{l:List GJ} {p:Pub},GJ.oks l p->∀{i:Nat} (h:i<l.length),l[i].ok p
 |v::l,p,e,0,h=>by unfold GJ.oks at e;exact e.1
 |v::l,p,e,i+1,h=>by unfold GJ.oks at e;exact z12 e.2 (by simpa using h)
def zdr{f:Nat} {C:Ct} (h:q5b P f C) (s:C.σ) (vs:List Value) (ha:C.args s=vs.map .sv) (hh:C.h s=[]) (r:Value) (hr:C.r s= .sv r) (w:World) (hp:C.pre s) (hm:(C.mem s).ok (q13 (λ_ b=>b<w.heap.size) w)):
  Calls P f ⟨vs⟩ w λe w'=>e= .returned r/\Below w.heap.size w w':=by
 obtain⟨h1,h2,_,h4⟩:=h
 obtain⟨h0,h1',e1,e2,h5⟩:=h4 s
 rw[hh]at e1
 cases e1
 refine(h5 (λ_ b=>b<w.heap.size) (λi=>if i=0 then some (0,0,0)else none) w vs (by rw[ha];exact VRs.svs vs) ⟨λid o b t h=> ?_,λid id' o o' b t t' h=> ?_,λid o b t h=> ?_⟩ (λ_ h=>h) (λ_ h=>h) hp hm (λi hi=>if_neg (by omega)) (if_pos rfl)).mono λe w' he=> ?_
 ·rw[T.get_e]at h;cases h
 ·rw[T.get_e]at h;cases h
 ·rw[T.get_e]at h;cases h
 obtain⟨z,I',rfl,hz,hg,_⟩:=he
 rw[hr]at hz
 cases hz
 exact⟨rfl,⟨hg.same.1,hg.same.2,hg.same.3,hg.size,λk hk=>hg.fr k hk⟩⟩
def Two(w:World):Prop:=(∃t v e fr,w.heap[1]? =some (.cells #[.iface t v] e fr))/\∃t v e fr,w.heap[2]? =some (.cells #[.iface t v] e fr)
def zbi{w:World} (h:Two w):erM.ok (q13 (λ_ b=>b<w.heap.size) w):=by
 obtain⟨⟨t,v,e,fr,h1⟩,t',v',e',fr',h2⟩:=h
 exact⟨⟨t,v,e,fr,q04.2 ⟨(Array.getElem?_eq_some_iff.1 h1).1,h1⟩⟩,t',v',e',fr',q04.2 ⟨(Array.getElem?_eq_some_iff.1 h2).1,h2⟩⟩
def z4p(h:∀w,Two w->Calls P 5 #[] w λe w'=>e= .returned (.bool true)/\Below w.heap.size w w'):q5b P 5 z2s:=
 ql3 (Sen.enters_of Go.Proofs.Tryd.func5 (by kernel_rfl)) (λ_=> .bool true) (λs I=> .sv _) λs F w _ hm=>by
  obtain⟨⟨t,v,e,fr,h1⟩,t',v',e',fr',h2⟩:=(hm:erP (q13 F w))
  exact h w ⟨⟨t,v,e,fr,(q04.1 h1).2⟩,t',v',e',fr',(q04.1 h2).2⟩
inductive DJ where
 |leaf
 |arr (t:DJ)
 |tab (t:DJ)
def DJ.pj:DJ->PJ
 | .leaf=> .mk 3 0 (mkS []) [] []
 | .arr t=> .mk 5 0 (mkS []) [t.pj] []
 | .tab t=> .mk 6 0 (mkS []) [t.pj] [mkS [97]]
def DJ.dep:DJ->Nat
 | .leaf=>0
 | .arr t=>t.dep+1
 | .tab t=>t.dep+1
def cPl(σ:Type) (args:σ->List AV) (pre:σ->Prop) (mem:σ->PF) (r:σ->AV):Ct where
 σ:=σ
 args:=args
 h:=λ_=>[]
 m:=1
 pre:=pre
 mem:=mem
 r:=r
 h':=λ_=>[]
 m':=1
 g:=λ_=>none
def twM(x y:SV) (l:List ByteArray):PF:=⟨true,λp=>slP txV x l p/\slP txV y l p,λ_ _ h e=>⟨z08 h e.1,z08 h e.2⟩⟩
def z6o:Ct:=cPl (SV×SV×List ByteArray) (λ⟨x,y,l⟩=>[svA x,svA y]) (λ⟨x,y,l⟩=>l.length<1000000) (λ⟨x,y,l⟩=>twM x y l) λ_=> .sv (.bool true)
def zef:z6o.σ->WayF:=λ⟨x,y,l⟩=>{
 ann:=λ_ _ _=>some {σ:=Nat,pre:=λj=>j<=l.length,t:=λj=>[(13, .sv (.int .i64 (j:Int)))],h:=λ_=>[],more:=0,μ:=λj=>l.length- j,keep:=[0,1,4,11,12]}}
abbrev EjS:=SV×List GJ×SV×List GJ
def ejM(x:SV) (l:List GJ) (y:SV) (m:List GJ):PF:=⟨true,λp=>(slP GJ.cells x l p/\GJ.oks l p)/\slP GJ.cells y m p/\GJ.oks m p,λ_ _ h e=>⟨⟨z08 h e.1.1,GJ.oks_mono h e.1.2⟩,z08 h e.2.1,GJ.oks_mono h e.2.2⟩⟩
def z4v:Ct:=cPl EjS (λ⟨x,l,y,m⟩=>[svA x,svA y, .fn 10 []]) (λ⟨x,l,y,m⟩=>l.length<1000000/\l.map GJ.pj=m.map GJ.pj/\PJ.sms (l.map GJ.pj)) (λ⟨x,l,y,m⟩=>ejM x l y m) λ_=> .sv (.bool true)
def zee:EjS->WayF:=λ⟨x,l,y,m⟩=>{
 ann:=λ_ _ _=>some {σ:=Nat,pre:=λj=>j<=l.length,t:=λj=>[(17, .sv (.int .i64 (j:Int)))],h:=λ_=>[],more:=0,μ:=λj=>l.length- j,keep:=[0,1,2,6,15,16]}}
def z9a:EjS->Nat:=λ⟨x,l,y,m⟩=>SizeOf.sizeOf l
def z10:Ct:=cPl (GJ×GJ) (λ⟨g,h⟩=>[g.av,h.av]) (λ⟨g,h⟩=>g.pj=h.pj/\g.pj.sm) (λ⟨g,h⟩=>⟨true,λp=>g.ok p/\h.ok p,λ_ _ q e=>⟨GJ.ok_mono q e.1,GJ.ok_mono q e.2⟩⟩) λ_=> .sv (.bool true)
def z9x:Ct:=cPl SV (λx=>[svA x]) (λ_=>True) (λx=>⟨true,λp=>slP txV x [mkS [97]] p,λ_ _ h e=>z08 h e⟩) λ_=> .sv (.bool true)
def zei:SV->WayF:=λx=>{
 ann:=λ_ tt _=>match zdy tt 3 with
  |some mb=>some {σ:=Nat,pre:=λi=>i<=1,t:=λi=>[(9, .sv (.int .i64 (i:Int)))],h:=λi=>[(mb, .mrow (mpF 0 ([mkS [97]].take i)) i)],more:=0,μ:=λi=>1- i,keep:=[3,7,8]}
  |none=>none}
abbrev MpS:=SV×GJ×DJ×Int
def z6q:Ct:=cPl MpS (λ⟨x,g,t,d⟩=>[svA x, .sv (.int .i64 d)]) (λ⟨x,g,t,d⟩=>g.pj=t.pj/\1<=d/\d<=21) (λ⟨x,g,t,d⟩=>⟨true,λp=>slP GJ.cells x [g] p/\g.ok p,λ_ _ h e=>⟨z08 h e.1,GJ.ok_mono h e.2⟩⟩) λ⟨x,g,t,d⟩=> .sv (.bool (decide (t.dep+d<=20)))
def zej:MpS->WayF:=λ⟨x,g,t,d⟩=>{
 ann:=λ_ _ _=>some {σ:=Nat,pre:=λi=>i<=1/\(i=1->t.dep+d<=20),t:=λi=>[(11, .sv (.int .i64 (i:Int)))],h:=λ_=>[],more:=0,μ:=λi=>1- i,keep:=[0,1,9,10]}}
def z9b:MpS->Nat:=λ⟨x,g,t,d⟩=>t.dep
abbrev MyS:=GJ×DJ×Int
def z9w:Ct:=cPl MyS (λ⟨g,t,d⟩=>[g.av, .sv (.int .i64 d)]) (λ⟨g,t,d⟩=>g.pj=t.pj/\1<=d/\d<=21) (λ⟨g,t,d⟩=>gjM g) λ⟨g,t,d⟩=> .sv (.bool (decide (t.dep+d<=21)))
def zax:MyS->Nat:=λ⟨g,t,d⟩=>t.dep
def z9y:Ct:=cPl (GJ×DJ) (λ⟨g,t⟩=>[g.av]) (λ⟨g,t⟩=>g.pj=t.pj) (λ⟨g,t⟩=>gjM g) λ⟨g,t⟩=> .sv (.bool (decide (t.dep<=20)))
section
variable (x0 x1:SV) (x2:List ByteArray) (x3:Nat) (x4:Prop) (x5:Nat->Option Obj)
 abbrev z9p:=True/\slP txV x0 x2 x5/\slP txV x1 x2 x5
 abbrev z4c:=(↑x0.2.1:Int)
 def zcc:=x0.1=x0.1/\x0.2.1=x0.2.1/\x0.2.2=x0.2.2/\x4
 def zkc:=Jb ((↑x3:Int)+1)/\∃(i0:Nat),zcc x0 (zcc x1 (zcc x0 ((↑i0:Int)=(↑x3:Int)+1/\(z4c x0)=(z4c x0)/\(∀i1,z9p x0 x1 x2 i1->z9p x0 x1 x2 i1)/\i0<=length x2/\length x2- i0<length x2- x3/\True)))
 def zkb:=(0<=(↑x3:Int)/\(↑x3:Int)<(z4c x0))/\x0.1≠noA/\∃i0,(∀i1,z9p x0 x1 x2 i1->q3g i1 (adr x0.1 (toNat (↑x3:Int)*1)) [string i0])/\(0<=(↑x3:Int)/\(↑x3:Int)<(z4c x1))/\x1.1≠noA/\∃i2,(∀i3,z9p x0 x1 x2 i3->q3g i3 (adr x1.1 (toNat (↑x3:Int)*1)) [string i2])/\((!decide (i0=i2))=true->true=false/\True)/\((!decide (i0=i2))=false->zkc x0 x1 x2 x3)
 def zka:=Ji ((↑x3:Int)<(z4c x0)) (zkb x0 x1 x2 x3) (true=true/\True)
 def zk9:=(∃(i0:Nat),zcc x0 (zcc x1 (zcc x0 ((↑i0:Int)=0/\(z4c x0)=(z4c x0)/\(∀i1,z9p x0 x1 x2 i1->z9p x0 x1 x2 i1)/\i0<=length x2/\True))))/\∀(i2:Nat),i2<=length x2->zka x0 x1 x2 i2
 def zk8:=((!decide ((z4c x0)=(z4c x1)))=true->true=false/\True)/\((!decide ((z4c x0)=(z4c x1)))=false->zk9 x0 x1 x2)
end
def z6y(x y:SV) (l:List ByteArray):qky P (λ_=>none) Go.Proofs.Tryd.f20 z6o (zef) ⟨x,y,l⟩=(length l<1000000->(∃(p:Pub),z9p x y l p)->zk8 x y l):=by kernel_rfl
def za7:=λx y l=>Eq.trans (z6y x y l) (by delta Ji Jb Jt Jf z9p z4c zcc zkc zkb zka zk9 zk8;exact rfl)
section
variable (x0 x1:SV) (x2 x3:List GJ) (x4 x5:Nat) (x6:Prop) (x7:Nat->Option Obj)
 abbrev z8m:=True/\(slP GJ.cells x0 x2 x7/\GJ.oks x2 x7)/\slP GJ.cells x1 x3 x7/\GJ.oks x3 x7
 abbrev z4d:=(↑x0.2.1:Int)
 def zcd:=x0.1=x0.1/\x0.2.1=x0.2.1/\x0.2.2=x0.2.2/\x6
 def zkh:=Jb ((↑x4:Int)+1)/\∃(i0:Nat),zcd x0 (zcd x1 (zcd x0 ((↑i0:Int)=(↑x4:Int)+1/\(z4d x0)=(z4d x0)/\(∀i1,z8m x0 x1 x2 x3 i1->z8m x0 x1 x2 x3 i1)/\i0<=length x2/\length x2- i0<length x2- x4/\True)))
 def zkg:=(0<=(↑x4:Int)/\(↑x4:Int)<(z4d x0))/\x0.1≠noA/\∃(i0:Int),∃(i1:Int),∃i2,∃i3,∃(i4:Nat),∃(i5:Nat),∃i6,∃(i7:Nat),∃(i8:Nat),(∀i9,z8m x0 x1 x2 x3 i9->q3g i9 (adr x0.1 (toNat (↑x4:Int)*5)) [int i64 i0,int i64 i1,string i2,slice i3 i4 i5,slice i6 i7 i8])/\(0<=(↑x4:Int)/\(↑x4:Int)<(z4d x1))/\x1.1≠noA/\∃(i10:Int),∃(i11:Int),∃i12,∃i13,∃(i14:Nat),∃(i15:Nat),∃i16,∃(i17:Nat),∃(i18:Nat),(∀i19,z8m x0 x1 x2 x3 i19->q3g i19 (adr x1.1 (toNat (↑x4:Int)*5)) [int i64 i10,int i64 i11,string i12,slice i13 i14 i15,slice i16 i17 i18])/\∃(i20:GJ×GJ),GJ.k i20.1=i0/\GJ.n i20.1=i1/\GJ.s i20.1=i2/\(GJ.y i20.1).1=i3/\(GJ.y i20.1).2.1=i4/\(GJ.y i20.1).2.2=i5/\(GJ.x i20.1).1=i6/\(GJ.x i20.1).2.1=i7/\(GJ.x i20.1).2.2=i8/\GJ.k i20.2=i10/\GJ.n i20.2=i11/\GJ.s i20.2=i12/\(GJ.y i20.2).1=i13/\(GJ.y i20.2).2.1=i14/\(GJ.y i20.2).2.2=i15/\(GJ.x i20.2).1=i16/\(GJ.x i20.2).2.1=i17/\(GJ.x i20.2).2.2=i18/\(zay i20<x5/\GJ.pj i20.1=GJ.pj i20.2/\PJ.sm (GJ.pj i20.1))/\(∀i21,z8m x0 x1 x2 x3 i21->GJ.ok i20.1 i21/\GJ.ok i20.2 i21)/\((!true)=true->true=false/\True)/\((!true)=false->zkh x0 x1 x2 x3 x4)
 def zkf:=Ji ((↑x4:Int)<(z4d x0)) (zkg x0 x1 x2 x3 x4 x5) (true=true/\True)
 def zke:=(∃(i0:Nat),zcd x0 (zcd x1 (zcd x0 ((↑i0:Int)=0/\(z4d x0)=(z4d x0)/\(∀i1,z8m x0 x1 x2 x3 i1->z8m x0 x1 x2 x3 i1)/\i0<=length x2/\True))))/\∀(i2:Nat),i2<=length x2->zkf x0 x1 x2 x3 i2 x4
 def zkd:=((!decide ((z4d x0)=(z4d x1)))=true->true=false/\True)/\((!decide ((z4d x0)=(z4d x1)))=false->zke x0 x1 x2 x3 x4)
end
def z6x(n:Nat) (x:SV) (l:List GJ) (y:SV) (m:List GJ):qky P (qg8 [(10,z10.below zay n)]) Go.Proofs.Tryd.f19 (z4v.below z9a (n+1)) (zee) ⟨x,l,y,m⟩=(z9a (x,l,y,m)<n+1/\length l<1000000/\List.map GJ.pj l=List.map GJ.pj m/\PJ.sms (List.map GJ.pj l)->(∃(p:Pub),z8m x y l m p)->zkd x y l m n):=by kernel_rfl
def za5:=λn x l y m=>Eq.trans (z6x n x l y m) (by delta Ji Jb Jt Jf z8m z4d zcd zkh zkg zkf zke zkd;exact rfl)
section
variable (x0 x1:GJ) (x2:Nat) (x3:Int) (x4:EjS) (x5:Nat->Option Obj)
 abbrev zkm:=(slP GJ.cells x4.1 x4.2.1 x5/\GJ.oks x4.2.1 x5)/\slP GJ.cells x4.2.2.1 x4.2.2.2 x5/\GJ.oks x4.2.2.2 x5
 def zgy:=∃(i0:EjS),i0.1.1=(GJ.y x0).1/\i0.1.2.1=(GJ.y x0).2.1/\i0.1.2.2=(GJ.y x0).2.2/\i0.2.2.1.1=(GJ.y x1).1/\i0.2.2.1.2.1=(GJ.y x1).2.1/\i0.2.2.1.2.2=(GJ.y x1).2.2/\(z9a i0<x2/\length i0.2.1<1000000/\List.map GJ.pj i0.2.1=List.map GJ.pj i0.2.2.2/\PJ.sms (List.map GJ.pj i0.2.1))/\(∀i1,True/\GJ.ok x0 i1/\GJ.ok x1 i1->zkm i0 i1)/\true=true/\True
 def zkk:=Ji (GJ.k x0=6) (∃(i0:(Option Addr×Nat×Nat)×(Option Addr×Nat×Nat)×List ByteArray),i0.1.1=(GJ.x x0).1/\i0.1.2.1=(GJ.x x0).2.1/\i0.1.2.2=(GJ.x x0).2.2/\i0.2.1.1=(GJ.x x1).1/\i0.2.1.2.1=(GJ.x x1).2.1/\i0.2.1.2.2=(GJ.x x1).2.2/\length i0.2.2<1000000/\(∀i1,True/\GJ.ok x0 i1/\GJ.ok x1 i1->slP txV i0.1 i0.2.2 i1/\slP txV i0.2.1 i0.2.2 i1)/\(true=true->zgy x0 x1 x2)/\(true=false->true=false/\True)) (true=true/\True)
 def zkj:=Ji (GJ.k x0=5) (zgy x0 x1 x2) (zkk x0 x1 x2)
 def zki:=Ji (GJ.k x0=4) (true=decide (GJ.s x0=GJ.s x1)/\True) (zkj x0 x1 x2)
 def zgx:=Ji (GJ.k x0=x3) (true=decide (GJ.n x0=GJ.n x1)/\True) (zki x0 x1 x2)
 def zkn:=Ji (GJ.k x0=2) (zgx x0 x1 x2 2) (zgx x0 x1 x2 3)
 def zkl:=((!decide (GJ.k x0=GJ.k x1))=true->true=false/\True)/\((!decide (GJ.k x0=GJ.k x1))=false->zkn x0 x1 x2)
end
def z5o(n:Nat) (g h:GJ):qky P (qg8 [(20,z6o),(19,z4v.below z9a n)]) Go.Proofs.Tryd.f10 (z10.below zay (n+1)) (λ_=>{}) ⟨g,h⟩=(zay (g,h)<n+1/\GJ.pj g=GJ.pj h/\PJ.sm (GJ.pj g)->(∃(p:Pub),True/\GJ.ok g p/\GJ.ok h p)->zkl g h n):=by kernel_rfl
def z7l:=λn g h=>Eq.trans (z5o n g h) (by delta Ji Jt Jf zkm zgy zkk zkj zki zgx zkn zkl;exact rfl)
section
variable (x0:SV) (x1:Nat) (x2:ByteArray) (x3:Prop) (x4:Nat->Option Obj) (x5:Int)
 abbrev zcf:=True/\slP txV x0 [mkS [97]] x4
 def zgz:=x0.1=x0.1/\x0.2.1=x0.2.1/\x0.2.2=x0.2.2/\x3
 abbrev zcg:=(↑x0.2.1:Int)
 abbrev zch:=take x1 [mkS [97]]
 def zfv:=kOK TypeDesc.string (string x2)/\(∀(i0:MapEntry),i0∈mpF 0 (zch x1)->kOK TypeDesc.string (MapEntry.key i0))/\x3
 def zce:=ql7 (string x2) (mpF 0 (zch x1)) (int i64 0)=int i64 x5
 def zks:=zfv x1 x2 (∃(i1:Int),zce x1 x2 i1/\Jb (i1+1)/\zfv x1 x2 (Jb ((↑x1:Int)+1)/\∃(i3:Nat),zgz x0 ((↑i3:Int)=(↑x1:Int)+1/\(zcg x0)=(zcg x0)/\mpF 0 (zch i3)=qis (string x2) (int i64 (i1+1)) (mpF 0 (zch x1)) x1/\i3=qir (string x2) (mpF 0 (zch x1)) x1/\(∀i4,zcf x0 i4->zcf x0 i4)/\i3<=1/\(1:Nat)- i3<1- x1/\True)))
 def zkr:=x2=x2/\size x2<9223372036854775808/\((!vld x2)=true->true=false/\True)/\((!vld x2)=false->zks x0 x1 x2)
 def zkq:=(0<=(↑x1:Int)/\(↑x1:Int)<(zcg x0))/\x0.1≠noA/\∃i0,(∀i1,zcf x0 i1->q3g i1 (adr x0.1 (toNat (↑x1:Int)*1)) [string i0])/\zfv x1 i0 (∃(i3:Int),zce x1 i0 i3/\Ji (0<i3) (true=false/\True) (zkr x0 x1 i0))
 def zkp:=Ji ((↑x1:Int)<(zcg x0)) (zkq x0 x1) (true=true/\True)
 def zko:=(∃(i0:Nat),zgz x0 ((↑i0:Int)=0/\(zcg x0)=(zcg x0)/\mpF 0 (zch i0)=[]/\i0=nat_lit 0/\(∀i1,zcf x0 i1->zcf x0 i1)/\i0<=1/\True))/\∀(i2:Nat),i2<=1->zkp x0 i2
end
def z79(x:SV):qky P (qg8 [(35,z1f)]) Go.Proofs.Tryd.f37 z9x (zei) x=(True->(∃(p:Pub),zcf x p)->zko x):=by kernel_rfl
def zao:=λx=>Eq.trans (z79 x) (by delta Ji Jb Jt Jf zcf zgz zcg zch zfv zce zks zkr zkq zkp zko;exact rfl)
section
variable (x0:Int) (x1:DJ) (x2:SV) (x3:GJ) (x4 x5:Nat) (x6:Prop) (x7:Nat->Option Obj)
 abbrev zdh:=True/\slP GJ.cells x2 [x3] x7/\GJ.ok x3 x7
 def zh1:=Jf ((↑(DJ.dep x1):Int)+x0<=20)/\True
 def zfw:=x2.1=x2.1/\x2.2.1=x2.2.1/\x2.2.2=x2.2.2/\x6
 abbrev zf9:=(↑x2.2.1:Int)
 def zh0:=zfw x2 ((zf9 x2)=(zf9 x2)/\(∀i0,zdh x2 x3 i0->zdh x2 x3 i0)/\(x4<=1/\(x4=1->(↑(DJ.dep x1):Int)+x0<=20))/\x6)
 def zkx:=Jb ((↑x4:Int)+1)/\∃(i0:Nat),zfw x2 (x0=x0/\(↑i0:Int)=(↑x4:Int)+1/\zh0 x0 x1 x2 x3 i0 ((1:Nat)- i0<1- x4/\True))
 def zkw:=(0<=(↑x4:Int)/\(↑x4:Int)<(zf9 x2))/\x2.1≠noA/\∃(i0:Int),∃(i1:Int),∃i2,∃i3,∃(i4:Nat),∃(i5:Nat),∃i6,∃(i7:Nat),∃(i8:Nat),(∀i9,zdh x2 x3 i9->q3g i9 (adr x2.1 (toNat (↑x4:Int)*5)) [int i64 i0,int i64 i1,string i2,slice i3 i4 i5,slice i6 i7 i8])/\Jb (x0+1)/\∃(i10:MyS),GJ.k i10.1=i0/\GJ.n i10.1=i1/\GJ.s i10.1=i2/\(GJ.y i10.1).1=i3/\(GJ.y i10.1).2.1=i4/\(GJ.y i10.1).2.2=i5/\(GJ.x i10.1).1=i6/\(GJ.x i10.1).2.1=i7/\(GJ.x i10.1).2.2=i8/\i10.2.2=x0+1/\(zax i10<x5+1/\GJ.pj i10.1=DJ.pj i10.2.1/\1<=i10.2.2/\i10.2.2<=21)/\(∀i11,zdh x2 x3 i11->GJ.ok i10.1 i11)/\((!decide ((↑(DJ.dep i10.2.1):Int)+i10.2.2<=21))=true->zh1 x0 x1)/\((!decide ((↑(DJ.dep i10.2.1):Int)+i10.2.2<=21))=false->zkx x0 x1 x2 x3 x4)
 def zkv:=Ji ((↑x4:Int)<(zf9 x2)) (zkw x0 x1 x2 x3 x4 x5) (Jt ((↑(DJ.dep x1):Int)+x0<=20)/\True)
 def zku:=(∃(i0:Nat),zfw x2 (x0=x0/\(↑i0:Int)=0/\zh0 x0 x1 x2 x3 i0 True))/\∀(i2:Nat),i2<=1/\(i2=1->(↑(DJ.dep x1):Int)+x0<=20)->zkv x0 x1 x2 x3 i2 x4
 def zkt:=Ji (20<x0) (zh1 x0 x1) (zku x0 x1 x2 x3 x4)
end
def z7a(n:Nat) (x:SV) (g:GJ) (t:DJ) (d:Int):qky P (qg8 [(18,z9w.below zax (n+1))]) Go.Proofs.Tryd.f36 (z6q.below z9b (n+1)) (zej) ⟨x,g,t,d⟩=(z9b (x,g,t,d)<n+1/\GJ.pj g=DJ.pj t/\1<=d/\d<=21->(∃(p:Pub),zdh x g p)->zkt d t x g n):=by kernel_rfl
def zaq:=λn x g t d=>Eq.trans (z7a n x g t d) (by delta Ji Jb Jt Jf zdh zh1 zfw zf9 zh0 zkx zkw zkv zku zkt;exact rfl)
section
variable (x0:GJ) (x1:DJ) (x2:Int) (x3:Nat) (x4:Int)
 abbrev z4b:=(↑(DJ.dep x1):Int)+x2<=21
 def zh4:=Jt (z4b x1 x2)/\True
 def zl3:=Ji (GJ.n x0=0) (zh4 x1 x2) (decide (z4b x1 x2)=decide (GJ.n x0=1)/\True)
 def zfa:=GJ.s x0=GJ.s x0/\size (GJ.s x0)<9223372036854775808/\decide (z4b x1 x2)=vld (GJ.s x0)/\True
 def zh3:=∃(i0:MpS),i0.1.1=(GJ.y x0).1/\i0.1.2.1=(GJ.y x0).2.1/\i0.1.2.2=(GJ.y x0).2.2/\i0.2.2.2=x2/\(z9b i0<x3/\GJ.pj i0.2.1=DJ.pj i0.2.2.1/\1<=i0.2.2.2/\i0.2.2.2<=21)/\(∀i1,True/\GJ.ok x0 i1->slP GJ.cells i0.1 [i0.2.1] i1/\GJ.ok i0.2.1 i1)/\decide (z4b x1 x2)=decide ((↑(DJ.dep i0.2.2.1):Int)+i0.2.2.2<=20)/\True
 abbrev zfc:=(↑(GJ.x x0).2.1:Int)=(↑(GJ.y x0).2.1:Int)
 def zfx:=Jf (z4b x1 x2)/\True
 def zl2:=Ji (zfc x0) (∃(i0:Option Addr×Nat×Nat),i0.1=(GJ.x x0).1/\i0.2.1=(GJ.x x0).2.1/\i0.2.2=(GJ.x x0).2.2/\True/\(∀i1,True/\GJ.ok x0 i1->slP txV i0 [mkS [97]] i1)/\(true=true->zh3 x0 x1 x2 x3)/\(true=false->zfx x1 x2)) (zfx x1 x2)
 def zl1:=Ji (GJ.k x0=6) (zl2 x0 x1 x2 x3) (zfx x1 x2)
 def zl0:=Ji (GJ.k x0=5) (zh3 x0 x1 x2 x3) (zl1 x0 x1 x2 x3)
 def zkz:=Ji (GJ.k x0=4) (zfa x0 x1 x2) (zl0 x0 x1 x2 x3)
 def zky:=Ji (GJ.k x0=2) (zl3 x0 x1 x2) (zkz x0 x1 x2 x3)
 def zh2:=Ji (GJ.k x0=x4) (zh4 x1 x2) (zky x0 x1 x2 x3)
 def zfb:=Ji (GJ.k x0=1) (zh2 x0 x1 x2 x3 1) (zh2 x0 x1 x2 x3 3)
end
def zau(n:Nat) (g:GJ) (t:DJ) (d:Int):qky P (qg8 [(35,z1f),(37,z9x),(36,z6q.below z9b n)]) Go.Proofs.Tryd.f18 (z9w.below zax (n+1)) (λ_=>{}) ⟨g,t,d⟩=(zax (g,t,d)<n+1/\GJ.pj g=DJ.pj t/\1<=d/\d<=21->(∃(p:Pub),True/\GJ.ok g p)->zfb g t d n):=by kernel_rfl
def zdw:=λn g t d=>Eq.trans (zau n g t d) (by delta Ji Jt Jf z4b zh4 zl3 zfa zh3 zfc zfx zl2 zl1 zl0 zkz zky zh2 zfb;exact rfl)
def za8:q5b P 20 z6o:=by
 refine ql1 mixed (λg C h=>by cases h) (W:=zef) Go.Proofs.Tryd.func20 (by kernel_rfl) (show 1<=1 by decide) (show 1<=1 by decide) (λs=>by kernel_rfl) λ⟨(x:SV),(y:SV),l⟩=>(za7 x y l).mpr ?_
 rintro hl ⟨p,_,hx,hy⟩
 have hl:l.length<1000000:=hl
 have hxl:x.2.1=l.length:=hx.1
 have hyl:y.2.1=l.length:=hy.1
 simp only[sbS,Int.toNat_natCast,exists_const]
 refine⟨λh=>absurd (by omega) h,λ_=>⟨⟨0,rfl,Nat.zero_le _⟩,λi hi hlt=> ?_⟩⟩
 have hi1:i<l.length:=by omega
 exact⟨⟨by omega,by omega⟩,(z02 z0f (by decide) hx hi1).1,l[i],λq hq=>(z02 z0f (by decide) hq.1 hi1).2,⟨by omega,by omega⟩,(z02 z0f (by decide) hy hi1).1,l[i],λq hq=>(z02 z0f (by decide) hq.2 hi1).2,λe=>absurd rfl e,λ_=>⟨⟨by omega,by omega⟩,i+1,by omega,by omega,by omega⟩⟩
def za6(n:Nat) (hs:q5b P 10 (z10.below zay n)):q5b P 19 (z4v.below z9a (n+1)):=by
 refine ql1 mixed (qdv (qhn hs qkn)) (W:=zee) Go.Proofs.Tryd.func19 (by kernel_rfl) (show 1<=1 by decide) (show 1<=1 by decide) (λs=>by kernel_rfl) λ⟨(x:SV),l,(y:SV),m⟩=>(za5 n x l y m).mpr ?_
 rintro⟨hmu,hl,hm,hsm⟩ ⟨p,_,⟨hx,hxs⟩,hy,hys⟩
 have hmu:SizeOf.sizeOf l<n+1:=hmu
 have hll:l.length=m.length:=by have:=congrArg List.length hm;simpa using this
 have hxl:x.2.1=l.length:=hx.1
 have hyl:y.2.1=m.length:=hy.1
 simp only[sbS,Int.toNat_natCast,exists_const]
 refine⟨λh=>absurd (by omega) h,λ_=>⟨⟨0,rfl,Nat.zero_le _⟩,λi hi hlt=> ?_⟩⟩
 have hi1:i<l.length:=by omega
 have hi2:i<m.length:=by omega
 have ep:l[i].pj=m[i].pj:=by
  have:=congrArg (λl:List PJ=>l[i]?) hm
  simpa[hi1,hi2]using this
 have es:l[i].pj.sm:=by
  have:=z9f hsm (i:=i) (by rw[List.length_map];exact hi1)
  simpa using this
 have hz:=List.sizeOf_lt_of_mem (List.getElem_mem hi1)
 exact⟨⟨by omega,by omega⟩,(z02 z04 (by decide) hx hi1).1,l[i].k,l[i].n,l[i].s,l[i].y.1,l[i].y.2.1,l[i].y.2.2,l[i].x.1,l[i].x.2.1,l[i].x.2.2,λq hq=>(z02 z04 (by decide) hq.1.1 hi1).2,⟨by omega,by omega⟩,(z02 z04 (by decide) hy hi2).1,m[i].k,m[i].n,m[i].s,m[i].y.1,m[i].y.2.1,m[i].y.2.2,m[i].x.1,m[i].x.2.1,m[i].x.2.2,λq hq=>(z02 z04 (by decide) hq.2.1 hi2).2,(l[i],m[i]),rfl,rfl,rfl,rfl,rfl,rfl,rfl,rfl,rfl,rfl,rfl,rfl,rfl,rfl,rfl,rfl,rfl,rfl,⟨show SizeOf.sizeOf l[i]<n by omega,ep,es⟩,λq hq=>⟨z12 hq.1.2 hi1,z12 hq.2.2 hi2⟩,λ_=>⟨⟨by omega,by omega⟩,i+1,by omega,by omega,by omega⟩⟩
def z41(n:Nat) (hf:q5b P 19 (z4v.below z9a n)):q5b P 10 (z10.below zay (n+1)):=by
 refine ql1 mixed (qdv (qhn za8 (qhn hf qkn))) (W:=λ_=>{}) Go.Proofs.Tryd.func10 (by kernel_rfl) (show 1<=1 by decide) (show 1<=1 by decide) (λs=>by kernel_rfl) λ(⟨g,h⟩:GJ×GJ)=>(z7l n g h).mpr ?_
 rintro⟨hmu,hpj,hsm⟩ ⟨p,_,hg,hh⟩
 have hmu:SizeOf.sizeOf g<n+1:=hmu
 rw[GJ.pj_eq g,GJ.pj_eq h]at hpj
 rw[GJ.pj_eq g]at hsm
 injection hpj with hk hn hs hl hm
 unfold PJ.sm at hsm
 simp only[sbS,Int.toNat_natCast,exists_const]
 have hll:g.l.length<1000000:=by have:=hsm.1;rwa [List.length_map]at this
 have hG:∀q:Pub,g.ok q/\h.ok q->(slP GJ.cells g.y g.l q/\slP txV g.x g.nm q/\GJ.oks g.l q)/\(slP GJ.cells h.y h.l q/\slP txV h.x h.nm q/\GJ.oks h.l q):=λq e=>⟨by rw[←GJ.ok_eq];exact e.1,by rw[←GJ.ok_eq];exact e.2⟩
 have hz:SizeOf.sizeOf g.l<n:=by
  obtain⟨k,nn,s,y,l,x,nm⟩:=g
  have:1+SizeOf.sizeOf l<=SizeOf.sizeOf (GJ.mk k nn s y l x nm):=by simp;omega
  show SizeOf.sizeOf l<n
  omega
 have F:∃s:EjS,s.1.1=g.y.1/\s.1.2.1=g.y.2.1/\s.1.2.2=g.y.2.2/\s.2.2.1.1=h.y.1/\s.2.2.1.2.1=h.y.2.1/\s.2.2.1.2.2=h.y.2.2/\(z9a s<n/\s.2.1.length<1000000/\List.map GJ.pj s.2.1=List.map GJ.pj s.2.2.2/\PJ.sms (List.map GJ.pj s.2.1))/\∀p:Pub,g.ok p/\h.ok p->(slP GJ.cells s.1 s.2.1 p/\GJ.oks s.2.1 p)/\slP GJ.cells s.2.2.1 s.2.2.2 p/\GJ.oks s.2.2.2 p:=
  ⟨(g.y,g.l,h.y,h.l),rfl,rfl,rfl,rfl,rfl,rfl,⟨hz,hll,hl,hsm.2.2⟩,λq hq=>⟨⟨(hG q hq).1.1,(hG q hq).1.2.2⟩,(hG q hq).2.1,(hG q hq).2.2.2⟩⟩
 have T:∀q:Pub,g.ok q/\h.ok q->slP txV g.x g.nm q/\slP txV h.x g.nm q:=λq hq=>⟨(hG q hq).1.2.1,by rw[hm];exact(hG q hq).2.2.1⟩
 exact⟨λe=>absurd hk e,λ_=>⟨λ_=>⟨λ_=>(decide_eq_true hn).symm,λ_=>⟨λ_=>(decide_eq_true hs).symm,λ_=>⟨λ_=>F,λ_ _=>⟨(g.x,h.x,g.nm),rfl,rfl,rfl,rfl,rfl,rfl,hsm.2.1,T,λ_=>F⟩⟩⟩⟩,λ_=>⟨λ_=>(decide_eq_true hn).symm,λ_=>⟨λ_=>(decide_eq_true hs).symm,λ_=>⟨λ_=>F,λ_ _=>⟨(g.x,h.x,g.nm),rfl,rfl,rfl,rfl,rfl,rfl,hsm.2.1,T,λ_=>F⟩⟩⟩⟩⟩⟩
def zap:q5b P 37 z9x:=by
 refine ql1 mixed (qdv (qhn z1w qkn)) (W:=zei) Go.Proofs.Tryd.func37 (by kernel_rfl) (show 1<=1 by decide) (show 1<=1 by decide) (λs=>by kernel_rfl) λ(x:SV)=>(zao x).mpr ?_
 rintro _ ⟨p,_,hx⟩
 have hxl:x.2.1=1:=hx.1
 simp only[sbS,Int.toNat_natCast,exists_const]
 have hv:vld (mkS [97])=true:=by decide+kernel
 refine⟨⟨0,rfl,rfl,rfl,Nat.zero_le _⟩,λi hi hlt=> ?_⟩
 obtain rfl:i=0:=by omega
 exact⟨⟨by omega,by omega⟩,(z02 z0f (by decide) hx (i:=0) (by decide)).1,mkS [97],λq hq=>(z02 z0f (by decide) hq (i:=0) (by decide)).2,trivial,λe he=>(by cases he),0,rfl,λh=>absurd h (by decide),λ_=>⟨by decide,λh=>absurd (hv.symm.trans h) (by decide),λ_=>⟨trivial,λe he=>(by cases he),0,rfl,⟨by decide,by decide⟩,trivial,λe he=>(by cases he),⟨by omega,by omega⟩,1,by omega,rfl,rfl,by decide,by decide⟩⟩⟩
def zar(n:Nat) (hm:q5b P 18 (z9w.below zax (n+1))):q5b P 36 (z6q.below z9b (n+1)):=by
 refine ql1 mixed (qdv (qhn hm qkn)) (W:=zej) Go.Proofs.Tryd.func36 (by kernel_rfl) (show 1<=1 by decide) (show 1<=1 by decide) (λs=>by kernel_rfl) λ⟨(x:SV),g,t,(d:Int)⟩=>(zaq n x g t d).mpr ?_
 rintro⟨hmu,hpj,hd1,hd2⟩ ⟨p,_,hx,hg⟩
 have hmu:t.dep<n+1:=hmu
 have hxl:x.2.1=1:=hx.1
 simp only[sbS,Int.toNat_natCast,exists_const]
 refine⟨λh=>by omega,λh=>⟨⟨0,rfl,by omega,λh=>by omega⟩,λi hi=>⟨λhlt=> ?_,λhge=>hi.2 (by omega)⟩⟩⟩
 obtain rfl:i=0:=by omega
 exact⟨⟨by omega,by omega⟩,(z02 z04 (by decide) hx (i:=0) Nat.zero_lt_one).1,g.k,g.n,g.s,g.y.1,g.y.2.1,g.y.2.2,g.x.1,g.x.2.1,g.x.2.2,λq hq=>(z02 z04 (by decide) hq.1 (i:=0) Nat.zero_lt_one).2,⟨by omega,by omega⟩,(g,t,d+1),rfl,rfl,rfl,rfl,rfl,rfl,rfl,rfl,rfl,rfl,⟨hmu,hpj,show 1<=d+1 by omega,show d+1<=21 by omega⟩,λq hq=>hq.2,λh=>by have h:¬(t.dep:Int)+(d+1)<=21:=h;omega,λh=>⟨⟨by omega,by omega⟩,1,by omega,⟨by omega,λ_=>by have h:(t.dep:Int)+(d+1)<=21:=h;omega⟩,by omega⟩⟩
def z3n(n:Nat) (hp:q5b P 36 (z6q.below z9b n)):q5b P 18 (z9w.below zax (n+1)):=by
  refine ql1 mixed (qdv (qhn z1w (qhn zap (qhn hp qkn)))) (W:=λ_=>{}) Go.Proofs.Tryd.func18 (by kernel_rfl) (show 1<=1 by decide) (show 1<=1 by decide) (λs=>by kernel_rfl) λ⟨g,t,(d:Int)⟩=>(zdw n g t d).mpr ?_
  rintro⟨hmu,hpj,hd1,hd2⟩ ⟨p,_,hg⟩
  have hmu:t.dep<n+1:=hmu
  simp only[sbS,Int.toNat_natCast,exists_const]
  rw[GJ.pj_eq g]at hpj
  have hG:∀q:Pub,g.ok q->slP GJ.cells g.y g.l q/\slP txV g.x g.nm q/\GJ.oks g.l q:=λq e=>by rw[←GJ.ok_eq];exact e
  cases t with
  | leaf=>
    injection hpj with hk hn hs hl hm
    have e0:((DJ.leaf).dep:Int)=0:=rfl
    exact⟨λh=>absurd h (by omega),λ_=>⟨λ_=>by omega,λh=>absurd hk h⟩⟩
  | arr t=>
    injection hpj with hk hn hs hl hm
    obtain⟨c,hc,hcp⟩:∃c,g.l=[c]/\c.pj=t.pj:=by
      cases hg:g.l with
      |nil=>rw[hg]at hl;cases hl
      | cons c r=>
        rw[hg,List.map_cons]at hl
        injection hl with h1 h2
        exact⟨c,by rw[List.map_eq_nil_iff.1 h2],h1⟩
    have e0:((DJ.arr t).dep:Int)=t.dep+1:=rfl
    have F:∃s:MpS,s.1.1=g.y.1/\s.1.2.1=g.y.2.1/\s.1.2.2=g.y.2.2/\s.2.2.2=d/\(z9b s<n/\s.2.1.pj=s.2.2.1.pj/\1<=s.2.2.2/\s.2.2.2<=21)/\(∀p:Pub,g.ok p->slP GJ.cells s.1 [s.2.1] p/\s.2.1.ok p)/\decide (((DJ.arr t).dep:Int)+d<=21)=decide ((s.2.2.1.dep:Int)+s.2.2.2<=20):=
      ⟨(g.y,c,t,d),rfl,rfl,rfl,rfl,⟨show t.dep<n by have:t.dep+1<n+1:=hmu;omega,hcp,hd1,hd2⟩,λq hq=>by
        have:=hG q hq
        rw[hc]at this
        exact⟨this.1,z12 this.2.2 (i:=0) Nat.zero_lt_one⟩,by rw[e0,decide_eq_decide];show _↔(t.dep:Int)+d<=20;omega⟩
    exact⟨λh=>absurd h (by omega),λ_=>⟨λh=>absurd h (by omega),λ_=>⟨λh=>absurd h (by omega),λ_=>⟨λh=>absurd h (by omega),λ_=>⟨λ_=>F,λh=>absurd hk h⟩⟩⟩⟩⟩
  | tab t=>
    injection hpj with hk hn hs hl hm
    obtain⟨c,hc,hcp⟩:∃c,g.l=[c]/\c.pj=t.pj:=by
      cases hg:g.l with
      |nil=>rw[hg]at hl;cases hl
      | cons c r=>
        rw[hg,List.map_cons]at hl
        injection hl with h1 h2
        exact⟨c,by rw[List.map_eq_nil_iff.1 h2],h1⟩
    have e0:((DJ.tab t).dep:Int)=t.dep+1:=rfl
    have F:∃s:MpS,s.1.1=g.y.1/\s.1.2.1=g.y.2.1/\s.1.2.2=g.y.2.2/\s.2.2.2=d/\(z9b s<n/\s.2.1.pj=s.2.2.1.pj/\1<=s.2.2.2/\s.2.2.2<=21)/\(∀p:Pub,g.ok p->slP GJ.cells s.1 [s.2.1] p/\s.2.1.ok p)/\decide (((DJ.tab t).dep:Int)+d<=21)=decide ((s.2.2.1.dep:Int)+s.2.2.2<=20):=
      ⟨(g.y,c,t,d),rfl,rfl,rfl,rfl,⟨show t.dep<n by have:t.dep+1<n+1:=hmu;omega,hcp,hd1,hd2⟩,λq hq=>by
        have:=hG q hq
        rw[hc]at this
        exact⟨this.1,z12 this.2.2 (i:=0) Nat.zero_lt_one⟩,by rw[e0,decide_eq_decide];show _↔(t.dep:Int)+d<=20;omega⟩
    have L:g.x.2.1=g.y.2.1:=by
      have:=hG p hg
      rw[this.1.1,this.2.1.1,hc,hm];rfl
    exact⟨λh=>absurd h (by omega),λ_=>⟨λh=>absurd h (by omega),λ_=>⟨λh=>absurd h (by omega),λ_=>⟨λh=>absurd h (by omega),λ_=>⟨λh=>absurd h (by omega),λ_=>⟨λ_=>⟨λ_=>⟨g.x,rfl,rfl,rfl,λq hq=>by have:=(hG q hq).2.1;rw[hm]at this;exact this,λ_=>F,λh=>by cases h⟩,λh=>absurd (by omega) h⟩,λh=>absurd hk h⟩⟩⟩⟩⟩⟩
def z16:∀n:Nat,q5b P 10 (z10.below zay n)/\q5b P 19 (z4v.below z9a n)
 |0=>⟨Ct.below_zero (by decide) (by decide) (Sen.enters_of Go.Proofs.Tryd.func10 (by kernel_rfl)) λs=>⟨rfl,rfl⟩,Ct.below_zero (by decide) (by decide) (Sen.enters_of Go.Proofs.Tryd.func19 (by kernel_rfl)) λs=>⟨rfl,rfl⟩⟩
 |n+1=>⟨z41 n (z16 n).2,za6 n (z16 n).1⟩
def z5p:q5b P 10 z10:=Ct.of_below λn=>(z16 n).1
def z5f:∀n:Nat,q5b P 18 (z9w.below zax (n+1))
 |0=>z3n 0 (Ct.below_zero (by decide) (by decide) (Sen.enters_of Go.Proofs.Tryd.func36 (by kernel_rfl)) λs=>⟨rfl,rfl⟩)
 |n+1=>z3n (n+1) (zar n (z5f n))
def zav:q5b P 18 z9w:=Ct.of_below λn=>match n with
 |0=>Ct.below_zero (by decide) (by decide) (Sen.enters_of Go.Proofs.Tryd.func18 (by kernel_rfl)) λs=>⟨rfl,rfl⟩
 |n+1=>z5f n
section
def DJ.tx:DJ->List Nat
 | .leaf=>[48]
 | .arr t=>[91]++t.tx++[93]
 | .tab t=>[123,34,97,34,58]++t.tx++[125]
def stA(s:ByteArray) (i:Nat) (l:List Nat):Prop:=∀k,k<l.length->bat s (i+k)=l.getD k 0
variable {s:ByteArray} {i:Nat}
def z1t{l m:List Nat} (h:stA s i (l++m)):stA s i l/\stA s (i+l.length) m:=by
 refine⟨λk hk=> ?_,λk hk=> ?_⟩
 ·rw[h k (by rw[List.length_append];omega),List.getD_eq_getElem?_getD,List.getD_eq_getElem?_getD,List.getElem?_append_left hk]
 ·have:=h (l.length+k) (by rw[List.length_append];omega)
  rw[←Nat.add_assoc]at this
  rw[this,List.getD_eq_getElem?_getD,List.getD_eq_getElem?_getD,List.getElem?_append_right (by omega),Nat.add_sub_cancel_left]
def zbj(t:DJ):∃c r,t.tx=c::r/\(c=48\/c=91\/c=123):=by
 cases t with
 |leaf=>exact⟨48,[],rfl, .inl rfl⟩
 |arr t=>exact⟨91,t.tx++[93],rfl, .inr (.inl rfl)⟩
 |tab t=>exact⟨123,_,rfl, .inr (.inr rfl)⟩
def z3q{t:DJ} (h:stA s i t.tx):sk s i=i/\(pk s i=48\/pk s i=91\/pk s i=123):=by
 obtain⟨c,r,e,hc⟩:=zbj t
 have h0:bat s i=c:=by
  have:=h 0 (by rw[e];simp)
  rw[e]at this
  exact this
 have hw:isW c=false:=by rcases hc with rfl|rfl|rfl<;>rfl
 obtain⟨e1,e2⟩:=z24 h0 hw
 exact⟨e1,by omega⟩
def zmh(h0:bat s i=34) (h1:bat s (i+1)=97) (h2:bat s (i+2)=34) (hl:i+2<s.size):uqR (s.extract i s.size)=(0,mkS [97],3):=by
 have b:=λk=>z4o s i (by omega) k
 have hz:(s.extract i s.size).size=s.size- i:=by rw[ByteArray.size_extract];omega
 have e1:=z1v (s.extract i s.size) 1 []
 have e2:=z1v (s.extract i s.size) 2 [97]
 rw[b,h1,hz,if_pos (by omega),if_neg (by decide),if_neg (by decide),if_neg (by decide)]at e1
 rw[b,h2,hz,if_pos (by omega),if_pos (by decide)]at e2
 unfold uqR
 rw[hz,if_neg (by omega),b,Nat.add_zero,h0,if_neg (by decide),e1]
 rw[show([]:List Nat)++[97]=[97]from rfl,e2]
 rfl
def z1m{s:ByteArray}:∀(t:DJ) (n i:Nat),stA s i t.tx->i+t.tx.length<=s.size->z0h (bat s (i+t.tx.length))=false->isX (bat s (i+t.tx.length))=false->jT s n i=if t.dep<=n then .ok t.pj (i+t.tx.length)else .err 3
  | .leaf,n,i,h,hl,hd,hx=>by
    have h0:bat s i=48:=h 0 (by decide)
    obtain⟨e1,e2⟩:=z24 h0 rfl
    have hd:z0h (bat s (i+1))=false:=hd
    have hx:isX (bat s (i+1))=false:=hx
    have nm:nmM s i=i:=by unfold nmM;rw[h0];rfl
    have X:nqX s i=(0,i+1,false):=by
      unfold nqX
      rw[nm,z9d (by rw[h0];rfl),h0,if_neg (by decide),zb0 hd]
    have O:z7c s i=true:=by
      rw[z9c X,nm,h0,hx]
      simp
    have V:nqV s i=0:=by unfold nqV;rw[h0,X];rfl
    rw[z5c]
    unfold jN
    rw[e1,e2,if_neg (by decide),if_neg (by decide),if_neg (by decide),if_pos (.inr rfl),if_pos O,X,V,if_pos (show DJ.leaf.dep<=n from Nat.zero_le _)]
    rfl
  | .arr t,n,i,h,hl,hd,hx=>by
    have hlen:(DJ.arr t).tx.length=t.tx.length+2:=by simp[DJ.tx]
    rw[hlen]at hl⊢
    obtain⟨ha,hb⟩:=z1t (l:=[91]++t.tx) (m:=[93]) h
    obtain⟨ha,hc⟩:=z1t (l:=[91]) (m:=t.tx) ha
    have h0:bat s i=91:=ha 0 (by decide)
    have hc:stA s (i+1) t.tx:=hc
    have h9:bat s (i+1+t.tx.length)=93:=by
      have e:i+1+t.tx.length=i+([91]++t.tx).length+0:=by simp;omega
      exact(congrArg (bat s) e).trans (hb 0 (by decide))
    obtain⟨e1,e2⟩:=z24 h0 rfl
    obtain⟨e3,e4⟩:=z24 h9 rfl
    obtain⟨f1,f2⟩:=z3q hc
    have ih:=λn=>z1m t n (i+1) hc (by omega) (by rw[h9];rfl) (by rw[h9];rfl)
    rw[z5c]
    unfold jN
    rw[e1,e2,if_pos rfl]
    cases n with
    | zero=>
      rw[if_neg (by show¬t.dep+1<=0;omega)];rfl
    | succ n=>
      rw[z0j,z1l,if_neg (by omega),z5a,ih n]
      by_cases hn:t.dep<=n
      · rw[if_pos hn,if_pos (show(DJ.arr t).dep<=n+1 from Nat.succ_le_succ hn)]
        simp only
        rw[if_pos e4,e3]
        show JR.ok _ _=JR.ok _ _
        rw[show i+1+t.tx.length+1=i+(t.tx.length+2)by omega];rfl
      · rw[if_neg hn,if_neg (show¬(DJ.arr t).dep<=n+1 fromλh=>hn (Nat.le_of_succ_le_succ h))]
  | .tab t,n,i,h,hl,hd,hx=>by
    have hlen:(DJ.tab t).tx.length=t.tx.length+6:=by simp[DJ.tx]
    rw[hlen]at hl⊢
    obtain⟨ha,hb⟩:=z1t (l:=[123,34,97,34,58]++t.tx) (m:=[125]) h
    obtain⟨ha,hc⟩:=z1t (l:=[123,34,97,34,58]) (m:=t.tx) ha
    have h0:bat s i=123:=ha 0 (by decide)
    have h1:bat s (i+1)=34:=ha 1 (by decide)
    have h2:bat s (i+2)=97:=ha 2 (by decide)
    have h3:bat s (i+3)=34:=ha 3 (by decide)
    have h4:bat s (i+4)=58:=ha 4 (by decide)
    have hc:stA s (i+5) t.tx:=hc
    have h9:bat s (i+5+t.tx.length)=125:=by
      have e:i+5+t.tx.length=i+([123,34,97,34,58]++t.tx).length+0:=by simp;omega
      exact(congrArg (bat s) e).trans (hb 0 (by decide))
    obtain⟨e1,e2⟩:=z24 h0 rfl
    obtain⟨e3,e4⟩:=z24 h9 rfl
    obtain⟨g1,g2⟩:=z24 h1 rfl
    obtain⟨k1,k2⟩:=z24 h4 rfl
    obtain⟨f1,f2⟩:=z3q hc
    have uq:uqS s (i+1)=(0,mkS [97],3):=by unfold uqS;rw[g1];exact zmh h1 h2 h3 (by omega)
    have ih:=λn=>z1m t n (i+5) hc (by omega) (by rw[h9];rfl) (by rw[h9];rfl)
    rw[z5c]
    unfold jN
    rw[e1,e2,if_neg (by decide),if_pos rfl]
    cases n with
    | zero=>
      rw[if_neg (by show¬t.dep+1<=0;omega)];rfl
    | succ n=>
      rw[z0j,z1n,if_neg (by omega),z5b,uq,g1]
      simp only
      rw[if_neg (by decide),if_neg (by decide),show i+1+3=i+4 from rfl,if_neg (λh=>h k2),k1,show i+4+1=i+5 from rfl,ih n]
      by_cases hn:t.dep<=n
      · rw[if_pos hn,if_pos (show(DJ.tab t).dep<=n+1 from Nat.succ_le_succ hn)]
        simp only
        rw[if_pos e4,e3]
        show JR.ok _ _=JR.ok _ _
        rw[show i+5+t.tx.length+1=i+(t.tx.length+6)by omega];rfl
      · rw[if_neg hn,if_neg (show¬(DJ.tab t).dep<=n+1 fromλh=>hn (Nat.le_of_succ_le_succ h))]
end
def zas(g:GJ) (t:DJ):qky P (qg8 [(18,z9w)]) Go.Proofs.Tryd.f9 z9y (λ_=>{}) ⟨g,t⟩=(GJ.pj g=DJ.pj t->(∃(p:Nat->Option Obj),True/\GJ.ok g p)->∃(s:MyS),GJ.k s.1=GJ.k g/\GJ.n s.1=GJ.n g/\GJ.s s.1=GJ.s g/\Prod.fst (GJ.y s.1)=Prod.fst (GJ.y g)/\Prod.fst (Prod.snd (GJ.y s.1))=Prod.fst (Prod.snd (GJ.y g))/\Prod.snd (Prod.snd (GJ.y s.1))=Prod.snd (Prod.snd (GJ.y g))/\Prod.fst (GJ.x s.1)=Prod.fst (GJ.x g)/\Prod.fst (Prod.snd (GJ.x s.1))=Prod.fst (Prod.snd (GJ.x g))/\Prod.snd (Prod.snd (GJ.x s.1))=Prod.snd (Prod.snd (GJ.x g))/\s.2.2=(1:Int)/\(GJ.pj (Prod.fst s)=DJ.pj (Prod.fst s.2)/\(1:Int)<=Prod.snd s.2/\Prod.snd s.2<=(21:Int))/\(∀(p:Nat->Option Obj),True/\GJ.ok g p->GJ.ok s.1 p)/\decide (DJ.dep t<=(20:Nat))=decide ((↑(DJ.dep s.2.1):Int)+s.2.2<=(21:Int))/\True):=by kernel_rfl
def zat:q5b P 9 z9y:=by
 refine ql1 mixed (qdv (qhn zav qkn)) (W:=λ_=>{}) Go.Proofs.Tryd.func9 (by kernel_rfl) (show 1<=1 by decide) (show 1<=1 by decide) (λs=>by kernel_rfl) λ⟨g,t⟩=>(zas g t).mpr ?_
 rintro hpj ⟨p,_,hg⟩
 exact⟨(g,t,1),rfl,rfl,rfl,rfl,rfl,rfl,rfl,rfl,rfl,rfl,⟨hpj,show(1:Int)<=1 by decide,show(1:Int)<=21 by decide⟩,λq hq=>hq.2,by rw[decide_eq_decide];show t.dep<=20↔(t.dep:Int)+1<=21;omega,trivial⟩
def zbk:∀(t:DJ),∀c∈t.tx,c<256
  | .leaf,c,h=>by simp[DJ.tx]at h;omega
  | .arr t,c,h=>by
    simp[DJ.tx]at h
    rcases h with h|h|h
    · omega
    · exact zbk t c h
    · omega
  | .tab t,c,h=>by
    simp[DJ.tx]at h
    rcases h with h|h|h|h|h|h|h
    · omega
    · omega
    · omega
    · omega
    · omega
    · exact zbk t c h
    · omega
def zaw{l:List Nat} (hl:∀c∈l,c<256) {k:Nat} (hk:k<l.length):bat (mkS l) k=l.getD k 0:=by
 have hz:(mkS l).size=l.length:=q0f l
 rw[z3b (by omega),List.getD_eq_getElem?_getD,List.getElem?_eq_getElem hk,Option.getD_some]
 have hc:=hl _ (List.getElem_mem hk)
 have e:(mkS l)[k]'(by omega)=UInt8.ofNat l[k]:=by simp[mkS,ByteArray.getElem_eq_getElem_data]
 rw[e,UInt8.toNat_ofNat']
 omega
def z74(t:DJ):jP (mkS t.tx)=if t.dep<=20 then .ok t.pj t.tx.length else .err 3:=by
 have hz:(mkS t.tx).size=t.tx.length:=q0f t.tx
 have h0:bat (mkS t.tx) (0+t.tx.length)=0:=z03 (by omega)
 have h:=z1m (s:=mkS t.tx) t 20 0 (λk hk=>by rw[Nat.zero_add];exact zaw (zbk t) hk) (by omega) (by rw[h0];rfl) (by rw[h0];rfl)
 rw[Nat.zero_add]at h
 unfold jP
 rw[h]
 by_cases hd:t.dep<=20
 ·rw[if_pos hd]
  have e:sk (mkS t.tx) t.tx.length=t.tx.length:=z9e (by omega)
  simp only
  rw[e,if_neg (by omega)]
 ·rw[if_neg hd]
def orH (A B:Ct) (which:List AV->T AO->Bool):Ct where
  σ:=A.σ ⊕ B.σ
  args:=λs=>match s with| .inl a=>A.args a| .inr b=>B.args b
  h:=λs=>match s with| .inl a=>A.h a| .inr b=>B.h b
  m:=A.m
  pre:=λs=>match s with| .inl a=>A.pre a| .inr b=>B.pre b
  mem:=λs=>match s with| .inl a=>A.mem a| .inr b=>B.mem b
  sel :=some λl h=>match which l h with
    | true=>match A.sel with
      | some g=>match g l h with
        |some s=>some ⟨s.β,λb=> .inl (s.f b)⟩
        |none=>none
      | none=>match A.find with
        |none=>some ⟨A.σ, .inl⟩
        | some f=>match f l h with
          |some a=>some ⟨Unit,λ_=> .inl a⟩
          |none=>none
    | false=>match B.sel with
      | some g=>match g l h with
        |some s=>some ⟨s.β,λb=> .inr (s.f b)⟩
        |none=>none
      | none=>match B.find with
        |none=>some ⟨B.σ, .inr⟩
        | some f=>match f l h with
          |some b=>some ⟨Unit,λ_=> .inr b⟩
          |none=>none
  r:=λs=>match s with| .inl a=>A.r a| .inr b=>B.r b
  h':=λs=>match s with| .inl a=>A.h' a| .inr b=>B.h' b
  m':=A.m'
  g:=λs=>match s with| .inl a=>A.g a| .inr b=>B.g b
def z5i{P:Program} {f:Nat} {A B:Ct} {which:List AV->T AO->Bool} (hA:q5b P f A) (hB:q5b P f B) (hm:B.m=A.m) (hm':B.m'=A.m'):q5b P f (orH A B which):=by
  obtain⟨h1,h2,h3,h4⟩:=hA
  obtain⟨g1,g2,g3,g4⟩:=hB
  refine⟨h1,h2,h3,λs=> ?_⟩
  cases s with
  |inl a=>exact h4 a
  | inr b=>
    have:=g4 b
    rw[hm,hm']at this
    exact this
def bdO(s:ByteArray) (r k:Nat):List (Nat×AO):=[(1, .cells 53 (some 0) false [.ptr 1 0, .ssl r 0 s.size 1 k]),(r, .row 5 0 (q1c s))]
def bfO(c:AV):List (Nat×AO):=[(1, .cells 53 (some 0) false [c, .nsl])]
def cB(σ:Type) (args:σ->List AV) (pre:σ->Prop) (r:σ->AV) (h h':σ->List (Nat×AO)) (m':Nat):Ct where
 σ:=σ
 args:=args
 h:=h
 m:=4
 pre:=pre
 r:=r
 h':=h'
 m':=m'
 g:=λ_=>none
def zg6(l:List AV) (h:T AO):Bool:=match l with
  | .ptr id _::_=>match h.get id with
    |some (.cells _ _ _ (.nilp::_))=>true
    |_=>false
  |_=>false
def z90:Ct:=cB Unit (λ_=>[.ptr 1 0]) (λ_=>True) (λ_=> .tup []) (λ_=>bfO .nilp) (λ_=>bfO (.ptr 1 0)) 4
def z4t:Ct:=cB ByteArray (λ_=>[.ptr 1 0]) (λ_=>True) (λ_=> .tup []) (λs=>bdO s 2 3) (λs=>bdO s 2 3) 4
def z4s:Ct:=orH z90 z4t zg6
def z2o:Ct:=cB Int (λc=>[.ptr 1 0, .sv (.int .u8 c)]) (λc=>0<=c/\c<256) (λ_=> .nili) (λ_=>bfO .nilp) (λc=>bdO (mkS [c.toNat]) 4 5) 6
def z2p:Ct:=cB (ByteArray×Int) (λ⟨s,c⟩=>[.ptr 1 0, .sv (.int .u8 c)]) (λ⟨s,c⟩=>s.size<1000000000/\0<=c/\c<256) (λ_=> .nili) (λ⟨s,c⟩=>bdO s 2 3) (λ⟨s,c⟩=>bdO (s++mkS [c.toNat]) 4 5) 6
def z3c:Ct:=orH z2o z2p zg6
def z2q:Ct:=cB ByteArray (λc=>[.ptr 1 0, .sv (.string c)]) (λc=>c.size<1000000000) (λc=> .tup [.sv (.int .i64 (c.size:Nat)), .nili]) (λ_=>bfO .nilp) (λc=>bdO c 4 5) 6
def z2r:Ct:=cB (ByteArray×ByteArray) (λ⟨s,c⟩=>[.ptr 1 0, .sv (.string c)]) (λ⟨s,c⟩=>s.size<1000000000/\c.size<1000000000) (λ⟨s,c⟩=> .tup [.sv (.int .i64 (c.size:Nat)), .nili]) (λ⟨s,c⟩=>bdO s 2 3) (λ⟨s,c⟩=>bdO (s++c) 4 5) 6
def z3d:Ct:=orH z2q z2r zg6
def z9r:Ct:=cB ByteArray (λ_=>[.ptr 1 0]) (λs=>0<s.size/\s.size<1000000000) (λs=> .sv (.string s)) (λs=>bdO s 2 3) (λ_=>[]) 4
def ltF(c:Nat):Nat:=if c=34\/c=92 then c else if c=8 then 98 else if c=12 then 102 else if c=10 then 110 else if c=13 then 114 else if c=9 then 116 else 0
def hxd(n:Nat):Nat:=if n<10 then 48+n else 87+n
def qb(c:Nat):List Nat:=if ltF c≠0 then [92,ltF c]else if c<32 then [92,117,48,48,hxd (c / 16),hxd (c % 16)]else [c]
def qtL(s:ByteArray):Nat->List Nat
 |0=>[34]
 |j+1=>qtL s j++qb (bat s j)
def qtS(s:ByteArray):ByteArray:=mkS (qtL s s.size++[34])
def z2u:Ct:=ctS Int (λc=>[.int .u8 c]) f1i (λc=>0<=c/\c<256) (λ_=>{}) λc=> .sv (.int .u8 (ltF c.toNat:Nat))
def z26:Ct:=ctS ByteArray (λs=>[.string s]) f1s (λs=>s.size<10000000) (λ_=>{}) λs=> .sv (.string (qtS s))
def zgh(h:T AO):Nat:=match h.get 1 with
 |some (.cells _ _ _ (_:: .ssl r _ _ _ _::_))=>r
 |_=>0
def z9j:z26.σ->WayF:=λs=>{
 ann:=λ_ tt hh=>some {σ:=Nat,pre:=λj=>j<=s.size,t:=λj=>[(10, .sv (.int .i64 (j:Nat)))],h:=λj=>bdO (mkS (qtL s j)) 40 41,more:=60,μ:=λj=>s.size- j,keep:=[0,3,8,9],del:=[zgh hh]}}
def f10:List Value->Option Int
 | [.int _ n, .int _ _]=>some n
 |_=>none
def z9u:Ct:=ctS Int (λn=>[.int .i64 n, .int .i64 10]) f10 (λn=>n=0) (λ_=>{}) λn=> .sv (.string (mkS [48]))
def z4y:Ct:=ctS Int (λn=>[.int .i64 n]) f1i (λn=>n=0) (λ_=>{}) λn=> .sv (.string (mkS [48]))
def chP:DJ->Nat->List Nat
 | .leaf,_=>[]
 | .arr u,0=>[91]
 | .arr u,_=>[91]++u.tx
 | .tab u,0=>[123]
 | .tab u,_=>[123,34,97,34,58]++u.tx
abbrev WrS:=ByteArray×GJ×DJ
def z34:WrS->Prop:=λ⟨s,g,t⟩=>g.pj=t.pj/\t.dep<=30/\s.size+t.tx.length<100000
def zd9:Ct:={cB WrS (λ⟨s,g,t⟩=>[.ptr 1 0,g.av]) z34 (λ_=> .tup []) (λ⟨s,g,t⟩=>bdO s 2 3) (λ⟨s,g,t⟩=>bdO (s++mkS t.tx) 4 5) 6 with mem:=λ⟨s,g,t⟩=>gjM g}
def zg1:Ct:={cB WrS (λ⟨s,g,t⟩=>[.ptr 1 0,g.av]) (λ⟨s,g,t⟩=>s=mkS []/\z34 ⟨s,g,t⟩) (λ_=> .tup []) (λ⟨s,g,t⟩=>bfO .nilp) (λ⟨s,g,t⟩=>bdO (s++mkS t.tx) 4 5) 6 with mem:=λ⟨s,g,t⟩=>gjM g}
def zaz:WrS->Nat:=λ⟨s,g,t⟩=>t.dep
def z3v:WrS->WayF:=λ⟨s,g,t⟩=>{
 ann:=λid tt hh=>match id with
  |1=>some {σ:=Nat,pre:=λj=>j<=1,t:=λj=>[(40, .sv (.int .i64 (j:Nat)))],h:=λj=>bdO (s++mkS (chP t j)) 60 61,more:=80,μ:=λj=>1- j,keep:=[0,3,38,39],del:=[zgh hh]}
  |_=>some {σ:=Nat,pre:=λj=>j<=1,t:=λj=>[(66, .sv (.int .i64 (j:Nat)))],h:=λj=>bdO (s++mkS (chP t j)) 60 61,more:=80,μ:=λj=>1- j,keep:=[0,3,65],del:=[zgh hh]}}
def z4x:Ct:=cPl (GJ×DJ) (λ⟨g,t⟩=>[g.av]) (λ⟨g,t⟩=>g.pj=t.pj/\t.dep<=30) (λ⟨g,t⟩=>gjM g) λ⟨g,t⟩=> .sv (.string (mkS t.tx))
def z6m(s:ByteArray):qky P (λ_=>none) Go.Proofs.Tryd.f53 z4t (λ_=>{}) s=(True->ByteArray.size s=ByteArray.size s/\q1c s=q1c s/\True):=by kernel_rfl
def z4f(c:Int):qky P (qg8 [(53,z4s)]) Go.Proofs.Tryd.f42 z2o (λ_=>{}) c=((0:Int)<=c/\c<(256:Int)->∃(b:Unit),True/\((0:Nat)+(1:Nat))*(1:Nat)<=(140737488355328:Nat)/\ByteArray.size (mkS [Int.toNat c])=(0:Nat)+(1:Nat)/\q1c (mkS [Int.toNat c])=[]++[Value.int IntKind.u8 c]/\True):=by kernel_rfl
def z4h(s:ByteArray) (c:Int):qky P (qg8 [(53,z4s)]) Go.Proofs.Tryd.f42 z2p (λ_=>{}) ⟨s,c⟩=(size s<(1000000000:Nat)/\(0:Int)<=c/\c<(256:Int)->∃(b:ByteArray),size b=size s/\q1c b=q1c s/\True/\length (q1c b)=size b*(1:Nat)/\(size b+nat_lit 1)*(1:Nat)<=(140737488355328:Nat)/\size (s++mkS [toNat c])=size b+nat_lit 1/\q1c (s++mkS [toNat c])=q1c b++[int u8 c]/\True):=by kernel_rfl
def z4k(c:ByteArray):qky P (qg8 [(53,z4s)]) Go.Proofs.Tryd.f38 z2q (λ_=>{}) c=(ByteArray.size c<(1000000000:Nat)->∃(b:Unit),True/\((0:Nat)+ByteArray.size c)*(1:Nat)<=(140737488355328:Nat)/\(↑(ByteArray.size c):Int)=(↑(ByteArray.size c):Int)/\ByteArray.size c=(0:Nat)+ByteArray.size c/\q1c c=[]++q1c c/\True):=by kernel_rfl
def z4m(s c:ByteArray):qky P (qg8 [(53,z4s)]) Go.Proofs.Tryd.f38 z2r (λ_=>{}) ⟨s,c⟩=(size s<(1000000000:Nat)/\size c<(1000000000:Nat)->∃(b:ByteArray),size b=size s/\q1c b=q1c s/\True/\length (q1c b)=size b*(1:Nat)/\(size b+size c)*(1:Nat)<=(140737488355328:Nat)/\(↑(size c):Int)=(↑(size c):Int)/\size (s++c)=size b+size c/\q1c (s++c)=q1c b++q1c c/\True):=by kernel_rfl
section
variable (x0 x1:Int)
 abbrev zci:=(↑(ltF (toNat x0)):Int)=x1/\True
 def zl9:=Ji (x0=9) (zci x0 116) (zci x0 0)
 def zl7:=Ji (x0=13) (zci x0 114) (zl9 x0)
 def zl6:=Ji (x0=10) (zci x0 110) (zl7 x0)
 def zl5:=Ji (x0=12) (zci x0 102) (zl6 x0)
 def zl4:=Ji (x0=8) (zci x0 98) (zl5 x0)
 def zh5:=Ji (x0=x1) ((↑(ltF (toNat x0)):Int)=x0/\True) (zl4 x0)
 def zl8:=Ji (x0=34) (zh5 x0 34) (zh5 x0 92)
end
def z3y(c:Int):qky P (λ_=>none) Go.Proofs.Tryd.f56 z2u (λ_=>{}) c=(0<=c/\c<256->zl8 c):=by kernel_rfl
def z5d:=λc=>Eq.trans (z3y c) (by delta Ji Jt Jf zci zl9 zl7 zl6 zl5 zl4 zh5 zl8;exact rfl)
section
variable (x0:Int)
 abbrev zh7:=mkS [48,49,50,51,52,53,54,55,56,57,97,98,99,100,101,102,103,104,105,106,107,108,109,110,111,112,113,114,115,116,117,118,119,120,121,122]
 def zlb:=Jb (x0+1)/\(0<=x0/\x0<=x0+1/\x0+1<=(↑(size (zh7)):Int))/\mkS [48]=ByteArray.extract (zh7) (toNat x0) (toNat (x0+1))/\True
 abbrev zh6:=mkS [48,48,48,49,48,50,48,51,48,52,48,53,48,54,48,55,48,56,48,57,49,48,49,49,49,50,49,51,49,52,49,53,49,54,49,55,49,56,49,57,50,48,50,49,50,50,50,51,50,52,50,53,50,54,50,55,50,56,50,57,51,48,51,49,51,50,51,51,51,52,51,53,51,54,51,55,51,56,51,57,52,48,52,49,52,50,52,51,52,52,52,53,52,54,52,55,52,56,52,57,53,48,53,49,53,50,53,51,53,52,53,53,53,54,53,55,53,56,53,57,54,48,54,49,54,50,54,51,54,52,54,53,54,54,54,55,54,56,54,57,55,48,55,49,55,50,55,51,55,52,55,53,55,54,55,55,55,56,55,57,56,48,56,49,56,50,56,51,56,52,56,53,56,54,56,55,56,56,56,57,57,48,57,49,57,50,57,51,57,52,57,53,57,54,57,55,57,56,57,57]
 def zla:=Ji (x0<10) (zlb x0) (∃(i0:Int),i0=IntKind.wrap i64 (x0*2)/\∃(i1:Int),i1=IntKind.wrap i64 (x0*2)/\Jb (i1+2)/\(0<=i0/\i0<=i1+2/\i1+2<=(↑(size (zh6)):Int))/\mkS [48]=ByteArray.extract (zh6) (toNat i0) (toNat (i1+2))/\True)
end
def z5r(n:Int):qky P (λ_=>none) Go.Proofs.Tryd.f68 z4y (λ_=>{}) n=(n=0->zla n):=by kernel_rfl
def z7o:=λn=>Eq.trans (z5r n) (by delta Ji Jb Jt Jf zh7 zlb zh6 zla;exact rfl)
def zac(n:Int):qky P (qg8 [(68,z4y)]) Go.Proofs.Tryd.f55 z9u (λ_=>{}) n=(n=(0:Int)->(decide ((10:Int)=(10:Int))=true->(decide ((0:Int)<=n)=true->(decide (n<(100:Int))=true->n=n/\n=(0:Int)/\mkS [(48:Nat)]=mkS [(48:Nat)]/\True)/\(decide (n<(100:Int))=false->(decide (n<(0:Int))=true->False)/\(decide (n<(0:Int))=false->False)))/\(decide ((0:Int)<=n)=false->(decide (n<(0:Int))=true->False)/\(decide (n<(0:Int))=false->False)))/\(decide ((10:Int)=(10:Int))=false->False)):=by kernel_rfl
def zdm(n:Int):qky P (qg8 [(55,z9u)]) Go.Proofs.Tryd.f40 z9u (λ_=>{}) n=(n=(0:Int)->n=n/\(10:Int)=(10:Int)/\n=(0:Int)/\mkS [(48:Nat)]=mkS [(48:Nat)]/\True):=by kernel_rfl
section
variable (x0:Nat) (x1:ByteArray) (x2:ByteArray×Int) (x3:Prop)
 abbrev z2n:=(↑(bat x1 (toNat (↑x0:Int))):Int)
 def zfz:=size x2.1=size (mkS (qtL x1 x0))/\q1c x2.1=q1c (mkS (qtL x1 x0))/\x3
 def zfe:=(size x2.1<1000000000/\0<=x2.2/\x2.2<256)
 abbrev z8n:=x2.1++mkS [toNat x2.2]
 def zfy:=zfe x2/\Jb ((↑x0:Int)+1)/\∃(i0:Nat),x1=x1/\(↑(size x1):Int)=(↑(size x1):Int)/\x1=x1/\(↑i0:Int)=(↑x0:Int)+1/\size (mkS (qtL x1 i0))=size (z8n x2)/\q1c (mkS (qtL x1 i0))=q1c (z8n x2)/\i0<=size x1/\size x1- i0<size x1- x0/\True
 abbrev zfd:=mkS [48,49,50,51,52,53,54,55,56,57,97,98,99,100,101,102]
 def zle:=Ji ((z2n x0 x1)<32) (∃(i0:ByteArray×ByteArray),i0.2=mkS [92,117,48,48]/\size i0.1=size (mkS (qtL x1 x0))/\q1c i0.1=q1c (mkS (qtL x1 x0))/\(size i0.1<1000000000/\size i0.2<1000000000)/\(0:Int)<=4/\(0<=shP BinOp.shr u8 (z2n x0 x1) 4/\shP BinOp.shr u8 (z2n x0 x1) (4:Int)<(↑(size (zfd)):Int))/\∃(i1:ByteArray×Int),i1.2=(↑(bat (zfd) (toNat (shP BinOp.shr u8 (z2n x0 x1) 4))):Int)/\size i1.1=size (i0.1++i0.2)/\q1c i1.1=q1c (i0.1++i0.2)/\zfe i1/\(0<=qbh BinOp.and u8 (z2n x0 x1) 15/\qbh BinOp.and u8 (z2n x0 x1) (15:Int)<(↑(size (zfd)):Int))/\∃(i2:ByteArray×Int),i2.2=(↑(bat (zfd) (toNat (qbh BinOp.and u8 (z2n x0 x1) 15))):Int)/\size i2.1=size (z8n i1)/\q1c i2.1=q1c (z8n i1)/\zfy x0 x1 i2) (∃(i4:ByteArray×Int),i4.2=(z2n x0 x1)/\zfz x0 x1 i4 (zfy x0 x1 i4))
 def zld:=(0<=(↑x0:Int)/\(↑x0:Int)<(↑(size x1):Int))/\(z2n x0 x1)=(z2n x0 x1)/\(0<=(z2n x0 x1)/\(z2n x0 x1)<256)/\((!decide ((↑(ltF (toNat (z2n x0 x1))):Int)=0))=true->∃(i0:ByteArray×Int),i0.2=92/\zfz x0 x1 i0 (zfe i0/\∃(i1:ByteArray×Int),i1.2=(↑(ltF (toNat (z2n x0 x1))):Int)/\size i1.1=size (z8n i0)/\q1c i1.1=q1c (z8n i0)/\zfy x0 x1 i1))/\((!decide ((↑(ltF (toNat (z2n x0 x1))):Int)=0))=false->zle x0 x1)
 def zlc:=Ji ((↑x0:Int)<(↑(size x1):Int)) (zld x0 x1) (∃(i9:ByteArray×Int),i9.2=34/\zfz x0 x1 i9 (zfe i9/\∃i10,size i10=size (z8n i9)/\q1c i10=q1c (z8n i9)/\(0<size i10/\size i10<1000000000)/\qtS x1=i10/\True))
end
def z3z(s:ByteArray):qky P (qg8 [(42,z3c),(38,z3d),(22,z9r),(56,z2u)]) Go.Proofs.Tryd.f41 z26 (z9j) s=(size s<10000000->∃(b:Int),b=34/\(0<=b/\b<256)/\(∃(s_1:Nat),s=s/\(↑(size s):Int)=(↑(size s):Int)/\s=s/\(↑s_1:Int)=0/\size (mkS (qtL s s_1))=size (mkS [toNat b])/\q1c (mkS (qtL s s_1))=q1c (mkS [toNat b])/\s_1<=size s/\True)/\∀(s_1:Nat),s_1<=size s->zlc s_1 s):=by kernel_rfl
def z5l:=λs=>Eq.trans (z3z s) (by delta Ji Jb Jt Jf z2n zfz zfe z8n zfy zfd zle zld zlc;exact rfl)
section
variable (x0:GJ) (x1:ByteArray) (x2:DJ) (x3 x4:Nat) (x5:ByteArray×ByteArray) (x6:Prop) (x7:WrS) (x8:ByteArray×Int) (x9 x10:Int) (x11 x12:Option Addr) (x13 x14 x15:Nat)
 abbrev zct:=(size x5.1<1000000000/\size x5.2<1000000000)
 def z8o:=size x5.1=size x1/\q1c x5.1=q1c x1/\zct x5/\size (x1++mkS (DJ.tx x2))=size (x5.1++x5.2)/\q1c (x1++mkS (DJ.tx x2))=q1c (x5.1++x5.2)/\True
 def zff:=GJ.n x0=GJ.n x0/\(10:Int)=10/\GJ.n x0=0/\∃(i0:ByteArray×ByteArray),i0.2=mkS [48]/\z8o x1 x2 i0
 def zfg:=GJ.s x0=GJ.s x0/\size (GJ.s x0)<10000000/\∃(i0:ByteArray×ByteArray),i0.2=qtS (GJ.s x0)/\z8o x1 x2 i0
 def z6f:=(size x8.1<1000000000/\0<=x8.2/\x8.2<256)
 abbrev z0r:=(↑(GJ.y x0).2.1:Int)
 def z8q:=(GJ.y x0).1=(GJ.y x0).1/\(GJ.y x0).2.1=(GJ.y x0).2.1/\(GJ.y x0).2.2=(GJ.y x0).2.2/\x6
 abbrev z1b:=x8.1++mkS [toNat x8.2]
 def zck:=GJ.k x0=GJ.k x0/\GJ.n x0=GJ.n x0/\GJ.s x0=GJ.s x0/\z8q x0 ((GJ.x x0).1=(GJ.x x0).1/\(GJ.x x0).2.1=(GJ.x x0).2.1/\(GJ.x x0).2.2=(GJ.x x0).2.2/\x6)
 def zcn:=size (x1++mkS (chP x2 x3))=size (z1b x8)/\zck x0 (q1c (x1++mkS (chP x2 x3))=q1c (z1b x8)/\(∀i0,True/\GJ.ok x0 i0->True/\GJ.ok x0 i0)/\x3<=1/\True)
 def zcq:=(∀i0,True/\GJ.ok x0 i0->q3g i0 (adr (GJ.y x0).1 (toNat (↑x3:Int)*5)) [int i64 x9,int i64 x10,string x1,slice x11 x4 x13,slice x12 x14 x15])
 def z6e:=x8.2=x9/\size x8.1=size (x1++mkS (chP x2 x3))/\q1c x8.1=q1c (x1++mkS (chP x2 x3))/\z6f x8/\x6
 def z8p:=GJ.k x7.2.1=x9/\GJ.n x7.2.1=x10/\GJ.s x7.2.1=x1/\(GJ.y x7.2.1).1=x11/\(GJ.y x7.2.1).2.1=x3/\(GJ.y x7.2.1).2.2=x4/\(GJ.x x7.2.1).1=x12/\(GJ.x x7.2.1).2.1=x13/\(GJ.x x7.2.1).2.2=x14/\x6
 def zcp:=(zaz x7<x3/\z34 x7)/\(∀i0,True/\GJ.ok x0 i0->GJ.ok x7.2.1 i0)/\Jb ((↑x4:Int)+1)/\x6
 def zcm:=size (x1++mkS (chP x2 x3))=size (x7.1++mkS (DJ.tx x7.2.2))/\zck x0 (q1c (x1++mkS (chP x2 x3))=q1c (x7.1++mkS (DJ.tx x7.2.2))/\(∀i0,True/\GJ.ok x0 i0->True/\GJ.ok x0 i0)/\x3<=1/\(1:Nat)- x3<1- x4/\True)
 def zcl:=zcp x0 x3 x4 (∃(i1:Nat),(z0r x0)=(z0r x0)/\(↑i1:Int)=(↑x4:Int)+1/\z8q x0 (zcm x0 x1 x2 i1 x4 x7)) x7
 def zln:=(0<=(↑x3:Int)/\(↑x3:Int)<(z0r x0))/\(GJ.y x0).1≠noA/\∃(i0:Int),∃(i1:Int),∃i2,∃i3,∃(i4:Nat),∃(i5:Nat),∃i6,∃(i7:Nat),∃(i8:Nat),zcq x0 i2 x3 i4 i0 i1 i3 i6 i5 i7 i8/\Ji (0<(↑x3:Int)) (∃(i10:ByteArray×Int),z6e x1 x2 x3 (∃(i11:WrS),z8p i2 i4 i5 (size i11.1=size (z1b i10)/\q1c i11.1=q1c (z1b i10)/\zcl x0 x1 x2 x4 x3 i11) i11 i0 i1 i3 i6 i7 i8) i10 44) (∃(i15:WrS),z8p i2 i4 i5 (size i15.1=size (x1++mkS (chP x2 x3))/\q1c i15.1=q1c (x1++mkS (chP x2 x3))/\zcl x0 x1 x2 x4 x3 i15) i15 i0 i1 i3 i6 i7 i8)
 def zcs:=size (x1++mkS (DJ.tx x2))=size (z1b x8)/\q1c (x1++mkS (DJ.tx x2))=q1c (z1b x8)/\True
 def zlm:=Ji ((↑x3:Int)<(z0r x0)) (zln x0 x1 x2 x3 x4) (∃(i19:ByteArray×Int),z6e x1 x2 x3 (zcs x1 x2 i19) i19 93)
 abbrev z1z:=(↑(GJ.x x0).2.1:Int)
 abbrev zcr:=((if(z1z x0)<(z0r x0)then(z1z x0)else(z0r x0))=if(z1z x0)<(z0r x0)then(z1z x0)else(z0r x0))
 def zco:=(∀i0,True/\GJ.ok x0 i0->q3g i0 (adr (GJ.x x0).1 (toNat (↑x3:Int)*1)) [string x1])/\x1=x1/\size x1<10000000/\x6
 def zcj:=zct x5/\∃(i0:ByteArray×Int),i0.2=58/\size i0.1=size (x5.1++x5.2)/\q1c i0.1=q1c (x5.1++x5.2)/\z6f i0/\(0<=(↑x3:Int)/\(↑x3:Int)<(z0r x0))/\(GJ.y x0).1≠noA/\∃(i1:Int),∃(i2:Int),∃i3,∃i4,∃(i5:Nat),∃(i6:Nat),∃i7,∃(i8:Nat),∃(i9:Nat),zcq x0 i3 x3 i5 i1 i2 i4 i7 i6 i8 i9/\∃(i11:WrS),z8p i3 i5 i6 (size i11.1=size (z1b i0)/\q1c i11.1=q1c (z1b i0)/\zcp x0 x4 x3 (∃(i13:Nat),zcr x0/\(↑i13:Int)=(↑x3:Int)+1/\zcm x0 x1 x2 i13 x3 i11) i11) i11 i1 i2 i4 i7 i8 i9
 def zlo:=(0<=(↑x3:Int)/\(↑x3:Int)<(z1z x0))/\(GJ.x x0).1≠noA/\∃i0,zco x0 i0 x3 (∃(i2:ByteArray×ByteArray),i2.2=qtS i0/\size i2.1=size (x1++mkS (chP x2 x3))/\q1c i2.1=q1c (x1++mkS (chP x2 x3))/\zcj x0 x1 x2 x3 x4 i2)
 def zll:=Ji (0<(↑x3:Int)) (∃(i0:ByteArray×Int),z6e x1 x2 x3 ((0<=(↑x3:Int)/\(↑x3:Int)<(z1z x0))/\(GJ.x x0).1≠noA/\∃i1,zco x0 i1 x3 (∃(i3:ByteArray×ByteArray),i3.2=qtS i1/\size i3.1=size (z1b i0)/\q1c i3.1=q1c (z1b i0)/\zcj x0 x1 x2 x3 x4 i3)) i0 44) (zlo x0 x1 x2 x3 x4)
 abbrev zlk:=Ji ((↑x3:Int)<if(z1z x0)<(z0r x0)then(z1z x0)else(z0r x0)) (zll x0 x1 x2 x3 x4) (∃(i37:ByteArray×Int),z6e x1 x2 x3 (zcs x1 x2 i37) i37 125)
 def zlj:=Ji (GJ.k x0=6) (∃(i0:ByteArray×Int),i0.2=123/\size i0.1=size x1/\q1c i0.1=q1c x1/\z6f i0/\(∃(i1:Nat),zcr x0/\(↑i1:Int)=0/\zcn x0 x1 x2 i1 i0)/\∀(i3:Nat),i3<=1->zlk x0 x1 x2 i3 x3) (∃(i42:ByteArray×ByteArray),i42.2=mkS [110,117,108,108]/\z8o x1 x2 i42)
 def zli:=Ji (GJ.k x0=5) (∃(i0:ByteArray×Int),i0.2=91/\size i0.1=size x1/\q1c i0.1=q1c x1/\z6f i0/\(∃(i1:Nat),(z0r x0)=(z0r x0)/\(↑i1:Int)=0/\z8q x0 (zcn x0 x1 x2 i1 i0))/\∀(i3:Nat),i3<=1->zlm x0 x1 x2 i3 x3) (zlj x0 x1 x2 x3)
 def zlh:=Ji (GJ.k x0=4) (zfg x0 x1 x2) (zli x0 x1 x2 x3)
 def zlg:=Ji (GJ.k x0=3) (zff x0 x1 x2) (zlh x0 x1 x2 x3)
 def zlf:=Ji (GJ.k x0=2) (False) (zlg x0 x1 x2 x3)
end
def z44(n:Nat) (s:ByteArray) (g:GJ) (t:DJ):qky P (qg8 [(42,z3c),(38,z3d),(41,z26),(40,z9u),(21,zd9.below zaz n)]) Go.Proofs.Tryd.f21 (zd9.below zaz (n+1)) (z3v) ⟨s,g,t⟩=(zaz (s,g,t)<n+1/\z34 (s,g,t)->(∃(p:Pub),True/\GJ.ok g p)->zlf g s t n):=by kernel_rfl
def z67:=λn s g t=>Eq.trans (z44 n s g t) (by delta Ji Jb Jt Jf zct z8o zff zfg z6f z0r z8q z1b zck zcn zcq z6e z8p zcp zcm zcl zln zcs zlm z1z zcr zco zcj zlo zll zlk zlj zli zlh zlg zlf;exact rfl)
section
variable (x0:GJ) (x1:ByteArray) (x2:DJ) (x3:Nat) (x4:ByteArray×ByteArray) (x5:Prop) (x6:WrS) (x7:ByteArray×Int) (x8 x9:Int) (x10:Option Addr) (x11:Nat) (x12:Option Addr) (x13 x14:Nat) (x15:ByteArray) (x16:Nat)
 abbrev z8t:=size x1<1000000000/\size (x15++mkS (DJ.tx x2))=size x1/\q1c (x15++mkS (DJ.tx x2))=q1c x1/\True
 def zfh:=GJ.n x0=GJ.n x0/\(10:Int)=10/\GJ.n x0=0/\∃i0,i0=mkS [48]/\z8t i0 x2 x1
 def zfi:=GJ.s x0=GJ.s x0/\size (GJ.s x0)<10000000/\∃i0,i0=qtS (GJ.s x0)/\z8t i0 x2 x1
 abbrev z0s:=(↑(GJ.y x0).2.1:Int)
 def z8s:=(GJ.y x0).1=(GJ.y x0).1/\(GJ.y x0).2.1=(GJ.y x0).2.1/\(GJ.y x0).2.2=(GJ.y x0).2.2/\x5
 def zcv:=GJ.k x0=GJ.k x0/\GJ.n x0=GJ.n x0/\GJ.s x0=GJ.s x0/\z8s x0 ((GJ.x x0).1=(GJ.x x0).1/\(GJ.x x0).2.1=(GJ.x x0).2.1/\(GJ.x x0).2.2=(GJ.x x0).2.2/\x5)
 def zcy:=size (x1++mkS (chP x2 x3))=size (mkS [toNat x8])/\zcv x0 (q1c (x1++mkS (chP x2 x3))=q1c (mkS [toNat x8])/\(∀i0,True/\GJ.ok x0 i0->True/\GJ.ok x0 i0)/\x3<=1/\True)
 def zd1:=(∀i0,True/\GJ.ok x0 i0->q3g i0 (adr (GJ.y x0).1 (toNat (↑x3:Int)*5)) [int i64 x8,int i64 x9,string x1,slice x10 x11 x13,slice x12 x14 x16])
 def zd3:=(size x7.1<1000000000/\0<=x7.2/\x7.2<256)
 def z6g:=x7.2=x8/\size x7.1=size (x1++mkS (chP x2 x3))/\q1c x7.1=q1c (x1++mkS (chP x2 x3))/\zd3 x7/\x5
 def z8r:=GJ.k x6.2.1=x8/\GJ.n x6.2.1=x9/\GJ.s x6.2.1=x1/\(GJ.y x6.2.1).1=x10/\(GJ.y x6.2.1).2.1=x3/\(GJ.y x6.2.1).2.2=x11/\(GJ.x x6.2.1).1=x12/\(GJ.x x6.2.1).2.1=x13/\(GJ.x x6.2.1).2.2=x14/\x5
 abbrev z21:=x7.1++mkS [toNat x7.2]
 def zd0:=z34 x6/\(∀i0,True/\GJ.ok x0 i0->GJ.ok x6.2.1 i0)/\Jb ((↑x3:Int)+1)/\x5
 def zcx:=size (x1++mkS (chP x2 x3))=size (x6.1++mkS (DJ.tx x6.2.2))/\zcv x0 (q1c (x1++mkS (chP x2 x3))=q1c (x6.1++mkS (DJ.tx x6.2.2))/\(∀i0,True/\GJ.ok x0 i0->True/\GJ.ok x0 i0)/\x3<=1/\(1:Nat)- x3<1- x11/\True)
 def zcw:=zd0 x0 x3 (∃(i1:Nat),(z0s x0)=(z0s x0)/\(↑i1:Int)=(↑x3:Int)+1/\z8s x0 (zcx x0 x1 x2 i1 x6 x3)) x6
 def zlx:=(0<=(↑x3:Int)/\(↑x3:Int)<(z0s x0))/\(GJ.y x0).1≠noA/\∃(i0:Int),∃(i1:Int),∃i2,∃i3,∃(i4:Nat),∃(i5:Nat),∃i6,∃(i7:Nat),∃(i8:Nat),zd1 x0 i2 x3 i0 i1 i3 i4 i6 i5 i7 i8/\Ji (0<(↑x3:Int)) (∃(i10:ByteArray×Int),z6g x1 x2 x3 (∃(i11:WrS),z8r i2 i4 (size i11.1=size (z21 i10)/\q1c i11.1=q1c (z21 i10)/\zcw x0 x1 x2 x3 i11) i11 i0 i1 i3 i5 i6 i7 i8) i10 44) (∃(i15:WrS),z8r i2 i4 (size i15.1=size (x1++mkS (chP x2 x3))/\q1c i15.1=q1c (x1++mkS (chP x2 x3))/\zcw x0 x1 x2 x3 i15) i15 i0 i1 i3 i5 i6 i7 i8)
 def zd4:=size (x1++mkS (DJ.tx x2))=size (z21 x7)/\q1c (x1++mkS (DJ.tx x2))=q1c (z21 x7)/\True
 def zlw:=Ji ((↑x3:Int)<(z0s x0)) (zlx x0 x1 x2 x3) (∃(i19:ByteArray×Int),z6g x1 x2 x3 (zd4 x1 x2 i19) i19 93)
 abbrev z20:=(↑(GJ.x x0).2.1:Int)
 abbrev zd2:=((if(z20 x0)<(z0s x0)then(z20 x0)else(z0s x0))=if(z20 x0)<(z0s x0)then(z20 x0)else(z0s x0))
 def zcz:=(∀i0,True/\GJ.ok x0 i0->q3g i0 (adr (GJ.x x0).1 (toNat (↑x3:Int)*1)) [string x1])/\x1=x1/\size x1<10000000/\x5
 def zcu:=(size x4.1<1000000000/\size x4.2<1000000000)/\∃(i0:ByteArray×Int),i0.2=58/\size i0.1=size (x4.1++x4.2)/\q1c i0.1=q1c (x4.1++x4.2)/\zd3 i0/\(0<=(↑x3:Int)/\(↑x3:Int)<(z0s x0))/\(GJ.y x0).1≠noA/\∃(i1:Int),∃(i2:Int),∃i3,∃i4,∃(i5:Nat),∃(i6:Nat),∃i7,∃(i8:Nat),∃(i9:Nat),zd1 x0 i3 x3 i1 i2 i4 i5 i7 i6 i8 i9/\∃(i11:WrS),z8r i3 i5 (size i11.1=size (z21 i0)/\q1c i11.1=q1c (z21 i0)/\zd0 x0 x3 (∃(i13:Nat),zd2 x0/\(↑i13:Int)=(↑x3:Int)+1/\zcx x0 x1 x2 i13 i11 x3) i11) i11 i1 i2 i4 i6 i7 i8 i9
 def zly:=(0<=(↑x3:Int)/\(↑x3:Int)<(z20 x0))/\(GJ.x x0).1≠noA/\∃i0,zcz x0 i0 x3 (∃(i2:ByteArray×ByteArray),i2.2=qtS i0/\size i2.1=size (x1++mkS (chP x2 x3))/\q1c i2.1=q1c (x1++mkS (chP x2 x3))/\zcu x0 x1 x2 x3 i2)
 def zlv:=Ji (0<(↑x3:Int)) (∃(i0:ByteArray×Int),z6g x1 x2 x3 ((0<=(↑x3:Int)/\(↑x3:Int)<(z20 x0))/\(GJ.x x0).1≠noA/\∃i1,zcz x0 i1 x3 (∃(i3:ByteArray×ByteArray),i3.2=qtS i1/\size i3.1=size (z21 i0)/\q1c i3.1=q1c (z21 i0)/\zcu x0 x1 x2 x3 i3)) i0 44) (zly x0 x1 x2 x3)
 abbrev zlu:=Ji ((↑x3:Int)<if(z20 x0)<(z0s x0)then(z20 x0)else(z0s x0)) (zlv x0 x1 x2 x3) (∃(i37:ByteArray×Int),z6g x1 x2 x3 (zd4 x1 x2 i37) i37 125)
 def zlt:=Ji (GJ.k x0=6) (∃(i0:Int),i0=123/\(0<=i0/\i0<256)/\(∃(i1:Nat),zd2 x0/\(↑i1:Int)=0/\zcy x0 x1 x2 i1 i0)/\∀(i3:Nat),i3<=1->zlu x0 x1 x2 i3) (∃i42,i42=mkS [110,117,108,108]/\z8t i42 x2 x1)
 def zls:=Ji (GJ.k x0=5) (∃(i0:Int),i0=91/\(0<=i0/\i0<256)/\(∃(i1:Nat),(z0s x0)=(z0s x0)/\(↑i1:Int)=0/\z8s x0 (zcy x0 x1 x2 i1 i0))/\∀(i3:Nat),i3<=1->zlw x0 x1 x2 i3) (zlt x0 x1 x2)
 def zlr:=Ji (GJ.k x0=4) (zfi x0 x1 x2) (zls x0 x1 x2)
 def zlq:=Ji (GJ.k x0=3) (zfh x0 x1 x2) (zlr x0 x1 x2)
 def zlp:=Ji (GJ.k x0=2) (False) (zlq x0 x1 x2)
end
def z43(s:ByteArray) (g:GJ) (t:DJ):qky P (qg8 [(42,z3c),(38,z3d),(41,z26),(40,z9u),(21,zd9)]) Go.Proofs.Tryd.f21 zg1 (z3v) ⟨s,g,t⟩=(s=mkS []/\z34 (s,g,t)->(∃(p:Pub),True/\GJ.ok g p)->zlp g s t):=by kernel_rfl
def z65:=λs g t=>Eq.trans (z43 s g t) (by delta Ji Jb Jt Jf z8t zfh zfi z0s z8s zcv zcy zd1 zd3 z6g z8r z21 zd0 zcx zcw zlx zd4 zlw z20 zd2 zcz zcu zly zlv zlu zlt zls zlr zlq zlp;exact rfl)
def z7h(g:GJ) (t:DJ):qky P (qg8 [(22,z9r),(21,zg1)]) Go.Proofs.Tryd.f11 z4x (λ_=>{}) ⟨g,t⟩=(GJ.pj g=DJ.pj t/\DJ.dep t<=30->(∃(p:Pub),True/\GJ.ok g p)->∃(s:WrS),GJ.k s.2.1=GJ.k g/\GJ.n s.2.1=GJ.n g/\GJ.s s.2.1=GJ.s g/\(GJ.y s.2.1).1=(GJ.y g).1/\(GJ.y s.2.1).2.1=(GJ.y g).2.1/\(GJ.y s.2.1).2.2=(GJ.y g).2.2/\(GJ.x s.2.1).1=(GJ.x g).1/\(GJ.x s.2.1).2.1=(GJ.x g).2.1/\(GJ.x s.2.1).2.2=(GJ.x g).2.2/\(s.1=mkS []/\z34 (s.1,s.2.1,s.2.2))/\(∀(p:Pub),True/\GJ.ok g p->GJ.ok s.2.1 p)/\∃(s_1:ByteArray),size s_1=size (s.1++mkS (DJ.tx s.2.2))/\q1c s_1=q1c (s.1++mkS (DJ.tx s.2.2))/\(0<size s_1/\size s_1<1000000000)/\mkS (DJ.tx t)=s_1/\True):=by kernel_rfl
def z2c(o:AO):∃h,q0r [(1,o)] .e=some h/\h.get 1=some o/\∀i,i≠1->h.get i=none:=by
 refine⟨_,rfl,rfl,λi hi=> ?_⟩
 have e:T.put 64 1 (some o) T.e=some (T.n (T.n T.e (some o) T.e) none T.e):=rfl
 have:=T.get_put _ _ _ _ _ e i
 rw[if_neg hi,T.get_e]at this
 exact this
def z5k(o o':AO):∃h,q0r [(1,o),(2,o')] .e=some h/\h.get 1=some o/\h.get 2=some o':=⟨_,rfl,rfl,rfl⟩
def zg5:(P.info? 53).map (·.size)=some 2:=by kernel_rfl
set_option maxHeartbeats 1000000 in
def z2w(b:Nat) (w:World) (h0:w.cell? ⟨b,0,none⟩=some (.pointer none)) (hsh:w.shape? b=some (53,2)) (hf:w.frozen? ⟨b,0,none⟩=false):
  Calls Go.Proofs.Tryd.prog 53 #[.pointer (some ⟨b,0,none⟩)] w λe w'=>e= .returned (.tuple #[])/\w'=w.setCell ⟨b,0,none⟩ (.pointer (some ⟨b,0,none⟩)):=by
 obtain⟨j,hj,hjs⟩:=Option.map_eq_some_iff.1 zg5
 go_enter Go.Proofs.Tryd.func53,Go.Proofs.Tryd.ntmps53
 go_wp2
 rw[Lib.run_to_unsafe w ⟨b,0,none⟩ Go.Proofs.Tryd.underlying51 Go.Proofs.Tryd.underlying97 hj (by rw[hjs];decide) hsh (Nat.zero_lt_succ 1)]
 simp only[Result.andThen]
 rw[Oper.upon_value]
 go_wp2
 rw[run_callFunc_extern Go.Proofs.Tryd.func67 (by kernel_rfl) (by kernel_rfl) (by kernel_rfl) (e:=Extern.AbiNoEscape.same) (by kernel_rfl)]
 rw[Lib.run_noEscape]
 simp only[Result.andThen]
 rw[Oper.upon_value]
 go_wp2
 rw[Lib.run_from_unsafe w ⟨b,0,none⟩ Go.Proofs.Tryd.underlying97 Go.Proofs.Tryd.underlying51 hj hsh (by kernel_rfl)]
 simp only[Result.andThen]
 rw[Oper.upon_value]
 go_wp2
 go_end0
 exact⟨rfl,rfl⟩
def z7m(w:World) (b o:Nat) (v:Value) {c:Array Value} {e:TypeId} {fr:Nat×Nat} (h:w.heap[b]? =some (.cells c e fr)):(w.setCell ⟨b,o,none⟩ v).heap[b]? =some (.cells (c.setIfInBounds o v) e fr)/\(∀k,k≠b->(w.setCell ⟨b,o,none⟩ v).heap[k]? =w.heap[k]?)/\(w.setCell ⟨b,o,none⟩ v).heap.size=w.heap.size:=by
 refine⟨?_,λk hk=> ?_,?_⟩
 ·simp[World.setCell,Array.getElem?_modify,h]
 ·exact Below.heap_setCell _ _ _ _ (λe=>hk (by simp[e]))
 ·simp[World.setCell]
def z6l:q5b P 53 z90:=by
 refine⟨Nat.le_refl _,by decide,Sen.enters_of Go.Proofs.Tryd.func53 (by kernel_rfl),λs=> ?_⟩
 obtain⟨h0,e0,g0,n0⟩:=z2c (.cells 53 (some 0) false [.nilp, .nsl])
 obtain⟨h1,e1,g1,n1⟩:=z2c (.cells 53 (some 0) false [.ptr 1 0, .nsl])
 refine⟨h0,h1,e0,e1,λF I w vs hv hs low zf _ _ fr hz=> ?_⟩
 cases hv with|cons hv1 hv2=>
 cases hv2
 cases hv1 with| @ptr _ _ b st tt hI=>
 obtain⟨ob,hb,ho⟩:=hs.obj 1 _ b (st,tt) g0 hI
 have hfr:=hs.fr 1 _ b (st,tt) g0 hI
 cases ho with| @cells _ elem' _ _ _ pre us rest frz hu hg hp ht hf hE=>
 obtain⟨rfl,rfl⟩:=hg rfl
 cases hu with|cons hu1 hu2=>
 cases hu1
 cases hu2 with|cons hu2 hu3=>
 cases hu2;cases hu3
 have hst:st=0:=hp.symm
 subst hst
 have htt:tt=2:=ht.symm
 subst htt
 have hel:elem'=53:=by
  rcases hE with h|h
  ·exact h
  ·cases h.2
 subst hel
 obtain⟨lo,hi⟩:=frz
 have hf0:=hf 0 rfl 0 (by omega) (by show 0<2;omega)
 have hb:w.heap[b]? =some (.cells #[.pointer none, .slice none 0 0] 53 (lo,hi)):=hb
 refine(z2w b w (by simp[World.cell?,hb]) (by simp[World.shape?,hb]) ?_).mono ?_
 ·simp only[World.frozen?,hb]
  simp at hf0⊢
  omega
 rintro e w' ⟨rfl,rfl⟩
 obtain⟨q1,q2,q3⟩:=z7m w b 0 (.pointer (some ⟨b,0,none⟩)) hb
 refine⟨_,I,rfl, .tup .nil,⟨In.le_refl I,λ_ _ h=> .inl h,⟨λid o b' t h hi=> ?_,λid id' o o' b1 t1 t2 h1' h2' i1 i2=> ?_,λid o b' t h hi hF=> ?_⟩,λb' hb'=> ?_,Nat.le_of_eq q3.symm,⟨rfl,rfl,rfl⟩⟩,trivial⟩
 ·by_cases hid:id=1
  ·subst hid
   rw[g1]at h;cases h
   rw[hI]at hi;cases hi
   refine⟨_,q1,?_⟩
   have:=OR.cells (I:=I) (t:=(0,2)) (elem:=53) (elem':=53) (fz:=some 0) (g:=false) (pre:=[]) (rest:=[]) (fr:=(lo,hi)) (l:=[.ptr 1 0, .nsl]) (vs:=[.pointer (some ⟨b,0+0,none⟩), .slice none 0 0]) (.cons (.ptr hI) (.cons .nsl .nil)) (λ_=>⟨rfl,rfl⟩) rfl rfl hf (.inl rfl)
   exact this
  ·rw[n1 id hid]at h;cases h
 ·by_cases hid:id=1
  ·by_cases hid':id'=1
   ·omega
   ·rw[n1 id' hid']at h2';cases h2'
  ·rw[n1 id hid]at h1';cases h1'
 ·by_cases hid:id=1
  ·subst hid
   rw[g1]at h;cases h
   rw[hI]at hi;cases hi
   exact absurd (hfr hF).1 (by decide)
  ·rw[n1 id hid]at h;cases h
 ·refine q2 b' λe=> ?_
  subst e
  exact absurd (hfr hb').1 (by decide)
def zdl:P.cellsOf 5=1:=by kernel_rfl
set_option maxHeartbeats 1000000 in
def zbb(b g o c:Nat) (s:ByteArray) (w:World) (h0:0<s.size) (h1:s.size<1000000000) (hc:c≠0) (cells:Nat) (hb:w.cell? ⟨b,1,none⟩=some (.slice (some ⟨g,o,none⟩) s.size c)) (hsh:w.shape? g=some (5,cells)) (hn:o+s.size<=cells)
  (hcell:∀j x,(s.data.toList.map UInt8.toNat)[j]? =some x->x<256/\w.cell? ⟨g,o+j,none⟩=some (.int .u8 (.ofNat x))):
  Calls Go.Proofs.Tryd.prog 22 #[.pointer (some ⟨b,0,none⟩)] w λe w'=>e= .returned (.string s)/\w'=w.drew.freeze ⟨g,o,none⟩ s.size:=by
 have hl:(s.data.toList.map UInt8.toNat).length=s.size:=by simp
 have hUS0:=qen (P:=P) w.drew 73 3 9 5 Go.Proofs.Tryd.underlying73 zdl g o cells hsh (s.data.toList.map UInt8.toNat) (λh=>by rw[h]at hl;simp at hl;omega) (by rw[hl];exact hn) (by rw[hl];omega) hcell
 rw[hl,qip]at hUS0
 have hUS:(Builtin.unsafeString_ #[73,3] 9 #[.pointer (some ⟨g,o,none⟩), .int .i64 (s.size:Int)]).run P w.drew= .ok (.string s) (w.drew.freeze ⟨g,o,none⟩ s.size):=hUS0
 clear hUS0
 have mixed:Go.Proofs.Tryd.prog.follows .mixedOrders=true:=by kernel_rfl
 have hSD:(Builtin.unsafeSliceData_ #[32] 73 #[.slice (some ⟨g,o,none⟩) s.size c]).run P w.drew= .ok (.pointer (some ⟨g,o,none⟩)) w.drew:=Lib.run_unsafeSliceData_row _ _ _ _ _ _ hc
 have c1:w.drew.cell? ⟨b,1,none⟩=some (.slice (some ⟨g,o,none⟩) s.size c):=hb
 clear hcell hsh hl hn hc hb
 go_enter Go.Proofs.Tryd.func22,Go.Proofs.Tryd.ntmps22
 go_wp2
 go_region_o
 all_goals (go_wp2;go_ret;exact⟨rfl,rfl⟩)
def z71(w:World) (b o n:Nat):(∀k,k≠b->(w.freeze ⟨b,o,none⟩ n).heap[k]? =w.heap[k]?)/\(w.freeze ⟨b,o,none⟩ n).heap.size=w.heap.size/\Same w (w.freeze ⟨b,o,none⟩ n):=by
 unfold World.freeze
 split
 ·exact⟨λ_ _=>rfl,rfl, .refl w⟩
 ·refine⟨λk hk=> ?_,by simp,⟨rfl,rfl,rfl⟩⟩
  simp only[Array.getElem?_modify]
  rw[if_neg (by omega)]
def z4j:q5b P 22 z9r:=by
 refine⟨Nat.le_refl _,by decide,Sen.enters_of Go.Proofs.Tryd.func22 (by kernel_rfl),λ(s:ByteArray)=> ?_⟩
 obtain⟨h0,e0,g1,g2⟩:=z5k (.cells 53 (some 0) false [.ptr 1 0, .ssl 2 0 s.size 1 3]) (.row 5 0 (q1c s))
 refine⟨h0, .e,e0,rfl,λF I w vs hv hs low zf hp _ fr hz=> ?_⟩
 obtain⟨hp1,hp2⟩:0<s.size/\s.size<1000000000:=hp
 cases hv with|cons hv1 hv2=>
 cases hv2
 cases hv1 with| @ptr _ _ b st tt hI=>
 obtain⟨ob,hb,ho⟩:=hs.obj 1 _ b (st,tt) g1 hI
 cases ho with| @cells _ elem' _ _ _ pre us rest frz hu hg hpl ht hf hE=>
 obtain⟨rfl,rfl⟩:=hg rfl
 have hst:st=0:=hpl.symm
 subst hst
 cases hu with|cons hu1 hu2=>
 cases hu1 with|ptr hu1=>
 cases hu2 with|cons hu2 hu3=>
 cases hu3
 cases hu2 with
 |ssl0 hz0=>omega
 | @ssl _ _ _ _ _ g s2 t2 c o x k1 k2 k3 k4 k5 k6=>
 have hc0:c≠0:=by omega
 have ho:s2=o:=by omega
 subst ho
 obtain⟨ob2,hb2,ho2⟩:=hs.obj 2 _ g (s2,t2) g2 k1
 have hfr:=hs.fr 2 _ g (s2,t2) g2 k1
 cases ho2 with| @row _ _ pre2 _ rest2 fr2 q1 q2 q3=>
 have q1:pre2.length=s2:=q1
 have hcl:=q34 s
 refine(zbb b g s2 c s w hp1 hp2 hc0 (pre2++(q1c s++rest2)).length (by simp[World.cell?,hb]) (by simp[World.shape?,hb2]) (by simp only[List.length_append];omega) λj x hj=> ?_).mono ?_
 ·rw[List.getElem?_map]at hj
  have hjs:j<s.size:=by
   rcases Nat.lt_or_ge j s.size with h|h
   ·exact h
   ·rw[List.getElem?_eq_none (by simpa using h)]at hj;cases hj
  have e1:=q9v hjs
  have e2:s.data.toList[j]? =some s[j]:=by rw[List.getElem?_eq_getElem (by simpa using hjs)];rfl
  rw[e2]at hj
  cases hj
  refine⟨UInt8.toNat_lt _,?_⟩
  simp only[World.cell?,hb2]
  rw[if_neg (by simp)]
  show(pre2++(q1c s++rest2)).toArray[s2+j]? =_
  rw[List.getElem?_toArray,List.getElem?_append_right (by omega),List.getElem?_append_left (by omega),show s2+j- pre2.length=j by omega,e1]
  rfl
 rintro e w' ⟨rfl,rfl⟩
 obtain⟨z1,z2,z3⟩:=z71 w.drew g s2 s.size
 refine⟨_,I,rfl, .sv _,⟨In.le_refl I,λ_ _ h=> .inl h,⟨λid o b' t h=> ?_,λid id' o o' b1 t1 t2 h=> ?_,λid o b' t h=> ?_⟩,λb' hb'=> ?_,Nat.le_of_eq z2.symm,⟨z3.1,z3.2,z3.3⟩⟩,trivial⟩
 ·rw[T.get_e]at h;cases h
 ·rw[T.get_e]at h;cases h
 ·rw[T.get_e]at h;cases h
 ·refine z1 b' λe=> ?_
  subst e
  have h:true=false:=(hfr hb').1
  cases h
def z06(a b:ByteArray):q1c (a++b)=q1c a++q1c b:=by
 unfold q1c
 rw[←List.map_append]
 congr 1
def z0x{c:Int} (h0:0<=c) (h1:c<256):q1c (mkS [c.toNat])=[.int .u8 c]:=by
 obtain⟨n,rfl⟩:=Int.eq_ofNat_of_zero_le h0
 have:n<256:=by omega
 unfold q1c mkS
 simp
 omega
def z00(a b:ByteArray):(a++b).size=a.size+b.size:=by simp
def z0c(c:Nat):(mkS [c]).size=1:=q0f [c]
def zb3{a:Nat} (h:a<1000000000):(a+1)*1<=140737488355328:=by omega
def z6n:q5b P 53 z4t:=by
 refine ql1 mixed (λg C h=>by cases h) (W:=λ_=>{}) Go.Proofs.Tryd.func53 (by kernel_rfl) (show 1<=4 by decide) (show 4<=4 by decide) (λs=>by kernel_rfl) λ(s:ByteArray)=>(z6m s).mpr ?_
 exactλ_=>⟨rfl,rfl,trivial⟩
def z1h:q5b P 53 z4s:=z5i z6l z6n rfl rfl
def z4g:q5b P 42 z2o:=by
 refine ql1 mixed (qdv (qhn z1h qkn)) (W:=λ_=>{}) Go.Proofs.Tryd.func42 (by kernel_rfl) (show 1<=4 by decide) (show 4<=6 by decide) (λs=>by kernel_rfl) λ(c:Int)=>(z4f c).mpr ?_
 rintro⟨h0,h1⟩
 refine⟨(),?_⟩
 repeat' apply And.intro
 all_goals first|rfl|trivial|omega| (rw[z0c])| (rw[z00,z0c])| (rw[z00])| (rw[z06,z0x h0 h1])| (rw[z0x h0 h1];rfl)| (rw[q34];omega)| (rw[z06])
def z4i:q5b P 42 z2p:=by
 refine ql1 mixed (qdv (qhn z1h qkn)) (W:=λ_=>{}) Go.Proofs.Tryd.func42 (by kernel_rfl) (show 1<=4 by decide) (show 4<=6 by decide) (λs=>by kernel_rfl) λ⟨s,(c:Int)⟩=>(z4h s c).mpr ?_
 rintro⟨hs,h0,h1⟩
 refine⟨s,?_⟩
 repeat' apply And.intro
 all_goals first|rfl|trivial|omega| (rw[z0c])|exact zb3 hs| (rw[z00,z0c])| (rw[z00])| (rw[z06,z0x h0 h1])| (rw[z0x h0 h1];rfl)| (rw[q34];omega)| (rw[z06])
def z1g:q5b P 42 z3c:=z5i z4g z4i rfl rfl
def z4l:q5b P 38 z2q:=by
 refine ql1 mixed (qdv (qhn z1h qkn)) (W:=λ_=>{}) Go.Proofs.Tryd.func38 (by kernel_rfl) (show 1<=4 by decide) (show 4<=6 by decide) (λs=>by kernel_rfl) λ(c:ByteArray)=>(z4k c).mpr ?_
 intro h
 refine⟨(),?_⟩
 repeat' apply And.intro
 all_goals first|rfl|trivial|omega| (rw[z00])| (rw[q34];omega)| (rw[z06])
def z4n:q5b P 38 z2r:=by
 refine ql1 mixed (qdv (qhn z1h qkn)) (W:=λ_=>{}) Go.Proofs.Tryd.func38 (by kernel_rfl) (show 1<=4 by decide) (show 4<=6 by decide) (λs=>by kernel_rfl) λ⟨s,c⟩=>(z4m s c).mpr ?_
 rintro⟨hs,hc⟩
 refine⟨s,?_⟩
 repeat' apply And.intro
 all_goals first|rfl|trivial|omega| (rw[z00])| (rw[q34];omega)| (rw[z06])
def z1i:q5b P 38 z3d:=z5i z4l z4n rfl rfl
def z5e:q5b P 56 z2u:=by
 refine ql1 mixed z0v (W:=λ_=>{}) Go.Proofs.Tryd.func56 (by kernel_rfl) (by decide) (by decide) (λs=>by kernel_rfl) λ(c:Int)=>(z5d c).mpr ?_
 rintro⟨h0,h1⟩
 obtain⟨n,rfl⟩:=Int.eq_ofNat_of_zero_le h0
 have h1:n<256:=by omega
 simp only[sbS,Int.toNat_natCast,exists_const]
 unfold ltF
 repeat' first|intro _|apply And.intro
 all_goals (repeat' split)<;>omega
def z7p:q5b P 68 z4y:=by
 refine ql1 mixed z0v (W:=λ_=>{}) Go.Proofs.Tryd.func68 (by kernel_rfl) (by decide) (by decide) (λs=>by kernel_rfl) λ(n:Int)=>(z7o n).mpr ?_
 rintro rfl
 refine⟨λ_=>⟨⟨by decide,by decide⟩,⟨by decide,by decide,by decide⟩,?_,trivial⟩,λh=>absurd h (by decide)⟩
 decide+kernel
def zad:q5b P 55 z9u:=by
 refine ql1 mixed (qdv (qhn z7p qkn)) (W:=λ_=>{}) Go.Proofs.Tryd.func55 (by kernel_rfl) (by decide) (by decide) (λs=>by kernel_rfl) λ(n:Int)=>(zac n).mpr ?_
 rintro rfl
 exact⟨λ_=>⟨λ_=>⟨λ_=>⟨rfl,rfl,rfl,trivial⟩,λh=>absurd h (by decide)⟩,λh=>absurd h (by decide)⟩,λh=>absurd h (by decide)⟩
def z93:q5b P 40 z9u:=by
 refine ql1 mixed (qdv (qhn zad qkn)) (W:=λ_=>{}) Go.Proofs.Tryd.func40 (by kernel_rfl) (by decide) (by decide) (λs=>by kernel_rfl) λ(n:Int)=>(zdm n).mpr ?_
 rintro rfl
 exact⟨rfl,rfl,rfl,rfl,trivial⟩
def zdz(c:Nat):(qb c).length<=6:=by unfold qb;split<;>(try split)<;>simp
def z2y(s:ByteArray):∀j,(qtL s j).length<=1+6*j
 |0=>by simp[qtL]
 |j+1=>by have:=z2y s j;have:=zdz (bat s j);rw[qtL,List.length_append];omega
def z2z{s:ByteArray} {i:Nat} {l:List Nat} (h:qb (bat s i)=l):mkS (qtL s (i+1))=mkS (qtL s i)++mkS l:=by rw[qa3,qtL,h]
def zg2:∀c:Nat,c<32->(0<=shP BinOp.shr .u8 (c:Int) 4/\shP BinOp.shr .u8 (c:Int) 4<16)/\(0<=qbh BinOp.and .u8 (c:Int) 15/\qbh BinOp.and .u8 (c:Int) 15<16)/\bat (mkS [48,49,50,51,52,53,54,55,56,57,97,98,99,100,101,102]) (Int.toNat (shP BinOp.shr .u8 (c:Int) 4))=hxd (c / 16)/\bat (mkS [48,49,50,51,52,53,54,55,56,57,97,98,99,100,101,102]) (Int.toNat (qbh BinOp.and .u8 (c:Int) 15))=hxd (c % 16):=by decide+kernel
def z95{n:Nat} (h:n<16):hxd n<256:=by unfold hxd;split<;>omega
def zdv{c:Nat} (h:c<256):ltF c<256:=by
 unfold ltF
 repeat' split
 all_goals omega
def z2d:q5b P 41 z26:=by
 refine ql1 mixed (qdv (qhn z1g (qhn z1i (qhn z4j (qhn z5e qkn))))) (W:=z9j) Go.Proofs.Tryd.func41 (by kernel_rfl) (by decide) (by decide) (λs=>by kernel_rfl) λ(s:ByteArray)=>(z5l s).mpr ?_
 intro hs
 simp only[sbS,Int.toNat_natCast,exists_const]
 refine⟨34,?_⟩
 simp only[sbS,Int.toNat_natCast,exists_const]
 refine⟨⟨by decide,by decide⟩,⟨0,rfl,rfl,rfl,Nat.zero_le _⟩,λi hi=>⟨λhlt=> ?_,λhge=> ?_⟩⟩
 ·have hi1:i<s.size:=by omega
  have hc:=z0u s i
  have hql:=z2y s i
  have hsz:(mkS (qtL s i)).size<600000000:=by rw[q0f];omega
  refine⟨⟨by omega,by omega⟩,⟨by omega,by omega⟩,λhL=> ?_,λhL=>⟨λh32=> ?_,λh32=> ?_⟩⟩
  ·have hL:ltF (bat s i)≠0:=by omega
   have hlt:=zdv hc
   have e:mkS (qtL s (i+1))=mkS (qtL s i)++mkS [92]++mkS [ltF (bat s i)]:=by
    rw[z2z (l:=[92,ltF (bat s i)]) (by unfold qb;rw[if_pos hL]),qa3,qa3,qa3];simp
   have z1:(mkS (qtL s i)++mkS [92]).size<700000000:=by rw[z00,z0c];omega
   refine⟨(mkS (qtL s i),92),rfl,rfl,rfl,⟨by show(mkS (qtL s i)).size<_;omega,by show(0:Int)<=92;decide,by show(92:Int)<256;decide⟩,(mkS (qtL s i)++mkS [92],(ltF (bat s i):Nat)),rfl,rfl,rfl,⟨by show(mkS (qtL s i)++mkS [92]).size<_;omega,by show(0:Int)<=(ltF (bat s i):Nat);omega,by show((ltF (bat s i):Nat):Int)<256;omega⟩,⟨by omega,by omega⟩,i+1,?_⟩
   rw[e]
   exact⟨by omega,rfl,rfl,by omega,by omega⟩
  ·have hL:ltF (bat s i)=0:=by omega
   have h32:bat s i<32:=by omega
   obtain⟨d1,d2,d3,d4⟩:=zg2 _ h32
   rw[d3,d4]
   have x1:=z95 (n:=bat s i / 16) (by omega)
   have x2:=z95 (n:=bat s i % 16) (by omega)
   have e:mkS (qtL s (i+1))=mkS (qtL s i)++mkS [92,117,48,48]++mkS [hxd (bat s i / 16)]++mkS [hxd (bat s i % 16)]:=by
    rw[z2z (l:=[92,117,48,48,hxd (bat s i / 16),hxd (bat s i % 16)]) (by unfold qb;rw[if_neg (λh=>h hL),if_pos h32]),qa3,qa3,qa3,qa3];simp
   have s4:(mkS [92,117,48,48]).size=4:=q0f _
   have z1:(mkS (qtL s i)++mkS [92,117,48,48]).size<700000000:=by rw[z00,s4];omega
   have z2:(mkS (qtL s i)++mkS [92,117,48,48]++mkS [hxd (bat s i / 16)]).size<800000000:=by rw[z00,z0c];omega
   refine⟨(mkS (qtL s i),mkS [92,117,48,48]),rfl,rfl,rfl,⟨by show(mkS (qtL s i)).size<_;omega,by show(mkS [92,117,48,48]).size<_;omega⟩,by decide,⟨d1.1,d1.2⟩,(mkS (qtL s i)++mkS [92,117,48,48],(hxd (bat s i / 16):Nat)),rfl,rfl,rfl,⟨by show(mkS (qtL s i)++mkS [92,117,48,48]).size<_;omega,by show(0:Int)<=(hxd (bat s i / 16):Nat);omega,by show((hxd (bat s i / 16):Nat):Int)<256;omega⟩,⟨d2.1,d2.2⟩,(mkS (qtL s i)++mkS [92,117,48,48]++mkS [hxd (bat s i / 16)],(hxd (bat s i % 16):Nat)),rfl,rfl,rfl,⟨by show(mkS (qtL s i)++mkS [92,117,48,48]++mkS [hxd (bat s i / 16)]).size<_;omega,by show(0:Int)<=(hxd (bat s i % 16):Nat);omega,by show((hxd (bat s i % 16):Nat):Int)<256;omega⟩,⟨by omega,by omega⟩,i+1,?_⟩
   rw[e]
   exact⟨by omega,rfl,rfl,by omega,by omega⟩
  ·have hL:ltF (bat s i)=0:=by omega
   have h32:¬bat s i<32:=by omega
   have e:mkS (qtL s (i+1))=mkS (qtL s i)++mkS [bat s i]:=z2z (by unfold qb;rw[if_neg (λh=>h hL),if_neg h32])
   refine⟨(mkS (qtL s i),(bat s i:Nat)),rfl,rfl,rfl,⟨by show(mkS (qtL s i)).size<_;omega,by show(0:Int)<=(bat s i:Nat);omega,by show((bat s i:Nat):Int)<256;omega⟩,⟨by omega,by omega⟩,i+1,?_⟩
   rw[e]
   exact⟨by omega,rfl,rfl,by omega,by omega⟩
 ·have hi1:i=s.size:=by omega
  have hql:=z2y s i
  have hsz:(mkS (qtL s i)).size<600000000:=by rw[q0f];omega
  refine⟨(mkS (qtL s i),34),rfl,rfl,rfl,⟨by show(mkS (qtL s i)).size<_;omega,by show(0:Int)<=34;decide,by show(34:Int)<256;decide⟩,mkS (qtL s i)++mkS [34],rfl,rfl,⟨by rw[z00,z0c];omega,by rw[z00,z0c];omega⟩,?_⟩
  unfold qtS
  rw[←hi1,qa3]
section
def z1u:∀t:DJ,1<=t.tx.length/\t.tx.length<=1+6*t.dep
 | .leaf=>⟨Nat.le_refl _,Nat.le_refl _⟩
 | .arr t=>by have:=z1u t;simp[DJ.tx,DJ.dep];omega
 | .tab t=>by have:=z1u t;simp[DJ.tx,DJ.dep];omega
def zha:qtS (mkS [97])=mkS [34,97,34]:=by decide+kernel
variable {g:GJ}
def z4z{u:DJ} (h:g.pj=(DJ.arr u).pj):g.k=5/\∃g1,g.l=[g1]/\g1.pj=u.pj:=by
  rw[GJ.pj_eq g,DJ.pj]at h
  injection h with hk hn hs hl hm
  refine⟨hk,?_⟩
  cases hg:g.l with
  |nil=>rw[hg]at hl;cases hl
  | cons g1 r=>
    rw[hg]at hl
    cases r with
    |nil=>injection hl with h1 _;exact⟨g1,rfl,h1⟩
    |cons _ _=>injection hl with _ h1;cases h1
def z51{u:DJ} (h:g.pj=(DJ.tab u).pj):g.k=6/\g.nm=[mkS [97]]/\∃g1,g.l=[g1]/\g1.pj=u.pj:=by
  rw[GJ.pj_eq g,DJ.pj]at h
  injection h with hk hn hs hl hm
  refine⟨hk,hm,?_⟩
  cases hg:g.l with
  |nil=>rw[hg]at hl;cases hl
  | cons g1 r=>
    rw[hg]at hl
    cases r with
    |nil=>injection hl with h1 _;exact⟨g1,rfl,h1⟩
    |cons _ _=>injection hl with _ h1;cases h1
def z3i(h:g.pj=DJ.leaf.pj):g.k=3/\g.n=0:=by
 rw[GJ.pj_eq g,DJ.pj]at h
 injection h with hk hn hs hl hm
 exact⟨hk,hn⟩
def z68(n:Nat) (hw:q5b P 21 (zd9.below zaz n)):q5b P 21 (zd9.below zaz (n+1)):=by
  refine ql1 mixed (qdv (qhn z1g (qhn z1i (qhn z2d (qhn z93 (qhn hw qkn)))))) (W:=z3v) Go.Proofs.Tryd.func21 (by kernel_rfl) (show 1<=4 by decide) (show 4<=6 by decide) (λs=>by kernel_rfl) λ⟨s,g,t⟩=>(z67 n s g t).mpr ?_
  rintro⟨hmu,hpj,hdep,hsz⟩ ⟨p,_,hg⟩
  have hmu:t.dep<n+1:=hmu
  have hG:∀q:Pub,g.ok q->slP GJ.cells g.y g.l q/\slP txV g.x g.nm q/\GJ.oks g.l q:=λq e=>by rw[←GJ.ok_eq];exact e
  simp only[sbS,Int.toNat_natCast,exists_const]
  cases t with
  | leaf=>
    obtain⟨hk,hn⟩:=z3i hpj
    have hsz:s.size+1<100000:=hsz
    refine⟨λh=>absurd (hk.symm.trans h) (by decide),λ_=>⟨λ_=>⟨hn,(s,mkS [48]),rfl,rfl,rfl,⟨by show s.size<_;omega,by show(mkS [48]).size<_;rw[z0c];omega⟩,rfl,rfl⟩,λh=>absurd hk h⟩⟩
  | arr u=>
    obtain⟨hk,g1,hl,h1⟩:=z4z hpj
    rw[hl]at hG
    have hlen:(DJ.arr u).tx.length=u.tx.length+2:=by simp[DJ.tx]
    rw[hlen]at hsz
    have hyl:g.y.2.1=1:=(hG p hg).1.1
    have hdu:u.dep<n:=Nat.lt_of_succ_lt_succ hmu
    have hd3:u.dep<=30:=Nat.le_of_succ_le hdep
    have z1:(s++mkS [91]).size=s.size+1:=by rw[z00,z0c]
    have e1:s++mkS [91]++mkS u.tx=s++mkS ([91]++u.tx):=by rw[ByteArray.append_assoc,qa3]
    have z2:(s++mkS ([91]++u.tx)).size=s.size+1+u.tx.length:=by rw[z00,q0f];simp;omega
    have e2:s++mkS ([91]++u.tx)++mkS [93]=s++mkS (DJ.arr u).tx:=by rw[ByteArray.append_assoc,qa3];rfl
    refine⟨λh=>absurd (hk.symm.trans h) (by decide),λ_=>⟨λh=>absurd (hk.symm.trans h) (by decide),λ_=>⟨λh=>absurd (hk.symm.trans h) (by decide),λ_=>⟨λ_=> ?_,λh=>absurd hk h⟩⟩⟩⟩
    refine⟨(s,91),rfl,rfl,rfl,⟨by show s.size<_;omega,by show(0:Int)<=91;decide,by show(91:Int)<256;decide⟩,⟨0,rfl,rfl,rfl,Nat.zero_le _⟩,λi hi=>⟨λhlt=> ?_,λhge=> ?_⟩⟩
    · obtain rfl:i=0:=by omega
      refine⟨⟨by omega,by omega⟩,(z02 z04 (by decide) (hG p hg).1 (i:=0) Nat.zero_lt_one).1,g1.k,g1.n,g1.s,g1.y.1,g1.y.2.1,g1.y.2.2,g1.x.1,g1.x.2.1,g1.x.2.2,λq hq=>(z02 z04 (by decide) (hG q hq).1 (i:=0) Nat.zero_lt_one).2,λh=>absurd h (by decide),λ_=> ?_⟩
      refine⟨(s++mkS [91],g1,u),rfl,rfl,rfl,rfl,rfl,rfl,rfl,rfl,rfl,rfl,rfl,⟨hdu,h1,hd3,by rw[z1];omega⟩,λq hq=>(hG q hq).2.2.1,⟨by omega,by omega⟩,1,rfl,?_⟩
      show(s++mkS ([91]++u.tx)).size=(s++mkS [91]++mkS u.tx).size/\q1c (s++mkS ([91]++u.tx))=q1c (s++mkS [91]++mkS u.tx)/\_
      rw[e1]
      exact⟨rfl,rfl,Nat.le_refl _,by omega⟩
    · obtain rfl:i=1:=by omega
      refine⟨(s++mkS ([91]++u.tx),93),rfl,rfl,rfl,⟨by show(s++mkS ([91]++u.tx)).size<_;omega,by show(0:Int)<=93;decide,by show(93:Int)<256;decide⟩,?_⟩
      show(s++mkS (DJ.arr u).tx).size=(s++mkS ([91]++u.tx)++mkS [93]).size/\q1c (s++mkS (DJ.arr u).tx)=q1c (s++mkS ([91]++u.tx)++mkS [93])
      rw[e2]
      exact⟨rfl,rfl⟩
  | tab u=>
    obtain⟨hk,hnm,g1,hl,h1⟩:=z51 hpj
    rw[hl,hnm]at hG
    have hlen:(DJ.tab u).tx.length=u.tx.length+6:=by simp[DJ.tx]
    rw[hlen]at hsz
    have hyl:g.y.2.1=1:=(hG p hg).1.1
    have hxl:g.x.2.1=1:=(hG p hg).2.1.1
    have hdu:u.dep<n:=Nat.lt_of_succ_lt_succ hmu
    have hd3:u.dep<=30:=Nat.le_of_succ_le hdep
    have z1:(s++mkS [123]).size=s.size+1:=by rw[z00,z0c]
    have q3:(mkS [34,97,34]).size=3:=q0f _
    have z3:(s++mkS [123]++mkS [34,97,34]).size=s.size+4:=by rw[z00,z1,q3]
    have z4:(s++mkS [123]++mkS [34,97,34]++mkS [58]).size=s.size+5:=by rw[z00,z3,z0c]
    have e1:s++mkS [123]++mkS [34,97,34]++mkS [58]++mkS u.tx=s++mkS ([123,34,97,34,58]++u.tx):=by rw[ByteArray.append_assoc,ByteArray.append_assoc,ByteArray.append_assoc,qa3,qa3,qa3];rfl
    have z2:(s++mkS ([123,34,97,34,58]++u.tx)).size=s.size+5+u.tx.length:=by rw[z00,q0f];simp;omega
    have e2:s++mkS ([123,34,97,34,58]++u.tx)++mkS [125]=s++mkS (DJ.tab u).tx:=by rw[ByteArray.append_assoc,qa3];rfl
    simp only[hxl,hyl,ite_self]
    refine⟨λh=>absurd (hk.symm.trans h) (by decide),λ_=>⟨λh=>absurd (hk.symm.trans h) (by decide),λ_=>⟨λh=>absurd (hk.symm.trans h) (by decide),λ_=>⟨λh=>absurd (hk.symm.trans h) (by decide),λ_=>⟨λ_=> ?_,λh=>absurd hk h⟩⟩⟩⟩⟩
    refine⟨(s,123),rfl,rfl,rfl,⟨by show s.size<_;omega,by show(0:Int)<=123;decide,by show(123:Int)<256;decide⟩,⟨0,rfl,rfl,rfl,Nat.zero_le _⟩,λi hi=>⟨λhlt=> ?_,λhge=> ?_⟩⟩
    · obtain rfl:i=0:=by omega
      refine⟨λh=>absurd h (by decide),λ_=>⟨⟨by omega,by omega⟩,(z02 z0f (by decide) (hG p hg).2.1 (i:=0) Nat.zero_lt_one).1,mkS [97],λq hq=>(z02 z0f (by decide) (hG q hq).2.1 (i:=0) Nat.zero_lt_one).2,by rw[z0c];omega,?_⟩⟩
      rw[zha]
      refine⟨(s++mkS [123],mkS [34,97,34]),rfl,rfl,rfl,⟨by show(s++mkS [123]).size<_;omega,by show(mkS [34,97,34]).size<_;omega⟩,(s++mkS [123]++mkS [34,97,34],58),rfl,rfl,rfl,⟨by show(s++mkS [123]++mkS [34,97,34]).size<_;omega,by show(0:Int)<=58;decide,by show(58:Int)<256;decide⟩,⟨by omega,by omega⟩,(z02 z04 (by decide) (hG p hg).1 (i:=0) Nat.zero_lt_one).1,g1.k,g1.n,g1.s,g1.y.1,g1.y.2.1,g1.y.2.2,g1.x.1,g1.x.2.1,g1.x.2.2,λq hq=>(z02 z04 (by decide) (hG q hq).1 (i:=0) Nat.zero_lt_one).2,?_⟩
      refine⟨(s++mkS [123]++mkS [34,97,34]++mkS [58],g1,u),rfl,rfl,rfl,rfl,rfl,rfl,rfl,rfl,rfl,rfl,rfl,⟨hdu,h1,hd3,by rw[z4];omega⟩,λq hq=>(hG q hq).2.2.1,⟨by omega,by omega⟩,1,rfl,?_⟩
      show(s++mkS ([123,34,97,34,58]++u.tx)).size=(s++mkS [123]++mkS [34,97,34]++mkS [58]++mkS u.tx).size/\q1c (s++mkS ([123,34,97,34,58]++u.tx))=q1c (s++mkS [123]++mkS [34,97,34]++mkS [58]++mkS u.tx)/\_
      rw[e1]
      exact⟨rfl,rfl,Nat.le_refl _,by omega⟩
    · obtain rfl:i=1:=by omega
      refine⟨(s++mkS ([123,34,97,34,58]++u.tx),125),rfl,rfl,rfl,⟨by show(s++mkS ([123,34,97,34,58]++u.tx)).size<_;omega,by show(0:Int)<=125;decide,by show(125:Int)<256;decide⟩,?_⟩
      show(s++mkS (DJ.tab u).tx).size=(s++mkS ([123,34,97,34,58]++u.tx)++mkS [125]).size/\q1c (s++mkS (DJ.tab u).tx)=q1c (s++mkS ([123,34,97,34,58]++u.tx)++mkS [125])
      rw[e2]
      exact⟨rfl,rfl⟩
end
def z45:q5b P 21 zd9:=Ct.of_below (μ:=zaz) λn=>by
 induction n with
 |zero=>exact Ct.below_zero (show 4<=6 by decide) (show 1<=4 by decide) (Sen.enters_of Go.Proofs.Tryd.func21 (by kernel_rfl)) λs=>⟨rfl,rfl⟩
 |succ n ih=>exact z68 n ih
def z66:q5b P 21 zg1:=by
  refine ql1 mixed (qdv (qhn z1g (qhn z1i (qhn z2d (qhn z93 (qhn z45 qkn)))))) (W:=z3v) Go.Proofs.Tryd.func21 (by kernel_rfl) (show 1<=4 by decide) (show 4<=6 by decide) (λs=>by kernel_rfl) λ⟨s,g,t⟩=>(z65 s g t).mpr ?_
  rintro⟨hs0,hpj,hdep,hsz⟩ ⟨p,_,hg⟩
  have hs0:s=mkS []:=hs0
  subst hs0
  have n91:mkS []++mkS [91]=mkS [91]:=by rw[qa3];rfl
  have n123:mkS []++mkS [123]=mkS [123]:=by rw[qa3];rfl
  have n48:mkS []++mkS [48]=mkS [48]:=by rw[qa3];rfl
  have n0:(mkS []).size=0:=q0f []
  have hG:∀q:Pub,g.ok q->slP GJ.cells g.y g.l q/\slP txV g.x g.nm q/\GJ.oks g.l q:=λq e=>by rw[←GJ.ok_eq];exact e
  simp only[sbS,Int.toNat_natCast,exists_const]
  cases t with
  | leaf=>
    obtain⟨hk,hn⟩:=z3i hpj
    have hsz:(mkS []).size+1<100000:=hsz
    refine⟨λh=>absurd (hk.symm.trans h) (by decide),λ_=>⟨λ_=>⟨hn,mkS [48],rfl,by rw[z0c];omega,by show(mkS []++mkS [48]).size=_;rw[n48],by show q1c (mkS []++mkS [48])=_;rw[n48]⟩,λh=>absurd hk h⟩⟩
  | arr u=>
    obtain⟨hk,g1,hl,h1⟩:=z4z hpj
    rw[hl]at hG
    have hlen:(DJ.arr u).tx.length=u.tx.length+2:=by simp[DJ.tx]
    rw[hlen]at hsz
    have hyl:g.y.2.1=1:=(hG p hg).1.1
    have hd3:u.dep<=30:=Nat.le_of_succ_le hdep
    have z1:(mkS []++mkS [91]).size=(mkS []).size+1:=by rw[z00,z0c]
    have e1:mkS []++mkS [91]++mkS u.tx=mkS []++mkS ([91]++u.tx):=by rw[ByteArray.append_assoc,qa3]
    have z2:(mkS []++mkS ([91]++u.tx)).size=(mkS []).size+1+u.tx.length:=by rw[z00,q0f ([91]++u.tx),List.length_append];show _+(1+_)=_;omega
    have e2:mkS []++mkS ([91]++u.tx)++mkS [93]=mkS []++mkS (DJ.arr u).tx:=by rw[ByteArray.append_assoc,qa3];rfl
    refine⟨λh=>absurd (hk.symm.trans h) (by decide),λ_=>⟨λh=>absurd (hk.symm.trans h) (by decide),λ_=>⟨λh=>absurd (hk.symm.trans h) (by decide),λ_=>⟨λ_=> ?_,λh=>absurd hk h⟩⟩⟩⟩
    refine⟨91,rfl,⟨by decide,by decide⟩,⟨0,rfl,by show(mkS []++mkS [91]).size=_;rw[n91];rfl,by show q1c (mkS []++mkS [91])=_;rw[n91];rfl,Nat.zero_le _⟩,λi hi=>⟨λhlt=> ?_,λhge=> ?_⟩⟩
    · obtain rfl:i=0:=by omega
      refine⟨⟨by omega,by omega⟩,(z02 z04 (by decide) (hG p hg).1 (i:=0) Nat.zero_lt_one).1,g1.k,g1.n,g1.s,g1.y.1,g1.y.2.1,g1.y.2.2,g1.x.1,g1.x.2.1,g1.x.2.2,λq hq=>(z02 z04 (by decide) (hG q hq).1 (i:=0) Nat.zero_lt_one).2,λh=>absurd h (by decide),λ_=> ?_⟩
      refine⟨(mkS []++mkS [91],g1,u),rfl,rfl,rfl,rfl,rfl,rfl,rfl,rfl,rfl,rfl,rfl,⟨h1,hd3,by rw[z1];omega⟩,λq hq=>(hG q hq).2.2.1,⟨by omega,by omega⟩,1,rfl,?_⟩
      show(mkS []++mkS ([91]++u.tx)).size=(mkS []++mkS [91]++mkS u.tx).size/\q1c (mkS []++mkS ([91]++u.tx))=q1c (mkS []++mkS [91]++mkS u.tx)/\_
      rw[e1]
      exact⟨rfl,rfl,Nat.le_refl _,by omega⟩
    · obtain rfl:i=1:=by omega
      refine⟨(mkS []++mkS ([91]++u.tx),93),rfl,rfl,rfl,⟨by show(mkS []++mkS ([91]++u.tx)).size<_;omega,by show(0:Int)<=93;decide,by show(93:Int)<256;decide⟩,?_⟩
      show(mkS []++mkS (DJ.arr u).tx).size=(mkS []++mkS ([91]++u.tx)++mkS [93]).size/\q1c (mkS []++mkS (DJ.arr u).tx)=q1c (mkS []++mkS ([91]++u.tx)++mkS [93])
      rw[e2]
      exact⟨rfl,rfl⟩
  | tab u=>
    obtain⟨hk,hnm,g1,hl,h1⟩:=z51 hpj
    rw[hl,hnm]at hG
    have hlen:(DJ.tab u).tx.length=u.tx.length+6:=by simp[DJ.tx]
    rw[hlen]at hsz
    have hyl:g.y.2.1=1:=(hG p hg).1.1
    have hxl:g.x.2.1=1:=(hG p hg).2.1.1
    have hd3:u.dep<=30:=Nat.le_of_succ_le hdep
    have z1:(mkS []++mkS [123]).size=(mkS []).size+1:=by rw[z00,z0c]
    have q3:(mkS [34,97,34]).size=3:=q0f _
    have z3:(mkS []++mkS [123]++mkS [34,97,34]).size=(mkS []).size+4:=by rw[z00,z1,q3]
    have z4:(mkS []++mkS [123]++mkS [34,97,34]++mkS [58]).size=(mkS []).size+5:=by rw[z00,z3,z0c]
    have e1:mkS []++mkS [123]++mkS [34,97,34]++mkS [58]++mkS u.tx=mkS []++mkS ([123,34,97,34,58]++u.tx):=by rw[ByteArray.append_assoc,ByteArray.append_assoc,ByteArray.append_assoc,qa3,qa3,qa3];rfl
    have z2:(mkS []++mkS ([123,34,97,34,58]++u.tx)).size=(mkS []).size+5+u.tx.length:=by rw[z00,q0f ([123,34,97,34,58]++u.tx),List.length_append];show _+(5+_)=_;omega
    have e2:mkS []++mkS ([123,34,97,34,58]++u.tx)++mkS [125]=mkS []++mkS (DJ.tab u).tx:=by rw[ByteArray.append_assoc,qa3];rfl
    simp only[hxl,hyl,ite_self]
    refine⟨λh=>absurd (hk.symm.trans h) (by decide),λ_=>⟨λh=>absurd (hk.symm.trans h) (by decide),λ_=>⟨λh=>absurd (hk.symm.trans h) (by decide),λ_=>⟨λh=>absurd (hk.symm.trans h) (by decide),λ_=>⟨λ_=> ?_,λh=>absurd hk h⟩⟩⟩⟩⟩
    refine⟨123,rfl,⟨by decide,by decide⟩,⟨0,rfl,by show(mkS []++mkS [123]).size=_;rw[n123];rfl,by show q1c (mkS []++mkS [123])=_;rw[n123];rfl,Nat.zero_le _⟩,λi hi=>⟨λhlt=> ?_,λhge=> ?_⟩⟩
    · obtain rfl:i=0:=by omega
      refine⟨λh=>absurd h (by decide),λ_=>⟨⟨by omega,by omega⟩,(z02 z0f (by decide) (hG p hg).2.1 (i:=0) Nat.zero_lt_one).1,mkS [97],λq hq=>(z02 z0f (by decide) (hG q hq).2.1 (i:=0) Nat.zero_lt_one).2,by rw[z0c];omega,?_⟩⟩
      rw[zha]
      refine⟨(mkS []++mkS [123],mkS [34,97,34]),rfl,rfl,rfl,⟨by show(mkS []++mkS [123]).size<_;omega,by show(mkS [34,97,34]).size<_;omega⟩,(mkS []++mkS [123]++mkS [34,97,34],58),rfl,rfl,rfl,⟨by show(mkS []++mkS [123]++mkS [34,97,34]).size<_;omega,by show(0:Int)<=58;decide,by show(58:Int)<256;decide⟩,⟨by omega,by omega⟩,(z02 z04 (by decide) (hG p hg).1 (i:=0) Nat.zero_lt_one).1,g1.k,g1.n,g1.s,g1.y.1,g1.y.2.1,g1.y.2.2,g1.x.1,g1.x.2.1,g1.x.2.2,λq hq=>(z02 z04 (by decide) (hG q hq).1 (i:=0) Nat.zero_lt_one).2,?_⟩
      refine⟨(mkS []++mkS [123]++mkS [34,97,34]++mkS [58],g1,u),rfl,rfl,rfl,rfl,rfl,rfl,rfl,rfl,rfl,rfl,rfl,⟨h1,hd3,by rw[z4];omega⟩,λq hq=>(hG q hq).2.2.1,⟨by omega,by omega⟩,1,rfl,?_⟩
      show(mkS []++mkS ([123,34,97,34,58]++u.tx)).size=(mkS []++mkS [123]++mkS [34,97,34]++mkS [58]++mkS u.tx).size/\q1c (mkS []++mkS ([123,34,97,34,58]++u.tx))=q1c (mkS []++mkS [123]++mkS [34,97,34]++mkS [58]++mkS u.tx)/\_
      rw[e1]
      exact⟨rfl,rfl,Nat.le_refl _,by omega⟩
    · obtain rfl:i=1:=by omega
      refine⟨(mkS []++mkS ([123,34,97,34,58]++u.tx),125),rfl,rfl,rfl,⟨by show(mkS []++mkS ([123,34,97,34,58]++u.tx)).size<_;omega,by show(0:Int)<=125;decide,by show(125:Int)<256;decide⟩,?_⟩
      show(mkS []++mkS (DJ.tab u).tx).size=(mkS []++mkS ([123,34,97,34,58]++u.tx)++mkS [125]).size/\q1c (mkS []++mkS (DJ.tab u).tx)=q1c (mkS []++mkS ([123,34,97,34,58]++u.tx)++mkS [125])
      rw[e2]
      exact⟨rfl,rfl⟩
def z7i:q5b P 11 z4x:=by
 refine ql1 mixed (qdv (qhn z4j (qhn z66 qkn))) (W:=λ_=>{}) Go.Proofs.Tryd.func11 (by kernel_rfl) (show 1<=1 by decide) (show 1<=1 by decide) (λs=>by kernel_rfl) λ⟨g,t⟩=>(z7h g t).mpr ?_
 rintro⟨hpj,hdep⟩ ⟨p,_,hg⟩
 have hl:=z1u t
 have e:mkS []++mkS t.tx=mkS t.tx:=by rw[qa3];rfl
 have z:(mkS t.tx).size=t.tx.length:=q0f _
 have n0:(mkS []).size=0:=q0f []
 refine⟨(mkS [],g,t),?_⟩
 repeat' apply And.intro
 all_goals first|rfl|exact hpj|exact hdep| (intro q hq;exact hq.2)|skip
 ·show(mkS []).size+t.tx.length<100000
  omega
 ·refine⟨mkS t.tx,by show _=(mkS []++mkS t.tx).size;rw[e],by show _=q1c (mkS []++mkS t.tx);rw[e],⟨by omega,by omega⟩,rfl,trivial⟩
def z2e:List Int->List Value
 | []=>[]
 |b::l=> .int .u8 b::z2e l
def byP(x:SV) (L:List Int) (p:Pub):Prop:=x.2.1=L.length/\qhq p x.1 x.2.1 x.2.2 (z2e L)
def byM(x:SV) (L:List Int):PF:=⟨true,byP x L,λ_ _ h e=>⟨e.1,q55 h e.2⟩⟩
abbrev LdS:=SV×List Int
def zma(x:SV) (L:List Int):PF:=⟨true,λp=>byP x L p/\erP p,λq r h e=>⟨(byM x L).mono q r h e.1,erM.mono q r h e.2⟩⟩
def zdk:Ct:=cPl LdS (λ⟨x,L⟩=>[svA x]) (λ⟨x,L⟩=>L.length<9223372036854775808/\∀b∈L,0<=b/\b<256) (λ⟨x,L⟩=>zma x L) λ_=> .sv (.bool true)
def zge(h:T AO) (vb:Nat) (g:GJ):AO:=match h.get vb with
 |some (.cells e f gr _)=> .cells e f gr [.sv (.int .i64 g.k), .sv (.int .i64 g.n), .sv (.string g.s), .sv (.slice g.y.1 g.y.2.1 g.y.2.2), .sv (.slice g.x.1 g.x.2.1 g.x.2.2)]
 |_=> .map [] 0
def zeg:LdS->WayF:=λ⟨x,L⟩=>{
 pub:=λi k=>match i,k with
  |12,2=>[30]
  |14,3=>[35,37]
  |_,_=>[]
 ann:=λ_ tt hh=>match zdy tt 4 with
  |some vb=>some {σ:=Nat×DJ×GJ,pre:=λ⟨i,t,g⟩=>i<=L.length/\t.dep=i/\g.pj=t.pj,mem:=λ⟨i,t,g⟩=>gjM g,t:=λ⟨i,t,g⟩=>[(5, .sv (.int .i64 (i:Nat))),(3, .sv (.string (mkS t.tx)))],h:=λ⟨i,t,g⟩=>[(vb,zge hh vb g)],more:=60,μ:=λ⟨i,t,g⟩=>L.length- i,keep:=[0,4]}
  |none=>none}
section
variable (x0:SV) (x1:List Int) (x2:Nat×DJ×GJ) (x3:GJ×Int) (x4 x5 x6 x7:Nat) (x8:Nat->Option Obj) (x9:GJ×DJ) (x10:Prop) (x11:Nat×DJ×GJ) (x12:Int)
 abbrev z22:=True/\byP x0 x1 x8/\erP x8
 abbrev z6j:=(↑x0.2.1:Int)
 def z8v:=x0.1=x0.1/\x0.2.1=x0.2.1/\x0.2.2=x0.2.2/\x10
 def zd7:=(GJ.x x2.2.2).1=noA/\(GJ.x x2.2.2).2.1=0/\(GJ.x x2.2.2).2.2=0/\x10
 def z6i:=x2.1<=length x1/\DJ.dep x2.2.1=x2.1/\GJ.pj x2.2.2=DJ.pj x2.2.1
 def z0w:=(z22 x0 x1 x8)/\GJ.ok x2.2.2 x8
 abbrev zd5:=q3g x8 (Addr.mk x4 x5 none) [int i64 (GJ.k x2.2.2),int i64 (GJ.n x2.2.2),string (GJ.s x2.2.2),slice (GJ.y x2.2.2).1 (GJ.y x2.2.2).2.1 (GJ.y x2.2.2).2.2,slice (GJ.x x2.2.2).1 (GJ.x x2.2.2).2.1 (GJ.x x2.2.2).2.2]
 abbrev zd8:=Jb ((↑x2.1:Int)+1)
 def zd6:=(↑x2.1:Int)=(↑x11.1:Int)+1/\GJ.k x2.2.2=x12/\GJ.n x2.2.2=0/\GJ.s x2.2.2=mkS []/\(GJ.y x2.2.2).1=some (Addr.mk x4 (x5+nat_lit 0) none)/\(GJ.y x2.2.2).2.1=nat_lit 1/\(GJ.y x2.2.2).2.2=nat_lit 1/\x10
 def z6h:=∀(i0:Nat) (i1:Value),[int i64 (GJ.k x2.2.2),int i64 (GJ.n x2.2.2),string (GJ.s x2.2.2),slice (GJ.y x2.2.2).1 (GJ.y x2.2.2).2.1 (GJ.y x2.2.2).2.2,slice (GJ.x x2.2.2).1 (GJ.x x2.2.2).2.1 (GJ.x x2.2.2).2.2][i0]? =some i1->q6f x8 (Addr.add (Addr.mk x4 x5 none) i0)=some i1
 def zfk:=zd8 x2/\∃(i0:Nat×DJ×GJ),z8v x0 (mkS (DJ.tx i0.2.1)=mkS [91]++mkS (DJ.tx x2.2.1)++mkS [93]/\zd6 i0 x4 x5 (zd7 i0 ((∀i1,((z0w x0 x1 x2 i1)/\z6h x2 x4 x5 i1)->z22 x0 x1 i1)/\(∀i4,((z0w x0 x1 x2 i4)/\z6h x2 x4 x5 i4)->GJ.ok i0.2.2 i4)/\(z6i x1 i0)/\length x1- i0.1<length x1- x2.1/\True)) x2 5)
 def zm8:=size (mkS [91])+size (mkS (DJ.tx x2.2.1))<=9223372036854775807/\size (mkS [91]++mkS (DJ.tx x2.2.1))+size (mkS [93])<=9223372036854775807/\∀(i0 i1 i2:Nat),(∃i3,(z0w x0 x1 x2 i3)/\zd5 x2 i0 i1 i3)->zfk x0 x1 x2 i0 i1
 def z8w:=((z0w x0 x1 x2 x8)/\∀(i0:Nat) (i1:Value),[string (mkS [97])][i0]? =some i1->q6f x8 (Addr.add (Addr.mk x4 x5 none) i0)=some i1)
 def zfj:=zd8 x2/\∃(i0:Nat×DJ×GJ),z8v x0 (mkS (DJ.tx i0.2.1)=mkS [123,34,97,34,58]++mkS (DJ.tx x2.2.1)++mkS [125]/\zd6 i0 x4 x5 ((GJ.x i0.2.2).1=some (Addr.mk x6 (x7+nat_lit 0) none)/\(GJ.x i0.2.2).2.1=nat_lit 1/\(GJ.x i0.2.2).2.2=nat_lit 1/\(∀i1,(z8w x0 x1 x2 x6 x7 i1/\z6h x2 x4 x5 i1)->z22 x0 x1 i1)/\(∀i6,(z8w x0 x1 x2 x6 x7 i6/\z6h x2 x4 x5 i6)->GJ.ok i0.2.2 i6)/\(z6i x1 i0)/\length x1- i0.1<length x1- x2.1/\True) x2 6)
 def zm6:=size (mkS [123,34,97,34,58])+size (mkS (DJ.tx x2.2.1))<=9223372036854775807/\size (mkS [123,34,97,34,58]++mkS (DJ.tx x2.2.1))+size (mkS [125])<=9223372036854775807/\∀(i0 i1 i2:Nat),(∃i3,(z0w x0 x1 x2 i3)/\q3g i3 (Addr.mk i0 i1 none) [string (mkS [97])])->∀(i4 i5 i6:Nat),(∃i7,z8w x0 x1 x2 i0 i1 i7/\zd5 x2 i4 i5 i7)->zfj x0 x1 x2 i4 i5 i0 i1
 def zm3:=(0<=(↑x2.1:Int)/\(↑x2.1:Int)<(z6j x0))/\x0.1≠noA/\∃(i0:Int),(∀i1,z0w x0 x1 x2 i1->q3g i1 (adr x0.1 (toNat (↑x2.1:Int)*1)) [int u8 i0])/\(2:Int)≠0/\Ji (Int.tmod i0 (2:Int)=0) (zm8 x0 x1 x2) (zm6 x0 x1 x2)
 def z8u:=GJ.k x9.1=GJ.k x2.2.2/\GJ.n x9.1=GJ.n x2.2.2/\GJ.s x9.1=GJ.s x2.2.2/\(GJ.y x9.1).1=(GJ.y x2.2.2).1/\(GJ.y x9.1).2.1=(GJ.y x2.2.2).2.1/\(GJ.y x9.1).2.2=(GJ.y x2.2.2).2.2/\(GJ.x x9.1).1=(GJ.x x2.2.2).1/\(GJ.x x9.1).2.1=(GJ.x x2.2.2).2.1/\(GJ.x x9.1).2.2=(GJ.x x2.2.2).2.2/\x10
 def z8x:=(∀i0,(z0w x0 x1 x2 i0)/\GJ.ok x3.1 i0->GJ.ok x9.1 i0)
 def zfm:=Ji (GJ.k x3.1=0) (∃(i0:GJ×DJ),z8u x2 i0 (GJ.pj i0.1=DJ.pj i0.2/\z8x x0 x1 x2 x3 i0/\true= !decide (DJ.dep i0.2<=20)/\True)) (true=false/\True)
 def zfl:=Ji (x3.2=3) (zfm x0 x1 x2 x3) (true=false/\True)
 def zm7:=Ji (x3.2=0) (∃(i0:GJ×GJ),GJ.k i0.1=GJ.k x3.1/\GJ.n i0.1=GJ.n x3.1/\GJ.s i0.1=GJ.s x3.1/\(GJ.y i0.1).1=(GJ.y x3.1).1/\(GJ.y i0.1).2.1=(GJ.y x3.1).2.1/\(GJ.y i0.1).2.2=(GJ.y x3.1).2.2/\(GJ.x i0.1).1=(GJ.x x3.1).1/\(GJ.x i0.1).2.1=(GJ.x x3.1).2.1/\(GJ.x i0.1).2.2=(GJ.x x3.1).2.2/\GJ.k i0.2=GJ.k x2.2.2/\GJ.n i0.2=GJ.n x2.2.2/\GJ.s i0.2=GJ.s x2.2.2/\(GJ.y i0.2).1=(GJ.y x2.2.2).1/\(GJ.y i0.2).2.1=(GJ.y x2.2.2).2.1/\(GJ.y i0.2).2.2=(GJ.y x2.2.2).2.2/\(GJ.x i0.2).1=(GJ.x x2.2.2).1/\(GJ.x i0.2).2.1=(GJ.x x2.2.2).2.1/\(GJ.x i0.2).2.2=(GJ.x x2.2.2).2.2/\(GJ.pj i0.1=GJ.pj i0.2/\PJ.sm (GJ.pj i0.1))/\(∀i1,(z0w x0 x1 x2 i1)/\GJ.ok x3.1 i1->GJ.ok i0.1 i1/\GJ.ok i0.2 i1)/\(true=true->∃(i2:GJ×DJ),z8u x2 i2 (GJ.pj i2.1=DJ.pj i2.2/\z8x x0 x1 x2 x3 i2/\Ji (DJ.dep i2.2<=20) (∃(i4:GJ×DJ),z8u x2 i4 ((GJ.pj i4.1=DJ.pj i4.2/\DJ.dep i4.2<=30)/\z8x x0 x1 x2 x3 i4/\true=decide (mkS (DJ.tx i4.2)=mkS (DJ.tx x2.2.1))/\True)) (true=false/\True)))/\(true=false->true=false/\True)) (true=false/\True)
 def zm5:=Ji (20<(z6j x0)) (zfl x0 x1 x2 x3) (zm7 x0 x1 x2 x3)
 def zm4:=mkS (DJ.tx x2.2.1)=mkS (DJ.tx x2.2.1)/\size (mkS (DJ.tx x2.2.1))<=10000/\(∀i0,z0w x0 x1 x2 i0->erP i0)/\∀(i1:GJ×Int),paP (mkS (DJ.tx x2.2.1)) i1->(∃i2,(z0w x0 x1 x2 i2)/\GJ.ok i1.1 i2)->zm5 x0 x1 x2 i1
 def zm2:=Ji ((↑x2.1:Int)<(z6j x0)) (zm3 x0 x1 x2) (zm4 x0 x1 x2)
 def zm1:=(∃(i0:Nat×DJ×GJ),z8v x0 (mkS (DJ.tx i0.2.1)=mkS [48]/\(↑i0.1:Int)=0/\GJ.k i0.2.2=3/\GJ.n i0.2.2=0/\GJ.s i0.2.2=mkS []/\(GJ.y i0.2.2).1=noA/\(GJ.y i0.2.2).2.1=0/\(GJ.y i0.2.2).2.2=0/\zd7 i0 ((∀i1,z22 x0 x1 i1->z22 x0 x1 i1)/\(∀i2,z22 x0 x1 i2->GJ.ok i0.2.2 i2)/\(z6i x1 i0)/\True)))/\∀(i3:Nat×DJ×GJ),z6i x1 i3->(∃i4,z0w x0 x1 i3 i4)->zm2 x0 x1 i3
 def zm0:=Ji (30<(z6j x0)) (true=true/\True) (zm1 x0 x1)
 def zlz:=True/\(∀i0,z22 x0 x1 i0->erP i0)/\((!true)=true->true=false/\True)/\((!true)=false->zm0 x0 x1)
end
def z75(x:SV) (L:List Int):ql0 P (qg8 [(5,z2s),(10,z10),(9,z9y),(11,z4x)]) (qhc [(6,z4w)]) Go.Proofs.Tryd.f4 zdk (zeg) ⟨x,L⟩=((length L<9223372036854775808/\∀(b:Int),b∈L->0<=b/\b<256)->(∃(p:Pub),z22 x L p)->zlz x L):=by kernel_rfl
def zag:=λx L=>Eq.trans (z75 x L) (by delta Ji Jb Jt Jf z22 z6j z8v zd7 z6i z0w zd5 zd8 zd6 z6h zfk zm8 z8w zfj zm6 zm3 z8u z8x zfm zfl zm7 zm5 zm4 zm2 zm1 zm0 zlz;exact rfl)
section
def z50:∀t:DJ,t.pj.sm
 | .leaf=>by unfold DJ.pj PJ.sm PJ.sms;exact⟨by decide,by decide,trivial⟩
 | .arr t=>by unfold DJ.pj PJ.sm PJ.sms PJ.sms;exact⟨by show 1<_;decide,by decide,z50 t,trivial⟩
 | .tab t=>by unfold DJ.pj PJ.sm PJ.sms PJ.sms;exact⟨by show 1<_;decide,by show 1<_;decide,z50 t,trivial⟩
variable {α:Type} {p:Pub}
def z5q{cells:α->List Value} {b s:Nat} {a:α} (h:q3g p ⟨b,s,none⟩ (cells a)):slP cells (some ⟨b,s+0,none⟩,1,1) [a] p:=
 ⟨rfl,Nat.le_refl _, .inr ⟨⟨b,s,none⟩,rfl,rfl,by show q3g p _ (cells a++[]);rw[List.append_nil];exact h⟩⟩
def z31{cells:α->List Value}:slP cells (none,0,0) [] p:=⟨rfl,Nat.le_refl _, .inl ⟨rfl,trivial⟩⟩
def u8V(b:Int):List Value:=[.int .u8 b]
def ze8(b:Int):(u8V b).length=1:=rfl
def z5m:∀L:List Int,z2e L=z01 u8V L
 | []=>rfl
 |b::L=>by rw[z2e,z01,z5m L];rfl
def zg0{x:SV} {L:List Int} (h:byP x L p):slP u8V x L p:=⟨h.1,by rw[←z5m];exact h.2⟩
def zah(hb:q5b P 5 z2s):q5b P 4 zdk:=by
 refine qka mixed (qdv (qhn hb (qhn z5p (qhn zat (qhn z7i qkn))))) (qel (qhm zb6 qkm)) (W:=zeg) Go.Proofs.Tryd.func4 (by kernel_rfl) (by decide) (by decide) (λs=>by kernel_rfl) λ⟨(x:SV),L⟩=>(zag x L).mpr ?_
 rintro⟨hL,hb8⟩ ⟨p0,_,hx0,he0⟩
 have hxl:x.2.1=L.length:=hx0.1
 simp only[sbS,Int.toNat_natCast,exists_const]
 refine⟨λp hp=>hp.2,λ_ h30=> ?_⟩
 rw[hxl]at h30⊢
 have h30:L.length<=30:=by omega
 refine⟨⟨(0, .leaf, .mk 3 0 (mkS []) (none,0,0) [] (none,0,0) []),rfl,rfl,rfl,rfl,rfl,rfl,rfl,rfl,rfl,rfl,rfl,λp hp=>⟨z31,z31,trivial⟩,Nat.zero_le _,rfl,rfl⟩,?_⟩
 rintro⟨i,t,g⟩ ⟨hi,hdep,hpj⟩ ⟨p1,_,hg1⟩
 have hi:i<=L.length:=hi
 have hdep:t.dep=i:=hdep
 have hpj:g.pj=t.pj:=hpj
 have htl:=z1u t
 have hts:(mkS t.tx).size=t.tx.length:=q0f _
 have s1:∀c,(mkS [c]).size=1:=z0c
 have s5:(mkS [123,34,97,34,58]).size=5:=q0f _
 refine⟨λhlt=> ?_,λhge=> ?_⟩
 ·have hi1:i<L.length:=by omega
  have hB:=λq (hq:byP x L q)=>z02 ze8 (by decide) (zg0 hq) hi1
  refine⟨⟨by omega,by omega⟩,(hB p0 hx0).1,L[i],λq hq=>(hB q hq.1.1).2,by decide,λ_=>⟨by rw[s1,hts];omega,by rw[z00,s1,s1,hts];omega,?_⟩,λ_=>⟨by rw[s5,hts];omega,by rw[z00,s5,s1,hts];omega,?_⟩⟩
  ·rintro b s u _
   refine⟨⟨by omega,by omega⟩,(i+1, .arr t, .mk 5 0 (mkS []) (some ⟨b,s+0,none⟩,1,1) [g] (none,0,0) []),?_,by omega,rfl,rfl,rfl,rfl,rfl,rfl,rfl,rfl,rfl,λq hq=>hq.1.1,λq hq=>⟨z5q (cells:=GJ.cells) (a:=g) hq.2,z31,hq.1.2,trivial⟩,⟨hi1,?_,?_⟩,?_⟩
   ·show mkS ([91]++t.tx++[93])=_
    rw[qa3,qa3]
   ·show t.dep+1=i+1
    omega
   ·show PJ.mk 5 0 (mkS []) (GJ.pjs [g]) []=PJ.mk 5 0 (mkS []) [t.pj] []
    rw[GJ.pjs_map]
    show PJ.mk 5 0 (mkS []) [g.pj] []=_
    rw[hpj]
   ·show L.length- (i+1)<L.length- i
    omega
  ·rintro b1 s1' u1 _ b s u _
   refine⟨⟨by omega,by omega⟩,(i+1, .tab t, .mk 6 0 (mkS []) (some ⟨b,s+0,none⟩,1,1) [g] (some ⟨b1,s1'+0,none⟩,1,1) [mkS [97]]),?_,by omega,rfl,rfl,rfl,rfl,rfl,rfl,rfl,rfl,rfl,λq hq=>hq.1.1.1,λq hq=>⟨z5q (cells:=GJ.cells) (a:=g) hq.2,z5q (cells:=txV) (a:=mkS [97]) hq.1.2,hq.1.1.2,trivial⟩,⟨hi1,?_,?_⟩,?_⟩
   ·show mkS ([123,34,97,34,58]++t.tx++[125])=_
    rw[qa3,qa3]
   ·show t.dep+1=i+1
    omega
   ·show PJ.mk 6 0 (mkS []) (GJ.pjs [g]) [mkS [97]]=PJ.mk 6 0 (mkS []) [t.pj] [mkS [97]]
    rw[GJ.pjs_map]
    show PJ.mk 6 0 (mkS []) [g.pj] [mkS [97]]=_
    rw[hpj]
   ·show L.length- (i+1)<L.length- i
    omega
 ·have hi1:i=L.length:=by omega
  refine⟨by rw[hts];omega,λq hq=>hq.1.2,?_⟩
  rintro⟨g2,e⟩ hpa ⟨p2,_,hg2⟩
  unfold paP at hpa
  rw[z74]at hpa
  by_cases hd:t.dep<=20
  ·rw[if_pos hd]at hpa
   obtain⟨he,hg2p⟩:e=0/\g2.pj=t.pj:=hpa
   subst he
   refine⟨λh=>by omega,λ_=>⟨λ_=>⟨(g2,g),rfl,rfl,rfl,rfl,rfl,rfl,rfl,rfl,rfl,rfl,rfl,rfl,rfl,rfl,rfl,rfl,rfl,rfl,⟨hg2p.trans hpj.symm,?_⟩,λq hq=>⟨hq.2,hq.1.2⟩,?_⟩,λh=>absurd rfl h⟩⟩
   ·show g2.pj.sm
    rw[hg2p];exact z50 t
   ·refineλ_=>⟨(g,t),rfl,rfl,rfl,rfl,rfl,rfl,rfl,rfl,rfl,hpj,λq hq=>hq.1.2,λ_=>⟨(g,t),rfl,rfl,rfl,rfl,rfl,rfl,rfl,rfl,rfl,⟨hpj,by show t.dep<=30;omega⟩,λq hq=>hq.1.2,(decide_eq_true rfl).symm⟩,λh=>absurd hd h⟩
  ·rw[if_neg hd]at hpa
   obtain⟨he,_,hg2p⟩:e=((3:Nat):Int)/\3≠0/\g2.pj=zak:=hpa
   have he:e=3:=he
   subst he
   refine⟨λ_=>⟨λ_=>⟨λ_=>⟨(g,t),rfl,rfl,rfl,rfl,rfl,rfl,rfl,rfl,rfl,hpj,λq hq=>hq.1.2,?_⟩,λh=> ?_⟩,λh=>absurd rfl h⟩,λh=>by omega⟩
   ·show true= !decide (t.dep<=20)
    rw[decide_eq_false hd];rfl
   ·refine absurd ?_ h
    rw[GJ.pj_eq,zak]at hg2p
    injection hg2p
end
section
def z3o:∀(L:List Int) {i:Nat} (hi:i<L.length),(z2e L)[i]? =some (.int .u8 L[i])
  |b::L,0,_=>rfl
  | b::L,i+1,hi=>by
    show(z2e L)[i]? =_
    rw[z3o L (i:=i) (by simpa using hi)];rfl
abbrev zgg(w:World):Pub:=q13 (λ_ b=>b<w.heap.size) w
variable {w:World}
def z3h{a:Addr} {v:Value} (h:w.cell? a=some v):q6f (zgg w) a=some v/\a.spot=none:=by
  unfold World.cell? at h
  cases ho:w.heap[a.block]? with
  |none=>rw[ho]at h;cases h
  | some o=>
    have hlt:a.block<w.heap.size:=(Array.getElem?_eq_some_iff.1 ho).1
    have hp:zgg w a.block=some o:=q04.2 ⟨hlt,ho⟩
    rw[ho]at h
    unfold q6f
    rw[hp]
    cases o<;>simp only at h<;>first|cases h|skip
    cases hs:a.spot with
    |none=>rw[hs]at h;simp[qbl,hs]at h⊢;exact h
    |some k=>rw[hs]at h;simp at h
def zdi(w:World) (a:Option Addr) (len cap:Nat) (z:List Int):Prop:=(a=none/\len=0/\cap=0/\z=[])\/∃x,a=some x/\len<=cap/\cap<=maxLen/\z.length=cap/\(∀i,i<z.length->w.cell? (x.add i)=some (.int .u8 (z.getD i 0)))/\∀n∈z,(Lit.int .u8 n).wf=true
def z2f:∀L:List Int,(z2e L).length=L.length
 | []=>rfl
 |b::L=>by rw[z2e,List.length_cons,List.length_cons,z2f L]
def ze0{a:Option Addr} {len cap:Nat} {z:List Int} (h:zdi w a len cap z):∃L:List Int,byP (a,len,cap) L (zgg w)/\L.length<9223372036854775808/\∀b∈L,0<=b/\b<256:=by
 rcases h with⟨rfl,rfl,rfl,rfl⟩|⟨x,rfl,hl,hm,hz,hc,hw⟩
 ·exact⟨[],⟨rfl,Nat.le_refl _, .inl ⟨rfl,z4e⟩⟩,by simp,λb hb=>by cases hb⟩
 have hlen:(z.take len).length=len:=by rw[List.length_take];omega
 have hat:∀(i:Nat) (hi:i<(z.take len).length),w.cell? (x.add i)=some (.int .u8 (z.take len)[i]):=λi hi=>by
  have hiz:i<z.length:=by omega
  have:=hc i hiz
  rw[List.getD_eq_getElem?_getD,List.getElem?_eq_getElem hiz]at this
  simpa using this
 refine⟨z.take len,⟨hlen.symm,hl,?_⟩,by unfold maxLen at hm;omega,λb hb=> ?_⟩
 ·by_cases h0:z.take len=[]
  ·rw[h0];exact .inl ⟨rfl,trivial⟩
  ·have hpos:0<(z.take len).length:=List.length_pos_iff.2 h0
   have e0:x.add 0=x:=by unfold Addr.add;rw[if_pos rfl]
   have hp0:=z3h (hat 0 hpos)
   rw[e0]at hp0
   refine .inr ⟨x,rfl,hp0.2,λj v hj=> ?_⟩
   have hjl:j<(z.take len).length:=by
    have:=(List.getElem?_eq_some_iff.1 hj).1
    rw[z2f]at this;exact this
   rw[z3o _ hjl]at hj
   rw[(z3h (hat j hjl)).1,←hj]
 ·have hw:=hw b (List.mem_of_mem_take hb)
  simp only[Lit.wf,Bool.and_eq_true,decide_eq_true_eq]at hw
  have h1:IntKind.min .u8=0:=by decide
  have h2:IntKind.max .u8=255:=by decide
  omega
def jsonDeep_wf(h:∀w,Two w->Calls P 5 #[] w λe w'=>e= .returned (.bool true)/\Below w.heap.size w w') (a0:Option Addr) (len0 cap0:Nat) (z0:List Int) (w:World) (w0:zdi w a0 len0 cap0 z0) (hw:Two w):Calls P 4 #[.slice a0 len0 cap0] w λe w'=>e= .returned (.bool true)/\Below w.heap.size w w':=by
 obtain⟨L,hx,hL⟩:=ze0 w0
 exact zdr (zah (z4p h)) ⟨(a0,len0,cap0),L⟩ [.slice a0 len0 cap0] rfl rfl (.bool true) rfl w ⟨hL.1,hL.2⟩ ⟨hx,zbi hw⟩
end
end
end Go.Proofs.YtldhaghgonkknaaDoor.Wd
