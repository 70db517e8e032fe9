/-
  What the functions do: contracts, and their questions answered. No condition but what its theorems ask.
-/
import Derived.Test.YtpanaicglidfjaaU6
import Derived.Test.YtpanaicglidfjaaProg
import Derived.Laws.BitsAllLaws
namespace Go.Proofs.Ytpanaicglidfjaa.Wd
open Go.Proofs.Ytpanaicglidfjaa.Eng Go.Proofs.Ytpanaicglidfjaa.Sen Go.RowKit
set_option linter.defProp false
set_option linter.unusedVariables false
set_option linter.unusedSimpArgs false
set_option maxRecDepth 1000000
noncomputable section
abbrev P:=Try.prog
theorem mixed:P.follows .mixedOrders=true:=by decide+kernel
theorem q1o:∀g C,(λ_=>none:Nat->Option Ct) g=some C->q15 P g C:=λg C h=>by cases h
def slI(t:T AV) (k:Nat):Option Int:=match t.get k with
  | some a=>match gi a with
    |some (_,i)=>some i
    |none=>none
  |none=>none
theorem qt4:Pl noA:=trivial
def q00{α:Type} (f:α->List Value):List α->List Value
 | []=>[]
 |x::l=>f x++q00 f l
theorem q03{α:Type} {f:α->List Value} {e:Nat} (hf:∀x,(f x).length=e):∀l,(q00 f l).length=l.length*e
  | []=>by simp[q00]
  | x::l=>by
    rw[q00,List.length_append,hf,q03 hf l,List.length_cons,Nat.succ_mul];omega
theorem q0e{α:Type} {f:α->List Value}:∀l m,q00 f (l++m)=q00 f l++q00 f m
  | [],m=>rfl
  | x::l,m=>by
    show f x++q00 f (l++m)=_
    rw[q0e l m,←List.append_assoc];rfl
theorem q60{α:Type} {f:α->List Value} {e:Nat} (hf:∀x,(f x).length=e):∀(l:List α) (i:Nat) (hi:i<l.length) (j:Nat),j<e->(q00 f l)[i*e+j]? =(f l[i])[j]?
  | x::l,0,_,j,hj=>by
    show(f x++q00 f l)[0*e+j]? =_
    rw[Nat.zero_mul,Nat.zero_add,List.getElem?_append_left (by rw[hf];exact hj)];rfl
  | x::l,i+1,hi,j,hj=>by
    show(f x++q00 f l)[(i+1)*e+j]? =_
    have:(i+1)*e=i*e+e:=Nat.succ_mul i e
    rw[List.getElem?_append_right (by rw[hf];omega),show(i+1)*e+j- (f x).length=i*e+j by rw[hf];omega]
    exact q60 hf l i (by simpa using hi) j hj
theorem add4(x:Addr) (h:x.spot=none) (i j:Nat):(x.add i).add j=x.add (i+j):=by
 obtain⟨b,o,s⟩:=x
 simp only at h
 subst h
 unfold Addr.add
 by_cases hi:i=0
 ·subst hi;simp
 ·by_cases hj:j=0
  ·subst hj;simp[hi]
  ·rw[if_neg hi,if_neg hj,if_neg (by omega)]
   simp only[Nat.add_assoc]
theorem qnw{α:Type} {f:α->List Value} {e:Nat} (hf:∀x,(f x).length=e) (he:0<e) {p:Pub} {a:Option Addr} {n c:Nat} {l:List α} (h:sliP p a n c (q00 f l)) {i:Nat} (hi:i<l.length):a≠noA/\q02 p (adr a (i*e)) (f l[i]):=by
 rcases h.2 with h|⟨x,rfl,h1,h2⟩
 ·have:=congrArg List.length h.1
  rw[q03 hf,List.length_nil]at this
  have:=Nat.mul_pos (show 0<l.length by omega) he
  omega
 ·refine⟨by simp,λj v hj=> ?_⟩
  have hje:j<e:=by have:=(List.getElem?_eq_some_iff.mp hj).1;rw[hf]at this;exact this
  show q2q p ((x.add (i*e)).add j)=some v
  rw[add4 x h1]
  exact h2 _ v (by rw[q60 hf l i hi j hje];exact hj)
def f1s:List Value->Option ByteArray
 | [.string s]=>some s
 |_=>none
def f1i:List Value->Option Int
 | [.int _ c]=>some c
 |_=>none
theorem q6w(s:ByteArray) (j:Nat):bat s j<256:=by unfold bat;exact UInt8.toNat_lt _
theorem bat_out{s:ByteArray} {j:Nat} (h:s.size<=j):bat s j=0:=by
 unfold bat
 rw[getElem?_neg s j (by omega)];rfl
def ldN(c:Nat):Nat:=if c<128 then 1 else if 192<=c/\c<224 then 2 else if 224<=c/\c<240 then 3 else if 240<=c/\c<248 then 4 else 0
def ldV(c:Nat):Nat:=if c<128 then c else if 192<=c/\c<224 then c- 192 else if 224<=c/\c<240 then c- 224 else if 240<=c/\c<248 then c- 240 else 0
def ctC(c:Nat):Bool:=decide (128<=c)&&decide (c<192)
def vlF(s:ByteArray):Nat->Option Nat
  |0=>some 0
  |1=>some (ldV (bat s 0))
  | i+2=>match vlF s (i+1)with
    |some r=>if ctC (bat s (i+1))=true then some (r*64+(bat s (i+1)- 128))else none
    |none=>none
def lnN(r:Nat):Nat:=if r<128 then 1 else if r<2048 then 2 else if r<65536 then 3 else 4
def isC(r:Nat):Bool:=decide (r<=1114111)&& !(decide (55296<=r)&&decide (r<=57343))
def frt(s:ByteArray):Nat:=if s.size<ldN (bat s 0)then 0 else match vlF s (ldN (bat s 0))with
 |none=>0
 |some r=>if ldN (bat s 0)=0\/isC r=false\/lnN r≠ldN (bat s 0)then 0 else ldN (bat s 0)
def qrl:Nat->ByteArray->Bool
 |0,_=>true
 |f+1,s=>if s.size=0 then true else if frt s=0 then false else qrl f (s.extract (frt s) s.size)
def vld(s:ByteArray):Bool:=qrl s.size s
def cLead:Ct:=ctS Int (λc=>[.int .u8 c]) f1i (λc=>0<=c/\c<256) (λ_=>{}) λc=> .tup [.sv (.int .i64 (ldN c.toNat:Nat)), .sv (.int .u32 (ldV c.toNat:Nat))]
def cIs:Ct:=ctS Int (λc=>[.int .u32 c]) f1i (λc=>0<=c/\c<4294967296) (λ_=>{}) λc=> .sv (.bool (isC c.toNat))
def qim:Ct:=ctS Int (λc=>[.int .u32 c]) f1i (λc=>0<=c/\c<4294967296) (λ_=>{}) λc=> .sv (.int .i64 (lnN c.toNat:Nat))
def qkt:Ct:=ctS ByteArray (λs=>[.string s]) f1s (λs=>0<s.size/\s.size<9223372036854775808) (λ_=>{}) λs=> .sv (.int .i64 (frt s:Nat))
def q5l:Ct:=ctS ByteArray (λs=>[.string s]) f1s (λs=>s.size<9223372036854775808) (λ_=>{}) λs=> .sv (.bool (vld s))
def slS(t:T AV) (k:Nat):Option ByteArray:=match t.get k with
 |some a=>gs a
 |none=>none
def wFront:qkt.σ->WayF:=λs=>{ann:=λ_ _ _=>some {σ:=Int×Int,pre:=λ⟨r,i⟩=>1<=i/\(i<=ldN (bat s 0)\/i=1)/\∃q:Nat,r=q/\(ldN (bat s 0)=0\/vlF s i.toNat=some q),find:=some λt _=>match slI t 4 with|some r=>(match slI t 5 with|some i=>some (r,i)|none=>none)|none=>none,t:=λ⟨r,i⟩=>[(4, .sv (.int .u32 r)),(5, .sv (.int .i64 i))],h:=λ_=>[],more:=0,μ:=λ⟨r,i⟩=>5- i.toNat,keep:=[0,2,3]}}
def tFront:Nat->Option Ct:=q0r [(127,cLead),(128,cIs),(129,qim)]
def wValid:q5l.σ->WayF:=λs=>{ann:=λ_ _ _=>some {σ:=ByteArray,pre:=λt=>t.size<=s.size/\vld t=vld s,find:=some λt _=>slS t 0,t:=λu=>[(0, .sv (.string u))],h:=λ_=>[],more:=0,μ:=λu=>u.size,keep:=[2]}}
def tValid:Nat->Option Ct:=q0r [(92,qkt)]
def ptV(s:ByteArray):Nat:=if frt s=0 then 0 else(vlF s (frt s)).getD 0
def q7z:Ct:=ctS ByteArray (λs=>[.string s]) f1s (λs=>s.size<9223372036854775808) (λ_=>{}) λs=> .tup [.sv (.int .u32 (ptV s:Nat)), .sv (.int .i64 (frt s:Nat))]
def leN(n:Nat):Nat:=if n=2 then 128 else if n=3 then 2048 else 65536
def wPoint:q7z.σ->WayF:=λs=>{
 ann:=λ_ _ _=>some {σ:=Int×Int,pre:=λ⟨v,i⟩=>1<=i/\i<=ldN (bat s 0)/\∃q:Nat,v=q/\vlF s i.toNat=some q,find:=some λt _=>match slI t 6 with|some v=>(match slI t 8 with|some i=>some (v,i)|none=>none)|none=>none,t:=λ⟨v,i⟩=>[(6, .sv (.int .u32 v)),(8, .sv (.int .i64 i))],h:=λ_=>[],more:=0,μ:=λ⟨v,i⟩=>5- i.toNat,keep:=[0,5,7]}
 cut:=λr _ _=>match r with
  |14=>some {σ:=Unit,pre:=λ_=>0<s.size/\2<=ldN (bat s 0),find:=some λ_ _=>some (),t:=λ_=>[(5, .sv (.int .i64 (ldN (bat s 0):Nat))),(6, .sv (.int .u32 (ldV (bat s 0):Nat))),(7, .sv (.int .u32 (leN (ldN (bat s 0)):Nat)))],h:=λ_=>[],more:=0,μ:=λ_=>0,keep:=[0]}
  |_=>none}
def qqd:q5l.σ->WayF:=λs=>{ann:=λ_ _ _=>some {σ:=ByteArray,pre:=λt=>t.size<=s.size/\vld t=vld s,find:=some λt _=>slS t 0,t:=λu=>[(0, .sv (.string u))],h:=λ_=>[],more:=0,μ:=λu=>u.size,keep:=[]}}
theorem ldN_le (c : Nat) : ldN c ≤ 4 := by unfold ldN;repeat' split
                                           all_goals omega
theorem ldV_lt (c : Nat) : ldV c < 128 := by unfold ldV;repeat' split
                                             all_goals omega
noncomputable section
variable (x0:Int) (x1:Int) (x2:Int)
 abbrev zae6:=(↑(ldN (Int.toNat x0)):Int)=1/\(↑(ldV (Int.toNat x0)):Int)=IntKind.wrap IntKind.u32 x0/\True
 abbrev zae5:=shP BinOp.shr IntKind.u8 x0 x1=x2
 abbrev zae3:=(↑(ldN (Int.toNat x0)):Int)=x1/\(↑(ldV (Int.toNat x0)):Int)=IntKind.wrap IntKind.u32 (q4i BinOp.and IntKind.u8 x0 x2)/\True
 abbrev zae7:=(↑(ldN (Int.toNat x0)):Int)=0/\(↑(ldV (Int.toNat x0)):Int)=0/\True
 abbrev zae4:=(0:Int)<=3/\(decide (zae5 x0 3 30)=true->zae3 x0 4 7)/\(decide (zae5 x0 3 30)=false->zae7 x0)
 abbrev zae2:=(0:Int)<=4/\(decide (zae5 x0 4 14)=true->zae3 x0 3 15)/\(decide (zae5 x0 4 14)=false->zae4 x0)
 abbrev zae1:=(0:Int)<=5/\(decide (zae5 x0 5 6)=true->zae3 x0 2 31)/\(decide (zae5 x0 5 6)=false->zae2 x0)
 abbrev zae0:=(decide (x0<128)=true->zae6 x0)/\(decide (x0<128)=false->zae1 x0)
end
theorem lead_eqz(c:Int):q2h P ((λ_=>none)) Try.f127 cLead (λ_=>{}) c=(0<=c/\c<256->zae0 c):=by kernel_rfl
def lead_eq(c:Int):=Eq.trans (lead_eqz c) (by delta zae6 zae5 zae3 zae7 zae4 zae2 zae1 zae0;exact rfl)
theorem lead1:∀c<256,¬c<128->(decide (shP BinOp.shr IntKind.u8 (c:Nat) 5=6)=(decide (192<=c)&&decide (c<224)))/\(decide (shP BinOp.shr IntKind.u8 (c:Nat) 4=14)=(decide (224<=c)&&decide (c<240)))/\(decide (shP BinOp.shr IntKind.u8 (c:Nat) 3=30)=(decide (240<=c)&&decide (c<248))):=by decide+kernel
theorem lead2:∀c<256,IntKind.wrap IntKind.u32 ((c:Nat):Int)=(c:Nat)/\(192<=c->c<224->IntKind.wrap IntKind.u32 (q4i BinOp.and IntKind.u8 (c:Nat) 31)=((c- 192:Nat):Int))/\(224<=c->c<240->IntKind.wrap IntKind.u32 (q4i BinOp.and IntKind.u8 (c:Nat) 15)=((c- 224:Nat):Int))/\(240<=c->c<248->IntKind.wrap IntKind.u32 (q4i BinOp.and IntKind.u8 (c:Nat) 7)=((c- 240:Nat):Int)):=by decide+kernel
theorem lead_ok:q15 P 127 cLead:=by
 refine q0h mixed q1o (W:=λ_=>{}) Try.func127 (by kernel_rfl) (by decide) (by decide) (λc=>by kernel_rfl) λ(c:Int)=>(lead_eq c).mpr ?_
 rintro⟨h1,h2⟩
 obtain⟨n,rfl⟩:=Int.eq_ofNat_of_zero_le h1
 have hn:n<256:=by omega
 obtain⟨b0,b1,b2,b3⟩:=lead2 n hn
 simp only[Int.toNat_natCast,and_true,decide_eq_true_eq,decide_eq_false_iff_not]
 refine⟨λh=> ?_,λh=>⟨by omega,?_⟩⟩
 ·unfold ldN ldV;rw[if_pos (by omega),if_pos (by omega),b0];simp
 have hg:¬n<128:=by omega
 obtain⟨a1,a2,a3⟩:=lead1 n hn hg
 have a1:(shP BinOp.shr IntKind.u8 (n:Nat) 5=6)↔(192<=n/\n<224):=by
  rw[←decide_eq_true_iff (p:=shP BinOp.shr IntKind.u8 (n:Nat) 5=6),a1];simp
 have a2:(shP BinOp.shr IntKind.u8 (n:Nat) 4=14)↔(224<=n/\n<240):=by
  rw[←decide_eq_true_iff (p:=shP BinOp.shr IntKind.u8 (n:Nat) 4=14),a2];simp
 have a3:(shP BinOp.shr IntKind.u8 (n:Nat) 3=30)↔(240<=n/\n<248):=by
  rw[←decide_eq_true_iff (p:=shP BinOp.shr IntKind.u8 (n:Nat) 3=30),a3];simp
 rw[a1,a2,a3]
 refine⟨λg=> ?_,λg=>⟨by omega,λg2=> ?_,λg2=>⟨by omega,λg3=> ?_,λg3=> ?_⟩⟩⟩
 ·unfold ldN ldV
  rw[if_neg hg,if_pos g,if_neg hg,if_pos g,b1 g.1 g.2];simp
 ·unfold ldN ldV
  rw[if_neg hg,if_neg g,if_pos g2,if_neg hg,if_neg g,if_pos g2,b2 g2.1 g2.2];simp
 ·unfold ldN ldV
  rw[if_neg hg,if_neg g,if_neg g2,if_pos g3,if_neg hg,if_neg g,if_neg g2,if_pos g3,b3 g3.1 g3.2];simp
 ·unfold ldN ldV
  rw[if_neg hg,if_neg g,if_neg g2,if_neg g3,if_neg hg,if_neg g,if_neg g2,if_neg g3];simp
theorem isq_eq(c:Int):q2h P ((λ_=>none)) Try.f128 cIs (λ_=>{}) c=((0:Int)<=c/\c<(4294967296:Int)->(decide (c<=(1114111:Int))=true->(0:Int)<=(11:Int)/\isC (Int.toNat c)= !decide (shP BinOp.shr IntKind.u32 c (11:Int)=(27:Int))/\True)/\(decide (c<=(1114111:Int))=false->isC (Int.toNat c)=false/\True)):=by kernel_rfl
theorem is_ok:q15 P 128 cIs:=by
 refine q0h mixed q1o (W:=λ_=>{}) Try.func128 (by kernel_rfl) (by decide) (by decide) (λc=>by kernel_rfl) λ(c:Int)=>(isq_eq c).mpr ?_
 rintro⟨h1,h2⟩
 obtain⟨n,rfl⟩:=Int.eq_ofNat_of_zero_le h1
 simp only[Int.toNat_natCast,and_true,decide_eq_true_eq,decide_eq_false_iff_not,isC]
 refine⟨λh=>⟨by omega,?_⟩,λh=> ?_⟩
 ·have:shP BinOp.shr IntKind.u32 (n:Nat) 11=((n / 2048:Nat):Int):=by
   show(n:Int).fdiv (2 ^ 11)=_
   rw[Int.fdiv_eq_ediv_of_nonneg _ (by decide)];omega
  rw[this]
  by_cases g:55296<=n/\n<=57343
  ·have e:n / 2048=27:=by omega
   rw[e];simp;omega
  ·have e:n / 2048≠27:=by omega
   have e2:¬((n / 2048:Nat):Int)=27:=by omega
   rw[decide_eq_false e2]
   simp;omega
 ·rw[decide_eq_false (by omega)];rfl
theorem qnt(c:Int):q2h P ((λ_=>none)) Try.f129 qim (λ_=>{}) c=((0:Int)<=c/\c<(4294967296:Int)->(decide (c<(128:Int))=true->(↑(lnN (Int.toNat c)):Int)=(1:Int)/\True)/\(decide (c<(128:Int))=false->(decide (c<(2048:Int))=true->(↑(lnN (Int.toNat c)):Int)=(2:Int)/\True)/\(decide (c<(2048:Int))=false->(decide (c<(65536:Int))=true->(↑(lnN (Int.toNat c)):Int)=(3:Int)/\True)/\(decide (c<(65536:Int))=false->(↑(lnN (Int.toNat c)):Int)=(4:Int)/\True)))):=by kernel_rfl
theorem qqw:q15 P 129 qim:=by
 refine q0h mixed q1o (W:=λ_=>{}) Try.func129 (by kernel_rfl) (by decide) (by decide) (λc=>by kernel_rfl) λ(c:Int)=>(qnt c).mpr ?_
 rintro⟨h1,h2⟩
 simp only[and_true,decide_eq_true_eq,decide_eq_false_iff_not,lnN]
 refine⟨λh=> ?_,λh=>⟨λg=> ?_,λg=>⟨λk=> ?_,λk=> ?_⟩⟩⟩
 ·rw[if_pos (by omega)];rfl
 ·rw[if_neg (by omega),if_pos (by omega)];rfl
 ·rw[if_neg (by omega),if_neg (by omega),if_pos (by omega)];rfl
 ·rw[if_neg (by omega),if_neg (by omega),if_neg (by omega)];rfl
theorem ct1:∀c<256,decide (shP BinOp.shr IntKind.u8 (c:Nat) 6=2)=ctC c:=by decide+kernel
theorem ct2:∀c<256,ctC c=true->IntKind.wrap IntKind.u32 (q4i BinOp.and IntKind.u8 (c:Nat) 63)=((c- 128:Nat):Int)/\c- 128<64:=by decide+kernel
theorem ql5(s:ByteArray):∀(i r:Nat),vlF s i=some r->i<=4->r<128*64 ^ (i- 1)
  |0,r,h,_=>by simp[vlF]at h;subst h;decide
  | 1,r,h,_=>by
    simp[vlF]at h
    have:=ldV_lt (bat s 0)
    rw[h]at this;simpa using this
  | i + 2,r,h,hi=>by
    simp only[vlF]at h
    split at h
    · rename_i q hq
      have ih:=ql5 s (i+1) q hq (by omega)
      split at h
      · rename_i hc
        cases h
        have:=q6w s (i+1)
        simp[ctC]at hc
        have e:i+1- 1=i:=by omega
        have e2:i+2- 1=i+1:=by omega
        rw[e]at ih
        rw[e2,Nat.pow_succ]
        omega
      · cases h
    · cases h
theorem or64(r d:Nat) (hr:r<67108864) (hd:d<64):q4i BinOp.or IntKind.u32 (shP BinOp.shl IntKind.u32 (r:Int) 6) (d:Int)=((r*64+d:Nat):Int):=by
 have e:shP BinOp.shl IntKind.u32 (r:Int) 6=((r*64:Nat):Int):=by
  show IntKind.u32.wrap ((r:Int)*2 ^ 6)=_
  unfold IntKind.wrap;simp[IntKind.bits,IntKind.signed];omega
 rw[e]
 have h0:=u32_or_nat (r*64) d (by omega) (by omega)
 have h1:q4i BinOp.or IntKind.u32 ((r*64:Nat):Int) (d:Int)=bits .or .u32 ((r*64:Nat):Int) (d:Int):=rfl
 rw[h1,h0]
 congr 1
 have h:=Nat.two_pow_add_eq_or_of_lt (i:=6) (b:=d) hd r
 rw[show 2 ^ 6*r=r*64 by omega]at h
 exact h.symm
theorem qk2(s:ByteArray) (i j:Nat) (hij:i<=j) (h1:1<=i) (h:vlF s i=none):vlF s j=none:=by
  induction j with
  |zero=>omega
  | succ j ih=>
    by_cases e:i=j+1
    · subst e;exact h
    · have:=ih (by omega)
      cases j with
      |zero=>omega
      |succ j=>simp only[vlF];rw[this]
noncomputable section
variable (x0:ByteArray) (x1:Int×Int)
 abbrev qjz:=(↑(ldN (Int.toNat (↑(bat x0 0):Int))):Int)
 abbrev zag9:=(↑(frt x0):Int)=0/\True
 abbrev qyo:=(↑(ldV (Int.toNat (↑(bat x0 0):Int))):Int)
 abbrev zag12:= !decide (shP BinOp.shr IntKind.u8 (↑(bat x0 (Int.toNat x1.2)):Int) (6:Int)=2)
 abbrev zag10:=IntKind.wrap IntKind.u32 (q4i BinOp.and IntKind.u8 (↑(bat x0 (Int.toNat x1.2)):Int) 63)
 abbrev zag4:=(0:Int)<=6/\(0<=x1.2/\x1.2<(↑(ByteArray.size x0):Int))/\((-9223372036854775808:Int)<=x1.2+1/\x1.2+1<=9223372036854775807)/\x0=x0/\(qjz x0)=(qjz x0)/\x1.2+1=x1.2+1/\q4i BinOp.or IntKind.u32 (shP BinOp.shl IntKind.u32 x1.1 6) (zag10 x0 x1)=q4i BinOp.or IntKind.u32 (shP BinOp.shl IntKind.u32 x1.1 6) (zag10 x0 x1)/\(1<=x1.2+1/\(x1.2+1<=(↑(ldN (bat x0 0)):Int)\/x1.2+1=1)/\∃(i0:Nat),q4i BinOp.or IntKind.u32 (shP BinOp.shl IntKind.u32 x1.1 6) (zag10 x0 x1)=(↑i0:Int)/\(ldN (bat x0 0)=0\/vlF x0 (Int.toNat (x1.2+1))=some i0))/\(5:Nat)- Int.toNat (x1.2+1)<5- Int.toNat x1.2/\True
 abbrev zag3:=(0<=x1.2/\x1.2<(↑(ByteArray.size x0):Int))/\(0:Int)<=6/\((zag12 x0 x1)=true->zag9 x0)/\((zag12 x0 x1)=false->zag4 x0 x1)
 abbrev zag8:=x1.1=x1.1/\(0<=x1.1/\x1.1<4294967296)/\((!decide ((↑(lnN (Int.toNat x1.1)):Int)=(qjz x0)))=true->zag9 x0)/\((!decide ((↑(lnN (Int.toNat x1.1)):Int)=(qjz x0)))=false->(↑(frt x0):Int)=(qjz x0)/\True)
 abbrev zag6:=x1.1=x1.1/\(0<=x1.1/\x1.1<4294967296)/\((!isC (Int.toNat x1.1))=true->zag9 x0)/\((!isC (Int.toNat x1.1))=false->zag8 x0 x1)
 abbrev zag5:=(decide ((qjz x0)=0)=true->zag9 x0)/\(decide ((qjz x0)=0)=false->zag6 x0 x1)
 abbrev zag2:=(decide (x1.2<(qjz x0))=true->zag3 x0 x1)/\(decide (x1.2<(qjz x0))=false->zag5 x0 x1)
 abbrev zag1:=(x0=x0/\(qjz x0)=(qjz x0)/\(1:Int)=1/\(qyo x0)=(qyo x0)/\((1:Int)<=1/\(1<=(↑(ldN (bat x0 0)):Int)\/(1:Int)=1)/\∃(i0:Nat),(qyo x0)=(↑i0:Int)/\(ldN (bat x0 0)=0\/vlF x0 (1:Nat)=some i0))/\True)/\∀(i1:Int×Int),(1<=i1.2/\(i1.2<=(↑(ldN (bat x0 0)):Int)\/i1.2=1)/\∃(i2:Nat),i1.1=(↑i2:Int)/\(ldN (bat x0 0)=0\/vlF x0 (Int.toNat i1.2)=some i2))->zag2 x0 i1
 abbrev zag0:=((0:Int)<=0/\0<(↑(ByteArray.size x0):Int))/\(↑(bat x0 0):Int)=(↑(bat x0 0):Int)/\(0<=(↑(bat x0 0):Int)/\(↑(bat x0 0):Int)<256)/\(decide ((↑(ByteArray.size x0):Int)<(qjz x0))=true->zag9 x0)/\(decide ((↑(ByteArray.size x0):Int)<(qjz x0))=false->zag1 x0)
end
theorem qvs(s:ByteArray):q2h P (tFront) Try.f92 qkt (wFront) s=(0<ByteArray.size s/\ByteArray.size s<9223372036854775808->zag0 s):=by kernel_rfl
def front_eq(s:ByteArray):=Eq.trans (qvs s) (by delta qjz zag9 qyo zag12 zag10 zag4 zag3 zag8 zag6 zag5 zag2 zag1 zag0;exact rfl)
theorem qv2:∀g C,tFront g=some C->q15 P g C:=q05 (q01 lead_ok (q01 is_ok (q01 qqw q06)))
theorem front_ok:q15 P 92 qkt:=by
 refine q0h mixed qv2 (W:=wFront) Try.func92 (by kernel_rfl) (by decide) (by decide) (λc=>by kernel_rfl) λ(s:ByteArray)=>(front_eq s).mpr ?_
 rintro⟨h1,h2⟩
 have b0:=q6w s 0
 simp only[Int.toNat_natCast,Int.toNat_zero,and_true,true_and,decide_eq_true_eq,decide_eq_false_iff_not,Bool.not_eq_true',Bool.not_eq_false']
 obtain⟨n,hn⟩:∃n,n=ldN (bat s 0):=⟨_,rfl⟩
 have hn4:=ldN_le (bat s 0)
 have hfr:frt s=if s.size<n then 0 else match vlF s n with
  |none=>0
  |some r=>if n=0\/isC r=false\/lnN r≠n then 0 else n:=by rw[hn];rfl
 rw[←hn]at hn4⊢
 refine⟨by omega,by omega,λg=> ?_,λg=>⟨⟨by omega, .inr trivial,ldV (bat s 0),rfl, .inr rfl⟩,?_⟩⟩
 ·rw[hfr,if_pos (by omega)];rfl
 rintro⟨r,i⟩ ⟨i1,i2,q,hq,hv⟩
 simp only at i1 i2 hq hv⊢
 obtain⟨m,rfl⟩:=Int.eq_ofNat_of_zero_le (show 0<=i by omega)
 have em:((m:Int)+1).toNat=m+1:=by omega
 simp only[Int.toNat_natCast,em]at hv⊢
 subst hq
 simp only[Int.toNat_natCast]at hv⊢
 rw[if_neg (by omega)]at hfr
 refine⟨λk=>⟨by omega,by omega,?_⟩,λk=>⟨λk2=> ?_,λk2=> ?_⟩⟩
 ·have bm:=q6w s m
  have c1:shP BinOp.shr IntKind.u8 ((bat s m:Nat):Int) 6=2↔ctC (bat s m)=true:=by rw[←ct1 (bat s m) bm,decide_eq_true_iff]
  rw[c1]
  have hv:vlF s m=some q:=by
   rcases hv with h|h
   ·omega
   ·exact h
  have hbd:=ql5 s m q hv (by omega)
  have hq26:q<67108864:=by
   have:m<=3:=by omega
   rcases m with _|_|_|_|m<;>simp at hbd<;>omega
  obtain⟨m',rfl⟩:∃m',m=m'+1:=⟨m- 1,by omega⟩
  refine⟨λk3=> ?_,λk3=>⟨by omega,by omega,by omega,⟨by omega,by omega,?_⟩,by omega⟩⟩
  ·have:vlF s (m'+2)=none:=by simp only[vlF];rw[hv];simp[k3]
   rw[hfr,qk2 s (m'+2) n (by omega) (by omega) this];rfl
  ·obtain⟨c2,c3⟩:=ct2 (bat s (m'+1)) bm k3
   rw[c2]
   refine⟨_,or64 q _ hq26 c3, .inr ?_⟩
   simp only[vlF]
   rw[hv];simp[k3]
 ·have h0:n=0:=by omega
  rw[hfr,h0];simp[vlF]
 ·have hn0:n≠0:=by omega
  have hm:m=n:=by omega
  have hv:vlF s n=some q:=by
   rcases hv with h|h
   ·omega
   ·rw[←hm];exact h
  have hbd:=ql5 s n q hv (by omega)
  have hq32:q<4294967296:=by
   rcases n with _|_|_|_|_|n<;>simp at hbd<;>omega
  rw[hv]at hfr
  simp only at hfr
  refine⟨by omega,λk3=> ?_,λk3=>⟨by omega,λk4=> ?_,λk4=> ?_⟩⟩
  ·rw[hfr,if_pos (.inr (.inl k3))];rfl
  ·rw[hfr,if_pos (.inr (.inr (by omega)))];rfl
  ·rw[hfr,if_neg]
   rw[k3];simp;omega
theorem qql(s:ByteArray):frt s<=s.size:=by
 unfold frt
 split
 ·omega
 ·split
  ·omega
  ·split<;>omega
theorem qfk:∀(f g:Nat) (s:ByteArray),s.size<=f->s.size<=g->qrl f s=qrl g s
  |0,0,s,_,_=>rfl
  |0,g+1,s,h,_=>by rw[qrl,qrl,if_pos (by omega)]
  |f+1,0,s,_,h=>by rw[qrl,qrl,if_pos (by omega)]
  | f +1,g+1,s,h1,h2=>by
    rw[qrl,qrl]
    split
    · rfl
    · split
      · rfl
      · exact qfk f g _ (by simp;omega) (by simp;omega)
theorem q8p(s:ByteArray) (h:0<s.size):vld s=if frt s=0 then false else vld (s.extract (frt s) s.size):=by
 unfold vld
 obtain⟨f,hf⟩:∃f,s.size=f+1:=⟨s.size- 1,by omega⟩
 rw[hf,qrl,if_neg (by omega)]
 split
 ·rfl
 ·rw[hf]
  refine qfk _ _ _ ?_ (Nat.le_refl _)
  simp;omega
theorem qpf(s:ByteArray) (h:s.size=0):vld s=true:=by unfold vld;rw[h];rfl
theorem valid_eq(s:ByteArray):q2h P (tValid) Try.f59 q5l (wValid) s=(ByteArray.size s<(9223372036854775808:Nat)->(s=s/\(ByteArray.size s<=ByteArray.size s/\vld s=vld s)/\True)/\∀(s_1:ByteArray),ByteArray.size s_1<=ByteArray.size s/\vld s_1=vld s->(decide ((0:Int)<(↑(ByteArray.size s_1):Int))=true->s_1=s_1/\((0:Nat)<ByteArray.size s_1/\ByteArray.size s_1<(9223372036854775808:Nat))/\(decide ((↑(frt s_1):Int)=(0:Int))=true->vld s=false/\True)/\(decide ((↑(frt s_1):Int)=(0:Int))=false->((0:Int)<=(↑(frt s_1):Int)/\(↑(frt s_1):Int)<=(↑(ByteArray.size s_1):Int))/\ByteArray.extract s_1 (Int.toNat (↑(frt s_1):Int)) (ByteArray.size s_1)=ByteArray.extract s_1 (Int.toNat (↑(frt s_1):Int)) (ByteArray.size s_1)/\(ByteArray.size (ByteArray.extract s_1 (Int.toNat (↑(frt s_1):Int)) (ByteArray.size s_1))<=ByteArray.size s/\vld (ByteArray.extract s_1 (Int.toNat (↑(frt s_1):Int)) (ByteArray.size s_1))=vld s)/\ByteArray.size (ByteArray.extract s_1 (Int.toNat (↑(frt s_1):Int)) (ByteArray.size s_1))<ByteArray.size s_1/\True))/\(decide ((0:Int)<(↑(ByteArray.size s_1):Int))=false->vld s=true/\True)):=by kernel_rfl
theorem qjf:q15 P 59 q5l:=by
 refine q0h mixed (q05 (q01 front_ok q06)) (W:=wValid) Try.func59 (by kernel_rfl) (by decide) (by decide) (λc=>by kernel_rfl) λ(s:ByteArray)=>(valid_eq s).mpr ?_
 intro h
 simp only[Int.toNat_natCast,and_true,true_and,decide_eq_true_eq,decide_eq_false_iff_not]
 refine⟨Nat.le_refl _,λt ht=>⟨λg=>⟨by omega,λg2=> ?_,λg2=> ?_⟩,λg=> ?_⟩⟩
 ·rw[←ht.2,q8p t (by omega),if_pos (by omega)]
 ·have:=qql t
  rw[←ht.2,q8p t (by omega),if_neg (by omega)]
  refine⟨by omega,⟨?_,rfl⟩,?_⟩
  ·simp;omega
  ·simp;omega
 ·rw[←ht.2];exact qpf t (by omega)
theorem qma(x:Int):IntKind.u8.wrap x=x % 256:=by
 unfold IntKind.wrap;simp[IntKind.bits,IntKind.signed]
theorem tn1(n:Nat):((n:Int)+1).toNat=n+1:=by omega
theorem wrap32(x:Int):IntKind.u32.wrap x=x % 4294967296:=by
 unfold IntKind.wrap;simp[IntKind.bits,IntKind.signed]
theorem qju(b:Nat):(b<128/\ldN b=1/\ldV b=b)\/(192<=b/\b<224/\ldN b=2/\ldV b=b- 192)\/(224<=b/\b<240/\ldN b=3/\ldV b=b- 224)\/(240<=b/\b<248/\ldN b=4/\ldV b=b- 240)\/(((128<=b/\b<192)\/248<=b)/\ldN b=0):=by
 unfold ldN ldV
 repeat' split
 all_goals omega
theorem lnN_le(n q:Nat) (hn:n=2\/n=3\/n=4) (hq:q<128*64 ^ (n- 1)) (h2:n=2->q<2048) (h3:n=3->q<65536):lnN q=n↔leN n<=q:=by
 unfold lnN leN
 rcases hn with rfl|rfl|rfl
 all_goals (repeat' split)
 all_goals (first|omega| (have:=h2 rfl;omega)| (have:=h3 rfl;omega))
noncomputable section
variable (x0:ByteArray) (x1:Int×Int) (x2:Int) (x3:Int) (x4:Int)
 abbrev qbk:=(↑(ptV x0):Int)=0/\(↑(frt x0):Int)=0/\True
 abbrev qdn:=IntKind.wrap IntKind.u32 (↑(bat x0 0):Int)<x2
 abbrev zai22:=(↑(ptV x0):Int)=IntKind.wrap IntKind.u32 (↑(bat x0 0):Int)/\(↑(frt x0):Int)=1/\True
 abbrev qhi:=x2<=IntKind.wrap IntKind.u32 (↑(bat x0 0):Int)
 abbrev qej:=(↑(leN (ldN (bat x0 0))):Int)
 abbrev q6j:=(↑(ldN (bat x0 0)):Int)
 abbrev zai8:=x0=x0/\(qej x0)=x2/\(q6j x0)=x3/\(↑(ldV (bat x0 0)):Int)=IntKind.wrap IntKind.u32 (IntKind.wrap IntKind.u32 (↑(bat x0 0):Int)- x4)/\(0<ByteArray.size x0/\2<=ldN (bat x0 0))/\True
 abbrev zai23:=(decide (qdn x0 248)=true->zai8 x0 65536 4 240)/\(decide (qdn x0 248)=false->qbk x0)
 abbrev zai6:=(decide (qhi x0 240)=true->zai23 x0)/\(decide (qhi x0 240)=false->qbk x0)
 abbrev zai24:=(decide (qdn x0 240)=true->zai8 x0 2048 3 224)/\(decide (qdn x0 240)=false->zai6 x0)
 abbrev zai2:=(decide (qhi x0 224)=true->zai24 x0)/\(decide (qhi x0 224)=false->zai6 x0)
 abbrev zai25:=(decide (qdn x0 224)=true->zai8 x0 128 2 192)/\(decide (qdn x0 224)=false->zai2 x0)
 abbrev zai14:=(decide (qhi x0 192)=true->zai25 x0)/\(decide (qhi x0 192)=false->zai2 x0)
 abbrev zai27:=(0<=x1.2/\x1.2<(↑(ByteArray.size x0):Int))
 abbrev qzw:=IntKind.wrap IntKind.u32 (x1.1*64)+IntKind.wrap IntKind.u32 (IntKind.wrap IntKind.u8 ((↑(bat x0 (Int.toNat x1.2)):Int)- 128))
 abbrev zai10:=zai27 x0 x1/\((-9223372036854775808:Int)<=x1.2+1/\x1.2+1<=9223372036854775807)/\x0=x0/\(qej x0)=(qej x0)/\(q6j x0)=(q6j x0)/\x1.2+1=x1.2+1/\IntKind.wrap IntKind.u32 (qzw x0 x1)=IntKind.wrap IntKind.u32 (qzw x0 x1)/\(1<=x1.2+1/\x1.2+1<=(q6j x0)/\∃(i0:Nat),IntKind.wrap IntKind.u32 (qzw x0 x1)=(↑i0:Int)/\vlF x0 (Int.toNat (x1.2+1))=some i0)/\(5:Nat)- Int.toNat (x1.2+1)<5- Int.toNat x1.2/\True
 abbrev zai9:=zai27 x0 x1/\(decide (191<(↑(bat x0 (Int.toNat x1.2)):Int))=true->qbk x0)/\(decide (191<(↑(bat x0 (Int.toNat x1.2)):Int))=false->zai10 x0 x1)
 abbrev zai7:=zai27 x0 x1/\(decide ((↑(bat x0 (Int.toNat x1.2)):Int)<128)=true->qbk x0)/\(decide ((↑(bat x0 (Int.toNat x1.2)):Int)<128)=false->zai9 x0 x1)
 abbrev zai21:=(↑(ptV x0):Int)=x1.1/\(↑(frt x0):Int)=(q6j x0)/\True
 abbrev zai26:=(decide (x1.1<=57343)=true->qbk x0)/\(decide (x1.1<=57343)=false->zai21 x0 x1)
 abbrev zai16:=(decide (55296<=x1.1)=true->zai26 x0 x1)/\(decide (55296<=x1.1)=false->zai21 x0 x1)
 abbrev zai13:=(decide (1114111<x1.1)=true->qbk x0)/\(decide (1114111<x1.1)=false->zai16 x0 x1)
 abbrev zai12:=(decide (x1.1<(qej x0))=true->qbk x0)/\(decide (x1.1<(qej x0))=false->zai13 x0 x1)
 abbrev zai5:=(decide (x1.2<(q6j x0))=true->zai7 x0 x1)/\(decide (x1.2<(q6j x0))=false->zai12 x0 x1)
 abbrev zai4:=(x0=x0/\(qej x0)=(qej x0)/\(q6j x0)=(q6j x0)/\(1:Int)=1/\(↑(ldV (bat x0 0)):Int)=(↑(ldV (bat x0 0)):Int)/\((1:Int)<=1/\1<=(q6j x0)/\∃(i0:Nat),(↑(ldV (bat x0 0)):Int)=(↑i0:Int)/\vlF x0 (1:Nat)=some i0)/\True)/\∀(i1:Int×Int),(1<=i1.2/\i1.2<=(q6j x0)/\∃(i2:Nat),i1.1=(↑i2:Int)/\vlF x0 (Int.toNat i1.2)=some i2)->zai5 x0 i1
 abbrev zai3:=(decide ((↑(ByteArray.size x0):Int)<(q6j x0))=true->qbk x0)/\(decide ((↑(ByteArray.size x0):Int)<(q6j x0))=false->zai4 x0)
 abbrev zai1:=((0:Int)<=0/\0<(↑(ByteArray.size x0):Int))/\((decide (qdn x0 128)=true->zai22 x0)/\(decide (qdn x0 128)=false->zai14 x0))/\∀(i0:Unit),0<ByteArray.size x0/\2<=ldN (bat x0 0)->zai3 x0
 abbrev zai0:=(decide ((↑(ByteArray.size x0):Int)=0)=true->qbk x0)/\(decide ((↑(ByteArray.size x0):Int)=0)=false->zai1 x0)
end
theorem qq6(s:ByteArray):q2h P (λ_=>none) Try.f53 q7z (wPoint) s=(ByteArray.size s<9223372036854775808->zai0 s):=by kernel_rfl
def point_eq(s:ByteArray):=Eq.trans (qq6 s) (by delta qbk qdn zai22 qhi qej q6j zai8 zai23 zai6 zai24 zai2 zai25 zai14 zai27 qzw zai10 zai9 zai7 zai21 zai26 zai16 zai13 zai12 zai5 zai4 zai3 zai1 zai0;exact rfl)
theorem ldV_2(b:Nat):(ldN b=2->ldV b<32)/\(ldN b=3->ldV b<16):=by
 have:=qju b;omega
theorem vlF_2(s:ByteArray) (q:Nat) (h:vlF s 2=some q) (h2:ldN (bat s 0)=2):q<2048:=by
 have b:=(ldV_2 (bat s 0)).1 h2
 simp only[vlF]at h
 split at h
 ·rename_i hc
  have hb:=q6w s 1
  simp only[ctC,Bool.and_eq_true,decide_eq_true_eq]at hc
  cases h
  simp only[Nat.zero_add]at hc⊢
  omega
 ·cases h
theorem vlF_3(s:ByteArray) (q:Nat) (h:vlF s 3=some q) (h2:ldN (bat s 0)=3):q<65536:=by
 have b:=(ldV_2 (bat s 0)).2 h2
 simp only[vlF]at h
 split at h
 ·rename_i r hr
  split at hr
  ·cases hr
   rename_i hc0
   split at h
   ·rename_i hc
    have hb:=q6w s 1
    have hb2:=q6w s 2
    simp only[ctC,Bool.and_eq_true,decide_eq_true_eq]at hc hc0
    cases h
    simp only[Nat.zero_add,show 1+1=2 from rfl]at hc hc0⊢
    omega
   ·cases h
  ·cases hr
 ·cases h
theorem isC_of(q:Nat):isC q=true↔q<=1114111/\¬(55296<=q/\q<=57343):=by
 simp[isC];omega
theorem ct_of(b:Nat):ctC b=true↔128<=b/\b<192:=by simp[ctC]
theorem qjm:q15 P 53 q7z:=by
 refine q0h mixed q1o (W:=wPoint) Try.func53 (by kernel_rfl) (by decide) (by decide) (λc=>by kernel_rfl) λ(s:ByteArray)=>(point_eq s).mpr ?_
 intro h2
 have b0:=q6w s 0
 obtain⟨n,hn⟩:∃n,n=ldN (bat s 0):=⟨_,rfl⟩
 have hc:=qju (bat s 0)
 have hz:frt s=0->ptV s=0:=λh=>by unfold ptV;rw[if_pos h]
 have hfr:frt s=if s.size<n then 0 else match vlF s n with
  |none=>0
  |some r=>if n=0\/isC r=false\/lnN r≠n then 0 else n:=by rw[hn];rfl
 rw[←hn]at hc
 have A0:s.size=0->frt s=0:=λh=>by
  have:=bat_out (s:=s) (j:=0) (by omega)
  rw[hfr,if_pos (by omega)]
 have A1:s.size≠0->bat s 0<128->ptV s=bat s 0/\frt s=1:=λh h1=>by
  have e1:n=1:=by omega
  have ev:ldV (bat s 0)=bat s 0:=by omega
  have ef:frt s=1:=by
   rw[hfr,if_neg (by omega),e1]
   simp only[vlF]
   rw[ev,if_neg]
   have hi:=(isC_of (bat s 0)).mpr (by omega)
   have hl:lnN (bat s 0)=1:=by unfold lnN;rw[if_pos h1]
   rw[hi,hl];simp
  refine⟨?_,ef⟩
  unfold ptV
  rw[if_neg (by omega),ef]
  simp only[vlF,ev];rfl
 have A5:n=0->frt s=0:=λh=>by
  rw[hfr,if_neg (by omega),h];simp[vlF]
 have hle:(n=2->leN n=128)/\(n=3->leN n=2048)/\(n=4->leN n=65536):=by
  refine⟨λh=> ?_,λh=> ?_,λh=> ?_⟩<;>rw[h]<;>rfl
 have e0:IntKind.u32.wrap (bat s 0:Nat)=(bat s 0:Nat):=by rw[wrap32];omega
 simp only[Int.toNat_natCast,Int.toNat_zero,and_true,true_and,decide_eq_true_eq,decide_eq_false_iff_not,Bool.not_eq_true',Bool.not_eq_false',e0,←hn]
 refine⟨?_,λg0=>⟨by omega,?_,?_⟩⟩
 ·intro h;have:=A0 (by omega);have:=hz this;omega
 ·simp only[wrap32]
  clear hfr A0 e0
  rcases hc with⟨c1,c2,c3⟩|⟨c0,c1,c2,c3⟩|⟨c0,c1,c2,c3⟩|⟨c0,c1,c2,c3⟩|⟨c1,c2⟩
  ·obtain⟨p,f⟩:=A1 (by omega) c1
   clear A1 A5 hle hz
   refine⟨λ_=>by omega,λh=>absurd (by omega) h⟩
  ·have l:=hle.1 c2
   clear A1 A5 hle hz
   refine⟨λh=>by omega,λh=>⟨λ_=>⟨λ_=>by omega,λk=>absurd (by omega) k⟩,λk=>absurd (by omega) k⟩⟩
  ·have l:=hle.2.1 c2
   clear A1 A5 hle hz
   refine⟨λh=>by omega,λh=>⟨λ_=>⟨λk=>by omega,λ_=>⟨λ_=>⟨λ_=>by omega,λk=>absurd (by omega) k⟩,λk=>absurd (by omega) k⟩⟩,λk=>absurd (by omega) k⟩⟩
  ·have l:=hle.2.2 c2
   clear A1 A5 hle hz
   refine⟨λh=>by omega,λh=>⟨λ_=>⟨λk=>by omega,λ_=>⟨λ_=>⟨λk=>by omega,λ_=>⟨λ_=>⟨λ_=>by omega,λk=>absurd (by omega) k⟩,λk=>absurd (by omega) k⟩⟩,λk=>absurd (by omega) k⟩⟩,λk=>absurd (by omega) k⟩⟩
  ·have f:=A5 c2
   have p:=hz f
   clear A1 A5 hle hz
   repeat' first|intro _|apply And.intro
   all_goals omega
 ·clear A0 A1 A5
  rintro _ ⟨g1,g2⟩
  have Z:frt s=0->((ptV s:Nat):Int)=0/\((frt s:Nat):Int)=0:=λh=>by have:=hz h;omega
  refine⟨λk=>Z ?_,λk=>⟨⟨by omega,by omega,ldV (bat s 0),rfl,rfl⟩,?_⟩⟩
  ·rw[hfr,if_pos (by omega)]
  rw[if_neg (by omega)]at hfr
  rintro⟨v,i⟩ ⟨i1,i2,q,hq,hv⟩
  simp only at i1 i2 hq hv⊢
  obtain⟨m,rfl⟩:=Int.eq_ofNat_of_zero_le (show 0<=i by omega)
  subst hq
  simp only[Int.toNat_natCast,tn1]at hv⊢
  have hbd:=ql5 s m q hv (by omega)
  have bm:=q6w s m
  obtain⟨m',rfl⟩:∃m',m=m'+1:=⟨m- 1,by omega⟩
  have cn:¬(128<=bat s (m'+1)/\bat s (m'+1)<192)->((m'+1:Nat):Int)<n->frt s=0:=λh hl=>by
   have:vlF s (m'+2)=none:=by
    simp only[vlF];rw[hv];simp only[]
    rw[if_neg (by rw[ct_of];exact h)]
   rw[hfr,qk2 s (m'+2) n (by omega) (by omega) this]
  refine⟨λk1=>⟨by omega,λk2=>Z (cn (by omega) k1),λk2=>⟨by omega,λk3=>Z (cn (by omega) k1),λk3=>⟨by omega,by omega,⟨by omega,by omega,?_⟩,by omega⟩⟩⟩,λk1=> ?_⟩
  ·have hq26:q<67108864:=by
    have:m'+1<=3:=by omega
    rcases m' with _|_|_|m'<;>simp at hbd<;>omega
   refine⟨q*64+(bat s (m'+1)- 128),?_,?_⟩
   ·rw[qma,wrap32,wrap32,wrap32];omega
   ·simp only[vlF];rw[hv];simp only[]
    rw[if_pos (by rw[ct_of];omega)]
  ·have em:m'+1=n:=by omega
   rw[em]at hv hbd
   rw[hv]at hfr
   simp only at hfr
   have nn:n=2\/n=3\/n=4:=by omega
   have ln:=lnN_le n q nn hbd (λh=>vlF_2 s q (h ▸ hv) (by omega)) (λh=>vlF_3 s q (h ▸ hv) (by omega))
   have ic:=isC_of q
   have bad:¬(leN n<=q)\/¬(q<=1114111/\¬(55296<=q/\q<=57343))->frt s=0:=λh=>by
    rw[hfr,if_pos]
    rcases h with h|h
    ·exact .inr (.inr λe=>h (ln.mp e))
    ·exact .inr (.inl (by rw[←Bool.not_eq_true];exactλe=>h (ic.mp e)))
   have good:leN n<=q->(q<=1114111/\¬(55296<=q/\q<=57343))->((ptV s:Nat):Int)=q/\((frt s:Nat):Int)=n:=λh1 h2=>by
    have ef:frt s=n:=by
     rw[hfr,if_neg]
     rw[ic.mpr h2,ln.mpr h1];simp;omega
    refine⟨?_,by omega⟩
    unfold ptV
    rw[if_neg (by omega),ef,hv];rfl
   refine⟨λc1=>Z (bad (.inl (by omega))),λc1=>⟨λc2=>Z (bad (.inr (by omega))),λc2=>⟨λc3=>⟨λc4=>Z (bad (.inr (by omega))),λc4=>good (by omega) (by omega)⟩,λc3=>good (by omega) (by omega)⟩⟩⟩
theorem qvo(s:ByteArray):q2h P (q0r [(53,q7z)]) Try.f31 q5l (qqd) s=(ByteArray.size s<(9223372036854775808:Nat)->(s=s/\(ByteArray.size s<=ByteArray.size s/\vld s=vld s)/\True)/\∀(s_1:ByteArray),ByteArray.size s_1<=ByteArray.size s/\vld s_1=vld s->(decide ((0:Int)<(↑(ByteArray.size s_1):Int))=true->s_1=s_1/\ByteArray.size s_1<(9223372036854775808:Nat)/\(decide ((↑(frt s_1):Int)=(0:Int))=true->vld s=false/\True)/\(decide ((↑(frt s_1):Int)=(0:Int))=false->((0:Int)<=(↑(frt s_1):Int)/\(↑(frt s_1):Int)<=(↑(ByteArray.size s_1):Int))/\ByteArray.extract s_1 (Int.toNat (↑(frt s_1):Int)) (ByteArray.size s_1)=ByteArray.extract s_1 (Int.toNat (↑(frt s_1):Int)) (ByteArray.size s_1)/\(ByteArray.size (ByteArray.extract s_1 (Int.toNat (↑(frt s_1):Int)) (ByteArray.size s_1))<=ByteArray.size s/\vld (ByteArray.extract s_1 (Int.toNat (↑(frt s_1):Int)) (ByteArray.size s_1))=vld s)/\ByteArray.size (ByteArray.extract s_1 (Int.toNat (↑(frt s_1):Int)) (ByteArray.size s_1))<ByteArray.size s_1/\True))/\(decide ((0:Int)<(↑(ByteArray.size s_1):Int))=false->vld s=true/\True)):=by kernel_rfl
theorem qem:q15 P 31 q5l:=by
 refine q0h mixed (q05 (q01 qjm q06)) (W:=qqd) Try.func31 (by kernel_rfl) (by decide) (by decide) (λc=>by kernel_rfl) λ(s:ByteArray)=>(qvo s).mpr ?_
 intro h
 simp only[Int.toNat_natCast,and_true,true_and,decide_eq_true_eq,decide_eq_false_iff_not]
 refine⟨Nat.le_refl _,λt ht=>⟨λg=>⟨by omega,λg2=> ?_,λg2=> ?_⟩,λg=> ?_⟩⟩
 ·rw[←ht.2,q8p t (by omega),if_pos (by omega)]
 ·have:=qql t
  rw[←ht.2,q8p t (by omega),if_neg (by omega)]
  refine⟨by omega,⟨?_,rfl⟩,?_⟩
  ·simp;omega
  ·simp;omega
 ·rw[←ht.2];exact qpf t (by omega)
theorem q11{p q:Prop} [Decidable p] [Decidable q] (h:p↔q):decide p=decide q:=by simp[h]
abbrev svV(x:SV):Value:= .slice x.1 x.2.1 x.2.2
abbrev svA(x:SV):AV:= .sv (.slice x.1 x.2.1 x.2.2)
def txV(s:ByteArray):List Value:=[.string s]
def inV(i:Int):List Value:=[.int .i64 i]
def slP{α:Type} (f:α->List Value) (x:SV) (l:List α) (p:Pub):Prop:=x.2.1=l.length/\sliP p x.1 x.2.1 x.2.2 (q00 f l)
theorem q0i{α:Type} {f:α->List Value} {x:SV} {l:List α} {p q:Pub} (h:Pub.le p q) (e:slP f x l p):slP f x l q:=⟨e.1,q6r h e.2⟩
theorem q1m{α:Type} {f:α->List Value} {e:Nat} (hf:∀x,(f x).length=e) (he:0<e) {p:Pub} {x:SV} {l:List α} (h:slP f x l p) {i:Nat} (hi:i<l.length):x.1≠noA/\q02 p (adr x.1 (i*e)) (f l[i]):=qnw hf he h.2 hi
theorem q0c{α:Type} {f:α->List Value} {p:Pub}:slP f (none,0,0) [] p:=⟨rfl,Nat.le_refl _, .inl ⟨rfl,qt4⟩⟩
inductive GJ where
 |mk (k n:Int) (s:ByteArray) (y:SV) (l:List GJ) (x:SV) (nm:List ByteArray)
def GJ.k:GJ->Int| .mk k _ _ _ _ _ _=>k
def GJ.n:GJ->Int| .mk _ n _ _ _ _ _=>n
def GJ.s:GJ->ByteArray| .mk _ _ s _ _ _ _=>s
def GJ.y:GJ->SV| .mk _ _ _ y _ _ _=>y
def GJ.l:GJ->List GJ| .mk _ _ _ _ l _ _=>l
def GJ.x:GJ->SV| .mk _ _ _ _ _ x _=>x
def GJ.nm:GJ->List ByteArray| .mk _ _ _ _ _ _ nm=>nm
def GJ.cells(g:GJ):List Value:=[.int .i64 g.k, .int .i64 g.n, .string g.s,svV g.y,svV g.x]
def GJ.av(g:GJ):AV:= .agg [.sv (.int .i64 g.k), .sv (.int .i64 g.n), .sv (.string g.s),svA g.y,svA g.x]
mutual
def GJ.ok:GJ->Pub->Prop
 | .mk k n s y l x nm,p=>slP GJ.cells y l p/\slP txV x nm p/\GJ.oks l p
def GJ.oks:List GJ->Pub->Prop
 | [],_=>True
 |g::l,p=>GJ.ok g p/\GJ.oks l p
end
mutual
theorem GJ.ok_mono:∀{g:GJ} {p q:Pub},Pub.le p q->g.ok p->g.ok q
  | .mk k n s y l x nm,p,q,h,e=>by
    unfold GJ.ok at e⊢
    exact⟨q0i h e.1,q0i h e.2.1,GJ.oks_mono h e.2.2⟩
theorem GJ.oks_mono:∀{l:List GJ} {p q:Pub},Pub.le p q->GJ.oks l p->GJ.oks l q
  | [],p,q,h,e=>by unfold GJ.oks;trivial
  | g::l,p,q,h,e=>by
    unfold GJ.oks at e⊢
    exact⟨GJ.ok_mono h e.1,GJ.oks_mono h e.2⟩
end
structure AF where
 nm:ByteArray
 al:SV
 als:List ByteArray
 ty:Int
 hd:Bool
 df:GJ
def AF.cells(f:AF):List Value:=[.string f.nm,svV f.al, .int .i64 f.ty, .bool f.hd, .int .i64 f.df.k, .int .i64 f.df.n, .string f.df.s,svV f.df.y,svV f.df.x]
def AF.ok(f:AF) (p:Pub):Prop:=slP txV f.al f.als p/\f.df.ok p
structure AT where
 k:Int
 nm:ByteArray
 al:SV
 als:List ByteArray
 it:Int
 sy:SV
 sys:List ByteArray
 hd:Bool
 df:ByteArray
 sz:Int
 f:SV
 fs:List AF
 br:SV
 brs:List Int
def AT.cells(e:AT):List Value:=[.int .i64 e.k, .string e.nm,svV e.al, .int .i64 e.it,svV e.sy, .bool e.hd, .string e.df, .int .i64 e.sz,svV e.f,svV e.br]
def AT.av(e:AT):AV:= .agg [.sv (.int .i64 e.k), .sv (.string e.nm),svA e.al, .sv (.int .i64 e.it),svA e.sy, .sv (.bool e.hd), .sv (.string e.df), .sv (.int .i64 e.sz),svA e.f,svA e.br]
def AT.ok(e:AT) (p:Pub):Prop:=slP txV e.al e.als p/\slP txV e.sy e.sys p/\slP AF.cells e.f e.fs p/\slP inV e.br e.brs p/\∀f∈e.fs,f.ok p
theorem AT.ok_mono{e:AT} {p q:Pub} (h:Pub.le p q) (g:e.ok p):e.ok q:=⟨q0i h g.1,q0i h g.2.1,q0i h g.2.2.1,q0i h g.2.2.2.1,λf hf=>⟨q0i h (g.2.2.2.2 f hf).1,GJ.ok_mono h (g.2.2.2.2 f hf).2⟩⟩
def q0l(S:List AT) (x:SV) (p:Pub):Prop:=slP AT.cells x S p/\∀e∈S,e.ok p
theorem q2e{S:List AT} {x:SV} {p q:Pub} (h:Pub.le p q) (g:q0l S x p):q0l S x q:=⟨q0i h g.1,λe he=>AT.ok_mono h (g.2 e he)⟩
theorem q3g(e:AT):e.cells.length=10:=rfl
theorem qjj(f:AF):f.cells.length=9:=rfl
theorem q13(s:ByteArray):(txV s).length=1:=rfl
theorem q3r(i:Int):(inV i).length=1:=rfl
theorem q80(g:GJ):g.cells.length=5:=rfl
def small(S:List AT):Prop:=S.length<1000000/\∀e∈S,e.fs.length<1000000/\e.brs.length<1000000/\e.sys.length<1000000
inductive GV where
 |mk (n:Int) (s:ByteArray) (x:SV) (l:List GV) (y:SV) (ks:List ByteArray) (b:Int)
inductive PV where
 |mk (n:Int) (s:ByteArray) (l:List PV) (ks:List ByteArray) (b:Int)
def GV.n:GV->Int| .mk n _ _ _ _ _ _=>n
def GV.s:GV->ByteArray| .mk _ s _ _ _ _ _=>s
def GV.x:GV->SV| .mk _ _ x _ _ _ _=>x
def GV.l:GV->List GV| .mk _ _ _ l _ _ _=>l
def GV.y:GV->SV| .mk _ _ _ _ y _ _=>y
def GV.ks:GV->List ByteArray| .mk _ _ _ _ _ ks _=>ks
def GV.b:GV->Int| .mk _ _ _ _ _ _ b=>b
def GV.cells(v:GV):List Value:=[.int .u64 v.n, .string v.s,svV v.x,svV v.y, .int .i64 v.b]
def GV.av(v:GV):AV:= .agg [.sv (.int .u64 v.n), .sv (.string v.s),svA v.x,svA v.y, .sv (.int .i64 v.b)]
theorem q0y(v:GV):v.cells.length=5:=rfl
mutual
def GV.ok:GV->Pub->Prop
 | .mk n s x l y ks b,p=>slP GV.cells x l p/\slP txV y ks p/\GV.oks l p
def GV.oks:List GV->Pub->Prop
 | [],_=>True
 |v::l,p=>GV.ok v p/\GV.oks l p
end
mutual
theorem GV.ok_mono:∀{v:GV} {p q:Pub},Pub.le p q->v.ok p->v.ok q
  | .mk n s x l y ks b,p,q,h,e=>by
    unfold GV.ok at e⊢
    exact⟨q0i h e.1,q0i h e.2.1,GV.oks_mono h e.2.2⟩
theorem GV.oks_mono:∀{l:List GV} {p q:Pub},Pub.le p q->GV.oks l p->GV.oks l q
  | [],p,q,h,e=>by unfold GV.oks;trivial
  | g::l,p,q,h,e=>by
    unfold GV.oks at e⊢
    exact⟨GV.ok_mono h e.1,GV.oks_mono h e.2⟩
end
theorem GV.ok_eq(v:GV) (p:Pub):v.ok p=(slP GV.cells v.x v.l p/\slP txV v.y v.ks p/\GV.oks v.l p):=by cases v;unfold GV.ok;rfl
theorem GV.oks_at:∀{l:List GV} {p:Pub},GV.oks l p->∀{i:Nat} (h:i<l.length),l[i].ok p
 |v::l,p,e,0,h=>by unfold GV.oks at e;exact e.1
 |v::l,p,e,i+1,h=>by unfold GV.oks at e;exact GV.oks_at e.2 (by simpa using h)
mutual
def GV.pv:GV->PV
 | .mk n s x l y ks b=> .mk n s (GV.pvs l) ks b
def GV.pvs:List GV->List PV
 | []=>[]
 |v::l=>GV.pv v::GV.pvs l
end
theorem GV.pv_eq(v:GV):v.pv= .mk v.n v.s (GV.pvs v.l) v.ks v.b:=by cases v;rw[GV.pv];rfl
theorem GV.pvs_map:∀l:List GV,GV.pvs l=l.map GV.pv
 | []=>by rw[GV.pvs];rfl
 |v::l=>by rw[GV.pvs,GV.pvs_map l];rfl
theorem GV.pvs_len(l:List GV):(GV.pvs l).length=l.length:=by rw[GV.pvs_map,List.length_map]
mutual
def PV.sm:PV->Prop
 | .mk n s l ks b=>(0<=n/\n<18446744073709551616)/\s.size<9223372036854775808/\l.length<4611686018427387904/\ks.length<4611686018427387904/\(∀k∈ks,k.size<9223372036854775808)/\PV.sms l
def PV.sms:List PV->Prop
 | []=>True
 |v::l=>PV.sm v/\PV.sms l
end
theorem PV.sms_at:∀{l:List PV},PV.sms l->∀{i:Nat} (h:i<l.length),l[i].sm
 |v::l,e,0,h=>by unfold PV.sms at e;exact e.1
 |v::l,e,i+1,h=>by unfold PV.sms at e;exact PV.sms_at e.2 (by simpa using h)
theorem GV.sm_eq(v:GV):v.pv.sm=((0<=v.n/\v.n<18446744073709551616)/\v.s.size<9223372036854775808/\v.l.length<4611686018427387904/\v.ks.length<4611686018427387904/\(∀k∈v.ks,k.size<9223372036854775808)/\PV.sms (GV.pvs v.l)):=by rw[GV.pv_eq,PV.sm,GV.pvs_len]
theorem GV.sm_at{v:GV} (h:v.pv.sm) {i:Nat} (hi:i<v.l.length):v.l[i].pv.sm:=by
 rw[GV.sm_eq]at h
 have:=PV.sms_at h.2.2.2.2.2 (i:=i) (by rw[GV.pvs_len];exact hi)
 simpa[GV.pvs_map]using this
theorem GV.ok_at{v:GV} {p:Pub} (h:v.ok p) {i:Nat} (hi:i<v.l.length):v.l[i].ok p:=by
 rw[GV.ok_eq]at h;exact GV.oks_at h.2.2 hi
theorem GV.cells_at{v:GV} {p:Pub} (h:v.ok p) {i:Nat} (hi:i<v.l.length):v.x.1≠noA/\q02 p (adr v.x.1 (i*5)) v.l[i].cells:=by
 rw[GV.ok_eq]at h;exact q1m q0y (by decide) h.1 hi
theorem GV.x_len{v:GV} {p:Pub} (h:v.ok p):v.x.2.1=v.l.length:=by rw[GV.ok_eq]at h;exact h.1.1
theorem GV.y_len{v:GV} {p:Pub} (h:v.ok p):v.y.2.1=v.ks.length:=by rw[GV.ok_eq]at h;exact h.2.1.1
def okN(a:AT) (n:Int):Bool:=if a.k=1 then decide (n=0)else if a.k=2 then decide (n<=1)else if a.k=3 then decide (n<2147483648\/18446744071562067968<=n)else if a.k=5 then decide (n<4294967296)else if a.k=10 then decide (n<a.sys.length)else true
def okT(a:AT) (s:ByteArray):Bool:=if a.k=8 then vld s else if a.k=11 then decide ((s.size:Int)=a.sz)else true
def q31:List ByteArray->Bool
 | []=>true
 | [k]=>vld k
 |k::j::l=>vld k&&q2y k j&&q31 (j::l)
def okP(a:AT) (n:Nat) (ks:List ByteArray) (b:Int):Bool:=
 if ks.length>0/\a.k≠13\/b≠0/\a.k≠14 then false else
 if a.k=9 then decide (n=a.fs.length)else if a.k=14 then decide (0<=b/\b<a.brs.length/\n=1)else if a.k=13 then decide (n=ks.length)&&q31 ks else true
def isN(k:Int):Bool:=decide (k=1\/k=2\/k=3\/k=4\/k=5\/k=6\/k=10)
def isT(k:Int):Bool:=decide (k=7\/k=8\/k=11)
def isQ(k:Int):Bool:=decide (k=9\/k=12\/k=13\/k=14)
def qgc(n m:Nat) (b:Int):Bool:=decide (n=0)&&decide (m=0)&&decide (b=0)
def q2p(a:AT) (b:Int) (i:Nat):Int:=if a.k=9 then(match a.fs[i]? with|some f=>f.ty|none=>0)else if a.k=14 then a.brs.getD b.toNat 0 else a.it
mutual
def PV.fits(S:List AT) (t:Int):PV->Bool
  | .mk n s l ks b=>if t<0\/S.length<=t then false else match S[t.toNat]? with
    |none=>false
    | some a=>if isN a.k=true then okN a n&&decide (s.size=0)&&qgc l.length ks.length b else
      if isT a.k=true then okT a s&&decide (n=0)&&qgc l.length ks.length b else
      if isQ a.k=true then okP a l.length ks b&&PV.fitL S (q2p a b) 0 l&&decide (n=0)&&decide (s.size=0)else false
def PV.fitL(S:List AT) (f:Nat->Int) (i:Nat):List PV->Bool
 | []=>true
 |v::l=>PV.fits S (f i) v&&PV.fitL S f (i+1) l
end
mutual
def PV.same:PV->PV->Bool
 | .mk n s l ks b, .mk n' s' l' ks' b'=>decide (n=n')&&decide (s=s')&&decide (b=b')&&decide (ks=ks')&&PV.sames l l'
def PV.sames:List PV->List PV->Bool
 | [],[]=>true
 |v::l,w::m=>PV.same v w&&PV.sames l m
 |_,_=>false
end
def txM(y:SV) (ks:List ByteArray):PF:=⟨true,slP txV y ks,λ_ _ h e=>q0i h e⟩
def vM(v:GV):PF:=⟨true,v.ok,λ_ _ h e=>GV.ok_mono h e⟩
def svM(S:List AT) (x:SV) (v:GV):PF:=⟨true,λp=>q0l S x p/\v.ok p,λ_ _ h e=>⟨q2e h e.1,GV.ok_mono h e.2⟩⟩
def savM(S:List AT) (x:SV) (a:AT) (v:GV):PF:=⟨true,λp=>q0l S x p/\a.ok p/\v.ok p,λ_ _ h e=>⟨q2e h e.1,AT.ok_mono h e.2.1,GV.ok_mono h e.2.2⟩⟩
def vwM(v w:GV):PF:=⟨true,λp=>v.ok p/\w.ok p,λ_ _ h e=>⟨GV.ok_mono h e.1,GV.ok_mono h e.2⟩⟩
def vsM(x:SV) (l:List GV) (y:SV) (m:List GV):PF:=⟨true,λp=>(slP GV.cells x l p/\GV.oks l p)/\slP GV.cells y m p/\GV.oks m p,λ_ _ h e=>⟨⟨q0i h e.1.1,GV.oks_mono h e.1.2⟩,q0i h e.2.1,GV.oks_mono h e.2.2⟩⟩
def ttM(x:SV) (l:List ByteArray) (y:SV) (m:List ByteArray):PF:=⟨true,λp=>slP txV x l p/\slP txV y m p,λ_ _ h e=>⟨q0i h e.1,q0i h e.2⟩⟩
abbrev scA(x:SV):AV:= .agg [svA x]
def ctP(σ:Type) (args:σ->List AV) (pre:σ->Prop) (mem:σ->PF) (r:σ->AV):Ct where
 σ:=σ
 args:=args
 h:=λ_=>[]
 m:=1
 pre:=pre
 mem:=mem
 r:=r
 h':=λ_=>[]
 m':=1
 g:=λ_=>none
def qw6:Ct:=ctP GV (λv=>[v.av]) (λ_=>True) (λ_=>{}) λv=> .sv (.bool (qgc v.x.2.1 v.y.2.1 v.b))
def qtk:Ct:=ctP (AT×Int) (λ⟨a,n⟩=>[a.av, .sv (.int .u64 n)]) (λ⟨a,n⟩=>0<=n/\n<18446744073709551616/\a.sy.2.1=a.sys.length/\a.sys.length<1000000) (λ_=>{}) λ⟨a,n⟩=> .sv (.bool (okN a n))
def qpr:Ct:=ctP (AT×ByteArray) (λ⟨a,s⟩=>[a.av, .sv (.string s)]) (λ⟨a,s⟩=>s.size<9223372036854775808) (λ_=>{}) λ⟨a,s⟩=> .sv (.bool (okT a s))
def cKeys:Ct:=ctP (SV×List ByteArray) (λ⟨y,ks⟩=>[svA y]) (λ⟨y,ks⟩=>ks.length<4611686018427387904/\∀k∈ks,k.size<9223372036854775808) (λ⟨y,ks⟩=>txM y ks) λ⟨y,ks⟩=> .sv (.bool (q31 ks))
abbrev FpS:=List AT×SV×AT×GV
def qka:Ct:=ctP FpS (λ⟨S,x,a,v⟩=>[scA x,a.av,v.av]) (λ⟨S,x,a,v⟩=>small S/\a.fs.length<1000000/\v.pv.sm/\isQ a.k=true) (λ⟨S,x,a,v⟩=>savM S x a v) λ⟨S,x,a,v⟩=> .sv (.bool (okP a v.l.length v.ks v.b&&PV.fitL S (q2p a v.b) 0 (GV.pvs v.l)))
abbrev FtS:=List AT×SV×Int×GV
def qfn:Ct:=ctP FtS (λ⟨S,x,t,v⟩=>[scA x, .sv (.int .i64 t),v.av]) (λ⟨S,x,t,v⟩=>small S/\v.pv.sm) (λ⟨S,x,t,v⟩=>svM S x v) λ⟨S,x,t,v⟩=> .sv (.bool (PV.fits S t v.pv))
def muFp:FpS->Nat:=λ⟨S,x,a,v⟩=>SizeOf.sizeOf v
def muFt:FtS->Nat:=λ⟨S,x,t,v⟩=>SizeOf.sizeOf v
def wKeys:cKeys.σ->WayF:=λ⟨y,ks⟩=>{
 ann:=λ_ _ _=>some {σ:=Nat,pre:=λj=>j<=ks.length/\q31 ks=(if j=0 then q31 ks else q31 (ks.drop (j- 1)))/\(∀(h:0<j) (h2:j<=ks.length),vld ks[j- 1]=true),t:=λj=>[(7, .sv (.int .i64 (j:Int)))],h:=λ_=>[],more:=0,μ:=λj=>ks.length- j,keep:=[0,2,5,6]}}
def wFitsP:FpS->WayF:=λ⟨S,x,a,v⟩=>{
 ann:=λid _ _=>match id with
  |1=>some {σ:=Nat,pre:=λj=>j<=a.fs.length/\v.l.length=a.fs.length/\PV.fitL S (q2p a v.b) j ((GV.pvs v.l).drop j)=PV.fitL S (q2p a v.b) 0 (GV.pvs v.l),t:=λj=>[(44, .sv (.int .i64 (j:Int)))],h:=λ_=>[],more:=0,μ:=λj=>a.fs.length- j,keep:=[3,4,5,6,42,43]}
  |_=>some {σ:=Nat,pre:=λj=>j<=v.l.length/\PV.fitL S (q2p a v.b) j ((GV.pvs v.l).drop j)=PV.fitL S (q2p a v.b) 0 (GV.pvs v.l),t:=λj=>[(111, .sv (.int .i64 (j:Int)))],h:=λ_=>[],more:=0,μ:=λj=>v.l.length- j,keep:=[3,4,5,6,109,110]}
 cut:=λi t _=>match i with
  |3=>some {σ:=Unit,pre:=λ_=>¬(0<v.ks.length/\a.k≠13\/v.b≠0/\a.k≠14),t:=λ_=>[],h:=λ_=>[],more:=0,μ:=λ_=>0,keep:=[3,4,5,6]}
  |19=>some {σ:=Unit,pre:=λ_=>a.k≠9/\a.k≠14/\okP a v.l.length v.ks v.b=true,t:=λ_=>[],h:=λ_=>[],more:=0,μ:=λ_=>0,keep:=[3,4,5,6]}
  |_=>none}
def swc(f:Int->Bool) (i k:Nat) (keep:List Nat) (t:T AV):Option LT:=match slI t k with
 |some a=>some {σ:=Unit,t:=λ_=>[(i, .sv (.bool (f a)))],h:=λ_=>[],more:=0,μ:=λ_=>0,keep:=keep}
 |none=>none
def wFits:FtS->WayF:=λ⟨S,x,t,v⟩=>{
 cut:=λi t _=>match i with
  |12=>swc isN 24 23 [3,5,6,7,23] t
  |16=>swc isT 45 23 [3,5,6,7,23] t
  |21=>swc isQ 62 23 [3,5,6,7,23] t
  |_=>none}
def cEqS:Ct:=ctP (SV×List ByteArray×SV×List ByteArray) (λ⟨x,l,y,m⟩=>[svA x,svA y]) (λ⟨x,l,y,m⟩=>l.length<4611686018427387904/\m.length<4611686018427387904) (λ⟨x,l,y,m⟩=>ttM x l y m) λ⟨x,l,y,m⟩=> .sv (.bool (decide (l=m)))
def wEqS:cEqS.σ->WayF:=λ⟨x,l,y,m⟩=>{
 ann:=λ_ _ _=>some {σ:=Nat,pre:=λj=>j<=l.length/\l.length=m.length/\l.take j=m.take j,t:=λj=>[(13, .sv (.int .i64 (j:Int)))],h:=λ_=>[],more:=0,μ:=λj=>l.length- j,keep:=[0,1,4,11,12]}}
abbrev EfS:=SV×List GV×SV×List GV
def cEqF:Ct:=ctP EfS (λ⟨x,l,y,m⟩=>[svA x,svA y, .fn 34 []]) (λ⟨x,l,y,m⟩=>(l.length<4611686018427387904/\PV.sms (GV.pvs l))/\m.length<4611686018427387904/\PV.sms (GV.pvs m)) (λ⟨x,l,y,m⟩=>vsM x l y m) λ⟨x,l,y,m⟩=> .sv (.bool (PV.sames (GV.pvs l) (GV.pvs m)))
def wEqF:EfS->WayF:=λ⟨x,l,y,m⟩=>{
 ann:=λ_ _ _=>some {σ:=Nat,pre:=λj=>j<=l.length/\l.length=m.length/\PV.sames ((GV.pvs l).drop j) ((GV.pvs m).drop j)=PV.sames (GV.pvs l) (GV.pvs m),t:=λj=>[(17, .sv (.int .i64 (j:Int)))],h:=λ_=>[],more:=0,μ:=λj=>l.length- j,keep:=[0,1,2,6,15,16]}}
def qgt:Ct:=ctP (GV×GV) (λ⟨v,w⟩=>[v.av,w.av]) (λ⟨v,w⟩=>v.pv.sm/\w.pv.sm) (λ⟨v,w⟩=>vwM v w) λ⟨v,w⟩=> .sv (.bool (PV.same v.pv w.pv))
def muEf:EfS->Nat:=λ⟨x,l,y,m⟩=>SizeOf.sizeOf l
def muSa:GV×GV->Nat:=λ⟨v,w⟩=>SizeOf.sizeOf v
theorem whole_eq(v:GV):q2h P (λ_=>none) Try.f40 qw6 (λ_=>{}) v=(True->(decide ((↑(Prod.fst (Prod.snd (GV.x v))):Int)=(0:Int))=true->(decide ((↑(Prod.fst (Prod.snd (GV.y v))):Int)=(0:Int))=true->qgc (Prod.fst (Prod.snd (GV.x v))) (Prod.fst (Prod.snd (GV.y v))) (GV.b v)=decide (GV.b v=(0:Int))/\True)/\(decide ((↑(Prod.fst (Prod.snd (GV.y v))):Int)=(0:Int))=false->qgc (Prod.fst (Prod.snd (GV.x v))) (Prod.fst (Prod.snd (GV.y v))) (GV.b v)=false/\True))/\(decide ((↑(Prod.fst (Prod.snd (GV.x v))):Int)=(0:Int))=false->qgc (Prod.fst (Prod.snd (GV.x v))) (Prod.fst (Prod.snd (GV.y v))) (GV.b v)=false/\True)):=by kernel_rfl
theorem fitsN_eq(a:AT) (n:Int):q2h P (λ_=>none) Try.f39 qtk (λ_=>{}) ⟨a,n⟩=((0:Int)<=n/\n<(18446744073709551616:Int)/\Prod.fst (Prod.snd (AT.sy a))=List.length (AT.sys a)/\List.length (AT.sys a)<(1000000:Nat)->(decide (AT.k a=(1:Int))=true->okN a n=decide (n=(0:Int))/\True)/\(decide (AT.k a=(1:Int))=false->(decide (AT.k a=(2:Int))=true->okN a n=decide (n<=(1:Int))/\True)/\(decide (AT.k a=(2:Int))=false->(decide (AT.k a=(3:Int))=true->((-9223372036854775808:Int)<=IntKind.wrap IntKind.i32 n/\IntKind.wrap IntKind.i32 n<=(9223372036854775807:Int))/\okN a n=decide (n=IntKind.wrap IntKind.u64 (IntKind.wrap IntKind.i32 n))/\True)/\(decide (AT.k a=(3:Int))=false->(decide (AT.k a=(5:Int))=true->(0:Int)<=(32:Int)/\okN a n=decide (shP BinOp.shr IntKind.u64 n (32:Int)=(0:Int))/\True)/\(decide (AT.k a=(5:Int))=false->(decide (AT.k a=(10:Int))=true->okN a n=decide (n<IntKind.wrap IntKind.u64 (↑(Prod.fst (Prod.snd (AT.sy a))):Int))/\True)/\(decide (AT.k a=(10:Int))=false->okN a n=true/\True)))))):=by kernel_rfl
theorem qzk(a:AT) (s:ByteArray):q2h P (q0r [(59,q5l)]) Try.f41 qpr (λ_=>{}) ⟨a,s⟩=(ByteArray.size s<(9223372036854775808:Nat)->(decide (AT.k a=(8:Int))=true->s=s/\ByteArray.size s<(9223372036854775808:Nat)/\okT a s=vld s/\True)/\(decide (AT.k a=(8:Int))=false->(decide (AT.k a=(11:Int))=true->okT a s=decide ((↑(ByteArray.size s):Int)=AT.sz a)/\True)/\(decide (AT.k a=(11:Int))=false->okT a s=true/\True))):=by kernel_rfl
noncomputable section
variable (x0:SV) (x1:Prop) (x2:List ByteArray) (x3:Nat)
 abbrev zan0:=x0.1=x0.1/\x0.2.1=x0.2.1/\x0.2.2=x0.2.2/\x1
 abbrev zan3:=(↑x0.2.1:Int)
 abbrev zan1:=(zan3 x0)=(zan3 x0)/\(∀(i0:Pub),True/\slP txV x0 x2 i0->True/\slP txV x0 x2 i0)/\x1
 abbrev zan2:=x3<=List.length x2/\(q31 x2=if x3=0 then q31 x2 else q31 (List.drop (x3- 1) x2))/\x1
 abbrev zan4:=((-9223372036854775808:Int)<=(↑x3:Int)+1/\(↑x3:Int)+1<=9223372036854775807)
end
theorem qxs(y:SV) (ks:List ByteArray):q2h P (q0r [(59,q5l)]) Try.f60 cKeys (wKeys) ⟨y,ks⟩=((List.length ks<4611686018427387904/\∀(k:ByteArray),k∈ks->ByteArray.size k<9223372036854775808)->(∃(p:Pub),True/\slP txV y ks p)->(∃(s:Nat),zan0 y ((↑s:Int)=0/\zan0 y (zan1 y ((zan2 (∀(h:0<s) (h2:s<=List.length ks),vld ks[s- 1]=true) ks s)/\True) ks)))/\∀(s:Nat),(zan2 (∀(h:0<s) (h2:s<=List.length ks),vld ks[s- 1]=true) ks s)->(decide ((↑s:Int)<(zan3 y))=true->(0<=(↑s:Int)/\(↑s:Int)<(zan3 y))/\y.1≠noA/\∃(s_1:ByteArray),(∀(p:Pub),True/\slP txV y ks p->q02 p (adr y.1 (Int.toNat (↑s:Int)*1)) [Value.string s_1])/\s_1=s_1/\ByteArray.size s_1<9223372036854775808/\((!vld s_1)=true->q31 ks=false/\True)/\((!vld s_1)=false->(decide (0<(↑s:Int))=true->((-9223372036854775808:Int)<=(↑s:Int)- 1/\(↑s:Int)- 1<=9223372036854775807)/\(0<=(↑s:Int)- 1/\(↑s:Int)- 1<(zan3 y))/\y.1≠noA/\∃(s_2:ByteArray),(∀(p:Pub),True/\slP txV y ks p->q02 p (adr y.1 (Int.toNat ((↑s:Int)- 1)*1)) [Value.string s_2])/\((!q2y s_2 s_1)=true->q31 ks=false/\True)/\((!q2y s_2 s_1)=false->zan4 s/\∃(s_3:Nat),zan0 y ((↑s_3:Int)=(↑s:Int)+1/\zan0 y (zan1 y ((zan2 (∀(h:0<s_3) (h2:s_3<=List.length ks),vld ks[s_3- 1]=true) ks s_3)/\List.length ks- s_3<List.length ks- s/\True) ks))))/\(decide (0<(↑s:Int))=false->zan4 s/\∃(s_2:Nat),zan0 y ((↑s_2:Int)=(↑s:Int)+1/\zan0 y (zan1 y ((zan2 (∀(h:0<s_2) (h2:s_2<=List.length ks),vld ks[s_2- 1]=true) ks s_2)/\List.length ks- s_2<List.length ks- s/\True) ks)))))/\(decide ((↑s:Int)<(zan3 y))=false->q31 ks=true/\True)):=by kernel_rfl
def keys_eq(y:SV) (ks:List ByteArray):=Eq.trans (qxs y ks) (by delta zan0 zan3 zan1 zan2 zan4;exact rfl)
noncomputable section
variable (x0:GV) (x1:AT) (x2:List AT) (x3:SV) (x4:Nat) (x5:Prop) (x6:Nat) (x7:FtS) (x8:Int) (x9:ByteArray) (x10:Option Addr) (x11:Option Addr) (x12:Nat) (x13:Nat) (x14:Int) (x15:Nat) (x16:Nat->Option Obj)
 abbrev qba:=True/\q0l x2 x3 x16/\AT.ok x1 x16/\GV.ok x0 x16
 abbrev qrk:=(↑(GV.y x0).2.1:Int)
 abbrev qyq:=okP x1 (List.length (GV.l x0)) (GV.ks x0) (GV.b x0)&&PV.fitL x2 (q2p x1 (GV.b x0)) 0 (GV.pvs (GV.l x0))
 abbrev q6k:=(qyq x0 x1 x2)=false/\True
 abbrev zao30:=(GV.x x0).1=(GV.x x0).1/\(GV.x x0).2.1=(GV.x x0).2.1/\(GV.x x0).2.2=(GV.x x0).2.2/\x5
 abbrev zao31:=(AT.f x1).1=(AT.f x1).1/\(AT.f x1).2.1=(AT.f x1).2.1/\(AT.f x1).2.2=(AT.f x1).2.2/\x5
 abbrev zao2:=x3.1=x3.1/\x3.2.1=x3.2.1/\x3.2.2=x3.2.2/\GV.n x0=GV.n x0/\GV.s x0=GV.s x0/\zao30 x0 ((GV.y x0).1=(GV.y x0).1/\(GV.y x0).2.1=(GV.y x0).2.1/\(GV.y x0).2.2=(GV.y x0).2.2/\GV.b x0=GV.b x0/\AT.k x1=AT.k x1/\AT.nm x1=AT.nm x1/\(AT.al x1).1=(AT.al x1).1/\(AT.al x1).2.1=(AT.al x1).2.1/\(AT.al x1).2.2=(AT.al x1).2.2/\AT.it x1=AT.it x1/\(AT.sy x1).1=(AT.sy x1).1/\(AT.sy x1).2.1=(AT.sy x1).2.1/\(AT.sy x1).2.2=(AT.sy x1).2.2/\AT.hd x1=AT.hd x1/\AT.df x1=AT.df x1/\AT.sz x1=AT.sz x1/\zao31 x1 ((AT.br x1).1=(AT.br x1).1/\(AT.br x1).2.1=(AT.br x1).2.1/\(AT.br x1).2.2=(AT.br x1).2.2/\(∀(i0:Pub),qba x0 x1 x2 x3 i0->qba x0 x1 x2 x3 i0)/\x5))
 abbrev zao43:=∃(i0:Unit),zao2 x0 x1 x2 x3 (¬(0<List.length (GV.ks x0)/\AT.k x1≠13\/GV.b x0≠0/\AT.k x1≠14)/\True)
 abbrev zao34:=((!decide (AT.k x1=14))=true->q6k x0 x1 x2)/\((!decide (AT.k x1=14))=false->zao43 x0 x1 x2 x3)
 abbrev zao19:=((!decide (GV.b x0=0))=true->zao34 x0 x1 x2 x3)/\((!decide (GV.b x0=0))=false->zao43 x0 x1 x2 x3)
 abbrev zao48:=((!decide (AT.k x1=13))=true->q6k x0 x1 x2)/\((!decide (AT.k x1=13))=false->zao19 x0 x1 x2 x3)
 abbrev q35:=(↑(GV.x x0).2.1:Int)
 abbrev qbd:=(↑(AT.f x1).2.1:Int)
 abbrev qtl:=PV.fitL x2 (q2p x1 (GV.b x0)) x4 (List.drop x4 (GV.pvs (GV.l x0)))=PV.fitL x2 (q2p x1 (GV.b x0)) 0 (GV.pvs (GV.l x0))
 abbrev zao42:=x4<=List.length (AT.fs x1)/\List.length (GV.l x0)=List.length (AT.fs x1)/\qtl x0 x1 x2 x4
 abbrev zao44:=(∀(i0:Pub),qba x0 x1 x2 x3 i0->q02 i0 (adr (GV.x x0).1 (Int.toNat (↑x4:Int)*5)) [Value.int IntKind.u64 x8,Value.string x9,Value.slice x10 x6 x12,Value.slice x11 x13 x15,Value.int IntKind.i64 x14])
 abbrev qyl:=x7.2.1.1=x3.1/\x7.2.1.2.1=x3.2.1/\x7.2.1.2.2=x3.2.2/\x5
 abbrev zao22:=GV.n x7.2.2.2=x8/\GV.s x7.2.2.2=x9/\(GV.x x7.2.2.2).1=x10/\(GV.x x7.2.2.2).2.1=x4/\(GV.x x7.2.2.2).2.2=x6/\(GV.y x7.2.2.2).1=x11/\(GV.y x7.2.2.2).2.1=x12/\(GV.y x7.2.2.2).2.2=x13/\GV.b x7.2.2.2=x14/\(muFt x7<x15/\small x7.1/\PV.sm (GV.pv x7.2.2.2))/\(∀(i0:Pub),qba x0 x1 x2 x3 i0->q0l x7.1 x7.2.1 i0/\GV.ok x7.2.2.2 i0)/\x5
 abbrev qrz:= !PV.fits x7.1 x7.2.2.1 (GV.pv x7.2.2.2)
 abbrev zao45:=((-9223372036854775808:Int)<=(↑x4:Int)+1/\(↑x4:Int)+1<=9223372036854775807)
 abbrev zao23:=zao45 x4/\∃(i0:Nat),(qbd x1)=(qbd x1)/\(↑i0:Int)=(↑x4:Int)+1/\zao31 x1 (zao2 x0 x1 x2 x3 ((zao42 x0 x1 x2 i0)/\List.length (AT.fs x1)- i0<List.length (AT.fs x1)- x4/\True))
 abbrev zao15:=(0<=(↑x4:Int)/\(↑x4:Int)<(qbd x1))/\(AT.f x1).1≠noA/\∃(i0:ByteArray),∃(i1:Option Addr),∃(i2:Nat),∃(i3:Nat),∃(i4:Int),∃(i5:Bool),∃(i6:Int),∃(i7:Int),∃(i8:ByteArray),∃(i9:Option Addr),∃(i10:Nat),∃(i11:Nat),∃(i12:Option Addr),∃(i13:Nat),∃(i14:Nat),(∀(i15:Pub),qba x0 x1 x2 x3 i15->q02 i15 (adr (AT.f x1).1 (Int.toNat (↑x4:Int)*9)) [Value.string i0,Value.slice i1 i2 i3,Value.int IntKind.i64 i4,Value.bool i5,Value.int IntKind.i64 i6,Value.int IntKind.i64 i7,Value.string i8,Value.slice i9 i10 i11,Value.slice i12 i13 i14])/\(0<=(↑x4:Int)/\(↑x4:Int)<(q35 x0))/\(GV.x x0).1≠noA/\∃(i16:Int),∃(i17:ByteArray),∃(i18:Option Addr),∃(i19:Nat),∃(i20:Nat),∃(i21:Option Addr),∃(i22:Nat),∃(i23:Nat),∃(i24:Int),zao44 x0 x1 x2 x3 x4 i19 i16 i17 i18 i21 i20 i22 i24 i23/\∃(i26:FtS),qyl x3 (i26.2.2.1=i4/\zao22 x0 x1 x2 x3 i19 (((qrz i26)=true->q6k x0 x1 x2)/\((qrz i26)=false->zao23 x0 x1 x2 x3 x4)) i20 i26 i16 i17 i18 i21 i22 i23 i24 x6) i26
 abbrev zao29:=(qyq x0 x1 x2)=true/\True
 abbrev zao12:=(decide ((↑x4:Int)<(qbd x1))=true->zao15 x0 x1 x2 x3 x4 x6)/\(decide ((↑x4:Int)<(qbd x1))=false->zao29 x0 x1 x2)
 abbrev zao10:=(∃(i0:Nat),(qbd x1)=(qbd x1)/\(↑i0:Int)=0/\zao31 x1 (zao2 x0 x1 x2 x3 ((zao42 x0 x1 x2 i0)/\True)))/\∀(i1:Nat),zao42 x0 x1 x2 i1->zao12 x0 x1 x2 x3 i1 x4
 abbrev zao9:=((!decide ((q35 x0)=(qbd x1)))=true->q6k x0 x1 x2)/\((!decide ((q35 x0)=(qbd x1)))=false->zao10 x0 x1 x2 x3 x4)
 abbrev qa0:=decide (0<=GV.b x0)=decide (0<=GV.b x0)
 abbrev qay:=GV.b x0<(↑(AT.br x1).2.1:Int)
 abbrev qgx:=decide (qay x0 x1)=decide (qay x0 x1)
 abbrev q76:=decide ((q35 x0)=1)=decide ((q35 x0)=1)
 abbrev zao49:=q76 x0/\q76 x0/\q76 x0/\q76 x0/\q76 x0/\x5
 abbrev zao11:=zao49 x0 ((0<=GV.b x0/\qay x0 x1)/\(AT.br x1).1≠noA/\q76 x0/\∃(i0:Int),(∀(i1:Pub),qba x0 x1 x2 x3 i1->q02 i1 (adr (AT.br x1).1 (Int.toNat (GV.b x0)*1)) [Value.int IntKind.i64 i0])/\q76 x0/\q76 x0/\q76 x0/\((0:Int)<=0/\0<(q35 x0))/\(GV.x x0).1≠noA/\q76 x0/\∃(i2:Int),∃(i3:ByteArray),∃(i4:Option Addr),∃(i5:Nat),∃(i6:Nat),∃(i7:Option Addr),∃(i8:Nat),∃(i9:Nat),∃(i10:Int),(∀(i11:Pub),qba x0 x1 x2 x3 i11->q02 i11 (adr (GV.x x0).1 ((0:Nat)*5)) [Value.int IntKind.u64 i2,Value.string i3,Value.slice i4 i5 i6,Value.slice i7 i8 i9,Value.int IntKind.i64 i10])/\q76 x0/\∃(i12:FtS),qyl x3 (i12.2.2.1=i0/\zao22 x0 x1 x2 x3 i5 ((decide ((q35 x0)=1)=true->(qyq x0 x1 x2)=PV.fits i12.1 i12.2.2.1 (GV.pv i12.2.2.2)/\True)/\(decide ((q35 x0)=1)=false->q6k x0 x1 x2)) i6 i12 i2 i3 i4 i7 i8 i9 i10 x4) i12)
 abbrev zao35:=q76 x0/\zao49 x0 (zao49 x0 ((decide ((q35 x0)=1)=true->False)/\(decide ((q35 x0)=1)=false->q6k x0 x1 x2)))
 abbrev zao8:=(decide ((q35 x0)=1)=true->zao11 x0 x1 x2 x3 x4)/\(decide ((q35 x0)=1)=false->zao35 x0 x1 x2)
 abbrev zao7:=qgx x0 x1/\qgx x0 x1/\qgx x0 x1/\(decide (qay x0 x1)=true->zao8 x0 x1 x2 x3 x4)/\(decide (qay x0 x1)=false->q6k x0 x1 x2)
 abbrev zao36:=qgx x0 x1/\qgx x0 x1/\qgx x0 x1/\(decide (qay x0 x1)=true->False)/\(decide (qay x0 x1)=false->q6k x0 x1 x2)
 abbrev zao6:=(decide (qay x0 x1)=true->zao7 x0 x1 x2 x3 x4)/\(decide (qay x0 x1)=false->zao36 x0 x1 x2)
 abbrev zao5:=qa0 x0/\qa0 x0/\qa0 x0/\qa0 x0/\qa0 x0/\(decide (0<=GV.b x0)=true->zao6 x0 x1 x2 x3 x4)/\(decide (0<=GV.b x0)=false->q6k x0 x1 x2)
 abbrev zao41:=qa0 x0/\qa0 x0/\qa0 x0/\qa0 x0/\qa0 x0/\(decide (0<=GV.b x0)=true->False)/\(decide (0<=GV.b x0)=false->q6k x0 x1 x2)
 abbrev zao4:=(decide (0<=GV.b x0)=true->zao5 x0 x1 x2 x3 x4)/\(decide (0<=GV.b x0)=false->zao41 x0 x1 x2)
 abbrev zao39:=AT.k x1≠9/\AT.k x1≠14/\okP x1 (List.length (GV.l x0)) (GV.ks x0) (GV.b x0)=true
 abbrev zao21:=((!decide ((q35 x0)=(qrk x0)))=true->q6k x0 x1 x2)/\((!decide ((q35 x0)=(qrk x0)))=false->∃(i0:(Option Addr×Nat×Nat)×List ByteArray),i0.1.1=(GV.y x0).1/\i0.1.2.1=(GV.y x0).2.1/\i0.1.2.2=(GV.y x0).2.2/\(List.length i0.2<4611686018427387904/\∀(i1:ByteArray),i1∈i0.2->ByteArray.size i1<9223372036854775808)/\(∀(i2:Pub),qba x0 x1 x2 x3 i2->slP txV i0.1 i0.2 i2)/\((!q31 i0.2)=true->q6k x0 x1 x2)/\((!q31 i0.2)=false->∃(i3:Unit),zao2 x0 x1 x2 x3 ((zao39 x0 x1)/\True)))
 abbrev zao20:=(decide (AT.k x1=13)=true->zao21 x0 x1 x2 x3)/\(decide (AT.k x1=13)=false->∃(i4:Unit),zao2 x0 x1 x2 x3 ((zao39 x0 x1)/\True))
 abbrev zao3:=(decide (AT.k x1=14)=true->zao4 x0 x1 x2 x3 x4)/\(decide (AT.k x1=14)=false->zao20 x0 x1 x2 x3)
 abbrev zao25:=zao45 x4/\∃(i0:Nat),(↑i0:Int)=(↑x4:Int)+1/\zao30 x0 ((q35 x0)=(q35 x0)/\zao2 x0 x1 x2 x3 ((i0<=List.length (GV.l x0)/\qtl x0 x1 x2 i0)/\List.length (GV.l x0)- i0<List.length (GV.l x0)- x4/\True))
 abbrev zao18:=(0<=(↑x4:Int)/\(↑x4:Int)<(q35 x0))/\(GV.x x0).1≠noA/\∃(i0:Int),∃(i1:ByteArray),∃(i2:Option Addr),∃(i3:Nat),∃(i4:Nat),∃(i5:Option Addr),∃(i6:Nat),∃(i7:Nat),∃(i8:Int),zao44 x0 x1 x2 x3 x4 i3 i0 i1 i2 i5 i4 i6 i8 i7/\∃(i10:FtS),qyl x3 (i10.2.2.1=AT.it x1/\zao22 x0 x1 x2 x3 i3 (((qrz i10)=true->q6k x0 x1 x2)/\((qrz i10)=false->zao25 x0 x1 x2 x3 x4)) i4 i10 i0 i1 i2 i5 i6 i7 i8 x6) i10
 abbrev zao17:=(decide ((↑x4:Int)<(q35 x0))=true->zao18 x0 x1 x2 x3 x4 x6)/\(decide ((↑x4:Int)<(q35 x0))=false->zao29 x0 x1 x2)
 abbrev zao13:=(∃(i0:Nat),(↑i0:Int)=0/\zao30 x0 ((q35 x0)=(q35 x0)/\zao2 x0 x1 x2 x3 ((i0<=List.length (GV.l x0)/\qtl x0 x1 x2 i0)/\True)))/\∀(i1:Nat),i1<=List.length (GV.l x0)/\qtl x0 x1 x2 i1->zao17 x0 x1 x2 x3 i1 x4
 abbrev zao1:=((decide (AT.k x1=9)=true->zao9 x0 x1 x2 x3 x4)/\(decide (AT.k x1=9)=false->zao3 x0 x1 x2 x3 x4))/\∀(i54:Unit),zao39 x0 x1->zao13 x0 x1 x2 x3 x4
 abbrev zao0:=((decide (0<(qrk x0))=true->zao48 x0 x1 x2 x3)/\(decide (0<(qrk x0))=false->zao19 x0 x1 x2 x3))/\∀(i8:Unit),¬(0<List.length (GV.ks x0)/\AT.k x1≠13\/GV.b x0≠0/\AT.k x1≠14)->zao1 x0 x1 x2 x3 x4
end
theorem quw(n:Nat) (S:List AT) (x:SV) (a:AT) (v:GV):q2h P (q0r [(60,cKeys),(16,qfn.below muFt n)]) Try.f42 (qka.below muFp (n+1)) (wFitsP) ⟨S,x,a,v⟩=(muFp (S,x,a,v)<n+1/\small S/\List.length (AT.fs a)<1000000/\PV.sm (GV.pv v)/\isQ (AT.k a)=true->(∃(p:Pub),qba v a S x p)->zao0 v a S x n):=by kernel_rfl
def fitsP_eq(n:Nat) (S:List AT) (x:SV) (a:AT) (v:GV):=Eq.trans (quw n S x a v) (by delta qba qrk qyq q6k zao30 zao31 zao2 zao43 zao34 zao19 zao48 q35 qbd qtl zao42 zao44 qyl zao22 qrz zao45 zao23 zao15 zao29 zao12 zao10 zao9 qa0 qay qgx q76 zao49 zao11 zao35 zao8 zao7 zao36 zao6 zao5 zao41 zao4 zao39 zao21 zao20 zao3 zao25 zao18 zao17 zao13 zao1 zao0;exact rfl)
noncomputable section
variable (x0:Int) (x1:List AT) (x2:GV) (x3:SV) (x4:Nat) (x5:ByteArray) (x6:Option Addr) (x7:Nat) (x8:Int) (x9:Option Addr) (x10:Nat) (x11:Nat) (x12:Bool) (x13:ByteArray) (x14:Int) (x15:Option Addr) (x16:Nat) (x17:Nat) (x18:Option Addr) (x19:Nat) (x20:Nat) (x21:Int) (x22:Nat) (x23:FpS) (x24:Prop)
 abbrev qbg:=PV.fits x1 x0 (GV.pv x2)=false/\True
 abbrev qwh:=x3.1=x3.1/\x3.2.1=x3.2.1/\x3.2.2=x3.2.2/\x0=x0/\x5=x5/\x6=x6/\x4=x4/\x7=x7/\x8=x8/\x9=x9/\x10=x10/\x11=x11/\x12=x12/\x13=x13/\x14=x14/\x15=x15/\x16=x16/\x17=x17/\x18=x18/\x19=x19/\x20=x20/\GV.n x2=GV.n x2/\GV.s x2=GV.s x2/\(GV.x x2).1=(GV.x x2).1/\(GV.x x2).2.1=(GV.x x2).2.1/\(GV.x x2).2.2=(GV.x x2).2.2/\(GV.y x2).1=(GV.y x2).1/\(GV.y x2).2.1=(GV.y x2).2.1/\(GV.y x2).2.2=(GV.y x2).2.2/\GV.b x2=GV.b x2/\(∀(i0:Pub),True/\q0l x1 x3 i0/\GV.ok x2 i0->True/\q0l x1 x3 i0/\GV.ok x2 i0)/\True/\True
 abbrev qia:=(decide (x0=x21)=true->∃(i0:Unit),x0=x0/\isN x0=decide (x0=x21)/\qwh x0 x1 x2 x3 x4 x5 x6 x7 x8 x9 x10 x11 x12 x13 x14 x15 x16 x17 x18 x19 x20)
 abbrev zap16:=qia x0 x1 x2 x3 x4 x5 x6 x7 x8 x9 x10 x11 x12 x13 x14 x15 x16 x17 x18 x19 x20 5/\(decide (x0=5)=false->qia x0 x1 x2 x3 x4 x5 x6 x7 x8 x9 x10 x11 x12 x13 x14 x15 x16 x17 x18 x19 x20 6/\(decide (x0=6)=false->∃(i2:Unit),x0=x0/\isN x0=decide (x0=10)/\qwh x0 x1 x2 x3 x4 x5 x6 x7 x8 x9 x10 x11 x12 x13 x14 x15 x16 x17 x18 x19 x20))
 abbrev zap13:=qia x0 x1 x2 x3 x4 x5 x6 x7 x8 x9 x10 x11 x12 x13 x14 x15 x16 x17 x18 x19 x20 4/\(decide (x0=4)=false->zap16 x0 x1 x2 x3 x4 x5 x6 x7 x8 x9 x10 x11 x12 x13 x14 x15 x16 x17 x18 x19 x20)
 abbrev zap10:=qia x0 x1 x2 x3 x4 x5 x6 x7 x8 x9 x10 x11 x12 x13 x14 x15 x16 x17 x18 x19 x20 3/\(decide (x0=3)=false->zap13 x0 x1 x2 x3 x4 x5 x6 x7 x8 x9 x10 x11 x12 x13 x14 x15 x16 x17 x18 x19 x20)
 abbrev zap9:=qia x0 x1 x2 x3 x4 x5 x6 x7 x8 x9 x10 x11 x12 x13 x14 x15 x16 x17 x18 x19 x20 2/\(decide (x0=2)=false->zap10 x0 x1 x2 x3 x4 x5 x6 x7 x8 x9 x10 x11 x12 x13 x14 x15 x16 x17 x18 x19 x20)
 abbrev zap14:=∃(i0:GV),GV.n i0=GV.n x2/\GV.s i0=GV.s x2/\(GV.x i0).1=(GV.x x2).1/\(GV.x i0).2.1=(GV.x x2).2.1/\(GV.x i0).2.2=(GV.x x2).2.2/\(GV.y i0).1=(GV.y x2).1/\(GV.y i0).2.1=(GV.y x2).2.1/\(GV.y i0).2.2=(GV.y x2).2.2/\GV.b i0=GV.b x2/\True/\PV.fits x1 x0 (GV.pv x2)=qgc (GV.x i0).2.1 (GV.y i0).2.1 (GV.b i0)/\True
 abbrev zap12:=(decide (GV.s x2=mkS [])=true->zap14 x0 x1 x2)/\(decide (GV.s x2=mkS [])=false->qbg x0 x1 x2)
 abbrev zap21:=(decide (x0=8)=true->∃(i0:Unit),x0=x0/\isT x0=decide (x0=8)/\qwh x0 x1 x2 x3 x4 x5 x6 x7 x8 x9 x10 x11 x12 x13 x14 x15 x16 x17 x18 x19 x20)/\(decide (x0=8)=false->∃(i1:Unit),x0=x0/\isT x0=decide (x0=11)/\qwh x0 x1 x2 x3 x4 x5 x6 x7 x8 x9 x10 x11 x12 x13 x14 x15 x16 x17 x18 x19 x20)
 abbrev zap11:=(decide (GV.n x2=0)=true->zap14 x0 x1 x2)/\(decide (GV.n x2=0)=false->qbg x0 x1 x2)
 abbrev qts:=x0=x0/\isQ x0=decide (x0=x8)/\x24
 abbrev zap22:=(decide (x0=13)=true->∃(i0:Unit),qts x0 13 (qwh x0 x1 x2 x3 x4 x5 x6 x7 x8 x9 x10 x11 x12 x13 x14 x15 x16 x17 x18 x19 x20))/\(decide (x0=13)=false->∃(i1:Unit),qts x0 14 (qwh x0 x1 x2 x3 x4 x5 x6 x7 x8 x9 x10 x11 x12 x13 x14 x15 x16 x17 x18 x19 x20))
 abbrev zap15:=(decide (x0=12)=true->∃(i0:Unit),qts x0 12 (qwh x0 x1 x2 x3 x4 x5 x6 x7 x8 x9 x10 x11 x12 x13 x14 x15 x16 x17 x18 x19 x20))/\(decide (x0=12)=false->zap22 x0 x1 x2 x3 x4 x5 x6 x7 x8 x9 x10 x11 x12 x13 x14 x15 x16 x17 x18 x19 x20)
 abbrev zap19:=okP x23.2.2.1 (List.length (GV.l x23.2.2.2)) (GV.ks x23.2.2.2) (GV.b x23.2.2.2)&&PV.fitL x23.1 (q2p x23.2.2.1 (GV.b x23.2.2.2)) 0 (GV.pvs (GV.l x23.2.2.2))
 abbrev zap20:=(decide (GV.n x2=0)=true->PV.fits x1 x0 (GV.pv x2)=decide (GV.s x2=mkS [])/\True)/\(decide (GV.n x2=0)=false->qbg x0 x1 x2)
 abbrev zap8:=(isQ x0=true->∃(i0:FpS),i0.2.1.1=x3.1/\i0.2.1.2.1=x3.2.1/\i0.2.1.2.2=x3.2.2/\AT.k i0.2.2.1=x0/\AT.nm i0.2.2.1=x5/\(AT.al i0.2.2.1).1=x6/\(AT.al i0.2.2.1).2.1=x4/\(AT.al i0.2.2.1).2.2=x7/\AT.it i0.2.2.1=x8/\(AT.sy i0.2.2.1).1=x9/\(AT.sy i0.2.2.1).2.1=x10/\(AT.sy i0.2.2.1).2.2=x11/\AT.hd i0.2.2.1=x12/\AT.df i0.2.2.1=x13/\AT.sz i0.2.2.1=x14/\(AT.f i0.2.2.1).1=x15/\(AT.f i0.2.2.1).2.1=x16/\(AT.f i0.2.2.1).2.2=x17/\(AT.br i0.2.2.1).1=x18/\(AT.br i0.2.2.1).2.1=x19/\(AT.br i0.2.2.1).2.2=x20/\GV.n i0.2.2.2=GV.n x2/\GV.s i0.2.2.2=GV.s x2/\(GV.x i0.2.2.2).1=(GV.x x2).1/\(GV.x i0.2.2.2).2.1=(GV.x x2).2.1/\(GV.x i0.2.2.2).2.2=(GV.x x2).2.2/\(GV.y i0.2.2.2).1=(GV.y x2).1/\(GV.y i0.2.2.2).2.1=(GV.y x2).2.1/\(GV.y i0.2.2.2).2.2=(GV.y x2).2.2/\GV.b i0.2.2.2=GV.b x2/\(muFp i0<x22+1/\small i0.1/\List.length (AT.fs i0.2.2.1)<1000000/\PV.sm (GV.pv i0.2.2.2)/\isQ (AT.k i0.2.2.1)=true)/\(∀(i1:Pub),True/\q0l x1 x3 i1/\GV.ok x2 i1->q0l i0.1 i0.2.1 i1/\AT.ok i0.2.2.1 i1/\GV.ok i0.2.2.2 i1)/\((zap19 i0)=true->zap20 x21 x1 x2)/\((zap19 i0)=false->qbg x21 x1 x2))/\(isQ x0=false->qbg x21 x1 x2)
 abbrev zap7:=((decide (x0=9)=true->∃(i0:Unit),qts x0 9 (qwh x0 x1 x2 x3 x4 x5 x6 x7 x8 x9 x10 x11 x12 x13 x14 x15 x16 x17 x18 x19 x20))/\(decide (x0=9)=false->zap15 x0 x1 x2 x3 x4 x5 x6 x7 x8 x9 x10 x11 x12 x13 x14 x15 x16 x17 x18 x19 x20))/\∀(i4:Unit),True->zap8 x0 x1 x2 x3 x4 x5 x6 x7 x8 x9 x10 x11 x12 x13 x14 x15 x16 x17 x18 x19 x20 x21 x22
 abbrev zap6:=(isT x0=true->∃(i0:AT×ByteArray),AT.k i0.1=x0/\AT.nm i0.1=x5/\(AT.al i0.1).1=x6/\(AT.al i0.1).2.1=x4/\(AT.al i0.1).2.2=x7/\AT.it i0.1=x8/\(AT.sy i0.1).1=x9/\(AT.sy i0.1).2.1=x10/\(AT.sy i0.1).2.2=x11/\AT.hd i0.1=x12/\AT.df i0.1=x13/\AT.sz i0.1=x14/\(AT.f i0.1).1=x15/\(AT.f i0.1).2.1=x16/\(AT.f i0.1).2.2=x17/\(AT.br i0.1).1=x18/\(AT.br i0.1).2.1=x19/\(AT.br i0.1).2.2=x20/\i0.2=GV.s x2/\ByteArray.size i0.2<9223372036854775808/\(okT i0.1 i0.2=true->zap11 x21 x1 x2)/\(okT i0.1 i0.2=false->qbg x21 x1 x2))/\(isT x0=false->zap7 x0 x1 x2 x3 x4 x5 x6 x7 x8 x9 x10 x11 x12 x13 x14 x15 x16 x17 x18 x19 x20 x21 x22)
 abbrev zap4:=((decide (x0=7)=true->∃(i0:Unit),x0=x0/\isT x0=decide (x0=7)/\qwh x0 x1 x2 x3 x4 x5 x6 x7 x8 x9 x10 x11 x12 x13 x14 x15 x16 x17 x18 x19 x20)/\(decide (x0=7)=false->zap21 x0 x1 x2 x3 x4 x5 x6 x7 x8 x9 x10 x11 x12 x13 x14 x15 x16 x17 x18 x19 x20))/\∀(i6:Unit),True->zap6 x0 x1 x2 x3 x4 x5 x6 x7 x8 x9 x10 x11 x12 x13 x14 x15 x16 x17 x18 x19 x20 x21 x22
 abbrev zap3:=(isN x0=true->∃(i0:AT×Int),AT.k i0.1=x0/\AT.nm i0.1=x5/\(AT.al i0.1).1=x6/\(AT.al i0.1).2.1=x4/\(AT.al i0.1).2.2=x7/\AT.it i0.1=x8/\(AT.sy i0.1).1=x9/\(AT.sy i0.1).2.1=x10/\(AT.sy i0.1).2.2=x11/\AT.hd i0.1=x12/\AT.df i0.1=x13/\AT.sz i0.1=x14/\(AT.f i0.1).1=x15/\(AT.f i0.1).2.1=x16/\(AT.f i0.1).2.2=x17/\(AT.br i0.1).1=x18/\(AT.br i0.1).2.1=x19/\(AT.br i0.1).2.2=x20/\i0.2=GV.n x2/\(0<=i0.2/\i0.2<18446744073709551616/\(AT.sy i0.1).2.1=List.length (AT.sys i0.1)/\List.length (AT.sys i0.1)<1000000)/\(okN i0.1 i0.2=true->zap12 x21 x1 x2)/\(okN i0.1 i0.2=false->qbg x21 x1 x2))/\(isN x0=false->zap4 x0 x1 x2 x3 x4 x5 x6 x7 x8 x9 x10 x11 x12 x13 x14 x15 x16 x17 x18 x19 x20 x21 x22)
 abbrev zap2:=(0<=x0/\x0<(↑x3.2.1:Int))/\x3.1≠noA/\∃(i0:Int),∃(i1:ByteArray),∃(i2:Option Addr),∃(i3:Nat),∃(i4:Nat),∃(i5:Int),∃(i6:Option Addr),∃(i7:Nat),∃(i8:Nat),∃(i9:Bool),∃(i10:ByteArray),∃(i11:Int),∃(i12:Option Addr),∃(i13:Nat),∃(i14:Nat),∃(i15:Option Addr),∃(i16:Nat),∃(i17:Nat),(∀(i18:Pub),True/\q0l x1 x3 i18/\GV.ok x2 i18->q02 i18 (adr x3.1 (Int.toNat x0*10)) [Value.int IntKind.i64 i0,Value.string i1,Value.slice i2 i3 i4,Value.int IntKind.i64 i5,Value.slice i6 i7 i8,Value.bool i9,Value.string i10,Value.int IntKind.i64 i11,Value.slice i12 i13 i14,Value.slice i15 i16 i17])/\(qia i0 x1 x2 x3 i3 i1 i2 i4 i5 i6 i7 i8 i9 i10 i11 i12 i13 i14 i15 i16 i17 1/\(decide (i0=1)=false->zap9 i0 x1 x2 x3 i3 i1 i2 i4 i5 i6 i7 i8 i9 i10 i11 i12 i13 i14 i15 i16 i17))/\∀(i33:Unit),True->zap3 i0 x1 x2 x3 i3 i1 i2 i4 i5 i6 i7 i8 i9 i10 i11 i12 i13 i14 i15 i16 i17 x0 x4
 abbrev zap1:=(decide ((↑x3.2.1:Int)<=x0)=true->qbg x0 x1 x2)/\(decide ((↑x3.2.1:Int)<=x0)=false->zap2 x0 x1 x2 x3 x4)
 abbrev zap0:=(decide (x0<0)=true->qbg x0 x1 x2)/\(decide (x0<0)=false->zap1 x0 x1 x2 x3 x4)
end
theorem qxw(n:Nat) (S:List AT) (x:SV) (t:Int) (v:GV):q2h P (q0r [(39,qtk),(41,qpr),(40,qw6),(42,qka.below muFp (n+1))]) Try.f16 (qfn.below muFt (n+1)) (wFits) ⟨S,x,t,v⟩=(muFt (S,x,t,v)<n+1/\small S/\PV.sm (GV.pv v)->(∃(p:Pub),True/\q0l S x p/\GV.ok v p)->zap0 t S v x n):=by kernel_rfl
def fits_eq(n:Nat) (S:List AT) (x:SV) (t:Int) (v:GV):=Eq.trans (qxw n S x t v) (by delta qbg qwh qia zap16 zap13 zap10 zap9 zap14 zap12 zap21 zap11 qts zap22 zap15 zap19 zap20 zap8 zap7 zap6 zap4 zap3 zap2 zap1 zap0;exact rfl)
noncomputable section
variable (x0:SV) (x1:SV) (x2:List ByteArray) (x3:List ByteArray) (x4:Nat) (x5:Prop)
 abbrev qrn:=(↑x0.2.1:Int)
 abbrev zaq5:=x0.1=x0.1/\x0.2.1=x0.2.1/\x0.2.2=x0.2.2/\x5
 abbrev zaq7:=(qrn x0)=(qrn x0)/\(∀(i0:Pub),True/\slP txV x0 x2 i0/\slP txV x1 x3 i0->True/\slP txV x0 x2 i0/\slP txV x1 x3 i0)/\(x4<=List.length x2/\List.length x2=List.length x3/\List.take x4 x2=List.take x4 x3)/\x5
 abbrev zaq4:=((-9223372036854775808:Int)<=(↑x4:Int)+1/\(↑x4:Int)+1<=9223372036854775807)/\∃(i0:Nat),zaq5 x0 (zaq5 x1 (zaq5 x0 ((↑i0:Int)=(↑x4:Int)+1/\zaq7 x0 x1 x2 x3 i0 (List.length x2- i0<List.length x2- x4/\True))))
 abbrev zaq3:=(0<=(↑x4:Int)/\(↑x4:Int)<(qrn x0))/\x0.1≠noA/\∃(i0:ByteArray),(∀(i1:Pub),True/\slP txV x0 x2 i1/\slP txV x1 x3 i1->q02 i1 (adr x0.1 (Int.toNat (↑x4:Int)*1)) [Value.string i0])/\(0<=(↑x4:Int)/\(↑x4:Int)<(qrn x1))/\x1.1≠noA/\∃(i2:ByteArray),(∀(i3:Pub),True/\slP txV x0 x2 i3/\slP txV x1 x3 i3->q02 i3 (adr x1.1 (Int.toNat (↑x4:Int)*1)) [Value.string i2])/\((!decide (i0=i2))=true->decide (x2=x3)=false/\True)/\((!decide (i0=i2))=false->zaq4 x0 x1 x2 x3 x4)
 abbrev zaq2:=(decide ((↑x4:Int)<(qrn x0))=true->zaq3 x0 x1 x2 x3 x4)/\(decide ((↑x4:Int)<(qrn x0))=false->decide (x2=x3)=true/\True)
 abbrev zaq1:=(∃(i0:Nat),zaq5 x0 (zaq5 x1 (zaq5 x0 ((↑i0:Int)=0/\zaq7 x0 x1 x2 x3 i0 True))))/\∀(i2:Nat),i2<=List.length x2/\List.length x2=List.length x3/\List.take i2 x2=List.take i2 x3->zaq2 x0 x1 x2 x3 i2
 abbrev zaq0:=((!decide ((qrn x0)=(qrn x1)))=true->decide (x2=x3)=false/\True)/\((!decide ((qrn x0)=(qrn x1)))=false->zaq1 x0 x1 x2 x3)
end
theorem eqS_eqz(x:SV) (l:List ByteArray) (y:SV) (m:List ByteArray):q2h P (λ_=>none) Try.f54 cEqS (wEqS) ⟨x,l,y,m⟩=(List.length l<4611686018427387904/\List.length m<4611686018427387904->(∃(p:Pub),True/\slP txV x l p/\slP txV y m p)->zaq0 x y l m):=by kernel_rfl
def qk0(x:SV) (l:List ByteArray) (y:SV) (m:List ByteArray):=Eq.trans (eqS_eqz x l y m) (by delta qrn zaq5 zaq7 zaq4 zaq3 zaq2 zaq1 zaq0;exact rfl)
noncomputable section
variable (x0:SV) (x1:SV) (x2:List GV) (x3:List GV) (x4:Nat) (x5:Nat) (x6:Prop) (x7:Nat->Option Obj)
 abbrev zar6:=True/\(slP GV.cells x0 x2 x7/\GV.oks x2 x7)/\slP GV.cells x1 x3 x7/\GV.oks x3 x7
 abbrev qlw:=(↑x0.2.1:Int)
 abbrev zar9:=PV.sames (GV.pvs x2) (GV.pvs x3)=false/\True
 abbrev zar5:=x0.1=x0.1/\x0.2.1=x0.2.1/\x0.2.2=x0.2.2/\x6
 abbrev zar7:=x4<=List.length x2/\List.length x2=List.length x3/\PV.sames (List.drop x4 (GV.pvs x2)) (List.drop x4 (GV.pvs x3))=PV.sames (GV.pvs x2) (GV.pvs x3)
 abbrev zar4:=((-9223372036854775808:Int)<=(↑x4:Int)+1/\(↑x4:Int)+1<=9223372036854775807)/\∃(i0:Nat),zar5 x0 (zar5 x1 (zar5 x0 ((↑i0:Int)=(↑x4:Int)+1/\(qlw x0)=(qlw x0)/\(∀(i1:Pub),zar6 x0 x1 x2 x3 i1->zar6 x0 x1 x2 x3 i1)/\(zar7 x2 x3 i0)/\List.length x2- i0<List.length x2- x4/\True)))
 abbrev zar3:=(0<=(↑x4:Int)/\(↑x4:Int)<(qlw x0))/\x0.1≠noA/\∃(i0:Int),∃(i1:ByteArray),∃(i2:Option Addr),∃(i3:Nat),∃(i4:Nat),∃(i5:Option Addr),∃(i6:Nat),∃(i7:Nat),∃(i8:Int),(∀(i9:Pub),zar6 x0 x1 x2 x3 i9->q02 i9 (adr x0.1 (Int.toNat (↑x4:Int)*5)) [Value.int IntKind.u64 i0,Value.string i1,Value.slice i2 i3 i4,Value.slice i5 i6 i7,Value.int IntKind.i64 i8])/\(0<=(↑x4:Int)/\(↑x4:Int)<(qlw x1))/\x1.1≠noA/\∃(i10:Int),∃(i11:ByteArray),∃(i12:Option Addr),∃(i13:Nat),∃(i14:Nat),∃(i15:Option Addr),∃(i16:Nat),∃(i17:Nat),∃(i18:Int),(∀(i19:Pub),zar6 x0 x1 x2 x3 i19->q02 i19 (adr x1.1 (Int.toNat (↑x4:Int)*5)) [Value.int IntKind.u64 i10,Value.string i11,Value.slice i12 i13 i14,Value.slice i15 i16 i17,Value.int IntKind.i64 i18])/\∃(i20:GV×GV),GV.n i20.1=i0/\GV.s i20.1=i1/\(GV.x i20.1).1=i2/\(GV.x i20.1).2.1=i3/\(GV.x i20.1).2.2=i4/\(GV.y i20.1).1=i5/\(GV.y i20.1).2.1=i6/\(GV.y i20.1).2.2=i7/\GV.b i20.1=i8/\GV.n i20.2=i10/\GV.s i20.2=i11/\(GV.x i20.2).1=i12/\(GV.x i20.2).2.1=i13/\(GV.x i20.2).2.2=i14/\(GV.y i20.2).1=i15/\(GV.y i20.2).2.1=i16/\(GV.y i20.2).2.2=i17/\GV.b i20.2=i18/\(muSa i20<x5/\PV.sm (GV.pv i20.1)/\PV.sm (GV.pv i20.2))/\(∀(i21:Pub),zar6 x0 x1 x2 x3 i21->GV.ok i20.1 i21/\GV.ok i20.2 i21)/\((!PV.same (GV.pv i20.1) (GV.pv i20.2))=true->zar9 x2 x3)/\((!PV.same (GV.pv i20.1) (GV.pv i20.2))=false->zar4 x0 x1 x2 x3 x4)
 abbrev zar2:=(decide ((↑x4:Int)<(qlw x0))=true->zar3 x0 x1 x2 x3 x4 x5)/\(decide ((↑x4:Int)<(qlw x0))=false->PV.sames (GV.pvs x2) (GV.pvs x3)=true/\True)
 abbrev zar1:=(∃(i0:Nat),zar5 x0 (zar5 x1 (zar5 x0 ((↑i0:Int)=0/\(qlw x0)=(qlw x0)/\(∀(i1:Pub),zar6 x0 x1 x2 x3 i1->zar6 x0 x1 x2 x3 i1)/\(zar7 x2 x3 i0)/\True))))/\∀(i2:Nat),zar7 x2 x3 i2->zar2 x0 x1 x2 x3 i2 x4
 abbrev zar0:=((!decide ((qlw x0)=(qlw x1)))=true->zar9 x2 x3)/\((!decide ((qlw x0)=(qlw x1)))=false->zar1 x0 x1 x2 x3 x4)
end
theorem eqF_eqz(n:Nat) (x:SV) (l:List GV) (y:SV) (m:List GV):q2h P (q0r [(34,qgt.below muSa n)]) Try.f55 (cEqF.below muEf (n+1)) (wEqF) ⟨x,l,y,m⟩=(muEf (x,l,y,m)<n+1/\(List.length l<4611686018427387904/\PV.sms (GV.pvs l))/\List.length m<4611686018427387904/\PV.sms (GV.pvs m)->(∃(p:Pub),zar6 x y l m p)->zar0 x y l m n):=by kernel_rfl
def eqF_eq(n:Nat) (x:SV) (l:List GV) (y:SV) (m:List GV):=Eq.trans (eqF_eqz n x l y m) (by delta zar6 qlw zar9 zar5 zar7 zar4 zar3 zar2 zar1 zar0;exact rfl)
noncomputable section
variable (x0:GV) (x1:GV) (x2:Nat) (x3:EfS) (x4:Nat->Option Obj)
 abbrev zas4:=(slP GV.cells x3.1 x3.2.1 x4/\GV.oks x3.2.1 x4)/\slP GV.cells x3.2.2.1 x3.2.2.2 x4/\GV.oks x3.2.2.2 x4
 abbrev zas3:=PV.same (GV.pv x0) (GV.pv x1)=false/\True
 abbrev zas2:=(decide (GV.b x0=GV.b x1)=true->∃(i0:(Option Addr×Nat×Nat)×List ByteArray×(Option Addr×Nat×Nat)×List ByteArray),i0.1.1=(GV.y x0).1/\i0.1.2.1=(GV.y x0).2.1/\i0.1.2.2=(GV.y x0).2.2/\i0.2.2.1.1=(GV.y x1).1/\i0.2.2.1.2.1=(GV.y x1).2.1/\i0.2.2.1.2.2=(GV.y x1).2.2/\(List.length i0.2.1<4611686018427387904/\List.length i0.2.2.2<4611686018427387904)/\(∀(i1:Pub),True/\GV.ok x0 i1/\GV.ok x1 i1->slP txV i0.1 i0.2.1 i1/\slP txV i0.2.2.1 i0.2.2.2 i1)/\(decide (i0.2.1=i0.2.2.2)=true->∃(i2:EfS),i2.1.1=(GV.x x0).1/\i2.1.2.1=(GV.x x0).2.1/\i2.1.2.2=(GV.x x0).2.2/\i2.2.2.1.1=(GV.x x1).1/\i2.2.2.1.2.1=(GV.x x1).2.1/\i2.2.2.1.2.2=(GV.x x1).2.2/\(muEf i2<x2/\(List.length i2.2.1<4611686018427387904/\PV.sms (GV.pvs i2.2.1))/\List.length i2.2.2.2<4611686018427387904/\PV.sms (GV.pvs i2.2.2.2))/\(∀(i3:Pub),True/\GV.ok x0 i3/\GV.ok x1 i3->zas4 i2 i3)/\PV.same (GV.pv x0) (GV.pv x1)=PV.sames (GV.pvs i2.2.1) (GV.pvs i2.2.2.2)/\True)/\(decide (i0.2.1=i0.2.2.2)=false->zas3 x0 x1))/\(decide (GV.b x0=GV.b x1)=false->zas3 x0 x1)
 abbrev zas1:=(decide (GV.s x0=GV.s x1)=true->zas2 x0 x1 x2)/\(decide (GV.s x0=GV.s x1)=false->zas3 x0 x1)
 abbrev zas0:=(decide (GV.n x0=GV.n x1)=true->zas1 x0 x1 x2)/\(decide (GV.n x0=GV.n x1)=false->zas3 x0 x1)
end
theorem qxx(n:Nat) (v w:GV):q2h P (q0r [(54,cEqS),(55,cEqF.below muEf n)]) Try.f34 (qgt.below muSa (n+1)) (λ_=>{}) ⟨v,w⟩=(muSa (v,w)<n+1/\PV.sm (GV.pv v)/\PV.sm (GV.pv w)->(∃(p:Pub),True/\GV.ok v p/\GV.ok w p)->zas0 v w n):=by kernel_rfl
def same_eq(n:Nat) (v w:GV):=Eq.trans (qxx n v w) (by delta zas4 zas3 zas2 zas1 zas0;exact rfl)
end
end Go.Proofs.Ytpanaicglidfjaa.Wd
