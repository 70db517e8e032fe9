/-
  What the functions do: contracts, and their questions answered. No condition but what its theorems ask.
-/
import Derived.Test.YtpanaicglidfjaaU6
import Derived.Test.YtpanaicglidfjaaProg
import Derived.Laws.BitsAllLaws
import Derived.Test.YtpanaicglidfjaaRw
namespace Go.Proofs.Ytpanaicglidfjaa.Wd
open Go.Proofs.Ytpanaicglidfjaa.Eng Go.Proofs.Ytpanaicglidfjaa.Sen Go.RowKit
set_option linter.defProp false
set_option linter.unusedVariables false
set_option linter.unusedSimpArgs false
set_option maxRecDepth 1000000
open Go.Value (int string slice bool)
open Go.IntKind (i64 u64 u8 u32 i32)
open _root_.List (length take drop)
open _root_.ByteArray (size)
open _root_.Int (toNat)
noncomputable section
abbrev P:=Try.prog
def mixed:P.follows .mixedOrders=true:=by decide+kernel
theorem aok{calls:Nat->Option Ct} (hc:∀g C,calls g=some C->q58 P g C) {f:Nat} {fn:Func} {C:Ct} {W:C.σ->WayF} (hfn:P.funcs[f]? =some fn) (hv:∀s,qki P calls fn C W s) (hb:q2f P f fn=true:=by kernel_rfl) (h1:1<=C.m:=by exact Nat.le_of_ble_eq_true rfl) (hle:C.m<=C.m':=by exact Nat.le_of_ble_eq_true rfl) (hn:∀s,Nat.ble (C.args s).length fn.ntmps=true:=by exactλ_=>by kernel_rfl):q58 P f C:=qkl mixed hc hfn hb h1 hle hn hv
theorem aokX{calls:Nat->Option Ct} (hc:∀g C,calls g=some C->q58 P g C) {rel:Nat->Option CtR} (hrel:∀g C,rel g=some C->q1u P g C) {f:Nat} {fn:Func} {C:Ct} {W:C.σ->WayF} (hfn:P.funcs[f]? =some fn) (hv:∀s,qkk P calls rel fn C W s) (hb:q2f P f fn=true:=by kernel_rfl) (h1:1<=C.m:=by exact Nat.le_of_ble_eq_true rfl) (hle:C.m<=C.m':=by exact Nat.le_of_ble_eq_true rfl) (hn:∀s,Nat.ble (C.args s).length fn.ntmps=true:=by exactλ_=>by kernel_rfl):q58 P f C:=qjs mixed hc hrel hfn hb h1 hle hn hv
theorem aokR{calls:Nat->Option Ct} (hc:∀g C,calls g=some C->q58 P g C) {rel:Nat->Option CtR} (hrel:∀g C,rel g=some C->q1u P g C) {f:Nat} {fn:Func} {C:CtR} {W:C.σ->WayF} (hfn:P.funcs[f]? =some fn) (hv:∀s,qkj P calls rel fn C W s) (hb:q2f P f fn=true:=by kernel_rfl) (h1:1<=C.m:=by exact Nat.le_of_ble_eq_true rfl) (hle:C.m<=C.m':=by exact Nat.le_of_ble_eq_true rfl) (hn:∀s,Nat.ble (C.args s).length fn.ntmps=true:=by exactλ_=>by kernel_rfl):q1u P f C:=qjr mixed hc hrel hfn hb h1 hle hn hv
theorem sbS:(∀(p:Prop) [Decidable p],(decide p=true)=p)/\(∀(p:Prop) [Decidable p],(decide p=false)=¬p)/\(∀b:Bool,((!b)=true)=(b=false))/\(∀b:Bool,((!b)=false)=(b=true))/\(∀p,(True/\p)=p)/\(∀p,(p/\True)=p)/\(∀(α:Type) (a:α),(a=a)=True)/\(∀p:Prop,(p->p)=True)/\(∀α:Type,(α->True)=True)/\(∀p:Prop,(p->True)=True):=⟨λ_ _=>by simp,λ_ _=>by simp,by simp,by simp,by simp,by simp,by simp,by simp,by simp,by simp⟩
abbrev Jb(a:Int):Prop:=(-9223372036854775808:Int)<=a/\a<=9223372036854775807
abbrev Jt(p:Prop) [Decidable p]:Prop:=decide p=true
abbrev Jf(p:Prop) [Decidable p]:Prop:=decide p=false
abbrev Ji(p:Prop) [Decidable p] (a b:Prop):Prop:=(Jt p->a)/\(Jf p->b)
def z0u:∀g C,(λ_=>none:Nat->Option Ct) g=some C->q58 P g C:=λg C h=>by cases h
def slI(t:T AV) (k:Nat):Option Int:=match t.get k with
  | some a=>match gi a with
    |some (_,i)=>some i
    |none=>none
  |none=>none
def z1i:Pl noA:=trivial
def z00{α:Type} (f:α->List Value):List α->List Value
 | []=>[]
 |x::l=>f x++z00 f l
def z01{α:Type} {f:α->List Value} {e:Nat} (hf:∀x,(f x).length=e):∀l,(z00 f l).length=l.length*e
  | []=>by simp[z00]
  | x::l=>by
    rw[z00,List.length_append,hf,z01 hf l,List.length_cons,Nat.succ_mul];omega
def z07{α:Type} {f:α->List Value}:∀l m,z00 f (l++m)=z00 f l++z00 f m
  | [],m=>rfl
  | x::l,m=>by
    show f x++z00 f (l++m)=_
    rw[z07 l m,←List.append_assoc];rfl
def z37{α:Type} {f:α->List Value} {e:Nat} (hf:∀x,(f x).length=e):∀(l:List α) (i:Nat) (hi:i<l.length) (j:Nat),j<e->(z00 f l)[i*e+j]? =(f l[i])[j]?
  | x::l,0,_,j,hj=>by
    show(f x++z00 f l)[0*e+j]? =_
    rw[Nat.zero_mul,Nat.zero_add,List.getElem?_append_left (by rw[hf];exact hj)];rfl
  | x::l,i+1,hi,j,hj=>by
    show(f x++z00 f l)[(i+1)*e+j]? =_
    have:(i+1)*e=i*e+e:=Nat.succ_mul i e
    rw[List.getElem?_append_right (by rw[hf];omega),show(i+1)*e+j- (f x).length=i*e+j by rw[hf];omega]
    exact z37 hf l i (by simpa using hi) j hj
def jn3(x:Addr) (h:x.spot=none) (i j:Nat):(x.add i).add j=x.add (i+j):=by
 obtain⟨b,o,s⟩:=x
 simp only at h
 subst h
 unfold Addr.add
 by_cases hi:i=0
 ·subst hi;simp
 ·by_cases hj:j=0
  ·subst hj;simp[hi]
  ·rw[if_neg hi,if_neg hj,if_neg (by omega)]
   simp only[Nat.add_assoc]
def ze4{α:Type} {f:α->List Value} {e:Nat} (hf:∀x,(f x).length=e) (he:0<e) {p:Pub} {a:Option Addr} {n c:Nat} {l:List α} (h:qhd p a n c (z00 f l)) {i:Nat} (hi:i<l.length):a≠noA/\q3f p (adr a (i*e)) (f l[i]):=by
 rcases h.2 with h|⟨x,rfl,h1,h2⟩
 ·have:=congrArg List.length h.1
  rw[z01 hf,List.length_nil]at this
  have:=Nat.mul_pos (show 0<l.length by omega) he
  omega
 ·refine⟨by simp,λj v hj=> ?_⟩
  have hje:j<e:=by have:=(List.getElem?_eq_some_iff.mp hj).1;rw[hf]at this;exact this
  show q67 p ((x.add (i*e)).add j)=some v
  rw[jn3 x h1]
  exact h2 _ v (by rw[z37 hf l i hi j hje];exact hj)
def f1s:List Value->Option ByteArray
 | [.string s]=>some s
 |_=>none
def f1i:List Value->Option Int
 | [.int _ c]=>some c
 |_=>none
def z3d(s:ByteArray) (j:Nat):bat s j<256:=by unfold bat;exact UInt8.toNat_lt _
def zsl{s:ByteArray} {j:Nat} (h:s.size<=j):bat s j=0:=by
 unfold bat
 rw[getElem?_neg s j (by omega)];rfl
def ldN(c:Nat):Nat:=if c<128 then 1 else if 192<=c/\c<224 then 2 else if 224<=c/\c<240 then 3 else if 240<=c/\c<248 then 4 else 0
def ldV(c:Nat):Nat:=if c<128 then c else if 192<=c/\c<224 then c- 192 else if 224<=c/\c<240 then c- 224 else if 240<=c/\c<248 then c- 240 else 0
def ctC(c:Nat):Bool:=decide (128<=c)&&decide (c<192)
def vlF(s:ByteArray):Nat->Option Nat
  |0=>some 0
  |1=>some (ldV (bat s 0))
  | i+2=>match vlF s (i+1)with
    |some r=>if ctC (bat s (i+1))=true then some (r*64+(bat s (i+1)- 128))else none
    |none=>none
def lnN(r:Nat):Nat:=if r<128 then 1 else if r<2048 then 2 else if r<65536 then 3 else 4
def isC(r:Nat):Bool:=decide (r<=1114111)&& !(decide (55296<=r)&&decide (r<=57343))
def frt(s:ByteArray):Nat:=if s.size<ldN (bat s 0)then 0 else match vlF s (ldN (bat s 0))with
 |none=>0
 |some r=>if ldN (bat s 0)=0\/isC r=false\/lnN r≠ldN (bat s 0)then 0 else ldN (bat s 0)
def zig:Nat->ByteArray->Bool
 |0,_=>true
 |f+1,s=>if s.size=0 then true else if frt s=0 then false else zig f (s.extract (frt s) s.size)
def vld(s:ByteArray):Bool:=zig s.size s
def zso:Ct:=ctS Int (λc=>[.int .u8 c]) f1i (λc=>0<=c/\c<256) (λ_=>{}) λc=> .tup [.sv (.int .i64 (ldN c.toNat:Nat)), .sv (.int .u32 (ldV c.toNat:Nat))]
def cIs:Ct:=ctS Int (λc=>[.int .u32 c]) f1i (λc=>0<=c/\c<4294967296) (λ_=>{}) λc=> .sv (.bool (isC c.toNat))
def z9g:Ct:=ctS Int (λc=>[.int .u32 c]) f1i (λc=>0<=c/\c<4294967296) (λ_=>{}) λc=> .sv (.int .i64 (lnN c.toNat:Nat))
def zbg:Ct:=ctS ByteArray (λs=>[.string s]) f1s (λs=>0<s.size/\s.size<9223372036854775808) (λ_=>{}) λs=> .sv (.int .i64 (frt s:Nat))
def z32:Ct:=ctS ByteArray (λs=>[.string s]) f1s (λs=>s.size<9223372036854775808) (λ_=>{}) λs=> .sv (.bool (vld s))
def slS(t:T AV) (k:Nat):Option ByteArray:=match t.get k with
 |some a=>gs a
 |none=>none
def zrw:zbg.σ->WayF:=λs=>{ann:=λ_ _ _=>some {σ:=Int×Int,pre:=λ⟨r,i⟩=>1<=i/\(i<=ldN (bat s 0)\/i=1)/\∃q:Nat,r=q/\(ldN (bat s 0)=0\/vlF s i.toNat=some q),find:=some λt _=>match slI t 4 with|some r=>(match slI t 5 with|some i=>some (r,i)|none=>none)|none=>none,t:=λ⟨r,i⟩=>[(4, .sv (.int .u32 r)),(5, .sv (.int .i64 i))],h:=λ_=>[],more:=0,μ:=λ⟨r,i⟩=>5- i.toNat,keep:=[0,2,3]}}
def zrq:Nat->Option Ct:=qfv [(127,zso),(128,cIs),(129,z9g)]
def zs5:z32.σ->WayF:=λs=>{ann:=λ_ _ _=>some {σ:=ByteArray,pre:=λt=>t.size<=s.size/\vld t=vld s,find:=some λt _=>slS t 0,t:=λu=>[(0, .sv (.string u))],h:=λ_=>[],more:=0,μ:=λu=>u.size,keep:=[2]}}
def j1r:Nat->Option Ct:=qfv [(92,zbg)]
def ptV(s:ByteArray):Nat:=if frt s=0 then 0 else(vlF s (frt s)).getD 0
def z47:Ct:=ctS ByteArray (λs=>[.string s]) f1s (λs=>s.size<9223372036854775808) (λ_=>{}) λs=> .tup [.sv (.int .u32 (ptV s:Nat)), .sv (.int .i64 (frt s:Nat))]
def leN(n:Nat):Nat:=if n=2 then 128 else if n=3 then 2048 else 65536
def zs0:z47.σ->WayF:=λs=>{
 ann:=λ_ _ _=>some {σ:=Int×Int,pre:=λ⟨v,i⟩=>1<=i/\i<=ldN (bat s 0)/\∃q:Nat,v=q/\vlF s i.toNat=some q,find:=some λt _=>match slI t 6 with|some v=>(match slI t 8 with|some i=>some (v,i)|none=>none)|none=>none,t:=λ⟨v,i⟩=>[(6, .sv (.int .u32 v)),(8, .sv (.int .i64 i))],h:=λ_=>[],more:=0,μ:=λ⟨v,i⟩=>5- i.toNat,keep:=[0,5,7]}
 cut:=λr _ _=>match r with
  |14=>some {σ:=Unit,pre:=λ_=>0<s.size/\2<=ldN (bat s 0),find:=some λ_ _=>some (),t:=λ_=>[(5, .sv (.int .i64 (ldN (bat s 0):Nat))),(6, .sv (.int .u32 (ldV (bat s 0):Nat))),(7, .sv (.int .u32 (leN (ldN (bat s 0)):Nat)))],h:=λ_=>[],more:=0,μ:=λ_=>0,keep:=[0]}
  |_=>none}
def zix:z32.σ->WayF:=λs=>{ann:=λ_ _ _=>some {σ:=ByteArray,pre:=λt=>t.size<=s.size/\vld t=vld s,find:=some λt _=>slS t 0,t:=λu=>[(0, .sv (.string u))],h:=λ_=>[],more:=0,μ:=λu=>u.size,keep:=[]}}
def j1a(c:Nat):ldN c<=4:=by
 unfold ldN;repeat' split
 all_goals omega
def j1c(c:Nat):ldV c<128:=by
 unfold ldV;repeat' split
 all_goals omega
section
variable (x0 x1 x2:Int)
 abbrev jcf:=(↑(ldN (toNat x0)):Int)=1/\(↑(ldV (toNat x0)):Int)=IntKind.wrap u32 x0/\True
 abbrev j92:=shP BinOp.shr u8 x0 x1=x2
 def j91:=(↑(ldN (toNat x0)):Int)=x1/\(↑(ldV (toNat x0)):Int)=IntKind.wrap u32 (qb6 BinOp.and u8 x0 x2)/\True
 def jcg:=(↑(ldN (toNat x0)):Int)=0/\(↑(ldV (toNat x0)):Int)=0/\True
 def jce:=(0:Int)<=3/\Ji (j92 x0 3 30) (j91 x0 4 7) (jcg x0)
 def jcd:=(0:Int)<=4/\Ji (j92 x0 4 14) (j91 x0 3 15) (jce x0)
 def jcc:=(0:Int)<=5/\Ji (j92 x0 5 6) (j91 x0 2 31) (jcd x0)
 def jcb:=Ji (x0<128) (jcf x0) (jcc x0)
end
def zmq(c:Int):qki P ((λ_=>none)) Try.f127 zso (λ_=>{}) c=(0<=c/\c<256->jcb c):=by kernel_rfl
def ztd:=λc=>Eq.trans (zmq c) (by delta Ji Jt Jf jcf j92 j91 jcg jce jcd jcc jcb;exact rfl)
def ja1:∀c<256,¬c<128->(decide (shP BinOp.shr IntKind.u8 (c:Nat) 5=6)=(decide (192<=c)&&decide (c<224)))/\(decide (shP BinOp.shr IntKind.u8 (c:Nat) 4=14)=(decide (224<=c)&&decide (c<240)))/\(decide (shP BinOp.shr IntKind.u8 (c:Nat) 3=30)=(decide (240<=c)&&decide (c<248))):=by decide+kernel
def ja2:∀c<256,IntKind.wrap IntKind.u32 ((c:Nat):Int)=(c:Nat)/\(192<=c->c<224->IntKind.wrap IntKind.u32 (qb6 BinOp.and IntKind.u8 (c:Nat) 31)=((c- 192:Nat):Int))/\(224<=c->c<240->IntKind.wrap IntKind.u32 (qb6 BinOp.and IntKind.u8 (c:Nat) 15)=((c- 224:Nat):Int))/\(240<=c->c<248->IntKind.wrap IntKind.u32 (qb6 BinOp.and IntKind.u8 (c:Nat) 7)=((c- 240:Nat):Int)):=by decide+kernel
def zte:q58 P 127 zso:=by
 refine qkl mixed z0u (W:=λ_=>{}) Try.func127 (by kernel_rfl) (by decide) (by decide) (λc=>by kernel_rfl) λ(c:Int)=>(ztd c).mpr ?_
 rintro⟨h1,h2⟩
 obtain⟨n,rfl⟩:=Int.eq_ofNat_of_zero_le h1
 have hn:n<256:=by omega
 obtain⟨b0,b1,b2,b3⟩:=ja2 n hn
 simp only[Int.toNat_natCast,and_true,decide_eq_true_eq,decide_eq_false_iff_not]
 refine⟨λh=> ?_,λh=>⟨by omega,?_⟩⟩
 ·unfold ldN ldV;rw[if_pos (by omega),if_pos (by omega),b0];simp
 have hg:¬n<128:=by omega
 obtain⟨a1,a2,a3⟩:=ja1 n hn hg
 have a1:(shP BinOp.shr IntKind.u8 (n:Nat) 5=6)↔(192<=n/\n<224):=by
  rw[←decide_eq_true_iff (p:=shP BinOp.shr IntKind.u8 (n:Nat) 5=6),a1];simp
 have a2:(shP BinOp.shr IntKind.u8 (n:Nat) 4=14)↔(224<=n/\n<240):=by
  rw[←decide_eq_true_iff (p:=shP BinOp.shr IntKind.u8 (n:Nat) 4=14),a2];simp
 have a3:(shP BinOp.shr IntKind.u8 (n:Nat) 3=30)↔(240<=n/\n<248):=by
  rw[←decide_eq_true_iff (p:=shP BinOp.shr IntKind.u8 (n:Nat) 3=30),a3];simp
 rw[a1,a2,a3]
 refine⟨λg=> ?_,λg=>⟨by omega,λg2=> ?_,λg2=>⟨by omega,λg3=> ?_,λg3=> ?_⟩⟩⟩
 ·unfold ldN ldV
  rw[if_neg hg,if_pos g,if_neg hg,if_pos g,b1 g.1 g.2];simp
 ·unfold ldN ldV
  rw[if_neg hg,if_neg g,if_pos g2,if_neg hg,if_neg g,if_pos g2,b2 g2.1 g2.2];simp
 ·unfold ldN ldV
  rw[if_neg hg,if_neg g,if_neg g2,if_pos g3,if_neg hg,if_neg g,if_neg g2,if_pos g3,b3 g3.1 g3.2];simp
 ·unfold ldN ldV
  rw[if_neg hg,if_neg g,if_neg g2,if_neg g3,if_neg hg,if_neg g,if_neg g2,if_neg g3];simp
def j19(c:Int):qki P ((λ_=>none)) Try.f128 cIs (λ_=>{}) c=((0:Int)<=c/\c<(4294967296:Int)->(decide (c<=(1114111:Int))=true->(0:Int)<=(11:Int)/\isC (Int.toNat c)= !decide (shP BinOp.shr IntKind.u32 c (11:Int)=(27:Int))/\True)/\(decide (c<=(1114111:Int))=false->isC (Int.toNat c)=false/\True)):=by kernel_rfl
def ja0:q58 P 128 cIs:=by
 refine qkl mixed z0u (W:=λ_=>{}) Try.func128 (by kernel_rfl) (by decide) (by decide) (λc=>by kernel_rfl) λ(c:Int)=>(j19 c).mpr ?_
 rintro⟨h1,h2⟩
 obtain⟨n,rfl⟩:=Int.eq_ofNat_of_zero_le h1
 simp only[Int.toNat_natCast,and_true,decide_eq_true_eq,decide_eq_false_iff_not,isC]
 refine⟨λh=>⟨by omega,?_⟩,λh=> ?_⟩
 ·have:shP BinOp.shr IntKind.u32 (n:Nat) 11=((n / 2048:Nat):Int):=by
   show(n:Int).fdiv (2 ^ 11)=_
   rw[Int.fdiv_eq_ediv_of_nonneg _ (by decide)];omega
  rw[this]
  by_cases g:55296<=n/\n<=57343
  ·have e:n / 2048=27:=by omega
   rw[e];simp;omega
  ·have e:n / 2048≠27:=by omega
   have e2:¬((n / 2048:Nat):Int)=27:=by omega
   rw[decide_eq_false e2]
   simp;omega
 ·rw[decide_eq_false (by omega)];rfl
def zdt(c:Int):qki P ((λ_=>none)) Try.f129 z9g (λ_=>{}) c=((0:Int)<=c/\c<(4294967296:Int)->(decide (c<(128:Int))=true->(↑(lnN (toNat c)):Int)=(1:Int)/\True)/\(decide (c<(128:Int))=false->(decide (c<(2048:Int))=true->(↑(lnN (toNat c)):Int)=(2:Int)/\True)/\(decide (c<(2048:Int))=false->(decide (c<(65536:Int))=true->(↑(lnN (toNat c)):Int)=(3:Int)/\True)/\(decide (c<(65536:Int))=false->(↑(lnN (toNat c)):Int)=(4:Int)/\True)))):=by kernel_rfl
def zh5:q58 P 129 z9g:=by
 refine qkl mixed z0u (W:=λ_=>{}) Try.func129 (by kernel_rfl) (by decide) (by decide) (λc=>by kernel_rfl) λ(c:Int)=>(zdt c).mpr ?_
 rintro⟨h1,h2⟩
 simp only[and_true,decide_eq_true_eq,decide_eq_false_iff_not,lnN]
 refine⟨λh=> ?_,λh=>⟨λg=> ?_,λg=>⟨λk=> ?_,λk=> ?_⟩⟩⟩
 ·rw[if_pos (by omega)];rfl
 ·rw[if_neg (by omega),if_pos (by omega)];rfl
 ·rw[if_neg (by omega),if_neg (by omega),if_pos (by omega)];rfl
 ·rw[if_neg (by omega),if_neg (by omega),if_neg (by omega)];rfl
def ct1:∀c<256,decide (shP BinOp.shr IntKind.u8 (c:Nat) 6=2)=ctC c:=by decide+kernel
def ct2:∀c<256,ctC c=true->IntKind.wrap IntKind.u32 (qb6 BinOp.and IntKind.u8 (c:Nat) 63)=((c- 128:Nat):Int)/\c- 128<64:=by decide+kernel
def zcq(s:ByteArray):∀(i r:Nat),vlF s i=some r->i<=4->r<128*64 ^ (i- 1)
  |0,r,h,_=>by simp[vlF]at h;subst h;decide
  | 1,r,h,_=>by
    simp[vlF]at h
    have:=j1c (bat s 0)
    rw[h]at this;simpa using this
  | i + 2,r,h,hi=>by
    simp only[vlF]at h
    split at h
    · rename_i q hq
      have ih:=zcq s (i+1) q hq (by omega)
      split at h
      · rename_i hc
        cases h
        have:=z3d s (i+1)
        simp[ctC]at hc
        have e:i+1- 1=i:=by omega
        have e2:i+2- 1=i+1:=by omega
        rw[e]at ih
        rw[e2,Nat.pow_succ]
        omega
      · cases h
    · cases h
def jn6(r d:Nat) (hr:r<67108864) (hd:d<64):qb6 BinOp.or IntKind.u32 (shP BinOp.shl IntKind.u32 (r:Int) 6) (d:Int)=((r*64+d:Nat):Int):=by
 have e:shP BinOp.shl IntKind.u32 (r:Int) 6=((r*64:Nat):Int):=by
  show IntKind.u32.wrap ((r:Int)*2 ^ 6)=_
  unfold IntKind.wrap;simp[IntKind.bits,IntKind.signed];omega
 rw[e]
 have h0:=u32_or_nat (r*64) d (by omega) (by omega)
 have h1:qb6 BinOp.or IntKind.u32 ((r*64:Nat):Int) (d:Int)=bits .or .u32 ((r*64:Nat):Int) (d:Int):=rfl
 rw[h1,h0]
 congr 1
 have h:=Nat.two_pow_add_eq_or_of_lt (i:=6) (b:=d) hd r
 rw[show 2 ^ 6*r=r*64 by omega]at h
 exact h.symm
def zcr(s:ByteArray) (i j:Nat) (hij:i<=j) (h1:1<=i) (h:vlF s i=none):vlF s j=none:=by
  induction j with
  |zero=>omega
  | succ j ih=>
    by_cases e:i=j+1
    · subst e;exact h
    · have:=ih (by omega)
      cases j with
      |zero=>omega
      |succ j=>simp only[vlF];rw[this]
section
variable (x0:ByteArray) (x1:Int×Int)
 abbrev zjc:=(↑(ldN (toNat (↑(bat x0 0):Int))):Int)
 def j0t:=(↑(frt x0):Int)=0/\True
 abbrev zo8:=(↑(ldV (toNat (↑(bat x0 0):Int))):Int)
 def zur:= !decide (shP BinOp.shr u8 (↑(bat x0 (toNat x1.2)):Int) (6:Int)=2)
 abbrev zo7:=IntKind.wrap u32 (qb6 BinOp.and u8 (↑(bat x0 (toNat x1.2)):Int) 63)
 def jcl:=(0:Int)<=6/\(0<=x1.2/\x1.2<(↑(size x0):Int))/\Jb (x1.2+1)/\x0=x0/\(zjc x0)=(zjc x0)/\x1.2+1=x1.2+1/\qb6 BinOp.or u32 (shP BinOp.shl u32 x1.1 6) (zo7 x0 x1)=qb6 BinOp.or u32 (shP BinOp.shl u32 x1.1 6) (zo7 x0 x1)/\(1<=x1.2+1/\(x1.2+1<=(↑(ldN (bat x0 0)):Int)\/x1.2+1=1)/\∃(i0:Nat),qb6 BinOp.or u32 (shP BinOp.shl u32 x1.1 6) (zo7 x0 x1)=(↑i0:Int)/\(ldN (bat x0 0)=0\/vlF x0 (toNat (x1.2+1))=some i0))/\(5:Nat)- toNat (x1.2+1)<5- toNat x1.2/\True
 def jck:=(0<=x1.2/\x1.2<(↑(size x0):Int))/\(0:Int)<=6/\((zur x0 x1)=true->j0t x0)/\((zur x0 x1)=false->jcl x0 x1)
 def jco:=x1.1=x1.1/\(0<=x1.1/\x1.1<4294967296)/\((!decide ((↑(lnN (toNat x1.1)):Int)=(zjc x0)))=true->j0t x0)/\((!decide ((↑(lnN (toNat x1.1)):Int)=(zjc x0)))=false->(↑(frt x0):Int)=(zjc x0)/\True)
 def jcn:=x1.1=x1.1/\(0<=x1.1/\x1.1<4294967296)/\((!isC (toNat x1.1))=true->j0t x0)/\((!isC (toNat x1.1))=false->jco x0 x1)
 def jcm:=Ji ((zjc x0)=0) (j0t x0) (jcn x0 x1)
 def jcj:=Ji (x1.2<(zjc x0)) (jck x0 x1) (jcm x0 x1)
 def jci:=(x0=x0/\(zjc x0)=(zjc x0)/\(1:Int)=1/\(zo8 x0)=(zo8 x0)/\((1:Int)<=1/\(1<=(↑(ldN (bat x0 0)):Int)\/(1:Int)=1)/\∃(i0:Nat),(zo8 x0)=(↑i0:Int)/\(ldN (bat x0 0)=0\/vlF x0 (1:Nat)=some i0))/\True)/\∀(i1:Int×Int),(1<=i1.2/\(i1.2<=(↑(ldN (bat x0 0)):Int)\/i1.2=1)/\∃(i2:Nat),i1.1=(↑i2:Int)/\(ldN (bat x0 0)=0\/vlF x0 (toNat i1.2)=some i2))->jcj x0 i1
 def jch:=((0:Int)<=0/\0<(↑(size x0):Int))/\(↑(bat x0 0):Int)=(↑(bat x0 0):Int)/\(0<=(↑(bat x0 0):Int)/\(↑(bat x0 0):Int)<256)/\Ji ((↑(size x0):Int)<(zjc x0)) (j0t x0) (jci x0)
end
def zgs(s:ByteArray):qki P (zrq) Try.f92 zbg (zrw) s=(0<size s/\size s<9223372036854775808->jch s):=by kernel_rfl
def front_eq:=λs=>Eq.trans (zgs s) (by delta Ji Jb Jt Jf zjc j0t zo8 zur zo7 jcl jck jco jcn jcm jcj jci jch;exact rfl)
def zhy:∀g C,zrq g=some C->q58 P g C:=qdh (qh9 zte (qh9 ja0 (qh9 zh5 qk5)))
def zmg:q58 P 92 zbg:=by
 refine qkl mixed zhy (W:=zrw) Try.func92 (by kernel_rfl) (by decide) (by decide) (λc=>by kernel_rfl) λ(s:ByteArray)=>(front_eq s).mpr ?_
 rintro⟨h1,h2⟩
 have b0:=z3d s 0
 simp only[Int.toNat_natCast,Int.toNat_zero,and_true,true_and,decide_eq_true_eq,decide_eq_false_iff_not,Bool.not_eq_true',Bool.not_eq_false']
 obtain⟨n,hn⟩:∃n,n=ldN (bat s 0):=⟨_,rfl⟩
 have hn4:=j1a (bat s 0)
 have hfr:frt s=if s.size<n then 0 else match vlF s n with
  |none=>0
  |some r=>if n=0\/isC r=false\/lnN r≠n then 0 else n:=by rw[hn];rfl
 rw[←hn]at hn4⊢
 refine⟨by omega,by omega,λg=> ?_,λg=>⟨⟨by omega, .inr trivial,ldV (bat s 0),rfl, .inr rfl⟩,?_⟩⟩
 ·rw[hfr,if_pos (by omega)];rfl
 rintro⟨r,i⟩ ⟨i1,i2,q,hq,hv⟩
 simp only at i1 i2 hq hv⊢
 obtain⟨m,rfl⟩:=Int.eq_ofNat_of_zero_le (show 0<=i by omega)
 have em:((m:Int)+1).toNat=m+1:=by omega
 simp only[Int.toNat_natCast,em]at hv⊢
 subst hq
 simp only[Int.toNat_natCast]at hv⊢
 rw[if_neg (by omega)]at hfr
 refine⟨λk=>⟨by omega,by omega,?_⟩,λk=>⟨λk2=> ?_,λk2=> ?_⟩⟩
 ·have bm:=z3d s m
  have c1:shP BinOp.shr IntKind.u8 ((bat s m:Nat):Int) 6=2↔ctC (bat s m)=true:=by rw[←ct1 (bat s m) bm,decide_eq_true_iff]
  rw[c1]
  have hv:vlF s m=some q:=by
   rcases hv with h|h
   ·omega
   ·exact h
  have hbd:=zcq s m q hv (by omega)
  have hq26:q<67108864:=by
   have:m<=3:=by omega
   rcases m with _|_|_|_|m<;>simp at hbd<;>omega
  obtain⟨m',rfl⟩:∃m',m=m'+1:=⟨m- 1,by omega⟩
  refine⟨λk3=> ?_,λk3=>⟨by omega,by omega,by omega,⟨by omega,by omega,?_⟩,by omega⟩⟩
  ·have:vlF s (m'+2)=none:=by simp only[vlF];rw[hv];simp[k3]
   rw[hfr,zcr s (m'+2) n (by omega) (by omega) this];rfl
  ·obtain⟨c2,c3⟩:=ct2 (bat s (m'+1)) bm k3
   rw[c2]
   refine⟨_,jn6 q _ hq26 c3, .inr ?_⟩
   simp only[vlF]
   rw[hv];simp[k3]
 ·have h0:n=0:=by omega
  rw[hfr,h0];simp[vlF]
 ·have hn0:n≠0:=by omega
  have hm:m=n:=by omega
  have hv:vlF s n=some q:=by
   rcases hv with h|h
   ·omega
   ·rw[←hm];exact h
  have hbd:=zcq s n q hv (by omega)
  have hq32:q<4294967296:=by
   rcases n with _|_|_|_|_|n<;>simp at hbd<;>omega
  rw[hv]at hfr
  simp only at hfr
  refine⟨by omega,λk3=> ?_,λk3=>⟨by omega,λk4=> ?_,λk4=> ?_⟩⟩
  ·rw[hfr,if_pos (.inr (.inl k3))];rfl
  ·rw[hfr,if_pos (.inr (.inr (by omega)))];rfl
  ·rw[hfr,if_neg]
   rw[k3];simp;omega
def zgt(s:ByteArray):frt s<=s.size:=by
 unfold frt
 split
 ·omega
 ·split
  ·omega
  ·split<;>omega
def z8p:∀(f g:Nat) (s:ByteArray),s.size<=f->s.size<=g->zig f s=zig g s
  |0,0,s,_,_=>rfl
  |0,g+1,s,h,_=>by rw[zig,zig,if_pos (by omega)]
  |f+1,0,s,_,h=>by rw[zig,zig,if_pos (by omega)]
  | f +1,g+1,s,h1,h2=>by
    rw[zig,zig]
    split
    · rfl
    · split
      · rfl
      · exact z8p f g _ (by simp;omega) (by simp;omega)
def z4z(s:ByteArray) (h:0<s.size):vld s=if frt s=0 then false else vld (s.extract (frt s) s.size):=by
 unfold vld
 obtain⟨f,hf⟩:∃f,s.size=f+1:=⟨s.size- 1,by omega⟩
 rw[hf,zig,if_neg (by omega)]
 split
 ·rfl
 ·rw[hf]
  refine z8p _ _ _ ?_ (Nat.le_refl _)
  simp;omega
def zih(s:ByteArray) (h:s.size=0):vld s=true:=by unfold vld;rw[h];rfl
def znv(s:ByteArray):qki P (j1r) Try.f59 z32 (zs5) s=(size s<(9223372036854775808:Nat)->(s=s/\(size s<=size s/\vld s=vld s)/\True)/\∀(s_1:ByteArray),size s_1<=size s/\vld s_1=vld s->(decide ((0:Int)<(↑(size s_1):Int))=true->s_1=s_1/\((0:Nat)<size s_1/\size s_1<(9223372036854775808:Nat))/\(decide ((↑(frt s_1):Int)=(0:Int))=true->vld s=false/\True)/\(decide ((↑(frt s_1):Int)=(0:Int))=false->((0:Int)<=(↑(frt s_1):Int)/\(↑(frt s_1):Int)<=(↑(size s_1):Int))/\ByteArray.extract s_1 (toNat (↑(frt s_1):Int)) (size s_1)=ByteArray.extract s_1 (toNat (↑(frt s_1):Int)) (size s_1)/\(size (ByteArray.extract s_1 (toNat (↑(frt s_1):Int)) (size s_1))<=size s/\vld (ByteArray.extract s_1 (toNat (↑(frt s_1):Int)) (size s_1))=vld s)/\size (ByteArray.extract s_1 (toNat (↑(frt s_1):Int)) (size s_1))<size s_1/\True))/\(decide ((0:Int)<(↑(size s_1):Int))=false->vld s=true/\True)):=by kernel_rfl
def zcp:q58 P 59 z32:=by
 refine qkl mixed (qdh (qh9 zmg qk5)) (W:=zs5) Try.func59 (by kernel_rfl) (by decide) (by decide) (λc=>by kernel_rfl) λ(s:ByteArray)=>(znv s).mpr ?_
 intro h
 simp only[Int.toNat_natCast,and_true,true_and,decide_eq_true_eq,decide_eq_false_iff_not]
 refine⟨Nat.le_refl _,λt ht=>⟨λg=>⟨by omega,λg2=> ?_,λg2=> ?_⟩,λg=> ?_⟩⟩
 ·rw[←ht.2,z4z t (by omega),if_pos (by omega)]
 ·have:=zgt t
  rw[←ht.2,z4z t (by omega),if_neg (by omega)]
  refine⟨by omega,⟨?_,rfl⟩,?_⟩
  ·simp;omega
  ·simp;omega
 ·rw[←ht.2];exact zih t (by omega)
def z8q(x:Int):IntKind.u8.wrap x=x % 256:=by
 unfold IntKind.wrap;simp[IntKind.bits,IntKind.signed]
def tn1(n:Nat):((n:Int)+1).toNat=n+1:=by omega
def wrap32(x:Int):IntKind.u32.wrap x=x % 4294967296:=by
 unfold IntKind.wrap;simp[IntKind.bits,IntKind.signed]
def zc6(b:Nat):(b<128/\ldN b=1/\ldV b=b)\/(192<=b/\b<224/\ldN b=2/\ldV b=b- 192)\/(224<=b/\b<240/\ldN b=3/\ldV b=b- 224)\/(240<=b/\b<248/\ldN b=4/\ldV b=b- 240)\/(((128<=b/\b<192)\/248<=b)/\ldN b=0):=by
 unfold ldN ldV
 repeat' split
 all_goals omega
def j1d(n q:Nat) (hn:n=2\/n=3\/n=4) (hq:q<128*64 ^ (n- 1)) (h2:n=2->q<2048) (h3:n=3->q<65536):lnN q=n↔leN n<=q:=by
 unfold lnN leN
 rcases hn with rfl|rfl|rfl
 all_goals (repeat' split)
 all_goals (first|omega| (have:=h2 rfl;omega)| (have:=h3 rfl;omega))
section
variable (x0:ByteArray) (x1:Int×Int) (x2 x3 x4:Int)
 abbrev z5r:=(↑(ptV x0):Int)=0/\(↑(frt x0):Int)=0/\True
 abbrev zjd:=IntKind.wrap u32 (↑(bat x0 0):Int)<x2
 def j2i:=(↑(ptV x0):Int)=IntKind.wrap u32 (↑(bat x0 0):Int)/\(↑(frt x0):Int)=1/\True
 abbrev zoa:=x2<=IntKind.wrap u32 (↑(bat x0 0):Int)
 abbrev za4:=(↑(leN (ldN (bat x0 0))):Int)
 abbrev z4i:=(↑(ldN (bat x0 0)):Int)
 def j93:=x0=x0/\(za4 x0)=x2/\(z4i x0)=x3/\(↑(ldV (bat x0 0)):Int)=IntKind.wrap u32 (IntKind.wrap u32 (↑(bat x0 0):Int)- x4)/\(0<size x0/\2<=ldN (bat x0 0))/\True
 abbrev j2j:=Ji (zjd x0 248) (j93 x0 65536 4 240) (z5r x0)
 abbrev jal:=Ji (zoa x0 240) (j2j x0) (z5r x0)
 abbrev j2k:=Ji (zjd x0 240) (j93 x0 2048 3 224) (jal x0)
 abbrev jak:=Ji (zoa x0 224) (j2k x0) (jal x0)
 abbrev j2l:=Ji (zjd x0 224) (j93 x0 128 2 192) (jak x0)
 abbrev j2g:=Ji (zoa x0 192) (j2l x0) (jak x0)
 def zob:=(0<=x1.2/\x1.2<(↑(size x0):Int))
 abbrev zo9:=IntKind.wrap u32 (x1.1*64)+IntKind.wrap u32 (IntKind.wrap u8 ((↑(bat x0 (toNat x1.2)):Int)- 128))
 def j2d:=zob x0 x1/\Jb (x1.2+1)/\x0=x0/\(za4 x0)=(za4 x0)/\(z4i x0)=(z4i x0)/\x1.2+1=x1.2+1/\IntKind.wrap u32 (zo9 x0 x1)=IntKind.wrap u32 (zo9 x0 x1)/\(1<=x1.2+1/\x1.2+1<=(z4i x0)/\∃(i0:Nat),IntKind.wrap u32 (zo9 x0 x1)=(↑i0:Int)/\vlF x0 (toNat (x1.2+1))=some i0)/\(5:Nat)- toNat (x1.2+1)<5- toNat x1.2/\True
 def jcv:=zob x0 x1/\Ji (191<(↑(bat x0 (toNat x1.2)):Int)) (z5r x0) (j2d x0 x1)
 def jcu:=zob x0 x1/\Ji ((↑(bat x0 (toNat x1.2)):Int)<128) (z5r x0) (jcv x0 x1)
 def zus:=(↑(ptV x0):Int)=x1.1/\(↑(frt x0):Int)=(z4i x0)/\True
 def j2m:=Ji (x1.1<=57343) (z5r x0) (zus x0 x1)
 def j2h:=Ji (55296<=x1.1) (j2m x0 x1) (zus x0 x1)
 def j2f:=Ji (1114111<x1.1) (z5r x0) (j2h x0 x1)
 def j2e:=Ji (x1.1<(za4 x0)) (z5r x0) (j2f x0 x1)
 def jct:=Ji (x1.2<(z4i x0)) (jcu x0 x1) (j2e x0 x1)
 def jcs:=(x0=x0/\(za4 x0)=(za4 x0)/\(z4i x0)=(z4i x0)/\(1:Int)=1/\(↑(ldV (bat x0 0)):Int)=(↑(ldV (bat x0 0)):Int)/\((1:Int)<=1/\1<=(z4i x0)/\∃(i0:Nat),(↑(ldV (bat x0 0)):Int)=(↑i0:Int)/\vlF x0 (1:Nat)=some i0)/\True)/\∀(i1:Int×Int),(1<=i1.2/\i1.2<=(z4i x0)/\∃(i2:Nat),i1.1=(↑i2:Int)/\vlF x0 (toNat i1.2)=some i2)->jct x0 i1
 def jcr:=Ji ((↑(size x0):Int)<(z4i x0)) (z5r x0) (jcs x0)
 def jcq:=((0:Int)<=0/\0<(↑(size x0):Int))/\(Ji (zjd x0 128) (j2i x0) (j2g x0))/\∀(i0:Unit),0<size x0/\2<=ldN (bat x0 0)->jcr x0
 def jcp:=Ji ((↑(size x0):Int)=0) (z5r x0) (jcq x0)
end
def zhm(s:ByteArray):qki P (λ_=>none) Try.f53 z47 (zs0) s=(size s<9223372036854775808->jcp s):=by kernel_rfl
def zn9:=λs=>Eq.trans (zhm s) (by delta Ji Jb Jt Jf z5r zjd j2i zoa za4 z4i j93 j2j jal j2k jak j2l j2g zob zo9 j2d jcv jcu zus j2m j2h j2f j2e jct jcs jcr jcq jcp;exact rfl)
def j1b(b:Nat):(ldN b=2->ldV b<32)/\(ldN b=3->ldV b<16):=by
 have:=zc6 b;omega
def jac(s:ByteArray) (q:Nat) (h:vlF s 2=some q) (h2:ldN (bat s 0)=2):q<2048:=by
 have b:=(j1b (bat s 0)).1 h2
 simp only[vlF]at h
 split at h
 ·rename_i hc
  have hb:=z3d s 1
  simp only[ctC,Bool.and_eq_true,decide_eq_true_eq]at hc
  cases h
  simp only[Nat.zero_add]at hc⊢
  omega
 ·cases h
def jad(s:ByteArray) (q:Nat) (h:vlF s 3=some q) (h2:ldN (bat s 0)=3):q<65536:=by
 have b:=(j1b (bat s 0)).2 h2
 simp only[vlF]at h
 split at h
 ·rename_i r hr
  split at hr
  ·cases hr
   rename_i hc0
   split at h
   ·rename_i hc
    have hb:=z3d s 1
    have hb2:=z3d s 2
    simp only[ctC,Bool.and_eq_true,decide_eq_true_eq]at hc hc0
    cases h
    simp only[Nat.zero_add,show 1+1=2 from rfl]at hc hc0⊢
    omega
   ·cases h
  ·cases hr
 ·cases h
def zrj(q:Nat):isC q=true↔q<=1114111/\¬(55296<=q/\q<=57343):=by
 simp[isC];omega
def j14(b:Nat):ctC b=true↔128<=b/\b<192:=by simp[ctC]
def zcf:q58 P 53 z47:=by
 refine qkl mixed z0u (W:=zs0) Try.func53 (by kernel_rfl) (by decide) (by decide) (λc=>by kernel_rfl) λ(s:ByteArray)=>(zn9 s).mpr ?_
 intro h2
 have b0:=z3d s 0
 obtain⟨n,hn⟩:∃n,n=ldN (bat s 0):=⟨_,rfl⟩
 have hc:=zc6 (bat s 0)
 have hz:frt s=0->ptV s=0:=λh=>by unfold ptV;rw[if_pos h]
 have hfr:frt s=if s.size<n then 0 else match vlF s n with
  |none=>0
  |some r=>if n=0\/isC r=false\/lnN r≠n then 0 else n:=by rw[hn];rfl
 rw[←hn]at hc
 have A0:s.size=0->frt s=0:=λh=>by
  have:=zsl (s:=s) (j:=0) (by omega)
  rw[hfr,if_pos (by omega)]
 have A1:s.size≠0->bat s 0<128->ptV s=bat s 0/\frt s=1:=λh h1=>by
  have e1:n=1:=by omega
  have ev:ldV (bat s 0)=bat s 0:=by omega
  have ef:frt s=1:=by
   rw[hfr,if_neg (by omega),e1]
   simp only[vlF]
   rw[ev,if_neg]
   have hi:=(zrj (bat s 0)).mpr (by omega)
   have hl:lnN (bat s 0)=1:=by unfold lnN;rw[if_pos h1]
   rw[hi,hl];simp
  refine⟨?_,ef⟩
  unfold ptV
  rw[if_neg (by omega),ef]
  simp only[vlF,ev];rfl
 have A5:n=0->frt s=0:=λh=>by
  rw[hfr,if_neg (by omega),h];simp[vlF]
 have hle:(n=2->leN n=128)/\(n=3->leN n=2048)/\(n=4->leN n=65536):=by
  refine⟨λh=> ?_,λh=> ?_,λh=> ?_⟩<;>rw[h]<;>rfl
 have e0:IntKind.u32.wrap (bat s 0:Nat)=(bat s 0:Nat):=by rw[wrap32];omega
 simp only[Int.toNat_natCast,Int.toNat_zero,and_true,true_and,decide_eq_true_eq,decide_eq_false_iff_not,Bool.not_eq_true',Bool.not_eq_false',e0,←hn]
 refine⟨?_,λg0=>⟨by omega,?_,?_⟩⟩
 ·intro h;have:=A0 (by omega);have:=hz this;omega
 ·simp only[wrap32]
  clear hfr A0 e0
  rcases hc with⟨c1,c2,c3⟩|⟨c0,c1,c2,c3⟩|⟨c0,c1,c2,c3⟩|⟨c0,c1,c2,c3⟩|⟨c1,c2⟩
  ·obtain⟨p,f⟩:=A1 (by omega) c1
   clear A1 A5 hle hz
   refine⟨λ_=>by omega,λh=>absurd (by omega) h⟩
  ·have l:=hle.1 c2
   clear A1 A5 hle hz
   refine⟨λh=>by omega,λh=>⟨λ_=>⟨λ_=>by omega,λk=>absurd (by omega) k⟩,λk=>absurd (by omega) k⟩⟩
  ·have l:=hle.2.1 c2
   clear A1 A5 hle hz
   refine⟨λh=>by omega,λh=>⟨λ_=>⟨λk=>by omega,λ_=>⟨λ_=>⟨λ_=>by omega,λk=>absurd (by omega) k⟩,λk=>absurd (by omega) k⟩⟩,λk=>absurd (by omega) k⟩⟩
  ·have l:=hle.2.2 c2
   clear A1 A5 hle hz
   refine⟨λh=>by omega,λh=>⟨λ_=>⟨λk=>by omega,λ_=>⟨λ_=>⟨λk=>by omega,λ_=>⟨λ_=>⟨λ_=>by omega,λk=>absurd (by omega) k⟩,λk=>absurd (by omega) k⟩⟩,λk=>absurd (by omega) k⟩⟩,λk=>absurd (by omega) k⟩⟩
  ·have f:=A5 c2
   have p:=hz f
   clear A1 A5 hle hz
   repeat' first|intro _|apply And.intro
   all_goals omega
 ·clear A0 A1 A5
  rintro _ ⟨g1,g2⟩
  have Z:frt s=0->((ptV s:Nat):Int)=0/\((frt s:Nat):Int)=0:=λh=>by have:=hz h;omega
  refine⟨λk=>Z ?_,λk=>⟨⟨by omega,by omega,ldV (bat s 0),rfl,rfl⟩,?_⟩⟩
  ·rw[hfr,if_pos (by omega)]
  rw[if_neg (by omega)]at hfr
  rintro⟨v,i⟩ ⟨i1,i2,q,hq,hv⟩
  simp only at i1 i2 hq hv⊢
  obtain⟨m,rfl⟩:=Int.eq_ofNat_of_zero_le (show 0<=i by omega)
  subst hq
  simp only[Int.toNat_natCast,tn1]at hv⊢
  have hbd:=zcq s m q hv (by omega)
  have bm:=z3d s m
  obtain⟨m',rfl⟩:∃m',m=m'+1:=⟨m- 1,by omega⟩
  have cn:¬(128<=bat s (m'+1)/\bat s (m'+1)<192)->((m'+1:Nat):Int)<n->frt s=0:=λh hl=>by
   have:vlF s (m'+2)=none:=by
    simp only[vlF];rw[hv];simp only[]
    rw[if_neg (by rw[j14];exact h)]
   rw[hfr,zcr s (m'+2) n (by omega) (by omega) this]
  refine⟨λk1=>⟨by omega,λk2=>Z (cn (by omega) k1),λk2=>⟨by omega,λk3=>Z (cn (by omega) k1),λk3=>⟨by omega,by omega,⟨by omega,by omega,?_⟩,by omega⟩⟩⟩,λk1=> ?_⟩
  ·have hq26:q<67108864:=by
    have:m'+1<=3:=by omega
    rcases m' with _|_|_|m'<;>simp at hbd<;>omega
   refine⟨q*64+(bat s (m'+1)- 128),?_,?_⟩
   ·rw[z8q,wrap32,wrap32,wrap32];omega
   ·simp only[vlF];rw[hv];simp only[]
    rw[if_pos (by rw[j14];omega)]
  ·have em:m'+1=n:=by omega
   rw[em]at hv hbd
   rw[hv]at hfr
   simp only at hfr
   have nn:n=2\/n=3\/n=4:=by omega
   have ln:=j1d n q nn hbd (λh=>jac s q (h ▸ hv) (by omega)) (λh=>jad s q (h ▸ hv) (by omega))
   have ic:=zrj q
   have bad:¬(leN n<=q)\/¬(q<=1114111/\¬(55296<=q/\q<=57343))->frt s=0:=λh=>by
    rw[hfr,if_pos]
    rcases h with h|h
    ·exact .inr (.inr λe=>h (ln.mp e))
    ·exact .inr (.inl (by rw[←Bool.not_eq_true];exactλe=>h (ic.mp e)))
   have good:leN n<=q->(q<=1114111/\¬(55296<=q/\q<=57343))->((ptV s:Nat):Int)=q/\((frt s:Nat):Int)=n:=λh1 h2=>by
    have ef:frt s=n:=by
     rw[hfr,if_neg]
     rw[ic.mpr h2,ln.mpr h1];simp;omega
    refine⟨?_,by omega⟩
    unfold ptV
    rw[if_neg (by omega),ef,hv];rfl
   refine⟨λc1=>Z (bad (.inl (by omega))),λc1=>⟨λc2=>Z (bad (.inr (by omega))),λc2=>⟨λc3=>⟨λc4=>Z (bad (.inr (by omega))),λc4=>good (by omega) (by omega)⟩,λc3=>good (by omega) (by omega)⟩⟩⟩
def zib(s:ByteArray):qki P (qfv [(53,z47)]) Try.f31 z32 (zix) s=(size s<(9223372036854775808:Nat)->(s=s/\(size s<=size s/\vld s=vld s)/\True)/\∀(s_1:ByteArray),size s_1<=size s/\vld s_1=vld s->(decide ((0:Int)<(↑(size s_1):Int))=true->s_1=s_1/\size s_1<(9223372036854775808:Nat)/\(decide ((↑(frt s_1):Int)=(0:Int))=true->vld s=false/\True)/\(decide ((↑(frt s_1):Int)=(0:Int))=false->((0:Int)<=(↑(frt s_1):Int)/\(↑(frt s_1):Int)<=(↑(size s_1):Int))/\ByteArray.extract s_1 (toNat (↑(frt s_1):Int)) (size s_1)=ByteArray.extract s_1 (toNat (↑(frt s_1):Int)) (size s_1)/\(size (ByteArray.extract s_1 (toNat (↑(frt s_1):Int)) (size s_1))<=size s/\vld (ByteArray.extract s_1 (toNat (↑(frt s_1):Int)) (size s_1))=vld s)/\size (ByteArray.extract s_1 (toNat (↑(frt s_1):Int)) (size s_1))<size s_1/\True))/\(decide ((0:Int)<(↑(size s_1):Int))=false->vld s=true/\True)):=by kernel_rfl
def z8o:q58 P 31 z32:=by
 refine qkl mixed (qdh (qh9 zcf qk5)) (W:=zix) Try.func31 (by kernel_rfl) (by decide) (by decide) (λc=>by kernel_rfl) λ(s:ByteArray)=>(zib s).mpr ?_
 intro h
 simp only[Int.toNat_natCast,and_true,true_and,decide_eq_true_eq,decide_eq_false_iff_not]
 refine⟨Nat.le_refl _,λt ht=>⟨λg=>⟨by omega,λg2=> ?_,λg2=> ?_⟩,λg=> ?_⟩⟩
 ·rw[←ht.2,z4z t (by omega),if_pos (by omega)]
 ·have:=zgt t
  rw[←ht.2,z4z t (by omega),if_neg (by omega)]
  refine⟨by omega,⟨?_,rfl⟩,?_⟩
  ·simp;omega
  ·simp;omega
 ·rw[←ht.2];exact zih t (by omega)
section
def z08{p q:Prop} [Decidable p] [Decidable q] (h:p↔q):decide p=decide q:=by simp[h]
abbrev svV(x:SV):Value:= .slice x.1 x.2.1 x.2.2
abbrev svA(x:SV):AV:= .sv (.slice x.1 x.2.1 x.2.2)
def txV(s:ByteArray):List Value:=[.string s]
def inV(i:Int):List Value:=[.int .i64 i]
def slP{α:Type} (f:α->List Value) (x:SV) (l:List α) (p:Pub):Prop:=x.2.1=l.length/\qhd p x.1 x.2.1 x.2.2 (z00 f l)
variable {α:Type}
def z0d{f:α->List Value} {x:SV} {l:List α} {p q:Pub} (h:Pub.le p q) (e:slP f x l p):slP f x l q:=⟨e.1,q52 h e.2⟩
def z14{f:α->List Value} {e:Nat} (hf:∀x,(f x).length=e) (he:0<e) {p:Pub} {x:SV} {l:List α} (h:slP f x l p) {i:Nat} (hi:i<l.length):x.1≠noA/\q3f p (adr x.1 (i*e)) (f l[i]):=ze4 hf he h.2 hi
variable {p:Pub}
def z06{f:α->List Value}:slP f (none,0,0) [] p:=⟨rfl,Nat.le_refl _, .inl ⟨rfl,z1i⟩⟩
inductive GJ where
 |mk (k n:Int) (s:ByteArray) (y:SV) (l:List GJ) (x:SV) (nm:List ByteArray)
def GJ.k:GJ->Int| .mk k _ _ _ _ _ _=>k
def GJ.n:GJ->Int| .mk _ n _ _ _ _ _=>n
def GJ.s:GJ->ByteArray| .mk _ _ s _ _ _ _=>s
def GJ.y:GJ->SV| .mk _ _ _ y _ _ _=>y
def GJ.l:GJ->List GJ| .mk _ _ _ _ l _ _=>l
def GJ.x:GJ->SV| .mk _ _ _ _ _ x _=>x
def GJ.nm:GJ->List ByteArray| .mk _ _ _ _ _ _ nm=>nm
def GJ.cells(g:GJ):List Value:=[.int .i64 g.k, .int .i64 g.n, .string g.s,svV g.y,svV g.x]
def GJ.av(g:GJ):AV:= .agg [.sv (.int .i64 g.k), .sv (.int .i64 g.n), .sv (.string g.s),svA g.y,svA g.x]
mutual
def GJ.ok:GJ->Pub->Prop
 | .mk k n s y l x nm,p=>slP GJ.cells y l p/\slP txV x nm p/\GJ.oks l p
def GJ.oks:List GJ->Pub->Prop
 | [],_=>True
 |g::l,p=>GJ.ok g p/\GJ.oks l p
end
mutual
def GJ.ok_mono:∀{g:GJ} {p q:Pub},Pub.le p q->g.ok p->g.ok q
  | .mk k n s y l x nm,p,q,h,e=>by
    unfold GJ.ok at e⊢
    exact⟨z0d h e.1,z0d h e.2.1,GJ.oks_mono h e.2.2⟩
def GJ.oks_mono:∀{l:List GJ} {p q:Pub},Pub.le p q->GJ.oks l p->GJ.oks l q
  | [],p,q,h,e=>by unfold GJ.oks;trivial
  | g::l,p,q,h,e=>by
    unfold GJ.oks at e⊢
    exact⟨GJ.ok_mono h e.1,GJ.oks_mono h e.2⟩
end
structure AF where
 nm:ByteArray
 al:SV
 als:List ByteArray
 ty:Int
 hd:Bool
 df:GJ
def AF.cells(f:AF):List Value:=[.string f.nm,svV f.al, .int .i64 f.ty, .bool f.hd, .int .i64 f.df.k, .int .i64 f.df.n, .string f.df.s,svV f.df.y,svV f.df.x]
def AF.ok(f:AF) (p:Pub):Prop:=slP txV f.al f.als p/\f.df.ok p
structure AT where
 k:Int
 nm:ByteArray
 al:SV
 als:List ByteArray
 it:Int
 sy:SV
 sys:List ByteArray
 hd:Bool
 df:ByteArray
 sz:Int
 f:SV
 fs:List AF
 br:SV
 brs:List Int
def AT.cells(e:AT):List Value:=[.int .i64 e.k, .string e.nm,svV e.al, .int .i64 e.it,svV e.sy, .bool e.hd, .string e.df, .int .i64 e.sz,svV e.f,svV e.br]
def AT.av(e:AT):AV:= .agg [.sv (.int .i64 e.k), .sv (.string e.nm),svA e.al, .sv (.int .i64 e.it),svA e.sy, .sv (.bool e.hd), .sv (.string e.df), .sv (.int .i64 e.sz),svA e.f,svA e.br]
def AT.ok(e:AT) (p:Pub):Prop:=slP txV e.al e.als p/\slP txV e.sy e.sys p/\slP AF.cells e.f e.fs p/\slP inV e.br e.brs p/\∀f∈e.fs,f.ok p
def AT.ok_mono{e:AT} {p q:Pub} (h:Pub.le p q) (g:e.ok p):e.ok q:=⟨z0d h g.1,z0d h g.2.1,z0d h g.2.2.1,z0d h g.2.2.2.1,λf hf=>⟨z0d h (g.2.2.2.2 f hf).1,GJ.ok_mono h (g.2.2.2.2 f hf).2⟩⟩
def z05(S:List AT) (x:SV) (p:Pub):Prop:=slP AT.cells x S p/\∀e∈S,e.ok p
def z18{S:List AT} {x:SV} {p q:Pub} (h:Pub.le p q) (g:z05 S x p):z05 S x q:=⟨z0d h g.1,λe he=>AT.ok_mono h (g.2 e he)⟩
def z1x(e:AT):e.cells.length=10:=rfl
def zbc(f:AF):f.cells.length=9:=rfl
def z0m(s:ByteArray):(txV s).length=1:=rfl
def z20(i:Int):(inV i).length=1:=rfl
def z48(g:GJ):g.cells.length=5:=rfl
def small(S:List AT):Prop:=S.length<1000000/\∀e∈S,e.fs.length<1000000/\e.brs.length<1000000/\e.sys.length<1000000
inductive GV where
 |mk (n:Int) (s:ByteArray) (x:SV) (l:List GV) (y:SV) (ks:List ByteArray) (b:Int)
inductive PV where
 |mk (n:Int) (s:ByteArray) (l:List PV) (ks:List ByteArray) (b:Int)
def GV.n:GV->Int| .mk n _ _ _ _ _ _=>n
def GV.s:GV->ByteArray| .mk _ s _ _ _ _ _=>s
def GV.x:GV->SV| .mk _ _ x _ _ _ _=>x
def GV.l:GV->List GV| .mk _ _ _ l _ _ _=>l
def GV.y:GV->SV| .mk _ _ _ _ y _ _=>y
def GV.ks:GV->List ByteArray| .mk _ _ _ _ _ ks _=>ks
def GV.b:GV->Int| .mk _ _ _ _ _ _ b=>b
def GV.cells(v:GV):List Value:=[.int .u64 v.n, .string v.s,svV v.x,svV v.y, .int .i64 v.b]
def GV.av(v:GV):AV:= .agg [.sv (.int .u64 v.n), .sv (.string v.s),svA v.x,svA v.y, .sv (.int .i64 v.b)]
def z0o(v:GV):v.cells.length=5:=rfl
mutual
def GV.ok:GV->Pub->Prop
 | .mk n s x l y ks b,p=>slP GV.cells x l p/\slP txV y ks p/\GV.oks l p
def GV.oks:List GV->Pub->Prop
 | [],_=>True
 |v::l,p=>GV.ok v p/\GV.oks l p
end
mutual
def GV.ok_mono:∀{v:GV} {p q:Pub},Pub.le p q->v.ok p->v.ok q
  | .mk n s x l y ks b,p,q,h,e=>by
    unfold GV.ok at e⊢
    exact⟨z0d h e.1,z0d h e.2.1,GV.oks_mono h e.2.2⟩
def GV.oks_mono:∀{l:List GV} {p q:Pub},Pub.le p q->GV.oks l p->GV.oks l q
  | [],p,q,h,e=>by unfold GV.oks;trivial
  | g::l,p,q,h,e=>by
    unfold GV.oks at e⊢
    exact⟨GV.ok_mono h e.1,GV.oks_mono h e.2⟩
end
def GV.ok_eq(v:GV) (p:Pub):v.ok p=(slP GV.cells v.x v.l p/\slP txV v.y v.ks p/\GV.oks v.l p):=by cases v;unfold GV.ok;rfl
def GV.oks_at:∀{l:List GV} {p:Pub},GV.oks l p->∀{i:Nat} (h:i<l.length),l[i].ok p
 |v::l,p,e,0,h=>by unfold GV.oks at e;exact e.1
 |v::l,p,e,i+1,h=>by unfold GV.oks at e;exact GV.oks_at e.2 (by simpa using h)
mutual
def GV.pv:GV->PV
 | .mk n s x l y ks b=> .mk n s (GV.pvs l) ks b
def GV.pvs:List GV->List PV
 | []=>[]
 |v::l=>GV.pv v::GV.pvs l
end
def GV.pv_eq(v:GV):v.pv= .mk v.n v.s (GV.pvs v.l) v.ks v.b:=by cases v;rw[GV.pv];rfl
def GV.pvs_map:∀l:List GV,GV.pvs l=l.map GV.pv
 | []=>by rw[GV.pvs];rfl
 |v::l=>by rw[GV.pvs,GV.pvs_map l];rfl
def GV.pvs_len(l:List GV):(GV.pvs l).length=l.length:=by rw[GV.pvs_map,List.length_map]
mutual
def PV.sm:PV->Prop
 | .mk n s l ks b=>(0<=n/\n<18446744073709551616)/\s.size<9223372036854775808/\l.length<4611686018427387904/\ks.length<4611686018427387904/\(∀k∈ks,k.size<9223372036854775808)/\PV.sms l
def PV.sms:List PV->Prop
 | []=>True
 |v::l=>PV.sm v/\PV.sms l
end
def PV.sms_at:∀{l:List PV},PV.sms l->∀{i:Nat} (h:i<l.length),l[i].sm
 |v::l,e,0,h=>by unfold PV.sms at e;exact e.1
 |v::l,e,i+1,h=>by unfold PV.sms at e;exact PV.sms_at e.2 (by simpa using h)
def GV.sm_eq(v:GV):v.pv.sm=((0<=v.n/\v.n<18446744073709551616)/\v.s.size<9223372036854775808/\v.l.length<4611686018427387904/\v.ks.length<4611686018427387904/\(∀k∈v.ks,k.size<9223372036854775808)/\PV.sms (GV.pvs v.l)):=by rw[GV.pv_eq,PV.sm,GV.pvs_len]
variable {v:GV}
def GV.sm_at(h:v.pv.sm) {i:Nat} (hi:i<v.l.length):v.l[i].pv.sm:=by
 rw[GV.sm_eq]at h
 have:=PV.sms_at h.2.2.2.2.2 (i:=i) (by rw[GV.pvs_len];exact hi)
 simpa[GV.pvs_map]using this
def GV.ok_at(h:v.ok p) {i:Nat} (hi:i<v.l.length):v.l[i].ok p:=by
 rw[GV.ok_eq]at h;exact GV.oks_at h.2.2 hi
def GV.cells_at(h:v.ok p) {i:Nat} (hi:i<v.l.length):v.x.1≠noA/\q3f p (adr v.x.1 (i*5)) v.l[i].cells:=by
 rw[GV.ok_eq]at h;exact z14 z0o (by decide) h.1 hi
def GV.x_len(h:v.ok p):v.x.2.1=v.l.length:=by rw[GV.ok_eq]at h;exact h.1.1
def GV.y_len(h:v.ok p):v.y.2.1=v.ks.length:=by rw[GV.ok_eq]at h;exact h.2.1.1
def okN(a:AT) (n:Int):Bool:=if a.k=1 then decide (n=0)else if a.k=2 then decide (n<=1)else if a.k=3 then decide (n<2147483648\/18446744071562067968<=n)else if a.k=5 then decide (n<4294967296)else if a.k=10 then decide (n<a.sys.length)else true
def okT(a:AT) (s:ByteArray):Bool:=if a.k=8 then vld s else if a.k=11 then decide ((s.size:Int)=a.sz)else true
def z1q:List ByteArray->Bool
 | []=>true
 | [k]=>vld k
 |k::j::l=>vld k&&qea k j&&z1q (j::l)
def okP(a:AT) (n:Nat) (ks:List ByteArray) (b:Int):Bool:=
 if ks.length>0/\a.k≠13\/b≠0/\a.k≠14 then false else
 if a.k=9 then decide (n=a.fs.length)else if a.k=14 then decide (0<=b/\b<a.brs.length/\n=1)else if a.k=13 then decide (n=ks.length)&&z1q ks else true
def isN(k:Int):Bool:=decide (k=1\/k=2\/k=3\/k=4\/k=5\/k=6\/k=10)
def isT(k:Int):Bool:=decide (k=7\/k=8\/k=11)
def isQ(k:Int):Bool:=decide (k=9\/k=12\/k=13\/k=14)
def z96(n m:Nat) (b:Int):Bool:=decide (n=0)&&decide (m=0)&&decide (b=0)
def z0c(a:AT) (b:Int) (i:Nat):Int:=if a.k=9 then(match a.fs[i]? with|some f=>f.ty|none=>0)else if a.k=14 then a.brs.getD b.toNat 0 else a.it
mutual
def PV.fits(S:List AT) (t:Int):PV->Bool
  | .mk n s l ks b=>if t<0\/S.length<=t then false else match S[t.toNat]? with
    |none=>false
    | some a=>if isN a.k=true then okN a n&&decide (s.size=0)&&z96 l.length ks.length b else
      if isT a.k=true then okT a s&&decide (n=0)&&z96 l.length ks.length b else
      if isQ a.k=true then okP a l.length ks b&&PV.fitL S (z0c a b) 0 l&&decide (n=0)&&decide (s.size=0)else false
def PV.fitL(S:List AT) (f:Nat->Int) (i:Nat):List PV->Bool
 | []=>true
 |v::l=>PV.fits S (f i) v&&PV.fitL S f (i+1) l
end
end
def txM(y:SV) (ks:List ByteArray):PF:=⟨true,slP txV y ks,λ_ _ h e=>z0d h e⟩
def vM(v:GV):PF:=⟨true,v.ok,λ_ _ h e=>GV.ok_mono h e⟩
def svM(S:List AT) (x:SV) (v:GV):PF:=⟨true,λp=>z05 S x p/\v.ok p,λ_ _ h e=>⟨z18 h e.1,GV.ok_mono h e.2⟩⟩
def j90(S:List AT) (x:SV) (a:AT) (v:GV):PF:=⟨true,λp=>z05 S x p/\a.ok p/\v.ok p,λ_ _ h e=>⟨z18 h e.1,AT.ok_mono h e.2.1,GV.ok_mono h e.2.2⟩⟩
abbrev scA(x:SV):AV:= .agg [svA x]
def ctP(σ:Type) (args:σ->List AV) (pre:σ->Prop) (mem:σ->PF) (r:σ->AV):Ct where
 σ:=σ
 args:=args
 h:=λ_=>[]
 m:=1
 pre:=pre
 mem:=mem
 r:=r
 h':=λ_=>[]
 m':=1
 g:=λ_=>none
def zg5:Ct:=ctP GV (λv=>[v.av]) (λ_=>True) (λ_=>{}) λv=> .sv (.bool (z96 v.x.2.1 v.y.2.1 v.b))
def zfw:Ct:=ctP (AT×Int) (λ⟨a,n⟩=>[a.av, .sv (.int .u64 n)]) (λ⟨a,n⟩=>0<=n/\n<18446744073709551616/\a.sy.2.1=a.sys.length/\a.sys.length<1000000) (λ_=>{}) λ⟨a,n⟩=> .sv (.bool (okN a n))
def zfx:Ct:=ctP (AT×ByteArray) (λ⟨a,s⟩=>[a.av, .sv (.string s)]) (λ⟨a,s⟩=>s.size<9223372036854775808) (λ_=>{}) λ⟨a,s⟩=> .sv (.bool (okT a s))
def zlp:Ct:=ctP (SV×List ByteArray) (λ⟨y,ks⟩=>[svA y]) (λ⟨y,ks⟩=>ks.length<4611686018427387904/\∀k∈ks,k.size<9223372036854775808) (λ⟨y,ks⟩=>txM y ks) λ⟨y,ks⟩=> .sv (.bool (z1q ks))
abbrev FpS:=List AT×SV×AT×GV
def zbf:Ct:=ctP FpS (λ⟨S,x,a,v⟩=>[scA x,a.av,v.av]) (λ⟨S,x,a,v⟩=>small S/\a.fs.length<1000000/\v.pv.sm/\isQ a.k=true) (λ⟨S,x,a,v⟩=>j90 S x a v) λ⟨S,x,a,v⟩=> .sv (.bool (okP a v.l.length v.ks v.b&&PV.fitL S (z0c a v.b) 0 (GV.pvs v.l)))
abbrev FtS:=List AT×SV×Int×GV
def z9e:Ct:=ctP FtS (λ⟨S,x,t,v⟩=>[scA x, .sv (.int .i64 t),v.av]) (λ⟨S,x,t,v⟩=>small S/\v.pv.sm) (λ⟨S,x,t,v⟩=>svM S x v) λ⟨S,x,t,v⟩=> .sv (.bool (PV.fits S t v.pv))
def j0p:FpS->Nat:=λ⟨S,x,a,v⟩=>SizeOf.sizeOf v
def ztq:FtS->Nat:=λ⟨S,x,t,v⟩=>SizeOf.sizeOf v
def j25:zlp.σ->WayF:=λ⟨y,ks⟩=>{
 ann:=λ_ _ _=>some {σ:=Nat,pre:=λj=>j<=ks.length/\z1q ks=(if j=0 then z1q ks else z1q (ks.drop (j- 1)))/\(∀(h:0<j) (h2:j<=ks.length),vld ks[j- 1]=true),t:=λj=>[(7, .sv (.int .i64 (j:Int)))],h:=λ_=>[],more:=0,μ:=λj=>ks.length- j,keep:=[0,2,5,6]}}
def zrt:FpS->WayF:=λ⟨S,x,a,v⟩=>{
 ann:=λid _ _=>match id with
  |1=>some {σ:=Nat,pre:=λj=>j<=a.fs.length/\v.l.length=a.fs.length/\PV.fitL S (z0c a v.b) j ((GV.pvs v.l).drop j)=PV.fitL S (z0c a v.b) 0 (GV.pvs v.l),t:=λj=>[(44, .sv (.int .i64 (j:Int)))],h:=λ_=>[],more:=0,μ:=λj=>a.fs.length- j,keep:=[3,4,5,6,42,43]}
  |_=>some {σ:=Nat,pre:=λj=>j<=v.l.length/\PV.fitL S (z0c a v.b) j ((GV.pvs v.l).drop j)=PV.fitL S (z0c a v.b) 0 (GV.pvs v.l),t:=λj=>[(111, .sv (.int .i64 (j:Int)))],h:=λ_=>[],more:=0,μ:=λj=>v.l.length- j,keep:=[3,4,5,6,109,110]}
 cut:=λi t _=>match i with
  |3=>some {σ:=Unit,pre:=λ_=>¬(0<v.ks.length/\a.k≠13\/v.b≠0/\a.k≠14),t:=λ_=>[],h:=λ_=>[],more:=0,μ:=λ_=>0,keep:=[3,4,5,6]}
  |19=>some {σ:=Unit,pre:=λ_=>a.k≠9/\a.k≠14/\okP a v.l.length v.ks v.b=true,t:=λ_=>[],h:=λ_=>[],more:=0,μ:=λ_=>0,keep:=[3,4,5,6]}
  |_=>none}
def swc(f:Int->Bool) (i k:Nat) (keep:List Nat) (t:T AV):Option LT:=match slI t k with
 |some a=>some {σ:=Unit,t:=λ_=>[(i, .sv (.bool (f a)))],h:=λ_=>[],more:=0,μ:=λ_=>0,keep:=keep}
 |none=>none
def j23:FtS->WayF:=λ⟨S,x,t,v⟩=>{
 cut:=λi t _=>match i with
  |12=>swc isN 24 23 [3,5,6,7,23] t
  |16=>swc isT 45 23 [3,5,6,7,23] t
  |21=>swc isQ 62 23 [3,5,6,7,23] t
  |_=>none}
def znz(v:GV):qki P (λ_=>none) Try.f40 zg5 (λ_=>{}) v=(True->(decide ((↑(Prod.fst (Prod.snd (GV.x v))):Int)=(0:Int))=true->(decide ((↑(Prod.fst (Prod.snd (GV.y v))):Int)=(0:Int))=true->z96 (Prod.fst (Prod.snd (GV.x v))) (Prod.fst (Prod.snd (GV.y v))) (GV.b v)=decide (GV.b v=(0:Int))/\True)/\(decide ((↑(Prod.fst (Prod.snd (GV.y v))):Int)=(0:Int))=false->z96 (Prod.fst (Prod.snd (GV.x v))) (Prod.fst (Prod.snd (GV.y v))) (GV.b v)=false/\True))/\(decide ((↑(Prod.fst (Prod.snd (GV.x v))):Int)=(0:Int))=false->z96 (Prod.fst (Prod.snd (GV.x v))) (Prod.fst (Prod.snd (GV.y v))) (GV.b v)=false/\True)):=by kernel_rfl
def zm1(a:AT) (n:Int):qki P (λ_=>none) Try.f39 zfw (λ_=>{}) ⟨a,n⟩=((0:Int)<=n/\n<(18446744073709551616:Int)/\Prod.fst (Prod.snd (AT.sy a))=length (AT.sys a)/\length (AT.sys a)<(1000000:Nat)->(decide (AT.k a=(1:Int))=true->okN a n=decide (n=(0:Int))/\True)/\(decide (AT.k a=(1:Int))=false->(decide (AT.k a=(2:Int))=true->okN a n=decide (n<=(1:Int))/\True)/\(decide (AT.k a=(2:Int))=false->(decide (AT.k a=(3:Int))=true->((-9223372036854775808:Int)<=IntKind.wrap i32 n/\IntKind.wrap i32 n<=(9223372036854775807:Int))/\okN a n=decide (n=IntKind.wrap u64 (IntKind.wrap i32 n))/\True)/\(decide (AT.k a=(3:Int))=false->(decide (AT.k a=(5:Int))=true->(0:Int)<=(32:Int)/\okN a n=decide (shP BinOp.shr u64 n (32:Int)=(0:Int))/\True)/\(decide (AT.k a=(5:Int))=false->(decide (AT.k a=(10:Int))=true->okN a n=decide (n<IntKind.wrap u64 (↑(Prod.fst (Prod.snd (AT.sy a))):Int))/\True)/\(decide (AT.k a=(10:Int))=false->okN a n=true/\True)))))):=by kernel_rfl
def zm7(a:AT) (s:ByteArray):qki P (qfv [(59,z32)]) Try.f41 zfx (λ_=>{}) ⟨a,s⟩=(size s<(9223372036854775808:Nat)->(decide (AT.k a=(8:Int))=true->s=s/\size s<(9223372036854775808:Nat)/\okT a s=vld s/\True)/\(decide (AT.k a=(8:Int))=false->(decide (AT.k a=(11:Int))=true->okT a s=decide ((↑(size s):Int)=AT.sz a)/\True)/\(decide (AT.k a=(11:Int))=false->okT a s=true/\True))):=by kernel_rfl
section
variable (x0:SV) (x1:Prop) (x2:List ByteArray) (x3:Nat)
 abbrev zut:=x0.1=x0.1/\x0.2.1=x0.2.1/\x0.2.2=x0.2.2/\x1
 abbrev j0u:=(↑x0.2.1:Int)
 def j94:=(j0u x0)=(j0u x0)/\(∀i0,True/\slP txV x0 x2 i0->True/\slP txV x0 x2 i0)/\x1
 abbrev j2n:=x3<=length x2/\(z1q x2=if x3=0 then z1q x2 else z1q (drop (x3- 1) x2))/\x1
 abbrev jam:=Jb ((↑x3:Int)+1)
end
def zmm(y:SV) (ks:List ByteArray):qki P (qfv [(59,z32)]) Try.f60 zlp (j25) ⟨y,ks⟩=((length ks<4611686018427387904/\∀(k:ByteArray),k∈ks->size k<9223372036854775808)->(∃(p:Pub),True/\slP txV y ks p)->(∃(s:Nat),zut y ((↑s:Int)=0/\zut y (j94 y ((j2n (∀(h:0<s) (h2:s<=length ks),vld ks[s- 1]=true) ks s)/\True) ks)))/\∀(s:Nat),(j2n (∀(h:0<s) (h2:s<=length ks),vld ks[s- 1]=true) ks s)->Ji ((↑s:Int)<(j0u y)) ((0<=(↑s:Int)/\(↑s:Int)<(j0u y))/\y.1≠noA/\∃(s_1:ByteArray),(∀(p:Pub),True/\slP txV y ks p->q3f p (adr y.1 (toNat (↑s:Int)*1)) [string s_1])/\s_1=s_1/\size s_1<9223372036854775808/\((!vld s_1)=true->z1q ks=false/\True)/\((!vld s_1)=false->Ji (0<(↑s:Int)) (Jb ((↑s:Int)- 1)/\(0<=(↑s:Int)- 1/\(↑s:Int)- 1<(j0u y))/\y.1≠noA/\∃(s_2:ByteArray),(∀(p:Pub),True/\slP txV y ks p->q3f p (adr y.1 (toNat ((↑s:Int)- 1)*1)) [string s_2])/\((!qea s_2 s_1)=true->z1q ks=false/\True)/\((!qea s_2 s_1)=false->jam s/\∃(s_3:Nat),zut y ((↑s_3:Int)=(↑s:Int)+1/\zut y (j94 y ((j2n (∀(h:0<s_3) (h2:s_3<=length ks),vld ks[s_3- 1]=true) ks s_3)/\length ks- s_3<length ks- s/\True) ks)))) (jam s/\∃(s_2:Nat),zut y ((↑s_2:Int)=(↑s:Int)+1/\zut y (j94 y ((j2n (∀(h:0<s_2) (h2:s_2<=length ks),vld ks[s_2- 1]=true) ks s_2)/\length ks- s_2<length ks- s/\True) ks))))) (z1q ks=true/\True)):=by kernel_rfl
def keys_eq:=λy ks=>Eq.trans (zmm y ks) (by delta Ji Jb Jt Jf zut j0u j94 j2n jam;exact rfl)
section
variable (x0:GV) (x1:AT) (x2:List AT) (x3:SV) (x4:Nat) (x5:Prop) (x6:Nat) (x7:FtS) (x8:Int) (x9:ByteArray) (x10 x11:Option Addr) (x12 x13:Nat) (x14:Int) (x15:Nat) (x16:Nat->Option Obj)
 abbrev z5s:=True/\z05 x2 x3 x16/\AT.ok x1 x16/\GV.ok x0 x16
 abbrev zoj:=(↑(GV.y x0).2.1:Int)
 abbrev zog:=okP x1 (length (GV.l x0)) (GV.ks x0) (GV.b x0)&&PV.fitL x2 (z0c x1 (GV.b x0)) 0 (GV.pvs (GV.l x0))
 def z3n:=(zog x0 x1 x2)=false/\True
 def zod:=(GV.x x0).1=(GV.x x0).1/\(GV.x x0).2.1=(GV.x x0).2.1/\(GV.x x0).2.2=(GV.x x0).2.2/\x5
 def zoe:=(AT.f x1).1=(AT.f x1).1/\(AT.f x1).2.1=(AT.f x1).2.1/\(AT.f x1).2.2=(AT.f x1).2.2/\x5
 def zsa:=x3.1=x3.1/\x3.2.1=x3.2.1/\x3.2.2=x3.2.2/\GV.n x0=GV.n x0/\GV.s x0=GV.s x0/\zod x0 ((GV.y x0).1=(GV.y x0).1/\(GV.y x0).2.1=(GV.y x0).2.1/\(GV.y x0).2.2=(GV.y x0).2.2/\GV.b x0=GV.b x0/\AT.k x1=AT.k x1/\AT.nm x1=AT.nm x1/\(AT.al x1).1=(AT.al x1).1/\(AT.al x1).2.1=(AT.al x1).2.1/\(AT.al x1).2.2=(AT.al x1).2.2/\AT.it x1=AT.it x1/\(AT.sy x1).1=(AT.sy x1).1/\(AT.sy x1).2.1=(AT.sy x1).2.1/\(AT.sy x1).2.2=(AT.sy x1).2.2/\AT.hd x1=AT.hd x1/\AT.df x1=AT.df x1/\AT.sz x1=AT.sz x1/\zoe x1 ((AT.br x1).1=(AT.br x1).1/\(AT.br x1).2.1=(AT.br x1).2.1/\(AT.br x1).2.2=(AT.br x1).2.2/\(∀i0,z5s x0 x1 x2 x3 i0->z5s x0 x1 x2 x3 i0)/\x5))
 def zuw:=∃(i0:Unit),zsa x0 x1 x2 x3 (¬(0<length (GV.ks x0)/\AT.k x1≠13\/GV.b x0≠0/\AT.k x1≠14)/\True)
 def j2z:=((!decide (AT.k x1=14))=true->z3n x0 x1 x2)/\((!decide (AT.k x1=14))=false->zuw x0 x1 x2 x3)
 def zuu:=((!decide (GV.b x0=0))=true->j2z x0 x1 x2 x3)/\((!decide (GV.b x0=0))=false->zuw x0 x1 x2 x3)
 def j33:=((!decide (AT.k x1=13))=true->z3n x0 x1 x2)/\((!decide (AT.k x1=13))=false->zuu x0 x1 x2 x3)
 abbrev z2f:=(↑(GV.x x0).2.1:Int)
 abbrev z7k:=(↑(AT.f x1).2.1:Int)
 def zje:=PV.fitL x2 (z0c x1 (GV.b x0)) x4 (drop x4 (GV.pvs (GV.l x0)))=PV.fitL x2 (z0c x1 (GV.b x0)) 0 (GV.pvs (GV.l x0))
 def zoi:=x4<=length (AT.fs x1)/\length (GV.l x0)=length (AT.fs x1)/\zje x0 x1 x2 x4
 def zux:=(∀i0,z5s x0 x1 x2 x3 i0->q3f i0 (adr (GV.x x0).1 (toNat (↑x4:Int)*5)) [int u64 x8,string x9,slice x10 x6 x12,slice x11 x13 x15,int i64 x14])
 def zof:=x7.2.1.1=x3.1/\x7.2.1.2.1=x3.2.1/\x7.2.1.2.2=x3.2.2/\x5
 def zoc:=GV.n x7.2.2.2=x8/\GV.s x7.2.2.2=x9/\(GV.x x7.2.2.2).1=x10/\(GV.x x7.2.2.2).2.1=x4/\(GV.x x7.2.2.2).2.2=x6/\(GV.y x7.2.2.2).1=x11/\(GV.y x7.2.2.2).2.1=x12/\(GV.y x7.2.2.2).2.2=x13/\GV.b x7.2.2.2=x14/\(ztq x7<x15/\small x7.1/\PV.sm (GV.pv x7.2.2.2))/\(∀i0,z5s x0 x1 x2 x3 i0->z05 x7.1 x7.2.1 i0/\GV.ok x7.2.2.2 i0)/\x5
 abbrev zjf:= !PV.fits x7.1 x7.2.2.1 (GV.pv x7.2.2.2)
 abbrev zuy:=Jb ((↑x4:Int)+1)
 def j2x:=zuy x4/\∃(i0:Nat),(z7k x1)=(z7k x1)/\(↑i0:Int)=(↑x4:Int)+1/\zoe x1 (zsa x0 x1 x2 x3 ((zoi x0 x1 x2 i0)/\length (AT.fs x1)- i0<length (AT.fs x1)- x4/\True))
 def j2s:=(0<=(↑x4:Int)/\(↑x4:Int)<(z7k x1))/\(AT.f x1).1≠noA/\∃i0,∃i1,∃(i2:Nat),∃(i3:Nat),∃(i4:Int),∃(i5:Bool),∃(i6:Int),∃(i7:Int),∃i8,∃i9,∃(i10:Nat),∃(i11:Nat),∃i12,∃(i13:Nat),∃(i14:Nat),(∀i15,z5s x0 x1 x2 x3 i15->q3f i15 (adr (AT.f x1).1 (toNat (↑x4:Int)*9)) [string i0,slice i1 i2 i3,int i64 i4,bool i5,int i64 i6,int i64 i7,string i8,slice i9 i10 i11,slice i12 i13 i14])/\(0<=(↑x4:Int)/\(↑x4:Int)<(z2f x0))/\(GV.x x0).1≠noA/\∃(i16:Int),∃i17,∃i18,∃(i19:Nat),∃(i20:Nat),∃i21,∃(i22:Nat),∃(i23:Nat),∃(i24:Int),zux x0 x1 x2 x3 x4 i19 i16 i17 i18 i21 i20 i22 i24 i23/\∃(i26:FtS),zof x3 (i26.2.2.1=i4/\zoc x0 x1 x2 x3 i19 (((zjf i26)=true->z3n x0 x1 x2)/\((zjf i26)=false->j2x x0 x1 x2 x3 x4)) i20 i26 i16 i17 i18 i21 i22 i23 i24 x6) i26
 def zuv:=(zog x0 x1 x2)=true/\True
 def j2q:=Ji ((↑x4:Int)<(z7k x1)) (j2s x0 x1 x2 x3 x4 x6) (zuv x0 x1 x2)
 def j2o:=(∃(i0:Nat),(z7k x1)=(z7k x1)/\(↑i0:Int)=0/\zoe x1 (zsa x0 x1 x2 x3 ((zoi x0 x1 x2 i0)/\True)))/\∀(i1:Nat),zoi x0 x1 x2 i1->j2q x0 x1 x2 x3 i1 x4
 def jd4:=((!decide ((z2f x0)=(z7k x1)))=true->z3n x0 x1 x2)/\((!decide ((z2f x0)=(z7k x1)))=false->j2o x0 x1 x2 x3 x4)
 def z5e:=decide (0<=GV.b x0)=decide (0<=GV.b x0)
 abbrev za5:=GV.b x0<(↑(AT.br x1).2.1:Int)
 def za6:=decide (za5 x0 x1)=decide (za5 x0 x1)
 def z42:=decide ((z2f x0)=1)=decide ((z2f x0)=1)
 def zok:=z42 x0/\z42 x0/\z42 x0/\z42 x0/\z42 x0/\x5
 def j2p:=zok x0 ((0<=GV.b x0/\za5 x0 x1)/\(AT.br x1).1≠noA/\z42 x0/\∃(i0:Int),(∀i1,z5s x0 x1 x2 x3 i1->q3f i1 (adr (AT.br x1).1 (toNat (GV.b x0)*1)) [int i64 i0])/\z42 x0/\z42 x0/\z42 x0/\((0:Int)<=0/\0<(z2f x0))/\(GV.x x0).1≠noA/\z42 x0/\∃(i2:Int),∃i3,∃i4,∃(i5:Nat),∃(i6:Nat),∃i7,∃(i8:Nat),∃(i9:Nat),∃(i10:Int),(∀i11,z5s x0 x1 x2 x3 i11->q3f i11 (adr (GV.x x0).1 ((0:Nat)*5)) [int u64 i2,string i3,slice i4 i5 i6,slice i7 i8 i9,int i64 i10])/\z42 x0/\∃(i12:FtS),zof x3 (i12.2.2.1=i0/\zoc x0 x1 x2 x3 i5 (Ji ((z2f x0)=1) ((zog x0 x1 x2)=PV.fits i12.1 i12.2.2.1 (GV.pv i12.2.2.2)/\True) (z3n x0 x1 x2)) i6 i12 i2 i3 i4 i7 i8 i9 i10 x4) i12)
 def j30:=z42 x0/\zok x0 (zok x0 (Ji ((z2f x0)=1) (False) (z3n x0 x1 x2)))
 def jd3:=Ji ((z2f x0)=1) (j2p x0 x1 x2 x3 x4) (j30 x0 x1 x2)
 def jd2:=za6 x0 x1/\za6 x0 x1/\za6 x0 x1/\Ji (za5 x0 x1) (jd3 x0 x1 x2 x3 x4) (z3n x0 x1 x2)
 def j31:=za6 x0 x1/\za6 x0 x1/\za6 x0 x1/\Ji (za5 x0 x1) (False) (z3n x0 x1 x2)
 abbrev jd1:=Ji (za5 x0 x1) (jd2 x0 x1 x2 x3 x4) (j31 x0 x1 x2)
 def jd0:=z5e x0/\z5e x0/\z5e x0/\z5e x0/\z5e x0/\Ji (0<=GV.b x0) (jd1 x0 x1 x2 x3 x4) (z3n x0 x1 x2)
 def j32:=z5e x0/\z5e x0/\z5e x0/\z5e x0/\z5e x0/\Ji (0<=GV.b x0) (False) (z3n x0 x1 x2)
 def jcz:=Ji (0<=GV.b x0) (jd0 x0 x1 x2 x3 x4) (j32 x0 x1 x2)
 def zoh:=AT.k x1≠9/\AT.k x1≠14/\okP x1 (length (GV.l x0)) (GV.ks x0) (GV.b x0)=true
 def j2w:=((!decide ((z2f x0)=(zoj x0)))=true->z3n x0 x1 x2)/\((!decide ((z2f x0)=(zoj x0)))=false->∃(i0:(Option Addr×Nat×Nat)×List ByteArray),i0.1.1=(GV.y x0).1/\i0.1.2.1=(GV.y x0).2.1/\i0.1.2.2=(GV.y x0).2.2/\(length i0.2<4611686018427387904/\∀i1,i1∈i0.2->size i1<9223372036854775808)/\(∀i2,z5s x0 x1 x2 x3 i2->slP txV i0.1 i0.2 i2)/\((!z1q i0.2)=true->z3n x0 x1 x2)/\((!z1q i0.2)=false->∃(i3:Unit),zsa x0 x1 x2 x3 ((zoh x0 x1)/\True)))
 def j2v:=Ji (AT.k x1=13) (j2w x0 x1 x2 x3) (∃(i4:Unit),zsa x0 x1 x2 x3 ((zoh x0 x1)/\True))
 def jcy:=Ji (AT.k x1=14) (jcz x0 x1 x2 x3 x4) (j2v x0 x1 x2 x3)
 def j2y:=zuy x4/\∃(i0:Nat),(↑i0:Int)=(↑x4:Int)+1/\zod x0 ((z2f x0)=(z2f x0)/\zsa x0 x1 x2 x3 ((i0<=length (GV.l x0)/\zje x0 x1 x2 i0)/\length (GV.l x0)- i0<length (GV.l x0)- x4/\True))
 def j2u:=(0<=(↑x4:Int)/\(↑x4:Int)<(z2f x0))/\(GV.x x0).1≠noA/\∃(i0:Int),∃i1,∃i2,∃(i3:Nat),∃(i4:Nat),∃i5,∃(i6:Nat),∃(i7:Nat),∃(i8:Int),zux x0 x1 x2 x3 x4 i3 i0 i1 i2 i5 i4 i6 i8 i7/\∃(i10:FtS),zof x3 (i10.2.2.1=AT.it x1/\zoc x0 x1 x2 x3 i3 (((zjf i10)=true->z3n x0 x1 x2)/\((zjf i10)=false->j2y x0 x1 x2 x3 x4)) i4 i10 i0 i1 i2 i5 i6 i7 i8 x6) i10
 def j2t:=Ji ((↑x4:Int)<(z2f x0)) (j2u x0 x1 x2 x3 x4 x6) (zuv x0 x1 x2)
 def j2r:=(∃(i0:Nat),(↑i0:Int)=0/\zod x0 ((z2f x0)=(z2f x0)/\zsa x0 x1 x2 x3 ((i0<=length (GV.l x0)/\zje x0 x1 x2 i0)/\True)))/\∀(i1:Nat),i1<=length (GV.l x0)/\zje x0 x1 x2 i1->j2t x0 x1 x2 x3 i1 x4
 def jcx:=(Ji (AT.k x1=9) (jd4 x0 x1 x2 x3 x4) (jcy x0 x1 x2 x3 x4))/\∀(i54:Unit),zoh x0 x1->j2r x0 x1 x2 x3 x4
 def jcw:=(Ji (0<(zoj x0)) (j33 x0 x1 x2 x3) (zuu x0 x1 x2 x3))/\∀(i8:Unit),¬(0<length (GV.ks x0)/\AT.k x1≠13\/GV.b x0≠0/\AT.k x1≠14)->jcx x0 x1 x2 x3 x4
end
def zgi(n:Nat) (S:List AT) (x:SV) (a:AT) (v:GV):qki P (qfv [(60,zlp),(16,z9e.below ztq n)]) Try.f42 (zbf.below j0p (n+1)) (zrt) ⟨S,x,a,v⟩=(j0p (S,x,a,v)<n+1/\small S/\length (AT.fs a)<1000000/\PV.sm (GV.pv v)/\isQ (AT.k a)=true->(∃(p:Pub),z5s v a S x p)->jcw v a S x n):=by kernel_rfl
def zm3:=λn S x a v=>Eq.trans (zgi n S x a v) (by delta Ji Jb Jt Jf z5s zoj zog z3n zod zoe zsa zuw j2z zuu j33 z2f z7k zje zoi zux zof zoc zjf zuy j2x j2s zuv j2q j2o jd4 z5e za5 za6 z42 zok j2p j30 jd3 jd2 j31 jd1 jd0 j32 jcz zoh j2w j2v jcy j2y j2u j2t j2r jcx jcw;exact rfl)
section
variable (x0:Int) (x1:List AT) (x2:GV) (x3:SV) (x4:Nat) (x5:ByteArray) (x6:Option Addr) (x7:Nat) (x8:Int) (x9:Option Addr) (x10 x11:Nat) (x12:Bool) (x13:ByteArray) (x14:Int) (x15:Option Addr) (x16 x17:Nat) (x18:Option Addr) (x19 x20:Nat) (x21:Int) (x22:Nat) (x23:FpS) (x24:Prop)
 abbrev z5t:=PV.fits x1 x0 (GV.pv x2)=false/\True
 def zl9:=x3.1=x3.1/\x3.2.1=x3.2.1/\x3.2.2=x3.2.2/\x0=x0/\x5=x5/\x6=x6/\x4=x4/\x7=x7/\x8=x8/\x9=x9/\x10=x10/\x11=x11/\x12=x12/\x13=x13/\x14=x14/\x15=x15/\x16=x16/\x17=x17/\x18=x18/\x19=x19/\x20=x20/\GV.n x2=GV.n x2/\GV.s x2=GV.s x2/\(GV.x x2).1=(GV.x x2).1/\(GV.x x2).2.1=(GV.x x2).2.1/\(GV.x x2).2.2=(GV.x x2).2.2/\(GV.y x2).1=(GV.y x2).1/\(GV.y x2).2.1=(GV.y x2).2.1/\(GV.y x2).2.2=(GV.y x2).2.2/\GV.b x2=GV.b x2/\(∀i0,True/\z05 x1 x3 i0/\GV.ok x2 i0->True/\z05 x1 x3 i0/\GV.ok x2 i0)/\True/\True
 def za7:=(Jt (x0=x21)->∃(i0:Unit),x0=x0/\isN x0=decide (x0=x21)/\zl9 x0 x1 x2 x3 x4 x5 x6 x7 x8 x9 x10 x11 x12 x13 x14 x15 x16 x17 x18 x19 x20)
 def j39:=za7 x0 x1 x2 x3 x4 x5 x6 x7 x8 x9 x10 x11 x12 x13 x14 x15 x16 x17 x18 x19 x20 5/\(Jf (x0=5)->za7 x0 x1 x2 x3 x4 x5 x6 x7 x8 x9 x10 x11 x12 x13 x14 x15 x16 x17 x18 x19 x20 6/\(Jf (x0=6)->∃(i2:Unit),x0=x0/\isN x0=decide (x0=10)/\zl9 x0 x1 x2 x3 x4 x5 x6 x7 x8 x9 x10 x11 x12 x13 x14 x15 x16 x17 x18 x19 x20))
 def j37:=za7 x0 x1 x2 x3 x4 x5 x6 x7 x8 x9 x10 x11 x12 x13 x14 x15 x16 x17 x18 x19 x20 4/\(Jf (x0=4)->j39 x0 x1 x2 x3 x4 x5 x6 x7 x8 x9 x10 x11 x12 x13 x14 x15 x16 x17 x18 x19 x20)
 def j34:=za7 x0 x1 x2 x3 x4 x5 x6 x7 x8 x9 x10 x11 x12 x13 x14 x15 x16 x17 x18 x19 x20 3/\(Jf (x0=3)->j37 x0 x1 x2 x3 x4 x5 x6 x7 x8 x9 x10 x11 x12 x13 x14 x15 x16 x17 x18 x19 x20)
 def jdd:=za7 x0 x1 x2 x3 x4 x5 x6 x7 x8 x9 x10 x11 x12 x13 x14 x15 x16 x17 x18 x19 x20 2/\(Jf (x0=2)->j34 x0 x1 x2 x3 x4 x5 x6 x7 x8 x9 x10 x11 x12 x13 x14 x15 x16 x17 x18 x19 x20)
 def zuz:=∃(i0:GV),GV.n i0=GV.n x2/\GV.s i0=GV.s x2/\(GV.x i0).1=(GV.x x2).1/\(GV.x i0).2.1=(GV.x x2).2.1/\(GV.x i0).2.2=(GV.x x2).2.2/\(GV.y i0).1=(GV.y x2).1/\(GV.y i0).2.1=(GV.y x2).2.1/\(GV.y i0).2.2=(GV.y x2).2.2/\GV.b i0=GV.b x2/\True/\PV.fits x1 x0 (GV.pv x2)=z96 (GV.x i0).2.1 (GV.y i0).2.1 (GV.b i0)/\True
 def j36:=Ji (GV.s x2=mkS []) (zuz x0 x1 x2) (z5t x0 x1 x2)
 def j3b:=Ji (x0=8) (∃(i0:Unit),x0=x0/\isT x0=decide (x0=8)/\zl9 x0 x1 x2 x3 x4 x5 x6 x7 x8 x9 x10 x11 x12 x13 x14 x15 x16 x17 x18 x19 x20) (∃(i1:Unit),x0=x0/\isT x0=decide (x0=11)/\zl9 x0 x1 x2 x3 x4 x5 x6 x7 x8 x9 x10 x11 x12 x13 x14 x15 x16 x17 x18 x19 x20)
 def j35:=Ji (GV.n x2=0) (zuz x0 x1 x2) (z5t x0 x1 x2)
 def zjg:=x0=x0/\isQ x0=decide (x0=x8)/\x24
 def j3c:=Ji (x0=13) (∃(i0:Unit),zjg x0 13 (zl9 x0 x1 x2 x3 x4 x5 x6 x7 x8 x9 x10 x11 x12 x13 x14 x15 x16 x17 x18 x19 x20)) (∃(i1:Unit),zjg x0 14 (zl9 x0 x1 x2 x3 x4 x5 x6 x7 x8 x9 x10 x11 x12 x13 x14 x15 x16 x17 x18 x19 x20))
 def j38:=Ji (x0=12) (∃(i0:Unit),zjg x0 12 (zl9 x0 x1 x2 x3 x4 x5 x6 x7 x8 x9 x10 x11 x12 x13 x14 x15 x16 x17 x18 x19 x20)) (j3c x0 x1 x2 x3 x4 x5 x6 x7 x8 x9 x10 x11 x12 x13 x14 x15 x16 x17 x18 x19 x20)
 abbrev zv0:=okP x23.2.2.1 (length (GV.l x23.2.2.2)) (GV.ks x23.2.2.2) (GV.b x23.2.2.2)&&PV.fitL x23.1 (z0c x23.2.2.1 (GV.b x23.2.2.2)) 0 (GV.pvs (GV.l x23.2.2.2))
 def j3a:=Ji (GV.n x2=0) (PV.fits x1 x0 (GV.pv x2)=decide (GV.s x2=mkS [])/\True) (z5t x0 x1 x2)
 def jdc:=(isQ x0=true->∃(i0:FpS),i0.2.1.1=x3.1/\i0.2.1.2.1=x3.2.1/\i0.2.1.2.2=x3.2.2/\AT.k i0.2.2.1=x0/\AT.nm i0.2.2.1=x5/\(AT.al i0.2.2.1).1=x6/\(AT.al i0.2.2.1).2.1=x4/\(AT.al i0.2.2.1).2.2=x7/\AT.it i0.2.2.1=x8/\(AT.sy i0.2.2.1).1=x9/\(AT.sy i0.2.2.1).2.1=x10/\(AT.sy i0.2.2.1).2.2=x11/\AT.hd i0.2.2.1=x12/\AT.df i0.2.2.1=x13/\AT.sz i0.2.2.1=x14/\(AT.f i0.2.2.1).1=x15/\(AT.f i0.2.2.1).2.1=x16/\(AT.f i0.2.2.1).2.2=x17/\(AT.br i0.2.2.1).1=x18/\(AT.br i0.2.2.1).2.1=x19/\(AT.br i0.2.2.1).2.2=x20/\GV.n i0.2.2.2=GV.n x2/\GV.s i0.2.2.2=GV.s x2/\(GV.x i0.2.2.2).1=(GV.x x2).1/\(GV.x i0.2.2.2).2.1=(GV.x x2).2.1/\(GV.x i0.2.2.2).2.2=(GV.x x2).2.2/\(GV.y i0.2.2.2).1=(GV.y x2).1/\(GV.y i0.2.2.2).2.1=(GV.y x2).2.1/\(GV.y i0.2.2.2).2.2=(GV.y x2).2.2/\GV.b i0.2.2.2=GV.b x2/\(j0p i0<x22+1/\small i0.1/\length (AT.fs i0.2.2.1)<1000000/\PV.sm (GV.pv i0.2.2.2)/\isQ (AT.k i0.2.2.1)=true)/\(∀i1,True/\z05 x1 x3 i1/\GV.ok x2 i1->z05 i0.1 i0.2.1 i1/\AT.ok i0.2.2.1 i1/\GV.ok i0.2.2.2 i1)/\((zv0 i0)=true->j3a x21 x1 x2)/\((zv0 i0)=false->z5t x21 x1 x2))/\(isQ x0=false->z5t x21 x1 x2)
 def jdb:=(Ji (x0=9) (∃(i0:Unit),zjg x0 9 (zl9 x0 x1 x2 x3 x4 x5 x6 x7 x8 x9 x10 x11 x12 x13 x14 x15 x16 x17 x18 x19 x20)) (j38 x0 x1 x2 x3 x4 x5 x6 x7 x8 x9 x10 x11 x12 x13 x14 x15 x16 x17 x18 x19 x20))/\∀(i4:Unit),True->jdc x0 x1 x2 x3 x4 x5 x6 x7 x8 x9 x10 x11 x12 x13 x14 x15 x16 x17 x18 x19 x20 x21 x22
 def jda:=(isT x0=true->∃(i0:AT×ByteArray),AT.k i0.1=x0/\AT.nm i0.1=x5/\(AT.al i0.1).1=x6/\(AT.al i0.1).2.1=x4/\(AT.al i0.1).2.2=x7/\AT.it i0.1=x8/\(AT.sy i0.1).1=x9/\(AT.sy i0.1).2.1=x10/\(AT.sy i0.1).2.2=x11/\AT.hd i0.1=x12/\AT.df i0.1=x13/\AT.sz i0.1=x14/\(AT.f i0.1).1=x15/\(AT.f i0.1).2.1=x16/\(AT.f i0.1).2.2=x17/\(AT.br i0.1).1=x18/\(AT.br i0.1).2.1=x19/\(AT.br i0.1).2.2=x20/\i0.2=GV.s x2/\size i0.2<9223372036854775808/\(okT i0.1 i0.2=true->j35 x21 x1 x2)/\(okT i0.1 i0.2=false->z5t x21 x1 x2))/\(isT x0=false->jdb x0 x1 x2 x3 x4 x5 x6 x7 x8 x9 x10 x11 x12 x13 x14 x15 x16 x17 x18 x19 x20 x21 x22)
 def jd9:=(Ji (x0=7) (∃(i0:Unit),x0=x0/\isT x0=decide (x0=7)/\zl9 x0 x1 x2 x3 x4 x5 x6 x7 x8 x9 x10 x11 x12 x13 x14 x15 x16 x17 x18 x19 x20) (j3b x0 x1 x2 x3 x4 x5 x6 x7 x8 x9 x10 x11 x12 x13 x14 x15 x16 x17 x18 x19 x20))/\∀(i6:Unit),True->jda x0 x1 x2 x3 x4 x5 x6 x7 x8 x9 x10 x11 x12 x13 x14 x15 x16 x17 x18 x19 x20 x21 x22
 def jd8:=(isN x0=true->∃(i0:AT×Int),AT.k i0.1=x0/\AT.nm i0.1=x5/\(AT.al i0.1).1=x6/\(AT.al i0.1).2.1=x4/\(AT.al i0.1).2.2=x7/\AT.it i0.1=x8/\(AT.sy i0.1).1=x9/\(AT.sy i0.1).2.1=x10/\(AT.sy i0.1).2.2=x11/\AT.hd i0.1=x12/\AT.df i0.1=x13/\AT.sz i0.1=x14/\(AT.f i0.1).1=x15/\(AT.f i0.1).2.1=x16/\(AT.f i0.1).2.2=x17/\(AT.br i0.1).1=x18/\(AT.br i0.1).2.1=x19/\(AT.br i0.1).2.2=x20/\i0.2=GV.n x2/\(0<=i0.2/\i0.2<18446744073709551616/\(AT.sy i0.1).2.1=length (AT.sys i0.1)/\length (AT.sys i0.1)<1000000)/\(okN i0.1 i0.2=true->j36 x21 x1 x2)/\(okN i0.1 i0.2=false->z5t x21 x1 x2))/\(isN x0=false->jd9 x0 x1 x2 x3 x4 x5 x6 x7 x8 x9 x10 x11 x12 x13 x14 x15 x16 x17 x18 x19 x20 x21 x22)
 def jd7:=(0<=x0/\x0<(↑x3.2.1:Int))/\x3.1≠noA/\∃(i0:Int),∃i1,∃i2,∃(i3:Nat),∃(i4:Nat),∃(i5:Int),∃i6,∃(i7:Nat),∃(i8:Nat),∃(i9:Bool),∃i10,∃(i11:Int),∃i12,∃(i13:Nat),∃(i14:Nat),∃i15,∃(i16:Nat),∃(i17:Nat),(∀i18,True/\z05 x1 x3 i18/\GV.ok x2 i18->q3f i18 (adr x3.1 (toNat x0*10)) [int i64 i0,string i1,slice i2 i3 i4,int i64 i5,slice i6 i7 i8,bool i9,string i10,int i64 i11,slice i12 i13 i14,slice i15 i16 i17])/\(za7 i0 x1 x2 x3 i3 i1 i2 i4 i5 i6 i7 i8 i9 i10 i11 i12 i13 i14 i15 i16 i17 1/\(Jf (i0=1)->jdd i0 x1 x2 x3 i3 i1 i2 i4 i5 i6 i7 i8 i9 i10 i11 i12 i13 i14 i15 i16 i17))/\∀(i33:Unit),True->jd8 i0 x1 x2 x3 i3 i1 i2 i4 i5 i6 i7 i8 i9 i10 i11 i12 i13 i14 i15 i16 i17 x0 x4
 def jd6:=Ji ((↑x3.2.1:Int)<=x0) (z5t x0 x1 x2) (jd7 x0 x1 x2 x3 x4)
 def jd5:=Ji (x0<0) (z5t x0 x1 x2) (jd6 x0 x1 x2 x3 x4)
end
def zm9(n:Nat) (S:List AT) (x:SV) (t:Int) (v:GV):qki P (qfv [(39,zfw),(41,zfx),(40,zg5),(42,zbf.below j0p (n+1))]) Try.f16 (z9e.below ztq (n+1)) (j23) ⟨S,x,t,v⟩=(ztq (S,x,t,v)<n+1/\small S/\PV.sm (GV.pv v)->(∃(p:Pub),True/\z05 S x p/\GV.ok v p)->jd5 t S v x n):=by kernel_rfl
def zt2:=λn S x t v=>Eq.trans (zm9 n S x t v) (by delta Ji Jt Jf z5t zl9 za7 j39 j37 j34 jdd zuz j36 j3b j35 zjg j3c j38 zv0 j3a jdc jdb jda jd9 jd8 jd7 jd6 jd5;exact rfl)
section
def wrap_i32(n:Int):IntKind.wrap .i32 n=(n+2147483648) % 4294967296- 2147483648:=by
 simp[IntKind.wrap,IntKind.bits,IntKind.signed]
 omega
def z5c(n:Int):IntKind.wrap .u64 n=n % 18446744073709551616:=by
 simp[IntKind.wrap,IntKind.bits,IntKind.signed]
def ja8(n:Int) (h:0<=n):shP .shr .u64 n 32=n / 4294967296:=by
 show Int.fdiv n (2 ^ min (32:Int).toNat 64)=_
 rw[show(2:Int) ^ min (32:Int).toNat 64=4294967296 from rfl,Int.fdiv_eq_ediv_of_nonneg _ (by omega)]
def zo0:q58 P 40 zg5:=by
 refine qkl mixed z0u (W:=λ_=>{}) Try.func40 (by kernel_rfl) (by decide) (by decide) (λs=>by kernel_rfl) λ(v:GV)=>(znz v).mpr ?_
 simp only[decide_eq_true_eq,decide_eq_false_iff_not,and_true]
 intro _
 unfold z96
 refine⟨λh=>⟨λg=> ?_,λg=> ?_⟩,λh=> ?_⟩
 ·rw[decide_eq_true (by omega:v.x.2.1=0),decide_eq_true (by omega:v.y.2.1=0)];rfl
 ·rw[decide_eq_false (by omega:¬v.y.2.1=0),Bool.and_false];rfl
 ·rw[decide_eq_false (by omega:¬v.x.2.1=0)];rfl
def zm2:q58 P 39 zfw:=by
 refine qkl mixed z0u (W:=λ_=>{}) Try.func39 (by kernel_rfl) (by decide) (by decide) (λs=>by kernel_rfl) λ⟨a,(n:Int)⟩=>(zm1 a n).mpr ?_
 rintro⟨h0,h1,hs,hl⟩
 simp only[decide_eq_true_eq,decide_eq_false_iff_not,and_true]
 unfold okN
 refine⟨λh=>(if_pos h),λh2=>⟨λh=> ?_,λh3=>⟨λh=>⟨?_,?_⟩,λh4=>⟨λh=>⟨by omega,?_⟩,λh5=>⟨λh=> ?_,λh6=> ?_⟩⟩⟩⟩⟩
 ·rw[if_neg h2,if_pos h]
 ·rw[wrap_i32];omega
 ·rw[if_neg h2,if_neg h3,if_pos h,wrap_i32,z5c]
  exact z08 (by omega)
 ·rw[if_neg h2,if_neg h3,if_neg h4,if_pos h,ja8 n h0]
  exact z08 (by omega)
 ·rw[if_neg h2,if_neg h3,if_neg h4,if_neg h5,if_pos h,z5c]
  exact z08 (by omega)
 ·rw[if_neg h2,if_neg h3,if_neg h4,if_neg h5,if_neg h6]
def zm8:q58 P 41 zfx:=by
 refine qkl mixed (qdh (qh9 zcp qk5)) (W:=λ_=>{}) Try.func41 (by kernel_rfl) (by decide) (by decide) (λs=>by kernel_rfl) λ⟨a,s⟩=>(zm7 a s).mpr ?_
 intro hs
 simp only[decide_eq_true_eq,decide_eq_false_iff_not,and_true]
 unfold okT
 refine⟨λh=>⟨trivial,hs,if_pos h⟩,λh2=>⟨λh=> ?_,λh3=> ?_⟩⟩
 ·rw[if_neg h2,if_pos h]
 ·rw[if_neg h2,if_neg h3]
variable {ks:List ByteArray} {p:Pub}
def z7f{y:SV} (h:slP txV y ks p) {i:Nat} (hi:i<ks.length):y.1≠noA/\q3f p (adr y.1 (i*1)) [.string ks[i]]:=z14 z0m (by decide) h hi
variable {j:Nat}
def z56(h:j+1<ks.length):z1q (ks.drop j)=(vld (ks[j]'(by omega))&&qea (ks[j]'(by omega)) ks[j+1]&&z1q (ks.drop (j+1))):=by
 rw[List.drop_eq_getElem_cons (by omega),List.drop_eq_getElem_cons h,z1q]
def z70:∀{ks:List ByteArray} {i:Nat} (hi:i<ks.length),vld ks[i]=false->z1q ks=false
 | [k],0,_,h=>by rw[z1q];exact h
 |k::j::l,0,_,h=>by rw[z1q];simp at h;rw[h];rfl
 |k::j::l,i+1,hi,h=>by rw[z1q,z70 (ks:=j::l) (i:=i) (by simpa using hi) (by simpa using h),Bool.and_false]
def zta:q58 P 60 zlp:=by
 refine qkl mixed (qdh (qh9 zcp qk5)) (W:=j25) Try.func60 (by kernel_rfl) (by decide) (by decide) (λs=>by kernel_rfl) λ⟨(y:SV),ks⟩=>(keys_eq y ks).mpr ?_
 rintro⟨hl,hsz⟩ ⟨p,_,hp⟩
 have hy:y.2.1=ks.length:=hp.1
 simp only[sbS,Int.toNat_natCast]
 refine⟨⟨0,rfl,by omega,rfl,λh=>absurd h (by omega)⟩,?_⟩
 rintro j ⟨hj,hk,hv⟩
 refine⟨λhlt=>⟨⟨by omega,hlt⟩,(z7f hp (show j<ks.length by omega)).1,ks[j]'(by omega),λq hq=>(z7f hq (show j<ks.length by omega)).2,hsz _ (List.getElem_mem _),λhb=>z70 _ hb,λhg=>⟨λh0=> ?_,λh0=> ?_⟩⟩,λhge=> ?_⟩
 ·have e:((j:Int)- 1).toNat=j- 1:=by omega
  rw[e]
  refine⟨by omega,by omega,(z7f hp (show j- 1<ks.length by omega)).1,ks[j- 1]'(by omega),λq hq=>(z7f hq (show j- 1<ks.length by omega)).2,λhb=> ?_,λhb=> ?_⟩
  ·rw[if_neg (by omega)]at hk
   rw[hk]
   have:=z56 (ks:=ks) (j:=j- 1) (by omega)
   simp only[show j- 1+1=j by omega]at this
   rw[this,hb,Bool.and_false];rfl
  ·refine⟨by omega,j+1,rfl,⟨by omega,?_,λ_ _=> ?_⟩,by omega⟩
   ·rw[if_neg (by omega)]at hk⊢
    have:=z56 (ks:=ks) (j:=j- 1) (by omega)
    simp only[show j- 1+1=j by omega]at this
    rw[hk,this,hb,hv (by omega) (by omega)]
    simp
   ·simpa using hg
 ·obtain rfl:j=0:=by omega
  exact⟨by omega,1,rfl,⟨by omega,by simp,λ_ _=>by simpa using hg⟩,by omega⟩
 ·obtain rfl:j=ks.length:=by omega
  by_cases h0:ks.length=0
  ·rw[List.length_eq_zero_iff]at h0;rw[h0,z1q]
  ·rw[if_neg h0]at hk
   have:=hv (by omega) (Nat.le_refl _)
   rw[hk,List.drop_eq_getElem_cons (by omega),show ks.length- 1+1=ks.length by omega,List.drop_length,z1q]
   exact this
variable {l:List GV}
def z3i(h:j<l.length):(GV.pvs l)[j]'(by rw[GV.pvs_len];exact h)=(l[j]).pv:=by simp[GV.pvs_map]
def z7a(h:j<l.length):SizeOf.sizeOf l[j]<SizeOf.sizeOf l:=List.sizeOf_lt_of_mem (List.getElem_mem h)
variable {S:List AT}
def z53{f:Nat->Int} {l:List PV} (h:j<l.length):PV.fitL S f j (l.drop j)=(PV.fits S (f j) l[j]&&PV.fitL S f (j+1) (l.drop (j+1))):=by
 rw[List.drop_eq_getElem_cons h,PV.fitL]
def z1y{a:AT} (h:a.ok p) {j:Nat} (hj:j<a.fs.length):a.f.1≠noA/\q3f p (adr a.f.1 (j*9)) a.fs[j].cells:=z14 zbc (by decide) h.2.2.1 hj
def z1u{a:AT} (h:a.ok p) {j:Nat} (hj:j<a.brs.length):a.br.1≠noA/\q3f p (adr a.br.1 (j*1)) [.int .i64 a.brs[j]]:=z14 z20 (by decide) h.2.2.2.1 hj
def z2d{x:SV} (h:z05 S x p) {j:Nat} (hj:j<S.length):x.1≠noA/\q3f p (adr x.1 (j*10)) S[j].cells:=z14 z1x (by decide) h.1 hj
def zm4(n:Nat) (hf:q58 P 16 (z9e.below ztq n)):q58 P 42 (zbf.below j0p (n+1)):=by
 refine qkl mixed (qdh (qh9 zta (qh9 hf qk5))) (W:=zrt) Try.func42 (by kernel_rfl) (show 1<=1 by decide) (show 1<=1 by decide) (λs=>by kernel_rfl) λ⟨S,(x:SV),a,v⟩=>(zm3 n S x a v).mpr ?_
 rintro⟨hmu,hS,haf,hv,hq⟩ ⟨p,_,hx,ha,hvo⟩
 have hmu:SizeOf.sizeOf v<n+1:=hmu
 have xl:=GV.x_len hvo
 have yl:=GV.y_len hvo
 have fl:a.f.2.1=a.fs.length:=ha.2.2.1.1
 have bl:a.br.2.1=a.brs.length:=ha.2.2.2.1.1
 have hvs:=hv
 rw[GV.sm_eq]at hvs
 obtain⟨_,_,vl,kl,ksz,_⟩:=hvs
 simp only[sbS,Int.toNat_natCast,xl,yl,fl,bl]
 have hbad:(0<v.ks.length/\a.k≠13\/v.b≠0/\a.k≠14)->okP a v.l.length v.ks v.b=false:=λh=>by
  unfold okP;rw[if_pos h]
 have bad:okP a v.l.length v.ks v.b=false->(okP a v.l.length v.ks v.b&&PV.fitL S (z0c a v.b) 0 (GV.pvs v.l))=false:=λh=>by rw[h];rfl
 have child:∀{j:Nat} (hj:j<v.l.length),SizeOf.sizeOf v.l[j]<n:=λ{j} hj=>by
  have h1:=z7a hj
  have:SizeOf.sizeOf v.l<SizeOf.sizeOf v:=by cases v;simp[GV.l];omega
  omega
 have fdrop:∀{j:Nat} (hj:j<v.l.length),PV.fitL S (z0c a v.b) j ((GV.pvs v.l).drop j)=(PV.fits S (z0c a v.b j) (v.l[j]).pv&&PV.fitL S (z0c a v.b) (j+1) ((GV.pvs v.l).drop (j+1))):=λ{j} hj=>by
  have:=z53 (S:=S) (f:=z0c a v.b) (l:=GV.pvs v.l) (j:=j) (by rw[GV.pvs_len];exact hj)
  rw[z3i hj]at this;exact this
 have fend:PV.fitL S (z0c a v.b) v.l.length ((GV.pvs v.l).drop v.l.length)=true:=by
  rw[List.drop_of_length_le (by rw[GV.pvs_len];exact Nat.le_refl _),PV.fitL]
 refine⟨⟨λh1=>⟨λh2=>bad (hbad (by omega)),λh2=>⟨λh3=>⟨λh4=>bad (hbad (by omega)),λh4=>by omega⟩,λh3=>⟨(),by omega⟩⟩⟩,λh1=>⟨λh3=>⟨λh4=>bad (hbad (by omega)),λh4=>⟨(),by omega⟩⟩,λh3=>⟨(),by omega⟩⟩⟩,?_⟩
 intro _ hnb
 have ok0:okP a v.l.length v.ks v.b=if a.k=9 then decide (v.l.length=a.fs.length)else if a.k=14 then decide (0<=v.b/\v.b<a.brs.length/\v.l.length=1)else if a.k=13 then decide (v.l.length=v.ks.length)&&z1q v.ks else true:=by
  unfold okP;rw[if_neg hnb]
 refine⟨⟨λh9=>⟨λh=>bad (by rw[ok0,if_pos h9];exact decide_eq_false (by omega)),λh=>⟨⟨0,rfl,by omega,by omega,by simp⟩,?_⟩⟩,λh9=>⟨λh14=> ?_,λh14=>⟨λh13=>⟨λh=>bad (by rw[ok0,if_neg h9,if_neg h14,if_pos h13,decide_eq_false (by omega)];rfl),λh=>⟨⟨v.y,v.ks⟩,?_⟩⟩,λh13=>⟨(),h9,h14,by rw[ok0,if_neg h9,if_neg h14,if_neg h13]⟩⟩⟩⟩,?_⟩
 ·rintro j ⟨hj,hl,ht⟩
  refine⟨λhlt=> ?_,λhge=> ?_⟩
  ·have hjf:j<a.fs.length:=by omega
   have hjl:j<v.l.length:=by omega
   have hd:=fdrop hjl
   have hty:z0c a v.b j=a.fs[j].ty:=by unfold z0c;rw[if_pos h9,List.getElem?_eq_getElem hjf]
   refine⟨by omega,(z1y ha hjf).1,a.fs[j].nm,a.fs[j].al.1,a.fs[j].al.2.1,a.fs[j].al.2.2,a.fs[j].ty,a.fs[j].hd,a.fs[j].df.k,a.fs[j].df.n,a.fs[j].df.s,a.fs[j].df.y.1,a.fs[j].df.y.2.1,a.fs[j].df.y.2.2,a.fs[j].df.x.1,a.fs[j].df.x.2.1,a.fs[j].df.x.2.2,λq hq=>(z1y hq.2.1 hjf).2,by omega,(GV.cells_at hvo hjl).1,v.l[j].n,v.l[j].s,v.l[j].x.1,v.l[j].x.2.1,v.l[j].x.2.2,v.l[j].y.1,v.l[j].y.2.1,v.l[j].y.2.2,v.l[j].b,λq hq=>(GV.cells_at hq.2.2 hjl).2,⟨S,x,a.fs[j].ty,v.l[j]⟩,?_⟩
   simp only[true_and,eq_self]
   refine⟨⟨child hjl,hS,GV.sm_at hv hjl⟩,λq hq=>⟨hq.1,GV.ok_at hq.2.2 hjl⟩,λhb=> ?_,λhb=>⟨by omega,j+1,by omega,⟨by omega,hl,?_⟩,by omega⟩⟩
   ·rw[←ht,hd,hty,hb,Bool.false_and,Bool.and_false]
   ·rw[←ht,hd,hty,hb,Bool.true_and]
  ·obtain rfl:j=v.l.length:=by omega
   rw[ok0,if_pos h9,decide_eq_true hl,←ht,fend];rfl
 ·have hok:okP a v.l.length v.ks v.b=decide (0<=v.b/\v.b<a.brs.length/\v.l.length=1):=by rw[ok0,if_neg h9,if_pos h14]
  have c1:0<=v.b\/¬0<=v.b:=by omega
  refine⟨λd1=>⟨λ_=>⟨λd2=>⟨λ_=>⟨λd3=> ?_,λd3=>⟨λh=>d3 h,λ_=>bad (by rw[hok];exact decide_eq_false (by omega))⟩⟩,λh=>absurd d2 h⟩,λd2=>⟨λh=>d2 h,λ_=>bad (by rw[hok];exact decide_eq_false (by omega))⟩⟩,λh=>absurd d1 h⟩,λd1=>⟨λh=>d1 h,λ_=>bad (by rw[hok];exact decide_eq_false (by omega))⟩⟩
  have hl1:v.l.length=1:=by omega
  have h0:0<v.l.length:=by omega
  obtain⟨b,hb⟩:=Int.eq_ofNat_of_zero_le d1
  have hbl:b<a.brs.length:=by omega
  have hbt:v.b.toNat=b:=by omega
  rw[hbt]
  have hty:z0c a v.b 0=a.brs[b]:=by
   unfold z0c
   rw[if_neg h9,if_pos h14,hbt,List.getD_eq_getElem?_getD,List.getElem?_eq_getElem hbl];rfl
  have hd:=fdrop h0
  refine⟨⟨by omega,by omega⟩,(z1u ha hbl).1,a.brs[b],λq hq=>(z1u hq.2.1 hbl).2,⟨by omega,by omega⟩,(GV.cells_at hvo h0).1,v.l[0].n,v.l[0].s,v.l[0].x.1,v.l[0].x.2.1,v.l[0].x.2.2,v.l[0].y.1,v.l[0].y.2.1,v.l[0].y.2.2,v.l[0].b,λq hq=>(GV.cells_at hq.2.2 h0).2,⟨S,x,a.brs[b],v.l[0]⟩,?_⟩
  simp only[true_and,eq_self]
  refine⟨⟨child h0,hS,GV.sm_at hv h0⟩,λq hq=>⟨hq.1,GV.ok_at hq.2.2 h0⟩,λ_=> ?_,λh=>absurd d3 h⟩
  have fe:=fend
  rw[hl1]at fe
  rw[List.drop_zero,hty,Nat.zero_add,fe]at hd
  rw[hok,decide_eq_true ⟨d1,d2,hl1⟩,hd,Bool.and_true,Bool.true_and]
 ·simp only[true_and,eq_self]
  refine⟨yl,⟨kl,ksz⟩,λq hq=>by have:=hq.2.2;rw[GV.ok_eq]at this;exact this.2.1,λhk=>bad (by rw[ok0,if_neg h9,if_neg h14,if_pos h13,hk,Bool.and_false]),λhk=>⟨(),h9,h14,by rw[ok0,if_neg h9,if_neg h14,if_pos h13,hk,decide_eq_true (by omega)];rfl⟩⟩
 ·rintro _ ⟨h9,h14,hok⟩
  have hty:∀j,z0c a v.b j=a.it:=λj=>by unfold z0c;rw[if_neg h9,if_neg h14]
  refine⟨⟨0,rfl,by omega,by simp⟩,?_⟩
  rintro j ⟨hj,ht⟩
  refine⟨λhlt=> ?_,λhge=> ?_⟩
  ·have hjl:j<v.l.length:=by omega
   have hd:=fdrop hjl
   refine⟨by omega,(GV.cells_at hvo hjl).1,v.l[j].n,v.l[j].s,v.l[j].x.1,v.l[j].x.2.1,v.l[j].x.2.2,v.l[j].y.1,v.l[j].y.2.1,v.l[j].y.2.2,v.l[j].b,λq hq=>(GV.cells_at hq.2.2 hjl).2,⟨S,x,a.it,v.l[j]⟩,?_⟩
   simp only[true_and,eq_self]
   refine⟨⟨child hjl,hS,GV.sm_at hv hjl⟩,λq hq=>⟨hq.1,GV.ok_at hq.2.2 hjl⟩,λhb=> ?_,λhb=>⟨by omega,j+1,by omega,⟨by omega,?_⟩,by omega⟩⟩
   ·rw[←ht,hd,hty,hb,Bool.false_and,Bool.and_false]
   ·rw[←ht,hd,hty,hb,Bool.true_and]
  ·obtain rfl:j=v.l.length:=by omega
   rw[hok,←ht,fend];rfl
def z75{s:ByteArray}:s=mkS []↔s.size=0:=⟨λh=>by rw[h];rfl,λh=>by
 apply ByteArray.ext
 apply Array.ext
 ·exact h
 ·intro i h1 h2;exact absurd h2 (by show¬i<0;omega)⟩
def zt3(n:Nat) (hf:q58 P 42 (zbf.below j0p (n+1))):q58 P 16 (z9e.below ztq (n+1)):=by
  refine qkl mixed (qdh (qh9 zm2 (qh9 zm8 (qh9 zo0 (qh9 hf qk5))))) (W:=j23) Try.func16 (by kernel_rfl) (show 1<=1 by decide) (show 1<=1 by decide) (λs=>by kernel_rfl) λ⟨S,(x:SV),(t:Int),v⟩=>(zt2 n S x t v).mpr ?_
  rintro⟨hmu,hS,hv⟩ ⟨p,_,hx,hvo⟩
  have hmu:SizeOf.sizeOf v<n+1:=hmu
  have xs:x.2.1=S.length:=hx.1.1
  have xl:=GV.x_len hvo
  have yl:=GV.y_len hvo
  have hvs:=hv
  rw[GV.sm_eq]at hvs
  obtain⟨hn,hss,vl,kl,ksz,_⟩:=hvs
  have hfit:PV.fits S t v.pv=if t<0\/S.length<=t then false else match S[t.toNat]? with
    |none=>false
    | some a=>if isN a.k=true then okN a v.n&&decide (v.s.size=0)&&z96 v.l.length v.ks.length v.b else
      if isT a.k=true then okT a v.s&&decide (v.n=0)&&z96 v.l.length v.ks.length v.b else
      if isQ a.k=true then okP a v.l.length v.ks v.b&&PV.fitL S (z0c a v.b) 0 (GV.pvs v.l)&&decide (v.n=0)&&decide (v.s.size=0)else false:=by
    rw[GV.pv_eq,PV.fits,GV.pvs_len]<;>rfl
  simp only[sbS,Int.toNat_natCast,xl,yl,xs,exists_const]
  refine⟨λh=>by rw[hfit,if_pos (.inl h)],λh=>⟨λh2=>by rw[hfit,if_pos (.inr h2)],λh2=> ?_⟩⟩
  obtain⟨j,rfl⟩:=Int.eq_ofNat_of_zero_le (show 0<=t by omega)
  have hj:j<S.length:=by omega
  rw[if_neg (by omega)]at hfit
  simp only[Int.toNat_natCast,List.getElem?_eq_getElem hj]at hfit⊢
  have hat:=λq (hq:z05 S x q/\v.ok q)=>z2d hq.1 hj
  have hao:=λq (hq:z05 S x q/\v.ok q)=>hq.1.2 S[j] (List.getElem_mem hj)
  refine⟨by omega,(hat p ⟨hx,hvo⟩).1,S[j].k,S[j].nm,S[j].al.1,S[j].al.2.1,S[j].al.2.2,S[j].it,S[j].sy.1,S[j].sy.2.1,S[j].sy.2.2,S[j].hd,S[j].df,S[j].sz,S[j].f.1,S[j].f.2.1,S[j].f.2.2,S[j].br.1,S[j].br.2.1,S[j].br.2.2,λq hq=>(hat q hq).2,?_⟩
  have hsm:=hS.2 S[j] (List.getElem_mem hj)
  have syl:S[j].sy.2.1=S[j].sys.length:=(hao p ⟨hx,hvo⟩).2.1.1
  have hao2:=λq (hq:z05 S x q/\v.ok q)=>hao q hq
  generalize S[j]=a at*
  have e0:∀{b:Bool} {k:Int},(∀d:Int,d=k->a.k=d->b=true)->a.k=k->b=decide (a.k=k):=λh g=>by rw[h _ rfl g,decide_eq_true g]
  refine⟨⟨λh=>by unfold isN;exact z08 (by omega),λh1=>⟨λh=>by unfold isN;exact z08 (by omega),λh2=>⟨λh=>by unfold isN;exact z08 (by omega),λh3=>⟨λh=>by unfold isN;exact z08 (by omega),λh4=>⟨λh=>by unfold isN;exact z08 (by omega),λh5=>⟨λh=>by unfold isN;exact z08 (by omega),λh6=>by unfold isN;exact z08 (by omega)⟩⟩⟩⟩⟩⟩,?_⟩
  rintro _ _
  refine⟨λhN=>⟨⟨a,v.n⟩,?_⟩,λhN=>⟨⟨λh=>by unfold isT;exact z08 (by omega),λh1=>⟨λh=>by unfold isT;exact z08 (by omega),λh2=>by unfold isT;exact z08 (by omega)⟩⟩,?_⟩⟩
  · rw[if_pos hN]at hfit
    simp only[true_and,eq_self]
    refine⟨⟨hn.1,hn.2,syl,hsm.2.2⟩,λho=>⟨λhs=>⟨v,?_⟩,λhs=> ?_⟩,λho=>by rw[hfit,ho];rfl⟩
    · simp only[true_and,eq_self,xl,yl]
      rw[hfit,ho,decide_eq_true (z75.1 hs)];rfl
    · rw[hfit,decide_eq_false (λh=>hs (z75.2 h))];simp
  rintro _ _
  rw[hN,if_neg (by simp)]at hfit
  refine⟨λhT=>⟨⟨a,v.s⟩,?_⟩,λhT=>⟨⟨λh=>by unfold isQ;exact z08 (by omega),λh1=>⟨λh=>by unfold isQ;exact z08 (by omega),λh2=>⟨λh=>by unfold isQ;exact z08 (by omega),λh3=>by unfold isQ;exact z08 (by omega)⟩⟩⟩,?_⟩⟩
  · rw[if_pos hT]at hfit
    simp only[true_and,eq_self]
    refine⟨hss,λho=>⟨λhs=>⟨v,?_⟩,λhs=> ?_⟩,λho=>by rw[hfit,ho];rfl⟩
    · simp only[true_and,eq_self,xl,yl]
      rw[hfit,ho,decide_eq_true hs];rfl
    · rw[hfit,decide_eq_false hs];simp
  rintro _ _
  rw[hT,if_neg (by simp)]at hfit
  refine⟨λhQ=>⟨⟨S,x,a,v⟩,?_⟩,λhQ=>by rw[hfit,hQ];rfl⟩
  rw[if_pos hQ]at hfit
  simp only[true_and,eq_self,xl,yl,xs,and_true]
  refine⟨⟨hmu,hS,hsm.1,hv,hQ⟩,λq hq=>⟨hq.1,hao2 q hq,hq.2⟩,?_⟩
  refine⟨λho=>⟨λhs=> ?_,λhs=> ?_⟩,λho=>by rw[hfit,ho];rfl⟩
  · rw[hfit,ho,decide_eq_true hs]
    exact z08 z75.symm
  · rw[hfit,ho,decide_eq_false hs];rfl
def zbw:∀n,q58 P 16 (z9e.below ztq n)
 |0=>Ct.below_zero (by decide) (by decide) (Sen.enters_of Try.func16 (by kernel_rfl)) λs=>⟨rfl,rfl⟩
 |n+1=>zt3 n (zm4 n (zbw n))
def zma:q58 P 16 z9e:=Ct.of_below zbw
end
open Go.Proofs.Ytpanaicglidfjaa.Rv
def zg(n:Int):Nat:=if 0<=n then 2*n.toNat else 2*(-n- 1).toNat+1
def j9y:Ct where
 σ:=Int
 args:=λn=>[.sv (.int .u64 (n % 18446744073709551616))]
 h:=λ_=>[]
 m:=1
 pre:=λn=> -9223372036854775808<=n/\n<9223372036854775808
 r:=λn=> .sv (.int .u64 (zg n:Nat))
 h':=λ_=>[]
 m':=1
 g:=λ_=>none
def j0m:Ct where
 σ:=Int
 args:=λn=>[.int .i64 8, .sv (.int .u64 (n % 18446744073709551616))]
 h:=λ_=>[]
 m:=1
 pre:=λn=> -9223372036854775808<=n/\n<9223372036854775808
 r:=λn=> .sv (.int .u64 (zg n:Nat))
 h':=λ_=>[]
 m':=1
 g:=λ_=>none
def zlq:Ct where
 σ:=Nat
 args:=λz=>[.sv (.int .u64 (z:Nat))]
 h:=λ_=>[]
 m:=1
 pre:=λz=>z<18446744073709551616
 r:=λz=> .sv (.string ⟨(venc z).toArray⟩)
 h':=λ_=>[]
 m':=2
 g:=λ_=>none
def zg2:Ct where
 σ:=Int
 args:=λn=>[.sv (.int .i64 n)]
 h:=λ_=>[]
 m:=1
 pre:=λn=> -9223372036854775808<=n/\n<9223372036854775808
 r:=λn=> .sv (.string ⟨(venc (zg n)).toArray⟩)
 h':=λ_=>[]
 m':=2
 g:=λ_=>none
def j8q(n:Int):qki P (λ_=>none) Try.f138 j9y (λ_=>{}) n=((-9223372036854775808:Int)<=n/\n<(9223372036854775808:Int)->(decide ((9223372036854775808:Int)<=n % (18446744073709551616:Int))=true->(↑(zg n):Int)=IntKind.wrap u64 (IntKind.wrap u64 (qb6 BinOp.xor u64 (IntKind.max u64) (n % (18446744073709551616:Int))*(2:Int))+(1:Int))/\True)/\(decide ((9223372036854775808:Int)<=n % (18446744073709551616:Int))=false->(↑(zg n):Int)=IntKind.wrap u64 (n % (18446744073709551616:Int)*(2:Int))/\True)):=by kernel_rfl
def j1u(n:Int):qki P (qfv [(138,j9y)]) Try.f105 j0m (λ_=>{}) n=((-9223372036854775808:Int)<=n/\n<(9223372036854775808:Int)->∃(s:Int),s % (18446744073709551616:Int)=n % (18446744073709551616:Int)/\((-9223372036854775808:Int)<=s/\s<(9223372036854775808:Int))/\(↑(zg n):Int)=(↑(zg s):Int)/\True):=by kernel_rfl
def zms(n:Int):qki P (qfv [(105,j0m),(104,zlq)]) Try.f71 zg2 (λ_=>{}) n=((-9223372036854775808:Int)<=n/\n<(9223372036854775808:Int)->∃(s:Int),s % (18446744073709551616:Int)=IntKind.wrap u64 n/\((-9223372036854775808:Int)<=s/\s<(9223372036854775808:Int))/\∃(s_1:Nat),(↑s_1:Int)=(↑(zg s):Int)/\s_1<(18446744073709551616:Nat)/\ByteArray.mk (List.toArray (Proofs.Ytpanaicglidfjaa.Rv.venc (zg n)))=ByteArray.mk (List.toArray (Proofs.Ytpanaicglidfjaa.Rv.venc s_1))/\True):=by kernel_rfl
open Go.Proofs.Ytpanaicglidfjaa.Rv
def wrap_u64(n:Int):IntKind.wrap .u64 n=n % 18446744073709551616:=by
 simp[IntKind.wrap,IntKind.bits,IntKind.signed]
def z59(r:Nat) (h:r<18446744073709551616):(BitVec.ofInt 64 (r:Int)).toNat=r:=by
 rw[BitVec.toNat_ofInt]
 simp
 omega
def zmy(r:Nat) (h:r<18446744073709551616):qb6 .xor .u64 (IntKind.max .u64) (r:Int)=((18446744073709551615- r:Nat):Int):=by
 show IntKind.wrap .u64 (BitVec.ofInt 64 (IntKind.max .u64) ^^^ BitVec.ofInt 64 (r:Int)).toNat=_
 rw[show BitVec.ofInt 64 (IntKind.max .u64)=BitVec.allOnes 64 from rfl,BitVec.allOnes_xor,BitVec.toNat_not,z59 _ h,wrap_u64]
 omega
def zj5(m:Int) (h1: -9223372036854775808<=m) (h2:m<9223372036854775808):IntKind.wrap .i64 (m % 18446744073709551616)=m:=by
 simp[IntKind.wrap,IntKind.bits,IntKind.signed]
 omega
def zu6:q58 P 104 zlq:=
 qkb (Sen.enters_of Try.func104 (by kernel_rfl)) (by decide) (by decide) (λ(z:Nat)=>[.int .u64 (z:Int)]) (λ(z:Nat)=> .string ⟨(venc z).toArray⟩) (λs=>rfl) (λs=>rfl) (λs=>rfl) (λs=>rfl)
  (λs I=> .sv _) λ(z:Nat) w h=>rput_any z w h
def j8r:q58 P 138 j9y:=by
 refine qkl mixed z0u (W:=λ_=>{}) Try.func138 (by kernel_rfl) (by decide) (by decide) (λs=>by kernel_rfl) λ(n:Int)=>(j8q n).mpr ?_
 rintro⟨h1,h2⟩
 simp only[decide_eq_true_eq,decide_eq_false_iff_not,and_true]
 obtain⟨r,hr⟩:=Int.eq_ofNat_of_zero_le (show 0<=n % 18446744073709551616 by omega)
 refine⟨λh=> ?_,λh=> ?_⟩
 ·rw[hr,zmy r (by omega),wrap_u64,wrap_u64]
  unfold zg
  rw[if_neg (by omega)]
  omega
 ·rw[wrap_u64]
  unfold zg
  rw[if_pos (by omega)]
  omega
def j1v:q58 P 105 j0m:=by
 refine qkl mixed (qdh (qh9 j8r qk5)) (W:=λ_=>{}) Try.func105 (by kernel_rfl) (by decide) (by decide) (λs=>by kernel_rfl) λ(n:Int)=>(j1u n).mpr ?_
 exactλh=>⟨n,rfl,h,rfl,trivial⟩
def j0h{n:Int} (h1: -9223372036854775808<=n) (h2:n<9223372036854775808):zg n<18446744073709551616:=by
 unfold zg;split<;>omega
def zmt:q58 P 71 zg2:=by
 refine qkl mixed (qdh (qh9 j1v (qh9 zu6 qk5))) (W:=λ_=>{}) Try.func71 (by kernel_rfl) (by decide) (by decide) (λs=>by kernel_rfl) λ(n:Int)=>(zms n).mpr ?_
 rintro⟨h1,h2⟩
 exact⟨n,(wrap_u64 n).symm,⟨h1,h2⟩,zg n,rfl,j0h h1 h2,rfl,trivial⟩
def ctQ(σ:Type) (args:σ->List AV) (pre:σ->Prop) (mem:σ->PF) (r:σ->AV):Ct where
 σ:=σ
 args:=args
 h:=λ_=>[]
 m:=1
 pre:=pre
 mem:=mem
 r:=r
 h':=λ_=>[]
 m':=1
 g:=λ_=>none
def byV(b:Int):List Value:=[.int .u8 b]
def j13(b:Int):(byV b).length=1:=rfl
def byM(x:SV) (L:List Int):PF:=⟨true,slP byV x L,λ_ _ h e=>z0d h e⟩
def z0g(L:List Int):Prop:=L.length<1000000/\∀b∈L,0<=b/\b<256
def z0h(L:List Int) (n m:Int):Int:=if L.length<=n then 0 else Int.tmod (L.getD n.toNat 0) m
def z09(L:List Int) (n:Int):Int:=if L.length<=n then n else n+1
def pkO(x:SV) (n:Int):List (Nat×AO):=[(1, .cells 63 (some 0) false [svA x, .sv (.int .i64 n)])]
def ja6(h:T AO) (id:Nat):Option (SV×Int):=match h.get id with
  | some (.cells _ _ _ [a,i])=>match a with
    | .sv (.slice a n c)=>match gi i with
      |some (_,i)=>some ((a,n,c),i)
      |none=>none
    |_=>none
  |_=>none
def j1k(l:List AV) (h:T AO):Option (Sel (SV×List Int×Int×Int)):=match l with
  | [.ptr id _,m]=>match ja6 h id with
    | some (x,n)=>match gi m with
      |some (_,m)=>some ⟨List Int,λL=>(x,L,n,m)⟩
      |none=>none
    |none=>none
  |_=>none
def zrc:Ct where
 σ:=SV×List Int×Int×Int
 args:=λ⟨x,L,n,m⟩=>[.ptr 1 0, .sv (.int .i64 m)]
 h:=λ⟨x,L,n,m⟩=>pkO x n
 m:=2
 pre:=λ⟨x,L,n,m⟩=>0<=n/\n<=L.length/\0<m/\m<1000000/\z0g L
 mem:=λ⟨x,L,n,m⟩=>byM x L
 sel:=some j1k
 r:=λ⟨x,L,n,m⟩=> .sv (.int .i64 (z0h L n m))
 h':=λ⟨x,L,n,m⟩=>pkO x (z09 L n)
 m':=2
 g:=λ_=>none
def zuh(l:List AV) (h:T AO):Option (Sel (SV×List Int×Int)):=match l with
  | [.ptr id _]=>match ja6 h id with
    |some (x,n)=>some ⟨List Int,λL=>(x,L,n)⟩
    |none=>none
  |_=>none
def zg4:Ct where
 σ:=SV×List Int×Int
 args:=λ⟨x,L,n⟩=>[.ptr 1 0]
 h:=λ⟨x,L,n⟩=>pkO x n
 m:=2
 pre:=λ⟨x,L,n⟩=>True
 mem:=λ⟨x,L,n⟩=>byM x L
 sel:=some zuh
 r:=λ⟨x,L,n⟩=> .sv (.bool (decide ((L.length:Int)<=n)))
 h':=λ⟨x,L,n⟩=>pkO x n
 m':=2
 g:=λ_=>none
def zd9:Ct:={ctQ ByteArray (λs=>[.sv (.string s)]) (λ_=>True) (λ_=>{}) (λs=> .agg [.int .i64 4, .int .i64 0, .sv (.string s), .nsl, .nsl])with find:=some λl _=>match l with
 | [a]=>gs a
 |_=>none}
inductive N3 where
 |two
 |three
 |four
def N3.v:N3->Nat
 | .two=>2
 | .three=>3
 | .four=>4
def z67:Ct where
  σ:=N3
  args:=λn=>[.sl 1 0 n.v n.v, .sl 2 0 n.v n.v]
  h:=λ_=>[]
  m:=3
  find:=some λl _=>match l with
    | [.sl _ _ n _,_]=>match n with
      |2=>some .two
      |3=>some .three
      |4=>some .four
      |_=>none
    |_=>none
  r:=λn=> .agg [.int .i64 6, .int .i64 0, .str [], .sl 2 0 n.v n.v, .sl 1 0 n.v n.v]
  h':=λ_=>[]
  m':=3
  g:=λ_=>none
mutual
def GJ.wf:GJ->Prop
 | .mk k n s y l x nm=>s.size<1000/\l.length<1000/\nm.length<=l.length/\(∀t∈nm,t.size<1000)/\(-9223372036854775808<=n/\n<9223372036854775808)/\(k=6->nm.length=l.length)/\GJ.wfs l
def GJ.wfs:List GJ->Prop
 | []=>True
 |g::l=>GJ.wf g/\GJ.wfs l
end
def GJ.wf_eq(g:GJ):g.wf=(g.s.size<1000/\g.l.length<1000/\g.nm.length<=g.l.length/\(∀t∈g.nm,t.size<1000)/\(-9223372036854775808<=g.n/\g.n<9223372036854775808)/\(g.k=6->g.nm.length=g.l.length)/\GJ.wfs g.l):=by cases g;rw[GJ.wf];rfl
def GJ.ok_eq(g:GJ) (p:Pub):g.ok p=(slP GJ.cells g.y g.l p/\slP txV g.x g.nm p/\GJ.oks g.l p):=by cases g;unfold GJ.ok;rfl
def GJ.wfs_at:∀{l:List GJ},GJ.wfs l->∀{i:Nat} (h:i<l.length),l[i].wf
 |v::l,e,0,h=>by unfold GJ.wfs at e;exact e.1
 |v::l,e,i+1,h=>by unfold GJ.wfs at e;exact GJ.wfs_at e.2 (by simpa using h)
def GJ.oks_at:∀{l:List GJ} {p:Pub},GJ.oks l p->∀{i:Nat} (h:i<l.length),l[i].ok p
 |v::l,p,e,0,h=>by unfold GJ.oks at e;exact e.1
 |v::l,p,e,i+1,h=>by unfold GJ.oks at e;exact GJ.oks_at e.2 (by simpa using h)
def gM(g:GJ):PF:=⟨true,g.ok,λ_ _ h e=>GJ.ok_mono h e⟩
def zJ:GJ:= .mk 0 0 (mkS []) (none,0,0) [] (none,0,0) []
def z4e(s:ByteArray):List ByteArray->List GJ->Option GJ
 |t::nm,g::l=>if t=s then some g else z4e s nm l
 |_,_=>none
def j8t:Ct:=ctQ (GJ×ByteArray) (λ⟨g,s⟩=>[g.av, .sv (.string s)]) (λ⟨g,s⟩=>g.wf) (λ⟨g,s⟩=>gM g) λ⟨g,s⟩=> .tup [((z4e s g.nm g.l).getD zJ).av, .sv (.bool (z4e s g.nm g.l).isSome)]
def jc7:j8t.σ->WayF:=λ⟨g,s⟩=>{
 ann:=λ_ _ _=>some {σ:=Nat,pre:=λj=>j<=g.nm.length/\z4e s (g.nm.drop j) (g.l.drop j)=z4e s g.nm g.l,t:=λj=>[(6, .sv (.int .i64 (j:Int)))],h:=λ_=>[],more:=0,μ:=λj=>g.nm.length- j,keep:=[1,2,4,5]}}
def isNum(s:ByteArray):Bool:=decide (s=mkS [105,110,116])||decide (s=mkS [108,111,110,103])||decide (s=mkS [102,108,111,97,116])||decide (s=mkS [100,111,117,98,108,101])
def z4f(s:ByteArray):Bool:=decide (s=mkS [115,116,114,105,110,103])||decide (s=mkS [98,121,116,101,115])
def z9o(s:ByteArray):Bool:=decide (s=mkS [98,111,111,108,101,97,110])
def zdp(s:ByteArray):Bool:=decide (s=mkS [110,117,108,108])
def zls(i:Int):ByteArray:=if i=0 then mkS []else if i=1 then mkS [100]else mkS [195,164]
def z35(g:GJ) (L:List Int) (n:Int):Int×Int×ByteArray×Int:=
 if g.k=4/\isNum g.s=true then(3,z0h L n 200- 50,mkS [],z09 L n)else
 if g.k=4/\z4f g.s=true then(4,0,zls (z0h L n 3),z09 L n)else
 if g.k=4/\z9o g.s=true then(2,z0h L n 2,mkS [],z09 L n)else
 if g.k=4/\zdp g.s=true then(1,0,mkS [],n)else
 if g.k=5 then(1,0,mkS [],n)else
 if((z4e (mkS [116,121,112,101]) g.nm g.l).getD zJ).s=mkS [97,114,114,97,121]then(5,0,mkS [],n)else
 if((z4e (mkS [116,121,112,101]) g.nm g.l).getD zJ).s=mkS [101,110,117,109]then(4,0,mkS [88],n)else(6,0,mkS [],n)
def j1j(l:List AV) (h:T AO):Option (Sel (SV×List Int×Int×GJ)):=match l with
  | [.ptr id _,_]=>match ja6 h id with
    |some (x,n)=>some ⟨List Int×GJ,λL=>(x,L.1,n,L.2)⟩
    |none=>none
  |_=>none
def z4u:Ct where
 σ:=SV×List Int×Int×GJ
 args:=λ⟨x,L,n,g⟩=>[.ptr 1 0,g.av]
 h:=λ⟨x,L,n,g⟩=>pkO x n
 m:=2
 pre:=λ⟨x,L,n,g⟩=>0<=n/\n<=L.length/\z0g L/\g.wf
 mem:=λ⟨x,L,n,g⟩=>⟨true,λp=>slP byV x L p/\g.ok p,λ_ _ h e=>⟨z0d h e.1,GJ.ok_mono h e.2⟩⟩
 sel:=some j1j
 r:=λ⟨x,L,n,g⟩=> .agg [.sv (.int .i64 (z35 g L n).1), .sv (.int .i64 (z35 g L n).2.1), .sv (.string (z35 g L n).2.2.1), .nsl, .nsl]
 h':=λ⟨x,L,n,g⟩=>pkO x (z35 g L n).2.2.2
 m':=2
 g:=λ_=>none
def swS(f:ByteArray->Bool) (i k:Nat) (keep:List Nat) (t:T AV):Option LT:=match slS t k with
 |some a=>some {σ:=Unit,t:=λ_=>[(i, .sv (.bool (f a)))],h:=λ_=>[],more:=0,μ:=λ_=>0,keep:=keep}
 |none=>none
def zct:z4u.σ->WayF:=λ⟨x,L,n,g⟩=>{
 cut:=λi t _=>match i with
  |7=>swS isNum 12 11 [0,3,4,11] t
  |10=>swS z4f 21 11 [0,3,4,11] t
  |15=>some {σ:=Unit,pre:=λ_=>¬(g.k=4/\(isNum g.s=true\/z4f g.s=true\/z9o g.s=true\/zdp g.s=true)),t:=λ_=>[],h:=λ_=>[],more:=0,μ:=λ_=>0,keep:=[0,3,4]}
  |_=>none}
section
variable (x0:SV) (x1:Int) (x2:List Int) (x3:Int) (x4:Prop)
 abbrev jan:=x0.1=x0.1/\x0.2.1=x0.2.1/\x0.2.2=x0.2.2/\x4
 def jdg:=z0h x2 x1 x3=0/\jan x0 (z09 x2 x1=x1/\True)
 def jdf:=Jb (x1+1)/\Jb (x1+1- 1)/\(0<=x1+1- 1/\x1+1- 1<(↑x0.2.1:Int))/\x0.1≠noA/\∃(i0:Int),(∀i1,True/\slP byV x0 x2 i1->q3f i1 (adr x0.1 (toNat (x1+1- 1)*1)) [int u8 i0])/\Jb (i0)/\x3≠0/\z0h x2 x1 x3=Int.tmod i0 x3/\jan x0 (z09 x2 x1=x1+1/\True)
 def jde:=Ji ((↑x0.2.1:Int)<=x1) (jdg x0 x1 x2 x3) (jdf x0 x1 x2 x3)
end
def ztz(x:SV) (L:List Int) (n m:Int):qki P (λ_=>none) Try.f37 zrc (λ_=>{}) ⟨x,L,n,m⟩=(0<=n/\n<=(↑(length L):Int)/\0<m/\m<1000000/\z0g L->(∃(p:Pub),True/\slP byV x L p)->jde x n L m):=by kernel_rfl
def j1f:=λx L n m=>Eq.trans (ztz x L n m) (by delta Ji Jb Jt Jf jan jdg jdf jde;exact rfl)
def zu0(x:SV) (L:List Int) (n:Int):qki P (λ_=>none) Try.f36 zg4 (λ_=>{}) ⟨x,L,n⟩=(True->(∃(p:Nat->Option Obj),True/\slP byV x L p)->decide ((↑(List.length L):Int)<=n)=decide ((↑(Prod.fst (Prod.snd x)):Int)<=n)/\Prod.fst x=Prod.fst x/\Prod.fst (Prod.snd x)=Prod.fst (Prod.snd x)/\Prod.snd (Prod.snd x)=Prod.snd (Prod.snd x)/\n=n/\True):=by kernel_rfl
def zun(s:ByteArray):qki P (λ_=>none) Try.f81 zd9 (λ_=>{}) s=(True->s=s/\True):=by kernel_rfl
def zhz(u:Unit):qki P (λ_=>none) Try.f80 z67 (λ_=>{}) N3.two=(True->True):=by kernel_rfl
def zi0(u:Unit):qki P (λ_=>none) Try.f80 z67 (λ_=>{}) N3.three=(True->True):=by kernel_rfl
def zi1(u:Unit):qki P (λ_=>none) Try.f80 z67 (λ_=>{}) N3.four=(True->True):=by kernel_rfl
section
variable (x0:ByteArray) (x1:GJ) (x2:Nat) (x3:Prop)
 abbrev jap:=x2<=length (GJ.nm x1)/\z4e x0 (drop x2 (GJ.nm x1)) (drop x2 (GJ.l x1))=z4e x0 (GJ.nm x1) (GJ.l x1)
 def jao:=GJ.k x1=GJ.k x1/\GJ.n x1=GJ.n x1/\GJ.s x1=GJ.s x1/\(GJ.y x1).1=(GJ.y x1).1/\(GJ.y x1).2.1=(GJ.y x1).2.1/\(GJ.y x1).2.2=(GJ.y x1).2.2/\(GJ.x x1).1=(GJ.x x1).1/\(GJ.x x1).2.1=(GJ.x x1).2.1/\(GJ.x x1).2.2=(GJ.x x1).2.2/\(∀i0,True/\GJ.ok x1 i0->True/\GJ.ok x1 i0)/\(jap x0 x1 x2)/\x3
 abbrev jaq:=(↑x2:Int)<(↑(GJ.x x1).2.1:Int)
 abbrev z7l:=Option.getD (z4e x0 (GJ.nm x1) (GJ.l x1)) zJ
 def jdk:=(0<=(↑x2:Int)/\(↑x2:Int)<(↑(GJ.y x1).2.1:Int))/\(GJ.y x1).1≠noA/\∃(i0:Int),∃(i1:Int),∃i2,∃i3,∃(i4:Nat),∃(i5:Nat),∃i6,∃(i7:Nat),∃(i8:Nat),(∀i9,True/\GJ.ok x1 i9->q3f i9 (adr (GJ.y x1).1 (toNat (↑x2:Int)*5)) [int i64 i0,int i64 i1,string i2,slice i3 i4 i5,slice i6 i7 i8])/\GJ.k (z7l x0 x1)=i0/\GJ.n (z7l x0 x1)=i1/\GJ.s (z7l x0 x1)=i2/\(GJ.y (z7l x0 x1)).1=i3/\(GJ.y (z7l x0 x1)).2.1=i4/\(GJ.y (z7l x0 x1)).2.2=i5/\(GJ.x (z7l x0 x1)).1=i6/\(GJ.x (z7l x0 x1)).2.1=i7/\(GJ.x (z7l x0 x1)).2.2=i8/\Option.isSome (z4e x0 (GJ.nm x1) (GJ.l x1))=true/\True
 def jdl:=Jb ((↑x2:Int)+1)/\∃(i0:Nat),x0=x0/\(↑i0:Int)=(↑x2:Int)+1/\jao x0 x1 i0 (length (GJ.nm x1)- i0<length (GJ.nm x1)- x2/\True)
 def jdj:=(0<=(↑x2:Int)/\jaq x1 x2)/\(GJ.x x1).1≠noA/\∃i0,(∀i1,True/\GJ.ok x1 i1->q3f i1 (adr (GJ.x x1).1 (toNat (↑x2:Int)*1)) [string i0])/\Ji (i0=x0) (jdk x0 x1 x2) (jdl x0 x1 x2)
 def jdm:=GJ.k (z7l x0 x1)=0/\GJ.n (z7l x0 x1)=0/\GJ.s (z7l x0 x1)=mkS []/\(GJ.y (z7l x0 x1)).1=noA/\(GJ.y (z7l x0 x1)).2.1=0/\(GJ.y (z7l x0 x1)).2.2=0/\(GJ.x (z7l x0 x1)).1=noA/\(GJ.x (z7l x0 x1)).2.1=0/\(GJ.x (z7l x0 x1)).2.2=0/\Option.isSome (z4e x0 (GJ.nm x1) (GJ.l x1))=false/\True
 abbrev jdi:=Ji (jaq x1 x2) (jdj x0 x1 x2) (jdm x0 x1)
 def jdh:=(∃(i0:Nat),x0=x0/\(↑i0:Int)=0/\jao x0 x1 i0 True)/\∀(i2:Nat),jap x0 x1 i2->jdi x0 x1 i2
end
def zt5(g:GJ) (s:ByteArray):qki P (λ_=>none) Try.f116 j8t (jc7) ⟨g,s⟩=(GJ.wf g->(∃(p:Pub),True/\GJ.ok g p)->jdh s g):=by kernel_rfl
def get_eq:=λg s=>Eq.trans (zt5 g s) (by delta Ji Jb Jt Jf jap jao jaq z7l jdk jdl jdj jdm jdi jdh;exact rfl)
section
variable (x0:GJ) (x1:SV) (x2:Int) (x3:List Int) (x4:Prop) (x5:Int) (x6:GJ×ByteArray) (x7:List Int)
 abbrev zv5:=GJ.s x0=mkS [105,110,116]
 def zla:=x1.1=x1.1/\x1.2.1=x1.2.1/\x1.2.2=x1.2.2/\x4
 def zon:=zla x1 (x2=x2/\GJ.k x0=GJ.k x0/\GJ.n x0=GJ.n x0/\GJ.s x0=GJ.s x0/\(GJ.y x0).1=(GJ.y x0).1/\(GJ.y x0).2.1=(GJ.y x0).2.1/\(GJ.y x0).2.2=(GJ.y x0).2.2/\(GJ.x x0).1=(GJ.x x0).1/\(GJ.x x0).2.1=(GJ.x x0).2.1/\(GJ.x x0).2.2=(GJ.x x0).2.2/\(∀i0,True/\slP byV x1 x3 i0/\GJ.ok x0 i0->True/\slP byV x1 x3 i0/\GJ.ok x0 i0)/\x4)
 abbrev zv4:=GJ.s x0=mkS [108,111,110,103]
 abbrev zv2:=GJ.s x0=mkS [102,108,111,97,116]
 def j3f:=Ji (zv2 x0) (∃(i0:Unit),GJ.s x0=GJ.s x0/\isNum (GJ.s x0)=decide (zv2 x0)/\zon x0 x1 x2 x3 (True/\True)) (∃(i1:Unit),GJ.s x0=GJ.s x0/\isNum (GJ.s x0)=decide (GJ.s x0=mkS [100,111,117,98,108,101])/\zon x0 x1 x2 x3 (True/\True))
 def j3d:=Ji (zv4 x0) (∃(i0:Unit),GJ.s x0=GJ.s x0/\isNum (GJ.s x0)=decide (zv4 x0)/\zon x0 x1 x2 x3 (True/\True)) (j3f x0 x1 x2 x3)
 def zol:=x2=x2/\(0<=x2/\x2<=(↑(length x3):Int)/\0<x5/\x5<1000000/\z0g x3)/\(∀i0,True/\slP byV x1 x7 i0/\GJ.ok x0 i0->slP byV (x1.1,x1.2.1,x1.2.2) x3 i0)/\x4
 abbrev z5f:=(z35 x0 x3 x2).2.2
 abbrev zv1:=GJ.s x0=mkS [115,116,114,105,110,103]
 abbrev j3i:=GJ.s x0=mkS [98,111,111,108,101,97,110]
 def j3k:=(z35 x0 x3 x2).1=x5/\(z35 x0 x3 x2).2.1=0/\(z5f x0 x2 x3).1=mkS []/\zla x1 ((z5f x0 x2 x3).2=x2/\True)
 def zom:=GJ.k x0=4/\(isNum (GJ.s x0)=true\/z4f (GJ.s x0)=true\/z9o (GJ.s x0)=true\/zdp (GJ.s x0)=true)
 def j3g:=Ji (GJ.s x0=mkS [110,117,108,108]) (j3k x0 x1 x2 x3 1) (∃(i0:Unit),zon x0 x1 x2 x3 (¬(zom x0)/\True))
 def jdt:=Ji (j3i x0) (∃(i0:List Int),(2:Int)=2/\zla x1 (zol x0 x1 x2 i0 ((z35 x0 x3 x2).1=2/\(z35 x0 x3 x2).2.1=z0h i0 x2 2/\(z5f x0 x2 x3).1=mkS []/\zla x1 ((z5f x0 x2 x3).2=z09 i0 x2/\True)) 2 x3)) (j3g x0 x1 x2 x3)
 def jdr:=(z4f (GJ.s x0)=true->∃(i0:List Int),(3:Int)=3/\zla x1 (zol x0 x1 x2 i0 ((0<=z0h i0 x2 3/\z0h i0 x2 (3:Int)<(↑(nat_lit 3):Int))/\∃i2,(∀(i3:Nat) (i4:Value),[string i2][i3]? =some i4->[string (mkS []),string (mkS [100]),string (mkS [195,164])][nat_lit 0+toNat (z0h i0 x2 3)*1+i3]? =some i4)/\i2=i2/\True/\(z35 x0 x3 x2).1=4/\(z35 x0 x3 x2).2.1=0/\(z5f x0 x2 x3).1=i2/\zla x1 ((z5f x0 x2 x3).2=z09 i0 x2/\True)) 3 x3))/\(z4f (GJ.s x0)=false->jdt x0 x1 x2 x3)
 def jdq:=(Ji (zv1 x0) (∃(i0:Unit),GJ.s x0=GJ.s x0/\z4f (GJ.s x0)=decide (zv1 x0)/\zon x0 x1 x2 x3 (True/\True)) (∃(i2:Unit),GJ.s x0=GJ.s x0/\z4f (GJ.s x0)=decide (GJ.s x0=mkS [98,121,116,101,115])/\zon x0 x1 x2 x3 (True/\True)))/\∀(i4:Unit),True->jdr x0 x1 x2 x3
 def jdp:=(isNum (GJ.s x0)=true->∃(i0:List Int),(200:Int)=200/\zla x1 (zol x0 x1 x2 i0 (Jb (z0h i0 x2 200- 50)/\(z35 x0 x3 x2).1=3/\(z35 x0 x3 x2).2.1=z0h i0 x2 200- 50/\(z5f x0 x2 x3).1=mkS []/\zla x1 ((z5f x0 x2 x3).2=z09 i0 x2/\True)) 200 x3))/\(isNum (GJ.s x0)=false->jdq x0 x1 x2 x3)
 def jdo:=(Ji (zv5 x0) (∃(i0:Unit),GJ.s x0=GJ.s x0/\isNum (GJ.s x0)=decide (zv5 x0)/\zon x0 x1 x2 x3 (True/\True)) (j3d x0 x1 x2 x3))/\∀(i8:Unit),True->jdp x0 x1 x2 x3
 abbrev zv3:=Option.getD (z4e x6.2 (GJ.nm x6.1) (GJ.l x6.1)) zJ
 abbrev j3j:=GJ.s (zv3 x6)=mkS [97,114,114,97,121]
 def j3h:=mkS [88]=mkS [88]/\True/\(z35 x0 x3 x2).1=4/\(z35 x0 x3 x2).2.1=0/\(z5f x0 x2 x3).1=mkS [88]/\zla x1 ((z5f x0 x2 x3).2=x2/\True)
 def j3e:=Ji (GJ.s (zv3 x6)=mkS [101,110,117,109]) (j3h x0 x1 x2 x3) (j3k x0 x1 x2 x3 6)
 def jds:=Ji (GJ.k x0=5) (j3k x0 x1 x2 x3 1) (∃(i0:GJ×ByteArray),GJ.k i0.1=GJ.k x0/\GJ.n i0.1=GJ.n x0/\GJ.s i0.1=GJ.s x0/\(GJ.y i0.1).1=(GJ.y x0).1/\(GJ.y i0.1).2.1=(GJ.y x0).2.1/\(GJ.y i0.1).2.2=(GJ.y x0).2.2/\(GJ.x i0.1).1=(GJ.x x0).1/\(GJ.x i0.1).2.1=(GJ.x x0).2.1/\(GJ.x i0.1).2.2=(GJ.x x0).2.2/\i0.2=mkS [116,121,112,101]/\GJ.wf i0.1/\(∀i1,True/\slP byV x1 x3 i1/\GJ.ok x0 i1->GJ.ok i0.1 i1)/\Ji (j3j i0) (j3k x0 x1 x2 x3 5) (j3e x0 x1 x2 x3 i0))
 def jdn:=(Ji (GJ.k x0=4) (jdo x0 x1 x2 x3) (∃(i25:Unit),zon x0 x1 x2 x3 (¬(zom x0)/\True)))/\∀(i27:Unit),¬(zom x0)->jds x0 x1 x2 x3
end
def zlt(x:SV) (L:List Int) (n:Int) (g:GJ):qki P (qfv [(37,zrc),(81,zd9),(116,j8t)]) Try.f82 z4u (zct) ⟨x,L,n,g⟩=(0<=n/\n<=(↑(length L):Int)/\z0g L/\GJ.wf g->(∃(p:Pub),True/\slP byV x L p/\GJ.ok g p)->jdn g x n L):=by kernel_rfl
def zsu:=λx L n g=>Eq.trans (zlt x L n g) (by delta Ji Jb Jt Jf zv5 zla zon zv4 zv2 j3f j3d zol z5f zv1 j3i j3k zom j3g jdt jdr jdq jdp jdo zv3 j3j j3h j3e jds jdn;exact rfl)
section
def z7d:q58 P 81 zd9:=by
 refine qkl mixed z0u (W:=λ_=>{}) Try.func81 (by kernel_rfl) (by decide) (by decide) (λs=>by kernel_rfl) λ(s:ByteArray)=>(zun s).mpr ?_
 intro _;exact⟨rfl,trivial⟩
def zcj:q58 P 80 z67:=by
 refine qkl mixed z0u (W:=λ_=>{}) Try.func80 (by kernel_rfl) (by decide) (by decide) (λs=>by kernel_rfl) λn=> ?_
 cases n with
 |two=>exact(zhz ()).mpr λ_=>trivial
 |three=>exact(zi0 ()).mpr λ_=>trivial
 |four=>exact(zi1 ()).mpr λ_=>trivial
variable {L:List Int} {p:Pub}
def j12{x:SV} (h:slP byV x L p) {i:Nat} (hi:i<L.length):x.1≠noA/\q3f p (adr x.1 (i*1)) [.int .u8 L[i]]:=z14 j13 (by decide) h hi
def z6c:q58 P 37 zrc:=by
 refine qkl mixed z0u (W:=λ_=>{}) Try.func37 (by kernel_rfl) (by decide) (by decide) (λs=>by kernel_rfl) λ⟨(x:SV),(L:List Int),(n:Int),(m:Int)⟩=>(j1f x L n m).mpr ?_
 rintro⟨hn0,hn1,hm0,hm1,hL,hb⟩ ⟨p,_,hp⟩
 have hx:x.2.1=L.length:=hp.1
 simp only[sbS,Int.toNat_natCast,hx]
 obtain⟨i,rfl⟩:=Int.eq_ofNat_of_zero_le hn0
 have e:((i:Int)+1- 1).toNat=i:=by omega
 refine⟨λh=>⟨?_,?_⟩,λh=> ?_⟩
 ·unfold z0h;rw[if_pos h]
 ·unfold z09;rw[if_pos h]
 ·have hi:i<L.length:=by omega
  rw[e]
  refine⟨by omega,by omega,by omega,(j12 hp hi).1,L[i],λq hq=>(j12 hq hi).2,?_⟩
  have r:z0h L i m=Int.tmod L[i] m:=by
   unfold z0h
   rw[if_neg h,Int.toNat_natCast,List.getD_eq_getElem?_getD,List.getElem?_eq_getElem hi];rfl
  have hbi:=hb L[i] (List.getElem_mem hi)
  have nn:z09 L i=i+1:=by unfold z09;rw[if_neg h]
  rw[r,nn]
  exact⟨by omega,by omega,rfl,rfl⟩
def z9u:q58 P 36 zg4:=by
 refine qkl mixed z0u (W:=λ_=>{}) Try.func36 (by kernel_rfl) (by decide) (by decide) (λs=>by kernel_rfl) λ⟨(x:SV),(L:List Int),(n:Int)⟩=>(zu0 x L n).mpr ?_
 rintro _ ⟨p,_,hp⟩
 have hx:x.2.1=L.length:=hp.1
 simp only[true_and,and_true,eq_self,hx]
variable {l:List GJ}
def z8e{s:ByteArray} {nm:List ByteArray} {j:Nat} (h1:j<nm.length) (h2:j<l.length):z4e s (nm.drop j) (l.drop j)=if nm[j]=s then some l[j]else z4e s (nm.drop (j+1)) (l.drop (j+1)):=by
 rw[List.drop_eq_getElem_cons h1,List.drop_eq_getElem_cons h2,z4e]
def zmi{y:SV} (h:slP GJ.cells y l p) {i:Nat} (hi:i<l.length):y.1≠noA/\q3f p (adr y.1 (i*5)) l[i].cells:=z14 z48 (by decide) h hi
def zcl{y:SV} {ks:List ByteArray} (h:slP txV y ks p) {i:Nat} (hi:i<ks.length):y.1≠noA/\q3f p (adr y.1 (i*1)) [.string ks[i]]:=z14 z0m (by decide) h hi
def j16:q58 P 116 j8t:=by
 refine qkl mixed z0u (W:=jc7) Try.func116 (by kernel_rfl) (by decide) (by decide) (λs=>by kernel_rfl) λ⟨g,s⟩=>(get_eq g s).mpr ?_
 rintro hw ⟨p,_,hp⟩
 rw[GJ.wf_eq]at hw
 obtain⟨_,hl,hnl,_⟩:=hw
 have gx:=λq (hq:g.ok q)=>(by rw[GJ.ok_eq]at hq;exact hq.2.1:slP txV g.x g.nm q)
 have gy:=λq (hq:g.ok q)=>(by rw[GJ.ok_eq]at hq;exact hq.1:slP GJ.cells g.y g.l q)
 have xl:g.x.2.1=g.nm.length:=(gx p hp).1
 have yl:g.y.2.1=g.l.length:=(gy p hp).1
 simp only[sbS,Int.toNat_natCast,xl,yl]
 refine⟨⟨0,rfl,by omega,by simp⟩,?_⟩
 rintro j ⟨hj,ht⟩
 refine⟨λhlt=> ?_,λhge=> ?_⟩
 ·have h1:j<g.nm.length:=by omega
  have h2:j<g.l.length:=by omega
  have hd:=z8e (s:=s) h1 h2
  rw[ht]at hd
  refine⟨⟨by omega,by omega⟩,(zcl (gx p hp) h1).1,g.nm[j],λq hq=>(zcl (gx q hq) h1).2,λhs=> ?_,λhs=>⟨by omega,j+1,by omega,⟨by omega,?_⟩,by omega⟩⟩
  ·rw[if_pos hs]at hd
   refine⟨⟨by omega,by omega⟩,(zmi (gy p hp) h2).1,g.l[j].k,g.l[j].n,g.l[j].s,g.l[j].y.1,g.l[j].y.2.1,g.l[j].y.2.2,g.l[j].x.1,g.l[j].x.2.1,g.l[j].x.2.2,λq hq=>(zmi (gy q hq) h2).2,?_⟩
   rw[hd]
   exact⟨rfl,rfl,rfl,rfl,rfl,rfl,rfl,rfl,rfl,rfl⟩
  ·rw[if_neg hs]at hd
   exact hd.symm
 ·have:g.nm.drop j=[]:=List.drop_of_length_le (by omega)
  rw[this,z4e]at ht
  ·rw[←ht]
   exact⟨rfl,rfl,rfl,rfl,rfl,rfl,rfl,rfl,rfl,rfl⟩
  ·intros;simp at*
def z16{n m:Int} (hL:z0g L) (h:0<m):0<=z0h L n m/\z0h L n m<m:=by
 unfold z0h
 split
 ·omega
 ·have:0<=L.getD n.toNat 0:=by
   rw[List.getD_eq_getElem?_getD]
   cases hg:L[n.toNat]? with
   |none=>simp
   |some b=>exact(hL.2 b (List.mem_of_getElem? hg)).1
  rw[Int.tmod_eq_emod_of_nonneg this]
  exact⟨Int.emod_nonneg _ (by omega),Int.emod_lt_of_pos _ h⟩
def z1a{n:Int} (h:n<=L.length):n<=z09 L n/\z09 L n<=L.length/\z09 L n<=n+1:=by
 unfold z09;split<;>omega
def zsv:q58 P 82 z4u:=by
  refine qkl mixed (qdh (qh9 z6c (qh9 z7d (qh9 j16 qk5)))) (W:=zct) Try.func82 (by kernel_rfl) (by decide) (by decide) (λs=>by kernel_rfl) λ⟨(x:SV),(L:List Int),(n:Int),g⟩=>(zsu x L n g).mpr ?_
  rintro⟨hn0,hn1,hL,hw⟩ ⟨p,_,hp,hg⟩
  simp only[sbS,Int.toNat_natCast,exists_const]
  have hnum:=λm (h:0<m)=>z16 (n:=n) (m:=m) hL h
  refine⟨⟨λh4=>⟨⟨λh=> ?_,λh1=>⟨λh=> ?_,λh2=>⟨λh=> ?_,λh3=> ?_⟩⟩⟩,?_⟩,λh4=>λh=>h4 h.1⟩,?_⟩
  · unfold isNum;rw[h];decide
  · unfold isNum;rw[h];decide
  · unfold isNum;rw[h];decide
  · unfold isNum;rw[decide_eq_false h1,decide_eq_false h2,decide_eq_false h3];rfl
  · rintro _ _
    have d0:∀{a b c d:Int×Int×ByteArray×Int},True:=λ{_ _ _ _}=>trivial
    refine⟨λhN=>⟨L,⟨hn0,hn1,by omega,by omega,hL⟩,λq hq=>hq.1,?_,?_⟩,λhN=>⟨⟨λh=> ?_,λh=> ?_⟩,?_⟩⟩
    · have:=hnum 200 (by omega);omega
    · unfold z35;rw[if_pos ⟨h4,hN⟩];exact⟨rfl,rfl,rfl,rfl⟩
    · unfold z4f;rw[h];decide
    · unfold z4f;rw[decide_eq_false h];rfl
    rintro _ _
    have n1:¬(g.k=4/\isNum g.s=true):=λh=>by rw[hN]at h;exact absurd h.2 (by simp)
    refine⟨λhT=>⟨L,⟨hn0,hn1,by omega,by omega,hL⟩,λq hq=>hq.1,hnum 3 (by omega),zls (z0h L n 3),?_,?_⟩,λhT=> ?_⟩
    · have h3:=hnum 3 (by omega)
      generalize z0h L n 3=r at h3⊢
      intro j v hj
      cases j with
      |succ j=>simp at hj
      | zero=>
        have:r=0\/r=1\/r=2:=by omega
        rcases this with rfl|rfl|rfl<;>exact hj
    · unfold z35;rw[if_neg n1,if_pos ⟨h4,hT⟩];exact⟨rfl,rfl,rfl,rfl⟩
    have n2:¬(g.k=4/\z4f g.s=true):=λh=>by rw[hT]at h;exact absurd h.2 (by simp)
    refine⟨λhB=>⟨L,⟨hn0,hn1,by omega,by omega,hL⟩,λq hq=>hq.1,?_⟩,λhB=>⟨λhU=> ?_,λhU=> ?_⟩⟩
    · unfold z35;rw[if_neg n1,if_neg n2,if_pos ⟨h4,by unfold z9o;rw[hB];decide⟩];exact⟨rfl,rfl,rfl,rfl⟩
    · unfold z35;rw[if_neg n1,if_neg n2,if_neg (λh=>by unfold z9o at h;exact absurd h.2 (by rw[decide_eq_false hB];simp)),if_pos ⟨h4,by unfold zdp;rw[hU];decide⟩];exact⟨rfl,rfl,rfl,rfl⟩
    · rintro⟨_,h|h|h|h⟩
      · rw[hN]at h;cases h
      · rw[hT]at h;cases h
      · unfold z9o at h;rw[decide_eq_false hB]at h;cases h
      · unfold zdp at h;rw[decide_eq_false hU]at h;cases h
  · rintro _ hno
    have n1:¬(g.k=4/\isNum g.s=true):=λh=>hno ⟨h.1, .inl h.2⟩
    have n2:¬(g.k=4/\z4f g.s=true):=λh=>hno ⟨h.1, .inr (.inl h.2)⟩
    have n3:¬(g.k=4/\z9o g.s=true):=λh=>hno ⟨h.1, .inr (.inr (.inl h.2))⟩
    have n4:¬(g.k=4/\zdp g.s=true):=λh=>hno ⟨h.1, .inr (.inr (.inr h.2))⟩
    unfold z35
    rw[if_neg n1,if_neg n2,if_neg n3,if_neg n4]
    refine⟨λh5=>by rw[if_pos h5];exact⟨rfl,rfl,rfl,rfl⟩,λh5=>⟨⟨g,mkS [116,121,112,101]⟩,?_⟩⟩
    simp only[true_and,eq_self]
    rw[if_neg h5]
    refine⟨hw,λq hq=>hq.2,λh=>by rw[if_pos h];exact⟨rfl,rfl,rfl,rfl⟩,λh=>⟨λh2=>by rw[if_neg h,if_pos h2];exact⟨rfl,rfl,rfl,rfl⟩,λh2=>by rw[if_neg h,if_neg h2];exact⟨rfl,rfl,rfl,rfl⟩⟩⟩
def zst{g:GJ} {n:Int} (hL:z0g L) (h:n<=L.length):(n<=(z35 g L n).2.2.2/\(z35 g L n).2.2.2<=L.length)/\(-50<=(z35 g L n).2.1/\(z35 g L n).2.1<200)/\(z35 g L n).2.2.1.size<10:=by
 have b:=z1a h
 have h1:=z16 (n:=n) (m:=200) hL (by omega)
 have h2:=z16 (n:=n) (m:=2) hL (by omega)
 have t:(zls (z0h L n 3)).size<10:=by
  unfold zls
  split
  ·decide
  ·split<;>decide
 have z:(mkS []).size<10:=by decide
 have z1:(mkS [88]).size<10:=by decide
 unfold z35
 repeat' split
 all_goals refine⟨⟨?_,?_⟩,⟨?_,?_⟩,?_⟩
 all_goals first|exact t|exact z|exact z1| (simp only;omega)
end
def nmO(N:List ByteArray) (r k:Nat):List (Nat×AO):=[(2, .cells 35 (some 0) false [.ssl r 0 N.length 1 k]),(r, .row 9 0 (z00 txV N))]
abbrev TrS:=SV×List Int×Int×Int×List ByteArray
abbrev TrB:=GJ×Int×List ByteArray
def ztv(L:List Int) (n:Int) (N:List ByteArray):Prop:=N.length<=n+1/\∀t∈N,t.size<100
def z15(L:List Int) (n:Int) (N:List ByteArray):TrB->Prop:=λ⟨g,n',N'⟩=>g.wf/\n<=n'/\n'<=L.length/\N.length<=N'.length/\N'.length+n<=N.length+n'/\∀t∈N',t.size<100
def z40(most:Int):TrS->Prop:=λ⟨x,L,n,d,N⟩=>0<=n/\n<=L.length/\z0g L/\0<=d/\d<=most/\ztv L n N
def trM:TrS->PF:=λ⟨x,L,n,d,N⟩=>byM x L
def z5p:CtR where
 σ:=TrS
 args:=λ⟨x,L,n,d,N⟩=>[.ptr 1 0, .sv (.int .i64 d), .ptr 2 0]
 h:=λ⟨x,L,n,d,N⟩=>pkO x n++nmO N 3 4
 m:=5
 pre:=z40 4
 mem:=trM
 β:=λ_=>TrB
 post:=λ⟨x,L,n,d,N⟩ b=>z15 L n N b
 pm:=λ_ ⟨g,n',N'⟩=>gM g
 r:=λ_ ⟨g,n',N'⟩=>g.av
 h':=λ⟨x,L,n,d,N⟩ ⟨g,n',N'⟩=>pkO x n'++nmO N' 5 6
 m':=7
def zbl:CtR:={z5p with pre:=z40 3}
def z24:CtR where
 σ:=ByteArray×TrS
 args:=λ⟨s,x,L,n,d,N⟩=>[.ptr 1 0, .sv (.string s), .sv (.int .i64 d), .ptr 2 0]
 h:=λ⟨s,x,L,n,d,N⟩=>pkO x n++nmO N 3 4
 m:=5
 pre:=λ⟨s,t⟩=>s.size<100/\z40 3 t
 mem:=λ⟨s,t⟩=>trM t
 β:=λ_=>TrB
 post:=λ⟨s,x,L,n,d,N⟩ b=>z15 L n N b
 pm:=λ_ ⟨g,n',N'⟩=>gM g
 r:=λ_ ⟨g,n',N'⟩=>g.av
 h':=λ⟨s,x,L,n,d,N⟩ ⟨g,n',N'⟩=>pkO x n'++nmO N' 5 6
 m':=7
def z5q:TrS->Nat:=λ⟨x,L,n,d,N⟩=>(10- d).toNat
def zts:ByteArray×TrS->Nat:=λ⟨s,t⟩=>z5q t
def j2a:TrS->WayF:=λ⟨x,L,n,d,N⟩=>{
  cut :=λi t _=>match i with
    |4=>some {σ:=Int,pre:=λk=>0<=k/\k<20/\(8<=k->d<=3/\n<L.length),t:=λk=>[(7, .sv (.int .i64 k))],h:=λ_=>pkO x (z09 L n),more:=0,μ:=λ_=>0,keep:=[0,1,2,6]}
    | 15=>match slI t 7 with
      |some k=>some {σ:=Unit,pre:=λ_=>14<=k,t:=λ_=>[],h:=λ_=>[],more:=0,μ:=λ_=>0,keep:=[0,1,2,6,7]}
      |none=>none
    |_=>none
  pub:=λi k=>match i,k with
    |8,9=>[42]
    |10,9=>[54]
    |18,9=>[113]
    |20,7=>[120]
    |24,1=>[147]
    |_,_=>[]}
def zs4:TrS->WayF:=λ_=>{
 pub:=λi k=>match i,k with
  |7,1=>[40]
  |_,_=>[]}
abbrev RlS:=Int×Int×List ByteArray×List GJ
def zng(L:List Int) (n0:Int) (N0:List ByteArray) (m:Int):RlS->Prop:=λ⟨i,n,N,fs⟩=>0<=i/\i<=m/\m<5/\(fs.length:Int)=i/\GJ.wfs fs/\n0<=n/\n<=L.length/\N0.length<=N.length/\N.length+n0<=N0.length+n/\∀t∈N,t.size<100
def fsM(fs:List GJ):PF:=⟨true,GJ.oks fs,λ_ _ h e=>GJ.oks_mono h e⟩
def zcx:ByteArray×TrS->WayF:=λ⟨s,x,L,n0,d,N0⟩=>{
 ann:=λ_ t _=>match slI t 11 with
  |some m=>some {σ:=RlS,pre:=zng L n0 N0 m,mem:=λ⟨i,n,N,fs⟩=>fsM fs,t:=λ⟨i,n,N,fs⟩=>[(10, .sv (.int .i64 i))],h:=λ⟨i,n,N,fs⟩=>pkO x n++nmO N 9 10++[(6, .cells 55 (some 0) false [.int .i64 5, .int .i64 0, .str [], .ssl 7 0 fs.length 5 8, .nsl]),(7, .row 55 0 (z00 GJ.cells fs))],more:=4,μ:=λ⟨i,n,N,fs⟩=>(m- i).toNat,keep:=[0,1,2,3,8,9,11],del:=[3]}
  |none=>none
 pub:=λi k=>match i,k with
  |9,3=>[56]
  |_,_=>[]
 pubE:=[1000008]}
section
variable (x0:Int) (x1:SV) (x2:List Int) (x3:Int) (x4:List ByteArray) (x5:Int) (x6:Nat) (x7:ByteArray) (x8:List Int) (x9:Nat) (x10:List Int) (x11:Nat->Option Obj) (x12:TrB) (x13:TrS) (x14:Nat) (x15:Option Addr) (x16:Prop) (x17:Nat) (x18:TrB) (x19:Value)
 abbrev z2z:=x1.1=x1.1/\x1.2.1=x1.2.1/\x1.2.2=x1.2.2/\x16
 def zjj:=0<x0/\x0<1000000/\z0g x2
 def zee:=(∀i0,True/\slP byV x1 x2 i0->slP byV (x1.1,x1.2.1,x1.2.2) x8 i0)
 def zji:=z00 txV x4=z00 txV x4/\length x4=length x4/\(∀i0,True/\slP byV x1 x2 i0->True/\slP byV x1 x2 i0)/\x16
 def zot:=0<=x0/\x0<20/\(8<=x0->x3<=3/\x5<(↑(length x2):Int))
 def zv6:=(8:Int)≠0/\∃(i0:Int),x0=x0/\i0=Int.tmod (z0h x2 x3 20) 8/\z2z x1 (z09 x8 x3=z09 x2 x3/\zji x1 x8 x4 ((zot i0 x8 x0 x3)/\True))
 def zvf:=GJ.k x12.1=4/\GJ.n x12.1=0/\GJ.s x12.1=x7/\(GJ.y x12.1).1=noA/\(GJ.y x12.1).2.1=0/\(GJ.y x12.1).2.2=0/\(GJ.x x12.1).1=noA/\(GJ.x x12.1).2.1=0/\(GJ.x x12.1).2.2=0/\x16
 def zvh:=z00 txV x12.2.2=z00 txV x4/\length x12.2.2=length x4/\z15 x2 x0 x4 x12/\(∀i0,True/\slP byV x1 x2 i0->GJ.ok x12.1 i0)/\True
 def j3r:=(0<=x0/\x0<(↑(nat_lit 8):Int))/\∃i0,(∀(i1:Nat) (i2:Value),[string i0][i1]? =some i2->[string (mkS [105,110,116]),string (mkS [108,111,110,103]),string (mkS [115,116,114,105,110,103]),string (mkS [98,121,116,101,115]),string (mkS [98,111,111,108,101,97,110]),string (mkS [110,117,108,108]),string (mkS [102,108,111,97,116]),string (mkS [100,111,117,98,108,101])][nat_lit 0+toNat x0*1+i1]? =some i2)/\i0=i0/\True/\∃(i3:TrB),zvf i0 i3 (z2z x1 (i3.2.1=z09 x2 x3/\zvh x3 x1 x2 x4 i3))
 def zvj:=True/\Jb (x0+1)/\x16
 def zop:=x13.1.1=x1.1/\x13.1.2.1=x1.2.1/\x13.1.2.2=x1.2.2/\x13.2.2.1=z09 x2 x0/\z00 txV x13.2.2.2.2=z00 txV x4/\length x13.2.2.2.2=length x4/\x16
 def zow:=(∀i0,True/\slP byV x1 x2 i0->slP byV x13.1 x13.2.1 i0)
 def z5g:=(True/\slP byV x1 x2 x11)/\GJ.ok x12.1 x11
 def z5v:=q67 x11 (Addr.add (Addr.mk x6 x9 none) x14)=some x19
 def zv9:=((z5g x1 x2 x11 x12)/\∀(i0:Nat) (i1:Value),[int i64 4,int i64 0,string (mkS [97,114,114,97,121]),slice noA 0 0,slice noA 0 0,int i64 (GJ.k x12.1),int i64 (GJ.n x12.1),string (GJ.s x12.1),slice (GJ.y x12.1).1 (GJ.y x12.1).2.1 (GJ.y x12.1).2.2,slice (GJ.x x12.1).1 (GJ.x x12.1).2.1 (GJ.x x12.1).2.2][i0]? =some i1->z5v x6 x9 x11 i0 i1)
 abbrev z5u:=mkS [116,121,112,101]
 def zov:=GJ.k x12.1=6/\GJ.n x12.1=0/\GJ.s x12.1=mkS []/\x16
 def zvk:=x12.2.1=x18.2.1/\z00 txV x12.2.2=z00 txV x18.2.2/\length x12.2.2=length x18.2.2/\x16
 def zvg:=x1.1=x13.1.1/\x1.2.1=x13.1.2.1/\x1.2.2=x13.1.2.2/\zvk x12 x16 x18
 def zvb:=zov x12 ((GJ.y x12.1).1=some (Addr.mk x6 (x9+nat_lit 0) none)/\(GJ.y x12.1).2.1=nat_lit 2/\(GJ.y x12.1).2.2=nat_lit 2/\(GJ.x x12.1).1=some (Addr.mk x14 (x17+nat_lit 0) none)/\(GJ.x x12.1).2.1=nat_lit 2/\(GJ.x x12.1).2.2=nat_lit 2/\zvg x1 x12 x13 x16 x18)
 def j3n:=True/\∀(i0 i1 i2:Nat),(∃i3,(z5g x1 x2 i3 x12)/\q3f i3 (Addr.mk i0 i1 none) [int i64 4,int i64 0,string (mkS [97,114,114,97,121]),slice noA 0 0,slice noA 0 0,int i64 (GJ.k x12.1),int i64 (GJ.n x12.1),string (GJ.s x12.1),slice (GJ.y x12.1).1 (GJ.y x12.1).2.1 (GJ.y x12.1).2.2,slice (GJ.x x12.1).1 (GJ.x x12.1).2.1 (GJ.x x12.1).2.2])->∀(i4 i5 i6:Nat),(∃i7,zv9 x1 x2 i0 i1 i7 x12/\q3f i7 (Addr.mk i4 i5 none) [string (z5u),string (mkS [105,116,101,109,115])])->∃(i10:TrB),zvb x1 i0 i1 i10 x13 i4 (z15 x2 x0 x4 i10/\(∀i11,(zv9 x1 x2 i0 i1 i11 x12/\∀(i14:Nat) (i15:Value),[string (z5u),string (mkS [105,116,101,109,115])][i14]? =some i15->z5v i4 i5 i11 i14 i15)->GJ.ok i10.1 i11)/\True) i5 x12
 def je3:=mkS [97,114,114,97,121]=mkS [97,114,114,97,121]/\zvj x0 (∃(i0:TrS),i0.2.2.2.1=x0+1/\zop x3 x1 x2 x4 i0 ((z5q i0<x6/\z40 4 i0)/\zow x1 x2 i0/\∀(i2:TrB),z15 i0.2.1 i0.2.2.1 i0.2.2.2.2 i2->(∃i3,z5g x1 x2 i3 i2)->j3n x3 x1 x2 x4 i2 i0))
 def zva:=((z5g x1 x2 x11 x12)/\∀(i0:Nat) (i1:Value),[int i64 4,int i64 0,string (mkS [109,97,112]),slice noA 0 0,slice noA 0 0,int i64 (GJ.k x12.1),int i64 (GJ.n x12.1),string (GJ.s x12.1),slice (GJ.y x12.1).1 (GJ.y x12.1).2.1 (GJ.y x12.1).2.2,slice (GJ.x x12.1).1 (GJ.x x12.1).2.1 (GJ.x x12.1).2.2][i0]? =some i1->z5v x6 x9 x11 i0 i1)
 abbrev zvi:=mkS [118,97,108,117,101,115]
 def j3o:=True/\∀(i0 i1 i2:Nat),(∃i3,(z5g x1 x2 i3 x12)/\q3f i3 (Addr.mk i0 i1 none) [int i64 4,int i64 0,string (mkS [109,97,112]),slice noA 0 0,slice noA 0 0,int i64 (GJ.k x12.1),int i64 (GJ.n x12.1),string (GJ.s x12.1),slice (GJ.y x12.1).1 (GJ.y x12.1).2.1 (GJ.y x12.1).2.2,slice (GJ.x x12.1).1 (GJ.x x12.1).2.1 (GJ.x x12.1).2.2])->∀(i4 i5 i6:Nat),(∃i7,zva x1 x2 i0 i1 i7 x12/\q3f i7 (Addr.mk i4 i5 none) [string (z5u),string (zvi)])->∃(i10:TrB),zvb x1 i0 i1 i10 x13 i4 (z15 x2 x0 x4 i10/\(∀i11,(zva x1 x2 i0 i1 i11 x12/\∀(i14:Nat) (i15:Value),[string (z5u),string (zvi)][i14]? =some i15->z5v i4 i5 i11 i14 i15)->GJ.ok i10.1 i11)/\True) i5 x12
 def j3m:=mkS [109,97,112]=mkS [109,97,112]/\zvj x0 (∃(i0:TrS),i0.2.2.2.1=x0+1/\zop x3 x1 x2 x4 i0 ((z5q i0<x6/\z40 4 i0)/\zow x1 x2 i0/\∀(i2:TrB),z15 i0.2.1 i0.2.2.1 i0.2.2.2.2 i2->(∃i3,z5g x1 x2 i3 i2)->j3o x3 x1 x2 x4 i2 i0))
 def zvc:=GJ.k x12.1=GJ.k x18.1/\GJ.n x12.1=GJ.n x18.1/\GJ.s x12.1=GJ.s x18.1/\(GJ.y x12.1).1=(GJ.y x18.1).1/\(GJ.y x12.1).2.1=(GJ.y x18.1).2.1/\(GJ.y x12.1).2.2=(GJ.y x18.1).2.2/\(GJ.x x12.1).1=(GJ.x x18.1).1/\(GJ.x x12.1).2.1=(GJ.x x18.1).2.1/\(GJ.x x12.1).2.2=(GJ.x x18.1).2.2/\x16
 def zoy:=0<=z09 x2 x0/\z09 x2 x0<=(↑(length x8):Int)/\x16
 def j3q:=Ji (0<(↑(length x4):Int)) (∃(i0:List Int),(↑(length x4):Int)=(↑(length x4):Int)/\z2z x1 (z09 x2 x0=z09 x2 x0/\(zoy x0 x2 i0 (0<(↑(length x4):Int)/\(↑(length x4):Int)<1000000/\z0g i0))/\zee x1 x2 i0/\(0<=z0h i0 (z09 x2 x0) (↑(length x4):Int)/\z0h i0 (z09 x2 x0) (↑(length x4):Int)<(↑(length x4):Int))/\∃i2,(∀(i3:Nat) (i4:Value),[string i2][i3]? =some i4->(z00 txV x4)[nat_lit 0+toNat (z0h i0 (z09 x2 x0) (↑(length x4):Int))*nat_lit 1+i3]? =some i4)/\i2=i2/\True/\AV.ssl (nat_lit 3) (nat_lit 0) (length x4) (nat_lit 1) (nat_lit 4)=AV.ssl (nat_lit 3) (nat_lit 0) (length x4) (nat_lit 1) (nat_lit 4)/\∃(i5:TrB),zvf i2 i5 (z2z x1 (i5.2.1=z09 i0 (z09 x2 x0)/\zvh x0 x1 x2 x4 i5)))) (∃(i7:Unit),x3=x3/\x5=x5/\z2z x1 (z09 x2 x0=z09 x2 x0/\zji x1 x2 x4 (14<=x5/\True)))
 def j3p:=Ji (x0=14) (j3q x3 x1 x2 x5 x4 x0) (∃(i9:Unit),x5=x5/\x0=x0/\z2z x1 (z09 x2 x3=z09 x2 x3/\zji x1 x2 x4 (14<=x0/\True)))
 def j3l:=Ji (x0<14) (∃(i0:TrS),i0.2.2.2.1=x3/\zop x5 x1 x2 x4 i0 ((z5q i0<x6+1/\z40 3 i0)/\zow x1 x2 i0/\∀(i2:TrB),z15 i0.2.1 i0.2.2.1 i0.2.2.2.2 i2->(∃i3,z5g x1 x2 i3 i2)->∃(i4:TrB),zvc i4 (zvg x1 i4 i0 (z15 x2 x5 x4 i4/\(∀i5,z5g x1 x2 i5 i2->GJ.ok i4.1 i5)/\True) i2) i2)) (j3p x0 x1 x2 x5 x4 x3)
 def je0:=Ji (x0=10) (j3m x3 x1 x2 x5 x4 x6) (j3l x0 x1 x2 x3 x4 x5 x6)
 def jdz:=Ji (x0<10) (je3 x3 x1 x2 x5 x4 x6) (je0 x0 x1 x2 x3 x4 x5 x6)
 def zv8:=((True/\slP byV x1 x2 x11)/\∀(i0:Nat) (i1:Value),[int i64 4,int i64 0,string (mkS [102,105,120,101,100]),slice noA 0 0,slice noA 0 0,int i64 4,int i64 0,string (mkS [78]++x7),slice noA 0 0,slice noA 0 0,int i64 3,int i64 (z0h x8 (z09 x2 x0) 4),string (mkS []),slice noA 0 0,slice noA 0 0][i0]? =some i1->z5v x6 x9 x11 i0 i1)
 abbrev zef:=mkS [110,97,109,101]
 def zve:=zov x12 ((GJ.y x12.1).1=some (Addr.mk x6 (x9+nat_lit 0) none)/\(GJ.y x12.1).2.1=nat_lit 3/\(GJ.y x12.1).2.2=nat_lit 3/\(GJ.x x12.1).1=some (Addr.mk x14 (x17+nat_lit 0) none)/\(GJ.x x12.1).2.1=nat_lit 3/\(GJ.x x12.1).2.2=nat_lit 3/\x16)
 def zor:=z00 txV x12.2.2=z00 txV x4++[string (mkS [78]++x7)]/\length x12.2.2=length x4+nat_lit 1/\z15 x2 x0 x4 x12/\x16
 def je2:=mkS [102,105,120,101,100]=mkS [102,105,120,101,100]/\True/\mkS [78]++x7=mkS [78]++x7/\True/\∃(i0:List Int),(4:Int)=4/\z2z x1 (z09 x2 x0=z09 x2 x0/\(zoy x0 x2 i0 (zjj 4 i0))/\zee x1 x2 i0/\True/\∀(i2 i3 i4:Nat),(∃i5,(True/\slP byV x1 x2 i5)/\q3f i5 (Addr.mk i2 i3 none) [int i64 4,int i64 0,string (mkS [102,105,120,101,100]),slice noA 0 0,slice noA 0 0,int i64 4,int i64 0,string (mkS [78]++x7),slice noA 0 0,slice noA 0 0,int i64 3,int i64 (z0h i0 (z09 x2 x0) 4),string (mkS []),slice noA 0 0,slice noA 0 0])->∀(i6 i7 i8:Nat),(∃i9,zv8 x0 x1 x2 i2 x7 i0 i3 i9/\q3f i9 (Addr.mk i6 i7 none) [string (z5u),string (zef),string (mkS [115,105,122,101])])->∃(i12:TrB),zve i2 i3 i12 i6 (z2z x1 (i12.2.1=z09 i0 (z09 x2 x0)/\zor x0 x2 x4 x7 i12 ((∀i13,(zv8 x0 x1 x2 i2 x7 i0 i3 i13/\∀(i16:Nat) (i17:Value),[string (z5u),string (zef),string (mkS [115,105,122,101])][i16]? =some i17->z5v i6 i7 i13 i16 i17)->GJ.ok i12.1 i13)/\True))) i7)
 def zjh:=(True/\slP byV x1 x2 x11)/\∀(i0:Nat) (i1:Value),[int i64 4,int i64 0,string (mkS [88]),slice noA 0 0,slice noA 0 0,int i64 4,int i64 0,string (mkS [89]),slice noA 0 0,slice noA 0 0,int i64 4,int i64 0,string (mkS [90]),slice noA 0 0,slice noA 0 0][i0]? =some i1->z5v x6 x9 x11 i0 i1
 abbrev zox:=mkS [101,110,117,109]
 abbrev zou:=slA (some (Addr.mk x6 (x9+nat_lit 0) none)) (nat_lit 3) (nat_lit 0) 5
 abbrev zoq:=Int.rec (λ(i0:Nat)=>(λ(i1:Nat)=>(λ(i2:Nat)=>i2) i1) i0) (λ(i3:Nat)=>(λ(i4:Nat)=>(λ(i5:Nat)=>(0:Nat)) i4) i3) ((1:Int)+z0h x2 (z09 x8 x0) 3)- nat_lit 0
 def zoo:=(zjh x1 x2 x6 x9 x11)/\nat_lit 4<=x14/\qhc x11 x15 (take (nat_lit 4*nat_lit 5) ([int i64 4,int i64 0,string (zox),slice noA 0 0,slice noA 0 0,int i64 4,int i64 0,string (mkS [78]++x7),slice noA 0 0,slice noA 0 0,int i64 5,int i64 0,string (mkS []),slice (zou x6 x9) (zoq x0 x8 x2) (nat_lit 3- nat_lit 0),slice noA 0 0]++[int i64 4,int i64 0,string (mkS [88]),slice noA 0 0,slice noA 0 0]))
 abbrev zos:=mkS [115,121,109,98,111,108,115]
 abbrev zvd:=take (nat_lit 4*nat_lit 1) ([string (z5u),string (zef),string (zos)]++[string (mkS [100,101,102,97,117,108,116])])
 def je1:=(nat_lit 3+1)*16<=140737488355328/\mkS [88]=mkS [88]/\True/\(nat_lit 3+1)*80<=140737488355328/\∀(i0 i1 i2:Nat) (i3:Option Addr) (i4 i5:Nat),(∃i6,zoo x0 x1 x2 x6 x7 x8 x9 i6 i5 i3)->∀(i15 i16 i17:Nat) (i18:Option Addr) (i19 i20:Nat),(∃i21,(zoo x0 x1 x2 x6 x7 x8 x9 i21 i5 i3)/\nat_lit 4<=i20/\qhc i21 i18 (zvd))->∃(i30:TrB),zov i30 ((GJ.y i30.1).1=i3/\(GJ.y i30.1).2.1=nat_lit 4/\(GJ.y i30.1).2.2=i5/\(GJ.x i30.1).1=i18/\(GJ.x i30.1).2.1=nat_lit 4/\(GJ.x i30.1).2.2=i20/\z2z x1 (i30.2.1=z09 x10 (z09 x8 (z09 x2 x0))/\zor x0 x2 x4 x7 i30 ((∀i31,(zoo x0 x1 x2 x6 x7 x8 x9 i31 i5 i3)/\nat_lit 4<=i20/\qhc i31 i18 (zvd)->GJ.ok i30.1 i31)/\True)))
 def zv7:=((zjh x1 x2 x6 x9 x11)/\∀(i0:Nat) (i1:Value),[int i64 4,int i64 0,string (zox),slice noA 0 0,slice noA 0 0,int i64 4,int i64 0,string (mkS [78]++x7),slice noA 0 0,slice noA 0 0,int i64 5,int i64 0,string (mkS []),slice (zou x6 x9) (zoq x0 x8 x2) (nat_lit 3- nat_lit 0),slice noA 0 0][i0]? =some i1->z5v x14 x17 x11 i0 i1)
 def jdy:=nat_lit 3<=nat_lit 3/\((0:Int)<=1+z0h x2 (z09 x8 x0) 3/\(1:Int)+z0h x2 (z09 x8 x0) (3:Int)<=(↑(nat_lit 3):Int))/\mkS [101,110,117,109]=mkS [101,110,117,109]/\True/\mkS [78]++x7=mkS [78]++x7/\True/\True/\∃(i0:List Int),(2:Int)=2/\z2z x1 (z09 x2 (z09 x8 x0)=z09 x2 (z09 x8 x0)/\(0<=z09 x2 (z09 x8 x0)/\z09 x2 (z09 x8 x0)<=(↑(length i0):Int)/\zjj 2 i0)/\(∀i1,(zjh x1 x8 x6 x9 i1)->slP byV (x1.1,x1.2.1,x1.2.2) i0 i1)/\Ji (z0h i0 (z09 x2 (z09 x8 x0)) (2:Int)=0) (je1 x0 x1 x8 x4 x6 x7 x2 x9 i0) (∀(i44 i45 i46:Nat),(∃i47,(zjh x1 x8 x6 x9 i47)/\q3f i47 (Addr.mk i44 i45 none) [int i64 4,int i64 0,string (zox),slice noA 0 0,slice noA 0 0,int i64 4,int i64 0,string (mkS [78]++x7),slice noA 0 0,slice noA 0 0,int i64 5,int i64 0,string (mkS []),slice (zou x6 x9) (zoq x0 x2 x8) (nat_lit 3- nat_lit 0),slice noA 0 0])->∀(i56 i57 i58:Nat),(∃i59,zv7 x0 x1 x8 x6 x7 x2 x9 i59 i44 i45/\q3f i59 (Addr.mk i56 i57 none) [string (z5u),string (zef),string (zos)])->∃(i70:TrB),zve i44 i45 i70 i56 (z2z x1 (i70.2.1=z09 i0 (z09 x2 (z09 x8 x0))/\zor x0 x8 x4 x7 i70 ((∀i71,(zv7 x0 x1 x8 x6 x7 x2 x9 i71 i44 i45/\∀(i82:Nat) (i83:Value),[string (z5u),string (zef),string (zos)][i82]? =some i83->z5v i56 i57 i71 i82 i83)->GJ.ok i70.1 i71)/\True))) i57))
 def jdx:=mkS [88]=mkS [88]/\True/\mkS [89]=mkS [89]/\True/\mkS [90]=mkS [90]/\True/\∃(i0:List Int),(3:Int)=3/\z2z x1 (z09 x2 x0=z09 x2 x0/\(zoy x0 x2 i0 (zjj 3 i0))/\zee x1 x2 i0/\((-9223372036854775808:Int)<=1+z0h i0 (z09 x2 x0) 3/\(1:Int)+z0h i0 (z09 x2 x0) (3:Int)<=9223372036854775807)/\∀(i2 i3 i4:Nat),(∃i5,(True/\slP byV x1 x2 i5)/\q3f i5 (Addr.mk i2 i3 none) [int i64 4,int i64 0,string (mkS [88]),slice noA 0 0,slice noA 0 0,int i64 4,int i64 0,string (mkS [89]),slice noA 0 0,slice noA 0 0,int i64 4,int i64 0,string (mkS [90]),slice noA 0 0,slice noA 0 0])->jdy x0 x1 i0 x4 i2 x7 x2 i3)
 def jdw:=Ji (x0=16) (jdx x3 x1 x2 x4 x7) (∃(i90:ByteArray×TrS),i90.1=mkS [78]++x7/\i90.2.2.2.2.1=x5/\i90.2.1.1=x1.1/\i90.2.1.2.1=x1.2.1/\i90.2.1.2.2=x1.2.2/\i90.2.2.2.1=z09 x2 x3/\z00 txV i90.2.2.2.2.2=z00 txV x4++[string (mkS [78]++x7)]/\length i90.2.2.2.2.2=length x4+nat_lit 1/\(zts i90<x6+1/\size i90.1<100/\z40 3 i90.2)/\(∀i91,True/\slP byV x1 x2 i91->slP byV i90.2.1 i90.2.2.1 i91)/\∀(i92:TrB),z15 i90.2.2.1 i90.2.2.2.1 i90.2.2.2.2.2 i92->(∃i93,z5g x1 x2 i93 i92)->∃(i94:TrB),zvc i94 (x1.1=i90.2.1.1/\x1.2.1=i90.2.1.2.1/\x1.2.2=i90.2.1.2.2/\zvk i94 (z15 x2 x3 x4 i94/\(∀i95,z5g x1 x2 i95 i92->GJ.ok i94.1 i95)/\True) i92) i92)
 def jdv:=(26:Int)≠0/\((-9223372036854775808:Int)<=97+Int.tmod (↑(length x4):Int) 26/\(97:Int)+Int.tmod (↑(length x4):Int) (26:Int)<=9223372036854775807)/\∃i0,size i0=1/\qh1 [int u8 (IntKind.wrap u8 ((97:Int)+Int.tmod (↑(length x4):Int) 26))] 0 (q19 i0)/\size (mkS [78])+size i0<=9223372036854775807/\length (z00 txV x4)=length x4*1/\(length x4+nat_lit 1)*16<=140737488355328/\Ji (x0=15) (je2 x3 x1 x2 x4 i0) (jdw x0 x1 x2 x3 x4 x5 x6 i0)
 def jdu:=(Ji (x0<8) (j3r x0 x1 x2 x3 x4) (jdz x0 x1 x2 x5 x4 x3 x6))/\∀(i62:Unit),14<=x0->jdv x0 x1 x2 x3 x4 x5 x6
end
def zns(c:Nat) (x:SV) (L:List Int) (n d:Int) (N:List ByteArray):qkj P (qfv [(37,zrc),(36,zg4),(81,zd9),(80,z67)]) (qgy [(79,z5p.below z5q c),(115,zbl.below z5q (c+1)),(47,z24.below zts (c+1))]) Try.f79 (z5p.below z5q (c+1)) (j2a) ⟨x,L,n,d,N⟩=(z5q (x,L,n,d,N)<c+1/\z40 4 (x,L,n,d,N)->(∃(p:Pub),True/\slP byV x L p)->∃(b:List Int),(20:Int)=20/\z2z x (n=n/\(0<=n/\n<=(↑(length b):Int)/\zjj 20 b)/\zee x L b/\(Ji (3<d) (zv6 d x b n N L) (∃(b_1:List Int),z2z x (z09 b n=z09 b n/\True/\zee x L b_1/\Ji ((↑(length b_1):Int)<=z09 b n) (zv6 d x b n N L) (∃(s:Int),d=d/\s=z0h b n 20/\z2z x (z09 L n=z09 b n/\zji x L N ((zot s L d n)/\True))))))/\∀(s:Int),zot s L d n->jdu s x L n N d c)):=by kernel_rfl
def zuo:=λc x L n d N=>Eq.trans (zns c x L n d N) (by delta Ji Jb Jt Jf z2z zjj zee zji zot zv6 zvf zvh j3r zvj zop zow z5g z5v zv9 z5u zov zvk zvg zvb j3n je3 zva zvi j3o j3m zvc zoy j3q j3p j3l je0 jdz zv8 zef zve zor je2 zjh zox zou zoq zoo zos zvd je1 zv7 jdy jdx jdw jdv jdu;exact rfl)
section
variable (x0:SV) (x1:Int) (x2:List Int) (x3:Int) (x4:List ByteArray) (x5:Nat) (x6:TrB) (x7:ByteArray) (x8:TrS) (x9:List Int) (x10:TrB) (x11:Prop) (x12:Nat->Option Obj) (x13:Option Addr)
 abbrev zvm:=(2:Int)=2/\x0.1=x0.1/\x0.2.1=x0.2.1/\x0.2.2=x0.2.2/\x11
 def zvo:=(∀i0,True/\slP byV x0 x2 i0->slP byV (x0.1,x0.2.1,x0.2.2) x9 i0)
 abbrev zvq:=Jb (x1+1)
 def zvn:=x8.2.2.2.1=x1+1/\x8.1.1=x0.1/\x8.1.2.1=x0.2.1/\x8.1.2.2=x0.2.2/\x11
 def zvl:=z00 txV x8.2.2.2.2=z00 txV x4/\length x8.2.2.2.2=length x4/\(z5q x8<x5/\z40 4 x8)/\(∀i0,True/\slP byV x0 x2 i0->slP byV x8.1 x8.2.1 i0)/\x11
 def z7m:=(True/\slP byV x0 x2 x12)/\GJ.ok x6.1 x12
 abbrev zeg:=mkS [110,117,108,108]
 abbrev j95:=[int i64 4,int i64 0,string (zeg),slice noA 0 0,slice noA 0 0]++[int i64 4,int i64 0,string x7,slice noA 0 0,slice noA 0 0]
 def jar:=(z7m x0 x2 x6 x12)/\nat_lit 3<=x5/\qhc x12 x13 (take (nat_lit 3*nat_lit 5) ([int i64 4,int i64 0,string (zeg),slice noA 0 0,slice noA 0 0]++[int i64 4,int i64 0,string x7,slice noA 0 0,slice noA 0 0]++[int i64 (GJ.k x6.1),int i64 (GJ.n x6.1),string (GJ.s x6.1),slice (GJ.y x6.1).1 (GJ.y x6.1).2.1 (GJ.y x6.1).2.2,slice (GJ.x x6.1).1 (GJ.x x6.1).2.1 (GJ.x x6.1).2.2]))
 def zjk:=GJ.k x6.1=5/\GJ.n x6.1=0/\GJ.s x6.1=mkS []/\x11
 def j3s:=(GJ.x x6.1).1=noA/\(GJ.x x6.1).2.1=0/\(GJ.x x6.1).2.2=0/\x0.1=x8.1.1/\x0.2.1=x8.1.2.1/\x0.2.2=x8.1.2.2/\x6.2.1=x10.2.1/\z00 txV x6.2.2=z00 txV x10.2.2/\length x6.2.2=length x10.2.2/\z15 x2 x1 x4 x6/\x11
 def je8:=length (j95 x7)=nat_lit 2*5/\(nat_lit 2+nat_lit 1)*80<=140737488355328/\∀(i0 i1 i2:Nat) (i3:Option Addr) (i4 i5:Nat),(∃i6,jar x0 x2 i5 x6 x7 i6 i3)->∃(i7:TrB),zjk i7 ((GJ.y i7.1).1=i3/\(GJ.y i7.1).2.1=nat_lit 3/\(GJ.y i7.1).2.2=i5/\j3s x0 x1 x2 x4 i7 x8 x6 ((∀i8,jar x0 x2 i5 x6 x7 i8 i3->GJ.ok i7.1 i8)/\True))
 def zvp:=(GJ.y x6.1).1=x13/\(GJ.y x6.1).2.1=nat_lit 2/\(GJ.y x6.1).2.2=x5/\x11
 def je5:=Ji (GJ.k x6.1=6) (je8 x0 x1 x2 x4 x6 x7 x8) (∀(i9 i10 i11:Nat) (i12:Option Addr) (i13 i14:Nat),(∃i15,(z7m x0 x2 x6 i15)/\nat_lit 2<=i14/\qhc i15 i12 (take (nat_lit 2*nat_lit 5) (j95 x7)))->∃(i16:TrB),zjk i16 (zvp i14 i16 (j3s x0 x1 x2 x4 i16 x8 x6 ((∀i17,(z7m x0 x2 x6 i17)/\nat_lit 2<=i14/\qhc i17 i12 (take (nat_lit 2*nat_lit 5) (j95 x7))->GJ.ok i16.1 i17)/\True)) i12))
 def jas:=(z7m x0 x2 x6 x12)/\nat_lit 2<=x5/\qhc x12 x13 (take (nat_lit 2*nat_lit 5) ([int i64 4,int i64 0,string (zeg),slice noA 0 0,slice noA 0 0]++[int i64 (GJ.k x6.1),int i64 (GJ.n x6.1),string (GJ.s x6.1),slice (GJ.y x6.1).1 (GJ.y x6.1).2.1 (GJ.y x6.1).2.2,slice (GJ.x x6.1).1 (GJ.x x6.1).2.1 (GJ.x x6.1).2.2]))
 def je9:=(nat_lit 1+1)*80<=140737488355328/\∀(i0 i1 i2:Nat) (i3:Option Addr) (i4 i5:Nat),(∃i6,jas x0 x2 i5 x6 i6 i3)->∃(i7:TrB),zjk i7 (zvp i5 i7 (j3s x0 x1 x2 x4 i7 x8 x6 ((∀i8,jas x0 x2 i5 x6 i8 i3->GJ.ok i7.1 i8)/\True)) i3)
 def je7:=Ji (GJ.k x6.1=6) (je9 x0 x1 x2 x4 x6 x8) (∀(i9 i10 i11:Nat),(∃i12,(z7m x0 x2 x6 i12)/\q3f i12 (Addr.mk i9 i10 none) [int i64 4,int i64 0,string (zeg),slice noA 0 0,slice noA 0 0])->∃(i13:TrB),zjk i13 ((GJ.y i13.1).1=some (Addr.mk i9 (i10+nat_lit 0) none)/\(GJ.y i13.1).2.1=nat_lit 1/\(GJ.y i13.1).2.2=nat_lit 1/\j3s x0 x1 x2 x4 i13 x8 x6 ((∀i14,((z7m x0 x2 x6 i14)/\∀(i15:Nat) (i16:Value),[int i64 4,int i64 0,string (zeg),slice noA 0 0,slice noA 0 0][i15]? =some i16->q67 i14 (Addr.add (Addr.mk i9 i10 none) i15)=some i16)->GJ.ok i13.1 i14)/\True)))
 def je6:=zvq x1/\∃(i0:TrS),zvn x0 x1 i0 (i0.2.2.1=z09 x2 x3/\zvl x0 x9 x4 x5 i0 (∀(i2:TrB),z15 i0.2.1 i0.2.2.1 i0.2.2.2.2 i2->(∃i3,z7m x0 x9 i2 i3)->je7 x0 x3 x9 x4 i2 i0))
 def je4:=mkS [110,117,108,108]=mkS [110,117,108,108]/\True/\∃(i0:List Int),zvm x0 (x1=x1/\(0<=x1/\x1<=(↑(length i0):Int)/\(0:Int)<2/\(2:Int)<1000000/\z0g i0)/\zvo x0 x2 i0/\Ji (z0h i0 x1 (2:Int)=0) (∃(i2:List Int),zvm x0 (z09 i0 x1=z09 i0 x1/\(0<=z09 i0 x1/\z09 i0 x1<=(↑(length i2):Int)/\(0:Int)<2/\(2:Int)<1000000/\z0g i2)/\zvo x0 x2 i2/\(0<=z0h i2 (z09 i0 x1) 2/\z0h i2 (z09 i0 x1) (2:Int)<(↑(2:Nat):Int))/\∃i4,(∀(i5:Nat) (i6:Value),[string i4][i5]? =some i6->[string (mkS [105,110,116]),string (mkS [115,116,114,105,110,103])][(0:Nat)+toNat (z0h i2 (z09 i0 x1) 2)*1+i5]? =some i6)/\i4=i4/\True/\(nat_lit 1+1)*80<=140737488355328/\zvq x3/\∃(i7:TrS),zvn x0 x3 i7 (i7.2.2.1=z09 i2 (z09 i0 x1)/\zvl x0 x2 x4 x5 i7 (∀(i9:TrB),z15 i7.2.1 i7.2.2.1 i7.2.2.2.2 i9->(∃i10,z7m x0 x2 i9 i10)->je5 x0 x1 x2 x4 i9 i4 i7)))) (je6 x0 x3 i0 x1 x4 x5 x2))
end
def zia(c:Nat) (x:SV) (L:List Int) (n d:Int) (N:List ByteArray):qkj P (qfv [(37,zrc),(81,zd9)]) (qgy [(79,z5p.below z5q c)]) Try.f115 (zbl.below z5q (c+1)) (zs4) ⟨x,L,n,d,N⟩=(z5q (x,L,n,d,N)<c+1/\z40 3 (x,L,n,d,N)->(∃(p:Pub),True/\slP byV x L p)->je4 x n L d N c):=by kernel_rfl
def union_eq:=λc x L n d N=>Eq.trans (zia c x L n d N) (by delta Ji Jb Jt Jf zvm zvo zvq zvn zvl z7m zeg j95 jar zjk j3s je8 zvp je5 jas je9 je7 je6 je4;exact rfl)
section
variable (x0:RlS) (x1:List Int) (x2 x3:Int) (x4:SV) (x5:Nat) (x6:List Int) (x7:ByteArray) (x8:List ByteArray) (x9:TrB) (x10:TrS) (x11:ByteArray) (x12:List Int) (x13:List Int×GJ) (x14 x15:Option Addr) (x16 x17 x18:Nat) (x19:Nat->Option Obj) (x20:Prop) (x21:RlS)
 abbrev zp2:=x4.1=x4.1/\x4.2.1=x4.2.1/\x4.2.2=x4.2.2/\x20
 def z5w:=(True/\slP byV x4 x1 x19)/\GJ.oks x0.2.2.2 x19
 abbrev zvy:=slice (GJ.y x9.1).1 (GJ.y x9.1).2.1 (GJ.y x9.1).2.2
 abbrev zvz:=slice (GJ.x x9.1).1 (GJ.x x9.1).2.1 (GJ.x x9.1).2.2
 def zvr:=AV.agg [AV.sv (int i64 (GJ.k x9.1)),AV.sv (int i64 (GJ.n x9.1)),AV.sv (string (GJ.s x9.1)),AV.sv (zvy x9),AV.sv (zvz x9)]=AV.agg [AV.sv (int i64 (GJ.k x9.1)),AV.sv (int i64 (GJ.n x9.1)),AV.sv (string (GJ.s x9.1)),AV.sv (zvy x9),AV.sv (zvz x9)]
 def zvu:=x10.1.1=x10.1.1/\x10.1.2.1=x10.1.2.1/\x10.1.2.2=x10.1.2.2/\x20
 def j3t:=slP byV (x10.1.1,x10.1.2.1,x10.1.2.2) x13.1 x19/\GJ.ok x13.2 x19
 abbrev zjl:=z35 x13.2 x13.1 (z09 x1 x9.2.1)
 def j3u:=((z5w x0 x1 x4 x19)/\GJ.ok x9.1 x19)/\nat_lit 3<=x5/\qhc x19 x14 (take (nat_lit 3*nat_lit 5) ([int i64 4,int i64 0,string (mkS [102]++x7),slice noA 0 0,slice noA 0 0,int i64 (GJ.k x9.1),int i64 (GJ.n x9.1),string (GJ.s x9.1),slice (GJ.y x9.1).1 (GJ.y x9.1).2.1 (GJ.y x9.1).2.2,slice (GJ.x x9.1).1 (GJ.x x9.1).2.1 (GJ.x x9.1).2.2]++[int i64 (zjl x6 x9 x13).1,int i64 (zjl x6 x9 x13).2.1,string (zjl x6 x9 x13).2.2.1,slice noA 0 0,slice noA 0 0]))
 abbrev zei:=mkS [110,97,109,101]
 abbrev zeh:=mkS [116,121,112,101]
 def zp0:=nat_lit 3<=x5/\qhc x19 x14 (take (nat_lit 3*nat_lit 1) ([string (zei),string (zeh)]++[string (mkS [100,101,102,97,117,108,116])]))
 def zvs:=length (z00 GJ.cells x0.2.2.2)=length x0.2.2.2*5/\(length x0.2.2.2+nat_lit 1)*80<=140737488355328/\Jb (x0.1+1)/\x20
 def zvt:=z0h x1 x2 (5:Int)=z0h x1 x2 5/\x3=x3/\x0.1=x21.1+1/\x4.1=x10.1.1/\x4.2.1=x10.1.2.1/\x4.2.2=x10.1.2.2/\x20
 def zvx:=z00 txV x0.2.2.1=z00 txV x9.2.2/\length x0.2.2.1=length x9.2.2/\length x0.2.2.2=length x21.2.2.2+nat_lit 1/\x20
 def zw0:=zng x1 x2 x8 (z0h x6 x2 5) x0/\toNat (z0h x6 x2 5- x0.1)<toNat (z0h x6 x2 5- x21.1)/\True
 def jef:=zvs x0 (∃(i0:RlS),x7=x7/\zvt i0 x1 x2 x3 x4 x10 (i0.2.1=(zjl x6 x9 x13).2.2.2/\z00 GJ.cells i0.2.2.2=z00 GJ.cells x0.2.2.2++[int i64 6,int i64 0,string (mkS []),slice x14 (nat_lit 3) x5,slice x15 (nat_lit 3) x16]/\zvx i0 x9 ((∀i1,(j3u x0 x12 x4 x5 x6 x11 x9 x13 x14 i1)/\zp0 x16 x15 i1->True/\slP byV x4 x12 i1)/\(∀i2,(j3u x0 x12 x4 x5 x6 x11 x9 x13 x14 i2)/\zp0 x16 x15 i2->GJ.oks i0.2.2.2 i2)/\zw0 i0 x12 x2 x1 x8 x0) x0) x0)
 def jed:=(nat_lit 2+1)*16<=140737488355328/\∃(i0:List Int×GJ),GJ.k i0.2=GJ.k x9.1/\GJ.n i0.2=GJ.n x9.1/\GJ.s i0.2=GJ.s x9.1/\(GJ.y i0.2).1=(GJ.y x9.1).1/\(GJ.y i0.2).2.1=(GJ.y x9.1).2.1/\(GJ.y i0.2).2.2=(GJ.y x9.1).2.2/\(GJ.x i0.2).1=(GJ.x x9.1).1/\(GJ.x i0.2).2.1=(GJ.x x9.1).2.1/\(GJ.x i0.2).2.2=(GJ.x x9.1).2.2/\zvu x10 (z09 x1 x9.2.1=z09 x1 x9.2.1/\(0<=z09 x1 x9.2.1/\z09 x1 x9.2.1<=(↑(length i0.1):Int)/\z0g i0.1/\GJ.wf i0.2)/\(∀i1,(z5w x0 x6 x4 i1)/\GJ.ok x9.1 i1->j3t x10 i0 i1)/\(nat_lit 2+1)*80<=140737488355328/\zvr x9/\∀(i2 i3 i4:Nat) (i5:Option Addr) (i6 i7:Nat),(∃i8,j3u x0 x6 x4 i7 x1 x7 x9 i0 i5 i8)->∀(i9 i10 i11:Nat) (i12:Option Addr) (i13 i14:Nat),(∃i15,(j3u x0 x6 x4 i7 x1 x7 x9 i0 i5 i15)/\zp0 i14 i12 i15)->jef x0 x12 x2 x3 x4 i7 x1 x11 x8 x9 x10 x7 x6 i0 i5 i12 i14)
 def j96:=(((z5w x0 x1 x4 x19)/\GJ.ok x9.1 x19)/\∀(i0:Nat) (i1:Value),[int i64 4,int i64 0,string (mkS [102]++x7),slice noA 0 0,slice noA 0 0,int i64 (GJ.k x9.1),int i64 (GJ.n x9.1),string (GJ.s x9.1),slice (GJ.y x9.1).1 (GJ.y x9.1).2.1 (GJ.y x9.1).2.2,slice (GJ.x x9.1).1 (GJ.x x9.1).2.1 (GJ.x x9.1).2.2][i0]? =some i1->q67 x19 (Addr.add (Addr.mk x5 x16 none) i0)=some i1)
 def zvw:=∀(i0:Nat) (i1:Value),[string (zei),string (zeh)][i0]? =some i1->q67 x19 (Addr.add (Addr.mk x5 x16 none) i0)=some i1
 def jeg:=zvs x0 (∃(i0:RlS),x7=x7/\zvt i0 x1 x2 x3 x4 x10 (i0.2.1=z09 x6 x9.2.1/\z00 GJ.cells i0.2.2.2=z00 GJ.cells x0.2.2.2++[int i64 6,int i64 0,string (mkS []),slice (some (Addr.mk x5 (x16+nat_lit 0) none)) (nat_lit 2) (nat_lit 2),slice (some (Addr.mk x17 (x18+nat_lit 0) none)) (nat_lit 2) (nat_lit 2)]/\zvx i0 x9 ((∀i1,(j96 x0 x12 x4 x5 x11 x9 x16 i1/\zvw x17 x18 i1)->True/\slP byV x4 x12 i1)/\(∀i6,(j96 x0 x12 x4 x5 x11 x9 x16 i6/\zvw x17 x18 i6)->GJ.oks i0.2.2.2 i6)/\zw0 i0 x12 x2 x1 x8 x0) x0) x0)
 def jec:=((-9223372036854775808:Int)<=97+x0.1/\(97:Int)+x0.1<=9223372036854775807)/\∃i0,size i0=1/\qh1 [int u8 (IntKind.wrap u8 ((97:Int)+x0.1))] 0 (q19 i0)/\size (mkS [102])+size i0<=9223372036854775807/\mkS [102]++i0=mkS [102]++i0/\True/\True/\zvr x9/\∃(i1:List Int),(3:Int)=3/\zvu x10 (x9.2.1=x9.2.1/\(0<=x9.2.1/\x9.2.1<=(↑(length i1):Int)/\(0:Int)<3/\(3:Int)<1000000/\z0g i1)/\(∀i2,(z5w x0 x1 x4 i2)/\GJ.ok x9.1 i2->slP byV (x10.1.1,x10.1.2.1,x10.1.2.2) i1 i2)/\Ji (z0h i1 x9.2.1 (3:Int)=0) (jed x0 i1 x2 x3 x4 x1 i0 x8 x9 x10 x7 x6) (∀(i22 i23 i24:Nat),(∃i25,((z5w x0 x1 x4 i25)/\GJ.ok x9.1 i25)/\q3f i25 (Addr.mk i22 i23 none) [int i64 4,int i64 0,string (mkS [102]++i0),slice noA 0 0,slice noA 0 0,int i64 (GJ.k x9.1),int i64 (GJ.n x9.1),string (GJ.s x9.1),slice (GJ.y x9.1).1 (GJ.y x9.1).2.1 (GJ.y x9.1).2.2,slice (GJ.x x9.1).1 (GJ.x x9.1).2.1 (GJ.x x9.1).2.2])->∀(i26 i27 i28:Nat),(∃i29,j96 x0 x1 x4 i22 i0 x9 i23 i29/\q3f i29 (Addr.mk i26 i27 none) [string (zei),string (zeh)])->jeg x0 x6 x2 x3 x4 i22 i1 x7 x8 x9 x10 i0 x1 i23 i26 i27))
 def jeb:=Jb (x2+1)/\∃(i0:TrS),i0.2.2.2.1=x2+1/\i0.1.1=x4.1/\i0.1.2.1=x4.2.1/\i0.1.2.2=x4.2.2/\i0.2.2.1=x0.2.1/\z00 txV i0.2.2.2.2=z00 txV x0.2.2.1/\length i0.2.2.2.2=length x0.2.2.1/\(z5q i0<x5/\z40 4 i0)/\(∀i1,z5w x0 x1 x4 i1->slP byV i0.1 i0.2.1 i1)/\∀(i2:TrB),z15 i0.2.1 i0.2.2.1 i0.2.2.2.2 i2->(∃i3,(z5w x0 x1 x4 i3)/\GJ.ok i2.1 i3)->jec x0 x1 x3 x2 x4 x6 x7 x8 i2 i0
 def zoz:=AV.agg [AV.int i64 5,AV.int i64 0,AV.str [],AV.ssl (nat_lit 7) (nat_lit 0) (length x0.2.2.2) (nat_lit 5) (nat_lit 8),AV.nsl]=AV.agg [AV.int i64 5,AV.int i64 0,AV.str [],AV.ssl (nat_lit 7) (nat_lit 0) (length x0.2.2.2) (nat_lit 5) (nat_lit 8),AV.nsl]
 def zp1:=(z5w x0 x1 x4 x19)/\length x0.2.2.2<=x5/\qhc x19 x14 (take (length x0.2.2.2*nat_lit 5) (z00 GJ.cells x0.2.2.2))
 abbrev zw2:=mkS [114,101,99,111,114,100]
 def jat:=((zp1 x0 x1 x4 x5 x14 x19)/\∀(i0:Nat) (i1:Value),[int i64 4,int i64 0,string (zw2),slice noA 0 0,slice noA 0 0,int i64 4,int i64 0,string x7,slice noA 0 0,slice noA 0 0,int i64 4,int i64 0,string (mkS [115]),slice noA 0 0,slice noA 0 0,int i64 5,int i64 0,string (mkS []),slice x14 (length x0.2.2.2) x5,slice noA 0 0][i0]? =some i1->q67 x19 (Addr.add (Addr.mk x16 x17 none) i0)=some i1)
 abbrev zvv:=mkS [110,97,109,101,115,112,97,99,101]
 abbrev zw1:=mkS [102,105,101,108,100,115]
 def jee:=mkS [114,101,99,111,114,100]=mkS [114,101,99,111,114,100]/\True/\x7=x7/\True/\mkS [115]=mkS [115]/\True/\True/\zoz x0/\zoz x0/\zoz x0/\∀(i0 i1 i2:Nat) (i3:Option Addr) (i4 i5:Nat),(∃i6,zp1 x0 x1 x4 i5 i3 i6)->∀(i7 i8 i9:Nat),(∃i10,(zp1 x0 x1 x4 i5 i3 i10)/\q3f i10 (Addr.mk i7 i8 none) [int i64 4,int i64 0,string (zw2),slice noA 0 0,slice noA 0 0,int i64 4,int i64 0,string x7,slice noA 0 0,slice noA 0 0,int i64 4,int i64 0,string (mkS [115]),slice noA 0 0,slice noA 0 0,int i64 5,int i64 0,string (mkS []),slice i3 (length x0.2.2.2) i5,slice noA 0 0])->∀(i11 i12 i13:Nat),(∃i14,jat x0 x1 x4 i5 x7 i3 i7 i8 i14/\q3f i14 (Addr.mk i11 i12 none) [string (zeh),string (zei),string (zvv),string (zw1)])->∃(i17:TrB),GJ.k i17.1=6/\GJ.n i17.1=0/\GJ.s i17.1=mkS []/\(GJ.y i17.1).1=some (Addr.mk i7 (i8+nat_lit 0) none)/\(GJ.y i17.1).2.1=nat_lit 4/\(GJ.y i17.1).2.2=nat_lit 4/\(GJ.x i17.1).1=some (Addr.mk i11 (i12+nat_lit 0) none)/\(GJ.x i17.1).2.1=nat_lit 4/\(GJ.x i17.1).2.2=nat_lit 4/\zp2 x4 (i17.2.1=x0.2.1/\z00 txV i17.2.2=z00 txV x0.2.2.1/\length i17.2.2=length x0.2.2.1/\z15 x1 x2 x8 i17/\(∀i18,(jat x0 x1 x4 i5 x7 i3 i7 i8 i18/\∀(i21:Nat) (i22:Value),[string (zeh),string (zei),string (zvv),string (zw1)][i21]? =some i22->q67 i18 (Addr.add (Addr.mk i11 i12 none) i21)=some i22)->GJ.ok i17.1 i18)/\True)
 def jea:=Ji (x0.1<z0h x1 x2 5) (jeb x0 x6 x3 x2 x4 x5 x1 x7 x8) (jee x0 x6 x2 x4 x7 x8)
end
def znd(c:Nat) (s:ByteArray) (x:SV) (L:List Int) (n d:Int) (N:List ByteArray):qkj P (qfv [(37,zrc),(81,zd9),(80,z67),(82,z4u)]) (qgy [(79,z5p.below z5q c)]) Try.f47 (z24.below zts (c+1)) (zcx) ⟨s,x,L,n,d,N⟩=(zts (s,x,L,n,d,N)<c+1/\size s<100/\z40 3 (x,L,n,d,N)->(∃(p:Pub),True/\slP byV x L p)->∃(b:List Int),(5:Int)=5/\zp2 x (n=n/\(0<=n/\n<=(↑(length b):Int)/\(0:Int)<5/\(5:Int)<1000000/\z0g b)/\(∀(p:Pub),True/\slP byV x L p->slP byV (x.1,x.2.1,x.2.2) b p)/\(∃(s_1:RlS),s=s/\z0h b n (5:Int)=z0h b n 5/\d=d/\s_1.1=0/\zp2 x (s_1.2.1=z09 b n/\z00 txV s_1.2.2.1=z00 txV N/\length s_1.2.2.1=length N/\length s_1.2.2.2=0/\(∀(p:Pub),True/\slP byV x L p->True/\slP byV x L p)/\(∀(p:Pub),True/\slP byV x L p->GJ.oks s_1.2.2.2 p)/\zng L n N (z0h b n 5) s_1/\True))/\∀(s_1:RlS),zng L n N (z0h b n 5) s_1->(∃(p:Pub),z5w s_1 L x p)->jea s_1 b n d x c L s N)):=by kernel_rfl
def zub:=λc s x L n d N=>Eq.trans (znd c s x L n d N) (by delta Ji Jb Jt Jf zp2 z5w zvy zvz zvr zvu j3t zjl j3u zei zeh zp0 zvs zvt zvx zw0 jef jed j96 zvw jeg jec jeb zoz zp1 zw2 jat zvv zw1 jee jea;exact rfl)
section
def leaf(k n:Int) (s:ByteArray):GJ:= .mk k n s (none,0,0) [] (none,0,0) []
variable {s:ByteArray} {p:Pub}
def z0e{k n:Int}:(leaf k n s).ok p:=by
 unfold leaf;rw[GJ.ok];exact⟨z06,z06,by rw[GJ.oks];trivial⟩
def z0f{k n:Int} (h:s.size<1000) (h0: -9223372036854775808<=n) (h1:n<9223372036854775808):(leaf k n s).wf:=by
 unfold leaf;rw[GJ.wf];exact⟨h,by decide,by decide,λt ht=>(by cases ht),⟨h0,h1⟩,λ_=>rfl,by rw[GJ.wfs];trivial⟩
variable {l:List GJ}
def z02{g:GJ} (h1:g.ok p) (h2:GJ.oks l p):GJ.oks (g::l) p:=by rw[GJ.oks];exact⟨h1,h2⟩
def z0w:GJ.oks [] p:=by rw[GJ.oks];trivial
def z03{g:GJ} (h1:g.wf) (h2:GJ.wfs l):GJ.wfs (g::l):=by rw[GJ.wfs];exact⟨h1,h2⟩
def z0x:GJ.wfs []:=by rw[GJ.wfs];trivial
variable {α:Type}
def z4a{f:α->List Value} {l:List α} {a:Option Addr} {n c:Nat} (hn:n=l.length) (h:qhd p a n c (z00 f l)):slP f (a,n,c) l p:=⟨hn,h⟩
def z0s{f:α->List Value} {l:List α} {b s n c:Nat} (hn:n=l.length) (hc:n<=c) (h:q3f p ⟨b,s,none⟩ (z00 f l)):slP f (some ⟨b,s+0,none⟩,n,c) l p:=⟨hn,hc, .inr ⟨_,rfl,rfl,h⟩⟩
def lsJ(x:SV) (l:List GJ):GJ:= .mk 5 0 (mkS []) x l (none,0,0) []
variable {x:SV}
def z57(h1:slP GJ.cells x l p) (h2:GJ.oks l p):(lsJ x l).ok p:=by
 unfold lsJ;rw[GJ.ok];exact⟨h1,z06,h2⟩
def z58(h1:l.length<1000) (h2:GJ.wfs l):(lsJ x l).wf:=by
 unfold lsJ;rw[GJ.wf];exact⟨by decide,h1,Nat.zero_le _,λt ht=>(by cases ht),⟨by omega,by omega⟩,λh=>absurd h (by decide),h2⟩
def tbJ(x:SV) (l:List GJ) (y:SV) (nm:List ByteArray):GJ:= .mk 6 0 (mkS []) x l y nm
variable {nm:List ByteArray}
def z4b{y:SV} (h1:slP GJ.cells x l p) (h3:slP txV y nm p) (h2:GJ.oks l p):(tbJ x l y nm).ok p:=by
 unfold tbJ;rw[GJ.ok];exact⟨h1,h3,h2⟩
def z4c{y:SV} (h1:l.length<1000) (h3:nm.length=l.length) (h4:∀t∈nm,t.size<1000) (h2:GJ.wfs l):(tbJ x l y nm).wf:=by
 unfold tbJ;rw[GJ.wf];exact⟨by decide,h1,by omega,h4,⟨by omega,by omega⟩,λ_=>h3,h2⟩
variable {L:List Int}
def zmz{n:Int} (h:n<L.length):z09 L n=n+1:=by unfold z09;rw[if_neg (by omega)]
def zn0{n m:Int} (h:z0h L n m≠0):n<L.length:=by
 unfold z0h at h
 split at h
 ·exact absurd rfl h
 ·omega
def zra(c:Nat) (h:c<256):q19 (mkS [c])=[.int .u8 (c:Nat)]:=by
 simp[q19,mkS]
 omega
def zj6(n:Nat):IntKind.wrap .u8 (97+(n:Int).tmod 26)=((97+n % 26:Nat):Int):=by
 rw[z8q,Int.tmod_eq_emod_of_nonneg (by omega)];omega
def z52{α:Type} {f:α->List Value} {l:List α} {p:Pub} {x:Addr} (k:Nat) (h:q3f p x (z00 f l)):q3f p x (z00 f (l.take k)):=λj v hj=>by
 refine h j v ?_
 conv at hj=>lhs;rw[show z00 f (l.take k)=z00 f (l.take k)from rfl]
 have e:z00 f l=z00 f (l.take k)++z00 f (l.drop k):=by rw[←z07,List.take_append_drop]
 rw[e,List.getElem?_append_left (List.getElem?_eq_some_iff.mp hj).1];exact hj
def slH(b s:Nat) (r:Int):SV:=(slA (some ⟨b,s+0,none⟩) 3 0 5,(@Int.rec (λ_=>Nat) (λa=>a) (λ_=>0) (1+r))- 0,3- 0)
def syL(r:Int):List GJ:=[leaf 4 0 (mkS [88]),leaf 4 0 (mkS [89]),leaf 4 0 (mkS [90])].take (1+r).toNat
def j1q{b s:Nat} {r:Int} (h0:0<=r) (h1:r<3) (h:q3f p ⟨b,s,none⟩ (z00 GJ.cells [leaf 4 0 (mkS [88]),leaf 4 0 (mkS [89]),leaf 4 0 (mkS [90])])):slP GJ.cells (slH b s r) (syL r) p/\GJ.oks (syL r) p:=by
 have:r=0\/r=1\/r=2:=by omega
 rcases this with rfl|rfl|rfl
 ·exact⟨⟨rfl,show 1<=3 by decide, .inr ⟨⟨b,s,none⟩,rfl,rfl,z52 1 h⟩⟩,z02 z0e z0w⟩
 ·exact⟨⟨rfl,show 2<=3 by decide, .inr ⟨⟨b,s,none⟩,rfl,rfl,z52 2 h⟩⟩,z02 z0e (z02 z0e z0w)⟩
 ·exact⟨⟨rfl,show 3<=3 by decide, .inr ⟨⟨b,s,none⟩,rfl,rfl,h⟩⟩,z02 z0e (z02 z0e (z02 z0e z0w))⟩
def zni{r:Int} (h0:0<=r) (h1:r<3):(syL r).length<1000/\GJ.wfs (syL r):=by
 have:r=0\/r=1\/r=2:=by omega
 rcases this with rfl|rfl|rfl
 ·exact⟨by decide,z03 (z0f (by decide) (by omega) (by omega)) z0x⟩
 ·exact⟨by decide,z03 (z0f (by decide) (by omega) (by omega)) (z03 (z0f (by decide) (by omega) (by omega)) z0x)⟩
 ·exact⟨by decide,z03 (z0f (by decide) (by omega) (by omega)) (z03 (z0f (by decide) (by omega) (by omega)) (z03 (z0f (by decide) (by omega) (by omega)) z0x))⟩
def znu(c:Nat) (ht:q1u P 79 (z5p.below z5q c)):q1u P 115 (zbl.below z5q (c+1)):=by
 refine qjr mixed (qdh (qh9 z6c (qh9 z7d qk5))) (qe7 (qh8 ht qk4)) (W:=zs4) Try.func115 (by kernel_rfl) (show 1<=5 by decide) (show 5<=7 by decide) (λs=>by kernel_rfl) λ⟨(x:SV),(L:List Int),(n:Int),(d:Int),N⟩=>(union_eq c x L n d N).mpr ?_
 rintro⟨hmu,hn0,hn1,hL,hd0,hd1,hN,hNs⟩ ⟨p,_,hp⟩
 have hmu:(10- d).toNat<c+1:=hmu
 simp only[sbS,Int.toNat_natCast]
 have nb:=z1a hn1
 refine⟨L,⟨hn0,hn1,by omega,by omega,hL⟩,λq hq=>hq,λh0=> ?_,λh0=> ?_⟩
 ·have nb2:=z1a nb.2.1
  have hr:=z16 (n:=z09 L n) (m:=2) hL (by omega)
  obtain⟨s,hs,hsz⟩:∃s:ByteArray,(∀(j:Nat) (v:Value),[Value.string s][j]? =some v->[Value.string (mkS [105,110,116]),Value.string (mkS [115,116,114,105,110,103])][0+(z0h L (z09 L n) 2).toNat*1+j]? =some v)/\s.size<1000:=by
   have:z0h L (z09 L n) 2=0\/z0h L (z09 L n) 2=1:=by omega
   rcases this with e|e
   ·rw[e];exact⟨mkS [105,110,116],λj v hj=>by cases j with|zero=>exact hj|succ j=>simp at hj,by decide⟩
   ·rw[e];exact⟨mkS [115,116,114,105,110,103],λj v hj=>by cases j with|zero=>exact hj|succ j=>simp at hj,by decide⟩
  refine⟨L,⟨by omega,nb.2.1,by omega,by omega,hL⟩,λq hq=>hq,hr,s,hs,by decide,by omega,⟨x,L,z09 L (z09 L n),d+1,N⟩,rfl,rfl,rfl,rfl,rfl,rfl,rfl,⟨?_,by omega,nb2.2.1,hL,by omega,by omega,by omega,hNs⟩,λq hq=>hq,?_⟩
  ·show(10- (d+1)).toNat<c;omega
  rintro⟨g,n',N'⟩ ⟨hw,p1,p2,p3,p4,p5⟩ _
  simp only at p1 p2 p3 p4
  refine⟨λhk=>⟨rfl,by decide,λ_ _ _ a m cc _=>⟨⟨lsJ (a,3,cc) [leaf 4 0 (mkS [110,117,108,108]),leaf 4 0 s,g],n',N'⟩,rfl,rfl,rfl,rfl,rfl,rfl,rfl,rfl,rfl,rfl,rfl,rfl,rfl,rfl,rfl,⟨?_,by omega,p2,p3,by omega,p5⟩,λq hq=> ?_⟩⟩,λhk _ _ _ a m cc _=>⟨⟨lsJ (a,2,cc) [leaf 4 0 (mkS [110,117,108,108]),leaf 4 0 s],n',N'⟩,rfl,rfl,rfl,rfl,rfl,rfl,rfl,rfl,rfl,rfl,rfl,rfl,rfl,rfl,rfl,⟨?_,by omega,p2,p3,by omega,p5⟩,λq hq=> ?_⟩⟩
  ·exact z58 (by simp) (z03 (z0f (by decide) (by omega) (by omega)) (z03 (z0f hsz (by omega) (by omega)) (z03 hw z0x)))
  ·exact z57 (z4a rfl hq.2) (z02 z0e (z02 z0e (z02 hq.1.2 z0w)))
  ·exact z58 (by simp) (z03 (z0f (by decide) (by omega) (by omega)) (z03 (z0f hsz (by omega) (by omega)) z0x))
  ·exact z57 (z4a rfl hq.2) (z02 z0e (z02 z0e z0w))
 ·refine⟨by omega,⟨x,L,z09 L n,d+1,N⟩,rfl,rfl,rfl,rfl,rfl,rfl,rfl,⟨?_,by omega,nb.2.1,hL,by omega,by omega,by omega,hNs⟩,λq hq=>hq,?_⟩
  ·show(10- (d+1)).toNat<c;omega
  rintro⟨g,n',N'⟩ ⟨hw,p1,p2,p3,p4,p5⟩ _
  simp only at p1 p2 p3 p4
  refine⟨λhk=>⟨by decide,λ_ _ _ a m cc _=>⟨⟨lsJ (a,2,cc) [leaf 4 0 (mkS [110,117,108,108]),g],n',N'⟩,rfl,rfl,rfl,rfl,rfl,rfl,rfl,rfl,rfl,rfl,rfl,rfl,rfl,rfl,rfl,⟨?_,by omega,p2,p3,by omega,p5⟩,λq hq=> ?_⟩⟩,λhk b2 s2 _ _=>⟨⟨lsJ (some ⟨b2,s2+0,none⟩,1,1) [leaf 4 0 (mkS [110,117,108,108])],n',N'⟩,rfl,rfl,rfl,rfl,rfl,rfl,rfl,rfl,rfl,rfl,rfl,rfl,rfl,rfl,rfl,⟨?_,by omega,p2,p3,by omega,p5⟩,λq hq=> ?_⟩⟩
  ·exact z58 (by simp) (z03 (z0f (by decide) (by omega) (by omega)) (z03 hw z0x))
  ·exact z57 (z4a rfl hq.2) (z02 z0e (z02 hq.1.2 z0w))
  ·exact z58 (by simp) (z03 (z0f (by decide) (by omega) (by omega)) z0x)
  ·exact z57 (z0s rfl (Nat.le_refl _) hq.2) (z02 z0e z0w)
def zup(c:Nat) (ht:q1u P 79 (z5p.below z5q c)) (hu:q1u P 115 (zbl.below z5q (c+1))) (hr:q1u P 47 (z24.below zts (c+1))):q1u P 79 (z5p.below z5q (c+1)):=by
 refine qjr mixed (qdh (qh9 z6c (qh9 z9u (qh9 z7d (qh9 zcj qk5))))) (qe7 (qh8 ht (qh8 hu (qh8 hr qk4)))) (W:=j2a) Try.func79 (by kernel_rfl) (show 1<=5 by decide) (show 5<=7 by decide) (λs=>by kernel_rfl) λ⟨(x:SV),(L:List Int),(n:Int),(d:Int),N⟩=>(zuo c x L n d N).mpr ?_
 rintro⟨hmu,hn0,hn1,hL,hd0,hd1,hN,hNs⟩ ⟨p,_,hp⟩
 have hmu:(10- d).toNat<c+1:=hmu
 simp only[sbS,Int.toNat_natCast,exists_const]
 have nb:=z1a hn1
 have hLl:=hL.1
 have hr0:=z16 (n:=n) (m:=20) hL (by omega)
 have small8:3<d->(8:Int)≠0/\∃s,s=(z0h L n 20).tmod 8/\z09 L n=z09 L n/\0<=s/\s<20/\(8<=s->d<=3/\n<L.length):=λh=>by
  have e:(z0h L n 20).tmod 8=z0h L n 20 % 8:=Int.tmod_eq_emod_of_nonneg hr0.1
  exact⟨by decide,_,rfl,rfl,by omega,by omega,λh=>by omega⟩
 have small9:(8:Int)≠0/\∃s,s=(z0h L n 20).tmod 8/\z09 L n=z09 L n/\0<=s/\s<20/\(8<=s->d<=3/\n<L.length):=by
  have e:(z0h L n 20).tmod 8=z0h L n 20 % 8:=Int.tmod_eq_emod_of_nonneg hr0.1
  exact⟨by decide,_,rfl,rfl,by omega,by omega,λh=>by omega⟩
 refine⟨L,⟨hn0,hn1,by omega,by omega,hL⟩,λq hq=>hq,⟨small8,λhd3=>⟨L,λq hq=>hq,λ_=>small9,λ_=>⟨_,rfl,rfl,hr0.1,hr0.2,λh=>⟨by omega,zn0 (m:=20) (by omega)⟩⟩⟩⟩,?_⟩
 rintro k ⟨hk0,hk1,hk2⟩
 refine⟨⟨λh8=> ?_,λh8=>⟨λh10=> ?_,λh10=>⟨λh1=> ?_,λh1=>⟨λh14=> ?_,λh14=>⟨λe14=>⟨λhN0=> ?_,λ_=>by omega⟩,λ_=>by omega⟩⟩⟩⟩⟩,?_⟩
 ·obtain⟨s,hs,hsz⟩:∃s:ByteArray,(∀(j:Nat) (v:Value),[Value.string s][j]? =some v->[Value.string (mkS [105,110,116]),Value.string (mkS [108,111,110,103]),Value.string (mkS [115,116,114,105,110,103]),Value.string (mkS [98,121,116,101,115]),Value.string (mkS [98,111,111,108,101,97,110]),Value.string (mkS [110,117,108,108]),Value.string (mkS [102,108,111,97,116]),Value.string (mkS [100,111,117,98,108,101])][0+k.toNat*1+j]? =some v)/\s.size<1000:=by
   have:k=0\/k=1\/k=2\/k=3\/k=4\/k=5\/k=6\/k=7:=by omega
   rcases this with rfl|rfl|rfl|rfl|rfl|rfl|rfl|rfl
   all_goals refine⟨_,λj v hj=>by cases j with|zero=>exact hj|succ j=>simp at hj,by decide⟩
  exact⟨⟨hk0,h8⟩,s,hs,⟨leaf 4 0 s,z09 L n,N⟩,rfl,rfl,rfl,rfl,rfl,rfl,rfl,rfl,rfl,rfl,rfl,rfl,⟨z0f hsz (by omega) (by omega),nb.1,nb.2.1,Nat.le_refl _,by omega,hNs⟩,λq hq=>z0e⟩
 ·have hd:=hk2 (by omega)
  refine⟨by omega,⟨x,L,z09 L n,d+1,N⟩,rfl,rfl,rfl,rfl,rfl,rfl,rfl,⟨?_,by omega,nb.2.1,hL,by omega,by omega,by omega,hNs⟩,λq hq=>hq,?_⟩
  ·show(10- (d+1)).toNat<c;omega
  rintro⟨g,n',N'⟩ ⟨hw,p1,p2,p3,p4,p5⟩ _ b1 s1 u1 _ b2 s2 u2 _
  simp only at p1 p2 p3 p4
  exact⟨⟨tbJ (some ⟨b1,s1+0,none⟩,2,2) [leaf 4 0 (mkS [97,114,114,97,121]),g] (some ⟨b2,s2+0,none⟩,2,2) [mkS [116,121,112,101],mkS [105,116,101,109,115]],n',N'⟩,rfl,rfl,rfl,rfl,rfl,rfl,rfl,rfl,rfl,rfl,rfl,rfl,rfl,rfl,rfl,⟨z4c (by simp) rfl (by decide) (z03 (z0f (by decide) (by omega) (by omega)) (z03 hw z0x)),by omega,p2,p3,by omega,p5⟩,λq hq=>z4b (z0s rfl (Nat.le_refl _) hq.1.2) (z0s rfl (Nat.le_refl _) hq.2) (z02 z0e (z02 hq.1.1.2 z0w))⟩
 ·have hd:=hk2 (by omega)
  refine⟨by omega,⟨x,L,z09 L n,d+1,N⟩,rfl,rfl,rfl,rfl,rfl,rfl,rfl,⟨?_,by omega,nb.2.1,hL,by omega,by omega,by omega,hNs⟩,λq hq=>hq,?_⟩
  ·show(10- (d+1)).toNat<c;omega
  rintro⟨g,n',N'⟩ ⟨hw,p1,p2,p3,p4,p5⟩ _ b1 s1 u1 _ b2 s2 u2 _
  simp only at p1 p2 p3 p4
  exact⟨⟨tbJ (some ⟨b1,s1+0,none⟩,2,2) [leaf 4 0 (mkS [109,97,112]),g] (some ⟨b2,s2+0,none⟩,2,2) [mkS [116,121,112,101],mkS [118,97,108,117,101,115]],n',N'⟩,rfl,rfl,rfl,rfl,rfl,rfl,rfl,rfl,rfl,rfl,rfl,rfl,rfl,rfl,rfl,⟨z4c (by simp) rfl (by decide) (z03 (z0f (by decide) (by omega) (by omega)) (z03 hw z0x)),by omega,p2,p3,by omega,p5⟩,λq hq=>z4b (z0s rfl (Nat.le_refl _) hq.1.2) (z0s rfl (Nat.le_refl _) hq.2) (z02 z0e (z02 hq.1.1.2 z0w))⟩
 ·have hd:=hk2 (by omega)
  refine⟨⟨x,L,z09 L n,d,N⟩,rfl,rfl,rfl,rfl,rfl,rfl,rfl,⟨?_,by omega,nb.2.1,hL,by omega,by omega,by omega,hNs⟩,λq hq=>hq,?_⟩
  ·show(10- d).toNat<c+1;omega
  rintro⟨g,n',N'⟩ ⟨hw,p1,p2,p3,p4,p5⟩ _
  simp only at p1 p2 p3 p4
  exact⟨⟨g,n',N'⟩,rfl,rfl,rfl,rfl,rfl,rfl,rfl,rfl,rfl,rfl,rfl,rfl,rfl,rfl,rfl,⟨hw,by omega,p2,p3,by omega,p5⟩,λq hq=>hq.2⟩
 ·have hd:=hk2 (by omega)
  have hN0:0<N.length:=by omega
  have nb2:=z1a nb.2.1
  have hr:=z16 (n:=z09 L n) (m:=N.length) hL (by omega)
  obtain⟨i,hi⟩:=Int.eq_ofNat_of_zero_le hr.1
  have hil:i<N.length:=by omega
  refine⟨L,⟨by omega,nb.2.1,by omega,by omega,hL⟩,λq hq=>hq,hr,N[i],?_,⟨leaf 4 0 N[i],z09 L (z09 L n),N⟩,rfl,rfl,rfl,rfl,rfl,rfl,rfl,rfl,rfl,rfl,rfl,rfl,⟨z0f (by have:=hNs N[i] (List.getElem_mem _);omega) (by omega) (by omega),by omega,nb2.2.1,Nat.le_refl _,by omega,hNs⟩,λq hq=>z0e⟩
  rw[hi,Int.toNat_natCast]
  intro j v hj
  cases j with
  |zero=>rw[Nat.zero_add,z37 z0m N i hil 0 (by decide)];exact hj
  |succ j=>simp at hj
 intro _ h14
 have hd:=hk2 (by omega)
 have e26:(N.length:Int).tmod 26=(N.length:Int) % 26:=Int.tmod_eq_emod_of_nonneg (by omega)
 have hz:(mkS [97+N.length % 26]).size=1:=rfl
 have hn2:(mkS [78]++mkS [97+N.length % 26]).size=2:=by rw[ByteArray.size_append,hz];rfl
 have hnl:n<L.length:=hd.2
 have hnn:=zmz hnl
 refine⟨by decide,by omega,mkS [97+N.length % 26],rfl,?_,by rw[hz];decide,z01 z0m N,by omega,?_⟩
 ·intro j v hj
  rw[zra _ (by omega)]at hj
  rw[zj6,Nat.zero_add];exact hj
 have hN':∀t∈N++[(mkS [78]++mkS [97+N.length % 26])],t.size<100:=λt ht=>by
  rcases List.mem_append.1 ht with h|h
  ·exact hNs t h
  ·simp at h;rw[h];omega
 have hNl:(N++[(mkS [78]++mkS [97+N.length % 26])]).length=N.length+1:=by simp
 have hNr:z00 txV (N++[(mkS [78]++mkS [97+N.length % 26])])=z00 txV N++[Value.string (mkS [78]++mkS [97+N.length % 26])]:=by rw[z07];rfl
 generalize (mkS [78]++mkS [97+N.length % 26])=name at*
 generalize N++[name]=N1 at*
 have nb2:=z1a nb.2.1
 refine⟨λh15=> ?_,λh15=>⟨λh16=> ?_,λh16=> ?_⟩⟩
 ·have hr4:=z16 (n:=z09 L n) (m:=4) hL (by omega)
  refine⟨L,⟨by omega,nb.2.1,by omega,by omega,hL⟩,λq hq=>hq,λb1 s1 u1 _ b2 s2 u2 _=>⟨⟨tbJ (some ⟨b1,s1+0,none⟩,3,3) [leaf 4 0 (mkS [102,105,120,101,100]),leaf 4 0 name,leaf 3 (z0h L (z09 L n) 4) (mkS [])] (some ⟨b2,s2+0,none⟩,3,3) [mkS [116,121,112,101],mkS [110,97,109,101],mkS [115,105,122,101]],z09 L (z09 L n),N1⟩,rfl,rfl,rfl,rfl,rfl,rfl,rfl,rfl,rfl,rfl,hNr,hNl,⟨?_,by omega,nb2.2.1,by omega,by omega,hN'⟩,λq hq=> ?_⟩⟩
  ·exact z4c (by simp) rfl (by decide) (z03 (z0f (by decide) (by omega) (by omega)) (z03 (z0f (by omega) (by omega) (by omega)) (z03 (z0f (by decide) (by omega) (by omega)) z0x)))
  ·exact z4b (z0s rfl (Nat.le_refl _) hq.1.2) (z0s rfl (Nat.le_refl _) hq.2) (z02 z0e (z02 z0e (z02 z0e z0w)))
 ·have hr3:=z16 (n:=z09 L n) (m:=3) hL (by omega)
  have nb3:=z1a nb2.2.1
  generalize hrr:z0h L (z09 L n) 3=r at hr3
  refine⟨L,⟨by omega,nb.2.1,by omega,by omega,hL⟩,λq hq=>hq,?_⟩
  rw[hrr]
  refine⟨by omega,λb1 s1 u1 _=>⟨Nat.le_refl _,by omega,L,⟨by omega,nb2.2.1,by omega,by omega,hL⟩,λq hq=>hq.1,?_,?_⟩⟩
  ·refineλ_=>⟨by decide,by decide,λ_ _ _ a _ cc _ _ _ _ a2 _ cc2 _=>⟨⟨tbJ (a,4,cc) [leaf 4 0 (mkS [101,110,117,109]),leaf 4 0 name,lsJ (slH b1 s1 r) (syL r),leaf 4 0 (mkS [88])] (a2,4,cc2) [mkS [116,121,112,101],mkS [110,97,109,101],mkS [115,121,109,98,111,108,115],mkS [100,101,102,97,117,108,116]],z09 L (z09 L (z09 L n)),N1⟩,rfl,rfl,rfl,rfl,rfl,rfl,rfl,rfl,rfl,rfl,hNr,hNl,⟨?_,by omega,nb3.2.1,by omega,by omega,hN'⟩,λq hq=> ?_⟩⟩
   ·exact z4c (by simp) rfl (by decide) (z03 (z0f (by decide) (by omega) (by omega)) (z03 (z0f (by omega) (by omega) (by omega)) (z03 (z58 (zni hr3.1 hr3.2).1 (zni hr3.1 hr3.2).2) (z03 (z0f (by decide) (by omega) (by omega)) z0x))))
   ·have hsy:=j1q (b:=b1) (s:=s1) hr3.1 hr3.2 hq.1.1.2
    exact z4b (z4a rfl hq.1.2) (z4a rfl hq.2) (z02 z0e (z02 z0e (z02 (z57 hsy.1 hsy.2) (z02 z0e z0w))))
  ·refineλ_ b3 s3 _ _ b4 s4 _ _=>⟨⟨tbJ (some ⟨b3,s3+0,none⟩,3,3) [leaf 4 0 (mkS [101,110,117,109]),leaf 4 0 name,lsJ (slH b1 s1 r) (syL r)] (some ⟨b4,s4+0,none⟩,3,3) [mkS [116,121,112,101],mkS [110,97,109,101],mkS [115,121,109,98,111,108,115]],z09 L (z09 L (z09 L n)),N1⟩,rfl,rfl,rfl,rfl,rfl,rfl,rfl,rfl,rfl,rfl,hNr,hNl,⟨?_,by omega,nb3.2.1,by omega,by omega,hN'⟩,λq hq=> ?_⟩
   ·exact z4c (by simp) rfl (by decide) (z03 (z0f (by decide) (by omega) (by omega)) (z03 (z0f (by omega) (by omega) (by omega)) (z03 (z58 (zni hr3.1 hr3.2).1 (zni hr3.1 hr3.2).2) z0x)))
   ·have hsy:=j1q (b:=b1) (s:=s1) hr3.1 hr3.2 hq.1.1.2
    exact z4b (z0s rfl (Nat.le_refl _) hq.1.2) (z0s rfl (Nat.le_refl _) hq.2) (z02 z0e (z02 z0e (z02 (z57 hsy.1 hsy.2) z0w)))
 ·refine⟨⟨name,x,L,z09 L n,d,N1⟩,rfl,rfl,rfl,rfl,rfl,rfl,hNr,hNl,⟨?_,by show name.size<100;omega,by omega,nb.2.1,hL,hd0,hd.1,by omega,hN'⟩,λq hq=>hq,?_⟩
  ·show(10- d).toNat<c+1;omega
  rintro⟨g,n',N'⟩ ⟨hw,p1,p2,p3,p4,p5⟩ _
  simp only at p1 p2 p3 p4
  exact⟨⟨g,n',N'⟩,rfl,rfl,rfl,rfl,rfl,rfl,rfl,rfl,rfl,rfl,rfl,rfl,rfl,rfl,rfl,⟨hw,by omega,p2,by omega,by omega,p5⟩,λq hq=>hq.2⟩
end
def z9t:∀{l m:List GJ} {p:Pub},GJ.oks l p->GJ.oks m p->GJ.oks (l++m) p
  | [],m,p,h1,h2=>h2
  | g::l,m,p,h1,h2=>by
    rw[GJ.oks]at h1
    exact z02 h1.1 (z9t h1.2 h2)
def za2:∀{l m:List GJ},GJ.wfs l->GJ.wfs m->GJ.wfs (l++m)
  | [],m,h1,h2=>h2
  | g::l,m,h1,h2=>by
    rw[GJ.wfs]at h1
    exact z03 h1.1 (za2 h1.2 h2)
def zhs(c:Nat) (ht:q1u P 79 (z5p.below z5q c)):q1u P 47 (z24.below zts (c+1)):=by
 refine qjr mixed (qdh (qh9 z6c (qh9 z7d (qh9 zcj (qh9 zsv qk5))))) (qe7 (qh8 ht qk4)) (W:=zcx) Try.func47 (by kernel_rfl) (show 1<=5 by decide) (show 5<=7 by decide) (λs=>by kernel_rfl) λ⟨s,(x:SV),(L:List Int),(n:Int),(d:Int),N⟩=>(zub c s x L n d N).mpr ?_
 rintro⟨hmu,hss,hn0,hn1,hL,hd0,hd1,hN,hNs⟩ ⟨p,_,hp⟩
 have hmu:(10- d).toNat<c+1:=hmu
 simp only[sbS,Int.toNat_natCast,exists_const]
 have nb:=z1a hn1
 have hLl:=hL.1
 have hr5:=z16 (n:=n) (m:=5) hL (by omega)
 refine⟨L,⟨hn0,hn1,by omega,by omega,hL⟩,λq hq=>hq,⟨⟨0,z09 L n,N,[]⟩,rfl,rfl,rfl,rfl,rfl,λq hq=>z0w,by omega,by omega,by omega,rfl,z0x,nb.1,nb.2.1,Nat.le_refl _,by omega,hNs⟩,?_⟩
 rintro⟨i,n1,N1,fs⟩ ⟨i0,i1,i2,hfl,hfw,q1,q2,q3,q4,q5⟩ _
 simp only at i0 i1 i2 hfl hfw q1 q2 q3 q4 q5⊢
 refine⟨λhlt=>⟨by omega,⟨x,L,n1,d+1,N1⟩,rfl,rfl,rfl,rfl,rfl,rfl,rfl,⟨?_,by omega,q2,hL,by omega,by omega,by omega,q5⟩,λq hq=>hq.1,?_⟩,λhge=> ?_⟩
 ·show(10- (d+1)).toNat<c;omega
 ·rintro⟨g,n2,N2⟩ ⟨hw,p1,p2,p3,p4,p5⟩ _
  simp only at p1 p2 p3 p4
  have hr3:=z16 (n:=n2) (m:=3) hL (by omega)
  have nb2:=z1a p2
  have dfb:=zst (g:=g) (L:=L) (n:=z09 L n2) hL nb2.2.1
  obtain⟨e,rfl⟩:=Int.eq_ofNat_of_zero_le i0
  have hz:(mkS [97+e]).size=1:=rfl
  have hsz:(mkS [102]++mkS [97+e]).size=2:=by rw[ByteArray.size_append,hz];rfl
  refine⟨by omega,mkS [97+e],rfl,?_,by rw[hz];decide,L,⟨by show 0<=n2;omega,p2,by omega,by omega,hL⟩,λq hq=>hq.1.1,λh0=>⟨by decide,⟨L,g⟩,rfl,rfl,rfl,rfl,rfl,rfl,rfl,rfl,rfl,⟨by show 0<=z09 L n2;omega,nb2.2.1,hL,hw⟩,λq hq=>⟨hq.1.1,hq.2⟩,by decide,λ_ _ _ a _ cc _ _ _ _ a2 _ cc2 _=>⟨z01 z48 fs,by omega,by omega,⟨(e:Int)+1,(z35 g L (z09 L n2)).2.2.2,N2,fs++[tbJ (a,3,cc) [leaf 4 0 (mkS [102]++mkS [97+e]),g,leaf (z35 g L (z09 L n2)).1 (z35 g L (z09 L n2)).2.1 (z35 g L (z09 L n2)).2.2.1] (a2,3,cc2) [mkS [110,97,109,101],mkS [116,121,112,101],mkS [100,101,102,97,117,108,116]]]⟩,rfl,rfl,rfl,rfl,rfl,?_,rfl,rfl,by simp,λq hq=>hq.1.1.1.1,λq hq=> ?_,?_,?_⟩⟩,λh0 b3 s3 _ _ b4 s4 _ _=>⟨z01 z48 fs,by omega,by omega,⟨(e:Int)+1,z09 L n2,N2,fs++[tbJ (some ⟨b3,s3+0,none⟩,2,2) [leaf 4 0 (mkS [102]++mkS [97+e]),g] (some ⟨b4,s4+0,none⟩,2,2) [mkS [110,97,109,101],mkS [116,121,112,101]]]⟩,rfl,rfl,rfl,rfl,rfl,?_,rfl,rfl,by simp,λq hq=>hq.1.1.1.1,λq hq=> ?_,?_,?_⟩⟩
  ·intro j v hj
   rw[zra _ (by omega)]at hj
   rw[show IntKind.wrap .u8 (97+(e:Int))=((97+e:Nat):Int)by rw[z8q];omega,Nat.zero_add];exact hj
  ·rw[z07];rfl
  ·exact z9t hq.1.1.1.2 (z02 (z4b (z4a rfl hq.1.2) (z4a rfl hq.2) (z02 z0e (z02 hq.1.1.2 (z02 z0e z0w)))) z0w)
  ·refine⟨by omega,by omega,i2,by rw[List.length_append];show((fs.length+1:Nat):Int)=_;omega,za2 hfw (z03 (z4c (by simp) rfl (by decide) (z03 (z0f (by omega) (by omega) (by omega)) (z03 hw (z03 (z0f (by omega) (by omega) (by omega)) z0x)))) z0x),by omega,dfb.1.2,by omega,by omega,p5⟩
  ·show(z0h L n 5- ((e:Int)+1)).toNat<_;omega
  ·rw[z07];rfl
  ·exact z9t hq.1.1.1.2 (z02 (z4b (z0s rfl (Nat.le_refl _) hq.1.2) (z0s rfl (Nat.le_refl _) hq.2) (z02 z0e (z02 hq.1.1.2 z0w))) z0w)
  ·refine⟨by omega,by omega,i2,by rw[List.length_append];show((fs.length+1:Nat):Int)=_;omega,za2 hfw (z03 (z4c (by simp) rfl (by decide) (z03 (z0f (by omega) (by omega) (by omega)) (z03 hw z0x))) z0x),by omega,nb2.2.1,by omega,by omega,p5⟩
  ·show(z0h L n 5- ((e:Int)+1)).toNat<_;omega
 ·intro _ _ _ a _ cc _ b3 s3 _ _ b4 s4 _ _
  refine⟨⟨tbJ (some ⟨b3,s3+0,none⟩,4,4) [leaf 4 0 (mkS [114,101,99,111,114,100]),leaf 4 0 s,leaf 4 0 (mkS [115]),lsJ (a,fs.length,cc) fs] (some ⟨b4,s4+0,none⟩,4,4) [mkS [116,121,112,101],mkS [110,97,109,101],mkS [110,97,109,101,115,112,97,99,101],mkS [102,105,101,108,100,115]],n1,N1⟩,rfl,rfl,rfl,rfl,rfl,rfl,rfl,rfl,rfl,rfl,rfl,rfl,⟨?_,q1,q2,q3,q4,q5⟩,λq hq=> ?_⟩
  ·exact z4c (by simp) rfl (by decide) (z03 (z0f (by decide) (by omega) (by omega)) (z03 (z0f (by omega) (by omega) (by omega)) (z03 (z0f (by decide) (by omega) (by omega)) (z03 (z58 (by omega) hfw) z0x))))
  ·have e1:List.take (fs.length*5) (z00 GJ.cells fs)=z00 GJ.cells fs:=List.take_of_length_le (by rw[z01 z48];exact Nat.le_refl _)
   have e2:=hq.1.1.2
   rw[e1]at e2
   exact z4b (z0s rfl (Nat.le_refl _) hq.1.2) (z0s rfl (Nat.le_refl _) hq.2) (z02 z0e (z02 z0e (z02 z0e (z02 (z57 (z4a rfl e2) hq.1.1.1.2) z0w))))
def z3h:∀c,q1u P 79 (z5p.below z5q c)/\q1u P 47 (z24.below zts c)
 |0=>⟨CtR.below_zero (by decide) (by decide) (Sen.enters_of Try.func79 (by kernel_rfl)) λs=>rfl,CtR.below_zero (by decide) (by decide) (Sen.enters_of Try.func47 (by kernel_rfl)) λs=>rfl⟩
 |c+1=>⟨zup c (z3h c).1 (znu c (z3h c).1) (zhs c (z3h c).1),zhs c (z3h c).1⟩
def zne:q1u P 47 z24:=CtR.of_below λc=>(z3h c).2
def mkO(S:List AT) (e:Int) (r k:Nat):List (Nat×AO):=[(1, .cells 98 (some 0) false [.ssl r 0 S.length 10 k, .sv (.int .i64 e)]),(r, .row 61 0 (z00 AT.cells S))]
def mkE(h:T AO) (id:Nat):Option Int:=match h.get id with
  | some (.cells _ _ _ [_,e])=>match gi e with
    |some (_,e)=>some e
    |none=>none
  |_=>none
def zuf(l:List AV) (h:T AO):Option (Sel (List AT×Int×Int)):=match l with
  | [.ptr id _,e]=>match mkE h id with
    | some e0=>match gi e with
      |some (_,e)=>some ⟨List AT,λS=>(S,e0,e)⟩
      |none=>none
    |none=>none
  |_=>none
def faE(e0 e:Int):Int:=if e0=0 then e else e0
def z2a:Ct where
 σ:=List AT×Int×Int
 args:=λ⟨S,e0,e⟩=>[.ptr 1 0, .sv (.int .i64 e)]
 h:=λ⟨S,e0,e⟩=>mkO S e0 2 3
 m:=4
 sel:=some zuf
 r:=λ⟨S,e0,e⟩=> .int .i64 0
 h':=λ⟨S,e0,e⟩=>mkO S (faE e0 e) 2 3
 m':=4
 g:=λ_=>none
def adS(S:List AT) (t:AT):List AT:=if 60<=S.length then S else S++[t]
def adE(S:List AT) (e:Int):Int:=if 60<=S.length then faE e 3 else e
def adR(S:List AT):Int:=if 60<=S.length then 0 else S.length
def j0k:Ct where
 σ:=List AT×Int×AT
 args:=λ⟨S,e,t⟩=>[.ptr 1 0,t.av]
 h:=λ⟨S,e,t⟩=>mkO S e 2 3
 m:=4
 r:=λ⟨S,e,t⟩=> .sv (.int .i64 (adR S))
 h':=λ⟨S,e,t⟩=>mkO (adS S t) (adE S e) 4 5
 m':=6
 g:=λ_=>none
def kinds:List ByteArray:=[mkS [110,117,108,108],mkS [98,111,111,108,101,97,110],mkS [105,110,116],mkS [108,111,110,103],mkS [102,108,111,97,116],mkS [100,111,117,98,108,101],mkS [98,121,116,101,115],mkS [115,116,114,105,110,103],mkS [114,101,99,111,114,100],mkS [101,110,117,109],mkS [102,105,120,101,100],mkS [97,114,114,97,121],mkS [109,97,112],mkS [117,110,105,111,110]]
def zri(s:ByteArray):List ByteArray->Nat->Int
 | [],_=>0
 |k::l,i=>if k=s then(i:Int)+1 else zri s l (i+1)
def z0j(s:ByteArray):Int:=zri s kinds 0
def zg0:Ct:={ctQ ByteArray (λs=>[.sv (.string s)]) (λ_=>True) (λ_=>{}) (λs=> .sv (.int .i64 (z0j s)))with find:=some λl _=>match l with
 | [a]=>gs a
 |_=>none}
def j26:zg0.σ->WayF:=λs=>{
 ann:=λ_ _ _=>some {σ:=Nat,pre:=λj=>j<=14/\zri s (kinds.drop j) j=z0j s,t:=λj=>[(4, .sv (.int .i64 (j:Int)))],h:=λ_=>[],more:=0,μ:=λj=>14- j,keep:=[0,2,3]}}
def z4h(k:Int):ByteArray:=if k<1\/14<k then mkS []else kinds.getD (k.toNat- 1) (mkS [])
def zsr:Ct:=ctQ Int (λk=>[.sv (.int .i64 k)]) (λ_=>True) (λ_=>{}) λk=> .sv (.string (z4h k))
def findF(s:ByteArray):List AT->Nat->Option Nat
 | [],_=>none
 |a::l,i=>if a.nm=s/\9<=a.k/\a.k<=11 then some i else findF s l (i+1)
def fnI(o:Option Nat):Int:=match o with
 |some i=>i
 |none=>0
def zug(l:List AV) (h:T AO):Option (Sel (List AT×Int×ByteArray)):=match l with
  | [.ptr id _,a]=>match mkE h id with
    | some e=>match gs a with
      |some s=>some ⟨List AT,λS=>(S,e,s)⟩
      |none=>none
    |none=>none
  |_=>none
def zfv:Ct where
 σ:=List AT×Int×ByteArray
 args:=λ⟨S,e,s⟩=>[.ptr 1 0, .sv (.string s)]
 h:=λ⟨S,e,s⟩=>mkO S e 2 3
 m:=4
 pre:=λ⟨S,e,s⟩=>S.length<1000
 sel:=some zug
 r:=λ⟨S,e,s⟩=> .tup [.sv (.int .i64 (fnI (findF s S 0))), .sv (.bool (findF s S 0).isSome)]
 h':=λ⟨S,e,s⟩=>mkO S e 2 3
 m':=4
 g:=λ_=>none
def j22:zfv.σ->WayF:=λ⟨S,e,s⟩=>{
 ann:=λ_ _ _=>some {σ:=Nat,pre:=λj=>j<=S.length/\findF s (S.drop j) j=findF s S 0,t:=λj=>[(6, .sv (.int .i64 (j:Int)))],h:=λ_=>[],more:=0,μ:=λj=>S.length- j,keep:=[0,1,4,5]}}
def zi2(S:List AT) (t:Int):ByteArray:=if t<0\/S.length<=t then mkS []else match S[t.toNat]? with
 |some a=>if a.nm=mkS []then z4h a.k else a.nm
 |none=>mkS []
def j9x:Ct where
 σ:=List AT×Int
 args:=λ⟨S,t⟩=>[.agg [.ssl 1 0 S.length 10 2], .sv (.int .i64 t)]
 h:=λ⟨S,t⟩=>[(1, .row 61 0 (z00 AT.cells S))]
 m:=3
 pre:=λ⟨S,t⟩=>S.length<1000
 r:=λ⟨S,t⟩=> .sv (.string (zi2 S t))
 h':=λ⟨S,t⟩=>[(1, .row 61 0 (z00 AT.cells S))]
 m':=3
 g:=λ_=>none
def z2w(a b:ByteArray):ByteArray:=if a=mkS []\/b=mkS []then a++b else a++mkS [46]++b
def jn4(l:List AV):Option (ByteArray×ByteArray):=match l with
  | [a,b]=>match gs a with
    | some a=>match gs b with
      |some b=>some (a,b)
      |none=>none
    |none=>none
  |_=>none
def zlo:Ct:={ctQ (ByteArray×ByteArray) (λ⟨a,b⟩=>[.sv (.string a), .sv (.string b)]) (λ⟨a,b⟩=>a.size<1000000/\b.size<1000000) (λ_=>{}) (λ⟨a,b⟩=> .sv (.string (z2w a b)))with find:=some λl _=>jn4 l}
def isLt(c:Nat):Bool:=(c==95)|| (decide (65<=c)&&decide (c<=90))|| (decide (97<=c)&&decide (c<=122))
def zt8(c:Nat):Bool:=decide (48<=c)&&decide (c<=57)
def z9h:Ct:=ctS Int (λc=>[.int .u8 c]) f1i (λc=>0<=c/\c<256) (λ_=>{}) λc=> .sv (.bool (isLt c.toNat))
def zfu:Ct:=ctS Int (λc=>[.int .u8 c]) f1i (λc=>0<=c/\c<256) (λ_=>{}) λc=> .sv (.bool (zt8 c.toNat))
def ptC(s:ByteArray) (i:Nat):Bool:=isLt (bat s i)|| (decide (0<i)&&zt8 (bat s i))
def ptA(s:ByteArray):Nat->Nat->Bool
 |0,_=>true
 |f+1,i=>if i<s.size then ptC s i&&ptA s f (i+1)else true
def z2x(s:ByteArray):Bool:=ptA s s.size 0&&decide (0<s.size)
def zd8:Ct:={ctQ ByteArray (λs=>[.sv (.string s)]) (λs=>s.size<1000000) (λ_=>{}) (λs=> .sv (.bool (z2x s)))with find:=some λl _=>match l with
 | [a]=>gs a
 |_=>none}
def j28:zd8.σ->WayF:=λs=>{
 ann:=λ_ _ _=>some {σ:=Nat,pre:=λj=>j<=s.size/\ptA s (s.size- j) j=ptA s s.size 0,t:=λj=>[(3, .sv (.int .i64 (j:Int)))],h:=λ_=>[],more:=0,μ:=λj=>s.size- j,keep:=[0,2]}}
def zl8(s:ByteArray):Nat->Nat->ByteArray->Bool
 |0,_,_=>true
 |f+1,i,q=>if i<s.size/\bat s i≠46 then zl8 s f (i+1) (q++s.extract i (i+1))else if z2x q=true then zl8 s f (i+1) (mkS [])else false
def z49(s:ByteArray):Bool:=zl8 s (s.size+1) 0 (mkS [])
def zbi:Ct:={ctQ ByteArray (λs=>[.sv (.string s)]) (λs=>s.size<100000) (λ_=>{}) (λs=> .sv (.bool (z49 s)))with find:=some λl _=>match l with
 | [a]=>gs a
 |_=>none}
def zrz:zbi.σ->WayF:=λs=>{
 ann:=λ_ _ _=>some {σ:=Nat×ByteArray,pre:=λ⟨j,q⟩=>j<=s.size+1/\q.size<=j/\zl8 s (s.size+1- j) j q=z49 s,t:=λ⟨j,q⟩=>[(3, .sv (.string q)),(4, .sv (.int .i64 (j:Int)))],h:=λ_=>[],more:=0,μ:=λ⟨j,q⟩=>s.size+1- j,keep:=[0,2]}}
def z6f(s:ByteArray):Nat->ByteArray
 |0=>mkS []
 |i+1=>if bat s i=46 then s.extract 0 i else z6f s i
def z6g:Ct:={ctQ ByteArray (λs=>[.sv (.string s)]) (λs=>s.size<1000000) (λ_=>{}) (λs=> .sv (.string (z6f s s.size)))with find:=some λl _=>match l with
 | [a]=>gs a
 |_=>none}
def zii:z6g.σ->WayF:=λs=>{
 ann:=λ_ _ _=>some {σ:=Nat,pre:=λj=>j<=s.size/\z6f s j=z6f s s.size,t:=λj=>[(3, .sv (.int .i64 ((j:Int)- 1)))],h:=λ_=>[],more:=0,μ:=λj=>j,keep:=[0,2]}}
def zrd(s:ByteArray):Nat->Nat->Bool
 |0,_=>false
 |f+1,i=>if i<s.size then decide (bat s i=46)||zrd s f (i+1)else false
def j17(s:ByteArray):Bool:=zrd s s.size 0
def z1e(nm sp:ByteArray):ByteArray:=if j17 nm=true then nm else z2w sp nm
def whE(nm sp:ByteArray) (e:Int):Int:=if nm=mkS []\/z49 (z1e nm sp)=false then faE e 6 else e
def znh(l:List AV) (h:T AO):Option (Sel (List AT×Int×ByteArray×ByteArray)):=match l with
  | [.ptr id _,a,b]=>match mkE h id with
    | some e=>match gs a with
      | some a=>match gs b with
        |some b=>some ⟨List AT,λS=>(S,e,a,b)⟩
        |none=>none
      |none=>none
    |none=>none
  |_=>none
def z6r:Ct where
 σ:=List AT×Int×ByteArray×ByteArray
 args:=λ⟨S,e,a,b⟩=>[.ptr 1 0, .sv (.string a), .sv (.string b)]
 h:=λ⟨S,e,a,b⟩=>mkO S e 2 3
 m:=4
 pre:=λ⟨S,e,a,b⟩=>a.size<10000/\b.size<50000
 sel:=some znh
 r:=λ⟨S,e,a,b⟩=> .sv (.string (z1e a b))
 h':=λ⟨S,e,a,b⟩=>mkO S (whE a b e) 2 3
 m':=4
 g:=λ_=>none
def zs6:z6r.σ->WayF:=λ⟨S,e,a,b⟩=>{
 ann:=λ_ _ _=>some {σ:=Nat×ByteArray,pre:=λ⟨j,q⟩=>j<=a.size/\((if zrd a (a.size- j) j=true then a else q)=z1e a b),t:=λ⟨j,q⟩=>[(7, .sv (.string q)),(8, .sv (.int .i64 (j:Int)))],h:=λ_=>[],more:=0,μ:=λ⟨j,q⟩=>a.size- j,keep:=[0,1,2,6]}}
def z0k(s:ByteArray) (g:GJ):Option GJ:=if g.k=6 then z4e s g.nm g.l else none
def z5o:Ct:=ctQ (GJ×ByteArray) (λ⟨g,s⟩=>[g.av, .sv (.string s)]) (λ⟨g,s⟩=>g.wf) (λ⟨g,s⟩=>gM g) λ⟨g,s⟩=> .tup [((z0k s g).getD zJ).av, .sv (.bool (z0k s g).isSome)]
def j24:z5o.σ->WayF:=λ⟨g,s⟩=>{
 ann:=λ_ _ _=>some {σ:=Nat,pre:=λj=>j<=g.nm.length/\(if g.k=6 then z4e s (g.nm.drop j) (g.l.drop j)else none)=z0k s g,t:=λj=>[(6, .sv (.int .i64 (j:Int)))],h:=λ_=>[],more:=0,μ:=λj=>g.nm.length- j,keep:=[1,2,4,5]}}
def woR(g:GJ) (s:ByteArray) (must:Bool) (e:Int):ByteArray×Int:=match z0k s g with
 |none=>if must=true then(mkS [],faE e 2)else(mkS [],e)
 |some t=>if t.k=4 then(t.s,e)else(mkS [],faE e 2)
def z8a:Ct where
 σ:=List AT×Int×GJ×ByteArray×Bool
 args:=λ⟨S,e,g,s,b⟩=>[.ptr 1 0,g.av, .sv (.string s), .sv (.bool b)]
 h:=λ⟨S,e,g,s,b⟩=>mkO S e 2 3
 m:=4
 pre:=λ⟨S,e,g,s,b⟩=>g.wf
 mem:=λ⟨S,e,g,s,b⟩=>gM g
 r:=λ⟨S,e,g,s,b⟩=> .sv (.string (woR g s b e).1)
 h':=λ⟨S,e,g,s,b⟩=>mkO S (woR g s b e).2 2 3
 m':=4
 g:=λ_=>none
def zly(S:List AT) (e0 e:Int):qki P (λ_=>none) Try.f72 z2a (λ_=>{}) ⟨S,e0,e⟩=(True->(decide (e0=(0:Int))=true->List.length S=List.length S/\faE e0 e=e/\z00 AT.cells S=z00 AT.cells S/\True)/\(decide (e0=(0:Int))=false->List.length S=List.length S/\faE e0 e=e0/\z00 AT.cells S=z00 AT.cells S/\True)):=by kernel_rfl
def zsh(S:List AT) (e:Int) (t:AT):qki P (qfv [(72,z2a)]) Try.f78 j0k (λ_=>{}) ⟨S,e,t⟩=(True->(decide ((60:Int)<=(↑(length S):Int))=true->∃(b:List AT),(3:Int)=(3:Int)/\length b=length S/\e=e/\z00 AT.cells b=z00 AT.cells S/\True/\adR S=(0:Int)/\length (adS S t)=length b/\adE S e=faE e (3:Int)/\z00 AT.cells (adS S t)=z00 AT.cells b/\True)/\(decide ((60:Int)<=(↑(length S):Int))=false->length (z00 AT.cells S)=length S*(10:Nat)/\(length S+nat_lit 1)*(160:Nat)<=(140737488355328:Nat)/\((-9223372036854775808:Int)<=(↑(length S+nat_lit 1):Int)- (1:Int)/\(↑(length S+nat_lit 1):Int)- (1:Int)<=(9223372036854775807:Int))/\adR S=(↑(length S+nat_lit 1):Int)- (1:Int)/\length (adS S t)=length S+nat_lit 1/\adE S e=e/\z00 AT.cells (adS S t)=z00 AT.cells S++[int i64 (AT.k t),string (AT.nm t),slice (Prod.fst (AT.al t)) (Prod.fst (Prod.snd (AT.al t))) (Prod.snd (Prod.snd (AT.al t))),int i64 (AT.it t),slice (Prod.fst (AT.sy t)) (Prod.fst (Prod.snd (AT.sy t))) (Prod.snd (Prod.snd (AT.sy t))),bool (AT.hd t),string (AT.df t),int i64 (AT.sz t),slice (Prod.fst (AT.f t)) (Prod.fst (Prod.snd (AT.f t))) (Prod.snd (Prod.snd (AT.f t))),slice (Prod.fst (AT.br t)) (Prod.fst (Prod.snd (AT.br t))) (Prod.snd (Prod.snd (AT.br t)))]/\True)):=by kernel_rfl
section
variable (x0:ByteArray) (x1:Nat)
 abbrev j97:=x1<=14/\zri x0 (drop x1 kinds) x1=z0j x0
 abbrev jau:=Jb ((↑x1:Int)+1)
 def jel:=jau x1/\z0j x0=(↑x1:Int)+1/\True
 def jek:=jau x1/\∃(i0:Nat),x0=x0/\(↑i0:Int)=(↑x1:Int)+1/\(j97 x0 i0)/\(14:Nat)- i0<14- x1/\True
 def jej:=(0<=(↑x1:Int)/\(↑x1:Int)<(↑(nat_lit 14):Int))/\∃i0,(∀(i1:Nat) (i2:Value),[string i0][i1]? =some i2->[string (mkS [110,117,108,108]),string (mkS [98,111,111,108,101,97,110]),string (mkS [105,110,116]),string (mkS [108,111,110,103]),string (mkS [102,108,111,97,116]),string (mkS [100,111,117,98,108,101]),string (mkS [98,121,116,101,115]),string (mkS [115,116,114,105,110,103]),string (mkS [114,101,99,111,114,100]),string (mkS [101,110,117,109]),string (mkS [102,105,120,101,100]),string (mkS [97,114,114,97,121]),string (mkS [109,97,112]),string (mkS [117,110,105,111,110])][nat_lit 0+toNat (↑x1:Int)*1+i1]? =some i2)/\Ji (i0=x0) (jel x0 x1) (jek x0 x1)
 def jei:=Ji ((↑x1:Int)<Int.ofNat (nat_lit 14)) (jej x0 x1) (z0j x0=0/\True)
 def jeh:=(∃(i0:Nat),x0=x0/\(↑i0:Int)=0/\(j97 x0 i0)/\True)/\∀(i1:Nat),j97 x0 i1->jei x0 i1
end
def zmn(s:ByteArray):qki P (λ_=>none) Try.f77 zg0 (j26) s=(True->jeh s):=by kernel_rfl
def ztb:=λs=>Eq.trans (zmn s) (by delta Ji Jb Jt Jf j97 jau jel jek jej jei jeh;exact rfl)
section
variable (x0:Int)
 abbrev jeo:=(0<=x0/\x0<(↑(nat_lit 15):Int))/\∃i0,(∀(i1:Nat) (i2:Value),[string i0][i1]? =some i2->[string (mkS []),string (mkS [110,117,108,108]),string (mkS [98,111,111,108,101,97,110]),string (mkS [105,110,116]),string (mkS [108,111,110,103]),string (mkS [102,108,111,97,116]),string (mkS [100,111,117,98,108,101]),string (mkS [98,121,116,101,115]),string (mkS [115,116,114,105,110,103]),string (mkS [114,101,99,111,114,100]),string (mkS [101,110,117,109]),string (mkS [102,105,120,101,100]),string (mkS [97,114,114,97,121]),string (mkS [109,97,112]),string (mkS [117,110,105,111,110])][nat_lit 0+toNat x0*1+i1]? =some i2)/\z4h x0=i0/\True
 def jen:=Ji (14<x0) (z4h x0=mkS []/\True) (jeo x0)
 def jem:=Ji (x0<1) (z4h x0=mkS []/\True) (jen x0)
end
def zj2(k:Int):qki P (λ_=>none) Try.f139 zsr (λ_=>{}) k=(True->jem k):=by kernel_rfl
def zo1:=λk=>Eq.trans (zj2 k) (by delta Ji Jt Jf jeo jen jem;exact rfl)
section
variable (x0:ByteArray) (x1:List AT) (x2:Int) (x3:Nat) (x4:Int) (x5:Prop)
 abbrev j3v:=length x1=length x1/\x2=x2/\z00 AT.cells x1=z00 AT.cells x1/\x5
 def j99:=x3<=length x1/\findF x0 (drop x3 x1) x3=findF x0 x1 0
 def j98:=Jb ((↑x3:Int)+1)/\∃(i0:Nat),x0=x0/\(↑i0:Int)=(↑x3:Int)+1/\j3v x1 x2 ((j99 x0 x1 i0)/\length x1- i0<length x1- x3/\True)
 def jet:=Ji (x2<=11) (fnI (findF x0 x1 0)=(↑x3:Int)/\Option.isSome (findF x0 x1 0)=true/\j3v x1 x4 True) (j98 x0 x1 x4 x3)
 def jes:=Ji (9<=x2) (jet x0 x1 x2 x3 x4) (j98 x0 x1 x4 x3)
 def jer:=(0<=(↑x3:Int)/\(↑x3:Int)<(↑(length x1):Int))/\∃(i0:Int),∃i1,∃i2,∃(i3:Nat),∃(i4:Nat),∃(i5:Int),∃i6,∃(i7:Nat),∃(i8:Nat),∃(i9:Bool),∃i10,∃(i11:Int),∃i12,∃(i13:Nat),∃(i14:Nat),∃i15,∃(i16:Nat),∃(i17:Nat),(∀(i18:Nat) (i19:Value),[int i64 i0,string i1,slice i2 i3 i4,int i64 i5,slice i6 i7 i8,bool i9,string i10,int i64 i11,slice i12 i13 i14,slice i15 i16 i17][i18]? =some i19->(z00 AT.cells x1)[nat_lit 0+toNat (↑x3:Int)*nat_lit 10+i18]? =some i19)/\Ji (i1=x0) (jes x0 x1 i0 x3 x2) (j98 x0 x1 x2 x3)
 def jeu:=fnI (findF x0 x1 0)=0/\Option.isSome (findF x0 x1 0)=false/\j3v x1 x2 True
 def jeq:=Ji ((↑x3:Int)<(↑(length x1):Int)) (jer x0 x1 x2 x3) (jeu x0 x1 x2)
 def jep:=(∃(i0:Nat),x0=x0/\(↑i0:Int)=0/\j3v x1 x2 ((j99 x0 x1 i0)/\True))/\∀(i1:Nat),j99 x0 x1 i1->jeq x0 x1 x2 i1
end
def zgg(S:List AT) (e:Int) (s:ByteArray):qki P (λ_=>none) Try.f106 zfv (j22) ⟨S,e,s⟩=(length S<1000->jep s S e):=by kernel_rfl
def zm0:=λS e s=>Eq.trans (zgg S e s) (by delta Ji Jb Jt Jf j3v j99 j98 jet jes jer jeu jeq jep;exact rfl)
def j1s(S:List AT) (t:Int):qki P (qfv [(139,zsr)]) Try.f108 j9x (λ_=>{}) ⟨S,t⟩=(length S<(1000:Nat)->(decide (t<(0:Int))=true->zi2 S t=mkS []/\z00 AT.cells S=z00 AT.cells S/\True)/\(decide (t<(0:Int))=false->(decide ((↑(length S):Int)<=t)=true->zi2 S t=mkS []/\z00 AT.cells S=z00 AT.cells S/\True)/\(decide ((↑(length S):Int)<=t)=false->((0:Int)<=t/\t<(↑(length S):Int))/\∃(s:ByteArray),(∀(j:Nat) (v:Value),[string s][j]? =some v->(z00 AT.cells S)[nat_lit 0+toNat t*nat_lit 10+(1:Nat)+j]? =some v)/\((!decide (s=mkS []))=true->((0:Int)<=t/\t<(↑(length S):Int))/\∃(s:ByteArray),(∀(j:Nat) (v:Value),[string s][j]? =some v->(z00 AT.cells S)[nat_lit 0+toNat t*nat_lit 10+(1:Nat)+j]? =some v)/\zi2 S t=s/\z00 AT.cells S=z00 AT.cells S/\True)/\((!decide (s=mkS []))=false->((0:Int)<=t/\t<(↑(length S):Int))/\∃(n:Int),(∀(j:Nat) (v:Value),[int i64 n][j]? =some v->(z00 AT.cells S)[nat_lit 0+toNat t*nat_lit 10+(0:Nat)+j]? =some v)/\∃(s:Int),s=n/\True/\zi2 S t=z4h s/\z00 AT.cells S=z00 AT.cells S/\True)))):=by kernel_rfl
def join_eq(a b:ByteArray):qki P (λ_=>none) Try.f107 zlo (λ_=>{}) ⟨a,b⟩=(size a<(1000000:Nat)/\size b<(1000000:Nat)->(decide (a=mkS [])=true->size a+size b<=(9223372036854775807:Nat)/\z2w a b=a++b/\True)/\(decide (a=mkS [])=false->(decide (b=mkS [])=true->size a+size b<=(9223372036854775807:Nat)/\z2w a b=a++b/\True)/\(decide (b=mkS [])=false->size a+size (mkS [(46:Nat)])<=(9223372036854775807:Nat)/\size (a++mkS [(46:Nat)])+size b<=(9223372036854775807:Nat)/\z2w a b=a++mkS [(46:Nat)]++b/\True))):=by kernel_rfl
def zh6(c:Int):qki P (λ_=>none) Try.f150 z9h (λ_=>{}) c=((0:Int)<=c/\c<(256:Int)->(decide ((97:Int)<=c)=true->(decide (c<=(122:Int))=true->isLt (toNat c)=true/\True)/\(decide (c<=(122:Int))=false->(decide ((65:Int)<=c)=true->(decide (c<=(90:Int))=true->isLt (toNat c)=true/\True)/\(decide (c<=(90:Int))=false->isLt (toNat c)=decide (c=(95:Int))/\True))/\(decide ((65:Int)<=c)=false->isLt (toNat c)=decide (c=(95:Int))/\True)))/\(decide ((97:Int)<=c)=false->(decide ((65:Int)<=c)=true->(decide (c<=(90:Int))=true->isLt (toNat c)=true/\True)/\(decide (c<=(90:Int))=false->isLt (toNat c)=decide (c=(95:Int))/\True))/\(decide ((65:Int)<=c)=false->isLt (toNat c)=decide (c=(95:Int))/\True))):=by kernel_rfl
def zlu(c:Int):qki P (λ_=>none) Try.f151 zfu (λ_=>{}) c=((0:Int)<=c/\c<(256:Int)->(decide ((48:Int)<=c)=true->zt8 (Int.toNat c)=decide (c<=(57:Int))/\True)/\(decide ((48:Int)<=c)=false->zt8 (Int.toNat c)=false/\True)):=by kernel_rfl
section
variable (x0:ByteArray) (x1:Nat) (x2:Prop)
 abbrev j9a:=x1<=size x0/\ptA x0 (size x0- x1) x1=ptA x0 (size x0) 0
 abbrev zp3:=(↑(bat x0 (toNat (↑x1:Int))):Int)
 def jaw:=(0<=(↑x1:Int)/\(↑x1:Int)<(↑(size x0):Int))/\(zp3 x0 x1)=(zp3 x0 x1)/\(0<=(zp3 x0 x1)/\(zp3 x0 x1)<256)/\x2
 def jav:=Jb ((↑x1:Int)+1)/\∃(i0:Nat),x0=x0/\(↑i0:Int)=(↑x1:Int)+1/\(j9a x0 i0)/\size x0- i0<size x0- x1/\True
 def jez:=jaw x0 x1 (((!zt8 (toNat (zp3 x0 x1)))=true->z2x x0=false/\True)/\((!zt8 (toNat (zp3 x0 x1)))=false->jav x0 x1))
 def jey:=Ji ((↑x1:Int)=0) (z2x x0=false/\True) (jez x0 x1)
 def jex:=jaw x0 x1 (((!isLt (toNat (zp3 x0 x1)))=true->jey x0 x1)/\((!isLt (toNat (zp3 x0 x1)))=false->jav x0 x1))
 def jew:=Ji ((↑x1:Int)<(↑(size x0):Int)) (jex x0 x1) (z2x x0=decide (0<(↑(size x0):Int))/\True)
 def jev:=(∃(i0:Nat),x0=x0/\(↑i0:Int)=0/\(j9a x0 i0)/\True)/\∀(i1:Nat),j9a x0 i1->jew x0 i1
end
def zn5(s:ByteArray):qki P (qfv [(150,z9h),(151,zfu)]) Try.f141 zd8 (j28) s=(size s<1000000->jev s):=by kernel_rfl
def zu1:=λs=>Eq.trans (zn5 s) (by delta Ji Jb Jt Jf j9a zp3 jaw jav jez jey jex jew jev;exact rfl)
section
variable (x0:ByteArray) (x1 x2:Nat×ByteArray)
 abbrev j9b:=x1.1<=size x0+1/\size x1.2<=x1.1/\zl8 x0 (size x0+1- x1.1) x1.1 x1.2=z49 x0
 abbrev j9c:=Jb ((↑x1.1:Int)+1)
 def jay:=(↑x1.1:Int)=(↑x2.1:Int)+1/\(j9b x0 x1)/\size x0+1- x1.1<size x0+1- x2.1/\True
 def jf4:=j9c x1/\(0<=(↑x1.1:Int)/\(↑x1.1:Int)<=(↑x1.1:Int)+1/\(↑x1.1:Int)+1<=(↑(size x0):Int))/\size x1.2+size (ByteArray.extract x0 (toNat (↑x1.1:Int)) (toNat ((↑x1.1:Int)+1)))<=9223372036854775807/\j9c x1/\∃(i0:Nat×ByteArray),x0=x0/\i0.2=x1.2++ByteArray.extract x0 (toNat (↑x1.1:Int)) (toNat ((↑x1.1:Int)+1))/\jay x0 i0 x1
 def jf5:=j9c x1/\∃(i0:Nat×ByteArray),x0=x0/\i0.2=mkS []/\jay x0 i0 x1
 def jax:=x1.2=x1.2/\size x1.2<1000000/\((!z2x x1.2)=true->z49 x0=false/\True)/\((!z2x x1.2)=false->jf5 x0 x1)
 def jf3:=(0<=(↑x1.1:Int)/\(↑x1.1:Int)<(↑(size x0):Int))/\((!decide ((↑(bat x0 (toNat (↑x1.1:Int))):Int)=46))=true->jf4 x0 x1)/\((!decide ((↑(bat x0 (toNat (↑x1.1:Int))):Int)=46))=false->jax x0 x1)
 def jf2:=Ji ((↑x1.1:Int)<(↑(size x0):Int)) (jf3 x0 x1) (jax x0 x1)
 def jf1:=Ji ((↑x1.1:Int)<=(↑(size x0):Int)) (jf2 x0 x1) (z49 x0=true/\True)
 def jf0:=(∃(i0:Nat×ByteArray),x0=x0/\i0.2=mkS []/\(↑i0.1:Int)=0/\(j9b x0 i0)/\True)/\∀(i1:Nat×ByteArray),j9b x0 i1->jf1 x0 i1
end
def zhj(s:ByteArray):qki P (qfv [(141,zd8)]) Try.f140 zbi (zrz) s=(size s<100000->jf0 s):=by kernel_rfl
def parts_eq:=λs=>Eq.trans (zhj s) (by delta Ji Jb Jt Jf j9b j9c jay jf4 jf5 jax jf3 jf2 jf1 jf0;exact rfl)
section
variable (x0:ByteArray) (x1:Nat)
 abbrev j9d:=x1<=size x0/\z6f x0 x1=z6f x0 (size x0)
 abbrev j9e:=0<=(↑x1:Int)- 1
 def jfa:=(j9e x1/\(↑x1:Int)- 1<=(↑(size x0):Int))/\z6f x0 (size x0)=ByteArray.extract x0 0 (toNat ((↑x1:Int)- 1))/\True
 def jf9:=Jb ((↑x1:Int)- 1- 1)/\∃(i0:Nat),x0=x0/\(↑i0:Int)- 1=(↑x1:Int)- 1- 1/\(j9d x0 i0)/\i0<x1/\True
 def jf8:=(j9e x1/\(↑x1:Int)- 1<(↑(size x0):Int))/\Ji ((↑(bat x0 (toNat ((↑x1:Int)- 1))):Int)=46) (jfa x0 x1) (jf9 x0 x1)
 def jf7:=Ji (j9e x1) (jf8 x0 x1) (z6f x0 (size x0)=mkS []/\True)
 def jf6:=Jb ((↑(size x0):Int)- 1)/\(∃(i0:Nat),x0=x0/\(↑i0:Int)- 1=(↑(size x0):Int)- 1/\(j9d x0 i0)/\True)/\∀(i1:Nat),j9d x0 i1->jf7 x0 i1
end
def zd4(s:ByteArray):qki P (λ_=>none) Try.f111 z6g (zii) s=(size s<1000000->jf6 s):=by kernel_rfl
def zfn:=λs=>Eq.trans (zd4 s) (by delta Ji Jb Jt Jf j9d j9e jfa jf9 jf8 jf7 jf6;exact rfl)
section
variable (x0 x1:ByteArray) (x2:List AT) (x3:Int) (x4:Nat×ByteArray) (x5:Prop) (x6:Nat×ByteArray)
 abbrev jb1:=x4.1<=size x0/\(if zrd x0 (size x0- x4.1) x4.1=true then x0 else x4.2)=z1e x0 x1
 def jaz:=length x2=length x2/\x3=x3/\z00 AT.cells x2=z00 AT.cells x2/\(jb1 x0 x1 x4)/\x5
 abbrev zw3:=Jb ((↑x4.1:Int)+1)
 def zw4:=x0=x0/\(↑x4.1:Int)=(↑x6.1:Int)+1/\jaz x1 x0 x2 x3 x4 (size x1- x4.1<size x1- x6.1/\True)
 def jfg:=zw3 x4/\∃(i0:Nat×ByteArray),x0=x0/\i0.2=x0/\zw4 x1 x0 x2 x3 i0 x4
 def jff:=zw3 x4/\∃(i0:Nat×ByteArray),x0=x0/\i0.2=x4.2/\zw4 x1 x0 x2 x3 i0 x4
 def jfd:=(0<=(↑x4.1:Int)/\(↑x4.1:Int)<(↑(size x0):Int))/\Ji ((↑(bat x0 (toNat (↑x4.1:Int))):Int)=46) (jfg x0 x1 x2 x3 x4) (jff x0 x1 x2 x3 x4)
 def jb0:=∃(i0:List AT),(6:Int)=6/\length i0=length x2/\x3=x3/\z00 AT.cells i0=z00 AT.cells x2/\True/\z1e x0 x1=x4.2/\length x2=length i0/\whE x0 x1 x3=faE x3 6/\z00 AT.cells x2=z00 AT.cells i0/\True
 def jfh:=x4.2=x4.2/\size x4.2<100000/\((!z49 x4.2)=true->jb0 x0 x1 x2 x3 x4)/\((!z49 x4.2)=false->z1e x0 x1=x4.2/\length x2=length x2/\whE x0 x1 x3=x3/\z00 AT.cells x2=z00 AT.cells x2/\True)
 def jfe:=Ji (x0=mkS []) (jb0 x0 x1 x2 x3 x4) (jfh x0 x1 x2 x3 x4)
 def jfc:=Ji ((↑x4.1:Int)<(↑(size x0):Int)) (jfd x0 x1 x2 x3 x4) (jfe x0 x1 x2 x3 x4)
 def jfb:=x0=x0/\x1=x1/\(size x0<1000000/\size x1<1000000)/\(∃(i0:Nat×ByteArray),x1=x1/\i0.2=z2w x0 x1/\x0=x0/\(↑i0.1:Int)=0/\jaz x1 x0 x2 x3 i0 True)/\∀(i1:Nat×ByteArray),jb1 x1 x0 i1->jfc x1 x0 x2 x3 i1
end
def zed(S:List AT) (e:Int) (a b:ByteArray):qki P (qfv [(107,zlo),(140,zbi),(72,z2a)]) Try.f110 z6r (zs6) ⟨S,e,a,b⟩=(size a<10000/\size b<50000->jfb b a S e):=by kernel_rfl
def zj0:=λS e a b=>Eq.trans (zed S e a b) (by delta Ji Jb Jt Jf jb1 jaz zw3 zw4 jfg jff jfd jb0 jfh jfe jfc jfb;exact rfl)
section
variable (x0:ByteArray) (x1:GJ) (x2:Nat) (x3:Prop)
 abbrev jb3:=x2<=length (GJ.nm x1)/\(if GJ.k x1=6 then z4e x0 (drop x2 (GJ.nm x1)) (drop x2 (GJ.l x1))else none)=z0k x0 x1
 def jb2:=GJ.k x1=GJ.k x1/\GJ.n x1=GJ.n x1/\GJ.s x1=GJ.s x1/\(GJ.y x1).1=(GJ.y x1).1/\(GJ.y x1).2.1=(GJ.y x1).2.1/\(GJ.y x1).2.2=(GJ.y x1).2.2/\(GJ.x x1).1=(GJ.x x1).1/\(GJ.x x1).2.1=(GJ.x x1).2.1/\(GJ.x x1).2.2=(GJ.x x1).2.2/\(∀i0,True/\GJ.ok x1 i0->True/\GJ.ok x1 i0)/\(jb3 x0 x1 x2)/\x3
 abbrev zw5:=(↑x2:Int)<(↑(GJ.x x1).2.1:Int)
 abbrev zw6:=(↑x2:Int)<(↑(GJ.y x1).2.1:Int)
 abbrev za8:=GJ.y (Option.getD (z0k x0 x1) zJ)
 abbrev za9:=GJ.x (Option.getD (z0k x0 x1) zJ)
 def jfn:=(0<=(↑x2:Int)/\zw6 x1 x2)/\(GJ.y x1).1≠noA/\∃(i0:Int),∃(i1:Int),∃i2,∃i3,∃(i4:Nat),∃(i5:Nat),∃i6,∃(i7:Nat),∃(i8:Nat),(∀i9,True/\GJ.ok x1 i9->q3f i9 (adr (GJ.y x1).1 (toNat (↑x2:Int)*5)) [int i64 i0,int i64 i1,string i2,slice i3 i4 i5,slice i6 i7 i8])/\GJ.k (Option.getD (z0k x0 x1) zJ)=i0/\GJ.n (Option.getD (z0k x0 x1) zJ)=i1/\GJ.s (Option.getD (z0k x0 x1) zJ)=i2/\(za8 x0 x1).1=i3/\(za8 x0 x1).2.1=i4/\(za8 x0 x1).2.2=i5/\(za9 x0 x1).1=i6/\(za9 x0 x1).2.1=i7/\(za9 x0 x1).2.2=i8/\Option.isSome (z0k x0 x1)=true/\True
 def jfo:=Jb ((↑x2:Int)+1)/\∃(i0:Nat),x0=x0/\(↑i0:Int)=(↑x2:Int)+1/\jb2 x0 x1 i0 (length (GJ.nm x1)- i0<length (GJ.nm x1)- x2/\True)
 def jfm:=(0<=(↑x2:Int)/\zw5 x1 x2)/\(GJ.x x1).1≠noA/\∃i0,(∀i1,True/\GJ.ok x1 i1->q3f i1 (adr (GJ.x x1).1 (toNat (↑x2:Int)*1)) [string i0])/\Ji (i0=x0) (jfn x0 x1 x2) (jfo x0 x1 x2)
 def j9f:=GJ.k (Option.getD (z0k x0 x1) zJ)=0/\GJ.n (Option.getD (z0k x0 x1) zJ)=0/\GJ.s (Option.getD (z0k x0 x1) zJ)=mkS []/\(za8 x0 x1).1=noA/\(za8 x0 x1).2.1=0/\(za8 x0 x1).2.2=0/\(za9 x0 x1).1=noA/\(za9 x0 x1).2.1=0/\(za9 x0 x1).2.2=0/\Option.isSome (z0k x0 x1)=false/\True
 abbrev jfl:=Ji (zw6 x1 x2) (jfm x0 x1 x2) (j9f x0 x1)
 abbrev jfk:=Ji (zw5 x1 x2) (jfl x0 x1 x2) (j9f x0 x1)
 def jfj:=Ji (GJ.k x1=6) (jfk x0 x1 x2) (j9f x0 x1)
 def jfi:=(∃(i0:Nat),x0=x0/\(↑i0:Int)=0/\jb2 x0 x1 i0 True)/\∀(i2:Nat),jb3 x0 x1 i2->jfj x0 x1 i2
end
def zmh(g:GJ) (s:ByteArray):qki P (λ_=>none) Try.f75 z5o (j24) ⟨g,s⟩=(GJ.wf g->(∃(p:Pub),True/\GJ.ok g p)->jfi s g):=by kernel_rfl
def zt4:=λg s=>Eq.trans (zmh g s) (by delta Ji Jb Jt Jf jb3 jb2 zw5 zw6 za8 za9 jfn jfo jfm j9f jfl jfk jfj jfi;exact rfl)
section
variable (x0:GJ×ByteArray) (x1:List AT) (x2:Int) (x3:GJ) (x4:ByteArray) (x5:Bool)
 def jfs:=(woR x3 x4 x5 x2).1=mkS []/\length x1=length x1/\(woR x3 x4 x5 x2).2=x2/\z00 AT.cells x1=z00 AT.cells x1/\True
 def jb5:=∃(i0:List AT),(2:Int)=2/\length i0=length x1/\x2=x2/\z00 AT.cells i0=z00 AT.cells x1/\True/\(woR x3 x4 x5 x2).1=mkS []/\length x1=length i0/\(woR x3 x4 x5 x2).2=faE x2 2/\z00 AT.cells x1=z00 AT.cells i0/\True
 def jfr:=(woR x3 x4 x5 x2).1=GJ.s (Option.getD (z0k x0.2 x0.1) zJ)/\length x1=length x1/\(woR x3 x4 x5 x2).2=x2/\z00 AT.cells x1=z00 AT.cells x1/\True
 def jfp:=((!decide (GJ.k (Option.getD (z0k x0.2 x0.1) zJ)=4))=true->jb5 x1 x2 x3 x4 x5)/\((!decide (GJ.k (Option.getD (z0k x0.2 x0.1) zJ)=4))=false->jfr x0 x1 x2 x3 x4 x5)
 def jb4:=((!Option.isSome (z0k x0.2 x0.1))=true->jb5 x1 x2 x3 x4 x5)/\((!Option.isSome (z0k x0.2 x0.1))=false->jfp x0 x1 x2 x3 x4 x5)
 def jfq:=((!x5)=true->jfs x1 x2 x3 x4 x5)/\((!x5)=false->jb4 x0 x1 x2 x3 x4 x5)
end
def zj3(S:List AT) (e:Int) (g:GJ) (s:ByteArray) (b:Bool):qki P (qfv [(75,z5o),(72,z2a)]) Try.f109 z8a (λ_=>{}) ⟨S,e,g,s,b⟩=(GJ.wf g->(∃(p:Pub),True/\GJ.ok g p)->∃(s_1:GJ×ByteArray),GJ.k s_1.1=GJ.k g/\GJ.n s_1.1=GJ.n g/\GJ.s s_1.1=GJ.s g/\(GJ.y s_1.1).1=(GJ.y g).1/\(GJ.y s_1.1).2.1=(GJ.y g).2.1/\(GJ.y s_1.1).2.2=(GJ.y g).2.2/\(GJ.x s_1.1).1=(GJ.x g).1/\(GJ.x s_1.1).2.1=(GJ.x g).2.1/\(GJ.x s_1.1).2.2=(GJ.x g).2.2/\s_1.2=s/\GJ.wf s_1.1/\(∀(p:Pub),True/\GJ.ok g p->GJ.ok s_1.1 p)/\((!Option.isSome (z0k s_1.2 s_1.1))=true->jfq s_1 S e g s b)/\((!Option.isSome (z0k s_1.2 s_1.1))=false->jb4 s_1 S e g s b)):=by kernel_rfl
def zo3:=λS e g s b=>Eq.trans (zj3 S e g s b) (by delta jfs jb5 jfr jfp jb4 jfq;exact rfl)
section
def z17:q58 P 72 z2a:=by
 refine qkl mixed z0u (W:=λ_=>{}) Try.func72 (by kernel_rfl) (by decide) (by decide) (λs=>by kernel_rfl) λ⟨S,(e0:Int),(e:Int)⟩=>(zly S e0 e).mpr ?_
 simp only[decide_eq_true_eq,decide_eq_false_iff_not,true_and,and_true,eq_self]
 intro _
 exact⟨λh=>if_pos h,λh=>if_neg h⟩
def z6e:q58 P 78 j0k:=by
 refine qkl mixed (qdh (qh9 z17 qk5)) (W:=λ_=>{}) Try.func78 (by kernel_rfl) (by decide) (by decide) (λs=>by kernel_rfl) λ⟨S,(e:Int),t⟩=>(zsh S e t).mpr ?_
 simp only[decide_eq_true_eq,decide_eq_false_iff_not,true_and,and_true,eq_self]
 intro _
 refine⟨λh=>⟨S,rfl,rfl,?_,?_,?_,?_⟩,λh=>⟨z01 z1x S,by omega,by omega,?_,?_,?_,?_⟩⟩
 ·unfold adR;rw[if_pos (by omega)]
 ·unfold adS;rw[if_pos (by omega)]
 ·unfold adE;rw[if_pos (by omega)]
 ·unfold adS;rw[if_pos (by omega)]
 ·unfold adR;rw[if_neg (by omega)];omega
 ·unfold adS;rw[if_neg (by omega)];simp
 ·unfold adE;rw[if_neg (by omega)]
 ·unfold adS;rw[if_neg (by omega),z07];rfl
variable {s:ByteArray} {l:List ByteArray} {j:Nat}
def zgu(h:j<l.length):zri s (l.drop j) j=if l[j]=s then(j:Int)+1 else zri s (l.drop (j+1)) (j+1):=by
 rw[List.drop_eq_getElem_cons h,zri]
def zrr{i:Nat} (h:i<l.length):∀(j:Nat) (v:Value),[Value.string l[i]][j]? =some v->(z00 txV l)[0+i*1+j]? =some v:=λj v hj=>by
 cases j with
 |zero=>rw[Nat.zero_add,z37 z0m l i h 0 (by decide)];exact hj
 |succ j=>simp at hj
def zgy:q58 P 77 zg0:=by
 refine qkl mixed z0u (W:=j26) Try.func77 (by kernel_rfl) (by decide) (by decide) (λs=>by kernel_rfl) λ(s:ByteArray)=>(ztb s).mpr ?_
 simp only[decide_eq_true_eq,decide_eq_false_iff_not,true_and,and_true,eq_self,Int.toNat_natCast]
 intro _
 refine⟨⟨0,rfl,by omega,rfl⟩,?_⟩
 rintro j ⟨hj,ht⟩
 refine⟨λhlt=> ?_,λhge=> ?_⟩
 ·have hl:j<kinds.length:=by show j<14;have:(j:Int)<14:=hlt;omega
  have hd:=zgu (s:=s) hl
  rw[ht]at hd
  refine⟨⟨by omega,by have:(j:Int)<14:=hlt;exact this⟩,kinds[j],zrr hl,λh=>⟨by omega,by rw[hd,if_pos h]⟩,λh=>⟨by omega,j+1,by omega,⟨by have:(j:Int)<14:=hlt;omega,by rw[hd,if_neg h]⟩,by have:(j:Int)<14:=hlt;omega⟩⟩
 ·have:¬((j:Int)<14):=hge
  rw[List.drop_of_length_le (by show 14<=j;omega),zri]at ht
  exact ht.symm
def zo2:q58 P 139 zsr:=by
 refine qkl mixed z0u (W:=λ_=>{}) Try.func139 (by kernel_rfl) (by decide) (by decide) (λs=>by kernel_rfl) λ(k:Int)=>(zo1 k).mpr ?_
 simp only[decide_eq_true_eq,decide_eq_false_iff_not,true_and,and_true,eq_self,Int.toNat_natCast]
 intro _
 refine⟨λh=>by unfold z4h;rw[if_pos (.inl h)],λh=>⟨λh2=>by unfold z4h;rw[if_pos (.inr h2)],λh2=>⟨⟨by omega,by show k<15;omega⟩,z4h k,?_,rfl⟩⟩⟩
 obtain⟨j,rfl⟩:=Int.eq_ofNat_of_zero_le (show 0<=k by omega)
 obtain⟨i,rfl⟩:∃i,j=i+1:=⟨j- 1,by omega⟩
 have hi:i+1<(mkS []::kinds).length:=by show i+1<15;omega
 have e:z4h ((i+1:Nat):Int)=(mkS []::kinds)[i+1]:=by
  unfold z4h
  rw[if_neg (by omega),Int.toNat_natCast,Nat.add_sub_cancel,List.getD_eq_getElem?_getD,List.getElem?_eq_getElem (by simpa using hi)];rfl
 rw[e,Int.toNat_natCast]
 exact zrr (l:=mkS []::kinds) hi
def zdj{l:List AT} (h:j<l.length):findF s (l.drop j) j=if l[j].nm=s/\9<=l[j].k/\l[j].k<=11 then some j else findF s (l.drop (j+1)) (j+1):=by
 rw[List.drop_eq_getElem_cons h,findF]
def zbd{l:List AT} {i:Nat} (h:i<l.length):∀(j:Nat) (v:Value),l[i].cells[j]? =some v->(z00 AT.cells l)[0+i*10+j]? =some v:=λj v hj=>by
 have hl:j<10:=(List.getElem?_eq_some_iff.mp hj).1
 rw[Nat.zero_add,z37 z1x l i h j hl];exact hj
def zbs:q58 P 106 zfv:=by
 refine qkl mixed z0u (W:=j22) Try.func106 (by kernel_rfl) (by decide) (by decide) (λs=>by kernel_rfl) λ⟨S,(e:Int),s⟩=>(zm0 S e s).mpr ?_
 simp only[decide_eq_true_eq,decide_eq_false_iff_not,true_and,and_true,eq_self,Int.toNat_natCast]
 intro hl
 refine⟨⟨0,rfl,by omega,rfl⟩,?_⟩
 rintro j ⟨hj,ht⟩
 refine⟨λhlt=> ?_,λhge=> ?_⟩
 ·have hjl:j<S.length:=by omega
  have hd:=zdj (s:=s) hjl
  rw[ht]at hd
  refine⟨⟨by omega,by omega⟩,S[j].k,S[j].nm,S[j].al.1,S[j].al.2.1,S[j].al.2.2,S[j].it,S[j].sy.1,S[j].sy.2.1,S[j].sy.2.2,S[j].hd,S[j].df,S[j].sz,S[j].f.1,S[j].f.2.1,S[j].f.2.2,S[j].br.1,S[j].br.2.1,S[j].br.2.2,zbd hjl,λh1=>⟨λh2=>⟨λh3=> ?_,λh3=>⟨by omega,j+1,by omega,⟨by omega,?_⟩,by omega⟩⟩,λh2=>⟨by omega,j+1,by omega,⟨by omega,?_⟩,by omega⟩⟩,λh1=>⟨by omega,j+1,by omega,⟨by omega,?_⟩,by omega⟩⟩
  ·rw[hd,if_pos ⟨h1,h2,h3⟩];exact⟨rfl,rfl⟩
  ·rw[hd,if_neg (λh=>h3 h.2.2)]
  ·rw[hd,if_neg (λh=>h2 h.2.1)]
  ·rw[hd,if_neg (λh=>h1 h.1)]
 ·rw[List.drop_of_length_le (by omega),findF]at ht
  rw[←ht];exact⟨rfl,rfl⟩
def j1t:q58 P 108 j9x:=by
 refine qkl mixed (qdh (qh9 zo2 qk5)) (W:=λ_=>{}) Try.func108 (by kernel_rfl) (by decide) (by decide) (λs=>by kernel_rfl) λ⟨S,(t:Int)⟩=>(j1s S t).mpr ?_
 simp only[decide_eq_true_eq,decide_eq_false_iff_not,Bool.not_eq_true',Bool.not_eq_false',true_and,and_true,eq_self,Int.toNat_natCast]
 intro hl
 refine⟨λh=>by unfold zi2;rw[if_pos (.inl h)],λh=>⟨λh2=>by unfold zi2;rw[if_pos (.inr h2)],λh2=> ?_⟩⟩
 obtain⟨j,rfl⟩:=Int.eq_ofNat_of_zero_le (show 0<=t by omega)
 have hj:j<S.length:=by omega
 rw[Int.toNat_natCast]
 have e1:zi2 S (j:Int)=if S[j].nm=mkS []then z4h S[j].k else S[j].nm:=by
  unfold zi2
  rw[if_neg (by omega),Int.toNat_natCast,List.getElem?_eq_getElem hj]
 have c1:∀(i:Nat) (v:Value),[Value.string S[j].nm][i]? =some v->(z00 AT.cells S)[0+j*10+1+i]? =some v:=λi v hi=>by
  cases i with
  |zero=>exact zbd hj 1 v hi
  |succ i=>simp at hi
 refine⟨⟨by omega,by omega⟩,S[j].nm,c1,λh3=>⟨⟨by omega,by omega⟩,S[j].nm,c1,by rw[e1,if_neg h3]⟩,λh3=>⟨⟨by omega,by omega⟩,S[j].k,λi v hi=> ?_,S[j].k,rfl,by rw[e1,if_pos h3]⟩⟩
 cases i with
 |zero=>exact zbd hj 0 v hi
 |succ i=>simp at hi
def zh7:q58 P 150 z9h:=by
 refine qkl mixed z0u (W:=λ_=>{}) Try.func150 (by kernel_rfl) (by decide) (by decide) (λc=>by kernel_rfl) λ(c:Int)=>(zh6 c).mpr ?_
 rintro⟨h1,h2⟩
 obtain⟨n,rfl⟩:=Int.eq_ofNat_of_zero_le h1
 simp only[decide_eq_true_eq,decide_eq_false_iff_not,Int.toNat_natCast,and_true]
 repeat' first|intro _|apply And.intro
 all_goals (rw[Bool.eq_iff_iff];simp[isLt];omega)
def zlv:q58 P 151 zfu:=by
 refine qkl mixed z0u (W:=λ_=>{}) Try.func151 (by kernel_rfl) (by decide) (by decide) (λc=>by kernel_rfl) λ(c:Int)=>(zlu c).mpr ?_
 rintro⟨h1,h2⟩
 obtain⟨n,rfl⟩:=Int.eq_ofNat_of_zero_le h1
 simp only[decide_eq_true_eq,decide_eq_false_iff_not,Int.toNat_natCast,and_true]
 repeat' first|intro _|apply And.intro
 all_goals (rw[Bool.eq_iff_iff];simp[zt8];omega)
def j1g(h:j<s.size):ptA s (s.size- j) j=(ptC s j&&ptA s (s.size- (j+1)) (j+1)):=by
 rw[show s.size- j=s.size- (j+1)+1 by omega,ptA,if_pos h]
def z9v:q58 P 141 zd8:=by
 refine qkl mixed (qdh (qh9 zh7 (qh9 zlv qk5))) (W:=j28) Try.func141 (by kernel_rfl) (by decide) (by decide) (λs=>by kernel_rfl) λ(s:ByteArray)=>(zu1 s).mpr ?_
 simp only[decide_eq_true_eq,decide_eq_false_iff_not,Bool.not_eq_true',Bool.not_eq_false',true_and,and_true,eq_self,Int.toNat_natCast]
 intro hs
 refine⟨⟨0,rfl,by omega,rfl⟩,?_⟩
 rintro j ⟨hj,ht⟩
 have hb:=z3d s j
 refine⟨λhlt=> ?_,λhge=> ?_⟩
 ·have hd:=j1g (s:=s) (j:=j) (by omega)
  rw[ht]at hd
  refine⟨⟨by omega,by omega⟩,⟨by omega,by omega⟩,λh1=>⟨λh2=> ?_,λh2=>⟨⟨by omega,by omega⟩,⟨by omega,by omega⟩,λh3=> ?_,λh3=>⟨by omega,j+1,by omega,⟨by omega,?_⟩,by omega⟩⟩⟩,λh1=>⟨by omega,j+1,by omega,⟨by omega,?_⟩,by omega⟩⟩
  ·unfold z2x;rw[hd];unfold ptC;rw[h1,decide_eq_false (by omega)];rfl
  ·unfold z2x;rw[hd];unfold ptC;rw[h1,h3,Bool.and_false];rfl
  ·rw[hd];unfold ptC;rw[h1,h3,decide_eq_true (by omega)];rfl
  ·rw[hd];unfold ptC;rw[h1];rfl
 ·rw[show s.size- j=0 by omega,ptA]at ht
  unfold z2x;rw[←ht]
  exact z08 (by omega)
def zu2{s q:ByteArray} (h:j<s.size+1):zl8 s (s.size+1- j) j q=if j<s.size/\bat s j≠46 then zl8 s (s.size+1- (j+1)) (j+1) (q++s.extract j (j+1))else if z2x q=true then zl8 s (s.size+1- (j+1)) (j+1) (mkS [])else false:=by
 rw[show s.size+1- j=s.size+1- (j+1)+1 by omega,zl8]
def zn6:q58 P 140 zbi:=by
 refine qkl mixed (qdh (qh9 z9v qk5)) (W:=zrz) Try.func140 (by kernel_rfl) (by decide) (by decide) (λs=>by kernel_rfl) λ(s:ByteArray)=>(parts_eq s).mpr ?_
 simp only[decide_eq_true_eq,decide_eq_false_iff_not,Bool.not_eq_true',Bool.not_eq_false',true_and,and_true,eq_self,Int.toNat_natCast]
 intro hs
 refine⟨⟨⟨0,mkS []⟩,rfl,rfl,by omega,Nat.le_refl _,rfl⟩,?_⟩
 rintro⟨j,q⟩ ⟨hj,hq,ht⟩
 simp only at hj hq ht⊢
 have t1:((j:Int)+1).toNat=j+1:=by omega
 refine⟨λhle=> ?_,λhge=> ?_⟩
 ·have hd:=zu2 (s:=s) (q:=q) (j:=j) (by omega)
  rw[ht]at hd
  rw[t1]
  refine⟨λhlt=>⟨⟨by omega,by omega⟩,λh46=>⟨by omega,⟨by omega,by omega,by omega⟩,?_,by omega,⟨j+1,q++s.extract j (j+1)⟩,rfl,rfl,⟨by show j+1<=_;omega,?_,?_⟩,by show s.size+1- (j+1)<_;omega⟩,λh46=>⟨by omega,λhp=> ?_,λhp=>⟨by omega,⟨j+1,mkS []⟩,rfl,rfl,⟨by show j+1<=_;omega,Nat.zero_le _,?_⟩,by show s.size+1- (j+1)<_;omega⟩⟩⟩,λhge=>⟨by omega,λhp=> ?_,λhp=>⟨by omega,⟨j+1,mkS []⟩,rfl,rfl,⟨by show j+1<=_;omega,Nat.zero_le _,?_⟩,by show s.size+1- (j+1)<_;omega⟩⟩⟩
  ·rw[ByteArray.size_extract];omega
  ·show(q++s.extract j (j+1)).size<=j+1
   rw[ByteArray.size_append,ByteArray.size_extract];omega
  ·rw[hd,if_pos ⟨by omega,by omega⟩]
  ·rw[hd,if_neg (by omega),hp];rfl
  ·rw[hd,if_neg (by omega),if_pos hp]
  ·rw[hd,if_neg (by omega),hp];rfl
  ·rw[hd,if_neg (by omega),if_pos hp]
 ·rw[show s.size+1- j=0 by omega,zl8]at ht
  exact ht.symm
def zfo:q58 P 111 z6g:=by
 refine qkl mixed z0u (W:=zii) Try.func111 (by kernel_rfl) (by decide) (by decide) (λs=>by kernel_rfl) λ(s:ByteArray)=>(zfn s).mpr ?_
 simp only[decide_eq_true_eq,decide_eq_false_iff_not,Bool.not_eq_true',Bool.not_eq_false',true_and,and_true,eq_self,Int.toNat_natCast]
 intro hs
 refine⟨by omega,⟨s.size,rfl,Nat.le_refl _,rfl⟩,?_⟩
 rintro j ⟨hj,ht⟩
 refine⟨λh0=> ?_,λh0=> ?_⟩
 ·obtain⟨i,rfl⟩:∃i,j=i+1:=⟨j- 1,by omega⟩
  have e:((i+1:Nat):Int)- 1=(i:Int):=by omega
  rw[z6f]at ht
  rw[e,Int.toNat_natCast]
  refine⟨⟨by omega,by omega⟩,λh=>⟨⟨by omega,by omega⟩,?_⟩,λh=>⟨by omega,i,by omega,⟨by omega,?_⟩,by omega⟩⟩
  ·rw[←ht,if_pos (by omega)]
  ·rw[←ht,if_neg (by omega)]
 ·obtain rfl:j=0:=by omega
  rw[z6f]at ht;exact ht.symm
def zgx:q58 P 107 zlo:=by
 refine qkl mixed z0u (W:=λ_=>{}) Try.func107 (by kernel_rfl) (by decide) (by decide) (λs=>by kernel_rfl) λ⟨a,b⟩=>(join_eq a b).mpr ?_
 simp only[decide_eq_true_eq,decide_eq_false_iff_not,Bool.not_eq_true',Bool.not_eq_false',true_and,and_true,eq_self,Int.toNat_natCast]
 rintro⟨ha,hb⟩
 have z:(mkS [46]).size=1:=rfl
 unfold z2w
 refine⟨λh=>⟨by omega,if_pos (.inl h)⟩,λh=>⟨λh2=>⟨by omega,if_pos (.inr h2)⟩,λh2=>⟨by omega,by rw[ByteArray.size_append];omega,if_neg (by simp[h,h2])⟩⟩⟩
def zsw(h:j<s.size):zrd s (s.size- j) j=(decide (bat s j=46)||zrd s (s.size- (j+1)) (j+1)):=by
 rw[show s.size- j=s.size- (j+1)+1 by omega,zrd,if_pos h]
def zdq{a b:ByteArray}:(z2w a b).size<=a.size+b.size+1:=by
 have z:(mkS [46]).size=1:=rfl
 unfold z2w
 split
 ·rw[ByteArray.size_append];omega
 ·rw[ByteArray.size_append,ByteArray.size_append];omega
def z5b{a b:ByteArray}:(z1e a b).size<=a.size+b.size+1:=by
 unfold z1e
 split
 ·omega
 ·have:=zdq (a:=b) (b:=a);omega
def zj1:q58 P 110 z6r:=by
 refine qkl mixed (qdh (qh9 zgx (qh9 zn6 (qh9 z17 qk5)))) (W:=zs6) Try.func110 (by kernel_rfl) (by decide) (by decide) (λs=>by kernel_rfl) λ⟨S,(e:Int),a,b⟩=>(zj0 S e a b).mpr ?_
 simp only[decide_eq_true_eq,decide_eq_false_iff_not,Bool.not_eq_true',Bool.not_eq_false',true_and,and_true,eq_self,Int.toNat_natCast]
 rintro⟨ha,hb⟩
 have hw:=z5b (a:=a) (b:=b)
 refine⟨⟨by omega,by omega⟩,⟨⟨0,z2w b a⟩,rfl,rfl,Nat.zero_le _,rfl⟩,?_⟩
 rintro⟨j,q⟩ ⟨hj,ht⟩
 simp only at hj ht⊢
 refine⟨λhlt=> ?_,λhge=> ?_⟩
 ·have hd:=zsw (s:=a) (j:=j) (by omega)
  rw[hd]at ht
  refine⟨⟨by omega,by omega⟩,λh=>⟨by omega,⟨j+1,a⟩,rfl,by show((j+1:Nat):Int)=_;omega,⟨by show j+1<=_;omega,?_⟩,by show a.size- (j+1)<_;omega⟩,λh=>⟨by omega,⟨j+1,q⟩,rfl,by show((j+1:Nat):Int)=_;omega,⟨by show j+1<=_;omega,?_⟩,by show a.size- (j+1)<_;omega⟩⟩
  ·rw[decide_eq_true (by omega),Bool.true_or,if_pos rfl]at ht
   rw[←ht];exact ite_self _
  ·rw[decide_eq_false (by omega),Bool.false_or]at ht
   exact ht
 ·rw[show a.size- j=0 by omega,zrd,if_neg (by simp)]at ht
  rw[ht]
  unfold whE
  refine⟨λh=>⟨S,rfl,rfl,rfl,rfl,if_pos (.inl h),rfl⟩,λh=>⟨by omega,λh2=>⟨S,rfl,rfl,rfl,rfl,if_pos (.inr h2),rfl⟩,λh2=>⟨rfl,if_neg (by rw[h2];simp[h])⟩⟩⟩
def z36:q58 P 75 z5o:=by
 refine qkl mixed z0u (W:=j24) Try.func75 (by kernel_rfl) (by decide) (by decide) (λs=>by kernel_rfl) λ⟨g,s⟩=>(zt4 g s).mpr ?_
 rintro hw ⟨p,_,hp⟩
 rw[GJ.wf_eq]at hw
 obtain⟨_,hl,hnl,_⟩:=hw
 have gx:=λq (hq:g.ok q)=>(by rw[GJ.ok_eq]at hq;exact hq.2.1:slP txV g.x g.nm q)
 have gy:=λq (hq:g.ok q)=>(by rw[GJ.ok_eq]at hq;exact hq.1:slP GJ.cells g.y g.l q)
 have xl:g.x.2.1=g.nm.length:=(gx p hp).1
 have yl:g.y.2.1=g.l.length:=(gy p hp).1
 simp only[sbS,Int.toNat_natCast,xl,yl]
 refine⟨⟨0,rfl,by omega,rfl⟩,?_⟩
 rintro j ⟨hj,ht⟩
 have none0:z0k s g=none->(((z0k s g).getD zJ).k=0/\((z0k s g).getD zJ).n=0/\((z0k s g).getD zJ).s=mkS []/\((z0k s g).getD zJ).y.1=noA/\((z0k s g).getD zJ).y.2.1=0/\((z0k s g).getD zJ).y.2.2=0/\((z0k s g).getD zJ).x.1=noA/\((z0k s g).getD zJ).x.2.1=0/\((z0k s g).getD zJ).x.2.2=0/\(z0k s g).isSome=false):=λh=>by
  rw[h];exact⟨rfl,rfl,rfl,rfl,rfl,rfl,rfl,rfl,rfl,rfl⟩
 have endd:g.nm.length<=j->z0k s g=none:=λh=>by
  rw[←ht,List.drop_of_length_le h]
  split
  ·rw[z4e];intros;simp at*
  ·rfl
 refine⟨λh6=>⟨λhlt=>⟨λhlt2=> ?_,λh=>by omega⟩,λh=>none0 (endd (by omega))⟩,λh6=>none0 (by rw[←ht,if_neg h6])⟩
 have h1:j<g.nm.length:=by omega
 have h2:j<g.l.length:=by omega
 have hd:=z8e (s:=s) h1 h2
 rw[if_pos h6]at ht
 rw[ht]at hd
 refine⟨⟨by omega,by omega⟩,(zcl (gx p hp) h1).1,g.nm[j],λq hq=>(zcl (gx q hq) h1).2,λhs=> ?_,λhs=>⟨by omega,j+1,by omega,⟨by omega,?_⟩,by omega⟩⟩
 ·rw[if_pos hs]at hd
  refine⟨⟨by omega,by omega⟩,(zmi (gy p hp) h2).1,g.l[j].k,g.l[j].n,g.l[j].s,g.l[j].y.1,g.l[j].y.2.1,g.l[j].y.2.2,g.l[j].x.1,g.l[j].x.2.1,g.l[j].x.2.2,λq hq=>(zmi (gy q hq) h2).2,?_⟩
  rw[hd]
  exact⟨rfl,rfl,rfl,rfl,rfl,rfl,rfl,rfl,rfl,rfl⟩
 ·rw[if_neg hs]at hd
  rw[if_pos h6]
  exact hd.symm
def z7j:q58 P 109 z8a:=by
  refine qkl mixed (qdh (qh9 z36 (qh9 z17 qk5))) (W:=λ_=>{}) Try.func109 (by kernel_rfl) (by decide) (by decide) (λs=>by kernel_rfl) λ⟨S,(e:Int),g,s,b⟩=>(zo3 S e g s b).mpr ?_
  rintro hw ⟨p,_,hp⟩
  simp only[sbS,Int.toNat_natCast]
  refine⟨⟨g,s⟩,rfl,rfl,rfl,rfl,rfl,rfl,rfl,rfl,rfl,rfl,hw,λq hq=>hq,?_⟩
  simp only
  unfold woR
  cases hk:z0k s g with
  | none=>
    refine⟨λ_=>⟨λhb=> ?_,λhb=>⟨λ_=>⟨S,rfl,rfl,?_,rfl,?_,rfl⟩,λh=>absurd h (by simp)⟩⟩,λh=>absurd h (by simp)⟩
    · simp only[hb];refine⟨?_,?_⟩<;>first|rfl|trivial
    · simp only[hb];rfl
    · simp only[hb];rfl
  | some t=>
    refine⟨λh=>absurd h (by simp),λ_=>⟨λh=>absurd h (by simp),λ_=>⟨λh4=>⟨S,rfl,rfl,?_,rfl,?_,rfl⟩,λh4=> ?_⟩⟩⟩
    · have h4:¬t.k=4:=h4
      simp only[if_neg h4]
    · have h4:¬t.k=4:=h4
      simp only[if_neg h4]
    · have h4:t.k=4:=h4
      simp only[if_pos h4];refine⟨?_,?_⟩<;>first|rfl|trivial
end
def z4d:List GJ->Int->List ByteArray->List ByteArray×Int
 | [],e,acc=>(acc,e)
 |g::l,e,acc=>if e=0 then z4d l (if g.k=4 then 0 else 2) (acc++[g.s])else(acc,e)
def tyE(g:GJ) (s:ByteArray) (e:Int):Int:=if((z0k s g).getD zJ).k=5 then e else faE e 2
def z2c(g:GJ) (s:ByteArray) (e:Int):List ByteArray×Bool×Int:=if(z0k s g).isSome=true then((z4d ((z0k s g).getD zJ).l (tyE g s e) []).1,true,(z4d ((z0k s g).getD zJ).l (tyE g s e) []).2)else([],false,e)
def jnd(l:List ByteArray):List SV->PF
 | [x]=>⟨true,slP txV x l,λ_ _ h e=>z0d h e⟩
 |_=>{}
def z68:Ct where
 σ:=List AT×Int×GJ×ByteArray
 args:=λ⟨S,e,g,s⟩=>[.ptr 1 0,g.av, .sv (.string s)]
 h:=λ⟨S,e,g,s⟩=>mkO S e 2 3
 m:=4
 pre:=λ⟨S,e,g,s⟩=>g.wf
 mem:=λ⟨S,e,g,s⟩=>gM g
 r:=λ⟨S,e,g,s⟩=> .tup [.tsl 4, .sv (.bool (z2c g s e).2.1)]
 h':=λ⟨S,e,g,s⟩=>mkO S (z2c g s e).2.2 2 3
 m':=5
 g:=λ⟨S,e,g,s⟩=>some {β:=Unit,ks:=[4],pre:=λ_=>True,mem:=λ_ xs=>jnd (z2c g s e).1 xs}
def mkC(S:List AT) (e:Int) (r k:Nat):Nat×AO:=(1, .cells 98 (some 0) false [.ssl r 0 S.length 10 k, .sv (.int .i64 e)])
def zs2:z68.σ->WayF:=λ⟨S,e,g,s⟩=>{
 cut:=λi _ _=>match i with
  |6=>some {σ:=Unit,t:=λ_=>[],h:=λ_=>[mkC S (tyE g s e) 2 3],more:=0,μ:=λ_=>0,keep:=[0,6,7,8]}
  |_=>none
 ann:=λ_ _ _=>some {σ:=Nat×Int×List ByteArray,pre:=λ⟨j,e',acc⟩=>j<=((z0k s g).getD zJ).l.length/\acc.length<=j/\z4d (((z0k s g).getD zJ).l.drop j) e' acc=z4d ((z0k s g).getD zJ).l (tyE g s e) [],t:=λ⟨j,e',acc⟩=>[(11, .sv (.int .i64 (j:Int))),(10, .ssl 7 0 acc.length 1 8)],h:=λ⟨j,e',acc⟩=>[(7, .row 9 0 (z00 txV acc)),mkC S e' 2 3],more:=2,μ:=λ⟨j,e',acc⟩=>((z0k s g).getD zJ).l.length- j,keep:=[0,6,7,8]}
 pubE:=[6]}
def z2e(n:Nat) (a:AT):Prop:=(1<=a.k/\a.k<=14)/\(a.k=12\/a.k=13->0<=a.it/\a.it<n)/\(∀b∈a.brs,0<=b/\b<n)/\(a.k=14->a.brs≠[])/\(∀f∈a.fs,(0<=f.ty/\f.ty<n)/\f.df.wf)/\(a.k=10->a.sys≠[])/\(a.k=11->0<=a.sz/\a.sz<=5000)/\(a.fs.length<=30/\a.brs.length<=30/\a.sys.length<=30)
def grown(S:List AT) (e:Int) (T:List AT) (e':Int):Prop:=(S++T).length<=60/\(e'=0->e=0/\∀a∈T,z2e (S++T).length a)
def toM(T:List AT):PF:=⟨true,λp=>∀a∈T,a.ok p,λ_ _ h e a ha=>AT.ok_mono h (e a ha)⟩
abbrev TmB:=List AT×Int×Int
def zbj:CtR where
 σ:=List AT×Int×ByteArray×ByteArray
 args:=λ⟨S,e,s,sp⟩=>[.ptr 1 0, .sv (.string s), .sv (.string sp)]
 h:=λ⟨S,e,s,sp⟩=>mkO S e 2 3
 m:=4
 pre:=λ⟨S,e,s,sp⟩=>S.length<=60/\s.size<100000/\sp.size<100000
 β:=λ_=>TmB
 post:=λ⟨S,e,s,sp⟩ ⟨T,e',r⟩=>grown S e T e'/\(e'=0->0<=r/\r<(S++T).length)
 pm:=λ_ ⟨T,e',r⟩=>toM T
 r:=λ_ ⟨T,e',r⟩=> .sv (.int .i64 r)
 h':=λ⟨S,e,s,sp⟩ ⟨T,e',r⟩=>mkO (S++T) e' 4 5
 m':=6
def zs1:zbj.σ->WayF:=λ⟨S,e,s,sp⟩=>{
 cut:=λi _ _=>match i with
  |4=>some {σ:=Unit,t:=λ_=>[],h:=λ_=>[],more:=0,μ:=λ_=>0,keep:=[0,1,2,6,7]}
  |_=>none
 ann:=λ_ _ _=>some {σ:=Nat×Bool,pre:=λ⟨j,d⟩=>j<=s.size,t:=λ⟨j,d⟩=>[(9, .sv (.int .i64 (j:Int))),(8, .sv (.bool d))],h:=λ_=>[],more:=0,μ:=λ⟨j,d⟩=>s.size- j,keep:=[0,1,2,6,7]}}
section
variable (x0:GJ×ByteArray) (x1:List AT) (x2:Int) (x3:GJ) (x4:ByteArray) (x5:Nat×Int×List ByteArray) (x6:Prop) (x7:Nat×Int×List ByteArray) (x8:Nat->Option Obj) (x9:Nat) (x10:Option Addr)
 abbrev zej:=z00 AT.cells x1=z00 AT.cells x1
 abbrev z4j:=Option.getD (z0k x0.2 x0.1) zJ
 def j3w:=GJ.k (z4j x0)=GJ.k (z4j x0)/\GJ.n (z4j x0)=GJ.n (z4j x0)/\GJ.s (z4j x0)=GJ.s (z4j x0)/\(GJ.y (z4j x0)).1=(GJ.y (z4j x0)).1/\(GJ.y (z4j x0)).2.1=(GJ.y (z4j x0)).2.1/\(GJ.y (z4j x0)).2.2=(GJ.y (z4j x0)).2.2/\(GJ.x (z4j x0)).1=(GJ.x (z4j x0)).1/\(GJ.x (z4j x0)).2.1=(GJ.x (z4j x0)).2.1/\(GJ.x (z4j x0)).2.2=(GJ.x (z4j x0)).2.2/\(∀i0,True/\GJ.ok x3 i0->True/\GJ.ok x3 i0)/\x6
 abbrev zek:=GJ.l (Option.getD (z0k x4 x3) zJ)
 def j9g:=x5.1<=length (zek x3 x4)/\length x5.2.2<=x5.1/\z4d (drop x5.1 (zek x3 x4)) x5.2.1 x5.2.2=z4d (zek x3 x4) (tyE x3 x4 x2) []
 abbrev zw9:=(↑x5.1:Int)<(↑(GJ.y (z4j x0)).2.1:Int)
 def zp4:=(0<=(↑x5.1:Int)/\zw9 x0 x5)/\(GJ.y (z4j x0)).1≠noA/\x6
 def zw7:=(∀i0,True/\GJ.ok x3 i0->q3f i0 (Addr.add (adr (GJ.y (z4j x0)).1 (toNat (↑x5.1:Int)*5)) 2) [string x4])/\length (z00 txV x5.2.2)=length x5.2.2*1/\(length x5.2.2+nat_lit 1)*16<=140737488355328/\Jb ((↑x5.1:Int)+1)/\x6
 def zwa:=(↑x5.1:Int)=(↑x7.1:Int)+1/\length x5.2.2=length x7.2.2+nat_lit 1/\x6
 def zw8:=j3w x0 x3 ((j9g x2 x3 x4 x5)/\length (zek x3 x4)- x5.1<length (zek x3 x4)- x7.1/\True)
 def jfy:=zp4 x0 x5 (∃i0,zw7 x0 x3 i0 x5 (∃(i2:Nat×Int×List ByteArray),zwa i2 (length x1=length x1/\i2.2.1=x5.2.1/\z00 txV i2.2.2=z00 txV x5.2.2++[string i0]/\zej x1/\zw8 x0 x2 x3 x4 i2 x5) x5))
 def jfx:=zp4 x0 x5 (∃(i0:Int),(∀i1,True/\GJ.ok x3 i1->q3f i1 (Addr.add (adr (GJ.y (z4j x0)).1 (toNat (↑x5.1:Int)*5)) 0) [int i64 i0])/\((!decide (i0=4))=true->∃(i2:List AT),(2:Int)=2/\length i2=length x1/\x5.2.1=x5.2.1/\z00 AT.cells i2=z00 AT.cells x1/\True/\zp4 x0 x5 (∃i3,zw7 x0 x3 i3 x5 (∃(i5:Nat×Int×List ByteArray),zwa i5 (length x1=length i2/\i5.2.1=faE x5.2.1 2/\z00 txV i5.2.2=z00 txV x5.2.2++[string i3]/\z00 AT.cells x1=z00 AT.cells i2/\zw8 x0 x2 x3 x4 i5 x5) x5)))/\((!decide (i0=4))=false->jfy x0 x1 x2 x3 x4 x5))
 def zwb:=(True/\GJ.ok x3 x8)/\length x5.2.2<=x9/\qhc x8 x10 (take (length x5.2.2*nat_lit 1) (z00 txV x5.2.2))
 def jb6:=∀(i0 i1 i2:Nat) (i3:Option Addr) (i4 i5:Nat),(∃i6,zwb x3 x5 i6 i5 i3)->∃(i7:Unit),i3=i3/\length x5.2.2=length x5.2.2/\i5=i5/\(z2c x3 x4 x2).2.1=true/\length x1=length x1/\(z2c x3 x4 x2).2.2=x5.2.1/\zej x1/\Pl i3/\True/\(∀i8,zwb x3 x5 i8 i5 i3->slP txV (i3,length x5.2.2,i5) (z2c x3 x4 x2).1 i8)/\True
 def jfw:=Ji (x5.2.1=0) (jfx x0 x1 x2 x3 x4 x5) (jb6 x1 x2 x3 x4 x5)
 abbrev jfv:=Ji (zw9 x0 x5) (jfw x0 x1 x2 x3 x4 x5) (jb6 x1 x2 x3 x4 x5)
 def jfu:=(∃(i0:Nat×Int×List ByteArray),(↑i0.1:Int)=0/\length i0.2.2=0/\length x1=length x1/\i0.2.1=tyE x3 x4 x2/\zej x1/\j3w x0 x3 ((j9g x2 x3 x4 i0)/\True))/\∀(i2:Nat×Int×List ByteArray),j9g x2 x3 x4 i2->jfv x0 x1 x2 x3 x4 i2
 def jft:=(((!decide (GJ.k (z4j x0)=5))=true->∃(i0:List AT),(2:Int)=2/\length i0=length x1/\x2=x2/\z00 AT.cells i0=z00 AT.cells x1/\True/\∃(i1:Unit),length x1=length i0/\tyE x3 x4 x2=faE x2 2/\z00 AT.cells x1=z00 AT.cells i0/\j3w x0 x3 (True/\True))/\((!decide (GJ.k (z4j x0)=5))=false->∃(i3:Unit),length x1=length x1/\tyE x3 x4 x2=x2/\zej x1/\j3w x0 x3 (True/\True)))/\∀(i5:Unit),True->jfu x0 x1 x2 x3 x4
end
def zi4(S:List AT) (e:Int) (g:GJ) (s:ByteArray):qki P (qfv [(75,z5o),(72,z2a)]) Try.f112 z68 (zs2) ⟨S,e,g,s⟩=(GJ.wf g->(∃(p:Pub),True/\GJ.ok g p)->∃(s_1:GJ×ByteArray),GJ.k s_1.1=GJ.k g/\GJ.n s_1.1=GJ.n g/\GJ.s s_1.1=GJ.s g/\(GJ.y s_1.1).1=(GJ.y g).1/\(GJ.y s_1.1).2.1=(GJ.y g).2.1/\(GJ.y s_1.1).2.2=(GJ.y g).2.2/\(GJ.x s_1.1).1=(GJ.x g).1/\(GJ.x s_1.1).2.1=(GJ.x g).2.1/\(GJ.x s_1.1).2.2=(GJ.x g).2.2/\s_1.2=s/\GJ.wf s_1.1/\(∀(p:Pub),True/\GJ.ok g p->GJ.ok s_1.1 p)/\((!Option.isSome (z0k s_1.2 s_1.1))=true->∃(b:Unit),noA=noA/\(0:Nat)=0/\(0:Nat)=0/\(z2c g s e).2.1=false/\length S=length S/\(z2c g s e).2.2=e/\zej S/\Pl noA/\True/\(∀(p:Pub),True/\GJ.ok g p->slP txV (noA,(0:Nat),(0:Nat)) (z2c g s e).1 p)/\True)/\((!Option.isSome (z0k s_1.2 s_1.1))=false->jft s_1 S e g s)):=by kernel_rfl
def znp:=λS e g s=>Eq.trans (zi4 S e g s) (by delta Ji Jb Jt Jf zej z4j j3w zek j9g zw9 zp4 zw7 zwa zw8 jfy jfx zwb jb6 jfw jfv jfu jft;exact rfl)
section
variable (x0:ByteArray) (x1:List AT) (x2:Int) (x3:ByteArray) (x4:Nat×Bool) (x5:TmB) (x6:List AT) (x7:Prop) (x8:Nat×Bool)
 abbrev j9h:=(grown x1 x2 x5.1 x5.2.1/\(x5.2.1=0->0<=x5.2.2/\x5.2.2<(↑(length (x1++x5.1)):Int)))/\(∀i0,True->∀(i1:AT),i1∈x5.1->AT.ok i1 i0)/\True
 def zel:=length x1=length x1/\x2=x2/\z00 AT.cells x1=z00 AT.cells x1/\x7
 def jg4:=Ji (z0j x0<=8) (∃(i0:List AT×Int×AT),AT.k i0.2.2=z0j x0/\AT.nm i0.2.2=mkS []/\(AT.al i0.2.2).1=noA/\(AT.al i0.2.2).2.1=0/\(AT.al i0.2.2).2.2=0/\AT.it i0.2.2=0/\(AT.sy i0.2.2).1=noA/\(AT.sy i0.2.2).2.1=0/\(AT.sy i0.2.2).2.2=0/\AT.hd i0.2.2=false/\AT.df i0.2.2=mkS []/\AT.sz i0.2.2=0/\(AT.f i0.2.2).1=noA/\(AT.f i0.2.2).2.1=0/\(AT.f i0.2.2).2.2=0/\(AT.br i0.2.2).1=noA/\(AT.br i0.2.2).2.1=0/\(AT.br i0.2.2).2.2=0/\length i0.1=length x1/\i0.2.1=x2/\z00 AT.cells i0.1=z00 AT.cells x1/\True/\∃(i1:TmB),i1.2.2=adR i0.1/\length (x1++i1.1)=length (adS i0.1 i0.2.2)/\i1.2.1=adE i0.1 i0.2.1/\z00 AT.cells (x1++i1.1)=z00 AT.cells (adS i0.1 i0.2.2)/\j9h x1 x2 i1) (∃(i4:Unit),x0=x0/\z0j x0=z0j x0/\x3=x3/\zel x1 x2 (True/\True))
 abbrev zwc:=Jb ((↑x4.1:Int)+1)
 def zwe:=x4.1<=size x0/\size x0- x4.1<size x0- x8.1/\True
 def j3x:=zwc x4/\∃(i0:Nat×Bool),x0=x0/\z0j x0=z0j x0/\(↑i0.1:Int)=(↑x4.1:Int)+1/\x3=x3/\i0.2=true/\zel x1 x2 (zwe x0 i0 x4)
 def jg6:=(0<=(↑x4.1:Int)/\(↑x4.1:Int)<(↑(size x0):Int))/\zwc x4/\∃(i0:Nat×Bool),x0=x0/\z0j x0=z0j x0/\(↑i0.1:Int)=(↑x4.1:Int)+1/\x3=x3/\i0.2=decide ((↑(bat x0 (toNat (↑x4.1:Int))):Int)=46)/\zel x1 x2 (zwe x0 i0 x4)
 def jg5:=(x4.2=true->j3x x0 x1 x2 x3 x4)/\(x4.2=false->jg6 x0 x1 x2 x3 x4)
 def zjm:=length x1=length x6/\x2=x2/\z00 AT.cells x1=z00 AT.cells x6/\x7
 def zwd:=length (x1++x5.1)=length x6/\x5.2.1=x2/\z00 AT.cells (x1++x5.1)=z00 AT.cells x6/\j9h x1 x2 x5
 def jb7:=length x1<1000/\((!Option.isSome (findF x0 x1 0))=true->∃(i0:List AT),(4:Int)=4/\zjm i0 x2 x1 (True/\∃(i1:TmB),i1.2.2=0/\length (x6++i1.1)=length i0/\i1.2.1=faE x2 4/\z00 AT.cells (x6++i1.1)=z00 AT.cells i0/\j9h x6 x2 i1))/\((!Option.isSome (findF x0 x1 0))=false->∃(i2:TmB),i2.2.2=fnI (findF x0 x1 0)/\zwd x6 x2 i2 x1)
 def jg3:=x0=x0/\x3=x3/\(size x0<1000000/\size x3<1000000)/\∃(i0:List AT),z2w x0 x3=z2w x0 x3/\zjm i0 x2 x1 (length i0<1000/\(Option.isSome (findF (z2w x0 x3) i0 0)=true->∃(i1:TmB),i1.2.2=fnI (findF (z2w x0 x3) i0 0)/\zwd x1 x2 i1 i0)/\(Option.isSome (findF (z2w x0 x3) i0 0)=false->∃(i4:List AT),x3=x3/\zjm i4 x2 i0 (jb7 x3 i4 x2 x1)))
 def jg2:=((!x4.2)=true->jg3 x0 x1 x2 x3)/\((!x4.2)=false->∃(i12:List AT),x3=x3/\zjm i12 x2 x1 (jb7 x3 i12 x2 x1))
 def jg1:=Ji ((↑x4.1:Int)<(↑(size x0):Int)) (jg5 x0 x1 x2 x3 x4) (jg2 x3 x1 x2 x0 x4)
 def jg0:=(∃(i0:Nat×Bool),x0=x0/\z0j x0=z0j x0/\(↑i0.1:Int)=0/\x3=x3/\i0.2=false/\zel x1 x2 (i0.1<=size x0/\True))/\∀(i1:Nat×Bool),i1.1<=size x0->jg1 x0 x1 x2 x3 i1
 def jfz:=x0=x0/\True/\(Ji (1<=z0j x0) (jg4 x0 x1 x2 x3) (∃(i5:Unit),x0=x0/\z0j x0=z0j x0/\x3=x3/\zel x1 x2 (True/\True)))/\∀(i6:Unit),True->jg0 x0 x1 x2 x3
end
def zi3(S:List AT) (e:Int) (s sp:ByteArray):qkj P (qfv [(77,zg0),(78,j0k),(107,zlo),(106,zfv),(72,z2a)]) (qgy []) Try.f73 zbj (zs1) ⟨S,e,s,sp⟩=(length S<=60/\size s<100000/\size sp<100000->jfz s S e sp):=by kernel_rfl
def znm:=λS e s sp=>Eq.trans (zi3 S e s sp) (by delta Ji Jb Jt Jf j9h zel jg4 zwc zwe j3x jg6 jg5 zjm zwd jb7 jg3 jg2 jg1 jg0 jfz;exact rfl)
section
def zc3{s:ByteArray}:∀{nm:List ByteArray} {l:List GJ} {t:GJ},z4e s nm l=some t->∃(i:Nat) (h:i<l.length),t=l[i]
  | [],l,t,h=>by simp[z4e]at h
  |x::nm,[],t,h=>by simp[z4e]at h
  | x::nm,g::l,t,h=>by
    rw[z4e]at h
    split at h
    · cases h;exact⟨0,by simp,rfl⟩
    · obtain⟨i,hi,e⟩:=zc3 h;exact⟨i+1,by simpa using hi,by simpa using e⟩
variable {s:ByteArray}
def zdl{g t:GJ} (h:z0k s g=some t) (hw:g.wf):t.wf/\∀p,g.ok p->t.ok p:=by
 unfold z0k at h
 split at h
 ·obtain⟨i,hi,rfl⟩:=zc3 h
  rw[GJ.wf_eq]at hw
  exact⟨GJ.wfs_at hw.2.2.2.2.2.2 hi,λp hp=>by rw[GJ.ok_eq]at hp;exact GJ.oks_at hp.2.2 hi⟩
 ·cases h
def jai:zJ.wf:=by
 unfold zJ GJ.wf GJ.wfs
 exact⟨by decide,by decide,by decide,λt h=>by simp at h,⟨by decide,by decide⟩,λ_=>rfl,trivial⟩
def jah(p:Pub):zJ.ok p:=by
 unfold zJ GJ.ok GJ.oks;exact⟨z06,z06,trivial⟩
def z19(s:ByteArray) {g:GJ} (hw:g.wf):((z0k s g).getD zJ).wf/\∀p,g.ok p->((z0k s g).getD zJ).ok p:=by
 cases h:z0k s g with
 |none=>exact⟨jai,λp _=>jah p⟩
 |some t=>exact zdl h hw
variable {l:List GJ} {acc:List ByteArray}
def z8n{j:Nat} {e:Int} (h:j<l.length):z4d (l.drop j) e acc=if e=0 then z4d (l.drop (j+1)) (if l[j].k=4 then 0 else 2) (acc++[l[j].s])else(acc,e):=by
 rw[List.drop_eq_getElem_cons h,z4d]
def zcm{j:Nat} {e:Int} (h:l.length<=j\/e≠0):z4d (l.drop j) e acc=(acc,e):=by
 by_cases hj:l.length<=j
 ·rw[List.drop_of_length_le hj,z4d]
 ·rw[z8n (by omega),if_neg (by omega)]
def zd2(x:Addr):x.add 0=x:=by
 cases x;simp[Addr.add]
def z7e:q58 P 112 z68:=by
  refine qkl mixed (qdh (qh9 z36 (qh9 z17 qk5))) (W:=zs2) Try.func112 (by kernel_rfl) (by decide) (by decide) (λs=>by kernel_rfl) λ⟨S,(e:Int),g,s⟩=>(znp S e g s).mpr ?_
  rintro hg ⟨p,_,hp⟩
  simp only[sbS,exists_const]
  refine⟨⟨g,s⟩,rfl,rfl,rfl,rfl,rfl,rfl,rfl,rfl,rfl,rfl,hg,λq hq=>hq,λhn=> ?_,λhy=> ?_⟩
  · have e0:z2c g s e=([],false,e):=by unfold z2c;rw[if_neg (by rw[hn];decide)]
    rw[e0];exact⟨rfl,rfl,z1i,λq _=>z06⟩
  obtain⟨tw,tok⟩:=z19 s hg
  have e1:z2c g s e=((z4d ((z0k s g).getD zJ).l (tyE g s e) []).1,true,(z4d ((z0k s g).getD zJ).l (tyE g s e) []).2):=by unfold z2c;rw[if_pos hy]
  rw[e1]
  have hty:tyE g s e=if((z0k s g).getD zJ).k=5 then e else faE e 2:=rfl
  simp only
  generalize (z0k s g).getD zJ=t at*
  generalize tyE g s e=e2 at*
  have hy2:=λq (hq:g.ok q)=>(show slP GJ.cells t.y t.l q by have:=tok q hq;rw[GJ.ok_eq]at this;exact this.1)
  have tl:t.y.2.1=t.l.length:=(hy2 p hp).1
  rw[GJ.wf_eq]at tw
  refine⟨⟨λh=>⟨S,rfl,rfl,rfl,by rw[hty,if_neg h],rfl⟩,λh=>by rw[hty,if_pos h]⟩,?_⟩
  rintro _ _
  refine⟨⟨⟨0,e2,[]⟩,rfl,rfl,rfl,by show 0<=_;omega,by show 0<=_;omega,rfl⟩,?_⟩
  rintro⟨j,e',acc⟩ ⟨hj,ha,he⟩
  simp only at*
  have done:z4d (t.l.drop j) e' acc=(acc,e')->∀(a:Option Addr) (c:Nat),(z4d t.l e2 []).2=e'/\∀q,acc.length<=c/\qhc q a (List.take (acc.length*1) (z00 txV acc))->slP txV (a,acc.length,c) (z4d t.l e2 []).1 q:=λh a c=>by
    rw[←he,h]
    refine⟨rfl,λq hq=>⟨rfl,hq.1,?_⟩⟩
    have:=hq.2
    rw[List.take_of_length_le (by rw[z01 z0m];exact Nat.le_refl _)]at this
    exact this
  refine⟨λhlt=>⟨λh0=> ?_,λh0=> ?_⟩,λhge=> ?_⟩
  · have hjl:j<t.l.length:=by omega
    have hat:=λq (hq:g.ok q)=>z14 z48 (by decide) (hy2 q hq) hjl
    have hd:=z8n (e:=e') (acc:=acc) hjl
    rw[if_pos h0]at hd
    have cell:∀q (hq:g.ok q) (k:Nat) (v:Value),t.l[j].cells[k]? =some v->q3f q ((adr t.y.1 (j*5)).add k) [v]:=λq hq k v hv i u hu=>by
      have:=(hat q hq).2
      match i with
      | 0=>
        simp at hu;subst hu
        rw[zd2]
        exact this k v hv
      |i+1=>simp at hu
    refine⟨by omega,(hat p hp).1,t.l[j].k,λq hq=>cell q hq 0 _ rfl,λhk=>⟨S,rfl,rfl,by omega,(hat p hp).1,t.l[j].s,λq hq=>cell q hq 2 _ rfl,z01 z0m acc,by omega,⟨by omega,by omega⟩,⟨j+1,2,acc++[t.l[j].s]⟩,by show((j+1:Nat):Int)=_;omega,by show(acc++[t.l[j].s]).length=_;simp,rfl,by show 2=faE e' 2;unfold faE;rw[if_pos h0],by show z00 txV (acc++[t.l[j].s])=_;rw[z07];rfl,rfl,⟨by show j+1<=_;omega,by show(acc++[t.l[j].s]).length<=j+1;simp;omega,?_⟩,by show _- (j+1)<_;omega⟩,λhk=>⟨by omega,(hat p hp).1,t.l[j].s,λq hq=>cell q hq 2 _ rfl,z01 z0m acc,by omega,⟨by omega,by omega⟩,⟨j+1,0,acc++[t.l[j].s]⟩,by show((j+1:Nat):Int)=_;omega,by show(acc++[t.l[j].s]).length=_;simp,h0.symm,by show z00 txV (acc++[t.l[j].s])=_;rw[z07];rfl,⟨by show j+1<=_;omega,by show(acc++[t.l[j].s]).length<=j+1;simp;omega,?_⟩,by show _- (j+1)<_;omega⟩⟩
    · rw[←he,hd,if_neg hk]
    · rw[←he,hd,if_pos hk]
  · rintro b s4 u a n c ⟨q0,hq0⟩
    obtain⟨d1,d2⟩:=done (zcm (.inr h0)) a c
    exact⟨trivial,d1,rowP_Pl hq0.2.2,λq hq=>d2 q hq.2⟩
  · rintro b s4 u a n c ⟨q0,hq0⟩
    obtain⟨d1,d2⟩:=done (zcm (.inl (by omega))) a c
    exact⟨trivial,d1,rowP_Pl hq0.2.2,λq hq=>d2 q hq.2⟩
def pmT(k it:Int):AT:=⟨k,mkS [],(none,0,0),[],it,(none,0,0),[],false,mkS [],0,(none,0,0),[],(none,0,0),[]⟩
def zce(k it:Int) (p:Pub):(pmT k it).ok p:=⟨z06,z06,z06,z06,λf hf=>absurd hf (by simp[pmT])⟩
def zn7{n:Nat} {k it:Int} (h1:1<=k) (h8:k<=8):z2e n (pmT k it):=by
 have hk:(pmT k it).k=k:=rfl
 unfold z2e
 rw[hk]
 exact⟨⟨h1,by omega⟩,λh=>(by omega),λb hb=>(by cases hb),λh=>(by omega),λf hf=>(by cases hf),λh=>(by omega),λh=>(by omega),Nat.zero_le _,Nat.zero_le _,Nat.zero_le _⟩
def zbr{s:ByteArray}:∀{l:List AT} {i k:Nat},findF s l i=some k->i<=k/\k<i+l.length
  | [],i,k,h=>by simp[findF]at h
  | a::l,i,k,h=>by
    rw[findF]at h
    split at h
    · cases h;simp
    · have:=zbr h;simp;omega
def zc2{S:List AT} (h:(findF s S 0).isSome=true):0<=fnI (findF s S 0)/\fnI (findF s S 0)<S.length:=by
  cases hf:findF s S 0 with
  |none=>rw[hf]at h;cases h
  | some k=>
    have:=zbr hf
    show 0<=(k:Int)/\(k:Int)<_
    omega
def z0r{e0 e:Int} (h:e≠0):faE e0 e≠0:=by unfold faE;split<;>omega
def znn:q1u P 73 zbj:=by
 refine qjr mixed (qdh (qh9 zgy (qh9 z6e (qh9 zgx (qh9 zbs (qh9 z17 qk5)))))) (qe7 qk4) (W:=zs1) Try.func73 (by kernel_rfl) (by decide) (by decide) (λs=>by kernel_rfl) λ⟨S,(e:Int),s,sp⟩=>(znm S e s sp).mpr ?_
 rintro⟨hS,hs,hsp⟩
 simp only[sbS,exists_const,forall_const]
 have same:∀r:Int,(0<=r/\r<S.length)->grown S e [] e/\(e=0->0<=r/\r<(S++[]).length):=λr hr=>by
  unfold grown;rw[List.append_nil]
  exact⟨⟨hS,λh=>⟨h,λa ha=>by cases ha⟩⟩,λ_=>hr⟩
 have bad:grown S e [] (faE e 4)/\(faE e 4=0->0<=(0:Int)/\0<((S++[]).length:Int)):=by
  have:=z0r (e0:=e) (e:=4) (by decide)
  unfold grown;rw[List.append_nil]
  exact⟨⟨hS,λh=>absurd h this⟩,λh=>absurd h this⟩
 refine⟨λh1=>λh8=>⟨⟨S,e,pmT (z0j s) 0⟩,rfl,rfl,rfl,rfl,rfl,rfl,rfl,rfl,rfl,rfl,rfl,rfl,rfl,rfl,rfl,rfl,rfl,rfl,rfl,rfl,rfl,?_⟩,?_⟩
 ·by_cases hl:60<=S.length
  ·refine⟨⟨[],adE S e,adR S⟩,rfl,?_,rfl,?_,?_,λp a ha=>by cases ha⟩
   ·show(S++[]).length=(adS S (pmT (z0j s) 0)).length
    unfold adS;rw[if_pos hl,List.append_nil]
   ·show z00 AT.cells (S++[])=z00 AT.cells (adS S (pmT (z0j s) 0))
    unfold adS;rw[if_pos hl,List.append_nil]
   ·have:adE S e≠0:=by unfold adE;rw[if_pos hl];exact z0r (by decide)
    unfold grown
    exact⟨⟨by rw[List.append_nil];exact hS,λh=>absurd h this⟩,λh=>absurd h this⟩
  ·refine⟨⟨[pmT (z0j s) 0],adE S e,adR S⟩,rfl,?_,rfl,?_,?_,λp a ha=> ?_⟩
   ·show(S++[_]).length=(adS S (pmT (z0j s) 0)).length
    unfold adS;rw[if_neg hl]
   ·show z00 AT.cells (S++[_])=z00 AT.cells (adS S (pmT (z0j s) 0))
    unfold adS;rw[if_neg hl]
   ·have e1:adE S e=e:=by unfold adE;rw[if_neg hl]
    have e2:adR S=S.length:=by unfold adR;rw[if_neg hl]
    show grown S e [_] (adE S e)/\(adE S e=0->0<=adR S/\adR S<((S++[_]).length:Int))
    rw[e1,e2]
    refine⟨⟨by simp;omega,λh=>⟨h,λa ha=> ?_⟩⟩,λ_=>by simp;omega⟩
    simp at ha;subst ha
    exact zn7 h1 h8
   ·simp at ha;subst ha;exact zce _ _ _
 refine⟨⟨⟨0,false⟩,rfl,rfl,Nat.zero_le _⟩,?_⟩
 rintro⟨j,d⟩ hj
 simp only at*
 have tail:∀b1:List AT,b1=S->(b1.length<1000/\((findF s b1 0).isSome=true->0<=fnI (findF s b1 0)/\fnI (findF s b1 0)<S.length)):=λb1 h=>by
  subst h;exact⟨by omega,zc2⟩
 refine⟨λhlt=>⟨λhd=>⟨⟨by omega,by omega⟩,⟨j+1,true⟩,by show((j+1:Nat):Int)=_;omega,rfl,by show j+1<=_;omega,by show _- (j+1)<_;omega⟩,λhd=>⟨⟨by omega,hlt⟩,⟨by omega,by omega⟩,⟨j+1,_⟩,by show((j+1:Nat):Int)=_;omega,rfl,by show j+1<=_;omega,by show _- (j+1)<_;omega⟩⟩,λhge=>⟨λhd=>⟨⟨by omega,by omega⟩,S,rfl,rfl,by omega,λhf=>⟨⟨[],e,fnI (findF (z2w sp s) S 0)⟩,rfl,by rw[List.append_nil],rfl,by rw[List.append_nil],same _ (zc2 hf),λp a ha=>by cases ha⟩,λhf=>⟨S,rfl,rfl,by omega,λhg=>⟨S,rfl,rfl,⟨[],faE e 4,0⟩,rfl,by rw[List.append_nil],rfl,by rw[List.append_nil],bad,λp a ha=>by cases ha⟩,λhg=>⟨⟨[],e,fnI (findF s S 0)⟩,rfl,by rw[List.append_nil],rfl,by rw[List.append_nil],same _ (zc2 hg),λp a ha=>by cases ha⟩⟩⟩,λhd=>⟨S,rfl,rfl,by omega,λhg=>⟨S,rfl,rfl,⟨[],faE e 4,0⟩,rfl,by rw[List.append_nil],rfl,by rw[List.append_nil],bad,λp a ha=>by cases ha⟩,λhg=>⟨⟨[],e,fnI (findF s S 0)⟩,rfl,by rw[List.append_nil],rfl,by rw[List.append_nil],same _ (zc2 hg),λp a ha=>by cases ha⟩⟩⟩⟩
end
abbrev TmS:=List AT×Int×GJ×ByteArray×Int
def z3z:TmS->Prop:=λ⟨S,e,g,sp,d⟩=>S.length<=60/\g.wf/\1<=d/\d<=21/\(sp.size:Int)<=1100*d
def z0l:TmS->TmB->Prop:=λ⟨S,e,g,sp,d⟩ ⟨T,e',r⟩=>grown S e T e'/\(e'=0->0<=r/\r<(S++T).length)
def z2b:CtR where
 σ:=TmS
 args:=λ⟨S,e,g,sp,d⟩=>[.ptr 1 0,g.av, .sv (.string sp), .sv (.int .i64 d)]
 h:=λ⟨S,e,g,sp,d⟩=>mkO S e 2 3
 m:=4
 pre:=z3z
 mem:=λ⟨S,e,g,sp,d⟩=>gM g
 β:=λ_=>TmB
 post:=z0l
 pm:=λ_ ⟨T,e',r⟩=>toM T
 r:=λ_ ⟨T,e',r⟩=> .sv (.int .i64 r)
 h':=λ⟨S,e,g,sp,d⟩ ⟨T,e',r⟩=>mkO (S++T) e' 4 5
 m':=6
def z6p:CtR:={z2b with pre:=λs=>z3z s/\s.2.2.2.2<=20}
def z6b:TmS->Nat:=λ⟨S,e,g,sp,d⟩=>(25- d).toNat
abbrev UnS:=Nat×Int×List AT×List Int
def znt(S:List AT) (e:Int) (g:GJ):UnS->Prop:=λ⟨i,e',T,l⟩=>i<=g.l.length/\(S++T).length<=60/\(e'=0->e=0/\S.length<60/\l.length=i/\(∃T',T=pmT 14 0::T'/\∀a∈T',z2e (S++T).length a)/\∀b∈l,0<=b/\b<(S++T).length)
def ziw:TmS->WayF:=λ⟨S,e,g,sp,d⟩=>{
 ann:=λid _ _=>match id with
  |0=>some {σ:=UnS,pre:=znt S e g,mem:=λ⟨i,e',T,l⟩=>toM T,t:=λ⟨i,e',T,l⟩=>[(11, .sv (.int .i64 (i:Int))),(10, .ssl 13 0 l.length 1 14)],h:=λ⟨i,e',T,l⟩=>mkO (S++T) e' 11 12++[(13, .row 3 0 (z00 inV l))],more:=4,μ:=λ⟨i,e',T,l⟩=>g.l.length- i,keep:=[0,2,3,5,8,9],del:=[9]}
  |_=>some {σ:=Nat,t:=λm=>[(13, .sv (.int .i64 (m:Int)))],h:=λ_=>[],more:=0,μ:=λm=>100- m,keep:=[0,2,3,5,8,9,10,11,12]}
 pub:=λi k=>match i,k with
  |22,9=>[109]
  |_,_=>[]}
section
variable (x0:GJ) (x1:List AT×Int×AT) (x2:List AT) (x3:Int) (x4:ByteArray) (x5:Int) (x6:Nat) (x7:UnS) (x8:TmB) (x9:TmS) (x10:Prop) (x11:Nat->Option Obj) (x12:Option Addr) (x13:List AT×Int) (x14:Int) (x15:List AT)
 abbrev zjo:=(↑(GJ.y x0).2.1:Int)
 def zab:=∀(i0:AT),i0∈x8.1->AT.ok i0 x11
 def zwf:=∃(i0:List AT),x14=x14/\length i0=length (adS x1.1 x1.2.2)/\adE x1.1 x1.2.1=adE x1.1 x1.2.1/\z00 AT.cells i0=z00 AT.cells (adS x1.1 x1.2.2)/\True/\∃(i1:TmB),i1.2.2=0/\length (x2++i1.1)=length i0/\i1.2.1=faE (adE x1.1 x1.2.1) x14/\z00 AT.cells (x2++i1.1)=z00 AT.cells i0/\z0l (x2,x3,x0,x4,x5) i1/\(∀i2,True/\GJ.ok x0 i2->zab i1 i2)/\True
 def zjn:=GJ.k x0=GJ.k x0/\GJ.n x0=GJ.n x0/\GJ.s x0=GJ.s x0/\(GJ.y x0).1=(GJ.y x0).1/\(GJ.y x0).2.1=(GJ.y x0).2.1/\(GJ.y x0).2.2=(GJ.y x0).2.2/\(GJ.x x0).1=(GJ.x x0).1/\(GJ.x x0).2.1=(GJ.x x0).2.1/\(GJ.x x0).2.2=(GJ.x x0).2.2/\x10
 def zaa:=(True/\GJ.ok x0 x11)/\∀(i0:AT),i0∈x7.2.2.1->AT.ok i0 x11
 def z5x:=(zaa x0 x7 x11)/\zab x8 x11
 def zwg:=True/\∃(i0:TmB),i0.2.2=0/\length (x2++i0.1)=length x15/\i0.2.1=faE x8.2.1 6/\z00 AT.cells (x2++i0.1)=z00 AT.cells x15/\z0l (x2,x3,x0,x4,x5) i0/\(∀i1,(z5x x0 x7 x8 i1)->zab i0 i1)/\True
 def zwh:=x8.2.2=x8.2.2/\length x7.2.2.2=length x7.2.2.2/\length (x9.1++x8.1)=length (x9.1++x8.1)/\x8.2.1=x8.2.1/\x10
 def j42:=Jb ((↑x6:Int)+1)/\∃(i0:Nat),x3=x3/\(↑x7.1:Int)=(↑x7.1:Int)/\adR x1.1=adR x1.1/\(↑i0:Int)=(↑x6:Int)+1/\x4=x4/\zwh x7 x8 x9 (z00 AT.cells (x9.1++x8.1)=z00 AT.cells x13.1/\z00 inV x7.2.2.2=z00 inV x7.2.2.2/\zjn x0 ((∀i1,(z5x x0 x7 x8 i1)->z5x x0 x7 x8 i1)/\True/\(100:Nat)- i0<100- x6/\True))
 def j3y:=(0<=(↑x6:Int)/\(↑x6:Int)<(↑(length x7.2.2.2):Int))/\∃(i0:Int),(∀(i1:Nat) (i2:Value),[int i64 i0][i1]? =some i2->(z00 inV x7.2.2.2)[nat_lit 0+toNat (↑x6:Int)*nat_lit 1+i1]? =some i2)/\∃(i3:List AT×Int),length i3.1=length (x9.1++x8.1)/\i3.2=i0/\z00 AT.cells i3.1=z00 AT.cells (x9.1++x8.1)/\length i3.1<1000/\∃(i4:List AT×Int),length i4.1=length (x9.1++x8.1)/\i4.2=x8.2.2/\z00 AT.cells i4.1=z00 AT.cells i3.1/\length i4.1<1000/\AV.agg [AV.ssl (nat_lit 19) (nat_lit 0) (length (x9.1++x8.1)) (nat_lit 10) (nat_lit 20)]=AV.agg [AV.ssl (nat_lit 19) (nat_lit 0) (length (x9.1++x8.1)) (nat_lit 10) (nat_lit 20)]/\Ji (zi2 i3.1 i3.2=zi2 i4.1 i4.2) (∃(i5:List AT),(6:Int)=6/\length i5=length (x9.1++x8.1)/\x8.2.1=x8.2.1/\z00 AT.cells i5=z00 AT.cells i4.1/\zwg x0 x2 x3 x4 x5 x7 x8 i5) (j42 x0 x1 x5 x4 x6 x7 x8 x9 i4)
 def j3z:=length (z00 inV x7.2.2.2)=length x7.2.2.2*1/\(length x7.2.2.2+nat_lit 1)*8<=140737488355328/\Jb ((↑x7.1:Int)+1)/\∃(i0:UnS),x3=x3/\(↑i0.1:Int)=(↑x7.1:Int)+1/\adR x1.1=adR x1.1/\x4=x4/\length i0.2.2.2=length x7.2.2.2+nat_lit 1/\length (x2++i0.2.2.1)=length (x9.1++x8.1)/\i0.2.1=x8.2.1/\z00 AT.cells (x2++i0.2.2.1)=z00 AT.cells (x9.1++x8.1)/\z00 inV i0.2.2.2=z00 inV x7.2.2.2++[int i64 x8.2.2]/\zjn x0 ((∀i1,(z5x x0 x7 x8 i1)->True/\GJ.ok x0 i1)/\(∀i4,(z5x x0 x7 x8 i4)->∀(i7:AT),i7∈i0.2.2.1->AT.ok i7 i4)/\znt x2 x5 x0 i0/\length (GJ.l x0)- i0.1<length (GJ.l x0)- x7.1/\True)
 def jgf:=Ji ((↑x6:Int)<(↑(length x7.2.2.2):Int)) (j3y x0 x1 x2 x3 x4 x5 x6 x7 x8 x9) (j3z x0 x1 x2 x5 x4 x3 x7 x8 x9)
 def jge:=(∃(i0:Nat),x3=x3/\(↑x7.1:Int)=(↑x7.1:Int)/\adR x1.1=adR x1.1/\(↑i0:Int)=0/\x4=x4/\zwh x7 x8 x9 (z00 AT.cells (x9.1++x8.1)=z00 AT.cells (x9.1++x8.1)/\z00 inV x7.2.2.2=z00 inV x7.2.2.2/\zjn x0 ((∀i1,(z5x x0 x7 x8 i1)->z5x x0 x7 x8 i1)/\True/\True)))/\∀(i6:Nat),True->jgf x0 x1 x2 x5 x4 x3 i6 x7 x8 x9
 def jgd:=(0<=x8.2.2/\x8.2.2<(↑(length (x9.1++x8.1)):Int))/\∃(i0:Int),(∀(i1:Nat) (i2:Value),[int i64 i0][i1]? =some i2->(z00 AT.cells (x9.1++x8.1))[nat_lit 0+toNat x8.2.2*nat_lit 10+0+i1]? =some i2)/\Ji (i0=14) (∃(i3:List AT),(6:Int)=6/\length i3=length (x9.1++x8.1)/\x8.2.1=x8.2.1/\z00 AT.cells i3=z00 AT.cells (x9.1++x8.1)/\zwg x0 x2 x3 x4 x5 x7 x8 i3) (jge x0 x1 x2 x5 x4 x3 x7 x8 x9)
 def jgc:=((!decide (x8.2.1=0))=true->∃(i0:TmB),i0.2.2=0/\length (x2++i0.1)=length (x9.1++x8.1)/\i0.2.1=x8.2.1/\z00 AT.cells (x2++i0.1)=z00 AT.cells (x9.1++x8.1)/\z0l (x2,x3,x0,x4,x5) i0/\(∀i1,(z5x x0 x7 x8 i1)->zab i0 i1)/\True)/\((!decide (x8.2.1=0))=false->jgd x0 x1 x2 x3 x4 x5 x7 x8 x9)
 def jgb:=(0<=(↑x7.1:Int)/\(↑x7.1:Int)<(zjo x0))/\(GJ.y x0).1≠noA/\∃(i0:Int),∃(i1:Int),∃i2,∃i3,∃(i4:Nat),∃(i5:Nat),∃i6,∃(i7:Nat),∃(i8:Nat),(∀i9,(zaa x0 x7 i9)->q3f i9 (adr (GJ.y x0).1 (toNat (↑x7.1:Int)*5)) [int i64 i0,int i64 i1,string i2,slice i3 i4 i5,slice i6 i7 i8])/\Jb (x3+1)/\∃(i11:TmS),GJ.k i11.2.2.1=i0/\GJ.n i11.2.2.1=i1/\GJ.s i11.2.2.1=i2/\(GJ.y i11.2.2.1).1=i3/\(GJ.y i11.2.2.1).2.1=i4/\(GJ.y i11.2.2.1).2.2=i5/\(GJ.x i11.2.2.1).1=i6/\(GJ.x i11.2.2.1).2.1=i7/\(GJ.x i11.2.2.1).2.2=i8/\i11.2.2.2.1=x4/\i11.2.2.2.2=x3+1/\length i11.1=length (x2++x7.2.2.1)/\i11.2.1=x7.2.1/\z00 AT.cells i11.1=z00 AT.cells (x2++x7.2.2.1)/\(z6b i11<x6/\z3z i11)/\(∀i12,(zaa x0 x7 i12)->GJ.ok i11.2.2.1 i12)/\∀(i14:TmB),z0l i11 i14->(∃i15,z5x x0 x7 i14 i15)->jgc x0 x1 x2 x5 x4 x3 x7 i14 i11
 def zwi:=(zaa x0 x7 x11)/\length x7.2.2.2<=x6/\qhc x11 x12 (take (length x7.2.2.2*nat_lit 1) (z00 inV x7.2.2.2))
 def j41:=nat_lit 0+toNat (adR x1.1)*nat_lit 10+9+length [slice x12 (length x7.2.2.2) x6]<=length (z00 AT.cells (x2++x7.2.2.1))/\∃(i0:TmB),i0.2.2=adR x1.1/\length (x2++i0.1)=length (x2++x7.2.2.1)/\i0.2.1=x7.2.1/\z00 AT.cells (x2++i0.1)=spl (z00 AT.cells (x2++x7.2.2.1)) (nat_lit 0+toNat (adR x1.1)*nat_lit 10+9) [slice x12 (length x7.2.2.2) x6]/\z0l (x2,x3,x0,x4,x5) i0/\(∀i1,zwi x0 x6 x7 i1 x12->zab i0 i1)/\True
 def j40:=(0<=adR x1.1/\adR x1.1<(↑(length (x2++x7.2.2.1)):Int))/\∀(i0 i1 i2:Nat) (i3:Option Addr) (i4 i5:Nat),(∃i6,zwi x0 i5 x7 i6 i3)->j41 x0 x1 x2 x3 x4 x5 i5 x7 i3
 def jb8:=Ji (x7.2.1=0) (j40 x0 x1 x2 x3 x4 x5 x7) (∃(i12:TmB),i12.2.2=adR x1.1/\length (x2++i12.1)=length (x2++x7.2.2.1)/\i12.2.1=x7.2.1/\z00 AT.cells (x2++i12.1)=z00 AT.cells (x2++x7.2.2.1)/\z0l (x2,x3,x0,x4,x5) i12/\(∀i13,(zaa x0 x7 i13)->zab i12 i13)/\True)
 def jga:=Ji (x7.2.1=0) (jgb x0 x1 x2 x3 x4 x5 x6 x7) (jb8 x0 x1 x2 x5 x4 x3 x7)
 def jg9:=Ji ((↑x7.1:Int)<(zjo x0)) (jga x0 x1 x2 x3 x4 x5 x6 x7) (jb8 x0 x1 x2 x5 x4 x3 x7)
 def jg8:=(∃(i0:UnS),x3=x3/\(↑i0.1:Int)=0/\adR x1.1=adR x1.1/\x4=x4/\length i0.2.2.2=0/\length (x2++i0.2.2.1)=length (adS x1.1 x1.2.2)/\i0.2.1=adE x1.1 x1.2.1/\z00 AT.cells (x2++i0.2.2.1)=z00 AT.cells (adS x1.1 x1.2.2)/\zjn x0 ((∀i1,True/\GJ.ok x0 i1->True/\GJ.ok x0 i1)/\(∀i2,True/\GJ.ok x0 i2->∀(i3:AT),i3∈i0.2.2.1->AT.ok i3 i2)/\znt x2 x5 x0 i0/\True))/\∀(i4:UnS),znt x2 x5 x0 i4->(∃i5,zaa x0 i4 i5)->jg9 x0 x1 x2 x3 x4 x5 x6 i4
 def jg7:=Ji (30<(zjo x0)) (zwf x0 x1 x2 x3 x4 x5 3) (jg8 x0 x1 x2 x5 x4 x3 x6)
end
def ze7(n:Nat) (S:List AT) (e:Int) (g:GJ) (sp:ByteArray) (d:Int):qkj P (qfv [(78,j0k),(108,j9x),(72,z2a)]) (qgy [(46,z2b.below z6b n)]) Try.f74 (z6p.below z6b (n+1)) (ziw) ⟨S,e,g,sp,d⟩=(z6b (S,e,g,sp,d)<n+1/\z3z (S,e,g,sp,d)/\d<=20->(∃(p:Pub),True/\GJ.ok g p)->∃(s:List AT×Int×AT),AT.k s.2.2=14/\AT.nm s.2.2=mkS []/\(AT.al s.2.2).1=noA/\(AT.al s.2.2).2.1=0/\(AT.al s.2.2).2.2=0/\AT.it s.2.2=0/\(AT.sy s.2.2).1=noA/\(AT.sy s.2.2).2.1=0/\(AT.sy s.2.2).2.2=0/\AT.hd s.2.2=false/\AT.df s.2.2=mkS []/\AT.sz s.2.2=0/\(AT.f s.2.2).1=noA/\(AT.f s.2.2).2.1=0/\(AT.f s.2.2).2.2=0/\(AT.br s.2.2).1=noA/\(AT.br s.2.2).2.1=0/\(AT.br s.2.2).2.2=0/\length s.1=length S/\s.2.1=e/\z00 AT.cells s.1=z00 AT.cells S/\True/\Ji ((zjo g)=0) (zwf g s S e sp d 6) (jg7 g s S e sp d n)):=by kernel_rfl
def zi8:=λn S e g sp d=>Eq.trans (ze7 n S e g sp d) (by delta Ji Jb Jt Jf zjo zab zwf zjn zaa z5x zwg zwh j42 j3y j3z jgf jge jgd jgc jgb zwi j41 j40 jb8 jga jg9 jg8 jg7;exact rfl)
def unT(x:SV) (l:List Int):AT:={pmT 14 0 with br:=x,brs:=l}
def z1n{α:Type} {f:α->List Value} (a:α) (l:List α):z00 f (a::l)=f a++z00 f l:=rfl
def j1n(A B:List AT) (x:SV) (l:List Int):z00 AT.cells (A++unT x l::B)=spl (z00 AT.cells (A++pmT 14 0::B)) (0+A.length*10+9) [svV x]:=by
 rw[z07,z07,z1n,z1n,Nat.zero_add]
 have hl:=z01 z1x A
 rw[←hl]
 show _=(z00 AT.cells A++((pmT 14 0).cells++z00 AT.cells B)).set ((z00 AT.cells A).length+9) (svV x)
 have key:∀(P Q:List Value) (v:Value),(P++Q).set (P.length+9) v=P++Q.set 9 v:=λP Q v=>by
  induction P with
  |nil=>simp
  |cons a P ih=>rw[List.cons_append,List.length_cons,Nat.add_right_comm,List.set_cons_succ,ih];rfl
 rw[key]
 rfl
def j18{l:List Int} {i:Nat} (h:i<l.length):∀(j:Nat) (v:Value),[Value.int .i64 l[i]][j]? =some v->(z00 inV l)[0+i*1+j]? =some v:=λj v hj=>by
 cases j with
 |zero=>rw[Nat.zero_add,z37 z20 l i h 0 (by decide)];exact hj
 |succ j=>simp at hj
def z6a{n m:Nat} {a:AT} (h:n<=m) (g:z2e n a):z2e m a:=
 ⟨g.1,λk=>by have:=g.2.1 k;omega,λb hb=>by have:=g.2.2.1 b hb;omega,g.2.2.2.1,λf hf=>⟨by have:=(g.2.2.2.2.1 f hf).1;omega,(g.2.2.2.2.1 f hf).2⟩,g.2.2.2.2.2⟩
def zfi{S:List AT} {e:Int} (h:60<=S.length):adE S e≠0:=by unfold adE;rw[if_pos h];exact z0r (by decide)
def adT(S:List AT) (t:AT):List AT:=if 60<=S.length then []else [t]
def z0y(S:List AT) (t:AT):adS S t=S++adT S t:=by
 unfold adS adT
 split
 ·rw[List.append_nil]
 ·rfl
def zi9(n:Nat) (ht:q1u P 46 (z2b.below z6b n)):q1u P 74 (z6p.below z6b (n+1)):=by
 refine qjr mixed (qdh (qh9 z6e (qh9 j1t (qh9 z17 qk5)))) (qe7 (qh8 ht qk4)) (W:=ziw) Try.func74 (by kernel_rfl) (show 1<=4 by decide) (show 4<=6 by decide) (λs=>by kernel_rfl) λ⟨S,(e:Int),g,sp,(d:Int)⟩=>(zi8 n S e g sp d).mpr ?_
 rintro⟨hmu,⟨hS,hg,hd1,hd2,hsp⟩,hd20⟩ ⟨p,_,hp⟩
 have hmu:(25- d).toNat<n+1:=hmu
 have hd20:d<=20:=hd20
 have hgw:=hg
 rw[GJ.wf_eq]at hgw
 have hy:=λq (hq:g.ok q)=>(show slP GJ.cells g.y g.l q by rw[GJ.ok_eq]at hq;exact hq.1)
 have yl:g.y.2.1=g.l.length:=(hy p hp).1
 simp only[sbS,exists_const,forall_const,Int.toNat_natCast]
 have adl:(adT S (pmT 14 0)).length<=1/\(S++adT S (pmT 14 0)).length<=60:=by
  unfold adT
  split
  ·rw[List.append_nil];exact⟨by decide,hS⟩
  ·exact⟨by decide,by simp;omega⟩
 have adok:∀q,∀a∈adT S (pmT 14 0),a.ok q:=λq a ha=>by
  unfold adT at ha
  split at ha
  ·cases ha
  ·simp at ha;subst ha;exact zce _ _ _
 have bad0:∀k:Int,k≠0->z0l (S,e,g,sp,d) (adT S (pmT 14 0),faE (adE S e) k,0):=λk hk=>by
  have:=z0r (e0:=adE S e) hk
  exact⟨⟨adl.2,λh=>absurd h this⟩,λh=>absurd h this⟩
 refine⟨⟨S,e,pmT 14 0⟩,rfl,rfl,rfl,rfl,rfl,rfl,rfl,rfl,rfl,rfl,rfl,rfl,rfl,rfl,rfl,rfl,rfl,rfl,rfl,rfl,rfl,λh0=>⟨adS S (pmT 14 0),rfl,rfl,⟨adT S (pmT 14 0),faE (adE S e) 6,0⟩,rfl,by rw[z0y],rfl,by rw[z0y],bad0 6 (by decide),λq _=>adok q⟩,λh0=>⟨λh30=>⟨adS S (pmT 14 0),rfl,rfl,⟨adT S (pmT 14 0),faE (adE S e) 3,0⟩,rfl,by rw[z0y],rfl,by rw[z0y],bad0 3 (by decide),λq _=>adok q⟩,λh30=>⟨⟨⟨0,adE S e,adT S (pmT 14 0),[]⟩,rfl,rfl,by rw[z0y],rfl,by rw[z0y],λq _=>adok q,?_⟩,?_⟩⟩⟩
 ·refine⟨by show 0<=_;omega,adl.2,λh=> ?_⟩
  by_cases hl:60<=S.length
  ·exact absurd h (zfi hl)
  ·have e1:adE S e=e:=by unfold adE;rw[if_neg hl]
   have e2:adT S (pmT 14 0)=[pmT 14 0]:=by unfold adT;rw[if_neg hl]
   exact⟨by rw[←e1];exact h,by omega,rfl,⟨[],e2,λa ha=>(by cases ha)⟩,λb hb=>(by cases hb)⟩
 rintro⟨i,e',T,l⟩ ⟨hi,hT,hE⟩ _
 simp only at*
 have fin:e'=0->g.l.length<=i->∀(a:Option Addr) (c:Nat) (q0:Pub),(l.length<=c/\qhc q0 a (List.take (l.length*1) (z00 inV l)))->0+(adR S).toNat*10+9+1<=(z00 AT.cells (S++T)).length/\∃b:TmB,b.2.2=adR S/\(S++b.1).length=(S++T).length/\b.2.1=e'/\z00 AT.cells (S++b.1)=spl (z00 AT.cells (S++T)) (0+(adR S).toNat*10+9) [.slice a l.length c]/\z0l (S,e,g,sp,d) b/\∀q,(g.ok q/\∀a∈T,a.ok q)/\(l.length<=c/\qhc q a (List.take (l.length*1) (z00 inV l)))->∀a∈b.1,a.ok q:=λh0' hge a c q0 hq0=>by
  obtain⟨he0,hl60,hll,⟨T',rfl,hT'⟩,hlr⟩:=hE h0'
  have er:adR S=S.length:=by unfold adR;rw[if_neg (by omega)]
  rw[er,Int.toNat_natCast]
  have hlen:(S++pmT 14 0::T').length=S.length+T'.length+1:=by simp;omega
  have hlen2:∀x,(S++unT x l::T').length=S.length+T'.length+1:=λx=>by simp;omega
  refine⟨by rw[z01 z1x,hlen];omega,⟨unT (a,l.length,c) l::T',e',S.length⟩,rfl,by rw[hlen,hlen2],rfl,j1n S T' _ l,⟨⟨by rw[hlen2];omega,λ_=>⟨he0,λx hx=> ?_⟩⟩,λ_=>⟨by show 0<=(S.length:Int);omega,by rw[hlen2];show(S.length:Int)<_;omega⟩⟩,λq hq x hx=> ?_⟩
  ·rw [hlen2]
   rw[hlen]at hT' hlr
   rcases List.mem_cons.1 hx with rfl|hx
   ·refine⟨⟨by show(1:Int)<=14;omega,by show(14:Int)<=14;omega⟩,λh=> ?_,hlr,λ_ h=> ?_,λf hf=>(by cases hf),λh=> ?_,λh=> ?_,⟨Nat.zero_le _,?_,Nat.zero_le _⟩⟩
    ·have h:(14:Int)=12\/(14:Int)=13:=h
     omega
    ·have h:l=[]:=h
     rw[h]at hll
     have:i=0:=hll.symm
     omega
    ·have h:(14:Int)=10:=h
     omega
    ·have h:(14:Int)=11:=h
     omega
    ·show l.length<=30;omega
   ·exact hT' x hx
  ·rcases List.mem_cons.1 hx with rfl|hx
   ·refine⟨z06,z06,z06,⟨rfl,hq.2.1,?_⟩,λf hf=>(by cases hf)⟩
    have:=hq.2.2
    rw[List.take_of_length_le (by rw[z01 z20];exact Nat.le_refl _)]at this
    exact this
   ·exact hq.1.2 x (List.mem_cons_of_mem _ hx)
 have out:e'≠0->z0l (S,e,g,sp,d) (T,e',adR S):=λh=>⟨⟨hT,λh2=>absurd h2 h⟩,λh2=>absurd h2 h⟩
 refine⟨λhlt=>⟨λh0'=> ?_,λh0'=>⟨λh=>absurd h h0',λ_=>⟨⟨T,e',adR S⟩,rfl,rfl,rfl,rfl,out h0',λq hq=>hq.2⟩⟩⟩,λhge=>⟨λh0'=> ?_,λh0'=>⟨⟨T,e',adR S⟩,rfl,rfl,rfl,rfl,out h0',λq hq=>hq.2⟩⟩⟩
 ·have hil:i<g.l.length:=by omega
  obtain⟨he0,hl60,hll,⟨T',hTe,hT'⟩,hlr⟩:=hE h0'
  have hat:=λq (hq:g.ok q)=>z14 z48 (by decide) (hy q hq) hil
  have hgi:g.l[i].wf:=GJ.wfs_at hgw.2.2.2.2.2.2 hil
  refine⟨by omega,(hat p hp).1,g.l[i].k,g.l[i].n,g.l[i].s,g.l[i].y.1,g.l[i].y.2.1,g.l[i].y.2.2,g.l[i].x.1,g.l[i].x.2.1,g.l[i].x.2.2,λq hq=>(hat q hq.1).2,⟨by omega,by omega⟩,⟨S++T,e',g.l[i],sp,d+1⟩,rfl,rfl,rfl,rfl,rfl,rfl,rfl,rfl,rfl,rfl,rfl,rfl,rfl,rfl,⟨by show(25- (d+1)).toNat<n;omega,hT,hgi,by omega,by omega,by omega⟩,λq hq=>by have:=hq.1;rw[GJ.ok_eq]at this;exact GJ.oks_at this.2.2 hil,?_⟩
  rintro⟨U,e2,r⟩ ⟨⟨hU,hU2⟩,hr⟩ _
  simp only at hU hU2 hr⊢
  have ass:S++T++U=S++(T++U):=List.append_assoc _ _ _
  have badU:∀k,k≠0->z0l (S,e,g,sp,d) (T++U,k,0):=λk hk=>⟨⟨by rw[←ass];exact hU,λh2=>absurd h2 hk⟩,λh2=>absurd h2 hk⟩
  have okU:∀q,((g.ok q/\∀a∈T,a.ok q)/\∀a∈U,a.ok q)->∀a∈T++U,a.ok q:=λq hq a ha=>(List.mem_append.1 ha).elim (hq.1.2 a) (hq.2 a)
  refine⟨λhne=>⟨⟨T++U,e2,0⟩,rfl,by rw[ass],rfl,by rw[ass],badU e2 hne,okU⟩,λheq=> ?_⟩
  subst heq
  obtain⟨r0,r1⟩:=hr rfl
  obtain⟨_,hUg⟩:=hU2 rfl
  obtain⟨k,rfl⟩:=Int.eq_ofNat_of_zero_le r0
  have hk:k<(S++T++U).length:=by omega
  rw[Int.toNat_natCast]
  refine⟨⟨r0,r1⟩,(S++T++U)[k].k,λj v hj=> ?_,λh14=>⟨S++T++U,rfl,rfl,⟨T++U,faE 0 6,0⟩,rfl,by rw[ass],rfl,by rw[ass],badU _ (z0r (by decide)),okU⟩,λh14=>⟨⟨0,rfl⟩,?_⟩⟩
  ·cases j with
   |zero=>have hj:some (Value.int .i64 (S++T++U)[k].k)=some v:=hj;cases hj;exact zbd hk 0 _ rfl
   |succ j=>simp at hj
  intro m
  refine⟨λhm=> ?_,λhm=> ?_⟩
  ·have hml:m<l.length:=by omega
   refine⟨by omega,l[m],j18 hml,⟨S++T++U,l[m]⟩,rfl,rfl,rfl,by show(S++T++U).length<_;omega,⟨S++T++U,(k:Int)⟩,rfl,rfl,rfl,by show(S++T++U).length<_;omega,?_⟩
   refine⟨λ_=>⟨S++T++U,rfl,rfl,⟨T++U,faE 0 6,0⟩,rfl,by rw[ass],rfl,by rw[ass],badU _ (z0r (by decide)),okU⟩,λ_=>⟨⟨by omega,by omega⟩,m+1,by omega,rfl,by omega⟩⟩
  ·refine⟨z01 z20 l,by omega,⟨by omega,by omega⟩,⟨i+1,0,T++U,l++[(k:Int)]⟩,by show((i+1:Nat):Int)=_;omega,by show(l++[_]).length=_;simp,by rw[ass],rfl,by rw[ass],by show z00 inV (l++[_])=_;rw[z07];rfl,λq hq=>hq.1.1,λq hq=>okU q hq,⟨by show i+1<=_;omega,by rw[←ass];exact hU,λ_=>⟨he0,hl60,by show(l++[_]).length=i+1;simp;omega,⟨T'++U,by show T++U=_;rw[hTe];rfl,λa ha=> ?_⟩,λb hb=> ?_⟩⟩,by show _- (i+1)<_;omega⟩
   ·show z2e (S++(T++U)).length a
    rw[←ass]
    rcases List.mem_append.1 ha with ha|ha
    ·exact z6a (by have:(S++T++U).length=(S++T).length+U.length:=List.length_append;omega) (hT' a ha)
    ·exact hUg a ha
   ·show 0<=b/\b<((S++(T++U)).length:Int)
    rw[←ass]
    have hlen:(S++T++U).length=(S++T).length+U.length:=List.length_append
    rcases List.mem_append.1 hb with hb|hb
    ·have:=hlr b hb;omega
    ·simp at hb;subst hb;exact⟨r0,r1⟩
 ·obtain⟨he0,hl60,hll,⟨T',hTe,hT'⟩,hlr⟩:=hE h0'
  have er:adR S=S.length:=by unfold adR;rw[if_neg (by omega)]
  refine⟨⟨by omega,by rw[er,hTe];simp;omega⟩,?_⟩
  rintro a c ⟨q0,hq0⟩
  exact fin h0' (by omega) a c q0 hq0.2
abbrev NmS:=List AT×Int×GJ×Int×ByteArray×Int
def z6m:CtR where
 σ:=NmS
 args:=λ⟨S,e,g,k,sp,d⟩=>[.ptr 1 0,g.av, .sv (.int .i64 k), .sv (.string sp), .sv (.int .i64 d)]
 h:=λ⟨S,e,g,k,sp,d⟩=>mkO S e 2 3
 m:=4
 pre:=λ⟨S,e,g,k,sp,d⟩=>z3z (S,e,g,sp,d)/\d<=20/\(k=9\/k=10\/k=11)
 mem:=λ⟨S,e,g,k,sp,d⟩=>gM g
 β:=λ_=>TmB
 post:=λ⟨S,e,g,k,sp,d⟩ b=>z0l (S,e,g,sp,d) b
 pm:=λ_ ⟨T,e',r⟩=>toM T
 r:=λ_ ⟨T,e',r⟩=> .sv (.int .i64 r)
 h':=λ⟨S,e,g,k,sp,d⟩ ⟨T,e',r⟩=>mkO (S++T) e' 4 5
 m':=6
def j0r:NmS->Nat:=λ⟨S,e,g,k,sp,d⟩=>(25- d).toNat
def nmB(s:ByteArray):Bool:=decide (s=mkS [114,101,99,111,114,100])||decide (s=mkS [101,110,117,109])||decide (s=mkS [102,105,120,101,100])
def arB(s:ByteArray):Bool:=decide (s=mkS [97,114,114,97,121])||decide (s=mkS [109,97,112])
def wdB(s:ByteArray):ByteArray:=if s=mkS [109,97,112]then mkS [118,97,108,117,101,115]else mkS [105,116,101,109,115]
def tyJ(g:GJ):GJ:=(z0k (mkS [116,121,112,101]) g).getD zJ
def zs3:TmS->WayF:=λ⟨S,e,g,sp,d⟩=>{
 cut:=λi t _=>match i with
  |20=>some {σ:=Unit,t:=λ_=>[(63, .sv (.bool (nmB (tyJ g).s)))],h:=λ_=>[],more:=0,μ:=λ_=>0,keep:=[0,2,3,5,8,9,62]}
  |23=>some {σ:=Unit,t:=λ_=>[(75, .sv (.bool (arB (tyJ g).s)))],h:=λ_=>[],more:=0,μ:=λ_=>0,keep:=[0,2,3,5,8,9,62]}
  |27=>some {σ:=Unit,t:=λ_=>[(12, .sv (.string (wdB (tyJ g).s)))],h:=λ_=>[],more:=0,μ:=λ_=>0,keep:=[0,2,3,5,8,9,11]}
  |_=>none
 spl:=λi=>match i with
  |20=>some 7
  |_=>none}
section
variable (x0:Int) (x1:List AT) (x2:GJ) (x3:ByteArray) (x4:Int) (x5:Nat) (x6:GJ×ByteArray) (x7:List AT×Int×AT) (x8:TmB) (x9:TmS) (x10:List AT×Int×ByteArray×ByteArray) (x11:Prop) (x12:Int) (x13:TmB)
 abbrev zp6:=z0l (x1,x0,x2,x3,x4) x8/\(∀i0,True/\GJ.ok x2 i0->∀(i1:AT),i1∈x8.1->AT.ok i1 i0)/\True
 def zp5:=∃(i0:List AT),x12=x12/\length i0=length x1/\x0=x0/\z00 AT.cells i0=z00 AT.cells x1/\True/\∃(i1:TmB),i1.2.2=0/\length (x1++i1.1)=length i0/\i1.2.1=faE x0 x12/\z00 AT.cells (x1++i1.1)=z00 AT.cells i0/\zp6 x0 x1 x2 x3 x4 i1
 def j4a:=0<=x8.2.2/\x8.2.2<(↑(length (x10.1++x8.1)):Int)
 def zjp:=∃i0,(True/\GJ.ok x2 i0)/\∀(i1:AT),i1∈x8.1->AT.ok i1 i0
 def zen:=z0l (x1,x0,x2,x3,x4) x8/\(∀i0,((True/\GJ.ok x2 i0)/\∀(i1:AT),i1∈x13.1->AT.ok i1 i0)->∀(i2:AT),i2∈x8.1->AT.ok i2 i0)/\True
 def zwk:=x10.2.2.2=x3/\length x10.1=length x1/\x10.2.1=x0/\z00 AT.cells x10.1=z00 AT.cells x1/\(length x10.1<=60/\size x10.2.2.1<100000/\size x10.2.2.2<100000)/\∀(i0:TmB),grown x10.1 x10.2.1 i0.1 i0.2.1/\(i0.2.1=0->j4a i0 x10)->(zjp x2 i0)->∃(i3:TmB),i3.2.2=i0.2.2/\length (x1++i3.1)=length (x10.1++i0.1)/\i3.2.1=i0.2.1/\z00 AT.cells (x1++i3.1)=z00 AT.cells (x10.1++i0.1)/\zen x0 x1 x2 x3 x4 i3 i0
 def zwx:=length (x1++x8.1)=length (x9.1++x13.1)/\x8.2.1=x13.2.1/\z00 AT.cells (x1++x8.1)=z00 AT.cells (x9.1++x13.1)/\x11
 def zwo:=(∀i0,True/\GJ.ok x2 i0->GJ.ok x9.2.2.1 i0)/\∀(i1:TmB),z0l x9 i1->(zjp x2 i1)->∃(i4:TmB),i4.2.2=i1.2.2/\zwx x1 i4 x9 (zen x0 x1 x2 x3 x4 i4 i1) i1
 def zwn:=GJ.k x6.1=GJ.k x2/\GJ.n x6.1=GJ.n x2/\GJ.s x6.1=GJ.s x2/\(GJ.y x6.1).1=(GJ.y x2).1/\(GJ.y x6.1).2.1=(GJ.y x2).2.1/\(GJ.y x6.1).2.2=(GJ.y x2).2.2/\(GJ.x x6.1).1=(GJ.x x2).1/\(GJ.x x6.1).2.1=(GJ.x x2).2.1/\(GJ.x x6.1).2.2=(GJ.x x2).2.2/\x11
 abbrev z0p:=Option.getD (z0k x6.2 x6.1) zJ
 abbrev zwy:=Jb (x0+1)
 def zwm:=GJ.k x9.2.2.1=GJ.k (z0p x6)/\GJ.n x9.2.2.1=GJ.n (z0p x6)/\GJ.s x9.2.2.1=GJ.s (z0p x6)/\(GJ.y x9.2.2.1).1=(GJ.y (z0p x6)).1/\(GJ.y x9.2.2.1).2.1=(GJ.y (z0p x6)).2.1/\(GJ.y x9.2.2.1).2.2=(GJ.y (z0p x6)).2.2/\(GJ.x x9.2.2.1).1=(GJ.x (z0p x6)).1/\(GJ.x x9.2.2.1).2.1=(GJ.x (z0p x6)).2.1/\(GJ.x x9.2.2.1).2.2=(GJ.x (z0p x6)).2.2/\x9.2.2.2.1=x3/\x9.2.2.2.2=x0+1/\x11
 def j46:=zwy x0/\∃(i0:TmS),zwm x0 x3 x6 i0 (length i0.1=length x1/\i0.2.1=x4/\z00 AT.cells i0.1=z00 AT.cells x1/\(z6b i0<x5/\z3z i0)/\zwo x4 x1 x2 x3 x0 i0)
 abbrev zwp:=GJ.s (z0p x6)=mkS [114,101,99,111,114,100]
 def zwl:=GJ.k x2=GJ.k x2/\GJ.n x2=GJ.n x2/\GJ.s x2=GJ.s x2/\(GJ.y x2).1=(GJ.y x2).1/\(GJ.y x2).2.1=(GJ.y x2).2.1/\(GJ.y x2).2.2=(GJ.y x2).2.2/\(GJ.x x2).1=(GJ.x x2).1/\(GJ.x x2).2.1=(GJ.x x2).2.1/\(GJ.x x2).2.2=(GJ.x x2).2.2/\x11
 def zwj:=GJ.k (z0p x6)=GJ.k (z0p x6)/\GJ.n (z0p x6)=GJ.n (z0p x6)/\GJ.s (z0p x6)=GJ.s (z0p x6)/\(GJ.y (z0p x6)).1=(GJ.y (z0p x6)).1/\(GJ.y (z0p x6)).2.1=(GJ.y (z0p x6)).2.1/\(GJ.y (z0p x6)).2.2=(GJ.y (z0p x6)).2.2/\(GJ.x (z0p x6)).1=(GJ.x (z0p x6)).1/\(GJ.x (z0p x6)).2.1=(GJ.x (z0p x6)).2.1/\(GJ.x (z0p x6)).2.2=(GJ.x (z0p x6)).2.2/\(∀i0,True/\GJ.ok x2 i0->True/\GJ.ok x2 i0)/\True/\True
 def zem:=x3=x3/\GJ.s (z0p x6)=GJ.s (z0p x6)/\length x1=length x1/\x0=x0/\z00 AT.cells x1=z00 AT.cells x1/\zwl x2 (zwj x2 x6)
 abbrev zws:=GJ.s (z0p x6)=mkS [101,110,117,109]
 def j48:=Ji (zws x6) (∃(i0:Unit),x0=x0/\nmB (GJ.s (tyJ x2))=decide (zws x6)/\zem x4 x1 x2 x3 x6) (∃(i1:Unit),x0=x0/\nmB (GJ.s (tyJ x2))=decide (GJ.s (z0p x6)=mkS [102,105,120,101,100])/\zem x4 x1 x2 x3 x6)
 abbrev zwv:=slice (GJ.y x2).1 (GJ.y x2).2.1 (GJ.y x2).2.2
 abbrev zww:=slice (GJ.x x2).1 (GJ.x x2).2.1 (GJ.x x2).2.2
 def j45:=GJ.s (z0p x6)=GJ.s (z0p x6)/\True/\AV.agg [AV.sv (int i64 (GJ.k x2)),AV.sv (int i64 (GJ.n x2)),AV.sv (string (GJ.s x2)),AV.sv (zwv x2),AV.sv (zww x2)]=AV.agg [AV.sv (int i64 (GJ.k x2)),AV.sv (int i64 (GJ.n x2)),AV.sv (string (GJ.s x2)),AV.sv (zwv x2),AV.sv (zww x2)]/\∃(i0:NmS),GJ.k i0.2.2.1=GJ.k x2/\GJ.n i0.2.2.1=GJ.n x2/\GJ.s i0.2.2.1=GJ.s x2/\(GJ.y i0.2.2.1).1=(GJ.y x2).1/\(GJ.y i0.2.2.1).2.1=(GJ.y x2).2.1/\(GJ.y i0.2.2.1).2.2=(GJ.y x2).2.2/\(GJ.x i0.2.2.1).1=(GJ.x x2).1/\(GJ.x i0.2.2.1).2.1=(GJ.x x2).2.1/\(GJ.x i0.2.2.1).2.2=(GJ.x x2).2.2/\i0.2.2.2.1=z0j (GJ.s (z0p x6))/\i0.2.2.2.2.1=x3/\i0.2.2.2.2.2=x0/\length i0.1=length x1/\i0.2.1=x4/\z00 AT.cells i0.1=z00 AT.cells x1/\(j0r i0<x5+1/\z3z (i0.1,i0.2.1,i0.2.2.1,i0.2.2.2.2.1,i0.2.2.2.2.2)/\i0.2.2.2.2.2<=20/\(i0.2.2.2.1=9\/i0.2.2.2.1=10\/i0.2.2.2.1=11))/\(∀i1,True/\GJ.ok x2 i1->GJ.ok i0.2.2.1 i1)/\∀(i2:TmB),z0l (i0.1,i0.2.1,i0.2.2.1,i0.2.2.2.2.1,i0.2.2.2.2.2) i2->(zjp x2 i2)->∃(i5:TmB),i5.2.2=i2.2.2/\length (x1++i5.1)=length (i0.1++i2.1)/\i5.2.1=i2.2.1/\z00 AT.cells (x1++i5.1)=z00 AT.cells (i0.1++i2.1)/\zen x4 x1 x2 x3 x0 i5 i2
 abbrev zwr:=GJ.s (z0p x6)=mkS [97,114,114,97,121]
 abbrev zwu:=GJ.s (z0p x6)=mkS [109,97,112]
 def zwq:=length (adS x7.1 x7.2.2)=length (adS x7.1 x7.2.2)/\adE x7.1 x7.2.1=adE x7.1 x7.2.1/\zwl x2 (z00 AT.cells (adS x7.1 x7.2.2)=z00 AT.cells (adS x7.1 x7.2.2)/\zwj x2 x6)
 def j49:=(0<=adR x7.1/\adR x7.1<(↑(length (x9.1++x8.1)):Int))/\nat_lit 0+toNat (adR x7.1)*nat_lit 10+3+length [int i64 x8.2.2]<=length (z00 AT.cells (x9.1++x8.1))/\∃(i0:TmB),i0.2.2=adR x7.1/\length (x1++i0.1)=length (x9.1++x8.1)/\i0.2.1=x8.2.1/\z00 AT.cells (x1++i0.1)=spl (z00 AT.cells (x9.1++x8.1)) (nat_lit 0+toNat (adR x7.1)*nat_lit 10+3) [int i64 x8.2.2]/\zen x0 x1 x2 x3 x4 i0 x8
 def j47:=Ji (x8.2.1=0) (j49 x0 x1 x2 x3 x4 x7 x8 x9) (∃(i4:TmB),i4.2.2=adR x7.1/\zwx x1 i4 x9 (zen x0 x1 x2 x3 x4 i4 x8) x8)
 def j44:=zwy x0/\∃(i0:TmS),zwm x0 x3 x6 i0 (length i0.1=length (adS x7.1 x7.2.2)/\i0.2.1=adE x7.1 x7.2.1/\z00 AT.cells i0.1=z00 AT.cells (adS x7.1 x7.2.2)/\(z6b i0<x5/\z3z i0)/\(∀i1,True/\GJ.ok x2 i1->GJ.ok i0.2.2.1 i1)/\∀(i2:TmB),z0l i0 i2->(zjp x2 i2)->j47 x4 x1 x2 x3 x0 x7 i2 i0)
 def j43:=GJ.s (z0p x6)=GJ.s (z0p x6)/\True/\∃(i0:List AT×Int×AT),AT.k i0.2.2=z0j (GJ.s (z0p x6))/\AT.nm i0.2.2=mkS []/\(AT.al i0.2.2).1=noA/\(AT.al i0.2.2).2.1=0/\(AT.al i0.2.2).2.2=0/\AT.it i0.2.2=0/\(AT.sy i0.2.2).1=noA/\(AT.sy i0.2.2).2.1=0/\(AT.sy i0.2.2).2.2=0/\AT.hd i0.2.2=false/\AT.df i0.2.2=mkS []/\AT.sz i0.2.2=0/\(AT.f i0.2.2).1=noA/\(AT.f i0.2.2).2.1=0/\(AT.f i0.2.2).2.2=0/\(AT.br i0.2.2).1=noA/\(AT.br i0.2.2).2.1=0/\(AT.br i0.2.2).2.2=0/\length i0.1=length x1/\i0.2.1=x0/\z00 AT.cells i0.1=z00 AT.cells x1/\True/\(Ji (zwu x6) (∃(i1:Unit),x4=x4/\adR i0.1=adR i0.1/\x3=x3/\wdB (GJ.s (tyJ x2))=mkS [118,97,108,117,101,115]/\zwq x2 x6 i0) (∃(i3:Unit),x4=x4/\adR i0.1=adR i0.1/\x3=x3/\wdB (GJ.s (tyJ x2))=mkS [105,116,101,109,115]/\zwq x2 x6 i0))/\∀(i5:Unit),True->∃(i6:GJ×ByteArray),zwn x2 i6 (i6.2=wdB (GJ.s (tyJ x2))/\GJ.wf i6.1/\(∀i7,True/\GJ.ok x2 i7->GJ.ok i6.1 i7)/\((!Option.isSome (z0k i6.2 i6.1))=true->∃(i8:List AT),(2:Int)=2/\length i8=length (adS i0.1 i0.2.2)/\adE i0.1 i0.2.1=adE i0.1 i0.2.1/\z00 AT.cells i8=z00 AT.cells (adS i0.1 i0.2.2)/\True/\∃(i9:TmB),i9.2.2=0/\length (x1++i9.1)=length i8/\i9.2.1=faE (adE i0.1 i0.2.1) 2/\z00 AT.cells (x1++i9.1)=z00 AT.cells i8/\zp6 x0 x1 x2 x3 x4 i9)/\((!Option.isSome (z0k i6.2 i6.1))=false->j44 x4 x1 x2 x3 x0 x5 i6 i0))
 def jgp:=(arB (GJ.s (tyJ x2))=true->j43 x0 x1 x2 x3 x4 x5 x6)/\(arB (GJ.s (tyJ x2))=false->∃(i25:List AT×Int×ByteArray×ByteArray),i25.2.2.1=GJ.s (z0p x6)/\zwk x0 x1 x2 x3 x4 i25)
 def jgo:=(Ji (zwr x6) (∃(i0:Unit),x0=x0/\arB (GJ.s (tyJ x2))=decide (zwr x6)/\zem x4 x1 x2 x3 x6) (∃(i2:Unit),x0=x0/\arB (GJ.s (tyJ x2))=decide (zwu x6)/\zem x4 x1 x2 x3 x6))/\∀(i4:Unit),True->jgp x4 x1 x2 x3 x0 x5 x6
 def jgn:=(nmB (GJ.s (tyJ x2))=true->j45 x0 x1 x2 x3 x4 x5 x6)/\(nmB (GJ.s (tyJ x2))=false->jgo x0 x1 x2 x3 x4 x5 x6)
 def jgm:=(Ji (zwp x6) (∃(i0:Unit),x0=x0/\nmB (GJ.s (tyJ x2))=decide (zwp x6)/\zem x4 x1 x2 x3 x6) (j48 x0 x1 x2 x3 x4 x6))/\∀(i6:Unit),True->jgn x0 x1 x2 x3 x4 x5 x6
 def jgl:=((!decide (GJ.k (z0p x6)=4))=true->j46 x0 x1 x2 x3 x4 x5 x6)/\((!decide (GJ.k (z0p x6)=4))=false->jgm x0 x1 x2 x3 x4 x5 x6)
 def jgk:=Ji (GJ.k x2=6) (∃(i0:GJ×ByteArray),zwn x2 i0 (i0.2=mkS [116,121,112,101]/\GJ.wf i0.1/\(∀i1,True/\GJ.ok x2 i1->GJ.ok i0.1 i1)/\((!Option.isSome (z0k i0.2 i0.1))=true->zp5 x0 x1 x2 x3 x4 2)/\((!Option.isSome (z0k i0.2 i0.1))=false->jgl x4 x1 x2 x3 x0 x5 i0))) (zp5 x0 x1 x2 x3 x4 2)
 def jgj:=Ji (GJ.k x2=5) (∃(i0:TmS),GJ.k i0.2.2.1=GJ.k x2/\GJ.n i0.2.2.1=GJ.n x2/\GJ.s i0.2.2.1=GJ.s x2/\(GJ.y i0.2.2.1).1=(GJ.y x2).1/\(GJ.y i0.2.2.1).2.1=(GJ.y x2).2.1/\(GJ.y i0.2.2.1).2.2=(GJ.y x2).2.2/\(GJ.x i0.2.2.1).1=(GJ.x x2).1/\(GJ.x i0.2.2.1).2.1=(GJ.x x2).2.1/\(GJ.x i0.2.2.1).2.2=(GJ.x x2).2.2/\i0.2.2.2.1=x3/\i0.2.2.2.2=x0/\length i0.1=length x1/\i0.2.1=x4/\z00 AT.cells i0.1=z00 AT.cells x1/\(z6b i0<x5+1/\z3z i0/\i0.2.2.2.2<=20)/\zwo x4 x1 x2 x3 x0 i0) (jgk x4 x1 x2 x3 x0 x5)
 def jgi:=Ji (GJ.k x2=4) (∃(i0:List AT×Int×ByteArray×ByteArray),i0.2.2.1=GJ.s x2/\zwk x0 x1 x2 x3 x4 i0) (jgj x4 x1 x2 x3 x0 x5)
 def jgh:=Ji (20<x0) (zp5 x4 x1 x2 x3 x0 3) (jgi x4 x1 x2 x3 x0 x5)
 def jgg:=((!decide (x0=0))=true->∃(i0:TmB),i0.2.2=0/\length (x1++i0.1)=length x1/\i0.2.1=x0/\z00 AT.cells (x1++i0.1)=z00 AT.cells x1/\zp6 x0 x1 x2 x3 x4 i0)/\((!decide (x0=0))=false->jgh x4 x1 x2 x3 x0 x5)
end
def zi5(n:Nat) (S:List AT) (e:Int) (g:GJ) (sp:ByteArray) (d:Int):qkj P (qfv [(78,j0k),(75,z5o),(77,zg0),(72,z2a)]) (qgy [(46,z2b.below z6b n),(73,zbj),(74,z6p.below z6b (n+1)),(76,z6m.below j0r (n+1))]) Try.f46 (z2b.below z6b (n+1)) (zs3) ⟨S,e,g,sp,d⟩=(z6b (S,e,g,sp,d)<n+1/\z3z (S,e,g,sp,d)->(∃(p:Pub),True/\GJ.ok g p)->jgg e S g sp d n):=by kernel_rfl
def znq:=λn S e g sp d=>Eq.trans (zi5 n S e g sp d) (by delta Ji Jb Jt Jf zp6 zp5 j4a zjp zen zwk zwx zwo zwn z0p zwy zwm j46 zwp zwl zwj zem zws j48 zwv zww j45 zwr zwu zwq j49 j47 j44 j43 jgp jgo jgn jgm jgl jgk jgj jgi jgh jgg;exact rfl)
section
def z3x(P Q:List Value) (k:Nat) (v:Value):(P++Q).set (P.length+k) v=P++Q.set k v:=by
 induction P with
 |nil=>simp
 |cons a P ih=>rw[List.cons_append,List.length_cons,Nat.add_right_comm,List.set_cons_succ,ih];rfl
def j1o(A B:List AT) (k r:Int):z00 AT.cells (A++pmT k r::B)=spl (z00 AT.cells (A++pmT k 0::B)) (0+A.length*10+3) [.int .i64 r]:=by
 rw[z07,z07,z1n,z1n,Nat.zero_add,←z01 z1x A]
 show _=(z00 AT.cells A++((pmT k 0).cells++z00 AT.cells B)).set ((z00 AT.cells A).length+3) (.int .i64 r)
 rw[z3x]
 rfl
variable {s:ByteArray}
def zty(h:nmB s=true):z0j s=9\/z0j s=10\/z0j s=11:=by
 unfold nmB at h
 simp only[Bool.or_eq_true,decide_eq_true_eq]at h
 rcases h with(h|h)|h<;>subst h
 ·exact .inl (by decide)
 ·exact .inr (.inl (by decide))
 ·exact .inr (.inr (by decide))
def zsi(h:arB s=true):z0j s=12\/z0j s=13:=by
 unfold arB at h
 simp only[Bool.or_eq_true,decide_eq_true_eq]at h
 rcases h with h|h<;>subst h
 ·exact .inl (by decide)
 ·exact .inr (by decide)
def zfj(S:List AT) (t:AT) (h:S.length<=60):(S++adT S t).length<=60:=by
 unfold adT
 split
 ·rw[List.append_nil];exact h
 ·simp;omega
def zn8{n:Nat} {k r:Int} (h:k=12\/k=13) (r0:0<=r) (r1:r<n):z2e n (pmT k r):=by
 have hk:(pmT k r).k=k:=rfl
 have hi:(pmT k r).it=r:=rfl
 unfold z2e
 rw[hk,hi]
 exact⟨(by omega),λ_=>⟨r0,r1⟩,λb hb=>(by cases hb),λh=>(by omega),λf hf=>(by cases hf),λh=>(by omega),λh=>(by omega),Nat.zero_le _,Nat.zero_le _,Nat.zero_le _⟩
def znr(n:Nat) (ht:q1u P 46 (z2b.below z6b n)) (hu:q1u P 74 (z6p.below z6b (n+1))) (hn:q1u P 76 (z6m.below j0r (n+1))):q1u P 46 (z2b.below z6b (n+1)):=by
 refine qjr mixed (qdh (qh9 z6e (qh9 z36 (qh9 zgy (qh9 z17 qk5))))) (qe7 (qh8 ht (qh8 znn (qh8 hu (qh8 hn qk4))))) (W:=zs3) Try.func46 (by kernel_rfl) (show 1<=4 by decide) (show 4<=6 by decide) (λs=>by kernel_rfl) λ⟨S,(e:Int),g,sp,(d:Int)⟩=>(znq n S e g sp d).mpr ?_
 rintro⟨hmu,⟨hS,hg,hd1,hd2,hsp⟩⟩ ⟨p,_,hp⟩
 have hmu:(25- d).toNat<n+1:=hmu
 simp only[sbS,exists_const,forall_const,Int.toNat_natCast,tyJ]
 have bad:∀k:Int,k≠0->z0l (S,e,g,sp,d) ([],k,0):=λk hk=>⟨⟨by rw[List.append_nil];exact hS,λh=>absurd h hk⟩,λh=>absurd h hk⟩
 have gsz:g.s.size<1000:=by rw[GJ.wf_eq]at hg;exact hg.1
 refine⟨λhe=>⟨⟨[],e,0⟩,rfl,by rw[List.append_nil],rfl,by rw[List.append_nil],bad e he,λq _ a ha=>(by cases ha)⟩,λhe=>⟨λh20=>⟨S,rfl,rfl,⟨[],faE e 3,0⟩,rfl,by rw[List.append_nil],rfl,by rw[List.append_nil],bad _ (z0r (by decide)),λq _ a ha=>(by cases ha)⟩,λh20=>⟨λh4=>⟨⟨S,e,g.s,sp⟩,rfl,rfl,rfl,rfl,rfl,⟨hS,by show g.s.size<_;omega,by show sp.size<_;omega⟩,λb hb _=>⟨b,rfl,rfl,rfl,rfl,hb,λq hq=>hq.2⟩⟩,λh4=>⟨λh5=>⟨⟨S,e,g,sp,d⟩,rfl,rfl,rfl,rfl,rfl,rfl,rfl,rfl,rfl,rfl,rfl,rfl,rfl,rfl,⟨hmu,⟨hS,hg,hd1,hd2,hsp⟩,by show d<=20;omega⟩,λq hq=>hq,λb hb _=>⟨b,rfl,rfl,rfl,rfl,hb,λq hq=>hq.2⟩⟩,λh5=>⟨λh6=> ?_,λh6=>⟨S,rfl,rfl,⟨[],faE e 2,0⟩,rfl,by rw[List.append_nil],rfl,by rw[List.append_nil],bad _ (z0r (by decide)),λq _ a ha=>(by cases ha)⟩⟩⟩⟩⟩⟩
 refine⟨⟨g,mkS [116,121,112,101]⟩,rfl,rfl,rfl,rfl,rfl,rfl,rfl,rfl,rfl,rfl,hg,λq hq=>hq,λhno=>⟨S,rfl,rfl,⟨[],faE e 2,0⟩,rfl,by rw[List.append_nil],rfl,by rw[List.append_nil],bad _ (z0r (by decide)),λq _ a ha=>(by cases ha)⟩,λhyes=> ?_⟩
 obtain⟨tw,tok⟩:=z19 (mkS [116,121,112,101]) hg
 simp only
 generalize (z0k (mkS [116,121,112,101]) g).getD zJ=t at*
 have tsz:t.s.size<1000:=by rw[GJ.wf_eq]at tw;exact tw.1
 refine⟨λhk=>⟨⟨by omega,by omega⟩,⟨S,e,t,sp,d+1⟩,rfl,rfl,rfl,rfl,rfl,rfl,rfl,rfl,rfl,rfl,rfl,rfl,rfl,rfl,⟨by show(25- (d+1)).toNat<n;omega,hS,tw,by omega,by omega,by omega⟩,λq hq=>tok q hq,λb hb _=>⟨b,rfl,rfl,rfl,rfl,hb,λq hq=>hq.2⟩⟩,λhk=>⟨⟨λh1=> ?_,λh1=>⟨λh2=> ?_,λh2=> ?_⟩⟩,λhN=> ?_,λhN=>⟨⟨λh1=> ?_,λh1=> ?_⟩,λhA=> ?_,λhA=> ?_⟩⟩⟩
 ·unfold nmB;rw[h1];rfl
 ·unfold nmB;rw[h2];rfl
 ·unfold nmB;rw[decide_eq_false h1,decide_eq_false h2,Bool.false_or,Bool.false_or]
 ·exact⟨⟨S,e,g,z0j t.s,sp,d⟩,rfl,rfl,rfl,rfl,rfl,rfl,rfl,rfl,rfl,rfl,rfl,rfl,rfl,rfl,rfl,⟨hmu,⟨hS,hg,hd1,hd2,hsp⟩,by show d<=20;omega,zty hN⟩,λq hq=>hq,λb hb _=>⟨b,rfl,rfl,rfl,rfl,hb,λq hq=>hq.2⟩⟩
 ·unfold arB;rw[h1];rfl
 ·unfold arB;rw[decide_eq_false h1,Bool.false_or]
 ·have hkd:=zsi hA
  have adl:=zfj S (pmT (z0j t.s) 0) hS
  have adok:∀q,∀a∈adT S (pmT (z0j t.s) 0),a.ok q:=λq a ha=>by
   unfold adT at ha
   split at ha
   ·cases ha
   ·simp at ha;subst ha;exact zce _ _ _
  have bad2:∀k:Int,k≠0->z0l (S,e,g,sp,d) (adT S (pmT (z0j t.s) 0),k,0):=λk hk=>⟨⟨adl,λh=>absurd h hk⟩,λh=>absurd h hk⟩
  refine⟨⟨S,e,pmT (z0j t.s) 0⟩,rfl,rfl,rfl,rfl,rfl,rfl,rfl,rfl,rfl,rfl,rfl,rfl,rfl,rfl,rfl,rfl,rfl,rfl,rfl,rfl,rfl,⟨λhm=>by unfold wdB;rw[if_pos hm],λhm=>by unfold wdB;rw[if_neg hm]⟩,⟨g,wdB t.s⟩,rfl,rfl,rfl,rfl,rfl,rfl,rfl,rfl,rfl,rfl,hg,λq hq=>hq,λhno=>⟨adS S (pmT (z0j t.s) 0),rfl,rfl,⟨adT S (pmT (z0j t.s) 0),faE (adE S e) 2,0⟩,rfl,by rw[z0y],rfl,by rw[z0y],bad2 _ (z0r (by decide)),λq _=>adok q⟩,λhyes=> ?_⟩
  obtain⟨uw,uok⟩:=z19 (wdB t.s) hg
  refine⟨⟨by omega,by omega⟩,⟨adS S (pmT (z0j t.s) 0),adE S e,(z0k (wdB t.s) g).getD zJ,sp,d+1⟩,rfl,rfl,rfl,rfl,rfl,rfl,rfl,rfl,rfl,rfl,rfl,rfl,rfl,rfl,⟨by show(25- (d+1)).toNat<n;omega,by rw[z0y];exact adl,uw,by omega,by omega,by omega⟩,λq hq=>uok q hq,?_⟩
  rintro⟨U,e2,r⟩ ⟨⟨hU,hU2⟩,hr⟩ _
  simp only at hU hU2 hr⊢
  have ass:adS S (pmT (z0j t.s) 0)++U=S++(adT S (pmT (z0j t.s) 0)++U):=by rw[z0y,List.append_assoc]
  refine⟨λh0=> ?_,λh0=>⟨⟨adT S (pmT (z0j t.s) 0)++U,e2,adR S⟩,rfl,by rw[ass],rfl,by rw[ass],⟨⟨by rw[←ass];exact hU,λh=>absurd h h0⟩,λh=>absurd h h0⟩,λq hq a ha=>(List.mem_append.1 ha).elim (adok q a) (hq.2 a)⟩⟩
  obtain⟨ha0,hUg⟩:=hU2 h0
  obtain⟨r0,r1⟩:=hr h0
  have hl:S.length<60:=by
   by_cases hl:60<=S.length
   ·exact absurd ha0 (zfi hl)
   ·omega
  have e1:adE S e=e:=by unfold adE;rw[if_neg (by omega)]
  have e3:adT S (pmT (z0j t.s) 0)=[pmT (z0j t.s) 0]:=by unfold adT;rw[if_neg (by omega)]
  have er:adR S=S.length:=by unfold adR;rw[if_neg (by omega)]
  rw[ass,e3]at hU hUg r1
  rw[ass,e3,er,Int.toNat_natCast]
  have hlen:∀x,(S++([pmT (z0j t.s) x]++U)).length=S.length+U.length+1:=λx=>by simp;omega
  rw[hlen]at hU hUg r1
  refine⟨⟨by omega,by rw[hlen];omega⟩,by rw[z01 z1x,hlen];show 0+S.length*10+3+1<=_;omega,⟨pmT (z0j t.s) r::U,e2,S.length⟩,rfl,by show(S++([pmT (z0j t.s) r]++U)).length=_;rw[hlen,hlen],rfl,j1o S U _ r,⟨⟨by show(S++([pmT (z0j t.s) r]++U)).length<=60;rw[hlen];omega,λ_=>⟨by rw[←e1];exact ha0,λx hx=> ?_⟩⟩,λ_=>⟨by show 0<=(S.length:Int);omega,by show(S.length:Int)<((S++([pmT (z0j t.s) r]++U)).length:Int);rw[hlen];omega⟩⟩,λq hq x hx=> ?_⟩
  ·show z2e (S++([pmT (z0j t.s) r]++U)).length x
   rw[hlen]
   rcases List.mem_cons.1 hx with rfl|hx
   ·exact zn8 hkd r0 r1
   ·exact hUg x hx
  ·rcases List.mem_cons.1 hx with rfl|hx
   ·exact zce _ _ _
   ·exact hq.2 x hx
 ·exact⟨⟨S,e,t.s,sp⟩,rfl,rfl,rfl,rfl,rfl,⟨hS,by show t.s.size<_;omega,by show sp.size<_;omega⟩,λb hb _=>⟨b,rfl,rfl,rfl,rfl,hb,λq hq=>hq.2⟩⟩
end
def jnc:ByteArray:=mkS [115,121,109,98,111,108,115]
abbrev SyB:=Int×SV×List ByteArray×Bool×ByteArray
def znk(S:List AT) (at_:Int) (y:SV) (l:List ByteArray) (hd:Bool) (df:ByteArray):List AT:=match S[at_.toNat]? with
 |some a=>S.set at_.toNat {a with sy:=y,sys:=l,hd:=hd,df:=df}
 |none=>S
def zlr:CtR where
 σ:=List AT×Int×GJ×Int
 args:=λ⟨S,e,g,i⟩=>[.ptr 1 0,g.av, .sv (.int .i64 i)]
 h:=λ⟨S,e,g,i⟩=>mkO S e 2 3
 m:=4
 pre:=λ⟨S,e,g,i⟩=>S.length<=60/\g.wf/\0<=i/\(e=0->i<S.length)
 mem:=λ⟨S,e,g,i⟩=>gM g
 β:=λ_=>SyB
 post:=λ⟨S,e,g,i⟩ ⟨e',y,l,hd,df⟩=>e'=0->e=0/\l≠[]/\l.length<=30
 pm:=λ_ ⟨e',y,l,hd,df⟩=>⟨true,slP txV y l,λ_ _ h e=>z0d h e⟩
 r:=λ_ _=> .tup []
 h':=λ⟨S,e,g,i⟩ ⟨e',y,l,hd,df⟩=>mkO (if e'=0 then znk S i y l hd df else S) e' 4 5
 m':=6
def slE(h:T AO):Option Int:=mkE h 1
def smL(g:GJ) (e:Int):List ByteArray:=(z2c g jnc e).1
def j29:zlr.σ->WayF:=λ⟨S,e,g,i⟩=>{
  cut:=λr _ _=>match r with
    |4=>some {σ:=Int,pre:=λe'=>e'=0->e=0,find:=some λ_ h=>slE h,t:=λ_=>[],h:=λe'=>[mkC S e' 2 3],more:=0,μ:=λ_=>0,keep:=[0,2,4,6,7]}
    |6=>some {σ:=Int,pre:=λe'=>e'=0->e=0/\smL g e≠[],find:=some λ_ h=>slE h,t:=λ_=>[],h:=λe'=>[mkC S e' 2 3],more:=0,μ:=λ_=>0,keep:=[0,2,4,6,7]}
    |8=>some {σ:=Int,pre:=λe'=>e'=0->e=0/\smL g e≠[]/\(smL g e).length<=30,find:=some λ_ h=>slE h,t:=λ_=>[],h:=λe'=>[mkC S e' 2 3],more:=0,μ:=λ_=>0,keep:=[0,2,4,6,7]}
    |13=>some {σ:=Int,pre:=λe'=>e'=0->e=0/\smL g e≠[]/\(smL g e).length<=30,find:=some λ_ h=>slE h,t:=λ_=>[],h:=λe'=>[mkC S e' 2 3],more:=0,μ:=λ_=>0,keep:=[0,2,4,6,7,8]}
    |27=>some {σ:=Int,pre:=λe'=>e'=0->e=0/\smL g e≠[]/\(smL g e).length<=30,find:=some λ_ h=>slE h,t:=λ_=>[],h:=λe'=>[mkC S e' 2 3],more:=0,μ:=λ_=>0,keep:=[0,2,4,6,7,11,12]}
    |_=>none
  ann :=λid t _=>match id with
    |0=>some {σ:=Nat×Int,pre:=λ⟨j,e'⟩=>j<=(smL g e).length/\(e'=0->e=0/\smL g e≠[]/\(smL g e).length<=30),t:=λ⟨j,e'⟩=>[(8, .sv (.int .i64 (j:Int)))],h:=λ⟨j,e'⟩=>[mkC S e' 2 3],more:=0,μ:=λ⟨j,e'⟩=>(smL g e).length- j,keep:=[0,2,4,6,7]}
    | 2=>match slI t 8 with
      |some i=>some {σ:=Nat×Int,pre:=λ⟨k,e'⟩=>(k:Int)<=i/\(e'=0->e=0/\smL g e≠[]/\(smL g e).length<=30),t:=λ⟨k,e'⟩=>[(9, .sv (.int .i64 (k:Int)))],h:=λ⟨k,e'⟩=>[mkC S e' 2 3],more:=0,μ:=λ⟨k,e'⟩=>(i- k).toNat,keep:=[0,2,4,6,7,8]}
      |none=>none
    |_=>some {σ:=Nat×Bool,pre:=λ⟨k,b⟩=>k<=(smL g e).length,t:=λ⟨k,b⟩=>[(13, .sv (.bool b)),(14, .sv (.int .i64 (k:Int)))],h:=λ_=>[],more:=0,μ:=λ⟨k,b⟩=>(smL g e).length- k,keep:=[0,2,4,6,7,11,12]}}
end
end Go.Proofs.Ytpanaicglidfjaa.Wd
