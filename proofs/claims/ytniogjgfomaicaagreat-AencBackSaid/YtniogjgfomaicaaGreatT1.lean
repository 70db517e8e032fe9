/-
  What the functions do: contracts, and their questions answered. No condition but what its theorems ask.
-/
import Derived.Test.YtniogjgfomaicaaGreatRx
import Derived.Test.YtniogjgfomaicaaGreatU6
import Derived.Test.YtniogjgfomaicaaGreatProg
import Derived.Laws.BitsAllLaws
namespace Go.Proofs.YtniogjgfomaicaaGreat.Wd
open Go.Proofs.YtniogjgfomaicaaGreat.Eng Go.Proofs.YtniogjgfomaicaaGreat.Sen Go.RowKit
set_option linter.defProp false
set_option linter.unusedVariables false
set_option linter.unusedSimpArgs false
set_option maxRecDepth 1000000
open Go.Value (int string slice bool)
open Go.IntKind (i64 u64 u8 u32 i32)
open _root_.List (length take drop)
open _root_.ByteArray (size)
open _root_.Int (toNat)
noncomputable section
abbrev P:=Tryz.prog
def mixed:P.follows .mixedOrders=true:=by decide+kernel
theorem qw{calls:Nat->Option Ct} (G:∀g C,calls g=some C->q4a P g C) {f:Nat} {fn:Func} {C:Ct} {W:C.σ->WayF} (h:P.funcs[f]? =some fn) (J:∀s,qix P calls fn C W s) (A:q1v P f fn=true:=by kernel_rfl) (u:1<=C.m:=by exact Nat.le_of_ble_eq_true rfl) (hle:C.m<=C.m':=by exact Nat.le_of_ble_eq_true rfl) (H:∀s,Nat.ble (C.args s).length fn.ntmps=true:=by exactλ_=>by kernel_rfl):q4a P f C:=qj0 mixed G h A u hle H J
theorem jxf{calls:Nat->Option Ct} (H:∀g C,calls g=some C->q4a P g C) {rel:Nat->Option CtR} (h:∀g C,rel g=some C->q1i P g C) {f:Nat} {fn:Func} {C:Ct} {W:C.σ->WayF} (u:P.funcs[f]? =some fn) (N:∀s,qiz P calls rel fn C W s) (G:q1v P f fn=true:=by kernel_rfl) (A:1<=C.m:=by exact Nat.le_of_ble_eq_true rfl) (hle:C.m<=C.m':=by exact Nat.le_of_ble_eq_true rfl) (J:∀s,Nat.ble (C.args s).length fn.ntmps=true:=by exactλ_=>by kernel_rfl):q4a P f C:=qi7 mixed H h u G A hle J N
theorem zI{calls:Nat->Option Ct} (H:∀g C,calls g=some C->q4a P g C) {rel:Nat->Option CtR} (h:∀g C,rel g=some C->q1i P g C) {f:Nat} {fn:Func} {C:CtR} {W:C.σ->WayF} (u:P.funcs[f]? =some fn) (N:∀s,qiy P calls rel fn C W s) (G:q1v P f fn=true:=by kernel_rfl) (A:1<=C.m:=by exact Nat.le_of_ble_eq_true rfl) (hle:C.m<=C.m':=by exact Nat.le_of_ble_eq_true rfl) (J:∀s,Nat.ble (C.args s).length fn.ntmps=true:=by exactλ_=>by kernel_rfl):q1i P f C:=qi6 mixed H h u G A hle J N
theorem qy:(∀(p:Prop) [Decidable p],(decide p=true)=p)/\(∀(p:Prop) [Decidable p],(decide p=false)=¬p)/\(∀b:Bool,((!b)=true)=(b=false))/\(∀b:Bool,((!b)=false)=(b=true))/\(∀p,(True/\p)=p)/\(∀p,(p/\True)=p)/\(∀(α:Type) (a:α),(a=a)=True)/\(∀p:Prop,(p->p)=True)/\(∀α:Type,(α->True)=True)/\(∀p:Prop,(p->True)=True):=⟨λ_ _=>by simp,λ_ _=>by simp,by simp,by simp,by simp,by simp,by simp,by simp,by simp,by simp⟩
abbrev Jb(a:Int):Prop:=(-9223372036854775808:Int)<=a/\a<=9223372036854775807
abbrev Jt(p:Prop) [Decidable p]:Prop:=decide p=true
abbrev Jf(p:Prop) [Decidable p]:Prop:=decide p=false
abbrev Ji(p:Prop) [Decidable p] (a b:Prop):Prop:=(Jt p->a)/\(Jf p->b)
def z7:∀g C,(λ_=>none:Nat->Option Ct) g=some C->q4a P g C:=λg C h=>by cases h
def jQ(t:T AV) (k:Nat):Option Int:=match t.get k with
  | some a=>match gi a with
    |some (_,i)=>some i
    |none=>none
  |none=>none
def uF:Pl noA:=trivial
def qa{α:Type} (f:α->List Value):List α->List Value
 | []=>[]
 |x::l=>f x++qa f l
def qB{α:Type} {f:α->List Value} {e:Nat} (h:∀x,(f x).length=e):∀l,(qa f l).length=l.length*e
  | []=>by simp[qa]
  | x::l=>by rw[qa,List.length_append,h,qB h l,List.length_cons,Nat.succ_mul];omega
def zF{α:Type} {f:α->List Value}:∀l m,qa f (l++m)=qa f l++qa f m
  | [],m=>rfl
  | x::l,m=>by show f x++qa f (l++m)=_;rw[zF l m,←List.append_assoc];rfl
def JY{α:Type} {f:α->List Value} {e:Nat} (h:∀x,(f x).length=e):∀(l:List α) (i:Nat) (hi:i<l.length) (j:Nat),j<e->(qa f l)[i*e+j]? =(f l[i])[j]?
  | x::l,0,_,j,u=>by show(f x++qa f l)[0*e+j]? =_;rw[Nat.zero_mul,Nat.zero_add,List.getElem?_append_left (by rw[h];exact u)];rfl
  | x::l,i+1,hi,j,u=>by show(f x++qa f l)[(i+1)*e+j]? =_;have:(i+1)*e=i*e+e:=Nat.succ_mul i e;rw[List.getElem?_append_right (by rw[h];omega),show(i+1)*e+j- (f x).length=i*e+j by rw[h];omega];exact JY h l i (by simpa using hi) j u
def jxe(x:Addr) (h:x.spot=none) (i j:Nat):(x.add i).add j=x.add (i+j):=by
 obtain⟨b,o,s⟩:=x;simp only at h;subst h;unfold Addr.add;by_cases hi:i=0
 ·subst hi;simp
 ·by_cases u:j=0
  ·subst u;simp[hi]
  ·rw[if_neg hi,if_neg u,if_neg (by omega)];simp only[Nat.add_assoc]
def zfw{α:Type} {f:α->List Value} {e:Nat} (u:∀x,(f x).length=e) (he:0<e) {p:Pub} {a:Option Addr} {n c:Nat} {l:List α} (h:qfv p a n c (qa f l)) {i:Nat} (hi:i<l.length):a≠noA/\q2u p (adr a (i*e)) (f l[i]):=by
 rcases h.2 with h|⟨x,rfl,G,H⟩
 ·have:=congrArg List.length h.1;rw[qB u,List.length_nil]at this;have:=Nat.mul_pos (show 0<l.length by omega) he;omega
 ·refine⟨by simp,λj v C=> ?_⟩;have A:j<e:=by have:=(List.getElem?_eq_some_iff.mp C).1;rw[u]at this;exact this
  show q53 p ((x.add (i*e)).add j)=some v;rw[jxe x G];exact H _ v (by rw[JY u l i hi j A];exact C)
open Go.Proofs.YtniogjgfomaicaaGreat.Rv
def km(r:Nat):Int:=if r % 2=0 then(r / 2:Nat)else -((r / 2:Nat):Int)- 1
def zg(n:Int):Nat:=if 0<=n then 2*n.toNat else 2*(-n- 1).toNat+1
def zwy:Ct where
 σ:=O6
 args:=λs=>[.sv (.string s)]
 h:=λ_=>[]
 m:=1
 pre:=λs=>s.size<1000000000000000000
 find:=some λl _=>match l with
  | [a]=>gs a
  |_=>none
 r:=λs=> .tup [.sv (.int .u64 (vval s.data.toList:Nat)), .sv (.int .i64 (vlen s.data.toList:Nat)), .sv (.int .i64 (verr s.data.toList:Nat))]
 h':=λ_=>[]
 m':=1
 g:=λ_=>none
def EH:Ct where
 σ:=Int
 args:=λn=>[.sv (.int .u64 (n % 18446744073709551616))]
 h:=λ_=>[]
 m:=1
 pre:=λn=> -9223372036854775808<=n/\n<9223372036854775808
 r:=λn=> .sv (.int .u64 (zg n:Nat))
 h':=λ_=>[]
 m':=1
 g:=λ_=>none
def Vb:Ct where
 σ:=Int
 args:=λn=>[.int .i64 8, .sv (.int .u64 (n % 18446744073709551616))]
 h:=λ_=>[]
 m:=1
 pre:=λn=> -9223372036854775808<=n/\n<9223372036854775808
 r:=λn=> .sv (.int .u64 (zg n:Nat))
 h':=λ_=>[]
 m':=1
 g:=λ_=>none
def H_:Ct where
 σ:=Nat
 args:=λz=>[.sv (.int .u64 (z:Nat))]
 h:=λ_=>[]
 m:=1
 pre:=λz=>z<18446744073709551616
 r:=λz=> .sv (.string ⟨(venc z).toArray⟩)
 h':=λ_=>[]
 m':=2
 g:=λ_=>none
def HP:Ct where
 σ:=Int
 args:=λn=>[.sv (.int .i64 n)]
 h:=λ_=>[]
 m:=1
 pre:=λn=> -9223372036854775808<=n/\n<9223372036854775808
 r:=λn=> .sv (.string ⟨(venc (zg n)).toArray⟩)
 h':=λ_=>[]
 m':=2
 g:=λ_=>none
def qi(s:O6) (i:Nat):Int×Nat×Nat:=(km (vval (s.data.toList.drop i)),verr (s.data.toList.drop i),i+vlen (s.data.toList.drop i))
def vN(s:O6) (i:Nat) (o:Int):Nat:=if(qi s i).2.1=0/\((qi s i).1<0\/o<=(qi s i).1)then 2 else(qi s i).2.1
def jge(n:Int):qix P (λ_=>none) Tryz.f78 EH (λ_=>{}) n=((-9223372036854775808:Int)<=n/\n<(9223372036854775808:Int)->(decide ((9223372036854775808:Int)<=n % (18446744073709551616:Int))=true->(↑(zg n):Int)=IntKind.wrap u64 (IntKind.wrap u64 (q9p BinOp.xor u64 (IntKind.max u64) (n % (18446744073709551616:Int))*(2:Int))+(1:Int))/\True)/\(decide ((9223372036854775808:Int)<=n % (18446744073709551616:Int))=false->(↑(zg n):Int)=IntKind.wrap u64 (n % (18446744073709551616:Int)*(2:Int))/\True)):=by kernel_rfl
def j8y(n:Int):qix P (qef [(78,EH)]) Tryz.f39 Vb (λ_=>{}) n=((-9223372036854775808:Int)<=n/\n<(9223372036854775808:Int)->∃(s:Int),s % (18446744073709551616:Int)=n % (18446744073709551616:Int)/\((-9223372036854775808:Int)<=s/\s<(9223372036854775808:Int))/\(↑(zg n):Int)=(↑(zg s):Int)/\True):=by kernel_rfl
def zpf(n:Int):qix P (qef [(39,Vb),(38,H_)]) Tryz.f25 HP (λ_=>{}) n=((-9223372036854775808:Int)<=n/\n<(9223372036854775808:Int)->∃(s:Int),s % (18446744073709551616:Int)=IntKind.wrap u64 n/\((-9223372036854775808:Int)<=s/\s<(9223372036854775808:Int))/\∃(s_1:Nat),(↑s_1:Int)=(↑(zg s):Int)/\s_1<(18446744073709551616:Nat)/\ByteArray.mk (List.toArray (Proofs.YtniogjgfomaicaaGreat.Rv.venc (zg n)))=ByteArray.mk (List.toArray (Proofs.YtniogjgfomaicaaGreat.Rv.venc s_1))/\True):=by kernel_rfl
open Go.Proofs.YtniogjgfomaicaaGreat.Rv
def wrap_u64(n:Int):IntKind.wrap .u64 n=n % 18446744073709551616:=by simp[IntKind.wrap,IntKind.bits,IntKind.signed]
def W0(r:Nat) (h:r<18446744073709551616):(BitVec.ofInt 64 (r:Int)).toNat=r:=by rw[BitVec.toNat_ofInt];simp;omega
def zdy(r:Nat) (h:r<18446744073709551616):q9p .xor .u64 (IntKind.max .u64) (r:Int)=((18446744073709551615- r:Nat):Int):=by show IntKind.wrap .u64 (BitVec.ofInt 64 (IntKind.max .u64) ^^^ BitVec.ofInt 64 (r:Int)).toNat=_;rw[show BitVec.ofInt 64 (IntKind.max .u64)=BitVec.allOnes 64 from rfl,BitVec.allOnes_xor,BitVec.toNat_not,W0 _ h,wrap_u64];omega
def z9z(m:Int) (h: -9223372036854775808<=m) (u:m<9223372036854775808):IntKind.wrap .i64 (m % 18446744073709551616)=m:=by simp[IntKind.wrap,IntKind.bits,IntKind.signed];omega
def z76:∀(l:List UInt8) (i acc v n:Nat),i<=10->acc<2 ^ (7*i)->vdec l i acc=some (v,n)->v<18446744073709551616/\i<n/\n<=i+l.length
  | [],i,acc,v,n,_,_,h=>by simp[vdec]at h
  | c ::r,i,acc,v,n,hi,J,h=>by
    rw[vdec]at h;split at h
    · cases h
    rename_i A;split at h
    · cases h
    rename_i C;have N:=group_lt (k:=i) (g:=c.toNat % 128) (by omega) (Nat.mod_lt _ (by decide)) C;split at h
    · cases h;exact⟨by omega,by omega,by simp⟩
    · have p:=pow7 i;have hm:c.toNat % 128<128:=Nat.mod_lt _ (by decide);have hq:c.toNat % 128*2 ^ (7*i)<=127*2 ^ (7*i):=Nat.mul_le_mul_right _ (by omega);obtain⟨u,G,H⟩:=z76 r (i+1) _ v n (by omega) (by rw[p];omega) h;exact⟨u,by omega,by simp;omega⟩
def IK(l:List UInt8):vval l<18446744073709551616/\vlen l<=l.length/\verr l<=2/\(verr l=0->1<=vlen l):=by
  unfold vval vlen verr;cases h:vdec l 0 0 with
  |none=>simp
  | some p=>
    obtain⟨v,n⟩:=p;obtain⟨u,A,C⟩:=z76 l 0 0 v n (by omega) (by decide) h;simp;omega
def OB(r:Nat) (h:r<18446744073709551616): -9223372036854775808<=km r/\km r<9223372036854775808:=by unfold km;split<;>omega
def Zu(s:O6) (i:Nat) (hi:i<=s.size): -9223372036854775808<=(qi s i).1/\(qi s i).1<9223372036854775808/\(qi s i).2.1<=2/\i<=(qi s i).2.2/\(qi s i).2.2<=s.size/\((qi s i).2.1=0->i<(qi s i).2.2):=by
 obtain⟨u,G,A,C⟩:=IK (s.data.toList.drop i);have H:(s.data.toList.drop i).length=s.size- i:=by rw[List.length_drop];rfl
 have:=OB _ u;unfold qi;exact⟨this.1,this.2,A,by show i<=i+_;omega,by show i+_<=s.size;omega,λh=>by have:=C h;show i<i+_;omega⟩
def zyn:q4a P 38 H_:=
 qiq (Sen.enters_of Tryz.func38 (by kernel_rfl)) (by decide) (by decide) (λ(z:Nat)=>[.int .u64 (z:Int)]) (λ(z:Nat)=> .string ⟨(venc z).toArray⟩) (λs=>rfl) (λs=>rfl) (λs=>rfl) (λs=>rfl)
  (λs I=> .sv _) λ(z:Nat) w h=>rput_any z w h
def jgf:q4a P 78 EH:=by
 refine qw z7 (W:=λ_=>{}) Tryz.func78 λ(n:Int)=>(jge n).mpr ?_;rintro⟨u,A⟩;simp only[decide_eq_true_eq,decide_eq_false_iff_not,and_true];obtain⟨r,hr⟩:=Int.eq_ofNat_of_zero_le (show 0<=n % 18446744073709551616 by omega);refine⟨λh=> ?_,λh=> ?_⟩
 ·rw[hr,zdy r (by omega),wrap_u64,wrap_u64];unfold zg;rw[if_neg (by omega)];omega
 ·rw[wrap_u64];unfold zg;rw[if_pos (by omega)];omega
def j8z:q4a P 39 Vb:=by
 refine qw (qbu (qfr jgf qil)) (W:=λ_=>{}) Tryz.func39 λ(n:Int)=>(j8y n).mpr ?_
 exactλh=>⟨n,rfl,h,rfl,trivial⟩
def Ry{n:Int} (h: -9223372036854775808<=n) (u:n<9223372036854775808):zg n<18446744073709551616:=by unfold zg;split<;>omega
def j95{n:Int}:km (zg n)=n:=by
 unfold zg;split
 ·unfold km;rw[if_pos (by omega)];omega
 ·unfold km;rw[if_neg (by omega)];omega
def zdt:q4a P 25 HP:=by refine qw (qbu (qfr j8z (qfr zyn qil))) (W:=λ_=>{}) Tryz.func25 λ(n:Int)=>(zpf n).mpr ?_;rintro⟨h,u⟩;exact⟨n,(wrap_u64 n).symm,⟨h,u⟩,zg n,rfl,Ry h u,rfl,trivial⟩
def Hl{v:Int} (h: -9223372036854775808<v) (u:v<9223372036854775808):IntKind.wrap .i64 (0- v)= -v:=by simp[IntKind.wrap,IntKind.bits,IntKind.signed];omega
section
def RI:List Value->Option O6
 | [.string s]=>some s
 |_=>none
def YX:List Value->Option Int
 | [.int _ c]=>some c
 |_=>none
def xz(s:O6) (j:Nat):bat s j<256:=by unfold bat;exact UInt8.toNat_lt _
variable {s:O6}
def zwm{j:Nat} (h:s.size<=j):bat s j=0:=by unfold bat;rw[getElem?_neg s j (by omega)];rfl
def j75{j:Nat} (h:j<s.size):bat s j=s[j].toNat:=by unfold bat;rw[getElem?_pos s j h];rfl
def qO(c:Nat):Nat:=if c<128 then 1 else if 192<=c/\c<224 then 2 else if 224<=c/\c<240 then 3 else if 240<=c/\c<248 then 4 else 0
def zZ(c:Nat):Nat:=if c<128 then c else if 192<=c/\c<224 then c- 192 else if 224<=c/\c<240 then c- 224 else if 240<=c/\c<248 then c- 240 else 0
def x8(c:Nat):Bool:=decide (128<=c)&&decide (c<192)
def zm(s:O6):Nat->Option Nat
  |0=>some 0
  |1=>some (zZ (bat s 0))
  | i+2=>match zm s (i+1)with
    |some r=>if x8 (bat s (i+1))=true then some (r*64+(bat s (i+1)- 128))else none
    |none=>none
def vO(r:Nat):Nat:=if r<128 then 1 else if r<2048 then 2 else if r<65536 then 3 else 4
def yG(r:Nat):Bool:=decide (r<=1114111)&& !(decide (55296<=r)&&decide (r<=57343))
def qF(s:O6):Nat:=if s.size<qO (bat s 0)then 0 else match zm s (qO (bat s 0))with
 |none=>0
 |some r=>if qO (bat s 0)=0\/yG r=false\/vO r≠qO (bat s 0)then 0 else qO (bat s 0)
def uV:Nat->O6->Bool
 |0,_=>true
 |f+1,s=>if s.size=0 then true else if qF s=0 then false else uV f (s.extract (qF s) s.size)
def qz(s:O6):Bool:=uV s.size s
def OG:Ct:=ctS Int (λc=>[.int .u8 c]) YX (λc=>0<=c/\c<256) (λ_=>{}) λc=> .tup [.sv (.int .i64 (qO c.toNat:Nat)), .sv (.int .u32 (zZ c.toNat:Nat))]
def RF:Ct:=ctS Int (λc=>[.int .u32 c]) YX (λc=>0<=c/\c<4294967296) (λ_=>{}) λc=> .sv (.bool (yG c.toNat))
def IS:Ct:=ctS Int (λc=>[.int .u32 c]) YX (λc=>0<=c/\c<4294967296) (λ_=>{}) λc=> .sv (.int .i64 (vO c.toNat:Nat))
def HO:Ct:=ctS O6 (λs=>[.string s]) RI (λs=>0<s.size/\s.size<9223372036854775808) (λ_=>{}) λs=> .sv (.int .i64 (qF s:Nat))
def wW:Ct:=ctS O6 (λs=>[.string s]) RI (λs=>s.size<9223372036854775808) (λ_=>{}) λs=> .sv (.bool (qz s))
def GW(t:T AV) (k:Nat):Option O6:=match t.get k with
 |some a=>gs a
 |none=>none
def zvv:HO.σ->WayF:=λs=>{ann:=λ_ _ _=>some {σ:=Int×Int,pre:=λ⟨r,i⟩=>1<=i/\(i<=qO (bat s 0)\/i=1)/\∃q:Nat,r=q/\(qO (bat s 0)=0\/zm s i.toNat=some q),find:=some λt _=>match jQ t 4 with|some r=>(match jQ t 5 with|some i=>some (r,i)|none=>none)|none=>none,t:=λ⟨r,i⟩=>[(4, .sv (.int .u32 r)),(5, .sv (.int .i64 i))],h:=λ_=>[],more:=0,μ:=λ⟨r,i⟩=>5- i.toNat,keep:=[0,2,3]}}
def zvn:Nat->Option Ct:=qef [(131,OG),(132,RF),(133,IS)]
def zw3:wW.σ->WayF:=λs=>{ann:=λ_ _ _=>some {σ:=O6,pre:=λt=>t.size<=s.size/\qz t=qz s,find:=some λt _=>GW t 0,t:=λu=>[(0, .sv (.string u))],h:=λ_=>[],more:=0,μ:=λu=>u.size,keep:=[2]}}
def j8v:Nat->Option Ct:=qef [(117,HO)]
def jN(s:O6):Nat:=if qF s=0 then 0 else(zm s (qF s)).getD 0
def Zz:Ct:=ctS O6 (λs=>[.string s]) RI (λs=>s.size<9223372036854775808) (λ_=>{}) λs=> .tup [.sv (.int .u32 (jN s:Nat)), .sv (.int .i64 (qF s:Nat))]
def Qg(n:Nat):Nat:=if n=2 then 128 else if n=3 then 2048 else 65536
def zvy:Zz.σ->WayF:=λs=>{
 ann:=λ_ _ _=>some {σ:=Int×Int,pre:=λ⟨v,i⟩=>1<=i/\i<=qO (bat s 0)/\∃q:Nat,v=q/\zm s i.toNat=some q,find:=some λt _=>match jQ t 6 with|some v=>(match jQ t 8 with|some i=>some (v,i)|none=>none)|none=>none,t:=λ⟨v,i⟩=>[(6, .sv (.int .u32 v)),(8, .sv (.int .i64 i))],h:=λ_=>[],more:=0,μ:=λ⟨v,i⟩=>5- i.toNat,keep:=[0,5,7]}
 cut:=λr _ _=>match r with
  |14=>some {σ:=Unit,pre:=λ_=>0<s.size/\2<=qO (bat s 0),find:=some λ_ _=>some (),t:=λ_=>[(5, .sv (.int .i64 (qO (bat s 0):Nat))),(6, .sv (.int .u32 (zZ (bat s 0):Nat))),(7, .sv (.int .u32 (Qg (qO (bat s 0)):Nat)))],h:=λ_=>[],more:=0,μ:=λ_=>0,keep:=[0]}
  |_=>none}
def zkz:wW.σ->WayF:=λs=>{ann:=λ_ _ _=>some {σ:=O6,pre:=λt=>t.size<=s.size/\qz t=qz s,find:=some λt _=>GW t 0,t:=λu=>[(0, .sv (.string u))],h:=λ_=>[],more:=0,μ:=λu=>u.size,keep:=[]}}
end
section
def qV{p q:Prop} [Decidable p] [Decidable q] (h:p↔q):decide p=decide q:=by simp[h]
abbrev k_(x:SV):Value:= .slice x.1 x.2.1 x.2.2
abbrev zE(x:SV):AV:= .sv (.slice x.1 x.2.1 x.2.2)
def qo(s:O6):List Value:=[.string s]
def qh(i:Int):List Value:=[.int .i64 i]
def qb{α:Type} (f:α->List Value) (x:SV) (l:List α) (p:Pub):Prop:=x.2.1=l.length/\qfv p x.1 x.2.1 x.2.2 (qa f l)
variable {α:Type}
def ji{f:α->List Value} {x:SV} {l:List α} {p q:Pub} (h:Pub.le p q) (e:qb f x l p):qb f x l q:=⟨e.1,q48 h e.2⟩
def j3{f:α->List Value} {e:Nat} (u:∀x,(f x).length=e) (he:0<e) {p:Pub} {x:SV} {l:List α} (h:qb f x l p) {i:Nat} (hi:i<l.length):x.1≠noA/\q2u p (adr x.1 (i*e)) (f l[i]):=zfw u he h.2 hi
variable {p:Pub}
def qQ{f:α->List Value}:qb f (none,0,0) [] p:=⟨rfl,Nat.le_refl _, .inl ⟨rfl,uF⟩⟩
inductive GJ where
 |mk (k n:Int) (s:O6) (y:SV) (l:List GJ) (x:SV) (nm:List O6)
def GJ.k:GJ->Int| .mk k _ _ _ _ _ _=>k
def GJ.n:GJ->Int| .mk _ n _ _ _ _ _=>n
def GJ.s:GJ->O6| .mk _ _ s _ _ _ _=>s
def GJ.y:GJ->SV| .mk _ _ _ y _ _ _=>y
def GJ.l:GJ->List GJ| .mk _ _ _ _ l _ _=>l
def GJ.x:GJ->SV| .mk _ _ _ _ _ x _=>x
def GJ.nm:GJ->List O6| .mk _ _ _ _ _ _ nm=>nm
def GJ.cells(g:GJ):List Value:=[.int .i64 g.k, .int .i64 g.n, .string g.s,k_ g.y,k_ g.x]
def GJ.av(g:GJ):AV:= .agg [.sv (.int .i64 g.k), .sv (.int .i64 g.n), .sv (.string g.s),zE g.y,zE g.x]
mutual
def GJ.ok:GJ->Pub->Prop
 | .mk k n s y l x nm,p=>qb GJ.cells y l p/\qb qo x nm p/\GJ.oks l p
def GJ.oks:List GJ->Pub->Prop
 | [],_=>True
 |g::l,p=>GJ.ok g p/\GJ.oks l p
end
mutual
def GJ.ok_mono:∀{g:GJ} {p q:Pub},Pub.le p q->g.ok p->g.ok q
  | .mk k n s y l x nm,p,q,h,e=>by unfold GJ.ok at e⊢;exact⟨ji h e.1,ji h e.2.1,GJ.oks_mono h e.2.2⟩
def GJ.oks_mono:∀{l:List GJ} {p q:Pub},Pub.le p q->GJ.oks l p->GJ.oks l q
  | [],p,q,h,e=>by unfold GJ.oks;trivial
  | g::l,p,q,h,e=>by unfold GJ.oks at e⊢;exact⟨GJ.ok_mono h e.1,GJ.oks_mono h e.2⟩
end
structure AF where
 nm:O6
 al:SV
 als:List O6
 ty:Int
 hd:Bool
 df:GJ
def AF.cells(f:AF):List Value:=[.string f.nm,k_ f.al, .int .i64 f.ty, .bool f.hd, .int .i64 f.df.k, .int .i64 f.df.n, .string f.df.s,k_ f.df.y,k_ f.df.x]
def AF.ok(f:AF) (p:Pub):Prop:=qb qo f.al f.als p/\f.df.ok p
structure AT where
 k:Int
 nm:O6
 al:SV
 als:List O6
 it:Int
 sy:SV
 sys:List O6
 hd:Bool
 df:O6
 sz:Int
 f:SV
 fs:List AF
 br:SV
 brs:List Int
def AT.cells(e:AT):List Value:=[.int .i64 e.k, .string e.nm,k_ e.al, .int .i64 e.it,k_ e.sy, .bool e.hd, .string e.df, .int .i64 e.sz,k_ e.f,k_ e.br]
def AT.av(e:AT):AV:= .agg [.sv (.int .i64 e.k), .sv (.string e.nm),zE e.al, .sv (.int .i64 e.it),zE e.sy, .sv (.bool e.hd), .sv (.string e.df), .sv (.int .i64 e.sz),zE e.f,zE e.br]
def AT.ok(e:AT) (p:Pub):Prop:=qb qo e.al e.als p/\qb qo e.sy e.sys p/\qb AF.cells e.f e.fs p/\qb qh e.br e.brs p/\∀f∈e.fs,f.ok p
def AT.ok_mono{e:AT} {p q:Pub} (h:Pub.le p q) (g:e.ok p):e.ok q:=⟨ji h g.1,ji h g.2.1,ji h g.2.2.1,ji h g.2.2.2.1,λf u=>⟨ji h (g.2.2.2.2 f u).1,GJ.ok_mono h (g.2.2.2.2 f u).2⟩⟩
def qc(S:List AT) (x:SV) (p:Pub):Prop:=qb AT.cells x S p/\∀e∈S,e.ok p
def uC{S:List AT} {x:SV} {p q:Pub} (h:Pub.le p q) (g:qc S x p):qc S x q:=⟨ji h g.1,λe he=>AT.ok_mono h (g.2 e he)⟩
def yU(e:AT):e.cells.length=10:=rfl
def HI(f:AF):f.cells.length=9:=rfl
def jS(s:O6):(qo s).length=1:=rfl
def yX(i:Int):(qh i).length=1:=rfl
def ZB(g:GJ):g.cells.length=5:=rfl
def small(S:List AT):Prop:=S.length<1000000/\∀e∈S,e.fs.length<1000000/\e.brs.length<1000000/\e.sys.length<1000000
inductive GV where
 |mk (n:Int) (s:O6) (x:SV) (l:List GV) (y:SV) (ks:List O6) (b:Int)
inductive PV where
 |mk (n:Int) (s:O6) (l:List PV) (ks:List O6) (b:Int)
def GV.n:GV->Int| .mk n _ _ _ _ _ _=>n
def GV.s:GV->O6| .mk _ s _ _ _ _ _=>s
def GV.x:GV->SV| .mk _ _ x _ _ _ _=>x
def GV.l:GV->List GV| .mk _ _ _ l _ _ _=>l
def GV.y:GV->SV| .mk _ _ _ _ y _ _=>y
def GV.ks:GV->List O6| .mk _ _ _ _ _ ks _=>ks
def GV.b:GV->Int| .mk _ _ _ _ _ _ b=>b
def GV.cells(v:GV):List Value:=[.int .u64 v.n, .string v.s,k_ v.x,k_ v.y, .int .i64 v.b]
def GV.av(v:GV):AV:= .agg [.sv (.int .u64 v.n), .sv (.string v.s),zE v.x,zE v.y, .sv (.int .i64 v.b)]
def jw(v:GV):v.cells.length=5:=rfl
mutual
def GV.ok:GV->Pub->Prop
 | .mk n s x l y ks b,p=>qb GV.cells x l p/\qb qo y ks p/\GV.oks l p
def GV.oks:List GV->Pub->Prop
 | [],_=>True
 |v::l,p=>GV.ok v p/\GV.oks l p
end
mutual
def GV.ok_mono:∀{v:GV} {p q:Pub},Pub.le p q->v.ok p->v.ok q
  | .mk n s x l y ks b,p,q,h,e=>by unfold GV.ok at e⊢;exact⟨ji h e.1,ji h e.2.1,GV.oks_mono h e.2.2⟩
def GV.oks_mono:∀{l:List GV} {p q:Pub},Pub.le p q->GV.oks l p->GV.oks l q
  | [],p,q,h,e=>by unfold GV.oks;trivial
  | g::l,p,q,h,e=>by unfold GV.oks at e⊢;exact⟨GV.ok_mono h e.1,GV.oks_mono h e.2⟩
end
def GV.ok_eq(v:GV) (p:Pub):v.ok p=(qb GV.cells v.x v.l p/\qb qo v.y v.ks p/\GV.oks v.l p):=by cases v;unfold GV.ok;rfl
def GV.oks_at:∀{l:List GV} {p:Pub},GV.oks l p->∀{i:Nat} (h:i<l.length),l[i].ok p
 |v::l,p,e,0,h=>by unfold GV.oks at e;exact e.1
 |v::l,p,e,i+1,h=>by unfold GV.oks at e;exact GV.oks_at e.2 (by simpa using h)
mutual
def GV.pv:GV->PV
 | .mk n s x l y ks b=> .mk n s (GV.pvs l) ks b
def GV.pvs:List GV->List PV
 | []=>[]
 |v::l=>GV.pv v::GV.pvs l
end
def GV.pv_eq(v:GV):v.pv= .mk v.n v.s (GV.pvs v.l) v.ks v.b:=by cases v;rw[GV.pv];rfl
def GV.pvs_map:∀l:List GV,GV.pvs l=l.map GV.pv
 | []=>by rw[GV.pvs];rfl
 |v::l=>by rw[GV.pvs,GV.pvs_map l];rfl
def GV.pvs_len(l:List GV):(GV.pvs l).length=l.length:=by rw[GV.pvs_map,List.length_map]
mutual
def PV.sm:PV->Prop
 | .mk n s l ks b=>(0<=n/\n<18446744073709551616)/\s.size<9223372036854775808/\l.length<4611686018427387904/\ks.length<4611686018427387904/\(∀k∈ks,k.size<9223372036854775808)/\PV.sms l
def PV.sms:List PV->Prop
 | []=>True
 |v::l=>PV.sm v/\PV.sms l
end
def PV.sms_at:∀{l:List PV},PV.sms l->∀{i:Nat} (h:i<l.length),l[i].sm
 |v::l,e,0,h=>by unfold PV.sms at e;exact e.1
 |v::l,e,i+1,h=>by unfold PV.sms at e;exact PV.sms_at e.2 (by simpa using h)
def GV.sm_eq(v:GV):v.pv.sm=((0<=v.n/\v.n<18446744073709551616)/\v.s.size<9223372036854775808/\v.l.length<4611686018427387904/\v.ks.length<4611686018427387904/\(∀k∈v.ks,k.size<9223372036854775808)/\PV.sms (GV.pvs v.l)):=by rw[GV.pv_eq,PV.sm,GV.pvs_len]
variable {v:GV}
def GV.sm_at(h:v.pv.sm) {i:Nat} (hi:i<v.l.length):v.l[i].pv.sm:=by rw[GV.sm_eq]at h;have:=PV.sms_at h.2.2.2.2.2 (i:=i) (by rw[GV.pvs_len];exact hi);simpa[GV.pvs_map]using this
def GV.ok_at(h:v.ok p) {i:Nat} (hi:i<v.l.length):v.l[i].ok p:=by rw[GV.ok_eq]at h;exact GV.oks_at h.2.2 hi
def GV.cells_at(h:v.ok p) {i:Nat} (hi:i<v.l.length):v.x.1≠noA/\q2u p (adr v.x.1 (i*5)) v.l[i].cells:=by rw[GV.ok_eq]at h;exact j3 jw (by decide) h.1 hi
def GV.x_len(h:v.ok p):v.x.2.1=v.l.length:=by rw[GV.ok_eq]at h;exact h.1.1
def GV.y_len(h:v.ok p):v.y.2.1=v.ks.length:=by rw[GV.ok_eq]at h;exact h.2.1.1
def zS(a:AT) (n:Int):Bool:=if a.k=1 then decide (n=0)else if a.k=2 then decide (n<=1)else if a.k=3 then decide (n<2147483648\/18446744071562067968<=n)else if a.k=5 then decide (n<4294967296)else if a.k=10 then decide (n<a.sys.length)else true
def jC(a:AT) (s:O6):Bool:=if a.k=8 then qz s else if a.k=11 then decide ((s.size:Int)=a.sz)else true
def zd:List O6->Bool
 | []=>true
 | [k]=>qz k
 |k::j::l=>qz k&&qcn k j&&zd (j::l)
def zx(a:AT) (n:Nat) (ks:List O6) (b:Int):Bool:=
 if ks.length>0/\a.k≠13\/b≠0/\a.k≠14 then false else
 if a.k=9 then decide (n=a.fs.length)else if a.k=14 then decide (0<=b/\b<a.brs.length/\n=1)else if a.k=13 then decide (n=ks.length)&&zd ks else true
def qI(k:Int):Bool:=decide (k=1\/k=2\/k=3\/k=4\/k=5\/k=6\/k=10)
def qG(k:Int):Bool:=decide (k=7\/k=8\/k=11)
def ql(k:Int):Bool:=decide (k=9\/k=12\/k=13\/k=14)
def kS(n m:Nat) (b:Int):Bool:=decide (n=0)&&decide (m=0)&&decide (b=0)
def qj(a:AT) (b:Int) (i:Nat):Int:=if a.k=9 then(match a.fs[i]? with|some f=>f.ty|none=>0)else if a.k=14 then a.brs.getD b.toNat 0 else a.it
mutual
def PV.fits(S:List AT) (t:Int):PV->Bool
  | .mk n s l ks b=>if t<0\/S.length<=t then false else match S[t.toNat]? with
    |none=>false
    | some a=>if qI a.k=true then zS a n&&decide (s.size=0)&&kS l.length ks.length b else
      if qG a.k=true then jC a s&&decide (n=0)&&kS l.length ks.length b else
      if ql a.k=true then zx a l.length ks b&&PV.fitL S (qj a b) 0 l&&decide (n=0)&&decide (s.size=0)else false
def PV.fitL(S:List AT) (f:Nat->Int) (i:Nat):List PV->Bool
 | []=>true
 |v::l=>PV.fits S (f i) v&&PV.fitL S f (i+1) l
end
mutual
def PV.same:PV->PV->Bool
 | .mk n s l ks b, .mk n' C A h u=>decide (n=n')&&decide (s=C)&&decide (b=u)&&decide (ks=h)&&PV.sames l A
def PV.sames:List PV->List PV->Bool
 | [],[]=>true
 |v::l,w::m=>PV.same v w&&PV.sames l m
 |_,_=>false
end
end
open Go.Proofs.YtniogjgfomaicaaGreat.Rv
def js(x y:SV) (n all e:Int):List (Nat×AO):=[(1, .cells 86 (some 0) false [zE x,zE y, .sv (.int .i64 n), .sv (.int .i64 all), .sv (.int .i64 e)])]
def dM(y:SV) (D:O6):PF:=⟨true,λp=>y.2.1=D.size/\qfv p y.1 y.2.1 y.2.2 (q11 D),λ_ _ h e=>⟨e.1,q48 h e.2⟩⟩
abbrev ze:=SV×SV×O6×Int×Int×Int
def qC(D:O6) (n:Int):Prop:=0<=n/\n<=D.size/\D.size<1000000000000000000
def Pk:Ct:={zwy with m':=1}
def OJ:Ct where
 σ:=Nat
 args:=λr=>[.sv (.int .u64 (r:Nat))]
 h:=λ_=>[]
 m:=1
 pre:=λr=>r<18446744073709551616
 r:=λr=> .sv (.int .u64 (km r % 18446744073709551616))
 h':=λ_=>[]
 m':=1
 g:=λ_=>none
def Ol:Ct where
 σ:=Nat
 args:=λr=>[.int .i64 8, .sv (.int .u64 (r:Nat))]
 h:=λ_=>[]
 m:=1
 pre:=λr=>r<18446744073709551616
 r:=λr=> .sv (.int .u64 (km r % 18446744073709551616))
 h':=λ_=>[]
 m':=1
 g:=λ_=>none
def Zy:Ct where
 σ:=SV×SV×Int×Int×Int×Int
 args:=λ⟨x,y,n,all,e,k⟩=>[.ptr 1 0, .sv (.int .i64 k)]
 h:=λ⟨x,y,n,all,e,k⟩=>js x y n all e
 m:=2
 r:=λ_=> .tup []
 h':=λ⟨x,y,n,all,e,k⟩=>js x y n all (if e=0 then k else e)
 m':=2
 g:=λ_=>none
def zr(D:O6) (n e k:Int):O6×Int×Int:=if e≠0\/D.size- n<k then(mkS [],n,if e=0 then 2 else e)else(D.extract n.toNat (n+k).toNat,n+k,e)
def W':Ct where
 σ:=ze×Int
 args:=λ⟨⟨x,y,D,n,all,e⟩,k⟩=>[.ptr 1 0, .sv (.int .i64 k)]
 h:=λ⟨⟨x,y,D,n,all,e⟩,k⟩=>js x y n all e
 m:=2
 pre:=λ⟨⟨x,y,D,n,all,e⟩,k⟩=>qC D n/\0<=k/\k<9223372036854775808
 mem:=λ⟨⟨x,y,D,n,all,e⟩,k⟩=>dM y D
 r:=λ⟨⟨x,y,D,n,all,e⟩,k⟩=> .sv (.string (zr D n e k).1)
 h':=λ⟨⟨x,y,D,n,all,e⟩,k⟩=>js x y (zr D n e k).2.1 all (zr D n e k).2.2
 m':=2
 g:=λ_=>none
def ke(D:O6) (n:Int):O6:=D.extract n.toNat (min (D.size:Int) (n+10)).toNat
def qL(D:O6) (n e:Int):Int×Int×Int:=if e≠0 then(0,n,e)else if(verr (ke D n).data.toList:Int)=0 then(km (vval (ke D n).data.toList),n+vlen (ke D n).data.toList,0)else(0,n,verr (ke D n).data.toList)
def J0:Ct where
 σ:=ze
 args:=λ_=>[.ptr 1 0]
 h:=λ⟨x,y,D,n,all,e⟩=>js x y n all e
 m:=2
 pre:=λ⟨x,y,D,n,all,e⟩=>qC D n
 mem:=λ⟨x,y,D,n,all,e⟩=>dM y D
 r:=λ⟨x,y,D,n,all,e⟩=> .sv (.int .i64 (qL D n e).1)
 h':=λ⟨x,y,D,n,all,e⟩=>js x y (qL D n e).2.1 all (qL D n e).2.2
 m':=2
 g:=λ_=>none
def uA(m e:Int):Int:=if e=0 then(if m<0 then 2 else if 5000<m then 3 else 0)else e
def kF(D:O6) (n e:Int):O6×Int×Int:=if uA (qL D n e).1 (qL D n e).2.2≠0 then(mkS [],(qL D n e).2.1,uA (qL D n e).1 (qL D n e).2.2)else zr D (qL D n e).2.1 0 (qL D n e).1
def W_:Ct where
 σ:=ze
 args:=λ_=>[.ptr 1 0]
 h:=λ⟨x,y,D,n,all,e⟩=>js x y n all e
 m:=2
 pre:=λ⟨x,y,D,n,all,e⟩=>qC D n
 mem:=λ⟨x,y,D,n,all,e⟩=>dM y D
 r:=λ⟨x,y,D,n,all,e⟩=> .sv (.string (kF D n e).1)
 h':=λ⟨x,y,D,n,all,e⟩=>js x y (kF D n e).2.1 all (kF D n e).2.2
 m':=2
 g:=λ_=>none
def XA(m e k:Int):Int:=if e=0/\(m<0\/k<=m)then 2 else e
def ya(D:O6) (n e k:Int):Int×Int×Int:=(if XA (qL D n e).1 (qL D n e).2.2 k≠0 then 0 else(qL D n e).1,(qL D n e).2.1,XA (qL D n e).1 (qL D n e).2.2 k)
def IQ:Ct where
 σ:=ze×Int
 args:=λ⟨⟨x,y,D,n,all,e⟩,k⟩=>[.ptr 1 0, .sv (.int .i64 k)]
 h:=λ⟨⟨x,y,D,n,all,e⟩,k⟩=>js x y n all e
 m:=2
 pre:=λ⟨⟨x,y,D,n,all,e⟩,k⟩=>qC D n/\0<=k/\k<9223372036854775808
 mem:=λ⟨⟨x,y,D,n,all,e⟩,k⟩=>dM y D
 r:=λ⟨⟨x,y,D,n,all,e⟩,k⟩=> .sv (.int .i64 (ya D n e k).1)
 h':=λ⟨⟨x,y,D,n,all,e⟩,k⟩=>js x y (ya D n e k).2.1 all (ya D n e k).2.2
 m':=2
 g:=λ_=>none
def jz:List UInt8->Nat
 | []=>0
 |c::l=>c.toNat+256*jz l
def OH:Ct where
 σ:=ze×Int
 args:=λ⟨⟨x,y,D,n,all,e⟩,k⟩=>[.ptr 1 0, .sv (.int .i64 k)]
 h:=λ⟨⟨x,y,D,n,all,e⟩,k⟩=>js x y n all e
 m:=2
 pre:=λ⟨⟨x,y,D,n,all,e⟩,k⟩=>qC D n/\0<=k/\k<=8
 mem:=λ⟨⟨x,y,D,n,all,e⟩,k⟩=>dM y D
 r:=λ⟨⟨x,y,D,n,all,e⟩,k⟩=> .sv (.int .u64 (jz (zr D n e k).1.data.toList:Nat))
 h':=λ⟨⟨x,y,D,n,all,e⟩,k⟩=>js x y (zr D n e k).2.1 all (zr D n e k).2.2
 m':=2
 g:=λ_=>none
def PH:ze×Int->WayF:=λ⟨⟨x,y,D,n,all,e⟩,k⟩=>{
 ann:=λ_ _ _=>some {σ:=Nat,pre:=λj=>j<=(zr D n e k).1.size,t:=λj=>[(6, .sv (.int .u64 (jz ((zr D n e k).1.data.toList.drop j):Nat))),(7, .sv (.int .i64 ((j:Int)- 1)))],h:=λ_=>[],more:=0,μ:=λj=>j,keep:=[5]}}
def zzj(r:Nat):qix P (λ_=>none) Tryz.f121 OJ (λ_=>{}) r=(r<(18446744073709551616:Nat)->(2:Int)≠(0:Int)/\(decide (Int.tmod (↑r:Int) (2:Int)=(1:Int))=true->(2:Int)≠(0:Int)/\km r % (18446744073709551616:Int)=q9p BinOp.xor u64 (IntKind.max u64) (IntKind.wrap u64 (Int.tdiv (↑r:Int) (2:Int)))/\True)/\(decide (Int.tmod (↑r:Int) (2:Int)=(1:Int))=false->(2:Int)≠(0:Int)/\km r % (18446744073709551616:Int)=IntKind.wrap u64 (Int.tdiv (↑r:Int) (2:Int))/\True)):=by kernel_rfl
def zox(r:Nat):qix P (qef [(121,OJ)]) Tryz.f95 Ol (λ_=>{}) r=(r<(18446744073709551616:Nat)->∃(s:Nat),(↑s:Int)=(↑r:Int)/\s<(18446744073709551616:Nat)/\km r % (18446744073709551616:Int)=km s % (18446744073709551616:Int)/\True):=by kernel_rfl
def zob(x y:SV) (n all e k:Int):qix P (λ_=>none) Tryz.f55 Zy (λ_=>{}) ⟨x,y,n,all,e,k⟩=(True->(decide (e=(0:Int))=true->Prod.fst x=Prod.fst x/\Prod.fst (Prod.snd x)=Prod.fst (Prod.snd x)/\Prod.snd (Prod.snd x)=Prod.snd (Prod.snd x)/\Prod.fst y=Prod.fst y/\Prod.fst (Prod.snd y)=Prod.fst (Prod.snd y)/\Prod.snd (Prod.snd y)=Prod.snd (Prod.snd y)/\n=n/\all=all/\(if e=(0:Int)then k else e)=k/\True)/\(decide (e=(0:Int))=false->Prod.fst x=Prod.fst x/\Prod.fst (Prod.snd x)=Prod.fst (Prod.snd x)/\Prod.snd (Prod.snd x)=Prod.snd (Prod.snd x)/\Prod.fst y=Prod.fst y/\Prod.fst (Prod.snd y)=Prod.fst (Prod.snd y)/\Prod.snd (Prod.snd y)=Prod.snd (Prod.snd y)/\n=n/\all=all/\(if e=(0:Int)then k else e)=e/\True)):=by kernel_rfl
section
variable (a:Int) (b g:SV) (d f:Int) (e:O6) (h:Int) (l:Prop) (m:Nat->Option Obj)
 abbrev OS:=True/\b.2.1=size e/\qfv m b.1 b.2.1 b.2.2 (q11 e)
 def Z0:=(!decide (a=0))= !decide (a=0)
 def Ui:=Z0 a/\Z0 a/\Z0 a/\Z0 a/\Z0 a/\l
 abbrev XL:=∃(c:(Option Addr×Nat×Nat)×(Option Addr×Nat×Nat)×Int×Int×Int×Int),c.2.2.2.2.2=2/\c.1.1=b.1/\c.1.2.1=b.2.1/\c.1.2.2=b.2.2/\c.2.1.1=g.1/\c.2.1.2.1=g.2.1/\c.2.1.2.2=g.2.2/\c.2.2.1=a/\c.2.2.2.1=d/\c.2.2.2.2.1=f/\True/\(zr e a f h).1=mkS []/\b.1=c.1.1/\b.2.1=c.1.2.1/\b.2.2=c.1.2.2/\g.1=c.2.1.1/\g.2.1=c.2.1.2.1/\g.2.2=c.2.1.2.2/\(zr e a f h).2.1=c.2.2.1/\d=c.2.2.2.1/\((zr e a f h).2.2=if c.2.2.2.2.1=0 then c.2.2.2.2.2 else c.2.2.2.2.1)/\True
 def dQ:=Z0 a/\Ui a (Ui a (((!decide (a=0))=true->XL d b g f a e h)/\((!decide (a=0))=false->False)))
 abbrev XN:=λ(c:Nat)=>(λ(j:Nat)=>(λ(k:Nat)=>k) j) c
 abbrev XM:=λ(c:Nat)=>(λ(j:Nat)=>(λ(k:Nat)=>(0:Nat)) j) c
 def EP:=b.1=b.1/\b.2.1=b.2.1/\b.2.2=b.2.2/\l
 def dP:=Jb (a+d)/\b.2.1<=b.2.2/\(0<=a/\a<=a+d/\a+d<=(↑b.2.2:Int))/\∃c,size c=Int.rec (XN) (XM) (a+d)- Int.rec (XN) (XM) a/\(∀i,OS b e i->qfu i (slA b.1 b.2.2 (Int.rec (XN) (XM) a) 1) (q11 c))/\Jb (a+d)/\(zr e a f d).1=c/\EP g (EP b ((zr e a f d).2.1=a+d/\h=h/\(zr e a f d).2.2=f/\True))
 def dO:=Ji ((↑b.2.1:Int)- a<d) (XL a g b f h e d) (dP a b g d h e f)
 def dN:=Ui a (Ui a (Jb ((↑b.2.1:Int)- d)/\Z0 a/\((!decide (a=0))=true->XL d g b f a e h)/\((!decide (a=0))=false->dO d b g h f e a)))
 def dL:=((!decide (a=0))=true->dQ a b g d f e h)/\((!decide (a=0))=false->dN a g b d f e h)
end
def zk2(x y:SV) (D:O6) (n all e k:Int):qix P (qef [(55,Zy)]) Tryz.f61 W' (λ_=>{}) ⟨⟨x,y,D,n,all,e⟩,k⟩=(qC D n/\0<=k/\k<9223372036854775808->(∃(p:Pub),OS y D p)->dL e x y n all D k):=by kernel_rfl
def zqf:=λx y D n all e k=>Eq.trans (zk2 x y D n all e k) (by delta Ji Jb Jt Jf OS Z0 Ui XL dQ XN XM EP dP dO dN dL;exact rfl)
section
variable (c:Int) (e:O6) (f:Int) (b g:SV) (h:Int) (k:O6) (m:Prop) (n:Nat->Option Obj)
 def ES:=True/\b.2.1=size e/\qfv n b.1 b.2.1 b.2.2 (q11 e)
 def Y1:=b.1=b.1/\b.2.1=b.2.1/\b.2.2=b.2.2/\m
 def PN:=(qL e c f).1=0/\Y1 b (Y1 g ((qL e c f).2.1=c/\h=h/\(qL e c f).2.2=f/\True))
 abbrev KU:=(↑b.2.1:Int)
 abbrev XQ:=λ(d:Nat)=>(λ(j:Nat)=>(λ(l:Nat)=>l) j) d
 abbrev XP:=λ(d:Nat)=>(λ(j:Nat)=>(λ(l:Nat)=>(0:Nat)) j) d
 abbrev XO:=(↑(Proofs.YtniogjgfomaicaaGreat.Rv.verr (Array.toList (ByteArray.data e))):Int)
 abbrev ER:=(↑(Proofs.YtniogjgfomaicaaGreat.Rv.vlen (Array.toList (ByteArray.data e))):Int)
 def dU:=Jb (c+(ER e))/\∃(d:Nat),(↑d:Int)=(↑(Proofs.YtniogjgfomaicaaGreat.Rv.vval (Array.toList (ByteArray.data e))):Int)/\d<18446744073709551616/\(qL k c f).1=IntKind.wrap i64 (km d % 18446744073709551616)/\Y1 b (Y1 g ((qL k c f).2.1=c+(ER e)/\h=h/\(qL k c f).2.2=f/\True))
 abbrev dS:=Jb (c+10)/\b.2.1<=b.2.2/\(0<=c/\(c<=if c+10<(KU b)then c+10 else(KU b))/\(if c+10<(KU b)then c+10 else(KU b))<=(↑b.2.2:Int))/\∃d,size d=Int.rec (XQ) (XP) (if c+10<(KU b)then c+10 else(KU b))- Int.rec (XQ) (XP) c/\(∀i,ES e b i->qfu i (slA b.1 b.2.2 (Int.rec (XQ) (XP) c) 1) (q11 d))/\d=d/\size d<1000000000000000000/\((!decide ((XO d)=0))=true->∃(a:(Option Addr×Nat×Nat)×(Option Addr×Nat×Nat)×Int×Int×Int×Int),a.2.2.2.2.2=(XO d)/\a.1.1=g.1/\a.1.2.1=g.2.1/\a.1.2.2=g.2.2/\a.2.1.1=b.1/\a.2.1.2.1=b.2.1/\a.2.1.2.2=b.2.2/\a.2.2.1=c/\a.2.2.2.1=f/\a.2.2.2.2.1=h/\True/\(qL e c h).1=0/\g.1=a.1.1/\g.2.1=a.1.2.1/\g.2.2=a.1.2.2/\b.1=a.2.1.1/\b.2.1=a.2.1.2.1/\b.2.2=a.2.1.2.2/\(qL e c h).2.1=a.2.2.1/\f=a.2.2.2.1/\((qL e c h).2.2=if a.2.2.2.2.1=0 then a.2.2.2.2.2 else a.2.2.2.2.1)/\True)/\((!decide ((XO d)=0))=false->dU c d h g b f e)
 def dR:=((!decide (c=0))=true->PN f e c b g h)/\((!decide (c=0))=false->dS f e h g b c)
end
def zj1(x y:SV) (D:O6) (n all e:Int):qix P (qef [(55,Zy),(94,Pk),(95,Ol)]) Tryz.f57 J0 (λ_=>{}) ⟨x,y,D,n,all,e⟩=(qC D n->(∃(p:Pub),ES D y p)->dR e D n x y all):=by kernel_rfl
def zpe:=λx y D n all e=>Eq.trans (zj1 x y D n all e) (by delta Jb ES Y1 PN KU XQ XP XO ER dU dS dR;exact rfl)
section
variable (b:(Option Addr×Nat×Nat)×(Option Addr×Nat×Nat)×Int×Int×Int×Int) (f:O6) (g h:Int) (e i:SV) (j:Int) (a:ze) (d:ze×Int) (l:Prop) (k:Nat->Option Obj)
 abbrev XS:=True/\e.2.1=size f/\qfv k e.1 e.2.1 e.2.2 (q11 f)
 def PO:=a.2.1.2.1=size a.2.2.1/\qfv k a.2.1.1 a.2.1.2.1 a.2.1.2.2 (q11 a.2.2.1)
 abbrev yB:=qL a.2.2.1 a.2.2.2.1 a.2.2.2.2.2
 def EU:=b.2.2.2.2.2=g/\b.1.1=a.1.1/\b.1.2.1=a.1.2.1/\b.1.2.2=a.1.2.2/\b.2.1.1=a.2.1.1/\b.2.1.2.1=a.2.1.2.1/\b.2.1.2.2=a.2.1.2.2/\b.2.2.1=(yB a).2.1/\b.2.2.2.1=a.2.2.2.2.1/\b.2.2.2.2.1=(yB a).2.2/\True/\l
 abbrev OT:= !decide ((if b.2.2.2.2.1=0 then b.2.2.2.2.2 else b.2.2.2.2.1)=0)
 abbrev dY:=(kF f g h).1=mkS []/\e.1=b.1.1/\e.2.1=b.1.2.1/\e.2.2=b.1.2.2/\i.1=b.2.1.1/\i.2.1=b.2.1.2.1/\i.2.2=b.2.1.2.2/\(kF f g h).2.1=b.2.2.1/\j=b.2.2.2.1/\((kF f g h).2.2=if b.2.2.2.2.1=0 then b.2.2.2.2.2 else b.2.2.2.2.1)/\True
 def dZ:=d.1.2.1.2.1=size d.1.2.2.1/\qfv k d.1.2.1.1 d.1.2.1.2.1 d.1.2.1.2.2 (q11 d.1.2.2.1)
 abbrev Lp:=zr d.1.2.2.1 d.1.2.2.2.1 d.1.2.2.2.2.2 d.2
 def ET:=(qC d.1.2.2.1 d.1.2.2.2.1/\0<=d.2/\d.2<9223372036854775808)/\(∀c,XS f e c->dZ d c)/\(kF f g h).1=(Lp d).1/\i.1=d.1.1.1/\i.2.1=d.1.1.2.1/\i.2.2=d.1.1.2.2/\e.1=d.1.2.1.1/\e.2.1=d.1.2.1.2.1/\e.2.2=d.1.2.1.2.2/\(kF f g h).2.1=(Lp d).2.1/\j=d.1.2.2.2.2.1/\(kF f g h).2.2=(Lp d).2.2/\True
 abbrev XR:=((OT b)=true->dY b f g h e i j)/\((OT b)=false->∃(c:ze×Int),c.2=(yB a).1/\c.1.1.1=b.1.1/\c.1.1.2.1=b.1.2.1/\c.1.1.2.2=b.1.2.2/\c.1.2.1.1=b.2.1.1/\c.1.2.1.2.1=b.2.1.2.1/\c.1.2.1.2.2=b.2.1.2.2/\c.1.2.2.2.1=b.2.2.1/\c.1.2.2.2.2.1=b.2.2.2.1/\(c.1.2.2.2.2.2=if b.2.2.2.2.1=0 then b.2.2.2.2.2 else b.2.2.2.2.1)/\ET f g h i e j c)
 def dX:=(kF f g h).1=mkS []/\e.1=a.1.1/\e.2.1=a.1.2.1/\e.2.2=a.1.2.2/\i.1=a.2.1.1/\i.2.1=a.2.1.2.1/\i.2.2=a.2.1.2.2/\(kF f g h).2.1=(yB a).2.1/\j=a.2.2.2.2.1/\(kF f g h).2.2=(yB a).2.2/\True
 def dW:=((!decide ((yB a).2.2=0))=true->dX f g h e i j a)/\((!decide ((yB a).2.2=0))=false->∃(c:ze×Int),c.2=(yB a).1/\c.1.1.1=a.1.1/\c.1.1.2.1=a.1.2.1/\c.1.1.2.2=a.1.2.2/\c.1.2.1.1=a.2.1.1/\c.1.2.1.2.1=a.2.1.2.1/\c.1.2.1.2.2=a.2.1.2.2/\c.1.2.2.2.1=(yB a).2.1/\c.1.2.2.2.2.1=a.2.2.2.2.1/\c.1.2.2.2.2.2=(yB a).2.2/\ET f g h i e j c)
 def dV:=Ji (5000<(yB a).1) (∃(c:(Option Addr×Nat×Nat)×(Option Addr×Nat×Nat)×Int×Int×Int×Int),EU c 3 a (XR c f g h e i j a)) (dW f g h e i j a)
end
def zk3(x y:SV) (D:O6) (n all e:Int):qix P (qef [(55,Zy),(57,J0),(61,W')]) Tryz.f58 W_ (λ_=>{}) ⟨x,y,D,n,all,e⟩=(qC D n->(∃(p:Pub),XS D y p)->∃(s:ze),s.1.1=x.1/\s.1.2.1=x.2.1/\s.1.2.2=x.2.2/\s.2.1.1=y.1/\s.2.1.2.1=y.2.1/\s.2.1.2.2=y.2.2/\s.2.2.2.1=n/\s.2.2.2.2.1=all/\s.2.2.2.2.2=e/\qC s.2.2.1 s.2.2.2.1/\(∀(p:Pub),XS D y p->PO s p)/\Ji ((yB s).1<0) (∃(s_1:(Option Addr×Nat×Nat)×(Option Addr×Nat×Nat)×Int×Int×Int×Int),EU s_1 2 s (Ji (5000<(yB s).1) (∃(s_2:(Option Addr×Nat×Nat)×(Option Addr×Nat×Nat)×Int×Int×Int×Int),s_2.2.2.2.2.2=3/\s_2.1.1=s_1.1.1/\s_2.1.2.1=s_1.1.2.1/\s_2.1.2.2=s_1.1.2.2/\s_2.2.1.1=s_1.2.1.1/\s_2.2.1.2.1=s_1.2.1.2.1/\s_2.2.1.2.2=s_1.2.1.2.2/\s_2.2.2.1=s_1.2.2.1/\s_2.2.2.2.1=s_1.2.2.2.1/\(s_2.2.2.2.2.1=if s_1.2.2.2.2.1=0 then s_1.2.2.2.2.2 else s_1.2.2.2.2.1)/\True/\XR s_2 D n e x y all s) (XR s_1 D n e x y all s))) (dV D n e x y all s)):=by kernel_rfl
def zqg:=λx y D n all e=>Eq.trans (zk3 x y D n all e) (by delta Ji Jt Jf XS PO yB EU OT dY dZ Lp ET XR dX dW dV;exact rfl)
section
variable (a:ze) (b:O6) (d e c:Int) (f g:SV) (h:Int) (j:Prop) (i:Nat->Option Obj)
 abbrev EX:=True/\f.2.1=size b/\qfv i f.1 f.2.1 f.2.2 (q11 b)
 def ec:=a.2.1.2.1=size a.2.2.1/\qfv i a.2.1.1 a.2.1.2.1 a.2.1.2.2 (q11 a.2.2.1)
 abbrev Z1:=qL a.2.2.1 a.2.2.2.1 a.2.2.2.2.2
 abbrev XU:=(Z1 a).2.2=0
 def XT:=f.1=a.1.1/\f.2.1=a.1.2.1/\f.2.2=a.1.2.2/\g.1=a.2.1.1/\g.2.1=a.2.1.2.1/\g.2.2=a.2.1.2.2/\(ya b d e c).2.1=(Z1 a).2.1/\h=a.2.2.2.2.1/\j
 def EW:=(ya b d e c).1=0/\XT a b d e c f g h ((ya b d e c).2.2=2/\True)
 def ed:=(ya b d e c).1=(Z1 a).1/\XT a b d e c f g h ((ya b d e c).2.2=(Z1 a).2.2/\True)
 def EV:=((!decide (XU a))=true->(ya b d e c).1=0/\XT a b d e c f g h ((ya b d e c).2.2=(Z1 a).2.2/\True))/\((!decide (XU a))=false->ed a b d e c f g h)
 def d_:=Ji ((Z1 a).1<0) (EW a b d e c f g h) (Ji (c<=(Z1 a).1) (EW a b d e c f g h) (EV a b d e c f g h))
end
def zff(x y:SV) (D:O6) (n all e k:Int):qix P (qef [(57,J0)]) Tryz.f60 IQ (λ_=>{}) ⟨⟨x,y,D,n,all,e⟩,k⟩=(qC D n/\0<=k/\k<9223372036854775808->(∃(p:Pub),EX D y p)->∃(s:ze),s.1.1=x.1/\s.1.2.1=x.2.1/\s.1.2.2=x.2.2/\s.2.1.1=y.1/\s.2.1.2.1=y.2.1/\s.2.1.2.2=y.2.2/\s.2.2.2.1=n/\s.2.2.2.2.1=all/\s.2.2.2.2.2=e/\qC s.2.2.1 s.2.2.2.1/\(∀(p:Pub),EX D y p->ec s p)/\Ji (XU s) (d_ s D n e k x y all) (EV s D n e k x y all)):=by kernel_rfl
def zih:=λx y D n all e k=>Eq.trans (zff x y D n all e k) (by delta Ji Jt Jf EX ec Z1 XU XT EW ed EV d_;exact rfl)
section
variable (b:Nat) (a:ze×Int) (c:O6) (e f g:Int) (d j:SV) (k:Int) (l:Prop) (i:Nat->Option Obj)
 abbrev Y2:=True/\d.2.1=size c/\qfv i d.1 d.2.1 d.2.2 (q11 c)
 def eu:=a.1.2.1.2.1=size a.1.2.2.1/\qfv i a.1.2.1.1 a.1.2.1.2.1 a.1.2.1.2.2 (q11 a.1.2.2.1)
 abbrev wh:=zr a.1.2.2.1 a.1.2.2.2.1 a.1.2.2.2.2.2 a.2
 abbrev XW:=(↑(size (wh a).1):Int)
 abbrev Y3:=(↑(jz (drop b (Array.toList (ByteArray.data (zr c e f g).1)))):Int)
 def EY:=a.1.1.1=a.1.1.1/\a.1.1.2.1=a.1.1.2.1/\a.1.1.2.2=a.1.1.2.2/\a.1.2.1.1=a.1.2.1.1/\a.1.2.1.2.1=a.1.2.1.2.1/\a.1.2.1.2.2=a.1.2.1.2.2/\(wh a).2.1=(wh a).2.1/\a.1.2.2.2.2.1=a.1.2.2.2.2.1/\(wh a).2.2=(wh a).2.2/\(∀h,Y2 c d h->Y2 c d h)/\b<=size (zr c e f g).1/\l
 abbrev XV:=(↑(bat (wh a).1 (toNat ((↑b:Int)- 1))):Int)
 def eh:=(0:Int)<=8/\(0<=(↑b:Int)- 1/\(↑b:Int)- 1<(XW a))/\(0<=(XV b a)/\(XV b a)<=18446744073709551615)/\Jb ((↑b:Int)- 1- 1)/\∃(h:Nat),(↑h:Int)- 1=(↑b:Int)- 1- 1/\(wh a).1=(wh a).1/\(Y3 h c e f g)=q9p BinOp.or u64 (shP BinOp.shl u64 (Y3 b c e f g) 8) (XV b a)/\EY h a c e f g d (h<b/\True)
 def eo:=(↑(jz (Array.toList (ByteArray.data (zr c e f g).1))):Int)=(Y3 b c e f g)/\d.1=a.1.1.1/\d.2.1=a.1.1.2.1/\d.2.2=a.1.1.2.2/\j.1=a.1.2.1.1/\j.2.1=a.1.2.1.2.1/\j.2.2=a.1.2.1.2.2/\(zr c e f g).2.1=(wh a).2.1/\k=a.1.2.2.2.2.1/\(zr c e f g).2.2=(wh a).2.2/\True
 def eg:=Ji (0<=(↑b:Int)- 1) (eh b a c e f g d) (eo b a c e f g j d k)
end
def zph(x y:SV) (D:O6) (n all e k:Int):qix P (qef [(61,W')]) Tryz.f56 OH (PH) ⟨⟨x,y,D,n,all,e⟩,k⟩=(qC D n/\0<=k/\k<=8->(∃(p:Pub),Y2 D y p)->∃(s:ze×Int),s.2=k/\s.1.1.1=x.1/\s.1.1.2.1=x.2.1/\s.1.1.2.2=x.2.2/\s.1.2.1.1=y.1/\s.1.2.1.2.1=y.2.1/\s.1.2.1.2.2=y.2.2/\s.1.2.2.2.1=n/\s.1.2.2.2.2.1=all/\s.1.2.2.2.2.2=e/\(qC s.1.2.2.1 s.1.2.2.2.1/\0<=s.2/\s.2<9223372036854775808)/\(∀(p:Pub),Y2 D y p->eu s p)/\Jb ((XW s)- 1)/\(∃(s_1:Nat),(↑s_1:Int)- 1=(XW s)- 1/\(wh s).1=(wh s).1/\(Y3 s_1 D n e k)=0/\EY s_1 s D n e k y True)/\∀(s_1:Nat),s_1<=size (zr D n e k).1->eg s_1 s D n e k y x all):=by kernel_rfl
def zxz:=λx y D n all e k=>Eq.trans (zph x y D n all e k) (by delta Ji Jb Jt Jf Y2 eu wh XW Y3 EY XV eh eo eg;exact rfl)
section
open Go.Proofs.YtniogjgfomaicaaGreat.Rv
def zzk:q4a P 121 OJ:=by
 refine qw z7 (W:=λ_=>{}) Tryz.func121 λ(r:Nat)=>(zzj r).mpr ?_;intro h;have e1:Int.tmod (r:Int) 2=(r:Int) % 2:=Int.tmod_eq_emod_of_nonneg (by omega);have e2:Int.tdiv (r:Int) 2=((r / 2:Nat):Int):=by rw[Int.tdiv_eq_ediv_of_nonneg (by omega)];omega
 have w:IntKind.wrap .u64 ((r / 2:Nat):Int)=((r / 2:Nat):Int):=by rw[wrap_u64];omega
 simp only[decide_eq_true_eq,decide_eq_false_iff_not,e1,e2,w,and_true];unfold km;refine⟨by decide,λA=>⟨by decide,?_⟩,λu=>⟨by decide,?_⟩⟩
 ·rw[zdy _ (by omega),if_neg (by omega)];omega
 ·rw[if_pos (by omega)];omega
def zzf:q4a P 94 Pk:=
 qiq (Sen.enters_of Tryz.func94 (by kernel_rfl)) (by decide) (by decide) (λs=>[.string s]) (λs=> .tuple #[.int .u64 (vval s.data.toList:Nat), .int .i64 (vlen s.data.toList:Nat), .int .i64 (verr s.data.toList:Nat)]) (λs=>rfl) (λs=>rfl) (λs=>rfl) (λs=>rfl)
  (λs I=> .tup (.cons (.sv _) (.cons (.sv _) (.cons (.sv _) .nil))))
  λs w h=>(rvarint_any s w (by have:s.size<1000000000000000000:=h;unfold maxLen;omega)).mono λe u he=>by obtain⟨rfl,rfl⟩:=he;exact⟨rfl, .refl _ _⟩
def zoy:q4a P 95 Ol:=by
 refine qw (qbu (qfr zzk qil)) (W:=λ_=>{}) Tryz.func95 λ(r:Nat)=>(zox r).mpr ?_
 exactλh=>⟨r,rfl,h,rfl,trivial⟩
def VZ:q4a P 55 Zy:=by refine qw z7 (W:=λ_=>{}) Tryz.func55 λ⟨(x:SV),(y:SV),(n:Int),(all:Int),(e:Int),(k:Int)⟩=>(zob x y n all e k).mpr ?_;intro _;simp only[decide_eq_true_eq,decide_eq_false_iff_not,true_and,and_true,eq_self];exact⟨λh=>if_pos h,λh=>if_neg h⟩
def jiq{x:Addr} (h:x.spot=none) (k:Nat):(x.add k).spot=none:=by
 unfold Addr.add;split
 ·exact h
 ·rfl
def ze2{p:Pub} {a:Option Addr} {c l:Nat} {vs us:List Value} (h:qfu p a vs) (J:l<=c) (hlen:vs.length<=c) (hu:∀(j:Nat) v,us[j]? =some v->vs[l+j]? =some v):qfu p (slA a c l 1) us:=by
  cases us with
  |nil=>exact .inl ⟨rfl,trivial⟩
  | cons u us=>
    have C:=hu 0 u rfl;rcases h with⟨rfl,_⟩|⟨x,rfl,hs,G⟩
    · simp at C
    · have A:c≠l:=λe=>by subst e;have:=(List.getElem?_eq_some_iff.mp C).1;omega
      refine .inr ⟨x.add (l*1),?_,jiq hs _,λj v H=> ?_⟩
      · unfold slA;rw[if_neg A];rfl
      · have:=G (l+j) v (hu j v H);rw[Addr.add_add,Nat.mul_one];exact this
def zv1(D:O6) (i m:Nat) (h:m<=D.size):∀(j:Nat) v,(q11 (D.extract i m))[j]? =some v->(q11 D)[i+j]? =some v:=λj v u=>by
 unfold q11 at u⊢;rw[ByteArray.data_extract,Array.toList_extract]at u;change(List.map _ (List.take (m- i) (List.drop i D.data.toList)))[j]? =some v at u;rw[List.getElem?_map,List.getElem?_take]at u;rw[List.getElem?_map];split at u
 ·rw[List.getElem?_drop]at u;exact u
 ·simp at u
def toN(z:Int):(Int.rec (λa=>(λa=>(λn=>n) a) a) (λa=>(λa=>(λa=>0) a) a) z:Nat)=z.toNat:=by cases z<;>rfl
def IF:q4a P 61 W':=by
 refine qw (qbu (qfr VZ qil)) (W:=λ_=>{}) Tryz.func61 λ⟨⟨(x:SV),(y:SV),D,(n:Int),(all:Int),(e:Int)⟩,(k:Int)⟩=>(zqf x y D n all e k).mpr ?_;rintro⟨⟨C,N,T⟩,H,J⟩ ⟨p,_,u,O⟩;have U:=O.1;simp only[qy,u,toN];have bad:(e≠0\/(D.size:Int)- n<k)->zr D n e k=(mkS [],n,if e=0 then 2 else e):=λh=>by unfold zr;rw[if_pos h]
 refine⟨λhe=>⟨λ_=> ?_,λh=>absurd h he⟩,λhe=>⟨⟨by omega,by omega⟩,λh=>absurd he h,λ_=>⟨λA=> ?_,λG=> ?_⟩⟩⟩
 ·rw[bad (.inl he)];exact⟨⟨x,y,n,all,e,2⟩,rfl,rfl,rfl,rfl,rfl,u,rfl,rfl,rfl,rfl,rfl,rfl,rfl,rfl,rfl,u.symm,rfl,rfl,rfl,rfl⟩
 ·rw[bad (.inr A)];exact⟨⟨x,y,n,all,e,2⟩,rfl,rfl,rfl,rfl,rfl,u,rfl,rfl,rfl,rfl,rfl,rfl,rfl,rfl,rfl,u.symm,rfl,rfl,rfl,rfl⟩
 ·have ok:zr D n e k=(D.extract n.toNat (n+k).toNat,n+k,e):=by unfold zr;rw[if_neg (by omega)]
  rw[ok];refine⟨⟨by omega,by omega⟩,by omega,⟨C,by omega,by omega⟩,D.extract n.toNat (n+k).toNat,?_,λq hq=> ?_,⟨by omega,by omega⟩,rfl,rfl,rfl⟩
  ·rw[ByteArray.size_extract];omega
  ·exact ze2 hq.2 (by omega) (by rw[q2i];omega) (zv1 D _ _ (by omega))
variable {D:O6}
def zds{n:Int} (h:qC D n):(ke D n).size=(min (D.size:Int) (n+10)).toNat- n.toNat:=by obtain⟨u,A,C⟩:=h;unfold ke;rw[ByteArray.size_extract];omega
def zpc{n e:Int} (h:qC D n):qC D (qL D n e).2.1/\n<=(qL D n e).2.1/\ -9223372036854775808<=(qL D n e).1/\(qL D n e).1<9223372036854775808/\(0<=e->0<=(qL D n e).2.2):=by
 have hs:=zds h;obtain⟨C,G,A⟩:=h;obtain⟨v1,v2,J,v4⟩:=IK (ke D n).data.toList;have H:(ke D n).data.toList.length=(ke D n).size:=rfl;have u:=OB _ v1;unfold qL qC;split
 ·exact⟨⟨C,G,A⟩,Int.le_refl _,by show _<=(0:Int);decide,by show(0:Int)<_;decide,λh=>h⟩
 ·split
  ·exact⟨⟨by show 0<=n+_;omega,by show n+_<=_;omega,A⟩,by show n<=n+_;omega,u.1,u.2,λ_=>Int.le_refl _⟩
  ·exact⟨⟨C,G,A⟩,Int.le_refl _,by show _<=(0:Int);decide,by show(0:Int)<_;decide,λ_=>by show(0:Int)<=(verr _:Nat);omega⟩
def W3:q4a P 57 J0:=by
 refine qw (qbu (qfr VZ (qfr zzf (qfr zoy qil)))) (W:=λ_=>{}) Tryz.func57 λ⟨(x:SV),(y:SV),D,(n:Int),(all:Int),(e:Int)⟩=>(zpe x y D n all e).mpr ?_;rintro hd ⟨p,_,h,H⟩;have hs:=zds hd;obtain⟨A,G,N⟩:=hd;have O:=H.1;obtain⟨v1,v2,U,v4⟩:=IK (ke D n).data.toList;have T:(ke D n).data.toList.length=(ke D n).size:=rfl;have u:=OB _ v1;have J:=z9z _ u.1 u.2;have hm:(if n+10<(D.size:Int)then n+10 else(D.size:Int))=min (D.size:Int) (n+10):=by split<;>omega
 simp only[qy,h,toN,hm];refine⟨λhe=> ?_,λhe=>⟨⟨by omega,by omega⟩,by omega,⟨A,by omega,by omega⟩,ke D n,hs,λq hq=> ?_,by omega,λC=> ?_,λC=>⟨⟨by omega,by omega⟩,_,rfl,v1,?_⟩⟩⟩
 ·have:qL D n e=(0,n,e):=by unfold qL;rw[if_pos he]
  rw[this];exact⟨rfl,rfl,rfl⟩
 ·refine ze2 hq.2 (by omega) (by rw[q2i];omega) ?_;unfold ke;exact zv1 D _ _ (by omega)
 ·have:qL D n e=(0,n,(verr (ke D n).data.toList:Int)):=by unfold qL;rw[if_neg (by omega),if_neg C]
  rw[this];exact⟨⟨x,y,n,all,e,_⟩,rfl,rfl,rfl,rfl,rfl,h,rfl,rfl,rfl,rfl,rfl,rfl,rfl,rfl,rfl,h.symm,rfl,rfl,rfl,(if_pos he).symm⟩
 ·have:qL D n e=(km (vval (ke D n).data.toList),n+vlen (ke D n).data.toList,0):=by unfold qL;rw[if_neg (by omega),if_pos C]
  rw[this,J];exact⟨rfl,rfl,he.symm⟩
def zii:q4a P 60 IQ:=by
 refine qw (qbu (qfr W3 qil)) (W:=λ_=>{}) Tryz.func60 λ⟨⟨(x:SV),(y:SV),D,(n:Int),(all:Int),(e:Int)⟩,(k:Int)⟩=>(zih x y D n all e k).mpr ?_;rintro⟨hd,A,C⟩ ⟨p,_,G,H⟩;refine⟨⟨x,y,D,n,all,e⟩,rfl,rfl,rfl,rfl,rfl,rfl,rfl,rfl,rfl,hd,λq hq=>hq.2,?_⟩;unfold ya;generalize qL D n e=L;obtain⟨m,J,e1⟩:=L;simp only[qy];unfold XA;refine⟨λhe=>⟨λhm=> ?_,λhm=>⟨λu=> ?_,λu=>⟨λh=>absurd he h,λ_=> ?_⟩⟩⟩,λhe=>⟨λ_=> ?_,λh=>absurd h he⟩⟩
 ·simp[he,hm]
 ·simp[he,u]
 ·rw[if_neg (show¬(e1=0/\(m<0\/k<=m))by omega),if_neg (show¬e1≠0 by omega)];exact⟨rfl,rfl⟩
 ·rw[if_neg (show¬(e1=0/\(m<0\/k<=m))by omega),if_pos he];exact⟨rfl,rfl⟩
def IG:q4a P 58 W_:=by
 refine qw (qbu (qfr VZ (qfr W3 (qfr IF qil)))) (W:=λ_=>{}) Tryz.func58 λ⟨(x:SV),(y:SV),D,(n:Int),(all:Int),(e:Int)⟩=>(zqg x y D n all e).mpr ?_;rintro hd ⟨p,_,G,H⟩;refine⟨⟨x,y,D,n,all,e⟩,rfl,rfl,rfl,rfl,rfl,rfl,rfl,rfl,rfl,hd,λq hq=>hq.2,?_⟩;obtain⟨f1,_,f3,f4,_⟩:=zpc (e:=e) hd;unfold kF;generalize qL D n e=L at*;obtain⟨m,C,e1⟩:=L;simp only[qy]at f1 f3 f4⊢;refine⟨λhm=>⟨⟨x,y,C,all,e1,2⟩,?_⟩,λhm=>⟨λA=>⟨⟨x,y,C,all,e1,3⟩,?_⟩,λA=>⟨λhe=> ?_,λhe=>⟨⟨⟨x,y,D,C,all,e1⟩,m⟩,?_⟩⟩⟩⟩
 ·simp only[true_and,eq_self,and_true];have hx:uA m e1=if e1=0 then 2 else e1:=by unfold uA;rw[if_pos hm]
  have u:(if e1=0 then(2:Int)else e1)≠0:=by split<;>omega
  refine⟨λh=>absurd h (by omega),λ_=>⟨λ_=> ?_,λh=>absurd h u⟩⟩;rw[hx,if_pos u];exact⟨rfl,rfl,rfl⟩
 ·simp only[true_and,eq_self,and_true];have hx:uA m e1=if e1=0 then 3 else e1:=by unfold uA;rw[if_neg hm,if_pos A]
  have u:(if e1=0 then(3:Int)else e1)≠0:=by split<;>omega
  refine⟨λ_=> ?_,λh=>absurd h u⟩;rw[hx,if_pos u];exact⟨rfl,rfl,rfl⟩
 ·have hx:uA m e1=e1:=by unfold uA;rw[if_neg he]
  rw[hx,if_pos he];exact⟨rfl,rfl,rfl⟩
 ·simp only[true_and,eq_self,and_true];have hx:uA m e1=0:=by unfold uA;rw[if_pos he,if_neg hm,if_neg A]
  rw[hx,if_neg (by decide),he];exact⟨⟨f1,by omega,by omega⟩,λq hq=>hq,rfl,rfl,rfl⟩
def zyg(v b:Nat) (h:v*256+255<18446744073709551616) (u:b<256):q9p .or .u64 (shP .shl .u64 (v:Int) 8) (b:Int)=((b+256*v:Nat):Int):=by
 have hs:shP .shl .u64 (v:Int) 8=((v*256:Nat):Int):=by show IntKind.wrap .u64 ((v:Int)*2 ^ min (8:Int).toNat 64)=_;rw[wrap_u64,show(2:Int) ^ min (8:Int).toNat 64=256 from rfl];omega
 rw[hs];show IntKind.wrap .u64 (BitVec.ofInt 64 ((v*256:Nat):Int)|||BitVec.ofInt 64 (b:Int)).toNat=_;rw[BitVec.toNat_or,W0 _ (by omega),W0 _ (by omega)];have:=Nat.two_pow_add_eq_or_of_lt (b:=b) (i:=8) (by omega) v;rw[show 2 ^ 8*v=v*256 by omega]at this;rw[←this,wrap_u64];omega
def zvf:∀l:List UInt8,jz l<256 ^ l.length
  | []=>by decide
  | c::l=>by have:=zvf l;have:=c.toNat_lt;rw[jz,List.length_cons,Nat.pow_succ];omega
def zzc{n e k:Int} (h:qC D n) (G:0<=k):((zr D n e k).1.size:Int)<=k:=by
 obtain⟨u,A,C⟩:=h;unfold zr;split
 ·show(((mkS []).size:Nat):Int)<=k;rw[show(mkS []).size=0 from rfl];omega
 ·show((D.extract n.toNat (n+k).toNat).size:Int)<=k;rw[ByteArray.size_extract];omega
def zxw{s:O6} {j:Nat} (h:j<s.size):jz (s.data.toList.drop j)=bat s j+256*jz (s.data.toList.drop (j+1)):=by have u:j<s.data.toList.length:=h;rw[List.drop_eq_getElem_cons u,jz,j75 h];rfl
def zy0:q4a P 56 OH:=by
 refine qw (qbu (qfr IF qil)) (W:=PH) Tryz.func56 λ⟨⟨(x:SV),(y:SV),D,(n:Int),(all:Int),(e:Int)⟩,(k:Int)⟩=>(zxz x y D n all e k).mpr ?_;rintro⟨hd,h,H⟩ ⟨p,_,O,Y⟩;have U:=zzc (e:=e) hd h;refine⟨⟨⟨x,y,D,n,all,e⟩,k⟩,rfl,rfl,rfl,rfl,rfl,rfl,rfl,rfl,rfl,rfl,⟨hd,h,by show k<_;omega⟩,λq hq=>hq.2,?_⟩;generalize zr D n e k=T at*;obtain⟨s,Z,e1⟩:=T;simp only[decide_eq_true_eq,decide_eq_false_iff_not,true_and,and_true,eq_self,imp_self,implies_true]at U⊢;have hlen:s.data.toList.length=s.size:=rfl;refine⟨⟨by omega,by omega⟩,⟨s.size,rfl,?_,Nat.le_refl _⟩,λj V=>⟨λu=> ?_,λJ=> ?_⟩⟩
 ·rw[←hlen,List.drop_length];rfl
 ·obtain⟨i,rfl⟩:∃i,j=i+1:=⟨j- 1,by omega⟩;have hi:i<s.size:=by omega
  have G:=xz s i;have N:(((i+1:Nat):Int)- 1).toNat=i:=by omega
  have X:=zvf (s.data.toList.drop (i+1));have C:(s.data.toList.drop (i+1)).length<=7:=by rw[List.length_drop,hlen];omega
  have hp:256 ^ (s.data.toList.drop (i+1)).length<=256 ^ 7:=Nat.pow_le_pow_right (by decide) C;have A:(256:Nat) ^ 7=72057594037927936:=by decide
  rw[N];refine⟨by decide,⟨by omega,by omega⟩,⟨by omega,by omega⟩,⟨by omega,by omega⟩,i,by omega,?_,by omega,by omega⟩;rw[zxw hi,zyg _ _ (by omega) G]
 ·obtain rfl:j=0:=by omega
  rfl
end
def x'(σ:Type) (args:σ->List AV) (pre:σ->Prop) (mem:σ->PF) (r:σ->AV):Ct where
 σ:=σ
 args:=args
 h:=λ_=>[]
 m:=1
 pre:=pre
 mem:=mem
 r:=r
 h':=λ_=>[]
 m':=1
 g:=λ_=>none
def qm(b:Int):List Value:=[.int .u8 b]
def j7g(b:Int):(qm b).length=1:=rfl
def YR(x:SV) (L:List Int):PF:=⟨true,qb qm x L,λ_ _ h e=>ji h e⟩
def zX(L:List Int):Prop:=L.length<1000000/\∀b∈L,0<=b/\b<256
def qq(L:List Int) (n m:Int):Int:=if L.length<=n then 0 else Int.tmod (L.getD n.toNat 0) m
def qg(L:List Int) (n:Int):Int:=if L.length<=n then n else n+1
def jb(x:SV) (n:Int):List (Nat×AO):=[(1, .cells 57 (some 0) false [zE x, .sv (.int .i64 n)])]
def EM(h:T AO) (id:Nat):Option (SV×Int):=match h.get id with
  | some (.cells _ _ _ [a,i])=>match a with
    | .sv (.slice a n c)=>match gi i with
      |some (_,i)=>some ((a,n,c),i)
      |none=>none
    |_=>none
  |_=>none
def j8k(l:List AV) (h:T AO):Option (Sel (SV×List Int×Int×Int)):=match l with
  | [.ptr id _,m]=>match EM h id with
    | some (x,n)=>match gi m with
      |some (_,m)=>some ⟨List Int,λL=>(x,L,n,m)⟩
      |none=>none
    |none=>none
  |_=>none
def QU:Ct where
 σ:=SV×List Int×Int×Int
 args:=λ⟨x,L,n,m⟩=>[.ptr 1 0, .sv (.int .i64 m)]
 h:=λ⟨x,L,n,m⟩=>jb x n
 m:=2
 pre:=λ⟨x,L,n,m⟩=>0<=n/\n<=L.length/\0<m/\m<1000000/\zX L
 mem:=λ⟨x,L,n,m⟩=>YR x L
 sel:=some j8k
 r:=λ⟨x,L,n,m⟩=> .sv (.int .i64 (qq L n m))
 h':=λ⟨x,L,n,m⟩=>jb x (qg L n)
 m':=2
 g:=λ_=>none
def zz2(l:List AV) (h:T AO):Option (Sel (SV×List Int×Int)):=match l with
  | [.ptr id _]=>match EM h id with
    |some (x,n)=>some ⟨List Int,λL=>(x,L,n)⟩
    |none=>none
  |_=>none
def Uh:Ct where
 σ:=SV×List Int×Int
 args:=λ⟨x,L,n⟩=>[.ptr 1 0]
 h:=λ⟨x,L,n⟩=>jb x n
 m:=2
 pre:=λ⟨x,L,n⟩=>True
 mem:=λ⟨x,L,n⟩=>YR x L
 sel:=some zz2
 r:=λ⟨x,L,n⟩=> .sv (.bool (decide ((L.length:Int)<=n)))
 h':=λ⟨x,L,n⟩=>jb x n
 m':=2
 g:=λ_=>none
def Yf:Ct:={x' O6 (λs=>[.sv (.string s)]) (λ_=>True) (λ_=>{}) (λs=> .agg [.int .i64 4, .int .i64 0, .sv (.string s), .nsl, .nsl])with find:=some λl _=>match l with
 | [a]=>gs a
 |_=>none}
inductive N3 where
 |two
 |three
 |four
def N3.v:N3->Nat
 | .two=>2
 | .three=>3
 | .four=>4
def V8:Ct where
  σ:=N3
  args:=λn=>[.sl 1 0 n.v n.v, .sl 2 0 n.v n.v]
  h:=λ_=>[]
  m:=3
  find:=some λl _=>match l with
    | [.sl _ _ n _,_]=>match n with
      |2=>some .two
      |3=>some .three
      |4=>some .four
      |_=>none
    |_=>none
  r:=λn=> .agg [.int .i64 6, .int .i64 0, .str [], .sl 2 0 n.v n.v, .sl 1 0 n.v n.v]
  h':=λ_=>[]
  m':=3
  g:=λ_=>none
mutual
def GJ.wf:GJ->Prop
 | .mk k n s y l x nm=>s.size<1000/\l.length<8/\nm.length<=l.length/\(∀t∈nm,t.size<1000)/\(-9223372036854775808<=n/\n<9223372036854775808)/\(k=6->nm.length=l.length)/\GJ.wfs l
def GJ.wfs:List GJ->Prop
 | []=>True
 |g::l=>GJ.wf g/\GJ.wfs l
end
def GJ.wf_eq(g:GJ):g.wf=(g.s.size<1000/\g.l.length<8/\g.nm.length<=g.l.length/\(∀t∈g.nm,t.size<1000)/\(-9223372036854775808<=g.n/\g.n<9223372036854775808)/\(g.k=6->g.nm.length=g.l.length)/\GJ.wfs g.l):=by cases g;rw[GJ.wf];rfl
def GJ.ok_eq(g:GJ) (p:Pub):g.ok p=(qb GJ.cells g.y g.l p/\qb qo g.x g.nm p/\GJ.oks g.l p):=by cases g;unfold GJ.ok;rfl
def GJ.wfs_at:∀{l:List GJ},GJ.wfs l->∀{i:Nat} (h:i<l.length),l[i].wf
 |v::l,e,0,h=>by unfold GJ.wfs at e;exact e.1
 |v::l,e,i+1,h=>by unfold GJ.wfs at e;exact GJ.wfs_at e.2 (by simpa using h)
def GJ.oks_at:∀{l:List GJ} {p:Pub},GJ.oks l p->∀{i:Nat} (h:i<l.length),l[i].ok p
 |v::l,p,e,0,h=>by unfold GJ.oks at e;exact e.1
 |v::l,p,e,i+1,h=>by unfold GJ.oks at e;exact GJ.oks_at e.2 (by simpa using h)
def gM(g:GJ):PF:=⟨true,g.ok,λ_ _ h e=>GJ.ok_mono h e⟩
def zJ:GJ:= .mk 0 0 (mkS []) (none,0,0) [] (none,0,0) []
def jn(s:O6):List O6->List GJ->Option GJ
 |t::nm,g::l=>if t=s then some g else jn s nm l
 |_,_=>none
def XB:Ct:=x' (GJ×O6) (λ⟨g,s⟩=>[g.av, .sv (.string s)]) (λ⟨g,s⟩=>g.wf) (λ⟨g,s⟩=>gM g) λ⟨g,s⟩=> .tup [((jn s g.nm g.l).getD zJ).av, .sv (.bool (jn s g.nm g.l).isSome)]
def dG:XB.σ->WayF:=λ⟨g,s⟩=>{
 ann:=λ_ _ _=>some {σ:=Nat,pre:=λj=>j<=g.nm.length/\jn s (g.nm.drop j) (g.l.drop j)=jn s g.nm g.l,t:=λj=>[(6, .sv (.int .i64 (j:Int)))],h:=λ_=>[],more:=0,μ:=λj=>g.nm.length- j,keep:=[1,2,4,5]}}
def isNum(s:O6):Bool:=decide (s=mkS [105,110,116])||decide (s=mkS [108,111,110,103])||decide (s=mkS [102,108,111,97,116])||decide (s=mkS [100,111,117,98,108,101])
def wX(s:O6):Bool:=decide (s=mkS [115,116,114,105,110,103])||decide (s=mkS [98,121,116,101,115])
def J5(s:O6):Bool:=decide (s=mkS [98,111,111,108,101,97,110])
def Yh(s:O6):Bool:=decide (s=mkS [110,117,108,108])
def Lb(i:Int):O6:=if i=0 then mkS []else if i=1 then mkS [100]else mkS [195,164]
def zK(g:GJ) (L:List Int) (n:Int):Int×Int×O6×Int:=
 if g.k=4/\isNum g.s=true then(3,qq L n 200- 50,mkS [],qg L n)else
 if g.k=4/\wX g.s=true then(4,0,Lb (qq L n 3),qg L n)else
 if g.k=4/\J5 g.s=true then(2,qq L n 2,mkS [],qg L n)else
 if g.k=4/\Yh g.s=true then(1,0,mkS [],n)else
 if g.k=5 then(1,0,mkS [],n)else
 if((jn (mkS [116,121,112,101]) g.nm g.l).getD zJ).s=mkS [97,114,114,97,121]then(5,0,mkS [],n)else
 if((jn (mkS [116,121,112,101]) g.nm g.l).getD zJ).s=mkS [101,110,117,109]then(4,0,mkS [88],n)else(6,0,mkS [],n)
def j8j(l:List AV) (h:T AO):Option (Sel (SV×List Int×Int×GJ)):=match l with
  | [.ptr id _,_]=>match EM h id with
    |some (x,n)=>some ⟨List Int×GJ,λL=>(x,L.1,n,L.2)⟩
    |none=>none
  |_=>none
def He:Ct where
 σ:=SV×List Int×Int×GJ
 args:=λ⟨x,L,n,g⟩=>[.ptr 1 0,g.av]
 h:=λ⟨x,L,n,g⟩=>jb x n
 m:=2
 pre:=λ⟨x,L,n,g⟩=>0<=n/\n<=L.length/\zX L/\g.wf
 mem:=λ⟨x,L,n,g⟩=>⟨true,λp=>qb qm x L p/\g.ok p,λ_ _ h e=>⟨ji h e.1,GJ.ok_mono h e.2⟩⟩
 sel:=some j8j
 r:=λ⟨x,L,n,g⟩=> .agg [.sv (.int .i64 (zK g L n).1), .sv (.int .i64 (zK g L n).2.1), .sv (.string (zK g L n).2.2.1), .nsl, .nsl]
 h':=λ⟨x,L,n,g⟩=>jb x (zK g L n).2.2.2
 m':=2
 g:=λ_=>none
def swS(f:O6->Bool) (i k:Nat) (keep:List Nat) (t:T AV):Option LT:=match GW t k with
 |some a=>some {σ:=Unit,t:=λ_=>[(i, .sv (.bool (f a)))],h:=λ_=>[],more:=0,μ:=λ_=>0,keep:=keep}
 |none=>none
def zej:He.σ->WayF:=λ⟨x,L,n,g⟩=>{
 cut:=λi t _=>match i with
  |7=>swS isNum 12 11 [0,3,4,11] t
  |10=>swS wX 21 11 [0,3,4,11] t
  |15=>some {σ:=Unit,pre:=λ_=>¬(g.k=4/\(isNum g.s=true\/wX g.s=true\/J5 g.s=true\/Yh g.s=true)),t:=λ_=>[],h:=λ_=>[],more:=0,μ:=λ_=>0,keep:=[0,3,4]}
  |_=>none}
def jt(S:List AT) (e:Int) (r k:Nat):List (Nat×AO):=[(1, .cells 90 (some 0) false [.ssl r 0 S.length 10 k, .sv (.int .i64 e)]),(r, .row 55 0 (qa AT.cells S))]
def wB(h:T AO) (id:Nat):Option Int:=match h.get id with
  | some (.cells _ _ _ [_,e])=>match gi e with
    |some (_,e)=>some e
    |none=>none
  |_=>none
def zz0(l:List AV) (h:T AO):Option (Sel (List AT×Int×Int)):=match l with
  | [.ptr id _,e]=>match wB h id with
    | some e0=>match gi e with
      |some (_,e)=>some ⟨List AT,λS=>(S,e0,e)⟩
      |none=>none
    |none=>none
  |_=>none
def qt(e0 e:Int):Int:=if e0=0 then e else e0
def wT:Ct where
 σ:=List AT×Int×Int
 args:=λ⟨S,e0,e⟩=>[.ptr 1 0, .sv (.int .i64 e)]
 h:=λ⟨S,e0,e⟩=>jt S e0 2 3
 m:=4
 sel:=some zz0
 r:=λ⟨S,e0,e⟩=> .int .i64 0
 h':=λ⟨S,e0,e⟩=>jt S (qt e0 e) 2 3
 m':=4
 g:=λ_=>none
def qD(S:List AT) (t:AT):List AT:=if 60<=S.length then S else S++[t]
def qJ(S:List AT) (e:Int):Int:=if 60<=S.length then qt e 3 else e
def qu(S:List AT):Int:=if 60<=S.length then 0 else S.length
def Va:Ct where
 σ:=List AT×Int×AT
 args:=λ⟨S,e,t⟩=>[.ptr 1 0,t.av]
 h:=λ⟨S,e,t⟩=>jt S e 2 3
 m:=4
 r:=λ⟨S,e,t⟩=> .sv (.int .i64 (qu S))
 h':=λ⟨S,e,t⟩=>jt (qD S t) (qJ S e) 4 5
 m':=6
 g:=λ_=>none
def kinds:List O6:=[mkS [110,117,108,108],mkS [98,111,111,108,101,97,110],mkS [105,110,116],mkS [108,111,110,103],mkS [102,108,111,97,116],mkS [100,111,117,98,108,101],mkS [98,121,116,101,115],mkS [115,116,114,105,110,103],mkS [114,101,99,111,114,100],mkS [101,110,117,109],mkS [102,105,120,101,100],mkS [97,114,114,97,121],mkS [109,97,112],mkS [117,110,105,111,110]]
def ZY(s:O6):List O6->Nat->Int
 | [],_=>0
 |k::l,i=>if k=s then(i:Int)+1 else ZY s l (i+1)
def qM(s:O6):Int:=ZY s kinds 0
def Uf:Ct:={x' O6 (λs=>[.sv (.string s)]) (λ_=>True) (λ_=>{}) (λs=> .sv (.int .i64 (qM s)))with find:=some λl _=>match l with
 | [a]=>gs a
 |_=>none}
def PG:Uf.σ->WayF:=λs=>{
 ann:=λ_ _ _=>some {σ:=Nat,pre:=λj=>j<=14/\ZY s (kinds.drop j) j=qM s,t:=λj=>[(4, .sv (.int .i64 (j:Int)))],h:=λ_=>[],more:=0,μ:=λj=>14- j,keep:=[0,2,3]}}
def wY(k:Int):O6:=if k<1\/14<k then mkS []else kinds.getD (k.toNat- 1) (mkS [])
def OI:Ct:=x' Int (λk=>[.sv (.int .i64 k)]) (λ_=>True) (λ_=>{}) λk=> .sv (.string (wY k))
def findF(s:O6):List AT->Nat->Option Nat
 | [],_=>none
 |a::l,i=>if a.nm=s/\9<=a.k/\a.k<=11 then some i else findF s l (i+1)
def wy(o:Option Nat):Int:=match o with
 |some i=>i
 |none=>0
def zz1(l:List AV) (h:T AO):Option (Sel (List AT×Int×O6)):=match l with
  | [.ptr id _,a]=>match wB h id with
    | some e=>match gs a with
      |some s=>some ⟨List AT,λS=>(S,e,s)⟩
      |none=>none
    |none=>none
  |_=>none
def Ue:Ct where
 σ:=List AT×Int×O6
 args:=λ⟨S,e,s⟩=>[.ptr 1 0, .sv (.string s)]
 h:=λ⟨S,e,s⟩=>jt S e 2 3
 m:=4
 pre:=λ⟨S,e,s⟩=>S.length<1000
 sel:=some zz1
 r:=λ⟨S,e,s⟩=> .tup [.sv (.int .i64 (wy (findF s S 0))), .sv (.bool (findF s S 0).isSome)]
 h':=λ⟨S,e,s⟩=>jt S e 2 3
 m':=4
 g:=λ_=>none
def PB:Ue.σ->WayF:=λ⟨S,e,s⟩=>{
 ann:=λ_ _ _=>some {σ:=Nat,pre:=λj=>j<=S.length/\findF s (S.drop j) j=findF s S 0,t:=λj=>[(6, .sv (.int .i64 (j:Int)))],h:=λ_=>[],more:=0,μ:=λj=>S.length- j,keep:=[0,1,4,5]}}
def uU(S:List AT) (t:Int):O6:=if t<0\/S.length<=t then mkS []else match S[t.toNat]? with
 |some a=>if a.nm=mkS []then wY a.k else a.nm
 |none=>mkS []
def EG:Ct where
 σ:=List AT×Int
 args:=λ⟨S,t⟩=>[.agg [.ssl 1 0 S.length 10 2], .sv (.int .i64 t)]
 h:=λ⟨S,t⟩=>[(1, .row 55 0 (qa AT.cells S))]
 m:=3
 pre:=λ⟨S,t⟩=>S.length<1000
 r:=λ⟨S,t⟩=> .sv (.string (uU S t))
 h':=λ⟨S,t⟩=>[(1, .row 55 0 (qa AT.cells S))]
 m':=3
 g:=λ_=>none
def vB(a b:O6):O6:=if a=mkS []\/b=mkS []then a++b else a++mkS [46]++b
def jxg(l:List AV):Option (O6×O6):=match l with
  | [a,b]=>match gs a with
    | some a=>match gs b with
      |some b=>some (a,b)
      |none=>none
    |none=>none
  |_=>none
def H9:Ct:={x' (O6×O6) (λ⟨a,b⟩=>[.sv (.string a), .sv (.string b)]) (λ⟨a,b⟩=>a.size<1000000/\b.size<1000000) (λ_=>{}) (λ⟨a,b⟩=> .sv (.string (vB a b)))with find:=some λl _=>jxg l}
def isLt(c:Nat):Bool:=(c==95)|| (decide (65<=c)&&decide (c<=90))|| (decide (97<=c)&&decide (c<=122))
def KM(c:Nat):Bool:=decide (48<=c)&&decide (c<=57)
def IT:Ct:=ctS Int (λc=>[.int .u8 c]) YX (λc=>0<=c/\c<256) (λ_=>{}) λc=> .sv (.bool (isLt c.toNat))
def Og:Ct:=ctS Int (λc=>[.int .u8 c]) YX (λc=>0<=c/\c<256) (λ_=>{}) λc=> .sv (.bool (KM c.toNat))
def Vm(s:O6) (i:Nat):Bool:=isLt (bat s i)|| (decide (0<i)&&KM (bat s i))
def xf(s:O6):Nat->Nat->Bool
 |0,_=>true
 |f+1,i=>if i<s.size then Vm s i&&xf s f (i+1)else true
def vC(s:O6):Bool:=xf s s.size 0&&decide (0<s.size)
def Ye:Ct:={x' O6 (λs=>[.sv (.string s)]) (λs=>s.size<1000000) (λ_=>{}) (λs=> .sv (.bool (vC s)))with find:=some λl _=>match l with
 | [a]=>gs a
 |_=>none}
def PJ:Ye.σ->WayF:=λs=>{
 ann:=λ_ _ _=>some {σ:=Nat,pre:=λj=>j<=s.size/\xf s (s.size- j) j=xf s s.size 0,t:=λj=>[(3, .sv (.int .i64 (j:Int)))],h:=λ_=>[],more:=0,μ:=λj=>s.size- j,keep:=[0,2]}}
def xV(s:O6):Nat->Nat->O6->Bool
 |0,_,_=>true
 |f+1,i,q=>if i<s.size/\bat s i≠46 then xV s f (i+1) (q++s.extract i (i+1))else if vC q=true then xV s f (i+1) (mkS [])else false
def ZC(s:O6):Bool:=xV s (s.size+1) 0 (mkS [])
def HQ:Ct:={x' O6 (λs=>[.sv (.string s)]) (λs=>s.size<100000) (λ_=>{}) (λs=> .sv (.bool (ZC s)))with find:=some λl _=>match l with
 | [a]=>gs a
 |_=>none}
def zvx:HQ.σ->WayF:=λs=>{
 ann:=λ_ _ _=>some {σ:=Nat×O6,pre:=λ⟨j,q⟩=>j<=s.size+1/\q.size<=j/\xV s (s.size+1- j) j q=ZC s,t:=λ⟨j,q⟩=>[(3, .sv (.string q)),(4, .sv (.int .i64 (j:Int)))],h:=λ_=>[],more:=0,μ:=λ⟨j,q⟩=>s.size+1- j,keep:=[0,2]}}
def kx(s:O6):Nat->O6
 |0=>mkS []
 |i+1=>if bat s i=46 then s.extract 0 i else kx s i
def Hn:Ct:={x' O6 (λs=>[.sv (.string s)]) (λs=>s.size<1000000) (λ_=>{}) (λs=> .sv (.string (kx s s.size)))with find:=some λl _=>match l with
 | [a]=>gs a
 |_=>none}
def zkl:Hn.σ->WayF:=λs=>{
 ann:=λ_ _ _=>some {σ:=Nat,pre:=λj=>j<=s.size/\kx s j=kx s s.size,t:=λj=>[(3, .sv (.int .i64 ((j:Int)- 1)))],h:=λ_=>[],more:=0,μ:=λj=>j,keep:=[0,2]}}
def ZX(s:O6):Nat->Nat->Bool
 |0,_=>false
 |f+1,i=>if i<s.size then decide (bat s i=46)||ZX s f (i+1)else false
def j7r(s:O6):Bool:=ZX s s.size 0
def vA(nm sp:O6):O6:=if j7r nm=true then nm else vB sp nm
def yj(nm sp:O6) (e:Int):Int:=if nm=mkS []\/ZC (vA nm sp)=false then qt e 6 else e
def zq8(l:List AV) (h:T AO):Option (Sel (List AT×Int×O6×O6)):=match l with
  | [.ptr id _,a,b]=>match wB h id with
    | some e=>match gs a with
      | some a=>match gs b with
        |some b=>some ⟨List AT,λS=>(S,e,a,b)⟩
        |none=>none
      |none=>none
    |none=>none
  |_=>none
def Hv:Ct where
 σ:=List AT×Int×O6×O6
 args:=λ⟨S,e,a,b⟩=>[.ptr 1 0, .sv (.string a), .sv (.string b)]
 h:=λ⟨S,e,a,b⟩=>jt S e 2 3
 m:=4
 pre:=λ⟨S,e,a,b⟩=>a.size<10000/\b.size<50000
 sel:=some zq8
 r:=λ⟨S,e,a,b⟩=> .sv (.string (vA a b))
 h':=λ⟨S,e,a,b⟩=>jt S (yj a b e) 2 3
 m':=4
 g:=λ_=>none
def zw4:Hv.σ->WayF:=λ⟨S,e,a,b⟩=>{
 ann:=λ_ _ _=>some {σ:=Nat×O6,pre:=λ⟨j,q⟩=>j<=a.size/\((if ZX a (a.size- j) j=true then a else q)=vA a b),t:=λ⟨j,q⟩=>[(7, .sv (.string q)),(8, .sv (.int .i64 (j:Int)))],h:=λ_=>[],more:=0,μ:=λ⟨j,q⟩=>a.size- j,keep:=[0,1,2,6]}}
def qp(s:O6) (g:GJ):Option GJ:=if g.k=6 then jn s g.nm g.l else none
def xC:Ct:=x' (GJ×O6) (λ⟨g,s⟩=>[g.av, .sv (.string s)]) (λ⟨g,s⟩=>g.wf) (λ⟨g,s⟩=>gM g) λ⟨g,s⟩=> .tup [((qp s g).getD zJ).av, .sv (.bool (qp s g).isSome)]
def PD:xC.σ->WayF:=λ⟨g,s⟩=>{
 ann:=λ_ _ _=>some {σ:=Nat,pre:=λj=>j<=g.nm.length/\(if g.k=6 then jn s (g.nm.drop j) (g.l.drop j)else none)=qp s g,t:=λj=>[(6, .sv (.int .i64 (j:Int)))],h:=λ_=>[],more:=0,μ:=λj=>g.nm.length- j,keep:=[1,2,4,5]}}
def jH(g:GJ) (s:O6) (h:Bool) (e:Int):O6×Int:=match qp s g with
 |none=>if h=true then(mkS [],qt e 2)else(mkS [],e)
 |some t=>if t.k=4 then(t.s,e)else(mkS [],qt e 2)
def Ua:Ct where
 σ:=List AT×Int×GJ×O6×Bool
 args:=λ⟨S,e,g,s,b⟩=>[.ptr 1 0,g.av, .sv (.string s), .sv (.bool b)]
 h:=λ⟨S,e,g,s,b⟩=>jt S e 2 3
 m:=4
 pre:=λ⟨S,e,g,s,b⟩=>g.wf
 mem:=λ⟨S,e,g,s,b⟩=>gM g
 r:=λ⟨S,e,g,s,b⟩=> .sv (.string (jH g s b e).1)
 h':=λ⟨S,e,g,s,b⟩=>jt S (jH g s b e).2 2 3
 m':=4
 g:=λ_=>none
def zoa(S:List AT) (e0 e:Int):qix P (λ_=>none) Tryz.f63 wT (λ_=>{}) ⟨S,e0,e⟩=(True->(decide (e0=(0:Int))=true->List.length S=List.length S/\qt e0 e=e/\qa AT.cells S=qa AT.cells S/\True)/\(decide (e0=(0:Int))=false->List.length S=List.length S/\qt e0 e=e0/\qa AT.cells S=qa AT.cells S/\True)):=by kernel_rfl
def zwi(S:List AT) (e:Int) (t:AT):qix P (qef [(63,wT)]) Tryz.f69 Va (λ_=>{}) ⟨S,e,t⟩=(True->(decide ((60:Int)<=(↑(length S):Int))=true->∃(b:List AT),(3:Int)=(3:Int)/\length b=length S/\e=e/\qa AT.cells b=qa AT.cells S/\True/\qu S=(0:Int)/\length (qD S t)=length b/\qJ S e=qt e (3:Int)/\qa AT.cells (qD S t)=qa AT.cells b/\True)/\(decide ((60:Int)<=(↑(length S):Int))=false->length (qa AT.cells S)=length S*(10:Nat)/\(length S+nat_lit 1)*(160:Nat)<=(140737488355328:Nat)/\((-9223372036854775808:Int)<=(↑(length S+nat_lit 1):Int)- (1:Int)/\(↑(length S+nat_lit 1):Int)- (1:Int)<=(9223372036854775807:Int))/\qu S=(↑(length S+nat_lit 1):Int)- (1:Int)/\length (qD S t)=length S+nat_lit 1/\qJ S e=e/\qa AT.cells (qD S t)=qa AT.cells S++[int i64 (AT.k t),string (AT.nm t),slice (Prod.fst (AT.al t)) (Prod.fst (Prod.snd (AT.al t))) (Prod.snd (Prod.snd (AT.al t))),int i64 (AT.it t),slice (Prod.fst (AT.sy t)) (Prod.fst (Prod.snd (AT.sy t))) (Prod.snd (Prod.snd (AT.sy t))),bool (AT.hd t),string (AT.df t),int i64 (AT.sz t),slice (Prod.fst (AT.f t)) (Prod.fst (Prod.snd (AT.f t))) (Prod.snd (Prod.snd (AT.f t))),slice (Prod.fst (AT.br t)) (Prod.fst (Prod.snd (AT.br t))) (Prod.snd (Prod.snd (AT.br t)))]/\True)):=by kernel_rfl
section
variable (a:O6) (b:Nat)
 abbrev XX:=b<=14/\ZY a (drop b kinds) b=qM a
 abbrev EZ:=Jb ((↑b:Int)+1)
 def eD:=EZ b/\qM a=(↑b:Int)+1/\True
 def eC:=EZ b/\∃(c:Nat),a=a/\(↑c:Int)=(↑b:Int)+1/\(XX a c)/\(14:Nat)- c<14- b/\True
 def eB:=(0<=(↑b:Int)/\(↑b:Int)<(↑(nat_lit 14):Int))/\∃c,qfi [string (mkS [110,117,108,108]),string (mkS [98,111,111,108,101,97,110]),string (mkS [105,110,116]),string (mkS [108,111,110,103]),string (mkS [102,108,111,97,116]),string (mkS [100,111,117,98,108,101]),string (mkS [98,121,116,101,115]),string (mkS [115,116,114,105,110,103]),string (mkS [114,101,99,111,114,100]),string (mkS [101,110,117,109]),string (mkS [102,105,120,101,100]),string (mkS [97,114,114,97,121]),string (mkS [109,97,112]),string (mkS [117,110,105,111,110])] (nat_lit 0+toNat (↑b:Int)*1) [string c]/\Ji (c=a) (eD a b) (eC a b)
 def ey:=Ji ((↑b:Int)<Int.ofNat (nat_lit 14)) (eB a b) (qM a=0/\True)
 def ew:=(∃(c:Nat),a=a/\(↑c:Int)=0/\(XX a c)/\True)/\∀(d:Nat),XX a d->ey a d
end
def zp6(s:O6):qix P (λ_=>none) Tryz.f68 Uf (PG) s=(True->ew s):=by kernel_rfl
def zxp:=λs=>Eq.trans (zp6 s) (by delta Ji Jb Jt Jf XX EZ eD eC eB ey ew;exact rfl)
section
variable (a:Int)
 abbrev eI:=(0<=a/\a<(↑(nat_lit 15):Int))/\∃b,qfi [string (mkS []),string (mkS [110,117,108,108]),string (mkS [98,111,111,108,101,97,110]),string (mkS [105,110,116]),string (mkS [108,111,110,103]),string (mkS [102,108,111,97,116]),string (mkS [100,111,117,98,108,101]),string (mkS [98,121,116,101,115]),string (mkS [115,116,114,105,110,103]),string (mkS [114,101,99,111,114,100]),string (mkS [101,110,117,109]),string (mkS [102,105,120,101,100]),string (mkS [97,114,114,97,121]),string (mkS [109,97,112]),string (mkS [117,110,105,111,110])] (nat_lit 0+toNat a*1) [string b]/\wY a=b/\True
 def eG:=Ji (14<a) (wY a=mkS []/\True) (eI a)
 def eE:=Ji (a<1) (wY a=mkS []/\True) (eG a)
end
def zl4(k:Int):qix P (λ_=>none) Tryz.f122 OI (λ_=>{}) k=(True->eE k):=by kernel_rfl
def zqx:=λk=>Eq.trans (zl4 k) (by delta Ji Jt Jf eI eG eE;exact rfl)
section
variable (b:O6) (a:List AT) (d:Int) (c:Nat) (g:Int) (v:Prop)
 abbrev Y4:=length a=length a/\d=d/\qa AT.cells a=qa AT.cells a/\v
 def XZ:=c<=length a/\findF b (drop c a) c=findF b a 0
 def XY:=Jb ((↑c:Int)+1)/\∃(e:Nat),b=b/\(↑e:Int)=(↑c:Int)+1/\Y4 a d ((XZ b a e)/\length a- e<length a- c/\True)
 def eQ:=Ji (d<=11) (wy (findF b a 0)=(↑c:Int)/\Option.isSome (findF b a 0)=true/\Y4 a g True) (XY b a g c)
 def eP:=Ji (9<=d) (eQ b a d c g) (XY b a g c)
 def eL:=(0<=(↑c:Int)/\(↑c:Int)<(↑(length a):Int))/\∃(e:Int),∃f,∃o,∃(p:Nat),∃(q:Nat),∃(r:Int),∃s,∃(t:Nat),∃(i8:Nat),∃(u:Bool),∃h,∃(i:Int),∃j,∃(k:Nat),∃(l:Nat),∃m,∃(i16:Nat),∃(n:Nat),qfi (qa AT.cells a) (nat_lit 0+toNat (↑c:Int)*nat_lit 10) [int i64 e,string f,slice o p q,int i64 r,slice s t i8,bool u,string h,int i64 i,slice j k l,slice m i16 n]/\Ji (f=b) (eP b a e c d) (XY b a d c)
 def eR:=wy (findF b a 0)=0/\Option.isSome (findF b a 0)=false/\Y4 a d True
 def eK:=Ji ((↑c:Int)<(↑(length a):Int)) (eL b a d c) (eR b a d)
 def eJ:=(∃(e:Nat),b=b/\(↑e:Int)=0/\Y4 a d ((XZ b a e)/\True))/\∀(f:Nat),XZ b a f->eK b a d f
end
def zi2(S:List AT) (e:Int) (s:O6):qix P (λ_=>none) Tryz.f97 Ue (PB) ⟨S,e,s⟩=(length S<1000->eJ s S e):=by kernel_rfl
def zod:=λS e s=>Eq.trans (zi2 S e s) (by delta Ji Jb Jt Jf Y4 XZ XY eQ eP eL eR eK eJ;exact rfl)
def j8w(S:List AT) (t:Int):qix P (qef [(122,OI)]) Tryz.f99 EG (λ_=>{}) ⟨S,t⟩=(length S<(1000:Nat)->(decide (t<(0:Int))=true->uU S t=mkS []/\qa AT.cells S=qa AT.cells S/\True)/\(decide (t<(0:Int))=false->(decide ((↑(length S):Int)<=t)=true->uU S t=mkS []/\qa AT.cells S=qa AT.cells S/\True)/\(decide ((↑(length S):Int)<=t)=false->((0:Int)<=t/\t<(↑(length S):Int))/\∃(s:O6),qfi (qa AT.cells S) (nat_lit 0+toNat t*nat_lit 10+(1:Nat)) [string s]/\((!decide (s=mkS []))=true->((0:Int)<=t/\t<(↑(length S):Int))/\∃(s:O6),qfi (qa AT.cells S) (nat_lit 0+toNat t*nat_lit 10+(1:Nat)) [string s]/\uU S t=s/\qa AT.cells S=qa AT.cells S/\True)/\((!decide (s=mkS []))=false->((0:Int)<=t/\t<(↑(length S):Int))/\∃(n:Int),qfi (qa AT.cells S) (nat_lit 0+toNat t*nat_lit 10+(0:Nat)) [int i64 n]/\∃(s:Int),s=n/\True/\uU S t=wY s/\qa AT.cells S=qa AT.cells S/\True)))):=by kernel_rfl
def join_eq(a b:O6):qix P (λ_=>none) Tryz.f98 H9 (λ_=>{}) ⟨a,b⟩=(size a<(1000000:Nat)/\size b<(1000000:Nat)->(decide (a=mkS [])=true->size a+size b<=(9223372036854775807:Nat)/\vB a b=a++b/\True)/\(decide (a=mkS [])=false->(decide (b=mkS [])=true->size a+size b<=(9223372036854775807:Nat)/\vB a b=a++b/\True)/\(decide (b=mkS [])=false->size a+size (mkS [(46:Nat)])<=(9223372036854775807:Nat)/\size (a++mkS [(46:Nat)])+size b<=(9223372036854775807:Nat)/\vB a b=a++mkS [(46:Nat)]++b/\True))):=by kernel_rfl
def zix(c:Int):qix P (λ_=>none) Tryz.f134 IT (λ_=>{}) c=((0:Int)<=c/\c<(256:Int)->(decide ((97:Int)<=c)=true->(decide (c<=(122:Int))=true->isLt (toNat c)=true/\True)/\(decide (c<=(122:Int))=false->(decide ((65:Int)<=c)=true->(decide (c<=(90:Int))=true->isLt (toNat c)=true/\True)/\(decide (c<=(90:Int))=false->isLt (toNat c)=decide (c=(95:Int))/\True))/\(decide ((65:Int)<=c)=false->isLt (toNat c)=decide (c=(95:Int))/\True)))/\(decide ((97:Int)<=c)=false->(decide ((65:Int)<=c)=true->(decide (c<=(90:Int))=true->isLt (toNat c)=true/\True)/\(decide (c<=(90:Int))=false->isLt (toNat c)=decide (c=(95:Int))/\True))/\(decide ((65:Int)<=c)=false->isLt (toNat c)=decide (c=(95:Int))/\True))):=by kernel_rfl
def zo7(c:Int):qix P (λ_=>none) Tryz.f135 Og (λ_=>{}) c=((0:Int)<=c/\c<(256:Int)->(decide ((48:Int)<=c)=true->KM (Int.toNat c)=decide (c<=(57:Int))/\True)/\(decide ((48:Int)<=c)=false->KM (Int.toNat c)=false/\True)):=by kernel_rfl
section
variable (a:O6) (b:Nat) (e:Prop)
 abbrev X0:=b<=size a/\xf a (size a- b) b=xf a (size a) 0
 abbrev QZ:=(↑(bat a (toNat (↑b:Int))):Int)
 def E3:=(0<=(↑b:Int)/\(↑b:Int)<(↑(size a):Int))/\(QZ a b)=(QZ a b)/\(0<=(QZ a b)/\(QZ a b)<256)/\e
 def E0:=Jb ((↑b:Int)+1)/\∃(c:Nat),a=a/\(↑c:Int)=(↑b:Int)+1/\(X0 a c)/\size a- c<size a- b/\True
 def eZ:=E3 a b (((!KM (toNat (QZ a b)))=true->vC a=false/\True)/\((!KM (toNat (QZ a b)))=false->E0 a b))
 def eY:=Ji ((↑b:Int)=0) (vC a=false/\True) (eZ a b)
 def eX:=E3 a b (((!isLt (toNat (QZ a b)))=true->eY a b)/\((!isLt (toNat (QZ a b)))=false->E0 a b))
 def eW:=Ji ((↑b:Int)<(↑(size a):Int)) (eX a b) (vC a=decide (0<(↑(size a):Int))/\True)
 def eS:=(∃(c:Nat),a=a/\(↑c:Int)=0/\(X0 a c)/\True)/\∀(d:Nat),X0 a d->eW a d
end
def zpt(s:O6):qix P (qef [(134,IT),(135,Og)]) Tryz.f124 Ye (PJ) s=(size s<1000000->eS s):=by kernel_rfl
def zyi:=λs=>Eq.trans (zpt s) (by delta Ji Jb Jt Jf X0 QZ E3 E0 eZ eY eX eW eS;exact rfl)
section
variable (b:O6) (a e:Nat×O6)
 abbrev X1:=a.1<=size b+1/\size a.2<=a.1/\xV b (size b+1- a.1) a.1 a.2=ZC b
 abbrev X2:=Jb ((↑a.1:Int)+1)
 def E5:=(↑a.1:Int)=(↑e.1:Int)+1/\(X1 b a)/\size b+1- a.1<size b+1- e.1/\True
 def fg:=X2 a/\(0<=(↑a.1:Int)/\(↑a.1:Int)<=(↑a.1:Int)+1/\(↑a.1:Int)+1<=(↑(size b):Int))/\size a.2+size (ByteArray.extract b (toNat (↑a.1:Int)) (toNat ((↑a.1:Int)+1)))<=9223372036854775807/\X2 a/\∃(c:Nat×O6),b=b/\c.2=a.2++ByteArray.extract b (toNat (↑a.1:Int)) (toNat ((↑a.1:Int)+1))/\E5 b c a
 def fh:=X2 a/\∃(c:Nat×O6),b=b/\c.2=mkS []/\E5 b c a
 def E4:=a.2=a.2/\size a.2<1000000/\((!vC a.2)=true->ZC b=false/\True)/\((!vC a.2)=false->fh b a)
 def ff:=(0<=(↑a.1:Int)/\(↑a.1:Int)<(↑(size b):Int))/\((!decide ((↑(bat b (toNat (↑a.1:Int))):Int)=46))=true->fg b a)/\((!decide ((↑(bat b (toNat (↑a.1:Int))):Int)=46))=false->E4 b a)
 def fc:=Ji ((↑a.1:Int)<(↑(size b):Int)) (ff b a) (E4 b a)
 def fa:=Ji ((↑a.1:Int)<=(↑(size b):Int)) (fc b a) (ZC b=true/\True)
 def e_:=(∃(c:Nat×O6),b=b/\c.2=mkS []/\(↑c.1:Int)=0/\(X1 b c)/\True)/\∀(d:Nat×O6),X1 b d->fa b d
end
def zjd(s:O6):qix P (qef [(124,Ye)]) Tryz.f123 HQ (zvx) s=(size s<100000->e_ s):=by kernel_rfl
def parts_eq:=λs=>Eq.trans (zjd s) (by delta Ji Jb Jt Jf X1 X2 E5 fg fh E4 ff fc fa e_;exact rfl)
section
variable (a:O6) (b:Nat)
 abbrev X3:=b<=size a/\kx a b=kx a (size a)
 abbrev X4:=0<=(↑b:Int)- 1
 def fp:=(X4 b/\(↑b:Int)- 1<=(↑(size a):Int))/\kx a (size a)=ByteArray.extract a 0 (toNat ((↑b:Int)- 1))/\True
 def fo:=Jb ((↑b:Int)- 1- 1)/\∃(c:Nat),a=a/\(↑c:Int)- 1=(↑b:Int)- 1- 1/\(X3 a c)/\c<b/\True
 def fk:=(X4 b/\(↑b:Int)- 1<(↑(size a):Int))/\Ji ((↑(bat a (toNat ((↑b:Int)- 1))):Int)=46) (fp a b) (fo a b)
 def fj:=Ji (X4 b) (fk a b) (kx a (size a)=mkS []/\True)
 def fi:=Jb ((↑(size a):Int)- 1)/\(∃(c:Nat),a=a/\(↑c:Int)- 1=(↑(size a):Int)- 1/\(X3 a c)/\True)/\∀(d:Nat),X3 a d->fj a d
end
def zev(s:O6):qix P (λ_=>none) Tryz.f102 Hn (zkl) s=(size s<1000000->fi s):=by kernel_rfl
def zh8:=λs=>Eq.trans (zev s) (by delta Ji Jb Jt Jf X3 X4 fp fo fk fj fi;exact rfl)
section
variable (a c:O6) (d:List AT) (e:Int) (b:Nat×O6) (i:Prop) (h:Nat×O6)
 abbrev E8:=b.1<=size a/\(if ZX a (size a- b.1) b.1=true then a else b.2)=vA a c
 def E6:=length d=length d/\e=e/\qa AT.cells d=qa AT.cells d/\(E8 a c b)/\i
 abbrev OU:=Jb ((↑b.1:Int)+1)
 def OV:=a=a/\(↑b.1:Int)=(↑h.1:Int)+1/\E6 c a d e b (size c- b.1<size c- h.1/\True)
 def jmp:=OU b/\∃(f:Nat×O6),a=a/\f.2=a/\OV c a d e f b
 def fy:=OU b/\∃(f:Nat×O6),a=a/\f.2=b.2/\OV c a d e f b
 def fw:=(0<=(↑b.1:Int)/\(↑b.1:Int)<(↑(size a):Int))/\Ji ((↑(bat a (toNat (↑b.1:Int))):Int)=46) (jmp a c d e b) (fy a c d e b)
 def E7:=∃(f:List AT),(6:Int)=6/\length f=length d/\e=e/\qa AT.cells f=qa AT.cells d/\True/\vA a c=b.2/\length d=length f/\yj a c e=qt e 6/\qa AT.cells d=qa AT.cells f/\True
 def fA:=b.2=b.2/\size b.2<100000/\((!ZC b.2)=true->E7 a c d e b)/\((!ZC b.2)=false->vA a c=b.2/\length d=length d/\yj a c e=e/\qa AT.cells d=qa AT.cells d/\True)
 def fx:=Ji (a=mkS []) (E7 a c d e b) (fA a c d e b)
 def fu:=Ji ((↑b.1:Int)<(↑(size a):Int)) (fw a c d e b) (fx a c d e b)
 def fq:=a=a/\c=c/\(size a<1000000/\size c<1000000)/\(∃(f:Nat×O6),c=c/\f.2=vB a c/\a=a/\(↑f.1:Int)=0/\E6 c a d e f True)/\∀(g:Nat×O6),E8 c a g->fu c a d e g
end
def zg4(S:List AT) (e:Int) (a b:O6):qix P (qef [(98,H9),(123,HQ),(63,wT)]) Tryz.f101 Hv (zw4) ⟨S,e,a,b⟩=(size a<10000/\size b<50000->fq b a S e):=by kernel_rfl
def zl2:=λS e a b=>Eq.trans (zg4 S e a b) (by delta Ji Jb Jt Jf E8 E6 OU OV jmp fy fw E7 fA fx fu fq;exact rfl)
section
variable (b:O6) (a:GJ) (c:Nat) (p:Prop)
 abbrev E':=c<=length (GJ.nm a)/\(if GJ.k a=6 then jn b (drop c (GJ.nm a)) (drop c (GJ.l a))else none)=qp b a
 def E9:=GJ.k a=GJ.k a/\GJ.n a=GJ.n a/\GJ.s a=GJ.s a/\(GJ.y a).1=(GJ.y a).1/\(GJ.y a).2.1=(GJ.y a).2.1/\(GJ.y a).2.2=(GJ.y a).2.2/\(GJ.x a).1=(GJ.x a).1/\(GJ.x a).2.1=(GJ.x a).2.1/\(GJ.x a).2.2=(GJ.x a).2.2/\(∀d,True/\GJ.ok a d->True/\GJ.ok a d)/\(E' b a c)/\p
 abbrev OW:=(↑c:Int)<(↑(GJ.x a).2.1:Int)
 abbrev OX:=(↑c:Int)<(↑(GJ.y a).2.1:Int)
 abbrev J9:=GJ.y (Option.getD (qp b a) zJ)
 abbrev J':=GJ.x (Option.getD (qp b a) zJ)
 def fG:=(0<=(↑c:Int)/\OX a c)/\(GJ.y a).1≠noA/\∃(d:Int),∃(e:Int),∃f,∃g,∃(h:Nat),∃(i:Nat),∃j,∃(m:Nat),∃(i8:Nat),(∀o,True/\GJ.ok a o->q2u o (adr (GJ.y a).1 (toNat (↑c:Int)*5)) [int i64 d,int i64 e,string f,slice g h i,slice j m i8])/\GJ.k (Option.getD (qp b a) zJ)=d/\GJ.n (Option.getD (qp b a) zJ)=e/\GJ.s (Option.getD (qp b a) zJ)=f/\(J9 b a).1=g/\(J9 b a).2.1=h/\(J9 b a).2.2=i/\(J' b a).1=j/\(J' b a).2.1=m/\(J' b a).2.2=i8/\Option.isSome (qp b a)=true/\True
 def fH:=Jb ((↑c:Int)+1)/\∃(d:Nat),b=b/\(↑d:Int)=(↑c:Int)+1/\E9 b a d (length (GJ.nm a)- d<length (GJ.nm a)- c/\True)
 def fF:=(0<=(↑c:Int)/\OW a c)/\(GJ.x a).1≠noA/\∃d,(∀e,True/\GJ.ok a e->q2u e (adr (GJ.x a).1 (toNat (↑c:Int)*1)) [string d])/\Ji (d=b) (fG b a c) (fH b a c)
 def X5:=GJ.k (Option.getD (qp b a) zJ)=0/\GJ.n (Option.getD (qp b a) zJ)=0/\GJ.s (Option.getD (qp b a) zJ)=mkS []/\(J9 b a).1=noA/\(J9 b a).2.1=0/\(J9 b a).2.2=0/\(J' b a).1=noA/\(J' b a).2.1=0/\(J' b a).2.2=0/\Option.isSome (qp b a)=false/\True
 abbrev fE:=Ji (OX a c) (fF b a c) (X5 b a)
 abbrev fD:=Ji (OW a c) (fE b a c) (X5 b a)
 def fC:=Ji (GJ.k a=6) (fD b a c) (X5 b a)
 def fB:=(∃(d:Nat),b=b/\(↑d:Int)=0/\E9 b a d True)/\∀(f:Nat),E' b a f->fC b a f
end
def zp0(g:GJ) (s:O6):qix P (λ_=>none) Tryz.f66 xC (PD) ⟨g,s⟩=(GJ.wf g->(∃(p:Pub),True/\GJ.ok g p)->fB s g):=by kernel_rfl
def zxf:=λg s=>Eq.trans (zp0 g s) (by delta Ji Jb Jt Jf E' E9 OW OX J9 J' fG fH fF X5 fE fD fC fB;exact rfl)
section
variable (d:GJ×O6) (a:List AT) (b:Int) (e:GJ) (f:O6) (c:Bool)
 def fL:=(jH e f c b).1=mkS []/\length a=length a/\(jH e f c b).2=b/\qa AT.cells a=qa AT.cells a/\True
 def Aa:=∃(g:List AT),(2:Int)=2/\length g=length a/\b=b/\qa AT.cells g=qa AT.cells a/\True/\(jH e f c b).1=mkS []/\length a=length g/\(jH e f c b).2=qt b 2/\qa AT.cells a=qa AT.cells g/\True
 def fK:=(jH e f c b).1=GJ.s (Option.getD (qp d.2 d.1) zJ)/\length a=length a/\(jH e f c b).2=b/\qa AT.cells a=qa AT.cells a/\True
 def fI:=((!decide (GJ.k (Option.getD (qp d.2 d.1) zJ)=4))=true->Aa a b e f c)/\((!decide (GJ.k (Option.getD (qp d.2 d.1) zJ)=4))=false->fK d a b e f c)
 def E_:=((!Option.isSome (qp d.2 d.1))=true->Aa a b e f c)/\((!Option.isSome (qp d.2 d.1))=false->fI d a b e f c)
 def fJ:=((!c)=true->fL a b e f c)/\((!c)=false->E_ d a b e f c)
end
def zl5(S:List AT) (e:Int) (g:GJ) (s:O6) (b:Bool):qix P (qef [(66,xC),(63,wT)]) Tryz.f100 Ua (λ_=>{}) ⟨S,e,g,s,b⟩=(GJ.wf g->(∃(p:Pub),True/\GJ.ok g p)->∃(s_1:GJ×O6),GJ.k s_1.1=GJ.k g/\GJ.n s_1.1=GJ.n g/\GJ.s s_1.1=GJ.s g/\(GJ.y s_1.1).1=(GJ.y g).1/\(GJ.y s_1.1).2.1=(GJ.y g).2.1/\(GJ.y s_1.1).2.2=(GJ.y g).2.2/\(GJ.x s_1.1).1=(GJ.x g).1/\(GJ.x s_1.1).2.1=(GJ.x g).2.1/\(GJ.x s_1.1).2.2=(GJ.x g).2.2/\s_1.2=s/\GJ.wf s_1.1/\(∀(p:Pub),True/\GJ.ok g p->GJ.ok s_1.1 p)/\((!Option.isSome (qp s_1.2 s_1.1))=true->fJ s_1 S e g s b)/\((!Option.isSome (qp s_1.2 s_1.1))=false->E_ s_1 S e g s b)):=by kernel_rfl
def zqz:=λS e g s b=>Eq.trans (zl5 S e g s b) (by delta fL Aa fK fI E_ fJ;exact rfl)
section
variable (a:SV) (b:Int) (c:List Int) (d:Int) (g:Prop)
 abbrev Ab:=a.1=a.1/\a.2.1=a.2.1/\a.2.2=a.2.2/\g
 def fO:=qq c b d=0/\Ab a (qg c b=b/\True)
 def fN:=Jb (b+1)/\Jb (b+1- 1)/\(0<=b+1- 1/\b+1- 1<(↑a.2.1:Int))/\a.1≠noA/\∃(e:Int),(∀f,True/\qb qm a c f->q2u f (adr a.1 (toNat (b+1- 1)*1)) [int u8 e])/\Jb (e)/\d≠0/\qq c b d=Int.tmod e d/\Ab a (qg c b=b+1/\True)
 def fM:=Ji ((↑a.2.1:Int)<=b) (fO a b c d) (fN a b c d)
end
def zyf(x:SV) (L:List Int) (n m:Int):qix P (λ_=>none) Tryz.f23 QU (λ_=>{}) ⟨x,L,n,m⟩=(0<=n/\n<=(↑(length L):Int)/\0<m/\m<1000000/\zX L->(∃(p:Pub),True/\qb qm x L p)->fM x n L m):=by kernel_rfl
def j86:=λx L n m=>Eq.trans (zyf x L n m) (by delta Ji Jb Jt Jf Ab fO fN fM;exact rfl)
def zyh(x:SV) (L:List Int) (n:Int):qix P (λ_=>none) Tryz.f22 Uh (λ_=>{}) ⟨x,L,n⟩=(True->(∃(p:Nat->Option Obj),True/\qb qm x L p)->decide ((↑(List.length L):Int)<=n)=decide ((↑(Prod.fst (Prod.snd x)):Int)<=n)/\Prod.fst x=Prod.fst x/\Prod.fst (Prod.snd x)=Prod.fst (Prod.snd x)/\Prod.snd (Prod.snd x)=Prod.snd (Prod.snd x)/\n=n/\True):=by kernel_rfl
def zzb(s:O6):qix P (λ_=>none) Tryz.f72 Yf (λ_=>{}) s=(True->s=s/\True):=by kernel_rfl
def zjy(u:Unit):qix P (λ_=>none) Tryz.f71 V8 (λ_=>{}) N3.two=(True->True):=by kernel_rfl
def zjz(u:Unit):qix P (λ_=>none) Tryz.f71 V8 (λ_=>{}) N3.three=(True->True):=by kernel_rfl
def zk0(u:Unit):qix P (λ_=>none) Tryz.f71 V8 (λ_=>{}) N3.four=(True->True):=by kernel_rfl
section
variable (b:O6) (a:GJ) (c:Nat) (p:Prop)
 abbrev Ad:=c<=length (GJ.nm a)/\jn b (drop c (GJ.nm a)) (drop c (GJ.l a))=jn b (GJ.nm a) (GJ.l a)
 def Ac:=GJ.k a=GJ.k a/\GJ.n a=GJ.n a/\GJ.s a=GJ.s a/\(GJ.y a).1=(GJ.y a).1/\(GJ.y a).2.1=(GJ.y a).2.1/\(GJ.y a).2.2=(GJ.y a).2.2/\(GJ.x a).1=(GJ.x a).1/\(GJ.x a).2.1=(GJ.x a).2.1/\(GJ.x a).2.2=(GJ.x a).2.2/\(∀d,True/\GJ.ok a d->True/\GJ.ok a d)/\(Ad b a c)/\p
 abbrev Ae:=(↑c:Int)<(↑(GJ.x a).2.1:Int)
 abbrev ky:=Option.getD (jn b (GJ.nm a) (GJ.l a)) zJ
 def fS:=(0<=(↑c:Int)/\(↑c:Int)<(↑(GJ.y a).2.1:Int))/\(GJ.y a).1≠noA/\∃(d:Int),∃(e:Int),∃f,∃g,∃(h:Nat),∃(i:Nat),∃j,∃(m:Nat),∃(i8:Nat),(∀o,True/\GJ.ok a o->q2u o (adr (GJ.y a).1 (toNat (↑c:Int)*5)) [int i64 d,int i64 e,string f,slice g h i,slice j m i8])/\GJ.k (ky b a)=d/\GJ.n (ky b a)=e/\GJ.s (ky b a)=f/\(GJ.y (ky b a)).1=g/\(GJ.y (ky b a)).2.1=h/\(GJ.y (ky b a)).2.2=i/\(GJ.x (ky b a)).1=j/\(GJ.x (ky b a)).2.1=m/\(GJ.x (ky b a)).2.2=i8/\Option.isSome (jn b (GJ.nm a) (GJ.l a))=true/\True
 def fT:=Jb ((↑c:Int)+1)/\∃(d:Nat),b=b/\(↑d:Int)=(↑c:Int)+1/\Ac b a d (length (GJ.nm a)- d<length (GJ.nm a)- c/\True)
 def fR:=(0<=(↑c:Int)/\Ae a c)/\(GJ.x a).1≠noA/\∃d,(∀e,True/\GJ.ok a e->q2u e (adr (GJ.x a).1 (toNat (↑c:Int)*1)) [string d])/\Ji (d=b) (fS b a c) (fT b a c)
 def fU:=GJ.k (ky b a)=0/\GJ.n (ky b a)=0/\GJ.s (ky b a)=mkS []/\(GJ.y (ky b a)).1=noA/\(GJ.y (ky b a)).2.1=0/\(GJ.y (ky b a)).2.2=0/\(GJ.x (ky b a)).1=noA/\(GJ.x (ky b a)).2.1=0/\(GJ.x (ky b a)).2.2=0/\Option.isSome (jn b (GJ.nm a) (GJ.l a))=false/\True
 abbrev fQ:=Ji (Ae a c) (fR b a c) (fU b a)
 def fP:=(∃(d:Nat),b=b/\(↑d:Int)=0/\Ac b a d True)/\∀(f:Nat),Ad b a f->fQ b a f
end
def zxg(g:GJ) (s:O6):qix P (λ_=>none) Tryz.f107 XB (dG) ⟨g,s⟩=(GJ.wf g->(∃(p:Pub),True/\GJ.ok g p)->fP s g):=by kernel_rfl
def get_eq:=λg s=>Eq.trans (zxg g s) (by delta Ji Jb Jt Jf Ad Ac Ae ky fS fT fR fU fQ fP;exact rfl)
section
variable (a:GJ) (d:SV) (b:Int) (c:List Int) (i:Prop) (j:Int) (g:GJ×O6) (p:List Int)
 abbrev O2:=GJ.s a=mkS [105,110,116]
 def xW:=d.1=d.1/\d.2.1=d.2.1/\d.2.2=d.2.2/\i
 def Q0:=xW d (b=b/\GJ.k a=GJ.k a/\GJ.n a=GJ.n a/\GJ.s a=GJ.s a/\(GJ.y a).1=(GJ.y a).1/\(GJ.y a).2.1=(GJ.y a).2.1/\(GJ.y a).2.2=(GJ.y a).2.2/\(GJ.x a).1=(GJ.x a).1/\(GJ.x a).2.1=(GJ.x a).2.1/\(GJ.x a).2.2=(GJ.x a).2.2/\(∀e,True/\qb qm d c e/\GJ.ok a e->True/\qb qm d c e/\GJ.ok a e)/\i)
 abbrev O1:=GJ.s a=mkS [108,111,110,103]
 abbrev OZ:=GJ.s a=mkS [102,108,111,97,116]
 def PS:=Ji (OZ a) (∃(e:Unit),GJ.s a=GJ.s a/\isNum (GJ.s a)=decide (OZ a)/\Q0 a d b c (True/\True)) (∃(h:Unit),GJ.s a=GJ.s a/\isNum (GJ.s a)=decide (GJ.s a=mkS [100,111,117,98,108,101])/\Q0 a d b c (True/\True))
 def PP:=Ji (O1 a) (∃(e:Unit),GJ.s a=GJ.s a/\isNum (GJ.s a)=decide (O1 a)/\Q0 a d b c (True/\True)) (PS a d b c)
 def Lr:=b=b/\(0<=b/\b<=(↑(length c):Int)/\0<j/\j<1000000/\zX c)/\(∀e,True/\qb qm d p e/\GJ.ok a e->qb qm (d.1,d.2.1,d.2.2) c e)/\i
 abbrev uL:=(zK a c b).2.2
 abbrev OY:=GJ.s a=mkS [115,116,114,105,110,103]
 abbrev PW:=GJ.s a=mkS [98,111,111,108,101,97,110]
 def Y5:=(zK a c b).1=j/\(zK a c b).2.1=0/\(uL a b c).1=mkS []/\xW d ((uL a b c).2=b/\True)
 def Ls:=GJ.k a=4/\(isNum (GJ.s a)=true\/wX (GJ.s a)=true\/J5 (GJ.s a)=true\/Yh (GJ.s a)=true)
 def PT:=Ji (GJ.s a=mkS [110,117,108,108]) (Y5 a d b c 1) (∃(e:Unit),Q0 a d b c (¬(Ls a)/\True))
 def ga:=Ji (PW a) (∃(e:List Int),(2:Int)=2/\xW d (Lr a d b e ((zK a c b).1=2/\(zK a c b).2.1=qq e b 2/\(uL a b c).1=mkS []/\xW d ((uL a b c).2=qg e b/\True)) 2 c)) (PT a d b c)
 def fZ:=(wX (GJ.s a)=true->∃(e:List Int),(3:Int)=3/\xW d (Lr a d b e ((0<=qq e b 3/\qq e b (3:Int)<(↑(nat_lit 3):Int))/\∃f,qfi [string (mkS []),string (mkS [100]),string (mkS [195,164])] (nat_lit 0+toNat (qq e b 3)*1) [string f]/\f=f/\True/\(zK a c b).1=4/\(zK a c b).2.1=0/\(uL a b c).1=f/\xW d ((uL a b c).2=qg e b/\True)) 3 c))/\(wX (GJ.s a)=false->ga a d b c)
 def fY:=(Ji (OY a) (∃(e:Unit),GJ.s a=GJ.s a/\wX (GJ.s a)=decide (OY a)/\Q0 a d b c (True/\True)) (∃(f:Unit),GJ.s a=GJ.s a/\wX (GJ.s a)=decide (GJ.s a=mkS [98,121,116,101,115])/\Q0 a d b c (True/\True)))/\∀(q:Unit),True->fZ a d b c
 def fX:=(isNum (GJ.s a)=true->∃(e:List Int),(200:Int)=200/\xW d (Lr a d b e (Jb (qq e b 200- 50)/\(zK a c b).1=3/\(zK a c b).2.1=qq e b 200- 50/\(uL a b c).1=mkS []/\xW d ((uL a b c).2=qg e b/\True)) 200 c))/\(isNum (GJ.s a)=false->fY a d b c)
 def fW:=(Ji (O2 a) (∃(e:Unit),GJ.s a=GJ.s a/\isNum (GJ.s a)=decide (O2 a)/\Q0 a d b c (True/\True)) (PP a d b c))/\∀(i8:Unit),True->fX a d b c
 abbrev O0:=Option.getD (jn g.2 (GJ.nm g.1) (GJ.l g.1)) zJ
 abbrev PX:=GJ.s (O0 g)=mkS [97,114,114,97,121]
 def PU:=mkS [88]=mkS [88]/\True/\(zK a c b).1=4/\(zK a c b).2.1=0/\(uL a b c).1=mkS [88]/\xW d ((uL a b c).2=b/\True)
 def PQ:=Ji (GJ.s (O0 g)=mkS [101,110,117,109]) (PU a d b c) (Y5 a d b c 6)
 def f_:=Ji (GJ.k a=5) (Y5 a d b c 1) (∃(e:GJ×O6),GJ.k e.1=GJ.k a/\GJ.n e.1=GJ.n a/\GJ.s e.1=GJ.s a/\(GJ.y e.1).1=(GJ.y a).1/\(GJ.y e.1).2.1=(GJ.y a).2.1/\(GJ.y e.1).2.2=(GJ.y a).2.2/\(GJ.x e.1).1=(GJ.x a).1/\(GJ.x e.1).2.1=(GJ.x a).2.1/\(GJ.x e.1).2.2=(GJ.x a).2.2/\e.2=mkS [116,121,112,101]/\GJ.wf e.1/\(∀h,True/\qb qm d c h/\GJ.ok a h->GJ.ok e.1 h)/\Ji (PX e) (Y5 a d b c 5) (PQ a d b c e))
 def fV:=(Ji (GJ.k a=4) (fW a d b c) (∃(m:Unit),Q0 a d b c (¬(Ls a)/\True)))/\∀(o:Unit),¬(Ls a)->f_ a d b c
end
def zo6(x:SV) (L:List Int) (n:Int) (g:GJ):qix P (qef [(23,QU),(72,Yf),(107,XB)]) Tryz.f73 He (zej) ⟨x,L,n,g⟩=(0<=n/\n<=(↑(length L):Int)/\zX L/\GJ.wf g->(∃(p:Pub),True/\qb qm x L p/\GJ.ok g p)->fV g x n L):=by kernel_rfl
def zx6:=λx L n g=>Eq.trans (zo6 x L n g) (by delta Ji Jb Jt Jf O2 xW Q0 O1 OZ PS PP Lr uL OY PW Y5 Ls PT ga fZ fY fX fW O0 PX PU PQ f_ fV;exact rfl)
def j7w(c:Nat):qO c<=4:=by
 unfold qO;repeat' split
 all_goals omega
def j7y(c:Nat):zZ c<128:=by
 unfold zZ;repeat' split
 all_goals omega
section
variable (a b c:Int)
 abbrev gu:=(↑(qO (toNat a)):Int)=1/\(↑(zZ (toNat a)):Int)=IntKind.wrap u32 a/\True
 abbrev X7:=shP BinOp.shr u8 a b=c
 def X6:=(↑(qO (toNat a)):Int)=b/\(↑(zZ (toNat a)):Int)=IntKind.wrap u32 (q9p BinOp.and u8 a c)/\True
 def gz:=(↑(qO (toNat a)):Int)=0/\(↑(zZ (toNat a)):Int)=0/\True
 def gq:=(0:Int)<=3/\Ji (X7 a 3 30) (X6 a 4 7) (gz a)
 def gp:=(0:Int)<=4/\Ji (X7 a 4 14) (X6 a 3 15) (gq a)
 def gg:=(0:Int)<=5/\Ji (X7 a 5 6) (X6 a 2 31) (gp a)
 def gf:=Ji (a<128) (gu a) (gg a)
end
def zp9(c:Int):qix P ((λ_=>none)) Tryz.f131 OG (λ_=>{}) c=(0<=c/\c<256->gf c):=by kernel_rfl
def zxr:=λc=>Eq.trans (zp9 c) (by delta Ji Jt Jf gu X7 X6 gz gq gp gg gf;exact rfl)
def jia:∀c<256,¬c<128->(decide (shP BinOp.shr IntKind.u8 (c:Nat) 5=6)=(decide (192<=c)&&decide (c<224)))/\(decide (shP BinOp.shr IntKind.u8 (c:Nat) 4=14)=(decide (224<=c)&&decide (c<240)))/\(decide (shP BinOp.shr IntKind.u8 (c:Nat) 3=30)=(decide (240<=c)&&decide (c<248))):=by decide+kernel
def jib:∀c<256,IntKind.wrap IntKind.u32 ((c:Nat):Int)=(c:Nat)/\(192<=c->c<224->IntKind.wrap IntKind.u32 (q9p BinOp.and IntKind.u8 (c:Nat) 31)=((c- 192:Nat):Int))/\(224<=c->c<240->IntKind.wrap IntKind.u32 (q9p BinOp.and IntKind.u8 (c:Nat) 15)=((c- 224:Nat):Int))/\(240<=c->c<248->IntKind.wrap IntKind.u32 (q9p BinOp.and IntKind.u8 (c:Nat) 7)=((c- 240:Nat):Int)):=by decide+kernel
def zxs:q4a P 131 OG:=by
 refine qw z7 (W:=λ_=>{}) Tryz.func131 λ(c:Int)=>(zxr c).mpr ?_;rintro⟨X,Y⟩;obtain⟨n,rfl⟩:=Int.eq_ofNat_of_zero_le X;have N:n<256:=by omega
 obtain⟨O,T,U,V⟩:=jib n N;simp only[Int.toNat_natCast,and_true,decide_eq_true_eq,decide_eq_false_iff_not];refine⟨λh=> ?_,λh=>⟨by omega,?_⟩⟩
 ·unfold qO zZ;rw[if_pos (by omega),if_pos (by omega),O];simp
 have A:¬n<128:=by omega
 obtain⟨G,H,J⟩:=jia n N A;have G:(shP BinOp.shr IntKind.u8 (n:Nat) 5=6)↔(192<=n/\n<224):=by rw[←decide_eq_true_iff (p:=shP BinOp.shr IntKind.u8 (n:Nat) 5=6),G];simp
 have H:(shP BinOp.shr IntKind.u8 (n:Nat) 4=14)↔(224<=n/\n<240):=by rw[←decide_eq_true_iff (p:=shP BinOp.shr IntKind.u8 (n:Nat) 4=14),H];simp
 have J:(shP BinOp.shr IntKind.u8 (n:Nat) 3=30)↔(240<=n/\n<248):=by rw[←decide_eq_true_iff (p:=shP BinOp.shr IntKind.u8 (n:Nat) 3=30),J];simp
 rw[G,H,J];refine⟨λg=> ?_,λg=>⟨by omega,λu=> ?_,λu=>⟨by omega,λC=> ?_,λC=> ?_⟩⟩⟩
 ·unfold qO zZ;rw[if_neg A,if_pos g,if_neg A,if_pos g,T g.1 g.2];simp
 ·unfold qO zZ;rw[if_neg A,if_neg g,if_pos u,if_neg A,if_neg g,if_pos u,U u.1 u.2];simp
 ·unfold qO zZ;rw[if_neg A,if_neg g,if_neg u,if_pos C,if_neg A,if_neg g,if_neg u,if_pos C,V C.1 C.2];simp
 ·unfold qO zZ;rw[if_neg A,if_neg g,if_neg u,if_neg C,if_neg A,if_neg g,if_neg u,if_neg C];simp
def j7t(c:Int):qix P ((λ_=>none)) Tryz.f132 RF (λ_=>{}) c=((0:Int)<=c/\c<(4294967296:Int)->(decide (c<=(1114111:Int))=true->(0:Int)<=(11:Int)/\yG (Int.toNat c)= !decide (shP BinOp.shr IntKind.u32 c (11:Int)=(27:Int))/\True)/\(decide (c<=(1114111:Int))=false->yG (Int.toNat c)=false/\True)):=by kernel_rfl
def ji6:q4a P 132 RF:=by
 refine qw z7 (W:=λ_=>{}) Tryz.func132 λ(c:Int)=>(j7t c).mpr ?_;rintro⟨u,A⟩;obtain⟨n,rfl⟩:=Int.eq_ofNat_of_zero_le u;simp only[Int.toNat_natCast,and_true,decide_eq_true_eq,decide_eq_false_iff_not,yG];refine⟨λh=>⟨by omega,?_⟩,λh=> ?_⟩
 ·have:shP BinOp.shr IntKind.u32 (n:Nat) 11=((n / 2048:Nat):Int):=by show(n:Int).fdiv (2 ^ 11)=_;rw[Int.fdiv_eq_ediv_of_nonneg _ (by decide)];omega
  rw[this];by_cases g:55296<=n/\n<=57343
  ·have e:n / 2048=27:=(by omega);rw[e];simp;omega
  ·have e:n / 2048≠27:=(by omega);have e2:¬((n / 2048:Nat):Int)=27:=(by omega);rw[decide_eq_false e2];simp;omega
 ·rw[decide_eq_false (by omega)];rfl
def zfk(c:Int):qix P ((λ_=>none)) Tryz.f133 IS (λ_=>{}) c=((0:Int)<=c/\c<(4294967296:Int)->(decide (c<(128:Int))=true->(↑(vO (toNat c)):Int)=(1:Int)/\True)/\(decide (c<(128:Int))=false->(decide (c<(2048:Int))=true->(↑(vO (toNat c)):Int)=(2:Int)/\True)/\(decide (c<(2048:Int))=false->(decide (c<(65536:Int))=true->(↑(vO (toNat c)):Int)=(3:Int)/\True)/\(decide (c<(65536:Int))=false->(↑(vO (toNat c)):Int)=(4:Int)/\True)))):=by kernel_rfl
def ziw:q4a P 133 IS:=by
 refine qw z7 (W:=λ_=>{}) Tryz.func133 λ(c:Int)=>(zfk c).mpr ?_;rintro⟨u,A⟩;simp only[and_true,decide_eq_true_eq,decide_eq_false_iff_not,vO];refine⟨λh=> ?_,λh=>⟨λg=> ?_,λg=>⟨λk=> ?_,λk=> ?_⟩⟩⟩
 ·rw[if_pos (by omega)];rfl
 ·rw[if_neg (by omega),if_pos (by omega)];rfl
 ·rw[if_neg (by omega),if_neg (by omega),if_pos (by omega)];rfl
 ·rw[if_neg (by omega),if_neg (by omega),if_neg (by omega)];rfl
def ct1:∀c<256,decide (shP BinOp.shr IntKind.u8 (c:Nat) 6=2)=x8 c:=by decide+kernel
def ct2:∀c<256,x8 c=true->IntKind.wrap IntKind.u32 (q9p BinOp.and IntKind.u8 (c:Nat) 63)=((c- 128:Nat):Int)/\c- 128<64:=by decide+kernel
def H4(s:O6):∀(i r:Nat),zm s i=some r->i<=4->r<128*64 ^ (i- 1)
  |0,r,h,_=>by simp[zm]at h;subst h;decide
  | 1,r,h,_=>by simp[zm]at h;have:=j7y (bat s 0);rw[h]at this;simpa using this
  | i + 2,r,h,hi=>by
    simp only[zm]at h;split at h
    · rename_i q hq;have A:=H4 s (i+1) q hq (by omega);split at h
      · rename_i u;cases h;have:=xz s (i+1);simp[x8]at u;have e:i+1- 1=i:=(by omega);have e2:i+2- 1=i+1:=(by omega);rw[e]at A;rw[e2,Nat.pow_succ];omega
      · cases h
    · cases h
def jxk(r d:Nat) (hr:r<67108864) (hd:d<64):q9p BinOp.or IntKind.u32 (shP BinOp.shl IntKind.u32 (r:Int) 6) (d:Int)=((r*64+d:Nat):Int):=by
 have e:shP BinOp.shl IntKind.u32 (r:Int) 6=((r*64:Nat):Int):=by show IntKind.u32.wrap ((r:Int)*2 ^ 6)=_;unfold IntKind.wrap;simp[IntKind.bits,IntKind.signed];omega
 rw[e];have u:=u32_or_nat (r*64) d (by omega) (by omega);have A:q9p BinOp.or IntKind.u32 ((r*64:Nat):Int) (d:Int)=bits .or .u32 ((r*64:Nat):Int) (d:Int):=rfl;rw[A,u];congr 1;have h:=Nat.two_pow_add_eq_or_of_lt (i:=6) (b:=d) hd r;rw[show 2 ^ 6*r=r*64 by omega]at h;exact h.symm
def zeh(s:O6) (i j:Nat) (u:i<=j) (C:1<=i) (h:zm s i=none):zm s j=none:=by
  induction j with
  |zero=>omega
  | succ j A=>
    by_cases e:i=j+1
    · subst e;exact h
    · have:=A (by omega);cases j with
      |zero=>omega
      |succ j=>simp only[zm];rw[this]
section
variable (a:O6) (b:Int×Int)
 abbrev uW:=(↑(qO (toNat (↑(bat a 0):Int))):Int)
 def Vh:=(↑(qF a):Int)=0/\True
 abbrev Lu:=(↑(zZ (toNat (↑(bat a 0):Int))):Int)
 def O3:= !decide (shP BinOp.shr u8 (↑(bat a (toNat b.2)):Int) (6:Int)=2)
 abbrev Lt:=IntKind.wrap u32 (q9p BinOp.and u8 (↑(bat a (toNat b.2)):Int) 63)
 def gE:=(0:Int)<=6/\(0<=b.2/\b.2<(↑(size a):Int))/\Jb (b.2+1)/\a=a/\(uW a)=(uW a)/\b.2+1=b.2+1/\q9p BinOp.or u32 (shP BinOp.shl u32 b.1 6) (Lt a b)=q9p BinOp.or u32 (shP BinOp.shl u32 b.1 6) (Lt a b)/\(1<=b.2+1/\(b.2+1<=(↑(qO (bat a 0)):Int)\/b.2+1=1)/\∃(d:Nat),q9p BinOp.or u32 (shP BinOp.shl u32 b.1 6) (Lt a b)=(↑d:Int)/\(qO (bat a 0)=0\/zm a (toNat (b.2+1))=some d))/\(5:Nat)- toNat (b.2+1)<5- toNat b.2/\True
 def gD:=(0<=b.2/\b.2<(↑(size a):Int))/\(0:Int)<=6/\((O3 a b)=true->Vh a)/\((O3 a b)=false->gE a b)
 def gH:=b.1=b.1/\(0<=b.1/\b.1<4294967296)/\((!decide ((↑(vO (toNat b.1)):Int)=(uW a)))=true->Vh a)/\((!decide ((↑(vO (toNat b.1)):Int)=(uW a)))=false->(↑(qF a):Int)=(uW a)/\True)
 def gG:=b.1=b.1/\(0<=b.1/\b.1<4294967296)/\((!yG (toNat b.1))=true->Vh a)/\((!yG (toNat b.1))=false->gH a b)
 def gF:=Ji ((uW a)=0) (Vh a) (gG a b)
 def gC:=Ji (b.2<(uW a)) (gD a b) (gF a b)
 def gB:=(a=a/\(uW a)=(uW a)/\(1:Int)=1/\(Lu a)=(Lu a)/\((1:Int)<=1/\(1<=(↑(qO (bat a 0)):Int)\/(1:Int)=1)/\∃(d:Nat),(Lu a)=(↑d:Int)/\(qO (bat a 0)=0\/zm a (1:Nat)=some d))/\True)/\∀(c:Int×Int),(1<=c.2/\(c.2<=(↑(qO (bat a 0)):Int)\/c.2=1)/\∃(e:Nat),c.1=(↑e:Int)/\(qO (bat a 0)=0\/zm a (toNat c.2)=some e))->gC a c
 def gA:=((0:Int)<=0/\0<(↑(size a):Int))/\(↑(bat a 0):Int)=(↑(bat a 0):Int)/\(0<=(↑(bat a 0):Int)/\(↑(bat a 0):Int)<256)/\Ji ((↑(size a):Int)<(uW a)) (Vh a) (gB a)
end
def zid(s:O6):qix P (zvn) Tryz.f117 HO (zvv) s=(0<size s/\size s<9223372036854775808->gA s):=by kernel_rfl
def front_eq:=λs=>Eq.trans (zid s) (by delta Ji Jb Jt Jf uW Vh Lu O3 Lt gE gD gH gG gF gC gB gA;exact rfl)
def zjx:∀g C,zvn g=some C->q4a P g C:=qbu (qfr zxs (qfr ji6 (qfr ziw qil)))
def zoz:q4a P 117 HO:=by
 refine qw zjx (W:=zvv) Tryz.func117 λ(s:O6)=>(front_eq s).mpr ?_;rintro⟨h1,h2⟩;have b0:=xz s 0;simp only[Int.toNat_natCast,Int.toNat_zero,and_true,true_and,decide_eq_true_eq,decide_eq_false_iff_not,Bool.not_eq_true',Bool.not_eq_false'];obtain⟨n,O⟩:∃n,n=qO (bat s 0):=⟨_,rfl⟩;have J:=j7w (bat s 0);have u:qF s=if s.size<n then 0 else match zm s n with
  |none=>0
  |some r=>if n=0\/yG r=false\/vO r≠n then 0 else n:=by rw[O];rfl
 rw[←O]at J⊢;refine⟨by omega,by omega,λg=> ?_,λg=>⟨⟨by omega, .inr trivial,zZ (bat s 0),rfl, .inr rfl⟩,?_⟩⟩
 ·rw[u,if_pos (by omega)];rfl
 rintro⟨r,i⟩ ⟨i1,i2,q,hq,A⟩;simp only at i1 i2 hq A⊢;obtain⟨m,rfl⟩:=Int.eq_ofNat_of_zero_le (show 0<=i by omega);have em:((m:Int)+1).toNat=m+1:=by omega
 simp only[Int.toNat_natCast,em]at A⊢;subst hq;simp only[Int.toNat_natCast]at A⊢;rw[if_neg (by omega)]at u;refine⟨λk=>⟨by omega,by omega,?_⟩,λk=>⟨λk2=> ?_,λk2=> ?_⟩⟩
 ·have N:=xz s m;have U:shP BinOp.shr IntKind.u8 ((bat s m:Nat):Int) 6=2↔x8 (bat s m)=true:=by rw[←ct1 (bat s m) N,decide_eq_true_iff]
  rw[U];have A:zm s m=some q:=by
   rcases A with h|h
   ·omega
   ·exact h
  have G:=H4 s m q A (by omega);have H:q<67108864:=by have:m<=3:=(by omega);rcases m with _|_|_|_|m<;>simp at G<;>omega
  obtain⟨m',rfl⟩:∃m',m=m'+1:=⟨m- 1,by omega⟩;refine⟨λC=> ?_,λC=>⟨by omega,by omega,by omega,⟨by omega,by omega,?_⟩,by omega⟩⟩
  ·have:zm s (m'+2)=none:=(by simp only[zm];rw[A];simp[C]);rw[u,zeh s (m'+2) n (by omega) (by omega) this];rfl
  ·obtain⟨V,X⟩:=ct2 (bat s (m'+1)) N C;rw[V];refine⟨_,jxk q _ H X, .inr ?_⟩;simp only[zm];rw[A];simp[C]
 ·have Y:n=0:=by omega
  rw[u,Y];simp[zm]
 ·have Z:n≠0:=by omega
  have hm:m=n:=by omega
  have A:zm s n=some q:=by
   rcases A with h|h
   ·omega
   ·rw[←hm];exact h
  have G:=H4 s n q A (by omega);have T:q<4294967296:=by rcases n with _|_|_|_|_|n<;>simp at G<;>omega
  rw[A]at u;simp only at u;refine⟨by omega,λC=> ?_,λC=>⟨by omega,λk4=> ?_,λk4=> ?_⟩⟩
  ·rw[u,if_pos (.inr (.inl C))];rfl
  ·rw[u,if_pos (.inr (.inr (by omega)))];rfl
  ·rw[u,if_neg];rw[C];simp;omega
def Ot(s:O6):qF s<=s.size:=by
 unfold qF;split
 ·omega
 ·split
  ·omega
  ·split<;>omega
def z9y:∀(f g:Nat) (s:O6),s.size<=f->s.size<=g->uV f s=uV g s
  |0,0,s,_,_=>rfl
  |0,g+1,s,h,_=>by rw[uV,uV,if_pos (by omega)]
  |f+1,0,s,_,h=>by rw[uV,uV,if_pos (by omega)]
  | f +1,g+1,s,u,A=>by
    rw[uV,uV];split
    · rfl
    · split
      · rfl
      · exact z9y f g _ (by simp;omega) (by simp;omega)
def Hj(s:O6) (h:0<s.size):qz s=if qF s=0 then false else qz (s.extract (qF s) s.size):=by
 unfold qz;obtain⟨f,u⟩:∃f,s.size=f+1:=⟨s.size- 1,by omega⟩;rw[u,uV,if_neg (by omega)];split
 ·rfl
 ·rw[u];refine z9y _ _ _ ?_ (Nat.le_refl _);simp;omega
def zkk(s:O6) (h:s.size=0):qz s=true:=by unfold qz;rw[h];rfl
def zqr(s:O6):qix P (j8v) Tryz.f90 wW (zw3) s=(size s<(9223372036854775808:Nat)->(s=s/\(size s<=size s/\qz s=qz s)/\True)/\∀(s_1:O6),size s_1<=size s/\qz s_1=qz s->(decide ((0:Int)<(↑(size s_1):Int))=true->s_1=s_1/\((0:Nat)<size s_1/\size s_1<(9223372036854775808:Nat))/\(decide ((↑(qF s_1):Int)=(0:Int))=true->qz s=false/\True)/\(decide ((↑(qF s_1):Int)=(0:Int))=false->((0:Int)<=(↑(qF s_1):Int)/\(↑(qF s_1):Int)<=(↑(size s_1):Int))/\ByteArray.extract s_1 (toNat (↑(qF s_1):Int)) (size s_1)=ByteArray.extract s_1 (toNat (↑(qF s_1):Int)) (size s_1)/\(size (ByteArray.extract s_1 (toNat (↑(qF s_1):Int)) (size s_1))<=size s/\qz (ByteArray.extract s_1 (toNat (↑(qF s_1):Int)) (size s_1))=qz s)/\size (ByteArray.extract s_1 (toNat (↑(qF s_1):Int)) (size s_1))<size s_1/\True))/\(decide ((0:Int)<(↑(size s_1):Int))=false->qz s=true/\True)):=by kernel_rfl
def zee:q4a P 90 wW:=by
 refine qw (qbu (qfr zoz qil)) (W:=zw3) Tryz.func90 λ(s:O6)=>(zqr s).mpr ?_;intro h;simp only[Int.toNat_natCast,and_true,true_and,decide_eq_true_eq,decide_eq_false_iff_not];refine⟨Nat.le_refl _,λt u=>⟨λg=>⟨by omega,λA=> ?_,λA=> ?_⟩,λg=> ?_⟩⟩
 ·rw[←u.2,Hj t (by omega),if_pos (by omega)]
 ·have:=Ot t;rw[←u.2,Hj t (by omega),if_neg (by omega)];refine⟨by omega,⟨?_,rfl⟩,?_⟩
  ·simp;omega
  ·simp;omega
 ·rw[←u.2];exact zkk t (by omega)
def J8(x:Int):IntKind.u8.wrap x=x % 256:=by unfold IntKind.wrap;simp[IntKind.bits,IntKind.signed]
def tn1(n:Nat):((n:Int)+1).toNat=n+1:=by omega
def wrap32(x:Int):IntKind.u32.wrap x=x % 4294967296:=by unfold IntKind.wrap;simp[IntKind.bits,IntKind.signed]
def zdp(b:Nat):(b<128/\qO b=1/\zZ b=b)\/(192<=b/\b<224/\qO b=2/\zZ b=b- 192)\/(224<=b/\b<240/\qO b=3/\zZ b=b- 224)\/(240<=b/\b<248/\qO b=4/\zZ b=b- 240)\/(((128<=b/\b<192)\/248<=b)/\qO b=0):=by
 unfold qO zZ;repeat' split
 all_goals omega
def j80(n q:Nat) (A:n=2\/n=3\/n=4) (hq:q<128*64 ^ (n- 1)) (h:n=2->q<2048) (u:n=3->q<65536):vO q=n↔Qg n<=q:=by
 unfold vO Qg;rcases A with rfl|rfl|rfl;all_goals (repeat' split)
 all_goals (first|omega| (have:=h rfl;omega)| (have:=u rfl;omega))
section
variable (a:O6) (b:Int×Int) (e g h:Int)
 abbrev xE:=(↑(jN a):Int)=0/\(↑(qF a):Int)=0/\True
 abbrev Uj:=IntKind.wrap u32 (↑(bat a 0):Int)<e
 def P3:=(↑(jN a):Int)=IntKind.wrap u32 (↑(bat a 0):Int)/\(↑(qF a):Int)=1/\True
 abbrev Lw:=e<=IntKind.wrap u32 (↑(bat a 0):Int)
 abbrev J_:=(↑(Qg (qO (bat a 0))):Int)
 abbrev w6:=(↑(qO (bat a 0)):Int)
 def X8:=a=a/\(J_ a)=e/\(w6 a)=g/\(↑(zZ (bat a 0)):Int)=IntKind.wrap u32 (IntKind.wrap u32 (↑(bat a 0):Int)- h)/\(0<size a/\2<=qO (bat a 0))/\True
 abbrev P4:=Ji (Uj a 248) (X8 a 65536 4 240) (xE a)
 abbrev Ag:=Ji (Lw a 240) (P4 a) (xE a)
 abbrev P5:=Ji (Uj a 240) (X8 a 2048 3 224) (Ag a)
 abbrev Af:=Ji (Lw a 224) (P5 a) (Ag a)
 abbrev P6:=Ji (Uj a 224) (X8 a 128 2 192) (Af a)
 abbrev P1:=Ji (Lw a 192) (P6 a) (Af a)
 def Lx:=(0<=b.2/\b.2<(↑(size a):Int))
 abbrev Lv:=IntKind.wrap u32 (b.1*64)+IntKind.wrap u32 (IntKind.wrap u8 ((↑(bat a (toNat b.2)):Int)- 128))
 def PY:=Lx a b/\Jb (b.2+1)/\a=a/\(J_ a)=(J_ a)/\(w6 a)=(w6 a)/\b.2+1=b.2+1/\IntKind.wrap u32 (Lv a b)=IntKind.wrap u32 (Lv a b)/\(1<=b.2+1/\b.2+1<=(w6 a)/\∃(c:Nat),IntKind.wrap u32 (Lv a b)=(↑c:Int)/\zm a (toNat (b.2+1))=some c)/\(5:Nat)- toNat (b.2+1)<5- toNat b.2/\True
 def gP:=Lx a b/\Ji (191<(↑(bat a (toNat b.2)):Int)) (xE a) (PY a b)
 def gO:=Lx a b/\Ji ((↑(bat a (toNat b.2)):Int)<128) (xE a) (gP a b)
 def O4:=(↑(jN a):Int)=b.1/\(↑(qF a):Int)=(w6 a)/\True
 def P7:=Ji (b.1<=57343) (xE a) (O4 a b)
 def P2:=Ji (55296<=b.1) (P7 a b) (O4 a b)
 def P0:=Ji (1114111<b.1) (xE a) (P2 a b)
 def PZ:=Ji (b.1<(J_ a)) (xE a) (P0 a b)
 def gN:=Ji (b.2<(w6 a)) (gO a b) (PZ a b)
 def gL:=(a=a/\(J_ a)=(J_ a)/\(w6 a)=(w6 a)/\(1:Int)=1/\(↑(zZ (bat a 0)):Int)=(↑(zZ (bat a 0)):Int)/\((1:Int)<=1/\1<=(w6 a)/\∃(c:Nat),(↑(zZ (bat a 0)):Int)=(↑c:Int)/\zm a (1:Nat)=some c)/\True)/\∀(d:Int×Int),(1<=d.2/\d.2<=(w6 a)/\∃(f:Nat),d.1=(↑f:Int)/\zm a (toNat d.2)=some f)->gN a d
 def gK:=Ji ((↑(size a):Int)<(w6 a)) (xE a) (gL a)
 def gJ:=((0:Int)<=0/\0<(↑(size a):Int))/\(Ji (Uj a 128) (P3 a) (P1 a))/\∀(c:Unit),0<size a/\2<=qO (bat a 0)->gK a
 def gI:=Ji ((↑(size a):Int)=0) (xE a) (gJ a)
end
def zjg(s:O6):qix P (λ_=>none) Tryz.f96 Zz (zvy) s=(size s<9223372036854775808->gI s):=by kernel_rfl
def zpx:=λs=>Eq.trans (zjg s) (by delta Ji Jb Jt Jf xE Uj P3 Lw J_ w6 X8 P4 Ag P5 Af P6 P1 Lx Lv PY gP gO O4 P7 P2 P0 PZ gN gL gK gJ gI;exact rfl)
def Pr(b:Nat):(qO b=2->zZ b<32)/\(qO b=3->zZ b<16):=by have:=zdp b;omega
def jit(s:O6) (q:Nat) (h:zm s 2=some q) (A:qO (bat s 0)=2):q<2048:=by
 have b:=(Pr (bat s 0)).1 A;simp only[zm]at h;split at h
 ·rename_i u;have C:=xz s 1;simp only[x8,Bool.and_eq_true,decide_eq_true_eq]at u;cases h;simp only[Nat.zero_add]at u⊢;omega
 ·cases h
def jiu(s:O6) (q:Nat) (h:zm s 3=some q) (C:qO (bat s 0)=3):q<65536:=by
 have b:=(Pr (bat s 0)).2 C;simp only[zm]at h;split at h
 ·rename_i r hr;split at hr
  ·cases hr;rename_i u;split at h
   ·rename_i A;have H:=xz s 1;have G:=xz s 2;simp only[x8,Bool.and_eq_true,decide_eq_true_eq]at A u;cases h;simp only[Nat.zero_add,show 1+1=2 from rfl]at A u⊢;omega
   ·cases h
  ·cases hr
 ·cases h
def zv9(q:Nat):yG q=true↔q<=1114111/\¬(55296<=q/\q<=57343):=by simp[yG];omega
def Pn(b:Nat):x8 b=true↔128<=b/\b<192:=by simp[x8]
def ze0:q4a P 96 Zz:=by
 refine qw z7 (W:=zvy) Tryz.func96 λ(s:O6)=>(zpx s).mpr ?_;intro h2;have b0:=xz s 0;obtain⟨n,hn⟩:∃n,n=qO (bat s 0):=⟨_,rfl⟩;have hc:=zdp (bat s 0);have H:qF s=0->jN s=0:=λh=>by unfold jN;rw[if_pos h]
 have u:qF s=if s.size<n then 0 else match zm s n with
  |none=>0
  |some r=>if n=0\/yG r=false\/vO r≠n then 0 else n:=by rw[hn];rfl
 rw[←hn]at hc;have X:s.size=0->qF s=0:=λh=>by have:=zwm (s:=s) (j:=0) (by omega);rw[u,if_pos (by omega)]
 have J:s.size≠0->bat s 0<128->jN s=bat s 0/\qF s=1:=λh Y=>by
  have e1:n=1:=by omega
  have ev:zZ (bat s 0)=bat s 0:=by omega
  have V:qF s=1:=by rw[u,if_neg (by omega),e1];simp only[zm];rw[ev,if_neg];have hi:=(zv9 (bat s 0)).mpr (by omega);have hl:vO (bat s 0)=1:=(by unfold vO;rw[if_pos Y]);rw[hi,hl];simp
  refine⟨?_,V⟩;unfold jN;rw[if_neg (by omega),V];simp only[zm,ev];rfl
 have N:n=0->qF s=0:=λh=>by rw[u,if_neg (by omega),h];simp[zm]
 have hle:(n=2->Qg n=128)/\(n=3->Qg n=2048)/\(n=4->Qg n=65536):=by refine⟨λh=> ?_,λh=> ?_,λh=> ?_⟩<;>rw[h]<;>rfl
 have e0:IntKind.u32.wrap (bat s 0:Nat)=(bat s 0:Nat):=by rw[wrap32];omega
 simp only[Int.toNat_natCast,Int.toNat_zero,and_true,true_and,decide_eq_true_eq,decide_eq_false_iff_not,Bool.not_eq_true',Bool.not_eq_false',e0,←hn];refine⟨?_,λg0=>⟨by omega,?_,?_⟩⟩
 ·intro h;have:=X (by omega);have:=H this;omega
 ·simp only[wrap32];clear u X e0;rcases hc with⟨O,A,U⟩|⟨c0,O,A,U⟩|⟨c0,O,A,U⟩|⟨c0,O,A,U⟩|⟨O,A⟩
  ·obtain⟨p,f⟩:=J (by omega) O;clear J N hle H;refine⟨λ_=>by omega,λh=>absurd (by omega) h⟩
  ·have l:=hle.1 A;clear J N hle H;refine⟨λh=>by omega,λh=>⟨λ_=>⟨λ_=>by omega,λk=>absurd (by omega) k⟩,λk=>absurd (by omega) k⟩⟩
  ·have l:=hle.2.1 A;clear J N hle H;refine⟨λh=>by omega,λh=>⟨λ_=>⟨λk=>by omega,λ_=>⟨λ_=>⟨λ_=>by omega,λk=>absurd (by omega) k⟩,λk=>absurd (by omega) k⟩⟩,λk=>absurd (by omega) k⟩⟩
  ·have l:=hle.2.2 A;clear J N hle H;refine⟨λh=>by omega,λh=>⟨λ_=>⟨λk=>by omega,λ_=>⟨λ_=>⟨λk=>by omega,λ_=>⟨λ_=>⟨λ_=>by omega,λk=>absurd (by omega) k⟩,λk=>absurd (by omega) k⟩⟩,λk=>absurd (by omega) k⟩⟩,λk=>absurd (by omega) k⟩⟩
  ·have f:=N A;have p:=H f;clear J N hle H;repeat' first|intro _|apply And.intro
   all_goals omega
 ·clear X J N;rintro _ ⟨g1,g2⟩;have Z:qF s=0->((jN s:Nat):Int)=0/\((qF s:Nat):Int)=0:=λh=>by have:=H h;omega
  refine⟨λk=>Z ?_,λk=>⟨⟨by omega,by omega,zZ (bat s 0),rfl,rfl⟩,?_⟩⟩
  ·rw[u,if_pos (by omega)]
  rw[if_neg (by omega)]at u;rintro⟨v,i⟩ ⟨i1,i2,q,hq,C⟩;simp only at i1 i2 hq C⊢;obtain⟨m,rfl⟩:=Int.eq_ofNat_of_zero_le (show 0<=i by omega);subst hq;simp only[Int.toNat_natCast,tn1]at C⊢;have T:=H4 s m q C (by omega);have bm:=xz s m;obtain⟨m',rfl⟩:∃m',m=m'+1:=⟨m- 1,by omega⟩;have cn:¬(128<=bat s (m'+1)/\bat s (m'+1)<192)->((m'+1:Nat):Int)<n->qF s=0:=λh hl=>by have:zm s (m'+2)=none:=(by simp only[zm];rw[C];simp only[];rw[if_neg (by rw[Pn];exact h)]);rw[u,zeh s (m'+2) n (by omega) (by omega) this]
  refine⟨λk1=>⟨by omega,λk2=>Z (cn (by omega) k1),λk2=>⟨by omega,λk3=>Z (cn (by omega) k1),λk3=>⟨by omega,by omega,⟨by omega,by omega,?_⟩,by omega⟩⟩⟩,λk1=> ?_⟩
  ·have hq26:q<67108864:=by have:m'+1<=3:=(by omega);rcases m' with _|_|_|m'<;>simp at T<;>omega
   refine⟨q*64+(bat s (m'+1)- 128),?_,?_⟩
   ·rw[J8,wrap32,wrap32,wrap32];omega
   ·simp only[zm];rw[C];simp only[];rw[if_pos (by rw[Pn];omega)]
  ·have em:m'+1=n:=(by omega);rw[em]at C T;rw[C]at u;simp only at u;have nn:n=2\/n=3\/n=4:=(by omega);have ln:=j80 n q nn T (λh=>jit s q (h ▸ C) (by omega)) (λh=>jiu s q (h ▸ C) (by omega));have ic:=zv9 q;have bad:¬(Qg n<=q)\/¬(q<=1114111/\¬(55296<=q/\q<=57343))->qF s=0:=λh=>by
    rw[u,if_pos];rcases h with h|h
    ·exact .inr (.inr λe=>h (ln.mp e))
    ·exact .inr (.inl (by rw[←Bool.not_eq_true];exactλe=>h (ic.mp e)))
   have G:Qg n<=q->(q<=1114111/\¬(55296<=q/\q<=57343))->((jN s:Nat):Int)=q/\((qF s:Nat):Int)=n:=λY h2=>by have V:qF s=n:=(by rw[u,if_neg];rw[ic.mpr h2,ln.mpr Y];simp;omega);refine⟨?_,by omega⟩;unfold jN;rw[if_neg (by omega),V,C];rfl
   refine⟨λO=>Z (bad (.inl (by omega))),λO=>⟨λA=>Z (bad (.inr (by omega))),λA=>⟨λU=>⟨λc4=>Z (bad (.inr (by omega))),λc4=>G (by omega) (by omega)⟩,λU=>G (by omega) (by omega)⟩⟩⟩
def zkd(s:O6):qix P (qef [(96,Zz)]) Tryz.f59 wW (zkz) s=(size s<(9223372036854775808:Nat)->(s=s/\(size s<=size s/\qz s=qz s)/\True)/\∀(s_1:O6),size s_1<=size s/\qz s_1=qz s->(decide ((0:Int)<(↑(size s_1):Int))=true->s_1=s_1/\size s_1<(9223372036854775808:Nat)/\(decide ((↑(qF s_1):Int)=(0:Int))=true->qz s=false/\True)/\(decide ((↑(qF s_1):Int)=(0:Int))=false->((0:Int)<=(↑(qF s_1):Int)/\(↑(qF s_1):Int)<=(↑(size s_1):Int))/\ByteArray.extract s_1 (toNat (↑(qF s_1):Int)) (size s_1)=ByteArray.extract s_1 (toNat (↑(qF s_1):Int)) (size s_1)/\(size (ByteArray.extract s_1 (toNat (↑(qF s_1):Int)) (size s_1))<=size s/\qz (ByteArray.extract s_1 (toNat (↑(qF s_1):Int)) (size s_1))=qz s)/\size (ByteArray.extract s_1 (toNat (↑(qF s_1):Int)) (size s_1))<size s_1/\True))/\(decide ((0:Int)<(↑(size s_1):Int))=false->qz s=true/\True)):=by kernel_rfl
def G9:q4a P 59 wW:=by
 refine qw (qbu (qfr ze0 qil)) (W:=zkz) Tryz.func59 λ(s:O6)=>(zkd s).mpr ?_;intro h;simp only[Int.toNat_natCast,and_true,true_and,decide_eq_true_eq,decide_eq_false_iff_not];refine⟨Nat.le_refl _,λt u=>⟨λg=>⟨by omega,λA=> ?_,λA=> ?_⟩,λg=> ?_⟩⟩
 ·rw[←u.2,Hj t (by omega),if_pos (by omega)]
 ·have:=Ot t;rw[←u.2,Hj t (by omega),if_neg (by omega)];refine⟨by omega,⟨?_,rfl⟩,?_⟩
  ·simp;omega
  ·simp;omega
 ·rw[←u.2];exact zkk t (by omega)
section
def HF:q4a P 72 Yf:=by refine qw z7 (W:=λ_=>{}) Tryz.func72 λ(s:O6)=>(zzb s).mpr ?_;intro _;exact⟨rfl,trivial⟩
def ze7:q4a P 71 V8:=by
 refine qw z7 (W:=λ_=>{}) Tryz.func71 λn=> ?_;cases n with
 |two=>exact(zjy ()).mpr λ_=>trivial
 |three=>exact(zjz ()).mpr λ_=>trivial
 |four=>exact(zk0 ()).mpr λ_=>trivial
variable {L:List Int} {p:Pub}
def Pi{x:SV} (h:qb qm x L p) {i:Nat} (hi:i<L.length):x.1≠noA/\q2u p (adr x.1 (i*1)) [.int .u8 L[i]]:=j3 j7g (by decide) h hi
def J3:q4a P 23 QU:=by
 refine qw z7 (W:=λ_=>{}) Tryz.func23 λ⟨(x:SV),(L:List Int),(n:Int),(m:Int)⟩=>(j86 x L n m).mpr ?_;rintro⟨u,J,G,H,hL,A⟩ ⟨p,_,hp⟩;have hx:x.2.1=L.length:=hp.1;simp only[qy,Int.toNat_natCast,hx];obtain⟨i,rfl⟩:=Int.eq_ofNat_of_zero_le u;have e:((i:Int)+1- 1).toNat=i:=by omega
 refine⟨λh=>⟨?_,?_⟩,λh=> ?_⟩
 ·unfold qq;rw[if_pos h]
 ·unfold qg;rw[if_pos h]
 ·have hi:i<L.length:=by omega
  rw[e];refine⟨by omega,by omega,by omega,(Pi hp hi).1,L[i],λq hq=>(Pi hq hi).2,?_⟩;have r:qq L i m=Int.tmod L[i] m:=by unfold qq;rw[if_neg h,Int.toNat_natCast,List.getD_eq_getElem?_getD,List.getElem?_eq_getElem hi];rfl
  have C:=A L[i] (List.getElem_mem hi);have N:qg L i=i+1:=by unfold qg;rw[if_neg h]
  rw[r,N];exact⟨by omega,by omega,rfl,rfl⟩
def I5:q4a P 22 Uh:=by refine qw z7 (W:=λ_=>{}) Tryz.func22 λ⟨(x:SV),(L:List Int),(n:Int)⟩=>(zyh x L n).mpr ?_;rintro _ ⟨p,_,hp⟩;have hx:x.2.1=L.length:=hp.1;simp only[true_and,and_true,eq_self,hx]
variable {l:List GJ}
def z9e{s:O6} {nm:List O6} {j:Nat} (h:j<nm.length) (u:j<l.length):jn s (nm.drop j) (l.drop j)=if nm[j]=s then some l[j]else jn s (nm.drop (j+1)) (l.drop (j+1)):=by rw[List.drop_eq_getElem_cons h,List.drop_eq_getElem_cons u,jn]
def Ld{y:SV} (h:qb GJ.cells y l p) {i:Nat} (hi:i<l.length):y.1≠noA/\q2u p (adr y.1 (i*5)) l[i].cells:=j3 ZB (by decide) h hi
def H3{y:SV} {ks:List O6} (h:qb qo y ks p) {i:Nat} (hi:i<ks.length):y.1≠noA/\q2u p (adr y.1 (i*1)) [.string ks[i]]:=j3 jS (by decide) h hi
def j7q:q4a P 107 XB:=by
 refine qw z7 (W:=dG) Tryz.func107 λ⟨g,s⟩=>(get_eq g s).mpr ?_;rintro hw ⟨p,_,hp⟩;rw[GJ.wf_eq]at hw;obtain⟨_,V,N,_⟩:=hw;have h:=λq (hq:g.ok q)=>(by rw[GJ.ok_eq]at hq;exact hq.2.1:qb qo g.x g.nm q);have u:=λq (hq:g.ok q)=>(by rw[GJ.ok_eq]at hq;exact hq.1:qb GJ.cells g.y g.l q);have O:g.x.2.1=g.nm.length:=(h p hp).1;have T:g.y.2.1=g.l.length:=(u p hp).1;simp only[qy,Int.toNat_natCast,O,T];refine⟨⟨0,rfl,by omega,by simp⟩,?_⟩;rintro j ⟨U,G⟩;refine⟨λJ=> ?_,λH=> ?_⟩
 ·have A:j<g.nm.length:=by omega
  have C:j<g.l.length:=by omega
  have hd:=z9e (s:=s) A C;rw[G]at hd;refine⟨⟨by omega,by omega⟩,(H3 (h p hp) A).1,g.nm[j],λq hq=>(H3 (h q hq) A).2,λhs=> ?_,λhs=>⟨by omega,j+1,by omega,⟨by omega,?_⟩,by omega⟩⟩
  ·rw[if_pos hs]at hd;refine⟨⟨by omega,by omega⟩,(Ld (u p hp) C).1,g.l[j].k,g.l[j].n,g.l[j].s,g.l[j].y.1,g.l[j].y.2.1,g.l[j].y.2.2,g.l[j].x.1,g.l[j].x.2.1,g.l[j].x.2.2,λq hq=>(Ld (u q hq) C).2,?_⟩;rw[hd];exact⟨rfl,rfl,rfl,rfl,rfl,rfl,rfl,rfl,rfl,rfl⟩
  ·rw[if_neg hs]at hd;exact hd.symm
 ·have:g.nm.drop j=[]:=List.drop_of_length_le (by omega);rw[this,jn]at G
  ·rw[←G];exact⟨rfl,rfl,rfl,rfl,rfl,rfl,rfl,rfl,rfl,rfl⟩
  ·intros;simp at*
def ym{n m:Int} (hL:zX L) (h:0<m):0<=qq L n m/\qq L n m<m:=by
 unfold qq;split
 ·omega
 ·have:0<=L.getD n.toNat 0:=by
   rw[List.getD_eq_getElem?_getD];cases u:L[n.toNat]? with
   |none=>simp
   |some b=>exact(hL.2 b (List.mem_of_getElem? u)).1
  rw[Int.tmod_eq_emod_of_nonneg this];exact⟨Int.emod_nonneg _ (by omega),Int.emod_lt_of_pos _ h⟩
def yk{n:Int} (h:n<=L.length):n<=qg L n/\qg L n<=L.length/\qg L n<=n+1:=by unfold qg;split<;>omega
def zx7:q4a P 73 He:=by
  refine qw (qbu (qfr J3 (qfr HF (qfr j7q qil)))) (W:=zej) Tryz.func73 λ⟨(x:SV),(L:List Int),(n:Int),g⟩=>(zx6 x L n g).mpr ?_;rintro⟨C,G,hL,hw⟩ ⟨p,_,hp,hg⟩;simp only[qy,Int.toNat_natCast,exists_const];have u:=λm (h:0<m)=>ym (n:=n) (m:=m) hL h;refine⟨⟨λH=>⟨⟨λh=> ?_,λh1=>⟨λh=> ?_,λJ=>⟨λh=> ?_,λV=> ?_⟩⟩⟩,?_⟩,λH=>λh=>H h.1⟩,?_⟩
  · unfold isNum;rw[h];decide
  · unfold isNum;rw[h];decide
  · unfold isNum;rw[h];decide
  · unfold isNum;rw[decide_eq_false h1,decide_eq_false J,decide_eq_false V];rfl
  · rintro _ _;have d0:∀{a b c d:Int×Int×O6×Int},True:=λ{_ _ _ _}=>trivial;refine⟨λT=>⟨L,⟨C,G,by omega,by omega,hL⟩,λq hq=>hq.1,?_,?_⟩,λT=>⟨⟨λh=> ?_,λh=> ?_⟩,?_⟩⟩
    · have:=u 200 (by omega);omega
    · unfold zK;rw[if_pos ⟨H,T⟩];exact⟨rfl,rfl,rfl,rfl⟩
    · unfold wX;rw[h];decide
    · unfold wX;rw[decide_eq_false h];rfl
    rintro _ _;have N:¬(g.k=4/\isNum g.s=true):=λh=>(by rw[T]at h;exact absurd h.2 (by simp));refine⟨λU=>⟨L,⟨C,G,by omega,by omega,hL⟩,λq hq=>hq.1,u 3 (by omega),Lb (qq L n 3),?_,?_⟩,λU=> ?_⟩
    · have V:=u 3 (by omega);generalize qq L n 3=r at V⊢;intro j v Z;cases j with
      |succ j=>simp at Z
      | zero=>
        have:r=0\/r=1\/r=2:=(by omega);rcases this with rfl|rfl|rfl<;>exact Z
    · unfold zK;rw[if_neg N,if_pos ⟨H,U⟩];exact⟨rfl,rfl,rfl,rfl⟩
    have n2:¬(g.k=4/\wX g.s=true):=λh=>(by rw[U]at h;exact absurd h.2 (by simp));refine⟨λO=>⟨L,⟨C,G,by omega,by omega,hL⟩,λq hq=>hq.1,?_⟩,λO=>⟨λY=> ?_,λY=> ?_⟩⟩
    · unfold zK;rw[if_neg N,if_neg n2,if_pos ⟨H,by unfold J5;rw[O];decide⟩];exact⟨rfl,rfl,rfl,rfl⟩
    · unfold zK;rw[if_neg N,if_neg n2,if_neg (λh=>by unfold J5 at h;exact absurd h.2 (by rw[decide_eq_false O];simp)),if_pos ⟨H,by unfold Yh;rw[Y];decide⟩];exact⟨rfl,rfl,rfl,rfl⟩
    · rintro⟨_,h|h|h|h⟩
      · rw[T]at h;cases h
      · rw[U]at h;cases h
      · unfold J5 at h;rw[decide_eq_false O]at h;cases h
      · unfold Yh at h;rw[decide_eq_false Y]at h;cases h
  · rintro _ A;have N:¬(g.k=4/\isNum g.s=true):=λh=>A ⟨h.1, .inl h.2⟩;have n2:¬(g.k=4/\wX g.s=true):=λh=>A ⟨h.1, .inr (.inl h.2)⟩;have n3:¬(g.k=4/\J5 g.s=true):=λh=>A ⟨h.1, .inr (.inr (.inl h.2))⟩;have n4:¬(g.k=4/\Yh g.s=true):=λh=>A ⟨h.1, .inr (.inr (.inr h.2))⟩;unfold zK;rw[if_neg N,if_neg n2,if_neg n3,if_neg n4];refine⟨λX=>by rw[if_pos X];exact⟨rfl,rfl,rfl,rfl⟩,λX=>⟨⟨g,mkS [116,121,112,101]⟩,?_⟩⟩;simp only[true_and,eq_self];rw[if_neg X];refine⟨hw,λq hq=>hq.2,λh=>by rw[if_pos h];exact⟨rfl,rfl,rfl,rfl⟩,λh=>⟨λJ=>by rw[if_neg h,if_pos J];exact⟨rfl,rfl,rfl,rfl⟩,λJ=>by rw[if_neg h,if_neg J];exact⟨rfl,rfl,rfl,rfl⟩⟩⟩
def zx5{g:GJ} {n:Int} (hL:zX L) (h:n<=L.length):(n<=(zK g L n).2.2.2/\(zK g L n).2.2.2<=L.length)/\(-50<=(zK g L n).2.1/\(zK g L n).2.1<200)/\(zK g L n).2.2.1.size<10:=by
 have b:=yk h;have A:=ym (n:=n) (m:=200) hL (by omega);have C:=ym (n:=n) (m:=2) hL (by omega);have t:(Lb (qq L n 3)).size<10:=by
  unfold Lb;split
  ·decide
  ·split<;>decide
 have z:(mkS []).size<10:=by decide
 have u:(mkS [88]).size<10:=by decide
 unfold zK;repeat' split
 all_goals refine⟨⟨?_,?_⟩,⟨?_,?_⟩,?_⟩
 all_goals first|exact t|exact z|exact u| (simp only;omega)
end
section
def xw:q4a P 63 wT:=by refine qw z7 (W:=λ_=>{}) Tryz.func63 λ⟨S,(e0:Int),(e:Int)⟩=>(zoa S e0 e).mpr ?_;simp only[decide_eq_true_eq,decide_eq_false_iff_not,true_and,and_true,eq_self];intro _;exact⟨λh=>if_pos h,λh=>if_neg h⟩
def Hm:q4a P 69 Va:=by
 refine qw (qbu (qfr xw qil)) (W:=λ_=>{}) Tryz.func69 λ⟨S,(e:Int),t⟩=>(zwi S e t).mpr ?_;simp only[decide_eq_true_eq,decide_eq_false_iff_not,true_and,and_true,eq_self];intro _;refine⟨λh=>⟨S,rfl,rfl,?_,?_,?_,?_⟩,λh=>⟨qB yU S,by omega,by omega,?_,?_,?_,?_⟩⟩
 ·unfold qu;rw[if_pos (by omega)]
 ·unfold qD;rw[if_pos (by omega)]
 ·unfold qJ;rw[if_pos (by omega)]
 ·unfold qD;rw[if_pos (by omega)]
 ·unfold qu;rw[if_neg (by omega)];omega
 ·unfold qD;rw[if_neg (by omega)];simp
 ·unfold qJ;rw[if_neg (by omega)]
 ·unfold qD;rw[if_neg (by omega),zF];rfl
variable {s:O6} {l:List O6} {j:Nat}
def zig(h:j<l.length):ZY s (l.drop j) j=if l[j]=s then(j:Int)+1 else ZY s (l.drop (j+1)) (j+1):=by rw[List.drop_eq_getElem_cons h,ZY]
def zvp{i:Nat} (h:i<l.length):∀(j:Nat) (v:Value),[Value.string l[i]][j]? =some v->(qa qo l)[0+i*1+j]? =some v:=λj v u=>by
 cases j with
 |zero=>rw[Nat.zero_add,JY jS l i h 0 (by decide)];exact u
 |succ j=>simp at u
def zio:q4a P 68 Uf:=by
 refine qw z7 (W:=PG) Tryz.func68 λ(s:O6)=>(zxp s).mpr ?_;simp only[decide_eq_true_eq,decide_eq_false_iff_not,true_and,and_true,eq_self,Int.toNat_natCast];intro _;refine⟨⟨0,rfl,by omega,rfl⟩,?_⟩;rintro j ⟨H,C⟩;refine⟨λu=> ?_,λA=> ?_⟩
 ·have G:j<kinds.length:=by show j<14;have:(j:Int)<14:=u;omega
  have hd:=zig (s:=s) G;rw[C]at hd;refine⟨⟨by omega,by have:(j:Int)<14:=u;exact this⟩,kinds[j],zvp G,λh=>⟨by omega,by rw[hd,if_pos h]⟩,λh=>⟨by omega,j+1,by omega,⟨by have:(j:Int)<14:=u;omega,by rw[hd,if_neg h]⟩,by have:(j:Int)<14:=u;omega⟩⟩
 ·have:¬((j:Int)<14):=A;rw[List.drop_of_length_le (by show 14<=j;omega),ZY]at C;exact C.symm
def zqy:q4a P 122 OI:=by
 refine qw z7 (W:=λ_=>{}) Tryz.func122 λ(k:Int)=>(zqx k).mpr ?_;simp only[decide_eq_true_eq,decide_eq_false_iff_not,true_and,and_true,eq_self,Int.toNat_natCast];intro _;refine⟨λh=>by unfold wY;rw[if_pos (.inl h)],λh=>⟨λu=>by unfold wY;rw[if_pos (.inr u)],λu=>⟨⟨by omega,by show k<15;omega⟩,wY k,?_,rfl⟩⟩⟩;obtain⟨j,rfl⟩:=Int.eq_ofNat_of_zero_le (show 0<=k by omega);obtain⟨i,rfl⟩:∃i,j=i+1:=⟨j- 1,by omega⟩;have hi:i+1<(mkS []::kinds).length:=by show i+1<15;omega
 have e:wY ((i+1:Nat):Int)=(mkS []::kinds)[i+1]:=by unfold wY;rw[if_neg (by omega),Int.toNat_natCast,Nat.add_sub_cancel,List.getD_eq_getElem?_getD,List.getElem?_eq_getElem (by simpa using hi)];rfl
 rw[e,Int.toNat_natCast];exact zvp (l:=mkS []::kinds) hi
def zfc{l:List AT} (h:j<l.length):findF s (l.drop j) j=if l[j].nm=s/\9<=l[j].k/\l[j].k<=11 then some j else findF s (l.drop (j+1)) (j+1):=by rw[List.drop_eq_getElem_cons h,findF]
def HK{l:List AT} {i:Nat} (h:i<l.length):∀(j:Nat) (v:Value),l[i].cells[j]? =some v->(qa AT.cells l)[0+i*10+j]? =some v:=λj v u=>by have A:j<10:=(List.getElem?_eq_some_iff.mp u).1;rw[Nat.zero_add,JY yU l i h j A];exact u
def zd8:q4a P 97 Ue:=by
 refine qw z7 (W:=PB) Tryz.func97 λ⟨S,(e:Int),s⟩=>(zod S e s).mpr ?_;simp only[decide_eq_true_eq,decide_eq_false_iff_not,true_and,and_true,eq_self,Int.toNat_natCast];intro T;refine⟨⟨0,rfl,by omega,rfl⟩,?_⟩;rintro j ⟨O,H⟩;refine⟨λN=> ?_,λJ=> ?_⟩
 ·have u:j<S.length:=by omega
  have hd:=zfc (s:=s) u;rw[H]at hd;refine⟨⟨by omega,by omega⟩,S[j].k,S[j].nm,S[j].al.1,S[j].al.2.1,S[j].al.2.2,S[j].it,S[j].sy.1,S[j].sy.2.1,S[j].sy.2.2,S[j].hd,S[j].df,S[j].sz,S[j].f.1,S[j].f.2.1,S[j].f.2.2,S[j].br.1,S[j].br.2.1,S[j].br.2.2,HK u,λA=>⟨λC=>⟨λG=> ?_,λG=>⟨by omega,j+1,by omega,⟨by omega,?_⟩,by omega⟩⟩,λC=>⟨by omega,j+1,by omega,⟨by omega,?_⟩,by omega⟩⟩,λA=>⟨by omega,j+1,by omega,⟨by omega,?_⟩,by omega⟩⟩
  ·rw[hd,if_pos ⟨A,C,G⟩];exact⟨rfl,rfl⟩
  ·rw[hd,if_neg (λh=>G h.2.2)]
  ·rw[hd,if_neg (λh=>C h.2.1)]
  ·rw[hd,if_neg (λh=>A h.1)]
 ·rw[List.drop_of_length_le (by omega),findF]at H;rw[←H];exact⟨rfl,rfl⟩
def j8x:q4a P 99 EG:=by
 refine qw (qbu (qfr zqy qil)) (W:=λ_=>{}) Tryz.func99 λ⟨S,(t:Int)⟩=>(j8w S t).mpr ?_;simp only[decide_eq_true_eq,decide_eq_false_iff_not,Bool.not_eq_true',Bool.not_eq_false',true_and,and_true,eq_self,Int.toNat_natCast];intro H;refine⟨λh=>by unfold uU;rw[if_pos (.inl h)],λh=>⟨λG=>by unfold uU;rw[if_pos (.inr G)],λG=> ?_⟩⟩;obtain⟨j,rfl⟩:=Int.eq_ofNat_of_zero_le (show 0<=t by omega);have A:j<S.length:=by omega
 rw[Int.toNat_natCast];have e1:uU S (j:Int)=if S[j].nm=mkS []then wY S[j].k else S[j].nm:=by unfold uU;rw[if_neg (by omega),Int.toNat_natCast,List.getElem?_eq_getElem A]
 have C:∀(i:Nat) (v:Value),[Value.string S[j].nm][i]? =some v->(qa AT.cells S)[0+j*10+1+i]? =some v:=λi v hi=>by
  cases i with
  |zero=>exact HK A 1 v hi
  |succ i=>simp at hi
 refine⟨⟨by omega,by omega⟩,S[j].nm,C,λu=>⟨⟨by omega,by omega⟩,S[j].nm,C,by rw[e1,if_neg u]⟩,λu=>⟨⟨by omega,by omega⟩,S[j].k,λi v hi=> ?_,S[j].k,rfl,by rw[e1,if_pos u]⟩⟩;cases i with
 |zero=>exact HK A 0 v hi
 |succ i=>simp at hi
def ziy:q4a P 134 IT:=by
 refine qw z7 (W:=λ_=>{}) Tryz.func134 λ(c:Int)=>(zix c).mpr ?_;rintro⟨h,u⟩;obtain⟨n,rfl⟩:=Int.eq_ofNat_of_zero_le h;simp only[decide_eq_true_eq,decide_eq_false_iff_not,Int.toNat_natCast,and_true];repeat' first|intro _|apply And.intro
 all_goals (rw[Bool.eq_iff_iff];simp[isLt];omega)
def zo8:q4a P 135 Og:=by
 refine qw z7 (W:=λ_=>{}) Tryz.func135 λ(c:Int)=>(zo7 c).mpr ?_;rintro⟨h,u⟩;obtain⟨n,rfl⟩:=Int.eq_ofNat_of_zero_le h;simp only[decide_eq_true_eq,decide_eq_false_iff_not,Int.toNat_natCast,and_true];repeat' first|intro _|apply And.intro
 all_goals (rw[Bool.eq_iff_iff];simp[KM];omega)
def j87(h:j<s.size):xf s (s.size- j) j=(Vm s j&&xf s (s.size- (j+1)) (j+1)):=by rw[show s.size- j=s.size- (j+1)+1 by omega,xf,if_pos h]
def I6:q4a P 124 Ye:=by
 refine qw (qbu (qfr ziy (qfr zo8 qil))) (W:=PJ) Tryz.func124 λ(s:O6)=>(zyi s).mpr ?_;simp only[decide_eq_true_eq,decide_eq_false_iff_not,Bool.not_eq_true',Bool.not_eq_false',true_and,and_true,eq_self,Int.toNat_natCast];intro hs;refine⟨⟨0,rfl,by omega,rfl⟩,?_⟩;rintro j ⟨N,A⟩;have J:=xz s j;refine⟨λH=> ?_,λG=> ?_⟩
 ·have hd:=j87 (s:=s) (j:=j) (by omega);rw[A]at hd;refine⟨⟨by omega,by omega⟩,⟨by omega,by omega⟩,λh=>⟨λC=> ?_,λC=>⟨⟨by omega,by omega⟩,⟨by omega,by omega⟩,λu=> ?_,λu=>⟨by omega,j+1,by omega,⟨by omega,?_⟩,by omega⟩⟩⟩,λh=>⟨by omega,j+1,by omega,⟨by omega,?_⟩,by omega⟩⟩
  ·unfold vC;rw[hd];unfold Vm;rw[h,decide_eq_false (by omega)];rfl
  ·unfold vC;rw[hd];unfold Vm;rw[h,u,Bool.and_false];rfl
  ·rw[hd];unfold Vm;rw[h,u,decide_eq_true (by omega)];rfl
  ·rw[hd];unfold Vm;rw[h];rfl
 ·rw[show s.size- j=0 by omega,xf]at A;unfold vC;rw[←A];exact qV (by omega)
def zyj{s q:O6} (h:j<s.size+1):xV s (s.size+1- j) j q=if j<s.size/\bat s j≠46 then xV s (s.size+1- (j+1)) (j+1) (q++s.extract j (j+1))else if vC q=true then xV s (s.size+1- (j+1)) (j+1) (mkS [])else false:=by rw[show s.size+1- j=s.size+1- (j+1)+1 by omega,xV]
def zpu:q4a P 123 HQ:=by
 refine qw (qbu (qfr I6 qil)) (W:=zvx) Tryz.func123 λ(s:O6)=>(parts_eq s).mpr ?_;simp only[decide_eq_true_eq,decide_eq_false_iff_not,Bool.not_eq_true',Bool.not_eq_false',true_and,and_true,eq_self,Int.toNat_natCast];intro hs;refine⟨⟨⟨0,mkS []⟩,rfl,rfl,by omega,Nat.le_refl _,rfl⟩,?_⟩;rintro⟨j,q⟩ ⟨C,hq,h⟩;simp only at C hq h⊢;have t1:((j:Int)+1).toNat=j+1:=by omega
 refine⟨λhle=> ?_,λA=> ?_⟩
 ·have hd:=zyj (s:=s) (q:=q) (j:=j) (by omega);rw[h]at hd;rw[t1];refine⟨λG=>⟨⟨by omega,by omega⟩,λu=>⟨by omega,⟨by omega,by omega,by omega⟩,?_,by omega,⟨j+1,q++s.extract j (j+1)⟩,rfl,rfl,⟨by show j+1<=_;omega,?_,?_⟩,by show s.size+1- (j+1)<_;omega⟩,λu=>⟨by omega,λhp=> ?_,λhp=>⟨by omega,⟨j+1,mkS []⟩,rfl,rfl,⟨by show j+1<=_;omega,Nat.zero_le _,?_⟩,by show s.size+1- (j+1)<_;omega⟩⟩⟩,λA=>⟨by omega,λhp=> ?_,λhp=>⟨by omega,⟨j+1,mkS []⟩,rfl,rfl,⟨by show j+1<=_;omega,Nat.zero_le _,?_⟩,by show s.size+1- (j+1)<_;omega⟩⟩⟩
  ·rw[ByteArray.size_extract];omega
  ·show(q++s.extract j (j+1)).size<=j+1;rw[ByteArray.size_append,ByteArray.size_extract];omega
  ·rw[hd,if_pos ⟨by omega,by omega⟩]
  ·rw[hd,if_neg (by omega),hp];rfl
  ·rw[hd,if_neg (by omega),if_pos hp]
  ·rw[hd,if_neg (by omega),hp];rfl
  ·rw[hd,if_neg (by omega),if_pos hp]
 ·rw[show s.size+1- j=0 by omega,xV]at h;exact h.symm
def zh9:q4a P 102 Hn:=by
 refine qw z7 (W:=zkl) Tryz.func102 λ(s:O6)=>(zh8 s).mpr ?_;simp only[decide_eq_true_eq,decide_eq_false_iff_not,Bool.not_eq_true',Bool.not_eq_false',true_and,and_true,eq_self,Int.toNat_natCast];intro hs;refine⟨by omega,⟨s.size,rfl,Nat.le_refl _,rfl⟩,?_⟩;rintro j ⟨C,u⟩;refine⟨λA=> ?_,λA=> ?_⟩
 ·obtain⟨i,rfl⟩:∃i,j=i+1:=⟨j- 1,by omega⟩;have e:((i+1:Nat):Int)- 1=(i:Int):=by omega
  rw[kx]at u;rw[e,Int.toNat_natCast];refine⟨⟨by omega,by omega⟩,λh=>⟨⟨by omega,by omega⟩,?_⟩,λh=>⟨by omega,i,by omega,⟨by omega,?_⟩,by omega⟩⟩
  ·rw[←u,if_pos (by omega)]
  ·rw[←u,if_neg (by omega)]
 ·obtain rfl:j=0:=by omega
  rw[kx]at u;exact u.symm
def zik:q4a P 98 H9:=by refine qw z7 (W:=λ_=>{}) Tryz.func98 λ⟨a,b⟩=>(join_eq a b).mpr ?_;simp only[decide_eq_true_eq,decide_eq_false_iff_not,Bool.not_eq_true',Bool.not_eq_false',true_and,and_true,eq_self,Int.toNat_natCast];rintro⟨A,C⟩;have z:(mkS [46]).size=1:=rfl;unfold vB;refine⟨λh=>⟨by omega,if_pos (.inl h)⟩,λh=>⟨λu=>⟨by omega,if_pos (.inr u)⟩,λu=>⟨by omega,by rw[ByteArray.size_append];omega,if_neg (by simp[h,u])⟩⟩⟩
def zx8(h:j<s.size):ZX s (s.size- j) j=(decide (bat s j=46)||ZX s (s.size- (j+1)) (j+1)):=by rw[show s.size- j=s.size- (j+1)+1 by omega,ZX,if_pos h]
def zfh{a b:O6}:(vB a b).size<=a.size+b.size+1:=by
 have z:(mkS [46]).size=1:=rfl;unfold vB;split
 ·rw[ByteArray.size_append];omega
 ·rw[ByteArray.size_append,ByteArray.size_append];omega
def z61{a b:O6}:(vA a b).size<=a.size+b.size+1:=by
 unfold vA;split
 ·omega
 ·have:=zfh (a:=b) (b:=a);omega
def zl3:q4a P 101 Hv:=by
 refine qw (qbu (qfr zik (qfr zpu (qfr xw qil)))) (W:=zw4) Tryz.func101 λ⟨S,(e:Int),a,b⟩=>(zl2 S e a b).mpr ?_;simp only[decide_eq_true_eq,decide_eq_false_iff_not,Bool.not_eq_true',Bool.not_eq_false',true_and,and_true,eq_self,Int.toNat_natCast];rintro⟨J,N⟩;have hw:=z61 (a:=a) (b:=b);refine⟨⟨by omega,by omega⟩,⟨⟨0,vB b a⟩,rfl,rfl,Nat.zero_le _,rfl⟩,?_⟩;rintro⟨j,q⟩ ⟨G,u⟩;simp only at G u⊢;refine⟨λH=> ?_,λC=> ?_⟩
 ·have hd:=zx8 (s:=a) (j:=j) (by omega);rw[hd]at u;refine⟨⟨by omega,by omega⟩,λh=>⟨by omega,⟨j+1,a⟩,rfl,by show((j+1:Nat):Int)=_;omega,⟨by show j+1<=_;omega,?_⟩,by show a.size- (j+1)<_;omega⟩,λh=>⟨by omega,⟨j+1,q⟩,rfl,by show((j+1:Nat):Int)=_;omega,⟨by show j+1<=_;omega,?_⟩,by show a.size- (j+1)<_;omega⟩⟩
  ·rw[decide_eq_true (by omega),Bool.true_or,if_pos rfl]at u;rw[←u];exact ite_self _
  ·rw[decide_eq_false (by omega),Bool.false_or]at u;exact u
 ·rw[show a.size- j=0 by omega,ZX,if_neg (by simp)]at u;rw[u];unfold yj;refine⟨λh=>⟨S,rfl,rfl,rfl,rfl,if_pos (.inl h),rfl⟩,λh=>⟨by omega,λA=>⟨S,rfl,rfl,rfl,rfl,if_pos (.inr A),rfl⟩,λA=>⟨rfl,if_neg (by rw[A];simp[h])⟩⟩⟩
def JU:q4a P 66 xC:=by
 refine qw z7 (W:=PD) Tryz.func66 λ⟨g,s⟩=>(zxf g s).mpr ?_;rintro hw ⟨p,_,hp⟩;rw[GJ.wf_eq]at hw;obtain⟨_,hl,V,_⟩:=hw;have H:=λq (hq:g.ok q)=>(by rw[GJ.ok_eq]at hq;exact hq.2.1:qb qo g.x g.nm q);have J:=λq (hq:g.ok q)=>(by rw[GJ.ok_eq]at hq;exact hq.1:qb GJ.cells g.y g.l q);have X:g.x.2.1=g.nm.length:=(H p hp).1;have Y:g.y.2.1=g.l.length:=(J p hp).1;simp only[qy,Int.toNat_natCast,X,Y];refine⟨⟨0,rfl,by omega,rfl⟩,?_⟩;rintro j ⟨Z,G⟩;have u:qp s g=none->(((qp s g).getD zJ).k=0/\((qp s g).getD zJ).n=0/\((qp s g).getD zJ).s=mkS []/\((qp s g).getD zJ).y.1=noA/\((qp s g).getD zJ).y.2.1=0/\((qp s g).getD zJ).y.2.2=0/\((qp s g).getD zJ).x.1=noA/\((qp s g).getD zJ).x.2.1=0/\((qp s g).getD zJ).x.2.2=0/\(qp s g).isSome=false):=λh=>by rw[h];exact⟨rfl,rfl,rfl,rfl,rfl,rfl,rfl,rfl,rfl,rfl⟩
 have A:g.nm.length<=j->qp s g=none:=λh=>by
  rw[←G,List.drop_of_length_le h];split
  ·rw[jn];intros;simp at*
  ·rfl
 refine⟨λC=>⟨λU=>⟨λT=> ?_,λh=>by omega⟩,λh=>u (A (by omega))⟩,λC=>u (by rw[←G,if_neg C])⟩;have N:j<g.nm.length:=by omega
 have O:j<g.l.length:=by omega
 have hd:=z9e (s:=s) N O;rw[if_pos C]at G;rw[G]at hd;refine⟨⟨by omega,by omega⟩,(H3 (H p hp) N).1,g.nm[j],λq hq=>(H3 (H q hq) N).2,λhs=> ?_,λhs=>⟨by omega,j+1,by omega,⟨by omega,?_⟩,by omega⟩⟩
 ·rw[if_pos hs]at hd;refine⟨⟨by omega,by omega⟩,(Ld (J p hp) O).1,g.l[j].k,g.l[j].n,g.l[j].s,g.l[j].y.1,g.l[j].y.2.1,g.l[j].y.2.2,g.l[j].x.1,g.l[j].x.2.1,g.l[j].x.2.2,λq hq=>(Ld (J q hq) O).2,?_⟩;rw[hd];exact⟨rfl,rfl,rfl,rfl,rfl,rfl,rfl,rfl,rfl,rfl⟩
 ·rw[if_neg hs]at hd;rw[if_pos C];exact hd.symm
def IL:q4a P 100 Ua:=by
  refine qw (qbu (qfr JU (qfr xw qil))) (W:=λ_=>{}) Tryz.func100 λ⟨S,(e:Int),g,s,b⟩=>(zqz S e g s b).mpr ?_;rintro hw ⟨p,_,hp⟩;simp only[qy,Int.toNat_natCast];refine⟨⟨g,s⟩,rfl,rfl,rfl,rfl,rfl,rfl,rfl,rfl,rfl,rfl,hw,λq hq=>hq,?_⟩;simp only;unfold jH;cases C:qp s g with
  | none=>
    refine⟨λ_=>⟨λA=> ?_,λA=>⟨λ_=>⟨S,rfl,rfl,?_,rfl,?_,rfl⟩,λh=>absurd h (by simp)⟩⟩,λh=>absurd h (by simp)⟩
    · simp only[A];refine⟨?_,?_⟩<;>first|rfl|trivial
    · simp only[A];rfl
    · simp only[A];rfl
  | some t=>
    refine⟨λh=>absurd h (by simp),λ_=>⟨λh=>absurd h (by simp),λ_=>⟨λu=>⟨S,rfl,rfl,?_,rfl,?_,rfl⟩,λu=> ?_⟩⟩⟩
    · have u:¬t.k=4:=u;simp only[if_neg u]
    · have u:¬t.k=4:=u;simp only[if_neg u]
    · have u:t.k=4:=u;simp only[if_pos u];refine⟨?_,?_⟩<;>first|rfl|trivial
end
def jj:List GJ->Int->List O6->List O6×Int
 | [],e,acc=>(acc,e)
 |g::l,e,acc=>if e=0 then jj l (if g.k=4 then 0 else 2) (acc++[g.s])else(acc,e)
def yR(g:GJ) (s:O6) (e:Int):Int:=if((qp s g).getD zJ).k=5 then e else qt e 2
def zi(g:GJ) (s:O6) (e:Int):List O6×Bool×Int:=if(qp s g).isSome=true then((jj ((qp s g).getD zJ).l (yR g s e) []).1,true,(jj ((qp s g).getD zJ).l (yR g s e) []).2)else([],false,e)
def jxq(l:List O6):List SV->PF
 | [x]=>⟨true,qb qo x l,λ_ _ h e=>ji h e⟩
 |_=>{}
def V9:Ct where
 σ:=List AT×Int×GJ×O6
 args:=λ⟨S,e,g,s⟩=>[.ptr 1 0,g.av, .sv (.string s)]
 h:=λ⟨S,e,g,s⟩=>jt S e 2 3
 m:=4
 pre:=λ⟨S,e,g,s⟩=>g.wf
 mem:=λ⟨S,e,g,s⟩=>gM g
 r:=λ⟨S,e,g,s⟩=> .tup [.tsl 4, .sv (.bool (zi g s e).2.1)]
 h':=λ⟨S,e,g,s⟩=>jt S (zi g s e).2.2 2 3
 m':=5
 g:=λ⟨S,e,g,s⟩=>some {β:=Unit,ks:=[4],pre:=λ_=>True,mem:=λ_ xs=>jxq (zi g s e).1 xs}
def wA(S:List AT) (e:Int) (r k:Nat):Nat×AO:=(1, .cells 90 (some 0) false [.ssl r 0 S.length 10 k, .sv (.int .i64 e)])
def zw0:V9.σ->WayF:=λ⟨S,e,g,s⟩=>{
 cut:=λi _ _=>match i with
  |6=>some {σ:=Unit,t:=λ_=>[],h:=λ_=>[wA S (yR g s e) 2 3],more:=0,μ:=λ_=>0,keep:=[0,6,7,8]}
  |_=>none
 ann:=λ_ _ _=>some {σ:=Nat×Int×List O6,pre:=λ⟨j,u,acc⟩=>j<=((qp s g).getD zJ).l.length/\acc.length<=j/\jj (((qp s g).getD zJ).l.drop j) u acc=jj ((qp s g).getD zJ).l (yR g s e) [],t:=λ⟨j,u,acc⟩=>[(11, .sv (.int .i64 (j:Int))),(10, .ssl 7 0 acc.length 1 8)],h:=λ⟨j,u,acc⟩=>[(7, .row 9 0 (qa qo acc)),wA S u 2 3],more:=2,μ:=λ⟨j,u,acc⟩=>((qp s g).getD zJ).l.length- j,keep:=[0,6,7,8]}
 pubE:=[6]}
def kK(n:Nat) (a:AT):Prop:=(1<=a.k/\a.k<=14)/\(a.k=12\/a.k=13->0<=a.it/\a.it<n)/\(∀b∈a.brs,0<=b/\b<n)/\(a.k=14->a.brs≠[])/\(∀f∈a.fs,(0<=f.ty/\f.ty<n)/\f.df.wf)/\(a.k=10->a.sys≠[])/\(a.k=11->0<=a.sz/\a.sz<=5000)/\(a.fs.length<=7/\a.brs.length<=30/\a.sys.length<=30)
def grown(S:List AT) (e:Int) (T:List AT) (h:Int):Prop:=(S++T).length<=60/\(h=0->e=0/\∀a∈T,kK (S++T).length a)
def GY(T:List AT):PF:=⟨true,λp=>∀a∈T,a.ok p,λ_ _ h e a u=>AT.ok_mono h (e a u)⟩
abbrev qP:=List AT×Int×Int
def HR:CtR where
 σ:=List AT×Int×O6×O6
 args:=λ⟨S,e,s,sp⟩=>[.ptr 1 0, .sv (.string s), .sv (.string sp)]
 h:=λ⟨S,e,s,sp⟩=>jt S e 2 3
 m:=4
 pre:=λ⟨S,e,s,sp⟩=>S.length<=60/\s.size<100000/\sp.size<100000
 β:=λ_=>qP
 post:=λ⟨S,e,s,sp⟩ ⟨T,u,r⟩=>grown S e T u/\(u=0->0<=r/\r<(S++T).length)
 pm:=λ_ ⟨T,u,r⟩=>GY T
 r:=λ_ ⟨T,u,r⟩=> .sv (.int .i64 r)
 h':=λ⟨S,e,s,sp⟩ ⟨T,u,r⟩=>jt (S++T) u 4 5
 m':=6
def zvz:HR.σ->WayF:=λ⟨S,e,s,sp⟩=>{
 cut:=λi _ _=>match i with
  |4=>some {σ:=Unit,t:=λ_=>[],h:=λ_=>[],more:=0,μ:=λ_=>0,keep:=[0,1,2,6,7]}
  |_=>none
 ann:=λ_ _ _=>some {σ:=Nat×Bool,pre:=λ⟨j,d⟩=>j<=s.size,t:=λ⟨j,d⟩=>[(9, .sv (.int .i64 (j:Int))),(8, .sv (.bool d))],h:=λ_=>[],more:=0,μ:=λ⟨j,d⟩=>s.size- j,keep:=[0,1,2,6,7]}}
section
variable (b:GJ×O6) (d:List AT) (g:Int) (c:GJ) (e:O6) (a:Nat×Int×List O6) (o:Prop) (q:Nat×Int×List O6) (r:Nat->Option Obj) (u:Nat) (p:Option Addr)
 abbrev Yj:=qa AT.cells d=qa AT.cells d
 abbrev jq:=Option.getD (qp b.2 b.1) zJ
 def Y6:=GJ.k (jq b)=GJ.k (jq b)/\GJ.n (jq b)=GJ.n (jq b)/\GJ.s (jq b)=GJ.s (jq b)/\(GJ.y (jq b)).1=(GJ.y (jq b)).1/\(GJ.y (jq b)).2.1=(GJ.y (jq b)).2.1/\(GJ.y (jq b)).2.2=(GJ.y (jq b)).2.2/\(GJ.x (jq b)).1=(GJ.x (jq b)).1/\(GJ.x (jq b)).2.1=(GJ.x (jq b)).2.1/\(GJ.x (jq b)).2.2=(GJ.x (jq b)).2.2/\(∀f,True/\GJ.ok c f->True/\GJ.ok c f)/\o
 abbrev Yk:=GJ.l (Option.getD (qp e c) zJ)
 def X9:=a.1<=length (Yk c e)/\length a.2.2<=a.1/\jj (drop a.1 (Yk c e)) a.2.1 a.2.2=jj (Yk c e) (yR c e g) []
 abbrev RU:=(↑a.1:Int)<(↑(GJ.y (jq b)).2.1:Int)
 def Ly:=(0<=(↑a.1:Int)/\RU b a)/\(GJ.y (jq b)).1≠noA/\o
 def O5:=(∀f,True/\GJ.ok c f->q2u f (Addr.add (adr (GJ.y (jq b)).1 (toNat (↑a.1:Int)*5)) 2) [string e])/\length (qa qo a.2.2)=length a.2.2*1/\(length a.2.2+nat_lit 1)*16<=140737488355328/\Jb ((↑a.1:Int)+1)/\o
 def RV:=(↑a.1:Int)=(↑q.1:Int)+1/\length a.2.2=length q.2.2+nat_lit 1/\o
 def RT:=Y6 b c ((X9 g c e a)/\length (Yk c e)- a.1<length (Yk c e)- q.1/\True)
 def gV:=Ly b a (∃f,O5 b c f a (∃(h:Nat×Int×List O6),RV h (length d=length d/\h.2.1=a.2.1/\qa qo h.2.2=qa qo a.2.2++[string f]/\Yj d/\RT b g c e h a) a))
 def gU:=Ly b a (∃(f:Int),(∀m,True/\GJ.ok c m->q2u m (Addr.add (adr (GJ.y (jq b)).1 (toNat (↑a.1:Int)*5)) 0) [int i64 f])/\((!decide (f=4))=true->∃(h:List AT),(2:Int)=2/\length h=length d/\a.2.1=a.2.1/\qa AT.cells h=qa AT.cells d/\True/\Ly b a (∃j,O5 b c j a (∃(i:Nat×Int×List O6),RV i (length d=length h/\i.2.1=qt a.2.1 2/\qa qo i.2.2=qa qo a.2.2++[string j]/\qa AT.cells d=qa AT.cells h/\RT b g c e i a) a)))/\((!decide (f=4))=false->gV b d g c e a))
 def RW:=(True/\GJ.ok c r)/\length a.2.2<=u/\qfu r p (take (length a.2.2*nat_lit 1) (qa qo a.2.2))
 def Ah:=∀(f m h:Nat) (j:Option Addr) (v i:Nat),(∃t,RW c a t i j)->∃(w:Unit),j=j/\length a.2.2=length a.2.2/\i=i/\(zi c e g).2.1=true/\length d=length d/\(zi c e g).2.2=a.2.1/\Yj d/\Pl j/\True/\(∀i8,RW c a i8 i j->qb qo (j,length a.2.2,i) (zi c e g).1 i8)/\True
 def gT:=Ji (a.2.1=0) (gU b d g c e a) (Ah d g c e a)
 abbrev gS:=Ji (RU b a) (gT b d g c e a) (Ah d g c e a)
 def gR:=(∃(f:Nat×Int×List O6),(↑f.1:Int)=0/\length f.2.2=0/\length d=length d/\f.2.1=yR c e g/\Yj d/\Y6 b c ((X9 g c e f)/\True))/\∀(h:Nat×Int×List O6),X9 g c e h->gS b d g c e h
 def gQ:=(((!decide (GJ.k (jq b)=5))=true->∃(f:List AT),(2:Int)=2/\length f=length d/\g=g/\qa AT.cells f=qa AT.cells d/\True/\∃(m:Unit),length d=length f/\yR c e g=qt g 2/\qa AT.cells d=qa AT.cells f/\Y6 b c (True/\True))/\((!decide (GJ.k (jq b)=5))=false->∃(j:Unit),length d=length d/\yR c e g=g/\Yj d/\Y6 b c (True/\True)))/\∀(i:Unit),True->gR b d g c e
end
def zk5(S:List AT) (e:Int) (g:GJ) (s:O6):qix P (qef [(66,xC),(63,wT)]) Tryz.f103 V9 (zw0) ⟨S,e,g,s⟩=(GJ.wf g->(∃(p:Pub),True/\GJ.ok g p)->∃(s_1:GJ×O6),GJ.k s_1.1=GJ.k g/\GJ.n s_1.1=GJ.n g/\GJ.s s_1.1=GJ.s g/\(GJ.y s_1.1).1=(GJ.y g).1/\(GJ.y s_1.1).2.1=(GJ.y g).2.1/\(GJ.y s_1.1).2.2=(GJ.y g).2.2/\(GJ.x s_1.1).1=(GJ.x g).1/\(GJ.x s_1.1).2.1=(GJ.x g).2.1/\(GJ.x s_1.1).2.2=(GJ.x g).2.2/\s_1.2=s/\GJ.wf s_1.1/\(∀(p:Pub),True/\GJ.ok g p->GJ.ok s_1.1 p)/\((!Option.isSome (qp s_1.2 s_1.1))=true->∃(b:Unit),noA=noA/\(0:Nat)=0/\(0:Nat)=0/\(zi g s e).2.1=false/\length S=length S/\(zi g s e).2.2=e/\Yj S/\Pl noA/\True/\(∀(p:Pub),True/\GJ.ok g p->qb qo (noA,(0:Nat),(0:Nat)) (zi g s e).1 p)/\True)/\((!Option.isSome (qp s_1.2 s_1.1))=false->gQ s_1 S e g s)):=by kernel_rfl
def zqk:=λS e g s=>Eq.trans (zk5 S e g s) (by delta Ji Jb Jt Jf Yj jq Y6 Yk X9 RU Ly O5 RV RT gV gU RW Ah gT gS gR gQ;exact rfl)
section
variable (b:O6) (c:List AT) (d:Int) (e:O6) (g:Nat×Bool) (i:qP) (j:List AT) (o:Prop) (p:Nat×Bool)
 abbrev X':=(grown c d i.1 i.2.1/\(i.2.1=0->0<=i.2.2/\i.2.2<(↑(length (c++i.1)):Int)))/\(∀a,True->∀(h:AT),h∈i.1->AT.ok h a)/\True
 def Yl:=length c=length c/\d=d/\qa AT.cells c=qa AT.cells c/\o
 def g_:=Ji (qM b<=8) (∃(a:List AT×Int×AT),AT.k a.2.2=qM b/\AT.nm a.2.2=mkS []/\(AT.al a.2.2).1=noA/\(AT.al a.2.2).2.1=0/\(AT.al a.2.2).2.2=0/\AT.it a.2.2=0/\(AT.sy a.2.2).1=noA/\(AT.sy a.2.2).2.1=0/\(AT.sy a.2.2).2.2=0/\AT.hd a.2.2=false/\AT.df a.2.2=mkS []/\AT.sz a.2.2=0/\(AT.f a.2.2).1=noA/\(AT.f a.2.2).2.1=0/\(AT.f a.2.2).2.2=0/\(AT.br a.2.2).1=noA/\(AT.br a.2.2).2.1=0/\(AT.br a.2.2).2.2=0/\length a.1=length c/\a.2.1=d/\qa AT.cells a.1=qa AT.cells c/\True/\∃(h:qP),h.2.2=qu a.1/\length (c++h.1)=length (qD a.1 a.2.2)/\h.2.1=qJ a.1 a.2.1/\qa AT.cells (c++h.1)=qa AT.cells (qD a.1 a.2.2)/\X' c d h) (∃(m:Unit),b=b/\qM b=qM b/\e=e/\Yl c d (True/\True))
 abbrev RX:=Jb ((↑g.1:Int)+1)
 def RZ:=g.1<=size b/\size b- g.1<size b- p.1/\True
 def P8:=RX g/\∃(a:Nat×Bool),b=b/\qM b=qM b/\(↑a.1:Int)=(↑g.1:Int)+1/\e=e/\a.2=true/\Yl c d (RZ b a g)
 def hY:=(0<=(↑g.1:Int)/\(↑g.1:Int)<(↑(size b):Int))/\RX g/\∃(a:Nat×Bool),b=b/\qM b=qM b/\(↑a.1:Int)=(↑g.1:Int)+1/\e=e/\a.2=decide ((↑(bat b (toNat (↑g.1:Int))):Int)=46)/\Yl c d (RZ b a g)
 def hH:=(g.2=true->P8 b c d e g)/\(g.2=false->hY b c d e g)
 def Uk:=length c=length j/\d=d/\qa AT.cells c=qa AT.cells j/\o
 def RY:=length (c++i.1)=length j/\i.2.1=d/\qa AT.cells (c++i.1)=qa AT.cells j/\X' c d i
 def Ai:=length c<1000/\((!Option.isSome (findF b c 0))=true->∃(a:List AT),(4:Int)=4/\Uk a d c (True/\∃(h:qP),h.2.2=0/\length (j++h.1)=length a/\h.2.1=qt d 4/\qa AT.cells (j++h.1)=qa AT.cells a/\X' j d h))/\((!Option.isSome (findF b c 0))=false->∃(n:qP),n.2.2=wy (findF b c 0)/\RY j d n c)
 def g9:=b=b/\e=e/\(size b<1000000/\size e<1000000)/\∃(a:List AT),vB b e=vB b e/\Uk a d c (length a<1000/\(Option.isSome (findF (vB b e) a 0)=true->∃(h:qP),h.2.2=wy (findF (vB b e) a 0)/\RY c d h a)/\(Option.isSome (findF (vB b e) a 0)=false->∃(m:List AT),e=e/\Uk m d a (Ai e m d c)))
 def g8:=((!g.2)=true->g9 b c d e)/\((!g.2)=false->∃(l:List AT),e=e/\Uk l d c (Ai e l d c))
 def gZ:=Ji ((↑g.1:Int)<(↑(size b):Int)) (hH b c d e g) (g8 e c d b g)
 def gY:=(∃(a:Nat×Bool),b=b/\qM b=qM b/\(↑a.1:Int)=0/\e=e/\a.2=false/\Yl c d (a.1<=size b/\True))/\∀(h:Nat×Bool),h.1<=size b->gZ b c d e h
 def gW:=b=b/\True/\(Ji (1<=qM b) (g_ b c d e) (∃(q:Unit),b=b/\qM b=qM b/\e=e/\Yl c d (True/\True)))/\∀(r:Unit),True->gY b c d e
end
def zk4(S:List AT) (e:Int) (s sp:O6):qiy P (qef [(68,Uf),(69,Va),(98,H9),(97,Ue),(63,wT)]) (qff []) Tryz.f64 HR (zvz) ⟨S,e,s,sp⟩=(length S<=60/\size s<100000/\size sp<100000->gW s S e sp):=by kernel_rfl
def zqh:=λS e s sp=>Eq.trans (zk4 S e s sp) (by delta Ji Jb Jt Jf X' Yl g_ RX RZ P8 hY hH Uk RY Ai g9 g8 gZ gY gW;exact rfl)
section
def zdk{s:O6}:∀{nm:List O6} {l:List GJ} {t:GJ},jn s nm l=some t->∃(i:Nat) (h:i<l.length),t=l[i]
  | [],l,t,h=>by simp[jn]at h
  |x::nm,[],t,h=>by simp[jn]at h
  | x::nm,g::l,t,h=>by
    rw[jn]at h;split at h
    · cases h;exact⟨0,by simp,rfl⟩
    · obtain⟨i,hi,e⟩:=zdk h;exact⟨i+1,by simpa using hi,by simpa using e⟩
variable {s:O6}
def zfe{g t:GJ} (h:qp s g=some t) (hw:g.wf):t.wf/\∀p,g.ok p->t.ok p:=by
 unfold qp at h;split at h
 ·obtain⟨i,hi,rfl⟩:=zdk h;rw[GJ.wf_eq]at hw;exact⟨GJ.wfs_at hw.2.2.2.2.2.2 hi,λp hp=>by rw[GJ.ok_eq]at hp;exact GJ.oks_at hp.2.2 hi⟩
 ·cases h
def jj0:zJ.wf:=by unfold zJ GJ.wf GJ.wfs;exact⟨by decide,by decide,by decide,λt h=>by simp at h,⟨by decide,by decide⟩,λ_=>rfl,trivial⟩
def jiz(p:Pub):zJ.ok p:=by unfold zJ GJ.ok GJ.oks;exact⟨qQ,qQ,trivial⟩
def wR(s:O6) {g:GJ} (hw:g.wf):((qp s g).getD zJ).wf/\∀p,g.ok p->((qp s g).getD zJ).ok p:=by
 cases h:qp s g with
 |none=>exact⟨jj0,λp _=>jiz p⟩
 |some t=>exact zfe h hw
variable {l:List GJ} {acc:List O6}
def z9w{j:Nat} {e:Int} (h:j<l.length):jj (l.drop j) e acc=if e=0 then jj (l.drop (j+1)) (if l[j].k=4 then 0 else 2) (acc++[l[j].s])else(acc,e):=by rw[List.drop_eq_getElem_cons h,jj]
def zeb{j:Nat} {e:Int} (h:l.length<=j\/e≠0):jj (l.drop j) e acc=(acc,e):=by
 by_cases u:l.length<=j
 ·rw[List.drop_of_length_le u,jj]
 ·rw[z9w (by omega),if_neg (by omega)]
def zet(x:Addr):x.add 0=x:=by cases x;simp[Addr.add]
def IH:q4a P 103 V9:=by
  refine qw (qbu (qfr JU (qfr xw qil))) (W:=zw0) Tryz.func103 λ⟨S,(e:Int),g,s⟩=>(zqk S e g s).mpr ?_;rintro U ⟨p,_,hp⟩;simp only[qy,exists_const];refine⟨⟨g,s⟩,rfl,rfl,rfl,rfl,rfl,rfl,rfl,rfl,rfl,rfl,U,λq hq=>hq,λY=> ?_,λhy=> ?_⟩
  · have e0:zi g s e=([],false,e):=(by unfold zi;rw[if_neg (by rw[Y];decide)]);rw[e0];exact⟨rfl,rfl,uF,λq _=>qQ⟩
  obtain⟨tw,tok⟩:=wR s U;have e1:zi g s e=((jj ((qp s g).getD zJ).l (yR g s e) []).1,true,(jj ((qp s g).getD zJ).l (yR g s e) []).2):=by unfold zi;rw[if_pos hy]
  rw[e1];have N:yR g s e=if((qp s g).getD zJ).k=5 then e else qt e 2:=rfl;simp only;generalize (qp s g).getD zJ=t at*;generalize yR g s e=e2 at*;have O:=λq (hq:g.ok q)=>(show qb GJ.cells t.y t.l q by have:=tok q hq;rw[GJ.ok_eq]at this;exact this.1);have tl:t.y.2.1=t.l.length:=(O p hp).1;rw[GJ.wf_eq]at tw;refine⟨⟨λh=>⟨S,rfl,rfl,rfl,by rw[N,if_neg h],rfl⟩,λh=>by rw[N,if_pos h]⟩,?_⟩;rintro _ _;refine⟨⟨⟨0,e2,[]⟩,rfl,rfl,rfl,by show 0<=_;omega,by show 0<=_;omega,rfl⟩,?_⟩;rintro⟨j,G,acc⟩ ⟨hj,ha,he⟩;simp only at*;have done:jj (t.l.drop j) G acc=(acc,G)->∀(a:Option Addr) (c:Nat),(jj t.l e2 []).2=G/\∀q,acc.length<=c/\qfu q a (List.take (acc.length*1) (qa qo acc))->qb qo (a,acc.length,c) (jj t.l e2 []).1 q:=λh a c=>by rw[←he,h];refine⟨rfl,λq hq=>⟨rfl,hq.1,?_⟩⟩;have:=hq.2;rw[List.take_of_length_le (by rw[qB jS];exact Nat.le_refl _)]at this;exact this
  refine⟨λX=>⟨λH=> ?_,λH=> ?_⟩,λV=> ?_⟩
  · have J:j<t.l.length:=(by omega);have A:=λq (hq:g.ok q)=>j3 ZB (by decide) (O q hq) J;have hd:=z9w (e:=G) (acc:=acc) J;rw[if_pos H]at hd;have cell:∀q (hq:g.ok q) (k:Nat) (v:Value),t.l[j].cells[k]? =some v->q2u q ((adr t.y.1 (j*5)).add k) [v]:=λq hq k v Z i u hu=>by
      have:=(A q hq).2
      match i with
      | 0=>
        simp at hu;subst hu;rw[zet];exact this k v Z
      |i+1=>simp at hu
    refine⟨by omega,(A p hp).1,t.l[j].k,λq hq=>cell q hq 0 _ rfl,λT=>⟨S,rfl,rfl,by omega,(A p hp).1,t.l[j].s,λq hq=>cell q hq 2 _ rfl,qB jS acc,by omega,⟨by omega,by omega⟩,⟨j+1,2,acc++[t.l[j].s]⟩,by show((j+1:Nat):Int)=_;omega,by show(acc++[t.l[j].s]).length=_;simp,rfl,by show 2=qt G 2;unfold qt;rw[if_pos H],by show qa qo (acc++[t.l[j].s])=_;rw[zF];rfl,rfl,⟨by show j+1<=_;omega,by show(acc++[t.l[j].s]).length<=j+1;simp;omega,?_⟩,by show _- (j+1)<_;omega⟩,λT=>⟨by omega,(A p hp).1,t.l[j].s,λq hq=>cell q hq 2 _ rfl,qB jS acc,by omega,⟨by omega,by omega⟩,⟨j+1,0,acc++[t.l[j].s]⟩,by show((j+1:Nat):Int)=_;omega,by show(acc++[t.l[j].s]).length=_;simp,H.symm,by show qa qo (acc++[t.l[j].s])=_;rw[zF];rfl,⟨by show j+1<=_;omega,by show(acc++[t.l[j].s]).length<=j+1;simp;omega,?_⟩,by show _- (j+1)<_;omega⟩⟩
    · rw[←he,hd,if_neg T]
    · rw[←he,hd,if_pos T]
  · rintro b s4 u a n c ⟨q0,C⟩;obtain⟨d1,d2⟩:=done (zeb (.inr H)) a c;exact⟨trivial,d1,rowP_Pl C.2.2,λq hq=>d2 q hq.2⟩
  · rintro b s4 u a n c ⟨q0,C⟩;obtain⟨d1,d2⟩:=done (zeb (.inl (by omega))) a c;exact⟨trivial,d1,rowP_Pl C.2.2,λq hq=>d2 q hq.2⟩
def qK(k it:Int):AT:=⟨k,mkS [],(none,0,0),[],it,(none,0,0),[],false,mkS [],0,(none,0,0),[],(none,0,0),[]⟩
def H2(k it:Int) (p:Pub):(qK k it).ok p:=⟨qQ,qQ,qQ,qQ,λf h=>absurd h (by simp[qK])⟩
def zpv{n:Nat} {k it:Int} (u:1<=k) (H:k<=8):kK n (qK k it):=by have G:(qK k it).k=k:=rfl;unfold kK;rw[G];exact⟨⟨u,by omega⟩,λh=>(by omega),λb A=>(by cases A),λh=>(by omega),λf C=>(by cases C),λh=>(by omega),λh=>(by omega),Nat.zero_le _,Nat.zero_le _,Nat.zero_le _⟩
def zd7{s:O6}:∀{l:List AT} {i k:Nat},findF s l i=some k->i<=k/\k<i+l.length
  | [],i,k,h=>by simp[findF]at h
  | a::l,i,k,h=>by
    rw[findF]at h;split at h
    · cases h;simp
    · have:=zd7 h;simp;omega
def HX{S:List AT} (h:(findF s S 0).isSome=true):0<=wy (findF s S 0)/\wy (findF s S 0)<S.length:=by
  cases u:findF s S 0 with
  |none=>rw[u]at h;cases h
  | some k=>
    have:=zd7 u;show 0<=(k:Int)/\(k:Int)<_;omega
def je{e0 e:Int} (h:e≠0):qt e0 e≠0:=by unfold qt;split<;>omega
def zqi:q1i P 64 HR:=by
 refine zI (qbu (qfr zio (qfr Hm (qfr zik (qfr zd8 (qfr xw qil)))))) (qcl qik) (W:=zvz) Tryz.func64 λ⟨S,(e:Int),s,sp⟩=>(zqh S e s sp).mpr ?_;rintro⟨hS,hs,U⟩;simp only[qy,exists_const,forall_const];have same:∀r:Int,(0<=r/\r<S.length)->grown S e [] e/\(e=0->0<=r/\r<(S++[]).length):=λr hr=>by unfold grown;rw[List.append_nil];exact⟨⟨hS,λh=>⟨h,λa u=>by cases u⟩⟩,λ_=>hr⟩
 have bad:grown S e [] (qt e 4)/\(qt e 4=0->0<=(0:Int)/\0<((S++[]).length:Int)):=by have:=je (e0:=e) (e:=4) (by decide);unfold grown;rw[List.append_nil];exact⟨⟨hS,λh=>absurd h this⟩,λh=>absurd h this⟩
 refine⟨λN=>λO=>⟨⟨S,e,qK (qM s) 0⟩,rfl,rfl,rfl,rfl,rfl,rfl,rfl,rfl,rfl,rfl,rfl,rfl,rfl,rfl,rfl,rfl,rfl,rfl,rfl,rfl,rfl,?_⟩,?_⟩
 ·by_cases A:60<=S.length
  ·refine⟨⟨[],qJ S e,qu S⟩,rfl,?_,rfl,?_,?_,λp a u=>by cases u⟩
   ·show(S++[]).length=(qD S (qK (qM s) 0)).length;unfold qD;rw[if_pos A,List.append_nil]
   ·show qa AT.cells (S++[])=qa AT.cells (qD S (qK (qM s) 0));unfold qD;rw[if_pos A,List.append_nil]
   ·have:qJ S e≠0:=(by unfold qJ;rw[if_pos A];exact je (by decide));unfold grown;exact⟨⟨by rw[List.append_nil];exact hS,λh=>absurd h this⟩,λh=>absurd h this⟩
  ·refine⟨⟨[qK (qM s) 0],qJ S e,qu S⟩,rfl,?_,rfl,?_,?_,λp a u=> ?_⟩
   ·show(S++[_]).length=(qD S (qK (qM s) 0)).length;unfold qD;rw[if_neg A]
   ·show qa AT.cells (S++[_])=qa AT.cells (qD S (qK (qM s) 0));unfold qD;rw[if_neg A]
   ·have e1:qJ S e=e:=(by unfold qJ;rw[if_neg A]);have e2:qu S=S.length:=(by unfold qu;rw[if_neg A]);show grown S e [_] (qJ S e)/\(qJ S e=0->0<=qu S/\qu S<((S++[_]).length:Int));rw[e1,e2];refine⟨⟨by simp;omega,λh=>⟨h,λa u=> ?_⟩⟩,λ_=>by simp;omega⟩;simp at u;subst u;exact zpv N O
   ·simp at u;subst u;exact H2 _ _ _
 refine⟨⟨⟨0,false⟩,rfl,rfl,Nat.zero_le _⟩,?_⟩;rintro⟨j,d⟩ V;simp only at*;have tail:∀C:List AT,C=S->(C.length<1000/\((findF s C 0).isSome=true->0<=wy (findF s C 0)/\wy (findF s C 0)<S.length)):=λC h=>by subst h;exact⟨by omega,HX⟩
 refine⟨λH=>⟨λhd=>⟨⟨by omega,by omega⟩,⟨j+1,true⟩,by show((j+1:Nat):Int)=_;omega,rfl,by show j+1<=_;omega,by show _- (j+1)<_;omega⟩,λhd=>⟨⟨by omega,H⟩,⟨by omega,by omega⟩,⟨j+1,_⟩,by show((j+1:Nat):Int)=_;omega,rfl,by show j+1<=_;omega,by show _- (j+1)<_;omega⟩⟩,λT=>⟨λhd=>⟨⟨by omega,by omega⟩,S,rfl,rfl,by omega,λJ=>⟨⟨[],e,wy (findF (vB sp s) S 0)⟩,rfl,by rw[List.append_nil],rfl,by rw[List.append_nil],same _ (HX J),λp a u=>by cases u⟩,λJ=>⟨S,rfl,rfl,by omega,λG=>⟨S,rfl,rfl,⟨[],qt e 4,0⟩,rfl,by rw[List.append_nil],rfl,by rw[List.append_nil],bad,λp a u=>by cases u⟩,λG=>⟨⟨[],e,wy (findF s S 0)⟩,rfl,by rw[List.append_nil],rfl,by rw[List.append_nil],same _ (HX G),λp a u=>by cases u⟩⟩⟩,λhd=>⟨S,rfl,rfl,by omega,λG=>⟨S,rfl,rfl,⟨[],qt e 4,0⟩,rfl,by rw[List.append_nil],rfl,by rw[List.append_nil],bad,λp a u=>by cases u⟩,λG=>⟨⟨[],e,wy (findF s S 0)⟩,rfl,by rw[List.append_nil],rfl,by rw[List.append_nil],same _ (HX G),λp a u=>by cases u⟩⟩⟩⟩
end
abbrev vL:=List AT×Int×GJ×O6×Int
def y7:vL->Prop:=λ⟨S,e,g,sp,d⟩=>S.length<=60/\g.wf/\1<=d/\d<=21/\(sp.size:Int)<=1100*d
def zG:vL->qP->Prop:=λ⟨S,e,g,sp,d⟩ ⟨T,h,r⟩=>grown S e T h/\(h=0->0<=r/\r<(S++T).length)
def wV:CtR where
 σ:=vL
 args:=λ⟨S,e,g,sp,d⟩=>[.ptr 1 0,g.av, .sv (.string sp), .sv (.int .i64 d)]
 h:=λ⟨S,e,g,sp,d⟩=>jt S e 2 3
 m:=4
 pre:=y7
 mem:=λ⟨S,e,g,sp,d⟩=>gM g
 β:=λ_=>qP
 post:=zG
 pm:=λ_ ⟨T,u,r⟩=>GY T
 r:=λ_ ⟨T,u,r⟩=> .sv (.int .i64 r)
 h':=λ⟨S,e,g,sp,d⟩ ⟨T,u,r⟩=>jt (S++T) u 4 5
 m':=6
def Hu:CtR:={wV with pre:=λs=>y7 s/\s.2.2.2.2<=20}
def j_:vL->Nat:=λ⟨S,e,g,sp,d⟩=>(25- d).toNat
abbrev K1:=Nat×Int×List AT×List Int
def Lm(S:List AT) (e:Int) (g:GJ):K1->Prop:=λ⟨i,h,T,l⟩=>i<=g.l.length/\(S++T).length<=60/\(h=0->e=0/\S.length<60/\l.length=i/\(∃T',T=qK 14 0::T'/\∀a∈T',kK (S++T).length a)/\∀b∈l,0<=b/\b<(S++T).length)
def zky:vL->WayF:=λ⟨S,e,g,sp,d⟩=>{
 ann:=λid _ _=>match id with
  |0=>some {σ:=K1,pre:=Lm S e g,mem:=λ⟨i,u,T,l⟩=>GY T,t:=λ⟨i,u,T,l⟩=>[(11, .sv (.int .i64 (i:Int))),(10, .ssl 13 0 l.length 1 14)],h:=λ⟨i,u,T,l⟩=>jt (S++T) u 11 12++[(13, .row 3 0 (qa qh l))],more:=4,μ:=λ⟨i,u,T,l⟩=>g.l.length- i,keep:=[0,2,3,5,8,9],del:=[9]}
  |_=>some {σ:=Nat,t:=λm=>[(13, .sv (.int .i64 (m:Int)))],h:=λ_=>[],more:=0,μ:=λm=>100- m,keep:=[0,2,3,5,8,9,10,11,12]}
 pub:=λi k=>match i,k with
  |22,9=>[109]
  |_,_=>[]}
section
variable (a:GJ) (f:List AT×Int×AT) (e:List AT) (i:Int) (j:O6) (o:Int) (r:Nat) (b:K1) (d:qP) (m:vL) (F:Prop) (t:Nat->Option Obj) (w:Option Addr) (I:List AT×Int) (B:Int) (G:List AT)
 abbrev Um:=(↑(GJ.y a).2.1:Int)
 def Kb:=∀(c:AT),c∈d.1->AT.ok c t
 def R1:=∃(c:List AT),B=B/\length c=length (qD f.1 f.2.2)/\qJ f.1 f.2.1=qJ f.1 f.2.1/\qa AT.cells c=qa AT.cells (qD f.1 f.2.2)/\True/\∃(g:qP),g.2.2=0/\length (e++g.1)=length c/\g.2.1=qt (qJ f.1 f.2.1) B/\qa AT.cells (e++g.1)=qa AT.cells c/\zG (e,i,a,j,o) g/\(∀q,True/\GJ.ok a q->Kb g q)/\True
 def Ul:=GJ.k a=GJ.k a/\GJ.n a=GJ.n a/\GJ.s a=GJ.s a/\(GJ.y a).1=(GJ.y a).1/\(GJ.y a).2.1=(GJ.y a).2.1/\(GJ.y a).2.2=(GJ.y a).2.2/\(GJ.x a).1=(GJ.x a).1/\(GJ.x a).2.1=(GJ.x a).2.1/\(GJ.x a).2.2=(GJ.x a).2.2/\F
 def Ka:=(True/\GJ.ok a t)/\∀(c:AT),c∈b.2.2.1->AT.ok c t
 def xF:=(Ka a b t)/\Kb d t
 def R3:=True/\∃(c:qP),c.2.2=0/\length (e++c.1)=length G/\c.2.1=qt d.2.1 6/\qa AT.cells (e++c.1)=qa AT.cells G/\zG (e,i,a,j,o) c/\(∀g,(xF a b d g)->Kb c g)/\True
 def R4:=d.2.2=d.2.2/\length b.2.2.2=length b.2.2.2/\length (m.1++d.1)=length (m.1++d.1)/\d.2.1=d.2.1/\F
 def Cb:=Jb ((↑r:Int)+1)/\∃(c:Nat),i=i/\(↑b.1:Int)=(↑b.1:Int)/\qu f.1=qu f.1/\(↑c:Int)=(↑r:Int)+1/\j=j/\R4 b d m (qa AT.cells (m.1++d.1)=qa AT.cells I.1/\qa qh b.2.2.2=qa qh b.2.2.2/\Ul a ((∀g,(xF a b d g)->xF a b d g)/\True/\(100:Nat)- c<100- r/\True))
 def P9:=(0<=(↑r:Int)/\(↑r:Int)<(↑(length b.2.2.2):Int))/\∃(c:Int),qfi (qa qh b.2.2.2) (nat_lit 0+toNat (↑r:Int)*nat_lit 1) [int i64 c]/\∃(g:List AT×Int),length g.1=length (m.1++d.1)/\g.2=c/\qa AT.cells g.1=qa AT.cells (m.1++d.1)/\length g.1<1000/\∃(q:List AT×Int),length q.1=length (m.1++d.1)/\q.2=d.2.2/\qa AT.cells q.1=qa AT.cells g.1/\length q.1<1000/\AV.agg [AV.ssl (nat_lit 19) (nat_lit 0) (length (m.1++d.1)) (nat_lit 10) (nat_lit 20)]=AV.agg [AV.ssl (nat_lit 19) (nat_lit 0) (length (m.1++d.1)) (nat_lit 10) (nat_lit 20)]/\Ji (uU g.1 g.2=uU q.1 q.2) (∃(u:List AT),(6:Int)=6/\length u=length (m.1++d.1)/\d.2.1=d.2.1/\qa AT.cells u=qa AT.cells q.1/\R3 a e i j o b d u) (Cb a f o j r b d m q)
 def P':=length (qa qh b.2.2.2)=length b.2.2.2*1/\(length b.2.2.2+nat_lit 1)*8<=140737488355328/\Jb ((↑b.1:Int)+1)/\∃(c:K1),i=i/\(↑c.1:Int)=(↑b.1:Int)+1/\qu f.1=qu f.1/\j=j/\length c.2.2.2=length b.2.2.2+nat_lit 1/\length (e++c.2.2.1)=length (m.1++d.1)/\c.2.1=d.2.1/\qa AT.cells (e++c.2.2.1)=qa AT.cells (m.1++d.1)/\qa qh c.2.2.2=qa qh b.2.2.2++[int i64 d.2.2]/\Ul a ((∀g,(xF a b d g)->True/\GJ.ok a g)/\(∀v,(xF a b d v)->∀(E:AT),E∈c.2.2.1->AT.ok E v)/\Lm e o a c/\length (GJ.l a)- c.1<length (GJ.l a)- b.1/\True)
 def il:=Ji ((↑r:Int)<(↑(length b.2.2.2):Int)) (P9 a f e i j o r b d m) (P' a f e o j i b d m)
 def ik:=(∃(c:Nat),i=i/\(↑b.1:Int)=(↑b.1:Int)/\qu f.1=qu f.1/\(↑c:Int)=0/\j=j/\R4 b d m (qa AT.cells (m.1++d.1)=qa AT.cells (m.1++d.1)/\qa qh b.2.2.2=qa qh b.2.2.2/\Ul a ((∀g,(xF a b d g)->xF a b d g)/\True/\True)))/\∀(C:Nat),True->il a f e o j i C b d m
 def ij:=(0<=d.2.2/\d.2.2<(↑(length (m.1++d.1)):Int))/\∃(c:Int),qfi (qa AT.cells (m.1++d.1)) (nat_lit 0+toNat d.2.2*nat_lit 10+0) [int i64 c]/\Ji (c=14) (∃(g:List AT),(6:Int)=6/\length g=length (m.1++d.1)/\d.2.1=d.2.1/\qa AT.cells g=qa AT.cells (m.1++d.1)/\R3 a e i j o b d g) (ik a f e o j i b d m)
 def ig:=((!decide (d.2.1=0))=true->∃(c:qP),c.2.2=0/\length (e++c.1)=length (m.1++d.1)/\c.2.1=d.2.1/\qa AT.cells (e++c.1)=qa AT.cells (m.1++d.1)/\zG (e,i,a,j,o) c/\(∀g,(xF a b d g)->Kb c g)/\True)/\((!decide (d.2.1=0))=false->ij a f e i j o b d m)
 def ie:=(0<=(↑b.1:Int)/\(↑b.1:Int)<(Um a))/\(GJ.y a).1≠noA/\∃(c:Int),∃(g:Int),∃q,∃u,∃(v:Nat),∃(A:Nat),∃C,∃(E:Nat),∃(i8:Nat),(∀J,(Ka a b J)->q2u J (adr (GJ.y a).1 (toNat (↑b.1:Int)*5)) [int i64 c,int i64 g,string q,slice u v A,slice C E i8])/\Jb (i+1)/\∃(h:vL),GJ.k h.2.2.1=c/\GJ.n h.2.2.1=g/\GJ.s h.2.2.1=q/\(GJ.y h.2.2.1).1=u/\(GJ.y h.2.2.1).2.1=v/\(GJ.y h.2.2.1).2.2=A/\(GJ.x h.2.2.1).1=C/\(GJ.x h.2.2.1).2.1=E/\(GJ.x h.2.2.1).2.2=i8/\h.2.2.2.1=j/\h.2.2.2.2=i+1/\length h.1=length (e++b.2.2.1)/\h.2.1=b.2.1/\qa AT.cells h.1=qa AT.cells (e++b.2.2.1)/\(j_ h<r/\y7 h)/\(∀p,(Ka a b p)->GJ.ok h.2.2.1 p)/\∀(z:qP),zG h z->(∃H,xF a b z H)->ig a f e o j i b z h
 def R5:=(Ka a b t)/\length b.2.2.2<=r/\qfu t w (take (length b.2.2.2*nat_lit 1) (qa qh b.2.2.2))
 def Ca:=nat_lit 0+toNat (qu f.1)*nat_lit 10+9+length [slice w (length b.2.2.2) r]<=length (qa AT.cells (e++b.2.2.1))/\∃(c:qP),c.2.2=qu f.1/\length (e++c.1)=length (e++b.2.2.1)/\c.2.1=b.2.1/\qa AT.cells (e++c.1)=spl (qa AT.cells (e++b.2.2.1)) (nat_lit 0+toNat (qu f.1)*nat_lit 10+9) [slice w (length b.2.2.2) r]/\zG (e,i,a,j,o) c/\(∀g,R5 a r b g w->Kb c g)/\True
 def P_:=(0<=qu f.1/\qu f.1<(↑(length (e++b.2.2.1)):Int))/\∀(c g q:Nat) (u:Option Addr) (v A:Nat),(∃C,R5 a A b C u)->Ca a f e i j o A b u
 def Aj:=Ji (b.2.1=0) (P_ a f e i j o b) (∃(p:qP),p.2.2=qu f.1/\length (e++p.1)=length (e++b.2.2.1)/\p.2.1=b.2.1/\qa AT.cells (e++p.1)=qa AT.cells (e++b.2.2.1)/\zG (e,i,a,j,o) p/\(∀D,(Ka a b D)->Kb p D)/\True)
 def ib:=Ji (b.2.1=0) (ie a f e i j o r b) (Aj a f e o j i b)
 def ia:=Ji ((↑b.1:Int)<(Um a)) (ib a f e i j o r b) (Aj a f e o j i b)
 def h_:=(∃(c:K1),i=i/\(↑c.1:Int)=0/\qu f.1=qu f.1/\j=j/\length c.2.2.2=0/\length (e++c.2.2.1)=length (qD f.1 f.2.2)/\c.2.1=qJ f.1 f.2.1/\qa AT.cells (e++c.2.2.1)=qa AT.cells (qD f.1 f.2.2)/\Ul a ((∀g,True/\GJ.ok a g->True/\GJ.ok a g)/\(∀q,True/\GJ.ok a q->∀(u:AT),u∈c.2.2.1->AT.ok u q)/\Lm e o a c/\True))/\∀(v:K1),Lm e o a v->(∃A,Ka a v A)->ia a f e i j o r v
 def hZ:=Ji (30<(Um a)) (R1 a f e i j o 3) (h_ a f e o j i r)
end
def zfy(n:Nat) (S:List AT) (e:Int) (g:GJ) (sp:O6) (d:Int):qiy P (qef [(69,Va),(99,EG),(63,wT)]) (qff [(32,wV.below j_ n)]) Tryz.f65 (Hu.below j_ (n+1)) (zky) ⟨S,e,g,sp,d⟩=(j_ (S,e,g,sp,d)<n+1/\y7 (S,e,g,sp,d)/\d<=20->(∃(p:Pub),True/\GJ.ok g p)->∃(s:List AT×Int×AT),AT.k s.2.2=14/\AT.nm s.2.2=mkS []/\(AT.al s.2.2).1=noA/\(AT.al s.2.2).2.1=0/\(AT.al s.2.2).2.2=0/\AT.it s.2.2=0/\(AT.sy s.2.2).1=noA/\(AT.sy s.2.2).2.1=0/\(AT.sy s.2.2).2.2=0/\AT.hd s.2.2=false/\AT.df s.2.2=mkS []/\AT.sz s.2.2=0/\(AT.f s.2.2).1=noA/\(AT.f s.2.2).2.1=0/\(AT.f s.2.2).2.2=0/\(AT.br s.2.2).1=noA/\(AT.br s.2.2).2.1=0/\(AT.br s.2.2).2.2=0/\length s.1=length S/\s.2.1=e/\qa AT.cells s.1=qa AT.cells S/\True/\Ji ((Um g)=0) (R1 g s S e sp d 6) (hZ g s S e sp d n)):=by kernel_rfl
def zk9:=λn S e g sp d=>Eq.trans (zfy n S e g sp d) (by delta Ji Jb Jt Jf Um Kb R1 Ul Ka xF R3 R4 Cb P9 P' il ik ij ig ie R5 Ca P_ Aj ib ia h_ hZ;exact rfl)
def Io(x:SV) (l:List Int):AT:={qK 14 0 with br:=x,brs:=l}
def JP{α:Type} {f:α->List Value} (a:α) (l:List α):qa f (a::l)=f a++qa f l:=rfl
def j8r(A B:List AT) (x:SV) (l:List Int):qa AT.cells (A++Io x l::B)=spl (qa AT.cells (A++qK 14 0::B)) (0+A.length*10+9) [k_ x]:=by
 rw[zF,zF,JP,JP,Nat.zero_add];have h:=qB yU A;rw[←h];show _=(qa AT.cells A++((qK 14 0).cells++qa AT.cells B)).set ((qa AT.cells A).length+9) (k_ x);have key:∀(P Q:List Value) (v:Value),(P++Q).set (P.length+9) v=P++Q.set 9 v:=λP Q v=>by
  induction P with
  |nil=>simp
  |cons a P u=>rw[List.cons_append,List.length_cons,Nat.add_right_comm,List.set_cons_succ,u];rfl
 rw[key];rfl
def j7s{l:List Int} {i:Nat} (h:i<l.length):∀(j:Nat) (v:Value),[Value.int .i64 l[i]][j]? =some v->(qa qh l)[0+i*1+j]? =some v:=λj v u=>by
 cases j with
 |zero=>rw[Nat.zero_add,JY yX l i h 0 (by decide)];exact u
 |succ j=>simp at u
def z6z{n m:Nat} {a:AT} (h:n<=m) (g:kK n a):kK m a:=
 ⟨g.1,λk=>by have:=g.2.1 k;omega,λb A=>by have:=g.2.2.1 b A;omega,g.2.2.2.1,λf u=>⟨by have:=(g.2.2.2.2.1 f u).1;omega,(g.2.2.2.2.1 f u).2⟩,g.2.2.2.2.2⟩
def Oe{S:List AT} {e:Int} (h:60<=S.length):qJ S e≠0:=by unfold qJ;rw[if_pos h];exact je (by decide)
def zM(S:List AT) (t:AT):List AT:=if 60<=S.length then []else [t]
def jR(S:List AT) (t:AT):qD S t=S++zM S t:=by
 unfold qD zM;split
 ·rw[List.append_nil]
 ·rfl
def zka(n:Nat) (ht:q1i P 32 (wV.below j_ n)):q1i P 65 (Hu.below j_ (n+1)):=by
 refine zI (qbu (qfr Hm (qfr j8x (qfr xw qil)))) (qcl (qfq ht qik)) (W:=zky) Tryz.func65 λ⟨S,(e:Int),g,sp,(d:Int)⟩=>(zk9 n S e g sp d).mpr ?_;rintro⟨hmu,⟨hS,hg,hd1,hd2,hsp⟩,hd20⟩ ⟨p,_,hp⟩;have hmu:(25- d).toNat<n+1:=hmu;have hd20:d<=20:=hd20;have hgw:=hg;rw[GJ.wf_eq]at hgw;have hy:=λq (hq:g.ok q)=>(show qb GJ.cells g.y g.l q by rw[GJ.ok_eq]at hq;exact hq.1);have yl:g.y.2.1=g.l.length:=(hy p hp).1;simp only[qy,exists_const,forall_const,Int.toNat_natCast];have adl:(zM S (qK 14 0)).length<=1/\(S++zM S (qK 14 0)).length<=60:=by
  unfold zM;split
  ·rw[List.append_nil];exact⟨by decide,hS⟩
  ·exact⟨by decide,by simp;omega⟩
 have H:∀q,∀a∈zM S (qK 14 0),a.ok q:=λq a G=>by
  unfold zM at G;split at G
  ·cases G
  ·simp at G;subst G;exact H2 _ _ _
 have bad0:∀k:Int,k≠0->zG (S,e,g,sp,d) (zM S (qK 14 0),qt (qJ S e) k,0):=λk hk=>by have:=je (e0:=qJ S e) hk;exact⟨⟨adl.2,λh=>absurd h this⟩,λh=>absurd h this⟩
 refine⟨⟨S,e,qK 14 0⟩,rfl,rfl,rfl,rfl,rfl,rfl,rfl,rfl,rfl,rfl,rfl,rfl,rfl,rfl,rfl,rfl,rfl,rfl,rfl,rfl,rfl,λh0=>⟨qD S (qK 14 0),rfl,rfl,⟨zM S (qK 14 0),qt (qJ S e) 6,0⟩,rfl,by rw[jR],rfl,by rw[jR],bad0 6 (by decide),λq _=>H q⟩,λh0=>⟨λh30=>⟨qD S (qK 14 0),rfl,rfl,⟨zM S (qK 14 0),qt (qJ S e) 3,0⟩,rfl,by rw[jR],rfl,by rw[jR],bad0 3 (by decide),λq _=>H q⟩,λh30=>⟨⟨⟨0,qJ S e,zM S (qK 14 0),[]⟩,rfl,rfl,by rw[jR],rfl,by rw[jR],λq _=>H q,?_⟩,?_⟩⟩⟩
 ·refine⟨by show 0<=_;omega,adl.2,λh=> ?_⟩;by_cases hl:60<=S.length
  ·exact absurd h (Oe hl)
  ·have e1:qJ S e=e:=(by unfold qJ;rw[if_neg hl]);have e2:zM S (qK 14 0)=[qK 14 0]:=(by unfold zM;rw[if_neg hl]);exact⟨by rw[←e1];exact h,by omega,rfl,⟨[],e2,λa G=>(by cases G)⟩,λb hb=>(by cases hb)⟩
 rintro⟨i,e',T,l⟩ ⟨hi,hT,hE⟩ _;simp only at*;have fin:e'=0->g.l.length<=i->∀(a:Option Addr) (c:Nat) (q0:Pub),(l.length<=c/\qfu q0 a (List.take (l.length*1) (qa qh l)))->0+(qu S).toNat*10+9+1<=(qa AT.cells (S++T)).length/\∃b:qP,b.2.2=qu S/\(S++b.1).length=(S++T).length/\b.2.1=e'/\qa AT.cells (S++b.1)=spl (qa AT.cells (S++T)) (0+(qu S).toNat*10+9) [.slice a l.length c]/\zG (S,e,g,sp,d) b/\∀q,(g.ok q/\∀a∈T,a.ok q)/\(l.length<=c/\qfu q a (List.take (l.length*1) (qa qh l)))->∀a∈b.1,a.ok q:=λA hge a c q0 hq0=>by
  obtain⟨X,O,Y,⟨T',rfl,N⟩,V⟩:=hE A;have er:qu S=S.length:=by unfold qu;rw[if_neg (by omega)]
  rw[er,Int.toNat_natCast];have hlen:(S++qK 14 0::T').length=S.length+T'.length+1:=by simp;omega
  have C:∀x,(S++Io x l::T').length=S.length+T'.length+1:=λx=>by simp;omega
  refine⟨by rw[qB yU,hlen];omega,⟨Io (a,l.length,c) l::T',e',S.length⟩,rfl,by rw[hlen,C],rfl,j8r S T' _ l,⟨⟨by rw[C];omega,λ_=>⟨X,λx hx=> ?_⟩⟩,λ_=>⟨by show 0<=(S.length:Int);omega,by rw[C];show(S.length:Int)<_;omega⟩⟩,λq hq x hx=> ?_⟩
  ·rw [C];rw[hlen]at N V;rcases List.mem_cons.1 hx with rfl|hx
   ·refine⟨⟨by show(1:Int)<=14;omega,by show(14:Int)<=14;omega⟩,λh=> ?_,V,λ_ h=> ?_,λf hf=>(by cases hf),λh=> ?_,λh=> ?_,⟨Nat.zero_le _,?_,Nat.zero_le _⟩⟩
    ·have h:(14:Int)=12\/(14:Int)=13:=h;omega
    ·have h:l=[]:=h;rw[h]at Y;have:i=0:=Y.symm;omega
    ·have h:(14:Int)=10:=h;omega
    ·have h:(14:Int)=11:=h;omega
    ·show l.length<=30;omega
   ·exact N x hx
  ·rcases List.mem_cons.1 hx with rfl|hx
   ·refine⟨qQ,qQ,qQ,⟨rfl,hq.2.1,?_⟩,λf hf=>(by cases hf)⟩;have:=hq.2.2;rw[List.take_of_length_le (by rw[qB yX];exact Nat.le_refl _)]at this;exact this
   ·exact hq.1.2 x (List.mem_cons_of_mem _ hx)
 have out:e'≠0->zG (S,e,g,sp,d) (T,e',qu S):=λh=>⟨⟨hT,λh2=>absurd h2 h⟩,λh2=>absurd h2 h⟩;refine⟨λhlt=>⟨λA=> ?_,λA=>⟨λh=>absurd h A,λ_=>⟨⟨T,e',qu S⟩,rfl,rfl,rfl,rfl,out A,λq hq=>hq.2⟩⟩⟩,λhge=>⟨λA=> ?_,λA=>⟨⟨T,e',qu S⟩,rfl,rfl,rfl,rfl,out A,λq hq=>hq.2⟩⟩⟩
 ·have hil:i<g.l.length:=by omega
  obtain⟨X,O,Y,⟨T',hTe,N⟩,V⟩:=hE A;have hat:=λq (hq:g.ok q)=>j3 ZB (by decide) (hy q hq) hil;have hgi:g.l[i].wf:=GJ.wfs_at hgw.2.2.2.2.2.2 hil;refine⟨by omega,(hat p hp).1,g.l[i].k,g.l[i].n,g.l[i].s,g.l[i].y.1,g.l[i].y.2.1,g.l[i].y.2.2,g.l[i].x.1,g.l[i].x.2.1,g.l[i].x.2.2,λq hq=>(hat q hq.1).2,⟨by omega,by omega⟩,⟨S++T,e',g.l[i],sp,d+1⟩,rfl,rfl,rfl,rfl,rfl,rfl,rfl,rfl,rfl,rfl,rfl,rfl,rfl,rfl,⟨by show(25- (d+1)).toNat<n;omega,hT,hgi,by omega,by omega,by omega⟩,λq hq=>by have:=hq.1;rw[GJ.ok_eq]at this;exact GJ.oks_at this.2.2 hil,?_⟩;rintro⟨U,e2,r⟩ ⟨⟨hU,hU2⟩,hr⟩ _;simp only at hU hU2 hr⊢;have u:S++T++U=S++(T++U):=List.append_assoc _ _ _;have J:∀k,k≠0->zG (S,e,g,sp,d) (T++U,k,0):=λk hk=>⟨⟨by rw[←u];exact hU,λh2=>absurd h2 hk⟩,λh2=>absurd h2 hk⟩;have Z:∀q,((g.ok q/\∀a∈T,a.ok q)/\∀a∈U,a.ok q)->∀a∈T++U,a.ok q:=λq hq a G=>(List.mem_append.1 G).elim (hq.1.2 a) (hq.2 a);refine⟨λhne=>⟨⟨T++U,e2,0⟩,rfl,by rw[u],rfl,by rw[u],J e2 hne,Z⟩,λheq=> ?_⟩;subst heq;obtain⟨r0,r1⟩:=hr rfl;obtain⟨_,hUg⟩:=hU2 rfl;obtain⟨k,rfl⟩:=Int.eq_ofNat_of_zero_le r0;have hk:k<(S++T++U).length:=by omega
  rw[Int.toNat_natCast];refine⟨⟨r0,r1⟩,(S++T++U)[k].k,λj v hj=> ?_,λh14=>⟨S++T++U,rfl,rfl,⟨T++U,qt 0 6,0⟩,rfl,by rw[u],rfl,by rw[u],J _ (je (by decide)),Z⟩,λh14=>⟨⟨0,rfl⟩,?_⟩⟩
  ·cases j with
   |zero=>have hj:some (Value.int .i64 (S++T++U)[k].k)=some v:=hj;cases hj;exact HK hk 0 _ rfl
   |succ j=>simp at hj
  intro m;refine⟨λhm=> ?_,λhm=> ?_⟩
  ·have hml:m<l.length:=(by omega);refine⟨by omega,l[m],j7s hml,⟨S++T++U,l[m]⟩,rfl,rfl,rfl,by show(S++T++U).length<_;omega,⟨S++T++U,(k:Int)⟩,rfl,rfl,rfl,by show(S++T++U).length<_;omega,?_⟩;refine⟨λ_=>⟨S++T++U,rfl,rfl,⟨T++U,qt 0 6,0⟩,rfl,by rw[u],rfl,by rw[u],J _ (je (by decide)),Z⟩,λ_=>⟨⟨by omega,by omega⟩,m+1,by omega,rfl,by omega⟩⟩
  ·refine⟨qB yX l,by omega,⟨by omega,by omega⟩,⟨i+1,0,T++U,l++[(k:Int)]⟩,by show((i+1:Nat):Int)=_;omega,by show(l++[_]).length=_;simp,by rw[u],rfl,by rw[u],by show qa qh (l++[_])=_;rw[zF];rfl,λq hq=>hq.1.1,λq hq=>Z q hq,⟨by show i+1<=_;omega,by rw[←u];exact hU,λ_=>⟨X,O,by show(l++[_]).length=i+1;simp;omega,⟨T'++U,by show T++U=_;rw[hTe];rfl,λa G=> ?_⟩,λb hb=> ?_⟩⟩,by show _- (i+1)<_;omega⟩
   ·show kK (S++(T++U)).length a;rw[←u];rcases List.mem_append.1 G with G|G
    ·exact z6z (by have:(S++T++U).length=(S++T).length+U.length:=List.length_append;omega) (N a G)
    ·exact hUg a G
   ·show 0<=b/\b<((S++(T++U)).length:Int);rw[←u];have hlen:(S++T++U).length=(S++T).length+U.length:=List.length_append;rcases List.mem_append.1 hb with hb|hb
    ·have:=V b hb;omega
    ·simp at hb;subst hb;exact⟨r0,r1⟩
 ·obtain⟨X,O,Y,⟨T',hTe,N⟩,V⟩:=hE A;have er:qu S=S.length:=by unfold qu;rw[if_neg (by omega)]
  refine⟨⟨by omega,by rw[er,hTe];simp;omega⟩,?_⟩;rintro a c ⟨q0,hq0⟩;exact fin A (by omega) a c q0 hq0.2
abbrev Xp:=List AT×Int×GJ×Int×O6×Int
def Hs:CtR where
 σ:=Xp
 args:=λ⟨S,e,g,k,sp,d⟩=>[.ptr 1 0,g.av, .sv (.int .i64 k), .sv (.string sp), .sv (.int .i64 d)]
 h:=λ⟨S,e,g,k,sp,d⟩=>jt S e 2 3
 m:=4
 pre:=λ⟨S,e,g,k,sp,d⟩=>y7 (S,e,g,sp,d)/\d<=20/\(k=9\/k=10\/k=11)
 mem:=λ⟨S,e,g,k,sp,d⟩=>gM g
 β:=λ_=>qP
 post:=λ⟨S,e,g,k,sp,d⟩ b=>zG (S,e,g,sp,d) b
 pm:=λ_ ⟨T,u,r⟩=>GY T
 r:=λ_ ⟨T,u,r⟩=> .sv (.int .i64 r)
 h':=λ⟨S,e,g,k,sp,d⟩ ⟨T,u,r⟩=>jt (S++T) u 4 5
 m':=6
def Vf:Xp->Nat:=λ⟨S,e,g,k,sp,d⟩=>(25- d).toNat
def uo(s:O6):Bool:=decide (s=mkS [114,101,99,111,114,100])||decide (s=mkS [101,110,117,109])||decide (s=mkS [102,105,120,101,100])
def x0(s:O6):Bool:=decide (s=mkS [97,114,114,97,121])||decide (s=mkS [109,97,112])
def Qv(s:O6):O6:=if s=mkS [109,97,112]then mkS [118,97,108,117,101,115]else mkS [105,116,101,109,115]
def vw(g:GJ):GJ:=(qp (mkS [116,121,112,101]) g).getD zJ
def zw1:vL->WayF:=λ⟨S,e,g,sp,d⟩=>{
 cut:=λi t _=>match i with
  |20=>some {σ:=Unit,t:=λ_=>[(63, .sv (.bool (uo (vw g).s)))],h:=λ_=>[],more:=0,μ:=λ_=>0,keep:=[0,2,3,5,8,9,62]}
  |23=>some {σ:=Unit,t:=λ_=>[(75, .sv (.bool (x0 (vw g).s)))],h:=λ_=>[],more:=0,μ:=λ_=>0,keep:=[0,2,3,5,8,9,62]}
  |27=>some {σ:=Unit,t:=λ_=>[(12, .sv (.string (Qv (vw g).s)))],h:=λ_=>[],more:=0,μ:=λ_=>0,keep:=[0,2,3,5,8,9,11]}
  |_=>none
 spl:=λi=>match i with
  |20=>some 7
  |_=>none}
section
variable (e:Int) (d:List AT) (b:GJ) (g:O6) (h:Int) (p:Nat) (c:GJ×O6) (l:List AT×Int×AT) (m:qP) (o:vL) (j:List AT×Int×O6×O6) (t:Prop) (w:Int) (u:qP)
 abbrev LA:=zG (d,e,b,g,h) m/\(∀a,True/\GJ.ok b a->∀(i:AT),i∈m.1->AT.ok i a)/\True
 def Lz:=∃(a:List AT),w=w/\length a=length d/\e=e/\qa AT.cells a=qa AT.cells d/\True/\∃(i:qP),i.2.2=0/\length (d++i.1)=length a/\i.2.1=qt e w/\qa AT.cells (d++i.1)=qa AT.cells a/\LA e d b g h i
 def Cj:=0<=m.2.2/\m.2.2<(↑(length (j.1++m.1)):Int)
 def Un:=∃a,(True/\GJ.ok b a)/\∀(i:AT),i∈m.1->AT.ok i a
 def Yn:=zG (d,e,b,g,h) m/\(∀a,((True/\GJ.ok b a)/\∀(i:AT),i∈u.1->AT.ok i a)->∀(q:AT),q∈m.1->AT.ok q a)/\True
 def R7:=j.2.2.2=g/\length j.1=length d/\j.2.1=e/\qa AT.cells j.1=qa AT.cells d/\(length j.1<=60/\size j.2.2.1<100000/\size j.2.2.2<100000)/\∀(a:qP),grown j.1 j.2.1 a.1 a.2.1/\(a.2.1=0->Cj a j)->(Un b a)->∃(z:qP),z.2.2=a.2.2/\length (d++z.1)=length (j.1++a.1)/\z.2.1=a.2.1/\qa AT.cells (d++z.1)=qa AT.cells (j.1++a.1)/\Yn e d b g h z a
 def Th:=length (d++m.1)=length (o.1++u.1)/\m.2.1=u.2.1/\qa AT.cells (d++m.1)=qa AT.cells (o.1++u.1)/\t
 def R_:=(∀a,True/\GJ.ok b a->GJ.ok o.2.2.1 a)/\∀(i:qP),zG o i->(Un b i)->∃(v:qP),v.2.2=i.2.2/\Th d v o (Yn e d b g h v i) i
 def R':=GJ.k c.1=GJ.k b/\GJ.n c.1=GJ.n b/\GJ.s c.1=GJ.s b/\(GJ.y c.1).1=(GJ.y b).1/\(GJ.y c.1).2.1=(GJ.y b).2.1/\(GJ.y c.1).2.2=(GJ.y b).2.2/\(GJ.x c.1).1=(GJ.x b).1/\(GJ.x c.1).2.1=(GJ.x b).2.1/\(GJ.x c.1).2.2=(GJ.x b).2.2/\t
 abbrev qS:=Option.getD (qp c.2 c.1) zJ
 abbrev Ti:=Jb (e+1)
 def R9:=GJ.k o.2.2.1=GJ.k (qS c)/\GJ.n o.2.2.1=GJ.n (qS c)/\GJ.s o.2.2.1=GJ.s (qS c)/\(GJ.y o.2.2.1).1=(GJ.y (qS c)).1/\(GJ.y o.2.2.1).2.1=(GJ.y (qS c)).2.1/\(GJ.y o.2.2.1).2.2=(GJ.y (qS c)).2.2/\(GJ.x o.2.2.1).1=(GJ.x (qS c)).1/\(GJ.x o.2.2.1).2.1=(GJ.x (qS c)).2.1/\(GJ.x o.2.2.1).2.2=(GJ.x (qS c)).2.2/\o.2.2.2.1=g/\o.2.2.2.2=e+1/\t
 def Cf:=Ti e/\∃(a:vL),R9 e g c a (length a.1=length d/\a.2.1=h/\qa AT.cells a.1=qa AT.cells d/\(j_ a<p/\y7 a)/\R_ h d b g e a)
 abbrev Ta:=GJ.s (qS c)=mkS [114,101,99,111,114,100]
 def R8:=GJ.k b=GJ.k b/\GJ.n b=GJ.n b/\GJ.s b=GJ.s b/\(GJ.y b).1=(GJ.y b).1/\(GJ.y b).2.1=(GJ.y b).2.1/\(GJ.y b).2.2=(GJ.y b).2.2/\(GJ.x b).1=(GJ.x b).1/\(GJ.x b).2.1=(GJ.x b).2.1/\(GJ.x b).2.2=(GJ.x b).2.2/\t
 def R6:=GJ.k (qS c)=GJ.k (qS c)/\GJ.n (qS c)=GJ.n (qS c)/\GJ.s (qS c)=GJ.s (qS c)/\(GJ.y (qS c)).1=(GJ.y (qS c)).1/\(GJ.y (qS c)).2.1=(GJ.y (qS c)).2.1/\(GJ.y (qS c)).2.2=(GJ.y (qS c)).2.2/\(GJ.x (qS c)).1=(GJ.x (qS c)).1/\(GJ.x (qS c)).2.1=(GJ.x (qS c)).2.1/\(GJ.x (qS c)).2.2=(GJ.x (qS c)).2.2/\(∀a,True/\GJ.ok b a->True/\GJ.ok b a)/\True/\True
 def Ym:=g=g/\GJ.s (qS c)=GJ.s (qS c)/\length d=length d/\e=e/\qa AT.cells d=qa AT.cells d/\R8 b (R6 b c)
 abbrev Td:=GJ.s (qS c)=mkS [101,110,117,109]
 def Ch:=Ji (Td c) (∃(a:Unit),e=e/\uo (GJ.s (vw b))=decide (Td c)/\Ym h d b g c) (∃(i:Unit),e=e/\uo (GJ.s (vw b))=decide (GJ.s (qS c)=mkS [102,105,120,101,100])/\Ym h d b g c)
 abbrev Tf:=slice (GJ.y b).1 (GJ.y b).2.1 (GJ.y b).2.2
 abbrev Tg:=slice (GJ.x b).1 (GJ.x b).2.1 (GJ.x b).2.2
 def Ce:=GJ.s (qS c)=GJ.s (qS c)/\True/\AV.agg [AV.sv (int i64 (GJ.k b)),AV.sv (int i64 (GJ.n b)),AV.sv (string (GJ.s b)),AV.sv (Tf b),AV.sv (Tg b)]=AV.agg [AV.sv (int i64 (GJ.k b)),AV.sv (int i64 (GJ.n b)),AV.sv (string (GJ.s b)),AV.sv (Tf b),AV.sv (Tg b)]/\∃(a:Xp),GJ.k a.2.2.1=GJ.k b/\GJ.n a.2.2.1=GJ.n b/\GJ.s a.2.2.1=GJ.s b/\(GJ.y a.2.2.1).1=(GJ.y b).1/\(GJ.y a.2.2.1).2.1=(GJ.y b).2.1/\(GJ.y a.2.2.1).2.2=(GJ.y b).2.2/\(GJ.x a.2.2.1).1=(GJ.x b).1/\(GJ.x a.2.2.1).2.1=(GJ.x b).2.1/\(GJ.x a.2.2.1).2.2=(GJ.x b).2.2/\a.2.2.2.1=qM (GJ.s (qS c))/\a.2.2.2.2.1=g/\a.2.2.2.2.2=e/\length a.1=length d/\a.2.1=h/\qa AT.cells a.1=qa AT.cells d/\(Vf a<p+1/\y7 (a.1,a.2.1,a.2.2.1,a.2.2.2.2.1,a.2.2.2.2.2)/\a.2.2.2.2.2<=20/\(a.2.2.2.1=9\/a.2.2.2.1=10\/a.2.2.2.1=11))/\(∀i,True/\GJ.ok b i->GJ.ok a.2.2.1 i)/\∀(q:qP),zG (a.1,a.2.1,a.2.2.1,a.2.2.2.2.1,a.2.2.2.2.2) q->(Un b q)->∃(A:qP),A.2.2=q.2.2/\length (d++A.1)=length (a.1++q.1)/\A.2.1=q.2.1/\qa AT.cells (d++A.1)=qa AT.cells (a.1++q.1)/\Yn h d b g e A q
 abbrev Tc:=GJ.s (qS c)=mkS [97,114,114,97,121]
 abbrev Te:=GJ.s (qS c)=mkS [109,97,112]
 def Tb:=length (qD l.1 l.2.2)=length (qD l.1 l.2.2)/\qJ l.1 l.2.1=qJ l.1 l.2.1/\R8 b (qa AT.cells (qD l.1 l.2.2)=qa AT.cells (qD l.1 l.2.2)/\R6 b c)
 def Ci:=(0<=qu l.1/\qu l.1<(↑(length (o.1++m.1)):Int))/\nat_lit 0+toNat (qu l.1)*nat_lit 10+3+length [int i64 m.2.2]<=length (qa AT.cells (o.1++m.1))/\∃(a:qP),a.2.2=qu l.1/\length (d++a.1)=length (o.1++m.1)/\a.2.1=m.2.1/\qa AT.cells (d++a.1)=spl (qa AT.cells (o.1++m.1)) (nat_lit 0+toNat (qu l.1)*nat_lit 10+3) [int i64 m.2.2]/\Yn e d b g h a m
 def Cg:=Ji (m.2.1=0) (Ci e d b g h l m o) (∃(v:qP),v.2.2=qu l.1/\Th d v o (Yn e d b g h v m) m)
 def Cd:=Ti e/\∃(a:vL),R9 e g c a (length a.1=length (qD l.1 l.2.2)/\a.2.1=qJ l.1 l.2.1/\qa AT.cells a.1=qa AT.cells (qD l.1 l.2.2)/\(j_ a<p/\y7 a)/\(∀i,True/\GJ.ok b i->GJ.ok a.2.2.1 i)/\∀(q:qP),zG a q->(Un b q)->Cg h d b g e l q a)
 def Cc:=GJ.s (qS c)=GJ.s (qS c)/\True/\∃(a:List AT×Int×AT),AT.k a.2.2=qM (GJ.s (qS c))/\AT.nm a.2.2=mkS []/\(AT.al a.2.2).1=noA/\(AT.al a.2.2).2.1=0/\(AT.al a.2.2).2.2=0/\AT.it a.2.2=0/\(AT.sy a.2.2).1=noA/\(AT.sy a.2.2).2.1=0/\(AT.sy a.2.2).2.2=0/\AT.hd a.2.2=false/\AT.df a.2.2=mkS []/\AT.sz a.2.2=0/\(AT.f a.2.2).1=noA/\(AT.f a.2.2).2.1=0/\(AT.f a.2.2).2.2=0/\(AT.br a.2.2).1=noA/\(AT.br a.2.2).2.1=0/\(AT.br a.2.2).2.2=0/\length a.1=length d/\a.2.1=e/\qa AT.cells a.1=qa AT.cells d/\True/\(Ji (Te c) (∃(i:Unit),h=h/\qu a.1=qu a.1/\g=g/\Qv (GJ.s (vw b))=mkS [118,97,108,117,101,115]/\Tb b c a) (∃(z:Unit),h=h/\qu a.1=qu a.1/\g=g/\Qv (GJ.s (vw b))=mkS [105,116,101,109,115]/\Tb b c a))/\∀(A:Unit),True->∃(r:GJ×O6),R' b r (r.2=Qv (GJ.s (vw b))/\GJ.wf r.1/\(∀D,True/\GJ.ok b D->GJ.ok r.1 D)/\((!Option.isSome (qp r.2 r.1))=true->∃(i8:List AT),(2:Int)=2/\length i8=length (qD a.1 a.2.2)/\qJ a.1 a.2.1=qJ a.1 a.2.1/\qa AT.cells i8=qa AT.cells (qD a.1 a.2.2)/\True/\∃(C:qP),C.2.2=0/\length (d++C.1)=length i8/\C.2.1=qt (qJ a.1 a.2.1) 2/\qa AT.cells (d++C.1)=qa AT.cells i8/\LA e d b g h C)/\((!Option.isSome (qp r.2 r.1))=false->Cd h d b g e p r a))
 def iB:=(x0 (GJ.s (vw b))=true->Cc e d b g h p c)/\(x0 (GJ.s (vw b))=false->∃(B:List AT×Int×O6×O6),B.2.2.1=GJ.s (qS c)/\R7 e d b g h B)
 def iA:=(Ji (Tc c) (∃(a:Unit),e=e/\x0 (GJ.s (vw b))=decide (Tc c)/\Ym h d b g c) (∃(q:Unit),e=e/\x0 (GJ.s (vw b))=decide (Te c)/\Ym h d b g c))/\∀(v:Unit),True->iB h d b g e p c
 def iz:=(uo (GJ.s (vw b))=true->Ce e d b g h p c)/\(uo (GJ.s (vw b))=false->iA e d b g h p c)
 def iy:=(Ji (Ta c) (∃(a:Unit),e=e/\uo (GJ.s (vw b))=decide (Ta c)/\Ym h d b g c) (Ch e d b g h c))/\∀(r:Unit),True->iz e d b g h p c
 def iw:=((!decide (GJ.k (qS c)=4))=true->Cf e d b g h p c)/\((!decide (GJ.k (qS c)=4))=false->iy e d b g h p c)
 def iv:=Ji (GJ.k b=6) (∃(a:GJ×O6),R' b a (a.2=mkS [116,121,112,101]/\GJ.wf a.1/\(∀i,True/\GJ.ok b i->GJ.ok a.1 i)/\((!Option.isSome (qp a.2 a.1))=true->Lz e d b g h 2)/\((!Option.isSome (qp a.2 a.1))=false->iw h d b g e p a))) (Lz e d b g h 2)
 def iu:=Ji (GJ.k b=5) (∃(a:vL),GJ.k a.2.2.1=GJ.k b/\GJ.n a.2.2.1=GJ.n b/\GJ.s a.2.2.1=GJ.s b/\(GJ.y a.2.2.1).1=(GJ.y b).1/\(GJ.y a.2.2.1).2.1=(GJ.y b).2.1/\(GJ.y a.2.2.1).2.2=(GJ.y b).2.2/\(GJ.x a.2.2.1).1=(GJ.x b).1/\(GJ.x a.2.2.1).2.1=(GJ.x b).2.1/\(GJ.x a.2.2.1).2.2=(GJ.x b).2.2/\a.2.2.2.1=g/\a.2.2.2.2=e/\length a.1=length d/\a.2.1=h/\qa AT.cells a.1=qa AT.cells d/\(j_ a<p+1/\y7 a/\a.2.2.2.2<=20)/\R_ h d b g e a) (iv h d b g e p)
 def ir:=Ji (GJ.k b=4) (∃(a:List AT×Int×O6×O6),a.2.2.1=GJ.s b/\R7 e d b g h a) (iu h d b g e p)
 def iq:=Ji (20<e) (Lz h d b g e 3) (ir h d b g e p)
 def im:=((!decide (e=0))=true->∃(a:qP),a.2.2=0/\length (d++a.1)=length d/\a.2.1=e/\qa AT.cells (d++a.1)=qa AT.cells d/\LA e d b g h a)/\((!decide (e=0))=false->iq h d b g e p)
end
def zk6(n:Nat) (S:List AT) (e:Int) (g:GJ) (sp:O6) (d:Int):qiy P (qef [(69,Va),(66,xC),(68,Uf),(63,wT)]) (qff [(32,wV.below j_ n),(64,HR),(65,Hu.below j_ (n+1)),(67,Hs.below Vf (n+1))]) Tryz.f32 (wV.below j_ (n+1)) (zw1) ⟨S,e,g,sp,d⟩=(j_ (S,e,g,sp,d)<n+1/\y7 (S,e,g,sp,d)->(∃(p:Pub),True/\GJ.ok g p)->im e S g sp d n):=by kernel_rfl
def zqm:=λn S e g sp d=>Eq.trans (zk6 n S e g sp d) (by delta Ji Jb Jt Jf LA Lz Cj Un Yn R7 Th R_ R' qS Ti R9 Cf Ta R8 R6 Ym Td Ch Tf Tg Ce Tc Te Tb Ci Cg Cd Cc iB iA iz iy iw iv iu ir iq im;exact rfl)
section
def V6(P Q:List Value) (k:Nat) (v:Value):(P++Q).set (P.length+k) v=P++Q.set k v:=by
 induction P with
 |nil=>simp
 |cons a P h=>rw[List.cons_append,List.length_cons,Nat.add_right_comm,List.set_cons_succ,h];rfl
def j8s(A B:List AT) (k r:Int):qa AT.cells (A++qK k r::B)=spl (qa AT.cells (A++qK k 0::B)) (0+A.length*10+3) [.int .i64 r]:=by rw[zF,zF,JP,JP,Nat.zero_add,←qB yU A];show _=(qa AT.cells A++((qK k 0).cells++qa AT.cells B)).set ((qa AT.cells A).length+3) (.int .i64 r);rw[V6];rfl
variable {s:O6}
def zye(h:uo s=true):qM s=9\/qM s=10\/qM s=11:=by
 unfold uo at h;simp only[Bool.or_eq_true,decide_eq_true_eq]at h;rcases h with(h|h)|h<;>subst h
 ·exact .inl (by decide)
 ·exact .inr (.inl (by decide))
 ·exact .inr (.inr (by decide))
def zwj(h:x0 s=true):qM s=12\/qM s=13:=by
 unfold x0 at h;simp only[Bool.or_eq_true,decide_eq_true_eq]at h;rcases h with h|h<;>subst h
 ·exact .inl (by decide)
 ·exact .inr (by decide)
def zh2(S:List AT) (t:AT) (h:S.length<=60):(S++zM S t).length<=60:=by
 unfold zM;split
 ·rw[List.append_nil];exact h
 ·simp;omega
def zpw{n:Nat} {k r:Int} (h:k=12\/k=13) (G:0<=r) (H:r<n):kK n (qK k r):=by have C:(qK k r).k=k:=rfl;have hi:(qK k r).it=r:=rfl;unfold kK;rw[C,hi];exact⟨(by omega),λ_=>⟨G,H⟩,λb u=>(by cases u),λh=>(by omega),λf A=>(by cases A),λh=>(by omega),λh=>(by omega),Nat.zero_le _,Nat.zero_le _,Nat.zero_le _⟩
def zqn(n:Nat) (ht:q1i P 32 (wV.below j_ n)) (hu:q1i P 65 (Hu.below j_ (n+1))) (hn:q1i P 67 (Hs.below Vf (n+1))):q1i P 32 (wV.below j_ (n+1)):=by
 refine zI (qbu (qfr Hm (qfr JU (qfr zio (qfr xw qil))))) (qcl (qfq ht (qfq zqi (qfq hu (qfq hn qik))))) (W:=zw1) Tryz.func32 λ⟨S,(e:Int),g,sp,(d:Int)⟩=>(zqm n S e g sp d).mpr ?_;rintro⟨G,⟨hS,J,hd1,hd2,hsp⟩⟩ ⟨p,_,hp⟩;have G:(25- d).toNat<n+1:=G;simp only[qy,exists_const,forall_const,Int.toNat_natCast,vw];have bad:∀k:Int,k≠0->zG (S,e,g,sp,d) ([],k,0):=λk T=>⟨⟨by rw[List.append_nil];exact hS,λh=>absurd h T⟩,λh=>absurd h T⟩;have gsz:g.s.size<1000:=by rw[GJ.wf_eq]at J;exact J.1
 refine⟨λhe=>⟨⟨[],e,0⟩,rfl,by rw[List.append_nil],rfl,by rw[List.append_nil],bad e he,λq _ a u=>(by cases u)⟩,λhe=>⟨λh20=>⟨S,rfl,rfl,⟨[],qt e 3,0⟩,rfl,by rw[List.append_nil],rfl,by rw[List.append_nil],bad _ (je (by decide)),λq _ a u=>(by cases u)⟩,λh20=>⟨λh4=>⟨⟨S,e,g.s,sp⟩,rfl,rfl,rfl,rfl,rfl,⟨hS,by show g.s.size<_;omega,by show sp.size<_;omega⟩,λb C _=>⟨b,rfl,rfl,rfl,rfl,C,λq hq=>hq.2⟩⟩,λh4=>⟨λh5=>⟨⟨S,e,g,sp,d⟩,rfl,rfl,rfl,rfl,rfl,rfl,rfl,rfl,rfl,rfl,rfl,rfl,rfl,rfl,⟨G,⟨hS,J,hd1,hd2,hsp⟩,by show d<=20;omega⟩,λq hq=>hq,λb C _=>⟨b,rfl,rfl,rfl,rfl,C,λq hq=>hq.2⟩⟩,λh5=>⟨λh6=> ?_,λh6=>⟨S,rfl,rfl,⟨[],qt e 2,0⟩,rfl,by rw[List.append_nil],rfl,by rw[List.append_nil],bad _ (je (by decide)),λq _ a u=>(by cases u)⟩⟩⟩⟩⟩⟩;refine⟨⟨g,mkS [116,121,112,101]⟩,rfl,rfl,rfl,rfl,rfl,rfl,rfl,rfl,rfl,rfl,J,λq hq=>hq,λhno=>⟨S,rfl,rfl,⟨[],qt e 2,0⟩,rfl,by rw[List.append_nil],rfl,by rw[List.append_nil],bad _ (je (by decide)),λq _ a u=>(by cases u)⟩,λhyes=> ?_⟩;obtain⟨tw,tok⟩:=wR (mkS [116,121,112,101]) J;simp only;generalize (qp (mkS [116,121,112,101]) g).getD zJ=t at*;have tsz:t.s.size<1000:=by rw[GJ.wf_eq]at tw;exact tw.1
 refine⟨λT=>⟨⟨by omega,by omega⟩,⟨S,e,t,sp,d+1⟩,rfl,rfl,rfl,rfl,rfl,rfl,rfl,rfl,rfl,rfl,rfl,rfl,rfl,rfl,⟨by show(25- (d+1)).toNat<n;omega,hS,tw,by omega,by omega,by omega⟩,λq hq=>tok q hq,λb C _=>⟨b,rfl,rfl,rfl,rfl,C,λq hq=>hq.2⟩⟩,λT=>⟨⟨λN=> ?_,λN=>⟨λh2=> ?_,λh2=> ?_⟩⟩,λhN=> ?_,λhN=>⟨⟨λN=> ?_,λN=> ?_⟩,λhA=> ?_,λhA=> ?_⟩⟩⟩
 ·unfold uo;rw[N];rfl
 ·unfold uo;rw[h2];rfl
 ·unfold uo;rw[decide_eq_false N,decide_eq_false h2,Bool.false_or,Bool.false_or]
 ·exact⟨⟨S,e,g,qM t.s,sp,d⟩,rfl,rfl,rfl,rfl,rfl,rfl,rfl,rfl,rfl,rfl,rfl,rfl,rfl,rfl,rfl,⟨G,⟨hS,J,hd1,hd2,hsp⟩,by show d<=20;omega,zye hN⟩,λq hq=>hq,λb C _=>⟨b,rfl,rfl,rfl,rfl,C,λq hq=>hq.2⟩⟩
 ·unfold x0;rw[N];rfl
 ·unfold x0;rw[decide_eq_false N,Bool.false_or]
 ·have hkd:=zwj hA;have V:=zh2 S (qK (qM t.s) 0) hS;have H:∀q,∀a∈zM S (qK (qM t.s) 0),a.ok q:=λq a u=>by
   unfold zM at u;split at u
   ·cases u
   ·simp at u;subst u;exact H2 _ _ _
  have bad2:∀k:Int,k≠0->zG (S,e,g,sp,d) (zM S (qK (qM t.s) 0),k,0):=λk T=>⟨⟨V,λh=>absurd h T⟩,λh=>absurd h T⟩;refine⟨⟨S,e,qK (qM t.s) 0⟩,rfl,rfl,rfl,rfl,rfl,rfl,rfl,rfl,rfl,rfl,rfl,rfl,rfl,rfl,rfl,rfl,rfl,rfl,rfl,rfl,rfl,⟨λhm=>by unfold Qv;rw[if_pos hm],λhm=>by unfold Qv;rw[if_neg hm]⟩,⟨g,Qv t.s⟩,rfl,rfl,rfl,rfl,rfl,rfl,rfl,rfl,rfl,rfl,J,λq hq=>hq,λhno=>⟨qD S (qK (qM t.s) 0),rfl,rfl,⟨zM S (qK (qM t.s) 0),qt (qJ S e) 2,0⟩,rfl,by rw[jR],rfl,by rw[jR],bad2 _ (je (by decide)),λq _=>H q⟩,λhyes=> ?_⟩;obtain⟨uw,uok⟩:=wR (Qv t.s) J;refine⟨⟨by omega,by omega⟩,⟨qD S (qK (qM t.s) 0),qJ S e,(qp (Qv t.s) g).getD zJ,sp,d+1⟩,rfl,rfl,rfl,rfl,rfl,rfl,rfl,rfl,rfl,rfl,rfl,rfl,rfl,rfl,⟨by show(25- (d+1)).toNat<n;omega,by rw[jR];exact V,uw,by omega,by omega,by omega⟩,λq hq=>uok q hq,?_⟩;rintro⟨U,e2,r⟩ ⟨⟨hU,Y⟩,hr⟩ _;simp only at hU Y hr⊢;have A:qD S (qK (qM t.s) 0)++U=S++(zM S (qK (qM t.s) 0)++U):=by rw[jR,List.append_assoc]
  refine⟨λX=> ?_,λX=>⟨⟨zM S (qK (qM t.s) 0)++U,e2,qu S⟩,rfl,by rw[A],rfl,by rw[A],⟨⟨by rw[←A];exact hU,λh=>absurd h X⟩,λh=>absurd h X⟩,λq hq a u=>(List.mem_append.1 u).elim (H q a) (hq.2 a)⟩⟩;obtain⟨Z,O⟩:=Y X;obtain⟨r0,r1⟩:=hr X;have hl:S.length<60:=by
   by_cases hl:60<=S.length
   ·exact absurd Z (Oe hl)
   ·omega
  have e1:qJ S e=e:=by unfold qJ;rw[if_neg (by omega)]
  have e3:zM S (qK (qM t.s) 0)=[qK (qM t.s) 0]:=by unfold zM;rw[if_neg (by omega)]
  have er:qu S=S.length:=by unfold qu;rw[if_neg (by omega)]
  rw[A,e3]at hU O r1;rw[A,e3,er,Int.toNat_natCast];have hlen:∀x,(S++([qK (qM t.s) x]++U)).length=S.length+U.length+1:=λx=>by simp;omega
  rw[hlen]at hU O r1;refine⟨⟨by omega,by rw[hlen];omega⟩,by rw[qB yU,hlen];show 0+S.length*10+3+1<=_;omega,⟨qK (qM t.s) r::U,e2,S.length⟩,rfl,by show(S++([qK (qM t.s) r]++U)).length=_;rw[hlen,hlen],rfl,j8s S U _ r,⟨⟨by show(S++([qK (qM t.s) r]++U)).length<=60;rw[hlen];omega,λ_=>⟨by rw[←e1];exact Z,λx hx=> ?_⟩⟩,λ_=>⟨by show 0<=(S.length:Int);omega,by show(S.length:Int)<((S++([qK (qM t.s) r]++U)).length:Int);rw[hlen];omega⟩⟩,λq hq x hx=> ?_⟩
  ·show kK (S++([qK (qM t.s) r]++U)).length x;rw[hlen];rcases List.mem_cons.1 hx with rfl|hx
   ·exact zpw hkd r0 r1
   ·exact O x hx
  ·rcases List.mem_cons.1 hx with rfl|hx
   ·exact H2 _ _ _
   ·exact hq.2 x hx
 ·exact⟨⟨S,e,t.s,sp⟩,rfl,rfl,rfl,rfl,rfl,⟨hS,by show t.s.size<_;omega,by show sp.size<_;omega⟩,λb C _=>⟨b,rfl,rfl,rfl,rfl,C,λq hq=>hq.2⟩⟩
end
def jxp:O6:=mkS [115,121,109,98,111,108,115]
abbrev KZ:=Int×SV×List O6×Bool×O6
def QX(S:List AT) (at_:Int) (y:SV) (l:List O6) (hd:Bool) (df:O6):List AT:=match S[at_.toNat]? with
 |some a=>S.set at_.toNat {a with sy:=y,sys:=l,hd:=hd,df:=df}
 |none=>S
def La:CtR where
 σ:=List AT×Int×GJ×Int
 args:=λ⟨S,e,g,i⟩=>[.ptr 1 0,g.av, .sv (.int .i64 i)]
 h:=λ⟨S,e,g,i⟩=>jt S e 2 3
 m:=4
 pre:=λ⟨S,e,g,i⟩=>S.length<=60/\g.wf/\0<=i/\(e=0->i<S.length)
 mem:=λ⟨S,e,g,i⟩=>gM g
 β:=λ_=>KZ
 post:=λ⟨S,e,g,i⟩ ⟨u,y,l,hd,df⟩=>u=0->e=0/\l≠[]/\l.length<=30
 pm:=λ_ ⟨u,y,l,hd,df⟩=>⟨true,qb qo y l,λ_ _ h e=>ji h e⟩
 r:=λ_ _=> .tup []
 h':=λ⟨S,e,g,i⟩ ⟨u,y,l,hd,df⟩=>jt (if u=0 then QX S i y l hd df else S) u 4 5
 m':=6
def WX(h:T AO):Option Int:=wB h 1
def zO(g:GJ) (e:Int):List O6:=(zi g jxp e).1
def PK:La.σ->WayF:=λ⟨S,e,g,i⟩=>{
  cut:=λr _ _=>match r with
    |4=>some {σ:=Int,pre:=λu=>u=0->e=0,find:=some λ_ h=>WX h,t:=λ_=>[],h:=λu=>[wA S u 2 3],more:=0,μ:=λ_=>0,keep:=[0,2,4,6,7]}
    |6=>some {σ:=Int,pre:=λu=>u=0->e=0/\zO g e≠[],find:=some λ_ h=>WX h,t:=λ_=>[],h:=λu=>[wA S u 2 3],more:=0,μ:=λ_=>0,keep:=[0,2,4,6,7]}
    |8=>some {σ:=Int,pre:=λu=>u=0->e=0/\zO g e≠[]/\(zO g e).length<=30,find:=some λ_ h=>WX h,t:=λ_=>[],h:=λu=>[wA S u 2 3],more:=0,μ:=λ_=>0,keep:=[0,2,4,6,7]}
    |13=>some {σ:=Int,pre:=λu=>u=0->e=0/\zO g e≠[]/\(zO g e).length<=30,find:=some λ_ h=>WX h,t:=λ_=>[],h:=λu=>[wA S u 2 3],more:=0,μ:=λ_=>0,keep:=[0,2,4,6,7,8]}
    |27=>some {σ:=Int,pre:=λu=>u=0->e=0/\zO g e≠[]/\(zO g e).length<=30,find:=some λ_ h=>WX h,t:=λ_=>[],h:=λu=>[wA S u 2 3],more:=0,μ:=λ_=>0,keep:=[0,2,4,6,7,11,12]}
    |_=>none
  ann :=λid t _=>match id with
    |0=>some {σ:=Nat×Int,pre:=λ⟨j,u⟩=>j<=(zO g e).length/\(u=0->e=0/\zO g e≠[]/\(zO g e).length<=30),t:=λ⟨j,u⟩=>[(8, .sv (.int .i64 (j:Int)))],h:=λ⟨j,u⟩=>[wA S u 2 3],more:=0,μ:=λ⟨j,u⟩=>(zO g e).length- j,keep:=[0,2,4,6,7]}
    | 2=>match jQ t 8 with
      |some i=>some {σ:=Nat×Int,pre:=λ⟨k,u⟩=>(k:Int)<=i/\(u=0->e=0/\zO g e≠[]/\(zO g e).length<=30),t:=λ⟨k,u⟩=>[(9, .sv (.int .i64 (k:Int)))],h:=λ⟨k,u⟩=>[wA S u 2 3],more:=0,μ:=λ⟨k,u⟩=>(i- k).toNat,keep:=[0,2,4,6,7,8]}
      |none=>none
    |_=>some {σ:=Nat×Bool,pre:=λ⟨k,b⟩=>k<=(zO g e).length,t:=λ⟨k,b⟩=>[(13, .sv (.bool b)),(14, .sv (.int .i64 (k:Int)))],h:=λ_=>[],more:=0,μ:=λ⟨k,b⟩=>(zO g e).length- k,keep:=[0,2,4,6,7,11,12]}}
section
variable (b:List AT×Int×GJ×O6) (e:Int) (f:Option Addr) (c g:Nat) (i:List AT) (a:GJ) (m r:Int) (l:Nat×Int) (p:Nat×Bool) (j:GJ×O6) (d:List AT×Int×GJ×O6×Bool) (t:Prop) (q:Nat×Int) (C:Nat->Option Obj) (D:Nat×Bool) (v:KZ) (A:List AT) (E:O6) (F:Nat×Int)
 abbrev Yp:=qa AT.cells b.1=qa AT.cells i
 def xG:=(True/\GJ.ok a C)/\qb qo (f,c,g) (zi b.2.2.1 b.2.2.2 b.2.1).1 C
 abbrev y9:=(zi b.2.2.1 b.2.2.2 b.2.1).2
 def Uq:=qa AT.cells i=qa AT.cells b.1/\True/\t
 def yr:=(y9 b).1=(y9 b).1
 def QD:=length i=length A
 def kV:=GJ.k a=GJ.k a/\GJ.n a=GJ.n a/\GJ.s a=GJ.s a/\(GJ.y a).1=(GJ.y a).1/\(GJ.y a).2.1=(GJ.y a).2.1/\(GJ.y a).2.2=(GJ.y a).2.2/\(GJ.x a).1=(GJ.x a).1/\(GJ.x a).2.1=(GJ.x a).2.1/\(GJ.x a).2.2=(GJ.x a).2.2/\(∀h,xG b f c g a h->xG b f c g a h)/\t
 def QC:=qa AT.cells b.1=qa AT.cells b.1
 def Cw:=yr b/\e=e/\f=f/\c=c/\g=g/\length i=length b.1/\(y9 b).2=(y9 b).2/\QC b/\kV b f c g a (((y9 b).2=0->m=0)/\True)
 def Tn:=r=r/\QD i A/\e=e/\Uq b i (yr b/\m=m/\f=f/\c=c/\g=g/\QD A i/\qt e r=qt e r/\Yp b i/\t)
 def LH:=e=0/\zO a e≠[]
 def ZH:=f=f/\c=c/\g=g/\length i=length i/\t
 def w7:=e=0/\zO a e≠[]/\length (zO a e)<=30
 def LG:=l.1<=length (zO a e)/\(l.2=0->w7 e a)
 def LI:=(0<=(↑l.1:Int)/\(↑l.1:Int)<(↑c:Int))/\f≠noA/\t
 def LD:=(∀h,xG b f c g a h->q2u h (adr f (toNat (↑l.1:Int)*1)) [string E])
 def Yq:=e=e/\(↑l.1:Int)=(↑l.1:Int)/\t
 def LC:=(↑l.1:Int)<=(↑q.1:Int)/\(l.2=0->w7 e a)
 abbrev LB:=Jb ((↑l.1:Int)+1)
 def Tq:=(LC e a l q)/\toNat ((↑q.1:Int)- (↑l.1:Int))<toNat ((↑q.1:Int)- (↑F.1:Int))/\True
 def Cu:=LB l/\∃(h:Nat×Int),yr b/\(↑h.1:Int)=(↑l.1:Int)+1/\Yq e q (ZH f c g i (h.2=l.2/\QC b/\kV b f c g a (Tq m a h q l)))
 def Cn:=LI f c l (∃h,LD b f c g a l h/\LI f c q (∃o,LD b f c g a q o/\Ji (h=o) (∃(z:List AT),(5:Int)=5/\QD z i/\l.2=l.2/\Uq b z (LB l/\∃(B:Nat×Int),yr b/\(↑B.1:Int)=(↑l.1:Int)+1/\Yq e q (f=f/\c=c/\g=g/\QD i z/\B.2=qt l.2 5/\Yp b z/\kV b f c g a (Tq m a B q l)))) (Cu b e f c g i a m l q)))
 def Cv:=LB l/\∃(h:Nat×Int),yr b/\e=e/\(↑h.1:Int)=(↑l.1:Int)+1/\ZH f c g i (h.2=q.2/\QC b/\kV b f c g a ((LG m a h)/\length (zO a m)- h.1<length (zO a m)- l.1/\True))
 def Cl:=Ji ((↑l.1:Int)<(↑q.1:Int)) (Cn b e f c g i a m l q) (Cv b e f c g i a m q l)
 def Ck:=(∃(h:Nat×Int),yr b/\(↑h.1:Int)=0/\Yq e l (ZH f c g i (h.2=m/\QC b/\kV b f c g a ((LC r a h l)/\True))))/\∀(w:Nat×Int),LC r a w l->Cl b e f c g i a r w l
 def iK:=(LI f c l (∃h,LD b f c g a l h/\h=h/\size h<1000000/\((!vC h)=true->∃(o:List AT),(6:Int)=6/\QD o i/\l.2=l.2/\Uq b o (yr b/\Yq e l (f=f/\c=c/\g=g/\QD i o/\qt l.2 (6:Int)=qt l.2 6/\Yp b o/\kV b f c g a ((qt l.2 (6:Int)=0->w7 m a)/\True))))/\((!vC h)=false->yr b/\Yq e l (ZH f c g i (l.2=l.2/\QC b/\kV b f c g a ((l.2=0->w7 m a)/\True))))))/\∀(u:Int),(u=0->w7 m a)->Ck b e f c g i a u m l
 def Yo:=yr b/\Option.isSome (qp j.2 j.1)=Option.isSome (qp j.2 j.1)/\t
 abbrev yu:=jH d.2.2.1 d.2.2.2.1 d.2.2.2.2 d.2.1
 def Up:=(yu d).1=(yu d).1/\f=f/\c=c/\g=g/\t
 def LF:=(yu d).2=(yu d).2/\qa AT.cells d.1=qa AT.cells d.1/\t
 abbrev Tp:=Jb ((↑p.1:Int)+1)
 def Tl:=Up f c g d ((↑p.1:Int)=(↑D.1:Int)+1/\length d.1=length d.1/\LF d (kV b f c g a (p.1<=length (zO a e)/\length (zO a e)- p.1<length (zO a e)- D.1/\True)))
 def Cs:=Tp p/\∃(h:Nat×Bool),Yo b j (h.2=true/\e=e/\Tl b m f c g a h d p)
 def Cq:=(0<=(↑p.1:Int)/\(↑p.1:Int)<(↑c:Int))/\f≠noA/\∃h,(∀w,xG b f c g a w->q2u w (adr f (toNat (↑p.1:Int)*1)) [string h])/\Tp p/\∃(o:Nat×Bool),Yo b j (o.2=decide (h=(yu d).1)/\e=e/\Tl b m f c g a o d p)
 def Co:=(p.2=true->Cs b e f c g a m p j d)/\(p.2=false->Cq b e f c g a m p j d)
 def Tk:=Yo b j (e=e/\Up f c g d (length i=length d.1/\LF d (kV b f c g a (((yu d).2=0->w7 m a)/\True))))
 def Cr:=((!p.2)=true->∃(h:List AT),(6:Int)=6/\length h=length d.1/\(yu d).2=(yu d).2/\qa AT.cells h=qa AT.cells d.1/\True/\Yo b j (e=e/\Up f c g d (QD i h/\qt (yu d).2 (6:Int)=qt (yu d).2 6/\qa AT.cells d.1=qa AT.cells h/\kV b f c g a ((qt (yu d).2 (6:Int)=0->w7 m a)/\True))))/\((!p.2)=false->Tk b e f c g i a m j d)
 abbrev To:=spl (spl (qa AT.cells d.1) (nat_lit 0+toNat e*nat_lit 10+4) [slice f c g]) (nat_lit 0+toNat e*nat_lit 10+5) [bool (Option.isSome (qp j.2 j.1))]
 abbrev Uo:=if v.1=0 then QX i e v.2.1 v.2.2.1 v.2.2.2.1 v.2.2.2.2 else i
 def Tm:=e=0/\v.2.2.1≠[]/\length v.2.2.1<=30
 def Cp:=(0<=e/\e<(↑(length i):Int))/\nat_lit 0+toNat e*nat_lit 10+4+length [slice f c g]<=length (qa AT.cells d.1)/\(0<=e/\e<(↑(length i):Int))/\nat_lit 0+toNat e*nat_lit 10+5+length [bool (Option.isSome (qp j.2 j.1))]<=length (spl (qa AT.cells d.1) (nat_lit 0+toNat e*nat_lit 10+4) [slice f c g])/\(0<=e/\e<(↑(length i):Int))/\nat_lit 0+toNat e*nat_lit 10+6+length [string (yu d).1]<=length (To e f c g j d)/\∃(h:KZ),length (Uo e i h)=length i/\h.1=m/\qa AT.cells (Uo e i h)=spl (To e f c g j d) (nat_lit 0+toNat e*nat_lit 10+6) [string (yu d).1]/\(h.1=0->Tm r h)/\(∀w,xG b f c g a w->qb qo h.2.1 h.2.2.1 w)/\True
 def Cm:=Ji (e=0) (Cp b m f c g i a e r j d) (∃(o:KZ),length (Uo m i o)=length i/\o.1=e/\qa AT.cells (Uo m i o)=qa AT.cells d.1/\(o.1=0->Tm r o)/\(∀u,xG b f c g a u->qb qo o.2.1 o.2.2.1 u)/\True)
 def iL:=((Option.isSome (qp j.2 j.1)=true->Cr b e f c g i a m p j d)/\(Option.isSome (qp j.2 j.1)=false->Tk b e f c g i a m j d))/\∀(w:Int),(w=0->w7 m a)->Cm b w f c g i a e m j d
 def iI:=Ji ((↑p.1:Int)<(↑c:Int)) (Co b e f c g a m p j d) (iL b e f c g i a m p j d)
 def Tj:=∃(h:GJ×O6),GJ.k h.1=GJ.k a/\GJ.n h.1=GJ.n a/\GJ.s h.1=GJ.s a/\(GJ.y h.1).1=(GJ.y a).1/\(GJ.y h.1).2.1=(GJ.y a).2.1/\(GJ.y h.1).2.2=(GJ.y a).2.2/\(GJ.x h.1).1=(GJ.x a).1/\(GJ.x h.1).2.1=(GJ.x a).2.1/\(GJ.x h.1).2.2=(GJ.x a).2.2/\h.2=mkS [100,101,102,97,117,108,116]/\GJ.wf h.1/\(∀w,xG b f c g a w->GJ.ok h.1 w)/\∃(o:List AT×Int×GJ×O6×Bool),GJ.k o.2.2.1=GJ.k a/\GJ.n o.2.2.1=GJ.n a/\GJ.s o.2.2.1=GJ.s a/\(GJ.y o.2.2.1).1=(GJ.y a).1/\(GJ.y o.2.2.1).2.1=(GJ.y a).2.1/\(GJ.y o.2.2.1).2.2=(GJ.y a).2.2/\(GJ.x o.2.2.1).1=(GJ.x a).1/\(GJ.x o.2.2.1).2.1=(GJ.x a).2.1/\(GJ.x o.2.2.1).2.2=(GJ.x a).2.2/\o.2.2.2.1=mkS [100,101,102,97,117,108,116]/\o.2.2.2.2=false/\length o.1=length i/\o.2.1=l.2/\qa AT.cells o.1=qa AT.cells b.1/\GJ.wf o.2.2.1/\(∀u,xG b f c g a u->GJ.ok o.2.2.1 u)/\(∃(z:Nat×Bool),Yo b h (z.2=false/\e=e/\Up f c g o ((↑z.1:Int)=0/\length o.1=length o.1/\LF o (kV b f c g a (z.1<=length (zO a m)/\True)))))/\∀(B:Nat×Bool),B.1<=length (zO a m)->iI b e f c g i a m B h o
 def iJ:=Ji (l.2=0) (iK b e f c g i a m l) (Tj b e f c g i a m l)
 def iH:=Ji ((↑l.1:Int)<(↑c:Int)) (iJ b e f c g i a m l) (Tj b e f c g i a m l)
 def iG:=(∃(h:Nat×Int),yr b/\e=e/\(↑h.1:Int)=0/\ZH f c g i (h.2=m/\QC b/\kV b f c g a ((LG r a h)/\True)))/\∀(o:Nat×Int),LG r a o->iH b e f c g i a r o
 def iE:=(Ji (30<(↑c:Int)) (∃(h:List AT),Tn b e f c g h m 3 (kV b f c g a ((qt e (3:Int)=0->w7 r a)/\True)) i) (yr b/\m=m/\ZH f c g i (e=e/\QC b/\kV b f c g a ((e=0->w7 r a)/\True))))/\∀(u:Int),(u=0->w7 r a)->iG b m f c g i a u r
 def iD:=(Ji ((↑c:Int)=0) (∃(h:List AT),Tn b e f c g h m 6 (kV b f c g a ((qt e (6:Int)=0->LH r a)/\True)) i) (yr b/\m=m/\ZH f c g i (e=e/\QC b/\kV b f c g a ((e=0->LH r a)/\True))))/\∀(u:Int),(u=0->LH r a)->iE b u f c g i a m r
 def iC:=(((!(y9 b).1)=true->∃(h:List AT),(2:Int)=2/\length h=length b.1/\(y9 b).2=(y9 b).2/\Uq b h (yr b/\e=e/\f=f/\c=c/\g=g/\QD i h/\qt (y9 b).2 (2:Int)=qt (y9 b).2 2/\Yp b h/\kV b f c g a ((qt (y9 b).2 (2:Int)=0->m=0)/\True)))/\((!(y9 b).1)=false->Cw b e f c g i a m))/\∀(u:Int),(u=0->m=0)->iD b u f c g i a e m
end
def zqc(S:List AT) (e:Int) (g:GJ) (i:Int):qiy P (qef [(103,V9),(66,xC),(100,Ua),(124,Ye),(63,wT)]) (qff []) Tryz.f105 La (PK) ⟨S,e,g,i⟩=(length S<=60/\GJ.wf g/\0<=i/\(e=0->i<(↑(length S):Int))->(∃(p:Pub),True/\GJ.ok g p)->∃(s:List AT×Int×GJ×O6),GJ.k s.2.2.1=GJ.k g/\GJ.n s.2.2.1=GJ.n g/\GJ.s s.2.2.1=GJ.s g/\(GJ.y s.2.2.1).1=(GJ.y g).1/\(GJ.y s.2.2.1).2.1=(GJ.y g).2.1/\(GJ.y s.2.2.1).2.2=(GJ.y g).2.2/\(GJ.x s.2.2.1).1=(GJ.x g).1/\(GJ.x s.2.2.1).2.1=(GJ.x g).2.1/\(GJ.x s.2.2.1).2.2=(GJ.x g).2.2/\s.2.2.2=mkS [115,121,109,98,111,108,115]/\length s.1=length S/\s.2.1=e/\Yp s S/\GJ.wf s.2.2.1/\(∀(p:Pub),True/\GJ.ok g p->GJ.ok s.2.2.1 p)/\∀(b:Unit),True->∀(a:Option Addr) (n c:Nat),(∃(p:Pub),xG s a n c g p)->iC s i a n c S g e):=by kernel_rfl
def zz9:=λS e g i=>Eq.trans (zqc S e g i) (by delta Ji Jb Jt Jf Yp xG y9 Uq yr QD kV QC Cw Tn LH ZH w7 LG LI LD Yq LC LB Tq Cu Cn Cv Cl Ck iK Yo yu Up LF Tp Tl Cs Cq Co Tk Cr To Uo Tm Cp Cm iL iI Tj iJ iH iG iE iD iC;exact rfl)
section
def zed:∀{l:List GJ} {e:Int} {acc:List O6},GJ.wfs l->(∀x∈acc,x.size<1000)->∀x∈(jj l e acc).1,x.size<1000
  | [],e,acc,_,h=>by rw[jj];exact h
  | g ::l,e,acc,hw,h=>by
    rw[GJ.wfs]at hw;rw[jj];split
    · refine zed hw.2 λx hx=> ?_;rcases List.mem_append.1 hx with hx|hx
      · exact h x hx
      · simp at hx;subst hx;have:=hw.1;rw[GJ.wf_eq]at this;exact this.1
    · exact h
def j94:∀{l:List GJ} {e:Int} {acc:List O6},(jj l e acc).2=0->e=0
  | [],e,acc,h=>by rw[jj]at h;exact h
  | g::l,e,acc,h=>by
    rw[jj]at h;split at h
    · assumption
    · exact h
def y0{e k:Int} (u:k≠0):qt e k=0->False:=λh=>je u h
variable {g:GJ} {s:O6} {e:Int}
def IJ(h:g.wf):∀x∈(zi g s e).1,x.size<1000:=by
 unfold zi;split
 ·have:=(wR s h).1;rw[GJ.wf_eq]at this;exact zed this.2.2.2.2.2.2 λx hx=>(by cases hx)
 ·intro x hx;cases hx
def zec:∀{l:List GJ} {e:Int} {acc:List O6},(jj l e acc).1.length<=acc.length+l.length
  | [],e,acc=>by rw[jj];exact Nat.le_refl _
  | g ::l,e,acc=>by
    rw[jj];split
    · refine Nat.le_trans zec ?_;simp;omega
    · simp
def II(h:g.wf):(zi g s e).1.length<1000:=by
 unfold zi;split
 ·have:=(wR s h).1;rw[GJ.wf_eq]at this;refine Nat.lt_of_le_of_lt zec ?_;simp;have:=this.2.1;omega
 ·exact Nat.zero_lt_succ _
def OA:(zi g s e).2.2=0->e=0:=by
 unfold zi;split
 ·intro h;have:=j94 h;unfold yR at this;split at this
  ·exact this
  ·exact absurd this (je (by decide))
 ·exactλh=>h
def OP{b:Bool}:(jH g s b e).2=0->e=0:=by
 unfold jH;split
 ·split
  ·exactλh=>absurd h (je (by decide))
  ·exactλh=>h
 ·split
  ·exactλh=>h
  ·exactλh=>absurd h (je (by decide))
def ID(S:List AT) (k:Nat) (h:k<S.length) (x:AT):qa AT.cells (S.set k x)=qa AT.cells (S.take k)++(x.cells++qa AT.cells (S.drop (k+1))):=by rw[List.set_eq_take_append_cons_drop,if_pos h,zF,JP]
def z9r(S:List AT) (k:Nat) (h:k<S.length):qa AT.cells S=qa AT.cells (S.take k)++((S[k]).cells++qa AT.cells (S.drop (k+1))):=by rw[←ID S k h,List.set_getElem_self]
def z9u(S:List AT) (k:Nat) (h:k<S.length):(qa AT.cells (S.take k)).length=k*10:=by rw[qB yU,List.length_take];congr 1;omega
def zqe(S:List AT) (k:Nat) (h:k<S.length) (y:SV) (l:List O6) (hd:Bool) (df:O6):qa AT.cells (S.set k {S[k]with sy:=y,sys:=l,hd:=hd,df:=df})=spl (spl (spl (qa AT.cells S) (0+k*10+4) [k_ y]) (0+k*10+5) [.bool hd]) (0+k*10+6) [.string df]:=by
 rw[ID S k h];conv=>rhs;rw[z9r S k h]
 rw[Nat.zero_add,←z9u S k h];generalize qa AT.cells (S.take k)=A;generalize qa AT.cells (S.drop (k+1))=B;show _=(((A++((S[k]).cells++B)).set (A.length+4) (k_ y)).set (A.length+5) (.bool hd)).set (A.length+6) (.string df);rw[V6,V6,V6];rfl
def zza:q1i P 105 La:=by
 refine zI (qbu (qfr IH (qfr JU (qfr IL (qfr I6 (qfr xw qil)))))) (qcl qik) (W:=PK) Tryz.func105 λ⟨S,(e:Int),g,(i:Int)⟩=>(zz9 S e g i).mpr ?_;rintro⟨hS,N,C,X⟩ ⟨p,_,hp⟩;simp only[qy,exists_const,forall_const,Int.toNat_natCast];refine⟨⟨S,e,g,mkS [115,121,109,98,111,108,115]⟩,rfl,rfl,rfl,rfl,rfl,rfl,rfl,rfl,rfl,rfl,rfl,rfl,rfl,N,λq hq=>hq,?_⟩;have hL:(zi g (mkS [115,121,109,98,111,108,115]) e).1=zO g e:=rfl;have hsz:∀x∈zO g e,x.size<1000:=IJ N;have hLl:(zO g e).length<1000:=II N;have hE:(zi g (mkS [115,121,109,98,111,108,115]) e).2.2=0->e=0:=OA;simp only[hL];generalize zi g (mkS [115,121,109,98,111,108,115]) e=F at*;generalize zO g e=L at*;clear hL;rintro a n c ⟨O,hp1,A⟩;have hn:n=L.length:=A.1;subst hn;have u:=λ(j:Nat) (hj:j<L.length) (q:Pub) (hq:qb qo (a,L.length,c) L q)=>(show a≠noA/\q2u q (adr a (j*1)) [.string L[j]]from j3 jS (by decide) hq hj);refine⟨⟨λ_=>⟨S,rfl,rfl,rfl,rfl,λh=>(y0 (by decide) h).elim⟩,λ_=>⟨trivial,hE⟩⟩,?_⟩;intro e1 h1;refine⟨⟨λ_=>⟨S,rfl,rfl,rfl,rfl,λh=>(y0 (by decide) h).elim⟩,λG h=>⟨h1 h,λhh=>G (by rw[hh];rfl)⟩⟩,?_⟩;intro e2 h2;refine⟨⟨λ_=>⟨S,rfl,rfl,rfl,rfl,λh=>(y0 (by decide) h).elim⟩,λG h=>⟨(h2 h).1,(h2 h).2,by omega⟩⟩,?_⟩;intro e3 h3;refine⟨⟨⟨0,e3⟩,rfl,rfl,Nat.zero_le _,h3⟩,?_⟩;rintro⟨j,T⟩ ⟨hj,h4⟩;simp only at*;refine⟨λhlt=>⟨λh0=>⟨⟨by omega,(u j (by omega) O A).1,L[j]'(by omega),λq hq=>(u j (by omega) q hq.2).2,by have:=hsz _ (List.getElem_mem (show j<L.length by omega));omega,λ_=>⟨S,rfl,rfl,rfl,rfl,λh=>(y0 (by decide) h).elim⟩,λ_=>h4⟩,?_⟩,λh0=> ?xa⟩,λhge=> ?xb⟩
 ·intro e5 h5;refine⟨⟨⟨0,e5⟩,rfl,rfl,by show(0:Int)<=_;omega,h5⟩,?_⟩;rintro⟨k,U⟩ ⟨hk,h6⟩;simp only at*;refine⟨λY=>⟨⟨by omega,by omega⟩,(u k (by omega) O A).1,L[k]'(by omega),λq hq=>(u k (by omega) q hq.2).2,⟨by omega,by omega⟩,(u j (by omega) O A).1,L[j]'(by omega),λq hq=>(u j (by omega) q hq.2).2,λ_=>⟨S,rfl,rfl,⟨by omega,by omega⟩,⟨k+1,qt U 5⟩,by show((k+1:Nat):Int)=_;omega,rfl,rfl,rfl,⟨by show((k+1:Nat):Int)<=_;omega,λh=>(y0 (by decide) h).elim⟩,by show((j:Int)- ((k+1:Nat):Int)).toNat<_;omega⟩,λ_=>⟨⟨by omega,by omega⟩,⟨k+1,U⟩,by show((k+1:Nat):Int)=_;omega,rfl,⟨by show((k+1:Nat):Int)<=_;omega,h6⟩,by show((j:Int)- ((k+1:Nat):Int)).toNat<_;omega⟩⟩,λY=>⟨⟨by omega,by omega⟩,⟨j+1,U⟩,by show((j+1:Nat):Int)=_;omega,rfl,⟨by show j+1<=_;omega,h6⟩,by show _- (j+1)<_;omega⟩⟩
 case xa|xb=>
  refine⟨⟨g,mkS [100,101,102,97,117,108,116]⟩,rfl,rfl,rfl,rfl,rfl,rfl,rfl,rfl,rfl,rfl,N,λq hq=>hq.1,⟨S,T,g,mkS [100,101,102,97,117,108,116],false⟩,rfl,rfl,rfl,rfl,rfl,rfl,rfl,rfl,rfl,rfl,rfl,rfl,rfl,rfl,N,λq hq=>hq.1,⟨⟨0,false⟩,rfl,rfl,Nat.zero_le _⟩,?_⟩;rintro⟨k,b⟩ hk;simp only at*;have hw:(jH g (mkS [100,101,102,97,117,108,116]) false T).2=0->e=0/\L≠[]/\L.length<=30:=λh=>h4 (OP h);generalize jH g (mkS [100,101,102,97,117,108,116]) false T=W at*;generalize (qp (mkS [100,101,102,97,117,108,116]) g).isSome=J at*;refine⟨λZ=>⟨λ_=>⟨⟨by omega,by omega⟩,⟨k+1,true⟩,rfl,by show((k+1:Nat):Int)=_;omega,by show k+1<=_;omega,by show _- (k+1)<_;omega⟩,λ_=>⟨by omega,(u k (by omega) O A).1,L[k]'(by omega),λq hq=>(u k (by omega) q hq.2).2,⟨by omega,by omega⟩,⟨k+1,_⟩,rfl,by show((k+1:Nat):Int)=_;omega,by show k+1<=_;omega,by show _- (k+1)<_;omega⟩⟩,λZ=>⟨⟨λ_=>⟨λ_=>⟨S,rfl,rfl,rfl,rfl,λh=>(y0 (by decide) h).elim⟩,λ_=>⟨trivial,hw⟩⟩,λ_=>⟨trivial,hw⟩⟩,?_⟩⟩;intro H V;refine⟨λG=> ?_,λG=>⟨⟨H,(a,L.length,c),L,J,W.1⟩,by show(if H=0 then _ else S).length=_;rw[if_neg G],rfl,by show qa AT.cells (if H=0 then _ else S)=_;rw[if_neg G],V,λq hq=>hq.2⟩⟩;obtain⟨z0,z1,z2⟩:=V G;have hi:=X z0;obtain⟨m,rfl⟩:=Int.eq_ofNat_of_zero_le C;have hm:m<S.length:=by omega
  have es:QX S (m:Int) (a,L.length,c) L J W.1=S.set m {S[m]with sy:=(a,L.length,c),sys:=L,hd:=J,df:=W.1}:=by unfold QX;rw[Int.toNat_natCast,List.getElem?_eq_getElem hm]
  have hrl:=qB yU S;simp only[Int.toNat_natCast,q73,List.length_singleton];refine⟨⟨C,hi⟩,by omega,⟨C,hi⟩,by omega,⟨C,hi⟩,by omega,⟨H,(a,L.length,c),L,J,W.1⟩,?_,rfl,?_,V,λq hq=>hq.2⟩
  ·show(if H=0 then QX S (m:Int) (a,L.length,c) L J W.1 else S).length=_;rw[if_pos G,es,List.length_set]
  ·show qa AT.cells (if H=0 then QX S (m:Int) (a,L.length,c) L J W.1 else S)=_;rw[if_pos G,es];exact zqe S m hm _ _ _ _
end
abbrev YM:=List AT×Int×GJ×Int×O6×Int
abbrev uZ:=List AT×Int×SV×List AF
def vZ(S:List AT) (at_:Int) (x:SV) (l:List AF):List AT:=match S[at_.toNat]? with
 |some a=>S.set at_.toNat {a with f:=x,fs:=l}
 |none=>S
def tfM(T:List AT) (l:List AF):PF:=⟨true,λp=>(∀a∈T,a.ok p)/\∀f∈l,f.ok p,λ_ _ h e=>⟨λa A=>AT.ok_mono h (e.1 a A),λf u=>⟨ji h (e.2 f u).1,GJ.ok_mono h (e.2 f u).2⟩⟩⟩
def Hf:CtR where
 σ:=YM
 args:=λ⟨S,e,g,i,sp,d⟩=>[.ptr 1 0,g.av, .sv (.int .i64 i), .sv (.string sp), .sv (.int .i64 d)]
 h:=λ⟨S,e,g,i,sp,d⟩=>jt S e 2 3
 m:=4
 pre:=λ⟨S,e,g,i,sp,d⟩=>S.length<=60/\g.wf/\0<=i/\(e=0->i<S.length)/\1<=d/\d<=20/\(sp.size:Int)<=1100*(d+1)
 mem:=λ⟨S,e,g,i,sp,d⟩=>gM g
 β:=λ_=>uZ
 post:=λ⟨S,e,g,i,sp,d⟩ ⟨T,u,x,fs⟩=>(S++T).length<=60/\(u=0->e=0/\(∀a∈T,kK (S++T).length a)/\(∀f∈fs,(0<=f.ty/\f.ty<(S++T).length)/\f.df.wf)/\fs.length<=7)
 pm:=λ_ ⟨T,u,x,fs⟩=>⟨true,λp=>(∀a∈T,a.ok p)/\qb AF.cells x fs p/\∀f∈fs,f.ok p,λ_ _ h e=>⟨λa C=>AT.ok_mono h (e.1 a C),ji h e.2.1,λf A=>⟨ji h (e.2.2 f A).1,GJ.ok_mono h (e.2.2 f A).2⟩⟩⟩
 r:=λ_ _=> .tup []
 h':=λ⟨S,e,g,i,sp,d⟩ ⟨T,u,x,fs⟩=>jt ((if u=0 then vZ S i x fs else S)++T) u 4 5
 m':=6
def Vd:YM->Nat:=λ⟨S,e,g,i,sp,d⟩=>(25- d).toNat
def XE(h:T AO) (e:Int):List (Nat×AO):=match h.get 1 with
 |some (.cells a b c [sl,_])=>[(1, .cells a b c [sl, .sv (.int .i64 e)])]
 |_=>[]
def fdN:O6:=mkS [102,105,101,108,100,115]
def K9(g:GJ):GJ:=(qp fdN g).getD zJ
abbrev KV:=Nat×Int×List AT×List AF
def Lc(S:List AT) (e:Int) (g:GJ):KV->Prop:=λ⟨i,h,T,fs⟩=>i<=(K9 g).l.length/\fs.length<=i/\(S++T).length<=60/\(h=0->e=0/\(∀a∈T,kK (S++T).length a)/\(∀f∈fs,(0<=f.ty/\f.ty<(S++T).length)/\f.df.wf))
def zel:YM->WayF:=λ⟨S,e,g,i,sp,d⟩=>{
 cut:=λr t h=>match r with
  |15=>some {σ:=Bool,t:=λb=>[(78, .sv (.bool b))],h:=λ_=>[],more:=0,μ:=λ_=>0,keep:=[0,2,3,4,6,10,12,13,14,15]}
  |16=>match wB h 1 with|none=>none|some e0=>some {σ:=Int,pre:=λu=>u=0->e0=0,find:=some λ_ h=>wB h 1,t:=λ_=>[],h:=λu=>XE h u,more:=0,μ:=λ_=>0,keep:=[0,2,3,4,6,10,12,13,14,15]}
  |24=>match wB h 1 with|none=>none|some e0=>some {σ:=Int,pre:=λu=>u=0->e0=0,find:=some λ_ h=>wB h 1,t:=λ_=>[],h:=λu=>XE h u,more:=0,μ:=λ_=>0,keep:=[0,2,3,4,6,10,12,13,14,15,17]}
  |_=>none
 ann:=λid t h=>match id with
  |0=>some {σ:=KV,pre:=Lc S e g,mem:=λ⟨i,u,T,fs⟩=>tfM T fs,t:=λ⟨i,u,T,fs⟩=>[(13, .sv (.int .i64 (i:Int))),(12, .ssl 9 0 fs.length 9 10)],h:=λ⟨i,u,T,fs⟩=>jt (S++T) u 7 8++[(9, .row 70 0 (qa AF.cells fs))],more:=4,μ:=λ⟨i,u,T,fs⟩=>(K9 g).l.length- i,keep:=[0,2,3,4,6,10],del:=[2]}
  |2=>match wB h 1 with|none=>none|some e0=>some {σ:=Nat×Int,pre:=λ⟨k,u⟩=>u=0->e0=0,t:=λ⟨k,u⟩=>[(16, .sv (.int .i64 (k:Int)))],h:=λ⟨k,u⟩=>XE h u,more:=0,μ:=λ⟨k,u⟩=>100- k,keep:=[0,2,3,4,6,10,12,13,14,15]}
  |_=>match wB h 1 with|none=>none|some e0=>some {σ:=Nat×Int,pre:=λ⟨k,u⟩=>u=0->e0=0,t:=λ⟨k,u⟩=>[(19, .sv (.int .i64 (k:Int)))],h:=λ⟨k,u⟩=>XE h u,more:=0,μ:=λ⟨k,u⟩=>2000- k,keep:=[0,2,3,4,6,10,12,13,14,15]}
 pub:=λi k=>match i,k with
  |34,9=>[165]
  |_,_=>[]}
section
variable (e:GJ×O6) (m:List AT) (j u:Int) (d:GJ) (v:O6) (D:Int) (A:Nat) (a:KV) (i:List AT×Int×GJ×O6×Bool) (w I:Int) (z:O6) (f:Option Addr) (h:Nat) (q:Option Addr) (r t F:Nat) (x19:Int) (c:Nat×Int) (H:GJ×O6) (g:List AT×Int×GJ×O6) (K:Option Addr) (L:Nat) (C:qP) (O:Prop) (G:Nat->Option Obj) (E:uZ) (x29:Bool) (x30:Nat×Int)
 abbrev QF:=(if E.2.1=0 then vZ m j E.2.2.1 E.2.2.2 else m)++E.1
 def Cy:=j=0/\(∀(b:AT),b∈E.1->kK (length (m++E.1)) b)/\(∀(B:AF),B∈E.2.2.2->(0<=AF.ty B/\AF.ty B<(↑(length (m++E.1)):Int))/\GJ.wf (AF.df B))/\length E.2.2.2<=7
 def Ut:=(length (m++E.1)<=60/\(E.2.1=0->Cy m j E))
 def Ur:=(∀(b:AT),b∈E.1->AT.ok b G)/\qb AF.cells E.2.2.1 E.2.2.2 G/\∀(B:AF),B∈E.2.2.2->AF.ok B G
 def LJ:=∃(b:List AT),D=D/\length b=length m/\j=j/\qa AT.cells b=qa AT.cells m/\True/\∃(B:uZ),length (QF m u B)=length b/\B.2.1=qt j D/\qa AT.cells (QF m u B)=qa AT.cells b/\Ut m j B/\(∀M,True/\GJ.ok d M->Ur M B)/\True
 abbrev qX:=Option.getD (qp e.2 e.1) zJ
 abbrev LO:=(↑(GJ.y (qX e)).2.1:Int)
 def LK:=GJ.k d=GJ.k d/\GJ.n d=GJ.n d/\GJ.s d=GJ.s d/\(GJ.y d).1=(GJ.y d).1/\(GJ.y d).2.1=(GJ.y d).2.1/\(GJ.y d).2.2=(GJ.y d).2.2/\(GJ.x d).1=(GJ.x d).1/\(GJ.x d).2.1=(GJ.x d).2.1/\(GJ.x d).2.2=(GJ.x d).2.2/\O
 def kM:=GJ.k (qX e)=GJ.k (qX e)/\GJ.n (qX e)=GJ.n (qX e)/\GJ.s (qX e)=GJ.s (qX e)/\(GJ.y (qX e)).1=(GJ.y (qX e)).1/\(GJ.y (qX e)).2.1=(GJ.y (qX e)).2.1/\(GJ.y (qX e)).2.2=(GJ.y (qX e)).2.2/\(GJ.x (qX e)).1=(GJ.x (qX e)).1/\(GJ.x (qX e)).2.1=(GJ.x (qX e)).2.1/\(GJ.x (qX e)).2.2=(GJ.x (qX e)).2.2/\O
 def LL:=(∀(b:AT),b∈a.2.2.1->AT.ok b G)/\∀(B:AF),B∈a.2.2.2->AF.ok B G
 def w9:=(True/\GJ.ok d G)/\LL a G
 abbrev kN:=jH i.2.2.1 i.2.2.2.1 i.2.2.2.2 i.2.1
 abbrev Uw:=(kN i).2=0
 def Uu:=length a.2.2.2=length a.2.2.2
 def xH:=(↑a.1:Int)=(↑a.1:Int)/\j=j/\u=u/\Uu a/\O
 def Uz:=length i.1=length i.1
 def Uv:=qa AT.cells i.1=qa AT.cells i.1
 def LM:=Uz i/\(kN i).2=(kN i).2/\Uv i/\O
 def y':=j=j/\u=u/\v=v/\f=f/\A=A/\h=h/\q=q/\r=r/\t=t/\qa AF.cells a.2.2.2=qa AF.cells a.2.2.2/\LK d ((kN i).1=(kN i).1/\O)
 def xI:=(∀b,(w9 d a b)->w9 d a b)
 def CH:=(kN i).1=(kN i).1/\size (kN i).1<1000000/\∃(b:Bool),v=v/\xH j u a (b= !vC (kN i).1/\LM i (y' D w d z A a i f h q r t (kM e (xI d a/\True/\True))))
 def CC:=(x29=true->∃(b:List AT),(6:Int)=6/\length b=length i.1/\(kN i).2=(kN i).2/\qa AT.cells b=qa AT.cells i.1/\True/\v=v/\xH j u a (length i.1=length b/\qt (kN i).2 (6:Int)=qt (kN i).2 6/\qa AT.cells i.1=qa AT.cells b/\y' D w d z A a i f h q r t (kM e (xI d a/\(qt (kN i).2 (6:Int)=0->Uw i)/\True))))/\(x29=false->v=v/\xH j u a (LM i (y' D w d z A a i f h q r t (kM e (xI d a/\((kN i).2=0->Uw i)/\True)))))
 def Uy:=c.2=0->j=0
 def Tw:=j=j/\length m=length i.1/\c.2=c.2/\qa AT.cells m=qa AT.cells i.1/\True/\O
 abbrev Us:=Jb ((↑c.1:Int)+1)
 def UA:=(↑c.1:Int)=(↑x30.1:Int)+1
 def CG:=Us c/\∃(b:Nat×Int),v=v/\(↑a.1:Int)=(↑a.1:Int)/\j=j/\u=u/\UA b c/\Uu a/\Uz i/\b.2=c.2/\Uv i/\y' D w d z A a i f h q r t (kM e (xI d a/\(Uy I b)/\(100:Nat)- b.1<100- c.1/\True))
 def CB:=(0<=(↑c.1:Int)/\(↑c.1:Int)<(↑(length a.2.2.2):Int))/\∃b,qfi (qa AF.cells a.2.2.2) (nat_lit 0+toNat (↑c.1:Int)*nat_lit 9+0) [string b]/\Ji (b=(kN i).1) (∃(B:List AT),Tw B 5 i c (Us c/\∃(M:Nat×Int),v=v/\(↑a.1:Int)=(↑a.1:Int)/\j=j/\u=u/\UA M c/\Uu a/\length i.1=length B/\M.2=qt c.2 5/\qa AT.cells i.1=qa AT.cells B/\y' D w d z A a i f h q r t (kM e (xI d a/\(Uy I M)/\(100:Nat)- M.1<100- c.1/\True)))) (CG e j u d v D A a i w I z f h q r t c)
 def Tv:=GJ.k e.1=j/\GJ.n e.1=u/\GJ.s e.1=v/\(GJ.y e.1).1=f/\(GJ.y e.1).2.1=A/\(GJ.y e.1).2.2=h/\(GJ.x e.1).1=q/\(GJ.x e.1).2.1=r/\(GJ.x e.1).2.2=t/\O
 def Ux:=(w9 d a G)/\∀(b:AT),b∈C.1->AT.ok b G
 def QE:=(Ux d a C G)/\qb qo (f,A,h) (zi g.2.2.1 g.2.2.2 g.2.1).1 G
 def LN:=c.2=0->(zi g.2.2.1 g.2.2.2 g.2.1).2.2=0
 def Tu:=f=f/\A=A/\h=h/\C.2.2=C.2.2/\Option.isSome (qp e.2 e.1)=Option.isSome (qp e.2 e.1)/\kM e (kM H ((∀b,QE d A a f h g C b->QE d A a f h g C b)/\(LN c g)/\(2000:Nat)- c.1<2000- x30.1/\True))
 def CF:=Us c/\∃(b:Nat×Int),v=v/\UA b c/\xH j u a (length g.1=length g.1/\b.2=c.2/\qa AT.cells g.1=qa AT.cells g.1/\y' D w d z A a i f h q r t (Tu e d F a K L b H g C c))
 def CA:=(0<=(↑c.1:Int)/\(↑c.1:Int)<(↑A:Int))/\f≠noA/\∃b,(∀B,QE d A a f h g C B->q2u B (adr f (toNat (↑c.1:Int)*1)) [string b])/\b=b/\size b<1000000/\((!vC b)=true->∃(Q:List AT),(6:Int)=6/\length Q=length g.1/\c.2=c.2/\qa AT.cells Q=qa AT.cells g.1/\True/\Us c/\∃(J:Nat×Int),v=v/\UA J c/\xH j u a (length g.1=length Q/\J.2=qt c.2 6/\qa AT.cells g.1=qa AT.cells Q/\y' D w d z r a i q t K F L (Tu e d A a f h J H g C c)))/\((!vC b)=false->CF e j u d v D r a i w z q t K F L A c H g f h C)
 def Ts:=length (qa AF.cells a.2.2.2)=length a.2.2.2*9/\(length a.2.2.2+nat_lit 1)*136<=140737488355328/\Jb ((↑a.1:Int)+1)/\∃(b:KV),v=v/\(↑b.1:Int)=(↑a.1:Int)+1/\j=j/\u=u/\length b.2.2.2=length a.2.2.2+nat_lit 1/\length (m++b.2.2.1)=length g.1/\b.2.1=c.2/\qa AT.cells (m++b.2.2.1)=qa AT.cells g.1/\qa AF.cells b.2.2.2=qa AF.cells a.2.2.2++[string (kN i).1,slice f A h,int i64 C.2.2,bool (Option.isSome (qp e.2 e.1)),int i64 (GJ.k (qX e)),int i64 (GJ.n (qX e)),string (GJ.s (qX e)),slice (GJ.y (qX e)).1 (GJ.y (qX e)).2.1 (GJ.y (qX e)).2.2,slice (GJ.x (qX e)).1 (GJ.x (qX e)).2.1 (GJ.x (qX e)).2.2]/\LK d (kM H ((∀B,QE d A a f h g C B->True/\GJ.ok d B)/\(∀N,QE d A a f h g C N->LL b N)/\Lc m D d b/\length (GJ.l (K9 d))- b.1<length (GJ.l (K9 d))- a.1/\True))
 def Cz:=Ji (c.2=0) (CA e j u d v D A a i w z f h q r t F c H g K L C) (Ts e m j u d v I A a i f h c H g C)
 def Cx:=Ji ((↑c.1:Int)<(↑A:Int)) (Cz e m j u d v D A a i w I z f h q r t F c H g K L C) (Ts e m j u d v I A a i f h c H g C)
 def iW:=(∃(b:Nat×Int),v=v/\(↑b.1:Int)=0/\xH j u a (length g.1=length g.1/\b.2=(zi g.2.2.1 g.2.2.2 g.2.1).2.2/\qa AT.cells g.1=qa AT.cells g.1/\y' D w d z A a i f h q r t (K=K/\F=F/\L=L/\C.2.2=C.2.2/\Option.isSome (qp e.2 e.1)=Option.isSome (qp e.2 e.1)/\kM e (kM H ((∀B,QE d F a K L g C B->QE d F a K L g C B)/\(LN b g)/\True)))))/\∀(i8:Nat×Int),(LN i8 g)->Cx e m j u d v D F a i w I z K L f A h r i8 H g q t C
 def iV:=Jb (j+1)/\∃(b:vL),GJ.k b.2.2.1=GJ.k (qX e)/\GJ.n b.2.2.1=GJ.n (qX e)/\GJ.s b.2.2.1=GJ.s (qX e)/\(GJ.y b.2.2.1).1=(GJ.y (qX e)).1/\(GJ.y b.2.2.1).2.1=(GJ.y (qX e)).2.1/\(GJ.y b.2.2.1).2.2=(GJ.y (qX e)).2.2/\(GJ.x b.2.2.1).1=(GJ.x (qX e)).1/\(GJ.x b.2.2.1).2.1=(GJ.x (qX e)).2.1/\(GJ.x b.2.2.1).2.2=(GJ.x (qX e)).2.2/\b.2.2.2.1=v/\b.2.2.2.2=j+1/\length b.1=length i.1/\b.2.1=u/\qa AT.cells b.1=qa AT.cells i.1/\(j_ b<A/\y7 b)/\(∀B,(w9 d a B)->GJ.ok b.2.2.1 B)/\∀(J:qP),zG b J->(∃N,Ux d a J N)->∃(Y:GJ×O6),Tv Y D w z h f r q t F (Y.2=mkS [100,101,102,97,117,108,116]/\GJ.wf Y.1/\(∀i10,(Ux d a J i10)->GJ.ok Y.1 i10)/\∃(o:List AT×Int×GJ×O6),GJ.k o.2.2.1=D/\GJ.n o.2.2.1=w/\GJ.s o.2.2.1=z/\(GJ.y o.2.2.1).1=f/\(GJ.y o.2.2.1).2.1=h/\(GJ.y o.2.2.1).2.2=r/\(GJ.x o.2.2.1).1=q/\(GJ.x o.2.2.1).2.1=t/\(GJ.x o.2.2.1).2.2=F/\o.2.2.2=mkS [97,108,105,97,115,101,115]/\length o.1=length (b.1++J.1)/\o.2.1=J.2.1/\qa AT.cells o.1=qa AT.cells (b.1++J.1)/\GJ.wf o.2.2.1/\(∀T,(Ux d a J T)->GJ.ok o.2.2.1 T)/\∀(i19:Unit),True->∀(V:Option Addr) (p W:Nat),(∃i23,QE d p a V W o J i23)->iW Y m I j d v D h a i w x19 z f r q t F p H o V W J)
 def iU:=Ji ((↑c.1:Int)<(↑(length a.2.2.2):Int)) (CB e j u d v D A a i w I z f h q r t c) (∃(o:GJ×O6),Tv o D w z A f h q r t (o.2=mkS [116,121,112,101]/\GJ.wf o.1/\(∀T,(w9 d a T)->GJ.ok o.1 T)/\(((!Option.isSome (qp o.2 o.1))=true->∃(Z:List AT),Tw Z 2 i c (v=v/\xH j u a (length i.1=length Z/\qt c.2 (2:Int)=qt c.2 2/\qa AT.cells i.1=qa AT.cells Z/\y' D w d z A a i f h q r t (kM e (kM o (xI d a/\(qt c.2 (2:Int)=0->c.2=0)/\True))))))/\((!Option.isSome (qp o.2 o.1))=false->v=v/\xH j u a (Uz i/\c.2=c.2/\Uv i/\y' D w d z A a i f h q r t (kM e (kM o (xI d a/\(c.2=0->c.2=0)/\True))))))/\∀(i29:Int),(i29=0->c.2=0)->iV o m u i29 d v D F a i w j z f A q h r t x19 e))
 def iS:=(∃(b:Nat×Int),v=v/\(↑a.1:Int)=(↑a.1:Int)/\j=j/\u=u/\(↑b.1:Int)=0/\Uu a/\Uz i/\b.2=D/\Uv i/\y' w I d z A a i f h q r t (kM e (xI d a/\(Uy D b)/\True)))/\∀(R:Nat×Int),(Uy D R)->iU e m j u d v w A a i I D z f h q r t F x19 R
 def iR:=(0<=(↑a.1:Int)/\(↑a.1:Int)<(LO e))/\(GJ.y (qX e)).1≠noA/\∃(b:Int),∃(B:Int),∃M,∃Q,∃(J:Nat),∃(N:Nat),∃R,∃(i7:Nat),∃(i8:Nat),(∀Y,(w9 d a Y)->q2u Y (adr (GJ.y (qX e)).1 (toNat (↑a.1:Int)*5)) [int i64 b,int i64 B,string M,slice Q J N,slice R i7 i8])/\((!decide (b=6))=true->∃(X:List AT),(2:Int)=2/\length X=length (m++a.2.2.1)/\a.2.1=a.2.1/\qa AT.cells X=qa AT.cells (m++a.2.2.1)/\True/\∃(S:uZ),length (QF m j S)=length X/\S.2.1=qt a.2.1 2/\qa AT.cells (QF m j S)=qa AT.cells X/\Ut m u S/\(∀i16,(w9 d a i16)->Ur i16 S)/\True)/\((!decide (b=6))=false->∃(p:List AT×Int×GJ×O6×Bool),GJ.k p.2.2.1=b/\GJ.n p.2.2.1=B/\GJ.s p.2.2.1=M/\(GJ.y p.2.2.1).1=Q/\(GJ.y p.2.2.1).2.1=J/\(GJ.y p.2.2.1).2.2=N/\(GJ.x p.2.2.1).1=R/\(GJ.x p.2.2.1).2.1=i7/\(GJ.x p.2.2.1).2.2=i8/\p.2.2.2.1=mkS [110,97,109,101]/\p.2.2.2.2=true/\length p.1=length (m++a.2.2.1)/\p.2.1=a.2.1/\qa AT.cells p.1=qa AT.cells (m++a.2.2.1)/\GJ.wf p.2.2.1/\(∀W,(w9 d a W)->GJ.ok p.2.2.1 W)/\((Ji (Uw p) (CH e j D d v b J a p B M Q N R i7 i8) (∃(i31:Bool),v=v/\xH j D a (i31=false/\LM p (y' b B d M J a p Q N R i7 i8 (kM e (xI d a/\True/\True))))))/\∀(i37:Bool),True->CC e j D d v b J a p B M Q N R i7 i8 i37)/\∀(i49:Int),(i49=0->Uw p)->iS e m j D d v i49 J a p b B M Q N R i7 i8 A u)
 def Tx:=(w9 d a G)/\length a.2.2.2<=A/\qfu G f (take (length a.2.2.2*nat_lit 9) (qa AF.cells a.2.2.2))
 def CE:=nat_lit 0+toNat j*nat_lit 10+8+length [slice f (length a.2.2.2) A]<=length (qa AT.cells (m++a.2.2.1))/\∃(b:uZ),length (QF m j b)=length (m++a.2.2.1)/\b.2.1=a.2.1/\qa AT.cells (QF m j b)=spl (qa AT.cells (m++a.2.2.1)) (nat_lit 0+toNat j*nat_lit 10+8) [slice f (length a.2.2.2) A]/\Ut m u b/\(∀B,Tx d A a f B->Ur B b)/\True
 def CD:=(0<=j/\j<(↑(length (m++a.2.2.1)):Int))/\∀(b B M:Nat) (Q:Option Addr) (J N:Nat),(∃R,Tx d N a Q R)->CE m j u d N a Q
 def Tr:=Ji (a.2.1=0) (CD m j u d a) (∃(U:uZ),length (QF m j U)=length (m++a.2.2.1)/\U.2.1=a.2.1/\qa AT.cells (QF m j U)=qa AT.cells (m++a.2.2.1)/\Ut m u U/\(∀V,(w9 d a V)->Ur V U)/\True)
 def iQ:=Ji (a.2.1=0) (iR e m j u d v D A a) (Tr m j u d a)
 def iP:=Ji ((↑a.1:Int)<(LO e)) (iQ e m j u d v D A a) (Tr m j u d a)
 def iO:=(∃(b:KV),v=v/\(↑b.1:Int)=0/\j=j/\u=u/\length b.2.2.2=0/\length (m++b.2.2.1)=length m/\b.2.1=D/\qa AT.cells (m++b.2.2.1)=qa AT.cells m/\LK d (kM e ((∀B,True/\GJ.ok d B->True/\GJ.ok d B)/\(∀M,True/\GJ.ok d M->LL b M)/\Lc m D d b/\True)))/\∀(N:KV),Lc m D d N->(∃R,w9 d N R)->iP e m j D d v u A N
 def iN:=Ji (30<(LO e)) (LJ m j u d 3) (iO e m u D d v j A)
 def iM:=((!decide (GJ.k (qX e)=5))=true->LJ m j u d 2)/\((!decide (GJ.k (qX e)=5))=false->iN e m j u d v D A)
end
def zaw(n:Nat) (S:List AT) (e:Int) (g:GJ) (i:Int) (sp:O6) (d:Int):qiy P (qef [(66,xC),(100,Ua),(124,Ye),(103,V9),(63,wT)]) (qff [(32,wV.below j_ n)]) Tryz.f104 (Hf.below Vd (n+1)) (zel) ⟨S,e,g,i,sp,d⟩=(Vd (S,e,g,i,sp,d)<n+1/\length S<=60/\GJ.wf g/\0<=i/\(e=0->i<(↑(length S):Int))/\1<=d/\d<=20/\(↑(size sp):Int)<=1100*(d+1)->(∃(p:Pub),True/\GJ.ok g p)->∃(s:GJ×O6),GJ.k s.1=GJ.k g/\GJ.n s.1=GJ.n g/\GJ.s s.1=GJ.s g/\(GJ.y s.1).1=(GJ.y g).1/\(GJ.y s.1).2.1=(GJ.y g).2.1/\(GJ.y s.1).2.2=(GJ.y g).2.2/\(GJ.x s.1).1=(GJ.x g).1/\(GJ.x s.1).2.1=(GJ.x g).2.1/\(GJ.x s.1).2.2=(GJ.x g).2.2/\s.2=mkS [102,105,101,108,100,115]/\GJ.wf s.1/\(∀(p:Pub),True/\GJ.ok g p->GJ.ok s.1 p)/\((!Option.isSome (qp s.2 s.1))=true->LJ S e i g 2)/\((!Option.isSome (qp s.2 s.1))=false->iM s S e i g sp d n)):=by kernel_rfl
def zfa:=λn S e g i sp d=>Eq.trans (zaw n S e g i sp d) (by delta Ji Jb Jt Jf QF Cy Ut Ur LJ qX LO LK kM LL w9 kN Uw Uu xH Uz Uv LM y' xI CH CC Uy Tw Us UA CG CB Tv Ux QE LN Tu CF CA Ts Cz Cx iW iV iU iS iR Tx CE CD Tr iQ iP iO iN iM;exact rfl)
def zos(S:List AT) (k:Nat) (h:k<S.length) (x:SV) (l:List AF) (B:List AT):qa AT.cells (S.set k {S[k]with f:=x,fs:=l}++B)=spl (qa AT.cells (S++B)) (0+k*10+8) [k_ x]:=by
 rw[zF,zF,ID S k h];conv=>rhs;rw[z9r S k h]
 rw[Nat.zero_add,←z9u S k h];generalize qa AT.cells (S.take k)=A;generalize qa AT.cells (S.drop (k+1))=C;generalize qa AT.cells B=D;show _=((A++((S[k]).cells++C))++D).set (A.length+8) (k_ x);rw[List.append_assoc A (S[k].cells++C) D,V6,List.append_assoc A];rfl
def j72{l:List AF} {i:Nat} (h:i<l.length):∀(j:Nat) (v:Value),[Value.string l[i].nm][j]? =some v->(qa AF.cells l)[0+i*9+0+j]? =some v:=λj v u=>by
 cases j with
 |zero=>have:=JY HI l i h 0 (by decide);rw[Nat.add_zero]at this;rw[Nat.zero_add,Nat.add_zero,this];exact u
 |succ j=>simp at u
def zw6{g:GJ} (u:g.wf) (s:O6) (b:Bool) (e:Int):(jH g s b e).1.size<1000:=by
  have h:=(wR s u).1;unfold jH;cases A:qp s g with
  | none=>
    simp only;split<;>exact Nat.zero_lt_succ _
  | some t=>
    rw[A]at h;simp only;split
    · have h:t.wf:=h;rw[GJ.wf_eq]at h;exact h.1
    · exact Nat.zero_lt_succ _
def zfb(n:Nat) (ht:q1i P 32 (wV.below j_ n)):q1i P 104 (Hf.below Vd (n+1)):=by
 refine zI (qbu (qfr JU (qfr IL (qfr I6 (qfr IH (qfr xw qil)))))) (qcl (qfq ht qik)) (W:=zel) Tryz.func104 λ⟨S,(e:Int),g,(i:Int),sp,(d:Int)⟩=>(zfa n S e g i sp d).mpr ?_;rintro⟨hmu,hS,hg,hi0,hi1,hd1,hd2,hsp⟩ ⟨p,_,hp⟩;have hmu:(25- d).toNat<n+1:=hmu;simp only[qy,exists_const,forall_const,Int.toNat_natCast];have bad:∀(T:List AT) (e1 k:Int),k≠0->(S++T).length<=60->(∀q,g.ok q->∀a∈T,a.ok q)->True:=λ_ _ _ _ _ _=>trivial;have z:∀(T:List AT) (k:Int) (x:SV) (fs:List AF),k≠0->((if k=0 then vZ S i x fs else S)++T)=S++T:=λT k x fs hk=>by rw[if_neg hk]
 obtain⟨lw,lok⟩:=wR (mkS [102,105,101,108,100,115]) hg;refine⟨⟨g,mkS [102,105,101,108,100,115]⟩,rfl,rfl,rfl,rfl,rfl,rfl,rfl,rfl,rfl,rfl,hg,λq hq=>hq,λhno=>⟨S,rfl,rfl,⟨[],qt e 2,(none,0,0),[]⟩,by show(_++[]).length=_;rw[z _ _ _ _ (je (by decide)),List.append_nil],rfl,by show qa AT.cells (_++[])=_;rw[z _ _ _ _ (je (by decide)),List.append_nil],⟨by show(S++[]).length<=60;rw[List.append_nil];exact hS,λh=>absurd h (je (by decide))⟩,λq hq=>⟨λa O=>(by cases O),qQ,λf u=>(by cases u)⟩⟩,λhyes=>⟨λhk=>⟨S,rfl,rfl,⟨[],qt e 2,(none,0,0),[]⟩,by show(_++[]).length=_;rw[z _ _ _ _ (je (by decide)),List.append_nil],rfl,by show qa AT.cells (_++[])=_;rw[z _ _ _ _ (je (by decide)),List.append_nil],⟨by show(S++[]).length<=60;rw[List.append_nil];exact hS,λh=>absurd h (je (by decide))⟩,λq hq=>⟨λa O=>(by cases O),qQ,λf u=>(by cases u)⟩⟩,λhk=>⟨λh30=>⟨S,rfl,rfl,⟨[],qt e 3,(none,0,0),[]⟩,by show(_++[]).length=_;rw[z _ _ _ _ (je (by decide)),List.append_nil],rfl,by show qa AT.cells (_++[])=_;rw[z _ _ _ _ (je (by decide)),List.append_nil],⟨by show(S++[]).length<=60;rw[List.append_nil];exact hS,λh=>absurd h (je (by decide))⟩,λq hq=>⟨λa O=>(by cases O),qQ,λf u=>(by cases u)⟩⟩,λh30=> ?_⟩⟩⟩;have hfd:K9 g=(qp (mkS [102,105,101,108,100,115]) g).getD zJ:=rfl;simp only at*;generalize (qp (mkS [102,105,101,108,100,115]) g).getD zJ=t at*;have J:=λq (hq:g.ok q)=>(show qb GJ.cells t.y t.l q by have:=lok q hq;rw[GJ.ok_eq]at this;exact this.1);have tl:t.y.2.1=t.l.length:=(J p hp).1;have lww:=lw;rw[GJ.wf_eq]at lww;refine⟨⟨⟨0,e,[],[]⟩,rfl,rfl,by show(S++[]).length=_;rw[List.append_nil],rfl,by show qa AT.cells (S++[])=_;rw[List.append_nil],λq hq=>⟨λa O=>(by cases O),λf u=>(by cases u)⟩,⟨Nat.zero_le _,Nat.zero_le _,by show(S++[]).length<=60;rw[List.append_nil];exact hS,λh=>⟨h,λa O=>(by cases O),λf u=>(by cases u)⟩⟩⟩,?_⟩;rintro⟨j,e1,T,fs⟩ ⟨hj,hfl,H,hinv⟩ ⟨p1,hp1,hT1,hf1⟩;simp only[hfd]at hj⊢;have C:e1≠0->∃b:uZ,((if b.snd.fst=0 then vZ S i b.snd.snd.fst b.snd.snd.snd else S)++b.fst).length=(S++T).length/\b.snd.fst=e1/\qa AT.cells ((if b.snd.fst=0 then vZ S i b.snd.snd.fst b.snd.snd.snd else S)++b.fst)=qa AT.cells (S++T)/\((S++b.fst).length<=60/\(b.snd.fst=0->e=0/\(∀(a:AT),a∈b.fst->kK (S++b.fst).length a)/\(∀(f:AF),f∈b.snd.snd.snd->(0<=f.ty/\f.ty<↑(S++b.fst).length)/\f.df.wf)/\b.snd.snd.snd.length<=7))/\∀(p:Nat->Option Obj),(g.ok p/\(∀(a:AT),a∈T->a.ok p)/\∀(f:AF),f∈fs->f.ok p)->(∀(a:AT),a∈b.fst->a.ok p)/\qb AF.cells b.snd.snd.fst b.snd.snd.snd p/\∀(f:AF),f∈b.snd.snd.snd->f.ok p:=λhe=>⟨⟨T,e1,(none,0,0),[]⟩,by show(_++T).length=_;rw[z _ _ _ _ he],rfl,by show qa AT.cells (_++T)=_;rw[z _ _ _ _ he],⟨H,λh=>absurd h he⟩,λq hq=>⟨hq.2.1,qQ,λf u=>(by cases u)⟩⟩;have G:e1=0->(0<=i/\i<((S++T).length:Int))/\∀(a:Option Addr) (c:Nat),(∃p,(g.ok p/\(∀(a:AT),a∈T->a.ok p)/\∀(f:AF),f∈fs->f.ok p)/\fs.length<=c/\qfu p a (List.take (fs.length*9) (qa AF.cells fs)))->0+i.toNat*10+8+[Value.slice a fs.length c].length<=(qa AT.cells (S++T)).length/\∃b:uZ,((if b.snd.fst=0 then vZ S i b.snd.snd.fst b.snd.snd.snd else S)++b.fst).length=(S++T).length/\b.snd.fst=e1/\qa AT.cells ((if b.snd.fst=0 then vZ S i b.snd.snd.fst b.snd.snd.snd else S)++b.fst)=spl (qa AT.cells (S++T)) (0+i.toNat*10+8) [Value.slice a fs.length c]/\((S++b.fst).length<=60/\(b.snd.fst=0->e=0/\(∀(a:AT),a∈b.fst->kK (S++b.fst).length a)/\(∀(f:AF),f∈b.snd.snd.snd->(0<=f.ty/\f.ty<↑(S++b.fst).length)/\f.df.wf)/\b.snd.snd.snd.length<=7))/\∀(p:Nat->Option Obj),(g.ok p/\(∀(a:AT),a∈T->a.ok p)/\∀(f:AF),f∈fs->f.ok p)/\fs.length<=c/\qfu p a (List.take (fs.length*9) (qa AF.cells fs))->(∀(a:AT),a∈b.fst->a.ok p)/\qb AF.cells b.snd.snd.fst b.snd.snd.snd p/\∀(f:AF),f∈b.snd.snd.snd->f.ok p:=λhe=>by
  obtain⟨i0,iT,iF⟩:=hinv he;have hi:=hi1 i0;obtain⟨m,rfl⟩:=Int.eq_ofNat_of_zero_le hi0;have hm:m<S.length:=by omega
  have es:∀x,vZ S (m:Int) x fs=S.set m {S[m]with f:=x,fs:=fs}:=λx=>by unfold vZ;rw[Int.toNat_natCast,List.getElem?_eq_getElem hm]
  have hl:(S++T).length=S.length+T.length:=List.length_append;refine⟨⟨hi0,by omega⟩,λa c _=>⟨by rw[qB yU,hl,Int.toNat_natCast];show 0+m*10+8+1<=_;omega,⟨T,e1,(a,fs.length,c),fs⟩,?_,rfl,?_,⟨H,λ_=>⟨i0,iT,iF,by show fs.length<=7;omega⟩⟩,λq hq=>⟨hq.1.2.1,?_,hq.1.2.2⟩⟩⟩
  ·show((if e1=0 then vZ S (m:Int) (a,fs.length,c) fs else S)++T).length=_;rw[if_pos he,es,List.length_append,List.length_set,hl]
  ·show qa AT.cells ((if e1=0 then vZ S (m:Int) (a,fs.length,c) fs else S)++T)=_;rw[if_pos he,es];exact zos S m hm _ _ T
  ·refine⟨rfl,hq.2.1,?_⟩;have:=hq.2.2;rw[List.take_of_length_le (by rw[qB HI];exact Nat.le_refl _)]at this;exact this
 refine⟨λhlt=>⟨λhe0=> ?_,λhe0=>⟨λh=>G h,λh=>C h⟩⟩,λhge=>⟨λh=>G h,λh=>C h⟩⟩;have X:j<t.l.length:=by omega
 have hat:=λq (hq:g.ok q)=>j3 ZB (by decide) (J q hq) X;have N:t.l[j].wf:=GJ.wfs_at lww.2.2.2.2.2.2 X;have A:∀q,g.ok q->t.l[j].ok q:=λq hq=>by have:=lok q hq;rw[GJ.ok_eq]at this;exact GJ.oks_at this.2.2 X
 refine⟨⟨by omega,by omega⟩,(hat p1 hp1).1,t.l[j].k,t.l[j].n,t.l[j].s,t.l[j].y.1,t.l[j].y.2.1,t.l[j].y.2.2,t.l[j].x.1,t.l[j].x.2.1,t.l[j].x.2.2,λq hq=>(hat q hq.1).2,λh6=>⟨S++T,rfl,rfl,⟨T,qt e1 2,(none,0,0),[]⟩,by show(_++T).length=_;rw[z _ _ _ _ (je (by decide))],rfl,by show qa AT.cells (_++T)=_;rw[z _ _ _ _ (je (by decide))],⟨H,λh=>absurd h (je (by decide))⟩,λq hq=>⟨hq.2.1,qQ,λf u=>(by cases u)⟩⟩,λh6=> ?_⟩;obtain⟨e00,hTg,hfg⟩:=hinv he0;clear C G z bad;refine⟨⟨S++T,e1,t.l[j],mkS [110,97,109,101],true⟩,rfl,rfl,rfl,rfl,rfl,rfl,rfl,rfl,rfl,rfl,rfl,rfl,rfl,rfl,N,λq hq=>A q hq.1,?_⟩;simp only;have hnm:=zw6 N (mkS [110,97,109,101]) true e1;have hwe:(jH t.l[j] (mkS [110,97,109,101]) true e1).2=0->e1=0:=OP;generalize jH t.l[j] (mkS [110,97,109,101]) true e1=W at*;refine⟨⟨⟨λ_=>⟨by omega,_,rfl⟩,λ_=>⟨false,rfl⟩⟩,λ_ _=>⟨S++T,rfl,rfl,rfl,rfl,λh=>(y0 (by decide) h).elim⟩⟩,?_⟩;intro e4 h4;refine⟨⟨⟨0,e4⟩,rfl,rfl,λh=>h⟩,?_⟩;rintro⟨k,e5⟩ h5;simp only at h5⊢;have hST':=H;refine⟨λhkl=>⟨⟨by omega,by omega⟩,fs[k]'(by omega)|>.nm,j72 (by omega),λ_=>⟨S++T,rfl,rfl,⟨by omega,by omega⟩,⟨k+1,qt e5 5⟩,by show((k+1:Nat):Int)=_;omega,rfl,rfl,rfl,λh=>(y0 (by decide) h).elim,by show 100- (k+1)<100- k;omega⟩,λ_=>⟨⟨by omega,by omega⟩,⟨k+1,e5⟩,by show((k+1:Nat):Int)=_;omega,rfl,h5,by show 100- (k+1)<100- k;omega⟩⟩,λhkl=> ?_⟩;obtain⟨tw,tok⟩:=wR (mkS [116,121,112,101]) N;refine⟨⟨t.l[j],mkS [116,121,112,101]⟩,rfl,rfl,rfl,rfl,rfl,rfl,rfl,rfl,rfl,rfl,N,λq hq=>A q hq.1,?_⟩;simp only;generalize (qp (mkS [116,121,112,101]) t.l[j]).getD zJ=ty at*;refine⟨λ_=>⟨S++T,rfl,rfl,rfl,rfl,λh=>(y0 (by decide) h).elim⟩,?_⟩;intro e7 h7;refine⟨⟨by omega,by omega⟩,⟨S++T,e7,ty,sp,d+1⟩,rfl,rfl,rfl,rfl,rfl,rfl,rfl,rfl,rfl,rfl,rfl,rfl,rfl,rfl,⟨by show(25- (d+1)).toNat<n;omega,H,tw,by omega,by omega,hsp⟩,λq hq=>tok q (A q hq.1),?_⟩;rintro⟨U,Y,r⟩ ⟨⟨hU,Z⟩,hr⟩ ⟨p2,hp2,hU3⟩;simp only at hU Z hr hU3⊢;obtain⟨dw,dok⟩:=wR (mkS [100,101,102,97,117,108,116]) N;refine⟨⟨t.l[j],mkS [100,101,102,97,117,108,116]⟩,rfl,rfl,rfl,rfl,rfl,rfl,rfl,rfl,rfl,rfl,N,λq hq=>A q hq.1.1,⟨S++T++U,Y,t.l[j],mkS [97,108,105,97,115,101,115]⟩,rfl,rfl,rfl,rfl,rfl,rfl,rfl,rfl,rfl,rfl,rfl,rfl,rfl,N,λq hq=>A q hq.1.1,?_⟩;have hsz:∀x∈(zi t.l[j] (mkS [97,108,105,97,115,101,115]) Y).1,x.size<1000:=IJ N;have hLl:(zi t.l[j] (mkS [97,108,105,97,115,101,115]) Y).1.length<1000:=II N;have hE:(zi t.l[j] (mkS [97,108,105,97,115,101,115]) Y).2.2=0->Y=0:=OA;simp only;generalize zi t.l[j] (mkS [97,108,105,97,115,101,115]) Y=F at*;generalize hdj:(qp (mkS [100,101,102,97,117,108,116]) t.l[j]).getD zJ=df at*;rintro a m c ⟨p3,hp3,hl3⟩;have hm:m=F.1.length:=hl3.1;subst hm;have V:=λ(k:Nat) (hk:k<F.1.length) (q:Pub) (hq:qb qo (a,F.1.length,c) F.1 q)=>(show a≠noA/\q2u q (adr a (k*1)) [.string F.1[k]]from j3 jS (by decide) hq hk);refine⟨⟨⟨0,F.2.2⟩,rfl,rfl,λh=>h⟩,?_⟩;rintro⟨x,e9⟩ h9;simp only at h9⊢;have hlen:(S++(T++U)).length=(S++T).length+U.length:=by rw[←List.append_assoc];exact List.length_append
 refine⟨λhx=>⟨λh0=>⟨⟨by omega,by omega⟩,(V x (by omega) p3 hl3).1,F.1[x]'(by omega),λq hq=>(V x (by omega) q hq.2).2,by have:=hsz _ (List.getElem_mem (show x<F.1.length by omega));omega,λ_=>⟨S++T++U,rfl,rfl,⟨by omega,by omega⟩,⟨x+1,qt e9 6⟩,by show((x+1:Nat):Int)=_;omega,rfl,rfl,rfl,λh=>(y0 (by decide) h).elim,by show 2000- (x+1)<2000- x;omega⟩,λ_=>⟨⟨by omega,by omega⟩,⟨x+1,e9⟩,by show((x+1:Nat):Int)=_;omega,rfl,h9,by show 2000- (x+1)<2000- x;omega⟩⟩,λh0=> ?xa⟩,λhx=> ?xb⟩;case xa|xb=>
  refine⟨qB HI fs,by omega,⟨by omega,by omega⟩,⟨j+1,e9,T++U,fs++[⟨W.1,(a,F.1.length,c),F.1,r,(qp (mkS [100,101,102,97,117,108,116]) t.l[j]).isSome,df⟩]⟩,by show((j+1:Nat):Int)=_;omega,by simp,by rw[List.append_assoc],rfl,by rw[List.append_assoc],by rw[zF];rfl,λq hq=>hq.1.1.1,λq hq=>⟨λy J=>(List.mem_append.1 J).elim (hq.1.1.2.1 y) (hq.1.2 y),λf u=>(List.mem_append.1 u).elim (hq.1.1.2.2 f) λh=> ?_⟩,⟨by show j+1<=(K9 g).l.length;rw[hfd];omega,by show(fs++[_]).length<=j+1;simp;omega,by show(S++(T++U)).length<=60;rw[←List.append_assoc];exact hU,λh=>⟨e00,λy J=> ?_,λf u=> ?_⟩⟩,by show _- (j+1)<_;omega⟩
  ·simp at h;subst h;exact⟨hq.2,dok q (A q hq.1.1.1)⟩
  ·show kK (S++(T++U)).length y;obtain⟨u1,u2⟩:=Z (hE (h9 h));rcases List.mem_append.1 J with J|J
   ·exact z6z (by omega) (hTg y J)
   ·have:=u2 y J;rw[List.append_assoc]at this;exact this
  ·show(0<=f.ty/\f.ty<((S++(T++U)).length:Int))/\f.df.wf;obtain⟨r0,r1⟩:=hr (hE (h9 h));rw[List.append_assoc]at r1;rcases List.mem_append.1 u with u|u
   ·have:=hfg f u;exact⟨by omega,this.2⟩
   ·simp at u;subst u;exact⟨⟨r0,r1⟩,dw⟩
def nmT(k:Int) (W:O6) (r n:Nat) (num:Nat):AO:= .cells 55 (some 0) false [.sv (.int .i64 k), .sv (.string W), .ssl r 0 n 1 num, .int .i64 0, .nsl, .bool false, .str [], .int .i64 0, .nsl, .nsl]
abbrev YN:=Nat×Int×List O6
def zks:Xp->WayF:=λ⟨S,e,g,k,sp,d⟩=>{
  cut:=λr _ _=>match r with
    | 7 =>some {σ:=Int×O6,pre:=λ⟨u,s⟩=>(u=0->e=0)/\(s.size:Int)<=1100*d,find:=some λt h=>(match wB h 1 with
        | some u=>match GW t 3 with
          |some s=>some (u,s)
          |none=>none
        |none=>none),t:=λ⟨u,s⟩=>[(3, .sv (.string s))],h:=λ⟨u,s⟩=>[wA S u 2 3],more:=0,μ:=λ_=>0,keep:=[0,2,4,6,11]}
    |19=>some {σ:=Int,pre:=λu=>u=0->e=0,find:=some λ_ h=>wB h 1,t:=λ_=>[],h:=λu=>[wA S u 2 3],more:=0,μ:=λ_=>0,keep:=[0,2,3,4,6,14]}
    |_=>none
  ann:=λid t h=>match h.get 15 with
    |some (.cells _ _ _ (_:: .sv (.string W)::_))=>some {σ:=YN,pre:=λ⟨j,u,acc⟩=>(j:Int)<=1000/\acc.length<=j/\(u=0->e=0),t:=λ⟨j,u,acc⟩=>[(17, .sv (.int .i64 (j:Int)))],h:=λ⟨j,u,acc⟩=>[wA S u 2 3,(15,nmT k W 22 acc.length 23),(22, .row 9 0 (qa qo acc))],more:=2,μ:=λ⟨j,u,acc⟩=>1000- j,keep:=[0,2,3,4,6,14,15]}
    |_=>none
  pub:=λi k=>match i,k with
    |21,2=>[107]
    |_,_=>[]}
section
variable (p:Int×O6) (m:List AT) (h:List AT×Int×GJ×O6×Bool) (o:Int) (b:GJ) (C:O6) (u z:Int) (r:Nat) (t:Option Addr) (g:Nat) (c:List AT×Int×GJ×O6) (q:Nat) (a:YN) (G:List AT) (T:Int) (d:List AT×Int×AT) (v:Option Addr) (l:GJ×O6) (L:Prop) (H:Nat->Option Obj) (M:YM) (D:uZ) (N:qP) (U:AF) (O:List AT×Int×GJ×Int) (I:KZ)
 abbrev Ty:=GJ.k l.1=GJ.k b/\GJ.n l.1=GJ.n b/\GJ.s l.1=GJ.s b/\(GJ.y l.1).1=(GJ.y b).1/\(GJ.y l.1).2.1=(GJ.y b).2.1/\(GJ.y l.1).2.2=(GJ.y b).2.2/\(GJ.x l.1).1=(GJ.x b).1/\(GJ.x l.1).2.1=(GJ.x b).2.1/\(GJ.x l.1).2.2=(GJ.x b).2.2/\L
 abbrev ua:=Option.getD (qp l.2 l.1) zJ
 def UD:= !decide (GJ.k (ua l)=o)
 abbrev jI:=jH h.2.2.1 h.2.2.2.1 h.2.2.2.2 h.2.1
 def QG:=length m=length G
 def ZI:=GJ.k b=GJ.k b/\GJ.n b=GJ.n b/\GJ.s b=GJ.s b/\(GJ.y b).1=(GJ.y b).1/\(GJ.y b).2.1=(GJ.y b).2.1/\(GJ.y b).2.2=(GJ.y b).2.2/\(GJ.x b).1=(GJ.x b).1/\(GJ.x b).2.1=(GJ.x b).2.1/\(GJ.x b).2.2=(GJ.x b).2.2/\L
 def LQ:=(∀e,True/\GJ.ok b e->True/\GJ.ok b e)
 def TA:=(jI h).1=(jI h).1/\o=o/\u=u/\length m=length h.1/\(jI h).2=(jI h).2/\qa AT.cells h.1=qa AT.cells h.1/\L
 def CO:=GJ.s (ua l)=GJ.s (ua l)/\TA m h o u (ZI b (LQ b/\(((jI h).2=0->z=0)/\(↑(size (GJ.s (ua l))):Int)<=1100*u)/\True))
 def CJ:=((UD 4 l)=true->∃(e:List AT),(2:Int)=2/\length e=length h.1/\(jI h).2=(jI h).2/\qa AT.cells e=qa AT.cells h.1/\True/\GJ.s (ua l)=GJ.s (ua l)/\(jI h).1=(jI h).1/\o=o/\u=u/\QG m e/\qt (jI h).2 (2:Int)=qt (jI h).2 2/\qa AT.cells h.1=qa AT.cells e/\ZI b (LQ b/\((qt (jI h).2 (2:Int)=0->z=0)/\(↑(size (GJ.s (ua l))):Int)<=1100*u)/\True))/\((UD 4 l)=false->CO m h o b u z l)
 def CP:=C=C/\TA m h o u (ZI b (LQ b/\(((jI h).2=0->z=0)/\(↑(size C):Int)<=1100*u)/\True))
 def ZJ:=∀(e:AT),e∈N.1->AT.ok e H
 def Ke:=vA (jI h).1 p.2=vA (jI h).1 p.2
 abbrev vD:=vA (jI h).1 p.2
 def Kc:=(True/\GJ.ok b H)/\qb qo (t,r,g) (zi c.2.2.1 c.2.2.2 c.2.1).1 H
 def Yr:=kx (vD p h) (size (vD p h))=kx (vD p h) (size (vD p h))
 def UC:=(∀e,Kc b r t g c e->Kc b r t g c e)
 def LP:=(↑a.1:Int)<=1000/\length a.2.2<=a.1/\(a.2.1=0->o=0)
 def lg:=(0<=(↑a.1:Int)/\(↑a.1:Int)<(↑r:Int))/\t≠noA/\∃e,(∀w,Kc b r t g c w->q2u w (adr t (toNat (↑a.1:Int)*1)) [string e])/\∃(E:List AT),e=e/\Yr p h/\QG E m/\a.2.1=a.2.1/\qa AT.cells E=qa AT.cells c.1/\(size e<10000/\size (kx (vD p h) (size (vD p h)))<50000)/\length (qa qo a.2.2)=length a.2.2*1/\(length a.2.2+nat_lit 1)*16<=140737488355328/\AV.ssl (nat_lit 22) (nat_lit 0) (length a.2.2) (nat_lit 1) (nat_lit 23)=AV.ssl (nat_lit 22) (nat_lit 0) (length a.2.2) (nat_lit 1) (nat_lit 23)/\Jb ((↑a.1:Int)+1)/\∃(F:YN),Yr p h/\t=t/\r=r/\g=g/\(↑F.1:Int)=(↑a.1:Int)+1/\o=o/\u=u/\QG m E/\F.2.1=yj e (kx (vD p h) (size (vD p h))) a.2.1/\o=o/\Ke p h/\length F.2.2=length a.2.2+nat_lit 1/\qa AT.cells c.1=qa AT.cells E/\ZI b (qa qo F.2.2=qa qo a.2.2++[string (vA e (kx (vD p h) (size (vD p h))))]/\UC b r t g c/\(LP z F)/\(1000:Nat)- F.1<1000- a.1/\True)
 def Ak:=Yr p h/\o=o/\u=u/\QG m G/\a.2.1=a.2.1/\o=o/\Ke p h/\length a.2.2=length a.2.2/\qa AT.cells G=qa AT.cells G/\ZI b (qa qo a.2.2=qa qo a.2.2/\UC b r t g c/\(a.2.1=0->z=0)/\True)
 def la:=(Option.isSome (findF (vD p h) m 0)=true->∃(e:List AT),(5:Int)=5/\QG e m/\a.2.1=a.2.1/\qa AT.cells e=qa AT.cells m/\True/\Yr p h/\o=o/\u=u/\QG G e/\qt a.2.1 (5:Int)=qt a.2.1 5/\o=o/\Ke p h/\length a.2.2=length a.2.2/\qa AT.cells m=qa AT.cells e/\ZI b (qa qo a.2.2=qa qo a.2.2/\UC b r t g c/\(qt a.2.1 (5:Int)=0->z=0)/\True))/\(Option.isSome (findF (vD p h) m 0)=false->Ak p G h o b u z r t g c a m)
 def w_:=(Kc b r t g c H)/\length a.2.2<=q/\qfu H v (take (length a.2.2*nat_lit 1) (qa qo a.2.2))
 def CR:=(0<=AF.ty U/\AF.ty U<(↑(length (M.1++D.1)):Int))/\GJ.wf (AF.df U)
 def CQ:=M.2.1=0/\(∀(e:AT),e∈D.1->kK (length (M.1++D.1)) e)/\(∀(w:AF),w∈D.2.2.2->CR M D w)/\length D.2.2.2<=7
 def TB:=(∀(e:AT),e∈D.1->AT.ok e H)/\qb AF.cells D.2.2.1 D.2.2.2 H/\∀(w:AF),w∈D.2.2.2->AF.ok w H
 def CS:=O.2.1=0/\I.2.2.1≠[]/\length I.2.2.1<=30
 abbrev TC:=if I.1=0 then QX O.1 O.2.2.2 I.2.1 I.2.2.1 I.2.2.2.1 I.2.2.2.2 else O.1
 def UB:=∃(e:List AT),z=z/\length e=length (qD d.1 d.2.2)/\qJ d.1 d.2.1=qJ d.1 d.2.1/\qa AT.cells e=qa AT.cells (qD d.1 d.2.2)/\True/\∃(w:qP),w.2.2=0/\length (m++w.1)=length e/\w.2.1=qt (qJ d.1 d.2.1) z/\qa AT.cells (m++w.1)=qa AT.cells e/\zG (m,o,b,C,u) w/\(∀E,w_ b r t g c q a v E->ZJ E w)/\True
 def TD:=N.2.2=qu d.1/\length (m++N.1)=length (qD d.1 d.2.2)/\N.2.1=qJ d.1 d.2.1/\L
 def CN:=(0<=qu d.1/\qu d.1<(↑(length (qD d.1 d.2.2)):Int))/\nat_lit 0+toNat (qu d.1)*nat_lit 10+7+length [int i64 (GJ.n (ua l))]<=length (qa AT.cells (qD d.1 d.2.2))/\∃(e:qP),TD m d (qa AT.cells (m++e.1)=spl (qa AT.cells (qD d.1 d.2.2)) (nat_lit 0+toNat (qu d.1)*nat_lit 10+7) [int i64 (GJ.n (ua l))]/\zG (m,o,b,C,u) e/\(∀w,w_ b r t g c q a v w->ZJ w e)/\True) e
 def CM:=Ji (qJ d.1 d.2.1=0) (CN m o b C u r t g c q a d v l) (∃(F:qP),TD m d (qa AT.cells (m++F.1)=qa AT.cells (qD d.1 d.2.2)/\zG (m,o,b,C,u) F/\(∀B,w_ b r t g c q a v B->ZJ B F)/\True) F)
 def CL:=Ji (5000<GJ.n (ua l)) (UB m o b C u 6 r t g c q a d v) (CM m o b C u r t g c q a d v l)
 def CI:=Ji (GJ.n (ua l)<0) (UB m o b C u 6 r t g c q a d v) (CL m o b C u r t g c q a d v l)
 def ld:=((UD 3 l)=true->UB m o b C u 2 r t g c q a d v)/\((UD 3 l)=false->CI m o b C u r t g c q a d v l)
 def lb:=Ji (o=10) (∃(e:List AT×Int×GJ×Int),GJ.k e.2.2.1=GJ.k b/\GJ.n e.2.2.1=GJ.n b/\GJ.s e.2.2.1=GJ.s b/\(GJ.y e.2.2.1).1=(GJ.y b).1/\(GJ.y e.2.2.1).2.1=(GJ.y b).2.1/\(GJ.y e.2.2.1).2.2=(GJ.y b).2.2/\(GJ.x e.2.2.1).1=(GJ.x b).1/\(GJ.x e.2.2.1).2.1=(GJ.x b).2.1/\(GJ.x e.2.2.1).2.2=(GJ.x b).2.2/\e.2.2.2=qu d.1/\length e.1=length (qD d.1 d.2.2)/\e.2.1=qJ d.1 d.2.1/\qa AT.cells e.1=qa AT.cells (qD d.1 d.2.2)/\(length e.1<=60/\GJ.wf e.2.2.1/\0<=e.2.2.2/\(e.2.1=0->e.2.2.2<(↑(length e.1):Int)))/\(∀w,w_ b r t g c q a v w->GJ.ok e.2.2.1 w)/\∀(E:KZ),(E.1=0->CS e E)->(∃F,(w_ b r t g c q a v F)/\qb qo E.2.1 E.2.2.1 F)->∃(B:qP),B.2.2=qu d.1/\length (m++B.1)=length (TC e E)/\B.2.1=E.1/\qa AT.cells (m++B.1)=qa AT.cells (TC e E)/\zG (m,u,b,C,z) B/\(∀R,(w_ b r t g c q a v R)/\qb qo E.2.1 E.2.2.1 R->ZJ R B)/\True) (∃(K:GJ×O6),Ty b K (K.2=mkS [115,105,122,101]/\GJ.wf K.1/\(∀i8,w_ b r t g c q a v i8->GJ.ok K.1 i8)/\((!Option.isSome (qp K.2 K.1))=true->UB m u b C z 2 r t g c q a d v)/\((!Option.isSome (qp K.2 K.1))=false->ld m u b C z r t g c q a d v K)))
 abbrev i_:=((!decide (o=0))=true->∃(e:qP),e.2.2=0/\length (m++e.1)=length m/\e.2.1=o/\qa AT.cells (m++e.1)=qa AT.cells G/\zG (m,u,b,C,z) e/\(∀w,Kc b r t g c w->ZJ w e)/\True)/\((!decide (o=0))=false->∀(F B R:Nat) (S:Option Addr) (K i8:Nat),(∃W,w_ b r t g c i8 a S W)->∃(j:List AT×Int×AT),AT.k j.2.2=T/\AT.nm j.2.2=vA (jI h).1 p.2/\(AT.al j.2.2).1=S/\(AT.al j.2.2).2.1=length a.2.2/\(AT.al j.2.2).2.2=i8/\AT.it j.2.2=0/\(AT.sy j.2.2).1=noA/\(AT.sy j.2.2).2.1=0/\(AT.sy j.2.2).2.2=0/\AT.hd j.2.2=false/\AT.df j.2.2=mkS []/\AT.sz j.2.2=0/\(AT.f j.2.2).1=noA/\(AT.f j.2.2).2.1=0/\(AT.f j.2.2).2.2=0/\(AT.br j.2.2).1=noA/\(AT.br j.2.2).2.1=0/\(AT.br j.2.2).2.2=0/\length j.1=length m/\j.2.1=o/\qa AT.cells j.1=qa AT.cells G/\True/\Ji (T=9) (∃(i:YM),GJ.k i.2.2.1=GJ.k b/\GJ.n i.2.2.1=GJ.n b/\GJ.s i.2.2.1=GJ.s b/\(GJ.y i.2.2.1).1=(GJ.y b).1/\(GJ.y i.2.2.1).2.1=(GJ.y b).2.1/\(GJ.y i.2.2.1).2.2=(GJ.y b).2.2/\(GJ.x i.2.2.1).1=(GJ.x b).1/\(GJ.x i.2.2.1).2.1=(GJ.x b).2.1/\(GJ.x i.2.2.1).2.2=(GJ.x b).2.2/\i.2.2.2.1=qu j.1/\i.2.2.2.2.1=kx (vD p h) (size (vD p h))/\i.2.2.2.2.2=z/\length i.1=length (qD j.1 j.2.2)/\i.2.1=qJ j.1 j.2.1/\qa AT.cells i.1=qa AT.cells (qD j.1 j.2.2)/\(Vd i<q+1/\length i.1<=60/\GJ.wf i.2.2.1/\0<=i.2.2.2.1/\(i.2.1=0->i.2.2.2.1<(↑(length i.1):Int))/\1<=i.2.2.2.2.2/\i.2.2.2.2.2<=20/\(↑(size i.2.2.2.2.1):Int)<=1100*(i.2.2.2.2.2+1))/\(∀V,w_ b r t g c i8 a S V->GJ.ok i.2.2.1 V)/\∀(A:uZ),length (i.1++A.1)<=60/\(A.2.1=0->CQ i A)->(∃i16,(w_ b r t g c i8 a S i16)/\TB i16 A)->∃(J:qP),J.2.2=qu j.1/\length (m++J.1)=length ((if A.2.1=0 then vZ i.1 i.2.2.2.1 A.2.2.1 A.2.2.2 else i.1)++A.1)/\J.2.1=A.2.1/\qa AT.cells (m++J.1)=qa AT.cells ((if A.2.1=0 then vZ i.1 i.2.2.2.1 A.2.2.1 A.2.2.2 else i.1)++A.1)/\zG (m,u,b,C,z) J/\(∀Q,((w_ b r t g c i8 a S Q)/\TB Q A)->ZJ Q J)/\True) (lb m T b C u z r t g c i8 a j S))
 def Tz:=∃(e:List AT),Ke p h/\QG e m/\a.2.1=a.2.1/\qa AT.cells e=qa AT.cells c.1/\length e<1000/\(Ji (a.2.1=0) (la p e h o b u z r t g c a m) (Ak p m h o b u z r t g c a e))/\∀(w:Int),(w=0->z=0)->i_ p m h w b C z u r t g c q a e o
 def lf:=Ji (a.2.1=0) (lg p m h o b u z r t g c a) (Tz p m h o b C u z r t g c q a)
 def iZ:=Ji ((↑a.1:Int)<(↑r:Int)) (lf p m h o b C u z r t g c q a) (Tz p m h o b C u z r t g c q a)
 def iY:=(∃(e:YN),Yr p h/\t=t/\r=r/\g=g/\(↑e.1:Int)=0/\o=o/\u=u/\length m=length c.1/\e.2.1=(zi c.2.2.1 c.2.2.2 c.2.1).2.2/\o=o/\Ke p h/\length e.2.2=0/\qa AT.cells c.1=qa AT.cells c.1/\ZI b (UC b r t g c/\(LP z e)/\True))/\∀(E:YN),LP z E->iZ p m h o b C u z r t g c q E
 def iX:=((!decide (p.1=0))=true->∃(e:qP),e.2.2=0/\length (m++e.1)=length m/\e.2.1=p.1/\qa AT.cells (m++e.1)=qa AT.cells h.1/\zG (m,o,b,C,u) e/\(∀w,True/\GJ.ok b w->ZJ w e)/\True)/\((!decide (p.1=0))=false->∃(F:List AT),(jI h).1=(jI h).1/\p.2=p.2/\QG F m/\p.1=p.1/\qa AT.cells F=qa AT.cells h.1/\(size (jI h).1<10000/\size p.2<50000)/\Ke p h/\size (vD p h)<1000000/\∃(B:List AT×Int×GJ×O6),GJ.k B.2.2.1=GJ.k b/\GJ.n B.2.2.1=GJ.n b/\GJ.s B.2.2.1=GJ.s b/\(GJ.y B.2.2.1).1=(GJ.y b).1/\(GJ.y B.2.2.1).2.1=(GJ.y b).2.1/\(GJ.y B.2.2.1).2.2=(GJ.y b).2.2/\(GJ.x B.2.2.1).1=(GJ.x b).1/\(GJ.x B.2.2.1).2.1=(GJ.x b).2.1/\(GJ.x B.2.2.1).2.2=(GJ.x b).2.2/\B.2.2.2=mkS [97,108,105,97,115,101,115]/\length B.1=length F/\B.2.1=yj (jI h).1 p.2 p.1/\qa AT.cells B.1=qa AT.cells F/\GJ.wf B.2.2.1/\(∀R,True/\GJ.ok b R->GJ.ok B.2.2.1 R)/\∀(S:Unit),True->∀(K:Option Addr) (i8 W:Nat),(∃j,Kc b i8 K W B j)->iY p m h z b C u o i8 K W B r)
end
def zfm(n:Nat) (S:List AT) (e:Int) (g:GJ) (k:Int) (sp:O6) (d:Int):qiy P (qef [(66,xC),(100,Ua),(101,Hv),(102,Hn),(103,V9),(97,Ue),(69,Va),(63,wT)]) (qff [(104,Hf.below Vd (n+1)),(105,La)]) Tryz.f67 (Hs.below Vf (n+1)) (zks) ⟨S,e,g,k,sp,d⟩=(Vf (S,e,g,k,sp,d)<n+1/\y7 (S,e,g,sp,d)/\d<=20/\(k=9\/k=10\/k=11)->(∃(p:Pub),True/\GJ.ok g p)->∃(s:List AT×Int×GJ×O6×Bool),GJ.k s.2.2.1=GJ.k g/\GJ.n s.2.2.1=GJ.n g/\GJ.s s.2.2.1=GJ.s g/\(GJ.y s.2.2.1).1=(GJ.y g).1/\(GJ.y s.2.2.1).2.1=(GJ.y g).2.1/\(GJ.y s.2.2.1).2.2=(GJ.y g).2.2/\(GJ.x s.2.2.1).1=(GJ.x g).1/\(GJ.x s.2.2.1).2.1=(GJ.x g).2.1/\(GJ.x s.2.2.1).2.2=(GJ.x g).2.2/\s.2.2.2.1=mkS [110,97,109,101]/\s.2.2.2.2=true/\length s.1=length S/\s.2.1=e/\qa AT.cells s.1=qa AT.cells S/\GJ.wf s.2.2.1/\(∀(p:Pub),True/\GJ.ok g p->GJ.ok s.2.2.1 p)/\∃(s_1:GJ×O6),Ty g s_1 (s_1.2=mkS [110,97,109,101,115,112,97,99,101]/\GJ.wf s_1.1/\(∀(p:Pub),True/\GJ.ok g p->GJ.ok s_1.1 p)/\((Option.isSome (qp s_1.2 s_1.1)=true->CJ S s k g d e s_1)/\(Option.isSome (qp s_1.2 s_1.1)=false->CP S s k g sp d e))/\∀(s_2:Int×O6),(s_2.1=0->e=0)/\(↑(size s_2.2):Int)<=1100*d->iX s_2 S s e g sp d k n)):=by kernel_rfl
def zj8:=λn S e g k sp d=>Eq.trans (zfm n S e g k sp d) (by delta Ji Jb Jt Jf Ty ua UD jI QG ZI LQ TA CO CJ CP ZJ Ke vD Kc Yr UC LP lg Ak la w_ CR CQ TB CS TC UB TD CN CM CL CI ld lb i_ Tz lf iZ iY iX;exact rfl)
end
end Go.Proofs.YtniogjgfomaicaaGreat.Wd
