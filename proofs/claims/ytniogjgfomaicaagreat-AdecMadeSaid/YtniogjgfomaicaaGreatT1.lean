/-
  What the functions do: contracts, and their questions answered. No condition but what its theorems ask.
-/
import Derived.Test.YtniogjgfomaicaaGreatRx
import Derived.Test.YtniogjgfomaicaaGreatU6
import Derived.Test.YtniogjgfomaicaaGreatProg
import Derived.Laws.BitsAllLaws
namespace Go.Proofs.YtniogjgfomaicaaGreat.Wd
open Go.Proofs.YtniogjgfomaicaaGreat.Eng Go.Proofs.YtniogjgfomaicaaGreat.Sen Go.RowKit
set_option linter.defProp false
set_option linter.unusedVariables false
set_option linter.unusedSimpArgs false
set_option maxRecDepth 1000000
open Go.Value (int string slice bool)
open Go.IntKind (i64 u64 u8 u32 i32)
open _root_.List (length take drop)
open _root_.ByteArray (size)
open _root_.Int (toNat)
noncomputable section
open Pub renaming le->qqn
open _root_.And renaming intro->qq2
open _root_.Array renaming toList->Ρ,toList_extract->qqr
open _root_.BitVec renaming allOnes->qqz,ofInt->φ,toNat_not->qqt
open _root_.Bool renaming and_eq_true->qq0,eq_iff_iff->qq3,false->ζ,false_or->qqc,not_eq_false'->ψ,not_eq_true'->ω,or_eq_true->qq4,true->η
open _root_.ByteArray renaming data->Μ,data_extract->qqj,extract->ξ,mk->qqw,size_append->Ι,size_extract->Δ
open _root_.Eq renaming trans->ς
open _root_.Go.Addr renaming add->qqk
open _root_.Go.BinOp renaming and->Φ,or->qqd,shl->qqb,shr->Γ,xor->qqv
open _root_.Go.IntKind renaming bits->Ο,max->qqa,signed->Ν,u32->Η,u64->qqe,u8->Β,wrap->ε
open _root_.Go.Value renaming slice->qq9,string->qqp
open _root_.Int renaming eq_ofNat_of_zero_le->κ,fdiv_eq_ediv_of_nonneg->qqm,le_refl->qqs,rec->qqg,tdiv->qq6,tmod->qqf,tmod_eq_emod_of_nonneg->qqo,toNat->qqq,toNat_natCast->γ,toNat_zero->qq7
open _root_.List renaming append_assoc->τ,append_nil->δ,cons_append->qq1,drop_eq_getElem_cons->Α,drop_of_length_le->Λ,getD_eq_getElem?_getD->Τ,getElem?_eq_getElem->Θ,getElem?_map->qqx,getElem_mem->qqh,length->Υ,length_append->Κ,length_cons->Χ,length_drop->Ω,length_set->qq5,set_cons_succ->qqu,take->Ψ,take_of_length_le->Ξ,toArray->qq8
open _root_.Nat renaming add_right_comm->qqy,add_zero->qzc,le_refl->Ζ,pow_succ->qzb,succ_mul->qza,two_pow_add_eq_or_of_lt->qql,zero_add->Ε,zero_le->χ,zero_lt_succ->qqi
open _root_.Option renaming getD->υ,isSome->π,none->ι,some->θ
open _root_.Prod renaming fst->ρ,snd->ν
abbrev P:=Tryz.prog
def mixed:P.follows .mixedOrders=true:=by decide+kernel
theorem qA{calls:Nat->Option Ct} (B:∀g C,calls g=θ C->q4p P g C) {f:Nat} {fn:Func} {C:Ct} {W:C.σ->WayF} (h:P.funcs[f]? =θ fn) (H:∀s,qk2 P calls fn C W s) (A:q25 P f fn=true:=by kernel_rfl) (u:1<=C.m:=by exact Nat.le_of_ble_eq_true rfl) (hle:C.m<=C.m':=by exact Nat.le_of_ble_eq_true rfl) (G:∀s,Nat.ble (C.args s).length fn.ntmps=true:=by exactλ_=>by kernel_rfl):q4p P f C:=qk5 mixed B h A u hle G H
theorem As{calls:Nat->Option Ct} (G:∀g C,calls g=θ C->q4p P g C) {rel:Nat->Option CtR} (h:∀g C,rel g=θ C->q1p P g C) {f:Nat} {fn:Func} {C:Ct} {W:C.σ->WayF} (u:P.funcs[f]? =θ fn) (J:∀s,qk4 P calls rel fn C W s) (B:q25 P f fn=true:=by kernel_rfl) (A:1<=C.m:=by exact Nat.le_of_ble_eq_true rfl) (hle:C.m<=C.m':=by exact Nat.le_of_ble_eq_true rfl) (H:∀s,Nat.ble (C.args s).length fn.ntmps=true:=by exactλ_=>by kernel_rfl):q4p P f C:=qjb mixed G h u B A hle H J
theorem zh{calls:Nat->Option Ct} (G:∀g C,calls g=θ C->q4p P g C) {rel:Nat->Option CtR} (h:∀g C,rel g=θ C->q1p P g C) {f:Nat} {fn:Func} {C:CtR} {W:C.σ->WayF} (u:P.funcs[f]? =θ fn) (J:∀s,qk3 P calls rel fn C W s) (B:q25 P f fn=true:=by kernel_rfl) (A:1<=C.m:=by exact Nat.le_of_ble_eq_true rfl) (hle:C.m<=C.m':=by exact Nat.le_of_ble_eq_true rfl) (H:∀s,Nat.ble (C.args s).length fn.ntmps=true:=by exactλ_=>by kernel_rfl):q1p P f C:=qja mixed G h u B A hle H J
theorem qB:(∀(p:Prop) [Decidable p],(decide p=η)=p)/\(∀(p:Prop) [Decidable p],(decide p=ζ)=¬p)/\(∀b:Bool,((!b)=η)=(b=ζ))/\(∀b:Bool,((!b)=ζ)=(b=η))/\(∀p,(True/\p)=p)/\(∀p,(p/\True)=p)/\(∀(α:Type) (a:α),(a=a)=True)/\(∀p:Prop,(p->p)=True)/\(∀α:Type,(α->True)=True)/\(∀p:Prop,(p->True)=True):=⟨λ_ _=>by simp,λ_ _=>by simp,by simp,by simp,by simp,by simp,by simp,by simp,by simp,by simp⟩
abbrev Jb(a:Int):Prop:=(-9223372036854775808:Int)<=a/\a<=9223372036854775807
abbrev Jt(p:Prop) [Decidable p]:Prop:=decide p=η
abbrev Jf(p:Prop) [Decidable p]:Prop:=decide p=ζ
abbrev Ji(p:Prop) [Decidable p] (a b:Prop):Prop:=(Jt p->a)/\(Jf p->b)
def js:∀g C,(λ_=>ι:Nat->Option Ct) g=θ C->q4p P g C:=λg C h=>by cases h
def jO(t:T AV) (k:Nat):Option Int:=match t.get k with
  | some a=>match gi a with
    |some (_,i)=>θ i
    |none=>ι
  |none=>ι
def Yg:Pl noA:=trivial
def qa{α:Type} (f:α->List Value):List α->List Value
 | []=>[]
 |x::l=>f x++qa f l
def qv{α:Type} {f:α->List Value} {e:Nat} (h:∀x,(f x).length=e):∀l,(qa f l).length=l.length*e
  | []=>by simp[qa]
  | x::l=>by rw[qa,Κ,h,qv h l,Χ,qza];omega
def zu{α:Type} {f:α->List Value}:∀l m,qa f (l++m)=qa f l++qa f m
  | [],m=>rfl
  | x::l,m=>by show f x++qa f (l++m)=_;rw[zu l m,←τ];rfl
def ZE{α:Type} {f:α->List Value} {e:Nat} (h:∀x,(f x).length=e):∀(l:List α) (i:Nat) (hi:i<l.length) (j:Nat),j<e->(qa f l)[i*e+j]? =(f l[i])[j]?
  | x::l,0,_,j,u=>by show(f x++qa f l)[0*e+j]? =_;rw[Nat.zero_mul,Ε,List.getElem?_append_left (by rw[h];exact u)];rfl
  | x::l,i+1,hi,j,u=>by show(f x++qa f l)[(i+1)*e+j]? =_;have:(i+1)*e=i*e+e:=qza i e;rw[List.getElem?_append_right (by rw[h];omega),show(i+1)*e+j- (f x).length=i*e+j by rw[h];omega];exact ZE h l i (by simpa using hi) j u
def k00(x:Addr) (h:x.spot=ι) (i j:Nat):(x.add i).add j=x.add (i+j):=by
 obtain⟨b,o,s⟩:=x;simp only at h;subst h;unfold qqk;by_cases hi:i=0
 ·subst hi;simp
 ·by_cases u:j=0
  ·subst u;simp[hi]
  ·rw[if_neg hi,if_neg u,if_neg (by omega)];simp only[Nat.add_assoc]
def zfs{α:Type} {f:α->List Value} {e:Nat} (u:∀x,(f x).length=e) (he:0<e) {p:Pub} {a:Option Addr} {n c:Nat} {l:List α} (h:qgn p a n c (qa f l)) {i:Nat} (hi:i<l.length):a≠noA/\q37 p (adr a (i*e)) (f l[i]):=by
 rcases h.2 with h|⟨x,rfl,C,G⟩
 ·have:=congrArg Υ h.1;rw[qv u,List.length_nil]at this;have:=Nat.mul_pos (show 0<l.length by omega) he;omega
 ·refine⟨by simp,λj v B=> ?_⟩;have A:j<e:=by have:=(List.getElem?_eq_some_iff.mp B).1;rw[u]at this;exact this
  show q5n p ((x.add (i*e)).add j)=θ v;rw[k00 x C];exact G _ v (by rw[ZE u l i hi j A];exact B)
open Go.Proofs.YtniogjgfomaicaaGreat.Rv
def jP(r:Nat):Int:=if r % 2=0 then(r / 2:Nat)else -((r / 2:Nat):Int)- 1
def zg(n:Int):Nat:=if 0<=n then 2*n.toNat else 2*(-n- 1).toNat+1
def Pw:Ct where
 σ:=Ck
 args:=λs=>[.sv (.string s)]
 h:=λ_=>[]
 m:=1
 pre:=λs=>s.size<1000000000000000000
 find:=θ λl _=>match l with
  | [a]=>gs a
  |_=>ι
 r:=λs=> .tup [.sv (.int .u64 (vval s.data.toList:Nat)), .sv (.int .i64 (vlen s.data.toList:Nat)), .sv (.int .i64 (verr s.data.toList:Nat))]
 h':=λ_=>[]
 m':=1
 g:=λ_=>ι
def PY:Ct where
 σ:=Nat
 args:=λr=>[.sv (.int .u64 (r:Nat))]
 h:=λ_=>[]
 m:=1
 pre:=λr=>r<18446744073709551616
 r:=λr=> .sv (.int .u64 ((jP r) % 18446744073709551616))
 h':=λ_=>[]
 m':=1
 g:=λ_=>ι
def PU:Ct where
 σ:=Nat
 args:=λr=>[.int .i64 8, .sv (.int .u64 (r:Nat))]
 h:=λ_=>[]
 m:=1
 pre:=λr=>r<18446744073709551616
 r:=λr=> .sv (.int .u64 ((jP r) % 18446744073709551616))
 h':=λ_=>[]
 m':=1
 g:=λ_=>ι
def Ax:Ct where
 σ:=Int
 args:=λn=>[.sv (.int .u64 (n % 18446744073709551616))]
 h:=λ_=>[]
 m:=1
 pre:=λn=> -9223372036854775808<=n/\n<9223372036854775808
 r:=λn=> .sv (.int .u64 (zg n:Nat))
 h':=λ_=>[]
 m':=1
 g:=λ_=>ι
def Aw:Ct where
 σ:=Int
 args:=λn=>[.int .i64 8, .sv (.int .u64 (n % 18446744073709551616))]
 h:=λ_=>[]
 m:=1
 pre:=λn=> -9223372036854775808<=n/\n<9223372036854775808
 r:=λn=> .sv (.int .u64 (zg n:Nat))
 h':=λ_=>[]
 m':=1
 g:=λ_=>ι
def CD:Ct where
 σ:=Nat
 args:=λz=>[.sv (.int .u64 (z:Nat))]
 h:=λ_=>[]
 m:=1
 pre:=λz=>z<18446744073709551616
 r:=λz=> .sv (.string ⟨(venc z).toArray⟩)
 h':=λ_=>[]
 m':=2
 g:=λ_=>ι
def Lb:Ct where
 σ:=Int
 args:=λn=>[.sv (.int .i64 n)]
 h:=λ_=>[]
 m:=1
 pre:=λn=> -9223372036854775808<=n/\n<9223372036854775808
 r:=λn=> .sv (.string ⟨(venc (zg n)).toArray⟩)
 h':=λ_=>[]
 m':=2
 g:=λ_=>ι
def jw(x:SV) (s:Ck) (i c:Int):List (Nat×AO):=[(1, .cells 75 (θ 0) ζ [.sv (.slice x.1 x.2.1 x.2.2), .sv (.string s), .sv (.int .i64 i), .sv (.int .i64 c)])]
def qb(s:Ck) (i:Nat):Int×Nat×Nat:=(jP (vval (s.data.toList.drop i)),verr (s.data.toList.drop i),i+vlen (s.data.toList.drop i))
def Ay(h:T AO) (id:Nat):Option (SV×Ck×Int×Int):=match h.get id with
  | some (.cells _ _ _ [.sv (.slice a n c),s,i,k])=>match gs s with
    | some s=>match gi i with
      | some (_,i)=>match gi k with
        |some (_,k)=>θ ((a,n,c),s,i,k)
        |none=>ι
      |none=>ι
    |none=>ι
  |_=>ι
abbrev vd:=SV×Ck×Int×Int
def Li(l:List AV) (h:T AO):Option vd:=match l with
 | .ptr id _::_=>Ay h id
 |_=>ι
def qZ:vd->Prop:=λ⟨x,s,i,c⟩=>0<=i/\i<=s.size/\s.size<100000000000000000
def Yo:Ct where
 σ:=vd
 args:=λ⟨x,s,i,c⟩=>[.ptr 1 0]
 h:=λ⟨x,s,i,c⟩=>jw x s i c
 m:=2
 pre:=qZ
 find:=θ Li
 r:=λ⟨x,s,i,c⟩=> .tup [.sv (.int .i64 (qb s i.toNat).1), .sv (.int .i64 ((qb s i.toNat).2.1:Nat))]
 h':=λ⟨x,s,i,c⟩=>jw x s ((qb s i.toNat).2.2:Nat) c
 m':=2
 g:=λ_=>ι
def qR(s:Ck) (i:Nat):Int×Int×Int×Nat:=
 if(qb s i).2.1≠0\/0<=(qb s i).1 then((qb s i).1, -1,((qb s i).2.1:Nat),(qb s i).2.2)else
 if(qb s i).1= -9223372036854775808 then(0,0,2,(qb s i).2.2)else
 if(qb s (qb s i).2.2).2.1≠0 then(0,0,((qb s (qb s i).2.2).2.1:Nat),(qb s (qb s i).2.2).2.2)else
 if(qb s (qb s i).2.2).1<0 then(0,0,2,(qb s (qb s i).2.2).2.2)else
 (-(qb s i).1,(((qb s (qb s i).2.2).2.2:Nat):Int)+(if(9223372036854775807:Int)- (((qb s (qb s i).2.2).2.2:Nat):Int)<(qb s (qb s i).2.2).1 then(9223372036854775807:Int)- (((qb s (qb s i).2.2).2.2:Nat):Int)else(qb s (qb s i).2.2).1),0,(qb s (qb s i).2.2).2.2)
def Cc:Ct where
 σ:=vd
 args:=λ⟨x,s,i,c⟩=>[.ptr 1 0]
 h:=λ⟨x,s,i,c⟩=>jw x s i c
 m:=2
 pre:=qZ
 find:=θ Li
 r:=λ⟨x,s,i,c⟩=> .tup [.sv (.int .i64 (qR s i.toNat).1), .sv (.int .i64 (qR s i.toNat).2.1), .sv (.int .i64 (qR s i.toNat).2.2.1)]
 h':=λ⟨x,s,i,c⟩=>jw x s ((qR s i.toNat).2.2.2:Nat) c
 m':=2
 g:=λ_=>ι
def je(s:Ck) (i:Nat) (o:Int):Nat:=if(qb s i).2.1=0/\((qb s i).1<0\/o<=(qb s i).1)then 2 else(qb s i).2.1
def HR:Ct where
 σ:=Int×vd
 args:=λ⟨o,x,s,i,c⟩=>[.ptr 1 0, .sv (.int .i64 o)]
 h:=λ⟨o,x,s,i,c⟩=>jw x s i c
 m:=2
 pre:=λ⟨o,d⟩=>qZ d
 r:=λ⟨o,x,s,i,c⟩=> .tup [.sv (.int .i64 (qb s i.toNat).1), .sv (.int .i64 (je s i.toNat o:Nat))]
 h':=λ⟨o,x,s,i,c⟩=>jw x s ((qb s i.toNat).2.2:Nat) c
 m':=2
 g:=λ_=>ι
def zr7(r:Nat):qk2 P (λ_=>ι) Tryz.f130 PY (λ_=>{}) r=(r<(18446744073709551616:Nat)->(0:Int)<=(1:Int)/\jP r % (18446744073709551616:Int)=qae qqv qqe (shP Γ qqe (↑r:Int) (1:Int)) (ε qqe ((0:Int)- qae Φ qqe (↑r:Int) (1:Int)))/\True):=by kernel_rfl
def zp2(r:Nat):qk2 P (qf5 [(130,PY)]) Tryz.f116 PU (λ_=>{}) r=(r<(18446744073709551616:Nat)->∃(s:Nat),(↑s:Int)=(↑r:Int)/\s<(18446744073709551616:Nat)/\jP r % (18446744073709551616:Int)=jP s % (18446744073709551616:Int)/\True):=by kernel_rfl
def jhd(n:Int):qk2 P (λ_=>ι) Tryz.f78 Ax (λ_=>{}) n=((-9223372036854775808:Int)<=n/\n<(9223372036854775808:Int)->(decide ((9223372036854775808:Int)<=n % (18446744073709551616:Int))=η->(↑(zg n):Int)=ε u64 (ε u64 (qae qqv u64 (qqa u64) (n % (18446744073709551616:Int))*(2:Int))+(1:Int))/\True)/\(decide ((9223372036854775808:Int)<=n % (18446744073709551616:Int))=ζ->(↑(zg n):Int)=ε u64 (n % (18446744073709551616:Int)*(2:Int))/\True)):=by kernel_rfl
def jah(n:Int):qk2 P (qf5 [(78,Ax)]) Tryz.f39 Aw (λ_=>{}) n=((-9223372036854775808:Int)<=n/\n<(9223372036854775808:Int)->∃(s:Int),s % (18446744073709551616:Int)=n % (18446744073709551616:Int)/\((-9223372036854775808:Int)<=s/\s<(9223372036854775808:Int))/\(↑(zg n):Int)=(↑(zg s):Int)/\True):=by kernel_rfl
def zps(n:Int):qk2 P (qf5 [(39,Aw),(38,CD)]) Tryz.f25 Lb (λ_=>{}) n=((-9223372036854775808:Int)<=n/\n<(9223372036854775808:Int)->∃(s:Int),s % (18446744073709551616:Int)=ε u64 n/\((-9223372036854775808:Int)<=s/\s<(9223372036854775808:Int))/\∃(s_1:Nat),(↑s_1:Int)=(↑(zg s):Int)/\s_1<(18446744073709551616:Nat)/\qqw (qq8 (Proofs.YtniogjgfomaicaaGreat.Rv.venc (zg n)))=qqw (qq8 (Proofs.YtniogjgfomaicaaGreat.Rv.venc s_1))/\True):=by kernel_rfl
section
variable (b:Int) (a:Ck) (c:SV) (e:Int)
 abbrev X6:=Ρ (Μ (ξ a (toNat b) (size a)))
 abbrev AG:=(↑(Proofs.YtniogjgfomaicaaGreat.Rv.vlen (X6 b a)):Int)
 def fL:=(0<=b/\b<=(↑(size a):Int))/\ξ a (toNat b) (size a)=ξ a (toNat b) (size a)/\size (ξ a (toNat b) (size a))<1000000000000000000/\Jb (b+(AG b a))/\∃(d:Nat),(↑d:Int)=(↑(Proofs.YtniogjgfomaicaaGreat.Rv.vval (X6 b a)):Int)/\d<18446744073709551616/\(qb a (toNat b)).1=ε i64 (jP d % 18446744073709551616)/\(↑(qb a (toNat b)).2.1:Int)=(↑(Proofs.YtniogjgfomaicaaGreat.Rv.verr (X6 b a)):Int)/\c.1=c.1/\c.2.1=c.2.1/\c.2.2=c.2.2/\a=a/\(↑(qb a (toNat b)).2.2:Int)=b+(AG b a)/\e=e/\True
end
def zpt(x:SV) (s:Ck) (i c:Int):qk2 P (qf5 [(115,Pw),(116,PU)]) Tryz.f86 Yo (λ_=>{}) ⟨x,s,i,c⟩=(qZ (x,s,i,c)->fL i s x c):=by kernel_rfl
def zyp:=λx s i c=>ς (zpt x s i c) (by delta Jb X6 AG fL;exact rfl)
section
variable (c:SV) (a:Ck) (b d:Int) (g:Prop) (h:Int)
 abbrev Jo:=c.1=c.1/\c.2.1=c.2.1/\c.2.2=c.2.2/\a=a/\g
 abbrev LZ:=(↑(qb a (toNat b)).2.1:Int)
 abbrev QL:=(qR a (toNat b)).2.2
 abbrev Kj:=(↑(qb a (toNat b)).2.2:Int)
 def AH:=(qR a (toNat b)).1=(qb a (toNat b)).1/\(qR a (toNat b)).2.1= -1/\(QL a b).1=(LZ a b)/\Jo c a ((↑(QL a b).2:Int)=(Kj a b)/\d=d/\True)
 def LX:=(qR a (toNat b)).1=0/\(qR a (toNat b)).2.1=0/\g
 def C_:=LX a b ((QL a b).1=2/\Jo c a ((↑(QL a b).2:Int)=(Kj a b)/\d=d/\True))
 abbrev QK:=qb a (toNat (Kj a b))
 abbrev um:=(↑(QK a b).2.2:Int)
 def aa:=LX a b ((QL a b).1=(↑(QK a b).2.1:Int)/\Jo c a ((↑(QL a b).2:Int)=(um a b)/\d=d/\True))
 def LY:=(QL a b).1=h/\Jo c a ((↑(QL a b).2:Int)=(um a b)/\d=d/\True)
 abbrev ab:=LX a b (LY c a b d 2)
 def Tp:=((-9223372036854775808:Int)<=9223372036854775807- (um a b)/\(9223372036854775807:Int)- (um a b)<=9223372036854775807)
 def fS:=Tp a b/\∃(e:Int),e=ε i64 ((0:Int)- (qb a (toNat b)).1)/\Jb ((um a b)+((9223372036854775807:Int)- (um a b)))/\(qR a (toNat b)).1=e/\(qR a (toNat b)).2.1=(um a b)+((9223372036854775807:Int)- (um a b))/\LY c a b d 0
 def fR:=Tp a b/\Ji ((9223372036854775807:Int)- (um a b)<(QK a b).1) (fS c a b d) (∃(f:Int),f=ε i64 ((0:Int)- (qb a (toNat b)).1)/\Jb ((um a b)+(QK a b).1)/\(qR a (toNat b)).1=f/\(qR a (toNat b)).2.1=(um a b)+(QK a b).1/\LY c a b d 0)
 def fQ:=Ji ((QK a b).1<0) (ab c a b d) (fR c a b d)
 def fP:=Jo c a ((Kj a b)=(Kj a b)/\d=d/\qZ ((c.1,c.2.1,c.2.2),a,(Kj a b),d)/\((!decide ((↑(QK a b).2.1:Int)=0))=η->aa c a b d)/\((!decide ((↑(QK a b).2.1:Int)=0))=ζ->fQ c a b d))
 def fO:=Ji ((qb a (toNat b)).1= -9223372036854775808) (C_ c a b d) (fP c a b d)
 def fN:=Ji (0<=(qb a (toNat b)).1) (AH c a b d) (fO c a b d)
 def fM:=Jo c a (b=b/\d=d/\qZ ((c.1,c.2.1,c.2.2),a,b,d)/\((!decide ((LZ a b)=0))=η->AH c a b d)/\((!decide ((LZ a b)=0))=ζ->fN c a b d))
end
def zpc(x:SV) (s:Ck) (i c:Int):qk2 P (qf5 [(86,Yo)]) Tryz.f81 Cc (λ_=>{}) ⟨x,s,i,c⟩=(qZ (x,s,i,c)->fM x s i c):=by kernel_rfl
def head_eq:=λx s i c=>ς (zpc x s i c) (by delta Ji Jb Jt Jf Jo LZ QL Kj AH LX C_ QK um aa LY ab Tp fS fR fQ fP fO fN fM;exact rfl)
section
variable (c:SV) (a:Ck) (b d e:Int) (f:Prop)
 abbrev X7:=c.1=c.1/\c.2.1=c.2.1/\c.2.2=c.2.2/\a=a/\f
 abbrev AK:=(↑(qb a (toNat b)).2.1:Int)
 abbrev Wh:=(↑(qb a (toNat b)).2.2:Int)
 def AJ:=(qb a (toNat b)).1=(qb a (toNat b)).1/\(↑(je a (toNat b) d):Int)=2/\X7 c a ((Wh a b)=(Wh a b)/\e=e/\True)
 def AI:=(qb a (toNat b)).1=(qb a (toNat b)).1/\(↑(je a (toNat b) d):Int)=(AK a b)/\X7 c a ((Wh a b)=(Wh a b)/\e=e/\True)
 def fV:=Ji (b<=(qb a (toNat d)).1) (AJ c a d b e) (AI c a d b e)
 def fU:=Ji ((qb a (toNat b)).1<0) (AJ c a b d e) (fV c a d b e)
 def fT:=X7 c a (b=b/\d=d/\qZ ((c.1,c.2.1,c.2.2),a,b,d)/\Ji ((AK a b)=0) (fU c a b e d) (AI c a b e d))
end
def zf2(o:Int) (x:SV) (s:Ck) (i c:Int):qk2 P (qf5 [(86,Yo)]) Tryz.f84 HR (λ_=>{}) ⟨o,x,s,i,c⟩=(qZ (x,s,i,c)->fT x s i c o):=by kernel_rfl
def zhv:=λo x s i c=>ς (zf2 o x s i c) (by delta Ji Jt Jf X7 AK Wh AJ AI fV fU fT;exact rfl)
open Go.Proofs.YtniogjgfomaicaaGreat.Rv
def wrap_u64(n:Int):ε .u64 n=n % 18446744073709551616:=by simp[ε,Ο,Ν]
def ZA(r:Nat) (h:r<18446744073709551616):(φ 64 (r:Int)).toNat=r:=by rw[BitVec.toNat_ofInt];simp;omega
def and_one(r:Nat) (h:r<18446744073709551616):qae .and .u64 (r:Int) 1=((r % 2:Nat):Int):=by show ε .u64 (φ 64 (r:Int)&&&φ 64 1).toNat=_;rw[BitVec.toNat_and,ZA r h,show(φ 64 1).toNat=1 from rfl,Nat.and_one_is_mod,wrap_u64];omega
def j02(r:Nat):shP .shr .u64 (r:Int) 1=((r / 2:Nat):Int):=by show Int.fdiv (r:Int) (2 ^ min (1:Int).toNat 64)=_;rw[show(2:Int) ^ min (1:Int).toNat 64=2 from rfl,qqm _ (by omega)];omega
def zfx(r:Nat) (h:r<18446744073709551616):qae .xor .u64 (shP .shr .u64 (r:Int) 1) (ε .u64 (0- qae .and .u64 (r:Int) 1))=jP r % 18446744073709551616:=by
 rw[and_one r h,j02,wrap_u64];unfold jP;have u:r / 2<18446744073709551616:=by omega
 by_cases e:r % 2=0
 ·rw[if_pos e,e];show ε .u64 (φ 64 ((r / 2:Nat):Int) ^^^ φ 64 ((0- (0:Int)) % 18446744073709551616)).toNat=_;rw[show φ 64 ((0- (0:Int)) % 18446744073709551616)=0#64 from rfl,BitVec.xor_zero,ZA _ u,wrap_u64]
 ·have e1:r % 2=1:=by omega
  rw[if_neg e,e1];show ε .u64 (φ 64 ((r / 2:Nat):Int) ^^^ φ 64 ((0- (1:Int)) % 18446744073709551616)).toNat=_;rw[show φ 64 ((0- (1:Int)) % 18446744073709551616)=qqz 64 from rfl,BitVec.xor_allOnes,qqt,ZA _ u,wrap_u64];omega
def zdw(r:Nat) (h:r<18446744073709551616):qae .xor .u64 (qqa .u64) (r:Int)=((18446744073709551615- r:Nat):Int):=by show ε .u64 (φ 64 (qqa .u64) ^^^ φ 64 (r:Int)).toNat=_;rw[show φ 64 (qqa .u64)=qqz 64 from rfl,BitVec.allOnes_xor,qqt,ZA _ h,wrap_u64];omega
def z9z(m:Int) (h: -9223372036854775808<=m) (u:m<9223372036854775808):ε .i64 (m % 18446744073709551616)=m:=by simp[ε,Ο,Ν];omega
def z79:∀(l:List UInt8) (i acc v n:Nat),i<=10->acc<2 ^ (7*i)->vdec l i acc=θ (v,n)->v<18446744073709551616/\i<n/\n<=i+l.length
  | [],i,acc,v,n,_,_,h=>by simp[vdec]at h
  | c ::r,i,acc,v,n,hi,H,h=>by
    rw[vdec]at h;split at h
    · cases h
    rename_i A;split at h
    · cases h
    rename_i B;have J:=group_lt (k:=i) (g:=c.toNat % 128) (by omega) (Nat.mod_lt _ (by decide)) B;split at h
    · cases h;exact⟨by omega,by omega,by simp⟩
    · have p:=pow7 i;have hm:c.toNat % 128<128:=Nat.mod_lt _ (by decide);have hq:c.toNat % 128*2 ^ (7*i)<=127*2 ^ (7*i):=Nat.mul_le_mul_right _ (by omega);obtain⟨u,C,G⟩:=z79 r (i+1) _ v n (by omega) (by rw[p];omega) h;exact⟨u,by omega,by simp;omega⟩
def HK(l:List UInt8):vval l<18446744073709551616/\vlen l<=l.length/\verr l<=2/\(verr l=0->1<=vlen l):=by
  unfold vval vlen verr;cases h:vdec l 0 0 with
  |none=>simp
  | some p=>
    obtain⟨v,n⟩:=p;obtain⟨u,A,B⟩:=z79 l 0 0 v n (by omega) (by decide) h;simp;omega
def Lw(r:Nat) (h:r<18446744073709551616): -9223372036854775808<=jP r/\jP r<9223372036854775808:=by unfold jP;split<;>omega
def zoo(s:Ck) (i:Nat):(s.extract i s.size).data.toList=s.data.toList.drop i:=by rw[qqj,qqr];show Ψ _ _=_;rw[Ξ];rw[Ω];exact Ζ _
def yu(s:Ck) (i:Nat) (hi:i<=s.size): -9223372036854775808<=(qb s i).1/\(qb s i).1<9223372036854775808/\(qb s i).2.1<=2/\i<=(qb s i).2.2/\(qb s i).2.2<=s.size/\((qb s i).2.1=0->i<(qb s i).2.2):=by
 obtain⟨u,C,A,B⟩:=HK (s.data.toList.drop i);have G:(s.data.toList.drop i).length=s.size- i:=by rw[Ω];rfl
 have:=Lw _ u;unfold qb;exact⟨this.1,this.2,A,by show i<=i+_;omega,by show i+_<=s.size;omega,λh=>by have:=B h;show i<i+_;omega⟩
def zks:q4p P 115 Pw:=
 qjv (Sen.enters_of Tryz.func115 (by kernel_rfl)) (by decide) (by decide) (λs=>[.string s]) (λs=> .tuple #[.int .u64 (vval s.data.toList:Nat), .int .i64 (vlen s.data.toList:Nat), .int .i64 (verr s.data.toList:Nat)]) (λs=>rfl) (λs=>rfl) (λs=>rfl) (λs=>rfl)
  (λs I=> .tup (.cons (.sv _) (.cons (.sv _) (.cons (.sv _) .nil))))
  λs w h=>(varint_any s w (by have:s.size<1000000000000000000:=h;unfold maxLen;omega)).mono λe u he=>by obtain⟨rfl,rfl⟩:=he;exact⟨rfl, .refl _ _⟩
def zzj:q4p P 38 CD:=
 qjv (Sen.enters_of Tryz.func38 (by kernel_rfl)) (by decide) (by decide) (λ(z:Nat)=>[.int .u64 (z:Int)]) (λ(z:Nat)=> .string ⟨(venc z).toArray⟩) (λs=>rfl) (λs=>rfl) (λs=>rfl) (λs=>rfl)
  (λs I=> .sv _) λ(z:Nat) w h=>rput_any z w h
def zr8:q4p P 130 PY:=by refine qA js (W:=λ_=>{}) Tryz.func130 λ(r:Nat)=>(zr7 r).mpr ?_;intro h;exact⟨by decide,(zfx r h).symm,trivial⟩
def zp3:q4p P 116 PU:=by
 refine qA (qcl (qgj zr8 qjq)) (W:=λ_=>{}) Tryz.func116 λ(r:Nat)=>(zp2 r).mpr ?_
 exactλh=>⟨r,rfl,h,rfl,trivial⟩
def jhe:q4p P 78 Ax:=by
 refine qA js (W:=λ_=>{}) Tryz.func78 λ(n:Int)=>(jhd n).mpr ?_;rintro⟨u,A⟩;simp only[decide_eq_true_eq,decide_eq_false_iff_not,and_true];obtain⟨r,hr⟩:=κ (show 0<=n % 18446744073709551616 by omega);refine⟨λh=> ?_,λh=> ?_⟩
 ·rw[hr,zdw r (by omega),wrap_u64,wrap_u64];unfold zg;rw[if_neg (by omega)];omega
 ·rw[wrap_u64];unfold zg;rw[if_pos (by omega)];omega
def jai:q4p P 39 Aw:=by
 refine qA (qcl (qgj jhe qjq)) (W:=λ_=>{}) Tryz.func39 λ(n:Int)=>(jah n).mpr ?_
 exactλh=>⟨n,rfl,h,rfl,trivial⟩
def fB{n:Int} (h: -9223372036854775808<=n) (u:n<9223372036854775808):zg n<18446744073709551616:=by unfold zg;split<;>omega
def zdr:q4p P 25 Lb:=by refine qA (qcl (qgj jai (qgj zzj qjq))) (W:=λ_=>{}) Tryz.func25 λ(n:Int)=>(zps n).mpr ?_;rintro⟨h,u⟩;exact⟨n,(wrap_u64 n).symm,⟨h,u⟩,zg n,rfl,fB h u,rfl,trivial⟩
def H2:q4p P 86 Yo:=by
 refine qA (qcl (qgj zks (qgj zp3 qjq))) (W:=λ_=>{}) Tryz.func86 λ⟨(x:SV),s,(i:Int),(c:Int)⟩=>(zyp x s i c).mpr ?_;rintro⟨h,u,A⟩;simp only[zoo,true_and,and_true,eq_self];obtain⟨f1,f2,f3,f4⟩:=HK (s.data.toList.drop i.toNat);have B:(s.data.toList.drop i.toNat).length=s.size- i.toNat:=by rw[Ω];rfl
 have hu:=Lw _ f1;have he:(s.extract i.toNat s.size).size=s.size- i.toNat:=by rw[Δ];omega
 refine⟨⟨h,u⟩,by omega,by omega,vval (s.data.toList.drop i.toNat),rfl,f1,(z9z _ hu.1 hu.2).symm,rfl,?_⟩;show(((i.toNat+vlen (s.data.toList.drop i.toNat):Nat)):Int)=_;omega
def z9f:q4p P 84 HR:=by
 refine qA (qcl (qgj H2 qjq)) (W:=λ_=>{}) Tryz.func84 λ⟨(o:Int),(x:SV),s,(i:Int),(c:Int)⟩=>(zhv o x s i c).mpr ?_;intro h;simp only[decide_eq_true_eq,decide_eq_false_iff_not,true_and,and_true,eq_self];unfold je;refine⟨h,λB=>⟨λu=> ?_,λu=>⟨λA=> ?_,λA=> ?_⟩⟩,λB=> ?_⟩
 ·rw[if_pos ⟨by omega, .inl u⟩];rfl
 ·rw[if_pos ⟨by omega, .inr A⟩];rfl
 ·rw[if_neg (by omega)]
 ·rw[if_neg (by omega)]
def Yf{v:Int} (h: -9223372036854775808<v) (u:v<9223372036854775808):ε .i64 (0- v)= -v:=by simp[ε,Ο,Ν];omega
def zy9:q4p P 81 Cc:=by
 refine qA (qcl (qgj H2 qjq)) (W:=λ_=>{}) Tryz.func81 λ⟨(x:SV),s,(i:Int),(c:Int)⟩=>(head_eq x s i c).mpr ?_;rintro⟨h,U,u⟩;obtain⟨i,rfl⟩:=κ h;simp only[decide_eq_true_eq,decide_eq_false_iff_not,ω,ψ,true_and,and_true,eq_self,γ];obtain⟨V,a2,a3,a4,a5,A⟩:=yu s i (by omega);obtain⟨C,G,H,J,O,T⟩:=yu s (qb s i).2.2 a5;refine⟨⟨h,U,u⟩,λg0=> ?_,λg0=>⟨λg1=> ?_,λg1=>⟨λg2=> ?_,λg2=>⟨⟨by show(0:Int)<=_;omega,by show(((qb s i).2.2:Nat):Int)<=_;omega,u⟩,?_⟩⟩⟩⟩
 ·unfold qR;rw[if_pos (.inl (by omega))];exact⟨rfl,rfl,rfl,rfl⟩
 ·unfold qR;rw[if_pos (.inr g1)];exact⟨rfl,rfl,rfl,rfl⟩
 ·unfold qR;rw[if_neg (by omega),if_pos g2];exact⟨rfl,rfl,rfl,rfl⟩
 unfold qR;rw[if_neg (show¬((qb s i).2.1≠0\/0<=(qb s i).1)by omega),if_neg g2];clear g0 a3 A;generalize qb s (qb s i).2.2=B at*;obtain⟨n2,e2,X⟩:=B;simp only at C G H J O T⊢;refine⟨λg3=> ?_,λg3=> ?_⟩
 ·rw[if_pos (by omega)];exact⟨rfl,rfl,rfl,rfl⟩
 ·rw[if_neg (show¬e2≠0 by omega)];refine⟨λg4=>by rw[if_pos g4];exact⟨rfl,rfl,rfl,rfl⟩,λg4=>⟨by omega,λg5=>⟨by omega, -(qb s i).1,(Yf (by omega) (by omega)).symm,by omega,?_⟩,λg5=>⟨-(qb s i).1,(Yf (by omega) (by omega)).symm,by omega,?_⟩⟩⟩
  ·rw[if_neg g4,if_pos g5];exact⟨by show -(_:Int)=_;omega,rfl,rfl,rfl⟩
  ·rw[if_neg g4,if_neg g5];exact⟨by show -(_:Int)=_;omega,rfl,rfl,rfl⟩
section
def Tc:List Value->Option Ck
 | [.string s]=>θ s
 |_=>ι
def Y':List Value->Option Int
 | [.int _ c]=>θ c
 |_=>ι
def uN(s:Ck) (j:Nat):bat s j<256:=by unfold bat;exact UInt8.toNat_lt _
variable {s:Ck}
def zxb{j:Nat} (h:s.size<=j):bat s j=0:=by unfold bat;rw[getElem?_neg s j (by omega)];rfl
def zv8{j:Nat} (h:j<s.size):bat s j=s[j].toNat:=by unfold bat;rw[getElem?_pos s j h];rfl
def qU(c:Nat):Nat:=if c<128 then 1 else if 192<=c/\c<224 then 2 else if 224<=c/\c<240 then 3 else if 240<=c/\c<248 then 4 else 0
def z_(c:Nat):Nat:=if c<128 then c else if 192<=c/\c<224 then c- 192 else if 224<=c/\c<240 then c- 224 else if 240<=c/\c<248 then c- 240 else 0
def Qk(c:Nat):Bool:=decide (128<=c)&&decide (c<192)
def zt(s:Ck):Nat->Option Nat
  |0=>θ 0
  |1=>θ (z_ (bat s 0))
  | i+2=>match zt s (i+1)with
    |some r=>if Qk (bat s (i+1))=η then θ (r*64+(bat s (i+1)- 128))else ι
    |none=>ι
def yj(r:Nat):Nat:=if r<128 then 1 else if r<2048 then 2 else if r<65536 then 3 else 4
def yC(r:Nat):Bool:=decide (r<=1114111)&& !(decide (55296<=r)&&decide (r<=57343))
def qH(s:Ck):Nat:=if s.size<qU (bat s 0)then 0 else match zt s (qU (bat s 0))with
 |none=>0
 |some r=>if qU (bat s 0)=0\/yC r=ζ\/yj r≠qU (bat s 0)then 0 else qU (bat s 0)
def u_:Nat->Ck->Bool
 |0,_=>η
 |f+1,s=>if s.size=0 then η else if qH s=0 then ζ else u_ f (s.extract (qH s) s.size)
def qP(s:Ck):Bool:=u_ s.size s
def Cd:Ct:=ctS Int (λc=>[.int .u8 c]) Y' (λc=>0<=c/\c<256) (λ_=>{}) λc=> .tup [.sv (.int .i64 (qU c.toNat:Nat)), .sv (.int .u32 (z_ c.toNat:Nat))]
def R_:Ct:=ctS Int (λc=>[.int .u32 c]) Y' (λc=>0<=c/\c<4294967296) (λ_=>{}) λc=> .sv (.bool (yC c.toNat))
def Ps:Ct:=ctS Int (λc=>[.int .u32 c]) Y' (λc=>0<=c/\c<4294967296) (λ_=>{}) λc=> .sv (.int .i64 (yj c.toNat:Nat))
def H_:Ct:=ctS Ck (λs=>[.string s]) Tc (λs=>0<s.size/\s.size<9223372036854775808) (λ_=>{}) λs=> .sv (.int .i64 (qH s:Nat))
def uP:Ct:=ctS Ck (λs=>[.string s]) Tc (λs=>s.size<9223372036854775808) (λ_=>{}) λs=> .sv (.bool (qP s))
def Hr(t:T AV) (k:Nat):Option Ck:=match t.get k with
 |some a=>gs a
 |none=>ι
def zwe:H_.σ->WayF:=λs=>{ann:=λ_ _ _=>θ {σ:=Int×Int,pre:=λ⟨r,i⟩=>1<=i/\(i<=qU (bat s 0)\/i=1)/\∃q:Nat,r=q/\(qU (bat s 0)=0\/zt s i.toNat=θ q),find:=θ λt _=>match jO t 4 with|some r=>(match jO t 5 with|some i=>θ (r,i)|none=>ι)|none=>ι,t:=λ⟨r,i⟩=>[(4, .sv (.int .u32 r)),(5, .sv (.int .i64 i))],h:=λ_=>[],more:=0,μ:=λ⟨r,i⟩=>5- i.toNat,keep:=[0,2,3]}}
def zw8:Nat->Option Ct:=qf5 [(131,Cd),(132,R_),(133,Ps)]
def zwn:uP.σ->WayF:=λs=>{ann:=λ_ _ _=>θ {σ:=Ck,pre:=λt=>t.size<=s.size/\qP t=qP s,find:=θ λt _=>Hr t 0,t:=λu=>[(0, .sv (.string u))],h:=λ_=>[],more:=0,μ:=λu=>u.size,keep:=[2]}}
def jae:Nat->Option Ct:=qf5 [(117,H_)]
def j4(s:Ck):Nat:=if qH s=0 then 0 else(zt s (qH s)).getD 0
def ZG:Ct:=ctS Ck (λs=>[.string s]) Tc (λs=>s.size<9223372036854775808) (λ_=>{}) λs=> .tup [.sv (.int .u32 (j4 s:Nat)), .sv (.int .i64 (qH s:Nat))]
def Qp(n:Nat):Nat:=if n=2 then 128 else if n=3 then 2048 else 65536
def zwi:ZG.σ->WayF:=λs=>{
 ann:=λ_ _ _=>θ {σ:=Int×Int,pre:=λ⟨v,i⟩=>1<=i/\i<=qU (bat s 0)/\∃q:Nat,v=q/\zt s i.toNat=θ q,find:=θ λt _=>match jO t 6 with|some v=>(match jO t 8 with|some i=>θ (v,i)|none=>ι)|none=>ι,t:=λ⟨v,i⟩=>[(6, .sv (.int .u32 v)),(8, .sv (.int .i64 i))],h:=λ_=>[],more:=0,μ:=λ⟨v,i⟩=>5- i.toNat,keep:=[0,5,7]}
 cut:=λr _ _=>match r with
  |14=>θ {σ:=Unit,pre:=λ_=>0<s.size/\2<=qU (bat s 0),find:=θ λ_ _=>θ (),t:=λ_=>[(5, .sv (.int .i64 (qU (bat s 0):Nat))),(6, .sv (.int .u32 (z_ (bat s 0):Nat))),(7, .sv (.int .u32 (Qp (qU (bat s 0)):Nat)))],h:=λ_=>[],more:=0,μ:=λ_=>0,keep:=[0]}
  |_=>ι}
def zl9:uP.σ->WayF:=λs=>{ann:=λ_ _ _=>θ {σ:=Ck,pre:=λt=>t.size<=s.size/\qP t=qP s,find:=θ λt _=>Hr t 0,t:=λu=>[(0, .sv (.string u))],h:=λ_=>[],more:=0,μ:=λu=>u.size,keep:=[]}}
end
section
def j6{p q:Prop} [Decidable p] [Decidable q] (h:p↔q):decide p=decide q:=by simp[h]
abbrev vw(x:SV):Value:= .slice x.1 x.2.1 x.2.2
abbrev zI(x:SV):AV:= .sv (.slice x.1 x.2.1 x.2.2)
def qn(s:Ck):List Value:=[.string s]
def qi(i:Int):List Value:=[.int .i64 i]
def qc{α:Type} (f:α->List Value) (x:SV) (l:List α) (p:Pub):Prop:=x.2.1=l.length/\qgn p x.1 x.2.1 x.2.2 (qa f l)
variable {α:Type}
def ji{f:α->List Value} {x:SV} {l:List α} {p q:Pub} (h:qqn p q) (e:qc f x l p):qc f x l q:=⟨e.1,q4n h e.2⟩
def jX{f:α->List Value} {e:Nat} (u:∀x,(f x).length=e) (he:0<e) {p:Pub} {x:SV} {l:List α} (h:qc f x l p) {i:Nat} (hi:i<l.length):x.1≠noA/\q37 p (adr x.1 (i*e)) (f l[i]):=zfs u he h.2 hi
variable {p:Pub}
def qV{f:α->List Value}:qc f (ι,0,0) [] p:=⟨rfl,Ζ _, .inl ⟨rfl,Yg⟩⟩
inductive GJ where
 |mk (k n:Int) (s:Ck) (y:SV) (l:List GJ) (x:SV) (nm:List Ck)
def GJ.k:GJ->Int| .mk k _ _ _ _ _ _=>k
def GJ.n:GJ->Int| .mk _ n _ _ _ _ _=>n
def GJ.s:GJ->Ck| .mk _ _ s _ _ _ _=>s
def GJ.y:GJ->SV| .mk _ _ _ y _ _ _=>y
def GJ.l:GJ->List GJ| .mk _ _ _ _ l _ _=>l
def GJ.x:GJ->SV| .mk _ _ _ _ _ x _=>x
def GJ.nm:GJ->List Ck| .mk _ _ _ _ _ _ nm=>nm
def GJ.cells(g:GJ):List Value:=[.int .i64 g.k, .int .i64 g.n, .string g.s,vw g.y,vw g.x]
def GJ.av(g:GJ):AV:= .agg [.sv (.int .i64 g.k), .sv (.int .i64 g.n), .sv (.string g.s),zI g.y,zI g.x]
mutual
def GJ.ok:GJ->Pub->Prop
 | .mk k n s y l x nm,p=>qc GJ.cells y l p/\qc qn x nm p/\GJ.oks l p
def GJ.oks:List GJ->Pub->Prop
 | [],_=>True
 |g::l,p=>GJ.ok g p/\GJ.oks l p
end
mutual
def GJ.ok_mono:∀{g:GJ} {p q:Pub},qqn p q->g.ok p->g.ok q
  | .mk k n s y l x nm,p,q,h,e=>by unfold GJ.ok at e⊢;exact⟨ji h e.1,ji h e.2.1,GJ.oks_mono h e.2.2⟩
def GJ.oks_mono:∀{l:List GJ} {p q:Pub},qqn p q->GJ.oks l p->GJ.oks l q
  | [],p,q,h,e=>by unfold GJ.oks;trivial
  | g::l,p,q,h,e=>by unfold GJ.oks at e⊢;exact⟨GJ.ok_mono h e.1,GJ.oks_mono h e.2⟩
end
structure AF where
 nm:Ck
 al:SV
 als:List Ck
 ty:Int
 hd:Bool
 df:GJ
def AF.cells(f:AF):List Value:=[.string f.nm,vw f.al, .int .i64 f.ty, .bool f.hd, .int .i64 f.df.k, .int .i64 f.df.n, .string f.df.s,vw f.df.y,vw f.df.x]
def AF.ok(f:AF) (p:Pub):Prop:=qc qn f.al f.als p/\f.df.ok p
structure AT where
 k:Int
 nm:Ck
 al:SV
 als:List Ck
 it:Int
 sy:SV
 sys:List Ck
 hd:Bool
 df:Ck
 sz:Int
 f:SV
 fs:List AF
 br:SV
 brs:List Int
def AT.cells(e:AT):List Value:=[.int .i64 e.k, .string e.nm,vw e.al, .int .i64 e.it,vw e.sy, .bool e.hd, .string e.df, .int .i64 e.sz,vw e.f,vw e.br]
def AT.av(e:AT):AV:= .agg [.sv (.int .i64 e.k), .sv (.string e.nm),zI e.al, .sv (.int .i64 e.it),zI e.sy, .sv (.bool e.hd), .sv (.string e.df), .sv (.int .i64 e.sz),zI e.f,zI e.br]
def AT.ok(e:AT) (p:Pub):Prop:=qc qn e.al e.als p/\qc qn e.sy e.sys p/\qc AF.cells e.f e.fs p/\qc qi e.br e.brs p/\∀f∈e.fs,f.ok p
def AT.ok_mono{e:AT} {p q:Pub} (h:qqn p q) (g:e.ok p):e.ok q:=⟨ji h g.1,ji h g.2.1,ji h g.2.2.1,ji h g.2.2.2.1,λf u=>⟨ji h (g.2.2.2.2 f u).1,GJ.ok_mono h (g.2.2.2.2 f u).2⟩⟩
def qd(S:List AT) (x:SV) (p:Pub):Prop:=qc AT.cells x S p/\∀e∈S,e.ok p
def yG{S:List AT} {x:SV} {p q:Pub} (h:qqn p q) (g:qd S x p):qd S x q:=⟨ji h g.1,λe he=>AT.ok_mono h (g.2 e he)⟩
def y9(e:AT):e.cells.length=10:=rfl
def H8(f:AF):f.cells.length=9:=rfl
def j8(s:Ck):(qn s).length=1:=rfl
def z26(i:Int):(qi i).length=1:=rfl
def ZI(g:GJ):g.cells.length=5:=rfl
def small(S:List AT):Prop:=S.length<1000000/\∀e∈S,e.fs.length<1000000/\e.brs.length<1000000/\e.sys.length<1000000
inductive GV where
 |mk (n:Int) (s:Ck) (x:SV) (l:List GV) (y:SV) (ks:List Ck) (b:Int)
inductive PV where
 |mk (n:Int) (s:Ck) (l:List PV) (ks:List Ck) (b:Int)
def GV.n:GV->Int| .mk n _ _ _ _ _ _=>n
def GV.s:GV->Ck| .mk _ s _ _ _ _ _=>s
def GV.x:GV->SV| .mk _ _ x _ _ _ _=>x
def GV.l:GV->List GV| .mk _ _ _ l _ _ _=>l
def GV.y:GV->SV| .mk _ _ _ _ y _ _=>y
def GV.ks:GV->List Ck| .mk _ _ _ _ _ ks _=>ks
def GV.b:GV->Int| .mk _ _ _ _ _ _ b=>b
def GV.cells(v:GV):List Value:=[.int .u64 v.n, .string v.s,vw v.x,vw v.y, .int .i64 v.b]
def GV.av(v:GV):AV:= .agg [.sv (.int .u64 v.n), .sv (.string v.s),zI v.x,zI v.y, .sv (.int .i64 v.b)]
def zn(v:GV):v.cells.length=5:=rfl
mutual
def GV.ok:GV->Pub->Prop
 | .mk n s x l y ks b,p=>qc GV.cells x l p/\qc qn y ks p/\GV.oks l p
def GV.oks:List GV->Pub->Prop
 | [],_=>True
 |v::l,p=>GV.ok v p/\GV.oks l p
end
mutual
def GV.ok_mono:∀{v:GV} {p q:Pub},qqn p q->v.ok p->v.ok q
  | .mk n s x l y ks b,p,q,h,e=>by unfold GV.ok at e⊢;exact⟨ji h e.1,ji h e.2.1,GV.oks_mono h e.2.2⟩
def GV.oks_mono:∀{l:List GV} {p q:Pub},qqn p q->GV.oks l p->GV.oks l q
  | [],p,q,h,e=>by unfold GV.oks;trivial
  | g::l,p,q,h,e=>by unfold GV.oks at e⊢;exact⟨GV.ok_mono h e.1,GV.oks_mono h e.2⟩
end
def GV.ok_eq(v:GV) (p:Pub):v.ok p=(qc GV.cells v.x v.l p/\qc qn v.y v.ks p/\GV.oks v.l p):=by cases v;unfold GV.ok;rfl
def GV.oks_at:∀{l:List GV} {p:Pub},GV.oks l p->∀{i:Nat} (h:i<l.length),l[i].ok p
 |v::l,p,e,0,h=>by unfold GV.oks at e;exact e.1
 |v::l,p,e,i+1,h=>by unfold GV.oks at e;exact GV.oks_at e.2 (by simpa using h)
mutual
def GV.pv:GV->PV
 | .mk n s x l y ks b=> .mk n s (GV.pvs l) ks b
def GV.pvs:List GV->List PV
 | []=>[]
 |v::l=>GV.pv v::GV.pvs l
end
def GV.pv_eq(v:GV):v.pv= .mk v.n v.s (GV.pvs v.l) v.ks v.b:=by cases v;rw[GV.pv];rfl
def GV.pvs_map:∀l:List GV,GV.pvs l=l.map GV.pv
 | []=>by rw[GV.pvs];rfl
 |v::l=>by rw[GV.pvs,GV.pvs_map l];rfl
def GV.pvs_len(l:List GV):(GV.pvs l).length=l.length:=by rw[GV.pvs_map,List.length_map]
mutual
def PV.sm:PV->Prop
 | .mk n s l ks b=>(0<=n/\n<18446744073709551616)/\s.size<9223372036854775808/\l.length<4611686018427387904/\ks.length<4611686018427387904/\(∀k∈ks,k.size<9223372036854775808)/\PV.sms l
def PV.sms:List PV->Prop
 | []=>True
 |v::l=>PV.sm v/\PV.sms l
end
def PV.sms_at:∀{l:List PV},PV.sms l->∀{i:Nat} (h:i<l.length),l[i].sm
 |v::l,e,0,h=>by unfold PV.sms at e;exact e.1
 |v::l,e,i+1,h=>by unfold PV.sms at e;exact PV.sms_at e.2 (by simpa using h)
def GV.sm_eq(v:GV):v.pv.sm=((0<=v.n/\v.n<18446744073709551616)/\v.s.size<9223372036854775808/\v.l.length<4611686018427387904/\v.ks.length<4611686018427387904/\(∀k∈v.ks,k.size<9223372036854775808)/\PV.sms (GV.pvs v.l)):=by rw[GV.pv_eq,PV.sm,GV.pvs_len]
variable {v:GV}
def GV.ok_at(h:v.ok p) {i:Nat} (hi:i<v.l.length):v.l[i].ok p:=by rw[GV.ok_eq]at h;exact GV.oks_at h.2.2 hi
def GV.cells_at(h:v.ok p) {i:Nat} (hi:i<v.l.length):v.x.1≠noA/\q37 p (adr v.x.1 (i*5)) v.l[i].cells:=by rw[GV.ok_eq]at h;exact jX zn (by decide) h.1 hi
def GV.x_len(h:v.ok p):v.x.2.1=v.l.length:=by rw[GV.ok_eq]at h;exact h.1.1
def GV.y_len(h:v.ok p):v.y.2.1=v.ks.length:=by rw[GV.ok_eq]at h;exact h.2.1.1
def vi(a:AT) (n:Int):Bool:=if a.k=1 then decide (n=0)else if a.k=2 then decide (n<=1)else if a.k=3 then decide (n<2147483648\/18446744071562067968<=n)else if a.k=5 then decide (n<4294967296)else if a.k=10 then decide (n<a.sys.length)else η
def yV(a:AT) (s:Ck):Bool:=if a.k=8 then qP s else if a.k=11 then decide ((s.size:Int)=a.sz)else η
def yN:List Ck->Bool
 | []=>η
 | [k]=>qP k
 |k::j::l=>qP k&&qdf k j&&yN (j::l)
def vj(a:AT) (n:Nat) (ks:List Ck) (b:Int):Bool:=
 if ks.length>0/\a.k≠13\/b≠0/\a.k≠14 then ζ else
 if a.k=9 then decide (n=a.fs.length)else if a.k=14 then decide (0<=b/\b<a.brs.length/\n=1)else if a.k=13 then decide (n=ks.length)&&yN ks else η
def zo(k:Int):Bool:=decide (k=1\/k=2\/k=3\/k=4\/k=5\/k=6\/k=10)
def q8(k:Int):Bool:=decide (k=7\/k=8\/k=11)
def qp(k:Int):Bool:=decide (k=9\/k=12\/k=13\/k=14)
def Z8(n m:Nat) (b:Int):Bool:=decide (n=0)&&decide (m=0)&&decide (b=0)
def qG(a:AT) (b:Int) (i:Nat):Int:=if a.k=9 then(match a.fs[i]? with|some f=>f.ty|none=>0)else if a.k=14 then a.brs.getD b.toNat 0 else a.it
mutual
def PV.fits(S:List AT) (t:Int):PV->Bool
  | .mk n s l ks b=>if t<0\/S.length<=t then ζ else match S[t.toNat]? with
    |none=>ζ
    | some a=>if zo a.k=η then vi a n&&decide (s.size=0)&&Z8 l.length ks.length b else
      if q8 a.k=η then yV a s&&decide (n=0)&&Z8 l.length ks.length b else
      if qp a.k=η then vj a l.length ks b&&PV.fitL S (qG a b) 0 l&&decide (n=0)&&decide (s.size=0)else ζ
def PV.fitL(S:List AT) (f:Nat->Int) (i:Nat):List PV->Bool
 | []=>η
 |v::l=>PV.fits S (f i) v&&PV.fitL S f (i+1) l
end
mutual
def PV.same:PV->PV->Bool
 | .mk n s l ks b, .mk n' B A h u=>decide (n=n')&&decide (s=B)&&decide (b=u)&&decide (ks=h)&&PV.sames l A
def PV.sames:List PV->List PV->Bool
 | [],[]=>η
 |v::l,w::m=>PV.same v w&&PV.sames l m
 |_,_=>ζ
end
end
open Go.Proofs.YtniogjgfomaicaaGreat.Rv
def jD(x y:SV) (n all e:Int):List (Nat×AO):=[(1, .cells 86 (θ 0) ζ [zI x,zI y, .sv (.int .i64 n), .sv (.int .i64 all), .sv (.int .i64 e)])]
def dM(y:SV) (D:Ck):PF:=⟨η,λp=>y.2.1=D.size/\qgn p y.1 y.2.1 y.2.2 (q18 D),λ_ _ h e=>⟨e.1,q4n h e.2⟩⟩
abbrev zi:=SV×SV×Ck×Int×Int×Int
def qD(D:Ck) (n:Int):Prop:=0<=n/\n<=D.size/\D.size<1000000000000000000
def CF:Ct:={Pw with m':=1}
def Cg:Ct where
 σ:=Nat
 args:=λr=>[.sv (.int .u64 (r:Nat))]
 h:=λ_=>[]
 m:=1
 pre:=λr=>r<18446744073709551616
 r:=λr=> .sv (.int .u64 (jP r % 18446744073709551616))
 h':=λ_=>[]
 m':=1
 g:=λ_=>ι
def PX:Ct where
 σ:=Nat
 args:=λr=>[.int .i64 8, .sv (.int .u64 (r:Nat))]
 h:=λ_=>[]
 m:=1
 pre:=λr=>r<18446744073709551616
 r:=λr=> .sv (.int .u64 (jP r % 18446744073709551616))
 h':=λ_=>[]
 m':=1
 g:=λ_=>ι
def ZF:Ct where
 σ:=SV×SV×Int×Int×Int×Int
 args:=λ⟨x,y,n,all,e,k⟩=>[.ptr 1 0, .sv (.int .i64 k)]
 h:=λ⟨x,y,n,all,e,k⟩=>jD x y n all e
 m:=2
 r:=λ_=> .tup []
 h':=λ⟨x,y,n,all,e,k⟩=>jD x y n all (if e=0 then k else e)
 m':=2
 g:=λ_=>ι
def zF(D:Ck) (n e k:Int):Ck×Int×Int:=if e≠0\/D.size- n<k then(mkS [],n,if e=0 then 2 else e)else(D.extract n.toNat (n+k).toNat,n+k,e)
def Uv:Ct where
 σ:=zi×Int
 args:=λ⟨⟨x,y,D,n,all,e⟩,k⟩=>[.ptr 1 0, .sv (.int .i64 k)]
 h:=λ⟨⟨x,y,D,n,all,e⟩,k⟩=>jD x y n all e
 m:=2
 pre:=λ⟨⟨x,y,D,n,all,e⟩,k⟩=>qD D n/\0<=k/\k<9223372036854775808
 mem:=λ⟨⟨x,y,D,n,all,e⟩,k⟩=>dM y D
 r:=λ⟨⟨x,y,D,n,all,e⟩,k⟩=> .sv (.string (zF D n e k).1)
 h':=λ⟨⟨x,y,D,n,all,e⟩,k⟩=>jD x y (zF D n e k).2.1 all (zF D n e k).2.2
 m':=2
 g:=λ_=>ι
def kr(D:Ck) (n:Int):Ck:=D.extract n.toNat (min (D.size:Int) (n+10)).toNat
def qN(D:Ck) (n e:Int):Int×Int×Int:=if e≠0 then(0,n,e)else if(verr (kr D n).data.toList:Int)=0 then(jP (vval (kr D n).data.toList),n+vlen (kr D n).data.toList,0)else(0,n,verr (kr D n).data.toList)
def Kc:Ct where
 σ:=zi
 args:=λ_=>[.ptr 1 0]
 h:=λ⟨x,y,D,n,all,e⟩=>jD x y n all e
 m:=2
 pre:=λ⟨x,y,D,n,all,e⟩=>qD D n
 mem:=λ⟨x,y,D,n,all,e⟩=>dM y D
 r:=λ⟨x,y,D,n,all,e⟩=> .sv (.int .i64 (qN D n e).1)
 h':=λ⟨x,y,D,n,all,e⟩=>jD x y (qN D n e).2.1 all (qN D n e).2.2
 m':=2
 g:=λ_=>ι
def uI(m e:Int):Int:=if e=0 then(if m<0 then 2 else if 5000<m then 3 else 0)else e
def kO(D:Ck) (n e:Int):Ck×Int×Int:=if uI (qN D n e).1 (qN D n e).2.2≠0 then(mkS [],(qN D n e).2.1,uI (qN D n e).1 (qN D n e).2.2)else zF D (qN D n e).2.1 0 (qN D n e).1
def Uw:Ct where
 σ:=zi
 args:=λ_=>[.ptr 1 0]
 h:=λ⟨x,y,D,n,all,e⟩=>jD x y n all e
 m:=2
 pre:=λ⟨x,y,D,n,all,e⟩=>qD D n
 mem:=λ⟨x,y,D,n,all,e⟩=>dM y D
 r:=λ⟨x,y,D,n,all,e⟩=> .sv (.string (kO D n e).1)
 h':=λ⟨x,y,D,n,all,e⟩=>jD x y (kO D n e).2.1 all (kO D n e).2.2
 m':=2
 g:=λ_=>ι
def XY(m e k:Int):Int:=if e=0/\(m<0\/k<=m)then 2 else e
def yD(D:Ck) (n e k:Int):Int×Int×Int:=(if XY (qN D n e).1 (qN D n e).2.2 k≠0 then 0 else(qN D n e).1,(qN D n e).2.1,XY (qN D n e).1 (qN D n e).2.2 k)
def Pq:Ct where
 σ:=zi×Int
 args:=λ⟨⟨x,y,D,n,all,e⟩,k⟩=>[.ptr 1 0, .sv (.int .i64 k)]
 h:=λ⟨⟨x,y,D,n,all,e⟩,k⟩=>jD x y n all e
 m:=2
 pre:=λ⟨⟨x,y,D,n,all,e⟩,k⟩=>qD D n/\0<=k/\k<9223372036854775808
 mem:=λ⟨⟨x,y,D,n,all,e⟩,k⟩=>dM y D
 r:=λ⟨⟨x,y,D,n,all,e⟩,k⟩=> .sv (.int .i64 (yD D n e k).1)
 h':=λ⟨⟨x,y,D,n,all,e⟩,k⟩=>jD x y (yD D n e k).2.1 all (yD D n e k).2.2
 m':=2
 g:=λ_=>ι
def kc:List UInt8->Nat
 | []=>0
 |c::l=>c.toNat+256*kc l
def Ce:Ct where
 σ:=zi×Int
 args:=λ⟨⟨x,y,D,n,all,e⟩,k⟩=>[.ptr 1 0, .sv (.int .i64 k)]
 h:=λ⟨⟨x,y,D,n,all,e⟩,k⟩=>jD x y n all e
 m:=2
 pre:=λ⟨⟨x,y,D,n,all,e⟩,k⟩=>qD D n/\0<=k/\k<=8
 mem:=λ⟨⟨x,y,D,n,all,e⟩,k⟩=>dM y D
 r:=λ⟨⟨x,y,D,n,all,e⟩,k⟩=> .sv (.int .u64 (kc (zF D n e k).1.data.toList:Nat))
 h':=λ⟨⟨x,y,D,n,all,e⟩,k⟩=>jD x y (zF D n e k).2.1 all (zF D n e k).2.2
 m':=2
 g:=λ_=>ι
def C1:zi×Int->WayF:=λ⟨⟨x,y,D,n,all,e⟩,k⟩=>{
 ann:=λ_ _ _=>θ {σ:=Nat,pre:=λj=>j<=(zF D n e k).1.size,t:=λj=>[(6, .sv (.int .u64 (kc ((zF D n e k).1.data.toList.drop j):Nat))),(7, .sv (.int .i64 ((j:Int)- 1)))],h:=λ_=>[],more:=0,μ:=λj=>j,keep:=[5]}}
def j0m(r:Nat):qk2 P (λ_=>ι) Tryz.f121 Cg (λ_=>{}) r=(r<(18446744073709551616:Nat)->(2:Int)≠(0:Int)/\(decide (qqf (↑r:Int) (2:Int)=(1:Int))=η->(2:Int)≠(0:Int)/\jP r % (18446744073709551616:Int)=qae qqv u64 (qqa u64) (ε u64 (qq6 (↑r:Int) (2:Int)))/\True)/\(decide (qqf (↑r:Int) (2:Int)=(1:Int))=ζ->(2:Int)≠(0:Int)/\jP r % (18446744073709551616:Int)=ε u64 (qq6 (↑r:Int) (2:Int))/\True)):=by kernel_rfl
def zp6(r:Nat):qk2 P (qf5 [(121,Cg)]) Tryz.f95 PX (λ_=>{}) r=(r<(18446744073709551616:Nat)->∃(s:Nat),(↑s:Int)=(↑r:Int)/\s<(18446744073709551616:Nat)/\jP r % (18446744073709551616:Int)=jP s % (18446744073709551616:Int)/\True):=by kernel_rfl
def zoq(x y:SV) (n all e k:Int):qk2 P (λ_=>ι) Tryz.f55 ZF (λ_=>{}) ⟨x,y,n,all,e,k⟩=(True->(decide (e=(0:Int))=η->ρ x=ρ x/\ρ (ν x)=ρ (ν x)/\ν (ν x)=ν (ν x)/\ρ y=ρ y/\ρ (ν y)=ρ (ν y)/\ν (ν y)=ν (ν y)/\n=n/\all=all/\(if e=(0:Int)then k else e)=k/\True)/\(decide (e=(0:Int))=ζ->ρ x=ρ x/\ρ (ν x)=ρ (ν x)/\ν (ν x)=ν (ν x)/\ρ y=ρ y/\ρ (ν y)=ρ (ν y)/\ν (ν y)=ν (ν y)/\n=n/\all=all/\(if e=(0:Int)then k else e)=e/\True)):=by kernel_rfl
section
variable (a:Int) (b g:SV) (d f:Int) (e:Ck) (h:Int) (l:Prop) (m:Nat->Option Obj)
 abbrev Tq:=True/\b.2.1=size e/\qgn m b.1 b.2.1 b.2.2 (q18 e)
 def Z':=(!decide (a=0))= !decide (a=0)
 def UG:=Z' a/\Z' a/\Z' a/\Z' a/\Z' a/\l
 abbrev X8:=∃(c:(Option Addr×Nat×Nat)×(Option Addr×Nat×Nat)×Int×Int×Int×Int),c.2.2.2.2.2=2/\c.1.1=b.1/\c.1.2.1=b.2.1/\c.1.2.2=b.2.2/\c.2.1.1=g.1/\c.2.1.2.1=g.2.1/\c.2.1.2.2=g.2.2/\c.2.2.1=a/\c.2.2.2.1=d/\c.2.2.2.2.1=f/\True/\(zF e a f h).1=mkS []/\b.1=c.1.1/\b.2.1=c.1.2.1/\b.2.2=c.1.2.2/\g.1=c.2.1.1/\g.2.1=c.2.1.2.1/\g.2.2=c.2.1.2.2/\(zF e a f h).2.1=c.2.2.1/\d=c.2.2.2.1/\((zF e a f h).2.2=if c.2.2.2.2.1=0 then c.2.2.2.2.2 else c.2.2.2.2.1)/\True
 def f_:=Z' a/\UG a (UG a (((!decide (a=0))=η->X8 d b g f a e h)/\((!decide (a=0))=ζ->False)))
 abbrev X':=λ(c:Nat)=>(λ(j:Nat)=>(λ(k:Nat)=>k) j) c
 abbrev X9:=λ(c:Nat)=>(λ(j:Nat)=>(λ(k:Nat)=>(0:Nat)) j) c
 def AL:=b.1=b.1/\b.2.1=b.2.1/\b.2.2=b.2.2/\l
 def fZ:=Jb (a+d)/\b.2.1<=b.2.2/\(0<=a/\a<=a+d/\a+d<=(↑b.2.2:Int))/\∃c,size c=qqg (X') (X9) (a+d)- qqg (X') (X9) a/\(∀i,Tq b e i->qgm i (slA b.1 b.2.2 (qqg (X') (X9) a) 1) (q18 c))/\Jb (a+d)/\(zF e a f d).1=c/\AL g (AL b ((zF e a f d).2.1=a+d/\h=h/\(zF e a f d).2.2=f/\True))
 def fY:=Ji ((↑b.2.1:Int)- a<d) (X8 a g b f h e d) (fZ a b g d h e f)
 def fX:=UG a (UG a (Jb ((↑b.2.1:Int)- d)/\Z' a/\((!decide (a=0))=η->X8 d g b f a e h)/\((!decide (a=0))=ζ->fY d b g h f e a)))
 def fW:=((!decide (a=0))=η->f_ a b g d f e h)/\((!decide (a=0))=ζ->fX a g b d f e h)
end
def zkd(x y:SV) (D:Ck) (n all e k:Int):qk2 P (qf5 [(55,ZF)]) Tryz.f61 Uv (λ_=>{}) ⟨⟨x,y,D,n,all,e⟩,k⟩=(qD D n/\0<=k/\k<9223372036854775808->(∃(p:Pub),Tq y D p)->fW e x y n all D k):=by kernel_rfl
def zqu:=λx y D n all e k=>ς (zkd x y D n all e k) (by delta Ji Jb Jt Jf Tq Z' UG X8 f_ X' X9 AL fZ fY fX fW;exact rfl)
section
variable (c:Int) (e:Ck) (f:Int) (b g:SV) (h:Int) (k:Ck) (m:Prop) (n:Nat->Option Obj)
 def AN:=True/\b.2.1=size e/\qgn n b.1 b.2.1 b.2.2 (q18 e)
 def Wi:=b.1=b.1/\b.2.1=b.2.1/\b.2.2=b.2.2/\m
 def ae:=(qN e c f).1=0/\Wi b (Wi g ((qN e c f).2.1=c/\h=h/\(qN e c f).2.2=f/\True))
 abbrev Jp:=(↑b.2.1:Int)
 abbrev Fb:=λ(d:Nat)=>(λ(j:Nat)=>(λ(l:Nat)=>l) j) d
 abbrev Fa:=λ(d:Nat)=>(λ(j:Nat)=>(λ(l:Nat)=>(0:Nat)) j) d
 abbrev X_:=(↑(Proofs.YtniogjgfomaicaaGreat.Rv.verr (Ρ (Μ e))):Int)
 abbrev AM:=(↑(Proofs.YtniogjgfomaicaaGreat.Rv.vlen (Ρ (Μ e))):Int)
 def gg:=Jb (c+(AM e))/\∃(d:Nat),(↑d:Int)=(↑(Proofs.YtniogjgfomaicaaGreat.Rv.vval (Ρ (Μ e))):Int)/\d<18446744073709551616/\(qN k c f).1=ε i64 (jP d % 18446744073709551616)/\Wi b (Wi g ((qN k c f).2.1=c+(AM e)/\h=h/\(qN k c f).2.2=f/\True))
 abbrev gf:=Jb (c+10)/\b.2.1<=b.2.2/\(0<=c/\(c<=if c+10<(Jp b)then c+10 else(Jp b))/\(if c+10<(Jp b)then c+10 else(Jp b))<=(↑b.2.2:Int))/\∃d,size d=qqg (Fb) (Fa) (if c+10<(Jp b)then c+10 else(Jp b))- qqg (Fb) (Fa) c/\(∀i,AN e b i->qgm i (slA b.1 b.2.2 (qqg (Fb) (Fa) c) 1) (q18 d))/\d=d/\size d<1000000000000000000/\((!decide ((X_ d)=0))=η->∃(a:(Option Addr×Nat×Nat)×(Option Addr×Nat×Nat)×Int×Int×Int×Int),a.2.2.2.2.2=(X_ d)/\a.1.1=g.1/\a.1.2.1=g.2.1/\a.1.2.2=g.2.2/\a.2.1.1=b.1/\a.2.1.2.1=b.2.1/\a.2.1.2.2=b.2.2/\a.2.2.1=c/\a.2.2.2.1=f/\a.2.2.2.2.1=h/\True/\(qN e c h).1=0/\g.1=a.1.1/\g.2.1=a.1.2.1/\g.2.2=a.1.2.2/\b.1=a.2.1.1/\b.2.1=a.2.1.2.1/\b.2.2=a.2.1.2.2/\(qN e c h).2.1=a.2.2.1/\f=a.2.2.2.1/\((qN e c h).2.2=if a.2.2.2.2.1=0 then a.2.2.2.2.2 else a.2.2.2.2.1)/\True)/\((!decide ((X_ d)=0))=ζ->gg c d h g b f e)
 def ga:=((!decide (c=0))=η->ae f e c b g h)/\((!decide (c=0))=ζ->gf f e h g b c)
end
def zj3(x y:SV) (D:Ck) (n all e:Int):qk2 P (qf5 [(55,ZF),(94,CF),(95,PX)]) Tryz.f57 Kc (λ_=>{}) ⟨x,y,D,n,all,e⟩=(qD D n->(∃(p:Pub),AN D y p)->ga e D n x y all):=by kernel_rfl
def zpr:=λx y D n all e=>ς (zj3 x y D n all e) (by delta Jb AN Wi ae Jp Fb Fa X_ AM gg gf ga;exact rfl)
section
variable (b:(Option Addr×Nat×Nat)×(Option Addr×Nat×Nat)×Int×Int×Int×Int) (f:Ck) (g h:Int) (e i:SV) (j:Int) (a:zi) (d:zi×Int) (l:Prop) (k:Nat->Option Obj)
 abbrev Ff:=True/\e.2.1=size f/\qgn k e.1 e.2.1 e.2.2 (q18 f)
 def af:=a.2.1.2.1=size a.2.2.1/\qgn k a.2.1.1 a.2.1.2.1 a.2.1.2.2 (q18 a.2.2.1)
 abbrev yP:=qN a.2.2.1 a.2.2.2.1 a.2.2.2.2.2
 def AR:=b.2.2.2.2.2=g/\b.1.1=a.1.1/\b.1.2.1=a.1.2.1/\b.1.2.2=a.1.2.2/\b.2.1.1=a.2.1.1/\b.2.1.2.1=a.2.1.2.1/\b.2.1.2.2=a.2.1.2.2/\b.2.2.1=(yP a).2.1/\b.2.2.2.1=a.2.2.2.2.1/\b.2.2.2.2.1=(yP a).2.2/\True/\l
 abbrev Tr:= !decide ((if b.2.2.2.2.1=0 then b.2.2.2.2.2 else b.2.2.2.2.1)=0)
 abbrev gz:=(kO f g h).1=mkS []/\e.1=b.1.1/\e.2.1=b.1.2.1/\e.2.2=b.1.2.2/\i.1=b.2.1.1/\i.2.1=b.2.1.2.1/\i.2.2=b.2.1.2.2/\(kO f g h).2.1=b.2.2.1/\j=b.2.2.2.1/\((kO f g h).2.2=if b.2.2.2.2.1=0 then b.2.2.2.2.2 else b.2.2.2.2.1)/\True
 def gA:=d.1.2.1.2.1=size d.1.2.2.1/\qgn k d.1.2.1.1 d.1.2.1.2.1 d.1.2.1.2.2 (q18 d.1.2.2.1)
 abbrev L0:=zF d.1.2.2.1 d.1.2.2.2.1 d.1.2.2.2.2.2 d.2
 def AQ:=(qD d.1.2.2.1 d.1.2.2.2.1/\0<=d.2/\d.2<9223372036854775808)/\(∀c,Ff f e c->gA d c)/\(kO f g h).1=(L0 d).1/\i.1=d.1.1.1/\i.2.1=d.1.1.2.1/\i.2.2=d.1.1.2.2/\e.1=d.1.2.1.1/\e.2.1=d.1.2.1.2.1/\e.2.2=d.1.2.1.2.2/\(kO f g h).2.1=(L0 d).2.1/\j=d.1.2.2.2.2.1/\(kO f g h).2.2=(L0 d).2.2/\True
 abbrev Fe:=((Tr b)=η->gz b f g h e i j)/\((Tr b)=ζ->∃(c:zi×Int),c.2=(yP a).1/\c.1.1.1=b.1.1/\c.1.1.2.1=b.1.2.1/\c.1.1.2.2=b.1.2.2/\c.1.2.1.1=b.2.1.1/\c.1.2.1.2.1=b.2.1.2.1/\c.1.2.1.2.2=b.2.1.2.2/\c.1.2.2.2.1=b.2.2.1/\c.1.2.2.2.2.1=b.2.2.2.1/\(c.1.2.2.2.2.2=if b.2.2.2.2.1=0 then b.2.2.2.2.2 else b.2.2.2.2.1)/\AQ f g h i e j c)
 def gu:=(kO f g h).1=mkS []/\e.1=a.1.1/\e.2.1=a.1.2.1/\e.2.2=a.1.2.2/\i.1=a.2.1.1/\i.2.1=a.2.1.2.1/\i.2.2=a.2.1.2.2/\(kO f g h).2.1=(yP a).2.1/\j=a.2.2.2.2.1/\(kO f g h).2.2=(yP a).2.2/\True
 def gq:=((!decide ((yP a).2.2=0))=η->gu f g h e i j a)/\((!decide ((yP a).2.2=0))=ζ->∃(c:zi×Int),c.2=(yP a).1/\c.1.1.1=a.1.1/\c.1.1.2.1=a.1.2.1/\c.1.1.2.2=a.1.2.2/\c.1.2.1.1=a.2.1.1/\c.1.2.1.2.1=a.2.1.2.1/\c.1.2.1.2.2=a.2.1.2.2/\c.1.2.2.2.1=(yP a).2.1/\c.1.2.2.2.2.1=a.2.2.2.2.1/\c.1.2.2.2.2.2=(yP a).2.2/\AQ f g h i e j c)
 def gp:=Ji (5000<(yP a).1) (∃(c:(Option Addr×Nat×Nat)×(Option Addr×Nat×Nat)×Int×Int×Int×Int),AR c 3 a (Fe c f g h e i j a)) (gq f g h e i j a)
end
def zke(x y:SV) (D:Ck) (n all e:Int):qk2 P (qf5 [(55,ZF),(57,Kc),(61,Uv)]) Tryz.f58 Uw (λ_=>{}) ⟨x,y,D,n,all,e⟩=(qD D n->(∃(p:Pub),Ff D y p)->∃(s:zi),s.1.1=x.1/\s.1.2.1=x.2.1/\s.1.2.2=x.2.2/\s.2.1.1=y.1/\s.2.1.2.1=y.2.1/\s.2.1.2.2=y.2.2/\s.2.2.2.1=n/\s.2.2.2.2.1=all/\s.2.2.2.2.2=e/\qD s.2.2.1 s.2.2.2.1/\(∀(p:Pub),Ff D y p->af s p)/\Ji ((yP s).1<0) (∃(s_1:(Option Addr×Nat×Nat)×(Option Addr×Nat×Nat)×Int×Int×Int×Int),AR s_1 2 s (Ji (5000<(yP s).1) (∃(s_2:(Option Addr×Nat×Nat)×(Option Addr×Nat×Nat)×Int×Int×Int×Int),s_2.2.2.2.2.2=3/\s_2.1.1=s_1.1.1/\s_2.1.2.1=s_1.1.2.1/\s_2.1.2.2=s_1.1.2.2/\s_2.2.1.1=s_1.2.1.1/\s_2.2.1.2.1=s_1.2.1.2.1/\s_2.2.1.2.2=s_1.2.1.2.2/\s_2.2.2.1=s_1.2.2.1/\s_2.2.2.2.1=s_1.2.2.2.1/\(s_2.2.2.2.2.1=if s_1.2.2.2.2.1=0 then s_1.2.2.2.2.2 else s_1.2.2.2.2.1)/\True/\Fe s_2 D n e x y all s) (Fe s_1 D n e x y all s))) (gp D n e x y all s)):=by kernel_rfl
def zqv:=λx y D n all e=>ς (zke x y D n all e) (by delta Ji Jt Jf Ff af yP AR Tr gz gA L0 AQ Fe gu gq gp;exact rfl)
section
variable (a:zi) (b:Ck) (d e c:Int) (f g:SV) (h:Int) (j:Prop) (i:Nat->Option Obj)
 abbrev AW:=True/\f.2.1=size b/\qgn i f.1 f.2.1 f.2.2 (q18 b)
 def gC:=a.2.1.2.1=size a.2.2.1/\qgn i a.2.1.1 a.2.1.2.1 a.2.1.2.2 (q18 a.2.2.1)
 abbrev Z_:=qN a.2.2.1 a.2.2.2.1 a.2.2.2.2.2
 abbrev Fh:=(Z_ a).2.2=0
 def Fg:=f.1=a.1.1/\f.2.1=a.1.2.1/\f.2.2=a.1.2.2/\g.1=a.2.1.1/\g.2.1=a.2.1.2.1/\g.2.2=a.2.1.2.2/\(yD b d e c).2.1=(Z_ a).2.1/\h=a.2.2.2.2.1/\j
 def AU:=(yD b d e c).1=0/\Fg a b d e c f g h ((yD b d e c).2.2=2/\True)
 def gD:=(yD b d e c).1=(Z_ a).1/\Fg a b d e c f g h ((yD b d e c).2.2=(Z_ a).2.2/\True)
 def AS:=((!decide (Fh a))=η->(yD b d e c).1=0/\Fg a b d e c f g h ((yD b d e c).2.2=(Z_ a).2.2/\True))/\((!decide (Fh a))=ζ->gD a b d e c f g h)
 def gB:=Ji ((Z_ a).1<0) (AU a b d e c f g h) (Ji (c<=(Z_ a).1) (AU a b d e c f g h) (AS a b d e c f g h))
end
def zfd(x y:SV) (D:Ck) (n all e k:Int):qk2 P (qf5 [(57,Kc)]) Tryz.f60 Pq (λ_=>{}) ⟨⟨x,y,D,n,all,e⟩,k⟩=(qD D n/\0<=k/\k<9223372036854775808->(∃(p:Pub),AW D y p)->∃(s:zi),s.1.1=x.1/\s.1.2.1=x.2.1/\s.1.2.2=x.2.2/\s.2.1.1=y.1/\s.2.1.2.1=y.2.1/\s.2.1.2.2=y.2.2/\s.2.2.2.1=n/\s.2.2.2.2.1=all/\s.2.2.2.2.2=e/\qD s.2.2.1 s.2.2.2.1/\(∀(p:Pub),AW D y p->gC s p)/\Ji (Fh s) (gB s D n e k x y all) (AS s D n e k x y all)):=by kernel_rfl
def zii:=λx y D n all e k=>ς (zfd x y D n all e k) (by delta Ji Jt Jf AW gC Z_ Fh Fg AU gD AS gB;exact rfl)
section
variable (b:Nat) (a:zi×Int) (c:Ck) (e f g:Int) (d j:SV) (k:Int) (l:Prop) (i:Nat->Option Obj)
 abbrev Wj:=True/\d.2.1=size c/\qgn i d.1 d.2.1 d.2.2 (q18 c)
 def gH:=a.1.2.1.2.1=size a.1.2.2.1/\qgn i a.1.2.1.1 a.1.2.1.2.1 a.1.2.1.2.2 (q18 a.1.2.2.1)
 abbrev wx:=zF a.1.2.2.1 a.1.2.2.2.1 a.1.2.2.2.2.2 a.2
 abbrev Fj:=(↑(size (wx a).1):Int)
 abbrev Wk:=(↑(kc (drop b (Ρ (Μ (zF c e f g).1)))):Int)
 def AY:=a.1.1.1=a.1.1.1/\a.1.1.2.1=a.1.1.2.1/\a.1.1.2.2=a.1.1.2.2/\a.1.2.1.1=a.1.2.1.1/\a.1.2.1.2.1=a.1.2.1.2.1/\a.1.2.1.2.2=a.1.2.1.2.2/\(wx a).2.1=(wx a).2.1/\a.1.2.2.2.2.1=a.1.2.2.2.2.1/\(wx a).2.2=(wx a).2.2/\(∀h,Wj c d h->Wj c d h)/\b<=size (zF c e f g).1/\l
 abbrev Fi:=(↑(bat (wx a).1 (toNat ((↑b:Int)- 1))):Int)
 def gF:=(0:Int)<=8/\(0<=(↑b:Int)- 1/\(↑b:Int)- 1<(Fj a))/\(0<=(Fi b a)/\(Fi b a)<=18446744073709551615)/\Jb ((↑b:Int)- 1- 1)/\∃(h:Nat),(↑h:Int)- 1=(↑b:Int)- 1- 1/\(wx a).1=(wx a).1/\(Wk h c e f g)=qae qqd u64 (shP qqb u64 (Wk b c e f g) 8) (Fi b a)/\AY h a c e f g d (h<b/\True)
 def gG:=(↑(kc (Ρ (Μ (zF c e f g).1))):Int)=(Wk b c e f g)/\d.1=a.1.1.1/\d.2.1=a.1.1.2.1/\d.2.2=a.1.1.2.2/\j.1=a.1.2.1.1/\j.2.1=a.1.2.1.2.1/\j.2.2=a.1.2.1.2.2/\(zF c e f g).2.1=(wx a).2.1/\k=a.1.2.2.2.2.1/\(zF c e f g).2.2=(wx a).2.2/\True
 def gE:=Ji (0<=(↑b:Int)- 1) (gF b a c e f g d) (gG b a c e f g j d k)
end
def zpu(x y:SV) (D:Ck) (n all e k:Int):qk2 P (qf5 [(61,Uv)]) Tryz.f56 Ce (C1) ⟨⟨x,y,D,n,all,e⟩,k⟩=(qD D n/\0<=k/\k<=8->(∃(p:Pub),Wj D y p)->∃(s:zi×Int),s.2=k/\s.1.1.1=x.1/\s.1.1.2.1=x.2.1/\s.1.1.2.2=x.2.2/\s.1.2.1.1=y.1/\s.1.2.1.2.1=y.2.1/\s.1.2.1.2.2=y.2.2/\s.1.2.2.2.1=n/\s.1.2.2.2.2.1=all/\s.1.2.2.2.2.2=e/\(qD s.1.2.2.1 s.1.2.2.2.1/\0<=s.2/\s.2<9223372036854775808)/\(∀(p:Pub),Wj D y p->gH s p)/\Jb ((Fj s)- 1)/\(∃(s_1:Nat),(↑s_1:Int)- 1=(Fj s)- 1/\(wx s).1=(wx s).1/\(Wk s_1 D n e k)=0/\AY s_1 s D n e k y True)/\∀(s_1:Nat),s_1<=size (zF D n e k).1->gE s_1 s D n e k y x all):=by kernel_rfl
def zys:=λx y D n all e k=>ς (zpu x y D n all e k) (by delta Ji Jb Jt Jf Wj gH wx Fj Wk AY Fi gF gG gE;exact rfl)
section
open Go.Proofs.YtniogjgfomaicaaGreat.Rv
def j0n:q4p P 121 Cg:=by
 refine qA js (W:=λ_=>{}) Tryz.func121 λ(r:Nat)=>(j0m r).mpr ?_;intro h;have e1:qqf (r:Int) 2=(r:Int) % 2:=qqo (by omega);have e2:qq6 (r:Int) 2=((r / 2:Nat):Int):=by rw[Int.tdiv_eq_ediv_of_nonneg (by omega)];omega
 have w:ε .u64 ((r / 2:Nat):Int)=((r / 2:Nat):Int):=by rw[wrap_u64];omega
 simp only[decide_eq_true_eq,decide_eq_false_iff_not,e1,e2,w,and_true];unfold jP;refine⟨by decide,λA=>⟨by decide,?_⟩,λu=>⟨by decide,?_⟩⟩
 ·rw[zdw _ (by omega),if_neg (by omega)];omega
 ·rw[if_pos (by omega)];omega
def j0h:q4p P 94 CF:=
 qjv (Sen.enters_of Tryz.func94 (by kernel_rfl)) (by decide) (by decide) (λs=>[.string s]) (λs=> .tuple #[.int .u64 (vval s.data.toList:Nat), .int .i64 (vlen s.data.toList:Nat), .int .i64 (verr s.data.toList:Nat)]) (λs=>rfl) (λs=>rfl) (λs=>rfl) (λs=>rfl)
  (λs I=> .tup (.cons (.sv _) (.cons (.sv _) (.cons (.sv _) .nil))))
  λs w h=>(rvarint_any s w (by have:s.size<1000000000000000000:=h;unfold maxLen;omega)).mono λe u he=>by obtain⟨rfl,rfl⟩:=he;exact⟨rfl, .refl _ _⟩
def zp7:q4p P 95 PX:=by
 refine qA (qcl (qgj j0n qjq)) (W:=λ_=>{}) Tryz.func95 λ(r:Nat)=>(zp6 r).mpr ?_
 exactλh=>⟨r,rfl,h,rfl,trivial⟩
def z37:q4p P 55 ZF:=by refine qA js (W:=λ_=>{}) Tryz.func55 λ⟨(x:SV),(y:SV),(n:Int),(all:Int),(e:Int),(k:Int)⟩=>(zoq x y n all e k).mpr ?_;intro _;simp only[decide_eq_true_eq,decide_eq_false_iff_not,true_and,and_true,eq_self];exact⟨λh=>if_pos h,λh=>if_neg h⟩
def jjr{x:Addr} (h:x.spot=ι) (k:Nat):(x.add k).spot=none:=by
 unfold qqk;split
 ·exact h
 ·rfl
def ze1{p:Pub} {a:Option Addr} {c l:Nat} {vs us:List Value} (h:qgm p a vs) (H:l<=c) (hlen:vs.length<=c) (hu:∀(j:Nat) v,us[j]? =θ v->vs[l+j]? =θ v):qgm p (slA a c l 1) us:=by
  cases us with
  |nil=>exact .inl ⟨rfl,trivial⟩
  | cons u us=>
    have B:=hu 0 u rfl;rcases h with⟨rfl,_⟩|⟨x,rfl,hs,C⟩
    · simp at B
    · have A:c≠l:=λe=>by subst e;have:=(List.getElem?_eq_some_iff.mp B).1;omega
      refine .inr ⟨x.add (l*1),?_,jjr hs _,λj v G=> ?_⟩
      · unfold slA;rw[if_neg A];rfl
      · have:=C (l+j) v (hu j v G);rw[Addr.add_add,Nat.mul_one];exact this
def zvg(D:Ck) (i m:Nat) (h:m<=D.size):∀(j:Nat) v,(q18 (D.extract i m))[j]? =θ v->(q18 D)[i+j]? =θ v:=λj v u=>by
 unfold q18 at u⊢;rw[qqj,qqr]at u;change(List.map _ (Ψ (m- i) (List.drop i D.data.toList)))[j]? =θ v at u;rw[qqx,List.getElem?_take]at u;rw[qqx];split at u
 ·rw[List.getElem?_drop]at u;exact u
 ·simp at u
def toN(z:Int):(qqg (λa=>(λa=>(λn=>n) a) a) (λa=>(λa=>(λa=>0) a) a) z:Nat)=z.toNat:=by cases z<;>rfl
def Pg:q4p P 61 Uv:=by
 refine qA (qcl (qgj z37 qjq)) (W:=λ_=>{}) Tryz.func61 λ⟨⟨(x:SV),(y:SV),D,(n:Int),(all:Int),(e:Int)⟩,(k:Int)⟩=>(zqu x y D n all e k).mpr ?_;rintro⟨⟨B,J,T⟩,G,H⟩ ⟨p,_,u,O⟩;have U:=O.1;simp only[qB,u,toN];have bad:(e≠0\/(D.size:Int)- n<k)->zF D n e k=(mkS [],n,if e=0 then 2 else e):=λh=>by unfold zF;rw[if_pos h]
 refine⟨λhe=>⟨λ_=> ?_,λh=>absurd h he⟩,λhe=>⟨⟨by omega,by omega⟩,λh=>absurd he h,λ_=>⟨λA=> ?_,λC=> ?_⟩⟩⟩
 ·rw[bad (.inl he)];exact⟨⟨x,y,n,all,e,2⟩,rfl,rfl,rfl,rfl,rfl,u,rfl,rfl,rfl,rfl,rfl,rfl,rfl,rfl,rfl,u.symm,rfl,rfl,rfl,rfl⟩
 ·rw[bad (.inr A)];exact⟨⟨x,y,n,all,e,2⟩,rfl,rfl,rfl,rfl,rfl,u,rfl,rfl,rfl,rfl,rfl,rfl,rfl,rfl,rfl,u.symm,rfl,rfl,rfl,rfl⟩
 ·have ok:zF D n e k=(D.extract n.toNat (n+k).toNat,n+k,e):=by unfold zF;rw[if_neg (by omega)]
  rw[ok];refine⟨⟨by omega,by omega⟩,by omega,⟨B,by omega,by omega⟩,D.extract n.toNat (n+k).toNat,?_,λq hq=> ?_,⟨by omega,by omega⟩,rfl,rfl,rfl⟩
  ·rw[Δ];omega
  ·exact ze1 hq.2 (by omega) (by rw[q2t];omega) (zvg D _ _ (by omega))
variable {D:Ck}
def zdp{n:Int} (h:qD D n):(kr D n).size=(min (D.size:Int) (n+10)).toNat- n.toNat:=by obtain⟨u,A,B⟩:=h;unfold kr;rw[Δ];omega
def zpp{n e:Int} (h:qD D n):qD D (qN D n e).2.1/\n<=(qN D n e).2.1/\ -9223372036854775808<=(qN D n e).1/\(qN D n e).1<9223372036854775808/\(0<=e->0<=(qN D n e).2.2):=by
 have hs:=zdp h;obtain⟨B,C,A⟩:=h;obtain⟨v1,v2,v3,v4⟩:=HK (kr D n).data.toList;have G:(kr D n).data.toList.length=(kr D n).size:=rfl;have u:=Lw _ v1;unfold qN qD;split
 ·exact⟨⟨B,C,A⟩,qqs _,by show _<=(0:Int);decide,by show(0:Int)<_;decide,λh=>h⟩
 ·split
  ·exact⟨⟨by show 0<=n+_;omega,by show n+_<=_;omega,A⟩,by show n<=n+_;omega,u.1,u.2,λ_=>qqs _⟩
  ·exact⟨⟨B,C,A⟩,qqs _,by show _<=(0:Int);decide,by show(0:Int)<_;decide,λ_=>by show(0:Int)<=(verr _:Nat);omega⟩
def z40:q4p P 57 Kc:=by
 refine qA (qcl (qgj z37 (qgj j0h (qgj zp7 qjq)))) (W:=λ_=>{}) Tryz.func57 λ⟨(x:SV),(y:SV),D,(n:Int),(all:Int),(e:Int)⟩=>(zpr x y D n all e).mpr ?_;rintro hd ⟨p,_,h,G⟩;have hs:=zdp hd;obtain⟨A,C,J⟩:=hd;have O:=G.1;obtain⟨v1,v2,v3,v4⟩:=HK (kr D n).data.toList;have T:(kr D n).data.toList.length=(kr D n).size:=rfl;have u:=Lw _ v1;have H:=z9z _ u.1 u.2;have hm:(if n+10<(D.size:Int)then n+10 else(D.size:Int))=min (D.size:Int) (n+10):=by split<;>omega
 simp only[qB,h,toN,hm];refine⟨λhe=> ?_,λhe=>⟨⟨by omega,by omega⟩,by omega,⟨A,by omega,by omega⟩,kr D n,hs,λq hq=> ?_,by omega,λB=> ?_,λB=>⟨⟨by omega,by omega⟩,_,rfl,v1,?_⟩⟩⟩
 ·have:qN D n e=(0,n,e):=by unfold qN;rw[if_pos he]
  rw[this];exact⟨rfl,rfl,rfl⟩
 ·refine ze1 hq.2 (by omega) (by rw[q2t];omega) ?_;unfold kr;exact zvg D _ _ (by omega)
 ·have:qN D n e=(0,n,(verr (kr D n).data.toList:Int)):=by unfold qN;rw[if_neg (by omega),if_neg B]
  rw[this];exact⟨⟨x,y,n,all,e,_⟩,rfl,rfl,rfl,rfl,rfl,h,rfl,rfl,rfl,rfl,rfl,rfl,rfl,rfl,rfl,h.symm,rfl,rfl,rfl,(if_pos he).symm⟩
 ·have:qN D n e=(jP (vval (kr D n).data.toList),n+vlen (kr D n).data.toList,0):=by unfold qN;rw[if_neg (by omega),if_pos B]
  rw[this,H];exact⟨rfl,rfl,he.symm⟩
def zij:q4p P 60 Pq:=by
 refine qA (qcl (qgj z40 qjq)) (W:=λ_=>{}) Tryz.func60 λ⟨⟨(x:SV),(y:SV),D,(n:Int),(all:Int),(e:Int)⟩,(k:Int)⟩=>(zii x y D n all e k).mpr ?_;rintro⟨hd,A,B⟩ ⟨p,_,C,G⟩;refine⟨⟨x,y,D,n,all,e⟩,rfl,rfl,rfl,rfl,rfl,rfl,rfl,rfl,rfl,hd,λq hq=>hq.2,?_⟩;unfold yD;generalize qN D n e=L;obtain⟨m,H,e1⟩:=L;simp only[qB];unfold XY;refine⟨λhe=>⟨λhm=> ?_,λhm=>⟨λu=> ?_,λu=>⟨λh=>absurd he h,λ_=> ?_⟩⟩⟩,λhe=>⟨λ_=> ?_,λh=>absurd h he⟩⟩
 ·simp[he,hm]
 ·simp[he,u]
 ·rw[if_neg (show¬(e1=0/\(m<0\/k<=m))by omega),if_neg (show¬e1≠0 by omega)];exact⟨rfl,rfl⟩
 ·rw[if_neg (show¬(e1=0/\(m<0\/k<=m))by omega),if_pos he];exact⟨rfl,rfl⟩
def Ph:q4p P 58 Uw:=by
 refine qA (qcl (qgj z37 (qgj z40 (qgj Pg qjq)))) (W:=λ_=>{}) Tryz.func58 λ⟨(x:SV),(y:SV),D,(n:Int),(all:Int),(e:Int)⟩=>(zqv x y D n all e).mpr ?_;rintro hd ⟨p,_,C,G⟩;refine⟨⟨x,y,D,n,all,e⟩,rfl,rfl,rfl,rfl,rfl,rfl,rfl,rfl,rfl,hd,λq hq=>hq.2,?_⟩;obtain⟨f1,_,f3,f4,_⟩:=zpp (e:=e) hd;unfold kO;generalize qN D n e=L at*;obtain⟨m,B,e1⟩:=L;simp only[qB]at f1 f3 f4⊢;refine⟨λhm=>⟨⟨x,y,B,all,e1,2⟩,?_⟩,λhm=>⟨λA=>⟨⟨x,y,B,all,e1,3⟩,?_⟩,λA=>⟨λhe=> ?_,λhe=>⟨⟨⟨x,y,D,B,all,e1⟩,m⟩,?_⟩⟩⟩⟩
 ·simp only[true_and,eq_self,and_true];have hx:uI m e1=if e1=0 then 2 else e1:=by unfold uI;rw[if_pos hm]
  have u:(if e1=0 then(2:Int)else e1)≠0:=by split<;>omega
  refine⟨λh=>absurd h (by omega),λ_=>⟨λ_=> ?_,λh=>absurd h u⟩⟩;rw[hx,if_pos u];exact⟨rfl,rfl,rfl⟩
 ·simp only[true_and,eq_self,and_true];have hx:uI m e1=if e1=0 then 3 else e1:=by unfold uI;rw[if_neg hm,if_pos A]
  have u:(if e1=0 then(3:Int)else e1)≠0:=by split<;>omega
  refine⟨λ_=> ?_,λh=>absurd h u⟩;rw[hx,if_pos u];exact⟨rfl,rfl,rfl⟩
 ·have hx:uI m e1=e1:=by unfold uI;rw[if_neg he]
  rw[hx,if_pos he];exact⟨rfl,rfl,rfl⟩
 ·simp only[true_and,eq_self,and_true];have hx:uI m e1=0:=by unfold uI;rw[if_pos he,if_neg hm,if_neg A]
  rw[hx,if_neg (by decide),he];exact⟨⟨f1,by omega,by omega⟩,λq hq=>hq,rfl,rfl,rfl⟩
def zza(v b:Nat) (h:v*256+255<18446744073709551616) (u:b<256):qae .or .u64 (shP .shl .u64 (v:Int) 8) (b:Int)=((b+256*v:Nat):Int):=by
 have hs:shP .shl .u64 (v:Int) 8=((v*256:Nat):Int):=by show ε .u64 ((v:Int)*2 ^ min (8:Int).toNat 64)=_;rw[wrap_u64,show(2:Int) ^ min (8:Int).toNat 64=256 from rfl];omega
 rw[hs];show ε .u64 (φ 64 ((v*256:Nat):Int)|||φ 64 (b:Int)).toNat=_;rw[BitVec.toNat_or,ZA _ (by omega),ZA _ (by omega)];have:=qql (b:=b) (i:=8) (by omega) v;rw[show 2 ^ 8*v=v*256 by omega]at this;rw[←this,wrap_u64];omega
def Lr:∀l:List UInt8,kc l<256 ^ l.length
  | []=>by decide
  | c::l=>by have:=Lr l;have:=c.toNat_lt;rw[kc,Χ,qzb];omega
def j09{n e k:Int} (h:qD D n) (C:0<=k):((zF D n e k).1.size:Int)<=k:=by
 obtain⟨u,A,B⟩:=h;unfold zF;split
 ·show(((mkS []).size:Nat):Int)<=k;rw[show(mkS []).size=0 from rfl];omega
 ·show((D.extract n.toNat (n+k).toNat).size:Int)<=k;rw[Δ];omega
def zyo{s:Ck} {j:Nat} (h:j<s.size):kc (s.data.toList.drop j)=bat s j+256*kc (s.data.toList.drop (j+1)):=by have u:j<s.data.toList.length:=h;rw[Α u,kc,zv8 h];rfl
def zyt:q4p P 56 Ce:=by
 refine qA (qcl (qgj Pg qjq)) (W:=C1) Tryz.func56 λ⟨⟨(x:SV),(y:SV),D,(n:Int),(all:Int),(e:Int)⟩,(k:Int)⟩=>(zys x y D n all e k).mpr ?_;rintro⟨hd,h,G⟩ ⟨p,_,O,Y⟩;have U:=j09 (e:=e) hd h;refine⟨⟨⟨x,y,D,n,all,e⟩,k⟩,rfl,rfl,rfl,rfl,rfl,rfl,rfl,rfl,rfl,rfl,⟨hd,h,by show k<_;omega⟩,λq hq=>hq.2,?_⟩;generalize zF D n e k=T at*;obtain⟨s,Z,e1⟩:=T;simp only[decide_eq_true_eq,decide_eq_false_iff_not,true_and,and_true,eq_self,imp_self,implies_true]at U⊢;have hlen:s.data.toList.length=s.size:=rfl;refine⟨⟨by omega,by omega⟩,⟨s.size,rfl,?_,Ζ _⟩,λj V=>⟨λu=> ?_,λH=> ?_⟩⟩
 ·rw[←hlen,List.drop_length];rfl
 ·obtain⟨i,rfl⟩:∃i,j=i+1:=⟨j- 1,by omega⟩;have hi:i<s.size:=by omega
  have C:=uN s i;have J:(((i+1:Nat):Int)- 1).toNat=i:=by omega
  have X:=Lr (s.data.toList.drop (i+1));have B:(s.data.toList.drop (i+1)).length<=7:=by rw[Ω,hlen];omega
  have hp:256 ^ (s.data.toList.drop (i+1)).length<=256 ^ 7:=Nat.pow_le_pow_right (by decide) B;have A:(256:Nat) ^ 7=72057594037927936:=by decide
  rw[J];refine⟨by decide,⟨by omega,by omega⟩,⟨by omega,by omega⟩,⟨by omega,by omega⟩,i,by omega,?_,by omega,by omega⟩;rw[zyo hi,zza _ _ (by omega) C]
 ·obtain rfl:j=0:=by omega
  rfl
end
def Ql(σ:Type) (args:σ->List AV) (pre:σ->Prop) (mem:σ->PF) (r:σ->AV):Ct where
 σ:=σ
 args:=args
 h:=λ_=>[]
 m:=1
 pre:=pre
 mem:=mem
 r:=r
 h':=λ_=>[]
 m':=1
 g:=λ_=>ι
def qj(b:Int):List Value:=[.int .u8 b]
def Uu(b:Int):(qj b).length=1:=rfl
def Y3(x:SV) (L:List Int):PF:=⟨η,qc qj x L,λ_ _ h e=>ji h e⟩
def z8(L:List Int):Prop:=L.length<1000000/\∀b∈L,0<=b/\b<256
def qo(L:List Int) (n m:Int):Int:=if L.length<=n then 0 else qqf (L.getD n.toNat 0) m
def qh(L:List Int) (n:Int):Int:=if L.length<=n then n else n+1
def jf(x:SV) (n:Int):List (Nat×AO):=[(1, .cells 57 (θ 0) ζ [zI x, .sv (.int .i64 n)])]
def AD(h:T AO) (id:Nat):Option (SV×Int):=match h.get id with
  | some (.cells _ _ _ [a,i])=>match a with
    | .sv (.slice a n c)=>match gi i with
      |some (_,i)=>θ ((a,n,c),i)
      |none=>ι
    |_=>ι
  |_=>ι
def ja3(l:List AV) (h:T AO):Option (Sel (SV×List Int×Int×Int)):=match l with
  | [.ptr id _,m]=>match AD h id with
    | some (x,n)=>match gi m with
      |some (_,m)=>θ ⟨List Int,λL=>(x,L,n,m)⟩
      |none=>ι
    |none=>ι
  |_=>ι
def Q4:Ct where
 σ:=SV×List Int×Int×Int
 args:=λ⟨x,L,n,m⟩=>[.ptr 1 0, .sv (.int .i64 m)]
 h:=λ⟨x,L,n,m⟩=>jf x n
 m:=2
 pre:=λ⟨x,L,n,m⟩=>0<=n/\n<=L.length/\0<m/\m<1000000/\z8 L
 mem:=λ⟨x,L,n,m⟩=>Y3 x L
 sel:=θ ja3
 r:=λ⟨x,L,n,m⟩=> .sv (.int .i64 (qo L n m))
 h':=λ⟨x,L,n,m⟩=>jf x (qh L n)
 m':=2
 g:=λ_=>ι
def zzy(l:List AV) (h:T AO):Option (Sel (SV×List Int×Int)):=match l with
  | [.ptr id _]=>match AD h id with
    |some (x,n)=>θ ⟨List Int,λL=>(x,L,n)⟩
    |none=>ι
  |_=>ι
def UE:Ct where
 σ:=SV×List Int×Int
 args:=λ⟨x,L,n⟩=>[.ptr 1 0]
 h:=λ⟨x,L,n⟩=>jf x n
 m:=2
 pre:=λ⟨x,L,n⟩=>True
 mem:=λ⟨x,L,n⟩=>Y3 x L
 sel:=θ zzy
 r:=λ⟨x,L,n⟩=> .sv (.bool (decide ((L.length:Int)<=n)))
 h':=λ⟨x,L,n⟩=>jf x n
 m':=2
 g:=λ_=>ι
def Yq:Ct:={Ql Ck (λs=>[.sv (.string s)]) (λ_=>True) (λ_=>{}) (λs=> .agg [.int .i64 4, .int .i64 0, .sv (.string s), .nsl, .nsl])with find:=θ λl _=>match l with
 | [a]=>gs a
 |_=>ι}
inductive N3 where
 |two
 |three
 |four
def N3.v:N3->Nat
 | .two=>2
 | .three=>3
 | .four=>4
def Yk:Ct where
  σ:=N3
  args:=λn=>[.sl 1 0 n.v n.v, .sl 2 0 n.v n.v]
  h:=λ_=>[]
  m:=3
  find:=θ λl _=>match l with
    | [.sl _ _ n _,_]=>match n with
      |2=>θ .two
      |3=>θ .three
      |4=>θ .four
      |_=>ι
    |_=>ι
  r:=λn=> .agg [.int .i64 6, .int .i64 0, .str [], .sl 2 0 n.v n.v, .sl 1 0 n.v n.v]
  h':=λ_=>[]
  m':=3
  g:=λ_=>ι
mutual
def GJ.wf:GJ->Prop
 | .mk k n s y l x nm=>s.size<1000/\l.length<8/\nm.length<=l.length/\(∀t∈nm,t.size<1000)/\(-9223372036854775808<=n/\n<9223372036854775808)/\(k=6->nm.length=l.length)/\GJ.wfs l
def GJ.wfs:List GJ->Prop
 | []=>True
 |g::l=>GJ.wf g/\GJ.wfs l
end
def GJ.wf_eq(g:GJ):g.wf=(g.s.size<1000/\g.l.length<8/\g.nm.length<=g.l.length/\(∀t∈g.nm,t.size<1000)/\(-9223372036854775808<=g.n/\g.n<9223372036854775808)/\(g.k=6->g.nm.length=g.l.length)/\GJ.wfs g.l):=by cases g;rw[GJ.wf];rfl
def GJ.ok_eq(g:GJ) (p:Pub):g.ok p=(qc GJ.cells g.y g.l p/\qc qn g.x g.nm p/\GJ.oks g.l p):=by cases g;unfold GJ.ok;rfl
def GJ.wfs_at:∀{l:List GJ},GJ.wfs l->∀{i:Nat} (h:i<l.length),l[i].wf
 |v::l,e,0,h=>by unfold GJ.wfs at e;exact e.1
 |v::l,e,i+1,h=>by unfold GJ.wfs at e;exact GJ.wfs_at e.2 (by simpa using h)
def GJ.oks_at:∀{l:List GJ} {p:Pub},GJ.oks l p->∀{i:Nat} (h:i<l.length),l[i].ok p
 |v::l,p,e,0,h=>by unfold GJ.oks at e;exact e.1
 |v::l,p,e,i+1,h=>by unfold GJ.oks at e;exact GJ.oks_at e.2 (by simpa using h)
def gM(g:GJ):PF:=⟨η,g.ok,λ_ _ h e=>GJ.ok_mono h e⟩
def zJ:GJ:= .mk 0 0 (mkS []) (ι,0,0) [] (ι,0,0) []
def jA(s:Ck):List Ck->List GJ->Option GJ
 |t::nm,g::l=>if t=s then θ g else jA s nm l
 |_,_=>ι
def XZ:Ct:=Ql (GJ×Ck) (λ⟨g,s⟩=>[g.av, .sv (.string s)]) (λ⟨g,s⟩=>g.wf) (λ⟨g,s⟩=>gM g) λ⟨g,s⟩=> .tup [((jA s g.nm g.l).getD zJ).av, .sv (.bool (jA s g.nm g.l).isSome)]
def jmp:XZ.σ->WayF:=λ⟨g,s⟩=>{
 ann:=λ_ _ _=>θ {σ:=Nat,pre:=λj=>j<=g.nm.length/\jA s (g.nm.drop j) (g.l.drop j)=jA s g.nm g.l,t:=λj=>[(6, .sv (.int .i64 (j:Int)))],h:=λ_=>[],more:=0,μ:=λj=>g.nm.length- j,keep:=[1,2,4,5]}}
def isNum(s:Ck):Bool:=decide (s=mkS [105,110,116])||decide (s=mkS [108,111,110,103])||decide (s=mkS [102,108,111,97,116])||decide (s=mkS [100,111,117,98,108,101])
def ua(s:Ck):Bool:=decide (s=mkS [115,116,114,105,110,103])||decide (s=mkS [98,121,116,101,115])
def Kg(s:Ck):Bool:=decide (s=mkS [98,111,111,108,101,97,110])
def Ys(s:Ck):Bool:=decide (s=mkS [110,117,108,108])
def LG(i:Int):Ck:=if i=0 then mkS []else if i=1 then mkS [100]else mkS [195,164]
def zR(g:GJ) (L:List Int) (n:Int):Int×Int×Ck×Int:=
 if g.k=4/\isNum g.s=η then(3,qo L n 200- 50,mkS [],qh L n)else
 if g.k=4/\ua g.s=η then(4,0,LG (qo L n 3),qh L n)else
 if g.k=4/\Kg g.s=η then(2,qo L n 2,mkS [],qh L n)else
 if g.k=4/\Ys g.s=η then(1,0,mkS [],n)else
 if g.k=5 then(1,0,mkS [],n)else
 if((jA (mkS [116,121,112,101]) g.nm g.l).getD zJ).s=mkS [97,114,114,97,121]then(5,0,mkS [],n)else
 if((jA (mkS [116,121,112,101]) g.nm g.l).getD zJ).s=mkS [101,110,117,109]then(4,0,mkS [88],n)else(6,0,mkS [],n)
def ja2(l:List AV) (h:T AO):Option (Sel (SV×List Int×Int×GJ)):=match l with
  | [.ptr id _,_]=>match AD h id with
    |some (x,n)=>θ ⟨List Int×GJ,λL=>(x,L.1,n,L.2)⟩
    |none=>ι
  |_=>ι
def HC:Ct where
 σ:=SV×List Int×Int×GJ
 args:=λ⟨x,L,n,g⟩=>[.ptr 1 0,g.av]
 h:=λ⟨x,L,n,g⟩=>jf x n
 m:=2
 pre:=λ⟨x,L,n,g⟩=>0<=n/\n<=L.length/\z8 L/\g.wf
 mem:=λ⟨x,L,n,g⟩=>⟨η,λp=>qc qj x L p/\g.ok p,λ_ _ h e=>⟨ji h e.1,GJ.ok_mono h e.2⟩⟩
 sel:=θ ja2
 r:=λ⟨x,L,n,g⟩=> .agg [.sv (.int .i64 (zR g L n).1), .sv (.int .i64 (zR g L n).2.1), .sv (.string (zR g L n).2.2.1), .nsl, .nsl]
 h':=λ⟨x,L,n,g⟩=>jf x (zR g L n).2.2.2
 m':=2
 g:=λ_=>ι
def swS(f:Ck->Bool) (i k:Nat) (keep:List Nat) (t:T AV):Option LT:=match Hr t k with
 |some a=>θ {σ:=Unit,t:=λ_=>[(i, .sv (.bool (f a)))],h:=λ_=>[],more:=0,μ:=λ_=>0,keep:=keep}
 |none=>ι
def zeh:HC.σ->WayF:=λ⟨x,L,n,g⟩=>{
 cut:=λi t _=>match i with
  |7=>swS isNum 12 11 [0,3,4,11] t
  |10=>swS ua 21 11 [0,3,4,11] t
  |15=>θ {σ:=Unit,pre:=λ_=>¬(g.k=4/\(isNum g.s=η\/ua g.s=η\/Kg g.s=η\/Ys g.s=η)),t:=λ_=>[],h:=λ_=>[],more:=0,μ:=λ_=>0,keep:=[0,3,4]}
  |_=>ι}
def jF(S:List AT) (e:Int) (r k:Nat):List (Nat×AO):=[(1, .cells 90 (θ 0) ζ [.ssl r 0 S.length 10 k, .sv (.int .i64 e)]),(r, .row 55 0 (qa AT.cells S))]
def wF(h:T AO) (id:Nat):Option Int:=match h.get id with
  | some (.cells _ _ _ [_,e])=>match gi e with
    |some (_,e)=>θ e
    |none=>ι
  |_=>ι
def zzw(l:List AV) (h:T AO):Option (Sel (List AT×Int×Int)):=match l with
  | [.ptr id _,e]=>match wF h id with
    | some e0=>match gi e with
      |some (_,e)=>θ ⟨List AT,λS=>(S,e0,e)⟩
      |none=>ι
    |none=>ι
  |_=>ι
def qt(e0 e:Int):Int:=if e0=0 then e else e0
def wY:Ct where
 σ:=List AT×Int×Int
 args:=λ⟨S,e0,e⟩=>[.ptr 1 0, .sv (.int .i64 e)]
 h:=λ⟨S,e0,e⟩=>jF S e0 2 3
 m:=4
 sel:=θ zzw
 r:=λ⟨S,e0,e⟩=> .int .i64 0
 h':=λ⟨S,e0,e⟩=>jF S (qt e0 e) 2 3
 m':=4
 g:=λ_=>ι
def qE(S:List AT) (t:AT):List AT:=if 60<=S.length then S else S++[t]
def qK(S:List AT) (e:Int):Int:=if 60<=S.length then qt e 3 else e
def qw(S:List AT):Int:=if 60<=S.length then 0 else S.length
def Vh:Ct where
 σ:=List AT×Int×AT
 args:=λ⟨S,e,t⟩=>[.ptr 1 0,t.av]
 h:=λ⟨S,e,t⟩=>jF S e 2 3
 m:=4
 r:=λ⟨S,e,t⟩=> .sv (.int .i64 (qw S))
 h':=λ⟨S,e,t⟩=>jF (qE S t) (qK S e) 4 5
 m':=6
 g:=λ_=>ι
def kinds:List Ck:=[mkS [110,117,108,108],mkS [98,111,111,108,101,97,110],mkS [105,110,116],mkS [108,111,110,103],mkS [102,108,111,97,116],mkS [100,111,117,98,108,101],mkS [98,121,116,101,115],mkS [115,116,114,105,110,103],mkS [114,101,99,111,114,100],mkS [101,110,117,109],mkS [102,105,120,101,100],mkS [97,114,114,97,121],mkS [109,97,112],mkS [117,110,105,111,110]]
def Z6(s:Ck):List Ck->Nat->Int
 | [],_=>0
 |k::l,i=>if k=s then(i:Int)+1 else Z6 s l (i+1)
def qQ(s:Ck):Int:=Z6 s kinds 0
def UC:Ct:={Ql Ck (λs=>[.sv (.string s)]) (λ_=>True) (λ_=>{}) (λs=> .sv (.int .i64 (qQ s)))with find:=θ λl _=>match l with
 | [a]=>gs a
 |_=>ι}
def C0:UC.σ->WayF:=λs=>{
 ann:=λ_ _ _=>θ {σ:=Nat,pre:=λj=>j<=14/\Z6 s (kinds.drop j) j=qQ s,t:=λj=>[(4, .sv (.int .i64 (j:Int)))],h:=λ_=>[],more:=0,μ:=λj=>14- j,keep:=[0,2,3]}}
def ub(k:Int):Ck:=if k<1\/14<k then mkS []else kinds.getD (k.toNat- 1) (mkS [])
def Cf:Ct:=Ql Int (λk=>[.sv (.int .i64 k)]) (λ_=>True) (λ_=>{}) λk=> .sv (.string (ub k))
def findF(s:Ck):List AT->Nat->Option Nat
 | [],_=>ι
 |a::l,i=>if a.nm=s/\9<=a.k/\a.k<=11 then θ i else findF s l (i+1)
def wD(o:Option Nat):Int:=match o with
 |some i=>i
 |none=>0
def zzx(l:List AV) (h:T AO):Option (Sel (List AT×Int×Ck)):=match l with
  | [.ptr id _,a]=>match wF h id with
    | some e=>match gs a with
      |some s=>θ ⟨List AT,λS=>(S,e,s)⟩
      |none=>ι
    |none=>ι
  |_=>ι
def UB:Ct where
 σ:=List AT×Int×Ck
 args:=λ⟨S,e,s⟩=>[.ptr 1 0, .sv (.string s)]
 h:=λ⟨S,e,s⟩=>jF S e 2 3
 m:=4
 pre:=λ⟨S,e,s⟩=>S.length<1000
 sel:=θ zzx
 r:=λ⟨S,e,s⟩=> .tup [.sv (.int .i64 (wD (findF s S 0))), .sv (.bool (findF s S 0).isSome)]
 h':=λ⟨S,e,s⟩=>jF S e 2 3
 m':=4
 g:=λ_=>ι
def CY:UB.σ->WayF:=λ⟨S,e,s⟩=>{
 ann:=λ_ _ _=>θ {σ:=Nat,pre:=λj=>j<=S.length/\findF s (S.drop j) j=findF s S 0,t:=λj=>[(6, .sv (.int .i64 (j:Int)))],h:=λ_=>[],more:=0,μ:=λj=>S.length- j,keep:=[0,1,4,5]}}
def u9(S:List AT) (t:Int):Ck:=if t<0\/S.length<=t then mkS []else match S[t.toNat]? with
 |some a=>if a.nm=mkS []then ub a.k else a.nm
 |none=>mkS []
def Av:Ct where
 σ:=List AT×Int
 args:=λ⟨S,t⟩=>[.agg [.ssl 1 0 S.length 10 2], .sv (.int .i64 t)]
 h:=λ⟨S,t⟩=>[(1, .row 55 0 (qa AT.cells S))]
 m:=3
 pre:=λ⟨S,t⟩=>S.length<1000
 r:=λ⟨S,t⟩=> .sv (.string (u9 S t))
 h':=λ⟨S,t⟩=>[(1, .row 55 0 (qa AT.cells S))]
 m':=3
 g:=λ_=>ι
def vU(a b:Ck):Ck:=if a=mkS []\/b=mkS []then a++b else a++mkS [46]++b
def k03(l:List AV):Option (Ck×Ck):=match l with
  | [a,b]=>match gs a with
    | some a=>match gs b with
      |some b=>θ (a,b)
      |none=>ι
    |none=>ι
  |_=>ι
def LD:Ct:={Ql (Ck×Ck) (λ⟨a,b⟩=>[.sv (.string a), .sv (.string b)]) (λ⟨a,b⟩=>a.size<1000000/\b.size<1000000) (λ_=>{}) (λ⟨a,b⟩=> .sv (.string (vU a b)))with find:=θ λl _=>k03 l}
def isLt(c:Nat):Bool:=(c==95)|| (decide (65<=c)&&decide (c<=90))|| (decide (97<=c)&&decide (c<=122))
def K2(c:Nat):Bool:=decide (48<=c)&&decide (c<=57)
def Pt:Ct:=ctS Int (λc=>[.int .u8 c]) Y' (λc=>0<=c/\c<256) (λ_=>{}) λc=> .sv (.bool (isLt c.toNat))
def PS:Ct:=ctS Int (λc=>[.int .u8 c]) Y' (λc=>0<=c/\c<256) (λ_=>{}) λc=> .sv (.bool (K2 c.toNat))
def Vy(s:Ck) (i:Nat):Bool:=isLt (bat s i)|| (decide (0<i)&&K2 (bat s i))
def xu(s:Ck):Nat->Nat->Bool
 |0,_=>η
 |f+1,i=>if i<s.size then Vy s i&&xu s f (i+1)else η
def vV(s:Ck):Bool:=xu s s.size 0&&decide (0<s.size)
def Yp:Ct:={Ql Ck (λs=>[.sv (.string s)]) (λs=>s.size<1000000) (λ_=>{}) (λs=> .sv (.bool (vV s)))with find:=θ λl _=>match l with
 | [a]=>gs a
 |_=>ι}
def C3:Yp.σ->WayF:=λs=>{
 ann:=λ_ _ _=>θ {σ:=Nat,pre:=λj=>j<=s.size/\xu s (s.size- j) j=xu s s.size 0,t:=λj=>[(3, .sv (.int .i64 (j:Int)))],h:=λ_=>[],more:=0,μ:=λj=>s.size- j,keep:=[0,2]}}
def x_(s:Ck):Nat->Nat->Ck->Bool
 |0,_,_=>η
 |f+1,i,q=>if i<s.size/\bat s i≠46 then x_ s f (i+1) (q++s.extract i (i+1))else if vV q=η then x_ s f (i+1) (mkS [])else ζ
def ZJ(s:Ck):Bool:=x_ s (s.size+1) 0 (mkS [])
def Lc:Ct:={Ql Ck (λs=>[.sv (.string s)]) (λs=>s.size<100000) (λ_=>{}) (λs=> .sv (.bool (ZJ s)))with find:=θ λl _=>match l with
 | [a]=>gs a
 |_=>ι}
def zwh:Lc.σ->WayF:=λs=>{
 ann:=λ_ _ _=>θ {σ:=Nat×Ck,pre:=λ⟨j,q⟩=>j<=s.size+1/\q.size<=j/\x_ s (s.size+1- j) j q=ZJ s,t:=λ⟨j,q⟩=>[(3, .sv (.string q)),(4, .sv (.int .i64 (j:Int)))],h:=λ_=>[],more:=0,μ:=λ⟨j,q⟩=>s.size+1- j,keep:=[0,2]}}
def kF(s:Ck):Nat->Ck
 |0=>mkS []
 |i+1=>if bat s i=46 then s.extract 0 i else kF s i
def HP:Ct:={Ql Ck (λs=>[.sv (.string s)]) (λs=>s.size<1000000) (λ_=>{}) (λs=> .sv (.string (kF s s.size)))with find:=θ λl _=>match l with
 | [a]=>gs a
 |_=>ι}
def zkw:HP.σ->WayF:=λs=>{
 ann:=λ_ _ _=>θ {σ:=Nat,pre:=λj=>j<=s.size/\kF s j=kF s s.size,t:=λj=>[(3, .sv (.int .i64 ((j:Int)- 1)))],h:=λ_=>[],more:=0,μ:=λj=>j,keep:=[0,2]}}
def Z5(s:Ck):Nat->Nat->Bool
 |0,_=>ζ
 |f+1,i=>if i<s.size then decide (bat s i=46)||Z5 s f (i+1)else ζ
def j98(s:Ck):Bool:=Z5 s s.size 0
def vT(nm sp:Ck):Ck:=if j98 nm=η then nm else vU sp nm
def yF(nm sp:Ck) (e:Int):Int:=if nm=mkS []\/ZJ (vT nm sp)=ζ then qt e 6 else e
def zqo(l:List AV) (h:T AO):Option (Sel (List AT×Int×Ck×Ck)):=match l with
  | [.ptr id _,a,b]=>match wF h id with
    | some e=>match gs a with
      | some a=>match gs b with
        |some b=>θ ⟨List AT,λS=>(S,e,a,b)⟩
        |none=>ι
      |none=>ι
    |none=>ι
  |_=>ι
def HY:Ct where
 σ:=List AT×Int×Ck×Ck
 args:=λ⟨S,e,a,b⟩=>[.ptr 1 0, .sv (.string a), .sv (.string b)]
 h:=λ⟨S,e,a,b⟩=>jF S e 2 3
 m:=4
 pre:=λ⟨S,e,a,b⟩=>a.size<10000/\b.size<50000
 sel:=θ zqo
 r:=λ⟨S,e,a,b⟩=> .sv (.string (vT a b))
 h':=λ⟨S,e,a,b⟩=>jF S (yF a b e) 2 3
 m':=4
 g:=λ_=>ι
def zwo:HY.σ->WayF:=λ⟨S,e,a,b⟩=>{
 ann:=λ_ _ _=>θ {σ:=Nat×Ck,pre:=λ⟨j,q⟩=>j<=a.size/\((if Z5 a (a.size- j) j=η then a else q)=vT a b),t:=λ⟨j,q⟩=>[(7, .sv (.string q)),(8, .sv (.int .i64 (j:Int)))],h:=λ_=>[],more:=0,μ:=λ⟨j,q⟩=>a.size- j,keep:=[0,1,2,6]}}
def qm(s:Ck) (g:GJ):Option GJ:=if g.k=6 then jA s g.nm g.l else ι
def xS:Ct:=Ql (GJ×Ck) (λ⟨g,s⟩=>[g.av, .sv (.string s)]) (λ⟨g,s⟩=>g.wf) (λ⟨g,s⟩=>gM g) λ⟨g,s⟩=> .tup [((qm s g).getD zJ).av, .sv (.bool (qm s g).isSome)]
def CZ:xS.σ->WayF:=λ⟨g,s⟩=>{
 ann:=λ_ _ _=>θ {σ:=Nat,pre:=λj=>j<=g.nm.length/\(if g.k=6 then jA s (g.nm.drop j) (g.l.drop j)else ι)=qm s g,t:=λj=>[(6, .sv (.int .i64 (j:Int)))],h:=λ_=>[],more:=0,μ:=λj=>g.nm.length- j,keep:=[1,2,4,5]}}
def jW(g:GJ) (s:Ck) (h:Bool) (e:Int):Ck×Int:=match qm s g with
 |none=>if h=η then(mkS [],qt e 2)else(mkS [],e)
 |some t=>if t.k=4 then(t.s,e)else(mkS [],qt e 2)
def Ux:Ct where
 σ:=List AT×Int×GJ×Ck×Bool
 args:=λ⟨S,e,g,s,b⟩=>[.ptr 1 0,g.av, .sv (.string s), .sv (.bool b)]
 h:=λ⟨S,e,g,s,b⟩=>jF S e 2 3
 m:=4
 pre:=λ⟨S,e,g,s,b⟩=>g.wf
 mem:=λ⟨S,e,g,s,b⟩=>gM g
 r:=λ⟨S,e,g,s,b⟩=> .sv (.string (jW g s b e).1)
 h':=λ⟨S,e,g,s,b⟩=>jF S (jW g s b e).2 2 3
 m':=4
 g:=λ_=>ι
def zop(S:List AT) (e0 e:Int):qk2 P (λ_=>ι) Tryz.f63 wY (λ_=>{}) ⟨S,e0,e⟩=(True->(decide (e0=(0:Int))=η->Υ S=Υ S/\qt e0 e=e/\qa AT.cells S=qa AT.cells S/\True)/\(decide (e0=(0:Int))=ζ->Υ S=Υ S/\qt e0 e=e0/\qa AT.cells S=qa AT.cells S/\True)):=by kernel_rfl
def zx7(S:List AT) (e:Int) (t:AT):qk2 P (qf5 [(63,wY)]) Tryz.f69 Vh (λ_=>{}) ⟨S,e,t⟩=(True->(decide ((60:Int)<=(↑(length S):Int))=η->∃(b:List AT),(3:Int)=(3:Int)/\length b=length S/\e=e/\qa AT.cells b=qa AT.cells S/\True/\qw S=(0:Int)/\length (qE S t)=length b/\qK S e=qt e (3:Int)/\qa AT.cells (qE S t)=qa AT.cells b/\True)/\(decide ((60:Int)<=(↑(length S):Int))=ζ->length (qa AT.cells S)=length S*(10:Nat)/\(length S+nat_lit 1)*(160:Nat)<=(140737488355328:Nat)/\((-9223372036854775808:Int)<=(↑(length S+nat_lit 1):Int)- (1:Int)/\(↑(length S+nat_lit 1):Int)- (1:Int)<=(9223372036854775807:Int))/\qw S=(↑(length S+nat_lit 1):Int)- (1:Int)/\length (qE S t)=length S+nat_lit 1/\qK S e=e/\qa AT.cells (qE S t)=qa AT.cells S++[int i64 (AT.k t),string (AT.nm t),slice (ρ (AT.al t)) (ρ (ν (AT.al t))) (ν (ν (AT.al t))),int i64 (AT.it t),slice (ρ (AT.sy t)) (ρ (ν (AT.sy t))) (ν (ν (AT.sy t))),bool (AT.hd t),string (AT.df t),int i64 (AT.sz t),slice (ρ (AT.f t)) (ρ (ν (AT.f t))) (ν (ν (AT.f t))),slice (ρ (AT.br t)) (ρ (ν (AT.br t))) (ν (ν (AT.br t)))]/\True)):=by kernel_rfl
section
variable (a:Ck) (b:Nat)
 abbrev Fk:=b<=14/\Z6 a (drop b kinds) b=qQ a
 abbrev AZ:=Jb ((↑b:Int)+1)
 def gN:=AZ b/\qQ a=(↑b:Int)+1/\True
 def gL:=AZ b/\∃(c:Nat),a=a/\(↑c:Int)=(↑b:Int)+1/\(Fk a c)/\(14:Nat)- c<14- b/\True
 def gK:=(0<=(↑b:Int)/\(↑b:Int)<(↑(nat_lit 14):Int))/\∃c,qga [string (mkS [110,117,108,108]),string (mkS [98,111,111,108,101,97,110]),string (mkS [105,110,116]),string (mkS [108,111,110,103]),string (mkS [102,108,111,97,116]),string (mkS [100,111,117,98,108,101]),string (mkS [98,121,116,101,115]),string (mkS [115,116,114,105,110,103]),string (mkS [114,101,99,111,114,100]),string (mkS [101,110,117,109]),string (mkS [102,105,120,101,100]),string (mkS [97,114,114,97,121]),string (mkS [109,97,112]),string (mkS [117,110,105,111,110])] (nat_lit 0+toNat (↑b:Int)*1) [string c]/\Ji (c=a) (gN a b) (gL a b)
 def gJ:=Ji ((↑b:Int)<Int.ofNat (nat_lit 14)) (gK a b) (qQ a=0/\True)
 def gI:=(∃(c:Nat),a=a/\(↑c:Int)=0/\(Fk a c)/\True)/\∀(d:Nat),Fk a d->gJ a d
end
def zpi(s:Ck):qk2 P (λ_=>ι) Tryz.f68 UC (C0) s=(True->gI s):=by kernel_rfl
def zyj:=λs=>ς (zpi s) (by delta Ji Jb Jt Jf Fk AZ gN gL gK gJ gI;exact rfl)
section
variable (a:Int)
 abbrev gQ:=(0<=a/\a<(↑(nat_lit 15):Int))/\∃b,qga [string (mkS []),string (mkS [110,117,108,108]),string (mkS [98,111,111,108,101,97,110]),string (mkS [105,110,116]),string (mkS [108,111,110,103]),string (mkS [102,108,111,97,116]),string (mkS [100,111,117,98,108,101]),string (mkS [98,121,116,101,115]),string (mkS [115,116,114,105,110,103]),string (mkS [114,101,99,111,114,100]),string (mkS [101,110,117,109]),string (mkS [102,105,120,101,100]),string (mkS [97,114,114,97,121]),string (mkS [109,97,112]),string (mkS [117,110,105,111,110])] (nat_lit 0+toNat a*1) [string b]/\ub a=b/\True
 def gP:=Ji (14<a) (ub a=mkS []/\True) (gQ a)
 def gO:=Ji (a<1) (ub a=mkS []/\True) (gP a)
end
def zld(k:Int):qk2 P (λ_=>ι) Tryz.f122 Cf (λ_=>{}) k=(True->gO k):=by kernel_rfl
def zrf:=λk=>ς (zld k) (by delta Ji Jt Jf gQ gP gO;exact rfl)
section
variable (b:Ck) (a:List AT) (d:Int) (c:Nat) (g:Int) (v:Prop)
 abbrev Wl:=length a=length a/\d=d/\qa AT.cells a=qa AT.cells a/\v
 def Fm:=c<=length a/\findF b (drop c a) c=findF b a 0
 def Fl:=Jb ((↑c:Int)+1)/\∃(e:Nat),b=b/\(↑e:Int)=(↑c:Int)+1/\Wl a d ((Fm b a e)/\length a- e<length a- c/\True)
 def gV:=Ji (d<=11) (wD (findF b a 0)=(↑c:Int)/\π (findF b a 0)=η/\Wl a g True) (Fl b a g c)
 def gU:=Ji (9<=d) (gV b a d c g) (Fl b a g c)
 def gT:=(0<=(↑c:Int)/\(↑c:Int)<(↑(length a):Int))/\∃(e:Int),∃f,∃o,∃(p:Nat),∃(q:Nat),∃(r:Int),∃s,∃(t:Nat),∃(i8:Nat),∃(u:Bool),∃h,∃(i:Int),∃j,∃(k:Nat),∃(l:Nat),∃m,∃(i16:Nat),∃(n:Nat),qga (qa AT.cells a) (nat_lit 0+toNat (↑c:Int)*nat_lit 10) [int i64 e,string f,slice o p q,int i64 r,slice s t i8,bool u,string h,int i64 i,slice j k l,slice m i16 n]/\Ji (f=b) (gU b a e c d) (Fl b a d c)
 def gW:=wD (findF b a 0)=0/\π (findF b a 0)=ζ/\Wl a d True
 def gS:=Ji ((↑c:Int)<(↑(length a):Int)) (gT b a d c) (gW b a d)
 def gR:=(∃(e:Nat),b=b/\(↑e:Int)=0/\Wl a d ((Fm b a e)/\True))/\∀(f:Nat),Fm b a f->gS b a d f
end
def zi5(S:List AT) (e:Int) (s:Ck):qk2 P (λ_=>ι) Tryz.f97 UB (CY) ⟨S,e,s⟩=(length S<1000->gR s S e):=by kernel_rfl
def zos:=λS e s=>ς (zi5 S e s) (by delta Ji Jb Jt Jf Wl Fm Fl gV gU gT gW gS gR;exact rfl)
def jaf(S:List AT) (t:Int):qk2 P (qf5 [(122,Cf)]) Tryz.f99 Av (λ_=>{}) ⟨S,t⟩=(length S<(1000:Nat)->(decide (t<(0:Int))=η->u9 S t=mkS []/\qa AT.cells S=qa AT.cells S/\True)/\(decide (t<(0:Int))=ζ->(decide ((↑(length S):Int)<=t)=η->u9 S t=mkS []/\qa AT.cells S=qa AT.cells S/\True)/\(decide ((↑(length S):Int)<=t)=ζ->((0:Int)<=t/\t<(↑(length S):Int))/\∃(s:Ck),qga (qa AT.cells S) (nat_lit 0+toNat t*nat_lit 10+(1:Nat)) [string s]/\((!decide (s=mkS []))=η->((0:Int)<=t/\t<(↑(length S):Int))/\∃(s:Ck),qga (qa AT.cells S) (nat_lit 0+toNat t*nat_lit 10+(1:Nat)) [string s]/\u9 S t=s/\qa AT.cells S=qa AT.cells S/\True)/\((!decide (s=mkS []))=ζ->((0:Int)<=t/\t<(↑(length S):Int))/\∃(n:Int),qga (qa AT.cells S) (nat_lit 0+toNat t*nat_lit 10+(0:Nat)) [int i64 n]/\∃(s:Int),s=n/\True/\u9 S t=ub s/\qa AT.cells S=qa AT.cells S/\True)))):=by kernel_rfl
def join_eq(a b:Ck):qk2 P (λ_=>ι) Tryz.f98 LD (λ_=>{}) ⟨a,b⟩=(size a<(1000000:Nat)/\size b<(1000000:Nat)->(decide (a=mkS [])=η->size a+size b<=(9223372036854775807:Nat)/\vU a b=a++b/\True)/\(decide (a=mkS [])=ζ->(decide (b=mkS [])=η->size a+size b<=(9223372036854775807:Nat)/\vU a b=a++b/\True)/\(decide (b=mkS [])=ζ->size a+size (mkS [(46:Nat)])<=(9223372036854775807:Nat)/\size (a++mkS [(46:Nat)])+size b<=(9223372036854775807:Nat)/\vU a b=a++mkS [(46:Nat)]++b/\True))):=by kernel_rfl
def zj0(c:Int):qk2 P (λ_=>ι) Tryz.f134 Pt (λ_=>{}) c=((0:Int)<=c/\c<(256:Int)->(decide ((97:Int)<=c)=η->(decide (c<=(122:Int))=η->isLt (toNat c)=η/\True)/\(decide (c<=(122:Int))=ζ->(decide ((65:Int)<=c)=η->(decide (c<=(90:Int))=η->isLt (toNat c)=η/\True)/\(decide (c<=(90:Int))=ζ->isLt (toNat c)=decide (c=(95:Int))/\True))/\(decide ((65:Int)<=c)=ζ->isLt (toNat c)=decide (c=(95:Int))/\True)))/\(decide ((97:Int)<=c)=ζ->(decide ((65:Int)<=c)=η->(decide (c<=(90:Int))=η->isLt (toNat c)=η/\True)/\(decide (c<=(90:Int))=ζ->isLt (toNat c)=decide (c=(95:Int))/\True))/\(decide ((65:Int)<=c)=ζ->isLt (toNat c)=decide (c=(95:Int))/\True))):=by kernel_rfl
def zol(c:Int):qk2 P (λ_=>ι) Tryz.f135 PS (λ_=>{}) c=((0:Int)<=c/\c<(256:Int)->(decide ((48:Int)<=c)=η->K2 (qqq c)=decide (c<=(57:Int))/\True)/\(decide ((48:Int)<=c)=ζ->K2 (qqq c)=ζ/\True)):=by kernel_rfl
section
variable (a:Ck) (b:Nat) (e:Prop)
 abbrev Fo:=b<=size a/\xu a (size a- b) b=xu a (size a) 0
 abbrev Q_:=(↑(bat a (toNat (↑b:Int))):Int)
 def A7:=(0<=(↑b:Int)/\(↑b:Int)<(↑(size a):Int))/\(Q_ a b)=(Q_ a b)/\(0<=(Q_ a b)/\(Q_ a b)<256)/\e
 def A6:=Jb ((↑b:Int)+1)/\∃(c:Nat),a=a/\(↑c:Int)=(↑b:Int)+1/\(Fo a c)/\size a- c<size a- b/\True
 def hZ:=A7 a b (((!K2 (toNat (Q_ a b)))=η->vV a=ζ/\True)/\((!K2 (toNat (Q_ a b)))=ζ->A6 a b))
 def hY:=Ji ((↑b:Int)=0) (vV a=ζ/\True) (hZ a b)
 def g_:=A7 a b (((!isLt (toNat (Q_ a b)))=η->hY a b)/\((!isLt (toNat (Q_ a b)))=ζ->A6 a b))
 def gZ:=Ji ((↑b:Int)<(↑(size a):Int)) (g_ a b) (vV a=decide (0<(↑(size a):Int))/\True)
 def gY:=(∃(c:Nat),a=a/\(↑c:Int)=0/\(Fo a c)/\True)/\∀(d:Nat),Fo a d->gZ a d
end
def zq6(s:Ck):qk2 P (qf5 [(134,Pt),(135,PS)]) Tryz.f124 Yp (C3) s=(size s<1000000->gY s):=by kernel_rfl
def zzd:=λs=>ς (zq6 s) (by delta Ji Jb Jt Jf Fo Q_ A7 A6 hZ hY g_ gZ gY;exact rfl)
section
variable (b:Ck) (a e:Nat×Ck)
 abbrev Fp:=a.1<=size b+1/\size a.2<=a.1/\x_ b (size b+1- a.1) a.1 a.2=ZJ b
 abbrev Fq:=Jb ((↑a.1:Int)+1)
 def A9:=(↑a.1:Int)=(↑e.1:Int)+1/\(Fp b a)/\size b+1- a.1<size b+1- e.1/\True
 def ig:=Fq a/\(0<=(↑a.1:Int)/\(↑a.1:Int)<=(↑a.1:Int)+1/\(↑a.1:Int)+1<=(↑(size b):Int))/\size a.2+size (ξ b (toNat (↑a.1:Int)) (toNat ((↑a.1:Int)+1)))<=9223372036854775807/\Fq a/\∃(c:Nat×Ck),b=b/\c.2=a.2++ξ b (toNat (↑a.1:Int)) (toNat ((↑a.1:Int)+1))/\A9 b c a
 def ij:=Fq a/\∃(c:Nat×Ck),b=b/\c.2=mkS []/\A9 b c a
 def A8:=a.2=a.2/\size a.2<1000000/\((!vV a.2)=η->ZJ b=ζ/\True)/\((!vV a.2)=ζ->ij b a)
 def ie:=(0<=(↑a.1:Int)/\(↑a.1:Int)<(↑(size b):Int))/\((!decide ((↑(bat b (toNat (↑a.1:Int))):Int)=46))=η->ig b a)/\((!decide ((↑(bat b (toNat (↑a.1:Int))):Int)=46))=ζ->A8 b a)
 def ib:=Ji ((↑a.1:Int)<(↑(size b):Int)) (ie b a) (A8 b a)
 def ia:=Ji ((↑a.1:Int)<=(↑(size b):Int)) (ib b a) (ZJ b=η/\True)
 def h_:=(∃(c:Nat×Ck),b=b/\c.2=mkS []/\(↑c.1:Int)=0/\(Fp b c)/\True)/\∀(d:Nat×Ck),Fp b d->ia b d
end
def zjf(s:Ck):qk2 P (qf5 [(124,Yp)]) Tryz.f123 Lc (zwh) s=(size s<100000->h_ s):=by kernel_rfl
def parts_eq:=λs=>ς (zjf s) (by delta Ji Jb Jt Jf Fp Fq A9 ig ij A8 ie ib ia h_;exact rfl)
section
variable (a:Ck) (b:Nat)
 abbrev Fs:=b<=size a/\kF a b=kF a (size a)
 abbrev Ft:=0<=(↑b:Int)- 1
 def ir:=(Ft b/\(↑b:Int)- 1<=(↑(size a):Int))/\kF a (size a)=ξ a 0 (toNat ((↑b:Int)- 1))/\True
 def iq:=Jb ((↑b:Int)- 1- 1)/\∃(c:Nat),a=a/\(↑c:Int)- 1=(↑b:Int)- 1- 1/\(Fs a c)/\c<b/\True
 def im:=(Ft b/\(↑b:Int)- 1<(↑(size a):Int))/\Ji ((↑(bat a (toNat ((↑b:Int)- 1))):Int)=46) (ir a b) (iq a b)
 def il:=Ji (Ft b) (im a b) (kF a (size a)=mkS []/\True)
 def ik:=Jb ((↑(size a):Int)- 1)/\(∃(c:Nat),a=a/\(↑c:Int)- 1=(↑(size a):Int)- 1/\(Fs a c)/\True)/\∀(d:Nat),Fs a d->il a d
end
def zes(s:Ck):qk2 P (λ_=>ι) Tryz.f102 HP (zkw) s=(size s<1000000->ik s):=by kernel_rfl
def zhb:=λs=>ς (zes s) (by delta Ji Jb Jt Jf Fs Ft ir iq im il ik;exact rfl)
section
variable (a c:Ck) (d:List AT) (e:Int) (b:Nat×Ck) (i:Prop) (h:Nat×Ck)
 abbrev Sa:=b.1<=size a/\(if Z5 a (size a- b.1) b.1=η then a else b.2)=vT a c
 def A':=length d=length d/\e=e/\qa AT.cells d=qa AT.cells d/\(Sa a c b)/\i
 abbrev Ts:=Jb ((↑b.1:Int)+1)
 def Tu:=a=a/\(↑b.1:Int)=(↑h.1:Int)+1/\A' c a d e b (size c- b.1<size c- h.1/\True)
 def iA:=Ts b/\∃(f:Nat×Ck),a=a/\f.2=a/\Tu c a d e f b
 def iz:=Ts b/\∃(f:Nat×Ck),a=a/\f.2=b.2/\Tu c a d e f b
 def iw:=(0<=(↑b.1:Int)/\(↑b.1:Int)<(↑(size a):Int))/\Ji ((↑(bat a (toNat (↑b.1:Int))):Int)=46) (iA a c d e b) (iz a c d e b)
 def A_:=∃(f:List AT),(6:Int)=6/\length f=length d/\e=e/\qa AT.cells f=qa AT.cells d/\True/\vT a c=b.2/\length d=length f/\yF a c e=qt e 6/\qa AT.cells d=qa AT.cells f/\True
 def iB:=b.2=b.2/\size b.2<100000/\((!ZJ b.2)=η->A_ a c d e b)/\((!ZJ b.2)=ζ->vT a c=b.2/\length d=length d/\yF a c e=e/\qa AT.cells d=qa AT.cells d/\True)
 def iy:=Ji (a=mkS []) (A_ a c d e b) (iB a c d e b)
 def iv:=Ji ((↑b.1:Int)<(↑(size a):Int)) (iw a c d e b) (iy a c d e b)
 def iu:=a=a/\c=c/\(size a<1000000/\size c<1000000)/\(∃(f:Nat×Ck),c=c/\f.2=vU a c/\a=a/\(↑f.1:Int)=0/\A' c a d e f True)/\∀(g:Nat×Ck),Sa c a g->iv c a d e g
end
def zg2(S:List AT) (e:Int) (a b:Ck):qk2 P (qf5 [(98,LD),(123,Lc),(63,wY)]) Tryz.f101 HY (zwo) ⟨S,e,a,b⟩=(size a<10000/\size b<50000->iu b a S e):=by kernel_rfl
def zlb:=λS e a b=>ς (zg2 S e a b) (by delta Ji Jb Jt Jf Sa A' Ts Tu iA iz iw A_ iB iy iv iu;exact rfl)
section
variable (b:Ck) (a:GJ) (c:Nat) (p:Prop)
 abbrev Sc:=c<=length (GJ.nm a)/\(if GJ.k a=6 then jA b (drop c (GJ.nm a)) (drop c (GJ.l a))else ι)=qm b a
 def Sb:=GJ.k a=GJ.k a/\GJ.n a=GJ.n a/\GJ.s a=GJ.s a/\(GJ.y a).1=(GJ.y a).1/\(GJ.y a).2.1=(GJ.y a).2.1/\(GJ.y a).2.2=(GJ.y a).2.2/\(GJ.x a).1=(GJ.x a).1/\(GJ.x a).2.1=(GJ.x a).2.1/\(GJ.x a).2.2=(GJ.x a).2.2/\(∀d,True/\GJ.ok a d->True/\GJ.ok a d)/\(Sc b a c)/\p
 abbrev Tv:=(↑c:Int)<(↑(GJ.x a).2.1:Int)
 abbrev Tw:=(↑c:Int)<(↑(GJ.y a).2.1:Int)
 abbrev Kk:=GJ.y (υ (qm b a) zJ)
 abbrev Kl:=GJ.x (υ (qm b a) zJ)
 def iI:=(0<=(↑c:Int)/\Tw a c)/\(GJ.y a).1≠noA/\∃(d:Int),∃(e:Int),∃f,∃g,∃(h:Nat),∃(i:Nat),∃j,∃(m:Nat),∃(i8:Nat),(∀o,True/\GJ.ok a o->q37 o (adr (GJ.y a).1 (toNat (↑c:Int)*5)) [int i64 d,int i64 e,string f,slice g h i,slice j m i8])/\GJ.k (υ (qm b a) zJ)=d/\GJ.n (υ (qm b a) zJ)=e/\GJ.s (υ (qm b a) zJ)=f/\(Kk b a).1=g/\(Kk b a).2.1=h/\(Kk b a).2.2=i/\(Kl b a).1=j/\(Kl b a).2.1=m/\(Kl b a).2.2=i8/\π (qm b a)=η/\True
 def iJ:=Jb ((↑c:Int)+1)/\∃(d:Nat),b=b/\(↑d:Int)=(↑c:Int)+1/\Sb b a d (length (GJ.nm a)- d<length (GJ.nm a)- c/\True)
 def iH:=(0<=(↑c:Int)/\Tv a c)/\(GJ.x a).1≠noA/\∃d,(∀e,True/\GJ.ok a e->q37 e (adr (GJ.x a).1 (toNat (↑c:Int)*1)) [string d])/\Ji (d=b) (iI b a c) (iJ b a c)
 def Fu:=GJ.k (υ (qm b a) zJ)=0/\GJ.n (υ (qm b a) zJ)=0/\GJ.s (υ (qm b a) zJ)=mkS []/\(Kk b a).1=noA/\(Kk b a).2.1=0/\(Kk b a).2.2=0/\(Kl b a).1=noA/\(Kl b a).2.1=0/\(Kl b a).2.2=0/\π (qm b a)=ζ/\True
 abbrev iG:=Ji (Tw a c) (iH b a c) (Fu b a)
 abbrev iE:=Ji (Tv a c) (iG b a c) (Fu b a)
 def iD:=Ji (GJ.k a=6) (iE b a c) (Fu b a)
 def iC:=(∃(d:Nat),b=b/\(↑d:Int)=0/\Sb b a d True)/\∀(f:Nat),Sc b a f->iD b a f
end
def zp9(g:GJ) (s:Ck):qk2 P (λ_=>ι) Tryz.f66 xS (CZ) ⟨g,s⟩=(GJ.wf g->(∃(p:Pub),True/\GJ.ok g p)->iC s g):=by kernel_rfl
def zy4:=λg s=>ς (zp9 g s) (by delta Ji Jb Jt Jf Sc Sb Tv Tw Kk Kl iI iJ iH Fu iG iE iD iC;exact rfl)
section
variable (d:GJ×Ck) (a:List AT) (b:Int) (e:GJ) (f:Ck) (c:Bool)
 def iN:=(jW e f c b).1=mkS []/\length a=length a/\(jW e f c b).2=b/\qa AT.cells a=qa AT.cells a/\True
 def Se:=∃(g:List AT),(2:Int)=2/\length g=length a/\b=b/\qa AT.cells g=qa AT.cells a/\True/\(jW e f c b).1=mkS []/\length a=length g/\(jW e f c b).2=qt b 2/\qa AT.cells a=qa AT.cells g/\True
 def iM:=(jW e f c b).1=GJ.s (υ (qm d.2 d.1) zJ)/\length a=length a/\(jW e f c b).2=b/\qa AT.cells a=qa AT.cells a/\True
 def iK:=((!decide (GJ.k (υ (qm d.2 d.1) zJ)=4))=η->Se a b e f c)/\((!decide (GJ.k (υ (qm d.2 d.1) zJ)=4))=ζ->iM d a b e f c)
 def Sd:=((!Option.isSome (qm d.2 d.1))=η->Se a b e f c)/\((!Option.isSome (qm d.2 d.1))=ζ->iK d a b e f c)
 def iL:=((!c)=η->iN a b e f c)/\((!c)=ζ->Sd d a b e f c)
end
def zle(S:List AT) (e:Int) (g:GJ) (s:Ck) (b:Bool):qk2 P (qf5 [(66,xS),(63,wY)]) Tryz.f100 Ux (λ_=>{}) ⟨S,e,g,s,b⟩=(GJ.wf g->(∃(p:Pub),True/\GJ.ok g p)->∃(s_1:GJ×Ck),GJ.k s_1.1=GJ.k g/\GJ.n s_1.1=GJ.n g/\GJ.s s_1.1=GJ.s g/\(GJ.y s_1.1).1=(GJ.y g).1/\(GJ.y s_1.1).2.1=(GJ.y g).2.1/\(GJ.y s_1.1).2.2=(GJ.y g).2.2/\(GJ.x s_1.1).1=(GJ.x g).1/\(GJ.x s_1.1).2.1=(GJ.x g).2.1/\(GJ.x s_1.1).2.2=(GJ.x g).2.2/\s_1.2=s/\GJ.wf s_1.1/\(∀(p:Pub),True/\GJ.ok g p->GJ.ok s_1.1 p)/\((!Option.isSome (qm s_1.2 s_1.1))=η->iL s_1 S e g s b)/\((!Option.isSome (qm s_1.2 s_1.1))=ζ->Sd s_1 S e g s b)):=by kernel_rfl
def zrh:=λS e g s b=>ς (zle S e g s b) (by delta iN Se iM iK Sd iL;exact rfl)
section
variable (a:SV) (b:Int) (c:List Int) (d:Int) (g:Prop)
 abbrev Sf:=a.1=a.1/\a.2.1=a.2.1/\a.2.2=a.2.2/\g
 def iQ:=qo c b d=0/\Sf a (qh c b=b/\True)
 def iP:=Jb (b+1)/\Jb (b+1- 1)/\(0<=b+1- 1/\b+1- 1<(↑a.2.1:Int))/\a.1≠noA/\∃(e:Int),(∀f,True/\qc qj a c f->q37 f (adr a.1 (toNat (b+1- 1)*1)) [int u8 e])/\Jb (e)/\d≠0/\qo c b d=qqf e d/\Sf a (qh c b=b+1/\True)
 def iO:=Ji ((↑a.2.1:Int)<=b) (iQ a b c d) (iP a b c d)
end
def zz8(x:SV) (L:List Int) (n m:Int):qk2 P (λ_=>ι) Tryz.f23 Q4 (λ_=>{}) ⟨x,L,n,m⟩=(0<=n/\n<=(↑(length L):Int)/\0<m/\m<1000000/\z8 L->(∃(p:Pub),True/\qc qj x L p)->iO x n L m):=by kernel_rfl
def j9n:=λx L n m=>ς (zz8 x L n m) (by delta Ji Jb Jt Jf Sf iQ iP iO;exact rfl)
def zzc(x:SV) (L:List Int) (n:Int):qk2 P (λ_=>ι) Tryz.f22 UE (λ_=>{}) ⟨x,L,n⟩=(True->(∃(p:Nat->Option Obj),True/\qc qj x L p)->decide ((↑(Υ L):Int)<=n)=decide ((↑(ρ (ν x)):Int)<=n)/\ρ x=ρ x/\ρ (ν x)=ρ (ν x)/\ν (ν x)=ν (ν x)/\n=n/\True):=by kernel_rfl
def j08(s:Ck):qk2 P (λ_=>ι) Tryz.f72 Yq (λ_=>{}) s=(True->s=s/\True):=by kernel_rfl
def zk9(u:Unit):qk2 P (λ_=>ι) Tryz.f71 Yk (λ_=>{}) N3.two=(True->True):=by kernel_rfl
def zka(u:Unit):qk2 P (λ_=>ι) Tryz.f71 Yk (λ_=>{}) N3.three=(True->True):=by kernel_rfl
def zkb(u:Unit):qk2 P (λ_=>ι) Tryz.f71 Yk (λ_=>{}) N3.four=(True->True):=by kernel_rfl
section
variable (b:Ck) (a:GJ) (c:Nat) (p:Prop)
 abbrev Sh:=c<=length (GJ.nm a)/\jA b (drop c (GJ.nm a)) (drop c (GJ.l a))=jA b (GJ.nm a) (GJ.l a)
 def Sg:=GJ.k a=GJ.k a/\GJ.n a=GJ.n a/\GJ.s a=GJ.s a/\(GJ.y a).1=(GJ.y a).1/\(GJ.y a).2.1=(GJ.y a).2.1/\(GJ.y a).2.2=(GJ.y a).2.2/\(GJ.x a).1=(GJ.x a).1/\(GJ.x a).2.1=(GJ.x a).2.1/\(GJ.x a).2.2=(GJ.x a).2.2/\(∀d,True/\GJ.ok a d->True/\GJ.ok a d)/\(Sh b a c)/\p
 abbrev Sk:=(↑c:Int)<(↑(GJ.x a).2.1:Int)
 abbrev kG:=υ (jA b (GJ.nm a) (GJ.l a)) zJ
 def iV:=(0<=(↑c:Int)/\(↑c:Int)<(↑(GJ.y a).2.1:Int))/\(GJ.y a).1≠noA/\∃(d:Int),∃(e:Int),∃f,∃g,∃(h:Nat),∃(i:Nat),∃j,∃(m:Nat),∃(i8:Nat),(∀o,True/\GJ.ok a o->q37 o (adr (GJ.y a).1 (toNat (↑c:Int)*5)) [int i64 d,int i64 e,string f,slice g h i,slice j m i8])/\GJ.k (kG b a)=d/\GJ.n (kG b a)=e/\GJ.s (kG b a)=f/\(GJ.y (kG b a)).1=g/\(GJ.y (kG b a)).2.1=h/\(GJ.y (kG b a)).2.2=i/\(GJ.x (kG b a)).1=j/\(GJ.x (kG b a)).2.1=m/\(GJ.x (kG b a)).2.2=i8/\π (jA b (GJ.nm a) (GJ.l a))=η/\True
 def iW:=Jb ((↑c:Int)+1)/\∃(d:Nat),b=b/\(↑d:Int)=(↑c:Int)+1/\Sg b a d (length (GJ.nm a)- d<length (GJ.nm a)- c/\True)
 def iU:=(0<=(↑c:Int)/\Sk a c)/\(GJ.x a).1≠noA/\∃d,(∀e,True/\GJ.ok a e->q37 e (adr (GJ.x a).1 (toNat (↑c:Int)*1)) [string d])/\Ji (d=b) (iV b a c) (iW b a c)
 def iX:=GJ.k (kG b a)=0/\GJ.n (kG b a)=0/\GJ.s (kG b a)=mkS []/\(GJ.y (kG b a)).1=noA/\(GJ.y (kG b a)).2.1=0/\(GJ.y (kG b a)).2.2=0/\(GJ.x (kG b a)).1=noA/\(GJ.x (kG b a)).2.1=0/\(GJ.x (kG b a)).2.2=0/\π (jA b (GJ.nm a) (GJ.l a))=ζ/\True
 abbrev iS:=Ji (Sk a c) (iU b a c) (iX b a)
 def iR:=(∃(d:Nat),b=b/\(↑d:Int)=0/\Sg b a d True)/\∀(f:Nat),Sh b a f->iS b a f
end
def zy5(g:GJ) (s:Ck):qk2 P (λ_=>ι) Tryz.f107 XZ (jmp) ⟨g,s⟩=(GJ.wf g->(∃(p:Pub),True/\GJ.ok g p)->iR s g):=by kernel_rfl
def get_eq:=λg s=>ς (zy5 g s) (by delta Ji Jb Jt Jf Sh Sg Sk kG iV iW iU iX iS iR;exact rfl)
section
variable (a:GJ) (d:SV) (b:Int) (c:List Int) (i:Prop) (j:Int) (g:GJ×Ck) (p:List Int)
 abbrev TB:=GJ.s a=mkS [105,110,116]
 def Qa:=d.1=d.1/\d.2.1=d.2.1/\d.2.2=d.2.2/\i
 def Za:=Qa d (b=b/\GJ.k a=GJ.k a/\GJ.n a=GJ.n a/\GJ.s a=GJ.s a/\(GJ.y a).1=(GJ.y a).1/\(GJ.y a).2.1=(GJ.y a).2.1/\(GJ.y a).2.2=(GJ.y a).2.2/\(GJ.x a).1=(GJ.x a).1/\(GJ.x a).2.1=(GJ.x a).2.1/\(GJ.x a).2.2=(GJ.x a).2.2/\(∀e,True/\qc qj d c e/\GJ.ok a e->True/\qc qj d c e/\GJ.ok a e)/\i)
 abbrev TA:=GJ.s a=mkS [108,111,110,103]
 abbrev Ty:=GJ.s a=mkS [102,108,111,97,116]
 def ai:=Ji (Ty a) (∃(e:Unit),GJ.s a=GJ.s a/\isNum (GJ.s a)=decide (Ty a)/\Za a d b c (True/\True)) (∃(h:Unit),GJ.s a=GJ.s a/\isNum (GJ.s a)=decide (GJ.s a=mkS [100,111,117,98,108,101])/\Za a d b c (True/\True))
 def ag:=Ji (TA a) (∃(e:Unit),GJ.s a=GJ.s a/\isNum (GJ.s a)=decide (TA a)/\Za a d b c (True/\True)) (ai a d b c)
 def L1:=b=b/\(0<=b/\b<=(↑(length c):Int)/\0<j/\j<1000000/\z8 c)/\(∀e,True/\qc qj d p e/\GJ.ok a e->qc qj (d.1,d.2.1,d.2.2) c e)/\i
 abbrev uR:=(zR a c b).2.2
 abbrev Tx:=GJ.s a=mkS [115,116,114,105,110,103]
 abbrev an:=GJ.s a=mkS [98,111,111,108,101,97,110]
 def Wm:=(zR a c b).1=j/\(zR a c b).2.1=0/\(uR a b c).1=mkS []/\Qa d ((uR a b c).2=b/\True)
 def L2:=GJ.k a=4/\(isNum (GJ.s a)=η\/ua (GJ.s a)=η\/Kg (GJ.s a)=η\/Ys (GJ.s a)=η)
 def aj:=Ji (GJ.s a=mkS [110,117,108,108]) (Wm a d b c 1) (∃(e:Unit),Za a d b c (¬(L2 a)/\True))
 def lf:=Ji (an a) (∃(e:List Int),(2:Int)=2/\Qa d (L1 a d b e ((zR a c b).1=2/\(zR a c b).2.1=qo e b 2/\(uR a b c).1=mkS []/\Qa d ((uR a b c).2=qh e b/\True)) 2 c)) (aj a d b c)
 def lb:=(ua (GJ.s a)=η->∃(e:List Int),(3:Int)=3/\Qa d (L1 a d b e ((0<=qo e b 3/\qo e b (3:Int)<(↑(nat_lit 3):Int))/\∃f,qga [string (mkS []),string (mkS [100]),string (mkS [195,164])] (nat_lit 0+toNat (qo e b 3)*1) [string f]/\f=f/\True/\(zR a c b).1=4/\(zR a c b).2.1=0/\(uR a b c).1=f/\Qa d ((uR a b c).2=qh e b/\True)) 3 c))/\(ua (GJ.s a)=ζ->lf a d b c)
 def la:=(Ji (Tx a) (∃(e:Unit),GJ.s a=GJ.s a/\ua (GJ.s a)=decide (Tx a)/\Za a d b c (True/\True)) (∃(f:Unit),GJ.s a=GJ.s a/\ua (GJ.s a)=decide (GJ.s a=mkS [98,121,116,101,115])/\Za a d b c (True/\True)))/\∀(q:Unit),True->lb a d b c
 def i_:=(isNum (GJ.s a)=η->∃(e:List Int),(200:Int)=200/\Qa d (L1 a d b e (Jb (qo e b 200- 50)/\(zR a c b).1=3/\(zR a c b).2.1=qo e b 200- 50/\(uR a b c).1=mkS []/\Qa d ((uR a b c).2=qh e b/\True)) 200 c))/\(isNum (GJ.s a)=ζ->la a d b c)
 def iZ:=(Ji (TB a) (∃(e:Unit),GJ.s a=GJ.s a/\isNum (GJ.s a)=decide (TB a)/\Za a d b c (True/\True)) (ag a d b c))/\∀(i8:Unit),True->i_ a d b c
 abbrev Tz:=υ (jA g.2 (GJ.nm g.1) (GJ.l g.1)) zJ
 abbrev ao:=GJ.s (Tz g)=mkS [97,114,114,97,121]
 def ak:=mkS [88]=mkS [88]/\True/\(zR a c b).1=4/\(zR a c b).2.1=0/\(uR a b c).1=mkS [88]/\Qa d ((uR a b c).2=b/\True)
 def ah:=Ji (GJ.s (Tz g)=mkS [101,110,117,109]) (ak a d b c) (Wm a d b c 6)
 def ld:=Ji (GJ.k a=5) (Wm a d b c 1) (∃(e:GJ×Ck),GJ.k e.1=GJ.k a/\GJ.n e.1=GJ.n a/\GJ.s e.1=GJ.s a/\(GJ.y e.1).1=(GJ.y a).1/\(GJ.y e.1).2.1=(GJ.y a).2.1/\(GJ.y e.1).2.2=(GJ.y a).2.2/\(GJ.x e.1).1=(GJ.x a).1/\(GJ.x e.1).2.1=(GJ.x a).2.1/\(GJ.x e.1).2.2=(GJ.x a).2.2/\e.2=mkS [116,121,112,101]/\GJ.wf e.1/\(∀h,True/\qc qj d c h/\GJ.ok a h->GJ.ok e.1 h)/\Ji (ao e) (Wm a d b c 5) (ah a d b c e))
 def iY:=(Ji (GJ.k a=4) (iZ a d b c) (∃(m:Unit),Za a d b c (¬(L2 a)/\True)))/\∀(o:Unit),¬(L2 a)->ld a d b c
end
def zok(x:SV) (L:List Int) (n:Int) (g:GJ):qk2 P (qf5 [(23,Q4),(72,Yq),(107,XZ)]) Tryz.f73 HC (zeh) ⟨x,L,n,g⟩=(0<=n/\n<=(↑(length L):Int)/\z8 L/\GJ.wf g->(∃(p:Pub),True/\qc qj x L p/\GJ.ok g p)->iY g x n L):=by kernel_rfl
def zxy:=λx L n g=>ς (zok x L n g) (by delta Ji Jb Jt Jf TB Qa Za TA Ty ai ag L1 uR Tx an Wm L2 aj lf lb la i_ iZ Tz ao ak ah ld iY;exact rfl)
def j9d(c:Nat):qU c<=4:=by
 unfold qU;repeat' split
 all_goals omega
def j9f(c:Nat):z_ c<128:=by
 unfold z_;repeat' split
 all_goals omega
section
variable (a b c:Int)
 abbrev lr:=(↑(qU (toNat a)):Int)=1/\(↑(z_ (toNat a)):Int)=ε u32 a/\True
 abbrev Fw:=shP Γ u8 a b=c
 def Fv:=(↑(qU (toNat a)):Int)=b/\(↑(z_ (toNat a)):Int)=ε u32 (qae Φ u8 a c)/\True
 def lu:=(↑(qU (toNat a)):Int)=0/\(↑(z_ (toNat a)):Int)=0/\True
 def lq:=(0:Int)<=3/\Ji (Fw a 3 30) (Fv a 4 7) (lu a)
 def lp:=(0:Int)<=4/\Ji (Fw a 4 14) (Fv a 3 15) (lq a)
 def ll:=(0:Int)<=5/\Ji (Fw a 5 6) (Fv a 2 31) (lp a)
 def lk:=Ji (a<128) (lr a) (ll a)
end
def zpl(c:Int):qk2 P ((λ_=>ι)) Tryz.f131 Cd (λ_=>{}) c=(0<=c/\c<256->lk c):=by kernel_rfl
def zyl:=λc=>ς (zpl c) (by delta Ji Jt Jf lr Fw Fv lu lq lp ll lk;exact rfl)
def jjg:∀c<256,¬c<128->(decide (shP Γ Β (c:Nat) 5=6)=(decide (192<=c)&&decide (c<224)))/\(decide (shP Γ Β (c:Nat) 4=14)=(decide (224<=c)&&decide (c<240)))/\(decide (shP Γ Β (c:Nat) 3=30)=(decide (240<=c)&&decide (c<248))):=by decide+kernel
def jjh:∀c<256,ε Η ((c:Nat):Int)=(c:Nat)/\(192<=c->c<224->ε Η (qae Φ Β (c:Nat) 31)=((c- 192:Nat):Int))/\(224<=c->c<240->ε Η (qae Φ Β (c:Nat) 15)=((c- 224:Nat):Int))/\(240<=c->c<248->ε Η (qae Φ Β (c:Nat) 7)=((c- 240:Nat):Int)):=by decide+kernel
def zym:q4p P 131 Cd:=by
 refine qA js (W:=λ_=>{}) Tryz.func131 λ(c:Int)=>(zyl c).mpr ?_;rintro⟨O,T⟩;obtain⟨n,rfl⟩:=κ O;have B:n<256:=by omega
 obtain⟨C,G,H,J⟩:=jjh n B;simp only[γ,and_true,decide_eq_true_eq,decide_eq_false_iff_not];refine⟨λh=> ?_,λh=>⟨by omega,?_⟩⟩
 ·unfold qU z_;rw[if_pos (by omega),if_pos (by omega),C];simp
 have u:¬n<128:=by omega
 obtain⟨A,a2,a3⟩:=jjg n B u;have A:(shP Γ Β (n:Nat) 5=6)↔(192<=n/\n<224):=by rw[←decide_eq_true_iff (p:=shP Γ Β (n:Nat) 5=6),A];simp
 have a2:(shP Γ Β (n:Nat) 4=14)↔(224<=n/\n<240):=by rw[←decide_eq_true_iff (p:=shP Γ Β (n:Nat) 4=14),a2];simp
 have a3:(shP Γ Β (n:Nat) 3=30)↔(240<=n/\n<248):=by rw[←decide_eq_true_iff (p:=shP Γ Β (n:Nat) 3=30),a3];simp
 rw[A,a2,a3];refine⟨λg=> ?_,λg=>⟨by omega,λg2=> ?_,λg2=>⟨by omega,λg3=> ?_,λg3=> ?_⟩⟩⟩
 ·unfold qU z_;rw[if_neg u,if_pos g,if_neg u,if_pos g,G g.1 g.2];simp
 ·unfold qU z_;rw[if_neg u,if_neg g,if_pos g2,if_neg u,if_neg g,if_pos g2,H g2.1 g2.2];simp
 ·unfold qU z_;rw[if_neg u,if_neg g,if_neg g2,if_pos g3,if_neg u,if_neg g,if_neg g2,if_pos g3,J g3.1 g3.2];simp
 ·unfold qU z_;rw[if_neg u,if_neg g,if_neg g2,if_neg g3,if_neg u,if_neg g,if_neg g2,if_neg g3];simp
def j9a(c:Int):qk2 P ((λ_=>ι)) Tryz.f132 R_ (λ_=>{}) c=((0:Int)<=c/\c<(4294967296:Int)->(decide (c<=(1114111:Int))=η->(0:Int)<=(11:Int)/\yC (qqq c)= !decide (shP Γ Η c (11:Int)=(27:Int))/\True)/\(decide (c<=(1114111:Int))=ζ->yC (qqq c)=ζ/\True)):=by kernel_rfl
def jja:q4p P 132 R_:=by
 refine qA js (W:=λ_=>{}) Tryz.func132 λ(c:Int)=>(j9a c).mpr ?_;rintro⟨u,A⟩;obtain⟨n,rfl⟩:=κ u;simp only[γ,and_true,decide_eq_true_eq,decide_eq_false_iff_not,yC];refine⟨λh=>⟨by omega,?_⟩,λh=> ?_⟩
 ·have:shP Γ Η (n:Nat) 11=((n / 2048:Nat):Int):=by show(n:Int).fdiv (2 ^ 11)=_;rw[qqm _ (by decide)];omega
  rw[this];by_cases g:55296<=n/\n<=57343
  ·have e:n / 2048=27:=(by omega);rw[e];simp;omega
  ·have e:n / 2048≠27:=(by omega);have e2:¬((n / 2048:Nat):Int)=27:=(by omega);rw[decide_eq_false e2];simp;omega
 ·rw[decide_eq_false (by omega)];rfl
def zfi(c:Int):qk2 P ((λ_=>ι)) Tryz.f133 Ps (λ_=>{}) c=((0:Int)<=c/\c<(4294967296:Int)->(decide (c<(128:Int))=η->(↑(yj (toNat c)):Int)=(1:Int)/\True)/\(decide (c<(128:Int))=ζ->(decide (c<(2048:Int))=η->(↑(yj (toNat c)):Int)=(2:Int)/\True)/\(decide (c<(2048:Int))=ζ->(decide (c<(65536:Int))=η->(↑(yj (toNat c)):Int)=(3:Int)/\True)/\(decide (c<(65536:Int))=ζ->(↑(yj (toNat c)):Int)=(4:Int)/\True)))):=by kernel_rfl
def ziz:q4p P 133 Ps:=by
 refine qA js (W:=λ_=>{}) Tryz.func133 λ(c:Int)=>(zfi c).mpr ?_;rintro⟨u,A⟩;simp only[and_true,decide_eq_true_eq,decide_eq_false_iff_not,yj];refine⟨λh=> ?_,λh=>⟨λg=> ?_,λg=>⟨λk=> ?_,λk=> ?_⟩⟩⟩
 ·rw[if_pos (by omega)];rfl
 ·rw[if_neg (by omega),if_pos (by omega)];rfl
 ·rw[if_neg (by omega),if_neg (by omega),if_pos (by omega)];rfl
 ·rw[if_neg (by omega),if_neg (by omega),if_neg (by omega)];rfl
def ct1:∀c<256,decide (shP Γ Β (c:Nat) 6=2)=Qk c:=by decide+kernel
def ct2:∀c<256,Qk c=η->ε Η (qae Φ Β (c:Nat) 63)=((c- 128:Nat):Int)/\c- 128<64:=by decide+kernel
def Lx(s:Ck):∀(i r:Nat),zt s i=θ r->i<=4->r<128*64 ^ (i- 1)
  |0,r,h,_=>by simp[zt]at h;subst h;decide
  | 1,r,h,_=>by simp[zt]at h;have:=j9f (bat s 0);rw[h]at this;simpa using this
  | i + 2,r,h,hi=>by
    simp only[zt]at h;split at h
    · rename_i q hq;have A:=Lx s (i+1) q hq (by omega);split at h
      · rename_i u;cases h;have:=uN s (i+1);simp[Qk]at u;have e:i+1- 1=i:=(by omega);have e2:i+2- 1=i+1:=(by omega);rw[e]at A;rw[e2,qzb];omega
      · cases h
    · cases h
def k09(r d:Nat) (hr:r<67108864) (hd:d<64):qae qqd Η (shP qqb Η (r:Int) 6) (d:Int)=((r*64+d:Nat):Int):=by
 have e:shP qqb Η (r:Int) 6=((r*64:Nat):Int):=by show IntKind.u32.wrap ((r:Int)*2 ^ 6)=_;unfold ε;simp[Ο,Ν];omega
 rw[e];have u:=u32_or_nat (r*64) d (by omega) (by omega);have A:qae qqd Η ((r*64:Nat):Int) (d:Int)=bits .or .u32 ((r*64:Nat):Int) (d:Int):=rfl;rw[A,u];congr 1;have h:=qql (i:=6) (b:=d) hd r;rw[show 2 ^ 6*r=r*64 by omega]at h;exact h.symm
def zee(s:Ck) (i j:Nat) (u:i<=j) (B:1<=i) (h:zt s i=ι):zt s j=none:=by
  induction j with
  |zero=>omega
  | succ j A=>
    by_cases e:i=j+1
    · subst e;exact h
    · have:=A (by omega);cases j with
      |zero=>omega
      |succ j=>simp only[zt];rw[this]
section
variable (a:Ck) (b:Int×Int)
 abbrev xe:=(↑(qU (toNat (↑(bat a 0):Int))):Int)
 def Vp:=(↑(qH a):Int)=0/\True
 abbrev L4:=(↑(z_ (toNat (↑(bat a 0):Int))):Int)
 def TC:= !decide (shP Γ u8 (↑(bat a (toNat b.2)):Int) (6:Int)=2)
 abbrev L3:=ε u32 (qae Φ u8 (↑(bat a (toNat b.2)):Int) 63)
 def jps:=(0:Int)<=6/\(0<=b.2/\b.2<(↑(size a):Int))/\Jb (b.2+1)/\a=a/\(xe a)=(xe a)/\b.2+1=b.2+1/\qae qqd u32 (shP qqb u32 b.1 6) (L3 a b)=qae qqd u32 (shP qqb u32 b.1 6) (L3 a b)/\(1<=b.2+1/\(b.2+1<=(↑(qU (bat a 0)):Int)\/b.2+1=1)/\∃(d:Nat),qae qqd u32 (shP qqb u32 b.1 6) (L3 a b)=(↑d:Int)/\(qU (bat a 0)=0\/zt a (toNat (b.2+1))=θ d))/\(5:Nat)- toNat (b.2+1)<5- toNat b.2/\True
 def lz:=(0<=b.2/\b.2<(↑(size a):Int))/\(0:Int)<=6/\((TC a b)=η->Vp a)/\((TC a b)=ζ->jps a b)
 def lC:=b.1=b.1/\(0<=b.1/\b.1<4294967296)/\((!decide ((↑(yj (toNat b.1)):Int)=(xe a)))=η->Vp a)/\((!decide ((↑(yj (toNat b.1)):Int)=(xe a)))=ζ->(↑(qH a):Int)=(xe a)/\True)
 def lB:=b.1=b.1/\(0<=b.1/\b.1<4294967296)/\((!yC (toNat b.1))=η->Vp a)/\((!yC (toNat b.1))=ζ->lC a b)
 def lA:=Ji ((xe a)=0) (Vp a) (lB a b)
 def ly:=Ji (b.2<(xe a)) (lz a b) (lA a b)
 def lx:=(a=a/\(xe a)=(xe a)/\(1:Int)=1/\(L4 a)=(L4 a)/\((1:Int)<=1/\(1<=(↑(qU (bat a 0)):Int)\/(1:Int)=1)/\∃(d:Nat),(L4 a)=(↑d:Int)/\(qU (bat a 0)=0\/zt a (1:Nat)=θ d))/\True)/\∀(c:Int×Int),(1<=c.2/\(c.2<=(↑(qU (bat a 0)):Int)\/c.2=1)/\∃(e:Nat),c.1=(↑e:Int)/\(qU (bat a 0)=0\/zt a (toNat c.2)=θ e))->ly a c
 def lv:=((0:Int)<=0/\0<(↑(size a):Int))/\(↑(bat a 0):Int)=(↑(bat a 0):Int)/\(0<=(↑(bat a 0):Int)/\(↑(bat a 0):Int)<256)/\Ji ((↑(size a):Int)<(xe a)) (Vp a) (lx a)
end
def zie(s:Ck):qk2 P (zw8) Tryz.f117 H_ (zwe) s=(0<size s/\size s<9223372036854775808->lv s):=by kernel_rfl
def front_eq:=λs=>ς (zie s) (by delta Ji Jb Jt Jf xe Vp L4 TC L3 jps lz lC lB lA ly lx lv;exact rfl)
def zk8:∀g C,zw8 g=θ C->q4p P g C:=qcl (qgj zym (qgj jja (qgj ziz qjq)))
def zp8:q4p P 117 H_:=by
 refine qA zk8 (W:=zwe) Tryz.func117 λ(s:Ck)=>(front_eq s).mpr ?_;rintro⟨h1,h2⟩;have b0:=uN s 0;simp only[γ,qq7,and_true,true_and,decide_eq_true_eq,decide_eq_false_iff_not,ω,ψ];obtain⟨n,O⟩:∃n,n=qU (bat s 0):=⟨_,rfl⟩;have H:=j9d (bat s 0);have u:qH s=if s.size<n then 0 else match zt s n with
  |none=>0
  |some r=>if n=0\/yC r=ζ\/yj r≠n then 0 else n:=by rw[O];rfl
 rw[←O]at H⊢;refine⟨by omega,by omega,λg=> ?_,λg=>⟨⟨by omega, .inr trivial,z_ (bat s 0),rfl, .inr rfl⟩,?_⟩⟩
 ·rw[u,if_pos (by omega)];rfl
 rintro⟨r,i⟩ ⟨i1,i2,q,hq,A⟩;simp only at i1 i2 hq A⊢;obtain⟨m,rfl⟩:=κ (show 0<=i by omega);have em:((m:Int)+1).toNat=m+1:=by omega
 simp only[γ,em]at A⊢;subst hq;simp only[γ]at A⊢;rw[if_neg (by omega)]at u;refine⟨λk=>⟨by omega,by omega,?_⟩,λk=>⟨λY=> ?_,λY=> ?_⟩⟩
 ·have J:=uN s m;have c1:shP Γ Β ((bat s m:Nat):Int) 6=2↔Qk (bat s m)=true:=by rw[←ct1 (bat s m) J,decide_eq_true_iff]
  rw[c1];have A:zt s m=θ q:=by
   rcases A with h|h
   ·omega
   ·exact h
  have C:=Lx s m q A (by omega);have G:q<67108864:=by have:m<=3:=(by omega);rcases m with _|_|_|_|m<;>simp at C<;>omega
  obtain⟨m',rfl⟩:∃m',m=m'+1:=⟨m- 1,by omega⟩;refine⟨λB=> ?_,λB=>⟨by omega,by omega,by omega,⟨by omega,by omega,?_⟩,by omega⟩⟩
  ·have:zt s (m'+2)=none:=(by simp only[zt];rw[A];simp[B]);rw[u,zee s (m'+2) n (by omega) (by omega) this];rfl
  ·obtain⟨c2,U⟩:=ct2 (bat s (m'+1)) J B;rw[c2];refine⟨_,k09 q _ G U, .inr ?_⟩;simp only[zt];rw[A];simp[B]
 ·have V:n=0:=by omega
  rw[u,V];simp[zt]
 ·have X:n≠0:=by omega
  have hm:m=n:=by omega
  have A:zt s n=θ q:=by
   rcases A with h|h
   ·omega
   ·rw[←hm];exact h
  have C:=Lx s n q A (by omega);have T:q<4294967296:=by rcases n with _|_|_|_|_|n<;>simp at C<;>omega
  rw[A]at u;simp only at u;refine⟨by omega,λB=> ?_,λB=>⟨by omega,λZ=> ?_,λZ=> ?_⟩⟩
  ·rw[u,if_pos (.inr (.inl B))];rfl
  ·rw[u,if_pos (.inr (.inr (by omega)))];rfl
  ·rw[u,if_neg];rw[B];simp;omega
def P0(s:Ck):qH s<=s.size:=by
 unfold qH;split
 ·omega
 ·split
  ·omega
  ·split<;>omega
def z9y:∀(f g:Nat) (s:Ck),s.size<=f->s.size<=g->u_ f s=u_ g s
  |0,0,s,_,_=>rfl
  |0,g+1,s,h,_=>by rw[u_,u_,if_pos (by omega)]
  |f+1,0,s,_,h=>by rw[u_,u_,if_pos (by omega)]
  | f +1,g+1,s,u,A=>by
    rw[u_,u_];split
    · rfl
    · split
      · rfl
      · exact z9y f g _ (by simp;omega) (by simp;omega)
def HJ(s:Ck) (h:0<s.size):qP s=if qH s=0 then ζ else qP (s.extract (qH s) s.size):=by
 unfold qP;obtain⟨f,u⟩:∃f,s.size=f+1:=⟨s.size- 1,by omega⟩;rw[u,u_,if_neg (by omega)];split
 ·rfl
 ·rw[u];refine z9y _ _ _ ?_ (Ζ _);simp;omega
def zku(s:Ck) (h:s.size=0):qP s=true:=by unfold qP;rw[h];rfl
def zra(s:Ck):qk2 P (jae) Tryz.f90 uP (zwn) s=(size s<(9223372036854775808:Nat)->(s=s/\(size s<=size s/\qP s=qP s)/\True)/\∀(s_1:Ck),size s_1<=size s/\qP s_1=qP s->(decide ((0:Int)<(↑(size s_1):Int))=η->s_1=s_1/\((0:Nat)<size s_1/\size s_1<(9223372036854775808:Nat))/\(decide ((↑(qH s_1):Int)=(0:Int))=η->qP s=ζ/\True)/\(decide ((↑(qH s_1):Int)=(0:Int))=ζ->((0:Int)<=(↑(qH s_1):Int)/\(↑(qH s_1):Int)<=(↑(size s_1):Int))/\ξ s_1 (toNat (↑(qH s_1):Int)) (size s_1)=ξ s_1 (toNat (↑(qH s_1):Int)) (size s_1)/\(size (ξ s_1 (toNat (↑(qH s_1):Int)) (size s_1))<=size s/\qP (ξ s_1 (toNat (↑(qH s_1):Int)) (size s_1))=qP s)/\size (ξ s_1 (toNat (↑(qH s_1):Int)) (size s_1))<size s_1/\True))/\(decide ((0:Int)<(↑(size s_1):Int))=ζ->qP s=η/\True)):=by kernel_rfl
def zrb:q4p P 90 uP:=by
 refine qA (qcl (qgj zp8 qjq)) (W:=zwn) Tryz.func90 λ(s:Ck)=>(zra s).mpr ?_;intro h;simp only[γ,and_true,true_and,decide_eq_true_eq,decide_eq_false_iff_not];refine⟨Ζ _,λt u=>⟨λg=>⟨by omega,λg2=> ?_,λg2=> ?_⟩,λg=> ?_⟩⟩
 ·rw[←u.2,HJ t (by omega),if_pos (by omega)]
 ·have:=P0 t;rw[←u.2,HJ t (by omega),if_neg (by omega)];refine⟨by omega,⟨?_,rfl⟩,?_⟩
  ·simp;omega
  ·simp;omega
 ·rw[←u.2];exact zku t (by omega)
def Yu(x:Int):IntKind.u8.wrap x=x % 256:=by unfold ε;simp[Ο,Ν]
def tn1(n:Nat):((n:Int)+1).toNat=n+1:=by omega
def wrap32(x:Int):IntKind.u32.wrap x=x % 4294967296:=by unfold ε;simp[Ο,Ν]
def zdm(b:Nat):(b<128/\qU b=1/\z_ b=b)\/(192<=b/\b<224/\qU b=2/\z_ b=b- 192)\/(224<=b/\b<240/\qU b=3/\z_ b=b- 224)\/(240<=b/\b<248/\qU b=4/\z_ b=b- 240)\/(((128<=b/\b<192)\/248<=b)/\qU b=0):=by
 unfold qU z_;repeat' split
 all_goals omega
def j9g(n q:Nat) (A:n=2\/n=3\/n=4) (hq:q<128*64 ^ (n- 1)) (h:n=2->q<2048) (u:n=3->q<65536):yj q=n↔Qp n<=q:=by
 unfold yj Qp;rcases A with rfl|rfl|rfl;all_goals (repeat' split)
 all_goals (first|omega| (have:=h rfl;omega)| (have:=u rfl;omega))
section
variable (a:Ck) (b:Int×Int) (e g h:Int)
 abbrev xU:=(↑(j4 a):Int)=0/\(↑(qH a):Int)=0/\True
 abbrev UH:=ε u32 (↑(bat a 0):Int)<e
 def aA:=(↑(j4 a):Int)=ε u32 (↑(bat a 0):Int)/\(↑(qH a):Int)=1/\True
 abbrev L6:=e<=ε u32 (↑(bat a 0):Int)
 abbrev Km:=(↑(Qp (qU (bat a 0))):Int)
 abbrev z54:=(↑(qU (bat a 0)):Int)
 def Fx:=a=a/\(Km a)=e/\(z54 a)=g/\(↑(z_ (bat a 0)):Int)=ε u32 (ε u32 (↑(bat a 0):Int)- h)/\(0<size a/\2<=qU (bat a 0))/\True
 abbrev aB:=Ji (UH a 248) (Fx a 65536 4 240) (xU a)
 abbrev Sm:=Ji (L6 a 240) (aB a) (xU a)
 abbrev aC:=Ji (UH a 240) (Fx a 2048 3 224) (Sm a)
 abbrev Sl:=Ji (L6 a 224) (aC a) (Sm a)
 abbrev aD:=Ji (UH a 224) (Fx a 128 2 192) (Sl a)
 abbrev ay:=Ji (L6 a 192) (aD a) (Sl a)
 def L7:=(0<=b.2/\b.2<(↑(size a):Int))
 abbrev L5:=ε u32 (b.1*64)+ε u32 (ε u8 ((↑(bat a (toNat b.2)):Int)- 128))
 def ar:=L7 a b/\Jb (b.2+1)/\a=a/\(Km a)=(Km a)/\(z54 a)=(z54 a)/\b.2+1=b.2+1/\ε u32 (L5 a b)=ε u32 (L5 a b)/\(1<=b.2+1/\b.2+1<=(z54 a)/\∃(c:Nat),ε u32 (L5 a b)=(↑c:Int)/\zt a (toNat (b.2+1))=θ c)/\(5:Nat)- toNat (b.2+1)<5- toNat b.2/\True
 def lJ:=L7 a b/\Ji (191<(↑(bat a (toNat b.2)):Int)) (xU a) (ar a b)
 def lI:=L7 a b/\Ji ((↑(bat a (toNat b.2)):Int)<128) (xU a) (lJ a b)
 def TD:=(↑(j4 a):Int)=b.1/\(↑(qH a):Int)=(z54 a)/\True
 def aE:=Ji (b.1<=57343) (xU a) (TD a b)
 def az:=Ji (55296<=b.1) (aE a b) (TD a b)
 def ax:=Ji (1114111<b.1) (xU a) (az a b)
 def aw:=Ji (b.1<(Km a)) (xU a) (ax a b)
 def lH:=Ji (b.2<(z54 a)) (lI a b) (aw a b)
 def lG:=(a=a/\(Km a)=(Km a)/\(z54 a)=(z54 a)/\(1:Int)=1/\(↑(z_ (bat a 0)):Int)=(↑(z_ (bat a 0)):Int)/\((1:Int)<=1/\1<=(z54 a)/\∃(c:Nat),(↑(z_ (bat a 0)):Int)=(↑c:Int)/\zt a (1:Nat)=θ c)/\True)/\∀(d:Int×Int),(1<=d.2/\d.2<=(z54 a)/\∃(f:Nat),d.1=(↑f:Int)/\zt a (toNat d.2)=θ f)->lH a d
 def lF:=Ji ((↑(size a):Int)<(z54 a)) (xU a) (lG a)
 def lE:=((0:Int)<=0/\0<(↑(size a):Int))/\(Ji (UH a 128) (aA a) (ay a))/\∀(c:Unit),0<size a/\2<=qU (bat a 0)->lF a
 def lD:=Ji ((↑(size a):Int)=0) (xU a) (lE a)
end
def zjk(s:Ck):qk2 P (λ_=>ι) Tryz.f96 ZG (zwi) s=(size s<9223372036854775808->lD s):=by kernel_rfl
def zqa:=λs=>ς (zjk s) (by delta Ji Jb Jt Jf xU UH aA L6 Km z54 Fx aB Sm aC Sl aD ay L7 L5 ar lJ lI TD aE az ax aw lH lG lF lE lD;exact rfl)
def CM(b:Nat):(qU b=2->z_ b<32)/\(qU b=3->z_ b<16):=by have:=zdm b;omega
def jju(s:Ck) (q:Nat) (h:zt s 2=θ q) (A:qU (bat s 0)=2):q<2048:=by
 have b:=(CM (bat s 0)).1 A;simp only[zt]at h;split at h
 ·rename_i u;have B:=uN s 1;simp only[Qk,qq0,decide_eq_true_eq]at u;cases h;simp only[Ε]at u⊢;omega
 ·cases h
def jjv(s:Ck) (q:Nat) (h:zt s 3=θ q) (B:qU (bat s 0)=3):q<65536:=by
 have b:=(CM (bat s 0)).2 B;simp only[zt]at h;split at h
 ·rename_i r hr;split at hr
  ·cases hr;rename_i u;split at h
   ·rename_i A;have G:=uN s 1;have C:=uN s 2;simp only[Qk,qq0,decide_eq_true_eq]at A u;cases h;simp only[Ε,show 1+1=2 from rfl]at A u⊢;omega
   ·cases h
  ·cases hr
 ·cases h
def zvo(q:Nat):yC q=η↔q<=1114111/\¬(55296<=q/\q<=57343):=by simp[yC];omega
def CH(b:Nat):Qk b=η↔128<=b/\b<192:=by simp[Qk]
def zdy:q4p P 96 ZG:=by
 refine qA js (W:=zwi) Tryz.func96 λ(s:Ck)=>(zqa s).mpr ?_;intro h2;have b0:=uN s 0;obtain⟨n,X⟩:∃n,n=qU (bat s 0):=⟨_,rfl⟩;have hc:=zdm (bat s 0);have C:qH s=0->j4 s=0:=λh=>by unfold j4;rw[if_pos h]
 have u:qH s=if s.size<n then 0 else match zt s n with
  |none=>0
  |some r=>if n=0\/yC r=ζ\/yj r≠n then 0 else n:=by rw[X];rfl
 rw[←X]at hc;have U:s.size=0->qH s=0:=λh=>by have:=zxb (s:=s) (j:=0) (by omega);rw[u,if_pos (by omega)]
 have G:s.size≠0->bat s 0<128->j4 s=bat s 0/\qH s=1:=λh V=>by
  have e1:n=1:=by omega
  have ev:z_ (bat s 0)=bat s 0:=by omega
  have T:qH s=1:=by rw[u,if_neg (by omega),e1];simp only[zt];rw[ev,if_neg];have hi:=(zvo (bat s 0)).mpr (by omega);have hl:yj (bat s 0)=1:=(by unfold yj;rw[if_pos V]);rw[hi,hl];simp
  refine⟨?_,T⟩;unfold j4;rw[if_neg (by omega),T];simp only[zt,ev];rfl
 have H:n=0->qH s=0:=λh=>by rw[u,if_neg (by omega),h];simp[zt]
 have hle:(n=2->Qp n=128)/\(n=3->Qp n=2048)/\(n=4->Qp n=65536):=by refine⟨λh=> ?_,λh=> ?_,λh=> ?_⟩<;>rw[h]<;>rfl
 have e0:IntKind.u32.wrap (bat s 0:Nat)=(bat s 0:Nat):=by rw[wrap32];omega
 simp only[γ,qq7,and_true,true_and,decide_eq_true_eq,decide_eq_false_iff_not,ω,ψ,e0,←X];refine⟨?_,λg0=>⟨by omega,?_,?_⟩⟩
 ·intro h;have:=U (by omega);have:=C this;omega
 ·simp only[wrap32];clear u U e0;rcases hc with⟨c1,c2,O⟩|⟨c0,c1,c2,O⟩|⟨c0,c1,c2,O⟩|⟨c0,c1,c2,O⟩|⟨c1,c2⟩
  ·obtain⟨p,f⟩:=G (by omega) c1;clear G H hle C;refine⟨λ_=>by omega,λh=>absurd (by omega) h⟩
  ·have l:=hle.1 c2;clear G H hle C;refine⟨λh=>by omega,λh=>⟨λ_=>⟨λ_=>by omega,λk=>absurd (by omega) k⟩,λk=>absurd (by omega) k⟩⟩
  ·have l:=hle.2.1 c2;clear G H hle C;refine⟨λh=>by omega,λh=>⟨λ_=>⟨λk=>by omega,λ_=>⟨λ_=>⟨λ_=>by omega,λk=>absurd (by omega) k⟩,λk=>absurd (by omega) k⟩⟩,λk=>absurd (by omega) k⟩⟩
  ·have l:=hle.2.2 c2;clear G H hle C;refine⟨λh=>by omega,λh=>⟨λ_=>⟨λk=>by omega,λ_=>⟨λ_=>⟨λk=>by omega,λ_=>⟨λ_=>⟨λ_=>by omega,λk=>absurd (by omega) k⟩,λk=>absurd (by omega) k⟩⟩,λk=>absurd (by omega) k⟩⟩,λk=>absurd (by omega) k⟩⟩
  ·have f:=H c2;have p:=C f;clear G H hle C;repeat' first|intro _|apply qq2
   all_goals omega
 ·clear U G H;rintro _ ⟨g1,g2⟩;have Z:qH s=0->((j4 s:Nat):Int)=0/\((qH s:Nat):Int)=0:=λh=>by have:=C h;omega
  refine⟨λk=>Z ?_,λk=>⟨⟨by omega,by omega,z_ (bat s 0),rfl,rfl⟩,?_⟩⟩
  ·rw[u,if_pos (by omega)]
  rw[if_neg (by omega)]at u;rintro⟨v,i⟩ ⟨i1,i2,q,hq,A⟩;simp only at i1 i2 hq A⊢;obtain⟨m,rfl⟩:=κ (show 0<=i by omega);subst hq;simp only[γ,tn1]at A⊢;have J:=Lx s m q A (by omega);have bm:=uN s m;obtain⟨m',rfl⟩:∃m',m=m'+1:=⟨m- 1,by omega⟩;have cn:¬(128<=bat s (m'+1)/\bat s (m'+1)<192)->((m'+1:Nat):Int)<n->qH s=0:=λh hl=>by have:zt s (m'+2)=none:=(by simp only[zt];rw[A];simp only[];rw[if_neg (by rw[CH];exact h)]);rw[u,zee s (m'+2) n (by omega) (by omega) this]
  refine⟨λY=>⟨by omega,λk2=>Z (cn (by omega) Y),λk2=>⟨by omega,λk3=>Z (cn (by omega) Y),λk3=>⟨by omega,by omega,⟨by omega,by omega,?_⟩,by omega⟩⟩⟩,λY=> ?_⟩
  ·have hq26:q<67108864:=by have:m'+1<=3:=(by omega);rcases m' with _|_|_|m'<;>simp at J<;>omega
   refine⟨q*64+(bat s (m'+1)- 128),?_,?_⟩
   ·rw[Yu,wrap32,wrap32,wrap32];omega
   ·simp only[zt];rw[A];simp only[];rw[if_pos (by rw[CH];omega)]
  ·have em:m'+1=n:=(by omega);rw[em]at A J;rw[A]at u;simp only at u;have nn:n=2\/n=3\/n=4:=(by omega);have ln:=j9g n q nn J (λh=>jju s q (h ▸ A) (by omega)) (λh=>jjv s q (h ▸ A) (by omega));have ic:=zvo q;have bad:¬(Qp n<=q)\/¬(q<=1114111/\¬(55296<=q/\q<=57343))->qH s=0:=λh=>by
    rw[u,if_pos];rcases h with h|h
    ·exact .inr (.inr λe=>h (ln.mp e))
    ·exact .inr (.inl (by rw[←Bool.not_eq_true];exactλe=>h (ic.mp e)))
   have B:Qp n<=q->(q<=1114111/\¬(55296<=q/\q<=57343))->((j4 s:Nat):Int)=q/\((qH s:Nat):Int)=n:=λV h2=>by have T:qH s=n:=(by rw[u,if_neg];rw[ic.mpr h2,ln.mpr V];simp;omega);refine⟨?_,by omega⟩;unfold j4;rw[if_neg (by omega),T,A];rfl
   refine⟨λc1=>Z (bad (.inl (by omega))),λc1=>⟨λc2=>Z (bad (.inr (by omega))),λc2=>⟨λO=>⟨λc4=>Z (bad (.inr (by omega))),λc4=>B (by omega) (by omega)⟩,λO=>B (by omega) (by omega)⟩⟩⟩
def zkp(s:Ck):qk2 P (qf5 [(96,ZG)]) Tryz.f59 uP (zl9) s=(size s<(9223372036854775808:Nat)->(s=s/\(size s<=size s/\qP s=qP s)/\True)/\∀(s_1:Ck),size s_1<=size s/\qP s_1=qP s->(decide ((0:Int)<(↑(size s_1):Int))=η->s_1=s_1/\size s_1<(9223372036854775808:Nat)/\(decide ((↑(qH s_1):Int)=(0:Int))=η->qP s=ζ/\True)/\(decide ((↑(qH s_1):Int)=(0:Int))=ζ->((0:Int)<=(↑(qH s_1):Int)/\(↑(qH s_1):Int)<=(↑(size s_1):Int))/\ξ s_1 (toNat (↑(qH s_1):Int)) (size s_1)=ξ s_1 (toNat (↑(qH s_1):Int)) (size s_1)/\(size (ξ s_1 (toNat (↑(qH s_1):Int)) (size s_1))<=size s/\qP (ξ s_1 (toNat (↑(qH s_1):Int)) (size s_1))=qP s)/\size (ξ s_1 (toNat (↑(qH s_1):Int)) (size s_1))<size s_1/\True))/\(decide ((0:Int)<(↑(size s_1):Int))=ζ->qP s=η/\True)):=by kernel_rfl
def z45:q4p P 59 uP:=by
 refine qA (qcl (qgj zdy qjq)) (W:=zl9) Tryz.func59 λ(s:Ck)=>(zkp s).mpr ?_;intro h;simp only[γ,and_true,true_and,decide_eq_true_eq,decide_eq_false_iff_not];refine⟨Ζ _,λt u=>⟨λg=>⟨by omega,λg2=> ?_,λg2=> ?_⟩,λg=> ?_⟩⟩
 ·rw[←u.2,HJ t (by omega),if_pos (by omega)]
 ·have:=P0 t;rw[←u.2,HJ t (by omega),if_neg (by omega)];refine⟨by omega,⟨?_,rfl⟩,?_⟩
  ·simp;omega
  ·simp;omega
 ·rw[←u.2];exact zku t (by omega)
section
def H7:q4p P 72 Yq:=by refine qA js (W:=λ_=>{}) Tryz.func72 λ(s:Ck)=>(j08 s).mpr ?_;intro _;exact⟨rfl,trivial⟩
def ze6:q4p P 71 Yk:=by
 refine qA js (W:=λ_=>{}) Tryz.func71 λn=> ?_;cases n with
 |two=>exact(zk9 ()).mpr λ_=>trivial
 |three=>exact(zka ()).mpr λ_=>trivial
 |four=>exact(zkb ()).mpr λ_=>trivial
variable {L:List Int} {p:Pub}
def CB{x:SV} (h:qc qj x L p) {i:Nat} (hi:i<L.length):x.1≠noA/\q37 p (adr x.1 (i*1)) [.int .u8 L[i]]:=jX Uu (by decide) h hi
def Kf:q4p P 23 Q4:=by
 refine qA js (W:=λ_=>{}) Tryz.func23 λ⟨(x:SV),(L:List Int),(n:Int),(m:Int)⟩=>(j9n x L n m).mpr ?_;rintro⟨u,H,C,G,hL,A⟩ ⟨p,_,hp⟩;have hx:x.2.1=L.length:=hp.1;simp only[qB,γ,hx];obtain⟨i,rfl⟩:=κ u;have e:((i:Int)+1- 1).toNat=i:=by omega
 refine⟨λh=>⟨?_,?_⟩,λh=> ?_⟩
 ·unfold qo;rw[if_pos h]
 ·unfold qh;rw[if_pos h]
 ·have hi:i<L.length:=by omega
  rw[e];refine⟨by omega,by omega,by omega,(CB hp hi).1,L[i],λq hq=>(CB hq hi).2,?_⟩;have r:qo L i m=qqf L[i] m:=by unfold qo;rw[if_neg h,γ,Τ,Θ hi];rfl
  have B:=A L[i] (qqh hi);have J:qh L i=i+1:=by unfold qh;rw[if_neg h]
  rw[r,J];exact⟨by omega,by omega,rfl,rfl⟩
def PD:q4p P 22 UE:=by refine qA js (W:=λ_=>{}) Tryz.func22 λ⟨(x:SV),(L:List Int),(n:Int)⟩=>(zzc x L n).mpr ?_;rintro _ ⟨p,_,hp⟩;have hx:x.2.1=L.length:=hp.1;simp only[true_and,and_true,eq_self,hx]
variable {l:List GJ}
def z9h{s:Ck} {nm:List Ck} {j:Nat} (h:j<nm.length) (u:j<l.length):jA s (nm.drop j) (l.drop j)=if nm[j]=s then θ l[j]else jA s (nm.drop (j+1)) (l.drop (j+1)):=by rw[Α h,Α u,jA]
def LI{y:SV} (h:qc GJ.cells y l p) {i:Nat} (hi:i<l.length):y.1≠noA/\q37 p (adr y.1 (i*5)) l[i].cells:=jX ZI (by decide) h hi
def Lv{y:SV} {ks:List Ck} (h:qc qn y ks p) {i:Nat} (hi:i<ks.length):y.1≠noA/\q37 p (adr y.1 (i*1)) [.string ks[i]]:=jX j8 (by decide) h hi
def j96:q4p P 107 XZ:=by
 refine qA js (W:=jmp) Tryz.func107 λ⟨g,s⟩=>(get_eq g s).mpr ?_;rintro hw ⟨p,_,hp⟩;rw[GJ.wf_eq]at hw;obtain⟨_,V,J,_⟩:=hw;have h:=λq (hq:g.ok q)=>(by rw[GJ.ok_eq]at hq;exact hq.2.1:qc qn g.x g.nm q);have u:=λq (hq:g.ok q)=>(by rw[GJ.ok_eq]at hq;exact hq.1:qc GJ.cells g.y g.l q);have O:g.x.2.1=g.nm.length:=(h p hp).1;have T:g.y.2.1=g.l.length:=(u p hp).1;simp only[qB,γ,O,T];refine⟨⟨0,rfl,by omega,by simp⟩,?_⟩;rintro j ⟨U,C⟩;refine⟨λH=> ?_,λG=> ?_⟩
 ·have A:j<g.nm.length:=by omega
  have B:j<g.l.length:=by omega
  have hd:=z9h (s:=s) A B;rw[C]at hd;refine⟨⟨by omega,by omega⟩,(Lv (h p hp) A).1,g.nm[j],λq hq=>(Lv (h q hq) A).2,λhs=> ?_,λhs=>⟨by omega,j+1,by omega,⟨by omega,?_⟩,by omega⟩⟩
  ·rw[if_pos hs]at hd;refine⟨⟨by omega,by omega⟩,(LI (u p hp) B).1,g.l[j].k,g.l[j].n,g.l[j].s,g.l[j].y.1,g.l[j].y.2.1,g.l[j].y.2.2,g.l[j].x.1,g.l[j].x.2.1,g.l[j].x.2.2,λq hq=>(LI (u q hq) B).2,?_⟩;rw[hd];exact⟨rfl,rfl,rfl,rfl,rfl,rfl,rfl,rfl,rfl,rfl⟩
  ·rw[if_neg hs]at hd;exact hd.symm
 ·have:g.nm.drop j=[]:=Λ (by omega);rw[this,jA]at C
  ·rw[←C];exact⟨rfl,rfl,rfl,rfl,rfl,rfl,rfl,rfl,rfl,rfl⟩
  ·intros;simp at*
def yJ{n m:Int} (hL:z8 L) (h:0<m):0<=qo L n m/\qo L n m<m:=by
 unfold qo;split
 ·omega
 ·have:0<=L.getD n.toNat 0:=by
   rw[Τ];cases u:L[n.toNat]? with
   |none=>simp
   |some b=>exact(hL.2 b (List.mem_of_getElem? u)).1
  rw[qqo this];exact⟨Int.emod_nonneg _ (by omega),Int.emod_lt_of_pos _ h⟩
def yI{n:Int} (h:n<=L.length):n<=qh L n/\qh L n<=L.length/\qh L n<=n+1:=by unfold qh;split<;>omega
def zxz:q4p P 73 HC:=by
  refine qA (qcl (qgj Kf (qgj H7 (qgj j96 qjq)))) (W:=zeh) Tryz.func73 λ⟨(x:SV),(L:List Int),(n:Int),g⟩=>(zxy x L n g).mpr ?_;rintro⟨B,C,hL,hw⟩ ⟨p,_,hp,hg⟩;simp only[qB,γ,exists_const];have u:=λm (h:0<m)=>yJ (n:=n) (m:=m) hL h;refine⟨⟨λG=>⟨⟨λh=> ?_,λh1=>⟨λh=> ?_,λH=>⟨λh=> ?_,λV=> ?_⟩⟩⟩,?_⟩,λG=>λh=>G h.1⟩,?_⟩
  · unfold isNum;rw[h];decide
  · unfold isNum;rw[h];decide
  · unfold isNum;rw[h];decide
  · unfold isNum;rw[decide_eq_false h1,decide_eq_false H,decide_eq_false V];rfl
  · rintro _ _;have d0:∀{a b c d:Int×Int×Ck×Int},True:=λ{_ _ _ _}=>trivial;refine⟨λT=>⟨L,⟨B,C,by omega,by omega,hL⟩,λq hq=>hq.1,?_,?_⟩,λT=>⟨⟨λh=> ?_,λh=> ?_⟩,?_⟩⟩
    · have:=u 200 (by omega);omega
    · unfold zR;rw[if_pos ⟨G,T⟩];exact⟨rfl,rfl,rfl,rfl⟩
    · unfold ua;rw[h];decide
    · unfold ua;rw[decide_eq_false h];rfl
    rintro _ _;have J:¬(g.k=4/\isNum g.s=η):=λh=>(by rw[T]at h;exact absurd h.2 (by simp));refine⟨λU=>⟨L,⟨B,C,by omega,by omega,hL⟩,λq hq=>hq.1,u 3 (by omega),LG (qo L n 3),?_,?_⟩,λU=> ?_⟩
    · have V:=u 3 (by omega);generalize qo L n 3=r at V⊢;intro j v Z;cases j with
      |succ j=>simp at Z
      | zero=>
        have:r=0\/r=1\/r=2:=(by omega);rcases this with rfl|rfl|rfl<;>exact Z
    · unfold zR;rw[if_neg J,if_pos ⟨G,U⟩];exact⟨rfl,rfl,rfl,rfl⟩
    have n2:¬(g.k=4/\ua g.s=η):=λh=>(by rw[U]at h;exact absurd h.2 (by simp));refine⟨λO=>⟨L,⟨B,C,by omega,by omega,hL⟩,λq hq=>hq.1,?_⟩,λO=>⟨λY=> ?_,λY=> ?_⟩⟩
    · unfold zR;rw[if_neg J,if_neg n2,if_pos ⟨G,by unfold Kg;rw[O];decide⟩];exact⟨rfl,rfl,rfl,rfl⟩
    · unfold zR;rw[if_neg J,if_neg n2,if_neg (λh=>by unfold Kg at h;exact absurd h.2 (by rw[decide_eq_false O];simp)),if_pos ⟨G,by unfold Ys;rw[Y];decide⟩];exact⟨rfl,rfl,rfl,rfl⟩
    · rintro⟨_,h|h|h|h⟩
      · rw[T]at h;cases h
      · rw[U]at h;cases h
      · unfold Kg at h;rw[decide_eq_false O]at h;cases h
      · unfold Ys at h;rw[decide_eq_false Y]at h;cases h
  · rintro _ A;have J:¬(g.k=4/\isNum g.s=η):=λh=>A ⟨h.1, .inl h.2⟩;have n2:¬(g.k=4/\ua g.s=η):=λh=>A ⟨h.1, .inr (.inl h.2)⟩;have n3:¬(g.k=4/\Kg g.s=η):=λh=>A ⟨h.1, .inr (.inr (.inl h.2))⟩;have n4:¬(g.k=4/\Ys g.s=η):=λh=>A ⟨h.1, .inr (.inr (.inr h.2))⟩;unfold zR;rw[if_neg J,if_neg n2,if_neg n3,if_neg n4];refine⟨λX=>by rw[if_pos X];exact⟨rfl,rfl,rfl,rfl⟩,λX=>⟨⟨g,mkS [116,121,112,101]⟩,?_⟩⟩;simp only[true_and,eq_self];rw[if_neg X];refine⟨hw,λq hq=>hq.2,λh=>by rw[if_pos h];exact⟨rfl,rfl,rfl,rfl⟩,λh=>⟨λH=>by rw[if_neg h,if_pos H];exact⟨rfl,rfl,rfl,rfl⟩,λH=>by rw[if_neg h,if_neg H];exact⟨rfl,rfl,rfl,rfl⟩⟩⟩
def zxx{g:GJ} {n:Int} (hL:z8 L) (h:n<=L.length):(n<=(zR g L n).2.2.2/\(zR g L n).2.2.2<=L.length)/\(-50<=(zR g L n).2.1/\(zR g L n).2.1<200)/\(zR g L n).2.2.1.size<10:=by
 have b:=yI h;have A:=yJ (n:=n) (m:=200) hL (by omega);have B:=yJ (n:=n) (m:=2) hL (by omega);have t:(LG (qo L n 3)).size<10:=by
  unfold LG;split
  ·decide
  ·split<;>decide
 have z:(mkS []).size<10:=by decide
 have u:(mkS [88]).size<10:=by decide
 unfold zR;repeat' split
 all_goals refine⟨⟨?_,?_⟩,⟨?_,?_⟩,?_⟩
 all_goals first|exact t|exact z|exact u| (simp only;omega)
end
section
def xP:q4p P 63 wY:=by refine qA js (W:=λ_=>{}) Tryz.func63 λ⟨S,(e0:Int),(e:Int)⟩=>(zop S e0 e).mpr ?_;simp only[decide_eq_true_eq,decide_eq_false_iff_not,true_and,and_true,eq_self];intro _;exact⟨λh=>if_pos h,λh=>if_neg h⟩
def HN:q4p P 69 Vh:=by
 refine qA (qcl (qgj xP qjq)) (W:=λ_=>{}) Tryz.func69 λ⟨S,(e:Int),t⟩=>(zx7 S e t).mpr ?_;simp only[decide_eq_true_eq,decide_eq_false_iff_not,true_and,and_true,eq_self];intro _;refine⟨λh=>⟨S,rfl,rfl,?_,?_,?_,?_⟩,λh=>⟨qv y9 S,by omega,by omega,?_,?_,?_,?_⟩⟩
 ·unfold qw;rw[if_pos (by omega)]
 ·unfold qE;rw[if_pos (by omega)]
 ·unfold qK;rw[if_pos (by omega)]
 ·unfold qE;rw[if_pos (by omega)]
 ·unfold qw;rw[if_neg (by omega)];omega
 ·unfold qE;rw[if_neg (by omega)];simp
 ·unfold qK;rw[if_neg (by omega)]
 ·unfold qE;rw[if_neg (by omega),zu];rfl
variable {s:Ck} {l:List Ck} {j:Nat}
def zih(h:j<l.length):Z6 s (l.drop j) j=if l[j]=s then(j:Int)+1 else Z6 s (l.drop (j+1)) (j+1):=by rw[Α h,Z6]
def zw9{i:Nat} (h:i<l.length):∀(j:Nat) (v:Value),[qqp l[i]][j]? =θ v->(qa qn l)[0+i*1+j]? =θ v:=λj v u=>by
 cases j with
 |zero=>rw[Ε,ZE j8 l i h 0 (by decide)];exact u
 |succ j=>simp at u
def zis:q4p P 68 UC:=by
 refine qA js (W:=C0) Tryz.func68 λ(s:Ck)=>(zyj s).mpr ?_;simp only[decide_eq_true_eq,decide_eq_false_iff_not,true_and,and_true,eq_self,γ];intro _;refine⟨⟨0,rfl,by omega,rfl⟩,?_⟩;rintro j ⟨G,B⟩;refine⟨λu=> ?_,λA=> ?_⟩
 ·have C:j<kinds.length:=by show j<14;have:(j:Int)<14:=u;omega
  have hd:=zih (s:=s) C;rw[B]at hd;refine⟨⟨by omega,by have:(j:Int)<14:=u;exact this⟩,kinds[j],zw9 C,λh=>⟨by omega,by rw[hd,if_pos h]⟩,λh=>⟨by omega,j+1,by omega,⟨by have:(j:Int)<14:=u;omega,by rw[hd,if_neg h]⟩,by have:(j:Int)<14:=u;omega⟩⟩
 ·have:¬((j:Int)<14):=A;rw[Λ (by show 14<=j;omega),Z6]at B;exact B.symm
def zrg:q4p P 122 Cf:=by
 refine qA js (W:=λ_=>{}) Tryz.func122 λ(k:Int)=>(zrf k).mpr ?_;simp only[decide_eq_true_eq,decide_eq_false_iff_not,true_and,and_true,eq_self,γ];intro _;refine⟨λh=>by unfold ub;rw[if_pos (.inl h)],λh=>⟨λu=>by unfold ub;rw[if_pos (.inr u)],λu=>⟨⟨by omega,by show k<15;omega⟩,ub k,?_,rfl⟩⟩⟩;obtain⟨j,rfl⟩:=κ (show 0<=k by omega);obtain⟨i,rfl⟩:∃i,j=i+1:=⟨j- 1,by omega⟩;have hi:i+1<(mkS []::kinds).length:=by show i+1<15;omega
 have e:ub ((i+1:Nat):Int)=(mkS []::kinds)[i+1]:=by unfold ub;rw[if_neg (by omega),γ,Nat.add_sub_cancel,Τ,Θ (by simpa using hi)];rfl
 rw[e,γ];exact zw9 (l:=mkS []::kinds) hi
def zf9{l:List AT} (h:j<l.length):findF s (l.drop j) j=if l[j].nm=s/\9<=l[j].k/\l[j].k<=11 then θ j else findF s (l.drop (j+1)) (j+1):=by rw[Α h,findF]
def H9{l:List AT} {i:Nat} (h:i<l.length):∀(j:Nat) (v:Value),l[i].cells[j]? =θ v->(qa AT.cells l)[0+i*10+j]? =θ v:=λj v u=>by have A:j<10:=(List.getElem?_eq_some_iff.mp u).1;rw[Ε,ZE y9 l i h j A];exact u
def zd5:q4p P 97 UB:=by
 refine qA js (W:=CY) Tryz.func97 λ⟨S,(e:Int),s⟩=>(zos S e s).mpr ?_;simp only[decide_eq_true_eq,decide_eq_false_iff_not,true_and,and_true,eq_self,γ];intro T;refine⟨⟨0,rfl,by omega,rfl⟩,?_⟩;rintro j ⟨O,G⟩;refine⟨λJ=> ?_,λH=> ?_⟩
 ·have u:j<S.length:=by omega
  have hd:=zf9 (s:=s) u;rw[G]at hd;refine⟨⟨by omega,by omega⟩,S[j].k,S[j].nm,S[j].al.1,S[j].al.2.1,S[j].al.2.2,S[j].it,S[j].sy.1,S[j].sy.2.1,S[j].sy.2.2,S[j].hd,S[j].df,S[j].sz,S[j].f.1,S[j].f.2.1,S[j].f.2.2,S[j].br.1,S[j].br.2.1,S[j].br.2.2,H9 u,λA=>⟨λB=>⟨λC=> ?_,λC=>⟨by omega,j+1,by omega,⟨by omega,?_⟩,by omega⟩⟩,λB=>⟨by omega,j+1,by omega,⟨by omega,?_⟩,by omega⟩⟩,λA=>⟨by omega,j+1,by omega,⟨by omega,?_⟩,by omega⟩⟩
  ·rw[hd,if_pos ⟨A,B,C⟩];exact⟨rfl,rfl⟩
  ·rw[hd,if_neg (λh=>C h.2.2)]
  ·rw[hd,if_neg (λh=>B h.2.1)]
  ·rw[hd,if_neg (λh=>A h.1)]
 ·rw[Λ (by omega),findF]at G;rw[←G];exact⟨rfl,rfl⟩
def jag:q4p P 99 Av:=by
 refine qA (qcl (qgj zrg qjq)) (W:=λ_=>{}) Tryz.func99 λ⟨S,(t:Int)⟩=>(jaf S t).mpr ?_;simp only[decide_eq_true_eq,decide_eq_false_iff_not,ω,ψ,true_and,and_true,eq_self,γ];intro C;refine⟨λh=>by unfold u9;rw[if_pos (.inl h)],λh=>⟨λB=>by unfold u9;rw[if_pos (.inr B)],λB=> ?_⟩⟩;obtain⟨j,rfl⟩:=κ (show 0<=t by omega);have A:j<S.length:=by omega
 rw[γ];have e1:u9 S (j:Int)=if S[j].nm=mkS []then ub S[j].k else S[j].nm:=by unfold u9;rw[if_neg (by omega),γ,Θ A]
 have c1:∀(i:Nat) (v:Value),[qqp S[j].nm][i]? =θ v->(qa AT.cells S)[0+j*10+1+i]? =θ v:=λi v hi=>by
  cases i with
  |zero=>exact H9 A 1 v hi
  |succ i=>simp at hi
 refine⟨⟨by omega,by omega⟩,S[j].nm,c1,λu=>⟨⟨by omega,by omega⟩,S[j].nm,c1,by rw[e1,if_neg u]⟩,λu=>⟨⟨by omega,by omega⟩,S[j].k,λi v hi=> ?_,S[j].k,rfl,by rw[e1,if_pos u]⟩⟩;cases i with
 |zero=>exact H9 A 0 v hi
 |succ i=>simp at hi
def zj1:q4p P 134 Pt:=by
 refine qA js (W:=λ_=>{}) Tryz.func134 λ(c:Int)=>(zj0 c).mpr ?_;rintro⟨h,u⟩;obtain⟨n,rfl⟩:=κ h;simp only[decide_eq_true_eq,decide_eq_false_iff_not,γ,and_true];repeat' first|intro _|apply qq2
 all_goals (rw[qq3];simp[isLt];omega)
def zom:q4p P 135 PS:=by
 refine qA js (W:=λ_=>{}) Tryz.func135 λ(c:Int)=>(zol c).mpr ?_;rintro⟨h,u⟩;obtain⟨n,rfl⟩:=κ h;simp only[decide_eq_true_eq,decide_eq_false_iff_not,γ,and_true];repeat' first|intro _|apply qq2
 all_goals (rw[qq3];simp[K2];omega)
def j9p(h:j<s.size):xu s (s.size- j) j=(Vy s j&&xu s (s.size- (j+1)) (j+1)):=by rw[show s.size- j=s.size- (j+1)+1 by omega,xu,if_pos h]
def PE:q4p P 124 Yp:=by
 refine qA (qcl (qgj zj1 (qgj zom qjq))) (W:=C3) Tryz.func124 λ(s:Ck)=>(zzd s).mpr ?_;simp only[decide_eq_true_eq,decide_eq_false_iff_not,ω,ψ,true_and,and_true,eq_self,γ];intro hs;refine⟨⟨0,rfl,by omega,rfl⟩,?_⟩;rintro j ⟨J,A⟩;have H:=uN s j;refine⟨λG=> ?_,λC=> ?_⟩
 ·have hd:=j9p (s:=s) (j:=j) (by omega);rw[A]at hd;refine⟨⟨by omega,by omega⟩,⟨by omega,by omega⟩,λh=>⟨λB=> ?_,λB=>⟨⟨by omega,by omega⟩,⟨by omega,by omega⟩,λu=> ?_,λu=>⟨by omega,j+1,by omega,⟨by omega,?_⟩,by omega⟩⟩⟩,λh=>⟨by omega,j+1,by omega,⟨by omega,?_⟩,by omega⟩⟩
  ·unfold vV;rw[hd];unfold Vy;rw[h,decide_eq_false (by omega)];rfl
  ·unfold vV;rw[hd];unfold Vy;rw[h,u,Bool.and_false];rfl
  ·rw[hd];unfold Vy;rw[h,u,decide_eq_true (by omega)];rfl
  ·rw[hd];unfold Vy;rw[h];rfl
 ·rw[show s.size- j=0 by omega,xu]at A;unfold vV;rw[←A];exact j6 (by omega)
def zze{s q:Ck} (h:j<s.size+1):x_ s (s.size+1- j) j q=if j<s.size/\bat s j≠46 then x_ s (s.size+1- (j+1)) (j+1) (q++s.extract j (j+1))else if vV q=η then x_ s (s.size+1- (j+1)) (j+1) (mkS [])else false:=by rw[show s.size+1- j=s.size+1- (j+1)+1 by omega,x_]
def zq7:q4p P 123 Lc:=by
 refine qA (qcl (qgj PE qjq)) (W:=zwh) Tryz.func123 λ(s:Ck)=>(parts_eq s).mpr ?_;simp only[decide_eq_true_eq,decide_eq_false_iff_not,ω,ψ,true_and,and_true,eq_self,γ];intro hs;refine⟨⟨⟨0,mkS []⟩,rfl,rfl,by omega,Ζ _,rfl⟩,?_⟩;rintro⟨j,q⟩ ⟨B,hq,h⟩;simp only at B hq h⊢;have t1:((j:Int)+1).toNat=j+1:=by omega
 refine⟨λhle=> ?_,λA=> ?_⟩
 ·have hd:=zze (s:=s) (q:=q) (j:=j) (by omega);rw[h]at hd;rw[t1];refine⟨λC=>⟨⟨by omega,by omega⟩,λu=>⟨by omega,⟨by omega,by omega,by omega⟩,?_,by omega,⟨j+1,q++s.extract j (j+1)⟩,rfl,rfl,⟨by show j+1<=_;omega,?_,?_⟩,by show s.size+1- (j+1)<_;omega⟩,λu=>⟨by omega,λhp=> ?_,λhp=>⟨by omega,⟨j+1,mkS []⟩,rfl,rfl,⟨by show j+1<=_;omega,χ _,?_⟩,by show s.size+1- (j+1)<_;omega⟩⟩⟩,λA=>⟨by omega,λhp=> ?_,λhp=>⟨by omega,⟨j+1,mkS []⟩,rfl,rfl,⟨by show j+1<=_;omega,χ _,?_⟩,by show s.size+1- (j+1)<_;omega⟩⟩⟩
  ·rw[Δ];omega
  ·show(q++s.extract j (j+1)).size<=j+1;rw[Ι,Δ];omega
  ·rw[hd,if_pos ⟨by omega,by omega⟩]
  ·rw[hd,if_neg (by omega),hp];rfl
  ·rw[hd,if_neg (by omega),if_pos hp]
  ·rw[hd,if_neg (by omega),hp];rfl
  ·rw[hd,if_neg (by omega),if_pos hp]
 ·rw[show s.size+1- j=0 by omega,x_]at h;exact h.symm
def zhc:q4p P 102 HP:=by
 refine qA js (W:=zkw) Tryz.func102 λ(s:Ck)=>(zhb s).mpr ?_;simp only[decide_eq_true_eq,decide_eq_false_iff_not,ω,ψ,true_and,and_true,eq_self,γ];intro hs;refine⟨by omega,⟨s.size,rfl,Ζ _,rfl⟩,?_⟩;rintro j ⟨B,u⟩;refine⟨λA=> ?_,λA=> ?_⟩
 ·obtain⟨i,rfl⟩:∃i,j=i+1:=⟨j- 1,by omega⟩;have e:((i+1:Nat):Int)- 1=(i:Int):=by omega
  rw[kF]at u;rw[e,γ];refine⟨⟨by omega,by omega⟩,λh=>⟨⟨by omega,by omega⟩,?_⟩,λh=>⟨by omega,i,by omega,⟨by omega,?_⟩,by omega⟩⟩
  ·rw[←u,if_pos (by omega)]
  ·rw[←u,if_neg (by omega)]
 ·obtain rfl:j=0:=by omega
  rw[kF]at u;exact u.symm
def zir:q4p P 98 LD:=by refine qA js (W:=λ_=>{}) Tryz.func98 λ⟨a,b⟩=>(join_eq a b).mpr ?_;simp only[decide_eq_true_eq,decide_eq_false_iff_not,ω,ψ,true_and,and_true,eq_self,γ];rintro⟨A,B⟩;have z:(mkS [46]).size=1:=rfl;unfold vU;refine⟨λh=>⟨by omega,if_pos (.inl h)⟩,λh=>⟨λu=>⟨by omega,if_pos (.inr u)⟩,λu=>⟨by omega,by rw[Ι];omega,if_neg (by simp[h,u])⟩⟩⟩
def zy0(h:j<s.size):Z5 s (s.size- j) j=(decide (bat s j=46)||Z5 s (s.size- (j+1)) (j+1)):=by rw[show s.size- j=s.size- (j+1)+1 by omega,Z5,if_pos h]
def zff{a b:Ck}:(vU a b).size<=a.size+b.size+1:=by
 have z:(mkS [46]).size=1:=rfl;unfold vU;split
 ·rw[Ι];omega
 ·rw[Ι,Ι];omega
def z6a{a b:Ck}:(vT a b).size<=a.size+b.size+1:=by
 unfold vT;split
 ·omega
 ·have:=zff (a:=b) (b:=a);omega
def zlc:q4p P 101 HY:=by
 refine qA (qcl (qgj zir (qgj zq7 (qgj xP qjq)))) (W:=zwo) Tryz.func101 λ⟨S,(e:Int),a,b⟩=>(zlb S e a b).mpr ?_;simp only[decide_eq_true_eq,decide_eq_false_iff_not,ω,ψ,true_and,and_true,eq_self,γ];rintro⟨H,J⟩;have hw:=z6a (a:=a) (b:=b);refine⟨⟨by omega,by omega⟩,⟨⟨0,vU b a⟩,rfl,rfl,χ _,rfl⟩,?_⟩;rintro⟨j,q⟩ ⟨C,u⟩;simp only at C u⊢;refine⟨λG=> ?_,λB=> ?_⟩
 ·have hd:=zy0 (s:=a) (j:=j) (by omega);rw[hd]at u;refine⟨⟨by omega,by omega⟩,λh=>⟨by omega,⟨j+1,a⟩,rfl,by show((j+1:Nat):Int)=_;omega,⟨by show j+1<=_;omega,?_⟩,by show a.size- (j+1)<_;omega⟩,λh=>⟨by omega,⟨j+1,q⟩,rfl,by show((j+1:Nat):Int)=_;omega,⟨by show j+1<=_;omega,?_⟩,by show a.size- (j+1)<_;omega⟩⟩
  ·rw[decide_eq_true (by omega),Bool.true_or,if_pos rfl]at u;rw[←u];exact ite_self _
  ·rw[decide_eq_false (by omega),qqc]at u;exact u
 ·rw[show a.size- j=0 by omega,Z5,if_neg (by simp)]at u;rw[u];unfold yF;refine⟨λh=>⟨S,rfl,rfl,rfl,rfl,if_pos (.inl h),rfl⟩,λh=>⟨by omega,λA=>⟨S,rfl,rfl,rfl,rfl,if_pos (.inr A),rfl⟩,λA=>⟨rfl,if_neg (by rw[A];simp[h])⟩⟩⟩
def J':q4p P 66 xS:=by
 refine qA js (W:=CZ) Tryz.func66 λ⟨g,s⟩=>(zy4 g s).mpr ?_;rintro hw ⟨p,_,hp⟩;rw[GJ.wf_eq]at hw;obtain⟨_,hl,V,_⟩:=hw;have G:=λq (hq:g.ok q)=>(by rw[GJ.ok_eq]at hq;exact hq.2.1:qc qn g.x g.nm q);have H:=λq (hq:g.ok q)=>(by rw[GJ.ok_eq]at hq;exact hq.1:qc GJ.cells g.y g.l q);have X:g.x.2.1=g.nm.length:=(G p hp).1;have Y:g.y.2.1=g.l.length:=(H p hp).1;simp only[qB,γ,X,Y];refine⟨⟨0,rfl,by omega,rfl⟩,?_⟩;rintro j ⟨Z,C⟩;have u:qm s g=ι->(((qm s g).getD zJ).k=0/\((qm s g).getD zJ).n=0/\((qm s g).getD zJ).s=mkS []/\((qm s g).getD zJ).y.1=noA/\((qm s g).getD zJ).y.2.1=0/\((qm s g).getD zJ).y.2.2=0/\((qm s g).getD zJ).x.1=noA/\((qm s g).getD zJ).x.2.1=0/\((qm s g).getD zJ).x.2.2=0/\(qm s g).isSome=ζ):=λh=>by rw[h];exact⟨rfl,rfl,rfl,rfl,rfl,rfl,rfl,rfl,rfl,rfl⟩
 have A:g.nm.length<=j->qm s g=none:=λh=>by
  rw[←C,Λ h];split
  ·rw[jA];intros;simp at*
  ·rfl
 refine⟨λB=>⟨λU=>⟨λT=> ?_,λh=>by omega⟩,λh=>u (A (by omega))⟩,λB=>u (by rw[←C,if_neg B])⟩;have J:j<g.nm.length:=by omega
 have O:j<g.l.length:=by omega
 have hd:=z9h (s:=s) J O;rw[if_pos B]at C;rw[C]at hd;refine⟨⟨by omega,by omega⟩,(Lv (G p hp) J).1,g.nm[j],λq hq=>(Lv (G q hq) J).2,λhs=> ?_,λhs=>⟨by omega,j+1,by omega,⟨by omega,?_⟩,by omega⟩⟩
 ·rw[if_pos hs]at hd;refine⟨⟨by omega,by omega⟩,(LI (H p hp) O).1,g.l[j].k,g.l[j].n,g.l[j].s,g.l[j].y.1,g.l[j].y.2.1,g.l[j].y.2.2,g.l[j].x.1,g.l[j].x.2.1,g.l[j].x.2.2,λq hq=>(LI (H q hq) O).2,?_⟩;rw[hd];exact⟨rfl,rfl,rfl,rfl,rfl,rfl,rfl,rfl,rfl,rfl⟩
 ·rw[if_neg hs]at hd;rw[if_pos B];exact hd.symm
def Pm:q4p P 100 Ux:=by
  refine qA (qcl (qgj J' (qgj xP qjq))) (W:=λ_=>{}) Tryz.func100 λ⟨S,(e:Int),g,s,b⟩=>(zrh S e g s b).mpr ?_;rintro hw ⟨p,_,hp⟩;simp only[qB,γ];refine⟨⟨g,s⟩,rfl,rfl,rfl,rfl,rfl,rfl,rfl,rfl,rfl,rfl,hw,λq hq=>hq,?_⟩;simp only;unfold jW;cases B:qm s g with
  | none=>
    refine⟨λ_=>⟨λA=> ?_,λA=>⟨λ_=>⟨S,rfl,rfl,?_,rfl,?_,rfl⟩,λh=>absurd h (by simp)⟩⟩,λh=>absurd h (by simp)⟩
    · simp only[A];refine⟨?_,?_⟩<;>first|rfl|trivial
    · simp only[A];rfl
    · simp only[A];rfl
  | some t=>
    refine⟨λh=>absurd h (by simp),λ_=>⟨λh=>absurd h (by simp),λ_=>⟨λu=>⟨S,rfl,rfl,?_,rfl,?_,rfl⟩,λu=> ?_⟩⟩⟩
    · have u:¬t.k=4:=u;simp only[if_neg u]
    · have u:¬t.k=4:=u;simp only[if_neg u]
    · have u:t.k=4:=u;simp only[if_pos u];refine⟨?_,?_⟩<;>first|rfl|trivial
end
def jv:List GJ->Int->List Ck->List Ck×Int
 | [],e,acc=>(acc,e)
 |g::l,e,acc=>if e=0 then jv l (if g.k=4 then 0 else 2) (acc++[g.s])else(acc,e)
def y6(g:GJ) (s:Ck) (e:Int):Int:=if((qm s g).getD zJ).k=5 then e else qt e 2
def zl(g:GJ) (s:Ck) (e:Int):List Ck×Bool×Int:=if(qm s g).isSome=η then((jv ((qm s g).getD zJ).l (y6 g s e) []).1,η,(jv ((qm s g).getD zJ).l (y6 g s e) []).2)else([],ζ,e)
def k0f(l:List Ck):List SV->PF
 | [x]=>⟨η,qc qn x l,λ_ _ h e=>ji h e⟩
 |_=>{}
def z72:Ct where
 σ:=List AT×Int×GJ×Ck
 args:=λ⟨S,e,g,s⟩=>[.ptr 1 0,g.av, .sv (.string s)]
 h:=λ⟨S,e,g,s⟩=>jF S e 2 3
 m:=4
 pre:=λ⟨S,e,g,s⟩=>g.wf
 mem:=λ⟨S,e,g,s⟩=>gM g
 r:=λ⟨S,e,g,s⟩=> .tup [.tsl 4, .sv (.bool (zl g s e).2.1)]
 h':=λ⟨S,e,g,s⟩=>jF S (zl g s e).2.2 2 3
 m':=5
 g:=λ⟨S,e,g,s⟩=>θ {β:=Unit,ks:=[4],pre:=λ_=>True,mem:=λ_ xs=>k0f (zl g s e).1 xs}
def wE(S:List AT) (e:Int) (r k:Nat):Nat×AO:=(1, .cells 90 (θ 0) ζ [.ssl r 0 S.length 10 k, .sv (.int .i64 e)])
def zwk:z72.σ->WayF:=λ⟨S,e,g,s⟩=>{
 cut:=λi _ _=>match i with
  |6=>θ {σ:=Unit,t:=λ_=>[],h:=λ_=>[wE S (y6 g s e) 2 3],more:=0,μ:=λ_=>0,keep:=[0,6,7,8]}
  |_=>ι
 ann:=λ_ _ _=>θ {σ:=Nat×Int×List Ck,pre:=λ⟨j,e',acc⟩=>j<=((qm s g).getD zJ).l.length/\acc.length<=j/\jv (((qm s g).getD zJ).l.drop j) e' acc=jv ((qm s g).getD zJ).l (y6 g s e) [],t:=λ⟨j,e',acc⟩=>[(11, .sv (.int .i64 (j:Int))),(10, .ssl 7 0 acc.length 1 8)],h:=λ⟨j,e',acc⟩=>[(7, .row 9 0 (qa qn acc)),wE S e' 2 3],more:=2,μ:=λ⟨j,e',acc⟩=>((qm s g).getD zJ).l.length- j,keep:=[0,6,7,8]}
 pubE:=[6]}
def kT(n:Nat) (a:AT):Prop:=(1<=a.k/\a.k<=14)/\(a.k=12\/a.k=13->0<=a.it/\a.it<n)/\(∀b∈a.brs,0<=b/\b<n)/\(a.k=14->a.brs≠[])/\(∀f∈a.fs,(0<=f.ty/\f.ty<n)/\f.df.wf)/\(a.k=10->a.sys≠[])/\(a.k=11->0<=a.sz/\a.sz<=5000)/\(a.fs.length<=7/\a.brs.length<=30/\a.sys.length<=30)
def grown(S:List AT) (e:Int) (T:List AT) (e':Int):Prop:=(S++T).length<=60/\(e'=0->e=0/\∀a∈T,kT (S++T).length a)
def Ht(T:List AT):PF:=⟨η,λp=>∀a∈T,a.ok p,λ_ _ h e a u=>AT.ok_mono h (e a u)⟩
abbrev qW:=List AT×Int×Int
def Ld:CtR where
 σ:=List AT×Int×Ck×Ck
 args:=λ⟨S,e,s,sp⟩=>[.ptr 1 0, .sv (.string s), .sv (.string sp)]
 h:=λ⟨S,e,s,sp⟩=>jF S e 2 3
 m:=4
 pre:=λ⟨S,e,s,sp⟩=>S.length<=60/\s.size<100000/\sp.size<100000
 β:=λ_=>qW
 post:=λ⟨S,e,s,sp⟩ ⟨T,e',r⟩=>grown S e T e'/\(e'=0->0<=r/\r<(S++T).length)
 pm:=λ_ ⟨T,e',r⟩=>Ht T
 r:=λ_ ⟨T,e',r⟩=> .sv (.int .i64 r)
 h':=λ⟨S,e,s,sp⟩ ⟨T,e',r⟩=>jF (S++T) e' 4 5
 m':=6
def zwj:Ld.σ->WayF:=λ⟨S,e,s,sp⟩=>{
 cut:=λi _ _=>match i with
  |4=>θ {σ:=Unit,t:=λ_=>[],h:=λ_=>[],more:=0,μ:=λ_=>0,keep:=[0,1,2,6,7]}
  |_=>ι
 ann:=λ_ _ _=>θ {σ:=Nat×Bool,pre:=λ⟨j,d⟩=>j<=s.size,t:=λ⟨j,d⟩=>[(9, .sv (.int .i64 (j:Int))),(8, .sv (.bool d))],h:=λ_=>[],more:=0,μ:=λ⟨j,d⟩=>s.size- j,keep:=[0,1,2,6,7]}}
section
variable (b:GJ×Ck) (d:List AT) (g:Int) (c:GJ) (e:Ck) (a:Nat×Int×List Ck) (o:Prop) (q:Nat×Int×List Ck) (r:Nat->Option Obj) (u:Nat) (p:Option Addr)
 abbrev Yv:=qa AT.cells d=qa AT.cells d
 abbrev z55:=υ (qm b.2 b.1) zJ
 def Wn:=GJ.k (z55 b)=GJ.k (z55 b)/\GJ.n (z55 b)=GJ.n (z55 b)/\GJ.s (z55 b)=GJ.s (z55 b)/\(GJ.y (z55 b)).1=(GJ.y (z55 b)).1/\(GJ.y (z55 b)).2.1=(GJ.y (z55 b)).2.1/\(GJ.y (z55 b)).2.2=(GJ.y (z55 b)).2.2/\(GJ.x (z55 b)).1=(GJ.x (z55 b)).1/\(GJ.x (z55 b)).2.1=(GJ.x (z55 b)).2.1/\(GJ.x (z55 b)).2.2=(GJ.x (z55 b)).2.2/\(∀f,True/\GJ.ok c f->True/\GJ.ok c f)/\o
 abbrev Yw:=GJ.l (υ (qm e c) zJ)
 def Fy:=a.1<=length (Yw c e)/\length a.2.2<=a.1/\jv (drop a.1 (Yw c e)) a.2.1 a.2.2=jv (Yw c e) (y6 c e g) []
 abbrev TG:=(↑a.1:Int)<(↑(GJ.y (z55 b)).2.1:Int)
 def L8:=(0<=(↑a.1:Int)/\TG b a)/\(GJ.y (z55 b)).1≠noA/\o
 def TE:=(∀f,True/\GJ.ok c f->q37 f (qqk (adr (GJ.y (z55 b)).1 (toNat (↑a.1:Int)*5)) 2) [string e])/\length (qa qn a.2.2)=length a.2.2*1/\(length a.2.2+nat_lit 1)*16<=140737488355328/\Jb ((↑a.1:Int)+1)/\o
 def TH:=(↑a.1:Int)=(↑q.1:Int)+1/\length a.2.2=length q.2.2+nat_lit 1/\o
 def TF:=Wn b c ((Fy g c e a)/\length (Yw c e)- a.1<length (Yw c e)- q.1/\True)
 def lQ:=L8 b a (∃f,TE b c f a (∃(h:Nat×Int×List Ck),TH h (length d=length d/\h.2.1=a.2.1/\qa qn h.2.2=qa qn a.2.2++[string f]/\Yv d/\TF b g c e h a) a))
 def lP:=L8 b a (∃(f:Int),(∀m,True/\GJ.ok c m->q37 m (qqk (adr (GJ.y (z55 b)).1 (toNat (↑a.1:Int)*5)) 0) [int i64 f])/\((!decide (f=4))=η->∃(h:List AT),(2:Int)=2/\length h=length d/\a.2.1=a.2.1/\qa AT.cells h=qa AT.cells d/\True/\L8 b a (∃j,TE b c j a (∃(i:Nat×Int×List Ck),TH i (length d=length h/\i.2.1=qt a.2.1 2/\qa qn i.2.2=qa qn a.2.2++[string j]/\qa AT.cells d=qa AT.cells h/\TF b g c e i a) a)))/\((!decide (f=4))=ζ->lQ b d g c e a))
 def TI:=(True/\GJ.ok c r)/\length a.2.2<=u/\qgm r p (take (length a.2.2*nat_lit 1) (qa qn a.2.2))
 def Sn:=∀(f m h:Nat) (j:Option Addr) (v i:Nat),(∃t,TI c a t i j)->∃(w:Unit),j=j/\length a.2.2=length a.2.2/\i=i/\(zl c e g).2.1=η/\length d=length d/\(zl c e g).2.2=a.2.1/\Yv d/\Pl j/\True/\(∀i8,TI c a i8 i j->qc qn (j,length a.2.2,i) (zl c e g).1 i8)/\True
 def lO:=Ji (a.2.1=0) (lP b d g c e a) (Sn d g c e a)
 abbrev lM:=Ji (TG b a) (lO b d g c e a) (Sn d g c e a)
 def lL:=(∃(f:Nat×Int×List Ck),(↑f.1:Int)=0/\length f.2.2=0/\length d=length d/\f.2.1=y6 c e g/\Yv d/\Wn b c ((Fy g c e f)/\True))/\∀(h:Nat×Int×List Ck),Fy g c e h->lM b d g c e h
 def lK:=(((!decide (GJ.k (z55 b)=5))=η->∃(f:List AT),(2:Int)=2/\length f=length d/\g=g/\qa AT.cells f=qa AT.cells d/\True/\∃(m:Unit),length d=length f/\y6 c e g=qt g 2/\qa AT.cells d=qa AT.cells f/\Wn b c (True/\True))/\((!decide (GJ.k (z55 b)=5))=ζ->∃(j:Unit),length d=length d/\y6 c e g=g/\Yv d/\Wn b c (True/\True)))/\∀(i:Unit),True->lL b d g c e
end
def zkh(S:List AT) (e:Int) (g:GJ) (s:Ck):qk2 P (qf5 [(66,xS),(63,wY)]) Tryz.f103 z72 (zwk) ⟨S,e,g,s⟩=(GJ.wf g->(∃(p:Pub),True/\GJ.ok g p)->∃(s_1:GJ×Ck),GJ.k s_1.1=GJ.k g/\GJ.n s_1.1=GJ.n g/\GJ.s s_1.1=GJ.s g/\(GJ.y s_1.1).1=(GJ.y g).1/\(GJ.y s_1.1).2.1=(GJ.y g).2.1/\(GJ.y s_1.1).2.2=(GJ.y g).2.2/\(GJ.x s_1.1).1=(GJ.x g).1/\(GJ.x s_1.1).2.1=(GJ.x g).2.1/\(GJ.x s_1.1).2.2=(GJ.x g).2.2/\s_1.2=s/\GJ.wf s_1.1/\(∀(p:Pub),True/\GJ.ok g p->GJ.ok s_1.1 p)/\((!Option.isSome (qm s_1.2 s_1.1))=η->∃(b:Unit),noA=noA/\(0:Nat)=0/\(0:Nat)=0/\(zl g s e).2.1=ζ/\length S=length S/\(zl g s e).2.2=e/\Yv S/\Pl noA/\True/\(∀(p:Pub),True/\GJ.ok g p->qc qn (noA,(0:Nat),(0:Nat)) (zl g s e).1 p)/\True)/\((!Option.isSome (qm s_1.2 s_1.1))=ζ->lK s_1 S e g s)):=by kernel_rfl
def zqz:=λS e g s=>ς (zkh S e g s) (by delta Ji Jb Jt Jf Yv z55 Wn Yw Fy TG L8 TE TH TF lQ lP TI Sn lO lM lL lK;exact rfl)
section
variable (b:Ck) (c:List AT) (d:Int) (e:Ck) (g:Nat×Bool) (i:qW) (j:List AT) (o:Prop) (p:Nat×Bool)
 abbrev Fz:=(grown c d i.1 i.2.1/\(i.2.1=0->0<=i.2.2/\i.2.2<(↑(length (c++i.1)):Int)))/\(∀a,True->∀(h:AT),h∈i.1->AT.ok h a)/\True
 def Yx:=length c=length c/\d=d/\qa AT.cells c=qa AT.cells c/\o
 def lW:=Ji (qQ b<=8) (∃(a:List AT×Int×AT),AT.k a.2.2=qQ b/\AT.nm a.2.2=mkS []/\(AT.al a.2.2).1=noA/\(AT.al a.2.2).2.1=0/\(AT.al a.2.2).2.2=0/\AT.it a.2.2=0/\(AT.sy a.2.2).1=noA/\(AT.sy a.2.2).2.1=0/\(AT.sy a.2.2).2.2=0/\AT.hd a.2.2=ζ/\AT.df a.2.2=mkS []/\AT.sz a.2.2=0/\(AT.f a.2.2).1=noA/\(AT.f a.2.2).2.1=0/\(AT.f a.2.2).2.2=0/\(AT.br a.2.2).1=noA/\(AT.br a.2.2).2.1=0/\(AT.br a.2.2).2.2=0/\length a.1=length c/\a.2.1=d/\qa AT.cells a.1=qa AT.cells c/\True/\∃(h:qW),h.2.2=qw a.1/\length (c++h.1)=length (qE a.1 a.2.2)/\h.2.1=qK a.1 a.2.1/\qa AT.cells (c++h.1)=qa AT.cells (qE a.1 a.2.2)/\Fz c d h) (∃(m:Unit),b=b/\qQ b=qQ b/\e=e/\Yx c d (True/\True))
 abbrev TJ:=Jb ((↑g.1:Int)+1)
 def TL:=g.1<=size b/\size b- g.1<size b- p.1/\True
 def aF:=TJ g/\∃(a:Nat×Bool),b=b/\qQ b=qQ b/\(↑a.1:Int)=(↑g.1:Int)+1/\e=e/\a.2=η/\Yx c d (TL b a g)
 def lY:=(0<=(↑g.1:Int)/\(↑g.1:Int)<(↑(size b):Int))/\TJ g/\∃(a:Nat×Bool),b=b/\qQ b=qQ b/\(↑a.1:Int)=(↑g.1:Int)+1/\e=e/\a.2=decide ((↑(bat b (toNat (↑g.1:Int))):Int)=46)/\Yx c d (TL b a g)
 def lX:=(g.2=η->aF b c d e g)/\(g.2=ζ->lY b c d e g)
 def UI:=length c=length j/\d=d/\qa AT.cells c=qa AT.cells j/\o
 def TK:=length (c++i.1)=length j/\i.2.1=d/\qa AT.cells (c++i.1)=qa AT.cells j/\Fz c d i
 def So:=length c<1000/\((!Option.isSome (findF b c 0))=η->∃(a:List AT),(4:Int)=4/\UI a d c (True/\∃(h:qW),h.2.2=0/\length (j++h.1)=length a/\h.2.1=qt d 4/\qa AT.cells (j++h.1)=qa AT.cells a/\Fz j d h))/\((!Option.isSome (findF b c 0))=ζ->∃(n:qW),n.2.2=wD (findF b c 0)/\TK j d n c)
 def lV:=b=b/\e=e/\(size b<1000000/\size e<1000000)/\∃(a:List AT),vU b e=vU b e/\UI a d c (length a<1000/\(π (findF (vU b e) a 0)=η->∃(h:qW),h.2.2=wD (findF (vU b e) a 0)/\TK c d h a)/\(π (findF (vU b e) a 0)=ζ->∃(m:List AT),e=e/\UI m d a (So e m d c)))
 def lU:=((!g.2)=η->lV b c d e)/\((!g.2)=ζ->∃(l:List AT),e=e/\UI l d c (So e l d c))
 def lT:=Ji ((↑g.1:Int)<(↑(size b):Int)) (lX b c d e g) (lU e c d b g)
 def lS:=(∃(a:Nat×Bool),b=b/\qQ b=qQ b/\(↑a.1:Int)=0/\e=e/\a.2=ζ/\Yx c d (a.1<=size b/\True))/\∀(h:Nat×Bool),h.1<=size b->lT b c d e h
 def lR:=b=b/\True/\(Ji (1<=qQ b) (lW b c d e) (∃(q:Unit),b=b/\qQ b=qQ b/\e=e/\Yx c d (True/\True)))/\∀(r:Unit),True->lS b c d e
end
def zkf(S:List AT) (e:Int) (s sp:Ck):qk3 P (qf5 [(68,UC),(69,Vh),(98,LD),(97,UB),(63,wY)]) (qg7 []) Tryz.f64 Ld (zwj) ⟨S,e,s,sp⟩=(length S<=60/\size s<100000/\size sp<100000->lR s S e sp):=by kernel_rfl
def zqw:=λS e s sp=>ς (zkf S e s sp) (by delta Ji Jb Jt Jf Fz Yx lW TJ TL aF lY lX UI TK So lV lU lT lS lR;exact rfl)
section
def zdg{s:Ck}:∀{nm:List Ck} {l:List GJ} {t:GJ},jA s nm l=θ t->∃(i:Nat) (h:i<l.length),t=l[i]
  | [],l,t,h=>by simp[jA]at h
  |x::nm,[],t,h=>by simp[jA]at h
  | x::nm,g::l,t,h=>by
    rw[jA]at h;split at h
    · cases h;exact⟨0,by simp,rfl⟩
    · obtain⟨i,hi,e⟩:=zdg h;exact⟨i+1,by simpa using hi,by simpa using e⟩
variable {s:Ck}
def zfc{g t:GJ} (h:qm s g=θ t) (hw:g.wf):t.wf/\∀p,g.ok p->t.ok p:=by
 unfold qm at h;split at h
 ·obtain⟨i,hi,rfl⟩:=zdg h;rw[GJ.wf_eq]at hw;exact⟨GJ.wfs_at hw.2.2.2.2.2.2 hi,λp hp=>by rw[GJ.ok_eq]at hp;exact GJ.oks_at hp.2.2 hi⟩
 ·cases h
def jk1:zJ.wf:=by unfold zJ GJ.wf GJ.wfs;exact⟨by decide,by decide,by decide,λt h=>by simp at h,⟨by decide,by decide⟩,λ_=>rfl,trivial⟩
def jk0(p:Pub):zJ.ok p:=by unfold zJ GJ.ok GJ.oks;exact⟨qV,qV,trivial⟩
def wW(s:Ck) {g:GJ} (hw:g.wf):((qm s g).getD zJ).wf/\∀p,g.ok p->((qm s g).getD zJ).ok p:=by
 cases h:qm s g with
 |none=>exact⟨jk1,λp _=>jk0 p⟩
 |some t=>exact zfc h hw
variable {l:List GJ} {acc:List Ck}
def z9v{j:Nat} {e:Int} (h:j<l.length):jv (l.drop j) e acc=if e=0 then jv (l.drop (j+1)) (if l[j].k=4 then 0 else 2) (acc++[l[j].s])else(acc,e):=by rw[Α h,jv]
def ze9{j:Nat} {e:Int} (h:l.length<=j\/e≠0):jv (l.drop j) e acc=(acc,e):=by
 by_cases u:l.length<=j
 ·rw[Λ u,jv]
 ·rw[z9v (by omega),if_neg (by omega)]
def zeq(x:Addr):x.add 0=x:=by cases x;simp[qqk]
def Pi:q4p P 103 z72:=by
  refine qA (qcl (qgj J' (qgj xP qjq))) (W:=zwk) Tryz.func103 λ⟨S,(e:Int),g,s⟩=>(zqz S e g s).mpr ?_;rintro T ⟨p,_,hp⟩;simp only[qB,exists_const];refine⟨⟨g,s⟩,rfl,rfl,rfl,rfl,rfl,rfl,rfl,rfl,rfl,rfl,T,λq hq=>hq,λX=> ?_,λZ=> ?_⟩
  · have e0:zl g s e=([],ζ,e):=(by unfold zl;rw[if_neg (by rw[X];decide)]);rw[e0];exact⟨rfl,rfl,Yg,λq _=>qV⟩
  obtain⟨tw,tok⟩:=wW s T;have e1:zl g s e=((jv ((qm s g).getD zJ).l (y6 g s e) []).1,η,(jv ((qm s g).getD zJ).l (y6 g s e) []).2):=by unfold zl;rw[if_pos Z]
  rw[e1];have H:y6 g s e=if((qm s g).getD zJ).k=5 then e else qt e 2:=rfl;simp only;generalize (qm s g).getD zJ=t at*;generalize y6 g s e=e2 at*;have J:=λq (hq:g.ok q)=>(show qc GJ.cells t.y t.l q by have:=tok q hq;rw[GJ.ok_eq]at this;exact this.1);have tl:t.y.2.1=t.l.length:=(J p hp).1;rw[GJ.wf_eq]at tw;refine⟨⟨λh=>⟨S,rfl,rfl,rfl,by rw[H,if_neg h],rfl⟩,λh=>by rw[H,if_pos h]⟩,?_⟩;rintro _ _;refine⟨⟨⟨0,e2,[]⟩,rfl,rfl,rfl,by show 0<=_;omega,by show 0<=_;omega,rfl⟩,?_⟩;rintro⟨j,e',acc⟩ ⟨hj,ha,he⟩;simp only at*;have done:jv (t.l.drop j) e' acc=(acc,e')->∀(a:Option Addr) (c:Nat),(jv t.l e2 []).2=e'/\∀q,acc.length<=c/\qgm q a (Ψ (acc.length*1) (qa qn acc))->qc qn (a,acc.length,c) (jv t.l e2 []).1 q:=λh a c=>by rw[←he,h];refine⟨rfl,λq hq=>⟨rfl,hq.1,?_⟩⟩;have:=hq.2;rw[Ξ (by rw[qv j8];exact Ζ _)]at this;exact this
  refine⟨λV=>⟨λC=> ?_,λC=> ?_⟩,λU=> ?_⟩
  · have G:j<t.l.length:=(by omega);have A:=λq (hq:g.ok q)=>jX ZI (by decide) (J q hq) G;have hd:=z9v (e:=e') (acc:=acc) G;rw[if_pos C]at hd;have cell:∀q (hq:g.ok q) (k:Nat) (v:Value),t.l[j].cells[k]? =θ v->q37 q ((adr t.y.1 (j*5)).add k) [v]:=λq hq k v Y i u hu=>by
      have:=(A q hq).2
      match i with
      | 0=>
        simp at hu;subst hu;rw[zeq];exact this k v Y
      |i+1=>simp at hu
    refine⟨by omega,(A p hp).1,t.l[j].k,λq hq=>cell q hq 0 _ rfl,λO=>⟨S,rfl,rfl,by omega,(A p hp).1,t.l[j].s,λq hq=>cell q hq 2 _ rfl,qv j8 acc,by omega,⟨by omega,by omega⟩,⟨j+1,2,acc++[t.l[j].s]⟩,by show((j+1:Nat):Int)=_;omega,by show(acc++[t.l[j].s]).length=_;simp,rfl,by show 2=qt e' 2;unfold qt;rw[if_pos C],by show qa qn (acc++[t.l[j].s])=_;rw[zu];rfl,rfl,⟨by show j+1<=_;omega,by show(acc++[t.l[j].s]).length<=j+1;simp;omega,?_⟩,by show _- (j+1)<_;omega⟩,λO=>⟨by omega,(A p hp).1,t.l[j].s,λq hq=>cell q hq 2 _ rfl,qv j8 acc,by omega,⟨by omega,by omega⟩,⟨j+1,0,acc++[t.l[j].s]⟩,by show((j+1:Nat):Int)=_;omega,by show(acc++[t.l[j].s]).length=_;simp,C.symm,by show qa qn (acc++[t.l[j].s])=_;rw[zu];rfl,⟨by show j+1<=_;omega,by show(acc++[t.l[j].s]).length<=j+1;simp;omega,?_⟩,by show _- (j+1)<_;omega⟩⟩
    · rw[←he,hd,if_neg O]
    · rw[←he,hd,if_pos O]
  · rintro b s4 u a n c ⟨q0,B⟩;obtain⟨d1,d2⟩:=done (ze9 (.inr C)) a c;exact⟨trivial,d1,rowP_Pl B.2.2,λq hq=>d2 q hq.2⟩
  · rintro b s4 u a n c ⟨q0,B⟩;obtain⟨d1,d2⟩:=done (ze9 (.inl (by omega))) a c;exact⟨trivial,d1,rowP_Pl B.2.2,λq hq=>d2 q hq.2⟩
def qL(k it:Int):AT:=⟨k,mkS [],(ι,0,0),[],it,(ι,0,0),[],ζ,mkS [],0,(ι,0,0),[],(ι,0,0),[]⟩
def Ls(k it:Int) (p:Pub):(qL k it).ok p:=⟨qV,qV,qV,qV,λf h=>absurd h (by simp[qL])⟩
def zq8{n:Nat} {k it:Int} (u:1<=k) (G:k<=8):kT n (qL k it):=by have C:(qL k it).k=k:=rfl;unfold kT;rw[C];exact⟨⟨u,by omega⟩,λh=>(by omega),λb A=>(by cases A),λh=>(by omega),λf B=>(by cases B),λh=>(by omega),λh=>(by omega),χ _,χ _,χ _⟩
def zd4{s:Ck}:∀{l:List AT} {i k:Nat},findF s l i=θ k->i<=k/\k<i+l.length
  | [],i,k,h=>by simp[findF]at h
  | a::l,i,k,h=>by
    rw[findF]at h;split at h
    · cases h;simp
    · have:=zd4 h;simp;omega
def Lk{S:List AT} (h:(findF s S 0).isSome=η):0<=wD (findF s S 0)/\wD (findF s S 0)<S.length:=by
  cases u:findF s S 0 with
  |none=>rw[u]at h;cases h
  | some k=>
    have:=zd4 u;show 0<=(k:Int)/\(k:Int)<_;omega
def jj{e0 e:Int} (h:e≠0):qt e0 e≠0:=by unfold qt;split<;>omega
def zqx:q1p P 64 Ld:=by
 refine zh (qcl (qgj zis (qgj HN (qgj zir (qgj zd5 (qgj xP qjq)))))) (qdd qjp) (W:=zwj) Tryz.func64 λ⟨S,(e:Int),s,sp⟩=>(zqw S e s sp).mpr ?_;rintro⟨hS,hs,U⟩;simp only[qB,exists_const,forall_const];have same:∀r:Int,(0<=r/\r<S.length)->grown S e [] e/\(e=0->0<=r/\r<(S++[]).length):=λr hr=>by unfold grown;rw[δ];exact⟨⟨hS,λh=>⟨h,λa u=>by cases u⟩⟩,λ_=>hr⟩
 have bad:grown S e [] (qt e 4)/\(qt e 4=0->0<=(0:Int)/\0<((S++[]).length:Int)):=by have:=jj (e0:=e) (e:=4) (by decide);unfold grown;rw[δ];exact⟨⟨hS,λh=>absurd h this⟩,λh=>absurd h this⟩
 refine⟨λJ=>λO=>⟨⟨S,e,qL (qQ s) 0⟩,rfl,rfl,rfl,rfl,rfl,rfl,rfl,rfl,rfl,rfl,rfl,rfl,rfl,rfl,rfl,rfl,rfl,rfl,rfl,rfl,rfl,?_⟩,?_⟩
 ·by_cases A:60<=S.length
  ·refine⟨⟨[],qK S e,qw S⟩,rfl,?_,rfl,?_,?_,λp a u=>by cases u⟩
   ·show(S++[]).length=(qE S (qL (qQ s) 0)).length;unfold qE;rw[if_pos A,δ]
   ·show qa AT.cells (S++[])=qa AT.cells (qE S (qL (qQ s) 0));unfold qE;rw[if_pos A,δ]
   ·have:qK S e≠0:=(by unfold qK;rw[if_pos A];exact jj (by decide));unfold grown;exact⟨⟨by rw[δ];exact hS,λh=>absurd h this⟩,λh=>absurd h this⟩
  ·refine⟨⟨[qL (qQ s) 0],qK S e,qw S⟩,rfl,?_,rfl,?_,?_,λp a u=> ?_⟩
   ·show(S++[_]).length=(qE S (qL (qQ s) 0)).length;unfold qE;rw[if_neg A]
   ·show qa AT.cells (S++[_])=qa AT.cells (qE S (qL (qQ s) 0));unfold qE;rw[if_neg A]
   ·have e1:qK S e=e:=(by unfold qK;rw[if_neg A]);have e2:qw S=S.length:=(by unfold qw;rw[if_neg A]);show grown S e [_] (qK S e)/\(qK S e=0->0<=qw S/\qw S<((S++[_]).length:Int));rw[e1,e2];refine⟨⟨by simp;omega,λh=>⟨h,λa u=> ?_⟩⟩,λ_=>by simp;omega⟩;simp at u;subst u;exact zq8 J O
   ·simp at u;subst u;exact Ls _ _ _
 refine⟨⟨⟨0,ζ⟩,rfl,rfl,χ _⟩,?_⟩;rintro⟨j,d⟩ V;simp only at*;have tail:∀B:List AT,B=S->(B.length<1000/\((findF s B 0).isSome=η->0<=wD (findF s B 0)/\wD (findF s B 0)<S.length)):=λB h=>by subst h;exact⟨by omega,Lk⟩
 refine⟨λG=>⟨λhd=>⟨⟨by omega,by omega⟩,⟨j+1,η⟩,by show((j+1:Nat):Int)=_;omega,rfl,by show j+1<=_;omega,by show _- (j+1)<_;omega⟩,λhd=>⟨⟨by omega,G⟩,⟨by omega,by omega⟩,⟨j+1,_⟩,by show((j+1:Nat):Int)=_;omega,rfl,by show j+1<=_;omega,by show _- (j+1)<_;omega⟩⟩,λT=>⟨λhd=>⟨⟨by omega,by omega⟩,S,rfl,rfl,by omega,λH=>⟨⟨[],e,wD (findF (vU sp s) S 0)⟩,rfl,by rw[δ],rfl,by rw[δ],same _ (Lk H),λp a u=>by cases u⟩,λH=>⟨S,rfl,rfl,by omega,λC=>⟨S,rfl,rfl,⟨[],qt e 4,0⟩,rfl,by rw[δ],rfl,by rw[δ],bad,λp a u=>by cases u⟩,λC=>⟨⟨[],e,wD (findF s S 0)⟩,rfl,by rw[δ],rfl,by rw[δ],same _ (Lk C),λp a u=>by cases u⟩⟩⟩,λhd=>⟨S,rfl,rfl,by omega,λC=>⟨S,rfl,rfl,⟨[],qt e 4,0⟩,rfl,by rw[δ],rfl,by rw[δ],bad,λp a u=>by cases u⟩,λC=>⟨⟨[],e,wD (findF s S 0)⟩,rfl,by rw[δ],rfl,by rw[δ],same _ (Lk C),λp a u=>by cases u⟩⟩⟩⟩
end
abbrev yg:=List AT×Int×GJ×Ck×Int
def we:yg->Prop:=λ⟨S,e,g,sp,d⟩=>S.length<=60/\g.wf/\1<=d/\d<=21/\(sp.size:Int)<=1100*d
def zP:yg->qW->Prop:=λ⟨S,e,g,sp,d⟩ ⟨T,e',r⟩=>grown S e T e'/\(e'=0->0<=r/\r<(S++T).length)
def wZ:CtR where
 σ:=yg
 args:=λ⟨S,e,g,sp,d⟩=>[.ptr 1 0,g.av, .sv (.string sp), .sv (.int .i64 d)]
 h:=λ⟨S,e,g,sp,d⟩=>jF S e 2 3
 m:=4
 pre:=we
 mem:=λ⟨S,e,g,sp,d⟩=>gM g
 β:=λ_=>qW
 post:=zP
 pm:=λ_ ⟨T,e',r⟩=>Ht T
 r:=λ_ ⟨T,e',r⟩=> .sv (.int .i64 r)
 h':=λ⟨S,e,g,sp,d⟩ ⟨T,e',r⟩=>jF (S++T) e' 4 5
 m':=6
def HW:CtR:={wZ with pre:=λs=>we s/\s.2.2.2.2<=20}
def z77:yg->Nat:=λ⟨S,e,g,sp,d⟩=>(25- d).toNat
abbrev Va:=Nat×Int×List AT×List Int
def LU(S:List AT) (e:Int) (g:GJ):Va->Prop:=λ⟨i,e',T,l⟩=>i<=g.l.length/\(S++T).length<=60/\(e'=0->e=0/\S.length<60/\l.length=i/\(∃T',T=qL 14 0::T'/\∀a∈T',kT (S++T).length a)/\∀b∈l,0<=b/\b<(S++T).length)
def zl8:yg->WayF:=λ⟨S,e,g,sp,d⟩=>{
 ann:=λid _ _=>match id with
  |0=>θ {σ:=Va,pre:=LU S e g,mem:=λ⟨i,e',T,l⟩=>Ht T,t:=λ⟨i,e',T,l⟩=>[(11, .sv (.int .i64 (i:Int))),(10, .ssl 13 0 l.length 1 14)],h:=λ⟨i,e',T,l⟩=>jF (S++T) e' 11 12++[(13, .row 3 0 (qa qi l))],more:=4,μ:=λ⟨i,e',T,l⟩=>g.l.length- i,keep:=[0,2,3,5,8,9],del:=[9]}
  |_=>θ {σ:=Nat,t:=λm=>[(13, .sv (.int .i64 (m:Int)))],h:=λ_=>[],more:=0,μ:=λm=>100- m,keep:=[0,2,3,5,8,9,10,11,12]}
 pub:=λi k=>match i,k with
  |22,9=>[109]
  |_,_=>[]}
section
variable (a:GJ) (f:List AT×Int×AT) (e:List AT) (i:Int) (j:Ck) (o:Int) (r:Nat) (b:Va) (d:qW) (m:yg) (F:Prop) (t:Nat->Option Obj) (w:Option Addr) (I:List AT×Int) (B:Int) (G:List AT)
 abbrev UK:=(↑(GJ.y a).2.1:Int)
 def Ko:=∀(c:AT),c∈d.1->AT.ok c t
 def TM:=∃(c:List AT),B=B/\length c=length (qE f.1 f.2.2)/\qK f.1 f.2.1=qK f.1 f.2.1/\qa AT.cells c=qa AT.cells (qE f.1 f.2.2)/\True/\∃(g:qW),g.2.2=0/\length (e++g.1)=length c/\g.2.1=qt (qK f.1 f.2.1) B/\qa AT.cells (e++g.1)=qa AT.cells c/\zP (e,i,a,j,o) g/\(∀q,True/\GJ.ok a q->Ko g q)/\True
 def UJ:=GJ.k a=GJ.k a/\GJ.n a=GJ.n a/\GJ.s a=GJ.s a/\(GJ.y a).1=(GJ.y a).1/\(GJ.y a).2.1=(GJ.y a).2.1/\(GJ.y a).2.2=(GJ.y a).2.2/\(GJ.x a).1=(GJ.x a).1/\(GJ.x a).2.1=(GJ.x a).2.1/\(GJ.x a).2.2=(GJ.x a).2.2/\F
 def Kn:=(True/\GJ.ok a t)/\∀(c:AT),c∈b.2.2.1->AT.ok c t
 def xV:=(Kn a b t)/\Ko d t
 def TN:=True/\∃(c:qW),c.2.2=0/\length (e++c.1)=length G/\c.2.1=qt d.2.1 6/\qa AT.cells (e++c.1)=qa AT.cells G/\zP (e,i,a,j,o) c/\(∀g,(xV a b d g)->Ko c g)/\True
 def TO:=d.2.2=d.2.2/\length b.2.2.2=length b.2.2.2/\length (m.1++d.1)=length (m.1++d.1)/\d.2.1=d.2.1/\F
 def aK:=Jb ((↑r:Int)+1)/\∃(c:Nat),i=i/\(↑b.1:Int)=(↑b.1:Int)/\qw f.1=qw f.1/\(↑c:Int)=(↑r:Int)+1/\j=j/\TO b d m (qa AT.cells (m.1++d.1)=qa AT.cells I.1/\qa qi b.2.2.2=qa qi b.2.2.2/\UJ a ((∀g,(xV a b d g)->xV a b d g)/\True/\(100:Nat)- c<100- r/\True))
 def aG:=(0<=(↑r:Int)/\(↑r:Int)<(↑(length b.2.2.2):Int))/\∃(c:Int),qga (qa qi b.2.2.2) (nat_lit 0+toNat (↑r:Int)*nat_lit 1) [int i64 c]/\∃(g:List AT×Int),length g.1=length (m.1++d.1)/\g.2=c/\qa AT.cells g.1=qa AT.cells (m.1++d.1)/\length g.1<1000/\∃(q:List AT×Int),length q.1=length (m.1++d.1)/\q.2=d.2.2/\qa AT.cells q.1=qa AT.cells g.1/\length q.1<1000/\AV.agg [AV.ssl (nat_lit 19) (nat_lit 0) (length (m.1++d.1)) (nat_lit 10) (nat_lit 20)]=AV.agg [AV.ssl (nat_lit 19) (nat_lit 0) (length (m.1++d.1)) (nat_lit 10) (nat_lit 20)]/\Ji (u9 g.1 g.2=u9 q.1 q.2) (∃(u:List AT),(6:Int)=6/\length u=length (m.1++d.1)/\d.2.1=d.2.1/\qa AT.cells u=qa AT.cells q.1/\TN a e i j o b d u) (aK a f o j r b d m q)
 def aH:=length (qa qi b.2.2.2)=length b.2.2.2*1/\(length b.2.2.2+nat_lit 1)*8<=140737488355328/\Jb ((↑b.1:Int)+1)/\∃(c:Va),i=i/\(↑c.1:Int)=(↑b.1:Int)+1/\qw f.1=qw f.1/\j=j/\length c.2.2.2=length b.2.2.2+nat_lit 1/\length (e++c.2.2.1)=length (m.1++d.1)/\c.2.1=d.2.1/\qa AT.cells (e++c.2.2.1)=qa AT.cells (m.1++d.1)/\qa qi c.2.2.2=qa qi b.2.2.2++[int i64 d.2.2]/\UJ a ((∀g,(xV a b d g)->True/\GJ.ok a g)/\(∀v,(xV a b d v)->∀(E:AT),E∈c.2.2.1->AT.ok E v)/\LU e o a c/\length (GJ.l a)- c.1<length (GJ.l a)- b.1/\True)
 def mj:=Ji ((↑r:Int)<(↑(length b.2.2.2):Int)) (aG a f e i j o r b d m) (aH a f e o j i b d m)
 def mi:=(∃(c:Nat),i=i/\(↑b.1:Int)=(↑b.1:Int)/\qw f.1=qw f.1/\(↑c:Int)=0/\j=j/\TO b d m (qa AT.cells (m.1++d.1)=qa AT.cells (m.1++d.1)/\qa qi b.2.2.2=qa qi b.2.2.2/\UJ a ((∀g,(xV a b d g)->xV a b d g)/\True/\True)))/\∀(C:Nat),True->mj a f e o j i C b d m
 def mh:=(0<=d.2.2/\d.2.2<(↑(length (m.1++d.1)):Int))/\∃(c:Int),qga (qa AT.cells (m.1++d.1)) (nat_lit 0+toNat d.2.2*nat_lit 10+0) [int i64 c]/\Ji (c=14) (∃(g:List AT),(6:Int)=6/\length g=length (m.1++d.1)/\d.2.1=d.2.1/\qa AT.cells g=qa AT.cells (m.1++d.1)/\TN a e i j o b d g) (mi a f e o j i b d m)
 def mg:=((!decide (d.2.1=0))=η->∃(c:qW),c.2.2=0/\length (e++c.1)=length (m.1++d.1)/\c.2.1=d.2.1/\qa AT.cells (e++c.1)=qa AT.cells (m.1++d.1)/\zP (e,i,a,j,o) c/\(∀g,(xV a b d g)->Ko c g)/\True)/\((!decide (d.2.1=0))=ζ->mh a f e i j o b d m)
 def me:=(0<=(↑b.1:Int)/\(↑b.1:Int)<(UK a))/\(GJ.y a).1≠noA/\∃(c:Int),∃(g:Int),∃q,∃u,∃(v:Nat),∃(A:Nat),∃C,∃(E:Nat),∃(i8:Nat),(∀J,(Kn a b J)->q37 J (adr (GJ.y a).1 (toNat (↑b.1:Int)*5)) [int i64 c,int i64 g,string q,slice u v A,slice C E i8])/\Jb (i+1)/\∃(h:yg),GJ.k h.2.2.1=c/\GJ.n h.2.2.1=g/\GJ.s h.2.2.1=q/\(GJ.y h.2.2.1).1=u/\(GJ.y h.2.2.1).2.1=v/\(GJ.y h.2.2.1).2.2=A/\(GJ.x h.2.2.1).1=C/\(GJ.x h.2.2.1).2.1=E/\(GJ.x h.2.2.1).2.2=i8/\h.2.2.2.1=j/\h.2.2.2.2=i+1/\length h.1=length (e++b.2.2.1)/\h.2.1=b.2.1/\qa AT.cells h.1=qa AT.cells (e++b.2.2.1)/\(z77 h<r/\we h)/\(∀p,(Kn a b p)->GJ.ok h.2.2.1 p)/\∀(z:qW),zP h z->(∃H,xV a b z H)->mg a f e o j i b z h
 def TP:=(Kn a b t)/\length b.2.2.2<=r/\qgm t w (take (length b.2.2.2*nat_lit 1) (qa qi b.2.2.2))
 def aJ:=nat_lit 0+toNat (qw f.1)*nat_lit 10+9+length [slice w (length b.2.2.2) r]<=length (qa AT.cells (e++b.2.2.1))/\∃(c:qW),c.2.2=qw f.1/\length (e++c.1)=length (e++b.2.2.1)/\c.2.1=b.2.1/\qa AT.cells (e++c.1)=spl (qa AT.cells (e++b.2.2.1)) (nat_lit 0+toNat (qw f.1)*nat_lit 10+9) [slice w (length b.2.2.2) r]/\zP (e,i,a,j,o) c/\(∀g,TP a r b g w->Ko c g)/\True
 def aI:=(0<=qw f.1/\qw f.1<(↑(length (e++b.2.2.1)):Int))/\∀(c g q:Nat) (u:Option Addr) (v A:Nat),(∃C,TP a A b C u)->aJ a f e i j o A b u
 def Sp:=Ji (b.2.1=0) (aI a f e i j o b) (∃(p:qW),p.2.2=qw f.1/\length (e++p.1)=length (e++b.2.2.1)/\p.2.1=b.2.1/\qa AT.cells (e++p.1)=qa AT.cells (e++b.2.2.1)/\zP (e,i,a,j,o) p/\(∀D,(Kn a b D)->Ko p D)/\True)
 def mb:=Ji (b.2.1=0) (me a f e i j o r b) (Sp a f e o j i b)
 def ma:=Ji ((↑b.1:Int)<(UK a)) (mb a f e i j o r b) (Sp a f e o j i b)
 def l_:=(∃(c:Va),i=i/\(↑c.1:Int)=0/\qw f.1=qw f.1/\j=j/\length c.2.2.2=0/\length (e++c.2.2.1)=length (qE f.1 f.2.2)/\c.2.1=qK f.1 f.2.1/\qa AT.cells (e++c.2.2.1)=qa AT.cells (qE f.1 f.2.2)/\UJ a ((∀g,True/\GJ.ok a g->True/\GJ.ok a g)/\(∀q,True/\GJ.ok a q->∀(u:AT),u∈c.2.2.1->AT.ok u q)/\LU e o a c/\True))/\∀(v:Va),LU e o a v->(∃A,Kn a v A)->ma a f e i j o r v
 def lZ:=Ji (30<(UK a)) (TM a f e i j o 3) (l_ a f e o j i r)
end
def zfw(n:Nat) (S:List AT) (e:Int) (g:GJ) (sp:Ck) (d:Int):qk3 P (qf5 [(69,Vh),(99,Av),(63,wY)]) (qg7 [(32,wZ.below z77 n)]) Tryz.f65 (HW.below z77 (n+1)) (zl8) ⟨S,e,g,sp,d⟩=(z77 (S,e,g,sp,d)<n+1/\we (S,e,g,sp,d)/\d<=20->(∃(p:Pub),True/\GJ.ok g p)->∃(s:List AT×Int×AT),AT.k s.2.2=14/\AT.nm s.2.2=mkS []/\(AT.al s.2.2).1=noA/\(AT.al s.2.2).2.1=0/\(AT.al s.2.2).2.2=0/\AT.it s.2.2=0/\(AT.sy s.2.2).1=noA/\(AT.sy s.2.2).2.1=0/\(AT.sy s.2.2).2.2=0/\AT.hd s.2.2=ζ/\AT.df s.2.2=mkS []/\AT.sz s.2.2=0/\(AT.f s.2.2).1=noA/\(AT.f s.2.2).2.1=0/\(AT.f s.2.2).2.2=0/\(AT.br s.2.2).1=noA/\(AT.br s.2.2).2.1=0/\(AT.br s.2.2).2.2=0/\length s.1=length S/\s.2.1=e/\qa AT.cells s.1=qa AT.cells S/\True/\Ji ((UK g)=0) (TM g s S e sp d 6) (lZ g s S e sp d n)):=by kernel_rfl
def zkl:=λn S e g sp d=>ς (zfw n S e g sp d) (by delta Ji Jb Jt Jf UK Ko TM UJ Kn xV TN TO aK aG aH mj mi mh mg me TP aJ aI Sp mb ma l_ lZ;exact rfl)
def O5(x:SV) (l:List Int):AT:={qL 14 0 with br:=x,brs:=l}
def J6{α:Type} {f:α->List Value} (a:α) (l:List α):qa f (a::l)=f a++qa f l:=rfl
def jaa(A B:List AT) (x:SV) (l:List Int):qa AT.cells (A++O5 x l::B)=spl (qa AT.cells (A++qL 14 0::B)) (0+A.length*10+9) [vw x]:=by
 rw[zu,zu,J6,J6,Ε];have h:=qv y9 A;rw[←h];show _=(qa AT.cells A++((qL 14 0).cells++qa AT.cells B)).set ((qa AT.cells A).length+9) (vw x);have key:∀(P Q:List Value) (v:Value),(P++Q).set (P.length+9) v=P++Q.set 9 v:=λP Q v=>by
  induction P with
  |nil=>simp
  |cons a P u=>rw[qq1,Χ,qqy,qqu,u];rfl
 rw[key];rfl
def j99{l:List Int} {i:Nat} (h:i<l.length):∀(j:Nat) (v:Value),[Value.int .i64 l[i]][j]? =θ v->(qa qi l)[0+i*1+j]? =θ v:=λj v u=>by
 cases j with
 |zero=>rw[Ε,ZE z26 l i h 0 (by decide)];exact u
 |succ j=>simp at u
def z74{n m:Nat} {a:AT} (h:n<=m) (g:kT n a):kT m a:=
 ⟨g.1,λk=>by have:=g.2.1 k;omega,λb A=>by have:=g.2.2.1 b A;omega,g.2.2.2.1,λf u=>⟨by have:=(g.2.2.2.2.1 f u).1;omega,(g.2.2.2.2.1 f u).2⟩,g.2.2.2.2.2⟩
def PN{S:List AT} {e:Int} (h:60<=S.length):qK S e≠0:=by unfold qK;rw[if_pos h];exact jj (by decide)
def zT(S:List AT) (t:AT):List AT:=if 60<=S.length then []else [t]
def z12(S:List AT) (t:AT):qE S t=S++zT S t:=by
 unfold qE zT;split
 ·rw[δ]
 ·rfl
def zkm(n:Nat) (ht:q1p P 32 (wZ.below z77 n)):q1p P 65 (HW.below z77 (n+1)):=by
 refine zh (qcl (qgj HN (qgj jag (qgj xP qjq)))) (qdd (qgi ht qjp)) (W:=zl8) Tryz.func65 λ⟨S,(e:Int),g,sp,(d:Int)⟩=>(zkl n S e g sp d).mpr ?_;rintro⟨hmu,⟨hS,hg,hd1,hd2,hsp⟩,hd20⟩ ⟨p,_,hp⟩;have hmu:(25- d).toNat<n+1:=hmu;have hd20:d<=20:=hd20;have hgw:=hg;rw[GJ.wf_eq]at hgw;have hy:=λq (hq:g.ok q)=>(show qc GJ.cells g.y g.l q by rw[GJ.ok_eq]at hq;exact hq.1);have yl:g.y.2.1=g.l.length:=(hy p hp).1;simp only[qB,exists_const,forall_const,γ];have adl:(zT S (qL 14 0)).length<=1/\(S++zT S (qL 14 0)).length<=60:=by
  unfold zT;split
  ·rw[δ];exact⟨by decide,hS⟩
  ·exact⟨by decide,by simp;omega⟩
 have G:∀q,∀a∈zT S (qL 14 0),a.ok q:=λq a C=>by
  unfold zT at C;split at C
  ·cases C
  ·simp at C;subst C;exact Ls _ _ _
 have bad0:∀k:Int,k≠0->zP (S,e,g,sp,d) (zT S (qL 14 0),qt (qK S e) k,0):=λk hk=>by have:=jj (e0:=qK S e) hk;exact⟨⟨adl.2,λh=>absurd h this⟩,λh=>absurd h this⟩
 refine⟨⟨S,e,qL 14 0⟩,rfl,rfl,rfl,rfl,rfl,rfl,rfl,rfl,rfl,rfl,rfl,rfl,rfl,rfl,rfl,rfl,rfl,rfl,rfl,rfl,rfl,λh0=>⟨qE S (qL 14 0),rfl,rfl,⟨zT S (qL 14 0),qt (qK S e) 6,0⟩,rfl,by rw[z12],rfl,by rw[z12],bad0 6 (by decide),λq _=>G q⟩,λh0=>⟨λh30=>⟨qE S (qL 14 0),rfl,rfl,⟨zT S (qL 14 0),qt (qK S e) 3,0⟩,rfl,by rw[z12],rfl,by rw[z12],bad0 3 (by decide),λq _=>G q⟩,λh30=>⟨⟨⟨0,qK S e,zT S (qL 14 0),[]⟩,rfl,rfl,by rw[z12],rfl,by rw[z12],λq _=>G q,?_⟩,?_⟩⟩⟩
 ·refine⟨by show 0<=_;omega,adl.2,λh=> ?_⟩;by_cases hl:60<=S.length
  ·exact absurd h (PN hl)
  ·have e1:qK S e=e:=(by unfold qK;rw[if_neg hl]);have e2:zT S (qL 14 0)=[qL 14 0]:=(by unfold zT;rw[if_neg hl]);exact⟨by rw[←e1];exact h,by omega,rfl,⟨[],e2,λa C=>(by cases C)⟩,λb hb=>(by cases hb)⟩
 rintro⟨i,e',T,l⟩ ⟨hi,hT,hE⟩ _;simp only at*;have fin:e'=0->g.l.length<=i->∀(a:Option Addr) (c:Nat) (q0:Pub),(l.length<=c/\qgm q0 a (Ψ (l.length*1) (qa qi l)))->0+(qw S).toNat*10+9+1<=(qa AT.cells (S++T)).length/\∃b:qW,b.2.2=qw S/\(S++b.1).length=(S++T).length/\b.2.1=e'/\qa AT.cells (S++b.1)=spl (qa AT.cells (S++T)) (0+(qw S).toNat*10+9) [.slice a l.length c]/\zP (S,e,g,sp,d) b/\∀q,(g.ok q/\∀a∈T,a.ok q)/\(l.length<=c/\qgm q a (Ψ (l.length*1) (qa qi l)))->∀a∈b.1,a.ok q:=λA hge a c q0 hq0=>by
  obtain⟨X,O,Y,⟨T',rfl,J⟩,V⟩:=hE A;have er:qw S=S.length:=by unfold qw;rw[if_neg (by omega)]
  rw[er,γ];have hlen:(S++qL 14 0::T').length=S.length+T'.length+1:=by simp;omega
  have B:∀x,(S++O5 x l::T').length=S.length+T'.length+1:=λx=>by simp;omega
  refine⟨by rw[qv y9,hlen];omega,⟨O5 (a,l.length,c) l::T',e',S.length⟩,rfl,by rw[hlen,B],rfl,jaa S T' _ l,⟨⟨by rw[B];omega,λ_=>⟨X,λx hx=> ?_⟩⟩,λ_=>⟨by show 0<=(S.length:Int);omega,by rw[B];show(S.length:Int)<_;omega⟩⟩,λq hq x hx=> ?_⟩
  ·rw [B];rw[hlen]at J V;rcases List.mem_cons.1 hx with rfl|hx
   ·refine⟨⟨by show(1:Int)<=14;omega,by show(14:Int)<=14;omega⟩,λh=> ?_,V,λ_ h=> ?_,λf hf=>(by cases hf),λh=> ?_,λh=> ?_,⟨χ _,?_,χ _⟩⟩
    ·have h:(14:Int)=12\/(14:Int)=13:=h;omega
    ·have h:l=[]:=h;rw[h]at Y;have:i=0:=Y.symm;omega
    ·have h:(14:Int)=10:=h;omega
    ·have h:(14:Int)=11:=h;omega
    ·show l.length<=30;omega
   ·exact J x hx
  ·rcases List.mem_cons.1 hx with rfl|hx
   ·refine⟨qV,qV,qV,⟨rfl,hq.2.1,?_⟩,λf hf=>(by cases hf)⟩;have:=hq.2.2;rw[Ξ (by rw[qv z26];exact Ζ _)]at this;exact this
   ·exact hq.1.2 x (List.mem_cons_of_mem _ hx)
 have out:e'≠0->zP (S,e,g,sp,d) (T,e',qw S):=λh=>⟨⟨hT,λh2=>absurd h2 h⟩,λh2=>absurd h2 h⟩;refine⟨λhlt=>⟨λA=> ?_,λA=>⟨λh=>absurd h A,λ_=>⟨⟨T,e',qw S⟩,rfl,rfl,rfl,rfl,out A,λq hq=>hq.2⟩⟩⟩,λhge=>⟨λA=> ?_,λA=>⟨⟨T,e',qw S⟩,rfl,rfl,rfl,rfl,out A,λq hq=>hq.2⟩⟩⟩
 ·have hil:i<g.l.length:=by omega
  obtain⟨X,O,Y,⟨T',hTe,J⟩,V⟩:=hE A;have hat:=λq (hq:g.ok q)=>jX ZI (by decide) (hy q hq) hil;have hgi:g.l[i].wf:=GJ.wfs_at hgw.2.2.2.2.2.2 hil;refine⟨by omega,(hat p hp).1,g.l[i].k,g.l[i].n,g.l[i].s,g.l[i].y.1,g.l[i].y.2.1,g.l[i].y.2.2,g.l[i].x.1,g.l[i].x.2.1,g.l[i].x.2.2,λq hq=>(hat q hq.1).2,⟨by omega,by omega⟩,⟨S++T,e',g.l[i],sp,d+1⟩,rfl,rfl,rfl,rfl,rfl,rfl,rfl,rfl,rfl,rfl,rfl,rfl,rfl,rfl,⟨by show(25- (d+1)).toNat<n;omega,hT,hgi,by omega,by omega,by omega⟩,λq hq=>by have:=hq.1;rw[GJ.ok_eq]at this;exact GJ.oks_at this.2.2 hil,?_⟩;rintro⟨U,e2,r⟩ ⟨⟨hU,hU2⟩,hr⟩ _;simp only at hU hU2 hr⊢;have u:S++T++U=S++(T++U):=τ _ _ _;have H:∀k,k≠0->zP (S,e,g,sp,d) (T++U,k,0):=λk hk=>⟨⟨by rw[←u];exact hU,λh2=>absurd h2 hk⟩,λh2=>absurd h2 hk⟩;have Z:∀q,((g.ok q/\∀a∈T,a.ok q)/\∀a∈U,a.ok q)->∀a∈T++U,a.ok q:=λq hq a C=>(List.mem_append.1 C).elim (hq.1.2 a) (hq.2 a);refine⟨λhne=>⟨⟨T++U,e2,0⟩,rfl,by rw[u],rfl,by rw[u],H e2 hne,Z⟩,λheq=> ?_⟩;subst heq;obtain⟨r0,r1⟩:=hr rfl;obtain⟨_,hUg⟩:=hU2 rfl;obtain⟨k,rfl⟩:=κ r0;have hk:k<(S++T++U).length:=by omega
  rw[γ];refine⟨⟨r0,r1⟩,(S++T++U)[k].k,λj v hj=> ?_,λh14=>⟨S++T++U,rfl,rfl,⟨T++U,qt 0 6,0⟩,rfl,by rw[u],rfl,by rw[u],H _ (jj (by decide)),Z⟩,λh14=>⟨⟨0,rfl⟩,?_⟩⟩
  ·cases j with
   |zero=>have hj:θ (Value.int .i64 (S++T++U)[k].k)=θ v:=hj;cases hj;exact H9 hk 0 _ rfl
   |succ j=>simp at hj
  intro m;refine⟨λhm=> ?_,λhm=> ?_⟩
  ·have hml:m<l.length:=(by omega);refine⟨by omega,l[m],j99 hml,⟨S++T++U,l[m]⟩,rfl,rfl,rfl,by show(S++T++U).length<_;omega,⟨S++T++U,(k:Int)⟩,rfl,rfl,rfl,by show(S++T++U).length<_;omega,?_⟩;refine⟨λ_=>⟨S++T++U,rfl,rfl,⟨T++U,qt 0 6,0⟩,rfl,by rw[u],rfl,by rw[u],H _ (jj (by decide)),Z⟩,λ_=>⟨⟨by omega,by omega⟩,m+1,by omega,rfl,by omega⟩⟩
  ·refine⟨qv z26 l,by omega,⟨by omega,by omega⟩,⟨i+1,0,T++U,l++[(k:Int)]⟩,by show((i+1:Nat):Int)=_;omega,by show(l++[_]).length=_;simp,by rw[u],rfl,by rw[u],by show qa qi (l++[_])=_;rw[zu];rfl,λq hq=>hq.1.1,λq hq=>Z q hq,⟨by show i+1<=_;omega,by rw[←u];exact hU,λ_=>⟨X,O,by show(l++[_]).length=i+1;simp;omega,⟨T'++U,by show T++U=_;rw[hTe];rfl,λa C=> ?_⟩,λb hb=> ?_⟩⟩,by show _- (i+1)<_;omega⟩
   ·show kT (S++(T++U)).length a;rw[←u];rcases List.mem_append.1 C with C|C
    ·exact z74 (by have:(S++T++U).length=(S++T).length+U.length:=Κ;omega) (J a C)
    ·exact hUg a C
   ·show 0<=b/\b<((S++(T++U)).length:Int);rw[←u];have hlen:(S++T++U).length=(S++T).length+U.length:=Κ;rcases List.mem_append.1 hb with hb|hb
    ·have:=V b hb;omega
    ·simp at hb;subst hb;exact⟨r0,r1⟩
 ·obtain⟨X,O,Y,⟨T',hTe,J⟩,V⟩:=hE A;have er:qw S=S.length:=by unfold qw;rw[if_neg (by omega)]
  refine⟨⟨by omega,by rw[er,hTe];simp;omega⟩,?_⟩;rintro a c ⟨q0,hq0⟩;exact fin A (by omega) a c q0 hq0.2
abbrev XN:=List AT×Int×GJ×Int×Ck×Int
def HT:CtR where
 σ:=XN
 args:=λ⟨S,e,g,k,sp,d⟩=>[.ptr 1 0,g.av, .sv (.int .i64 k), .sv (.string sp), .sv (.int .i64 d)]
 h:=λ⟨S,e,g,k,sp,d⟩=>jF S e 2 3
 m:=4
 pre:=λ⟨S,e,g,k,sp,d⟩=>we (S,e,g,sp,d)/\d<=20/\(k=9\/k=10\/k=11)
 mem:=λ⟨S,e,g,k,sp,d⟩=>gM g
 β:=λ_=>qW
 post:=λ⟨S,e,g,k,sp,d⟩ b=>zP (S,e,g,sp,d) b
 pm:=λ_ ⟨T,e',r⟩=>Ht T
 r:=λ_ ⟨T,e',r⟩=> .sv (.int .i64 r)
 h':=λ⟨S,e,g,k,sp,d⟩ ⟨T,e',r⟩=>jF (S++T) e' 4 5
 m':=6
def Vm:XN->Nat:=λ⟨S,e,g,k,sp,d⟩=>(25- d).toNat
def uB(s:Ck):Bool:=decide (s=mkS [114,101,99,111,114,100])||decide (s=mkS [101,110,117,109])||decide (s=mkS [102,105,120,101,100])
def Qe(s:Ck):Bool:=decide (s=mkS [97,114,114,97,121])||decide (s=mkS [109,97,112])
def QF(s:Ck):Ck:=if s=mkS [109,97,112]then mkS [118,97,108,117,101,115]else mkS [105,116,101,109,115]
def vO(g:GJ):GJ:=(qm (mkS [116,121,112,101]) g).getD zJ
def zwl:yg->WayF:=λ⟨S,e,g,sp,d⟩=>{
 cut:=λi t _=>match i with
  |20=>θ {σ:=Unit,t:=λ_=>[(63, .sv (.bool (uB (vO g).s)))],h:=λ_=>[],more:=0,μ:=λ_=>0,keep:=[0,2,3,5,8,9,62]}
  |23=>θ {σ:=Unit,t:=λ_=>[(75, .sv (.bool (Qe (vO g).s)))],h:=λ_=>[],more:=0,μ:=λ_=>0,keep:=[0,2,3,5,8,9,62]}
  |27=>θ {σ:=Unit,t:=λ_=>[(12, .sv (.string (QF (vO g).s)))],h:=λ_=>[],more:=0,μ:=λ_=>0,keep:=[0,2,3,5,8,9,11]}
  |_=>ι
 spl:=λi=>match i with
  |20=>θ 7
  |_=>ι}
section
variable (e:Int) (d:List AT) (b:GJ) (g:Ck) (h:Int) (p:Nat) (c:GJ×Ck) (l:List AT×Int×AT) (m:qW) (o:yg) (j:List AT×Int×Ck×Ck) (t:Prop) (w:Int) (u:qW)
 abbrev L_:=zP (d,e,b,g,h) m/\(∀a,True/\GJ.ok b a->∀(i:AT),i∈m.1->AT.ok i a)/\True
 def L9:=∃(a:List AT),w=w/\length a=length d/\e=e/\qa AT.cells a=qa AT.cells d/\True/\∃(i:qW),i.2.2=0/\length (d++i.1)=length a/\i.2.1=qt e w/\qa AT.cells (d++i.1)=qa AT.cells a/\L_ e d b g h i
 def aS:=0<=m.2.2/\m.2.2<(↑(length (j.1++m.1)):Int)
 def UL:=∃a,(True/\GJ.ok b a)/\∀(i:AT),i∈m.1->AT.ok i a
 def Yz:=zP (d,e,b,g,h) m/\(∀a,((True/\GJ.ok b a)/\∀(i:AT),i∈u.1->AT.ok i a)->∀(q:AT),q∈m.1->AT.ok q a)/\True
 def TS:=j.2.2.2=g/\length j.1=length d/\j.2.1=e/\qa AT.cells j.1=qa AT.cells d/\(length j.1<=60/\size j.2.2.1<100000/\size j.2.2.2<100000)/\∀(a:qW),grown j.1 j.2.1 a.1 a.2.1/\(a.2.1=0->aS a j)->(UL b a)->∃(z:qW),z.2.2=a.2.2/\length (d++z.1)=length (j.1++a.1)/\z.2.1=a.2.1/\qa AT.cells (d++z.1)=qa AT.cells (j.1++a.1)/\Yz e d b g h z a
 def T5:=length (d++m.1)=length (o.1++u.1)/\m.2.1=u.2.1/\qa AT.cells (d++m.1)=qa AT.cells (o.1++u.1)/\t
 def TW:=(∀a,True/\GJ.ok b a->GJ.ok o.2.2.1 a)/\∀(i:qW),zP o i->(UL b i)->∃(v:qW),v.2.2=i.2.2/\T5 d v o (Yz e d b g h v i) i
 def TV:=GJ.k c.1=GJ.k b/\GJ.n c.1=GJ.n b/\GJ.s c.1=GJ.s b/\(GJ.y c.1).1=(GJ.y b).1/\(GJ.y c.1).2.1=(GJ.y b).2.1/\(GJ.y c.1).2.2=(GJ.y b).2.2/\(GJ.x c.1).1=(GJ.x b).1/\(GJ.x c.1).2.1=(GJ.x b).2.1/\(GJ.x c.1).2.2=(GJ.x b).2.2/\t
 abbrev qX:=υ (qm c.2 c.1) zJ
 abbrev T6:=Jb (e+1)
 def TU:=GJ.k o.2.2.1=GJ.k (qX c)/\GJ.n o.2.2.1=GJ.n (qX c)/\GJ.s o.2.2.1=GJ.s (qX c)/\(GJ.y o.2.2.1).1=(GJ.y (qX c)).1/\(GJ.y o.2.2.1).2.1=(GJ.y (qX c)).2.1/\(GJ.y o.2.2.1).2.2=(GJ.y (qX c)).2.2/\(GJ.x o.2.2.1).1=(GJ.x (qX c)).1/\(GJ.x o.2.2.1).2.1=(GJ.x (qX c)).2.1/\(GJ.x o.2.2.1).2.2=(GJ.x (qX c)).2.2/\o.2.2.2.1=g/\o.2.2.2.2=e+1/\t
 def aO:=T6 e/\∃(a:yg),TU e g c a (length a.1=length d/\a.2.1=h/\qa AT.cells a.1=qa AT.cells d/\(z77 a<p/\we a)/\TW h d b g e a)
 abbrev TX:=GJ.s (qX c)=mkS [114,101,99,111,114,100]
 def TT:=GJ.k b=GJ.k b/\GJ.n b=GJ.n b/\GJ.s b=GJ.s b/\(GJ.y b).1=(GJ.y b).1/\(GJ.y b).2.1=(GJ.y b).2.1/\(GJ.y b).2.2=(GJ.y b).2.2/\(GJ.x b).1=(GJ.x b).1/\(GJ.x b).2.1=(GJ.x b).2.1/\(GJ.x b).2.2=(GJ.x b).2.2/\t
 def TQ:=GJ.k (qX c)=GJ.k (qX c)/\GJ.n (qX c)=GJ.n (qX c)/\GJ.s (qX c)=GJ.s (qX c)/\(GJ.y (qX c)).1=(GJ.y (qX c)).1/\(GJ.y (qX c)).2.1=(GJ.y (qX c)).2.1/\(GJ.y (qX c)).2.2=(GJ.y (qX c)).2.2/\(GJ.x (qX c)).1=(GJ.x (qX c)).1/\(GJ.x (qX c)).2.1=(GJ.x (qX c)).2.1/\(GJ.x (qX c)).2.2=(GJ.x (qX c)).2.2/\(∀a,True/\GJ.ok b a->True/\GJ.ok b a)/\True/\True
 def Yy:=g=g/\GJ.s (qX c)=GJ.s (qX c)/\length d=length d/\e=e/\qa AT.cells d=qa AT.cells d/\TT b (TQ b c)
 abbrev T1:=GJ.s (qX c)=mkS [101,110,117,109]
 def aQ:=Ji (T1 c) (∃(a:Unit),e=e/\uB (GJ.s (vO b))=decide (T1 c)/\Yy h d b g c) (∃(i:Unit),e=e/\uB (GJ.s (vO b))=decide (GJ.s (qX c)=mkS [102,105,120,101,100])/\Yy h d b g c)
 abbrev T3:=slice (GJ.y b).1 (GJ.y b).2.1 (GJ.y b).2.2
 abbrev T4:=slice (GJ.x b).1 (GJ.x b).2.1 (GJ.x b).2.2
 def aN:=GJ.s (qX c)=GJ.s (qX c)/\True/\AV.agg [AV.sv (int i64 (GJ.k b)),AV.sv (int i64 (GJ.n b)),AV.sv (string (GJ.s b)),AV.sv (T3 b),AV.sv (T4 b)]=AV.agg [AV.sv (int i64 (GJ.k b)),AV.sv (int i64 (GJ.n b)),AV.sv (string (GJ.s b)),AV.sv (T3 b),AV.sv (T4 b)]/\∃(a:XN),GJ.k a.2.2.1=GJ.k b/\GJ.n a.2.2.1=GJ.n b/\GJ.s a.2.2.1=GJ.s b/\(GJ.y a.2.2.1).1=(GJ.y b).1/\(GJ.y a.2.2.1).2.1=(GJ.y b).2.1/\(GJ.y a.2.2.1).2.2=(GJ.y b).2.2/\(GJ.x a.2.2.1).1=(GJ.x b).1/\(GJ.x a.2.2.1).2.1=(GJ.x b).2.1/\(GJ.x a.2.2.1).2.2=(GJ.x b).2.2/\a.2.2.2.1=qQ (GJ.s (qX c))/\a.2.2.2.2.1=g/\a.2.2.2.2.2=e/\length a.1=length d/\a.2.1=h/\qa AT.cells a.1=qa AT.cells d/\(Vm a<p+1/\we (a.1,a.2.1,a.2.2.1,a.2.2.2.2.1,a.2.2.2.2.2)/\a.2.2.2.2.2<=20/\(a.2.2.2.1=9\/a.2.2.2.1=10\/a.2.2.2.1=11))/\(∀i,True/\GJ.ok b i->GJ.ok a.2.2.1 i)/\∀(q:qW),zP (a.1,a.2.1,a.2.2.1,a.2.2.2.2.1,a.2.2.2.2.2) q->(UL b q)->∃(A:qW),A.2.2=q.2.2/\length (d++A.1)=length (a.1++q.1)/\A.2.1=q.2.1/\qa AT.cells (d++A.1)=qa AT.cells (a.1++q.1)/\Yz h d b g e A q
 abbrev TZ:=GJ.s (qX c)=mkS [97,114,114,97,121]
 abbrev T2:=GJ.s (qX c)=mkS [109,97,112]
 def TY:=length (qE l.1 l.2.2)=length (qE l.1 l.2.2)/\qK l.1 l.2.1=qK l.1 l.2.1/\TT b (qa AT.cells (qE l.1 l.2.2)=qa AT.cells (qE l.1 l.2.2)/\TQ b c)
 def aR:=(0<=qw l.1/\qw l.1<(↑(length (o.1++m.1)):Int))/\nat_lit 0+toNat (qw l.1)*nat_lit 10+3+length [int i64 m.2.2]<=length (qa AT.cells (o.1++m.1))/\∃(a:qW),a.2.2=qw l.1/\length (d++a.1)=length (o.1++m.1)/\a.2.1=m.2.1/\qa AT.cells (d++a.1)=spl (qa AT.cells (o.1++m.1)) (nat_lit 0+toNat (qw l.1)*nat_lit 10+3) [int i64 m.2.2]/\Yz e d b g h a m
 def aP:=Ji (m.2.1=0) (aR e d b g h l m o) (∃(v:qW),v.2.2=qw l.1/\T5 d v o (Yz e d b g h v m) m)
 def aM:=T6 e/\∃(a:yg),TU e g c a (length a.1=length (qE l.1 l.2.2)/\a.2.1=qK l.1 l.2.1/\qa AT.cells a.1=qa AT.cells (qE l.1 l.2.2)/\(z77 a<p/\we a)/\(∀i,True/\GJ.ok b i->GJ.ok a.2.2.1 i)/\∀(q:qW),zP a q->(UL b q)->aP h d b g e l q a)
 def aL:=GJ.s (qX c)=GJ.s (qX c)/\True/\∃(a:List AT×Int×AT),AT.k a.2.2=qQ (GJ.s (qX c))/\AT.nm a.2.2=mkS []/\(AT.al a.2.2).1=noA/\(AT.al a.2.2).2.1=0/\(AT.al a.2.2).2.2=0/\AT.it a.2.2=0/\(AT.sy a.2.2).1=noA/\(AT.sy a.2.2).2.1=0/\(AT.sy a.2.2).2.2=0/\AT.hd a.2.2=ζ/\AT.df a.2.2=mkS []/\AT.sz a.2.2=0/\(AT.f a.2.2).1=noA/\(AT.f a.2.2).2.1=0/\(AT.f a.2.2).2.2=0/\(AT.br a.2.2).1=noA/\(AT.br a.2.2).2.1=0/\(AT.br a.2.2).2.2=0/\length a.1=length d/\a.2.1=e/\qa AT.cells a.1=qa AT.cells d/\True/\(Ji (T2 c) (∃(i:Unit),h=h/\qw a.1=qw a.1/\g=g/\QF (GJ.s (vO b))=mkS [118,97,108,117,101,115]/\TY b c a) (∃(z:Unit),h=h/\qw a.1=qw a.1/\g=g/\QF (GJ.s (vO b))=mkS [105,116,101,109,115]/\TY b c a))/\∀(A:Unit),True->∃(r:GJ×Ck),TV b r (r.2=QF (GJ.s (vO b))/\GJ.wf r.1/\(∀D,True/\GJ.ok b D->GJ.ok r.1 D)/\((!Option.isSome (qm r.2 r.1))=η->∃(i8:List AT),(2:Int)=2/\length i8=length (qE a.1 a.2.2)/\qK a.1 a.2.1=qK a.1 a.2.1/\qa AT.cells i8=qa AT.cells (qE a.1 a.2.2)/\True/\∃(C:qW),C.2.2=0/\length (d++C.1)=length i8/\C.2.1=qt (qK a.1 a.2.1) 2/\qa AT.cells (d++C.1)=qa AT.cells i8/\L_ e d b g h C)/\((!Option.isSome (qm r.2 r.1))=ζ->aM h d b g e p r a))
 def mA:=(Qe (GJ.s (vO b))=η->aL e d b g h p c)/\(Qe (GJ.s (vO b))=ζ->∃(B:List AT×Int×Ck×Ck),B.2.2.1=GJ.s (qX c)/\TS e d b g h B)
 def mz:=(Ji (TZ c) (∃(a:Unit),e=e/\Qe (GJ.s (vO b))=decide (TZ c)/\Yy h d b g c) (∃(q:Unit),e=e/\Qe (GJ.s (vO b))=decide (T2 c)/\Yy h d b g c))/\∀(v:Unit),True->mA h d b g e p c
 def my:=(uB (GJ.s (vO b))=η->aN e d b g h p c)/\(uB (GJ.s (vO b))=ζ->mz e d b g h p c)
 def mw:=(Ji (TX c) (∃(a:Unit),e=e/\uB (GJ.s (vO b))=decide (TX c)/\Yy h d b g c) (aQ e d b g h c))/\∀(r:Unit),True->my e d b g h p c
 def mu:=((!decide (GJ.k (qX c)=4))=η->aO e d b g h p c)/\((!decide (GJ.k (qX c)=4))=ζ->mw e d b g h p c)
 def mr:=Ji (GJ.k b=6) (∃(a:GJ×Ck),TV b a (a.2=mkS [116,121,112,101]/\GJ.wf a.1/\(∀i,True/\GJ.ok b i->GJ.ok a.1 i)/\((!Option.isSome (qm a.2 a.1))=η->L9 e d b g h 2)/\((!Option.isSome (qm a.2 a.1))=ζ->mu h d b g e p a))) (L9 e d b g h 2)
 def mq:=Ji (GJ.k b=5) (∃(a:yg),GJ.k a.2.2.1=GJ.k b/\GJ.n a.2.2.1=GJ.n b/\GJ.s a.2.2.1=GJ.s b/\(GJ.y a.2.2.1).1=(GJ.y b).1/\(GJ.y a.2.2.1).2.1=(GJ.y b).2.1/\(GJ.y a.2.2.1).2.2=(GJ.y b).2.2/\(GJ.x a.2.2.1).1=(GJ.x b).1/\(GJ.x a.2.2.1).2.1=(GJ.x b).2.1/\(GJ.x a.2.2.1).2.2=(GJ.x b).2.2/\a.2.2.2.1=g/\a.2.2.2.2=e/\length a.1=length d/\a.2.1=h/\qa AT.cells a.1=qa AT.cells d/\(z77 a<p+1/\we a/\a.2.2.2.2<=20)/\TW h d b g e a) (mr h d b g e p)
 def mo:=Ji (GJ.k b=4) (∃(a:List AT×Int×Ck×Ck),a.2.2.1=GJ.s b/\TS e d b g h a) (mq h d b g e p)
 def mn:=Ji (20<e) (L9 h d b g e 3) (mo h d b g e p)
 def mm:=((!decide (e=0))=η->∃(a:qW),a.2.2=0/\length (d++a.1)=length d/\a.2.1=e/\qa AT.cells (d++a.1)=qa AT.cells d/\L_ e d b g h a)/\((!decide (e=0))=ζ->mn h d b g e p)
end
def zki(n:Nat) (S:List AT) (e:Int) (g:GJ) (sp:Ck) (d:Int):qk3 P (qf5 [(69,Vh),(66,xS),(68,UC),(63,wY)]) (qg7 [(32,wZ.below z77 n),(64,Ld),(65,HW.below z77 (n+1)),(67,HT.below Vm (n+1))]) Tryz.f32 (wZ.below z77 (n+1)) (zwl) ⟨S,e,g,sp,d⟩=(z77 (S,e,g,sp,d)<n+1/\we (S,e,g,sp,d)->(∃(p:Pub),True/\GJ.ok g p)->mm e S g sp d n):=by kernel_rfl
def zr1:=λn S e g sp d=>ς (zki n S e g sp d) (by delta Ji Jb Jt Jf L_ L9 aS UL Yz TS T5 TW TV qX T6 TU aO TX TT TQ Yy T1 aQ T3 T4 aN TZ T2 TY aR aP aM aL mA mz my mw mu mr mq mo mn mm;exact rfl)
section
def Yj(P Q:List Value) (k:Nat) (v:Value):(P++Q).set (P.length+k) v=P++Q.set k v:=by
 induction P with
 |nil=>simp
 |cons a P h=>rw[qq1,Χ,qqy,qqu,h];rfl
def jab(A B:List AT) (k r:Int):qa AT.cells (A++qL k r::B)=spl (qa AT.cells (A++qL k 0::B)) (0+A.length*10+3) [.int .i64 r]:=by rw[zu,zu,J6,J6,Ε,←qv y9 A];show _=(qa AT.cells A++((qL k 0).cells++qa AT.cells B)).set ((qa AT.cells A).length+3) (.int .i64 r);rw[Yj];rfl
variable {s:Ck}
def zz7(h:uB s=η):qQ s=9\/qQ s=10\/qQ s=11:=by
 unfold uB at h;simp only[qq4,decide_eq_true_eq]at h;rcases h with(h|h)|h<;>subst h
 ·exact .inl (by decide)
 ·exact .inr (.inl (by decide))
 ·exact .inr (.inr (by decide))
def zx8(h:Qe s=η):qQ s=12\/qQ s=13:=by
 unfold Qe at h;simp only[qq4,decide_eq_true_eq]at h;rcases h with h|h<;>subst h
 ·exact .inl (by decide)
 ·exact .inr (by decide)
def zh5(S:List AT) (t:AT) (h:S.length<=60):(S++zT S t).length<=60:=by
 unfold zT;split
 ·rw[δ];exact h
 ·simp;omega
def zq9{n:Nat} {k r:Int} (h:k=12\/k=13) (C:0<=r) (G:r<n):kT n (qL k r):=by have B:(qL k r).k=k:=rfl;have hi:(qL k r).it=r:=rfl;unfold kT;rw[B,hi];exact⟨(by omega),λ_=>⟨C,G⟩,λb u=>(by cases u),λh=>(by omega),λf A=>(by cases A),λh=>(by omega),λh=>(by omega),χ _,χ _,χ _⟩
def zr2(n:Nat) (ht:q1p P 32 (wZ.below z77 n)) (hu:q1p P 65 (HW.below z77 (n+1))) (hn:q1p P 67 (HT.below Vm (n+1))):q1p P 32 (wZ.below z77 (n+1)):=by
 refine zh (qcl (qgj HN (qgj J' (qgj zis (qgj xP qjq))))) (qdd (qgi ht (qgi zqx (qgi hu (qgi hn qjp))))) (W:=zwl) Tryz.func32 λ⟨S,(e:Int),g,sp,(d:Int)⟩=>(zr1 n S e g sp d).mpr ?_;rintro⟨C,⟨hS,H,hd1,hd2,hsp⟩⟩ ⟨p,_,hp⟩;have C:(25- d).toNat<n+1:=C;simp only[qB,exists_const,forall_const,γ,vO];have bad:∀k:Int,k≠0->zP (S,e,g,sp,d) ([],k,0):=λk T=>⟨⟨by rw[δ];exact hS,λh=>absurd h T⟩,λh=>absurd h T⟩;have gsz:g.s.size<1000:=by rw[GJ.wf_eq]at H;exact H.1
 refine⟨λhe=>⟨⟨[],e,0⟩,rfl,by rw[δ],rfl,by rw[δ],bad e he,λq _ a u=>(by cases u)⟩,λhe=>⟨λh20=>⟨S,rfl,rfl,⟨[],qt e 3,0⟩,rfl,by rw[δ],rfl,by rw[δ],bad _ (jj (by decide)),λq _ a u=>(by cases u)⟩,λh20=>⟨λh4=>⟨⟨S,e,g.s,sp⟩,rfl,rfl,rfl,rfl,rfl,⟨hS,by show g.s.size<_;omega,by show sp.size<_;omega⟩,λb B _=>⟨b,rfl,rfl,rfl,rfl,B,λq hq=>hq.2⟩⟩,λh4=>⟨λh5=>⟨⟨S,e,g,sp,d⟩,rfl,rfl,rfl,rfl,rfl,rfl,rfl,rfl,rfl,rfl,rfl,rfl,rfl,rfl,⟨C,⟨hS,H,hd1,hd2,hsp⟩,by show d<=20;omega⟩,λq hq=>hq,λb B _=>⟨b,rfl,rfl,rfl,rfl,B,λq hq=>hq.2⟩⟩,λh5=>⟨λh6=> ?_,λh6=>⟨S,rfl,rfl,⟨[],qt e 2,0⟩,rfl,by rw[δ],rfl,by rw[δ],bad _ (jj (by decide)),λq _ a u=>(by cases u)⟩⟩⟩⟩⟩⟩;refine⟨⟨g,mkS [116,121,112,101]⟩,rfl,rfl,rfl,rfl,rfl,rfl,rfl,rfl,rfl,rfl,H,λq hq=>hq,λhno=>⟨S,rfl,rfl,⟨[],qt e 2,0⟩,rfl,by rw[δ],rfl,by rw[δ],bad _ (jj (by decide)),λq _ a u=>(by cases u)⟩,λhyes=> ?_⟩;obtain⟨tw,tok⟩:=wW (mkS [116,121,112,101]) H;simp only;generalize (qm (mkS [116,121,112,101]) g).getD zJ=t at*;have tsz:t.s.size<1000:=by rw[GJ.wf_eq]at tw;exact tw.1
 refine⟨λT=>⟨⟨by omega,by omega⟩,⟨S,e,t,sp,d+1⟩,rfl,rfl,rfl,rfl,rfl,rfl,rfl,rfl,rfl,rfl,rfl,rfl,rfl,rfl,⟨by show(25- (d+1)).toNat<n;omega,hS,tw,by omega,by omega,by omega⟩,λq hq=>tok q hq,λb B _=>⟨b,rfl,rfl,rfl,rfl,B,λq hq=>hq.2⟩⟩,λT=>⟨⟨λJ=> ?_,λJ=>⟨λh2=> ?_,λh2=> ?_⟩⟩,λhN=> ?_,λhN=>⟨⟨λJ=> ?_,λJ=> ?_⟩,λhA=> ?_,λhA=> ?_⟩⟩⟩
 ·unfold uB;rw[J];rfl
 ·unfold uB;rw[h2];rfl
 ·unfold uB;rw[decide_eq_false J,decide_eq_false h2,qqc,qqc]
 ·exact⟨⟨S,e,g,qQ t.s,sp,d⟩,rfl,rfl,rfl,rfl,rfl,rfl,rfl,rfl,rfl,rfl,rfl,rfl,rfl,rfl,rfl,⟨C,⟨hS,H,hd1,hd2,hsp⟩,by show d<=20;omega,zz7 hN⟩,λq hq=>hq,λb B _=>⟨b,rfl,rfl,rfl,rfl,B,λq hq=>hq.2⟩⟩
 ·unfold Qe;rw[J];rfl
 ·unfold Qe;rw[decide_eq_false J,qqc]
 ·have hkd:=zx8 hA;have V:=zh5 S (qL (qQ t.s) 0) hS;have G:∀q,∀a∈zT S (qL (qQ t.s) 0),a.ok q:=λq a u=>by
   unfold zT at u;split at u
   ·cases u
   ·simp at u;subst u;exact Ls _ _ _
  have bad2:∀k:Int,k≠0->zP (S,e,g,sp,d) (zT S (qL (qQ t.s) 0),k,0):=λk T=>⟨⟨V,λh=>absurd h T⟩,λh=>absurd h T⟩;refine⟨⟨S,e,qL (qQ t.s) 0⟩,rfl,rfl,rfl,rfl,rfl,rfl,rfl,rfl,rfl,rfl,rfl,rfl,rfl,rfl,rfl,rfl,rfl,rfl,rfl,rfl,rfl,⟨λhm=>by unfold QF;rw[if_pos hm],λhm=>by unfold QF;rw[if_neg hm]⟩,⟨g,QF t.s⟩,rfl,rfl,rfl,rfl,rfl,rfl,rfl,rfl,rfl,rfl,H,λq hq=>hq,λhno=>⟨qE S (qL (qQ t.s) 0),rfl,rfl,⟨zT S (qL (qQ t.s) 0),qt (qK S e) 2,0⟩,rfl,by rw[z12],rfl,by rw[z12],bad2 _ (jj (by decide)),λq _=>G q⟩,λhyes=> ?_⟩;obtain⟨uw,uok⟩:=wW (QF t.s) H;refine⟨⟨by omega,by omega⟩,⟨qE S (qL (qQ t.s) 0),qK S e,(qm (QF t.s) g).getD zJ,sp,d+1⟩,rfl,rfl,rfl,rfl,rfl,rfl,rfl,rfl,rfl,rfl,rfl,rfl,rfl,rfl,⟨by show(25- (d+1)).toNat<n;omega,by rw[z12];exact V,uw,by omega,by omega,by omega⟩,λq hq=>uok q hq,?_⟩;rintro⟨U,e2,r⟩ ⟨⟨hU,Y⟩,hr⟩ _;simp only at hU Y hr⊢;have A:qE S (qL (qQ t.s) 0)++U=S++(zT S (qL (qQ t.s) 0)++U):=by rw[z12,τ]
  refine⟨λX=> ?_,λX=>⟨⟨zT S (qL (qQ t.s) 0)++U,e2,qw S⟩,rfl,by rw[A],rfl,by rw[A],⟨⟨by rw[←A];exact hU,λh=>absurd h X⟩,λh=>absurd h X⟩,λq hq a u=>(List.mem_append.1 u).elim (G q a) (hq.2 a)⟩⟩;obtain⟨Z,O⟩:=Y X;obtain⟨r0,r1⟩:=hr X;have hl:S.length<60:=by
   by_cases hl:60<=S.length
   ·exact absurd Z (PN hl)
   ·omega
  have e1:qK S e=e:=by unfold qK;rw[if_neg (by omega)]
  have e3:zT S (qL (qQ t.s) 0)=[qL (qQ t.s) 0]:=by unfold zT;rw[if_neg (by omega)]
  have er:qw S=S.length:=by unfold qw;rw[if_neg (by omega)]
  rw[A,e3]at hU O r1;rw[A,e3,er,γ];have hlen:∀x,(S++([qL (qQ t.s) x]++U)).length=S.length+U.length+1:=λx=>by simp;omega
  rw[hlen]at hU O r1;refine⟨⟨by omega,by rw[hlen];omega⟩,by rw[qv y9,hlen];show 0+S.length*10+3+1<=_;omega,⟨qL (qQ t.s) r::U,e2,S.length⟩,rfl,by show(S++([qL (qQ t.s) r]++U)).length=_;rw[hlen,hlen],rfl,jab S U _ r,⟨⟨by show(S++([qL (qQ t.s) r]++U)).length<=60;rw[hlen];omega,λ_=>⟨by rw[←e1];exact Z,λx hx=> ?_⟩⟩,λ_=>⟨by show 0<=(S.length:Int);omega,by show(S.length:Int)<((S++([qL (qQ t.s) r]++U)).length:Int);rw[hlen];omega⟩⟩,λq hq x hx=> ?_⟩
  ·show kT (S++([qL (qQ t.s) r]++U)).length x;rw[hlen];rcases List.mem_cons.1 hx with rfl|hx
   ·exact zq9 hkd r0 r1
   ·exact O x hx
  ·rcases List.mem_cons.1 hx with rfl|hx
   ·exact Ls _ _ _
   ·exact hq.2 x hx
 ·exact⟨⟨S,e,t.s,sp⟩,rfl,rfl,rfl,rfl,rfl,⟨hS,by show t.s.size<_;omega,by show sp.size<_;omega⟩,λb B _=>⟨b,rfl,rfl,rfl,rfl,B,λq hq=>hq.2⟩⟩
end
def k0e:Ck:=mkS [115,121,109,98,111,108,115]
abbrev K_:=Int×SV×List Ck×Bool×Ck
def Q8(S:List AT) (at_:Int) (y:SV) (l:List Ck) (hd:Bool) (df:Ck):List AT:=match S[at_.toNat]? with
 |some a=>S.set at_.toNat {a with sy:=y,sys:=l,hd:=hd,df:=df}
 |none=>S
def LF:CtR where
 σ:=List AT×Int×GJ×Int
 args:=λ⟨S,e,g,i⟩=>[.ptr 1 0,g.av, .sv (.int .i64 i)]
 h:=λ⟨S,e,g,i⟩=>jF S e 2 3
 m:=4
 pre:=λ⟨S,e,g,i⟩=>S.length<=60/\g.wf/\0<=i/\(e=0->i<S.length)
 mem:=λ⟨S,e,g,i⟩=>gM g
 β:=λ_=>K_
 post:=λ⟨S,e,g,i⟩ ⟨e',y,l,hd,df⟩=>e'=0->e=0/\l≠[]/\l.length<=30
 pm:=λ_ ⟨e',y,l,hd,df⟩=>⟨η,qc qn y l,λ_ _ h e=>ji h e⟩
 r:=λ_ _=> .tup []
 h':=λ⟨S,e,g,i⟩ ⟨e',y,l,hd,df⟩=>jF (if e'=0 then Q8 S i y l hd df else S) e' 4 5
 m':=6
def Uh(h:T AO):Option Int:=wF h 1
def zX(g:GJ) (e:Int):List Ck:=(zl g k0e e).1
def C5:LF.σ->WayF:=λ⟨S,e,g,i⟩=>{
  cut:=λr _ _=>match r with
    |4=>θ {σ:=Int,pre:=λe'=>e'=0->e=0,find:=θ λ_ h=>Uh h,t:=λ_=>[],h:=λe'=>[wE S e' 2 3],more:=0,μ:=λ_=>0,keep:=[0,2,4,6,7]}
    |6=>θ {σ:=Int,pre:=λe'=>e'=0->e=0/\zX g e≠[],find:=θ λ_ h=>Uh h,t:=λ_=>[],h:=λe'=>[wE S e' 2 3],more:=0,μ:=λ_=>0,keep:=[0,2,4,6,7]}
    |8=>θ {σ:=Int,pre:=λe'=>e'=0->e=0/\zX g e≠[]/\(zX g e).length<=30,find:=θ λ_ h=>Uh h,t:=λ_=>[],h:=λe'=>[wE S e' 2 3],more:=0,μ:=λ_=>0,keep:=[0,2,4,6,7]}
    |13=>θ {σ:=Int,pre:=λe'=>e'=0->e=0/\zX g e≠[]/\(zX g e).length<=30,find:=θ λ_ h=>Uh h,t:=λ_=>[],h:=λe'=>[wE S e' 2 3],more:=0,μ:=λ_=>0,keep:=[0,2,4,6,7,8]}
    |27=>θ {σ:=Int,pre:=λe'=>e'=0->e=0/\zX g e≠[]/\(zX g e).length<=30,find:=θ λ_ h=>Uh h,t:=λ_=>[],h:=λe'=>[wE S e' 2 3],more:=0,μ:=λ_=>0,keep:=[0,2,4,6,7,11,12]}
    |_=>ι
  ann :=λid t _=>match id with
    |0=>θ {σ:=Nat×Int,pre:=λ⟨j,e'⟩=>j<=(zX g e).length/\(e'=0->e=0/\zX g e≠[]/\(zX g e).length<=30),t:=λ⟨j,e'⟩=>[(8, .sv (.int .i64 (j:Int)))],h:=λ⟨j,e'⟩=>[wE S e' 2 3],more:=0,μ:=λ⟨j,e'⟩=>(zX g e).length- j,keep:=[0,2,4,6,7]}
    | 2=>match jO t 8 with
      |some i=>θ {σ:=Nat×Int,pre:=λ⟨k,e'⟩=>(k:Int)<=i/\(e'=0->e=0/\zX g e≠[]/\(zX g e).length<=30),t:=λ⟨k,e'⟩=>[(9, .sv (.int .i64 (k:Int)))],h:=λ⟨k,e'⟩=>[wE S e' 2 3],more:=0,μ:=λ⟨k,e'⟩=>(i- k).toNat,keep:=[0,2,4,6,7,8]}
      |none=>ι
    |_=>θ {σ:=Nat×Bool,pre:=λ⟨k,b⟩=>k<=(zX g e).length,t:=λ⟨k,b⟩=>[(13, .sv (.bool b)),(14, .sv (.int .i64 (k:Int)))],h:=λ_=>[],more:=0,μ:=λ⟨k,b⟩=>(zX g e).length- k,keep:=[0,2,4,6,7,11,12]}}
section
variable (b:List AT×Int×GJ×Ck) (e:Int) (f:Option Addr) (c g:Nat) (i:List AT) (a:GJ) (m r:Int) (l:Nat×Int) (p:Nat×Bool) (j:GJ×Ck) (d:List AT×Int×GJ×Ck×Bool) (t:Prop) (q:Nat×Int) (C:Nat->Option Obj) (D:Nat×Bool) (v:K_) (A:List AT) (E:Ck) (F:Nat×Int)
 abbrev YB:=qa AT.cells b.1=qa AT.cells i
 def xW:=(True/\GJ.ok a C)/\qc qn (f,c,g) (zl b.2.2.1 b.2.2.2 b.2.1).1 C
 abbrev wh:=(zl b.2.2.1 b.2.2.2 b.2.1).2
 def UO:=qa AT.cells i=qa AT.cells b.1/\True/\t
 def z46:=(wh b).1=(wh b).1
 def QN:=length i=length A
 def k_:=GJ.k a=GJ.k a/\GJ.n a=GJ.n a/\GJ.s a=GJ.s a/\(GJ.y a).1=(GJ.y a).1/\(GJ.y a).2.1=(GJ.y a).2.1/\(GJ.y a).2.2=(GJ.y a).2.2/\(GJ.x a).1=(GJ.x a).1/\(GJ.x a).2.1=(GJ.x a).2.1/\(GJ.x a).2.2=(GJ.x a).2.2/\(∀h,xW b f c g a h->xW b f c g a h)/\t
 def QM:=qa AT.cells b.1=qa AT.cells b.1
 def bg:=z46 b/\e=e/\f=f/\c=c/\g=g/\length i=length b.1/\(wh b).2=(wh b).2/\QM b/\k_ b f c g a (((wh b).2=0->m=0)/\True)
 def Ba:=r=r/\QN i A/\e=e/\UO b i (z46 b/\m=m/\f=f/\c=c/\g=g/\QN A i/\qt e r=qt e r/\YB b i/\t)
 def Mf:=e=0/\zX a e≠[]
 def ZO:=f=f/\c=c/\g=g/\length i=length i/\t
 def uc:=e=0/\zX a e≠[]/\length (zX a e)<=30
 def Me:=l.1<=length (zX a e)/\(l.2=0->uc e a)
 def Mg:=(0<=(↑l.1:Int)/\(↑l.1:Int)<(↑c:Int))/\f≠noA/\t
 def Mc:=(∀h,xW b f c g a h->q37 h (adr f (toNat (↑l.1:Int)*1)) [string E])
 def YC:=e=e/\(↑l.1:Int)=(↑l.1:Int)/\t
 def Mb:=(↑l.1:Int)<=(↑q.1:Int)/\(l.2=0->uc e a)
 abbrev Ma:=Jb ((↑l.1:Int)+1)
 def Bd:=(Mb e a l q)/\toNat ((↑q.1:Int)- (↑l.1:Int))<toNat ((↑q.1:Int)- (↑F.1:Int))/\True
 def bc:=Ma l/\∃(h:Nat×Int),z46 b/\(↑h.1:Int)=(↑l.1:Int)+1/\YC e q (ZO f c g i (h.2=l.2/\QM b/\k_ b f c g a (Bd m a h q l)))
 def aW:=Mg f c l (∃h,Mc b f c g a l h/\Mg f c q (∃o,Mc b f c g a q o/\Ji (h=o) (∃(z:List AT),(5:Int)=5/\QN z i/\l.2=l.2/\UO b z (Ma l/\∃(B:Nat×Int),z46 b/\(↑B.1:Int)=(↑l.1:Int)+1/\YC e q (f=f/\c=c/\g=g/\QN i z/\B.2=qt l.2 5/\YB b z/\k_ b f c g a (Bd m a B q l)))) (bc b e f c g i a m l q)))
 def bf:=Ma l/\∃(h:Nat×Int),z46 b/\e=e/\(↑h.1:Int)=(↑l.1:Int)+1/\ZO f c g i (h.2=q.2/\QM b/\k_ b f c g a ((Me m a h)/\length (zX a m)- h.1<length (zX a m)- l.1/\True))
 def aU:=Ji ((↑l.1:Int)<(↑q.1:Int)) (aW b e f c g i a m l q) (bf b e f c g i a m q l)
 def aT:=(∃(h:Nat×Int),z46 b/\(↑h.1:Int)=0/\YC e l (ZO f c g i (h.2=m/\QM b/\k_ b f c g a ((Mb r a h l)/\True))))/\∀(w:Nat×Int),Mb r a w l->aU b e f c g i a r w l
 def mI:=(Mg f c l (∃h,Mc b f c g a l h/\h=h/\size h<1000000/\((!vV h)=η->∃(o:List AT),(6:Int)=6/\QN o i/\l.2=l.2/\UO b o (z46 b/\YC e l (f=f/\c=c/\g=g/\QN i o/\qt l.2 (6:Int)=qt l.2 6/\YB b o/\k_ b f c g a ((qt l.2 (6:Int)=0->uc m a)/\True))))/\((!vV h)=ζ->z46 b/\YC e l (ZO f c g i (l.2=l.2/\QM b/\k_ b f c g a ((l.2=0->uc m a)/\True))))))/\∀(u:Int),(u=0->uc m a)->aT b e f c g i a u m l
 def YA:=z46 b/\π (qm j.2 j.1)=π (qm j.2 j.1)/\t
 abbrev yL:=jW d.2.2.1 d.2.2.2.1 d.2.2.2.2 d.2.1
 def UN:=(yL d).1=(yL d).1/\f=f/\c=c/\g=g/\t
 def Md:=(yL d).2=(yL d).2/\qa AT.cells d.1=qa AT.cells d.1/\t
 abbrev Bc:=Jb ((↑p.1:Int)+1)
 def T9:=UN f c g d ((↑p.1:Int)=(↑D.1:Int)+1/\length d.1=length d.1/\Md d (k_ b f c g a (p.1<=length (zX a e)/\length (zX a e)- p.1<length (zX a e)- D.1/\True)))
 def ba:=Bc p/\∃(h:Nat×Bool),YA b j (h.2=η/\e=e/\T9 b m f c g a h d p)
 def aZ:=(0<=(↑p.1:Int)/\(↑p.1:Int)<(↑c:Int))/\f≠noA/\∃h,(∀w,xW b f c g a w->q37 w (adr f (toNat (↑p.1:Int)*1)) [string h])/\Bc p/\∃(o:Nat×Bool),YA b j (o.2=decide (h=(yL d).1)/\e=e/\T9 b m f c g a o d p)
 def aX:=(p.2=η->ba b e f c g a m p j d)/\(p.2=ζ->aZ b e f c g a m p j d)
 def T8:=YA b j (e=e/\UN f c g d (length i=length d.1/\Md d (k_ b f c g a (((yL d).2=0->uc m a)/\True))))
 def a_:=((!p.2)=η->∃(h:List AT),(6:Int)=6/\length h=length d.1/\(yL d).2=(yL d).2/\qa AT.cells h=qa AT.cells d.1/\True/\YA b j (e=e/\UN f c g d (QN i h/\qt (yL d).2 (6:Int)=qt (yL d).2 6/\qa AT.cells d.1=qa AT.cells h/\k_ b f c g a ((qt (yL d).2 (6:Int)=0->uc m a)/\True))))/\((!p.2)=ζ->T8 b e f c g i a m j d)
 abbrev Bb:=spl (spl (qa AT.cells d.1) (nat_lit 0+toNat e*nat_lit 10+4) [slice f c g]) (nat_lit 0+toNat e*nat_lit 10+5) [bool (π (qm j.2 j.1))]
 abbrev UM:=if v.1=0 then Q8 i e v.2.1 v.2.2.1 v.2.2.2.1 v.2.2.2.2 else i
 def T_:=e=0/\v.2.2.1≠[]/\length v.2.2.1<=30
 def aY:=(0<=e/\e<(↑(length i):Int))/\nat_lit 0+toNat e*nat_lit 10+4+length [slice f c g]<=length (qa AT.cells d.1)/\(0<=e/\e<(↑(length i):Int))/\nat_lit 0+toNat e*nat_lit 10+5+length [bool (π (qm j.2 j.1))]<=length (spl (qa AT.cells d.1) (nat_lit 0+toNat e*nat_lit 10+4) [slice f c g])/\(0<=e/\e<(↑(length i):Int))/\nat_lit 0+toNat e*nat_lit 10+6+length [string (yL d).1]<=length (Bb e f c g j d)/\∃(h:K_),length (UM e i h)=length i/\h.1=m/\qa AT.cells (UM e i h)=spl (Bb e f c g j d) (nat_lit 0+toNat e*nat_lit 10+6) [string (yL d).1]/\(h.1=0->T_ r h)/\(∀w,xW b f c g a w->qc qn h.2.1 h.2.2.1 w)/\True
 def aV:=Ji (e=0) (aY b m f c g i a e r j d) (∃(o:K_),length (UM m i o)=length i/\o.1=e/\qa AT.cells (UM m i o)=qa AT.cells d.1/\(o.1=0->T_ r o)/\(∀u,xW b f c g a u->qc qn o.2.1 o.2.2.1 u)/\True)
 def mJ:=((π (qm j.2 j.1)=η->a_ b e f c g i a m p j d)/\(π (qm j.2 j.1)=ζ->T8 b e f c g i a m j d))/\∀(w:Int),(w=0->uc m a)->aV b w f c g i a e m j d
 def mG:=Ji ((↑p.1:Int)<(↑c:Int)) (aX b e f c g a m p j d) (mJ b e f c g i a m p j d)
 def T7:=∃(h:GJ×Ck),GJ.k h.1=GJ.k a/\GJ.n h.1=GJ.n a/\GJ.s h.1=GJ.s a/\(GJ.y h.1).1=(GJ.y a).1/\(GJ.y h.1).2.1=(GJ.y a).2.1/\(GJ.y h.1).2.2=(GJ.y a).2.2/\(GJ.x h.1).1=(GJ.x a).1/\(GJ.x h.1).2.1=(GJ.x a).2.1/\(GJ.x h.1).2.2=(GJ.x a).2.2/\h.2=mkS [100,101,102,97,117,108,116]/\GJ.wf h.1/\(∀w,xW b f c g a w->GJ.ok h.1 w)/\∃(o:List AT×Int×GJ×Ck×Bool),GJ.k o.2.2.1=GJ.k a/\GJ.n o.2.2.1=GJ.n a/\GJ.s o.2.2.1=GJ.s a/\(GJ.y o.2.2.1).1=(GJ.y a).1/\(GJ.y o.2.2.1).2.1=(GJ.y a).2.1/\(GJ.y o.2.2.1).2.2=(GJ.y a).2.2/\(GJ.x o.2.2.1).1=(GJ.x a).1/\(GJ.x o.2.2.1).2.1=(GJ.x a).2.1/\(GJ.x o.2.2.1).2.2=(GJ.x a).2.2/\o.2.2.2.1=mkS [100,101,102,97,117,108,116]/\o.2.2.2.2=ζ/\length o.1=length i/\o.2.1=l.2/\qa AT.cells o.1=qa AT.cells b.1/\GJ.wf o.2.2.1/\(∀u,xW b f c g a u->GJ.ok o.2.2.1 u)/\(∃(z:Nat×Bool),YA b h (z.2=ζ/\e=e/\UN f c g o ((↑z.1:Int)=0/\length o.1=length o.1/\Md o (k_ b f c g a (z.1<=length (zX a m)/\True)))))/\∀(B:Nat×Bool),B.1<=length (zX a m)->mG b e f c g i a m B h o
 def mH:=Ji (l.2=0) (mI b e f c g i a m l) (T7 b e f c g i a m l)
 def mF:=Ji ((↑l.1:Int)<(↑c:Int)) (mH b e f c g i a m l) (T7 b e f c g i a m l)
 def mE:=(∃(h:Nat×Int),z46 b/\e=e/\(↑h.1:Int)=0/\ZO f c g i (h.2=m/\QM b/\k_ b f c g a ((Me r a h)/\True)))/\∀(o:Nat×Int),Me r a o->mF b e f c g i a r o
 def mD:=(Ji (30<(↑c:Int)) (∃(h:List AT),Ba b e f c g h m 3 (k_ b f c g a ((qt e (3:Int)=0->uc r a)/\True)) i) (z46 b/\m=m/\ZO f c g i (e=e/\QM b/\k_ b f c g a ((e=0->uc r a)/\True))))/\∀(u:Int),(u=0->uc r a)->mE b m f c g i a u r
 def mC:=(Ji ((↑c:Int)=0) (∃(h:List AT),Ba b e f c g h m 6 (k_ b f c g a ((qt e (6:Int)=0->Mf r a)/\True)) i) (z46 b/\m=m/\ZO f c g i (e=e/\QM b/\k_ b f c g a ((e=0->Mf r a)/\True))))/\∀(u:Int),(u=0->Mf r a)->mD b u f c g i a m r
 def mB:=(((!(wh b).1)=η->∃(h:List AT),(2:Int)=2/\length h=length b.1/\(wh b).2=(wh b).2/\UO b h (z46 b/\e=e/\f=f/\c=c/\g=g/\QN i h/\qt (wh b).2 (2:Int)=qt (wh b).2 2/\YB b h/\k_ b f c g a ((qt (wh b).2 (2:Int)=0->m=0)/\True)))/\((!(wh b).1)=ζ->bg b e f c g i a m))/\∀(u:Int),(u=0->m=0)->mC b u f c g i a e m
end
def zqr(S:List AT) (e:Int) (g:GJ) (i:Int):qk3 P (qf5 [(103,z72),(66,xS),(100,Ux),(124,Yp),(63,wY)]) (qg7 []) Tryz.f105 LF (C5) ⟨S,e,g,i⟩=(length S<=60/\GJ.wf g/\0<=i/\(e=0->i<(↑(length S):Int))->(∃(p:Pub),True/\GJ.ok g p)->∃(s:List AT×Int×GJ×Ck),GJ.k s.2.2.1=GJ.k g/\GJ.n s.2.2.1=GJ.n g/\GJ.s s.2.2.1=GJ.s g/\(GJ.y s.2.2.1).1=(GJ.y g).1/\(GJ.y s.2.2.1).2.1=(GJ.y g).2.1/\(GJ.y s.2.2.1).2.2=(GJ.y g).2.2/\(GJ.x s.2.2.1).1=(GJ.x g).1/\(GJ.x s.2.2.1).2.1=(GJ.x g).2.1/\(GJ.x s.2.2.1).2.2=(GJ.x g).2.2/\s.2.2.2=mkS [115,121,109,98,111,108,115]/\length s.1=length S/\s.2.1=e/\YB s S/\GJ.wf s.2.2.1/\(∀(p:Pub),True/\GJ.ok g p->GJ.ok s.2.2.1 p)/\∀(b:Unit),True->∀(a:Option Addr) (n c:Nat),(∃(p:Pub),xW s a n c g p)->mB s i a n c S g e):=by kernel_rfl
def j06:=λS e g i=>ς (zqr S e g i) (by delta Ji Jb Jt Jf YB xW wh UO z46 QN k_ QM bg Ba Mf ZO uc Me Mg Mc YC Mb Ma Bd bc aW bf aU aT mI YA yL UN Md Bc T9 ba aZ aX T8 a_ Bb UM T_ aY aV mJ mG T7 mH mF mE mD mC mB;exact rfl)
section
def zeb:∀{l:List GJ} {e:Int} {acc:List Ck},GJ.wfs l->(∀x∈acc,x.size<1000)->∀x∈(jv l e acc).1,x.size<1000
  | [],e,acc,_,h=>by rw[jv];exact h
  | g ::l,e,acc,hw,h=>by
    rw[GJ.wfs]at hw;rw[jv];split
    · refine zeb hw.2 λx hx=> ?_;rcases List.mem_append.1 hx with hx|hx
      · exact h x hx
      · simp at hx;subst hx;have:=hw.1;rw[GJ.wf_eq]at this;exact this.1
    · exact h
def jal:∀{l:List GJ} {e:Int} {acc:List Ck},(jv l e acc).2=0->e=0
  | [],e,acc,h=>by rw[jv]at h;exact h
  | g::l,e,acc,h=>by
    rw[jv]at h;split at h
    · assumption
    · exact h
def wb{e k:Int} (u:k≠0):qt e k=0->False:=λh=>jj u h
variable {g:GJ} {s:Ck} {e:Int}
def Pk(h:g.wf):∀x∈(zl g s e).1,x.size<1000:=by
 unfold zl;split
 ·have:=(wW s h).1;rw[GJ.wf_eq]at this;exact zeb this.2.2.2.2.2.2 λx hx=>(by cases hx)
 ·intro x hx;cases hx
def zea:∀{l:List GJ} {e:Int} {acc:List Ck},(jv l e acc).1.length<=acc.length+l.length
  | [],e,acc=>by rw[jv];exact Ζ _
  | g ::l,e,acc=>by
    rw[jv];split
    · refine Nat.le_trans zea ?_;simp;omega
    · simp
def Pj(h:g.wf):(zl g s e).1.length<1000:=by
 unfold zl;split
 ·have:=(wW s h).1;rw[GJ.wf_eq]at this;refine Nat.lt_of_le_of_lt zea ?_;simp;have:=this.2.1;omega
 ·exact qqi _
def P8:(zl g s e).2.2=0->e=0:=by
 unfold zl;split
 ·intro h;have:=jal h;unfold y6 at this;split at this
  ·exact this
  ·exact absurd this (jj (by decide))
 ·exactλh=>h
def Tn{b:Bool}:(jW g s b e).2=0->e=0:=by
 unfold jW;split
 ·split
  ·exactλh=>absurd h (jj (by decide))
  ·exactλh=>h
 ·split
  ·exactλh=>h
  ·exactλh=>absurd h (jj (by decide))
def z85(S:List AT) (k:Nat) (h:k<S.length) (x:AT):qa AT.cells (S.set k x)=qa AT.cells (S.take k)++(x.cells++qa AT.cells (S.drop (k+1))):=by rw[List.set_eq_take_append_cons_drop,if_pos h,zu,J6]
def z9q(S:List AT) (k:Nat) (h:k<S.length):qa AT.cells S=qa AT.cells (S.take k)++((S[k]).cells++qa AT.cells (S.drop (k+1))):=by rw[←z85 S k h,List.set_getElem_self]
def z9t(S:List AT) (k:Nat) (h:k<S.length):(qa AT.cells (S.take k)).length=k*10:=by rw[qv y9,List.length_take];congr 1;omega
def zqt(S:List AT) (k:Nat) (h:k<S.length) (y:SV) (l:List Ck) (hd:Bool) (df:Ck):qa AT.cells (S.set k {S[k]with sy:=y,sys:=l,hd:=hd,df:=df})=spl (spl (spl (qa AT.cells S) (0+k*10+4) [vw y]) (0+k*10+5) [.bool hd]) (0+k*10+6) [.string df]:=by
 rw[z85 S k h];conv=>rhs;rw[z9q S k h]
 rw[Ε,←z9t S k h];generalize qa AT.cells (S.take k)=A;generalize qa AT.cells (S.drop (k+1))=B;show _=(((A++((S[k]).cells++B)).set (A.length+4) (vw y)).set (A.length+5) (.bool hd)).set (A.length+6) (.string df);rw[Yj,Yj,Yj];rfl
def j07:q1p P 105 LF:=by
 refine zh (qcl (qgj Pi (qgj J' (qgj Pm (qgj PE (qgj xP qjq)))))) (qdd qjp) (W:=C5) Tryz.func105 λ⟨S,(e:Int),g,(i:Int)⟩=>(j06 S e g i).mpr ?_;rintro⟨hS,J,B,X⟩ ⟨p,_,hp⟩;simp only[qB,exists_const,forall_const,γ];refine⟨⟨S,e,g,mkS [115,121,109,98,111,108,115]⟩,rfl,rfl,rfl,rfl,rfl,rfl,rfl,rfl,rfl,rfl,rfl,rfl,rfl,J,λq hq=>hq,?_⟩;have hL:(zl g (mkS [115,121,109,98,111,108,115]) e).1=zX g e:=rfl;have hsz:∀x∈zX g e,x.size<1000:=Pk J;have hLl:(zX g e).length<1000:=Pj J;have hE:(zl g (mkS [115,121,109,98,111,108,115]) e).2.2=0->e=0:=P8;simp only[hL];generalize zl g (mkS [115,121,109,98,111,108,115]) e=F at*;generalize zX g e=L at*;clear hL;rintro a n c ⟨O,hp1,A⟩;have hn:n=L.length:=A.1;subst hn;have u:=λ(j:Nat) (hj:j<L.length) (q:Pub) (hq:qc qn (a,L.length,c) L q)=>(show a≠noA/\q37 q (adr a (j*1)) [.string L[j]]from jX j8 (by decide) hq hj);refine⟨⟨λ_=>⟨S,rfl,rfl,rfl,rfl,λh=>(wb (by decide) h).elim⟩,λ_=>⟨trivial,hE⟩⟩,?_⟩;intro e1 h1;refine⟨⟨λ_=>⟨S,rfl,rfl,rfl,rfl,λh=>(wb (by decide) h).elim⟩,λC h=>⟨h1 h,λhh=>C (by rw[hh];rfl)⟩⟩,?_⟩;intro e2 h2;refine⟨⟨λ_=>⟨S,rfl,rfl,rfl,rfl,λh=>(wb (by decide) h).elim⟩,λC h=>⟨(h2 h).1,(h2 h).2,by omega⟩⟩,?_⟩;intro e3 h3;refine⟨⟨⟨0,e3⟩,rfl,rfl,χ _,h3⟩,?_⟩;rintro⟨j,T⟩ ⟨hj,h4⟩;simp only at*;refine⟨λhlt=>⟨λh0=>⟨⟨by omega,(u j (by omega) O A).1,L[j]'(by omega),λq hq=>(u j (by omega) q hq.2).2,by have:=hsz _ (qqh (show j<L.length by omega));omega,λ_=>⟨S,rfl,rfl,rfl,rfl,λh=>(wb (by decide) h).elim⟩,λ_=>h4⟩,?_⟩,λh0=> ?xa⟩,λhge=> ?xb⟩
 ·intro e5 h5;refine⟨⟨⟨0,e5⟩,rfl,rfl,by show(0:Int)<=_;omega,h5⟩,?_⟩;rintro⟨k,U⟩ ⟨hk,h6⟩;simp only at*;refine⟨λY=>⟨⟨by omega,by omega⟩,(u k (by omega) O A).1,L[k]'(by omega),λq hq=>(u k (by omega) q hq.2).2,⟨by omega,by omega⟩,(u j (by omega) O A).1,L[j]'(by omega),λq hq=>(u j (by omega) q hq.2).2,λ_=>⟨S,rfl,rfl,⟨by omega,by omega⟩,⟨k+1,qt U 5⟩,by show((k+1:Nat):Int)=_;omega,rfl,rfl,rfl,⟨by show((k+1:Nat):Int)<=_;omega,λh=>(wb (by decide) h).elim⟩,by show((j:Int)- ((k+1:Nat):Int)).toNat<_;omega⟩,λ_=>⟨⟨by omega,by omega⟩,⟨k+1,U⟩,by show((k+1:Nat):Int)=_;omega,rfl,⟨by show((k+1:Nat):Int)<=_;omega,h6⟩,by show((j:Int)- ((k+1:Nat):Int)).toNat<_;omega⟩⟩,λY=>⟨⟨by omega,by omega⟩,⟨j+1,U⟩,by show((j+1:Nat):Int)=_;omega,rfl,⟨by show j+1<=_;omega,h6⟩,by show _- (j+1)<_;omega⟩⟩
 case xa|xb=>
  refine⟨⟨g,mkS [100,101,102,97,117,108,116]⟩,rfl,rfl,rfl,rfl,rfl,rfl,rfl,rfl,rfl,rfl,J,λq hq=>hq.1,⟨S,T,g,mkS [100,101,102,97,117,108,116],ζ⟩,rfl,rfl,rfl,rfl,rfl,rfl,rfl,rfl,rfl,rfl,rfl,rfl,rfl,rfl,J,λq hq=>hq.1,⟨⟨0,ζ⟩,rfl,rfl,χ _⟩,?_⟩;rintro⟨k,b⟩ hk;simp only at*;have hw:(jW g (mkS [100,101,102,97,117,108,116]) ζ T).2=0->e=0/\L≠[]/\L.length<=30:=λh=>h4 (Tn h);generalize jW g (mkS [100,101,102,97,117,108,116]) ζ T=W at*;generalize (qm (mkS [100,101,102,97,117,108,116]) g).isSome=H at*;refine⟨λZ=>⟨λ_=>⟨⟨by omega,by omega⟩,⟨k+1,η⟩,rfl,by show((k+1:Nat):Int)=_;omega,by show k+1<=_;omega,by show _- (k+1)<_;omega⟩,λ_=>⟨by omega,(u k (by omega) O A).1,L[k]'(by omega),λq hq=>(u k (by omega) q hq.2).2,⟨by omega,by omega⟩,⟨k+1,_⟩,rfl,by show((k+1:Nat):Int)=_;omega,by show k+1<=_;omega,by show _- (k+1)<_;omega⟩⟩,λZ=>⟨⟨λ_=>⟨λ_=>⟨S,rfl,rfl,rfl,rfl,λh=>(wb (by decide) h).elim⟩,λ_=>⟨trivial,hw⟩⟩,λ_=>⟨trivial,hw⟩⟩,?_⟩⟩;intro G V;refine⟨λC=> ?_,λC=>⟨⟨G,(a,L.length,c),L,H,W.1⟩,by show(if G=0 then _ else S).length=_;rw[if_neg C],rfl,by show qa AT.cells (if G=0 then _ else S)=_;rw[if_neg C],V,λq hq=>hq.2⟩⟩;obtain⟨z0,z1,z2⟩:=V C;have hi:=X z0;obtain⟨m,rfl⟩:=κ B;have hm:m<S.length:=by omega
  have es:Q8 S (m:Int) (a,L.length,c) L H W.1=S.set m {S[m]with sy:=(a,L.length,c),sys:=L,hd:=H,df:=W.1}:=by unfold Q8;rw[γ,Θ hm]
  have hrl:=qv y9 S;simp only[γ,q7p,List.length_singleton];refine⟨⟨B,hi⟩,by omega,⟨B,hi⟩,by omega,⟨B,hi⟩,by omega,⟨G,(a,L.length,c),L,H,W.1⟩,?_,rfl,?_,V,λq hq=>hq.2⟩
  ·show(if G=0 then Q8 S (m:Int) (a,L.length,c) L H W.1 else S).length=_;rw[if_pos C,es,qq5]
  ·show qa AT.cells (if G=0 then Q8 S (m:Int) (a,L.length,c) L H W.1 else S)=_;rw[if_pos C,es];exact zqt S m hm _ _ _ _
end
abbrev YY:=List AT×Int×GJ×Int×Ck×Int
abbrev xi:=List AT×Int×SV×List AF
def yx(S:List AT) (at_:Int) (x:SV) (l:List AF):List AT:=match S[at_.toNat]? with
 |some a=>S.set at_.toNat {a with f:=x,fs:=l}
 |none=>S
def tfM(T:List AT) (l:List AF):PF:=⟨η,λp=>(∀a∈T,a.ok p)/\∀f∈l,f.ok p,λ_ _ h e=>⟨λa A=>AT.ok_mono h (e.1 a A),λf u=>⟨ji h (e.2 f u).1,GJ.ok_mono h (e.2 f u).2⟩⟩⟩
def HD:CtR where
 σ:=YY
 args:=λ⟨S,e,g,i,sp,d⟩=>[.ptr 1 0,g.av, .sv (.int .i64 i), .sv (.string sp), .sv (.int .i64 d)]
 h:=λ⟨S,e,g,i,sp,d⟩=>jF S e 2 3
 m:=4
 pre:=λ⟨S,e,g,i,sp,d⟩=>S.length<=60/\g.wf/\0<=i/\(e=0->i<S.length)/\1<=d/\d<=20/\(sp.size:Int)<=1100*(d+1)
 mem:=λ⟨S,e,g,i,sp,d⟩=>gM g
 β:=λ_=>xi
 post:=λ⟨S,e,g,i,sp,d⟩ ⟨T,e',x,fs⟩=>(S++T).length<=60/\(e'=0->e=0/\(∀a∈T,kT (S++T).length a)/\(∀f∈fs,(0<=f.ty/\f.ty<(S++T).length)/\f.df.wf)/\fs.length<=7)
 pm:=λ_ ⟨T,e',x,fs⟩=>⟨η,λp=>(∀a∈T,a.ok p)/\qc AF.cells x fs p/\∀f∈fs,f.ok p,λ_ _ h e=>⟨λa A=>AT.ok_mono h (e.1 a A),ji h e.2.1,λf u=>⟨ji h (e.2.2 f u).1,GJ.ok_mono h (e.2.2 f u).2⟩⟩⟩
 r:=λ_ _=> .tup []
 h':=λ⟨S,e,g,i,sp,d⟩ ⟨T,e',x,fs⟩=>jF ((if e'=0 then yx S i x fs else S)++T) e' 4 5
 m':=6
def Vk:YY->Nat:=λ⟨S,e,g,i,sp,d⟩=>(25- d).toNat
def X2(h:T AO) (e:Int):List (Nat×AO):=match h.get 1 with
 |some (.cells a b c [sl,_])=>[(1, .cells a b c [sl, .sv (.int .i64 e)])]
 |_=>[]
def fdN:Ck:=mkS [102,105,101,108,100,115]
def Vg(g:GJ):GJ:=(qm fdN g).getD zJ
abbrev K7:=Nat×Int×List AT×List AF
def LH(S:List AT) (e:Int) (g:GJ):K7->Prop:=λ⟨i,e',T,fs⟩=>i<=(Vg g).l.length/\fs.length<=i/\(S++T).length<=60/\(e'=0->e=0/\(∀a∈T,kT (S++T).length a)/\(∀f∈fs,(0<=f.ty/\f.ty<(S++T).length)/\f.df.wf))
def zej:YY->WayF:=λ⟨S,e,g,i,sp,d⟩=>{
 cut:=λr t h=>match r with
  |15=>θ {σ:=Bool,t:=λb=>[(78, .sv (.bool b))],h:=λ_=>[],more:=0,μ:=λ_=>0,keep:=[0,2,3,4,6,10,12,13,14,15]}
  |16=>match wF h 1 with|none=>ι|some e0=>θ {σ:=Int,pre:=λe'=>e'=0->e0=0,find:=θ λ_ h=>wF h 1,t:=λ_=>[],h:=λe'=>X2 h e',more:=0,μ:=λ_=>0,keep:=[0,2,3,4,6,10,12,13,14,15]}
  |24=>match wF h 1 with|none=>ι|some e0=>θ {σ:=Int,pre:=λe'=>e'=0->e0=0,find:=θ λ_ h=>wF h 1,t:=λ_=>[],h:=λe'=>X2 h e',more:=0,μ:=λ_=>0,keep:=[0,2,3,4,6,10,12,13,14,15,17]}
  |_=>ι
 ann:=λid t h=>match id with
  |0=>θ {σ:=K7,pre:=LH S e g,mem:=λ⟨i,e',T,fs⟩=>tfM T fs,t:=λ⟨i,e',T,fs⟩=>[(13, .sv (.int .i64 (i:Int))),(12, .ssl 9 0 fs.length 9 10)],h:=λ⟨i,e',T,fs⟩=>jF (S++T) e' 7 8++[(9, .row 70 0 (qa AF.cells fs))],more:=4,μ:=λ⟨i,e',T,fs⟩=>(Vg g).l.length- i,keep:=[0,2,3,4,6,10],del:=[2]}
  |2=>match wF h 1 with|none=>ι|some e0=>θ {σ:=Nat×Int,pre:=λ⟨k,e'⟩=>e'=0->e0=0,t:=λ⟨k,e'⟩=>[(16, .sv (.int .i64 (k:Int)))],h:=λ⟨k,e'⟩=>X2 h e',more:=0,μ:=λ⟨k,e'⟩=>100- k,keep:=[0,2,3,4,6,10,12,13,14,15]}
  |_=>match wF h 1 with|none=>ι|some e0=>θ {σ:=Nat×Int,pre:=λ⟨k,e'⟩=>e'=0->e0=0,t:=λ⟨k,e'⟩=>[(19, .sv (.int .i64 (k:Int)))],h:=λ⟨k,e'⟩=>X2 h e',more:=0,μ:=λ⟨k,e'⟩=>2000- k,keep:=[0,2,3,4,6,10,12,13,14,15]}
 pub:=λi k=>match i,k with
  |34,9=>[165]
  |_,_=>[]}
section
variable (e:GJ×Ck) (m:List AT) (j u:Int) (d:GJ) (v:Ck) (D:Int) (A:Nat) (a:K7) (i:List AT×Int×GJ×Ck×Bool) (w I:Int) (z:Ck) (f:Option Addr) (h:Nat) (q:Option Addr) (r t F:Nat) (x19:Int) (c:Nat×Int) (H:GJ×Ck) (g:List AT×Int×GJ×Ck) (K:Option Addr) (L:Nat) (C:qW) (O:Prop) (G:Nat->Option Obj) (E:xi) (x29:Bool) (x30:Nat×Int)
 abbrev QQ:=(if E.2.1=0 then yx m j E.2.2.1 E.2.2.2 else m)++E.1
 def bj:=j=0/\(∀(b:AT),b∈E.1->kT (length (m++E.1)) b)/\(∀(B:AF),B∈E.2.2.2->(0<=AF.ty B/\AF.ty B<(↑(length (m++E.1)):Int))/\GJ.wf (AF.df B))/\length E.2.2.2<=7
 def UR:=(length (m++E.1)<=60/\(E.2.1=0->bj m j E))
 def UP:=(∀(b:AT),b∈E.1->AT.ok b G)/\qc AF.cells E.2.2.1 E.2.2.2 G/\∀(B:AF),B∈E.2.2.2->AF.ok B G
 def Mh:=∃(b:List AT),D=D/\length b=length m/\j=j/\qa AT.cells b=qa AT.cells m/\True/\∃(B:xi),length (QQ m u B)=length b/\B.2.1=qt j D/\qa AT.cells (QQ m u B)=qa AT.cells b/\UR m j B/\(∀M,True/\GJ.ok d M->UP M B)/\True
 abbrev q9:=υ (qm e.2 e.1) zJ
 abbrev Mm:=(↑(GJ.y (q9 e)).2.1:Int)
 def Mi:=GJ.k d=GJ.k d/\GJ.n d=GJ.n d/\GJ.s d=GJ.s d/\(GJ.y d).1=(GJ.y d).1/\(GJ.y d).2.1=(GJ.y d).2.1/\(GJ.y d).2.2=(GJ.y d).2.2/\(GJ.x d).1=(GJ.x d).1/\(GJ.x d).2.1=(GJ.x d).2.1/\(GJ.x d).2.2=(GJ.x d).2.2/\O
 def kU:=GJ.k (q9 e)=GJ.k (q9 e)/\GJ.n (q9 e)=GJ.n (q9 e)/\GJ.s (q9 e)=GJ.s (q9 e)/\(GJ.y (q9 e)).1=(GJ.y (q9 e)).1/\(GJ.y (q9 e)).2.1=(GJ.y (q9 e)).2.1/\(GJ.y (q9 e)).2.2=(GJ.y (q9 e)).2.2/\(GJ.x (q9 e)).1=(GJ.x (q9 e)).1/\(GJ.x (q9 e)).2.1=(GJ.x (q9 e)).2.1/\(GJ.x (q9 e)).2.2=(GJ.x (q9 e)).2.2/\O
 def Mj:=(∀(b:AT),b∈a.2.2.1->AT.ok b G)/\∀(B:AF),B∈a.2.2.2->AF.ok B G
 def ud:=(True/\GJ.ok d G)/\Mj a G
 abbrev kV:=jW i.2.2.1 i.2.2.2.1 i.2.2.2.2 i.2.1
 abbrev UU:=(kV i).2=0
 def US:=length a.2.2.2=length a.2.2.2
 def xX:=(↑a.1:Int)=(↑a.1:Int)/\j=j/\u=u/\US a/\O
 def UX:=length i.1=length i.1
 def UT:=qa AT.cells i.1=qa AT.cells i.1
 def Mk:=UX i/\(kV i).2=(kV i).2/\UT i/\O
 def wk:=j=j/\u=u/\v=v/\f=f/\A=A/\h=h/\q=q/\r=r/\t=t/\qa AF.cells a.2.2.2=qa AF.cells a.2.2.2/\Mi d ((kV i).1=(kV i).1/\O)
 def xY:=(∀b,(ud d a b)->ud d a b)
 def bA:=(kV i).1=(kV i).1/\size (kV i).1<1000000/\∃(b:Bool),v=v/\xX j u a (b= !vV (kV i).1/\Mk i (wk D w d z A a i f h q r t (kU e (xY d a/\True/\True))))
 def bp:=(x29=η->∃(b:List AT),(6:Int)=6/\length b=length i.1/\(kV i).2=(kV i).2/\qa AT.cells b=qa AT.cells i.1/\True/\v=v/\xX j u a (length i.1=length b/\qt (kV i).2 (6:Int)=qt (kV i).2 6/\qa AT.cells i.1=qa AT.cells b/\wk D w d z A a i f h q r t (kU e (xY d a/\(qt (kV i).2 (6:Int)=0->UU i)/\True))))/\(x29=ζ->v=v/\xX j u a (Mk i (wk D w d z A a i f h q r t (kU e (xY d a/\((kV i).2=0->UU i)/\True)))))
 def UW:=c.2=0->j=0
 def Bi:=j=j/\length m=length i.1/\c.2=c.2/\qa AT.cells m=qa AT.cells i.1/\True/\O
 abbrev UQ:=Jb ((↑c.1:Int)+1)
 def UY:=(↑c.1:Int)=(↑x30.1:Int)+1
 def bz:=UQ c/\∃(b:Nat×Int),v=v/\(↑a.1:Int)=(↑a.1:Int)/\j=j/\u=u/\UY b c/\US a/\UX i/\b.2=c.2/\UT i/\wk D w d z A a i f h q r t (kU e (xY d a/\(UW I b)/\(100:Nat)- b.1<100- c.1/\True))
 def bo:=(0<=(↑c.1:Int)/\(↑c.1:Int)<(↑(length a.2.2.2):Int))/\∃b,qga (qa AF.cells a.2.2.2) (nat_lit 0+toNat (↑c.1:Int)*nat_lit 9+0) [string b]/\Ji (b=(kV i).1) (∃(B:List AT),Bi B 5 i c (UQ c/\∃(M:Nat×Int),v=v/\(↑a.1:Int)=(↑a.1:Int)/\j=j/\u=u/\UY M c/\US a/\length i.1=length B/\M.2=qt c.2 5/\qa AT.cells i.1=qa AT.cells B/\wk D w d z A a i f h q r t (kU e (xY d a/\(UW I M)/\(100:Nat)- M.1<100- c.1/\True)))) (bz e j u d v D A a i w I z f h q r t c)
 def Bh:=GJ.k e.1=j/\GJ.n e.1=u/\GJ.s e.1=v/\(GJ.y e.1).1=f/\(GJ.y e.1).2.1=A/\(GJ.y e.1).2.2=h/\(GJ.x e.1).1=q/\(GJ.x e.1).2.1=r/\(GJ.x e.1).2.2=t/\O
 def UV:=(ud d a G)/\∀(b:AT),b∈C.1->AT.ok b G
 def QO:=(UV d a C G)/\qc qn (f,A,h) (zl g.2.2.1 g.2.2.2 g.2.1).1 G
 def Ml:=c.2=0->(zl g.2.2.1 g.2.2.2 g.2.1).2.2=0
 def Bg:=f=f/\A=A/\h=h/\C.2.2=C.2.2/\π (qm e.2 e.1)=π (qm e.2 e.1)/\kU e (kU H ((∀b,QO d A a f h g C b->QO d A a f h g C b)/\(Ml c g)/\(2000:Nat)- c.1<2000- x30.1/\True))
 def bx:=UQ c/\∃(b:Nat×Int),v=v/\UY b c/\xX j u a (length g.1=length g.1/\b.2=c.2/\qa AT.cells g.1=qa AT.cells g.1/\wk D w d z A a i f h q r t (Bg e d F a K L b H g C c))
 def bn:=(0<=(↑c.1:Int)/\(↑c.1:Int)<(↑A:Int))/\f≠noA/\∃b,(∀B,QO d A a f h g C B->q37 B (adr f (toNat (↑c.1:Int)*1)) [string b])/\b=b/\size b<1000000/\((!vV b)=η->∃(Q:List AT),(6:Int)=6/\length Q=length g.1/\c.2=c.2/\qa AT.cells Q=qa AT.cells g.1/\True/\UQ c/\∃(J:Nat×Int),v=v/\UY J c/\xX j u a (length g.1=length Q/\J.2=qt c.2 6/\qa AT.cells g.1=qa AT.cells Q/\wk D w d z r a i q t K F L (Bg e d A a f h J H g C c)))/\((!vV b)=ζ->bx e j u d v D r a i w z q t K F L A c H g f h C)
 def Bf:=length (qa AF.cells a.2.2.2)=length a.2.2.2*9/\(length a.2.2.2+nat_lit 1)*136<=140737488355328/\Jb ((↑a.1:Int)+1)/\∃(b:K7),v=v/\(↑b.1:Int)=(↑a.1:Int)+1/\j=j/\u=u/\length b.2.2.2=length a.2.2.2+nat_lit 1/\length (m++b.2.2.1)=length g.1/\b.2.1=c.2/\qa AT.cells (m++b.2.2.1)=qa AT.cells g.1/\qa AF.cells b.2.2.2=qa AF.cells a.2.2.2++[string (kV i).1,slice f A h,int i64 C.2.2,bool (π (qm e.2 e.1)),int i64 (GJ.k (q9 e)),int i64 (GJ.n (q9 e)),string (GJ.s (q9 e)),slice (GJ.y (q9 e)).1 (GJ.y (q9 e)).2.1 (GJ.y (q9 e)).2.2,slice (GJ.x (q9 e)).1 (GJ.x (q9 e)).2.1 (GJ.x (q9 e)).2.2]/\Mi d (kU H ((∀B,QO d A a f h g C B->True/\GJ.ok d B)/\(∀N,QO d A a f h g C N->Mj b N)/\LH m D d b/\length (GJ.l (Vg d))- b.1<length (GJ.l (Vg d))- a.1/\True))
 def bk:=Ji (c.2=0) (bn e j u d v D A a i w z f h q r t F c H g K L C) (Bf e m j u d v I A a i f h c H g C)
 def bh:=Ji ((↑c.1:Int)<(↑A:Int)) (bk e m j u d v D A a i w I z f h q r t F c H g K L C) (Bf e m j u d v I A a i f h c H g C)
 def mT:=(∃(b:Nat×Int),v=v/\(↑b.1:Int)=0/\xX j u a (length g.1=length g.1/\b.2=(zl g.2.2.1 g.2.2.2 g.2.1).2.2/\qa AT.cells g.1=qa AT.cells g.1/\wk D w d z A a i f h q r t (K=K/\F=F/\L=L/\C.2.2=C.2.2/\π (qm e.2 e.1)=π (qm e.2 e.1)/\kU e (kU H ((∀B,QO d F a K L g C B->QO d F a K L g C B)/\(Ml b g)/\True)))))/\∀(i8:Nat×Int),(Ml i8 g)->bh e m j u d v D F a i w I z K L f A h r i8 H g q t C
 def mS:=Jb (j+1)/\∃(b:yg),GJ.k b.2.2.1=GJ.k (q9 e)/\GJ.n b.2.2.1=GJ.n (q9 e)/\GJ.s b.2.2.1=GJ.s (q9 e)/\(GJ.y b.2.2.1).1=(GJ.y (q9 e)).1/\(GJ.y b.2.2.1).2.1=(GJ.y (q9 e)).2.1/\(GJ.y b.2.2.1).2.2=(GJ.y (q9 e)).2.2/\(GJ.x b.2.2.1).1=(GJ.x (q9 e)).1/\(GJ.x b.2.2.1).2.1=(GJ.x (q9 e)).2.1/\(GJ.x b.2.2.1).2.2=(GJ.x (q9 e)).2.2/\b.2.2.2.1=v/\b.2.2.2.2=j+1/\length b.1=length i.1/\b.2.1=u/\qa AT.cells b.1=qa AT.cells i.1/\(z77 b<A/\we b)/\(∀B,(ud d a B)->GJ.ok b.2.2.1 B)/\∀(J:qW),zP b J->(∃N,UV d a J N)->∃(Y:GJ×Ck),Bh Y D w z h f r q t F (Y.2=mkS [100,101,102,97,117,108,116]/\GJ.wf Y.1/\(∀i10,(UV d a J i10)->GJ.ok Y.1 i10)/\∃(o:List AT×Int×GJ×Ck),GJ.k o.2.2.1=D/\GJ.n o.2.2.1=w/\GJ.s o.2.2.1=z/\(GJ.y o.2.2.1).1=f/\(GJ.y o.2.2.1).2.1=h/\(GJ.y o.2.2.1).2.2=r/\(GJ.x o.2.2.1).1=q/\(GJ.x o.2.2.1).2.1=t/\(GJ.x o.2.2.1).2.2=F/\o.2.2.2=mkS [97,108,105,97,115,101,115]/\length o.1=length (b.1++J.1)/\o.2.1=J.2.1/\qa AT.cells o.1=qa AT.cells (b.1++J.1)/\GJ.wf o.2.2.1/\(∀T,(UV d a J T)->GJ.ok o.2.2.1 T)/\∀(i19:Unit),True->∀(V:Option Addr) (p W:Nat),(∃i23,QO d p a V W o J i23)->mT Y m I j d v D h a i w x19 z f r q t F p H o V W J)
 def mR:=Ji ((↑c.1:Int)<(↑(length a.2.2.2):Int)) (bo e j u d v D A a i w I z f h q r t c) (∃(o:GJ×Ck),Bh o D w z A f h q r t (o.2=mkS [116,121,112,101]/\GJ.wf o.1/\(∀T,(ud d a T)->GJ.ok o.1 T)/\(((!Option.isSome (qm o.2 o.1))=η->∃(Z:List AT),Bi Z 2 i c (v=v/\xX j u a (length i.1=length Z/\qt c.2 (2:Int)=qt c.2 2/\qa AT.cells i.1=qa AT.cells Z/\wk D w d z A a i f h q r t (kU e (kU o (xY d a/\(qt c.2 (2:Int)=0->c.2=0)/\True))))))/\((!Option.isSome (qm o.2 o.1))=ζ->v=v/\xX j u a (UX i/\c.2=c.2/\UT i/\wk D w d z A a i f h q r t (kU e (kU o (xY d a/\(c.2=0->c.2=0)/\True))))))/\∀(i29:Int),(i29=0->c.2=0)->mS o m u i29 d v D F a i w j z f A q h r t x19 e))
 def mQ:=(∃(b:Nat×Int),v=v/\(↑a.1:Int)=(↑a.1:Int)/\j=j/\u=u/\(↑b.1:Int)=0/\US a/\UX i/\b.2=D/\UT i/\wk w I d z A a i f h q r t (kU e (xY d a/\(UW D b)/\True)))/\∀(R:Nat×Int),(UW D R)->mR e m j u d v w A a i I D z f h q r t F x19 R
 def mP:=(0<=(↑a.1:Int)/\(↑a.1:Int)<(Mm e))/\(GJ.y (q9 e)).1≠noA/\∃(b:Int),∃(B:Int),∃M,∃Q,∃(J:Nat),∃(N:Nat),∃R,∃(i7:Nat),∃(i8:Nat),(∀Y,(ud d a Y)->q37 Y (adr (GJ.y (q9 e)).1 (toNat (↑a.1:Int)*5)) [int i64 b,int i64 B,string M,slice Q J N,slice R i7 i8])/\((!decide (b=6))=η->∃(X:List AT),(2:Int)=2/\length X=length (m++a.2.2.1)/\a.2.1=a.2.1/\qa AT.cells X=qa AT.cells (m++a.2.2.1)/\True/\∃(S:xi),length (QQ m j S)=length X/\S.2.1=qt a.2.1 2/\qa AT.cells (QQ m j S)=qa AT.cells X/\UR m u S/\(∀i16,(ud d a i16)->UP i16 S)/\True)/\((!decide (b=6))=ζ->∃(p:List AT×Int×GJ×Ck×Bool),GJ.k p.2.2.1=b/\GJ.n p.2.2.1=B/\GJ.s p.2.2.1=M/\(GJ.y p.2.2.1).1=Q/\(GJ.y p.2.2.1).2.1=J/\(GJ.y p.2.2.1).2.2=N/\(GJ.x p.2.2.1).1=R/\(GJ.x p.2.2.1).2.1=i7/\(GJ.x p.2.2.1).2.2=i8/\p.2.2.2.1=mkS [110,97,109,101]/\p.2.2.2.2=η/\length p.1=length (m++a.2.2.1)/\p.2.1=a.2.1/\qa AT.cells p.1=qa AT.cells (m++a.2.2.1)/\GJ.wf p.2.2.1/\(∀W,(ud d a W)->GJ.ok p.2.2.1 W)/\((Ji (UU p) (bA e j D d v b J a p B M Q N R i7 i8) (∃(i31:Bool),v=v/\xX j D a (i31=ζ/\Mk p (wk b B d M J a p Q N R i7 i8 (kU e (xY d a/\True/\True))))))/\∀(i37:Bool),True->bp e j D d v b J a p B M Q N R i7 i8 i37)/\∀(i49:Int),(i49=0->UU p)->mQ e m j D d v i49 J a p b B M Q N R i7 i8 A u)
 def Bj:=(ud d a G)/\length a.2.2.2<=A/\qgm G f (take (length a.2.2.2*nat_lit 9) (qa AF.cells a.2.2.2))
 def bw:=nat_lit 0+toNat j*nat_lit 10+8+length [slice f (length a.2.2.2) A]<=length (qa AT.cells (m++a.2.2.1))/\∃(b:xi),length (QQ m j b)=length (m++a.2.2.1)/\b.2.1=a.2.1/\qa AT.cells (QQ m j b)=spl (qa AT.cells (m++a.2.2.1)) (nat_lit 0+toNat j*nat_lit 10+8) [slice f (length a.2.2.2) A]/\UR m u b/\(∀B,Bj d A a f B->UP B b)/\True
 def bu:=(0<=j/\j<(↑(length (m++a.2.2.1)):Int))/\∀(b B M:Nat) (Q:Option Addr) (J N:Nat),(∃R,Bj d N a Q R)->bw m j u d N a Q
 def Be:=Ji (a.2.1=0) (bu m j u d a) (∃(U:xi),length (QQ m j U)=length (m++a.2.2.1)/\U.2.1=a.2.1/\qa AT.cells (QQ m j U)=qa AT.cells (m++a.2.2.1)/\UR m u U/\(∀V,(ud d a V)->UP V U)/\True)
 def mO:=Ji (a.2.1=0) (mP e m j u d v D A a) (Be m j u d a)
 def mN:=Ji ((↑a.1:Int)<(Mm e)) (mO e m j u d v D A a) (Be m j u d a)
 def mM:=(∃(b:K7),v=v/\(↑b.1:Int)=0/\j=j/\u=u/\length b.2.2.2=0/\length (m++b.2.2.1)=length m/\b.2.1=D/\qa AT.cells (m++b.2.2.1)=qa AT.cells m/\Mi d (kU e ((∀B,True/\GJ.ok d B->True/\GJ.ok d B)/\(∀M,True/\GJ.ok d M->Mj b M)/\LH m D d b/\True)))/\∀(N:K7),LH m D d N->(∃R,ud d N R)->mN e m j D d v u A N
 def mL:=Ji (30<(Mm e)) (Mh m j u d 3) (mM e m u D d v j A)
 def mK:=((!decide (GJ.k (q9 e)=5))=η->Mh m j u d 2)/\((!decide (GJ.k (q9 e)=5))=ζ->mL e m j u d v D A)
end
def zax(n:Nat) (S:List AT) (e:Int) (g:GJ) (i:Int) (sp:Ck) (d:Int):qk3 P (qf5 [(66,xS),(100,Ux),(124,Yp),(103,z72),(63,wY)]) (qg7 [(32,wZ.below z77 n)]) Tryz.f104 (HD.below Vk (n+1)) (zej) ⟨S,e,g,i,sp,d⟩=(Vk (S,e,g,i,sp,d)<n+1/\length S<=60/\GJ.wf g/\0<=i/\(e=0->i<(↑(length S):Int))/\1<=d/\d<=20/\(↑(size sp):Int)<=1100*(d+1)->(∃(p:Pub),True/\GJ.ok g p)->∃(s:GJ×Ck),GJ.k s.1=GJ.k g/\GJ.n s.1=GJ.n g/\GJ.s s.1=GJ.s g/\(GJ.y s.1).1=(GJ.y g).1/\(GJ.y s.1).2.1=(GJ.y g).2.1/\(GJ.y s.1).2.2=(GJ.y g).2.2/\(GJ.x s.1).1=(GJ.x g).1/\(GJ.x s.1).2.1=(GJ.x g).2.1/\(GJ.x s.1).2.2=(GJ.x g).2.2/\s.2=mkS [102,105,101,108,100,115]/\GJ.wf s.1/\(∀(p:Pub),True/\GJ.ok g p->GJ.ok s.1 p)/\((!Option.isSome (qm s.2 s.1))=η->Mh S e i g 2)/\((!Option.isSome (qm s.2 s.1))=ζ->mK s S e i g sp d n)):=by kernel_rfl
def zf7:=λn S e g i sp d=>ς (zax n S e g i sp d) (by delta Ji Jb Jt Jf QQ bj UR UP Mh q9 Mm Mi kU Mj ud kV UU US xX UX UT Mk wk xY bA bp UW Bi UQ UY bz bo Bh UV QO Ml Bg bx bn Bf bk bh mT mS mR mQ mP Bj bw bu Be mO mN mM mL mK;exact rfl)
def zoz(S:List AT) (k:Nat) (h:k<S.length) (x:SV) (l:List AF) (B:List AT):qa AT.cells (S.set k {S[k]with f:=x,fs:=l}++B)=spl (qa AT.cells (S++B)) (0+k*10+8) [vw x]:=by
 rw[zu,zu,z85 S k h];conv=>rhs;rw[z9q S k h]
 rw[Ε,←z9t S k h];generalize qa AT.cells (S.take k)=A;generalize qa AT.cells (S.drop (k+1))=C;generalize qa AT.cells B=D;show _=((A++((S[k]).cells++C))++D).set (A.length+8) (vw x);rw[τ A (S[k].cells++C) D,Yj,τ A];rfl
def j8f{l:List AF} {i:Nat} (h:i<l.length):∀(j:Nat) (v:Value),[qqp l[i].nm][j]? =θ v->(qa AF.cells l)[0+i*9+0+j]? =θ v:=λj v u=>by
 cases j with
 |zero=>have:=ZE H8 l i h 0 (by decide);rw[qzc]at this;rw[Ε,qzc,this];exact u
 |succ j=>simp at u
def zwq{g:GJ} (u:g.wf) (s:Ck) (b:Bool) (e:Int):(jW g s b e).1.size<1000:=by
  have h:=(wW s u).1;unfold jW;cases A:qm s g with
  | none=>
    simp only;split<;>exact qqi _
  | some t=>
    rw[A]at h;simp only;split
    · have h:t.wf:=h;rw[GJ.wf_eq]at h;exact h.1
    · exact qqi _
def zf8(n:Nat) (ht:q1p P 32 (wZ.below z77 n)):q1p P 104 (HD.below Vk (n+1)):=by
 refine zh (qcl (qgj J' (qgj Pm (qgj PE (qgj Pi (qgj xP qjq)))))) (qdd (qgi ht qjp)) (W:=zej) Tryz.func104 λ⟨S,(e:Int),g,(i:Int),sp,(d:Int)⟩=>(zf7 n S e g i sp d).mpr ?_;rintro⟨hmu,hS,hg,hi0,hi1,hd1,hd2,hsp⟩ ⟨p,_,hp⟩;have hmu:(25- d).toNat<n+1:=hmu;simp only[qB,exists_const,forall_const,γ];have bad:∀(T:List AT) (e1 k:Int),k≠0->(S++T).length<=60->(∀q,g.ok q->∀a∈T,a.ok q)->True:=λ_ _ _ _ _ _=>trivial;have z:∀(T:List AT) (k:Int) (x:SV) (fs:List AF),k≠0->((if k=0 then yx S i x fs else S)++T)=S++T:=λT k x fs hk=>by rw[if_neg hk]
 obtain⟨lw,lok⟩:=wW (mkS [102,105,101,108,100,115]) hg;refine⟨⟨g,mkS [102,105,101,108,100,115]⟩,rfl,rfl,rfl,rfl,rfl,rfl,rfl,rfl,rfl,rfl,hg,λq hq=>hq,λhno=>⟨S,rfl,rfl,⟨[],qt e 2,(ι,0,0),[]⟩,by show(_++[]).length=_;rw[z _ _ _ _ (jj (by decide)),δ],rfl,by show qa AT.cells (_++[])=_;rw[z _ _ _ _ (jj (by decide)),δ],⟨by show(S++[]).length<=60;rw[δ];exact hS,λh=>absurd h (jj (by decide))⟩,λq hq=>⟨λa O=>(by cases O),qV,λf u=>(by cases u)⟩⟩,λhyes=>⟨λhk=>⟨S,rfl,rfl,⟨[],qt e 2,(ι,0,0),[]⟩,by show(_++[]).length=_;rw[z _ _ _ _ (jj (by decide)),δ],rfl,by show qa AT.cells (_++[])=_;rw[z _ _ _ _ (jj (by decide)),δ],⟨by show(S++[]).length<=60;rw[δ];exact hS,λh=>absurd h (jj (by decide))⟩,λq hq=>⟨λa O=>(by cases O),qV,λf u=>(by cases u)⟩⟩,λhk=>⟨λh30=>⟨S,rfl,rfl,⟨[],qt e 3,(ι,0,0),[]⟩,by show(_++[]).length=_;rw[z _ _ _ _ (jj (by decide)),δ],rfl,by show qa AT.cells (_++[])=_;rw[z _ _ _ _ (jj (by decide)),δ],⟨by show(S++[]).length<=60;rw[δ];exact hS,λh=>absurd h (jj (by decide))⟩,λq hq=>⟨λa O=>(by cases O),qV,λf u=>(by cases u)⟩⟩,λh30=> ?_⟩⟩⟩;have hfd:Vg g=(qm (mkS [102,105,101,108,100,115]) g).getD zJ:=rfl;simp only at*;generalize (qm (mkS [102,105,101,108,100,115]) g).getD zJ=t at*;have H:=λq (hq:g.ok q)=>(show qc GJ.cells t.y t.l q by have:=lok q hq;rw[GJ.ok_eq]at this;exact this.1);have tl:t.y.2.1=t.l.length:=(H p hp).1;have lww:=lw;rw[GJ.wf_eq]at lww;refine⟨⟨⟨0,e,[],[]⟩,rfl,rfl,by show(S++[]).length=_;rw[δ],rfl,by show qa AT.cells (S++[])=_;rw[δ],λq hq=>⟨λa O=>(by cases O),λf u=>(by cases u)⟩,⟨χ _,χ _,by show(S++[]).length<=60;rw[δ];exact hS,λh=>⟨h,λa O=>(by cases O),λf u=>(by cases u)⟩⟩⟩,?_⟩;rintro⟨j,e1,T,fs⟩ ⟨hj,hfl,G,hinv⟩ ⟨p1,hp1,hT1,hf1⟩;simp only[hfd]at hj⊢;have B:e1≠0->∃b:xi,((if b.snd.fst=0 then yx S i b.snd.snd.fst b.snd.snd.snd else S)++b.fst).length=(S++T).length/\b.snd.fst=e1/\qa AT.cells ((if b.snd.fst=0 then yx S i b.snd.snd.fst b.snd.snd.snd else S)++b.fst)=qa AT.cells (S++T)/\((S++b.fst).length<=60/\(b.snd.fst=0->e=0/\(∀(a:AT),a∈b.fst->kT (S++b.fst).length a)/\(∀(f:AF),f∈b.snd.snd.snd->(0<=f.ty/\f.ty<↑(S++b.fst).length)/\f.df.wf)/\b.snd.snd.snd.length<=7))/\∀(p:Nat->Option Obj),(g.ok p/\(∀(a:AT),a∈T->a.ok p)/\∀(f:AF),f∈fs->f.ok p)->(∀(a:AT),a∈b.fst->a.ok p)/\qc AF.cells b.snd.snd.fst b.snd.snd.snd p/\∀(f:AF),f∈b.snd.snd.snd->f.ok p:=λhe=>⟨⟨T,e1,(ι,0,0),[]⟩,by show(_++T).length=_;rw[z _ _ _ _ he],rfl,by show qa AT.cells (_++T)=_;rw[z _ _ _ _ he],⟨G,λh=>absurd h he⟩,λq hq=>⟨hq.2.1,qV,λf u=>(by cases u)⟩⟩;have C:e1=0->(0<=i/\i<((S++T).length:Int))/\∀(a:Option Addr) (c:Nat),(∃p,(g.ok p/\(∀(a:AT),a∈T->a.ok p)/\∀(f:AF),f∈fs->f.ok p)/\fs.length<=c/\qgm p a (Ψ (fs.length*9) (qa AF.cells fs)))->0+i.toNat*10+8+[qq9 a fs.length c].length<=(qa AT.cells (S++T)).length/\∃b:xi,((if b.snd.fst=0 then yx S i b.snd.snd.fst b.snd.snd.snd else S)++b.fst).length=(S++T).length/\b.snd.fst=e1/\qa AT.cells ((if b.snd.fst=0 then yx S i b.snd.snd.fst b.snd.snd.snd else S)++b.fst)=spl (qa AT.cells (S++T)) (0+i.toNat*10+8) [qq9 a fs.length c]/\((S++b.fst).length<=60/\(b.snd.fst=0->e=0/\(∀(a:AT),a∈b.fst->kT (S++b.fst).length a)/\(∀(f:AF),f∈b.snd.snd.snd->(0<=f.ty/\f.ty<↑(S++b.fst).length)/\f.df.wf)/\b.snd.snd.snd.length<=7))/\∀(p:Nat->Option Obj),(g.ok p/\(∀(a:AT),a∈T->a.ok p)/\∀(f:AF),f∈fs->f.ok p)/\fs.length<=c/\qgm p a (Ψ (fs.length*9) (qa AF.cells fs))->(∀(a:AT),a∈b.fst->a.ok p)/\qc AF.cells b.snd.snd.fst b.snd.snd.snd p/\∀(f:AF),f∈b.snd.snd.snd->f.ok p:=λhe=>by
  obtain⟨i0,iT,iF⟩:=hinv he;have hi:=hi1 i0;obtain⟨m,rfl⟩:=κ hi0;have hm:m<S.length:=by omega
  have es:∀x,yx S (m:Int) x fs=S.set m {S[m]with f:=x,fs:=fs}:=λx=>by unfold yx;rw[γ,Θ hm]
  have hl:(S++T).length=S.length+T.length:=Κ;refine⟨⟨hi0,by omega⟩,λa c _=>⟨by rw[qv y9,hl,γ];show 0+m*10+8+1<=_;omega,⟨T,e1,(a,fs.length,c),fs⟩,?_,rfl,?_,⟨G,λ_=>⟨i0,iT,iF,by show fs.length<=7;omega⟩⟩,λq hq=>⟨hq.1.2.1,?_,hq.1.2.2⟩⟩⟩
  ·show((if e1=0 then yx S (m:Int) (a,fs.length,c) fs else S)++T).length=_;rw[if_pos he,es,Κ,qq5,hl]
  ·show qa AT.cells ((if e1=0 then yx S (m:Int) (a,fs.length,c) fs else S)++T)=_;rw[if_pos he,es];exact zoz S m hm _ _ T
  ·refine⟨rfl,hq.2.1,?_⟩;have:=hq.2.2;rw[Ξ (by rw[qv H8];exact Ζ _)]at this;exact this
 refine⟨λhlt=>⟨λhe0=> ?_,λhe0=>⟨λh=>C h,λh=>B h⟩⟩,λhge=>⟨λh=>C h,λh=>B h⟩⟩;have X:j<t.l.length:=by omega
 have hat:=λq (hq:g.ok q)=>jX ZI (by decide) (H q hq) X;have J:t.l[j].wf:=GJ.wfs_at lww.2.2.2.2.2.2 X;have A:∀q,g.ok q->t.l[j].ok q:=λq hq=>by have:=lok q hq;rw[GJ.ok_eq]at this;exact GJ.oks_at this.2.2 X
 refine⟨⟨by omega,by omega⟩,(hat p1 hp1).1,t.l[j].k,t.l[j].n,t.l[j].s,t.l[j].y.1,t.l[j].y.2.1,t.l[j].y.2.2,t.l[j].x.1,t.l[j].x.2.1,t.l[j].x.2.2,λq hq=>(hat q hq.1).2,λh6=>⟨S++T,rfl,rfl,⟨T,qt e1 2,(ι,0,0),[]⟩,by show(_++T).length=_;rw[z _ _ _ _ (jj (by decide))],rfl,by show qa AT.cells (_++T)=_;rw[z _ _ _ _ (jj (by decide))],⟨G,λh=>absurd h (jj (by decide))⟩,λq hq=>⟨hq.2.1,qV,λf u=>(by cases u)⟩⟩,λh6=> ?_⟩;obtain⟨e00,hTg,hfg⟩:=hinv he0;clear B C z bad;refine⟨⟨S++T,e1,t.l[j],mkS [110,97,109,101],η⟩,rfl,rfl,rfl,rfl,rfl,rfl,rfl,rfl,rfl,rfl,rfl,rfl,rfl,rfl,J,λq hq=>A q hq.1,?_⟩;simp only;have hnm:=zwq J (mkS [110,97,109,101]) η e1;have hwe:(jW t.l[j] (mkS [110,97,109,101]) η e1).2=0->e1=0:=Tn;generalize jW t.l[j] (mkS [110,97,109,101]) η e1=W at*;refine⟨⟨⟨λ_=>⟨by omega,_,rfl⟩,λ_=>⟨ζ,rfl⟩⟩,λ_ _=>⟨S++T,rfl,rfl,rfl,rfl,λh=>(wb (by decide) h).elim⟩⟩,?_⟩;intro e4 h4;refine⟨⟨⟨0,e4⟩,rfl,rfl,λh=>h⟩,?_⟩;rintro⟨k,e5⟩ h5;simp only at h5⊢;have hST':=G;refine⟨λhkl=>⟨⟨by omega,by omega⟩,fs[k]'(by omega)|>.nm,j8f (by omega),λ_=>⟨S++T,rfl,rfl,⟨by omega,by omega⟩,⟨k+1,qt e5 5⟩,by show((k+1:Nat):Int)=_;omega,rfl,rfl,rfl,λh=>(wb (by decide) h).elim,by show 100- (k+1)<100- k;omega⟩,λ_=>⟨⟨by omega,by omega⟩,⟨k+1,e5⟩,by show((k+1:Nat):Int)=_;omega,rfl,h5,by show 100- (k+1)<100- k;omega⟩⟩,λhkl=> ?_⟩;obtain⟨tw,tok⟩:=wW (mkS [116,121,112,101]) J;refine⟨⟨t.l[j],mkS [116,121,112,101]⟩,rfl,rfl,rfl,rfl,rfl,rfl,rfl,rfl,rfl,rfl,J,λq hq=>A q hq.1,?_⟩;simp only;generalize (qm (mkS [116,121,112,101]) t.l[j]).getD zJ=ty at*;refine⟨λ_=>⟨S++T,rfl,rfl,rfl,rfl,λh=>(wb (by decide) h).elim⟩,?_⟩;intro e7 h7;refine⟨⟨by omega,by omega⟩,⟨S++T,e7,ty,sp,d+1⟩,rfl,rfl,rfl,rfl,rfl,rfl,rfl,rfl,rfl,rfl,rfl,rfl,rfl,rfl,⟨by show(25- (d+1)).toNat<n;omega,G,tw,by omega,by omega,hsp⟩,λq hq=>tok q (A q hq.1),?_⟩;rintro⟨U,Y,r⟩ ⟨⟨hU,Z⟩,hr⟩ ⟨p2,hp2,hU3⟩;simp only at hU Z hr hU3⊢;obtain⟨dw,dok⟩:=wW (mkS [100,101,102,97,117,108,116]) J;refine⟨⟨t.l[j],mkS [100,101,102,97,117,108,116]⟩,rfl,rfl,rfl,rfl,rfl,rfl,rfl,rfl,rfl,rfl,J,λq hq=>A q hq.1.1,⟨S++T++U,Y,t.l[j],mkS [97,108,105,97,115,101,115]⟩,rfl,rfl,rfl,rfl,rfl,rfl,rfl,rfl,rfl,rfl,rfl,rfl,rfl,J,λq hq=>A q hq.1.1,?_⟩;have hsz:∀x∈(zl t.l[j] (mkS [97,108,105,97,115,101,115]) Y).1,x.size<1000:=Pk J;have hLl:(zl t.l[j] (mkS [97,108,105,97,115,101,115]) Y).1.length<1000:=Pj J;have hE:(zl t.l[j] (mkS [97,108,105,97,115,101,115]) Y).2.2=0->Y=0:=P8;simp only;generalize zl t.l[j] (mkS [97,108,105,97,115,101,115]) Y=F at*;generalize hdj:(qm (mkS [100,101,102,97,117,108,116]) t.l[j]).getD zJ=df at*;rintro a m c ⟨p3,hp3,hl3⟩;have hm:m=F.1.length:=hl3.1;subst hm;have V:=λ(k:Nat) (hk:k<F.1.length) (q:Pub) (hq:qc qn (a,F.1.length,c) F.1 q)=>(show a≠noA/\q37 q (adr a (k*1)) [.string F.1[k]]from jX j8 (by decide) hq hk);refine⟨⟨⟨0,F.2.2⟩,rfl,rfl,λh=>h⟩,?_⟩;rintro⟨x,e9⟩ h9;simp only at h9⊢;have hlen:(S++(T++U)).length=(S++T).length+U.length:=by rw[←τ];exact Κ
 refine⟨λhx=>⟨λh0=>⟨⟨by omega,by omega⟩,(V x (by omega) p3 hl3).1,F.1[x]'(by omega),λq hq=>(V x (by omega) q hq.2).2,by have:=hsz _ (qqh (show x<F.1.length by omega));omega,λ_=>⟨S++T++U,rfl,rfl,⟨by omega,by omega⟩,⟨x+1,qt e9 6⟩,by show((x+1:Nat):Int)=_;omega,rfl,rfl,rfl,λh=>(wb (by decide) h).elim,by show 2000- (x+1)<2000- x;omega⟩,λ_=>⟨⟨by omega,by omega⟩,⟨x+1,e9⟩,by show((x+1:Nat):Int)=_;omega,rfl,h9,by show 2000- (x+1)<2000- x;omega⟩⟩,λh0=> ?xa⟩,λhx=> ?xb⟩;case xa|xb=>
  refine⟨qv H8 fs,by omega,⟨by omega,by omega⟩,⟨j+1,e9,T++U,fs++[⟨W.1,(a,F.1.length,c),F.1,r,(qm (mkS [100,101,102,97,117,108,116]) t.l[j]).isSome,df⟩]⟩,by show((j+1:Nat):Int)=_;omega,by simp,by rw[τ],rfl,by rw[τ],by rw[zu];rfl,λq hq=>hq.1.1.1,λq hq=>⟨λy H=>(List.mem_append.1 H).elim (hq.1.1.2.1 y) (hq.1.2 y),λf u=>(List.mem_append.1 u).elim (hq.1.1.2.2 f) λh=> ?_⟩,⟨by show j+1<=(Vg g).l.length;rw[hfd];omega,by show(fs++[_]).length<=j+1;simp;omega,by show(S++(T++U)).length<=60;rw[←τ];exact hU,λh=>⟨e00,λy H=> ?_,λf u=> ?_⟩⟩,by show _- (j+1)<_;omega⟩
  ·simp at h;subst h;exact⟨hq.2,dok q (A q hq.1.1.1)⟩
  ·show kT (S++(T++U)).length y;obtain⟨u1,u2⟩:=Z (hE (h9 h));rcases List.mem_append.1 H with H|H
   ·exact z74 (by omega) (hTg y H)
   ·have:=u2 y H;rw[τ]at this;exact this
  ·show(0<=f.ty/\f.ty<((S++(T++U)).length:Int))/\f.df.wf;obtain⟨r0,r1⟩:=hr (hE (h9 h));rw[τ]at r1;rcases List.mem_append.1 u with u|u
   ·have:=hfg f u;exact⟨by omega,this.2⟩
   ·simp at u;subst u;exact⟨⟨r0,r1⟩,dw⟩
def nmT(k:Int) (W:Ck) (r n:Nat) (num:Nat):AO:= .cells 55 (θ 0) ζ [.sv (.int .i64 k), .sv (.string W), .ssl r 0 n 1 num, .int .i64 0, .nsl, .bool ζ, .str [], .int .i64 0, .nsl, .nsl]
abbrev YZ:=Nat×Int×List Ck
def zl1:XN->WayF:=λ⟨S,e,g,k,sp,d⟩=>{
  cut:=λr _ _=>match r with
    | 7 =>θ {σ:=Int×Ck,pre:=λ⟨e',s⟩=>(e'=0->e=0)/\(s.size:Int)<=1100*d,find:=θ λt h=>(match wF h 1 with
        | some e'=>match Hr t 3 with
          |some s=>θ (e',s)
          |none=>ι
        |none=>ι),t:=λ⟨e',s⟩=>[(3, .sv (.string s))],h:=λ⟨e',s⟩=>[wE S e' 2 3],more:=0,μ:=λ_=>0,keep:=[0,2,4,6,11]}
    |19=>θ {σ:=Int,pre:=λe'=>e'=0->e=0,find:=θ λ_ h=>wF h 1,t:=λ_=>[],h:=λe'=>[wE S e' 2 3],more:=0,μ:=λ_=>0,keep:=[0,2,3,4,6,14]}
    |_=>ι
  ann:=λid t h=>match h.get 15 with
    |some (.cells _ _ _ (_:: .sv (.string W)::_))=>θ {σ:=YZ,pre:=λ⟨j,e',acc⟩=>(j:Int)<=1000/\acc.length<=j/\(e'=0->e=0),t:=λ⟨j,e',acc⟩=>[(17, .sv (.int .i64 (j:Int)))],h:=λ⟨j,e',acc⟩=>[wE S e' 2 3,(15,nmT k W 22 acc.length 23),(22, .row 9 0 (qa qn acc))],more:=2,μ:=λ⟨j,e',acc⟩=>1000- j,keep:=[0,2,3,4,6,14,15]}
    |_=>ι
  pub:=λi k=>match i,k with
    |21,2=>[107]
    |_,_=>[]}
end
end Go.Proofs.YtniogjgfomaicaaGreat.Wd
