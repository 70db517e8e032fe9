/-
  What the functions do: contracts, and their questions answered. No condition but what its theorems ask.
-/
import Derived.Test.YtpanaicglidfjaaT3
namespace Go.Proofs.Ytpanaicglidfjaa.Wd
open Go.Proofs.Ytpanaicglidfjaa.Eng Go.Proofs.Ytpanaicglidfjaa.Sen Go.RowKit
set_option linter.defProp false
set_option linter.unusedVariables false
set_option linter.unusedSimpArgs false
set_option maxRecDepth 1000000
noncomputable section
theorem qjo{s:ByteArray}:∀{nm:List ByteArray} {l:List GJ} {t:GJ},q8c s nm l=some t->∃(i:Nat) (h:i<l.length),t=l[i]
  | [],l,t,h=>by simp[q8c]at h
  |x::nm,[],t,h=>by simp[q8c]at h
  | x::nm,g::l,t,h=>by
    rw[q8c]at h
    split at h
    · cases h;exact⟨0,by simp,rfl⟩
    · obtain⟨i,hi,e⟩:=qjo h;exact⟨i+1,by simpa using hi,by simpa using e⟩
theorem qnf{s:ByteArray} {g t:GJ} (h:q0z s g=some t) (hw:g.wf):t.wf/\∀p,g.ok p->t.ok p:=by
 unfold q0z at h
 split at h
 ·obtain⟨i,hi,rfl⟩:=qjo h
  rw[GJ.wf_eq]at hw
  exact⟨GJ.wfs_at hw.2.2.2.2.2.2 hi,λp hp=>by rw[GJ.ok_eq]at hp;exact GJ.oks_at hp.2.2 hi⟩
 ·cases h
theorem zJ_wf:zJ.wf:=by
 unfold zJ GJ.wf GJ.wfs
 exact⟨by decide,by decide,by decide,λt h=>by simp at h,⟨by decide,by decide⟩,λ_=>rfl,trivial⟩
theorem zJ_ok(p:Pub):zJ.ok p:=by
 unfold zJ GJ.ok GJ.oks;exact⟨q0c,q0c,trivial⟩
theorem q2j(s:ByteArray) {g:GJ} (hw:g.wf):((q0z s g).getD zJ).wf/\∀p,g.ok p->((q0z s g).getD zJ).ok p:=by
 cases h:q0z s g with
 |none=>exact⟨zJ_wf,λp _=>zJ_ok p⟩
 |some t=>exact qnf h hw
theorem qfw{l:List GJ} {j:Nat} {e:Int} {acc:List ByteArray} (h:j<l.length):q87 (l.drop j) e acc=if e=0 then q87 (l.drop (j+1)) (if l[j].k=4 then 0 else 2) (acc++[l[j].s])else(acc,e):=by
 rw[List.drop_eq_getElem_cons h,q87]
theorem qk3{l:List GJ} {j:Nat} {e:Int} {acc:List ByteArray} (h:l.length<=j\/e≠0):q87 (l.drop j) e acc=(acc,e):=by
 by_cases hj:l.length<=j
 ·rw[List.drop_of_length_le hj,q87]
 ·rw[qfw (by omega),if_neg (by omega)]
theorem qml(x:Addr):x.add 0=x:=by
 cases x;simp[Addr.add]
theorem qdm:q15 P 112 qc4:=by
  refine q0h mixed (q05 (q01 q65 (q01 q2b q06))) (W:=wTexts) Try.func112 (by kernel_rfl) (by decide) (by decide) (λs=>by kernel_rfl) λ⟨S,(e:Int),g,s⟩=>(qzz S e g s).mpr ?_
  rintro hg ⟨p,_,hp⟩
  simp only[decide_eq_true_eq,decide_eq_false_iff_not,Bool.not_eq_true',Bool.not_eq_false',true_and,and_true,eq_self,imp_self,implies_true,exists_const]
  refine⟨⟨g,s⟩,rfl,rfl,rfl,rfl,rfl,rfl,rfl,rfl,rfl,rfl,hg,λq hq=>hq,λhn=> ?_,λhy=> ?_⟩
  · have e0:q4f g s e=([],false,e):=by unfold q4f;rw[if_neg (by rw[hn];decide)]
    rw[e0];exact⟨rfl,rfl,qt4,λq _=>q0c⟩
  obtain⟨tw,tok⟩:=q2j s hg
  have e1:q4f g s e=((q87 ((q0z s g).getD zJ).l (tyE g s e) []).1,true,(q87 ((q0z s g).getD zJ).l (tyE g s e) []).2):=by unfold q4f;rw[if_pos hy]
  rw[e1]
  have hty:tyE g s e=if((q0z s g).getD zJ).k=5 then e else faE e 2:=rfl
  simp only
  generalize (q0z s g).getD zJ=t at*
  generalize tyE g s e=e2 at*
  have hy2:=λq (hq:g.ok q)=>(show slP GJ.cells t.y t.l q by have:=tok q hq;rw[GJ.ok_eq]at this;exact this.1)
  have tl:t.y.2.1=t.l.length:=(hy2 p hp).1
  rw[GJ.wf_eq]at tw
  refine⟨⟨λh=>⟨S,rfl,rfl,rfl,by rw[hty,if_neg h],rfl⟩,λh=>by rw[hty,if_pos h]⟩,?_⟩
  rintro _ _
  refine⟨⟨⟨0,e2,[]⟩,rfl,rfl,rfl,by show 0<=_;omega,by show 0<=_;omega,rfl⟩,?_⟩
  rintro⟨j,e',acc⟩ ⟨hj,ha,he⟩
  simp only at*
  have done:q87 (t.l.drop j) e' acc=(acc,e')->∀(a:Option Addr) (c:Nat),(q87 t.l e2 []).2=e'/\∀q,acc.length<=c/\q1l q a (List.take (acc.length*1) (q00 txV acc))->slP txV (a,acc.length,c) (q87 t.l e2 []).1 q:=λh a c=>by
    rw[←he,h]
    refine⟨rfl,λq hq=>⟨rfl,hq.1,?_⟩⟩
    have:=hq.2
    rw[List.take_of_length_le (by rw[q03 q13];exact Nat.le_refl _)]at this
    exact this
  refine⟨λhlt=>⟨λh0=> ?_,λh0=> ?_⟩,λhge=> ?_⟩
  · have hjl:j<t.l.length:=by omega
    have hat:=λq (hq:g.ok q)=>q1m q80 (by decide) (hy2 q hq) hjl
    have hd:=qfw (e:=e') (acc:=acc) hjl
    rw[if_pos h0]at hd
    have cell:∀q (hq:g.ok q) (k:Nat) (v:Value),t.l[j].cells[k]? =some v->q02 q ((adr t.y.1 (j*5)).add k) [v]:=λq hq k v hv i u hu=>by
      have:=(hat q hq).2
      match i with
      | 0=>
        simp at hu;subst hu
        rw[qml]
        exact this k v hv
      |i+1=>simp at hu
    refine⟨by omega,(hat p hp).1,t.l[j].k,λq hq=>cell q hq 0 _ rfl,λhk=>⟨S,rfl,rfl,by omega,(hat p hp).1,t.l[j].s,λq hq=>cell q hq 2 _ rfl,q03 q13 acc,by omega,⟨by omega,by omega⟩,⟨j+1,2,acc++[t.l[j].s]⟩,by show((j+1:Nat):Int)=_;omega,by show(acc++[t.l[j].s]).length=_;simp,rfl,by show 2=faE e' 2;unfold faE;rw[if_pos h0],by show q00 txV (acc++[t.l[j].s])=_;rw[q0e];rfl,rfl,⟨by show j+1<=_;omega,by show(acc++[t.l[j].s]).length<=j+1;simp;omega,?_⟩,by show _- (j+1)<_;omega⟩,λhk=>⟨by omega,(hat p hp).1,t.l[j].s,λq hq=>cell q hq 2 _ rfl,q03 q13 acc,by omega,⟨by omega,by omega⟩,⟨j+1,0,acc++[t.l[j].s]⟩,by show((j+1:Nat):Int)=_;omega,by show(acc++[t.l[j].s]).length=_;simp,h0.symm,by show q00 txV (acc++[t.l[j].s])=_;rw[q0e];rfl,⟨by show j+1<=_;omega,by show(acc++[t.l[j].s]).length<=j+1;simp;omega,?_⟩,by show _- (j+1)<_;omega⟩⟩
    · rw[←he,hd,if_neg hk]
    · rw[←he,hd,if_pos hk]
  · rintro b s4 u a n c ⟨q0,hq0⟩
    obtain⟨d1,d2⟩:=done (qk3 (.inr h0)) a c
    exact⟨trivial,d1,rowP_Pl hq0.2.2,λq hq=>d2 q hq.2⟩
  · rintro b s4 u a n c ⟨q0,hq0⟩
    obtain⟨d1,d2⟩:=done (qk3 (.inl (by omega))) a c
    exact⟨trivial,d1,rowP_Pl hq0.2.2,λq hq=>d2 q hq.2⟩
def pmT(k it:Int):AT:=⟨k,mkS [],(none,0,0),[],it,(none,0,0),[],false,mkS [],0,(none,0,0),[],(none,0,0),[]⟩
theorem qld(k it:Int) (p:Pub):(pmT k it).ok p:=⟨q0c,q0c,q0c,q0c,λf hf=>absurd hf (by simp[pmT])⟩
theorem qyg{n:Nat} {k it:Int} (h1:1<=k) (h8:k<=8):q4k n (pmT k it):=by
 have hk:(pmT k it).k=k:=rfl
 unfold q4k
 rw[hk]
 exact⟨⟨h1,by omega⟩,λh=>(by omega),λb hb=>(by cases hb),λh=>(by omega),λf hf=>(by cases hf),λh=>(by omega),λh=>(by omega),Nat.zero_le _,Nat.zero_le _,Nat.zero_le _⟩
theorem qji{s:ByteArray}:∀{l:List AT} {i k:Nat},findF s l i=some k->i<=k/\k<i+l.length
  | [],i,k,h=>by simp[findF]at h
  | a::l,i,k,h=>by
    rw[findF]at h
    split at h
    · cases h;simp
    · have:=qji h;simp;omega
theorem qle{s:ByteArray} {S:List AT} (h:(findF s S 0).isSome=true):0<=fnI (findF s S 0)/\fnI (findF s S 0)<S.length:=by
  cases hf:findF s S 0 with
  |none=>rw[hf]at h;cases h
  | some k=>
    have:=qji hf
    show 0<=(k:Int)/\(k:Int)<_
    omega
theorem q1b{e0 e:Int} (h:e≠0):faE e0 e≠0:=by unfold faE;split<;>omega
theorem qys:q0d P 73 qjl:=by
 refine q0v mixed (q05 (q01 qw3 (q01 qe1 (q01 qup (q01 qky (q01 q2b q06)))))) (q0g q0q) (W:=wTextM) Try.func73 (by kernel_rfl) (by decide) (by decide) (λs=>by kernel_rfl) λ⟨S,(e:Int),s,sp⟩=>(textM_eq S e s sp).mpr ?_
 rintro⟨hS,hs,hsp⟩
 simp only[decide_eq_true_eq,decide_eq_false_iff_not,Bool.not_eq_true',Bool.not_eq_false',true_and,and_true,eq_self,imp_self,implies_true,exists_const,forall_const]
 have same:∀r:Int,(0<=r/\r<S.length)->grown S e [] e/\(e=0->0<=r/\r<(S++[]).length):=λr hr=>by
  unfold grown;rw[List.append_nil]
  exact⟨⟨hS,λh=>⟨h,λa ha=>by cases ha⟩⟩,λ_=>hr⟩
 have bad:grown S e [] (faE e 4)/\(faE e 4=0->0<=(0:Int)/\0<((S++[]).length:Int)):=by
  have:=q1b (e0:=e) (e:=4) (by decide)
  unfold grown;rw[List.append_nil]
  exact⟨⟨hS,λh=>absurd h this⟩,λh=>absurd h this⟩
 refine⟨λh1=>λh8=>⟨⟨S,e,pmT (q0x s) 0⟩,rfl,rfl,rfl,rfl,rfl,rfl,rfl,rfl,rfl,rfl,rfl,rfl,rfl,rfl,rfl,rfl,rfl,rfl,rfl,rfl,rfl,?_⟩,?_⟩
 ·by_cases hl:60<=S.length
  ·refine⟨⟨[],adE S e,adR S⟩,rfl,?_,rfl,?_,?_,λp a ha=>by cases ha⟩
   ·show(S++[]).length=(adS S (pmT (q0x s) 0)).length
    unfold adS;rw[if_pos hl,List.append_nil]
   ·show q00 AT.cells (S++[])=q00 AT.cells (adS S (pmT (q0x s) 0))
    unfold adS;rw[if_pos hl,List.append_nil]
   ·have:adE S e≠0:=by unfold adE;rw[if_pos hl];exact q1b (by decide)
    unfold grown
    exact⟨⟨by rw[List.append_nil];exact hS,λh=>absurd h this⟩,λh=>absurd h this⟩
  ·refine⟨⟨[pmT (q0x s) 0],adE S e,adR S⟩,rfl,?_,rfl,?_,?_,λp a ha=> ?_⟩
   ·show(S++[_]).length=(adS S (pmT (q0x s) 0)).length
    unfold adS;rw[if_neg hl]
   ·show q00 AT.cells (S++[_])=q00 AT.cells (adS S (pmT (q0x s) 0))
    unfold adS;rw[if_neg hl]
   ·have e1:adE S e=e:=by unfold adE;rw[if_neg hl]
    have e2:adR S=S.length:=by unfold adR;rw[if_neg hl]
    show grown S e [_] (adE S e)/\(adE S e=0->0<=adR S/\adR S<((S++[_]).length:Int))
    rw[e1,e2]
    refine⟨⟨by simp;omega,λh=>⟨h,λa ha=> ?_⟩⟩,λ_=>by simp;omega⟩
    simp at ha;subst ha
    exact qyg h1 h8
   ·simp at ha;subst ha;exact qld _ _ _
 refine⟨⟨⟨0,false⟩,rfl,rfl,Nat.zero_le _⟩,?_⟩
 rintro⟨j,d⟩ hj
 simp only at*
 have tail:∀b1:List AT,b1=S->(b1.length<1000/\((findF s b1 0).isSome=true->0<=fnI (findF s b1 0)/\fnI (findF s b1 0)<S.length)):=λb1 h=>by
  subst h;exact⟨by omega,qle⟩
 refine⟨λhlt=>⟨λhd=>⟨⟨by omega,by omega⟩,⟨j+1,true⟩,by show((j+1:Nat):Int)=_;omega,rfl,by show j+1<=_;omega,by show _- (j+1)<_;omega⟩,λhd=>⟨⟨by omega,hlt⟩,⟨by omega,by omega⟩,⟨j+1,_⟩,by show((j+1:Nat):Int)=_;omega,rfl,by show j+1<=_;omega,by show _- (j+1)<_;omega⟩⟩,λhge=>⟨λhd=>⟨⟨by omega,by omega⟩,S,rfl,rfl,by omega,λhf=>⟨⟨[],e,fnI (findF (q5i sp s) S 0)⟩,rfl,by rw[List.append_nil],rfl,by rw[List.append_nil],same _ (qle hf),λp a ha=>by cases ha⟩,λhf=>⟨S,rfl,rfl,by omega,λhg=>⟨S,rfl,rfl,⟨[],faE e 4,0⟩,rfl,by rw[List.append_nil],rfl,by rw[List.append_nil],bad,λp a ha=>by cases ha⟩,λhg=>⟨⟨[],e,fnI (findF s S 0)⟩,rfl,by rw[List.append_nil],rfl,by rw[List.append_nil],same _ (qle hg),λp a ha=>by cases ha⟩⟩⟩,λhd=>⟨S,rfl,rfl,by omega,λhg=>⟨S,rfl,rfl,⟨[],faE e 4,0⟩,rfl,by rw[List.append_nil],rfl,by rw[List.append_nil],bad,λp a ha=>by cases ha⟩,λhg=>⟨⟨[],e,fnI (findF s S 0)⟩,rfl,by rw[List.append_nil],rfl,by rw[List.append_nil],same _ (qle hg),λp a ha=>by cases ha⟩⟩⟩⟩
abbrev TmS:=List AT×Int×GJ×ByteArray×Int
def q73:TmS->Prop:=λ⟨S,e,g,sp,d⟩=>S.length<=60/\g.wf/\1<=d/\d<=21/\(sp.size:Int)<=1100*d
def q12:TmS->TmB->Prop:=λ⟨S,e,g,sp,d⟩ ⟨T,e',r⟩=>grown S e T e'/\(e'=0->0<=r/\r<(S++T).length)
def q4c:CtR where
 σ:=TmS
 args:=λ⟨S,e,g,sp,d⟩=>[.ptr 1 0,g.av, .sv (.string sp), .sv (.int .i64 d)]
 h:=λ⟨S,e,g,sp,d⟩=>mkO S e 2 3
 m:=4
 pre:=q73
 mem:=λ⟨S,e,g,sp,d⟩=>gM g
 β:=λ_=>TmB
 post:=q12
 pm:=λ_ ⟨T,e',r⟩=>toM T
 r:=λ_ ⟨T,e',r⟩=> .sv (.int .i64 r)
 h':=λ⟨S,e,g,sp,d⟩ ⟨T,e',r⟩=>mkO (S++T) e' 4 5
 m':=6
def qe3:CtR:={q4c with pre:=λs=>q73 s/\s.2.2.2.2<=20}
def qca:TmS->Nat:=λ⟨S,e,g,sp,d⟩=>(25- d).toNat
abbrev UnS:=Nat×Int×List AT×List Int
def qxp(S:List AT) (e:Int) (g:GJ):UnS->Prop:=λ⟨i,e',T,l⟩=>i<=g.l.length/\(S++T).length<=60/\(e'=0->e=0/\S.length<60/\l.length=i/\(∃T',T=pmT 14 0::T'/\∀a∈T',q4k (S++T).length a)/\∀b∈l,0<=b/\b<(S++T).length)
def qpj:TmS->WayF:=λ⟨S,e,g,sp,d⟩=>{
 ann:=λid _ _=>match id with
  |0=>some {σ:=UnS,pre:=qxp S e g,mem:=λ⟨i,e',T,l⟩=>toM T,t:=λ⟨i,e',T,l⟩=>[(11, .sv (.int .i64 (i:Int))),(10, .ssl 13 0 l.length 1 14)],h:=λ⟨i,e',T,l⟩=>mkO (S++T) e' 11 12++[(13, .row 3 0 (q00 inV l))],more:=4,μ:=λ⟨i,e',T,l⟩=>g.l.length- i,keep:=[0,2,3,5,8,9],del:=[9]}
  |_=>some {σ:=Nat,t:=λm=>[(13, .sv (.int .i64 (m:Int)))],h:=λ_=>[],more:=0,μ:=λm=>100- m,keep:=[0,2,3,5,8,9,10,11,12]}
 pub:=λi k=>match i,k with
  |22,9=>[109]
  |_,_=>[]}
noncomputable section
variable (x0:GJ) (x1:List AT×Int×AT) (x2:List AT) (x3:Int) (x4:ByteArray) (x5:Int) (x6:Nat) (x7:UnS) (x8:TmB) (x9:TmS) (x10:Prop) (x11:Nat->Option Obj) (x12:Option Addr) (x13:List AT×Int) (x14:Int) (x15:List AT)
 abbrev qei:=(↑(GJ.y x0).2.1:Int)
 abbrev qhd:=∀(i0:AT),i0∈x8.1->AT.ok i0 x11
 abbrev zbo17:=∃(i0:List AT),x14=x14/\List.length i0=List.length (adS x1.1 x1.2.2)/\adE x1.1 x1.2.1=adE x1.1 x1.2.1/\q00 AT.cells i0=q00 AT.cells (adS x1.1 x1.2.2)/\True/\∃(i1:TmB),i1.2.2=0/\List.length (x2++i1.1)=List.length i0/\i1.2.1=faE (adE x1.1 x1.2.1) x14/\q00 AT.cells (x2++i1.1)=q00 AT.cells i0/\q12 (x2,x3,x0,x4,x5) i1/\(∀(i2:Pub),True/\GJ.ok x0 i2->qhd i1 i2)/\True
 abbrev qr0:=GJ.k x0=GJ.k x0/\GJ.n x0=GJ.n x0/\GJ.s x0=GJ.s x0/\(GJ.y x0).1=(GJ.y x0).1/\(GJ.y x0).2.1=(GJ.y x0).2.1/\(GJ.y x0).2.2=(GJ.y x0).2.2/\(GJ.x x0).1=(GJ.x x0).1/\(GJ.x x0).2.1=(GJ.x x0).2.1/\(GJ.x x0).2.2=(GJ.x x0).2.2/\x10
 abbrev qi7:=(True/\GJ.ok x0 x11)/\∀(i0:AT),i0∈x7.2.2.1->AT.ok i0 x11
 abbrev qb3:=(qi7 x0 x7 x11)/\qhd x8 x11
 abbrev zbo19:=True/\∃(i0:TmB),i0.2.2=0/\List.length (x2++i0.1)=List.length x15/\i0.2.1=faE x8.2.1 6/\q00 AT.cells (x2++i0.1)=q00 AT.cells x15/\q12 (x2,x3,x0,x4,x5) i0/\(∀(i1:Pub),(qb3 x0 x7 x8 i1)->qhd i0 i1)/\True
 abbrev zbo21:=x8.2.2=x8.2.2/\List.length x7.2.2.2=List.length x7.2.2.2/\List.length (x9.1++x8.1)=List.length (x9.1++x8.1)/\x8.2.1=x8.2.1/\x10
 abbrev zbo16:=((-9223372036854775808:Int)<=(↑x6:Int)+1/\(↑x6:Int)+1<=9223372036854775807)/\∃(i0:Nat),x3=x3/\(↑x7.1:Int)=(↑x7.1:Int)/\adR x1.1=adR x1.1/\(↑i0:Int)=(↑x6:Int)+1/\x4=x4/\zbo21 x7 x8 x9 (q00 AT.cells (x9.1++x8.1)=q00 AT.cells x13.1/\q00 inV x7.2.2.2=q00 inV x7.2.2.2/\qr0 x0 ((∀(i1:Pub),(qb3 x0 x7 x8 i1)->qb3 x0 x7 x8 i1)/\True/\(100:Nat)- i0<100- x6/\True))
 abbrev zbo10:=(0<=(↑x6:Int)/\(↑x6:Int)<(↑(List.length x7.2.2.2):Int))/\∃(i0:Int),(∀(i1:Nat) (i2:Value),[Value.int IntKind.i64 i0][i1]? =some i2->(q00 inV x7.2.2.2)[nat_lit 0+Int.toNat (↑x6:Int)*nat_lit 1+i1]? =some i2)/\∃(i3:List AT×Int),List.length i3.1=List.length (x9.1++x8.1)/\i3.2=i0/\q00 AT.cells i3.1=q00 AT.cells (x9.1++x8.1)/\List.length i3.1<1000/\∃(i4:List AT×Int),List.length i4.1=List.length (x9.1++x8.1)/\i4.2=x8.2.2/\q00 AT.cells i4.1=q00 AT.cells i3.1/\List.length i4.1<1000/\AV.agg [AV.ssl (nat_lit 19) (nat_lit 0) (List.length (x9.1++x8.1)) (nat_lit 10) (nat_lit 20)]=AV.agg [AV.ssl (nat_lit 19) (nat_lit 0) (List.length (x9.1++x8.1)) (nat_lit 10) (nat_lit 20)]/\(decide (qm8 i3.1 i3.2=qm8 i4.1 i4.2)=true->∃(i5:List AT),(6:Int)=6/\List.length i5=List.length (x9.1++x8.1)/\x8.2.1=x8.2.1/\q00 AT.cells i5=q00 AT.cells i4.1/\zbo19 x0 x2 x3 x4 x5 x7 x8 i5)/\(decide (qm8 i3.1 i3.2=qm8 i4.1 i4.2)=false->zbo16 x0 x1 x5 x4 x6 x7 x8 x9 i4)
 abbrev zbo11:=List.length (q00 inV x7.2.2.2)=List.length x7.2.2.2*1/\(List.length x7.2.2.2+nat_lit 1)*8<=140737488355328/\((-9223372036854775808:Int)<=(↑x7.1:Int)+1/\(↑x7.1:Int)+1<=9223372036854775807)/\∃(i0:UnS),x3=x3/\(↑i0.1:Int)=(↑x7.1:Int)+1/\adR x1.1=adR x1.1/\x4=x4/\List.length i0.2.2.2=List.length x7.2.2.2+nat_lit 1/\List.length (x2++i0.2.2.1)=List.length (x9.1++x8.1)/\i0.2.1=x8.2.1/\q00 AT.cells (x2++i0.2.2.1)=q00 AT.cells (x9.1++x8.1)/\q00 inV i0.2.2.2=q00 inV x7.2.2.2++[Value.int IntKind.i64 x8.2.2]/\qr0 x0 ((∀(i1:Pub),(qb3 x0 x7 x8 i1)->True/\GJ.ok x0 i1)/\(∀(i4:Pub),(qb3 x0 x7 x8 i4)->∀(i7:AT),i7∈i0.2.2.1->AT.ok i7 i4)/\qxp x2 x5 x0 i0/\List.length (GJ.l x0)- i0.1<List.length (GJ.l x0)- x7.1/\True)
 abbrev zbo9:=(decide ((↑x6:Int)<(↑(List.length x7.2.2.2):Int))=true->zbo10 x0 x1 x2 x3 x4 x5 x6 x7 x8 x9)/\(decide ((↑x6:Int)<(↑(List.length x7.2.2.2):Int))=false->zbo11 x0 x1 x2 x5 x4 x3 x7 x8 x9)
 abbrev zbo7:=(∃(i0:Nat),x3=x3/\(↑x7.1:Int)=(↑x7.1:Int)/\adR x1.1=adR x1.1/\(↑i0:Int)=0/\x4=x4/\zbo21 x7 x8 x9 (q00 AT.cells (x9.1++x8.1)=q00 AT.cells (x9.1++x8.1)/\q00 inV x7.2.2.2=q00 inV x7.2.2.2/\qr0 x0 ((∀(i1:Pub),(qb3 x0 x7 x8 i1)->qb3 x0 x7 x8 i1)/\True/\True)))/\∀(i6:Nat),True->zbo9 x0 x1 x2 x5 x4 x3 i6 x7 x8 x9
 abbrev zbo6:=(0<=x8.2.2/\x8.2.2<(↑(List.length (x9.1++x8.1)):Int))/\∃(i0:Int),(∀(i1:Nat) (i2:Value),[Value.int IntKind.i64 i0][i1]? =some i2->(q00 AT.cells (x9.1++x8.1))[nat_lit 0+Int.toNat x8.2.2*nat_lit 10+0+i1]? =some i2)/\(decide (i0=14)=true->∃(i3:List AT),(6:Int)=6/\List.length i3=List.length (x9.1++x8.1)/\x8.2.1=x8.2.1/\q00 AT.cells i3=q00 AT.cells (x9.1++x8.1)/\zbo19 x0 x2 x3 x4 x5 x7 x8 i3)/\(decide (i0=14)=false->zbo7 x0 x1 x2 x5 x4 x3 x7 x8 x9)
 abbrev zbo5:=((!decide (x8.2.1=0))=true->∃(i0:TmB),i0.2.2=0/\List.length (x2++i0.1)=List.length (x9.1++x8.1)/\i0.2.1=x8.2.1/\q00 AT.cells (x2++i0.1)=q00 AT.cells (x9.1++x8.1)/\q12 (x2,x3,x0,x4,x5) i0/\(∀(i1:Pub),(qb3 x0 x7 x8 i1)->qhd i0 i1)/\True)/\((!decide (x8.2.1=0))=false->zbo6 x0 x1 x2 x3 x4 x5 x7 x8 x9)
 abbrev zbo4:=(0<=(↑x7.1:Int)/\(↑x7.1:Int)<(qei x0))/\(GJ.y x0).1≠noA/\∃(i0:Int),∃(i1:Int),∃(i2:ByteArray),∃(i3:Option Addr),∃(i4:Nat),∃(i5:Nat),∃(i6:Option Addr),∃(i7:Nat),∃(i8:Nat),(∀(i9:Pub),(qi7 x0 x7 i9)->q02 i9 (adr (GJ.y x0).1 (Int.toNat (↑x7.1:Int)*5)) [Value.int IntKind.i64 i0,Value.int IntKind.i64 i1,Value.string i2,Value.slice i3 i4 i5,Value.slice i6 i7 i8])/\((-9223372036854775808:Int)<=x3+1/\x3+1<=9223372036854775807)/\∃(i11:TmS),GJ.k i11.2.2.1=i0/\GJ.n i11.2.2.1=i1/\GJ.s i11.2.2.1=i2/\(GJ.y i11.2.2.1).1=i3/\(GJ.y i11.2.2.1).2.1=i4/\(GJ.y i11.2.2.1).2.2=i5/\(GJ.x i11.2.2.1).1=i6/\(GJ.x i11.2.2.1).2.1=i7/\(GJ.x i11.2.2.1).2.2=i8/\i11.2.2.2.1=x4/\i11.2.2.2.2=x3+1/\List.length i11.1=List.length (x2++x7.2.2.1)/\i11.2.1=x7.2.1/\q00 AT.cells i11.1=q00 AT.cells (x2++x7.2.2.1)/\(qca i11<x6/\q73 i11)/\(∀(i12:Pub),(qi7 x0 x7 i12)->GJ.ok i11.2.2.1 i12)/\∀(i14:TmB),q12 i11 i14->(∃(i15:Pub),qb3 x0 x7 i14 i15)->zbo5 x0 x1 x2 x5 x4 x3 x7 i14 i11
 abbrev zbo23:=(qi7 x0 x7 x11)/\List.length x7.2.2.2<=x6/\q1l x11 x12 (List.take (List.length x7.2.2.2*nat_lit 1) (q00 inV x7.2.2.2))
 abbrev zbo15:=nat_lit 0+Int.toNat (adR x1.1)*nat_lit 10+9+List.length [Value.slice x12 (List.length x7.2.2.2) x6]<=List.length (q00 AT.cells (x2++x7.2.2.1))/\∃(i0:TmB),i0.2.2=adR x1.1/\List.length (x2++i0.1)=List.length (x2++x7.2.2.1)/\i0.2.1=x7.2.1/\q00 AT.cells (x2++i0.1)=spl (q00 AT.cells (x2++x7.2.2.1)) (nat_lit 0+Int.toNat (adR x1.1)*nat_lit 10+9) [Value.slice x12 (List.length x7.2.2.2) x6]/\q12 (x2,x3,x0,x4,x5) i0/\(∀(i1:Pub),zbo23 x0 x6 x7 i1 x12->qhd i0 i1)/\True
 abbrev zbo13:=(0<=adR x1.1/\adR x1.1<(↑(List.length (x2++x7.2.2.1)):Int))/\∀(i0 i1 i2:Nat) (i3:Option Addr) (i4 i5:Nat),(∃(i6:Pub),zbo23 x0 i5 x7 i6 i3)->zbo15 x0 x1 x2 x3 x4 x5 i5 x7 i3
 abbrev zbo8:=(decide (x7.2.1=0)=true->zbo13 x0 x1 x2 x3 x4 x5 x7)/\(decide (x7.2.1=0)=false->∃(i12:TmB),i12.2.2=adR x1.1/\List.length (x2++i12.1)=List.length (x2++x7.2.2.1)/\i12.2.1=x7.2.1/\q00 AT.cells (x2++i12.1)=q00 AT.cells (x2++x7.2.2.1)/\q12 (x2,x3,x0,x4,x5) i12/\(∀(i13:Pub),(qi7 x0 x7 i13)->qhd i12 i13)/\True)
 abbrev zbo3:=(decide (x7.2.1=0)=true->zbo4 x0 x1 x2 x3 x4 x5 x6 x7)/\(decide (x7.2.1=0)=false->zbo8 x0 x1 x2 x5 x4 x3 x7)
 abbrev zbo2:=(decide ((↑x7.1:Int)<(qei x0))=true->zbo3 x0 x1 x2 x3 x4 x5 x6 x7)/\(decide ((↑x7.1:Int)<(qei x0))=false->zbo8 x0 x1 x2 x5 x4 x3 x7)
 abbrev zbo1:=(∃(i0:UnS),x3=x3/\(↑i0.1:Int)=0/\adR x1.1=adR x1.1/\x4=x4/\List.length i0.2.2.2=0/\List.length (x2++i0.2.2.1)=List.length (adS x1.1 x1.2.2)/\i0.2.1=adE x1.1 x1.2.1/\q00 AT.cells (x2++i0.2.2.1)=q00 AT.cells (adS x1.1 x1.2.2)/\qr0 x0 ((∀(i1:Pub),True/\GJ.ok x0 i1->True/\GJ.ok x0 i1)/\(∀(i2:Pub),True/\GJ.ok x0 i2->∀(i3:AT),i3∈i0.2.2.1->AT.ok i3 i2)/\qxp x2 x5 x0 i0/\True))/\∀(i4:UnS),qxp x2 x5 x0 i4->(∃(i5:Pub),qi7 x0 i4 i5)->zbo2 x0 x1 x2 x3 x4 x5 x6 i4
 abbrev zbo0:=(decide (30<(qei x0))=true->zbo17 x0 x1 x2 x3 x4 x5 3)/\(decide (30<(qei x0))=false->zbo1 x0 x1 x2 x5 x4 x3 x6)
end
theorem qnj(n:Nat) (S:List AT) (e:Int) (g:GJ) (sp:ByteArray) (d:Int):q68 P (q0r [(78,cAdd),(108,cTag),(72,q4d)]) (q1s [(46,q4c.below qca n)]) Try.f74 (qe3.below qca (n+1)) (qpj) ⟨S,e,g,sp,d⟩=(qca (S,e,g,sp,d)<n+1/\q73 (S,e,g,sp,d)/\d<=20->(∃(p:Pub),True/\GJ.ok g p)->∃(s:List AT×Int×AT),AT.k s.2.2=14/\AT.nm s.2.2=mkS []/\(AT.al s.2.2).1=noA/\(AT.al s.2.2).2.1=0/\(AT.al s.2.2).2.2=0/\AT.it s.2.2=0/\(AT.sy s.2.2).1=noA/\(AT.sy s.2.2).2.1=0/\(AT.sy s.2.2).2.2=0/\AT.hd s.2.2=false/\AT.df s.2.2=mkS []/\AT.sz s.2.2=0/\(AT.f s.2.2).1=noA/\(AT.f s.2.2).2.1=0/\(AT.f s.2.2).2.2=0/\(AT.br s.2.2).1=noA/\(AT.br s.2.2).2.1=0/\(AT.br s.2.2).2.2=0/\List.length s.1=List.length S/\s.2.1=e/\q00 AT.cells s.1=q00 AT.cells S/\True/\(decide ((qei g)=0)=true->zbo17 g s S e sp d 6)/\(decide ((qei g)=0)=false->zbo0 g s S e sp d n)):=by kernel_rfl
def qrs(n:Nat) (S:List AT) (e:Int) (g:GJ) (sp:ByteArray) (d:Int):=Eq.trans (qnj n S e g sp d) (by delta qei qhd zbo17 qr0 qi7 qb3 zbo19 zbo21 zbo16 zbo10 zbo11 zbo9 zbo7 zbo6 zbo5 zbo4 zbo23 zbo15 zbo13 zbo8 zbo3 zbo2 zbo1 zbo0;exact rfl)
def unT(x:SV) (l:List Int):AT:={pmT 14 0 with br:=x,brs:=l}
theorem q2x{α:Type} {f:α->List Value} (a:α) (l:List α):q00 f (a::l)=f a++q00 f l:=rfl
theorem spl_br(A B:List AT) (x:SV) (l:List Int):q00 AT.cells (A++unT x l::B)=spl (q00 AT.cells (A++pmT 14 0::B)) (0+A.length*10+9) [svV x]:=by
 rw[q0e,q0e,q2x,q2x,Nat.zero_add]
 have hl:=q03 q3g A
 rw[←hl]
 show _=(q00 AT.cells A++((pmT 14 0).cells++q00 AT.cells B)).set ((q00 AT.cells A).length+9) (svV x)
 have key:∀(P Q:List Value) (v:Value),(P++Q).set (P.length+9) v=P++Q.set 9 v:=λP Q v=>by
  induction P with
  |nil=>simp
  |cons a P ih=>rw[List.cons_append,List.length_cons,Nat.add_right_comm,List.set_cons_succ,ih];rfl
 rw[key]
 rfl
theorem in_sub{l:List Int} {i:Nat} (h:i<l.length):∀(j:Nat) (v:Value),[Value.int .i64 l[i]][j]? =some v->(q00 inV l)[0+i*1+j]? =some v:=λj v hj=>by
 cases j with
 |zero=>rw[Nat.zero_add,q60 q3r l i h 0 (by decide)];exact hj
 |succ j=>simp at hj
theorem qbz{n m:Nat} {a:AT} (h:n<=m) (g:q4k n a):q4k m a:=
 ⟨g.1,λk=>by have:=g.2.1 k;omega,λb hb=>by have:=g.2.2.1 b hb;omega,g.2.2.2.1,λf hf=>⟨by have:=(g.2.2.2.2.1 f hf).1;omega,(g.2.2.2.2.1 f hf).2⟩,g.2.2.2.2.2⟩
theorem qqb{S:List AT} {e:Int} (h:60<=S.length):adE S e≠0:=by unfold adE;rw[if_pos h];exact q1b (by decide)
def adT(S:List AT) (t:AT):List AT:=if 60<=S.length then []else [t]
theorem q1r(S:List AT) (t:AT):adS S t=S++adT S t:=by
 unfold adS adT
 split
 ·rw[List.append_nil]
 ·rfl
theorem quu(n:Nat) (ht:q0d P 46 (q4c.below qca n)):q0d P 74 (qe3.below qca (n+1)):=by
 refine q0v mixed (q05 (q01 qe1 (q01 tag_ok (q01 q2b q06)))) (q0g (q04 ht q0q)) (W:=qpj) Try.func74 (by kernel_rfl) (show 1<=4 by decide) (show 4<=6 by decide) (λs=>by kernel_rfl) λ⟨S,(e:Int),g,sp,(d:Int)⟩=>(qrs n S e g sp d).mpr ?_
 rintro⟨hmu,⟨hS,hg,hd1,hd2,hsp⟩,hd20⟩ ⟨p,_,hp⟩
 have hmu:(25- d).toNat<n+1:=hmu
 have hd20:d<=20:=hd20
 have hgw:=hg
 rw[GJ.wf_eq]at hgw
 have hy:=λq (hq:g.ok q)=>(show slP GJ.cells g.y g.l q by rw[GJ.ok_eq]at hq;exact hq.1)
 have yl:g.y.2.1=g.l.length:=(hy p hp).1
 simp only[decide_eq_true_eq,decide_eq_false_iff_not,Bool.not_eq_true',Bool.not_eq_false',true_and,and_true,eq_self,imp_self,implies_true,exists_const,forall_const,Int.toNat_natCast]
 have adl:(adT S (pmT 14 0)).length<=1/\(S++adT S (pmT 14 0)).length<=60:=by
  unfold adT
  split
  ·rw[List.append_nil];exact⟨by decide,hS⟩
  ·exact⟨by decide,by simp;omega⟩
 have adok:∀q,∀a∈adT S (pmT 14 0),a.ok q:=λq a ha=>by
  unfold adT at ha
  split at ha
  ·cases ha
  ·simp at ha;subst ha;exact qld _ _ _
 have bad0:∀k:Int,k≠0->q12 (S,e,g,sp,d) (adT S (pmT 14 0),faE (adE S e) k,0):=λk hk=>by
  have:=q1b (e0:=adE S e) hk
  exact⟨⟨adl.2,λh=>absurd h this⟩,λh=>absurd h this⟩
 refine⟨⟨S,e,pmT 14 0⟩,rfl,rfl,rfl,rfl,rfl,rfl,rfl,rfl,rfl,rfl,rfl,rfl,rfl,rfl,rfl,rfl,rfl,rfl,rfl,rfl,rfl,λh0=>⟨adS S (pmT 14 0),rfl,rfl,⟨adT S (pmT 14 0),faE (adE S e) 6,0⟩,rfl,by rw[q1r],rfl,by rw[q1r],bad0 6 (by decide),λq _=>adok q⟩,λh0=>⟨λh30=>⟨adS S (pmT 14 0),rfl,rfl,⟨adT S (pmT 14 0),faE (adE S e) 3,0⟩,rfl,by rw[q1r],rfl,by rw[q1r],bad0 3 (by decide),λq _=>adok q⟩,λh30=>⟨⟨⟨0,adE S e,adT S (pmT 14 0),[]⟩,rfl,rfl,by rw[q1r],rfl,by rw[q1r],λq _=>adok q,?_⟩,?_⟩⟩⟩
 ·refine⟨by show 0<=_;omega,adl.2,λh=> ?_⟩
  by_cases hl:60<=S.length
  ·exact absurd h (qqb hl)
  ·have e1:adE S e=e:=by unfold adE;rw[if_neg hl]
   have e2:adT S (pmT 14 0)=[pmT 14 0]:=by unfold adT;rw[if_neg hl]
   exact⟨by rw[←e1];exact h,by omega,rfl,⟨[],e2,λa ha=>(by cases ha)⟩,λb hb=>(by cases hb)⟩
 rintro⟨i,e',T,l⟩ ⟨hi,hT,hE⟩ _
 simp only at*
 have fin:e'=0->g.l.length<=i->∀(a:Option Addr) (c:Nat) (q0:Pub),(l.length<=c/\q1l q0 a (List.take (l.length*1) (q00 inV l)))->0+(adR S).toNat*10+9+1<=(q00 AT.cells (S++T)).length/\∃b:TmB,b.2.2=adR S/\(S++b.1).length=(S++T).length/\b.2.1=e'/\q00 AT.cells (S++b.1)=spl (q00 AT.cells (S++T)) (0+(adR S).toNat*10+9) [.slice a l.length c]/\q12 (S,e,g,sp,d) b/\∀q,(g.ok q/\∀a∈T,a.ok q)/\(l.length<=c/\q1l q a (List.take (l.length*1) (q00 inV l)))->∀a∈b.1,a.ok q:=λh0' hge a c q0 hq0=>by
  obtain⟨he0,hl60,hll,⟨T',rfl,hT'⟩,hlr⟩:=hE h0'
  have er:adR S=S.length:=by unfold adR;rw[if_neg (by omega)]
  rw[er,Int.toNat_natCast]
  have hlen:(S++pmT 14 0::T').length=S.length+T'.length+1:=by simp;omega
  have hlen2:∀x,(S++unT x l::T').length=S.length+T'.length+1:=λx=>by simp;omega
  refine⟨by rw[q03 q3g,hlen];omega,⟨unT (a,l.length,c) l::T',e',S.length⟩,rfl,by rw[hlen,hlen2],rfl,spl_br S T' _ l,⟨⟨by rw[hlen2];omega,λ_=>⟨he0,λx hx=> ?_⟩⟩,λ_=>⟨by show 0<=(S.length:Int);omega,by rw[hlen2];show(S.length:Int)<_;omega⟩⟩,λq hq x hx=> ?_⟩
  ·rw [hlen2]
   rw[hlen]at hT' hlr
   rcases List.mem_cons.1 hx with rfl|hx
   ·refine⟨⟨by show(1:Int)<=14;omega,by show(14:Int)<=14;omega⟩,λh=> ?_,hlr,λ_ h=> ?_,λf hf=>(by cases hf),λh=> ?_,λh=> ?_,⟨Nat.zero_le _,?_,Nat.zero_le _⟩⟩
    ·have h:(14:Int)=12\/(14:Int)=13:=h
     omega
    ·have h:l=[]:=h
     rw[h]at hll
     have:i=0:=hll.symm
     omega
    ·have h:(14:Int)=10:=h
     omega
    ·have h:(14:Int)=11:=h
     omega
    ·show l.length<=30;omega
   ·exact hT' x hx
  ·rcases List.mem_cons.1 hx with rfl|hx
   ·refine⟨q0c,q0c,q0c,⟨rfl,hq.2.1,?_⟩,λf hf=>(by cases hf)⟩
    have:=hq.2.2
    rw[List.take_of_length_le (by rw[q03 q3r];exact Nat.le_refl _)]at this
    exact this
   ·exact hq.1.2 x (List.mem_cons_of_mem _ hx)
 have out:e'≠0->q12 (S,e,g,sp,d) (T,e',adR S):=λh=>⟨⟨hT,λh2=>absurd h2 h⟩,λh2=>absurd h2 h⟩
 refine⟨λhlt=>⟨λh0'=> ?_,λh0'=>⟨λh=>absurd h h0',λ_=>⟨⟨T,e',adR S⟩,rfl,rfl,rfl,rfl,out h0',λq hq=>hq.2⟩⟩⟩,λhge=>⟨λh0'=> ?_,λh0'=>⟨⟨T,e',adR S⟩,rfl,rfl,rfl,rfl,out h0',λq hq=>hq.2⟩⟩⟩
 ·have hil:i<g.l.length:=by omega
  obtain⟨he0,hl60,hll,⟨T',hTe,hT'⟩,hlr⟩:=hE h0'
  have hat:=λq (hq:g.ok q)=>q1m q80 (by decide) (hy q hq) hil
  have hgi:g.l[i].wf:=GJ.wfs_at hgw.2.2.2.2.2.2 hil
  refine⟨by omega,(hat p hp).1,g.l[i].k,g.l[i].n,g.l[i].s,g.l[i].y.1,g.l[i].y.2.1,g.l[i].y.2.2,g.l[i].x.1,g.l[i].x.2.1,g.l[i].x.2.2,λq hq=>(hat q hq.1).2,⟨by omega,by omega⟩,⟨S++T,e',g.l[i],sp,d+1⟩,rfl,rfl,rfl,rfl,rfl,rfl,rfl,rfl,rfl,rfl,rfl,rfl,rfl,rfl,⟨by show(25- (d+1)).toNat<n;omega,hT,hgi,by omega,by omega,by omega⟩,λq hq=>by have:=hq.1;rw[GJ.ok_eq]at this;exact GJ.oks_at this.2.2 hil,?_⟩
  rintro⟨U,e2,r⟩ ⟨⟨hU,hU2⟩,hr⟩ _
  simp only at hU hU2 hr⊢
  have ass:S++T++U=S++(T++U):=List.append_assoc _ _ _
  have badU:∀k,k≠0->q12 (S,e,g,sp,d) (T++U,k,0):=λk hk=>⟨⟨by rw[←ass];exact hU,λh2=>absurd h2 hk⟩,λh2=>absurd h2 hk⟩
  have okU:∀q,((g.ok q/\∀a∈T,a.ok q)/\∀a∈U,a.ok q)->∀a∈T++U,a.ok q:=λq hq a ha=>(List.mem_append.1 ha).elim (hq.1.2 a) (hq.2 a)
  refine⟨λhne=>⟨⟨T++U,e2,0⟩,rfl,by rw[ass],rfl,by rw[ass],badU e2 hne,okU⟩,λheq=> ?_⟩
  subst heq
  obtain⟨r0,r1⟩:=hr rfl
  obtain⟨_,hUg⟩:=hU2 rfl
  obtain⟨k,rfl⟩:=Int.eq_ofNat_of_zero_le r0
  have hk:k<(S++T++U).length:=by omega
  rw[Int.toNat_natCast]
  refine⟨⟨r0,r1⟩,(S++T++U)[k].k,λj v hj=> ?_,λh14=>⟨S++T++U,rfl,rfl,⟨T++U,faE 0 6,0⟩,rfl,by rw[ass],rfl,by rw[ass],badU _ (q1b (by decide)),okU⟩,λh14=>⟨⟨0,rfl⟩,?_⟩⟩
  ·cases j with
   |zero=>have hj:some (Value.int .i64 (S++T++U)[k].k)=some v:=hj;cases hj;exact qke hk 0 _ rfl
   |succ j=>simp at hj
  intro m
  refine⟨λhm=> ?_,λhm=> ?_⟩
  ·have hml:m<l.length:=by omega
   refine⟨by omega,l[m],in_sub hml,⟨S++T++U,l[m]⟩,rfl,rfl,rfl,by show(S++T++U).length<_;omega,⟨S++T++U,(k:Int)⟩,rfl,rfl,rfl,by show(S++T++U).length<_;omega,?_⟩
   refine⟨λ_=>⟨S++T++U,rfl,rfl,⟨T++U,faE 0 6,0⟩,rfl,by rw[ass],rfl,by rw[ass],badU _ (q1b (by decide)),okU⟩,λ_=>⟨⟨by omega,by omega⟩,m+1,by omega,rfl,by omega⟩⟩
  ·refine⟨q03 q3r l,by omega,⟨by omega,by omega⟩,⟨i+1,0,T++U,l++[(k:Int)]⟩,by show((i+1:Nat):Int)=_;omega,by show(l++[_]).length=_;simp,by rw[ass],rfl,by rw[ass],by show q00 inV (l++[_])=_;rw[q0e];rfl,λq hq=>hq.1.1,λq hq=>okU q hq,⟨by show i+1<=_;omega,by rw[←ass];exact hU,λ_=>⟨he0,hl60,by show(l++[_]).length=i+1;simp;omega,⟨T'++U,by show T++U=_;rw[hTe];rfl,λa ha=> ?_⟩,λb hb=> ?_⟩⟩,by show _- (i+1)<_;omega⟩
   ·show q4k (S++(T++U)).length a
    rw[←ass]
    rcases List.mem_append.1 ha with ha|ha
    ·exact qbz (by have:(S++T++U).length=(S++T).length+U.length:=List.length_append;omega) (hT' a ha)
    ·exact hUg a ha
   ·show 0<=b/\b<((S++(T++U)).length:Int)
    rw[←ass]
    have hlen:(S++T++U).length=(S++T).length+U.length:=List.length_append
    rcases List.mem_append.1 hb with hb|hb
    ·have:=hlr b hb;omega
    ·simp at hb;subst hb;exact⟨r0,r1⟩
 ·obtain⟨he0,hl60,hll,⟨T',hTe,hT'⟩,hlr⟩:=hE h0'
  have er:adR S=S.length:=by unfold adR;rw[if_neg (by omega)]
  refine⟨⟨by omega,by rw[er,hTe];simp;omega⟩,?_⟩
  rintro a c ⟨q0,hq0⟩
  exact fin h0' (by omega) a c q0 hq0.2
abbrev NmS:=List AT×Int×GJ×Int×ByteArray×Int
def qdd:CtR where
 σ:=NmS
 args:=λ⟨S,e,g,k,sp,d⟩=>[.ptr 1 0,g.av, .sv (.int .i64 k), .sv (.string sp), .sv (.int .i64 d)]
 h:=λ⟨S,e,g,k,sp,d⟩=>mkO S e 2 3
 m:=4
 pre:=λ⟨S,e,g,k,sp,d⟩=>q73 (S,e,g,sp,d)/\d<=20/\(k=9\/k=10\/k=11)
 mem:=λ⟨S,e,g,k,sp,d⟩=>gM g
 β:=λ_=>TmB
 post:=λ⟨S,e,g,k,sp,d⟩ b=>q12 (S,e,g,sp,d) b
 pm:=λ_ ⟨T,e',r⟩=>toM T
 r:=λ_ ⟨T,e',r⟩=> .sv (.int .i64 r)
 h':=λ⟨S,e,g,k,sp,d⟩ ⟨T,e',r⟩=>mkO (S++T) e' 4 5
 m':=6
def muNm:NmS->Nat:=λ⟨S,e,g,k,sp,d⟩=>(25- d).toNat
def nmB(s:ByteArray):Bool:=decide (s=mkS [114,101,99,111,114,100])||decide (s=mkS [101,110,117,109])||decide (s=mkS [102,105,120,101,100])
def arB(s:ByteArray):Bool:=decide (s=mkS [97,114,114,97,121])||decide (s=mkS [109,97,112])
def wdB(s:ByteArray):ByteArray:=if s=mkS [109,97,112]then mkS [118,97,108,117,101,115]else mkS [105,116,101,109,115]
def tyJ(g:GJ):GJ:=(q0z (mkS [116,121,112,101]) g).getD zJ
def wTreeM:TmS->WayF:=λ⟨S,e,g,sp,d⟩=>{
 cut:=λi t _=>match i with
  |20=>some {σ:=Unit,t:=λ_=>[(63, .sv (.bool (nmB (tyJ g).s)))],h:=λ_=>[],more:=0,μ:=λ_=>0,keep:=[0,2,3,5,8,9,62]}
  |23=>some {σ:=Unit,t:=λ_=>[(75, .sv (.bool (arB (tyJ g).s)))],h:=λ_=>[],more:=0,μ:=λ_=>0,keep:=[0,2,3,5,8,9,62]}
  |27=>some {σ:=Unit,t:=λ_=>[(12, .sv (.string (wdB (tyJ g).s)))],h:=λ_=>[],more:=0,μ:=λ_=>0,keep:=[0,2,3,5,8,9,11]}
  |_=>none
 spl:=λi=>match i with
  |20=>some 7
  |_=>none}
noncomputable section
variable (x0:Int) (x1:List AT) (x2:GJ) (x3:ByteArray) (x4:Int) (x5:Nat) (x6:GJ×ByteArray) (x7:List AT×Int×AT) (x8:TmB) (x9:TmS) (x10:List AT×Int×ByteArray×ByteArray) (x11:Prop) (x12:Int) (x13:TmB)
 abbrev qzc:=q12 (x1,x0,x2,x3,x4) x8/\(∀(i0:Pub),True/\GJ.ok x2 i0->∀(i1:AT),i1∈x8.1->AT.ok i1 i0)/\True
 abbrev qyr:=∃(i0:List AT),x12=x12/\List.length i0=List.length x1/\x0=x0/\q00 AT.cells i0=q00 AT.cells x1/\True/\∃(i1:TmB),i1.2.2=0/\List.length (x1++i1.1)=List.length i0/\i1.2.1=faE x0 x12/\q00 AT.cells (x1++i1.1)=q00 AT.cells i0/\qzc x0 x1 x2 x3 x4 i1
 abbrev zbp37:=0<=x8.2.2/\x8.2.2<(↑(List.length (x10.1++x8.1)):Int)
 abbrev qq2:=∃(i0:Pub),(True/\GJ.ok x2 i0)/\∀(i1:AT),i1∈x8.1->AT.ok i1 i0
 abbrev qns:=q12 (x1,x0,x2,x3,x4) x8/\(∀(i0:Pub),((True/\GJ.ok x2 i0)/\∀(i1:AT),i1∈x13.1->AT.ok i1 i0)->∀(i2:AT),i2∈x8.1->AT.ok i2 i0)/\True
 abbrev zbp18:=x10.2.2.2=x3/\List.length x10.1=List.length x1/\x10.2.1=x0/\q00 AT.cells x10.1=q00 AT.cells x1/\(List.length x10.1<=60/\ByteArray.size x10.2.2.1<100000/\ByteArray.size x10.2.2.2<100000)/\∀(i0:TmB),grown x10.1 x10.2.1 i0.1 i0.2.1/\(i0.2.1=0->zbp37 i0 x10)->(qq2 x2 i0)->∃(i3:TmB),i3.2.2=i0.2.2/\List.length (x1++i3.1)=List.length (x10.1++i0.1)/\i3.2.1=i0.2.1/\q00 AT.cells (x1++i3.1)=q00 AT.cells (x10.1++i0.1)/\qns x0 x1 x2 x3 x4 i3 i0
 abbrev zbp36:=List.length (x1++x8.1)=List.length (x9.1++x13.1)/\x8.2.1=x13.2.1/\q00 AT.cells (x1++x8.1)=q00 AT.cells (x9.1++x13.1)/\x11
 abbrev zbp26:=(∀(i0:Pub),True/\GJ.ok x2 i0->GJ.ok x9.2.2.1 i0)/\∀(i1:TmB),q12 x9 i1->(qq2 x2 i1)->∃(i4:TmB),i4.2.2=i1.2.2/\zbp36 x1 i4 x9 (qns x0 x1 x2 x3 x4 i4 i1) i1
 abbrev zbp25:=GJ.k x6.1=GJ.k x2/\GJ.n x6.1=GJ.n x2/\GJ.s x6.1=GJ.s x2/\(GJ.y x6.1).1=(GJ.y x2).1/\(GJ.y x6.1).2.1=(GJ.y x2).2.1/\(GJ.y x6.1).2.2=(GJ.y x2).2.2/\(GJ.x x6.1).1=(GJ.x x2).1/\(GJ.x x6.1).2.1=(GJ.x x2).2.1/\(GJ.x x6.1).2.2=(GJ.x x2).2.2/\x11
 abbrev q14:=Option.getD (q0z x6.2 x6.1) zJ
 abbrev zbp38:=((-9223372036854775808:Int)<=x0+1/\x0+1<=9223372036854775807)
 abbrev zbp22:=GJ.k x9.2.2.1=GJ.k (q14 x6)/\GJ.n x9.2.2.1=GJ.n (q14 x6)/\GJ.s x9.2.2.1=GJ.s (q14 x6)/\(GJ.y x9.2.2.1).1=(GJ.y (q14 x6)).1/\(GJ.y x9.2.2.1).2.1=(GJ.y (q14 x6)).2.1/\(GJ.y x9.2.2.1).2.2=(GJ.y (q14 x6)).2.2/\(GJ.x x9.2.2.1).1=(GJ.x (q14 x6)).1/\(GJ.x x9.2.2.1).2.1=(GJ.x (q14 x6)).2.1/\(GJ.x x9.2.2.1).2.2=(GJ.x (q14 x6)).2.2/\x9.2.2.2.1=x3/\x9.2.2.2.2=x0+1/\x11
 abbrev zbp15:=zbp38 x0/\∃(i0:TmS),zbp22 x0 x3 x6 i0 (List.length i0.1=List.length x1/\i0.2.1=x4/\q00 AT.cells i0.1=q00 AT.cells x1/\(qca i0<x5/\q73 i0)/\zbp26 x4 x1 x2 x3 x0 i0)
 abbrev qze:=GJ.s (q14 x6)=mkS [114,101,99,111,114,100]
 abbrev zbp19:=GJ.k x2=GJ.k x2/\GJ.n x2=GJ.n x2/\GJ.s x2=GJ.s x2/\(GJ.y x2).1=(GJ.y x2).1/\(GJ.y x2).2.1=(GJ.y x2).2.1/\(GJ.y x2).2.2=(GJ.y x2).2.2/\(GJ.x x2).1=(GJ.x x2).1/\(GJ.x x2).2.1=(GJ.x x2).2.1/\(GJ.x x2).2.2=(GJ.x x2).2.2/\x11
 abbrev zbp14:=GJ.k (q14 x6)=GJ.k (q14 x6)/\GJ.n (q14 x6)=GJ.n (q14 x6)/\GJ.s (q14 x6)=GJ.s (q14 x6)/\(GJ.y (q14 x6)).1=(GJ.y (q14 x6)).1/\(GJ.y (q14 x6)).2.1=(GJ.y (q14 x6)).2.1/\(GJ.y (q14 x6)).2.2=(GJ.y (q14 x6)).2.2/\(GJ.x (q14 x6)).1=(GJ.x (q14 x6)).1/\(GJ.x (q14 x6)).2.1=(GJ.x (q14 x6)).2.1/\(GJ.x (q14 x6)).2.2=(GJ.x (q14 x6)).2.2/\(∀(i0:Pub),True/\GJ.ok x2 i0->True/\GJ.ok x2 i0)/\True/\True
 abbrev qnd:=x3=x3/\GJ.s (q14 x6)=GJ.s (q14 x6)/\List.length x1=List.length x1/\x0=x0/\q00 AT.cells x1=q00 AT.cells x1/\zbp19 x2 (zbp14 x2 x6)
 abbrev qxv:=GJ.s (q14 x6)=mkS [101,110,117,109]
 abbrev zbp23:=(decide (qxv x6)=true->∃(i0:Unit),x0=x0/\nmB (GJ.s (tyJ x2))=decide (qxv x6)/\qnd x4 x1 x2 x3 x6)/\(decide (qxv x6)=false->∃(i1:Unit),x0=x0/\nmB (GJ.s (tyJ x2))=decide (GJ.s (q14 x6)=mkS [102,105,120,101,100])/\qnd x4 x1 x2 x3 x6)
 abbrev zbp34:=Value.slice (GJ.y x2).1 (GJ.y x2).2.1 (GJ.y x2).2.2
 abbrev zbp35:=Value.slice (GJ.x x2).1 (GJ.x x2).2.1 (GJ.x x2).2.2
 abbrev zbp13:=GJ.s (q14 x6)=GJ.s (q14 x6)/\True/\AV.agg [AV.sv (Value.int IntKind.i64 (GJ.k x2)),AV.sv (Value.int IntKind.i64 (GJ.n x2)),AV.sv (Value.string (GJ.s x2)),AV.sv (zbp34 x2),AV.sv (zbp35 x2)]=AV.agg [AV.sv (Value.int IntKind.i64 (GJ.k x2)),AV.sv (Value.int IntKind.i64 (GJ.n x2)),AV.sv (Value.string (GJ.s x2)),AV.sv (zbp34 x2),AV.sv (zbp35 x2)]/\∃(i0:NmS),GJ.k i0.2.2.1=GJ.k x2/\GJ.n i0.2.2.1=GJ.n x2/\GJ.s i0.2.2.1=GJ.s x2/\(GJ.y i0.2.2.1).1=(GJ.y x2).1/\(GJ.y i0.2.2.1).2.1=(GJ.y x2).2.1/\(GJ.y i0.2.2.1).2.2=(GJ.y x2).2.2/\(GJ.x i0.2.2.1).1=(GJ.x x2).1/\(GJ.x i0.2.2.1).2.1=(GJ.x x2).2.1/\(GJ.x i0.2.2.1).2.2=(GJ.x x2).2.2/\i0.2.2.2.1=q0x (GJ.s (q14 x6))/\i0.2.2.2.2.1=x3/\i0.2.2.2.2.2=x0/\List.length i0.1=List.length x1/\i0.2.1=x4/\q00 AT.cells i0.1=q00 AT.cells x1/\(muNm i0<x5+1/\q73 (i0.1,i0.2.1,i0.2.2.1,i0.2.2.2.2.1,i0.2.2.2.2.2)/\i0.2.2.2.2.2<=20/\(i0.2.2.2.1=9\/i0.2.2.2.1=10\/i0.2.2.2.1=11))/\(∀(i1:Pub),True/\GJ.ok x2 i1->GJ.ok i0.2.2.1 i1)/\∀(i2:TmB),q12 (i0.1,i0.2.1,i0.2.2.1,i0.2.2.2.2.1,i0.2.2.2.2.2) i2->(qq2 x2 i2)->∃(i5:TmB),i5.2.2=i2.2.2/\List.length (x1++i5.1)=List.length (i0.1++i2.1)/\i5.2.1=i2.2.1/\q00 AT.cells (x1++i5.1)=q00 AT.cells (i0.1++i2.1)/\qns x4 x1 x2 x3 x0 i5 i2
 abbrev qzp:=GJ.s (q14 x6)=mkS [97,114,114,97,121]
 abbrev zbp33:=GJ.s (q14 x6)=mkS [109,97,112]
 abbrev zbp29:=List.length (adS x7.1 x7.2.2)=List.length (adS x7.1 x7.2.2)/\adE x7.1 x7.2.1=adE x7.1 x7.2.1/\zbp19 x2 (q00 AT.cells (adS x7.1 x7.2.2)=q00 AT.cells (adS x7.1 x7.2.2)/\zbp14 x2 x6)
 abbrev zbp24:=(0<=adR x7.1/\adR x7.1<(↑(List.length (x9.1++x8.1)):Int))/\nat_lit 0+Int.toNat (adR x7.1)*nat_lit 10+3+List.length [Value.int IntKind.i64 x8.2.2]<=List.length (q00 AT.cells (x9.1++x8.1))/\∃(i0:TmB),i0.2.2=adR x7.1/\List.length (x1++i0.1)=List.length (x9.1++x8.1)/\i0.2.1=x8.2.1/\q00 AT.cells (x1++i0.1)=spl (q00 AT.cells (x9.1++x8.1)) (nat_lit 0+Int.toNat (adR x7.1)*nat_lit 10+3) [Value.int IntKind.i64 x8.2.2]/\qns x0 x1 x2 x3 x4 i0 x8
 abbrev zbp17:=(decide (x8.2.1=0)=true->zbp24 x0 x1 x2 x3 x4 x7 x8 x9)/\(decide (x8.2.1=0)=false->∃(i4:TmB),i4.2.2=adR x7.1/\zbp36 x1 i4 x9 (qns x0 x1 x2 x3 x4 i4 x8) x8)
 abbrev zbp12:=zbp38 x0/\∃(i0:TmS),zbp22 x0 x3 x6 i0 (List.length i0.1=List.length (adS x7.1 x7.2.2)/\i0.2.1=adE x7.1 x7.2.1/\q00 AT.cells i0.1=q00 AT.cells (adS x7.1 x7.2.2)/\(qca i0<x5/\q73 i0)/\(∀(i1:Pub),True/\GJ.ok x2 i1->GJ.ok i0.2.2.1 i1)/\∀(i2:TmB),q12 i0 i2->(qq2 x2 i2)->zbp17 x4 x1 x2 x3 x0 x7 i2 i0)
 abbrev zbp10:=GJ.s (q14 x6)=GJ.s (q14 x6)/\True/\∃(i0:List AT×Int×AT),AT.k i0.2.2=q0x (GJ.s (q14 x6))/\AT.nm i0.2.2=mkS []/\(AT.al i0.2.2).1=noA/\(AT.al i0.2.2).2.1=0/\(AT.al i0.2.2).2.2=0/\AT.it i0.2.2=0/\(AT.sy i0.2.2).1=noA/\(AT.sy i0.2.2).2.1=0/\(AT.sy i0.2.2).2.2=0/\AT.hd i0.2.2=false/\AT.df i0.2.2=mkS []/\AT.sz i0.2.2=0/\(AT.f i0.2.2).1=noA/\(AT.f i0.2.2).2.1=0/\(AT.f i0.2.2).2.2=0/\(AT.br i0.2.2).1=noA/\(AT.br i0.2.2).2.1=0/\(AT.br i0.2.2).2.2=0/\List.length i0.1=List.length x1/\i0.2.1=x0/\q00 AT.cells i0.1=q00 AT.cells x1/\True/\((decide (zbp33 x6)=true->∃(i1:Unit),x4=x4/\adR i0.1=adR i0.1/\x3=x3/\wdB (GJ.s (tyJ x2))=mkS [118,97,108,117,101,115]/\zbp29 x2 x6 i0)/\(decide (zbp33 x6)=false->∃(i3:Unit),x4=x4/\adR i0.1=adR i0.1/\x3=x3/\wdB (GJ.s (tyJ x2))=mkS [105,116,101,109,115]/\zbp29 x2 x6 i0))/\∀(i5:Unit),True->∃(i6:GJ×ByteArray),zbp25 x2 i6 (i6.2=wdB (GJ.s (tyJ x2))/\GJ.wf i6.1/\(∀(i7:Pub),True/\GJ.ok x2 i7->GJ.ok i6.1 i7)/\((!Option.isSome (q0z i6.2 i6.1))=true->∃(i8:List AT),(2:Int)=2/\List.length i8=List.length (adS i0.1 i0.2.2)/\adE i0.1 i0.2.1=adE i0.1 i0.2.1/\q00 AT.cells i8=q00 AT.cells (adS i0.1 i0.2.2)/\True/\∃(i9:TmB),i9.2.2=0/\List.length (x1++i9.1)=List.length i8/\i9.2.1=faE (adE i0.1 i0.2.1) 2/\q00 AT.cells (x1++i9.1)=q00 AT.cells i8/\qzc x0 x1 x2 x3 x4 i9)/\((!Option.isSome (q0z i6.2 i6.1))=false->zbp12 x4 x1 x2 x3 x0 x5 i6 i0))
 abbrev zbp9:=(arB (GJ.s (tyJ x2))=true->zbp10 x0 x1 x2 x3 x4 x5 x6)/\(arB (GJ.s (tyJ x2))=false->∃(i25:List AT×Int×ByteArray×ByteArray),i25.2.2.1=GJ.s (q14 x6)/\zbp18 x0 x1 x2 x3 x4 i25)
 abbrev zbp8:=((decide (qzp x6)=true->∃(i0:Unit),x0=x0/\arB (GJ.s (tyJ x2))=decide (qzp x6)/\qnd x4 x1 x2 x3 x6)/\(decide (qzp x6)=false->∃(i2:Unit),x0=x0/\arB (GJ.s (tyJ x2))=decide (zbp33 x6)/\qnd x4 x1 x2 x3 x6))/\∀(i4:Unit),True->zbp9 x4 x1 x2 x3 x0 x5 x6
 abbrev zbp7:=(nmB (GJ.s (tyJ x2))=true->zbp13 x0 x1 x2 x3 x4 x5 x6)/\(nmB (GJ.s (tyJ x2))=false->zbp8 x0 x1 x2 x3 x4 x5 x6)
 abbrev zbp6:=((decide (qze x6)=true->∃(i0:Unit),x0=x0/\nmB (GJ.s (tyJ x2))=decide (qze x6)/\qnd x4 x1 x2 x3 x6)/\(decide (qze x6)=false->zbp23 x0 x1 x2 x3 x4 x6))/\∀(i6:Unit),True->zbp7 x0 x1 x2 x3 x4 x5 x6
 abbrev zbp5:=((!decide (GJ.k (q14 x6)=4))=true->zbp15 x0 x1 x2 x3 x4 x5 x6)/\((!decide (GJ.k (q14 x6)=4))=false->zbp6 x0 x1 x2 x3 x4 x5 x6)
 abbrev zbp4:=(decide (GJ.k x2=6)=true->∃(i0:GJ×ByteArray),zbp25 x2 i0 (i0.2=mkS [116,121,112,101]/\GJ.wf i0.1/\(∀(i1:Pub),True/\GJ.ok x2 i1->GJ.ok i0.1 i1)/\((!Option.isSome (q0z i0.2 i0.1))=true->qyr x0 x1 x2 x3 x4 2)/\((!Option.isSome (q0z i0.2 i0.1))=false->zbp5 x4 x1 x2 x3 x0 x5 i0)))/\(decide (GJ.k x2=6)=false->qyr x0 x1 x2 x3 x4 2)
 abbrev zbp3:=(decide (GJ.k x2=5)=true->∃(i0:TmS),GJ.k i0.2.2.1=GJ.k x2/\GJ.n i0.2.2.1=GJ.n x2/\GJ.s i0.2.2.1=GJ.s x2/\(GJ.y i0.2.2.1).1=(GJ.y x2).1/\(GJ.y i0.2.2.1).2.1=(GJ.y x2).2.1/\(GJ.y i0.2.2.1).2.2=(GJ.y x2).2.2/\(GJ.x i0.2.2.1).1=(GJ.x x2).1/\(GJ.x i0.2.2.1).2.1=(GJ.x x2).2.1/\(GJ.x i0.2.2.1).2.2=(GJ.x x2).2.2/\i0.2.2.2.1=x3/\i0.2.2.2.2=x0/\List.length i0.1=List.length x1/\i0.2.1=x4/\q00 AT.cells i0.1=q00 AT.cells x1/\(qca i0<x5+1/\q73 i0/\i0.2.2.2.2<=20)/\zbp26 x4 x1 x2 x3 x0 i0)/\(decide (GJ.k x2=5)=false->zbp4 x4 x1 x2 x3 x0 x5)
 abbrev zbp2:=(decide (GJ.k x2=4)=true->∃(i0:List AT×Int×ByteArray×ByteArray),i0.2.2.1=GJ.s x2/\zbp18 x0 x1 x2 x3 x4 i0)/\(decide (GJ.k x2=4)=false->zbp3 x4 x1 x2 x3 x0 x5)
 abbrev zbp1:=(decide (20<x0)=true->qyr x4 x1 x2 x3 x0 3)/\(decide (20<x0)=false->zbp2 x4 x1 x2 x3 x0 x5)
 abbrev zbp0:=((!decide (x0=0))=true->∃(i0:TmB),i0.2.2=0/\List.length (x1++i0.1)=List.length x1/\i0.2.1=x0/\q00 AT.cells (x1++i0.1)=q00 AT.cells x1/\qzc x0 x1 x2 x3 x4 i0)/\((!decide (x0=0))=false->zbp1 x4 x1 x2 x3 x0 x5)
end
theorem qvq(n:Nat) (S:List AT) (e:Int) (g:GJ) (sp:ByteArray) (d:Int):q68 P (q0r [(78,cAdd),(75,qb6),(77,qr4),(72,q4d)]) (q1s [(46,q4c.below qca n),(73,qjl),(74,qe3.below qca (n+1)),(76,qdd.below muNm (n+1))]) Try.f46 (q4c.below qca (n+1)) (wTreeM) ⟨S,e,g,sp,d⟩=(qca (S,e,g,sp,d)<n+1/\q73 (S,e,g,sp,d)->(∃(p:Pub),True/\GJ.ok g p)->zbp0 e S g sp d n):=by kernel_rfl
def qy6(n:Nat) (S:List AT) (e:Int) (g:GJ) (sp:ByteArray) (d:Int):=Eq.trans (qvq n S e g sp d) (by delta qzc qyr zbp37 qq2 qns zbp18 zbp36 zbp26 zbp25 q14 zbp38 zbp22 zbp15 qze zbp19 zbp14 qnd qxv zbp23 zbp34 zbp35 zbp13 qzp zbp33 zbp29 zbp24 zbp17 zbp12 zbp10 zbp9 zbp8 zbp7 zbp6 zbp5 zbp4 zbp3 zbp2 zbp1 zbp0;exact rfl)
theorem q7f(P Q:List Value) (k:Nat) (v:Value):(P++Q).set (P.length+k) v=P++Q.set k v:=by
 induction P with
 |nil=>simp
 |cons a P ih=>rw[List.cons_append,List.length_cons,Nat.add_right_comm,List.set_cons_succ,ih];rfl
theorem spl_it(A B:List AT) (k r:Int):q00 AT.cells (A++pmT k r::B)=spl (q00 AT.cells (A++pmT k 0::B)) (0+A.length*10+3) [.int .i64 r]:=by
 rw[q0e,q0e,q2x,q2x,Nat.zero_add,←q03 q3g A]
 show _=(q00 AT.cells A++((pmT k 0).cells++q00 AT.cells B)).set ((q00 AT.cells A).length+3) (.int .i64 r)
 rw[q7f]
 rfl
theorem nm_kind{s:ByteArray} (h:nmB s=true):q0x s=9\/q0x s=10\/q0x s=11:=by
 unfold nmB at h
 simp only[Bool.or_eq_true,decide_eq_true_eq]at h
 rcases h with(h|h)|h<;>subst h
 ·exact .inl (by decide)
 ·exact .inr (.inl (by decide))
 ·exact .inr (.inr (by decide))
theorem ar_kind{s:ByteArray} (h:arB s=true):q0x s=12\/q0x s=13:=by
 unfold arB at h
 simp only[Bool.or_eq_true,decide_eq_true_eq]at h
 rcases h with h|h<;>subst h
 ·exact .inl (by decide)
 ·exact .inr (by decide)
theorem qtd(S:List AT) (t:AT) (h:S.length<=60):(S++adT S t).length<=60:=by
 unfold adT
 split
 ·rw[List.append_nil];exact h
 ·simp;omega
theorem qyv{n:Nat} {k r:Int} (h:k=12\/k=13) (r0:0<=r) (r1:r<n):q4k n (pmT k r):=by
 have hk:(pmT k r).k=k:=rfl
 have hi:(pmT k r).it=r:=rfl
 unfold q4k
 rw[hk,hi]
 exact⟨(by omega),λ_=>⟨r0,r1⟩,λb hb=>(by cases hb),λh=>(by omega),λf hf=>(by cases hf),λh=>(by omega),λh=>(by omega),Nat.zero_le _,Nat.zero_le _,Nat.zero_le _⟩
theorem treeM_ok(n:Nat) (ht:q0d P 46 (q4c.below qca n)) (hu:q0d P 74 (qe3.below qca (n+1))) (hn:q0d P 76 (qdd.below muNm (n+1))):q0d P 46 (q4c.below qca (n+1)):=by
 refine q0v mixed (q05 (q01 qe1 (q01 q65 (q01 qw3 (q01 q2b q06))))) (q0g (q04 ht (q04 qys (q04 hu (q04 hn q0q))))) (W:=wTreeM) Try.func46 (by kernel_rfl) (show 1<=4 by decide) (show 4<=6 by decide) (λs=>by kernel_rfl) λ⟨S,(e:Int),g,sp,(d:Int)⟩=>(qy6 n S e g sp d).mpr ?_
 rintro⟨hmu,⟨hS,hg,hd1,hd2,hsp⟩⟩ ⟨p,_,hp⟩
 have hmu:(25- d).toNat<n+1:=hmu
 simp only[decide_eq_true_eq,decide_eq_false_iff_not,Bool.not_eq_true',Bool.not_eq_false',true_and,and_true,eq_self,imp_self,implies_true,exists_const,forall_const,Int.toNat_natCast,tyJ]
 have bad:∀k:Int,k≠0->q12 (S,e,g,sp,d) ([],k,0):=λk hk=>⟨⟨by rw[List.append_nil];exact hS,λh=>absurd h hk⟩,λh=>absurd h hk⟩
 have gsz:g.s.size<1000:=by rw[GJ.wf_eq]at hg;exact hg.1
 refine⟨λhe=>⟨⟨[],e,0⟩,rfl,by rw[List.append_nil],rfl,by rw[List.append_nil],bad e he,λq _ a ha=>(by cases ha)⟩,λhe=>⟨λh20=>⟨S,rfl,rfl,⟨[],faE e 3,0⟩,rfl,by rw[List.append_nil],rfl,by rw[List.append_nil],bad _ (q1b (by decide)),λq _ a ha=>(by cases ha)⟩,λh20=>⟨λh4=>⟨⟨S,e,g.s,sp⟩,rfl,rfl,rfl,rfl,rfl,⟨hS,by show g.s.size<_;omega,by show sp.size<_;omega⟩,λb hb _=>⟨b,rfl,rfl,rfl,rfl,hb,λq hq=>hq.2⟩⟩,λh4=>⟨λh5=>⟨⟨S,e,g,sp,d⟩,rfl,rfl,rfl,rfl,rfl,rfl,rfl,rfl,rfl,rfl,rfl,rfl,rfl,rfl,⟨hmu,⟨hS,hg,hd1,hd2,hsp⟩,by show d<=20;omega⟩,λq hq=>hq,λb hb _=>⟨b,rfl,rfl,rfl,rfl,hb,λq hq=>hq.2⟩⟩,λh5=>⟨λh6=> ?_,λh6=>⟨S,rfl,rfl,⟨[],faE e 2,0⟩,rfl,by rw[List.append_nil],rfl,by rw[List.append_nil],bad _ (q1b (by decide)),λq _ a ha=>(by cases ha)⟩⟩⟩⟩⟩⟩
 refine⟨⟨g,mkS [116,121,112,101]⟩,rfl,rfl,rfl,rfl,rfl,rfl,rfl,rfl,rfl,rfl,hg,λq hq=>hq,λhno=>⟨S,rfl,rfl,⟨[],faE e 2,0⟩,rfl,by rw[List.append_nil],rfl,by rw[List.append_nil],bad _ (q1b (by decide)),λq _ a ha=>(by cases ha)⟩,λhyes=> ?_⟩
 obtain⟨tw,tok⟩:=q2j (mkS [116,121,112,101]) hg
 simp only
 generalize (q0z (mkS [116,121,112,101]) g).getD zJ=t at*
 have tsz:t.s.size<1000:=by rw[GJ.wf_eq]at tw;exact tw.1
 refine⟨λhk=>⟨⟨by omega,by omega⟩,⟨S,e,t,sp,d+1⟩,rfl,rfl,rfl,rfl,rfl,rfl,rfl,rfl,rfl,rfl,rfl,rfl,rfl,rfl,⟨by show(25- (d+1)).toNat<n;omega,hS,tw,by omega,by omega,by omega⟩,λq hq=>tok q hq,λb hb _=>⟨b,rfl,rfl,rfl,rfl,hb,λq hq=>hq.2⟩⟩,λhk=>⟨⟨λh1=> ?_,λh1=>⟨λh2=> ?_,λh2=> ?_⟩⟩,λhN=> ?_,λhN=>⟨⟨λh1=> ?_,λh1=> ?_⟩,λhA=> ?_,λhA=> ?_⟩⟩⟩
 ·unfold nmB;rw[h1];rfl
 ·unfold nmB;rw[h2];rfl
 ·unfold nmB;rw[decide_eq_false h1,decide_eq_false h2,Bool.false_or,Bool.false_or]
 ·exact⟨⟨S,e,g,q0x t.s,sp,d⟩,rfl,rfl,rfl,rfl,rfl,rfl,rfl,rfl,rfl,rfl,rfl,rfl,rfl,rfl,rfl,⟨hmu,⟨hS,hg,hd1,hd2,hsp⟩,by show d<=20;omega,nm_kind hN⟩,λq hq=>hq,λb hb _=>⟨b,rfl,rfl,rfl,rfl,hb,λq hq=>hq.2⟩⟩
 ·unfold arB;rw[h1];rfl
 ·unfold arB;rw[decide_eq_false h1,Bool.false_or]
 ·have hkd:=ar_kind hA
  have adl:=qtd S (pmT (q0x t.s) 0) hS
  have adok:∀q,∀a∈adT S (pmT (q0x t.s) 0),a.ok q:=λq a ha=>by
   unfold adT at ha
   split at ha
   ·cases ha
   ·simp at ha;subst ha;exact qld _ _ _
  have bad2:∀k:Int,k≠0->q12 (S,e,g,sp,d) (adT S (pmT (q0x t.s) 0),k,0):=λk hk=>⟨⟨adl,λh=>absurd h hk⟩,λh=>absurd h hk⟩
  refine⟨⟨S,e,pmT (q0x t.s) 0⟩,rfl,rfl,rfl,rfl,rfl,rfl,rfl,rfl,rfl,rfl,rfl,rfl,rfl,rfl,rfl,rfl,rfl,rfl,rfl,rfl,rfl,⟨λhm=>by unfold wdB;rw[if_pos hm],λhm=>by unfold wdB;rw[if_neg hm]⟩,⟨g,wdB t.s⟩,rfl,rfl,rfl,rfl,rfl,rfl,rfl,rfl,rfl,rfl,hg,λq hq=>hq,λhno=>⟨adS S (pmT (q0x t.s) 0),rfl,rfl,⟨adT S (pmT (q0x t.s) 0),faE (adE S e) 2,0⟩,rfl,by rw[q1r],rfl,by rw[q1r],bad2 _ (q1b (by decide)),λq _=>adok q⟩,λhyes=> ?_⟩
  obtain⟨uw,uok⟩:=q2j (wdB t.s) hg
  refine⟨⟨by omega,by omega⟩,⟨adS S (pmT (q0x t.s) 0),adE S e,(q0z (wdB t.s) g).getD zJ,sp,d+1⟩,rfl,rfl,rfl,rfl,rfl,rfl,rfl,rfl,rfl,rfl,rfl,rfl,rfl,rfl,⟨by show(25- (d+1)).toNat<n;omega,by rw[q1r];exact adl,uw,by omega,by omega,by omega⟩,λq hq=>uok q hq,?_⟩
  rintro⟨U,e2,r⟩ ⟨⟨hU,hU2⟩,hr⟩ _
  simp only at hU hU2 hr⊢
  have ass:adS S (pmT (q0x t.s) 0)++U=S++(adT S (pmT (q0x t.s) 0)++U):=by rw[q1r,List.append_assoc]
  refine⟨λh0=> ?_,λh0=>⟨⟨adT S (pmT (q0x t.s) 0)++U,e2,adR S⟩,rfl,by rw[ass],rfl,by rw[ass],⟨⟨by rw[←ass];exact hU,λh=>absurd h h0⟩,λh=>absurd h h0⟩,λq hq a ha=>(List.mem_append.1 ha).elim (adok q a) (hq.2 a)⟩⟩
  obtain⟨ha0,hUg⟩:=hU2 h0
  obtain⟨r0,r1⟩:=hr h0
  have hl:S.length<60:=by
   by_cases hl:60<=S.length
   ·exact absurd ha0 (qqb hl)
   ·omega
  have e1:adE S e=e:=by unfold adE;rw[if_neg (by omega)]
  have e3:adT S (pmT (q0x t.s) 0)=[pmT (q0x t.s) 0]:=by unfold adT;rw[if_neg (by omega)]
  have er:adR S=S.length:=by unfold adR;rw[if_neg (by omega)]
  rw[ass,e3]at hU hUg r1
  rw[ass,e3,er,Int.toNat_natCast]
  have hlen:∀x,(S++([pmT (q0x t.s) x]++U)).length=S.length+U.length+1:=λx=>by simp;omega
  rw[hlen]at hU hUg r1
  refine⟨⟨by omega,by rw[hlen];omega⟩,by rw[q03 q3g,hlen];show 0+S.length*10+3+1<=_;omega,⟨pmT (q0x t.s) r::U,e2,S.length⟩,rfl,by show(S++([pmT (q0x t.s) r]++U)).length=_;rw[hlen,hlen],rfl,spl_it S U _ r,⟨⟨by show(S++([pmT (q0x t.s) r]++U)).length<=60;rw[hlen];omega,λ_=>⟨by rw[←e1];exact ha0,λx hx=> ?_⟩⟩,λ_=>⟨by show 0<=(S.length:Int);omega,by show(S.length:Int)<((S++([pmT (q0x t.s) r]++U)).length:Int);rw[hlen];omega⟩⟩,λq hq x hx=> ?_⟩
  ·show q4k (S++([pmT (q0x t.s) r]++U)).length x
   rw[hlen]
   rcases List.mem_cons.1 hx with rfl|hx
   ·exact qyv hkd r0 r1
   ·exact hUg x hx
  ·rcases List.mem_cons.1 hx with rfl|hx
   ·exact qld _ _ _
   ·exact hq.2 x hx
 ·exact⟨⟨S,e,t.s,sp⟩,rfl,rfl,rfl,rfl,rfl,⟨hS,by show t.s.size<_;omega,by show sp.size<_;omega⟩,λb hb _=>⟨b,rfl,rfl,rfl,rfl,hb,λq hq=>hq.2⟩⟩
def symN:ByteArray:=mkS [115,121,109,98,111,108,115]
abbrev SyB:=Int×SV×List ByteArray×Bool×ByteArray
def symS(S:List AT) (at_:Int) (y:SV) (l:List ByteArray) (hd:Bool) (df:ByteArray):List AT:=match S[at_.toNat]? with
 |some a=>S.set at_.toNat {a with sy:=y,sys:=l,hd:=hd,df:=df}
 |none=>S
def cSymM:CtR where
 σ:=List AT×Int×GJ×Int
 args:=λ⟨S,e,g,i⟩=>[.ptr 1 0,g.av, .sv (.int .i64 i)]
 h:=λ⟨S,e,g,i⟩=>mkO S e 2 3
 m:=4
 pre:=λ⟨S,e,g,i⟩=>S.length<=60/\g.wf/\0<=i/\(e=0->i<S.length)
 mem:=λ⟨S,e,g,i⟩=>gM g
 β:=λ_=>SyB
 post:=λ⟨S,e,g,i⟩ ⟨e',y,l,hd,df⟩=>e'=0->e=0/\l≠[]/\l.length<=30
 pm:=λ_ ⟨e',y,l,hd,df⟩=>⟨true,slP txV y l,λ_ _ h e=>q0i h e⟩
 r:=λ_ _=> .tup []
 h':=λ⟨S,e,g,i⟩ ⟨e',y,l,hd,df⟩=>mkO (if e'=0 then symS S i y l hd df else S) e' 4 5
 m':=6
def slE(h:T AO):Option Int:=mkE h 1
def smL(g:GJ) (e:Int):List ByteArray:=(q4f g symN e).1
def wSymM:cSymM.σ->WayF:=λ⟨S,e,g,i⟩=>{
  cut:=λr _ _=>match r with
    |4=>some {σ:=Int,pre:=λe'=>e'=0->e=0,find:=some λ_ h=>slE h,t:=λ_=>[],h:=λe'=>[mkC S e' 2 3],more:=0,μ:=λ_=>0,keep:=[0,2,4,6,7]}
    |6=>some {σ:=Int,pre:=λe'=>e'=0->e=0/\smL g e≠[],find:=some λ_ h=>slE h,t:=λ_=>[],h:=λe'=>[mkC S e' 2 3],more:=0,μ:=λ_=>0,keep:=[0,2,4,6,7]}
    |8=>some {σ:=Int,pre:=λe'=>e'=0->e=0/\smL g e≠[]/\(smL g e).length<=30,find:=some λ_ h=>slE h,t:=λ_=>[],h:=λe'=>[mkC S e' 2 3],more:=0,μ:=λ_=>0,keep:=[0,2,4,6,7]}
    |13=>some {σ:=Int,pre:=λe'=>e'=0->e=0/\smL g e≠[]/\(smL g e).length<=30,find:=some λ_ h=>slE h,t:=λ_=>[],h:=λe'=>[mkC S e' 2 3],more:=0,μ:=λ_=>0,keep:=[0,2,4,6,7,8]}
    |27=>some {σ:=Int,pre:=λe'=>e'=0->e=0/\smL g e≠[]/\(smL g e).length<=30,find:=some λ_ h=>slE h,t:=λ_=>[],h:=λe'=>[mkC S e' 2 3],more:=0,μ:=λ_=>0,keep:=[0,2,4,6,7,11,12]}
    |_=>none
  ann :=λid t _=>match id with
    |0=>some {σ:=Nat×Int,pre:=λ⟨j,e'⟩=>j<=(smL g e).length/\(e'=0->e=0/\smL g e≠[]/\(smL g e).length<=30),t:=λ⟨j,e'⟩=>[(8, .sv (.int .i64 (j:Int)))],h:=λ⟨j,e'⟩=>[mkC S e' 2 3],more:=0,μ:=λ⟨j,e'⟩=>(smL g e).length- j,keep:=[0,2,4,6,7]}
    | 2=>match slI t 8 with
      |some i=>some {σ:=Nat×Int,pre:=λ⟨k,e'⟩=>(k:Int)<=i/\(e'=0->e=0/\smL g e≠[]/\(smL g e).length<=30),t:=λ⟨k,e'⟩=>[(9, .sv (.int .i64 (k:Int)))],h:=λ⟨k,e'⟩=>[mkC S e' 2 3],more:=0,μ:=λ⟨k,e'⟩=>(i- k).toNat,keep:=[0,2,4,6,7,8]}
      |none=>none
    |_=>some {σ:=Nat×Bool,pre:=λ⟨k,b⟩=>k<=(smL g e).length,t:=λ⟨k,b⟩=>[(13, .sv (.bool b)),(14, .sv (.int .i64 (k:Int)))],h:=λ_=>[],more:=0,μ:=λ⟨k,b⟩=>(smL g e).length- k,keep:=[0,2,4,6,7,11,12]}}
noncomputable section
variable (x0:List AT×Int×GJ×ByteArray) (x1:Int) (x2:Option Addr) (x3:Nat) (x4:Nat) (x5:List AT) (x6:GJ) (x7:Int) (x8:Int) (x9:Nat×Int) (x10:Nat×Bool) (x11:GJ×ByteArray) (x12:List AT×Int×GJ×ByteArray×Bool) (x13:Prop) (x14:Nat×Int) (x15:Nat->Option Obj) (x16:Nat×Bool) (x17:SyB) (x18:List AT) (x19:ByteArray) (x20:Nat×Int)
 abbrev qln:=q00 AT.cells x0.1=q00 AT.cells x5
 abbrev qb4:=(True/\GJ.ok x6 x15)/\slP txV (x2,x3,x4) (q4f x0.2.2.1 x0.2.2.2 x0.2.1).1 x15
 abbrev q7l:=(q4f x0.2.2.1 x0.2.2.2 x0.2.1).2
 abbrev qsa:=q00 AT.cells x5=q00 AT.cells x0.1/\True/\x13
 abbrev q6q:=(q7l x0).1=(q7l x0).1
 abbrev qdt:=List.length x5=List.length x18
 abbrev qed:=GJ.k x6=GJ.k x6/\GJ.n x6=GJ.n x6/\GJ.s x6=GJ.s x6/\(GJ.y x6).1=(GJ.y x6).1/\(GJ.y x6).2.1=(GJ.y x6).2.1/\(GJ.y x6).2.2=(GJ.y x6).2.2/\(GJ.x x6).1=(GJ.x x6).1/\(GJ.x x6).2.1=(GJ.x x6).2.1/\(GJ.x x6).2.2=(GJ.x x6).2.2/\(∀(i0:Pub),qb4 x0 x2 x3 x4 x6 i0->qb4 x0 x2 x3 x4 x6 i0)/\x13
 abbrev qdx:=q00 AT.cells x0.1=q00 AT.cells x0.1
 abbrev zbq40:=q6q x0/\x1=x1/\x2=x2/\x3=x3/\x4=x4/\List.length x5=List.length x0.1/\(q7l x0).2=(q7l x0).2/\qdx x0/\qed x0 x2 x3 x4 x6 (((q7l x0).2=0->x7=0)/\True)
 abbrev zbq33:=x8=x8/\qdt x5 x18/\x1=x1/\qsa x0 x5 (q6q x0/\x7=x7/\x2=x2/\x3=x3/\x4=x4/\qdt x18 x5/\faE x1 x8=faE x1 x8/\qln x0 x5/\x13)
 abbrev zbq47:=x1=0/\smL x6 x1≠[]
 abbrev qf7:=x2=x2/\x3=x3/\x4=x4/\List.length x5=List.length x5/\x13
 abbrev q8b:=x1=0/\smL x6 x1≠[]/\List.length (smL x6 x1)<=30
 abbrev zbq42:=x9.1<=List.length (smL x6 x1)/\(x9.2=0->q8b x1 x6)
 abbrev zbq48:=(0<=(↑x9.1:Int)/\(↑x9.1:Int)<(↑x3:Int))/\x2≠noA/\x13
 abbrev qzt:=(∀(i0:Pub),qb4 x0 x2 x3 x4 x6 i0->q02 i0 (adr x2 (Int.toNat (↑x9.1:Int)*1)) [Value.string x19])
 abbrev qn1:=x1=x1/\(↑x9.1:Int)=(↑x9.1:Int)/\x13
 abbrev qzh:=(↑x9.1:Int)<=(↑x14.1:Int)/\(x9.2=0->q8b x1 x6)
 abbrev qz8:=((-9223372036854775808:Int)<=(↑x9.1:Int)+1/\(↑x9.1:Int)+1<=9223372036854775807)
 abbrev zbq49:=(qzh x1 x6 x9 x14)/\Int.toNat ((↑x14.1:Int)- (↑x9.1:Int))<Int.toNat ((↑x14.1:Int)- (↑x20.1:Int))/\True
 abbrev zbq25:=qz8 x9/\∃(i0:Nat×Int),q6q x0/\(↑i0.1:Int)=(↑x9.1:Int)+1/\qn1 x1 x14 (qf7 x2 x3 x4 x5 (i0.2=x9.2/\qdx x0/\qed x0 x2 x3 x4 x6 (zbq49 x7 x6 i0 x14 x9)))
 abbrev zbq14:=zbq48 x2 x3 x9 (∃(i0:ByteArray),qzt x0 x2 x3 x4 x6 x9 i0/\zbq48 x2 x3 x14 (∃(i2:ByteArray),qzt x0 x2 x3 x4 x6 x14 i2/\(decide (i0=i2)=true->∃(i4:List AT),(5:Int)=5/\qdt i4 x5/\x9.2=x9.2/\qsa x0 i4 (qz8 x9/\∃(i5:Nat×Int),q6q x0/\(↑i5.1:Int)=(↑x9.1:Int)+1/\qn1 x1 x14 (x2=x2/\x3=x3/\x4=x4/\qdt x5 i4/\i5.2=faE x9.2 5/\qln x0 i4/\qed x0 x2 x3 x4 x6 (zbq49 x7 x6 i5 x14 x9))))/\(decide (i0=i2)=false->zbq25 x0 x1 x2 x3 x4 x5 x6 x7 x9 x14)))
 abbrev zbq26:=qz8 x9/\∃(i0:Nat×Int),q6q x0/\x1=x1/\(↑i0.1:Int)=(↑x9.1:Int)+1/\qf7 x2 x3 x4 x5 (i0.2=x14.2/\qdx x0/\qed x0 x2 x3 x4 x6 ((zbq42 x7 x6 i0)/\List.length (smL x6 x7)- i0.1<List.length (smL x6 x7)- x9.1/\True))
 abbrev zbq11:=(decide ((↑x9.1:Int)<(↑x14.1:Int))=true->zbq14 x0 x1 x2 x3 x4 x5 x6 x7 x9 x14)/\(decide ((↑x9.1:Int)<(↑x14.1:Int))=false->zbq26 x0 x1 x2 x3 x4 x5 x6 x7 x14 x9)
 abbrev zbq10:=(∃(i0:Nat×Int),q6q x0/\(↑i0.1:Int)=0/\qn1 x1 x9 (qf7 x2 x3 x4 x5 (i0.2=x7/\qdx x0/\qed x0 x2 x3 x4 x6 ((qzh x8 x6 i0 x9)/\True))))/\∀(i1:Nat×Int),qzh x8 x6 i1 x9->zbq11 x0 x1 x2 x3 x4 x5 x6 x8 i1 x9
 abbrev zbq8:=(zbq48 x2 x3 x9 (∃(i0:ByteArray),qzt x0 x2 x3 x4 x6 x9 i0/\i0=i0/\ByteArray.size i0<1000000/\((!q5g i0)=true->∃(i2:List AT),(6:Int)=6/\qdt i2 x5/\x9.2=x9.2/\qsa x0 i2 (q6q x0/\qn1 x1 x9 (x2=x2/\x3=x3/\x4=x4/\qdt x5 i2/\faE x9.2 (6:Int)=faE x9.2 6/\qln x0 i2/\qed x0 x2 x3 x4 x6 ((faE x9.2 (6:Int)=0->q8b x7 x6)/\True))))/\((!q5g i0)=false->q6q x0/\qn1 x1 x9 (qf7 x2 x3 x4 x5 (x9.2=x9.2/\qdx x0/\qed x0 x2 x3 x4 x6 ((x9.2=0->q8b x7 x6)/\True))))))/\∀(i3:Int),(i3=0->q8b x7 x6)->zbq10 x0 x1 x2 x3 x4 x5 x6 i3 x7 x9
 abbrev qmn:=q6q x0/\Option.isSome (q0z x11.2 x11.1)=Option.isSome (q0z x11.2 x11.1)/\x13
 abbrev q69:=woR x12.2.2.1 x12.2.2.2.1 x12.2.2.2.2 x12.2.1
 abbrev qud:=(q69 x12).1=(q69 x12).1/\x2=x2/\x3=x3/\x4=x4/\x13
 abbrev zbq38:=(q69 x12).2=(q69 x12).2/\q00 AT.cells x12.1=q00 AT.cells x12.1/\x13
 abbrev zbq44:=((-9223372036854775808:Int)<=(↑x10.1:Int)+1/\(↑x10.1:Int)+1<=9223372036854775807)
 abbrev zbq28:=qud x2 x3 x4 x12 ((↑x10.1:Int)=(↑x16.1:Int)+1/\List.length x12.1=List.length x12.1/\zbq38 x12 (qed x0 x2 x3 x4 x6 (x10.1<=List.length (smL x6 x1)/\List.length (smL x6 x1)- x10.1<List.length (smL x6 x1)- x16.1/\True)))
 abbrev zbq24:=zbq44 x10/\∃(i0:Nat×Bool),qmn x0 x11 (i0.2=true/\x1=x1/\zbq28 x0 x7 x2 x3 x4 x6 i0 x12 x10)
 abbrev zbq20:=(0<=(↑x10.1:Int)/\(↑x10.1:Int)<(↑x3:Int))/\x2≠noA/\∃(i0:ByteArray),(∀(i1:Pub),qb4 x0 x2 x3 x4 x6 i1->q02 i1 (adr x2 (Int.toNat (↑x10.1:Int)*1)) [Value.string i0])/\zbq44 x10/\∃(i2:Nat×Bool),qmn x0 x11 (i2.2=decide (i0=(q69 x12).1)/\x1=x1/\zbq28 x0 x7 x2 x3 x4 x6 i2 x12 x10)
 abbrev zbq15:=(x10.2=true->zbq24 x0 x1 x2 x3 x4 x6 x7 x10 x11 x12)/\(x10.2=false->zbq20 x0 x1 x2 x3 x4 x6 x7 x10 x11 x12)
 abbrev zbq16:=qmn x0 x11 (x1=x1/\qud x2 x3 x4 x12 (List.length x5=List.length x12.1/\zbq38 x12 (qed x0 x2 x3 x4 x6 (((q69 x12).2=0->q8b x7 x6)/\True))))
 abbrev zbq21:=((!x10.2)=true->∃(i0:List AT),(6:Int)=6/\List.length i0=List.length x12.1/\(q69 x12).2=(q69 x12).2/\q00 AT.cells i0=q00 AT.cells x12.1/\True/\qmn x0 x11 (x1=x1/\qud x2 x3 x4 x12 (qdt x5 i0/\faE (q69 x12).2 (6:Int)=faE (q69 x12).2 6/\q00 AT.cells x12.1=q00 AT.cells i0/\qed x0 x2 x3 x4 x6 ((faE (q69 x12).2 (6:Int)=0->q8b x7 x6)/\True))))/\((!x10.2)=false->zbq16 x0 x1 x2 x3 x4 x5 x6 x7 x11 x12)
 abbrev zbq39:=spl (spl (q00 AT.cells x12.1) (nat_lit 0+Int.toNat x1*nat_lit 10+4) [Value.slice x2 x3 x4]) (nat_lit 0+Int.toNat x1*nat_lit 10+5) [Value.bool (Option.isSome (q0z x11.2 x11.1))]
 abbrev qrf:=if x17.1=0 then symS x5 x1 x17.2.1 x17.2.2.1 x17.2.2.2.1 x17.2.2.2.2 else x5
 abbrev zbq31:=x1=0/\x17.2.2.1≠[]/\List.length x17.2.2.1<=30
 abbrev zbq18:=(0<=x1/\x1<(↑(List.length x5):Int))/\nat_lit 0+Int.toNat x1*nat_lit 10+4+List.length [Value.slice x2 x3 x4]<=List.length (q00 AT.cells x12.1)/\(0<=x1/\x1<(↑(List.length x5):Int))/\nat_lit 0+Int.toNat x1*nat_lit 10+5+List.length [Value.bool (Option.isSome (q0z x11.2 x11.1))]<=List.length (spl (q00 AT.cells x12.1) (nat_lit 0+Int.toNat x1*nat_lit 10+4) [Value.slice x2 x3 x4])/\(0<=x1/\x1<(↑(List.length x5):Int))/\nat_lit 0+Int.toNat x1*nat_lit 10+6+List.length [Value.string (q69 x12).1]<=List.length (zbq39 x1 x2 x3 x4 x11 x12)/\∃(i0:SyB),List.length (qrf x1 x5 i0)=List.length x5/\i0.1=x7/\q00 AT.cells (qrf x1 x5 i0)=spl (zbq39 x1 x2 x3 x4 x11 x12) (nat_lit 0+Int.toNat x1*nat_lit 10+6) [Value.string (q69 x12).1]/\(i0.1=0->zbq31 x8 i0)/\(∀(i1:Pub),qb4 x0 x2 x3 x4 x6 i1->slP txV i0.2.1 i0.2.2.1 i1)/\True
 abbrev zbq13:=(decide (x1=0)=true->zbq18 x0 x7 x2 x3 x4 x5 x6 x1 x8 x11 x12)/\(decide (x1=0)=false->∃(i2:SyB),List.length (qrf x7 x5 i2)=List.length x5/\i2.1=x1/\q00 AT.cells (qrf x7 x5 i2)=q00 AT.cells x12.1/\(i2.1=0->zbq31 x8 i2)/\(∀(i3:Pub),qb4 x0 x2 x3 x4 x6 i3->slP txV i2.2.1 i2.2.2.1 i3)/\True)
 abbrev zbq9:=((Option.isSome (q0z x11.2 x11.1)=true->zbq21 x0 x1 x2 x3 x4 x5 x6 x7 x10 x11 x12)/\(Option.isSome (q0z x11.2 x11.1)=false->zbq16 x0 x1 x2 x3 x4 x5 x6 x7 x11 x12))/\∀(i1:Int),(i1=0->q8b x7 x6)->zbq13 x0 i1 x2 x3 x4 x5 x6 x1 x7 x11 x12
 abbrev zbq5:=(decide ((↑x10.1:Int)<(↑x3:Int))=true->zbq15 x0 x1 x2 x3 x4 x6 x7 x10 x11 x12)/\(decide ((↑x10.1:Int)<(↑x3:Int))=false->zbq9 x0 x1 x2 x3 x4 x5 x6 x7 x10 x11 x12)
 abbrev zbq12:=∃(i0:GJ×ByteArray),GJ.k i0.1=GJ.k x6/\GJ.n i0.1=GJ.n x6/\GJ.s i0.1=GJ.s x6/\(GJ.y i0.1).1=(GJ.y x6).1/\(GJ.y i0.1).2.1=(GJ.y x6).2.1/\(GJ.y i0.1).2.2=(GJ.y x6).2.2/\(GJ.x i0.1).1=(GJ.x x6).1/\(GJ.x i0.1).2.1=(GJ.x x6).2.1/\(GJ.x i0.1).2.2=(GJ.x x6).2.2/\i0.2=mkS [100,101,102,97,117,108,116]/\GJ.wf i0.1/\(∀(i1:Pub),qb4 x0 x2 x3 x4 x6 i1->GJ.ok i0.1 i1)/\∃(i2:List AT×Int×GJ×ByteArray×Bool),GJ.k i2.2.2.1=GJ.k x6/\GJ.n i2.2.2.1=GJ.n x6/\GJ.s i2.2.2.1=GJ.s x6/\(GJ.y i2.2.2.1).1=(GJ.y x6).1/\(GJ.y i2.2.2.1).2.1=(GJ.y x6).2.1/\(GJ.y i2.2.2.1).2.2=(GJ.y x6).2.2/\(GJ.x i2.2.2.1).1=(GJ.x x6).1/\(GJ.x i2.2.2.1).2.1=(GJ.x x6).2.1/\(GJ.x i2.2.2.1).2.2=(GJ.x x6).2.2/\i2.2.2.2.1=mkS [100,101,102,97,117,108,116]/\i2.2.2.2.2=false/\List.length i2.1=List.length x5/\i2.2.1=x9.2/\q00 AT.cells i2.1=q00 AT.cells x0.1/\GJ.wf i2.2.2.1/\(∀(i3:Pub),qb4 x0 x2 x3 x4 x6 i3->GJ.ok i2.2.2.1 i3)/\(∃(i4:Nat×Bool),qmn x0 i0 (i4.2=false/\x1=x1/\qud x2 x3 x4 i2 ((↑i4.1:Int)=0/\List.length i2.1=List.length i2.1/\zbq38 i2 (qed x0 x2 x3 x4 x6 (i4.1<=List.length (smL x6 x7)/\True)))))/\∀(i5:Nat×Bool),i5.1<=List.length (smL x6 x7)->zbq5 x0 x1 x2 x3 x4 x5 x6 x7 i5 i0 i2
 abbrev zbq6:=(decide (x9.2=0)=true->zbq8 x0 x1 x2 x3 x4 x5 x6 x7 x9)/\(decide (x9.2=0)=false->zbq12 x0 x1 x2 x3 x4 x5 x6 x7 x9)
 abbrev zbq4:=(decide ((↑x9.1:Int)<(↑x3:Int))=true->zbq6 x0 x1 x2 x3 x4 x5 x6 x7 x9)/\(decide ((↑x9.1:Int)<(↑x3:Int))=false->zbq12 x0 x1 x2 x3 x4 x5 x6 x7 x9)
 abbrev zbq3:=(∃(i0:Nat×Int),q6q x0/\x1=x1/\(↑i0.1:Int)=0/\qf7 x2 x3 x4 x5 (i0.2=x7/\qdx x0/\qed x0 x2 x3 x4 x6 ((zbq42 x8 x6 i0)/\True)))/\∀(i2:Nat×Int),zbq42 x8 x6 i2->zbq4 x0 x1 x2 x3 x4 x5 x6 x8 i2
 abbrev zbq2:=((decide (30<(↑x3:Int))=true->∃(i0:List AT),zbq33 x0 x1 x2 x3 x4 i0 x7 3 (qed x0 x2 x3 x4 x6 ((faE x1 (3:Int)=0->q8b x8 x6)/\True)) x5)/\(decide (30<(↑x3:Int))=false->q6q x0/\x7=x7/\qf7 x2 x3 x4 x5 (x1=x1/\qdx x0/\qed x0 x2 x3 x4 x6 ((x1=0->q8b x8 x6)/\True))))/\∀(i3:Int),(i3=0->q8b x8 x6)->zbq3 x0 x7 x2 x3 x4 x5 x6 i3 x8
 abbrev zbq1:=((decide ((↑x3:Int)=0)=true->∃(i0:List AT),zbq33 x0 x1 x2 x3 x4 i0 x7 6 (qed x0 x2 x3 x4 x6 ((faE x1 (6:Int)=0->zbq47 x8 x6)/\True)) x5)/\(decide ((↑x3:Int)=0)=false->q6q x0/\x7=x7/\qf7 x2 x3 x4 x5 (x1=x1/\qdx x0/\qed x0 x2 x3 x4 x6 ((x1=0->zbq47 x8 x6)/\True))))/\∀(i3:Int),(i3=0->zbq47 x8 x6)->zbq2 x0 i3 x2 x3 x4 x5 x6 x7 x8
 abbrev zbq0:=(((!(q7l x0).1)=true->∃(i0:List AT),(2:Int)=2/\List.length i0=List.length x0.1/\(q7l x0).2=(q7l x0).2/\qsa x0 i0 (q6q x0/\x1=x1/\x2=x2/\x3=x3/\x4=x4/\qdt x5 i0/\faE (q7l x0).2 (2:Int)=faE (q7l x0).2 2/\qln x0 i0/\qed x0 x2 x3 x4 x6 ((faE (q7l x0).2 (2:Int)=0->x7=0)/\True)))/\((!(q7l x0).1)=false->zbq40 x0 x1 x2 x3 x4 x5 x6 x7))/\∀(i3:Int),(i3=0->x7=0)->zbq1 x0 i3 x2 x3 x4 x5 x6 x1 x7
end
theorem symM_eqz(S:List AT) (e:Int) (g:GJ) (i:Int):q68 P (q0r [(112,qc4),(75,qb6),(109,qfd),(141,qmv),(72,q4d)]) (q1s []) Try.f114 cSymM (wSymM) ⟨S,e,g,i⟩=(List.length S<=60/\GJ.wf g/\0<=i/\(e=0->i<(↑(List.length S):Int))->(∃(p:Pub),True/\GJ.ok g p)->∃(s:List AT×Int×GJ×ByteArray),GJ.k s.2.2.1=GJ.k g/\GJ.n s.2.2.1=GJ.n g/\GJ.s s.2.2.1=GJ.s g/\(GJ.y s.2.2.1).1=(GJ.y g).1/\(GJ.y s.2.2.1).2.1=(GJ.y g).2.1/\(GJ.y s.2.2.1).2.2=(GJ.y g).2.2/\(GJ.x s.2.2.1).1=(GJ.x g).1/\(GJ.x s.2.2.1).2.1=(GJ.x g).2.1/\(GJ.x s.2.2.1).2.2=(GJ.x g).2.2/\s.2.2.2=mkS [115,121,109,98,111,108,115]/\List.length s.1=List.length S/\s.2.1=e/\qln s S/\GJ.wf s.2.2.1/\(∀(p:Pub),True/\GJ.ok g p->GJ.ok s.2.2.1 p)/\∀(b:Unit),True->∀(a:Option Addr) (n c:Nat),(∃(p:Pub),qb4 s a n c g p)->zbq0 s i a n c S g e):=by kernel_rfl
def symM_eq(S:List AT) (e:Int) (g:GJ) (i:Int):=Eq.trans (symM_eqz S e g i) (by delta qln qb4 q7l qsa q6q qdt qed qdx zbq40 zbq33 zbq47 qf7 q8b zbq42 zbq48 qzt qn1 qzh qz8 zbq49 zbq25 zbq14 zbq26 zbq11 zbq10 zbq8 qmn q69 qud zbq38 zbq44 zbq28 zbq24 zbq20 zbq15 zbq16 zbq21 zbq39 qrf zbq31 zbq18 zbq13 zbq9 zbq5 zbq12 zbq6 zbq4 zbq3 zbq2 zbq1 zbq0;exact rfl)
theorem qkg:∀{l:List GJ} {e:Int} {acc:List ByteArray},GJ.wfs l->(∀x∈acc,x.size<1000)->∀x∈(q87 l e acc).1,x.size<1000
  | [],e,acc,_,ha=>by rw[q87];exact ha
  | g ::l,e,acc,hw,ha=>by
    rw[GJ.wfs]at hw
    rw[q87]
    split
    · refine qkg hw.2 λx hx=> ?_
      rcases List.mem_append.1 hx with hx|hx
      · exact ha x hx
      · simp at hx;subst hx;have:=hw.1;rw[GJ.wf_eq]at this;exact this.1
    · exact ha
theorem txsL_e:∀{l:List GJ} {e:Int} {acc:List ByteArray},(q87 l e acc).2=0->e=0
  | [],e,acc,h=>by rw[q87]at h;exact h
  | g::l,e,acc,h=>by
    rw[q87]at h
    split at h
    · assumption
    · exact h
theorem q7e{e k:Int} (hk:k≠0):faE e k=0->False:=λh=>q1b hk h
theorem qd6{g:GJ} {s:ByteArray} {e:Int} (hg:g.wf):∀x∈(q4f g s e).1,x.size<1000:=by
 unfold q4f
 split
 ·have:=(q2j s hg).1
  rw[GJ.wf_eq]at this
  exact qkg this.2.2.2.2.2.2 λx hx=>(by cases hx)
 ·intro x hx;cases hx
theorem ql2:∀{l:List GJ} {e:Int} {acc:List ByteArray},(q87 l e acc).1.length<=acc.length+l.length
  | [],e,acc=>by rw[q87];exact Nat.le_refl _
  | g ::l,e,acc=>by
    rw[q87]
    split
    · refine Nat.le_trans ql2 ?_
      simp;omega
    · simp
theorem qea{g:GJ} {s:ByteArray} {e:Int} (hg:g.wf):(q4f g s e).1.length<1000:=by
 unfold q4f
 split
 ·have:=(q2j s hg).1
  rw[GJ.wf_eq]at this
  refine Nat.lt_of_le_of_lt ql2 ?_
  simp;exact this.2.1
 ·exact Nat.zero_lt_succ _
theorem qth{g:GJ} {s:ByteArray} {e:Int}:(q4f g s e).2.2=0->e=0:=by
 unfold q4f
 split
 ·intro h
  have:=txsL_e h
  unfold tyE at this
  split at this
  ·exact this
  ·exact absurd this (q1b (by decide))
 ·exactλh=>h
theorem woR_e{g:GJ} {s:ByteArray} {b:Bool} {e:Int}:(woR g s b e).2=0->e=0:=by
 unfold woR
 split
 ·split
  ·exactλh=>absurd h (q1b (by decide))
  ·exactλh=>h
 ·split
  ·exactλh=>h
  ·exactλh=>absurd h (q1b (by decide))
theorem qdi(S:List AT) (k:Nat) (hk:k<S.length) (x:AT):q00 AT.cells (S.set k x)=q00 AT.cells (S.take k)++(x.cells++q00 AT.cells (S.drop (k+1))):=by
 rw[List.set_eq_take_append_cons_drop,if_pos hk,q0e,q2x]
theorem qen(S:List AT) (k:Nat) (hk:k<S.length):q00 AT.cells S=q00 AT.cells (S.take k)++((S[k]).cells++q00 AT.cells (S.drop (k+1))):=by
 rw[←qdi S k hk,List.set_getElem_self]
theorem qfo(S:List AT) (k:Nat) (hk:k<S.length):(q00 AT.cells (S.take k)).length=k*10:=by
 rw[q03 q3g,List.length_take];congr 1;omega
theorem qyf(S:List AT) (k:Nat) (hk:k<S.length) (y:SV) (l:List ByteArray) (hd:Bool) (df:ByteArray):q00 AT.cells (S.set k {S[k]with sy:=y,sys:=l,hd:=hd,df:=df})=spl (spl (spl (q00 AT.cells S) (0+k*10+4) [svV y]) (0+k*10+5) [.bool hd]) (0+k*10+6) [.string df]:=by
 rw[qdi S k hk]
 conv=>rhs;rw[qen S k hk]
 rw[Nat.zero_add,←qfo S k hk]
 generalize q00 AT.cells (S.take k)=A
 generalize q00 AT.cells (S.drop (k+1))=B
 show _=(((A++((S[k]).cells++B)).set (A.length+4) (svV y)).set (A.length+5) (.bool hd)).set (A.length+6) (.string df)
 rw[q7f,q7f,q7f]
 rfl
theorem symM_ok:q0d P 114 cSymM:=by
 refine q0v mixed (q05 (q01 qdm (q01 q65 (q01 qcl (q01 qgv (q01 q2b q06)))))) (q0g q0q) (W:=wSymM) Try.func114 (by kernel_rfl) (by decide) (by decide) (λs=>by kernel_rfl) λ⟨S,(e:Int),g,(i:Int)⟩=>(symM_eq S e g i).mpr ?_
 rintro⟨hS,hg,hi0,hi1⟩ ⟨p,_,hp⟩
 simp only[decide_eq_true_eq,decide_eq_false_iff_not,Bool.not_eq_true',Bool.not_eq_false',true_and,and_true,eq_self,imp_self,implies_true,exists_const,forall_const,Int.toNat_natCast]
 refine⟨⟨S,e,g,mkS [115,121,109,98,111,108,115]⟩,rfl,rfl,rfl,rfl,rfl,rfl,rfl,rfl,rfl,rfl,rfl,rfl,rfl,hg,λq hq=>hq,?_⟩
 have hL:(q4f g (mkS [115,121,109,98,111,108,115]) e).1=smL g e:=rfl
 have hsz:∀x∈smL g e,x.size<1000:=qd6 hg
 have hLl:(smL g e).length<1000:=qea hg
 have hE:(q4f g (mkS [115,121,109,98,111,108,115]) e).2.2=0->e=0:=qth
 simp only[hL]
 generalize q4f g (mkS [115,121,109,98,111,108,115]) e=F at*
 generalize smL g e=L at*
 clear hL
 rintro a n c ⟨p1,hp1,hl1⟩
 have hn:n=L.length:=hl1.1
 subst hn
 have hat:=λ(j:Nat) (hj:j<L.length) (q:Pub) (hq:slP txV (a,L.length,c) L q)=>(show a≠noA/\q02 q (adr a (j*1)) [.string L[j]]from q1m q13 (by decide) hq hj)
 refine⟨⟨λ_=>⟨S,rfl,rfl,rfl,rfl,λh=>(q7e (by decide) h).elim⟩,λ_=>⟨trivial,hE⟩⟩,?_⟩
 intro e1 h1
 refine⟨⟨λ_=>⟨S,rfl,rfl,rfl,rfl,λh=>(q7e (by decide) h).elim⟩,λhz h=>⟨h1 h,λhh=>hz (by rw[hh];rfl)⟩⟩,?_⟩
 intro e2 h2
 refine⟨⟨λ_=>⟨S,rfl,rfl,rfl,rfl,λh=>(q7e (by decide) h).elim⟩,λhz h=>⟨(h2 h).1,(h2 h).2,by omega⟩⟩,?_⟩
 intro e3 h3
 refine⟨⟨⟨0,e3⟩,rfl,rfl,Nat.zero_le _,h3⟩,?_⟩
 rintro⟨j,e4⟩ ⟨hj,h4⟩
 simp only at*
 refine⟨λhlt=>⟨λh0=>⟨⟨by omega,(hat j (by omega) p1 hl1).1,L[j]'(by omega),λq hq=>(hat j (by omega) q hq.2).2,by have:=hsz _ (List.getElem_mem (show j<L.length by omega));omega,λ_=>⟨S,rfl,rfl,rfl,rfl,λh=>(q7e (by decide) h).elim⟩,λ_=>h4⟩,?_⟩,λh0=> ?xa⟩,λhge=> ?xb⟩
 ·intro e5 h5
  refine⟨⟨⟨0,e5⟩,rfl,rfl,by show(0:Int)<=_;omega,h5⟩,?_⟩
  rintro⟨k,e6⟩ ⟨hk,h6⟩
  simp only at*
  refine⟨λhkj=>⟨⟨by omega,by omega⟩,(hat k (by omega) p1 hl1).1,L[k]'(by omega),λq hq=>(hat k (by omega) q hq.2).2,⟨by omega,by omega⟩,(hat j (by omega) p1 hl1).1,L[j]'(by omega),λq hq=>(hat j (by omega) q hq.2).2,λ_=>⟨S,rfl,rfl,⟨by omega,by omega⟩,⟨k+1,faE e6 5⟩,by show((k+1:Nat):Int)=_;omega,rfl,rfl,rfl,⟨by show((k+1:Nat):Int)<=_;omega,λh=>(q7e (by decide) h).elim⟩,by show((j:Int)- ((k+1:Nat):Int)).toNat<_;omega⟩,λ_=>⟨⟨by omega,by omega⟩,⟨k+1,e6⟩,by show((k+1:Nat):Int)=_;omega,rfl,⟨by show((k+1:Nat):Int)<=_;omega,h6⟩,by show((j:Int)- ((k+1:Nat):Int)).toNat<_;omega⟩⟩,λhkj=>⟨⟨by omega,by omega⟩,⟨j+1,e6⟩,by show((j+1:Nat):Int)=_;omega,rfl,⟨by show j+1<=_;omega,h6⟩,by show _- (j+1)<_;omega⟩⟩
 case xa|xb=>
  refine⟨⟨g,mkS [100,101,102,97,117,108,116]⟩,rfl,rfl,rfl,rfl,rfl,rfl,rfl,rfl,rfl,rfl,hg,λq hq=>hq.1,⟨S,e4,g,mkS [100,101,102,97,117,108,116],false⟩,rfl,rfl,rfl,rfl,rfl,rfl,rfl,rfl,rfl,rfl,rfl,rfl,rfl,rfl,hg,λq hq=>hq.1,⟨⟨0,false⟩,rfl,rfl,Nat.zero_le _⟩,?_⟩
  rintro⟨k,b⟩ hk
  simp only at*
  have hw:(woR g (mkS [100,101,102,97,117,108,116]) false e4).2=0->e=0/\L≠[]/\L.length<=30:=λh=>h4 (woR_e h)
  generalize woR g (mkS [100,101,102,97,117,108,116]) false e4=W at*
  generalize (q0z (mkS [100,101,102,97,117,108,116]) g).isSome=hb at*
  refine⟨λhkl=>⟨λ_=>⟨⟨by omega,by omega⟩,⟨k+1,true⟩,rfl,by show((k+1:Nat):Int)=_;omega,by show k+1<=_;omega,by show _- (k+1)<_;omega⟩,λ_=>⟨by omega,(hat k (by omega) p1 hl1).1,L[k]'(by omega),λq hq=>(hat k (by omega) q hq.2).2,⟨by omega,by omega⟩,⟨k+1,_⟩,rfl,by show((k+1:Nat):Int)=_;omega,by show k+1<=_;omega,by show _- (k+1)<_;omega⟩⟩,λhkl=>⟨⟨λ_=>⟨λ_=>⟨S,rfl,rfl,rfl,rfl,λh=>(q7e (by decide) h).elim⟩,λ_=>⟨trivial,hw⟩⟩,λ_=>⟨trivial,hw⟩⟩,?_⟩⟩
  intro e8 h8
  refine⟨λhz=> ?_,λhz=>⟨⟨e8,(a,L.length,c),L,hb,W.1⟩,by show(if e8=0 then _ else S).length=_;rw[if_neg hz],rfl,by show q00 AT.cells (if e8=0 then _ else S)=_;rw[if_neg hz],h8,λq hq=>hq.2⟩⟩
  obtain⟨z0,z1,z2⟩:=h8 hz
  have hi:=hi1 z0
  obtain⟨m,rfl⟩:=Int.eq_ofNat_of_zero_le hi0
  have hm:m<S.length:=by omega
  have es:symS S (m:Int) (a,L.length,c) L hb W.1=S.set m {S[m]with sy:=(a,L.length,c),sys:=L,hd:=hb,df:=W.1}:=by
   unfold symS;rw[Int.toNat_natCast,List.getElem?_eq_getElem hm]
  have hrl:=q03 q3g S
  simp only[Int.toNat_natCast,qa5,List.length_singleton]
  refine⟨⟨hi0,hi⟩,by omega,⟨hi0,hi⟩,by omega,⟨hi0,hi⟩,by omega,⟨e8,(a,L.length,c),L,hb,W.1⟩,?_,rfl,?_,h8,λq hq=>hq.2⟩
  ·show(if e8=0 then symS S (m:Int) (a,L.length,c) L hb W.1 else S).length=_
   rw[if_pos hz,es,List.length_set]
  ·show q00 AT.cells (if e8=0 then symS S (m:Int) (a,L.length,c) L hb W.1 else S)=_
   rw[if_pos hz,es]
   exact qyf S m hm _ _ _ _
abbrev FdS:=List AT×Int×GJ×Int×ByteArray×Int
abbrev FdB:=List AT×Int×SV×List AF
def qhs(S:List AT) (at_:Int) (x:SV) (l:List AF):List AT:=match S[at_.toNat]? with
 |some a=>S.set at_.toNat {a with f:=x,fs:=l}
 |none=>S
def tfM(T:List AT) (l:List AF):PF:=⟨true,λp=>(∀a∈T,a.ok p)/\∀f∈l,f.ok p,λ_ _ h e=>⟨λa ha=>AT.ok_mono h (e.1 a ha),λf hf=>⟨q0i h (e.2 f hf).1,GJ.ok_mono h (e.2 f hf).2⟩⟩⟩
def q8q:CtR where
 σ:=FdS
 args:=λ⟨S,e,g,i,sp,d⟩=>[.ptr 1 0,g.av, .sv (.int .i64 i), .sv (.string sp), .sv (.int .i64 d)]
 h:=λ⟨S,e,g,i,sp,d⟩=>mkO S e 2 3
 m:=4
 pre:=λ⟨S,e,g,i,sp,d⟩=>S.length<=60/\g.wf/\0<=i/\(e=0->i<S.length)/\1<=d/\d<=20/\(sp.size:Int)<=1100*(d+1)
 mem:=λ⟨S,e,g,i,sp,d⟩=>gM g
 β:=λ_=>FdB
 post:=λ⟨S,e,g,i,sp,d⟩ ⟨T,e',x,fs⟩=>(S++T).length<=60/\(e'=0->e=0/\(∀a∈T,q4k (S++T).length a)/\(∀f∈fs,(0<=f.ty/\f.ty<(S++T).length)/\f.df.wf)/\fs.length<=30)
 pm:=λ_ ⟨T,e',x,fs⟩=>⟨true,λp=>(∀a∈T,a.ok p)/\slP AF.cells x fs p/\∀f∈fs,f.ok p,λ_ _ h e=>⟨λa ha=>AT.ok_mono h (e.1 a ha),q0i h e.2.1,λf hf=>⟨q0i h (e.2.2 f hf).1,GJ.ok_mono h (e.2.2 f hf).2⟩⟩⟩
 r:=λ_ _=> .tup []
 h':=λ⟨S,e,g,i,sp,d⟩ ⟨T,e',x,fs⟩=>mkO ((if e'=0 then qhs S i x fs else S)++T) e' 4 5
 m':=6
def muFd:FdS->Nat:=λ⟨S,e,g,i,sp,d⟩=>(25- d).toNat
def mkEh(h:T AO) (e:Int):List (Nat×AO):=match h.get 1 with
 |some (.cells a b c [sl,_])=>[(1, .cells a b c [sl, .sv (.int .i64 e)])]
 |_=>[]
def fdN:ByteArray:=mkS [102,105,101,108,100,115]
def fdJ(g:GJ):GJ:=(q0z fdN g).getD zJ
abbrev FlS:=Nat×Int×List AT×List AF
def qwl(S:List AT) (e:Int) (g:GJ):FlS->Prop:=λ⟨i,e',T,fs⟩=>i<=(fdJ g).l.length/\fs.length<=i/\(S++T).length<=60/\(e'=0->e=0/\(∀a∈T,q4k (S++T).length a)/\(∀f∈fs,(0<=f.ty/\f.ty<(S++T).length)/\f.df.wf))
def qlb:FdS->WayF:=λ⟨S,e,g,i,sp,d⟩=>{
 cut:=λr t h=>match r with
  |15=>some {σ:=Bool,t:=λb=>[(78, .sv (.bool b))],h:=λ_=>[],more:=0,μ:=λ_=>0,keep:=[0,2,3,4,6,10,12,13,14,15]}
  |16=>match mkE h 1 with|none=>none|some e0=>some {σ:=Int,pre:=λe'=>e'=0->e0=0,find:=some λ_ h=>mkE h 1,t:=λ_=>[],h:=λe'=>mkEh h e',more:=0,μ:=λ_=>0,keep:=[0,2,3,4,6,10,12,13,14,15]}
  |24=>match mkE h 1 with|none=>none|some e0=>some {σ:=Int,pre:=λe'=>e'=0->e0=0,find:=some λ_ h=>mkE h 1,t:=λ_=>[],h:=λe'=>mkEh h e',more:=0,μ:=λ_=>0,keep:=[0,2,3,4,6,10,12,13,14,15,17]}
  |_=>none
 ann:=λid t h=>match id with
  |0=>some {σ:=FlS,pre:=qwl S e g,mem:=λ⟨i,e',T,fs⟩=>tfM T fs,t:=λ⟨i,e',T,fs⟩=>[(13, .sv (.int .i64 (i:Int))),(12, .ssl 9 0 fs.length 9 10)],h:=λ⟨i,e',T,fs⟩=>mkO (S++T) e' 7 8++[(9, .row 57 0 (q00 AF.cells fs))],more:=4,μ:=λ⟨i,e',T,fs⟩=>(fdJ g).l.length- i,keep:=[0,2,3,4,6,10],del:=[2]}
  |2=>match mkE h 1 with|none=>none|some e0=>some {σ:=Nat×Int,pre:=λ⟨k,e'⟩=>e'=0->e0=0,t:=λ⟨k,e'⟩=>[(16, .sv (.int .i64 (k:Int)))],h:=λ⟨k,e'⟩=>mkEh h e',more:=0,μ:=λ⟨k,e'⟩=>100- k,keep:=[0,2,3,4,6,10,12,13,14,15]}
  |_=>match mkE h 1 with|none=>none|some e0=>some {σ:=Nat×Int,pre:=λ⟨k,e'⟩=>e'=0->e0=0,t:=λ⟨k,e'⟩=>[(19, .sv (.int .i64 (k:Int)))],h:=λ⟨k,e'⟩=>mkEh h e',more:=0,μ:=λ⟨k,e'⟩=>2000- k,keep:=[0,2,3,4,6,10,12,13,14,15]}
 pub:=λi k=>match i,k with
  |34,9=>[165]
  |_,_=>[]}
end
end Go.Proofs.Ytpanaicglidfjaa.Wd
