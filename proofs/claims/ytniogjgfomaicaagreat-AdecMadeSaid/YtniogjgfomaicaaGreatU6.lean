/-
  The machine with unknown values: questions reckoned out of the code. No condition but what its theorems ask.
-/
import Derived.Test.YtniogjgfomaicaaGreatU5
import Derived.Laws.Strings
import Derived.Laws.Cover4
import Derived.Laws.IdiomStrings
import Derived.Laws.StructEq
import Derived.Maps.RangeRun
namespace Go.Proofs.YtniogjgfomaicaaGreat.Sen
open Go.Proofs.YtniogjgfomaicaaGreat.Eng Go.RowKit
set_option linter.defProp false
set_option linter.unusedVariables false
set_option linter.unusedSimpArgs false
noncomputable section
open GL renaming withP_tab->qqr
open GS renaming triv_nil->qzb
open _root_.Array renaming getD_eq_getD_getElem?->qqt,getElem?_append_left->qqu,length_toList->τ,replicate->φ,size_append->qqi,size_replicate->Ω
open _root_.BitVec renaming ofInt->Α
open _root_.Bool renaming and_eq_true->κ,eq_iff_iff->qzm,false->Η,or_eq_false_iff->qq6,true->ρ
open _root_.ByteArray renaming ext->qzd
open _root_.Go.Addr renaming add->qzq
open _root_.Go.Builtin renaming append_->qqp,firstCells->ν,lenOf->qzi,len_->qzl,zeroCells->Ε
open _root_.Go.ByteArray renaming toList_eq->qqy
open _root_.Go.Conv renaming bytesToString->qze,runesFrom->Β
open _root_.Go.Instr renaming checkKey->ω,entryStore->qzh,fieldAt->qzp,findAsking->qqq,findKey->qqh,findNow->qqf,indexAt->Δ,keyThatStays->qza,loadAt->qq1,lookup->Χ,makeSlice->qzj,mapEntry->qqv,mapUpdate->qqs,sameBits->qqb,sameNow->qqg,slice->qqa,sliceAt->Ο,sliceBound->qqo,sliceBounds->ψ,sureAddr->υ
open _root_.Go.IntKind renaming bits->Τ,signed->Λ,wrap->Κ
open _root_.Go.Op renaming equal->qqz,equalIn->Ψ,intArith->qzc,unary->qzs
open _root_.Go.Result renaming andThen->α
open _root_.Go.Sem renaming bind->qqc,run->Μ,run_bind->ι,run_pure->θ
open _root_.Go.Value renaming bool->Θ,int->χ
open _root_.Int renaming eq_ofNat_of_zero_le->qq3
open _root_.List renaming append_assoc->qqk,eq_nil_of_length_eq_zero->π,getElem?_append_left->qqx,getElem?_append_right->qqw,getElem?_eq_getElem->qq0,getElem?_map->qzf,getElem?_toArray->qq4,length_append->ζ,mem_cons_of_mem->Ι,mem_cons_self->Ξ,mem_of_getElem?->qq7,replicate->qzr,take_append_drop->qq5,take_of_length_le->qq2
open _root_.Nat renaming add_assoc->Υ,add_mul->qqd,add_sub_cancel_left->Ζ,add_zero->qzu,beq->ς,ble->Ν,blt->Ρ,blt_eq->Γ,eq_of_beq_eq_true->δ,eq_zero_or_pos->qqj,le_add_right->qzk,le_of_ble_eq_true->η,le_refl->ξ,le_succ->qqe,lt_or_ge->qqn,lt_succ_self->qzn,mul_le_mul_right->qq9,not_lt_zero->qzo,pos_of_ne_zero->qzg,reduceAdd->qzt,sub_zero->qqm,zero_add->qql,zero_le->qq8
open _root_.Option renaming none->ε,some->γ
section
def fnK(A:List Nat) (P:Cl) (fn:Func) (C:Ct) (s:C.σ) (u:T AO):AX->KS:=λx gl t h nx=>match x with
  | .ex _=>False
  | _=>wR A gl t h λgl t h=>match uC P t h fn.results.toList with
    |some rs=>Hj C.m gl (W5 rs) h nx (C.r s) (z7 u) C.m' (C.g s)
    |none=>False
def gl0(tab:T AV):GL:=⟨tab,λ_=>True,λ_ _ _ h=>h,ρ,λ_ _=>trivial⟩
def G_(tab:T AV) (P:Cl) (E:VE) (fuel:Nat) (fn:Func) (c:Code) (C:Ct) (s:C.σ):Prop:=match q0o (C.h s) .e with
  | some u=>match Ρ (C.args s).length jM with
    | true=>match V1 (C.args s) 0 tab with
      | some t0=>match q0o (C.h' s) .e with
        |some A=>Ob (C.pre s)->wP (gl0 tab) (C.mem s) λgl=>vc E P fuel 0 c gl t0 u C.m (fnK E.pubE P fn C s A)
        |none=>False
      |none=>False
    |false=>False
  |none=>False
def qh7 {P:Cl} (hm:P.follows .mixedOrders=ρ) {tab:T AV} {fuel f:Nat} {fn:Func} {c:Code} {C:Ct} {E:C.σ->VE} (hfn:P.funcs[f]? =γ fn) (hc:fn.body=γ c) (hname:(fn.name== "runtime.NumGoroutine")=Η) (ho:∀s,vL P (E s).hs) (hX:∀s,kN P (E s).hx) (hr:∀s,kz P (E s).hr)
    (h0:∀s,(E s).nx0=C.m) (h1m:1<=C.m) (htab:∀I,Jc tab I) (hle:C.m<=C.m') (hn:∀s,(E s).n=(C.args s).length+(fn.ntmps- (C.args s).length)) (hv:∀s,G_ tab P (E s) fuel fn c C s):q4p P f C:=by
  refine⟨hle,h1m,λargs w=> ?_,λs=> ?_⟩
  · have hnn:¬fn.name= "runtime.NumGoroutine" :=(by simpa using hname);simp[callFunc,program,Μ,bind,qqc,pure,hfn,hnn,hc]
  have e:=hv s;unfold G_ at e;split at e;case h_2=>exact e.elim
  rename_i hh0 hp0;split at e;case h_2=>exact e.elim
  rename_i hlen;split at e;case h_2=>exact e.elim
  rename_i t0 ht0;split at e;case h_2=>exact e.elim
  rename_i hh1 hp1;refine⟨hh0,hh1,hp0,hp1,λF I w vs hvs hs low zf hpre hmem fr hz0=> ?_⟩;have hlt:(C.args s).length<jM:=by simpa[Γ]using hlen
  refine calls_of_wp hfn hc (qia (F0:=F) (I0:=I) (w0:=w) hm (ho s) (hX s) (hr s) (by rw[h0 s];exact fr) fuel 0 c (JN (e hpre) (p:=q11 F w) trivial hmem) (F:=F) (I:=I) (by rw[qqr];exact⟨htab I,hz0⟩) ?_ ?_ _ λx ex a' w' hx hp=> ?_)
  · refine⟨λk b hk=> ?_,?_,rfl,hs,low,by rw[qqr];exact⟨htab I,hz0⟩,zf,GL.withP_of trivial hmem⟩
    · have hg:=NX _ _ _ _ ht0 k;rw[hk]at hg;simp only[qzo,if_false,qql,qqm]at hg;split at hg
      · rename_i hlt2;obtain⟨v,g1,g2⟩:=hvs.get k b hg.symm;have hkv:k<vs.length:=(by rw[←hvs.len];exact hlt2);have:((⟨vs⟩:Array Value)++φ (fn.ntmps- (⟨vs⟩:Array Value).size) undef).getD k undef=v:=(by rw[qqt,qqu (by simpa using hkv)];simp[g1]);rw[Zm (by omega),this];exact g2
      · obtain⟨g1,g2⟩:=htab I k b hg.symm;unfold slot;rw[if_neg (by omega)];exact g2
    · rw[qqi,Ω,hn s];show vs.length+(fn.ntmps- vs.length)=_;rw[hvs.len]
  · exact⟨λid _=>rfl,by rw[h0 s];exact ξ _,fr,λs b h=>h,λb h=> .inl h,λb _=>rfl,ξ _, .refl w⟩
  · obtain⟨gl2,t2,h2,nx2,F2,I2,e2,hg2,st2,at2⟩:=hp;have fin:(wR (E s).pubE gl2 t2 h2 λgl t h=>match uC P t h fn.results.toList with
        |some rs=>Hj C.m gl (W5 rs) h nx2 (C.r s) (z7 hh1) C.m' (C.g s)
        |none=>False)->a'.defers=[]/\∃v,(results fn a'.tmps).run P w'= .ok v w'/\∃z I',Ending.returned v= .returned z/\VR I' (C.r s) z/\Grow F I C.m w I' C.m' hh1 w'/\(C.g s).Φ I' (jU F w I' hh1 w'):=λe2=>by
      obtain⟨gl3,t3,h3,F3,htb,e3,st3,at3⟩:=Zn _ e2 st2 at2;split at e3;case h_2=>exact e3.elim
      rename_i rs hrs;have st4:Eng.St tab F3 I2 t3 h3 (E s).n a' w':=⟨st3.tr,st3.size,st3.defers,st3.sim,st3.low,htab I2,st3.zf⟩;obtain⟨v,r1,r2⟩:=q4l (P:=P) st4 hrs;obtain⟨I',q1,q2,q3⟩:=qg6 e3 st3 (by rw[h0 s]at at3;exact at3) r2 low fr;exact⟨st3.defers,v,r1,v,I',rfl,q1,q2,q3⟩
    cases x with
    |ex i=>exact e2.elim
    | nrm=>
      cases ex<;>simp only[AX.is]at hx;exact fin e2
    | rt=>
      cases ex<;>simp only[AX.is]at hx;exact fin e2
end
section
mutual
def zk(σ:Nat->Nat):AV->AV
 | .tsl k=> .tsl (σ k)
 | .tpt k=> .tpt (σ k)
 | .tmap k=> .tmap (σ k)
 | .ifc t a=> .ifc t (zk σ a)
 | .agg l=> .agg (renL σ l)
 | .tup l=> .tup (renL σ l)
 | .fn f l=> .fn f (renL σ l)
 | .bfn f l m=> .bfn f (renL σ l) (renL σ m)
 | .bool b=> .bool b
 | .int k n=> .int k n
 | .str s=> .str s
 | .nilp=> .nilp
 | .ptr a b=> .ptr (σ a) b
 | .nsl=> .nsl
 | .sl a b c d=> .sl (σ a) b c d
 | .gsl a b c d=> .gsl (σ a) b c d
 | .nmap=> .nmap
 | .map a=> .map (σ a)
 | .nilf=> .nilf
 | .nili=> .nili
 | .ifo=> .ifo
 | .anyi k=> .anyi k
 | .lin k c l=> .anyi k
 | .sv v=> .sv v
 | .ssl a b c d k=> .ssl (σ a) b c d (σ k)
 | .msl a b c=> .msl (σ a) b c
 | .usl a b c d=> .usl (σ a) b c d
 | .sptr a b=> .sptr (σ a) b
def renL(σ:Nat->Nat):List AV->List AV
 | []=>[]
 |a::l=>zk σ a::renL σ l
end
section
variable {I J:In} {σ:Nat->Nat}
mutual
def WW(hx:∀j x,J j=γ x->I (σ j)=γ x):∀{a v},VR J a v->VR I (zk σ a) v
 |_,_, .tsl h=>by unfold zk;exact .tsl (hx _ _ h)
 |_,_, .tpt h=>by unfold zk;exact .tpt (hx _ _ h)
 |_,_, .tmap h=>by unfold zk;exact .tmap (hx _ _ h)
 |_,_, .ifc h=>by unfold zk;exact .ifc (WW hx h)
 |_,_, .agg h=>by unfold zk;exact .agg (renL_ok hx h)
 |_,_, .tup h=>by unfold zk;exact .tup (renL_ok hx h)
 |_,_, .fn h=>by unfold zk;exact .fn (renL_ok hx h)
 |_,_, .bfn u h=>by unfold zk;exact .bfn (renL_ok hx u) (renL_ok hx h)
 |_,_, .bool b=>by unfold zk;exact .bool b
 |_,_, .int k n=>by unfold zk;exact .int k n
 |_,_, .str l=>by unfold zk;exact .str l
 |_,_, .nilp=>by unfold zk;exact .nilp
 |_,_, .ptr h=>by unfold zk;exact .ptr (hx _ _ h)
 |_,_, .nsl=>by unfold zk;exact .nsl
 |_,_, .sl h=>by unfold zk;exact .sl (hx _ _ h)
 |_,_, .gsl h u A B=>by unfold zk;exact .gsl (hx _ _ h) u A B
 |_,_, .nmap=>by unfold zk;exact .nmap
 |_,_, .map h=>by unfold zk;exact .map (hx _ _ h)
 |_,_, .nilf=>by unfold zk;exact .nilf
 |_,_, .nili=>by unfold zk;exact .nili
 |_,_, .ifo=>by unfold zk;exact .ifo
 |_,_, .anyi=>by unfold zk;exact .anyi
 |_,_, .lin h=>by unfold zk;exact .anyi
 |_,_, .sv v=>by unfold zk;exact .sv v
 |_,_, .ssl h u A B C hd=>by unfold zk;exact .ssl (hx _ _ h) u A B (hx _ _ C) hd
 |_,_, .msl h A B=>by unfold zk;exact .msl (hx _ _ h) A B
 |_,_, .usl h u A B=>by unfold zk;exact .usl (hx _ _ h) u A B
 |_,_, .usl0 h=>by unfold zk;exact .usl0 h
 |_,_, .ssl0 h C hd=>by unfold zk;exact .ssl0 h (hx _ _ C) hd
 |_,_, .sptr h=>by unfold zk;exact .sptr (hx _ _ h)
def renL_ok(hx:∀j x,J j=γ x->I (σ j)=γ x):∀{l vs},VRs J l vs->VRs I (renL σ l) vs
 |_,_, .nil=>by unfold renL;exact .nil
 |_,_, .cons h t=>by unfold renL;exact .cons (WW hx h) (renL_ok hx t)
end
end
def Zw(σ:Nat->Nat):List (Value×AV×Nat)->List (Value×AV×Nat)
 | []=>[]
 | (k,a,n)::l=>(k,zk σ a,n)::Zw σ l
def y5(σ:Nat->Nat):AO->AO
 | .cells e fz g l=> .cells e fz g (renL σ l)
 | .map es c=> .map (Zw σ es) c
 | .row e fz vs=> .row e fz vs
 | .mrow es c=> .mrow es c
 | .iter m s l c=> .iter (σ m) s l c
def qbo{I J:In} {σ:Nat->Nat} (hx:∀j x,J j=γ x->I (σ j)=γ x):∀{l ms},MR J l ms->MR I (Zw σ l) ms
 |_,_, .nil=> .nil
 |_,_, .cons h t=> .cons (WW hx h) (qbo hx t)
def qbp{I J:In} {σ:Nat->Nat} (hx:∀j x,J j=γ x->I (σ j)=γ x) {t o ob} (h:OR J t o ob):OR I t (y5 σ o) ob:=by
 cases h with
 |cells h C hp A u B=>exact .cells (renL_ok hx h) C hp A u B
 |map h=>exact .map (qbo hx h)
 |row hp A u=>exact .row hp A u
 |mrow=>exact .mrow
 |iter h hp=>exact .iter (hx _ _ h) hp
def qkl(σ:Nat->Nat) (g:GS):GS:=match g with
 |none=>ε
 |some d=>γ ⟨d.β,d.ks.map σ,d.pre,d.mem⟩
def ky(nx:Nat) (l:List (Nat×Nat)) (j:Nat):Nat:=match j with
  |0=>0
  | j+1=>match assoc (j+1) l with
    |some i=>i
    |none=>nx+(j+1)
def Vd(σ:Nat->Nat) (nx m m':Nat) (h:T AO):List (Nat×AO)->Prop->Prop
  | [],K=>K
  | (i,o)::l,K=>tB (o.rw) (match h.get (σ i)with
    |some b=>eO σ m o b (Vd σ nx m m' h l K)
    |none=>tB (Ν nx (σ i)&&Ρ (σ i) (nx+m')) (Vd σ nx m m' h l K))
def VN{σ:Nat->Nat} {I:In} (z:I 0=γ (0,0,0)) {nx m m':Nat} {h:T AO} (fr:∀i,nx<=i->i<nx+m'->I i=ε):∀{l:List (Nat×AO)} {K:Prop},Vd σ nx m m' h l K->(∀i o,(i,o)∈l->o.rw=ρ/\(I (σ i)=ε\/∃b,h.get (σ i)=γ b/\(∀t ob,OR I t b ob->OR (za m σ I) t o ob)/\b.rw=ρ))/\K
  | [],K,e=>⟨λk a h=>(by cases h),e⟩
  | (i, o)::l,K,e=>by
    simp only[Vd]at e;obtain⟨e0,e⟩:=qT e;split at e
    · rename_i b U;obtain⟨u,B,O,C⟩:=qh3 (I:=I) z e;obtain⟨G,H⟩:=VN z fr C;exact⟨λJ A hm=>by
        cases hm with
        |head=>exact⟨e0, .inr ⟨b,U,u,B e0⟩⟩
        |tail _ hm=>exact G J A hm,H⟩
    · obtain⟨u,C⟩:=qT e;obtain⟨G,H⟩:=VN z fr C;simp only[κ]at u;exact⟨λJ A hm=>by
        cases hm with
        |head=>exact⟨e0, .inl (fr _ (η u.1) (by simpa[Γ]using u.2))⟩
        |tail _ hm=>exact G J A hm,H⟩
def VQ(σ:Nat->Nat):List (Nat×AO)->T AO->Option (T AO)
  | [],h=>γ h
  | (i,_)::l,h=>match T.put 64 (σ i) ε h with
    |some h'=>VQ σ l h'
    |none=>ε
def NU{σ:Nat->Nat}:∀{l:List (Nat×AO)} {h h':T AO},VQ σ l h=γ h'->∀k o,h'.get k=γ o->h.get k=γ o/\∀i q,(i,q)∈l->σ i≠k
  | [],h,h',e,k,o,A=>by simp[VQ]at e;subst e;exact⟨A,λi q hm=>by cases hm⟩
  | (i, q)::l,h,h',e,k,o,A=>by
    simp only[VQ]at e;split at e
    · rename_i J hp;obtain⟨u,C⟩:=NU e k o A;rw[T.get_put _ _ _ _ _ hp]at u;split at u
      · cases u
      · rename_i B;exact⟨u,λi' H hm=>by
          cases hm with
          |head=>exactλG=>B G.symm
          |tail _ hm=>exact C i' H hm⟩
    · cases e
def vt(σ:Nat->Nat):List (Nat×AO)->T AO->Option (T AO)
  | [],h=>γ h
  | (i,o)::l,h=>match o.rw with
    | true=>match T.put 64 (σ i) (γ (y5 σ o)) h with
      |some h'=>vt σ l h'
      |none=>ε
    |false=>ε
def Ix {σ:Nat->Nat}:∀{l:List (Nat×AO)} {h h':T AO},vt σ l h=γ h'->∀k o,h'.get k=γ o->h.get k=γ o\/∃i q,(i,q)∈l/\k=σ i/\o=y5 σ q/\q.rw=ρ
  | [],h,h',e,k,o,A=>by simp[vt]at e;subst e;exact .inl A
  | (i, q)::l,h,h',e,k,o,A=>by
    simp only[vt]at e;split at e
    · rename_i C;split at e
      · rename_i J hp;rcases Ix e k o A with u|⟨i',H,u,G⟩
        · rw[T.get_put _ _ _ _ _ hp]at u;split at u
          · rename_i B;cases u;exact .inr ⟨i,q,by simp,B,rfl,C⟩
          · exact .inl u
        · exact .inr ⟨i',H,by simp[u],G⟩
      · cases e
    · cases e
def WX(nx m:Nat):List (Nat×Nat)->Bool
  | []=>ρ
  | (i,j)::l=>match Ρ i m&&Ρ j nx with
    |true=>WX nx m l
    |false=>Η
def N8{nx m:Nat}:∀{l:List (Nat×Nat)},WX nx m l=ρ->∀i j,assoc i l=γ j->i<m/\j<nx
  | [],_,i,j,h=>by cases h
  | (a, b)::l,h,i,j,e=>by
    simp only[WX]at h;split at h
    · rename_i u;simp only[κ]at u;simp only[assoc]at e;split at e
      · rename_i A;cases e;have:=δ A;subst this;exact⟨by simpa[Γ]using u.1,by simpa[Γ]using u.2⟩
      · exact N8 h i j e
    · cases h
def Zq(nx:Nat):List (Nat×AO)->Bool
  | []=>ρ
  | (i,_)::l=>match Ρ i nx with
    |true=>Zq nx l
    |false=>Η
def WG{nx:Nat}:∀{l:List (Nat×AO)},Zq nx l=ρ->∀i o,(i,o)∈l->i<nx
  | [],_,i,o,h=>by cases h
  | (j,q)::l,h,i,o,hm=>by
    simp only[Zq]at h;split at h
    · rename_i u;cases hm with
      |head=>simpa[Γ]using u
      |tail _ hm=>exact WG h i o hm
    · cases h
def Ud (C : Ct) (gl:GL) (args:List AV) (h:T AO) (nx:Nat) (K:KK) (s:C.σ):Prop:=match q0o (C.h s) .e with
  | some B =>match q0o (C.h' s) .e with
    | some A =>match z7 B with
      | u => match wO 0 h u (VZ 0 (C.args s) args [])with
        | l =>match WX nx C.m l&&(JY (ky nx l) u []&&(Zq nx (z7 h)&&Zq C.m' (z7 A)))with
          | true=>Vf (ky nx l) C.m (C.args s) args (Vd (ky nx l) nx C.m C.m' h u (Ob (C.pre s)/\QA gl (C.mem s) (match VQ (ky nx l) u h with
            | some G=>match vt (ky nx l) (z7 A) G with
              |some H=>K .s (zk (ky nx l) (C.r s)) ε H (nx+C.m') (qkl (ky nx l) (C.g s))
              |none=>False
            |none=>False)))
          |false=>False
    |none=>False
  |none=>False
def Hl(C:Ct) (gl:GL) (args:List AV) (h:T AO) (nx:Nat) (K:KK):Prop:=match C.sel with
  | some g=>match g args h with
    |some s=>∃b:s.β,Ud C gl args h nx K (s.f b)
    |none=>False
  | none=>match C.find with
    |none=>∃s:C.σ,Ud C gl args h nx K s
    | some f=>match f args h with
      |some s=>Ud C gl args h nx K s
      |none=>False
def qgd{C:Ct} {gl:GL} {args:List AV} {h:T AO} {nx:Nat} {K:KK} (e:Hl C gl args h nx K):∃s,Ud C gl args h nx K s:=by
 unfold Hl at e;split at e
 ·split at e
  ·obtain⟨b,e⟩:=e;exact⟨_,e⟩
  ·exact e.elim
 ·split at e
  ·exact e
  ·split at e
   ·exact⟨_,e⟩
   ·exact e.elim
end
section
def qge{P:Cl} {f:Nat} {C:Ct} (hC:q4p P f C) {gl:GL} {args:List AV} {h:T AO} {nx:Nat} {K:KK} (e:Hl C gl args h nx K) (hnx:1<=nx):
    ∃ r h' nx' g,K .s r ε h' nx' g/\nx<=nx'/\∀(F:Bool->Nat->Prop) (I:In) (w:World) (vs:List Value),VRs I args vs->Sim F I h w->(∀b,F ρ b->b<w.heap.size)->(∀b,F Η b->F ρ b)->gl.pf (q11 F w)->vJ I nx nx'->I 0=γ (0,0,0)->
      Calls P f ⟨vs⟩ w λe w'=>∃z G,e= .returned z/\VR G r z/\Grow F I nx w G nx' h' w'/\g.Φ G (jU F w G h' w'):=by
  obtain⟨hmm,hm1,_,hC⟩:=hC;obtain⟨s,e⟩:=qgd e;unfold Ud at e;obtain⟨h0,h1,hp0,hp1,hC⟩:=hC s;rw[hp0]at e;simp only at e;rw[hp1]at e;simp only at e;generalize wO 0 h (z7 h0) (VZ 0 (C.args s) args [])=l at e;split at e;case h_2=>exact e.elim
  rename_i U;simp only[κ]at U;obtain⟨hv,hi,hk,hk1⟩:=U;have hsig:∀j,0<j->ky nx l j=(match assoc j l with|some i=>i|none=>nx+j):=λj hj=>by
    cases j with
    |zero=>omega
    |succ j=>rfl
  have hsig0:ky nx l 0=0:=rfl;have hval:=N8 hv;generalize hσ:ky nx l=σ at e hi;have sig0:σ 0=0:=by rw[←hσ];rfl
  have sig1:∀j,C.m<=j->σ j=nx+j:=λj hj=>by
    rw[←hσ,hsig j (by omega)];cases ha:assoc j l with
    |none=>rfl
    |some i=>have:=(hval j i ha).1;omega
  have sig2:∀j,σ j<nx\/σ j=nx+j:=λj=>by
    rcases qqj j with rfl|hj
    · rw[sig0];exact .inl (by omega)
    rw[←hσ,hsig j hj];cases ha:assoc j l with
    |none=>exact .inr rfl
    |some i=>exact .inl (hval j i ha).2
  have keys:=WG hk;have keys1:=WG hk1;obtain⟨_,inj⟩:=WS hi;have e0:=e;have e1:=VP (I:=λi=>if i=0 then γ (0,0,0)else ε) rfl e;obtain⟨_,e⟩:=e1;obtain⟨_,e⟩:=VN (I:=λi=>if i=0 then γ (0,0,0)else ε) rfl (λi h _=>if_neg (by omega)) e;obtain⟨hpre,e⟩:=e;obtain⟨hpf,e⟩:=WU e;split at e;case h_2=>exact e.elim
  rename_i h2 hp2;split at e;case h_2=>exact e.elim
  rename_i h3 hp3;refine⟨_,_,_,_,e,qzk _ _,?_⟩;intro F I w vs hvs hs low zf hpfw fr hz;obtain⟨hargs,e'⟩:=VP (I:=I) hz e0;obtain⟨V,_⟩:=VN (I:=I) hz (λi a b=>fr i a b) e';have A:=NU hp2
  let Fc:Bool->Nat->Prop:=λs x=>match s with
    |true=>F ρ x\/∃id o t,h2.get id=γ o/\I id=γ (x,t)
    |false=>F Η x
  have sc:Sim Fc (za C.m σ I) h0 w:=by
    refine⟨λid o b t g u=> ?_,λid Z o o' b t t' g g' u hI'=> ?_,λid o b t g u hf=> ?_⟩
    · obtain⟨_,Y⟩:=jT u;rcases(V id o (jg g)).2 with H|⟨b2,H,h6,_⟩
      · rw[H]at Y;cases Y
      · obtain⟨ob,B,J⟩:=hs.obj _ _ _ _ H Y;exact⟨ob,B,h6 _ _ J⟩
    · obtain⟨_,Y⟩:=jT u;obtain⟨_,hJ'⟩:=jT hI';rcases(V id o (jg g)).2 with H|⟨b2,H,h6,_⟩
      · rw[H]at Y;cases Y
      rcases(V Z o' (jg g')).2 with h5'|⟨b2',h5',h6',_⟩
      · rw[h5']at hJ';cases hJ'
      exact inj _ _ _ _ (jg g) (jg g') (hs.inj _ _ _ _ _ _ _ H h5' Y hJ')
    · obtain⟨_,Y⟩:=jT u;rcases(V id o (jg g)).2 with H|⟨b2,H,h6,h7⟩
      · rw[H]at Y;cases Y
      rcases hf with hf|⟨Z,o',t',q1,q2⟩
      · have:=(hs.fr _ _ _ _ H Y hf).1;rw[h7]at this;cases this
      · obtain⟨r1,r2⟩:=A _ _ q1;have:=hs.inj _ _ _ _ _ _ _ r1 H q2 Y;exact absurd this.symm (r2 _ _ (jg g))
  have lowc:∀b,Fc ρ b->b<w.heap.size:=λb U=>by
    rcases U with U|⟨id,o,t,q1,q2⟩
    · exact low b U
    · obtain⟨ob,B,_⟩:=hs.obj _ _ _ _ (A _ _ q1).1 q2;exact(Array.getElem?_eq_some_iff.1 B).1
  have frc:∀i,C.m<=i->za C.m σ I i=none:=λi hi=>by
    cases hr:za C.m σ I i with
    |none=>rfl
    |some y=>have:=(jT hr).1;omega
  have pfc:(C.mem s).ok (q11 Fc w):=hpf _ hpfw;have hz':za C.m σ I 0=γ (0,0,0):=by unfold za;rw[show Ρ 0 C.m=ρ by simp[Γ];omega];simp only;rw[sig0];exact hz
  refine(hC Fc (za C.m σ I) w vs (hargs vs hvs) sc lowc (λb U=> .inl (zf b U)) hpre pfc frc hz').mono λen w' he=> ?_;obtain⟨z,I1,rfl,hz,g,hgh⟩:=he
  let G:In:=λid=>if nx+C.m<=id/\id<nx+C.m' then I1 (id- nx)else I id
  have hle:I.le G:=λid x hx=>by
    simp only[G];split
    · rename_i hh;rw[fr id (by omega) hh.2]at hx;cases hx
    · exact hx
  have dom1:∀j x,I1 j=γ x->j<C.m':=λj x hx=>by
    rcases g.new j x hx with O|O
    · have:=(jT O).1;omega
    · exact O.2
  have hx:∀j x,I1 j=γ x->G (σ j)=γ x:=λj x hj=>by
    have hd:=dom1 j x hj;rcases qqn j C.m with X|X
    · rcases g.new j x hj with O|O
      · exact hle _ _ (jT O).2
      · omega
    · rw[sig1 j X];simp only[G];rw[if_pos (by omega),Ζ];exact hj
  have part:∀id o b t,h3.get id=γ o->G id=γ (b,t)->(∃j q,h1.get j=γ q/\id=σ j/\o=y5 σ q/\q.rw=ρ/\I1 j=γ (b,t))\/(h2.get id=γ o/\I id=γ (b,t)):=λid o b t hg u=>by
    rcases Ix hp3 id o hg with O|⟨j,q,O,H,h6,h7⟩
    · refine .inr ⟨O,?_⟩;have:=keys id o (jg (A _ _ O).1);simp only[G]at u;rw[if_neg (by omega)]at u;exact u
    · refine .inl ⟨j,q,F9 O,H,h6,h7,?_⟩;have hjm':=keys1 j q O;subst H;rcases qqn j C.m with X|X
      · rcases sig2 j with h8|h8
        · simp only[G]at u;rw[if_neg (by omega)]at u;refine g.le _ _ ?_;unfold za;rw[show Ρ j C.m=ρ by simpa[Γ]using X];exact u
        · simp only[G]at u;rw[h8,if_neg (by omega),fr _ (by omega) (by omega)]at u;cases u
      · rw[sig1 j X]at u;simp only[G]at u;rw[if_pos (by omega),Ζ]at u;exact u
  have hgr:Grow F I nx w G (nx+C.m') h3 w':=by
    refine⟨hle,λi x hi=> ?_,⟨λid o b t hg u=> ?_,λid Z o o' b t t' hg hg' u hI'=> ?_,λid o b t hg u hf=> ?_⟩,λb U=>g.fr b (.inl U),g.size,g.same⟩
    · simp only[G]at hi;split at hi
      · exact .inr ⟨by omega,by omega⟩
      · exact .inl hi
    · rcases part id o b t hg u with⟨j,q,B,J,k3,k4,k5⟩|⟨B,J⟩
      · obtain⟨ob,r1,r2⟩:=g.sim.obj _ _ _ _ B k5;exact⟨ob,r1,by rw[k3];exact qbp hx r2⟩
      · obtain⟨ob,r1,r2⟩:=hs.obj _ _ _ _ (A _ _ B).1 J;exact⟨ob,(g.fr b (.inr ⟨id,o,t,B,J⟩)).trans r1,r2.mono hle⟩
    · rcases part id o b t hg u with⟨j,q,B,J,k3,k4,k5⟩|⟨B,J⟩<;>rcases part Z o' b t' hg' hI' with⟨j',q',k1',k2',k3',k4',k5'⟩|⟨k1',k2'⟩
      · rw[J,k2',g.sim.inj _ _ _ _ _ _ _ B k1' k5 k5']
      · have:=(g.sim.fr _ _ _ _ B k5 (.inr ⟨Z,o',t',k1',k2'⟩)).1;rw[k4]at this;cases this
      · have:=(g.sim.fr _ _ _ _ k1' k5' (.inr ⟨id,o,t,B,J⟩)).1;rw[k4']at this;cases this
      · exact hs.inj _ _ _ _ _ _ _ (A _ _ B).1 (A _ _ k1').1 J k2'
    · rcases part id o b t hg u with⟨j,q,B,J,k3,k4,k5⟩|⟨B,J⟩
      · have:=(g.sim.fr _ _ _ _ B k5 (.inl hf)).1;rw[k4]at this;cases this
      · exact hs.fr _ _ _ _ (A _ _ B).1 J hf
  refine⟨z,G,rfl,WW hx hz,hgr,?_⟩;have hpub:Pub.le (jU Fc w I1 h1 w') (jU F w G h3 w'):=λb ob U=>by
    rw[yW]at U⊢;refine⟨U.1.imp (λh=>h) λ⟨O,H⟩=>⟨λhf=>O (.inl hf),λ⟨id,o,t,q1,q2,q3⟩=> ?_⟩,U.2⟩;rcases part id o b t q1 q3 with⟨j,q,B,J,k3,k4,k5⟩|⟨B,J⟩
    · exact H ⟨j,q,t,B,k4,k5⟩
    · exact O (.inr ⟨id,o,t,B,J⟩)
  have hΦ:=(C.g s).mono _ _ _ _ (In.le_refl I1) hpub hgh;generalize C.g s=gs at hΦ;cases gs with
  |none=>trivial
  | some d=>
    obtain⟨hΦ1,bb,hΦ0,hΦ2⟩:=hΦ;refine⟨λk hk=> ?_,bb,hΦ0,λx hxk=> ?_⟩
    · obtain⟨j,hj,rfl⟩:=List.mem_map.1 hk;obtain⟨y,hy⟩:=hΦ1 j hj;exact⟨y,hx _ _ hy⟩
    · show(d.mem bb ((d.ks.map σ).map x)).ok _;rw[List.map_map];exact hΦ2 (x∘σ) λk y hk hy=>hxk (σ k) y (List.mem_map.2 ⟨k,hk,rfl⟩) (hx _ _ hy)
end
section
abbrev xk:=T AV->Oper->(AV->Prop)->Prop
def Qx(P:Cl) (q:xk):Prop:=∀t o K,q t o K->∃v,QP P t o v/\K v
abbrev Je:=GL->T AV->T AO->Nat->Oper->(AV->T AO->Nat->GS->Prop)->Prop
def W8(P:Cl) (s:Je):Prop:=∀gl t h nx o K,s gl t h nx o K->∃v h' u g,wL gl P t h nx o g v h' u/\K v h' u g
abbrev YX:=T AV->Nat->Oper->(AV->AO->Prop)->Prop
def Ox(P:Cl) (au:YX):Prop:=∀t nx o K,au t nx o K->∃v ob,AP P t nx o v ob/\K v ob
variable {gl:GL} {t:T AV} {h:T AO} {nx:Nat} {o:Oper}
def qj1{P:Cl} {r:AV} {h':T AO} {u:Nat} (e:uH P t h nx o=γ (r,h',u)):wL gl P t h nx o ε r h' u:=by
 refine⟨(qki (gl:= .e) e).1,λF I n a w st fr K Q B=> ?_⟩;obtain⟨_,G,z,A,C,g1,g2,g3,g4⟩:=qef e st.tr st.sim st.low fr;unfold Oper.wp;rw[g1];rcases g2 with rfl|⟨rfl,rfl⟩
 ·exact B z A C g3 g4 trivial
 ·exact B undef A C g3 g4 trivial
def Zi(P:Cl) (rs:jo):jo:=λgl t h o K=>match xL P t h o with
 |some v=>K v
 |none=>rs gl t h o K
def qe1{P:Cl} {rs:jo} (ok:kz P rs):kz P (Zi P rs):=λgl t h o K e=>by
 unfold Zi at e;split at e
 ·rename_i v A;exact⟨v,λF I a w u hs _=>qed A u hs,e⟩
 ·exact ok _ _ _ _ _ e
def hQ(P:Cl) (qs:xk) (t:T AV) (h:T AO) (nx:Nat) (o:Oper) (K:KK):Prop:=match j5 P t o with
 |some v=>K .q v ε h nx ε
 |none=>qs t o λv=>K .q v ε h nx ε
def hS(P:Cl) (ss:Je) (gl:GL) (t:T AV) (h:T AO) (nx:Nat) (o:Oper) (K:KK):Prop:=tB (qI o) (match uH P t h nx o with
 |some (v,h',u)=>K .s v ε h' u ε
 |none=>ss gl t h nx o λv h' u g=>K .s v ε h' u g)
def hA (P:Cl) (t:T AV) (h:T AO) (nx:Nat) (o:Oper) (K:KK) (alt:Prop):Prop:=match uu P t nx o with
  | some (v,ob)=>match ve P o with
    | true=>match qI o with
      | false=>match T.put 64 nx (γ ob) h with
        |some h'=>K .a v (γ ob) h' (nx+1) ε
        |none=>False
      |true=>False
    |false=>False
  |none=>alt
def XU(P:Cl) (au:YX) (t:T AV) (h:T AO) (nx:Nat) (o:Oper) (K:KK):Prop:=tB (ve P o&&Bool.not (qI o)) (au t nx o λv ob=>match T.put 64 nx (γ ob) h with
 |some h'=>K .a v (γ ob) h' (nx+1) ε
 |none=>False)
def Tf(ss:Je) (gl:GL) (t:T AV) (h:T AO) (nx:Nat) (o:Oper) (K:KK):Prop:=tB (qI o) (ss gl t h nx o λv h' u g=>K .s v ε h' u g)
def hC(P:Cl) (calls:Nat->Option Ct) (gl:GL) (t:T AV) (h:T AO) (nx:Nat) (o:Oper) (K:KK):Prop:=tB (qI o) (match WO t o with
  | some (g,l)=>match calls g with
    |some C=>tB (Ν 1 nx) (Hl C gl l h nx K)
    |none=>False
  |none=>False)
def Th (P:Cl) (calls:Nat->Option Ct) (qs:xk) (rs:jo) (ss:Je) (au:YX):jB:=λgl t h nx o K=>match o.op with
  | .load .. | .lookup .. =>Zi P rs gl t h o λv=>K .r v ε h nx ε
  | .alloc _| .box .. | .buildSlice .. | .makeMap .. | .makeSlice .. =>hA P t h nx o K (XU P au t h nx o K)
  | .store .. | .mapUpdate .. | .insert .. | .mapEntry .. | .entryStore .. =>hS P ss gl t h nx o K
  | .convert s d _=>match j5 P t o with
    |some v=>K .q v ε h nx ε
    | none=>match xL P t h o with
      |some v=>K .r v ε h nx ε
      | none=>match ς s d with
        |true=>hS P ss gl t h nx o K
        | false=>hA P t h nx o K (match P.underlying d with
          |some (.slice _)=>XU P au t h nx o K
          | some .string=>match P.underlying s with
            |some (.slice _)=>rs gl t h o λv=>K .r v ε h nx ε
            |_=>qs t o λv=>K .q v ε h nx ε
          |_=>qs t o λv=>K .q v ε h nx ε)
  | .call c=>match c.callee with
    | .builtin .append=>Tf ss gl t h nx o K
    | .builtin .copy=>hS P ss gl t h nx o K
    | .builtin .unsafeString=>hS P ss gl t h nx o K
    | .builtin .len=>match j5 P t o with
      |some v=>K .q v ε h nx ε
      | none=>match xL P t h o with
        |some v=>K .r v ε h nx ε
        |none=>qs t o λv=>K .q v ε h nx ε
    | .builtin _=>hQ P qs t h nx o K
    |_=>hC P calls gl t h nx o K
  |_=>hQ P qs t h nx o K
variable {v:AV}
def KP.mkq{P:Cl} (u:QP P t o v):KP gl P t h nx o .q v ε ε h nx:=⟨rfl,rfl,u,qzb⟩
def KP.mkr{P:Cl} (u:RP gl P t h o v):KP gl P t h nx o .r v ε ε h nx:=⟨rfl,rfl,u,qzb⟩
def KP.mka{P:Cl} {h h':T AO} {ob:AO} (u:AP P t nx o v ob) (A:T.put 64 nx (γ ob) h=γ h') (B:ve P o=ρ) (C:qI o=Η):KP gl P t h nx o .a v (γ ob) ε h' (nx+1):=⟨ob,rfl,u,A,rfl,B,C,qzb⟩
def KP.mks{P:Cl} {h h':T AO} {nx u:Nat} {g:GS} (A:wL gl P t h nx o g v h' u) (B:qI o=ρ):KP gl P t h nx o .s v ε g h' u:=⟨A,B⟩
section
variable {P:Cl} {calls:Nat->Option Ct} {qs:xk} {rs:jo} {ss:Je}
def Told(gl:GL) (P:Cl) (t:T AV) (h:T AO) (nx:Nat) (o:Oper) (K:KK):Prop:=∃k v ob h' u g,KP gl P t h nx o k v ob g h' u/\K k v ob h' u g
def GG{gl t h nx o K} (hq:Qx P qs) (e:qs t o λv=>K .q v ε h nx ε):Told gl P t h nx o K:=by obtain⟨v,u,A⟩:=hq _ _ _ e;exact⟨_,_,_,_,_,_,KP.mkq u,A⟩
def Im{gl t h nx o v} {K:KK} (A:j5 P t o=γ v) (e:K .q v ε h nx ε):Told gl P t h nx o K:=
 ⟨_,_,_,_,_,_,KP.mkq λI a u=>qhx A u,e⟩
def q8n{gl t h nx o v} {K:KK} (A:xL P t h o=γ v) (e:K .r v ε h nx ε):Told gl P t h nx o K:=
 ⟨_,_,_,_,_,_,KP.mkr λF I a w u hs _=>qed A u hs,e⟩
def qbx{gl t h nx o K} (hq:Qx P qs) (e:hQ P qs t h nx o K):Told gl P t h nx o K:=by
 unfold hQ at e;split at e
 ·rename_i v u;exact Im u e
 ·exact GG hq e
def Zo{gl t h nx o K} (hs:W8 P ss) (e:hS P ss gl t h nx o K):Told gl P t h nx o K:=by
 unfold hS at e;obtain⟨e0,e⟩:=qT e;split at e
 ·rename_i v h' u C;exact⟨_,_,_,_,_,_,KP.mks (qj1 C) e0,e⟩
 ·obtain⟨v,h',u,g,A,B⟩:=hs _ _ _ _ _ _ e;exact⟨_,_,_,_,_,_,KP.mks A e0,B⟩
def qdm{gl t h nx o K} (hs:W8 P ss) (e:Tf ss gl t h nx o K):Told gl P t h nx o K:=by unfold Tf at e;obtain⟨e0,e⟩:=qT e;obtain⟨v,h',B,g,u,A⟩:=hs _ _ _ _ _ _ e;exact⟨_,_,_,_,_,_,KP.mks u e0,A⟩
variable {au:YX}
def VC{gl t h nx o K} (B:Ox P au) (e:XU P au t h nx o K):Told gl P t h nx o K:=by
 unfold XU at e;obtain⟨e0,e⟩:=qT e;simp only[κ]at e0;obtain⟨v,ob,A,u⟩:=B _ _ _ _ e;split at u
 ·rename_i h' hp;exact⟨_,_,_,_,_,_,KP.mka A hp e0.1 (by cases C:qI o with
   |false=>rfl
   |true=>rw[C]at e0;exact absurd e0.2 (by decide)),u⟩
 ·exact u.elim
def VI{gl t h nx o K alt} (e:hA P t h nx o K alt) (B:alt->Told gl P t h nx o K):Told gl P t h nx o K:=by
 unfold hA at e;split at e
 ·rename_i v ob G;split at e
  ·rename_i u;split at e
   ·rename_i A;split at e
    ·rename_i h' hp;exact⟨_,_,_,_,_,_,KP.mka (λI a C=>qdt G C) hp u A,e⟩
    ·exact e.elim
   ·exact e.elim
  ·exact e.elim
 ·exact B e
def qgc{gl t h nx o K} (J:∀g C,calls g=γ C->q4p P g C) (e:hC P calls gl t h nx o K):Told gl P t h nx o K:=by
 unfold hC at e;obtain⟨e0,e⟩:=qT e;split at e;case h_2=>exact e.elim
 rename_i g l B;split at e;case h_2=>exact e.elim
 rename_i C hC;have A:=J g C hC;obtain⟨e1,e⟩:=qT e;obtain⟨r,h',X,gs,H,hle,u⟩:=qge A e (η e1);refine⟨_,_,_,_,_,_,KP.mks ⟨hle,λF I n a w st fr Z Q O=> ?_⟩ e0,H⟩;obtain⟨vs,g1,g2⟩:=q4w (P:=P) B st.tr;unfold Oper.wp;rw[g2 w,A.2.2.1];refine(u F I w vs g1 st.sim st.low st.zf st.pf fr st.gok.z).mono λen Y he=> ?_;obtain⟨z,G,rfl,T,U,V⟩:=he;exact O z G Y T U V
def qhb (H:∀g C,calls g=γ C->q4p P g C) (hq:Qx P qs) (hr:kz P rs) (hs:W8 P ss) (A:Ox P au):vL P (Th P calls qs rs ss au):=by
 intro gl t h nx o K e;show Told gl P t h nx o K;have rd:Zi P rs gl t h o (λv=>K .r v ε h nx ε)->Told gl P t h nx o K:=λe=>by obtain⟨v,B,G⟩:=qe1 hr _ _ _ _ _ e;exact⟨_,_,_,_,_,_,KP.mkr B,G⟩
 unfold Th at e;split at e
 ·exact rd e
 ·exact rd e
 ·exact VI e (VC A)
 ·exact VI e (VC A)
 ·exact VI e (VC A)
 ·exact VI e (VC A)
 ·exact VI e (VC A)
 ·exact Zo hs e
 ·exact Zo hs e
 ·exact Zo hs e
 ·exact Zo hs e
 ·exact Zo hs e
 ·split at e
  ·rename_i v u;exact Im u e
  ·split at e
   ·rename_i v u;exact q8n u e
   ·split at e
    ·exact Zo hs e
    ·refine VI e λe=> ?_;split at e
     ·exact VC A e
     ·split at e
      ·obtain⟨v,B,G⟩:=hr _ _ _ _ _ e;exact⟨_,_,_,_,_,_,KP.mkr B,G⟩
      ·exact GG hq e
     ·exact GG hq e
 ·split at e
  ·exact qdm hs e
  ·exact Zo hs e
  ·exact Zo hs e
  ·split at e
   ·rename_i v u;exact Im u e
   ·split at e
    ·rename_i v u;exact q8n u e
    ·exact GG hq e
  ·exact qbx hq e
  ·exact qgc H e
 ·exact qbx hq e
end
end
section
structure CtR where
 σ:Type
 args:σ->List AV
 h:σ->List (Nat×AO)
 m:Nat
 pre:σ->Prop:=λ_=>True
 mem:σ->PF:=λ_=>{}
 find:Option (List AV->T AO->Option σ):=ε
 sel:Option (List AV->T AO->Option (Sel σ)):=ε
 β:σ->Type
 post:(s:σ)->β s->Prop:=λ_ _=>True
 pm:(s:σ)->β s->PF:=λ_ _=>{}
 r:(s:σ)->β s->AV
 h':(s:σ)->β s->List (Nat×AO)
 m':Nat
def q1p(P:Cl) (f:Nat) (C:CtR):Prop:=C.m<=C.m'/\1<=C.m/\Enters P f/\∀s,∃B,q0o (C.h s) .e=γ B/\
 ∀ (F:Bool->Nat->Prop) (I:In) (w:World) (vs:List Value),VRs I (C.args s) vs->Sim F I B w->(∀b,F ρ b->b<w.heap.size)->(∀b,F Η b->F ρ b)->C.pre s->(C.mem s).ok (q11 F w)->(∀i,C.m<=i->I i=ε)->I 0=γ (0,0,0)->
  Calls P f ⟨vs⟩ w λe G=>∃b A,C.post s b/\q0o (C.h' s b) .e=γ A/\∃z u,e= .returned z/\VR u (C.r s b) z/\Grow F I C.m w u C.m' A G/\(C.pm s b).ok (jU F w u A G)
def W6 (C:CtR) (gl:GL) (args:List AV) (h:T AO) (nx:Nat) (K:GL->AV->T AO->Nat->Prop) (s:C.σ):Prop:=match q0o (C.h s) .e with
  | some B =>match z7 B with
    | u => match wO 0 h u (VZ 0 (C.args s) args [])with
      | l =>match WX nx C.m l&&(JY (ky nx l) u []&&Zq nx (z7 h))with
        | true=>Vf (ky nx l) C.m (C.args s) args (Vd (ky nx l) nx C.m C.m' h u (Ob (C.pre s)/\QA gl (C.mem s) (match VQ (ky nx l) u h with
          | some G=>∀b:C.β s,Ob (C.post s b)->match q0o (C.h' s b) .e with
            | some A=>match Zq C.m' (z7 A)with
              | true=>match vt (ky nx l) (z7 A) G with
                |some H=>wP gl (C.pm s b) λgl=>K gl (zk (ky nx l) (C.r s b)) H (nx+C.m')
                |none=>False
              |false=>False
            |none=>False
          |none=>False)))
        |false=>False
  |none=>False
def Hm(C:CtR) (gl:GL) (args:List AV) (h:T AO) (nx:Nat) (K:GL->AV->T AO->Nat->Prop):Prop:=match C.sel with
  | some g=>match g args h with
    |some s=>∃b:s.β,W6 C gl args h nx K (s.f b)
    |none=>False
  | none=>match C.find with
    |none=>∃s:C.σ,W6 C gl args h nx K s
    | some f=>match f args h with
      |some s=>W6 C gl args h nx K s
      |none=>False
def qgf{C:CtR} {gl:GL} {args:List AV} {h:T AO} {nx:Nat} {K:GL->AV->T AO->Nat->Prop} (e:Hm C gl args h nx K):∃s,W6 C gl args h nx K s:=by
 unfold Hm at e;split at e
 ·split at e
  ·obtain⟨b,e⟩:=e;exact⟨_,e⟩
  ·exact e.elim
 ·split at e
  ·exact e
  ·split at e
   ·exact⟨_,e⟩
   ·exact e.elim
def qgg{P:Cl} {f:Nat} {C:CtR} (hC:q1p P f C) {gl:GL} {args:List AV} {h:T AO} {nx:Nat} {K:GL->AV->T AO->Nat->Prop} (e:Hm C gl args h nx K) (hnx:1<=nx):
  ∃ (B:Type) (r:B->AV) (h':B->T AO) (nx':Nat) (pm:B->PF),(∀b,wP gl (pm b) λgl=>K gl (r b) (h' b) nx')/\nx<=nx'/\∀(F:Bool->Nat->Prop) (I:In) (w:World) (vs:List Value),VRs I args vs->Sim F I h w->(∀b,F ρ b->b<w.heap.size)->(∀b,F Η b->F ρ b)->gl.pf (q11 F w)->vJ I nx nx'->I 0=γ (0,0,0)->
   Calls P f ⟨vs⟩ w λe w'=>∃b z J,e= .returned z/\VR J (r b) z/\Grow F I nx w J nx' (h' b) w'/\(pm b).ok (jU F w J (h' b) w'):=by
 obtain⟨hmm,hm1,_,hC⟩:=hC;obtain⟨s,e⟩:=qgf e;unfold W6 at e;obtain⟨h0,hp0,hC⟩:=hC s;rw[hp0]at e;simp only at e;generalize wO 0 h (z7 h0) (VZ 0 (C.args s) args [])=l at e;split at e;case h_2=>exact e.elim
 rename_i X;simp only[κ]at X;obtain⟨hv,hi,hk⟩:=X;have hsig:∀j,0<j->ky nx l j=(match assoc j l with|some i=>i|none=>nx+j):=λj hj=>by
  cases j with
  |zero=>omega
  |succ j=>rfl
 have hsig0:ky nx l 0=0:=rfl;have hval:=N8 hv;generalize hσ:ky nx l=σ at e hi;have sig0:σ 0=0:=by rw[←hσ];rfl
 have sig1:∀j,C.m<=j->σ j=nx+j:=λj hj=>by
  rw[←hσ,hsig j (by omega)];cases ha:assoc j l with
  |none=>rfl
  |some i=>have:=(hval j i ha).1;omega
 have sig2:∀j,σ j<nx\/σ j=nx+j:=λj=>by
  rcases qqj j with rfl|hj
  ·rw[sig0];exact .inl (by omega)
  rw[←hσ,hsig j hj];cases ha:assoc j l with
  |none=>exact .inr rfl
  |some i=>exact .inl (hval j i ha).2
 have keys:=WG hk;obtain⟨_,inj⟩:=WS hi;have e0:=e;have e1:=VP (I:=λi=>if i=0 then γ (0,0,0)else ε) rfl e;obtain⟨_,e⟩:=e1;obtain⟨_,e⟩:=VN (I:=λi=>if i=0 then γ (0,0,0)else ε) rfl (λi h _=>if_neg (by omega)) e;obtain⟨hpre,e⟩:=e;obtain⟨hpf,e⟩:=WU e;split at e;case h_2=>exact e.elim
 rename_i h2 hp2;have hall:∀b: {b:C.β s // C.post s b},∃q:T AO×T AO,q0o (C.h' s b.1) .e=γ q.1/\Zq C.m' (z7 q.1)=ρ/\vt σ (z7 q.1) h2=γ q.2/\wP gl (C.pm s b.1) λgl=>K gl (zk σ (C.r s b.1)) q.2 (nx+C.m'):=λb=>by
  have e:=e b.1 b.2;split at e;case h_2=>exact e.elim
  rename_i h1 hp1;split at e;case h_2=>exact e.elim
  rename_i hk1;split at e;case h_2=>exact e.elim
  rename_i h3 hp3;exact⟨(h1,h3),hp1,hk1,hp3,e⟩
 obtain⟨qf,hqf⟩:=Classical.axiomOfChoice hall;refine⟨{b:C.β s // C.post s b},λb=>zk σ (C.r s b.1),λb=>(qf b).2,nx+C.m',λb=>C.pm s b.1,λb=>(hqf b).2.2.2,qzk _ _,?_⟩;intro F I w vs hvs hs low zf hpfw fr hz;obtain⟨hargs,e'⟩:=VP (I:=I) hz e0;obtain⟨Y,_⟩:=VN (I:=I) hz (λi a b=>fr i a b) e';have G:=NU hp2
 let Fc:Bool->Nat->Prop:=λs x=>match s with
  |true=>F ρ x\/∃id o t,h2.get id=γ o/\I id=γ (x,t)
  |false=>F Η x
 have sc:Sim Fc (za C.m σ I) h0 w:=by
  refine⟨λid o b t g A=> ?_,λid id' o o' b t t' g g' A hI'=> ?_,λid o b t g A hf=> ?_⟩
  ·obtain⟨_,hJ⟩:=jT A;rcases(Y id o (jg g)).2 with O|⟨b2,O,h6,_⟩
   ·rw[O]at hJ;cases hJ
   ·obtain⟨ob,H,U⟩:=hs.obj _ _ _ _ O hJ;exact⟨ob,H,h6 _ _ U⟩
  ·obtain⟨_,hJ⟩:=jT A;obtain⟨_,hJ'⟩:=jT hI';rcases(Y id o (jg g)).2 with O|⟨b2,O,h6,_⟩
   ·rw[O]at hJ;cases hJ
   rcases(Y id' o' (jg g')).2 with h5'|⟨b2',h5',h6',_⟩
   ·rw[h5']at hJ';cases hJ'
   exact inj _ _ _ _ (jg g) (jg g') (hs.inj _ _ _ _ _ _ _ O h5' hJ hJ')
  ·obtain⟨_,hJ⟩:=jT A;rcases(Y id o (jg g)).2 with O|⟨b2,O,h6,h7⟩
   ·rw[O]at hJ;cases hJ
   rcases hf with hf|⟨id',o',t',q1,q2⟩
   ·have:=(hs.fr _ _ _ _ O hJ hf).1;rw[h7]at this;cases this
   ·obtain⟨r1,r2⟩:=G _ _ q1;have:=hs.inj _ _ _ _ _ _ _ r1 O q2 hJ;exact absurd this.symm (r2 _ _ (jg g))
 have lowc:∀b,Fc ρ b->b<w.heap.size:=λb X=>by
  rcases X with X|⟨id,o,t,q1,q2⟩
  ·exact low b X
  ·obtain⟨ob,H,_⟩:=hs.obj _ _ _ _ (G _ _ q1).1 q2;exact(Array.getElem?_eq_some_iff.1 H).1
 have frc:∀i,C.m<=i->za C.m σ I i=none:=λi hi=>by
  cases hr:za C.m σ I i with
  |none=>rfl
  |some y=>have:=(jT hr).1;omega
 have pfc:(C.mem s).ok (q11 Fc w):=hpf _ hpfw;have hz':za C.m σ I 0=γ (0,0,0):=by unfold za;rw[show Ρ 0 C.m=ρ by simp[Γ];omega];simp only;rw[sig0];exact hz
 refine(hC Fc (za C.m σ I) w vs (hargs vs hvs) sc lowc (λb X=> .inl (zf b X)) hpre pfc frc hz').mono λen w' he=> ?_;obtain⟨b,h1,u,hph1,z,I1,rfl,hz,g,hgh⟩:=he;obtain⟨hq1,hk1,hp3,_⟩:=hqf ⟨b,u⟩;generalize hh3:(qf ⟨b,u⟩).2=h3 at hp3;have:(qf ⟨b,u⟩).1=h1:=by have:=hq1.symm.trans hph1;exact Option.some.inj this
 rw[this]at hk1 hp3;clear hq1 this;have keys1:=WG hk1
 let J:In:=λid=>if nx+C.m<=id/\id<nx+C.m' then I1 (id- nx)else I id
 have hle:I.le J:=λid x hx=>by
  simp only[J];split
  ·rename_i hh;rw[fr id (by omega) hh.2]at hx;cases hx
  ·exact hx
 have dom1:∀j x,I1 j=γ x->j<C.m':=λj x hx=>by
  rcases g.new j x hx with V|V
  ·have:=(jT V).1;omega
  ·exact V.2
 have hx:∀j x,I1 j=γ x->J (σ j)=γ x:=λj x hj=>by
  have hd:=dom1 j x hj;rcases qqn j C.m with Z|Z
  ·rcases g.new j x hj with V|V
   ·exact hle _ _ (jT V).2
   ·omega
  ·rw[sig1 j Z];simp only[J];rw[if_pos (by omega),Ζ];exact hj
 have part:∀id o b t,h3.get id=γ o->J id=γ (b,t)->(∃j q,h1.get j=γ q/\id=σ j/\o=y5 σ q/\q.rw=ρ/\I1 j=γ (b,t))\/(h2.get id=γ o/\I id=γ (b,t)):=λid o b t hg A=>by
  rcases Ix hp3 id o hg with V|⟨j,q,V,O,h6,h7⟩
  ·refine .inr ⟨V,?_⟩;have:=keys id o (jg (G _ _ V).1);simp only[J]at A;rw[if_neg (by omega)]at A;exact A
  ·refine .inl ⟨j,q,F9 V,O,h6,h7,?_⟩;have hjm':=keys1 j q V;subst O;rcases qqn j C.m with Z|Z
   ·rcases sig2 j with h8|h8
    ·simp only[J]at A;rw[if_neg (by omega)]at A;refine g.le _ _ ?_;unfold za;rw[show Ρ j C.m=ρ by simpa[Γ]using Z];exact A
    ·simp only[J]at A;rw[h8,if_neg (by omega),fr _ (by omega) (by omega)]at A;cases A
   ·rw[sig1 j Z]at A;simp only[J]at A;rw[if_pos (by omega),Ζ]at A;exact A
 have hgr:Grow F I nx w J (nx+C.m') h3 w':=by
  refine⟨hle,λi x hi=> ?_,⟨λid o b t hg A=> ?_,λid id' o o' b t t' hg hg' A hI'=> ?_,λid o b t hg A hf=> ?_⟩,λb X=>g.fr b (.inl X),g.size,g.same⟩
  ·simp only[J]at hi;split at hi
   ·exact .inr ⟨by omega,by omega⟩
   ·exact .inl hi
  ·rcases part id o b t hg A with⟨j,q,H,U,k3,k4,k5⟩|⟨H,U⟩
   ·obtain⟨ob,r1,r2⟩:=g.sim.obj _ _ _ _ H k5;exact⟨ob,r1,by rw[k3];exact qbp hx r2⟩
   ·obtain⟨ob,r1,r2⟩:=hs.obj _ _ _ _ (G _ _ H).1 U;exact⟨ob,(g.fr b (.inr ⟨id,o,t,H,U⟩)).trans r1,r2.mono hle⟩
  ·rcases part id o b t hg A with⟨j,q,H,U,k3,k4,k5⟩|⟨H,U⟩<;>rcases part id' o' b t' hg' hI' with⟨j',q',k1',k2',k3',k4',k5'⟩|⟨k1',k2'⟩
   ·rw[U,k2',g.sim.inj _ _ _ _ _ _ _ H k1' k5 k5']
   ·have:=(g.sim.fr _ _ _ _ H k5 (.inr ⟨id',o',t',k1',k2'⟩)).1;rw[k4]at this;cases this
   ·have:=(g.sim.fr _ _ _ _ k1' k5' (.inr ⟨id,o,t,H,U⟩)).1;rw[k4']at this;cases this
   ·exact hs.inj _ _ _ _ _ _ _ (G _ _ H).1 (G _ _ k1').1 U k2'
  ·rcases part id o b t hg A with⟨j,q,H,U,k3,k4,k5⟩|⟨H,U⟩
   ·have:=(g.sim.fr _ _ _ _ H k5 (.inl hf)).1;rw[k4]at this;cases this
   ·exact hs.fr _ _ _ _ (G _ _ H).1 U hf
 refine⟨⟨b,u⟩,z,J,rfl,WW hx hz,(show Grow F I nx w J (nx+C.m') (qf ⟨b,u⟩).2 w' from by rw[hh3];exact hgr),?_⟩;show(C.pm s b).ok (jU F w J (qf ⟨b,u⟩).2 w');rw[hh3];have hpub:Pub.le (jU Fc w I1 h1 w') (jU F w J h3 w'):=λb ob X=>by
  rw[yW]at X⊢;refine⟨X.1.imp (λh=>h) λ⟨V,O⟩=>⟨λhf=>V (.inl hf),λ⟨id,o,t,q1,q2,q3⟩=> ?_⟩,X.2⟩;rcases part id o b t q1 q3 with⟨j,q,H,U,k3,k4,k5⟩|⟨H,U⟩
  ·exact O ⟨j,q,t,H,k4,k5⟩
  ·exact V (.inr ⟨id,o,t,H,U⟩)
 exact PF.ok_mono hpub hgh
def XW(P:Cl) (rel:Nat->Option CtR):jC:=λgl t h nx o=>match qI o with
  |false=>ε
  | true=>match WO t o with
    | some (g,l)=>match rel g with
      |some C=>γ λK=>tB (Ν 1 nx) (Hm C gl l h nx K)
      |none=>ε
    |none=>ε
def IX{P:Cl} {rel:Nat->Option CtR} (T:∀g C,rel g=γ C->q1p P g C):kN P (XW P rel):=λgl t h nx o q K hq e=>by
 unfold XW at hq;split at hq
 ·cases hq
 split at hq;case h_2=>cases hq
 rename_i g l G;split at hq;case h_2=>cases hq
 rename_i C hC;cases hq;have A:=T g C hC;obtain⟨e1,e⟩:=qT e;obtain⟨B,r,h',H,pm,O,hle,u⟩:=qgg A e (η e1);refine⟨B,r,h',H,pm,O,hle,λF I n a w st fr K' Q U=> ?_⟩;obtain⟨vs,g1,g2⟩:=q4w (P:=P) G st.tr;unfold Oper.wp;rw[g2 w,A.2.2.1];refine(u F I w vs g1 st.sim st.low st.zf st.pf fr st.gok.z).mono λen Z he=> ?_;obtain⟨b,z,J,rfl,V,X,Y⟩:=he;exact U b z J Z V X Y
def qkf(C:CtR) (s:C.σ) (gl:GL) (r:AV) (h:T AO) (nx:Nat):Prop:=∃b:C.β s,match q0o (C.h' s b) .e with
 |some u=>Ub C.m gl r h nx (C.r s b) (z7 u) C.m' [] QD (Ob (C.post s b)/\QA gl (C.pm s b) True)
 |none=>False
def qkj(u:List Nat) (P:Cl) (fn:Func) (C:CtR) (s:C.σ):AX->KS:=λx gl t h nx=>match x with
  | .ex _=>False
  | _=>wR u gl t h λgl t h=>match uC P t h fn.results.toList with
    |some rs=>qkf C s gl (W5 rs) h nx
    |none=>False
def GY(tab:T AV) (P:Cl) (E:VE) (fuel:Nat) (fn:Func) (c:Code) (C:CtR) (s:C.σ):Prop:=match q0o (C.h s) .e with
  | some u=>match Ρ (C.args s).length jM with
    | true=>match V1 (C.args s) 0 tab with
      |some t0=>Ob (C.pre s)->wP (gl0 tab) (C.mem s) λgl=>vc E P fuel 0 c gl t0 u C.m (qkj E.pubE P fn C s)
      |none=>False
    |false=>False
  |none=>False
def qe0{P:Cl} (hm:P.follows .mixedOrders=ρ) {tab:T AV} {fuel f:Nat} {fn:Func} {c:Code} {C:CtR} {E:C.σ->VE} (hfn:P.funcs[f]? =γ fn) (hc:fn.body=γ c) (hname:(fn.name== "runtime.NumGoroutine")=Η) (ho:∀s,vL P (E s).hs) (hX:∀s,kN P (E s).hx) (hr:∀s,kz P (E s).hr)
    (h0:∀s,(E s).nx0=C.m) (h1m:1<=C.m) (htab:∀I,Jc tab I) (hle:C.m<=C.m') (hn:∀s,(E s).n=(C.args s).length+(fn.ntmps- (C.args s).length)) (hv:∀s,GY tab P (E s) fuel fn c C s):q1p P f C:=by
  refine⟨hle,h1m,λargs w=> ?_,λs=> ?_⟩
  · have hnn:¬fn.name= "runtime.NumGoroutine" :=(by simpa using hname);simp[callFunc,program,Μ,bind,qqc,pure,hfn,hnn,hc]
  have e:=hv s;unfold GY at e;split at e;case h_2=>exact e.elim
  rename_i hh0 hp0;split at e;case h_2=>exact e.elim
  rename_i hlen;split at e;case h_2=>exact e.elim
  rename_i t0 ht0;refine⟨hh0,hp0,λF I w vs hvs hs low zf hpre hmem fr hz0=> ?_⟩;have hlt:(C.args s).length<jM:=by simpa[Γ]using hlen
  refine calls_of_wp hfn hc (qia (F0:=F) (I0:=I) (w0:=w) hm (ho s) (hX s) (hr s) (by rw[h0 s];exact fr) fuel 0 c (JN (e hpre) (p:=q11 F w) trivial hmem) (F:=F) (I:=I) (by rw[qqr];exact⟨htab I,hz0⟩) ?_ ?_ _ λx ex a' w' hx hp=> ?_)
  · refine⟨λk b hk=> ?_,?_,rfl,hs,low,by rw[qqr];exact⟨htab I,hz0⟩,zf,GL.withP_of trivial hmem⟩
    · have hg:=NX _ _ _ _ ht0 k;rw[hk]at hg;simp only[qzo,if_false,qql,qqm]at hg;split at hg
      · rename_i hlt2;obtain⟨v,g1,g2⟩:=hvs.get k b hg.symm;have hkv:k<vs.length:=(by rw[←hvs.len];exact hlt2);have:((⟨vs⟩:Array Value)++φ (fn.ntmps- (⟨vs⟩:Array Value).size) undef).getD k undef=v:=(by rw[qqt,qqu (by simpa using hkv)];simp[g1]);rw[Zm (by omega),this];exact g2
      · obtain⟨g1,g2⟩:=htab I k b hg.symm;unfold slot;rw[if_neg (by omega)];exact g2
    · rw[qqi,Ω,hn s];show vs.length+(fn.ntmps- vs.length)=_;rw[hvs.len]
  · exact⟨λid _=>rfl,by rw[h0 s];exact ξ _,fr,λs b h=>h,λb h=> .inl h,λb _=>rfl,ξ _, .refl w⟩
  · obtain⟨gl2,t2,h2,nx2,F2,I2,e2,hg2,st2,at2⟩:=hp;have fin:(wR (E s).pubE gl2 t2 h2 λgl t h=>match uC P t h fn.results.toList with
        |some rs=>qkf C s gl (W5 rs) h nx2
        |none=>False)->a'.defers=[]/\∃v,(results fn a'.tmps).run P w'= .ok v w'/\∃b h1,C.post s b/\q0o (C.h' s b) .e=γ h1/\∃z I',Ending.returned v= .returned z/\VR I' (C.r s b) z/\Grow F I C.m w I' C.m' h1 w'/\(C.pm s b).ok (jU F w I' h1 w'):=λe2=>by
      obtain⟨gl3,t3,h3,F3,htb,e3,st3,at3⟩:=Zn _ e2 st2 at2;split at e3;case h_2=>exact e3.elim
      rename_i rs hrs;have st4:Eng.St tab F3 I2 t3 h3 (E s).n a' w':=⟨st3.tr,st3.size,st3.defers,st3.sim,st3.low,htab I2,st3.zf⟩;obtain⟨v,r1,r2⟩:=q4l (P:=P) st4 hrs;obtain⟨b,e3⟩:=e3;split at e3;case h_2=>exact e3.elim
      rename_i h1 hp1;obtain⟨⟨q0,q4⟩,I',q1,q2,_,q3⟩:=Iz e3 st3 (by rw[h0 s]at at3;exact at3) r2 low fr;exact⟨st3.defers,v,r1,b,h1,q0,hp1,v,I',rfl,q1,q2,PF.ok_mono q3 ((WU q4).1 _ st3.pf)⟩
    cases x with
    |ex i=>exact e2.elim
    | nrm=>
      cases ex<;>simp only[AX.is]at hx;exact fin e2
    | rt=>
      cases ex<;>simp only[AX.is]at hx;exact fin e2
end
section
def gi:AV->Option (IntKind×Int)
 | .int k n=>γ (k,n)
 | .sv (.int k n)=>γ (k,n)
 |_=>ε
variable {k:IntKind} {v:Value}
def vK{I:In} {a:AV} {n:Int} (h:gi a=γ (k,n)) (r:VR I a v):v= .int k n:=by
 unfold gi at h;split at h
 ·cases h;cases r;rfl
 ·cases h;cases r;rfl
 ·cases h
def qae(op:BinOp) (k:IntKind) (x y:Int):Int:=match op with
 | .and=>k.wrap (Α k.bits x&&&Α k.bits y).toNat
 | .or=>k.wrap (Α k.bits x|||Α k.bits y).toNat
 | .xor=>k.wrap (Α k.bits x ^^^ Α k.bits y).toNat
 |_=>k.wrap (Α k.bits x&&& ~~~ Α k.bits y).toNat
def XP(k:IntKind) (r:Int) (K:AV->Prop):Prop:=match k with
 | .i64=>Ob (-9223372036854775808<=r/\r<=9223372036854775807)/\K (.sv (.int .i64 r))
 |k=>K (.sv (.int k (k.wrap r)))
variable {K:AV->Prop}
def qgt{r:Int} (h:XP k r K):K (.sv (.int k (k.wrap r))):=by
 unfold XP at h;split at h
 ·obtain⟨⟨A,B⟩,u⟩:=h;have:IntKind.i64.wrap r=r:=by unfold Κ;simp[Τ,Λ];omega
  rw[this];exact u
 ·exact h
def Hb(k:IntKind) (r:Int) (K:AV->Prop):Prop:=match k with
 | .i64=>∃v:Int,Ob (v=Κ .i64 r)/\K (.sv (.int .i64 v))
 |k=>K (.sv (.int k (k.wrap r)))
def qb9{r:Int} (h:Hb k r K):K (.sv (.int k (k.wrap r))):=by
 unfold Hb at h;split at h
 ·obtain⟨v,u,A⟩:=h;rw[←show v=Κ .i64 r from u];exact A
 ·exact h
def Hi(op:BinOp) (k:IntKind) (x y:Int) (K:AV->Prop):Prop:=match op with
 | .add=>XP k (x+y) K
 | .sub=>XP k (x- y) K
 | .mul=>Hb k (x*y) K
 | .and=>K (.sv (.int k (qae .and k x y)))
 | .or=>K (.sv (.int k (qae .or k x y)))
 | .xor=>K (.sv (.int k (qae .xor k x y)))
 | .andNot=>K (.sv (.int k (qae .andNot k x y)))
 | .eql=>K (.sv (.bool (decide (x=y))))
 | .neq=>K (.sv (.bool (!decide (x=y))))
 | .lss=>K (.sv (.bool (decide (x<y))))
 | .gtr=>K (.sv (.bool (decide (y<x))))
 | .leq=>K (.sv (.bool (decide (x<=y))))
 | .geq=>K (.sv (.bool (decide (y<=x))))
 |_=>False
def qg2{P:Cl} {op:BinOp} {t:TypeId} {x y:Int} (h:Hi op k x y K):∃v,(∀w,(binOp op t (.int k x) (.int k y)).run P w= .ok v w)/\K (.sv v):=by
 cases op<;>simp only[Hi]at h<;>first
  |exact h.elim
  |exact⟨_,λw=>by simp only[binOp,ne_eq,not_true,if_false,qzc,θ],qgt h⟩
  |exact⟨_,λw=>by simp only[binOp,ne_eq,not_true,if_false,qzc,θ],qb9 h⟩
  |exact⟨_,λw=>by simp only[binOp,ne_eq,not_true,if_false,Op.intBits,θ];rfl,h⟩
  |exact⟨_,λw=>by simp only[binOp,ne_eq,not_true,if_false,Op.intCmp,θ];rfl,h⟩
def gb:AV->Option Bool
 | .bool b=>γ b
 | .sv (.bool b)=>γ b
 |_=>ε
def W2{I:In} {a:AV} {b:Bool} (h:gb a=γ b) (r:VR I a v):v= .bool b:=by
 unfold gb at h;split at h
 ·cases h;cases r;rfl
 ·cases h;cases r;rfl
 ·cases h
def GH (P:Cl):xk:=λt o K=>match o.op with
  | .pick c a b=>match ev t c with
    | some (.sv (.bool x))=>match ev t a with
      | some h=>match ev t b with
        |some u=>(Ob (x=ρ)->K h)/\(Ob (x=Η)->K u)
        |none=>False
      |none=>False
    |_=>False
  | .binOp op A x y _=>match ev t x with
    | some a=>match ev t y with
      | some b=>match gi a with
        | some (k,n)=>match gi b with
          | some (j,m)=>match Zh k j with
            | true=>match op with
              | .shl=>False
              | .shr=>False
              |op=>Hi op k n m K
            |false=>False
          |none=>False
        |none=>False
      |none=>False
    |none=>False
  |_=>False
def qhu(P:Cl):Qx P (GH P):=by
  intro t o K e;obtain⟨dst,op,ty,pos,after,guard⟩:=o;cases op with
  | pick c a b=>
    simp only[GH]at e;split at e;case h_2=>exact e.elim
    rename_i x H;split at e;case h_2=>exact e.elim
    rename_i Y C;split at e;case h_2=>exact e.elim
    rename_i Z G;cases x with
    | true=>
      refine⟨Y,λI ac h=> ?_,e.1 rfl⟩;have u:=ql h H;generalize A:ac.eval c=J at u;cases u;exact⟨_,λw=>by simp[execOp,A,asBool,α],ql h C⟩
    | false=>
      refine⟨Z,λI ac h=> ?_,e.2 rfl⟩;have u:=ql h H;generalize A:ac.eval c=J at u;cases u;exact⟨_,λw=>by simp[execOp,A,asBool,α],ql h G⟩
  | binOp op xt x y yt=>
    simp only[GH]at e;split at e;case h_2=>exact e.elim
    rename_i a C;split at e;case h_2=>exact e.elim
    rename_i b G;split at e;case h_2=>exact e.elim
    rename_i k n U;split at e;case h_2=>exact e.elim
    rename_i j m T;split at e;case h_2=>exact e.elim
    rename_i B;have B:=JP B;subst B;have e:Hi op k n m K:=by
      split at e
      · exact e.elim
      · exact e.elim
      · exact e
    obtain⟨v,u,O⟩:=qg2 (P:=P) (t:=xt) e;refine⟨.sv v,λI ac h=> ?_,O⟩;have V:=vK U (ql h C);have X:=vK T (ql h G);refine⟨v,λw=> ?_, .sv v⟩;simp only[execOp,V,X,ι];rw[Zk (by simp) (by simp)];simp[α,u w]
  |_=>exact e.elim
end
section
def bat(s:Ck) (j:Nat):Nat:=(s[j]?.getD 0).toNat
def gs:AV->Option Ck
 | .str l=>γ (mkS l)
 | .sv (.string s)=>γ s
 |_=>ε
def Qv{I:In} {a:AV} {s:Ck} {v:Value} (h:gs a=γ s) (r:VR I a v):v= .string s:=by
 unfold gs at h;split at h
 ·cases h;cases r;rfl
 ·cases h;cases r;rfl
 ·cases h
def Jl(t:T AV):Option Operand->Option (Option (IntKind×Int))
  |none=>γ ε
  | some x=>match ev t x with
    | some a=>match gi a with
      |some p=>γ (γ p)
      |none=>ε
    |none=>ε
def VS{I:In} {t:T AV} {a:Act} (h:TR I t a.tmps) {x:Option Operand} {v} (e:Jl t x=γ v):x.map a.eval=v.map λp=>χ p.1 p.2:=by
  cases x with
  |none=>simp[Jl]at e;subst e;rfl
  | some x=>
    simp only[Jl]at e;split at e
    · rename_i b u;split at e
      · rename_i p hp;cases e;obtain⟨k,n⟩:=p;simp[vK hp (ql h u)]
      · cases e
    · cases e
def W9(len cap:Nat) (lo hi:Option (IntKind×Int)) (K:Nat->Nat->Prop):Prop:=match lo,hi with
 |none,ε=>Ob (len<=cap)/\K 0 len
 |some (_,x),ε=>Ob (0<=x/\x<=(len:Int))/\K x.toNat len
 |none,γ (_,y)=>Ob (0<=y/\y<=(cap:Int))/\K 0 y.toNat
 |some (_,x),γ (_,y)=>Ob (0<=x/\x<=y/\y<=(cap:Int))/\K x.toNat y.toNat
def qag{P:Cl} {b:Bool} {len cap:Nat} {lo hi:Option (IntKind×Int)} {K:Nat->Nat->Prop} (h:W9 len cap lo hi K):∃l u,(∀w,(ψ b len cap (lo.map λp=>χ p.1 p.2) (hi.map λp=>χ p.1 p.2) ε).run P w= .ok (l,u,cap) w)/\K l u:=by
 unfold W9 at h;split at h
 ·exact⟨_,_,λw=>by simp[ψ,α],h.2⟩
 ·rename_i k x;refine⟨_,_,λw=> ?_,h.2⟩;have A:=h.1;simp[ψ,qqo,asIntOf,α,A.1,A.2]
 ·rename_i k y;refine⟨_,_,λw=> ?_,h.2⟩;have A:=h.1;simp[ψ,qqo,asIntOf,α,A.1,A.2]
 ·rename_i k x H y;refine⟨_,_,λw=> ?_,h.2⟩;have A:=h.1;have B:x<=((y.toNat:Nat):Int):=by have:=A.2.1;have:=A.1;omega
  have C:0<=y:=by have:=A.2.1;have:=A.1;omega
  have G:max y 0=y:=by omega
  simp[ψ,qqo,asIntOf,α,A.1,A.2.2,B,C,G,A.2.1]
def Zs (P:Cl):xk:=λt o K=>match o.op with
  | .index A x i=>match P.underlying A with
    | some .string=>match ev t x with
      | some a=>match gs a with
        | some s=>match ev t i with
          | some b=>match gi b with
            |some (_,n)=>Ob (0<=n/\n<(s.size:Int))/\K (.sv (.int .u8 (bat s n.toNat:Nat)))
            |none=>False
          |none=>False
        |none=>False
      |none=>False
    |_=>False
  | .slice A x lo hi ε=>match P.underlying A with
    | some .string=>match ev t x with
      | some a=>match gs a with
        | some s=>match Jl t lo with
          | some l=>match Jl t hi with
            |some h=>W9 s.size s.size l h λl u=>K (.sv (.string (s.extract l u)))
            |none=>False
          |none=>False
        |none=>False
      |none=>False
    |_=>False
  | .call c =>match c.callee with
    | .builtin .len=>match c.argTypes.toList with
      | [ty]=>match P.underlying ty with
        | some .string=>match kJ t c.args.toList with
          | some [a]=>match gs a with
            |some s=>K (.sv (.int .i64 (s.size:Nat)))
            |none=>False
          |_=>False
        |_=>False
      |_=>False
    | .builtin .max=>match kJ t c.args.toList with
      | some [a,b]=>match gi a with
        | some (k,x)=>match gi b with
          |some (j,y)=>K (.sv (.int k (if y>x then y else x)))
          |none=>False
        |none=>False
      |_=>False
    | .builtin .min=>match kJ t c.args.toList with
      | some [a,b]=>match gi a with
        | some (k,x)=>match gi b with
          |some (j,y)=>K (.sv (.int k (if y<x then y else x)))
          |none=>False
        |none=>False
      |_=>False
    |_=>False
  |_=>GH P t o K
def qea(P:Cl):Qx P (Zs P):=by
  intro t o K e;have e0:=e;obtain⟨dst,op,ty,pos,after,guard⟩:=o;cases op with
  | index xt x i=>
    simp only[Zs]at e;split at e;case h_2=>exact e.elim
    rename_i hu;split at e;case h_2=>exact e.elim
    rename_i a A;split at e;case h_2=>exact e.elim
    rename_i s hs;split at e;case h_2=>exact e.elim
    rename_i b H;split at e;case h_2=>exact e.elim
    rename_i k n hn;obtain⟨⟨B,G⟩,h3⟩:=e;refine⟨_,λI ac h=>⟨_,λw=> ?_, .sv _⟩,h3⟩;have T:n.toNat<s.size:=(by omega);have hg:s[n.toNat]? =γ s[n.toNat]:=(by simp[T]);simp only[execOp,Qv hs (ql h A),vK hn (ql h H),Instr.index,asIntOf,ι,θ,α,run_underlying hu,if_pos B,hg,bat,Option.getD_some]
  | slice xt x lo hi mx=>
    cases mx with
    |some m=>exact e.elim
    | none=>
      simp only[Zs]at e;split at e;case h_2=>exact e.elim
      rename_i hu;split at e;case h_2=>exact e.elim
      rename_i a A;split at e;case h_2=>exact e.elim
      rename_i s hs;split at e;case h_2=>exact e.elim
      rename_i l hl;split at e;case h_2=>exact e.elim
      rename_i u hh;obtain⟨l',u',B,G⟩:=qag (P:=P) (b:=Η) e;refine⟨_,λI ac h=>⟨_,λw=> ?_, .sv _⟩,G⟩;have g1:=VS h hl;have g2:=VS h hh;simp[execOp,Qv hs (ql h A),g1,g2,Ο,qqa,run_underlying hu,α,B w]
  | call c=>
    obtain⟨callee,args,Z⟩:=c;cases callee with
    | builtin b=>
      cases b<;>first|exact e.elim|skip
      case max=>
        simp only[Zs]at e;split at e;case h_2=>exact e.elim
        rename_i a b C;split at e;case h_2=>exact e.elim
        rename_i k x A;split at e;case h_2=>exact e.elim
        rename_i j y H;refine⟨_,λI ac h=> ?_,e⟩;obtain⟨u,v,O,B,G⟩:=Uf (vI h C);have X:=vK A B;have Y:=vK H G;subst X Y;have e1:args.map ac.eval= #[.int k x, .int j y]:=(by apply Array.toList_inj.1;simpa using O);refine⟨_,λw=> ?_, .sv _⟩;simp only[execOp,resolve,ι,θ,α,invoke,e1];simp[builtin,Builtin.max_,Builtin.max2,α]
      case min=>
        simp only[Zs]at e;split at e;case h_2=>exact e.elim
        rename_i a b C;split at e;case h_2=>exact e.elim
        rename_i k x A;split at e;case h_2=>exact e.elim
        rename_i j y H;refine⟨_,λI ac h=> ?_,e⟩;obtain⟨u,v,O,B,G⟩:=Uf (vI h C);have X:=vK A B;have Y:=vK H G;subst X Y;have e1:args.map ac.eval= #[.int k x, .int j y]:=(by apply Array.toList_inj.1;simpa using O);refine⟨_,λw=> ?_, .sv _⟩;simp only[execOp,resolve,ι,θ,α,invoke,e1];simp[builtin,Builtin.min_,Builtin.min2,α]
      simp only[Zs]at e;split at e;case h_2=>exact e.elim
      rename_i ty' J;split at e;case h_2=>exact e.elim
      rename_i hu;split at e;case h_2=>exact e.elim
      rename_i a A;split at e;case h_2=>exact e.elim
      rename_i s hs;refine⟨_,λI ac h=> ?_,e⟩;have O:=vI h A;obtain⟨v,U,V⟩:=uG O;have r:=Qv hs V;subst r;refine⟨.int .i64 (s.size:Nat),λw=> ?_, .sv _⟩;have e1:args.map ac.eval= #[.string s]:=(by apply Array.toList_inj.1;simpa using U);obtain⟨tl⟩:=Z;simp only at J;subst J;simp only[execOp,resolve,ι,θ,α,invoke,e1];simp[builtin,qzl,run_underlying hu,α,goInt]
    |_=>exact e.elim
  |_=>exact qhu P _ _ _ e
end
section
def shP(op:BinOp) (k:IntKind) (x y:Int):Int:=match op with
 | .shl=>k.wrap (x*2 ^ min y.toNat k.bits)
 |_=>x.fdiv (2 ^ min y.toNat k.bits)
def qdf(x y:Ck):Bool:=Op.bytesLess x.toList y.toList
def qi4(x y:Ck):(x.toList==y.toList)=decide (x=y):=by
 rw[qqy,qqy];by_cases h:x=y
 ·subst h;simp
 ·have:x.data.toList≠y.data.toList:=λe=>h (qzd (Array.toList_inj.1 e));rw[decide_eq_false h];simpa using this
def OV(op:BinOp) (x y:Ck) (K:AV->Prop):Prop:=match op with
 | .add=>Ob (x.size+y.size<=9223372036854775807)/\K (.sv (.string (x++y)))
 | .eql=>K (.sv (.bool (decide (x=y))))
 | .neq=>K (.sv (.bool (!decide (x=y))))
 | .lss=>K (.sv (.bool (qdf x y)))
 | .leq=>K (.sv (.bool (qdf x y||decide (x=y))))
 | .gtr=>K (.sv (.bool (!(qdf x y||decide (x=y)))))
 | .geq=>K (.sv (.bool (!qdf x y)))
 |_=>False
variable {t:TypeId} {K:AV->Prop}
def qg3{P:Cl} {op:BinOp} {x y:Ck} (h:OV op x y K):∃v,(∀w,(binOp op t (.string x) (.string y)).run P w= .ok v w)/\K (.sv v):=by
 cases op<;>simp only[OV]at h<;>first
  |exact h.elim
  |exact⟨_,λw=>by simp only[binOp,Op.stringOp,qi4];rfl,h⟩
  |skip
 refine⟨_,λw=> ?_,h.2⟩;have u:=h.1;simp only[binOp,Op.stringOp];rw[if_neg (by simp[IntKind.max,Τ,Λ];omega)];rfl
def qht(op:BinOp) (x y:Bool) (K:AV->Prop):Prop:=match op with
 | .eql=>K (.sv (.bool (decide (x=y))))
 | .neq=>K (.sv (.bool (!decide (x=y))))
 |_=>False
def isNil(d:TypeDesc) (a b:AV):Option (Option Addr×Bool):=match d,a,b with
 | .pointer _, .sv (.pointer p), .nilp=>γ (p,ρ)
 | .pointer _, .nilp, .sv (.pointer p)=>γ (p,Η)
 | .slice _, .sv (.slice p _ _), .nsl=>γ (p,ρ)
 | .slice _, .nsl, .sv (.slice p _ _)=>γ (p,Η)
 |_,_,_=>ε
def q86{P:Cl} {I:In} {d:TypeDesc} {a b:AV} {p:Option Addr} {l:Bool} {u v:Value} (hd:P.underlying t=γ d) (h:isNil d a b=γ (p,l)) (A:VR I a u) (B:VR I b v):(∀k n,u≠ .int k n)/\(∀k n,u≠ .float k n)/\(∀k n m,u≠ .complex k n m)/\(∀s,u≠ .string s)/\(u= .nilIface->False)/\(∀c,u= .agg c->False)/\∀w,(qqz t u v).run P w= .ok (decide (p=ε)) w:=by
 unfold isNil at h;have hr:=λw=>run_underlying (P:=P) hd w;split at h;all_goals first| (cases h;done)|skip
 all_goals
  cases h;cases A;cases B;refine⟨by simp,by simp,by simp,by simp,by simp,by simp,λw=>JK hd w _ λn=> ?_⟩
 all_goals
  cases p<;>simp[Ψ,hr,α]
def qkd(d:TypeDesc) (op:BinOp) (a b:AV) (K:AV->Prop):Prop:=match isNil d a b with
  | some (p,_)=>match op with
    | .eql=>K (.sv (.bool (decide (p=ε))))
    | .neq=>K (.sv (.bool (!decide (p=ε))))
    |_=>False
  |none=>False
def Tb(s:IntKind) (d:IntKind) (n:Int) (K:AV->Prop):Prop:=match d,s with
 | .i64, .u64=>K (.sv (.int .i64 (IntKind.i64.wrap n)))
 | .i64,_=>Ob (-9223372036854775808<=n/\n<=9223372036854775807)/\K (.sv (.int .i64 n))
 | .u64, .u8=>Ob (0<=n/\n<=18446744073709551615)/\K (.sv (.int .u64 n))
 | .u64, .u16=>Ob (0<=n/\n<=18446744073709551615)/\K (.sv (.int .u64 n))
 | .u64, .u32=>Ob (0<=n/\n<=18446744073709551615)/\K (.sv (.int .u64 n))
 |d,_=>K (.sv (.int d (d.wrap n)))
def qgz{s d:IntKind} {n:Int} (h:Tb s d n K):K (.sv (.int d (d.wrap n))):=by
 have u: -9223372036854775808<=n/\n<=9223372036854775807->IntKind.i64.wrap n=n:=λh=>by unfold Κ;simp[Τ,Λ];omega
 have u64:0<=n/\n<=18446744073709551615->IntKind.u64.wrap n=n:=λh=>by unfold Κ;simp[Τ,Λ];omega
 cases d<;>cases s<;>simp only[Tb]at h<;>first
  |exact h
  | (rw[u h.1];exact h.2)
  | (rw[u64 h.1];exact h.2)
def qUn(op:UnOp) (a:AV) (K:AV->Prop):Prop:=match op with
  | .not=>match gb a with
    |some b=>K (.sv (.bool (!b)))
    |none=>False
  | .neg=>match gi a with
    |some (k,n)=>Hb k (0- n) K
    |none=>False
  | .xor=>match gi a with
    |some (k,n)=>K (.sv (.int k (qae .xor k (match k.signed with|true=> -1|false=>k.max) n)))
    |none=>False
  |_=>False
def Zt (P:Cl):xk:=λt o K=>match o.op with
  | .binOp op h x y _=>match ev t x with
    | some a => match ev t y with
      | some b=>match gi a with
        | some (k,n)=>match gi b with
          | some (j,m)=>match op with
            | .shl=>Ob (0<=m)/\K (.sv (.int k (shP .shl k n m)))
            | .shr=>Ob (0<=m)/\K (.sv (.int k (shP .shr k n m)))
            | .quo=>tB (Zh k j) (Ob (m≠0)/\K (.sv (.int k (k.wrap (n.tdiv m)))))
            | .rem=>tB (Zh k j) (Ob (m≠0)/\K (.sv (.int k (n.tmod m))))
            |_=>Zs P t o K
          |none=>False
        | none=>match gs a with
          | some s=>match gs b with
            |some r=>OV op s r K
            |none=>False
          | none=>match gb a with
            | some p=>match gb b with
              | some q=>match P.underlying h with
                |some .bool=>qht op p q K
                |_=>False
              |none=>False
            | none=>match P.underlying h with
              |some d=>qkd d op a b K
              |none=>False
      |none=>False
    |none=>False
  | .unOp op _ x=>match ev t x with
    |some a=>qUn op a K
    |none=>False
  | .convert s d x=>match ev t x with
    | some a=>match P.underlying s with
      | some _=>match P.underlying d with
        | some (.int kd)=>match gi a with
          |some (k,n)=>Tb k kd n K
          |none=>False
        | some .string=>match gs a with
          |some r=>K (.sv (.string r))
          |none=>False
        |_=>False
      |none=>False
    |none=>False
  |_=>Zs P t o K
def VV (P : Cl):Qx P (Zt P):=by
  intro t o K e;have e0:=e;obtain⟨dst,op,ty,pos,after,guard⟩:=o;cases op with
  | binOp op B x y Y=>
    simp only[Zt]at e;split at e;case h_2=>exact e.elim
    rename_i a A;split at e;case h_2=>exact e.elim
    rename_i b C;have fin:∀{v:Value},(∀I (ac:Act),TR I t ac.tmps->(ac.eval x= .nilIface->False)/\(∀c,ac.eval x= .agg c->False)/\∀w,(binOp op B (ac.eval x) (ac.eval y)).run P w= .ok v w)->QP P t ⟨dst, .binOp op B x y Y,ty,pos,after,guard⟩ (.sv v):=λ{v} h I ac u=>(by obtain⟨O,T,V⟩:=h I ac u;refine⟨v,λw=> ?_, .sv v⟩;simp only[execOp,ι];rw[Zk O T];simp[α,V w]);split at e
    · rename_i k n G;split at e;case h_2=>exact e.elim
      rename_i j m X;have vals:∀I (ac:Act),TR I t ac.tmps->ac.eval x= .int k n/\ac.eval y= .int j m:=λI ac u=>⟨vK G (ql u A),vK X (ql u C)⟩;split at e
      · refine⟨_,fin λI ac u=> ?_,e.2⟩;obtain⟨H,J⟩:=vals I ac u;rw[H,J];refine⟨by simp,by simp,λw=> ?_⟩;simp only[binOp,Op.shift];rw[if_neg (by have:=e.1;omega)];rfl
      · refine⟨_,fin λI ac u=> ?_,e.2⟩;obtain⟨H,J⟩:=vals I ac u;rw[H,J];refine⟨by simp,by simp,λw=> ?_⟩;simp only[binOp,Op.shift];rw[if_neg (by have:=e.1;omega)];rfl
      · obtain⟨e1,e2,e3⟩:=qT e;have:=JP e1;subst this;refine⟨_,fin λI ac u=> ?_,e3⟩;obtain⟨H,J⟩:=vals I ac u;rw[H,J];refine⟨by simp,by simp,λw=> ?_⟩;simp only[binOp,ne_eq,not_true,if_false,Op.intDiv];rw[if_neg e2];rfl
      · obtain⟨e1,e2,e3⟩:=qT e;have:=JP e1;subst this;refine⟨_,fin λI ac u=> ?_,e3⟩;obtain⟨H,J⟩:=vals I ac u;rw[H,J];refine⟨by simp,by simp,λw=> ?_⟩;simp only[binOp,ne_eq,not_true,if_false,Op.intDiv];rw[if_neg e2];rfl
      · exact qea P _ _ _ e
    · split at e
      · rename_i s hs;split at e;case h_2=>exact e.elim
        rename_i r hr;obtain⟨v,O,T⟩:=qg3 (P:=P) (t:=B) e;refine⟨_,fin λI ac u=> ?_,T⟩;rw[Qv hs (ql u A),Qv hr (ql u C)];exact⟨by simp,by simp,O⟩
      · split at e
        · rename_i p hp;split at e;case h_2=>exact e.elim
          rename_i q hq;split at e;case h_2=>exact e.elim
          rename_i hu;have hr:=λw=>run_underlying (P:=P) hu w;have:∃c:Bool,(∀I (ac:Act),TR I t ac.tmps->(ac.eval x= .nilIface->False)/\(∀c,ac.eval x= .agg c->False)/\∀w,(binOp op B (ac.eval x) (ac.eval y)).run P w= .ok (.bool c) w)/\K (.sv (.bool c)):=by
            unfold qht at e;split at e
            · refine⟨_,λI ac u=> ?_,e⟩;rw[W2 hp (ql u A),W2 hq (ql u C)];refine⟨by simp,by simp,λw=> ?_⟩;have he:(qqz B (.bool p) (.bool q)).run P w= .ok (decide (p=q)) w:=JK hu w _ λn=>(by cases p<;>cases q<;>simp[Ψ,hr,α]);first
                | (rw[(Eng.binOp_eql (t:=B) (a:=Θ p) (b:=Θ q) (by simp) (by simp) (by simp) (by simp)).1];simp[he,α];done)
                | (rw[(Eng.binOp_eql (t:=B) (a:=Θ p) (b:=Θ q) (by simp) (by simp) (by simp) (by simp)).2];simp[he,α])
            · refine⟨_,λI ac u=> ?_,e⟩;rw[W2 hp (ql u A),W2 hq (ql u C)];refine⟨by simp,by simp,λw=> ?_⟩;have he:(qqz B (.bool p) (.bool q)).run P w= .ok (decide (p=q)) w:=JK hu w _ λn=>(by cases p<;>cases q<;>simp[Ψ,hr,α]);first
                | (rw[(Eng.binOp_eql (t:=B) (a:=Θ p) (b:=Θ q) (by simp) (by simp) (by simp) (by simp)).1];simp[he,α];done)
                | (rw[(Eng.binOp_eql (t:=B) (a:=Θ p) (b:=Θ q) (by simp) (by simp) (by simp) (by simp)).2];simp[he,α])
            · exact e.elim
          obtain⟨c,O,T⟩:=this;exact⟨_,fin O,T⟩
        · split at e;case h_2=>exact e.elim
          rename_i d hu;unfold qkd at e;split at e;case h_2=>exact e.elim
          rename_i p l U;split at e
          · refine⟨_,fin λI ac u=> ?_,e⟩;obtain⟨g1,g2,g3,g4,g5,g6,g7⟩:=q86 hu U (ql u A) (ql u C);refine⟨g5,g6,λw=> ?_⟩;rw[(Eng.binOp_eql g1 g2 g3 g4).1];simp[g7 w,α]
          · refine⟨_,fin λI ac u=> ?_,e⟩;obtain⟨g1,g2,g3,g4,g5,g6,g7⟩:=q86 hu U (ql u A) (ql u C);refine⟨g5,g6,λw=> ?_⟩;rw[(Eng.binOp_eql g1 g2 g3 g4).2];simp[g7 w,α]
          · exact e.elim
  | unOp op B x=>
    simp only[Zt]at e;split at e;case h_2=>exact e.elim
    rename_i a A;unfold qUn at e;split at e
    · split at e;case h_2=>exact e.elim
      rename_i b C;refine⟨_,λI ac u=>⟨_,λw=> ?_, .sv _⟩,e⟩;simp only[execOp,W2 C (ql u A),qzs];rfl
    · split at e;case h_2=>exact e.elim
      rename_i k n G;refine⟨_,λI ac u=>⟨_,λw=> ?_, .sv _⟩,qb9 e⟩;simp only[execOp,vK G (ql u A),qzs,qzc];rfl
    · split at e;case h_2=>exact e.elim
      rename_i k n G;refine⟨_,λI ac u=>⟨_,λw=> ?_, .sv _⟩,e⟩;simp only[execOp,vK G (ql u A),qzs,Op.intBits];cases k<;>rfl
    · exact e.elim
  | convert s d x=>
    simp only[Zt]at e;split at e;case h_2=>exact e.elim
    rename_i a A;split at e;case h_2=>exact e.elim
    rename_i Z hs;split at e
    · rename_i kd hd;split at e;case h_2=>exact e.elim
      rename_i k n G;refine⟨_,λI ac u=>⟨_,λw=> ?_, .sv _⟩,qgz e⟩;simp[execOp,vK G (ql u A),convert,run_underlying hs,run_underlying hd,α,Conv.intToInt]
    · rename_i hd;split at e;case h_2=>exact e.elim
      rename_i r hr;refine⟨_,λI ac u=>⟨.string r,λw=> ?_, .sv _⟩,e⟩;simp[execOp,Qv hr (ql u A),convert,run_underlying hs,run_underlying hd,α]
    · exact e.elim
  |_=>exact qea P _ _ _ e
end
section
def adr(a:Option Addr) (k:Nat):Addr:=match a with
 |some x=>x.add k
 |none=>⟨0,0,ε⟩
def slA(a:Option Addr) (c l sz:Nat):Option Addr:=if c=l then a else a.map (·.add (l*sz))
def ON:AV->Option Nat
 | .sv (.slice _ n _)=>γ n
 | .ssl _ _ n _ _=>γ n
 | .msl _ n _=>γ n
 | .usl _ _ n _=>γ n
 |_=>ε
variable {a:AV} {v:Value}
def qfh{I:In} {n:Nat} (h:ON a=γ n) (r:VR I a v):∃p c,v= .slice p n c:=by
 unfold ON at h;split at h
 ·cases h;cases r;exact⟨_,_,rfl⟩
 ·cases h;cases r with
  |ssl=>exact⟨_,_,rfl⟩
  |ssl0 h=>subst h;exact⟨_,_,rfl⟩
 ·cases h;cases r with|msl=>exact⟨_,_,rfl⟩
 ·cases h;cases r with
  |usl=>exact⟨_,_,rfl⟩
  |usl0 h=>subst h;exact⟨_,_,rfl⟩
 ·cases h
def JX:AV->Option (Nat×Nat×Nat×Nat)
 | .ssl id off n esz _=>γ (id,off,n,esz)
 | .msl id n esz=>γ (id,0,n,esz)
 | .usl id off n esz=>γ (id,off,n,esz)
 |_=>ε
def WR{I:In} {id off n esz:Nat} (h:JX a=γ (id,off,n,esz)) (r:VR I a v):(n=0/\v= .slice ε 0 0)\/∃b s t o c,I id=γ (b,s,t)/\v= .slice (γ ⟨b,o,ε⟩) n c/\n<=c/\off+c*esz<=t/\(o=s+off\/c=0):=by
 unfold JX at h;split at h
 ·cases h;cases r with
  |ssl h B u A=>exact .inr ⟨_,_,_,_,_,h,rfl,B,u,A⟩
  |ssl0 h=>exact .inl ⟨h,rfl⟩
 ·cases h;cases r with
  | @msl _ _ _ b s t h u A=>exact .inr ⟨b,s,t,s,_,h,rfl,(Nat.le_div_iff_mul_le A).2 u,by rw[qql];exact Nat.div_mul_le_self _ _, .inl rfl⟩
 ·cases h;cases r with
  |usl h B u A=>exact .inr ⟨_,_,_,_,_,h,rfl,B,u,A⟩
  |usl0 h=>exact .inl ⟨h,rfl⟩
 ·cases h
def jH:Option (IntKind×Int)->Nat
 |none=>0
 |some (_,x)=>x.toNat
def wN(n:Nat):Option (IntKind×Int)->Nat
 |none=>n
 |some (_,x)=>x.toNat
def Qy(len cap:Nat) (lo hi:Option (IntKind×Int)):Prop:=match lo,hi with
 |none,ε=>len<=cap
 |some (_,x),ε=>0<=x/\x<=(len:Int)
 |none,γ (_,y)=>0<=y/\y<=(cap:Int)
 |some (_,x),γ (_,y)=>0<=x/\x<=y/\y<=(cap:Int)
def qaf{len cap:Nat} (u:len<=cap) {lo hi:Option (IntKind×Int)} (h:Qy len len lo hi):Qy len cap lo hi:=by unfold Qy at h⊢;split<;>simp only at h<;>omega
def qf0{len:Nat} {cap:Nat} {lo hi:Option (IntKind×Int)} (h:Qy len cap lo hi):jH lo<=wN len hi/\(len<=cap->wN len hi<=cap):=by unfold Qy at h;split at h<;>simp only[jH,wN]<;>omega
def Gc{P:Cl} {b:Bool} {len cap:Nat} {lo hi:Option (IntKind×Int)} (h:Qy len cap lo hi) (w:World):(ψ b len cap (lo.map λp=>χ p.1 p.2) (hi.map λp=>χ p.1 p.2) ε).run P w= .ok (jH lo,wN len hi,cap) w:=by
 have hp:W9 len cap lo hi λl u=>l=jH lo/\u=wN len hi:=by unfold Qy at h;unfold W9;split at h<;>simp only[jH,wN,and_self,and_true,true_and]<;>exact h
 obtain⟨l,u,A,B,C⟩:=qag (P:=P) (b:=b) hp;rw[A w,B,C]
def Nw(a:Option Addr) (K:Prop):Prop:=Ob (a≠ε)/\K
def OU(P:Cl) (ty:TypeId) (a:AV) (i:Int) (K:AV->Prop):Prop:=match P.underlying ty with
  | some (.slice e)=>match P.info? e with
    | some j=>match JX a with
      |some (id,off,n,esz)=>tB (ς j.size esz) (Ob (0<=i/\i<(n:Int))/\K (.sptr id (off+i.toNat*esz)))
      | none=>match a with
        | .sv (.slice p n c)=>Ob (0<=i/\i<(n:Int))/\Nw p (K (.sv (.pointer (γ (adr p (i.toNat*j.size))))))
        | .sl id off n _=>Ob (0<=i/\i<(n:Int))/\K (.sptr id (off+i.toNat*j.size))
        |_=>False
    |none=>False
  | some (.array n e)=>match P.info? e with
    | some j=>match a with
      | .ptr id off=>Ob (0<=i/\i<(n:Int))/\K (.sptr id (off+i.toNat*j.size))
      | .sptr id off=>Ob (0<=i/\i<(n:Int))/\K (.sptr id (off+i.toNat*j.size))
      | .sv (.pointer (γ x))=>Ob (0<=i/\i<(n:Int))/\K (.sv (.pointer (γ (x.add (i.toNat*j.size)))))
      |_=>False
    |none=>False
  |_=>False
def qg1{P:Cl} {ty:TypeId} {i:Int} {K:AV->Prop} (e:OU P ty a i K):∃r,(∀I u k,VR I a u->∃z,(∀w,(Δ ty u (.int k i)).run P w= .ok z w)/\VR I r z)/\K r:=by
  unfold OU at e;split at e
  · rename_i el hu;split at e;case h_2=>exact e.elim
    rename_i j H;have sz:=λw=>Eng.run_sizeOf (P:=P) H w;split at e
    · rename_i id off n esz J;obtain⟨C,h,G⟩:=qT e;have C:=δ C;refine⟨_,λI u k r=> ?_,G⟩;rcases WR J r with⟨T,_⟩|⟨b,s,t,o,c,B,rfl,g1,g2,g3⟩
      · have:=h.2;omega
      · have O:o=s+off:=by
          rcases g3 with g3|g3
          · exact g3
          · have:=h.2;omega
        subst O;refine⟨.pointer (γ ⟨b,s+off+i.toNat*j.size,ε⟩),λw=> ?_,?_⟩
        · simp[Δ,asIntOf,run_underlying hu,α,h.1,h.2,sz,ku]
        · rw[C,Υ];exact .sptr B
    · split at e
      · rename_i p n c _;obtain⟨h,G,A⟩:=e;refine⟨_,λI u k r=> ?_,A⟩;cases r;cases p with
        |none=>exact absurd rfl G
        | some x=>
          refine⟨.pointer (γ (x.add (i.toNat*j.size))),λw=> ?_, .sv _⟩;simp[Δ,asIntOf,run_underlying hu,α,h.1,h.2,sz]
      · rename_i id off n cap _;obtain⟨h,A⟩:=e;refine⟨_,λI u k r=> ?_,A⟩;cases r with
        | @sl _ _ _ _ b s t B=>
          refine⟨.pointer (γ ⟨b,s+off+i.toNat*j.size,ε⟩),λw=> ?_,by rw[Υ];exact .sptr B⟩;simp[Δ,asIntOf,run_underlying hu,α,h.1,h.2,sz,ku]
      · exact e.elim
  · rename_i n el hu;split at e;case h_2=>exact e.elim
    rename_i j H;have sz:=λw=>Eng.run_sizeOf (P:=P) H w;split at e
    · rename_i id off;obtain⟨h,A⟩:=e;refine⟨_,λI u k r=> ?_,A⟩;cases r with
      | @ptr _ _ b s t B=>
        refine⟨.pointer (γ ⟨b,s+off+i.toNat*j.size,ε⟩),λw=> ?_,by rw[Υ];exact .sptr B⟩;simp[Δ,asIntOf,run_underlying hu,υ,α,h.1,h.2,sz,ku]
    · rename_i id off;obtain⟨h,A⟩:=e;refine⟨_,λI u k r=> ?_,A⟩;cases r with
      | @sptr _ _ b s t B=>
        refine⟨.pointer (γ ⟨b,s+off+i.toNat*j.size,ε⟩),λw=> ?_,by rw[Υ];exact .sptr B⟩;simp[Δ,asIntOf,run_underlying hu,υ,α,h.1,h.2,sz,ku]
    · rename_i x;obtain⟨h,A⟩:=e;refine⟨_,λI u k r=> ?_,A⟩;cases r;refine⟨.pointer (γ (x.add (i.toNat*j.size))),λw=> ?_, .sv _⟩;simp[Δ,asIntOf,run_underlying hu,υ,α,h.1,h.2,sz]
    · exact e.elim
  · exact e.elim
def uF (P:Cl):xk:=λt o K=>match o.op with
  | .slice u x lo hi ε=>match P.underlying u with
    | some (.slice el)=>match ev t x with
      | some a=>match P.info? el with
        | some j=>match Jl t lo with
          | some l=>match Jl t hi with
            | some h=>match JX a with
              |some (id,off,n,esz)=>tB (ς j.size esz) (Ob (Qy n n l h)/\K (.usl id (off+jH l*esz) (wN n h- jH l) esz))
              | none=>match a with
                | .sv (.slice p n c)=>Ob (n<=c)/\Ob (Qy n c l h)/\K (.sv (.slice (slA p c (jH l) j.size) (wN n h- jH l) (c- jH l)))
                |_=>False
            |none=>False
          |none=>False
        |none=>False
      |none=>False
    |_=>Zt P t o K
  | .indexAddr ty x i=>match ev t x with
    | some a=>match ev t i with
      | some b=>match gi b with
        |some (_,n)=>OU P ty a n K
        |none=>False
      |none=>False
    |none=>False
  | .fieldAddr s x f=>match P.underlying s with
    | some (.struct fs)=>match fs.toList[f]? with
      | some fd=>match P.info? fd.type with
        | some i=>match i.size with
          |0=>False
          | _+1=>match ev t x with
            |some (.sv (.pointer (γ p)))=>K (.sv (.pointer (γ (p.add fd.offset))))
            |some (.sv (.pointer p))=>Nw p (K (.sv (.pointer (γ (adr p fd.offset)))))
            |some (.sptr id off)=>K (.sptr id (off+fd.offset))
            |_=>False
        |none=>False
      |none=>False
    |_=>False
  | .nilCheck x=>match ev t x with
    |some (.sv (.pointer (γ p)))=>K (.sv (.pointer (γ p)))
    |some (.sv (.pointer p))=>Nw p (K (.sv (.pointer p)))
    |some (.sptr id off)=>K (.sptr id off)
    |_=>False
  | .call c =>match c.callee with
    | .builtin .len=>match c.argTypes.toList with
      | [ty]=>match P.underlying ty with
        | some (.slice _)=>match kJ t c.args.toList with
          | some [a]=>match ON a with
            |some n=>K (.sv (.int .i64 (n:Nat)))
            |none=>False
          |_=>False
        |_=>Zt P t o K
      |_=>False
    |_=>Zt P t o K
  |_=>Zt P t o K
def qhv (P :Cl):Qx P (uF P):=by
  intro t o K e;have e0:=e;obtain⟨dst,op,ty,pos,after,guard⟩:=o;cases op with
  | slice xt x lo hi mx=>
    cases mx with
    |some m=>exact VV P _ _ _ (by simpa[uF]using e)
    | none=>
      simp only[uF]at e;split at e;case h_2=>exact VV P _ _ _ e
      rename_i el hu;split at e;case h_2=>exact e.elim
      rename_i a O;split at e;case h_2=>exact e.elim
      rename_i j hj;have sz:=λw=>Eng.run_sizeOf (P:=P) hj w;split at e;case h_2=>exact e.elim
      rename_i l hl;split at e;case h_2=>exact e.elim
      rename_i h hh;split at e
      · rename_i id off n esz hg;obtain⟨U,G,hk⟩:=qT e;have U:=δ U;refine⟨_,λI ac A=> ?_,hk⟩;have g1:=VS A hl;have g2:=VS A hh;have hx:=ql A O;generalize u:ac.eval x=H at hx;obtain⟨le1,Z⟩:=qf0 G;have Z:=Z (ξ _);rcases WR hg hx with⟨h0,rfl⟩|⟨b,s,tt,o,c,J,rfl,k1,k2,k3⟩
        · subst h0;refine⟨.slice ε 0 0,λw=> ?_, .usl0 (by omega)⟩;have hr:=Gc (P:=P) (b:=ρ) G w;have e1:wN 0 h- jH l=0:=(by omega);have e2:jH l=0:=(by omega);rw[e2]at hr;simp[execOp,u,g1,g2,Ο,qqa,run_underlying hu,α,hr,sz w];omega
        · have V:=qaf k1 G;have C:wN n h- jH l<=c- jH l:=(by omega);have B:off+jH l*esz+(c- jH l)*esz<=tt:=by have:jH l*esz+(c- jH l)*esz=c*esz:=(by rw[←qqd];congr 1;omega);omega
          by_cases X:c=jH l
          · refine⟨.slice (γ ⟨b,o,ε⟩) (wN n h- jH l) (c- jH l),λw=> ?_, .usl J C B (.inr (by omega))⟩;have hr:=Gc (P:=P) (b:=ρ) V w;simp[execOp,u,g1,g2,Ο,qqa,run_underlying hu,α,hr,sz w];intro hh;exact absurd X hh
          · have ho:o=s+off:=by
              rcases k3 with k3|k3
              · exact k3
              · omega
            refine⟨.slice (γ ⟨b,s+off+jH l*esz,ε⟩) (wN n h- jH l) (c- jH l),λw=> ?_, .usl J C B (.inl (by omega))⟩;have hr:=Gc (P:=P) (b:=ρ) V w;simp[execOp,u,g1,g2,Ο,qqa,run_underlying hu,α,hr,sz w,X,ho,U,ku]
      · split at e;case h_2=>exact e.elim
        rename_i p n c _;obtain⟨hn,G,hk⟩:=e;refine⟨_,λI ac A=>⟨_,λw=> ?_, .sv _⟩,hk⟩;have g1:=VS A hl;have g2:=VS A hh;have hx:=ql A O;generalize u:ac.eval x=H at hx;cases hx;have hr:=Gc (P:=P) (b:=ρ) G w;simp[execOp,u,g1,g2,Ο,qqa,run_underlying hu,α,hr,sz w,slA]
  | indexAddr ty x i=>
    simp only[uF]at e;split at e;case h_2=>exact e.elim
    rename_i a O;split at e;case h_2=>exact e.elim
    rename_i b G;split at e;case h_2=>exact e.elim
    rename_i k n hn;obtain⟨r,U,h2⟩:=qg1 e;refine⟨r,λI ac A=> ?_,h2⟩;obtain⟨z,g1,g2⟩:=U I _ k (ql A O);refine⟨z,λw=> ?_,g2⟩;simp only[execOp,vK hn (ql A G),ι,α,g1 w,θ]
  | fieldAddr s x f=>
    simp only[uF]at e;split at e;case h_2=>exact e.elim
    rename_i fs hs;split at e;case h_2=>exact e.elim
    rename_i fd hf;split at e;case h_2=>exact e.elim
    rename_i i hi;split at e
    · exact e.elim
    rename_i m hm;have hz:i.size≠0:=(by omega);have hf':fs[f]? =γ fd:=(by simpa using hf);have run:∀(T:Addr) w,(qzp s (.pointer (γ T)) f).run P w= .ok (.pointer (γ (T.add fd.offset))) w:=λT w=>(by simp[qzp,run_underlying hs,hf',υ,fieldPlace,Eng.run_sizeOf hi,hz,α]);split at e
    · rename_i p hx;refine⟨_,λI ac A=>⟨_,λw=> ?_, .sv _⟩,e⟩;have hx:=ql A hx;generalize u:ac.eval x=H at hx;cases hx;simp only[execOp,u,ι,α,run,θ]
    · rename_i p _ hx;obtain⟨hp,e⟩:=e;refine⟨_,λI ac A=>⟨_,λw=> ?_, .sv _⟩,e⟩;have hx:=ql A hx;generalize u:ac.eval x=H at hx;cases hx;cases p with
      |none=>exact absurd rfl hp
      |some T=>simp only[execOp,u,ι,α,run,θ,adr]
    · rename_i id off hx;refine⟨_,λI ac A=> ?_,e⟩;have hx:=ql A hx;generalize u:ac.eval x=H at hx;cases hx with
      | @sptr _ _ b s t J=>
        refine⟨.pointer (γ ⟨b,s+off+fd.offset,ε⟩),λw=> ?_,by rw[Υ];exact .sptr J⟩;simp only[execOp,u,ι,α,run,θ,ku]
    · exact e.elim
  | nilCheck x=>
    simp only[uF]at e;split at e
    · rename_i p hx;refine⟨_,λI ac A=>⟨_,λw=> ?_, .sv _⟩,e⟩;have hx:=ql A hx;generalize u:ac.eval x=H at hx;cases hx;simp only[execOp,u];rfl
    · rename_i p _ hx;obtain⟨hp,e⟩:=e;refine⟨_,λI ac A=>⟨_,λw=> ?_, .sv _⟩,e⟩;have hx:=ql A hx;generalize u:ac.eval x=H at hx;cases hx;cases p with
      |none=>exact absurd rfl hp
      |some T=>simp only[execOp,u];rfl
    · rename_i id off hx;refine⟨_,λI ac A=> ?_,e⟩;have hx:=ql A hx;generalize u:ac.eval x=H at hx;cases hx with
      |sptr J=>exact⟨_,λw=>by simp only[execOp,u];rfl, .sptr J⟩
    · exact e.elim
  | call c=>
    obtain⟨callee,args,tys⟩:=c;cases callee with
    | builtin b=>
      cases b;case len=>
        simp only[uF]at e;split at e;case h_2=>exact e.elim
        rename_i ty' Y;split at e;case h_2=>exact VV P _ _ _ e
        rename_i el hu;split at e;case h_2=>exact e.elim
        rename_i a O;split at e;case h_2=>exact e.elim
        rename_i n hn;refine⟨_,λI ac A=> ?_,e⟩;have hv:=vI A O;obtain⟨v,hv1,hv2⟩:=uG hv;obtain⟨p,c,rfl⟩:=qfh hn hv2;refine⟨.int .i64 (n:Nat),λw=> ?_, .sv _⟩;have e1:args.map ac.eval= #[.slice p n c]:=(by apply Array.toList_inj.1;simpa using hv1);obtain⟨tl⟩:=tys;simp only at Y;subst Y;simp only[execOp,resolve,ι,θ,α,invoke,e1];simp[builtin,qzl,run_underlying hu,α,goInt]
      all_goals exact VV P _ _ _ (by simpa only[uF]using e)
    |_=>exact VV P _ _ _ (by simpa only[uF]using e)
  |_=>exact VV P _ _ _ (by simpa only[uF]using e)
end
section
inductive CK where
 |int (k:IntKind)
 |bool
 |str
 |sl
 |ptr
 |map
def OG:TypeDesc->Option CK
 | .bool=>γ .bool
 | .int k=>γ (.int k)
 | .string=>γ .str
 | .pointer _=>γ .ptr
 | .slice _=>γ .sl
 | .map _ _=>γ .map
 |_=>ε
def xH:List CK->Nat
 | []=>0
 |_::l=>Nat.succ (xH l)
def OE:List CK->List CK->List CK
 | [],m=>m
 |a::l,m=>a::OE l m
def qke:Nat->List CK->List CK
 |0,_=>[]
 |n+1,l=>OE l (qke n l)
mutual
def Og(P:Cl):Nat->TypeId->Option (List CK)
  |0,_=>ε
  | f +1,t=>match P.underlying t with
    |some (.struct fs)=>cksFs P f fs.toList 0
    | some (.array n e)=>match Og P f e with
      |some a=>γ (qke n a)
      |none=>ε
    | some d=>match OG d with
      |some k=>γ [k]
      |none=>ε
    |none=>ε
def cksFs(P:Cl):Nat->List Field->Nat->Option (List CK)
  |0,_,_=>ε
  |_+1,[],_=>γ []
  | f + 1,x::l,o=>match ς x.offset o with
    | true=>match Og P f x.type with
      | some a=>match cksFs P f l (Nat.add o (xH a))with
        |some b=>γ (OE a b)
        |none=>ε
      |none=>ε
    |false=>ε
end
def uv:List CK->(List AV->List Value->Prop)->Prop
 | [],K=>K [] []
 | .int k::l,K=>∃n:Int,uv l λa v=>K (.sv (.int k n)::a) (.int k n::v)
 | .bool::l,K=>∃b:Bool,uv l λa v=>K (.sv (.bool b)::a) (.bool b::v)
 | .str::l,K=>∃s:Ck,uv l λa v=>K (.sv (.string s)::a) (.string s::v)
 | .sl::l,K=>∃(p:Option Addr) (n c:Nat),uv l λa v=>K (.sv (.slice p n c)::a) (.slice p n c::v)
 | .ptr::l,K=>∃p:Option Addr,uv l λa v=>K (.sv (.pointer p)::a) (.pointer p::v)
 | .map::l,K=>∃m:Option Nat,uv l λa v=>K (.sv (.map m)::a) (.map m::v)
def xA:∀{l:List CK} {K:List AV->List Value->Prop},uv l K->∃a v,K a v/\(∀I,VRs I a v)/\v.length=xH l
  | [],K,h=>⟨[],[],h,λI=> .nil,rfl⟩
  | .int k::l,K,⟨n,h⟩=>by obtain⟨a,v,u,A,B⟩:=xA h;exact⟨_,_,u,λI=> .cons (.sv _) (A I),by simp[B,xH]⟩
  | .bool::l,K,⟨n,h⟩=>by obtain⟨a,v,u,A,B⟩:=xA h;exact⟨_,_,u,λI=> .cons (.sv _) (A I),by simp[B,xH]⟩
  | .str::l,K,⟨n,h⟩=>by obtain⟨a,v,u,A,B⟩:=xA h;exact⟨_,_,u,λI=> .cons (.sv _) (A I),by simp[B,xH]⟩
  | .sl::l,K,⟨p,n,c,h⟩=>by obtain⟨a,v,u,A,B⟩:=xA h;exact⟨_,_,u,λI=> .cons (.sv _) (A I),by simp[B,xH]⟩
  | .ptr::l,K,⟨n,h⟩=>by obtain⟨a,v,u,A,B⟩:=xA h;exact⟨_,_,u,λI=> .cons (.sv _) (A I),by simp[B,xH]⟩
  | .map::l,K,⟨n,h⟩=>by obtain⟨a,v,u,A,B⟩:=xA h;exact⟨_,_,u,λI=> .cons (.sv _) (A I),by simp[B,xH]⟩
def qga(vs:List Value) (off:Nat) (us:List Value):Prop:=∀(j:Nat) v,us[j]? =γ v->vs[off+j]? =γ v
def JG (P:Cl) (t:TypeId) (src:List Value->Prop) (K:AV->Prop):Prop:=match shapeOf P t with
  | some ε=>match P.underlying t with
    | some d=>match OG d with
      | some k=>uv [k] λa v=>match a with
        | [x]=>Ob (src v)/\K x
        |_=>False
      |none=>False
    |none=>False
  | some (γ n)=>match Og P 20 t with
    |some l=>tB (ς (xH l) n) (uv l λa v=>Ob (src v)/\K (.agg a))
    |none=>False
  |none=>False
def IZ{P:Cl} {t:TypeId} {src:List Value->Prop} {K:AV->Prop} (e:JG P t src K):∃a vs,src vs/\K a/\∀I w (h:Addr),(∀(j:Nat) v,vs[j]? =γ v->w.cell? (h.add j)=γ v)->∃z,(loadVar t h).run P w= .ok z w/\VR I a z:=by
  unfold JG at e;split at e
  · rename_i A;split at e;case h_2=>exact e.elim
    rename_i d hd;split at e;case h_2=>exact e.elim
    rename_i k hk;obtain⟨a,v,B,G,T⟩:=xA e;split at B;case h_2=>exact B.elim
    rename_i x;obtain⟨U,V⟩:=B;refine⟨x,v,U,V,λI w h H=> ?_⟩;have Y:=G I;cases Y with
    | @cons _ _ z _ Z X=>
      cases X;obtain⟨g1,g2⟩:=VB (P:=P) (w:=w) A;refine⟨z,?_,Z⟩;have u:w.cell? h=γ z:=by have:=H 0 z rfl;simpa[qzq]using this
      have J:(load h).run P w= .ok z w:=(by simp[load,Μ,u]);simp[loadVar,g1,J,α]
  · rename_i n A;split at e;case h_2=>exact e.elim
    rename_i l hl;obtain⟨O,e⟩:=qT e;have O:=δ O;obtain⟨a,v,⟨B,C⟩,G,T⟩:=xA e;refine⟨_,v,B,C,λI w h H=> ?_⟩;obtain⟨g1,g2⟩:=VB (P:=P) (w:=w) A;have hr:=run_loadCells_list (P:=P) w h v H;rw[T,O]at hr;refine⟨.agg ⟨v⟩,?_, .agg (G I)⟩;simp[loadVar,g1,g2 n rfl,hr,α]
  · exact e.elim
def rowOf:AO->Option (List Value)
 | .row _ _ vs=>γ vs
 | .cells _ _ _ l=>jS l
 |_=>ε
variable {I:In}
def qde{t:Nat×Nat} {o:AO} {ob:Obj} {vs:List Value} (h:rowOf o=γ vs) (C:OR I t o ob):∃pre rest e fr,ob= .cells ⟨pre++(vs++rest)⟩ e fr/\pre.length=t.1/\(vs++rest).length=t.2:=by
  cases C with
  | cells A H hp u B G=>
    simp only[rowOf]at h;have:=xy h A;subst this;exact⟨_,_,_,_,rfl,hp,u⟩
  | row hp u B=>
    simp only[rowOf]at h;cases h;exact⟨_,_,_,_,rfl,hp,u⟩
  |map A=>cases h
  |mrow=>cases h
  |iter _ _=>cases h
variable {w:World}
def Gi{F:Bool->Nat->Prop} {h:T AO} (hs:Sim F I h w) {id:Nat} {o:AO} {vs us:List Value} {b s t off:Nat} (A:h.get id=γ o) (hr:rowOf o=γ vs) (hi:I id=γ (b,s,t)) (u:qga vs off us):∀(j:Nat) v,us[j]? =γ v->w.cell? (qzq ⟨b,s+off,ε⟩ j)=γ v:=λj v B=>by obtain⟨ob,C,G⟩:=hs.obj _ _ _ _ A hi;obtain⟨pre,rest,e,fr,rfl,hp,H⟩:=qde hr G;rw[ku,cell_of C];have:=u j v B;simp only[qq4];simp only at hp;rw[qqw (by omega),qqx (by have:=(List.getElem?_eq_some_iff.1 this).1;omega),←this];congr 1;omega
def q18(s:Ck):List Value:=s.data.toList.map λb=> .int .u8 (b.toNat:Nat)
def q2t(s:Ck):(q18 s).length=s.size:=by unfold q18;rw[List.length_map,τ];rfl
variable {s:Ck}
def q8u{i:Nat} (h:i<s.size):(q18 s)[i]? =γ (.int .u8 (s[i].toNat:Nat)):=by unfold q18;rw[qzf,qq0 (by rw[τ];exact h)];rfl
def GZ:AV->Option (Nat×Nat×Nat)
  | .sl id off n _=>γ (id,off,n)
  | .gsl id off n _=>γ (id,off,n)
  | a=>match JX a with
    |some (id,off,n,_)=>γ (id,off,n)
    |none=>ε
def q84{a:AV} {id off n:Nat} {v:Value} (h:GZ a=γ (id,off,n)) (r:VR I a v):∃q c,v= .slice q n c/\(n=0\/∃b s t,I id=γ (b,s,t)/\q=γ ⟨b,s+off,ε⟩):=by
  unfold GZ at h;split at h
  · cases h;cases r with|sl u=>exact⟨_,_,rfl, .inr ⟨_,_,_,u,rfl⟩⟩
  · cases h;cases r with
    | gsl u H J A=>
      refine⟨_,_,rfl,?_⟩;rcases A with A|A
      · exact .inr ⟨_,_,_,u,by rw[A]⟩
      · exact .inl (by omega)
  · split at h;case h_2=>cases h
    rename_i G;cases h;rcases WR G r with⟨C,rfl⟩|⟨b,V,X,U,c,u,rfl,O,T,B⟩
    · exact⟨ε,0,by rw[C], .inl C⟩
    · refine⟨_,_,rfl,?_⟩;rcases B with B|B
      · exact .inr ⟨_,_,_,u,by rw[B]⟩
      · exact .inl (by omega)
def Hn (P:Cl):jo:=λgl t h o K=>match o.op with
  | .load ty x=>match ev t x with
    |some (.sv (.pointer (γ a)))=>JG P ty (λvs=>∀p,gl.pf p->q37 p a vs) K
    |some (.sv (.pointer a))=>JG P ty (λvs=>∀p,gl.pf p->∃x,a=γ x/\q37 p x vs) K
    | some (.sptr id off)=>match h.get id with
      | some o=>match rowOf o with
        |some vs=>JG P ty (λus=>qga vs off us) K
        |none=>False
      |none=>False
    | some (.ptr id off)=>match h.get id with
      | some o=>match rowOf o with
        |some vs=>JG P ty (λus=>qga vs off us) K
        |none=>False
      |none=>False
    |_=>False
  | .convert s d x=>match P.underlying s,P.underlying d with
    | some (.slice e),γ .string=>match P.underlying e with
      | some (.int .u8)=>match ev t x with
        | some a=>match GZ a with
          | some (id,off,n)=>match h.get id with
            | some o=>match rowOf o with
              |some vs=>∃s:Ck,Ob (s.size=n)/\Ob (qga vs off (q18 s))/\K (.sv (.string s))
              |none=>False
            |none=>False
          | none=>match a with
            | .sv (.slice a n c)=>∃s:Ck,Ob (s.size=n)/\Ob (∀p,gl.pf p->qgm p a (q18 s))/\K (.sv (.string s))
            |_=>False
        |none=>False
      | some (.int .i32)=>match ev t x with
        | some a=>match GZ a with
          | some (id,off,n)=>match h.get id with
            | some o=>match rowOf o with
              |some vs=>∃u:List Int,Ob (u.length=n)/\Ob (qga vs off (u.map λi=>χ .i32 i))/\K (.sv (.string (runesBytes u)))
              |none=>False
            |none=>False
          |none=>False
        |none=>False
      |_=>False
    |_,_=>False
  |_=>False
def q4z{P:Cl} {h d el:TypeId} (hs:P.underlying h=γ (.slice el)) (hd:P.underlying d=γ .string) (he:P.underlying el=γ (.int .u8)) {s:Ck} {b o c:Nat} (u:∀(j:Nat) v,(q18 s)[j]? =γ v->w.cell? (qzq ⟨b,o,ε⟩ j)=γ v):
  (convert h d (.slice (γ ⟨b,o,ε⟩) s.size c)).run P w= .ok (.string s) w:=
 Lib.run_convert_whole (P:=P) w h el d hs he hd b o s (λi hi=>by have:=u i _ (q8u hi);rw[ku]at this;exact this) c
def q6t(h:s.size=0):s=ByteArray.empty:=by
 apply qzd;apply Array.toList_inj.1;have:s.data.toList.length=0:=by rw[τ];exact h
 rw[π this];rfl
def qhy (P:Cl):kz P (Hn P):=by
  intro gl t h o K e;obtain⟨dst,op,ty,pos,after,guard⟩:=o;cases op with
  | load lt x=>
    simp only[Hn]at e;have own:∀(av:AV) (id off:Nat),ev t x=γ av->(∀I z,VR I av z->∃b s tt,I id=γ (b,s,tt)/\z= .pointer (γ ⟨b,s+off,ε⟩))->(match h.get id with
      | some o=>match rowOf o with
        |some vs=>JG P lt (λus=>qga vs off us) K
        |none=>False
      |none=>False)->∃v,RP gl P t h ⟨dst, .load lt x,ty,pos,after,guard⟩ v/\K v:=λav id off hx hav e=>by
      split at e;case h_2=>exact e.elim
      rename_i ob hg;split at e;case h_2=>exact e.elim
      rename_i vs hr;obtain⟨a,us,X,Y,Z⟩:=IZ e;refine⟨a,λF I ac w C hs hp=> ?_,Y⟩;have B:=ql C hx;generalize u:ac.eval x=V at B;obtain⟨b,s,tt,H,rfl⟩:=hav I V B;obtain⟨z,g1,g2⟩:=Z I w ⟨b,s+off,ε⟩ (Gi hs hg hr H X);exact⟨z,by simp[execOp,u,qq1,υ,g1,α],g2⟩
    split at e
    · rename_i a hx;obtain⟨av,us,X,Y,Z⟩:=IZ e;refine⟨av,λF I ac w C hs hp=> ?_,Y⟩;have B:=ql C hx;generalize u:ac.eval x=V at B;cases B;obtain⟨z,g1,g2⟩:=Z I w a λj v J=>FY (X _ hp j v J);exact⟨z,by simp[execOp,u,qq1,υ,g1,α],g2⟩
    · rename_i a _ hx;obtain⟨av,us,X,Y,Z⟩:=IZ e;refine⟨av,λF I ac w C hs hp=> ?_,Y⟩;have B:=ql C hx;generalize u:ac.eval x=V at B;cases B;obtain⟨y,rfl,hy⟩:=X _ hp;obtain⟨z,g1,g2⟩:=Z I w y λj v J=>FY (hy j v J);exact⟨z,by simp[execOp,u,qq1,υ,g1,α],g2⟩
    · rename_i id off hx;exact own _ id off hx (λI z hz=>by cases hz with|sptr H=>exact⟨_,_,_,H,rfl⟩) e
    · rename_i id off hx;exact own _ id off hx (λI z hz=>by cases hz with|ptr H=>exact⟨_,_,_,H,rfl⟩) e
    · exact e.elim
  | convert s d x=>
    simp only[Hn]at e;split at e;case h_2=>exact e.elim
    rename_i el hs hd;split at e;case h_3=>exact e.elim
    case h_2=>
      rename_i he;split at e;case h_2=>exact e.elim
      rename_i a hx;split at e;case h_2=>exact e.elim
      rename_i id off n hg;split at e;case h_2=>exact e.elim
      rename_i ob U;split at e;case h_2=>exact e.elim
      rename_i vs hr;obtain⟨ns,T,A,hk⟩:=e;refine⟨_,λF I ac w C O hp=>⟨.string (runesBytes ns),?_, .sv _⟩,hk⟩;have B:=ql C hx;generalize u:ac.eval x=V at B;obtain⟨q,c,rfl,hq⟩:=q84 hg B;have T:ns.length=n:=T;by_cases G:n=0
      · subst G;obtain rfl:ns=[]:=List.length_eq_zero_iff.1 T;have:(convert s d (.slice q 0 c)).run P w= .ok (.string (runesBytes [])) w:=by
          cases q with
          |none=>exact run_convert_runes_nil w s d el 0 c hs he hd
          |some y=>exact run_convert_runes w s d el y 0 c [] (ξ _) hs he hd (λj J=>absurd J (by simp))
        simp[execOp,u,this,α]
      · rcases hq with hq|⟨b,s0,tt,H,rfl⟩
        · exact absurd hq G
        · have:=run_convert_runes (P:=P) w s d el ⟨b,s0+off,ε⟩ n c ns (by omega) hs he hd (λj J=>by refine Gi O U hr H A j _ ?_;rw[qzf,List.getD_eq_getElem?_getD,qq0 J];rfl);rw[qq2 (by omega)]at this;simp[execOp,u,this,α]
    rename_i he;split at e;case h_2=>exact e.elim
    rename_i a hx;have zero:∀(q:Option Addr) (c:Nat) (w:World),q=ε\/(∃y,q=γ y)->(convert s d (.slice q 0 c)).run P w= .ok (.string .empty) w:=λq c w _=>by
      cases q with
      |none=>simp[convert,run_underlying hs,run_underlying hd,run_underlying he,α,qze]
      | some y=>
        have hl:(loadCells y 0).run P w= .ok #[] w:=(by simp[loadCells,loadCellsFrom]);simp[convert,run_underlying hs,run_underlying hd,run_underlying he,α,qze,hl]
    split at e
    · rename_i id off n hg;split at e;case h_2=>exact e.elim
      rename_i ob U;split at e;case h_2=>exact e.elim
      rename_i vs hr;obtain⟨str,T,A,hk⟩:=e;refine⟨_,λF I ac w C O hp=>⟨.string str,?_, .sv _⟩,hk⟩;have B:=ql C hx;generalize u:ac.eval x=V at B;obtain⟨q,c,rfl,hq⟩:=q84 hg B;by_cases G:n=0
      · subst G;rw[q6t T];simp[execOp,u,zero q c w (by cases q<;>simp),α]
      · rcases hq with hq|⟨b,s0,tt,H,rfl⟩
        · exact absurd hq G
        · have:=q4z (P:=P) (w:=w) hs hd he (s:=str) (b:=b) (o:=s0+off) (c:=c) (Gi O U hr H A);rw[T]at this;simp[execOp,u,this,α]
    · split at e;case h_2=>exact e.elim
      rename_i q n c _;obtain⟨str,T,A,hk⟩:=e;refine⟨_,λF I ac w C O hp=>⟨.string str,?_, .sv _⟩,hk⟩;have B:=ql C hx;generalize u:ac.eval x=V at B;cases B;rcases A _ hp with G|⟨y,rfl,hy1,hy2⟩
      · have G:str.size=0:=(by rw[←q2t,G.1];rfl);rw[q6t G];have hn0:n=0:=(by omega);subst hn0;have:=zero q c w (by cases q<;>simp);simp[execOp,u,this,α]
      · obtain⟨yb,yo,ys⟩:=y;simp only at hy1;subst hy1;have:=q4z (P:=P) (w:=w) hs hd he (s:=str) (b:=yb) (o:=yo) (c:=c) λj v J=>FY (hy2 j v J);rw[T]at this;simp[execOp,u,this,α]
  |_=>exact e.elim
end
section
def Grow.tok{F I nx w G u h' O} {y:Nat×Nat×Nat} (g:Grow F I nx w G u h' O) (hle:nx<=u) (hi:G u=ε) (U:h'.get u=ε):Grow F I nx w (ext G u y) (u+1) h' O:=by
 have J:=Zp y hi;have ne:∀id o,h'.get id=γ o->id≠u:=λid o h e=>by subst e;rw[U]at h;cases h
 have A:∀id,id≠u->ext G u y id=G id:=λid h=>if_neg h;refine⟨In.le_trans g.le J,λi x h=> ?_,⟨λid o b t B C=> ?_,λid H o Y b t Z B C i1 i2=> ?_,λid o b t B C T=> ?_⟩,g.fr,g.size,g.same⟩
 ·by_cases e:i=u
  ·exact .inr ⟨by omega,by omega⟩
  ·rw[A i e]at h;exact(g.new i x h).imp (λh=>h) λh=>⟨h.1,by omega⟩
 ·rw[A id (ne id o B)]at C;obtain⟨ob,V,X⟩:=g.sim.obj _ _ _ _ B C;exact⟨ob,V,X.mono J⟩
 ·rw[A id (ne id o B)]at i1;rw[A H (ne H Y C)]at i2;exact g.sim.inj _ _ _ _ _ _ _ B C i1 i2
 ·rw[A id (ne id o B)]at C;exact g.sim.fr _ _ _ _ B C T
def Grow.put0{F I nx w G B h h' H} {o:AO} (g:Grow F I nx w G B h H) (hi:G B=ε) (hp:T.put 64 B (γ o) h=γ h'):Grow F I nx w G (B+1) h' H:=by
 have J:=T.get_put _ _ _ _ _ hp;have C:∀id q x,h'.get id=γ q->G id=γ x->h.get id=γ q:=λid q x A u=>by
  rw[J]at A;split at A
  ·rename_i e;subst e;rw[hi]at u;cases u
  ·exact A
 exact⟨g.le,λi x h=>(g.new i x h).imp (λh=>h) λh=>⟨h.1,by omega⟩,⟨λid q b t A u=>g.sim.obj _ _ _ _ (C _ _ _ A u) u,λid O q U b t V A u i1 i2=>g.sim.inj _ _ _ _ _ _ _ (C _ _ _ A i1) (C _ _ _ u i2) i1 i2,λid q b t A u=>g.sim.fr _ _ _ _ (C _ _ _ A u) u⟩,g.fr,g.size,g.same⟩
def qj0(P:Cl) (gl:GL) (h:T AO) (x:AV) (esz n:Nat) (us:List Value):Prop:=us.length=n*esz/\(∀v∈us,v.oneCell'=ρ)/\∀F I w v,VR I x v->Sim F I h w->gl.pf (q11 F w)->∀u:World,u.heap=w.heap->(qzi v).run P u= .ok n u/\(ν esz n v).run P u= .ok ⟨us⟩ u
def qkb(us:List Value):Prop:=∀v∈us,v.oneCell'=ρ
def OW (P:Cl) (gl:GL) (h:T AO) (x:AV) (esz:Nat) (K:Nat->List Value->Prop):Prop:=match x with
  | .nsl=>K 0 []
  | .sl id off n _=>match Zv h id off (n*esz)with
    | some l=>match jS l with
      | some us=>match l.all atom with
        |true=>K n us
        |false=>False
      |none=>False
    |none=>False
  | .gsl id off n _=>match Zv h id off (n*esz)with
    | some l=>match jS l with
      | some us=>match l.all atom with
        |true=>K n us
        |false=>False
      |none=>False
    |none=>False
  | .sv (.slice a n _)=>∃us,Ob (us.length=n*esz)/\Ob (∀p,gl.pf p->qgm p a us)/\Ob (qkb us)/\K n us
  | x =>match gs x with
    | some s=>match esz with
      |1=>K s.size (q18 s)
      |_=>False
    | none=>match JX x with
      | some (id,off,n,e)=>tB (ς e esz) (match h.get id with
        | some o=>match rowOf o with
          |some vs=>∃us,Ob (us.length=n*esz)/\Ob (qga vs off us)/\Ob (qkb us)/\K n us
          |none=>False
        |none=>False)
      |none=>False
def cells_at{P:Cl} {w u:World} (hw:u.heap=w.heap) {a:Addr} {us:List Value} (h:∀(j:Nat) v,us[j]? =γ v->w.cell? (a.add j)=γ v):(loadCells a us.length).run P u= .ok ⟨us⟩ u:=
 run_loadCells_list u a us λj v A=>by have:=h j v A;unfold World.cell? at this⊢;rw[hw];exact this
def q8v(s:Ck):∀v∈q18 s,v.oneCell'=true:=λv h=>by unfold q18 at h;obtain⟨b,_,rfl⟩:=List.mem_map.1 h;rfl
variable {h:T AO}
def qg8 {P:Cl} {gl:GL} {x:AV} {esz:Nat} {K:Nat->List Value->Prop} (e:OW P gl h x esz K):∃n us,qj0 P gl h x esz n us/\K n us:=by
  have known:∀{id off n:Nat} {l:List AV} {us:List Value},Zv h id off (n*esz)=γ l->jS l=γ us->l.all atom=ρ->∀{F I} {w:World} {b s t c o},I id=γ (b,s,t)->(o=s+off\/n=0)->Sim F I h w->us.length=n*esz/\(∀v∈us,v.oneCell'=ρ)/\∀H:World,H.heap=w.heap->(qzi (.slice (γ ⟨b,o,ε⟩) n c)).run P H= .ok n H/\(ν esz n (.slice (γ ⟨b,o,ε⟩) n c)).run P H= .ok ⟨us⟩ H:=by intro id off n l us A J U F I w b s t c o O ho hs;obtain⟨ys,g1,g2,g3⟩:=qa4 (P:=P) hs A O (ho.imp (λh=>h) λh=>by rw[h,Nat.zero_mul]);have:=xy J g1;subst this;exact⟨g2,F6 g1 U,λH hw=>⟨rfl,g3 H hw⟩⟩
  have len:∀{id off m:Nat} {l:List AV} {us:List Value},Zv h id off m=γ l->jS l=γ us->us.length=m:=λ{id off m l us} A J=>by
    have T:l.length=m:=by
      unfold Zv at A;split at A
      · unfold takeN at A;simp only at A;split at A
        · rename_i hh;cases A;exact hh
        · cases A
      · cases A
    have:∀(l:List AV) (us:List Value),jS l=γ us->us.length=l.length:=by
      intro l;induction l with
      |nil=>intro us h;simp[jS]at h;subst h;rfl
      | cons a l ih=>
        intro us h;simp only[jS]at h;split at h
        · split at h
          · rename_i r hr;cases h;simp[ih _ hr]
          · cases h
        · cases h
    rw[this l us J,T]
  have one:∀{l:List AV} {us:List Value},jS l=γ us->l.all atom=ρ->∀v∈us,v.oneCell'=true:=by
    intro l;induction l with
    |nil=>intro us h _ v C;simp[jS]at h;subst h;cases C
    | cons a l ih=>
      intro us h Z v C;simp only[List.all_cons,κ]at Z;simp only[jS]at h;split at h
      · rename_i u hu;split at h
        · rename_i r hr;cases h;cases C with
          | head=>
            unfold gv at hu;split at hu
            · cases hu;exact Z.1
            · cases a<;>simp[xG]at hu<;>subst hu<;>rfl
          |tail _ hm=>exact ih hr Z.2 v hm
        · cases h
      · cases h
  unfold OW at e;split at e
  · exact⟨0,[],⟨by simp,by simp,λF I w v C hs hp H hw=>by cases C;exact⟨rfl,rfl⟩⟩,e⟩
  · rename_i id off n cap;split at e;case h_2=>exact e.elim
    rename_i l T;split at e;case h_2=>exact e.elim
    rename_i us B;split at e;case h_2=>exact e.elim
    rename_i G;refine⟨n,us,⟨len T B,one B G,λF I w v C hs hp=> ?_⟩,e⟩;cases C with|sl O=>exact(known T B G O (.inl rfl) hs).2.2
  · rename_i id off n cap;split at e;case h_2=>exact e.elim
    rename_i l T;split at e;case h_2=>exact e.elim
    rename_i us B;split at e;case h_2=>exact e.elim
    rename_i G;refine⟨n,us,⟨len T B,one B G,λF I w v C hs hp=> ?_⟩,e⟩;cases C with|gsl O g1 g2 g3=>exact(known T B G O (g3.imp (λh=>h) λh=>by omega) hs).2.2
  · rename_i a n c;obtain⟨us,A,J,U,Y⟩:=e;refine⟨n,us,⟨A,U,λF I w v C hs hp H hw=> ?_⟩,Y⟩;cases C;refine⟨rfl,?_⟩;rcases J _ hp with⟨rfl,_⟩|⟨y,rfl,hy1,hy2⟩
    · have A:n*esz=0:=A.symm;cases a with
      |none=>rfl
      |some y=>simp[ν,A,loadCells,loadCellsFrom]
    · simp only[ν];rw[←A];exact cells_at hw λj v hj=>FY (hy2 j v hj)
  · split at e
    · rename_i s hs;split at e;case h_2=>exact e.elim
      refine⟨_,_,⟨by rw[q2t];omega,q8v s,λF I w v C _ hp H hw=> ?_⟩,e⟩;rw[Qv hs C];refine⟨rfl,?_⟩;simp only[ν,θ];congr 1;apply Array.toList_inj.1;rw[Array.toList_map];have:s.extract 0 s.size=s:=(by simp);rw[this];rfl
    · split at e;case h_2=>exact e.elim
      rename_i id off n ez hg;obtain⟨X,e⟩:=qT e;have X:=δ X;subst X;split at e;case h_2=>exact e.elim
      rename_i o hgt;split at e;case h_2=>exact e.elim
      rename_i vs hr;obtain⟨us,A,J,U,Y⟩:=e;refine⟨n,us,⟨A,U,λF I w v C hs hp H hw=> ?_⟩,Y⟩;rcases WR hg C with⟨rfl,rfl⟩|⟨b,s0,tt,oo,c,O,rfl,k1,k2,V⟩
      · have:us=[]:=π (by rw[A];simp);subst this;exact⟨rfl,rfl⟩
      · refine⟨rfl,?_⟩;by_cases hz:n*ez=0
        · have:us=[]:=π (by rw[A];exact hz);subst this;simp[ν,hz,loadCells,loadCellsFrom]
        · have hn:0<n:=qzg λh=>hz (by rw[h];simp);have ho:oo=s0+off:=by
            rcases V with V|V
            · exact V
            · omega
          subst ho;simp only[ν];rw[←A];exact cells_at hw (Gi hs hgt hr O J)
def qiz(h:T AO) (d:AV) (el esz len:Nat) (vs:List Value) (fz:Nat) (id:Option Nat):Prop:=vs.length=len*esz/\fz<=len*esz/\match id with
 |none=>len=0/\∀I u,VR I d u->u= .slice ε 0 0
 |some id=>∃o,h.get id=γ o/\o.rw=ρ/\(∀F I w u,VR I d u->Sim F I h w->(len=0/\u= .slice ε 0 0)\/∃b s t A c,I id=γ (b,s,t)/\u= .slice (γ ⟨b,A,ε⟩) len c/\len<=c/\c*esz<=t/\(A=s\/c=0))/\
   ∀I t ob,OR I t o ob->∃pre rest fr,ob= .cells ⟨pre++(vs++rest)⟩ el fr/\pre.length=t.1/\(vs++rest).length=t.2/\∀q,fz<=q->q<t.2->¬(fr.1<=t.1+q/\t.1+q<fr.2)
def Y_(fz m:Nat) (K:Prop):Prop:=match fz with
 |0=>K
 |f=>Ob (f<=m)/\K
def IU{fz m:Nat} {K:Prop} (h:Y_ fz m K):fz<=m/\K:=by
 unfold Y_ at h;split at h
 ·exact⟨qq8 _,h⟩
 ·exact h
def qjl:AV->Bool
 | .ssl .. =>ρ
 | .msl .. =>ρ
 |_=>Η
def OJ(h:T AO) (d:AV) (el esz:Nat) (K:Nat->List Value->Nat->Option Nat->Prop):Prop:=match d with
  | .nsl=>K 0 [] 0 ε
  | .sl id off len cap=>match h.get id with
    | some (.cells e (γ fz) _ l)=>match jS l with
      |some vs=>tB (ς e el&&(ς off 0&&(ς cap len&&(ς vs.length (len*esz)&&Ν fz (len*esz))))) (K len vs fz (γ id))
      |none=>False
    |_=>False
  | d =>match JX d with
    | some (id,off,len,u)=>match h.get id with
      | some (.row e fz vs)=>tB (ς e el&&(ς off 0&&ς u esz)) (match qjl d with
        |true=>Ob (vs.length=len*esz)/\Y_ fz (len*esz) (K len vs fz (γ id))
        |false=>Ob (len*esz<=vs.length)/\Y_ fz (len*esz) (K len (vs.take (len*esz)) fz (γ id)))
      |_=>False
    |none=>False
def qfa{d:AV} {el esz:Nat} {K:Nat->List Value->Nat->Option Nat->Prop} (e:OJ h d el esz K):∃len vs fz id,qiz h d el esz len vs fz id/\K len vs fz id:=by
  unfold OJ at e;split at e
  · exact⟨0,[],0,ε,⟨by simp,qq8 _,rfl,λI u hu=>by cases hu;rfl⟩,e⟩
  · rename_i id off len cap;split at e;case h_2=>exact e.elim
    rename_i e' fz g l X;split at e;case h_2=>exact e.elim
    rename_i vs V;obtain⟨O,e2⟩:=qT e;clear e;simp only[κ]at O;obtain⟨A,B,Z,C,Y⟩:=O;have A:=δ A;have B:=δ B;have C:=δ C;have Y:=η Y;have Z:=δ Z;subst A B Z;refine⟨cap,vs,fz,γ id,⟨C,Y,_,X,rfl,λF I w u hu hs=> ?_,λI t ob U=> ?_⟩,e2⟩
    · cases hu with
      | @sl _ _ _ _ b s t hI=>
        obtain⟨ob,k1,k2⟩:=hs.obj _ _ _ _ X hI;cases k2 with
        | @cells _ el' _ _ _ pre us rest fr hl hgr hp G J H=>
          have:=xy V hl;subst this;refine .inr ⟨b,s,t,_,cap,hI,rfl,ξ _,?_, .inl rfl⟩;simp only[ζ]at G;omega
    · cases U with
      | @cells _ el' _ _ _ pre us rest fr hl hgr hp G J H=>
        have:=xy V hl;subst this;rcases H with H|H
        · exact⟨pre,rest,fr,by rw[H],hp,G,J fz rfl⟩
        · cases H.1
  · split at e;case h_2=>exact e.elim
    rename_i id off len ez X;split at e;case h_2=>exact e.elim
    rename_i e' fz vs T;obtain⟨O,e2⟩:=qT e;clear e;simp only[κ]at O;obtain⟨A,B,C⟩:=O;have A:=δ A;have B:=δ B;have C:=δ C;subst A B C;have val:∀(F:Bool->Nat->Prop) I (w:World) u,VR I d u->Sim F I h w->(len=0/\u= .slice ε 0 0)\/∃b s t o' c,I id=γ (b,s,t)/\u= .slice (γ ⟨b,o',ε⟩) len c/\len<=c/\c*ez<=t/\(o'=s\/c=0):=λF I w u hu _=>by
      rcases WR X hu with h|⟨b,s,t,o,c,k1,k2,k3,k4,k5⟩
      · exact .inl h
      · exact .inr ⟨b,s,t,o,c,k1,k2,k3,by omega,k5.imp (λh=>by omega) λh=>h⟩
    split at e2
    · obtain⟨h1,e⟩:=e2;obtain⟨h2,e⟩:=IU e;refine⟨len,vs,fz,γ id,⟨h1,h2,_,T,rfl,val,λI t ob U=> ?_⟩,e⟩;cases U with
      | @row _ _ pre _ rest fr hp G J=>exact⟨pre,rest,fr,rfl,hp,G,J⟩
    · obtain⟨h1,e⟩:=e2;obtain⟨h2,e⟩:=IU e;refine⟨len,_,fz,γ id,⟨by rw[List.length_take];omega,h2,_,T,rfl,val,λI t ob U=> ?_⟩,e⟩;cases U with
      | @row _ _ pre _ rest fr hp G J=>
        refine⟨pre,vs.drop (len*ez)++rest,fr,?_,hp,?_,J⟩
        · rw[←qqk (vs.take _),qq5]
        · rw[←qqk (vs.take _),qq5];exact G
def OD (P : Cl) (gl:GL) (h:T AO) (nx:Nat) (ts:List TypeId) (d x:AV) (K:AV->T AO->Nat->GS->Prop):Prop:=match ts with
  | [t0, t1] => match P.underlying t0 with
    | some (.slice el)=>match WT P [t0,t1]with
      | true => match P.info? el with
        | some i=>match xC P el with
          | some z=>tB (ς z.length i.size&&(Ν 1 i.size&&Ν 1 i.bytes)) (OJ h d el i.size λlen vs fz id=>OW P gl h x i.size λn us=>Ob ((len+n)*i.bytes<=140737488355328)/\match(match id with|some id=>T.put 64 id ε h|none=>γ h)with
            | some u=>match T.put 64 nx (γ (.row el fz (vs++us))) u with
              | some h'=>match h'.get (nx+1)with
                |none=>K (.ssl nx 0 (len+n) i.size (nx+1)) h' (nx+2) ε
                |some _=>False
              |none=>False
            |none=>False)
          |none=>False
        |none=>False
      |false=>False
    |_=>False
  |_=>False
def qes {P:Cl} {gl:GL} {nx:Nat} {ts:List TypeId} {d x:AV} {K:AV->T AO->Nat->GS->Prop} (e:OD P gl h nx ts d x K):∃r h' nx' g,K r h' nx' g/\nx<=nx'/\g=ε/\∀(F:Bool->Nat->Prop) (I:In) (w:World) (u v:Value) (ty:TypeId),VR I d u->VR I x v->Sim F I h w->(∀b,F ρ b->b<w.heap.size)->gl.pf (q11 F w)->vJ I nx nx'->
    ∃z I' C,(qqp ⟨ts⟩ ty ⟨[u,v]⟩).run P w= .ok z C/\VR I' r z/\Grow F I nx w I' nx' h' C:=by
  unfold OD at e;split at e;case h_2=>exact e.elim
  rename_i t0 t1;split at e;case h_2=>exact e.elim
  rename_i el h0;split at e;case h_2=>exact e.elim
  rename_i Z;split at e;case h_2=>exact e.elim
  rename_i i hi;split at e;case h_2=>exact e.elim
  rename_i z hz;obtain⟨hb,e1⟩:=qT e;clear e;simp only[κ]at hb;obtain⟨b1,b2,b3⟩:=hb;have b1:=δ b1;have b2:=η b2;have b3:=η b3;obtain⟨len,vs,fz,id,hd,e2⟩:=qfa e1;obtain⟨n,us,hs,hlim,e3⟩:=qg8 e2;split at e3;case h_2=>exact e3.elim
  rename_i h1 J;split at e3;case h_2=>exact e3.elim
  rename_i h' hp;split at e3;case h_2=>exact e3.elim
  rename_i G;refine⟨_,_,_,_,e3,by omega,rfl,λF I w u v ty hu hv B low hpf fr=> ?_⟩;obtain⟨s1,s2,s3⟩:=hs;have src:=s3 F I w v hv B hpf;obtain⟨d1,d2,d3⟩:=hd;obtain⟨zv,z1,z2⟩:=qc3 hi hz;rw[b1]at z2;have zc:∀k,(Ε zv.cells k).size=k*i.size:=λk=>by rw[size_zeroCells,z2]
  have I0:I nx=none:=fr nx (ξ _) (by omega);have I1:I (nx+1)=none:=fr (nx+1) (by omega) (by omega);have sim1:Sim F I h1 w:=by
    cases id with
    |none=>simp only[Option.some.injEq]at J;subst J;exact B
    |some id=>exact B.drop J
  have tk:∀(q:SV),Pl q.1->∃y,zx y=q:=λq hq=>Ik q hq;have grow:∀(base:Option Addr) (sCap:Nat),u= .slice base len sCap->(∀C:World,C.heap=w.heap->(ν i.size len (.slice base len sCap)).run P C= .ok ⟨vs⟩ C)->¬len+n<=sCap->∃z I' C,(qqp ⟨[t0,t1]⟩ ty ⟨[u,v]⟩).run P w= .ok z C/\VR I' (.ssl nx 0 (len+n) i.size (nx+1)) z/\Grow F I nx w I' (nx+2) h' C:=by
    intro base sCap O ho hr;subst O;have hrun:=q7d (P:=P) (ty:=ty) h0 Z hi z1 (src w rfl).1 (λC hw=>(src C hw).2) ho hr b3 hlim;have hle:=Zp (w.heap.size,0,grownCap w (len+n) sCap el*i.size) I0;have hcap:=grownCap_ge w (len+n) sCap el;have V:(⟨vs⟩++(⟨us⟩++Ε zv.cells (grownCap w (len+n) sCap el- (len+n))):Array Value)=⟨[]++((vs++us)++(Ε zv.cells (grownCap w (len+n) sCap el- (len+n))).toList)⟩:=(by apply Array.toList_inj.1;simp);have H:OR (ext I nx (w.heap.size,0,grownCap w (len+n) sCap el*i.size)) (0,grownCap w (len+n) sCap el*i.size) (.row el fz (vs++us)) (.cells (⟨vs⟩++(⟨us⟩++Ε zv.cells (grownCap w (len+n) sCap el- (len+n)))) el):=by rw[V];refine .row rfl ?_ (λo _ _=>by simp);have hzl:(Ε zv.cells (grownCap w (len+n) sCap el- (len+n))).toList.length=(grownCap w (len+n) sCap el- (len+n))*i.size:=(by rw[τ,zc]);show(vs++us++_).length=grownCap w (len+n) sCap el*i.size;rw[ζ,ζ,hzl,d1,s1,←qqd,←qqd];congr 1;omega
    have hg:=sim1.push' I0 low hp H;obtain⟨y,hy⟩:=tk (γ ⟨w.heap.size,0,ε⟩,len+n,grownCap w (len+n) sCap el) trivial;have hg2:=Grow.tok (y:=y) hg (qqe _) (by rw[ext,if_neg (by omega)];exact I1) G;refine⟨_,_,_,hrun,?_,hg2⟩;exact .ssl (b:=w.heap.size) (s:=0) (t:=grownCap w (len+n) sCap el*i.size) (c:=grownCap w (len+n) sCap el) (o:=0) (by rw[ext,if_neg (by omega)];exact z6 _ _ _) hcap (by omega) (.inl rfl) (z6 _ _ _) hy
  have nilc:len=0->u= .slice ε 0 0->∃z I' C,(qqp ⟨[t0,t1]⟩ ty ⟨[u,v]⟩).run P w= .ok z C/\VR I' (.ssl nx 0 (len+n) i.size (nx+1)) z/\Grow F I nx w I' (nx+2) h' C:=λhl O=>by
    have hvs:vs=[]:=π (by rw[d1,hl];simp);by_cases hn:n=0
    · have hg:=Grow.tok (y:=(0,0,0)) (Grow.put0 (sim1.grow nx) I0 hp) (qqe _) I1 G;refine⟨.slice ε 0 0,_,w,?_, .ssl0 (by omega) (z6 _ _ _) rfl,hg⟩;rw[O];have:=NH (P:=P) (ty:=ty) (base:=ε) (sLen:=0) (sCap:=0) h0 Z hi (src w rfl).1 (src w rfl).2 (by omega);rw[this,hn];rfl
    · refine grow ε 0 (by rw[O,hl]) (λC hw=>by rw[hvs];rfl) (by omega)
  cases id with
  |none=>exact nilc d3.1 (d3.2 I u hu)
  | some id =>
    obtain⟨o,hg,hrw,hval,hob⟩:=d3;rcases hval F I w u hu B with⟨hl,O⟩|⟨b,s,t,U,c,hI,rfl,k1,k2,k3⟩
    · exact nilc hl O
    · obtain⟨ob,hb',hor⟩:=B.obj _ _ _ _ hg hI;obtain⟨pre,rest,frz,rfl,Y,htl,X⟩:=hob _ _ _ hor;simp only at Y htl X J;have rdd:∀C:World,C.heap=w.heap->(ν i.size len (.slice (γ ⟨b,U,ε⟩) len c)).run P C= .ok ⟨vs⟩ C:=λC hw=>by
        simp only[ν];by_cases hz:len*i.size=0
        · have:vs=[]:=π (by rw[d1];exact hz);subst this;simp[hz,loadCells,loadCellsFrom]
        · have hn:0<len:=qzg λh=>hz (by rw[h];simp);have ho:U=s:=by
            rcases k3 with k3|k3
            · exact k3
            · omega
          subst ho;rw[←d1];refine cells_at hw λj v hj=> ?_;rw[ku,cell_of hb'];simp only[qq4];rw[qqw (by omega),qqx (by have:=(List.getElem?_eq_some_iff.1 hj).1;omega),←hj];congr 1;omega
      by_cases A:len+n<=c
      · by_cases hn:n=0
        ·
          have hus:us=[]:=π (by rw[s1,hn];simp);obtain⟨y,hy⟩:=tk (γ ⟨b,U,ε⟩,len+n,c) trivial;have H:OR (ext I nx (b,s,t)) (s,t) (.row el fz (vs++us)) (.cells ⟨pre++(vs++rest)⟩ el frz):=(by rw[hus,List.append_nil];exact .row Y htl X);have hgr:=Grow.tok (y:=y) (B.over hg hrw hI I0 J hp hb' H (λ_ _=>rfl) rfl (.refl w)) (qqe _) (by rw[ext,if_neg (by omega)];exact I1) G;refine⟨.slice (γ ⟨b,U,ε⟩) (len+n) c,_,w,?_, .ssl (by rw[ext,if_neg (by omega)];exact z6 _ _ _) A (by omega) (k3.imp (λh=>by omega) λh=>h) (z6 _ _ _) hy,hgr⟩;rw[NH (P:=P) h0 Z hi (src w rfl).1 (src w rfl).2 A,hus];simp[storeCells,α]
        · have ho:U=s:=by
            rcases k3 with k3|k3
            · exact k3
            · omega
          subst ho;have hsp:(len+n)*i.size<=c*i.size:=qq9 _ A;rw[qqd]at hsp;have hrl:rest.length=t- len*i.size:=(by rw[ζ]at htl;omega);obtain⟨C,q1,q2,q3,q4,q5⟩:=F4 (P:=P) (o:=U+len*i.size) us 0 (pre++(vs++rest)) w hb' (by simp only[ζ];rw[s1];omega) (λj a1 a2=>by have:=X (j- U) (by omega) (by rw[s1]at a2;omega);rw[show U+(j- U)=j by omega]at this;exact this) s2;rw[qzu,←Y,Gu us pre (vs++rest) (len*i.size),qeg us (vs++rest) (len*i.size) (by rw[ζ,s1];omega),List.take_append_of_le_length (by omega),qq2 (by omega)]at q2;have H:OR (ext I nx (b,U,t)) (U,t) (.row el fz (vs++us)) (.cells ⟨pre++(vs++us++(vs++rest).drop (len*i.size+us.length))⟩ el frz):=(by refine .row Y ?_ X;simp only[ζ,List.length_drop];rw[s1];omega);obtain⟨y,hy⟩:=tk (γ ⟨b,U,ε⟩,len+n,c) trivial;have hgr:=Grow.tok (y:=y) (B.over hg hrw hI I0 J hp q2 H q3 q4 q5) (qqe _) (by rw[ext,if_neg (by omega)];exact I1) G;refine⟨.slice (γ ⟨b,U,ε⟩) (len+n) c,_,C,?_, .ssl (by rw[ext,if_neg (by omega)];exact z6 _ _ _) A (by omega) (.inl (by omega)) (z6 _ _ _) hy,hgr⟩;rw[NH (P:=P) h0 Z hi (src w rfl).1 (src w rfl).2 A];simp only[ku];rw[q1];rfl
      · exact grow _ c rfl rdd A
end
section
def Uk (P:Cl) (h:T AO) (ty:TypeId) (id off:Nat) (a:AV) (K:T AO->Prop):Prop:=match h.get id with
  | some (.row e fz vs)=>match P.info? ty with
    | some i=>match jS (JM a)with
      | some us=>tB (ς us.length i.size&&(JM a).all atom) (Ob (off+us.length<=vs.length)/\Y_ fz off (match T.put 64 id (γ (.row e fz (spl vs off us))) h with
        |some h'=>K h'
        |none=>False))
      |none=>False
    |none=>False
  |_=>False
def qie{P:Cl} {h:T AO} {ty:TypeId} {id off:Nat} {a:AV} {K:T AO->Prop} (e:Uk P h ty id off a K):∃h',K h'/\∀(F:Bool->Nat->Prop) (I:In) (w:World) (nx:Nat) (v:Value) (b s t:Nat),Sim F I h w->VR I a v->I id=γ (b,s,t)->∃C,(storeVar ty ⟨b,s+off,ε⟩ v).run P w= .ok () C/\Grow F I nx w I nx h' C:=by
  unfold Uk at e;split at e;case h_2=>exact e.elim
  rename_i el fz vs Z;split at e;case h_2=>exact e.elim
  rename_i i hi;split at e;case h_2=>exact e.elim
  rename_i us V;obtain⟨G,hlen,e2⟩:=qT e;simp only[κ]at G;have U:=δ G.1;obtain⟨hfz,e3⟩:=IU e2;split at e3;case h_2=>exact e3.elim
  rename_i h' hp;refine⟨h',e3,λF I w nx v b s t hs hv X=> ?_⟩;have Y:=F7 hv;have u:=xy V Y;obtain⟨ob,H,ho⟩:=hs.obj _ _ _ _ Z X;cases ho with
  | @row _ _ pre _ rest fr A B O=>
    simp only at A B O;obtain⟨C,h1,h2,h3,h4,h5⟩:=F4 (P:=P) (o:=s+off) us 0 (pre++(vs++rest)) w H (by simp only[ζ];omega) (λj a1 a2=>by have:=O (j- s) (by omega) (by simp only[ζ]at B;omega);rw[show s+(j- s)=j by omega]at this;exact this) (by rw[←u];exact F6 Y G.2);refine⟨C,?_,hs.upd Z rfl X hp h2 ?_ h3 h4 h5 nx⟩
    · have:v.cells.size=i.size:=(by rw[←τ,u];exact U);have J:v.cells.toList=us:=u;simp[storeVar,Eng.run_sizeOf hi,this,α,J,h1]
    · rw[qzu,←A,Gu us pre (vs++rest) off,NO us vs rest off hlen];exact .row (t:=(pre.length,t)) rfl (by simp only[ζ,q7p];simp only[ζ]at B;exact B) (by rw[A];exact O)
def Hs(P:Cl):Je:=λgl t h nx o K=>match o.op with
  | .call c=>match c.callee with
    | .builtin .append=>match kJ t c.args.toList with
      |some [d,x]=>OD P gl h nx c.argTypes.toList d x λr h' u g=>K r h' u g
      |_=>False
    |_=>False
  | .store ty x y=>match ev t x with
    | some (.sptr id off)=>match ev t y with
      |some a=>Uk P h ty id off a λh'=>K vp h' nx ε
      |none=>False
    | some (.ptr id off)=>match ev t y with
      |some a=>Uk P h ty id off a λh'=>K vp h' nx ε
      |none=>False
    |_=>False
  |_=>False
def qi3(P:Cl):W8 P (Hs P):=by
  intro gl t h nx o K e;obtain⟨dst,op,ty,pos,after,guard⟩:=o;cases op with
  | call c=>
    obtain⟨callee,args,C⟩:=c;simp only[Hs]at e;split at e;case h_2=>exact e.elim
    split at e;case h_2=>exact e.elim
    rename_i d x U;obtain⟨r,h',A,g,e1,e2,rfl,e3⟩:=qes e;refine⟨r,h',A,ε,⟨e2,λF I n a w st fr K' Q V=> ?_⟩,e1⟩;obtain⟨u,v,hv,O,h2⟩:=Uf (vI st.tr U);obtain⟨z,I',J,g1,g2,g3⟩:=e3 F I w u v ty O h2 st.sim st.low st.pf fr;have ea:args.map a.eval=⟨[u,v]⟩:=(by apply Array.toList_inj.1;simpa using hv);have et:(⟨C.toList⟩:Array TypeId)=C:=(by simp);rw[et]at g1;unfold Oper.wp;have:(execOp a.eval ⟨dst, .call ⟨.builtin .append,args,C⟩,ty,pos,after,guard⟩).run P w= .ok (.value z) J:=(by simp only[execOp,resolve,ι,θ,α,invoke,ea];simp only[builtin,ι,g1,α,θ]);rw[this];exact V z I' J g2 g3 trivial
  | store B x y=>
    have go:∀(id off:Nat) (a:AV) (av:AV),ev t x=γ av->(∀I z,VR I av z->∃b s Z,I id=γ (b,s,Z)/\z= .pointer (γ ⟨b,s+off,ε⟩))->ev t y=γ a->(Uk P h B id off a λh'=>K vp h' nx ε)->∃v h' A g,wL gl P t h nx ⟨dst, .store B x y,ty,pos,after,guard⟩ g v h' A/\K v h' A g:=λid off a av hx T H e=>by obtain⟨h',e1,e2⟩:=qie e;refine⟨vp,h',nx,ε,⟨ξ _,λF I n ac w st fr K' Q V=> ?_⟩,e1⟩;have O:=ql st.tr hx;generalize X:ac.eval x=xv at O;obtain⟨b,s,Z,G,rfl⟩:=T I xv O;obtain⟨J,g1,g2⟩:=e2 F I w nx _ b s Z st.sim (ql st.tr H) G;unfold Oper.wp;have:(execOp ac.eval ⟨dst, .store B x y,ty,pos,after,guard⟩).run P w= .ok .skip J:=(by simp[execOp,X,Instr.storeAt,υ,g1,α]);rw[this];exact V undef I J (xw I) g2 trivial
    simp only[Hs]at e;split at e
    · rename_i id off hx;split at e;case h_2=>exact e.elim
      rename_i a H;exact go id off a _ hx (λI z Y=>by cases Y with|sptr G=>exact⟨_,_,_,G,rfl⟩) H e
    · rename_i id off hx;split at e;case h_2=>exact e.elim
      rename_i a H;exact go id off a _ hx (λI z Y=>by cases Y with|ptr G=>exact⟨_,_,_,G,rfl⟩) H e
    · exact e.elim
  |_=>exact e.elim
def q6w(z:List Value):Nat->List Value
 |0=>[]
 |n+1=>z++q6w z n
def Gp(z:List Value):∀n,q6w z n=jG z n
 |0=>rfl
 |n+1=>by rw[q6w,jG,Gp z n]
def q6x(z:List Value):∀n,(q6w z n).length=n*z.length
 |0=>by simp[q6w]
 |n+1=>by rw[q6w,ζ,q6x z n,Nat.succ_mul];omega
def jN(s:Ck):List Value:=(Β s s.size 0 #[]).toList
def XQ (P:Cl):YX:=λt nx o K=>match o.op with
  | .convert s d x=>match P.underlying s,P.underlying d with
    | some .string,γ (.slice e)=>match P.underlying e with
      | some (.int .u8)=>match ev t x with
        | some a=>match gs a with
          |some r=>K (.msl nx r.size 1) (.row e 0 (q18 r))
          |none=>False
        |none=>False
      | some (.int .i32)=>match ev t x with
        | some a=>match gs a with
          |some r=>Ob (r.size<1000000000)/\K (.msl nx (jN r).length 1) (.row e 0 (jN r))
          |none=>False
        |none=>False
      |_=>False
    |_,_=>False
  | .makeSlice ty x y=>match P.underlying ty with
    | some (.slice e)=>match P.info? e with
      | some i => match ev t x with
        | some a=>match ev t y with
          | some b=>match gi a with
            | some (_,n)=>match gi b with
              | some (_,c)=>match xC P e with
                | some z=>match jS z with
                  |some h=>tB (ς z.length i.size&&Ν 1 i.size) (Ob (0<=n/\n<=c/\(i.bytes:Int)*c<=140737488355328/\c<140737488355328)/\K (.msl nx n.toNat i.size) (.row e 0 (q6w h n.toNat)))
                  |none=>False
                |none=>False
              |none=>False
            |none=>False
          |none=>False
        |none=>False
      |none=>False
    |_=>False
  |_=>False
def wrap64(x:Int) (h: -9223372036854775808<=x) (u:x<=9223372036854775807):IntKind.i64.wrap x=x:=by unfold Κ;simp[Τ,Λ];omega
def q6y(z:List Value) (m:Nat):∀n,jG z (n+m)=jG z n++jG z m
 |0=>by simp[jG]
 |n+1=>by rw[Nat.add_right_comm,jG,jG,q6y z m n,qqk]
def qgu(P:Cl):Ox P (XQ P):=by
  intro t nx o K e;obtain⟨dst,op,ty,pos,after,guard⟩:=o;cases op with
  | convert s d x=>
    simp only[XQ]at e;split at e;case h_2=>exact e.elim
    rename_i el hs hd;split at e;case h_3=>exact e.elim
    case h_2=>
      rename_i he;split at e;case h_2=>exact e.elim
      rename_i a ha;split at e;case h_2=>exact e.elim
      rename_i r hr;obtain⟨H,e⟩:=e;have H:r.size<1000000000:=H;refine⟨_,_,λI ac Y w=> ?_,e⟩;have hx:=Qv hr (ql Y ha);have hn:(Β r r.size 0 #[]).size=(jN r).length:=(by simp[jN]);have hbd:=size_runesFrom r r.size 0 #[];have A:=run_runes_of_string (P:=P) w s d el r hs hd he (by simp at hbd;omega);rw[hn]at A;have hge:=grownCap_ge w (jN r).length 0 el;have X:Β r r.size 0 #[]++φ (grownCap w (jN r).length 0 el- (jN r).length) (χ .i32 0)=⟨[]++(jN r++qzr (grownCap w (jN r).length 0 el- (jN r).length) (χ .i32 0))⟩:=(by apply Array.toList_inj.1;simp[jN]);have B:(Β r r.size 0 #[]++φ (grownCap w (jN r).length 0 el- (jN r).length) (χ .i32 0)).size=grownCap w (jN r).length 0 el:=(by rw[qqi,hn,Ω];omega);refine⟨.slice (γ ⟨w.heap.size,0,ε⟩) (jN r).length (grownCap w (jN r).length 0 el),(.cells (Β r r.size 0 #[]++φ (grownCap w (jN r).length 0 el- (jN r).length) (χ .i32 0)) el),(0,(Β r r.size 0 #[]++φ (grownCap w (jN r).length 0 el- (jN r).length) (χ .i32 0)).size),w.drew.alloc (.cells (Β r r.size 0 #[]++φ (grownCap w (jN r).length 0 el- (jN r).length) (χ .i32 0)) el),by simp[execOp,hx,A,α],rfl,⟨rfl,rfl,rfl⟩,λI' hl Z=>⟨?_,?_⟩⟩
      · have:=VR.msl (len:=(jN r).length) (esz:=1) Z (by rw[B];omega) (by omega);rw[Nat.div_one,B]at this;exact this
      · rw[X];refine .row rfl ?_ (λo _ V=> ?_)
        · simp
        simp
    rename_i he;split at e;case h_2=>exact e.elim
    rename_i a ha;split at e;case h_2=>exact e.elim
    rename_i r hr;refine⟨_,_,λI ac Y w=> ?_,e⟩;have hx:=Qv hr (ql Y ha);have A:=Lib.run_convert_string_bytes (P:=P) w s d el r hs hd he;have U:=q1s w el r;have X:Lib.bytesCells w el r=⟨[]++(q18 r++qzr (grownCap w r.size 0 el- r.size) (.int .u8 0))⟩:=(by apply Array.toList_inj.1;simp only[Lib.bytesCells];simp[q18]);have hge:=grownCap_ge w r.size 0 el;have B:(Lib.bytesCells w el r).size=grownCap w r.size 0 el:=(by rw[X];simp[q2t];omega);refine⟨_,_,(0,(Lib.bytesCells w el r).size),_,by simp[execOp,hx,A,α];rfl,U,⟨rfl,rfl,rfl⟩,λI' hl Z=>⟨?_,?_⟩⟩
    · have:=VR.msl (len:=r.size) (esz:=1) Z (by rw[B];omega) (by omega);rw[Nat.div_one,B]at this;exact this
    · rw[X];refine .row rfl ?_ (λo _ V=> ?_)
      · simp
      · simp at V⊢;omega
  | makeSlice sty x y=>
    simp only[XQ]at e;split at e;case h_2=>exact e.elim
    rename_i el hu;split at e;case h_2=>exact e.elim
    rename_i i hi;split at e;case h_2=>exact e.elim
    rename_i a ha;split at e;case h_2=>exact e.elim
    rename_i b hb;split at e;case h_2=>exact e.elim
    rename_i k n hn;split at e;case h_2=>exact e.elim
    rename_i j c X;split at e;case h_2=>exact e.elim
    rename_i z hz;split at e;case h_2=>exact e.elim
    rename_i J hzs;obtain⟨T,H,e2⟩:=qT e;simp only[κ]at T;have hzl:=δ T.1;have G:=η T.2;obtain⟨o1,o2,o3,o4⟩:=H;refine⟨_,_,λI ac Y w=> ?_,e2⟩;obtain⟨zv,h1,V⟩:=WH hz I;have hzv:zv.cells.toList=J:=xy hzs V;have B:zv.cells.size=i.size:=(by rw[←τ,←V.len];exact hzl);obtain⟨n',rfl⟩:=qq3 o1;obtain⟨u,rfl⟩:=qq3 (Int.le_trans o1 o2);have hnc:n'<=u:=(by omega);have wn:=wrap64 n' (by omega) (by omega);have wc:=wrap64 u (by omega) (by omega);have hbig:i.bytes*u<=140737488355328:=by have h3:((i.bytes*u:Nat):Int)<=140737488355328:=(by rw[Int.natCast_mul];exact o3);omega
    have hne:¬u*i.size=0\/u=0:=by
      rcases qqj u with h|h
      · exact .inr h
      · exact .inl (Nat.ne_of_gt (Nat.mul_pos h G))
    have hti:(typeInfo el).run P w= .ok i w:=(by simp[typeInfo,program,Μ,hi,bind,qqc,pure]);have row:(⟨jG J u⟩:Array Value)=⟨[]++(q6w J n'++jG J (u- n'))⟩:=(by rw[Gp,List.nil_append,←q6y];congr 2;omega);have C:∀m,(jG J m).length=m*i.size:=λm=>(by rw[←Gp,q6x,←B,←hzv,τ]);have b2:((i.bytes:Int)*(u:Int))<=2 ^ 47:=o3;have t1:((decide ((u:Int)<0))||decide ((i.bytes:Int)*(u:Int)>2 ^ 48))=false:=(by simp only[qq6,decide_eq_false_iff_not];omega);have t2:¬(u*i.bytes>roomBytes):=Nat.not_lt.2 (by rw[Nat.mul_comm];exact hbig);have t0:(decide ((u:Int)<0)||decide ((i.bytes:Int)*(u:Int)>2 ^ 48)||decide ((n':Int)<0)||decide ((n':Int)>(u:Int)))=false:=(by rw[t1];simp only[Bool.false_or,qq6,decide_eq_false_iff_not];exact⟨by omega,by omega⟩);have O:∀m:Array Value,(u*i.size=0/\m= #[]\/¬u*i.size=0/\m=zv.cells)->((Array.range (u*i.size)).map (λk=>m[k % m.size]!))=(⟨jG J u⟩:Array Value):=λm hm=>by
      rcases hm with⟨g0,rfl⟩|⟨g0,rfl⟩
      · have:u=0:=by
          rcases hne with h|h
          · exact absurd g0 h
          · exact h
        rw[this];simp[jG]
      · rw[←B,NQ zv.cells u,hzv]
    have A:(qzj sty (.int k n') (.int j u)).run P w= .ok (.slice (γ ⟨w.heap.size,0,ε⟩) n' u) (w.alloc (.cells ⟨jG J u⟩ el)):=by
      simp only[qzj,asInt,asIntOf,ι,run_underlying hu,θ,α,hti,wn,wc];rw[t0];simp only[Bool.false_eq_true,if_false,ι,askRoom,Int.toNat_natCast,if_neg t2,θ,α,Eng.run_sizeOf hi];by_cases g0:u*i.size=0
      · simp only[if_pos g0,ι,θ,α,O _ (.inl ⟨g0,rfl⟩)];simp[newRow,newObj,Μ,α]
      · simp only[if_neg g0,ι,θ,α,h1 w,O _ (.inr ⟨g0,rfl⟩)];simp[newRow,newObj,Μ,α]
    refine⟨_, .cells ⟨jG J u⟩ el,(0,u*i.size),w.alloc (.cells ⟨jG J u⟩ el),by simp only[execOp,vK hn (ql Y ha),vK X (ql Y hb),ι];rw[A];rfl,rfl,⟨rfl,rfl,rfl⟩,λI' hl Z=>⟨?_,?_⟩⟩
    · have:=VR.msl (len:=n') (esz:=i.size) Z (qq9 _ hnc) G;rw[Nat.mul_div_cancel _ G]at this;exact this
    · rw[row];refine .row rfl ?_ (λo _ V=>by simp);rw[ζ,Gp,C,C,←qqd];congr 1;omega
  |_=>exact e.elim
end
section
def GI(P:Cl):xk:=uF P
def I6(P:Cl):Qx P (GI P):=qhv P
end
section
def qdv(a b:Ck):(a==b)=decide (a=b):=by rw[qzm,decide_eq_true_iff];obtain⟨x⟩:=a;obtain⟨y⟩:=b;show(x==y)=ρ↔_;rw[beq_iff_eq,ByteArray.mk.injEq]
section
variable {P:Cl} {kt el:TypeId} {i:TypeInfo}
def Ga(he:P.underlying el=γ (.int .i64)) (hi:P.info? el=γ i) (hs:i.size=1) (cs:Array Value) (j:Nat) (v:Value) (h:cs[j]? =γ v) (w:World):(part el cs j).run P w= .ok v w:=by simp[part,isAgg,run_underlying he,α,h]
def q6o(hi:P.info? el=γ i) (hs:i.size=1) (w:World):(sizeOf el).run P w= .ok 1 w:=by simp[sizeOf,typeInfo,program,Μ,hi,bind,qqc,pure,hs]
def int_eq(he:P.underlying el=γ (.int .i64)) (a c:Int) (n:Nat) (w:World):(Ψ (n+1) el (.int .i64 a) (.int .i64 c)).run P w= .ok (decide (a=c)) w:=by simp[Ψ,run_underlying he,α];rw[qzm,beq_iff_eq,decide_eq_true_iff]
def qfw(G:P.underlying kt=γ (.array 2 el)) (he:P.underlying el=γ (.int .i64)) (hi:P.info? el=γ i) (hs:i.size=1) (a b c d:Int) (w:World):(qqz kt (.agg ⟨[.int .i64 a, .int .i64 b]⟩) (.agg ⟨[.int .i64 c, .int .i64 d]⟩)).run P w= .ok (decide (a=c)&&decide (b=d)) w:=by
 have e:Op.maxDepth=9998+1+1:=rfl;rw[qqz,e,Ψ];have h:=λ(x y:Int)=>Ga he hi hs ⟨[.int .i64 x, .int .i64 y]⟩ 0 (.int .i64 x) rfl w;have u:=λ(x y:Int)=>Ga he hi hs ⟨[.int .i64 x, .int .i64 y]⟩ 1 (.int .i64 y) rfl w;have C:=q6o hi hs w;have q:=λ(x y:Int)=>int_eq he x y 9998 w;simp only[qzt]at q;simp[run_underlying G,α,C,Std.Legacy.Range.forIn_eq_forIn_range',Std.Legacy.Range.size,List.range'_succ,List.range'_zero,List.forIn_cons,List.forIn_nil,h,u,q];by_cases A:a=c
 ·subst A;by_cases B:b=d
  ·subst B;simp[h,u,q,α]
  ·simp[B,h,u,q,α]
 ·simp[A,h,u,q,α]
def q95(u:P.underlying kt=γ (.array 2 el)) (he:P.underlying el=γ (.int .i64)) (hi:P.info? el=γ i) (hs:i.size=1) (a b:Int) (em:Bool) (w:World):(ω em 10000 kt (.agg ⟨[.int .i64 a, .int .i64 b]⟩)).run P w= .ok () w:=by
 have e:(10000:Nat)=9998+1+1:=rfl;rw[e,ω];have A:=λ(x y:Int)=>Ga he hi hs ⟨[.int .i64 x, .int .i64 y]⟩ 0 (.int .i64 x) rfl w;have B:=λ(x y:Int)=>Ga he hi hs ⟨[.int .i64 x, .int .i64 y]⟩ 1 (.int .i64 y) rfl w;have h:=q6o hi hs w;have q:∀x,(ω em (9998+1) el (.int .i64 x)).run P w= .ok () w:=λx=>by rw[ω];simp[run_underlying he,α]
 simp only[qzt]at q;simp[run_underlying u,α,h,Std.Legacy.Range.forIn_eq_forIn_range',Std.Legacy.Range.size,A,B,q,List.range']
end
def kOK:TypeDesc->Value->Prop
 | .string, .string _=>True
 | .int k, .int j _=>k=j
 | .array 2 _, .agg ⟨[.int .i64 _, .int .i64 _]⟩=>True
 |_,_=>False
def JF(P:Cl):TypeDesc->Bool
  | .array _ el=>match P.underlying el with
    | some (.int .i64)=>match P.info? el with
      |some i=>ς i.size 1
      |none=>Η
    |_=>Η
  |_=>ρ
def qb1{P:Cl} {n:Nat} {el:TypeId} (h:JF P (.array n el)=ρ):∃i,P.underlying el=γ (.int .i64)/\P.info? el=γ i/\i.size=1:=by
 simp only[JF]at h;split at h;case h_2=>cases h
 rename_i u;split at h;case h_2=>cases h
 rename_i i A;exact⟨i,u,A,δ h⟩
variable {kd:TypeDesc}
def xz{v:Value} (h:kOK kd v):(kd= .string/\∃s,v= .string s)\/(∃k n,kd= .int k/\v= .int k n)\/∃el a b,kd= .array 2 el/\v= .agg ⟨[.int .i64 a, .int .i64 b]⟩:=by
 unfold kOK at h;split at h
 ·exact .inl ⟨rfl,_,rfl⟩
 ·subst h;exact .inr (.inl ⟨_,_,rfl,rfl⟩)
 ·exact .inr (.inr ⟨_,_,_,rfl,rfl⟩)
 ·exact h.elim
def yX:Value->Value->Bool
 | .string a, .string b=>decide (a=b)
 | .int _ a, .int _ b=>decide (a=b)
 | .agg ⟨[.int _ a, .int _ b]⟩, .agg ⟨[.int _ c, .int _ d]⟩=>decide (a=c)&&decide (b=d)
 |_,_=>Η
def q1k(k:Value):List MapEntry->Nat->Option (Nat×Value)
  | [],_=>ε
  | e::es,i=>match yX k e.key with
    |true=>γ (i,e.val)
    |false=>q1k k es (i+1)
def q54{kd:TypeDesc} {k:Value} (A:kOK kd k) (B:∀el,kd≠ .array 2 el):∀(es:List MapEntry) (i:Nat),(∀e∈es,kOK kd e.key)->qqf kd k es i=γ (q1k k es i)
  | [],i,_=>rfl
  | e ::es,i,h=>by
    have he:=h e Ξ;have C:=q54 A B es (i+1) λe m=>h e (Ι _ m);have key:qqg kd k e.key=γ (yX k e.key):=by
      rcases xz A with⟨rfl,a,rfl⟩|⟨q,a,rfl,rfl⟩|⟨el,a,b,rfl,rfl⟩
      · rcases xz he with⟨_,b,u⟩|⟨G,b,hq,_⟩|⟨_,_,_,hq,_⟩
        · rw[u];simp only[qqg,yX,qdv]
        · cases hq
        · cases hq
      · rcases xz he with⟨hq,_⟩|⟨G,b,hq,u⟩|⟨_,_,_,hq,_⟩
        · cases hq
        · cases hq;rw[u];simp only[qqg,yX,if_true];congr 1
        · cases hq
      · exact absurd rfl (B el)
    rw[qqf,key,q1k];cases h:yX k e.key
    · simp only[];exact C
    · rfl
def q53{P:Cl} {kt el:TypeId} {i:TypeInfo} (hu:P.underlying kt=γ (.array 2 el)) (u:P.underlying el=γ (.int .i64)) (A:P.info? el=γ i) (B:i.size=1) {k:Value} (H:kOK (.array 2 el) k) (w:World):∀(es:List MapEntry) (j:Nat),(∀e∈es,kOK (.array 2 el) e.key)->(qqq kt k es j).run P w= .ok (q1k k es j) w
  | [],j,_=>rfl
  | e ::es,j,h=>by
    have he:=h e Ξ;have J:=q53 hu u A B H w es (j+1) λe m=>h e (Ι _ m);rcases xz H with⟨hq,_⟩|⟨_,_,hq,_⟩|⟨_,a,b,hq,rfl⟩
    · cases hq
    · cases hq
    rcases xz he with⟨hq,_⟩|⟨_,_,hq,_⟩|⟨_,c,d,hq,C⟩
    · cases hq
    · cases hq
    have hp:=qfw (w:=w) hu u A B a b c d;rw[q1k,C];have ks:yX (.agg ⟨[.int .i64 a, .int .i64 b]⟩) (.agg ⟨[.int .i64 c, .int .i64 d]⟩)=(decide (a=c)&&decide (b=d)):=rfl;rw[ks];rw[←C]at hp;cases G:(decide (a=c)&&decide (b=d))
    · rw[G]at hp;simp[qqq,hp,α,J]
    · rw[G]at hp;simp[qqq,hp,α]
def NJ{P:Cl} {kt:TypeId} (hu:P.underlying kt=γ kd) (C:JF P kd=ρ) {k:Value} (B:kOK kd k) (b:Bool) (w:World):(ω b 10000 kt k).run P w= .ok () w:=by
 rcases xz B with⟨rfl,a,rfl⟩|⟨q,a,rfl,rfl⟩|⟨el,x,y,rfl,rfl⟩
 ·rw[show(10000:Nat)=9999+1 from rfl,ω];simp[run_underlying hu,α]
 ·rw[show(10000:Nat)=9999+1 from rfl,ω];simp[run_underlying hu,α]
 ·obtain⟨i,h,u,A⟩:=qb1 C;exact q95 hu h u A x y b w
def NM{P:Cl} {kt:TypeId} (hu:P.underlying kt=γ kd) (J:JF P kd=ρ) {k:Value} (u:kOK kd k) {es:List MapEntry} (h:∀e∈es,kOK kd e.key) (w:World):(qqh kt k es).run P w= .ok (q1k k es 0) w:=by
 by_cases A:∀el,kd≠ .array 2 el
 ·simp[qqh,run_underlying hu,α,q54 u A es 0 h]
 ·obtain⟨el,rfl⟩:∃el,kd= .array 2 el:=Classical.byContradiction λH=>A λel he=>H ⟨el,he⟩;obtain⟨i,B,C,G⟩:=qb1 J;have:=q53 hu B C G u w es 0 h;cases es with
  |nil=>simp[qqh,run_underlying hu,α,qqf,q1k]
  |cons e es=>simp[qqh,run_underlying hu,α,qqf,qqg,this]
def Wa:AV->Option Value
  | .agg l=>match jS l with
    |some vs=>γ (.agg ⟨vs⟩)
    |none=>ε
  |a=>gv a
def Iw{I:In} {a:AV} {v u:Value} (h:Wa a=γ v) (r:VR I a u):u=v:=by
 unfold Wa at h;split at h
 ·split at h
  ·rename_i A;cases h;cases r with
   |agg hr=>rw[xy A hr]
  ·cases h
 ·exact VT h r
def Vv(h:T AO) (id:Nat):Option (List MapEntry×Nat):=match h.get id with
  |some (.mrow es c)=>γ (es,c)
  | some (.map es c)=>match W3 es with
    |some r=>γ (r,c)
    |none=>ε
  |_=>ε
variable {h:T AO}
def GB{P:Cl} {F:Bool->Nat->Prop} {I:In} {w:World} (hs:Sim F I h w) {id b:Nat} {t:Nat×Nat} {ms:List MapEntry} {c:Nat} (e:Vv h id=γ (ms,c)) (hi:I id=γ (b,t)):
    w.heap[b]? =γ (.map ⟨ms⟩ c)/\(getObj b).run P w= .ok (.map ⟨ms⟩ c) w/\∃o,h.get id=γ o/\o.rw=true:=by
  have fin:∀{ob},w.heap[b]? =γ ob->ob= .map ⟨ms⟩ c->w.heap[b]? =γ (.map ⟨ms⟩ c)/\(getObj b).run P w= .ok (.map ⟨ms⟩ c) w:=λu e=>by subst e;exact⟨u,by simp[getObj,Μ,u]⟩
  unfold Vv at e;split at e
  · rename_i B G A;cases e;obtain⟨ob,u,C⟩:=hs.obj _ _ _ _ A hi;cases C with
    |mrow=>exact⟨(fin u rfl).1,(fin u rfl).2,_,A,rfl⟩
  · rename_i B G A;split at e;case h_2=>cases e
    rename_i r hr;cases e;obtain⟨ob,u,C⟩:=hs.obj _ _ _ _ A hi;cases C with
    | @map _ m _ hm=>
      have:=N4 hr hm;subst this;exact⟨(fin u rfl).1,(fin u rfl).2,_,A,rfl⟩
  · cases e
def qil(k:Value) (ms:List MapEntry) (z:Value):Value:=match q1k k ms 0 with
 |some (_,v)=>v
 |none=>z
def qk9(k:Value) (ms:List MapEntry):Bool:=match q1k k ms 0 with
 |some _=>ρ
 |none=>Η
def qd3(k v:Value) (ms:List MapEntry) (c:Nat):List MapEntry:=match q1k k ms 0 with
 |some (i,_)=>ms.modify i λe=>{e with key:=k,val:=v}
 |none=>ms++[⟨k,v,c⟩]
def qd2(k:Value) (ms:List MapEntry) (c:Nat):Nat:=match q1k k ms 0 with
 |some _=>c
 |none=>c+1
def Co(P:Cl) (t:TypeId):Option CK:=match P.underlying t with
 |some d=>OG d
 |none=>ε
def Nq (P:Cl) (h:T AO) (ty:TypeId) (x k:AV) (ok:Bool) (K:AV->Prop):Prop:=match P.underlying ty with
  | some (.map kt A)=>match P.underlying kt,x,Wa k with
    | some kd, .map id,γ u=>match Vv h id with
      | some (ms,c)=>match P.info? A with
        | some i=>match i.zero with
          | some z=>match Co P A with
            | some B=>tB (JF P kd) (Ob (kOK kd u)/\Ob (∀e∈ms,kOK kd e.key)/\uv [B] λa v=>match a,v with
              | [a],[v]=>Ob (qil u ms z=v)/\K (match ok with
                |true=> .tup [a, .sv (.bool (qk9 u ms))]
                |false=>a)
              |_,_=>False)
            |none=>False
          |none=>False
        |none=>False
      |none=>False
    |_,_,_=>False
  |_=>False
variable {ty:TypeId}
def qhh{P:Cl} {x k:AV} {ok:Bool} {K:AV->Prop} (e:Nq P h ty x k ok K):∃r,K r/\∀(F:Bool->Nat->Prop) (I:In) (w:World) (u v:Value),Sim F I h w->VR I x u->VR I k v->∃z,(Χ ty u v ok).run P w= .ok z w/\VR I r z:=by
  unfold Nq at e;split at e;case h_2=>exact e.elim
  rename_i kt et U;split at e;case h_2=>exact e.elim
  rename_i kd id kv H Y;split at e;case h_2=>exact e.elim
  rename_i ms c hm;split at e;case h_2=>exact e.elim
  rename_i i hi;split at e;case h_2=>exact e.elim
  rename_i z hz;split at e;case h_2=>exact e.elim
  rename_i ck hck;obtain⟨J,Z,h2,h3⟩:=qT e;obtain⟨a,v,V,h5,h6⟩:=xA h3;split at V;case h_2=>exact V.elim
  rename_i a v;obtain⟨C,h8⟩:=V;have B:∀I,VR I a v:=λI=>by cases h5 I with|cons r _=>exact r
  refine⟨_,h8,λF I w u v' hs hx hk=> ?_⟩;have X:=Iw Y hk;subst X;cases hx with
  | map hI=>
    obtain⟨g1,g2,_⟩:=GB (P:=P) hs hm hI;have T:(zeroValue et).run P w= .ok z w:=(by simp[zeroValue,typeInfo,program,Μ,hi,bind,qqc,pure,hz]);have A:=λb=>NJ (P:=P) H J Z b w;have G:=NM (P:=P) H J Z h2 w;unfold qil at C;unfold qk9;cases O:q1k v' ms 0 with
    | none=>
      rw[O]at G C;simp only at C;subst C;cases ok
      · exact⟨_,by simp[Χ,run_underlying U,α,g2,A,G,T],B I⟩
      · exact⟨_,by simp[Χ,run_underlying U,α,g2,A,G,T], .tup (.cons (B I) (.cons (.sv _) .nil))⟩
    | some q=>
      obtain⟨j,v2⟩:=q;rw[O]at G C;simp only at C;subst C;cases ok
      · exact⟨_,by simp[Χ,run_underlying U,α,g2,A,G],B I⟩
      · exact⟨_,by simp[Χ,run_underlying U,α,g2,A,G], .tup (.cons (B I) (.cons (.sv _) .nil))⟩
def Nt (P:Cl) (h:T AO) (ty:TypeId) (x k v:AV) (K:T AO->Prop):Prop:=match P.underlying ty with
  | some (.map kt B)=>match P.underlying kt,x,Wa k,gv v with
    | some kd, .map id,γ u,γ A=>match Vv h id with
      | some (ms,c)=>tB (JF P kd) (Ob (kOK kd u)/\Ob (∀e∈ms,kOK kd e.key)/\match T.put 64 id (γ (.mrow (qd3 u A ms c) (qd2 u ms c))) h with
        |some h'=>K h'
        |none=>False)
      |none=>False
    |_,_,_,_=>False
  |_=>False
def q4m{a b:Value} (C:kOK kd a) (u:kOK kd b) (h:yX a b=ρ):qqb 10000 b a=true:=by
 rcases xz C with⟨rfl,x,rfl⟩|⟨q,x,rfl,rfl⟩|⟨el,x,y,rfl,rfl⟩
 ·rcases xz u with⟨_,y,rfl⟩|⟨G,y,hq,_⟩|⟨_,_,_,hq,_⟩
  ·simp only[yX,decide_eq_true_eq]at h;subst h;unfold qqb;rw[qdv];simp
  ·cases hq
  ·cases hq
 ·rcases xz u with⟨hq,_⟩|⟨G,y,hq,rfl⟩|⟨_,_,_,hq,_⟩
  ·cases hq
  ·cases hq;simp only[yX,decide_eq_true_eq]at h;subst h;unfold qqb;simp
  ·cases hq
 ·rcases xz u with⟨hq,_⟩|⟨_,_,hq,_⟩|⟨_,A,B,hq,rfl⟩
  ·cases hq
  ·cases hq
  ·have ks:yX (.agg ⟨[.int .i64 x, .int .i64 y]⟩) (.agg ⟨[.int .i64 A, .int .i64 B]⟩)=(decide (x=A)&&decide (y=B)):=rfl;rw[ks]at h;simp only[κ,decide_eq_true_eq]at h;obtain⟨rfl,rfl⟩:=h;rw[show(10000:Nat)=9999+1 from rfl];simp[qqb]
def Ih{k:Value}:∀{es:List MapEntry} {i j:Nat} {v:Value},q1k k es i=γ (j,v)->i<=j/\∃e,es[j- i]? =γ e/\yX k e.key=ρ
  | [],i,j,v,h=>by cases h
  | e ::es,i,j,v,h=>by
    rw[q1k]at h;cases hs:yX k e.key with
    | true=>
      rw[hs]at h;cases h;exact⟨ξ _,e,by simp,hs⟩
    | false=>
      rw[hs]at h;obtain⟨B,e',u,A⟩:=Ih (i:=i+1) h;refine⟨by omega,e',?_,A⟩;rw[show j- i=(j- (i+1))+1 by omega];exact u
variable {K:T AO->Prop}
def qhm{P:Cl} {x k v:AV} (e:Nt P h ty x k v K):∃h',K h'/\∀(F:Bool->Nat->Prop) (I:In) (w:World) (nx:Nat) (u z y:Value),Sim F I h w->VR I x u->VR I k z->VR I v y->∃w',(qqs ty u z y).run P w= .ok () w'/\Grow F I nx w I nx h' w':=by
  unfold Nt at e;split at e;case h_2=>exact e.elim
  rename_i kt et ht;split at e;case h_2=>exact e.elim
  rename_i kd id kv vv G Y hvv;split at e;case h_2=>exact e.elim
  rename_i ms c hm;obtain⟨H,V,h2,e⟩:=qT e;split at e;case h_2=>exact e.elim
  rename_i h' hp;refine⟨h',e,λF I w nx u z y hs hx hk hv=> ?_⟩;have X:=Iw Y hk;have hv':=VT hvv hv;subst X hv';cases hx with
  | @map _ b tt hI=>
    obtain⟨g1,g2,ob,g3,g4⟩:=GB (P:=P) hs hm hI;have A:=λb=>NJ (P:=P) G H V b w;have J:=NM (P:=P) G H V h2 w;have upd:∀(C:List MapEntry) (U:Nat),T.put 64 id (γ (.mrow C U)) h=γ h'->Grow F I nx w I nx h' (wG w b (.map ⟨C⟩ U)):=λC U hp=>
      hs.upd g3 g4 hI hp (NF g1) .mrow (λc hc=>NA hc) NC NB nx
    unfold qd3 qd2 at hp;cases B:q1k z ms 0 with
    | none=>
      rw[B]at J hp;refine⟨_,?_,upd _ _ hp⟩;simp[qqs,run_underlying ht,α,g2,A,J,WC g1]
    | some q=>
      obtain⟨j,v2⟩:=q;rw[B]at J hp;obtain⟨_,en,O,q2⟩:=Ih B;rw[qqm]at O;have Z:=q4m V (h2 en (qq7 O)) q2;have q1':(⟨ms⟩:Array MapEntry)[j]? =γ en:=(by simpa using O);refine⟨_,?_,upd _ _ hp⟩;simp[qqs,run_underlying ht,α,g2,A,J,qza,O,Z,WC g1]
def qhj(k:Value) (ms:List MapEntry) (c:Nat):Nat:=match q1k k ms 0 with
 |some (i,_)=>((ms[i]?).map (·.born)).getD 0
 |none=>c
def qy (P:Cl) (h:T AO) (ty:TypeId) (x k:AV) (K:AV->T AO->Prop):Prop:=match P.underlying ty with
  | some (.map kt A)=>match P.underlying kt,x,Wa k with
    | some kd, .map id,γ u=>match Vv h id with
      | some (ms,c)=>match P.info? A with
        | some i=>match i.zero with
          | some z=>match Co P A with
            | some B=>tB (JF P kd) (Ob (kOK kd u)/\Ob (∀e∈ms,kOK kd e.key)/\uv [B] λa v=>match a,v with
              | [a],[v]=>Ob (qil u ms z=v)/\match T.put 64 id (γ (.mrow (qd3 u v ms c) (qd2 u ms c))) h with
                |some h'=>K (.tup [a, .sv (.int .i64 (qhj u ms c))]) h'
                |none=>False
              |_,_=>False)
            |none=>False
          |none=>False
        |none=>False
      |none=>False
    |_,_,_=>False
  |_=>False
def q6l{k:Value}:∀{es:List MapEntry} {i j:Nat} {v:Value},q1k k es i=γ (j,v)->i<=j/\∃e,es[j- i]? =γ e/\e.val=v
  | [],i,j,v,h=>by cases h
  | e ::es,i,j,v,h=>by
    rw[q1k]at h;cases hs:yX k e.key with
    | true=>
      rw[hs]at h;cases h;exact⟨ξ _,e,by simp,rfl⟩
    | false=>
      rw[hs]at h;obtain⟨B,e',u,A⟩:=q6l (i:=i+1) h;refine⟨by omega,e',?_,A⟩;rw[show j- i=(j- (i+1))+1 by omega];exact u
def q4d{k v:Value}:∀{ms:List MapEntry} {j:Nat} {e:MapEntry},ms[j]? =γ e->e.val=v->ms.modify j (λe=>{e with key:=k,val:=v})=ms.modify j λe=>{e with key:=k}
  | [],_,_,h,_=>by simp at h
  | a::ms,0,e,h,u=>by simp only[List.getElem?_cons_zero,Option.some.injEq]at h;subst h;subst u;rfl
  | a::ms,j+1,e,h,u=>by simp only[List.getElem?_cons_succ]at h;simp only[List.modify_succ_cons];rw[q4d h u]
def qhk{P:Cl} {x k:AV} {K:AV->T AO->Prop} (e:qy P h ty x k K):∃r h',K r h'/\∀(F:Bool->Nat->Prop) (I:In) (w:World) (nx:Nat) (u z:Value),Sim F I h w->VR I x u->VR I k z->∃y w',(qqv ty u z).run P w= .ok y w'/\VR I r y/\Grow F I nx w I nx h' w':=by
  unfold qy at e;split at e;case h_2=>exact e.elim
  rename_i kt et ht;split at e;case h_2=>exact e.elim
  rename_i kd id kv H hkv;split at e;case h_2=>exact e.elim
  rename_i ms c hm;split at e;case h_2=>exact e.elim
  rename_i i hi;split at e;case h_2=>exact e.elim
  rename_i z hz;split at e;case h_2=>exact e.elim
  rename_i ck hck;obtain⟨J,Z,h2,h3⟩:=qT e;obtain⟨a,v,h4,h5,h6⟩:=xA h3;split at h4;case h_2=>exact h4.elim
  rename_i a v;obtain⟨C,h8⟩:=h4;have O:∀I,VR I a v:=λI=>by cases h5 I with|cons r _=>exact r
  split at h8;case h_2=>exact h8.elim
  rename_i h' hp;refine⟨_,h',h8,λF I w nx u z' hs hx hk=> ?_⟩;have hk':=Iw hkv hk;subst hk';cases hx with
  | @map _ b tt hI=>
    obtain⟨g1,g2,ob,g3,g4⟩:=GB (P:=P) hs hm hI;have hzr:(zeroValue et).run P w= .ok z w:=(by simp[zeroValue,typeInfo,program,Μ,hi,bind,qqc,pure,hz]);have B:=λb=>NJ (P:=P) H J Z b w;have V:=NM (P:=P) H J Z h2 w;have upd:∀(G:List MapEntry) (Y:Nat),T.put 64 id (γ (.mrow G Y)) h=γ h'->Grow F I nx w I nx h' (wG w b (.map ⟨G⟩ Y)):=λG Y hp=>
      hs.upd g3 g4 hI hp (NF g1) .mrow (λc hc=>NA hc) NC NB nx
    unfold qil at C;unfold qd3 qd2 at hp;unfold qhj;cases A:q1k z' ms 0 with
    | none=>
      rw[A]at V hp C;simp only at C;subst C;refine⟨_,_,?_, .tup (.cons (O I) (.cons (.sv _) .nil)),upd _ _ hp⟩;simp[qqv,run_underlying ht,α,g2,B,V,hzr,WC g1,goInt]
    | some q=>
      obtain⟨j,v2⟩:=q;rw[A]at V hp C;simp only at C;subst C;obtain⟨_,en,X,q2⟩:=Ih A;obtain⟨_,en',U,q3⟩:=q6l A;rw[qqm]at X U;simp only at hp;rw[q4d U q3]at hp;have hsb:=q4m Z (h2 en (qq7 X)) q2;have q1a:(⟨ms⟩:Array MapEntry)[j]? =γ en:=(by simpa using X);refine⟨_,_,?_, .tup (.cons (O I) (.cons (.sv _) .nil)),upd _ _ hp⟩;simp[qqv,run_underlying ht,α,g2,B,V,qza,X,hsb,WC g1,goInt]
def qka(n:Int) (v:Value) (ms:List MapEntry):List MapEntry:=match ms.findIdx? (λe=>(e.born:Int)==n)with
 |some i=>ms.modify i λe=>{e with val:=v}
 |none=>ms
def qfj(n:Int) (ms:List MapEntry):Prop:=∃e∈ms,(e.born:Int)=n
def Nu(h:T AO) (x s v:AV) (K:T AO->Prop):Prop:=match x,gv s,gv v with
  | .map id,γ (.int _ n),γ u=>match Vv h id with
    | some (ms,c)=>Ob (qfj n ms)/\match T.put 64 id (γ (.mrow (qka n u ms) c)) h with
      |some h'=>K h'
      |none=>False
    |none=>False
  |_,_,_=>False
def qhn{P:Cl} {x s v:AV} (e:Nu h x s v K):∃h',K h'/\∀(F:Bool->Nat->Prop) (I:In) (w:World) (nx:Nat) (ty:TypeId) (u z y:Value),Sim F I h w->VR I x u->VR I s z->VR I v y->∃Y,(qzh ty u z y).run P w= .ok () Y/\Grow F I nx w I nx h' Y:=by
  unfold Nu at e;split at e;case h_2=>exact e.elim
  rename_i id q n vv U V;split at e;case h_2=>exact e.elim
  rename_i ms c hm;obtain⟨Z,e⟩:=e;split at e;case h_2=>exact e.elim
  rename_i h' hp;refine⟨h',e,λF I w nx ty u z y hs hx hk hv=> ?_⟩;have O:=VT U hk;have B:=VT V hv;subst O B;cases hx with
  | @map _ b tt X=>
    obtain⟨g1,g2,ob,g3,g4⟩:=GB (P:=P) hs hm X;have upd:∀(A:List MapEntry) (G:Nat),T.put 64 id (γ (.mrow A G)) h=γ h'->Grow F I nx w I nx h' (wG w b (.map ⟨A⟩ G)):=λA G hp=>
      hs.upd g3 g4 X hp (NF g1) .mrow (λc hc=>NA hc) NC NB nx
    unfold qka at hp;cases C:ms.findIdx? (λe=>(e.born:Int)==n)with
    | none=>
      obtain⟨e0,J,H⟩:=Z;rw[List.findIdx?_eq_none_iff]at C;have:=C e0 J;simp[H]at this
    | some j=>
      rw[C]at hp;refine⟨_,?_,upd _ _ hp⟩;simp[qzh,α,g2,asInt,asIntOf,C,WC g1]
def J2(P:Cl):jo:=λgl t h o K=>match o.op with
  | .lookup ty x k ok=>match ev t x,ev t k with
    |some a,γ b=>Nq P h ty a b ok K
    |_,_=>False
  |_=>Hn P gl t h o K
def qeb(P:Cl):kz P (J2 P):=by
  intro gl t h o K e;obtain⟨dst,op,ty,pos,after,guard⟩:=o;cases op with
  | lookup lt x k ok=>
    simp only[J2]at e;split at e;case h_2=>exact e.elim
    rename_i a b B C;obtain⟨r,u,A⟩:=qhh e;refine⟨r,λF I ac w st hs _=> ?_,u⟩;obtain⟨z,g1,g2⟩:=A F I w _ _ hs (ql st B) (ql st C);exact⟨z,by simp[execOp,g1,α],g2⟩
  |_=>exact qhy P _ _ _ _ _ e
def Ui(P:Cl):Je:=λgl t h nx o K=>match o.op with
  | .mapUpdate ty m k x=>match ev t m,ev t k,ev t x with
    |some a,γ b,γ c=>Nt P h ty a b c λh'=>K vp h' nx ε
    |_,_,_=>False
  | .mapEntry ty m k=>match ev t m,ev t k with
    |some a,γ b=>qy P h ty a b λr h'=>K r h' nx ε
    |_,_=>False
  | .entryStore ty m s x=>match ev t m,ev t s,ev t x with
    |some a,γ b,γ c=>Nu h a b c λh'=>K vp h' nx ε
    |_,_,_=>False
  |_=>Hs P gl t h nx o K
def qi2(P:Cl):W8 P (Ui P):=by
  intro gl t h nx o K e;obtain⟨dst,op,ty,pos,after,guard⟩:=o;cases op with
  | mapUpdate mt m k x=>
    simp only[Ui]at e;split at e;case h_2=>exact e.elim
    rename_i a b c A B G;obtain⟨h',e1,e2⟩:=qhm e;refine⟨vp,h',nx,ε,⟨ξ _,λF I n ac w st fr H Q C=> ?_⟩,e1⟩;obtain⟨u,g1,g2⟩:=e2 F I w nx _ _ _ st.sim (ql st.tr A) (ql st.tr B) (ql st.tr G);unfold Oper.wp;have:(execOp ac.eval ⟨dst, .mapUpdate mt m k x,ty,pos,after,guard⟩).run P w= .ok .skip u:=(by simp[execOp,g1,α]);rw[this];exact C undef I u (xw I) g2 trivial
  | mapEntry mt m k=>
    simp only[Ui]at e;split at e;case h_2=>exact e.elim
    rename_i a b A B;obtain⟨r,h',e1,e2⟩:=qhk e;refine⟨r,h',nx,ε,⟨ξ _,λF I n ac w st fr H Q C=> ?_⟩,e1⟩;obtain⟨y,u,g1,g2,g3⟩:=e2 F I w nx _ _ st.sim (ql st.tr A) (ql st.tr B);unfold Oper.wp;have:(execOp ac.eval ⟨dst, .mapEntry mt m k,ty,pos,after,guard⟩).run P w= .ok (.value y) u:=(by simp[execOp,g1,α]);rw[this];exact C y I u g2 g3 trivial
  | entryStore mt m s x=>
    simp only[Ui]at e;split at e;case h_2=>exact e.elim
    rename_i a b c A B G;obtain⟨h',e1,e2⟩:=qhn (P:=P) e;refine⟨vp,h',nx,ε,⟨ξ _,λF I n ac w st fr H Q C=> ?_⟩,e1⟩;obtain⟨u,g1,g2⟩:=e2 F I w nx mt _ _ _ st.sim (ql st.tr A) (ql st.tr B) (ql st.tr G);unfold Oper.wp;have:(execOp ac.eval ⟨dst, .entryStore mt m s x,ty,pos,after,guard⟩).run P w= .ok .skip u:=(by simp[execOp,g1,α]);rw[this];exact C undef I u (xw I) g2 trivial
  |_=>exact qi3 P _ _ _ _ _ _ e
def He:Value->Bool
 | .nilIface=>ρ
 |_=>Η
def IH (P:Cl):xk:=λt o K=>match o.op with
  | .binOp op h x y A=>match ev t x with
    | some (.sv v)=>match ev t y with
      | some .nili=>match yC y with
        | true=>match P.underlying h with
          | some (.interface _)=>Ob (v= .nilIface\/∃u z,v= .iface u z)/\match op with
            | .eql=>K (.sv (.bool (He v)))
            | .neq=>K (.sv (.bool (!He v)))
            |_=>False
          |_=>False
        |false=>False
      |_=>GI P t o K
    |_=>GI P t o K
  |_=>GI P t o K
def qhw(P:Cl):Qx P (IH P):=by
 intro t o K e;obtain⟨dst,op,ty,pos,after,guard⟩:=o;unfold IH at e;split at e;case h_2=>exact I6 P _ _ _ e
 rename_i op B x y yt O;simp only at O;subst O;split at e;case h_2=>exact I6 P _ _ _ e
 rename_i v hx;split at e;case h_2=>exact I6 P _ _ _ e
 rename_i X;split at e;case h_2=>exact e.elim
 rename_i J;split at e;case h_2=>exact e.elim
 rename_i ms hd;obtain⟨A,e⟩:=e;have key:∀b:Bool,(v= .nilIface->Qu P op B y .nili .nili=γ (.bool b))->(∀u z,v= .iface u z->Qu P op B y (.ifc u (.sv z)) .nili=γ (.bool b))->QP P t ⟨dst, .binOp op B x y yt,ty,pos,after,guard⟩ (.sv (.bool b)):=λb Y Z I ac T=>by
  have U:=ql T hx;have H:=ql T X;generalize C:ac.eval x=u1 at U;generalize G:ac.eval y=V at H;cases U;have g:zj P (do eqGuard op B x y v V;binOp op B v V) I (.bool b):=by
   rcases A with A|⟨u,z,A⟩
   ·subst A;exact N9 (Y rfl) .nili H
   ·subst A;exact N9 (Z u z rfl) (.ifc (.sv z)) H
  obtain⟨z,g1,g2⟩:=g;cases g2;refine⟨_,λw=> ?_, .sv _⟩;simp only[execOp,ι,C,G];have:=g1 w;simp only[ι]at this;rw[this];rfl
 split at e
 ·refine⟨_,key (He v) (λh=> ?_) (λu z h=> ?_),e⟩
  ·subst h;simp only[Qu,J,hd];rfl
  ·subst h;simp only[Qu,hd];rfl
 ·refine⟨_,key (!He v) (λh=> ?_) (λu z h=> ?_),e⟩
  ·subst h;simp only[Qu,J,hd];rfl
  ·subst h;simp only[Qu,hd];rfl
 ·exact e.elim
end
section
def Tk(P:Cl) (hx:jC):jC:=hx
variable {hx:jC}
def qhd{P:Cl} (h:kN P hx):kN P (Tk P hx):=h
def Tl(P:Cl) (hx:jC):jC:=hx
def qhe{P:Cl} (h:kN P hx):kN P (Tl P hx):=h
end
section
end
section
def XV(P:Cl) (calls:Nat->Option Ct):jB:=Th P calls (IH P) (J2 P) (Ui P) (XQ P)
variable {calls:Nat->Option Ct}
def qe3{P:Cl} (h:∀g C,calls g=γ C->q4p P g C):vL P (XV P calls):=qhb h (qhw P) (qeb P) (qi2 P) (qgu P)
def qe2{P:Cl}:kz P (Zi P (J2 P)):=qe1 (qeb P)
abbrev noA:Option Addr:=ε
structure WayF where
 ann:Nat->T AV->T AO->Option LT:=λ_ _ _=>ε
 cut:Nat->T AV->T AO->Option LT:=λ_ _ _=>ε
 pub:Nat->Nat->List Nat:=λ_ _=>[]
 pubE:List Nat:=[]
 unr:Nat:=0
 spl:Nat->Option Nat:=λ_=>ε
 flo:Nat->Option (Nat×List Nat):=λ_=>ε
 flu:Nat->List (Nat×List Nat):=λ_=>[]
 spm:Nat->List Nat:=λ_=>[]
def qkh(P:Cl) (calls:Nat->Option Ct) (n m:Nat) (W:WayF):VE:={hs:=XV P calls,hr:=Zi P (J2 P),n:=n,nx0:=m,ann:=W.ann,cut:=W.cut,pub:=W.pub,pubE:=W.pubE,unr:=W.unr,spl:=W.spl,flo:=W.flo,flu:=W.flu,spm:=W.spm}
def wI(fn:Func):Code:=match fn.body with
 |some c=>c
 |none=> .skip
def qk2(P:Cl) (calls:Nat->Option Ct) (fn:Func) (C:Ct) (W:C.σ->WayF) (s:C.σ):Prop:=G_ .e P (qkh P calls fn.ntmps C.m (W s)) 300 fn (wI fn) C s
def q25(P:Cl) (f:Nat) (fn:Func):Bool:=match fn.body with
 |some _=> !(fn.name== "runtime.NumGoroutine")
 |none=>Η
def qk5{P:Cl} (hm:P.follows .mixedOrders=ρ) {calls:Nat->Option Ct} (J:∀g C,calls g=γ C->q4p P g C) {f:Nat} {fn:Func} {C:Ct} {W:C.σ->WayF} (G:P.funcs[f]? =γ fn) (B:q25 P f fn=ρ) (H:1<=C.m) (hle:C.m<=C.m') (O:∀s,Ν (C.args s).length fn.ntmps=ρ) (U:∀s,qk2 P calls fn C W s):q4p P f C:=by
  unfold q25 at B;cases u:fn.body with
  |none=>rw[u]at B;cases B
  | some c=>
    rw[u]at B;have A:wI fn=c:=(by unfold wI;rw[u]);refine qh7 hm (tab:= .e) (fuel:=300) (c:=c) (E:=λs=>qkh P calls fn.ntmps C.m (W s)) G u (by simpa using B) (λs=>qe3 J) (λs=>qhp) (λs=>qe2) (λs=>rfl) H (λI n a h=>by rw[T.get_e]at h;cases h) hle (λs=> ?_) (λs=> ?_)
    · have:=η (O s);show fn.ntmps=_;omega
    · have:=U s;unfold qk2 at this;rw[A]at this;exact this
def Tm(P:Cl) (u:Nat) (hx:jC):jC:=match u with
 |0=>Tl P (Tk P hx)
 |_+1=>Tl P (Tk P hx)
variable {u:Nat}
def qe4{P:Cl} {hx:jC} (h:kN P hx):kN P (Tm P u hx):=by unfold Tm;split<;>exact qhe (qhd h)
def Ti(P:Cl) (u:Nat) (calls:Nat->Option Ct):jB:=match u with
 |0=>XV P calls
 |_+1=>XV P calls
def IW{P:Cl} (h:∀g C,calls g=γ C->q4p P g C):vL P (Ti P u calls):=by unfold Ti;split<;>exact qe3 h
def Tg(P:Cl) (u:Nat):jo:=match u with
 |0=>Zi P (J2 P)
 |_+1=>Zi P (J2 P)
def IV{P:Cl}:kz P (Tg P u):=by unfold Tg;split<;>exact qe2
def Ug(P:Cl) (calls:Nat->Option Ct) (rel:Nat->Option CtR) (n m:Nat) (W:WayF):VE:={hs:=Ti P W.unr calls,hx:=Tm P W.unr (XW P rel),hr:=Tg P W.unr,n:=n,nx0:=m,ann:=W.ann,cut:=W.cut,pub:=W.pub,pubE:=W.pubE,unr:=W.unr,spl:=W.spl,flo:=W.flo,flu:=W.flu,spm:=W.spm}
def qk4(P:Cl) (calls:Nat->Option Ct) (rel:Nat->Option CtR) (fn:Func) (C:Ct) (W:C.σ->WayF) (s:C.σ):Prop:=G_ .e P (Ug P calls rel fn.ntmps C.m (W s)) 300 fn (wI fn) C s
def qk3(P:Cl) (calls:Nat->Option Ct) (rel:Nat->Option CtR) (fn:Func) (C:CtR) (W:C.σ->WayF) (s:C.σ):Prop:=GY .e P (Ug P calls rel fn.ntmps C.m (W s)) 300 fn (wI fn) C s
def qjb{P:Cl} (hm:P.follows .mixedOrders=ρ) {calls:Nat->Option Ct} (O:∀g C,calls g=γ C->q4p P g C) {rel:Nat->Option CtR} (G:∀g C,rel g=γ C->q1p P g C) {f:Nat} {fn:Func} {C:Ct} {W:C.σ->WayF} (H:P.funcs[f]? =γ fn) (B:q25 P f fn=ρ) (J:1<=C.m) (hle:C.m<=C.m') (U:∀s,Ν (C.args s).length fn.ntmps=ρ) (V:∀s,qk4 P calls rel fn C W s):q4p P f C:=by
  unfold q25 at B;cases u:fn.body with
  |none=>rw[u]at B;cases B
  | some c=>
    rw[u]at B;have A:wI fn=c:=(by unfold wI;rw[u]);refine qh7 hm (tab:= .e) (fuel:=300) (c:=c) (E:=λs=>Ug P calls rel fn.ntmps C.m (W s)) H u (by simpa using B) (λs=>IW O) (λs=>qe4 (IX G)) (λs=>IV) (λs=>rfl) J (λI n a h=>by rw[T.get_e]at h;cases h) hle (λs=> ?_) (λs=> ?_)
    · have:=η (U s);show fn.ntmps=_;omega
    · have:=V s;unfold qk4 at this;rw[A]at this;exact this
def qja{P:Cl} (hm:P.follows .mixedOrders=ρ) {calls:Nat->Option Ct} (O:∀g C,calls g=γ C->q4p P g C) {rel:Nat->Option CtR} (G:∀g C,rel g=γ C->q1p P g C) {f:Nat} {fn:Func} {C:CtR} {W:C.σ->WayF} (H:P.funcs[f]? =γ fn) (B:q25 P f fn=ρ) (J:1<=C.m) (hle:C.m<=C.m') (U:∀s,Ν (C.args s).length fn.ntmps=ρ) (V:∀s,qk3 P calls rel fn C W s):q1p P f C:=by
  unfold q25 at B;cases u:fn.body with
  |none=>rw[u]at B;cases B
  | some c=>
    rw[u]at B;have A:wI fn=c:=(by unfold wI;rw[u]);refine qe0 hm (tab:= .e) (fuel:=300) (c:=c) (E:=λs=>Ug P calls rel fn.ntmps C.m (W s)) H u (by simpa using B) (λs=>IW O) (λs=>qe4 (IX G)) (λs=>IV) (λs=>rfl) J (λI n a h=>by rw[T.get_e]at h;cases h) hle (λs=> ?_) (λs=> ?_)
    · have:=η (U s);show fn.ntmps=_;omega
    · have:=V s;unfold qk3 at this;rw[A]at this;exact this
def Ct.below(C:Ct) (μ:C.σ->Nat) (n:Nat):Ct:={C with pre:=λs=>μ s<n/\C.pre s}
variable {f:Nat}
def Ct.of_below{P:Cl} {C:Ct} {μ:C.σ->Nat} (h:∀n,q4p P f (C.below μ n)):q4p P f C:=by obtain⟨u,A,B,_⟩:=h 0;refine⟨u,A,B,λs=> ?_⟩;obtain⟨_,_,_,G⟩:=h (μ s+1);obtain⟨a,b,g1,g2,g3⟩:=G s;exact⟨a,b,g1,g2,λF I w vs H hs low zf hp=>g3 F I w vs H hs low zf ⟨qzn _,hp⟩⟩
def Ct.below_zero{P:Cl} {C:Ct} {μ:C.σ->Nat} (A:C.m<=C.m') (B:1<=C.m) (G:Enters P f) (u:∀s,(q0o (C.h s) .e).isSome=ρ/\(q0o (C.h' s) .e).isSome=ρ):q4p P f (C.below μ 0):=by refine⟨A,B,G,λs=> ?_⟩;obtain⟨a,H⟩:=Option.isSome_iff_exists.1 (u s).1;obtain⟨b,J⟩:=Option.isSome_iff_exists.1 (u s).2;exact⟨a,b,H,J,λF I w vs _ _ _ _ hp=>absurd hp.1 (by omega)⟩
def CtR.below(C:CtR) (μ:C.σ->Nat) (n:Nat):CtR:={C with pre:=λs=>μ s<n/\C.pre s}
def CtR.of_below{P:Cl} {C:CtR} {μ:C.σ->Nat} (h:∀n,q1p P f (C.below μ n)):q1p P f C:=by obtain⟨u,A,B,_⟩:=h 0;refine⟨u,A,B,λs=> ?_⟩;obtain⟨_,_,_,G⟩:=h (μ s+1);obtain⟨a,g1,g3⟩:=G s;exact⟨a,g1,λF I w vs H hs low zf hp=>g3 F I w vs H hs low zf ⟨qzn _,hp⟩⟩
def CtR.below_zero{P:Cl} {C:CtR} {μ:C.σ->Nat} (u:C.m<=C.m') (A:1<=C.m) (B:Enters P f) (G:∀s,(q0o (C.h s) .e).isSome=ρ):q1p P f (C.below μ 0):=by refine⟨u,A,B,λs=> ?_⟩;obtain⟨a,H⟩:=Option.isSome_iff_exists.1 (G s);exact⟨a,H,λF I w vs _ _ _ _ hp=>absurd hp.1 (by omega)⟩
def qg7:List (Nat×CtR)->Nat->Option CtR
  | [],_=>ε
  | (k,C)::l,g=>match ς k g with
    |true=>γ C
    |false=>qg7 l g
def qdd{P:Cl}:∀{l:List (Nat×CtR)},(∀k C,(k,C)∈l->q1p P k C)->∀g C,qg7 l g=γ C->q1p P g C
  | [],_,g,C,e=>by cases e
  | (k,D)::l,h,g,C,e=>by
    simp only[qg7]at e;split at e
    · rename_i u;cases e;rw[←δ u];exact h k D Ξ
    · exact qdd (λk C hm=>h k C (Ι _ hm)) g C e
def qgi{P:Cl} {k:Nat} {D:CtR} {l:List (Nat×CtR)} (u:q1p P k D) (A:∀k C,(k,C)∈l->q1p P k C):∀h C,(h,C)∈(k,D)::l->q1p P h C:=λh C hm=>by
 cases hm with
 |head=>exact u
 |tail _ hm=>exact A h C hm
def qjp{P:Cl}:∀k C,(k,C)∈([]:List (Nat×CtR))->q1p P k C:=λk C h=>by cases h
end
section
def enters_of{P:Cl} {f:Nat} {fn:Func} (hfn:P.funcs[f]? =γ fn) (hb:q25 P f fn=ρ):Enters P f:=λargs w=>by
  unfold q25 at hb;cases hbody:fn.body with
  |none=>rw[hbody]at hb;cases hb
  | some c=>
    rw[hbody]at hb;have hnn:¬fn.name= "runtime.NumGoroutine" :=(by simpa using hb);simp[callFunc,program,Μ,bind,qqc,pure,hfn,hnn,hbody]
def qi6{I:In}:∀{l us:List Value},VRs I (l.map .sv) us->us=l
 | [],_,h=>by cases h;rfl
 |v::l,_,h=>by cases h with|cons u A=>cases u;rw[qi6 A]
def qh8:List AV->Option (List Value)
  | []=>γ []
  | a ::l=>match gv a with
    | some v=>match qh8 l with
      |some r=>γ (v::r)
      |none=>ε
    |none=>ε
def ctS(σ:Type) (args:σ->List Value) (find:List Value->Option σ) (pre:σ->Prop) (mem:σ->PF) (r:σ->AV):Ct where
 σ:=σ
 args:=λs=>(args s).map .sv
 h:=λ_=>[]
 m:=1
 pre:=pre
 mem:=mem
 find:=γ λl _=>match qh8 l with
  |some vs=>find vs
  |none=>ε
 r:=r
 h':=λ_=>[]
 m':=1
 g:=λ_=>ε
def qf5:List (Nat×Ct)->Nat->Option Ct
  | [],_=>ε
  | (k,C)::l,g=>match ς k g with
    |true=>γ C
    |false=>qf5 l g
def qcl{P:Cl}:∀{l:List (Nat×Ct)},(∀k C,(k,C)∈l->q4p P k C)->∀g C,qf5 l g=γ C->q4p P g C
  | [],_,g,C,e=>by cases e
  | (k,D)::l,h,g,C,e=>by
    simp only[qf5]at e;split at e
    · rename_i u;cases e;rw[←δ u];exact h k D Ξ
    · exact qcl (λk C hm=>h k C (Ι _ hm)) g C e
def qgj{P:Cl} {k:Nat} {D:Ct} {l:List (Nat×Ct)} (u:q4p P k D) (A:∀k C,(k,C)∈l->q4p P k C):∀h C,(h,C)∈(k,D)::l->q4p P h C:=λh C hm=>by
 cases hm with
 |head=>exact u
 |tail _ hm=>exact A h C hm
def qjq{P:Cl}:∀k C,(k,C)∈([]:List (Nat×Ct))->q4p P k C:=λk C h=>by cases h
end
section
def qjv{P:Cl} {f:Nat} {C:Ct} (O:Enters P f) (hm:C.m<=C.m') (G:1<=C.m) (vs:C.σ->List Value) (res:C.σ->Value) (U:∀s,C.args s=(vs s).map .sv) (X:∀s,C.h s=[]) (B:∀s,C.h' s=[]) (V:∀s,C.g s=ε) (hr:∀s (I:In),VR I (C.r s) (res s))
    (h:∀s w,C.pre s->Calls P f ⟨vs s⟩ w λe J=>e= .returned (res s)/\Below w.heap.size w J):q4p P f C:=by
  refine⟨hm,G,O,λs=>⟨.e, .e,by rw[X];rfl,by rw[B];rfl,λF I w us H hs low zf hp _ hn Z=> ?_⟩⟩;rw[U]at H;have e0:us=vs s:=by
    have:∀(x y:List Value),VRs I (x.map AV.sv) y->y=x:=λx=>by
      induction x with
      |nil=>intro y h;cases h;rfl
      | cons a l Y=>
        intro y h;cases h with|cons h t=>cases h;rw[Y _ t]
    exact this _ _ H
  subst e0;refine(h s w hp).mono λe J he=> ?_;obtain⟨rfl,u⟩:=he;have no:∀{id:Nat} {o:AO},(T.e:T AO).get id=γ o->False:=λh=>by rw[T.get_e]at h;cases h
  refine⟨res s,I,rfl,hr s I,⟨In.le_refl I,λ_ _ h=> .inl h,⟨λ_ _ _ _ h=>(no h).elim,λ_ _ _ _ _ _ _ h=>(no h).elim,λ_ _ _ _ h=>(no h).elim⟩,λb A=>u.block b (low b A),u.size,⟨u.os,u.tape,u.output⟩⟩,?_⟩;rw[V];trivial
end
section
def OF (P : Cl):jC:=λgl t h nx o=>match o.op with
  | .buildSlice _ _ _=>match uu P t nx o with
    | some (.sl id off m c, .cells e (γ fz) Η l)=>match ς id nx&&(ς off 0&&(ς m c&&ς fz 0))with
      | true=>match uD.concs l with
        | some us=>match ς us.length (m*(us.length / m))with
          | true=>match T.put 64 nx (γ (.row e 0 us)) h with
            | some u=>match u.get (nx+1)with
              |none=>γ λK=>K gl (.ssl nx 0 m (us.length / m) (nx+1)) u (nx+2)
              |some _=>ε
            |none=>ε
          |false=>ε
        |none=>ε
      |false=>ε
    |_=>ε
  |_=>ε
def qez{P:Cl}:kN P (OF P):=λgl t h nx o q K hq e=>by
  unfold OF at hq;split at hq;case h_2=>cases hq
  split at hq;case h_2=>cases hq
  rename_i id off m c el fz l J;split at hq;case h_2=>cases hq
  rename_i Y;split at hq;case h_2=>cases hq
  rename_i us T;split at hq;case h_2=>cases hq
  rename_i hlen;split at hq;case h_2=>cases hq
  rename_i h1 hp;split at hq;case h_2=>cases hq
  rename_i u;cases hq;simp only[κ]at Y;obtain⟨B,C,G,H⟩:=Y;have B:=δ B;have C:=δ C;have G:=δ G;have H:=δ H;subst B C G H;have hlen:=δ hlen;refine⟨Unit,λ_=> .ssl id 0 m (us.length / m) (id+1),λ_=>h1,id+2,λ_=>{},λ_=>e,by omega,λF I n a w st fr K' Q hk=> ?_⟩;obtain⟨z,obj,V,w',g1,g2,g3,g4⟩:=qdt (P:=P) J st.tr w;have I0:I id=none:=fr id (ξ _) (by omega);have I1:I (id+1)=none:=fr (id+1) (by omega) (by omega);obtain⟨k1,k2⟩:=g4 (ext I id (w.heap.size,V)) (Zp _ I0) (z6 _ _ _);cases k1 with
  | sl X=>
    rename_i b s A;rw[z6]at X;cases X;have Z:OR (ext I id (w.heap.size,s,A)) (s,A) (.row el 0 us) obj/\us.length=A:=by
      cases k2 with
      | cells r1 r2 r3 r4 r5 U=>
        have:=WE T r1;subst this;obtain⟨q1,q2⟩:=r2 rfl;subst q1 q2;rcases U with rfl|⟨U,_⟩
        · exact⟨.row r3 r4 λo _ ho=>r5 0 rfl o (qq8 _) ho,by simpa using r4⟩
        · cases U
    have hg:=st.sim.push I0 st.low hp g2 Z.1 g3;obtain⟨y,hy⟩:=Ik (γ ⟨w.heap.size,s+0,ε⟩,m,m) trivial;have O:=Grow.tok (y:=y) hg (qqe _) (by rw[ext,if_neg (by omega)];exact I1) u;unfold Oper.wp;rw[g1];refine hk () _ _ w' ?_ O trivial;exact .ssl (b:=w.heap.size) (s:=s) (t:=A) (c:=m) (o:=s+0) (by rw[ext,if_neg (by omega)];exact z6 _ _ _) (ξ _) (by rw[qql,←Z.2,←hlen];exact ξ _) (.inl rfl) (z6 _ _ _) hy
def Tj(P:Cl) (rel:Nat->Option CtR):jC:=λgl t h nx o=>match XW P rel gl t h nx o with
 |some q=>γ q
 |none=>OF P gl t h nx o
def qhc{P:Cl} {rel:Nat->Option CtR} (A:∀g C,rel g=γ C->q1p P g C):kN P (Tj P rel):=λgl t h nx o q K hq e=>by
 unfold Tj at hq;split at hq
 ·rename_i B u;cases hq;exact IX A gl t h nx o q K u e
 ·exact qez gl t h nx o q K hq e
def qkg(P:Cl) (calls:Nat->Option Ct) (rel:Nat->Option CtR) (n m:Nat) (W:WayF):VE:={Ug P calls rel n m W with hx:=Tj P rel}
def qk1(P:Cl) (calls:Nat->Option Ct) (rel:Nat->Option CtR) (fn:Func) (C:CtR) (W:C.σ->WayF) (s:C.σ):Prop:=GY .e P (qkg P calls rel fn.ntmps C.m (W s)) 300 fn (wI fn) C s
def qj9{P:Cl} (hm:P.follows .mixedOrders=ρ) {calls:Nat->Option Ct} (O:∀g C,calls g=γ C->q4p P g C) {rel:Nat->Option CtR} (G:∀g C,rel g=γ C->q1p P g C) {f:Nat} {fn:Func} {C:CtR} {W:C.σ->WayF} (H:P.funcs[f]? =γ fn) (B:q25 P f fn=ρ) (J:1<=C.m) (hle:C.m<=C.m') (U:∀s,Ν (C.args s).length fn.ntmps=ρ) (V:∀s,qk1 P calls rel fn C W s):q1p P f C:=by
  unfold q25 at B;cases u:fn.body with
  |none=>rw[u]at B;cases B
  | some c=>
    rw[u]at B;have A:wI fn=c:=(by unfold wI;rw[u]);refine qe0 hm (tab:= .e) (fuel:=300) (c:=c) (E:=λs=>qkg P calls rel fn.ntmps C.m (W s)) H u (by simpa using B) (λs=>IW O) (λs=>qhc G) (λs=>IV) (λs=>rfl) J (λI n a h=>by rw[T.get_e]at h;cases h) hle (λs=> ?_) (λs=> ?_)
    · have:=η (U s);show fn.ntmps=_;omega
    · have:=V s;unfold qk1 at this;rw[A]at this;exact this
end
end
end Go.Proofs.YtniogjgfomaicaaGreat.Sen
