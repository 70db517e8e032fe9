/-
  The machine with unknown values: questions reckoned out of the code. No condition but what its theorems ask.
-/
import Derived.Test.YtniogjgfomaicaaGreatU5
import Derived.Laws.Strings
import Derived.Laws.Cover4
import Derived.Laws.IdiomStrings
import Derived.Laws.StructEq
import Derived.Maps.RangeRun
namespace Go.Proofs.YtniogjgfomaicaaGreat.Sen
open Go.Proofs.YtniogjgfomaicaaGreat.Eng Go.RowKit
set_option linter.defProp false
set_option linter.unusedVariables false
set_option linter.unusedSimpArgs false
noncomputable section
section
def fnK(pe:List Nat) (P:IW) (fn:Func) (C:Ct) (s:C.σ) (h1:T AO):AX->KS:=λx gl t h nx=>match x with
  | .ex _=>False
  | _=>wg pe gl t h λgl t h=>match w_ P t h fn.results.toList with
    |some rs=>Gj C.m gl (Wk rs) h nx (C.r s) (z6 h1) C.m' (C.g s)
    |none=>False
def gl0(tab:T AV):GL:=⟨tab,λ_=>True,λ_ _ _ h=>h,true,λ_ _=>trivial⟩
def Ga(tab:T AV) (P:IW) (E:VE) (fuel:Nat) (fn:Func) (c:Code) (C:Ct) (s:C.σ):Prop:=match q0p (C.h s) .e with
  | some h0=>match Nat.blt (C.args s).length jB with
    | true=>match Vn (C.args s) 0 tab with
      | some t0=>match q0p (C.h' s) .e with
        |some h1=>Ob (C.pre s)->wb (gl0 tab) (C.mem s) λgl=>vc E P fuel 0 c gl t0 h0 C.m (fnK E.pubE P fn C s h1)
        |none=>False
      |none=>False
    |false=>False
  |none=>False
def tu {P:IW} (hm:P.follows .mixedOrders=true) {tab:T AV} {fuel f:Nat} {fn:Func} {c:Code} {C:Ct} {E:C.σ->VE} (hfn:P.funcs[f]? =some fn) (hc:fn.body=some c) (hname:(fn.name== "runtime.NumGoroutine")=false) (ho:∀s,vJ P (E s).hs) (hX:∀s,j9 P (E s).hx) (hr:∀s,ka P (E s).hr)
    (h0:∀s,(E s).nx0=C.m) (h1m:1<=C.m) (htab:∀I,ZE tab I) (hle:C.m<=C.m') (hn:∀s,(E s).n=(C.args s).length+(fn.ntmps- (C.args s).length)) (hv:∀s,Ga tab P (E s) fuel fn c C s):q4p P f C:=by
  refine⟨hle,h1m,λargs w=> ?_,λs=> ?_⟩
  · have hnn:¬fn.name= "runtime.NumGoroutine" :=(by simpa using hname);simp[callFunc,program,Sem.run,bind,Sem.bind,pure,hfn,hnn,hc]
  have e:=hv s;unfold Ga at e;split at e;case h_2=>exact e.elim
  rename_i hh0 hp0;split at e;case h_2=>exact e.elim
  rename_i hlen;split at e;case h_2=>exact e.elim
  rename_i t0 ht0;split at e;case h_2=>exact e.elim
  rename_i hh1 hp1;refine⟨hh0,hh1,hp0,hp1,λF I w vs hvs hs low zf hpre hmem fr hz0=> ?_⟩;have hlt:(C.args s).length<jB:=by simpa[Nat.blt_eq]using hlen
  refine calls_of_wp hfn hc (tI (F0:=F) (I0:=I) (w0:=w) hm (ho s) (hX s) (hr s) (by rw[h0 s];exact fr) fuel 0 c (Z4 (e hpre) (p:=q11 F w) trivial hmem) (F:=F) (I:=I) (by rw[GL.withP_tab];exact⟨htab I,hz0⟩) ?_ ?_ _ λx ex a' w' hx hp=> ?_)
  · refine⟨λk b hk=> ?_,?_,rfl,hs,low,by rw[GL.withP_tab];exact⟨htab I,hz0⟩,zf,GL.withP_of trivial hmem⟩
    · have hg:=E1 _ _ _ _ ht0 k;rw[hk]at hg;simp only[Nat.not_lt_zero,if_false,Nat.zero_add,Nat.sub_zero]at hg;split at hg
      · rename_i hlt2;obtain⟨v,g1,g2⟩:=hvs.get k b hg.symm;have hkv:k<vs.length:=(by rw[←hvs.len];exact hlt2);have:((⟨vs⟩:Array Value)++Array.replicate (fn.ntmps- (⟨vs⟩:Array Value).size) undef).getD k undef=v:=(by rw[Array.getD_eq_getD_getElem?,Array.getElem?_append_left (by simpa using hkv)];simp[g1]);rw[QV (by omega),this];exact g2
      · obtain⟨g1,g2⟩:=htab I k b hg.symm;unfold slot;rw[if_neg (by omega)];exact g2
    · rw[Array.size_append,Array.size_replicate,hn s];show vs.length+(fn.ntmps- vs.length)=_;rw[hvs.len]
  · exact⟨λid _=>rfl,by rw[h0 s];exact Nat.le_refl _,fr,λs b h=>h,λb h=> .inl h,λb _=>rfl,Nat.le_refl _, .refl w⟩
  · obtain⟨gl2,t2,h2,nx2,F2,I2,e2,hg2,st2,at2⟩:=hp;have fin:(wg (E s).pubE gl2 t2 h2 λgl t h=>match w_ P t h fn.results.toList with
        |some rs=>Gj C.m gl (Wk rs) h nx2 (C.r s) (z6 hh1) C.m' (C.g s)
        |none=>False)->a'.defers=[]/\∃v,(results fn a'.tmps).run P w'= .ok v w'/\∃z I',Ending.returned v= .returned z/\VR I' (C.r s) z/\Grow F I C.m w I' C.m' hh1 w'/\(C.g s).Φ I' (jK F w I' hh1 w'):=λe2=>by
      obtain⟨gl3,t3,h3,F3,htb,e3,st3,at3⟩:=QW _ e2 st2 at2;split at e3;case h_2=>exact e3.elim
      rename_i rs hrs;have st4:Eng.St tab F3 I2 t3 h3 (E s).n a' w':=⟨st3.tr,st3.size,st3.defers,st3.sim,st3.low,htab I2,st3.zf⟩;obtain⟨v,r1,r2⟩:=pO (P:=P) st4 hrs;obtain⟨I',q1,q2,q3⟩:=qgb e3 st3 (by rw[h0 s]at at3;exact at3) r2 low fr;exact⟨st3.defers,v,r1,v,I',rfl,q1,q2,q3⟩
    cases x with
    |ex i=>exact e2.elim
    | nrm=>
      cases ex<;>simp only[AX.is]at hx;exact fin e2
    | rt=>
      cases ex<;>simp only[AX.is]at hx;exact fin e2
end
section
mutual
def zh(σ:Nat->Nat):AV->AV
 | .tsl k=> .tsl (σ k)
 | .tpt k=> .tpt (σ k)
 | .tmap k=> .tmap (σ k)
 | .ifc t a=> .ifc t (zh σ a)
 | .agg l=> .agg (renL σ l)
 | .tup l=> .tup (renL σ l)
 | .fn f l=> .fn f (renL σ l)
 | .bfn f l m=> .bfn f (renL σ l) (renL σ m)
 | .bool b=> .bool b
 | .int k n=> .int k n
 | .str s=> .str s
 | .nilp=> .nilp
 | .ptr a b=> .ptr (σ a) b
 | .nsl=> .nsl
 | .sl a b c d=> .sl (σ a) b c d
 | .gsl a b c d=> .gsl (σ a) b c d
 | .nmap=> .nmap
 | .map a=> .map (σ a)
 | .nilf=> .nilf
 | .nili=> .nili
 | .ifo=> .ifo
 | .anyi k=> .anyi k
 | .lin k c l=> .anyi k
 | .sv v=> .sv v
 | .ssl a b c d k=> .ssl (σ a) b c d (σ k)
 | .msl a b c=> .msl (σ a) b c
 | .usl a b c d=> .usl (σ a) b c d
 | .sptr a b=> .sptr (σ a) b
def renL(σ:Nat->Nat):List AV->List AV
 | []=>[]
 |a::l=>zh σ a::renL σ l
end
section
variable {I J:In} {σ:Nat->Nat}
mutual
def Y'(hx:∀j x,J j=some x->I (σ j)=some x):∀{a v},VR J a v->VR I (zh σ a) v
 |_,_, .tsl h=>by unfold zh;exact .tsl (hx _ _ h)
 |_,_, .tpt h=>by unfold zh;exact .tpt (hx _ _ h)
 |_,_, .tmap h=>by unfold zh;exact .tmap (hx _ _ h)
 |_,_, .ifc h=>by unfold zh;exact .ifc (Y' hx h)
 |_,_, .agg h=>by unfold zh;exact .agg (renL_ok hx h)
 |_,_, .tup h=>by unfold zh;exact .tup (renL_ok hx h)
 |_,_, .fn h=>by unfold zh;exact .fn (renL_ok hx h)
 |_,_, .bfn h1 h=>by unfold zh;exact .bfn (renL_ok hx h1) (renL_ok hx h)
 |_,_, .bool b=>by unfold zh;exact .bool b
 |_,_, .int k n=>by unfold zh;exact .int k n
 |_,_, .str l=>by unfold zh;exact .str l
 |_,_, .nilp=>by unfold zh;exact .nilp
 |_,_, .ptr h=>by unfold zh;exact .ptr (hx _ _ h)
 |_,_, .nsl=>by unfold zh;exact .nsl
 |_,_, .sl h=>by unfold zh;exact .sl (hx _ _ h)
 |_,_, .gsl h h1 h2 h3=>by unfold zh;exact .gsl (hx _ _ h) h1 h2 h3
 |_,_, .nmap=>by unfold zh;exact .nmap
 |_,_, .map h=>by unfold zh;exact .map (hx _ _ h)
 |_,_, .nilf=>by unfold zh;exact .nilf
 |_,_, .nili=>by unfold zh;exact .nili
 |_,_, .ifo=>by unfold zh;exact .ifo
 |_,_, .anyi=>by unfold zh;exact .anyi
 |_,_, .lin h=>by unfold zh;exact .anyi
 |_,_, .sv v=>by unfold zh;exact .sv v
 |_,_, .ssl h h1 h2 h3 hk hd=>by unfold zh;exact .ssl (hx _ _ h) h1 h2 h3 (hx _ _ hk) hd
 |_,_, .msl h h2 h3=>by unfold zh;exact .msl (hx _ _ h) h2 h3
 |_,_, .usl h h1 h2 h3=>by unfold zh;exact .usl (hx _ _ h) h1 h2 h3
 |_,_, .usl0 h=>by unfold zh;exact .usl0 h
 |_,_, .ssl0 h hk hd=>by unfold zh;exact .ssl0 h (hx _ _ hk) hd
 |_,_, .sptr h=>by unfold zh;exact .sptr (hx _ _ h)
def renL_ok(hx:∀j x,J j=some x->I (σ j)=some x):∀{l vs},VRs J l vs->VRs I (renL σ l) vs
 |_,_, .nil=>by unfold renL;exact .nil
 |_,_, .cons h t=>by unfold renL;exact .cons (Y' hx h) (renL_ok hx t)
end
end
def Q6(σ:Nat->Nat):List (Value×AV×Nat)->List (Value×AV×Nat)
 | []=>[]
 | (k,a,n)::l=>(k,zh σ a,n)::Q6 σ l
def yA(σ:Nat->Nat):AO->AO
 | .cells e fz g l=> .cells e fz g (renL σ l)
 | .map es c=> .map (Q6 σ es) c
 | .row e fz vs=> .row e fz vs
 | .mrow es c=> .mrow es c
 | .iter m s l c=> .iter (σ m) s l c
def sA{I J:In} {σ:Nat->Nat} (hx:∀j x,J j=some x->I (σ j)=some x):∀{l ms},MR J l ms->MR I (Q6 σ l) ms
 |_,_, .nil=> .nil
 |_,_, .cons h t=> .cons (Y' hx h) (sA hx t)
def sB{I J:In} {σ:Nat->Nat} (hx:∀j x,J j=some x->I (σ j)=some x) {t o ob} (h:OR J t o ob):OR I t (yA σ o) ob:=by
 cases h with
 |cells h hg hp ht hf hE=>exact .cells (renL_ok hx h) hg hp ht hf hE
 |map h=>exact .map (sA hx h)
 |row hp ht hf=>exact .row hp ht hf
 |mrow=>exact .mrow
 |iter h hp=>exact .iter (hx _ _ h) hp
def qkm(σ:Nat->Nat) (g:GS):GS:=match g with
 |none=>none
 |some d=>some ⟨d.β,d.ks.map σ,d.pre,d.mem⟩
def j_(nx:Nat) (l:List (Nat×Nat)) (j:Nat):Nat:=match j with
  |0=>0
  | j+1=>match assoc (j+1) l with
    |some i=>i
    |none=>nx+(j+1)
def KB(σ:Nat->Nat) (nx m m':Nat) (h:T AO):List (Nat×AO)->Prop->Prop
  | [],K=>K
  | (i,o)::l,K=>tB (o.rw) (match h.get (σ i)with
    |some b=>eO σ m o b (KB σ nx m m' h l K)
    |none=>tB (Nat.ble nx (σ i)&&Nat.blt (σ i) (nx+m')) (KB σ nx m m' h l K))
def Vb{σ:Nat->Nat} {I:In} (z:I 0=some (0,0,0)) {nx m m':Nat} {h:T AO} (fr:∀i,nx<=i->i<nx+m'->I i=none):∀{l:List (Nat×AO)} {K:Prop},KB σ nx m m' h l K->(∀i o,(i,o)∈l->o.rw=true/\(I (σ i)=none\/∃b,h.get (σ i)=some b/\(∀t ob,OR I t b ob->OR (q9 m σ I) t o ob)/\b.rw=true))/\K
  | [],K,e=>⟨λk a h=>(by cases h),e⟩
  | (i, o)::l,K,e=>by
    simp only[KB]at e;obtain⟨e0,e⟩:=qP e;split at e
    · rename_i b hb;obtain⟨h1,h1a,h1b,h2⟩:=tp (I:=I) z e;obtain⟨h3,h4⟩:=Vb z fr h2;exact⟨λk' a' hm=>by
        cases hm with
        |head=>exact⟨e0, .inr ⟨b,hb,h1,h1a e0⟩⟩
        |tail _ hm=>exact h3 k' a' hm,h4⟩
    · obtain⟨h1,h2⟩:=qP e;obtain⟨h3,h4⟩:=Vb z fr h2;simp only[Bool.and_eq_true]at h1;exact⟨λk' a' hm=>by
        cases hm with
        |head=>exact⟨e0, .inl (fr _ (Nat.le_of_ble_eq_true h1.1) (by simpa[Nat.blt_eq]using h1.2))⟩
        |tail _ hm=>exact h3 k' a' hm,h4⟩
def Vd(σ:Nat->Nat):List (Nat×AO)->T AO->Option (T AO)
  | [],h=>some h
  | (i,_)::l,h=>match T.put 64 (σ i) none h with
    |some h'=>Vd σ l h'
    |none=>none
def EY{σ:Nat->Nat}:∀{l:List (Nat×AO)} {h h':T AO},Vd σ l h=some h'->∀k o,h'.get k=some o->h.get k=some o/\∀i q,(i,q)∈l->σ i≠k
  | [],h,h',e,k,o,hk=>by simp[Vd]at e;subst e;exact⟨hk,λi q hm=>by cases hm⟩
  | (i, q)::l,h,h',e,k,o,hk=>by
    simp only[Vd]at e;split at e
    · rename_i h2 hp;obtain⟨h3,h4⟩:=EY e k o hk;rw[T.get_put _ _ _ _ _ hp]at h3;split at h3
      · cases h3
      · rename_i hne;exact⟨h3,λi' q' hm=>by
          cases hm with
          |head=>exactλhh=>hne hh.symm
          |tail _ hm=>exact h4 i' q' hm⟩
    · cases e
def kV(σ:Nat->Nat):List (Nat×AO)->T AO->Option (T AO)
  | [],h=>some h
  | (i,o)::l,h=>match o.rw with
    | true=>match T.put 64 (σ i) (some (yA σ o)) h with
      |some h'=>kV σ l h'
      |none=>none
    |false=>none
def Aw {σ:Nat->Nat}:∀{l:List (Nat×AO)} {h h':T AO},kV σ l h=some h'->∀k o,h'.get k=some o->h.get k=some o\/∃i q,(i,q)∈l/\k=σ i/\o=yA σ q/\q.rw=true
  | [],h,h',e,k,o,hk=>by simp[kV]at e;subst e;exact .inl hk
  | (i, q)::l,h,h',e,k,o,hk=>by
    simp only[kV]at e;split at e
    · rename_i hrw;split at e
      · rename_i h2 hp;rcases Aw e k o hk with h3|⟨i',q',h3,h4⟩
        · rw[T.get_put _ _ _ _ _ hp]at h3;split at h3
          · rename_i hk2;cases h3;exact .inr ⟨i,q,by simp,hk2,rfl,hrw⟩
          · exact .inl h3
        · exact .inr ⟨i',q',by simp[h3],h4⟩
      · cases e
    · cases e
def Wa(nx m:Nat):List (Nat×Nat)->Bool
  | []=>true
  | (i,j)::l=>match Nat.blt i m&&Nat.blt j nx with
    |true=>Wa nx m l
    |false=>false
def E8{nx m:Nat}:∀{l:List (Nat×Nat)},Wa nx m l=true->∀i j,assoc i l=some j->i<m/\j<nx
  | [],_,i,j,h=>by cases h
  | (a, b)::l,h,i,j,e=>by
    simp only[Wa]at h;split at h
    · rename_i hb;simp only[Bool.and_eq_true]at hb;simp only[assoc]at e;split at e
      · rename_i h2;cases e;have:=Nat.eq_of_beq_eq_true h2;subst this;exact⟨by simpa[Nat.blt_eq]using hb.1,by simpa[Nat.blt_eq]using hb.2⟩
      · exact E8 h i j e
    · cases h
def QZ(nx:Nat):List (Nat×AO)->Bool
  | []=>true
  | (i,_)::l=>match Nat.blt i nx with
    |true=>QZ nx l
    |false=>false
def YX{nx:Nat}:∀{l:List (Nat×AO)},QZ nx l=true->∀i o,(i,o)∈l->i<nx
  | [],_,i,o,h=>by cases h
  | (j,q)::l,h,i,o,hm=>by
    simp only[QZ]at h;split at h
    · rename_i hb;cases hm with
      |head=>simpa[Nat.blt_eq]using hb
      |tail _ hm=>exact YX h i o hm
    · cases h
def Wt (C : Ct) (gl:GL) (args:List AV) (h:T AO) (nx:Nat) (K:KK) (s:C.σ):Prop:=match q0p (C.h s) .e with
  | some h0 =>match q0p (C.h' s) .e with
    | some h1 =>match z6 h0 with
      | lh => match wa 0 h lh (Vl 0 (C.args s) args [])with
        | l =>match Wa nx C.m l&&(Jd (j_ nx l) lh []&&(QZ nx (z6 h)&&QZ C.m' (z6 h1)))with
          | true=>KD (j_ nx l) C.m (C.args s) args (KB (j_ nx l) nx C.m C.m' h lh (Ob (C.pre s)/\x6 gl (C.mem s) (match Vd (j_ nx l) lh h with
            | some h2=>match kV (j_ nx l) (z6 h1) h2 with
              |some h3=>K .s (zh (j_ nx l) (C.r s)) none h3 (nx+C.m') (qkm (j_ nx l) (C.g s))
              |none=>False
            |none=>False)))
          |false=>False
    |none=>False
  |none=>False
def Gl(C:Ct) (gl:GL) (args:List AV) (h:T AO) (nx:Nat) (K:KK):Prop:=match C.sel with
  | some g=>match g args h with
    |some s=>∃b:s.β,Wt C gl args h nx K (s.f b)
    |none=>False
  | none=>match C.find with
    |none=>∃s:C.σ,Wt C gl args h nx K s
    | some f=>match f args h with
      |some s=>Wt C gl args h nx K s
      |none=>False
def qgi{C:Ct} {gl:GL} {args:List AV} {h:T AO} {nx:Nat} {K:KK} (e:Gl C gl args h nx K):∃s,Wt C gl args h nx K s:=by
 unfold Gl at e;split at e
 ·split at e
  ·obtain⟨b,e⟩:=e;exact⟨_,e⟩
  ·exact e.elim
 ·split at e
  ·exact e
  ·split at e
   ·exact⟨_,e⟩
   ·exact e.elim
end
section
def qgj{P:IW} {f:Nat} {C:Ct} (hC:q4p P f C) {gl:GL} {args:List AV} {h:T AO} {nx:Nat} {K:KK} (e:Gl C gl args h nx K) (hnx:1<=nx):
    ∃ r h' nx' g,K .s r none h' nx' g/\nx<=nx'/\∀(F:Bool->Nat->Prop) (I:In) (w:World) (vs:List Value),VRs I args vs->Sim F I h w->(∀b,F true b->b<w.heap.size)->(∀b,F false b->F true b)->gl.pf (q11 F w)->vd I nx nx'->I 0=some (0,0,0)->
      Calls P f ⟨vs⟩ w λe w'=>∃z I',e= .returned z/\VR I' r z/\Grow F I nx w I' nx' h' w'/\g.Φ I' (jK F w I' h' w'):=by
  obtain⟨hmm,hm1,_,hC⟩:=hC;obtain⟨s,e⟩:=qgi e;unfold Wt at e;obtain⟨h0,h1,hp0,hp1,hC⟩:=hC s;rw[hp0]at e;simp only at e;rw[hp1]at e;simp only at e;generalize wa 0 h (z6 h0) (Vl 0 (C.args s) args [])=l at e;split at e;case h_2=>exact e.elim
  rename_i hb;simp only[Bool.and_eq_true]at hb;obtain⟨hv,hi,hk,hk1⟩:=hb;have hsig:∀j,0<j->j_ nx l j=(match assoc j l with|some i=>i|none=>nx+j):=λj hj=>by
    cases j with
    |zero=>omega
    |succ j=>rfl
  have hsig0:j_ nx l 0=0:=rfl;have hval:=E8 hv;generalize hσ:j_ nx l=σ at e hi;have sig0:σ 0=0:=by rw[←hσ];rfl
  have sig1:∀j,C.m<=j->σ j=nx+j:=λj hj=>by
    rw[←hσ,hsig j (by omega)];cases ha:assoc j l with
    |none=>rfl
    |some i=>have:=(hval j i ha).1;omega
  have sig2:∀j,σ j<nx\/σ j=nx+j:=λj=>by
    rcases Nat.eq_zero_or_pos j with rfl|hj
    · rw[sig0];exact .inl (by omega)
    rw[←hσ,hsig j hj];cases ha:assoc j l with
    |none=>exact .inr rfl
    |some i=>exact .inl (hval j i ha).2
  have keys:=YX hk;have keys1:=YX hk1;obtain⟨_,inj⟩:=Y6 hi;have e0:=e;have e1:=Vc (I:=λi=>if i=0 then some (0,0,0)else none) rfl e;obtain⟨_,e⟩:=e1;obtain⟨_,e⟩:=Vb (I:=λi=>if i=0 then some (0,0,0)else none) rfl (λi h _=>if_neg (by omega)) e;obtain⟨hpre,e⟩:=e;obtain⟨hpf,e⟩:=Y8 e;split at e;case h_2=>exact e.elim
  rename_i h2 hp2;split at e;case h_2=>exact e.elim
  rename_i h3 hp3;refine⟨_,_,_,_,e,Nat.le_add_right _ _,?_⟩;intro F I w vs hvs hs low zf hpfw fr hz;obtain⟨hargs,e'⟩:=Vc (I:=I) hz e0;obtain⟨hobj,_⟩:=Vb (I:=I) hz (λi a b=>fr i a b) e';have old2:=EY hp2
  let Fc:Bool->Nat->Prop:=λs x=>match s with
    |true=>F true x\/∃id o t,h2.get id=some o/\I id=some (x,t)
    |false=>F false x
  have sc:Sim Fc (q9 C.m σ I) h0 w:=by
    refine⟨λid o b t g hI=> ?_,λid id' o o' b t t' g g' hI hI'=> ?_,λid o b t g hI hf=> ?_⟩
    · obtain⟨_,hJ⟩:=jJ hI;rcases(hobj id o (jd g)).2 with h5|⟨b2,h5,h6,_⟩
      · rw[h5]at hJ;cases hJ
      · obtain⟨ob,k1,k2⟩:=hs.obj _ _ _ _ h5 hJ;exact⟨ob,k1,h6 _ _ k2⟩
    · obtain⟨_,hJ⟩:=jJ hI;obtain⟨_,hJ'⟩:=jJ hI';rcases(hobj id o (jd g)).2 with h5|⟨b2,h5,h6,_⟩
      · rw[h5]at hJ;cases hJ
      rcases(hobj id' o' (jd g')).2 with h5'|⟨b2',h5',h6',_⟩
      · rw[h5']at hJ';cases hJ'
      exact inj _ _ _ _ (jd g) (jd g') (hs.inj _ _ _ _ _ _ _ h5 h5' hJ hJ')
    · obtain⟨_,hJ⟩:=jJ hI;rcases(hobj id o (jd g)).2 with h5|⟨b2,h5,h6,h7⟩
      · rw[h5]at hJ;cases hJ
      rcases hf with hf|⟨id',o',t',q1,q2⟩
      · have:=(hs.fr _ _ _ _ h5 hJ hf).1;rw[h7]at this;cases this
      · obtain⟨r1,r2⟩:=old2 _ _ q1;have:=hs.inj _ _ _ _ _ _ _ r1 h5 q2 hJ;exact absurd this.symm (r2 _ _ (jd g))
  have lowc:∀b,Fc true b->b<w.heap.size:=λb hb=>by
    rcases hb with hb|⟨id,o,t,q1,q2⟩
    · exact low b hb
    · obtain⟨ob,k1,_⟩:=hs.obj _ _ _ _ (old2 _ _ q1).1 q2;exact(Array.getElem?_eq_some_iff.1 k1).1
  have frc:∀i,C.m<=i->q9 C.m σ I i=none:=λi hi=>by
    cases hr:q9 C.m σ I i with
    |none=>rfl
    |some y=>have:=(jJ hr).1;omega
  have pfc:(C.mem s).ok (q11 Fc w):=hpf _ hpfw;have hz':q9 C.m σ I 0=some (0,0,0):=by unfold q9;rw[show Nat.blt 0 C.m=true by simp[Nat.blt_eq];omega];simp only;rw[sig0];exact hz
  refine(hC Fc (q9 C.m σ I) w vs (hargs vs hvs) sc lowc (λb hb=> .inl (zf b hb)) hpre pfc frc hz').mono λen w' he=> ?_;obtain⟨z,I1,rfl,hz,g,hgh⟩:=he
  let I':In:=λid=>if nx+C.m<=id/\id<nx+C.m' then I1 (id- nx)else I id
  have hle:I.le I':=λid x hx=>by
    simp only[I'];split
    · rename_i hh;rw[fr id (by omega) hh.2]at hx;cases hx
    · exact hx
  have dom1:∀j x,I1 j=some x->j<C.m':=λj x hx=>by
    rcases g.new j x hx with h4|h4
    · have:=(jJ h4).1;omega
    · exact h4.2
  have hx:∀j x,I1 j=some x->I' (σ j)=some x:=λj x hj=>by
    have hd:=dom1 j x hj;rcases Nat.lt_or_ge j C.m with hjm|hjm
    · rcases g.new j x hj with h4|h4
      · exact hle _ _ (jJ h4).2
      · omega
    · rw[sig1 j hjm];simp only[I'];rw[if_pos (by omega),Nat.add_sub_cancel_left];exact hj
  have part:∀id o b t,h3.get id=some o->I' id=some (b,t)->(∃j q,h1.get j=some q/\id=σ j/\o=yA σ q/\q.rw=true/\I1 j=some (b,t))\/(h2.get id=some o/\I id=some (b,t)):=λid o b t hg hI=>by
    rcases Aw hp3 id o hg with h4|⟨j,q,h4,h5,h6,h7⟩
    · refine .inr ⟨h4,?_⟩;have:=keys id o (jd (old2 _ _ h4).1);simp only[I']at hI;rw[if_neg (by omega)]at hI;exact hI
    · refine .inl ⟨j,q,X9 h4,h5,h6,h7,?_⟩;have hjm':=keys1 j q h4;subst h5;rcases Nat.lt_or_ge j C.m with hjm|hjm
      · rcases sig2 j with h8|h8
        · simp only[I']at hI;rw[if_neg (by omega)]at hI;refine g.le _ _ ?_;unfold q9;rw[show Nat.blt j C.m=true by simpa[Nat.blt_eq]using hjm];exact hI
        · simp only[I']at hI;rw[h8,if_neg (by omega),fr _ (by omega) (by omega)]at hI;cases hI
      · rw[sig1 j hjm]at hI;simp only[I']at hI;rw[if_pos (by omega),Nat.add_sub_cancel_left]at hI;exact hI
  have hgr:Grow F I nx w I' (nx+C.m') h3 w':=by
    refine⟨hle,λi x hi=> ?_,⟨λid o b t hg hI=> ?_,λid id' o o' b t t' hg hg' hI hI'=> ?_,λid o b t hg hI hf=> ?_⟩,λb hb=>g.fr b (.inl hb),g.size,g.same⟩
    · simp only[I']at hi;split at hi
      · exact .inr ⟨by omega,by omega⟩
      · exact .inl hi
    · rcases part id o b t hg hI with⟨j,q,k1,k2,k3,k4,k5⟩|⟨k1,k2⟩
      · obtain⟨ob,r1,r2⟩:=g.sim.obj _ _ _ _ k1 k5;exact⟨ob,r1,by rw[k3];exact sB hx r2⟩
      · obtain⟨ob,r1,r2⟩:=hs.obj _ _ _ _ (old2 _ _ k1).1 k2;exact⟨ob,(g.fr b (.inr ⟨id,o,t,k1,k2⟩)).trans r1,r2.mono hle⟩
    · rcases part id o b t hg hI with⟨j,q,k1,k2,k3,k4,k5⟩|⟨k1,k2⟩<;>rcases part id' o' b t' hg' hI' with⟨j',q',k1',k2',k3',k4',k5'⟩|⟨k1',k2'⟩
      · rw[k2,k2',g.sim.inj _ _ _ _ _ _ _ k1 k1' k5 k5']
      · have:=(g.sim.fr _ _ _ _ k1 k5 (.inr ⟨id',o',t',k1',k2'⟩)).1;rw[k4]at this;cases this
      · have:=(g.sim.fr _ _ _ _ k1' k5' (.inr ⟨id,o,t,k1,k2⟩)).1;rw[k4']at this;cases this
      · exact hs.inj _ _ _ _ _ _ _ (old2 _ _ k1).1 (old2 _ _ k1').1 k2 k2'
    · rcases part id o b t hg hI with⟨j,q,k1,k2,k3,k4,k5⟩|⟨k1,k2⟩
      · have:=(g.sim.fr _ _ _ _ k1 k5 (.inl hf)).1;rw[k4]at this;cases this
      · exact hs.fr _ _ _ _ (old2 _ _ k1).1 k2 hf
  refine⟨z,I',rfl,Y' hx hz,hgr,?_⟩;have hpub:Pub.le (jK Fc w I1 h1 w') (jK F w I' h3 w'):=λb ob hb=>by
    rw[yr]at hb⊢;refine⟨hb.1.imp (λh=>h) λ⟨h4,h5⟩=>⟨λhf=>h4 (.inl hf),λ⟨id,o,t,q1,q2,q3⟩=> ?_⟩,hb.2⟩;rcases part id o b t q1 q3 with⟨j,q,k1,k2,k3,k4,k5⟩|⟨k1,k2⟩
    · exact h5 ⟨j,q,t,k1,k4,k5⟩
    · exact h4 (.inr ⟨id,o,t,k1,k2⟩)
  have hΦ:=(C.g s).mono _ _ _ _ (In.le_refl I1) hpub hgh;generalize C.g s=gs at hΦ;cases gs with
  |none=>trivial
  | some d=>
    obtain⟨hΦ1,bb,hΦ0,hΦ2⟩:=hΦ;refine⟨λk hk=> ?_,bb,hΦ0,λx hxk=> ?_⟩
    · obtain⟨j,hj,rfl⟩:=List.mem_map.1 hk;obtain⟨y,hy⟩:=hΦ1 j hj;exact⟨y,hx _ _ hy⟩
    · show(d.mem bb ((d.ks.map σ).map x)).ok _;rw[List.map_map];exact hΦ2 (x∘σ) λk y hk hy=>hxk (σ k) y (List.mem_map.2 ⟨k,hk,rfl⟩) (hx _ _ hy)
end
section
abbrev uK:=T AV->Oper->(AV->Prop)->Prop
def x3(P:IW) (q:uK):Prop:=∀t o K,q t o K->∃v,QP P t o v/\K v
abbrev QK:=GL->T AV->T AO->Nat->Oper->(AV->T AO->Nat->GS->Prop)->Prop
def Vp(P:IW) (s:QK):Prop:=∀gl t h nx o K,s gl t h nx o K->∃v h' nx' g,y7 gl P t h nx o g v h' nx'/\K v h' nx' g
abbrev Yk:=T AV->Nat->Oper->(AV->AO->Prop)->Prop
def Sz(P:IW) (au:Yk):Prop:=∀t nx o K,au t nx o K->∃v ob,AP P t nx o v ob/\K v ob
variable {gl:GL} {t:T AV} {h:T AO} {nx:Nat} {o:Oper}
def qj2{P:IW} {r:AV} {h':T AO} {nx':Nat} (e:uf P t h nx o=some (r,h',nx')):y7 gl P t h nx o none r h' nx':=by
 refine⟨(qkj (gl:= .e) e).1,λF I n a w st fr K Q hk=> ?_⟩;obtain⟨_,nn,z,I',w',g1,g2,g3,g4⟩:=te e st.tr st.sim st.low fr;unfold Oper.wp;rw[g1];rcases g2 with rfl|⟨rfl,rfl⟩
 ·exact hk z I' w' g3 g4 trivial
 ·exact hk undef I' w' g3 g4 trivial
def QN(P:IW) (rs:jl):jl:=λgl t h o K=>match xh P t h o with
 |some v=>K v
 |none=>rs gl t h o K
def AW{P:IW} {rs:jl} (ok:ka P rs):ka P (QN P rs):=λgl t h o K e=>by
 unfold QN at e;split at e
 ·rename_i v hv;exact⟨v,λF I a w ht hs _=>td hv ht hs,e⟩
 ·exact ok _ _ _ _ _ e
def hQ(P:IW) (qs:uK) (t:T AV) (h:T AO) (nx:Nat) (o:Oper) (K:KK):Prop:=match jS P t o with
 |some v=>K .q v none h nx none
 |none=>qs t o λv=>K .q v none h nx none
def hS(P:IW) (ss:QK) (gl:GL) (t:T AV) (h:T AO) (nx:Nat) (o:Oper) (K:KK):Prop:=tB (qG o) (match uf P t h nx o with
 |some (v,h',nx')=>K .s v none h' nx' none
 |none=>ss gl t h nx o λv h' nx' g=>K .s v none h' nx' g)
def hA (P:IW) (t:T AV) (h:T AO) (nx:Nat) (o:Oper) (K:KK) (alt:Prop):Prop:=match wS P t nx o with
  | some (v,ob)=>match kS P o with
    | true=>match qG o with
      | false=>match T.put 64 nx (some ob) h with
        |some h'=>K .a v (some ob) h' (nx+1) none
        |none=>False
      |true=>False
    |false=>False
  |none=>alt
def Xe(P:IW) (au:Yk) (t:T AV) (h:T AO) (nx:Nat) (o:Oper) (K:KK):Prop:=tB (kS P o&&Bool.not (qG o)) (au t nx o λv ob=>match T.put 64 nx (some ob) h with
 |some h'=>K .a v (some ob) h' (nx+1) none
 |none=>False)
def MW(ss:QK) (gl:GL) (t:T AV) (h:T AO) (nx:Nat) (o:Oper) (K:KK):Prop:=tB (qG o) (ss gl t h nx o λv h' nx' g=>K .s v none h' nx' g)
def hC(P:IW) (calls:Nat->Option Ct) (gl:GL) (t:T AV) (h:T AO) (nx:Nat) (o:Oper) (K:KK):Prop:=tB (qG o) (match Y3 t o with
  | some (g,l)=>match calls g with
    |some C=>tB (Nat.ble 1 nx) (Gl C gl l h nx K)
    |none=>False
  |none=>False)
def Xf (P:IW) (calls:Nat->Option Ct) (qs:uK) (rs:jl) (ss:QK) (au:Yk):jF:=λgl t h nx o K=>match o.op with
  | .load .. | .lookup .. =>QN P rs gl t h o λv=>K .r v none h nx none
  | .alloc _| .box .. | .buildSlice .. | .makeMap .. | .makeSlice .. =>hA P t h nx o K (Xe P au t h nx o K)
  | .store .. | .mapUpdate .. | .insert .. | .mapEntry .. | .entryStore .. =>hS P ss gl t h nx o K
  | .convert s d _=>match jS P t o with
    |some v=>K .q v none h nx none
    | none=>match xh P t h o with
      |some v=>K .r v none h nx none
      | none=>match Nat.beq s d with
        |true=>hS P ss gl t h nx o K
        | false=>hA P t h nx o K (match P.underlying d with
          |some (.slice _)=>Xe P au t h nx o K
          | some .string=>match P.underlying s with
            |some (.slice _)=>rs gl t h o λv=>K .r v none h nx none
            |_=>qs t o λv=>K .q v none h nx none
          |_=>qs t o λv=>K .q v none h nx none)
  | .call c=>match c.callee with
    | .builtin .append=>MW ss gl t h nx o K
    | .builtin .copy=>hS P ss gl t h nx o K
    | .builtin .unsafeString=>hS P ss gl t h nx o K
    | .builtin .len=>match jS P t o with
      |some v=>K .q v none h nx none
      | none=>match xh P t h o with
        |some v=>K .r v none h nx none
        |none=>qs t o λv=>K .q v none h nx none
    | .builtin _=>hQ P qs t h nx o K
    |_=>hC P calls gl t h nx o K
  |_=>hQ P qs t h nx o K
variable {v:AV}
def KP.mkq{P:IW} (h1:QP P t o v):KP gl P t h nx o .q v none none h nx:=⟨rfl,rfl,h1,GS.triv_nil⟩
def KP.mkr{P:IW} (h1:RP gl P t h o v):KP gl P t h nx o .r v none none h nx:=⟨rfl,rfl,h1,GS.triv_nil⟩
def KP.mka{P:IW} {h h':T AO} {ob:AO} (h1:AP P t nx o v ob) (h2:T.put 64 nx (some ob) h=some h') (h3:kS P o=true) (h4:qG o=false):KP gl P t h nx o .a v (some ob) none h' (nx+1):=⟨ob,rfl,h1,h2,rfl,h3,h4,GS.triv_nil⟩
def KP.mks{P:IW} {h h':T AO} {nx nx':Nat} {g:GS} (h1:y7 gl P t h nx o g v h' nx') (h2:qG o=true):KP gl P t h nx o .s v none g h' nx':=⟨h1,h2⟩
section
variable {P:IW} {calls:Nat->Option Ct} {qs:uK} {rs:jl} {ss:QK}
def Told(gl:GL) (P:IW) (t:T AV) (h:T AO) (nx:Nat) (o:Oper) (K:KK):Prop:=∃k v ob h' nx' g,KP gl P t h nx o k v ob g h' nx'/\K k v ob h' nx' g
def FJ{gl t h nx o K} (hq:x3 P qs) (e:qs t o λv=>K .q v none h nx none):Told gl P t h nx o K:=by obtain⟨v,h1,h2⟩:=hq _ _ _ e;exact⟨_,_,_,_,_,_,KP.mkq h1,h2⟩
def Al{gl t h nx o v} {K:KK} (hv:jS P t o=some v) (e:K .q v none h nx none):Told gl P t h nx o K:=
 ⟨_,_,_,_,_,_,KP.mkq λI a ht=>qhy hv ht,e⟩
def rU{gl t h nx o v} {K:KK} (hv:xh P t h o=some v) (e:K .r v none h nx none):Told gl P t h nx o K:=
 ⟨_,_,_,_,_,_,KP.mkr λF I a w ht hs _=>td hv ht hs,e⟩
def sF{gl t h nx o K} (hq:x3 P qs) (e:hQ P qs t h nx o K):Told gl P t h nx o K:=by
 unfold hQ at e;split at e
 ·rename_i v hv;exact Al hv e
 ·exact FJ hq e
def QX{gl t h nx o K} (hs:Vp P ss) (e:hS P ss gl t h nx o K):Told gl P t h nx o K:=by
 unfold hS at e;obtain⟨e0,e⟩:=qP e;split at e
 ·rename_i v h' nx' hv;exact⟨_,_,_,_,_,_,KP.mks (qj2 hv) e0,e⟩
 ·obtain⟨v,h',nx',g,h1,h2⟩:=hs _ _ _ _ _ _ e;exact⟨_,_,_,_,_,_,KP.mks h1 e0,h2⟩
def qdn{gl t h nx o K} (hs:Vp P ss) (e:MW ss gl t h nx o K):Told gl P t h nx o K:=by unfold MW at e;obtain⟨e0,e⟩:=qP e;obtain⟨v,h',nx',g,h1,h2⟩:=hs _ _ _ _ _ _ e;exact⟨_,_,_,_,_,_,KP.mks h1 e0,h2⟩
variable {au:Yk}
def K2{gl t h nx o K} (ha:Sz P au) (e:Xe P au t h nx o K):Told gl P t h nx o K:=by
 unfold Xe at e;obtain⟨e0,e⟩:=qP e;simp only[Bool.and_eq_true]at e0;obtain⟨v,ob,h1,h2⟩:=ha _ _ _ _ e;split at h2
 ·rename_i h' hp;exact⟨_,_,_,_,_,_,KP.mka h1 hp e0.1 (by cases hh:qG o with
   |false=>rfl
   |true=>rw[hh]at e0;exact absurd e0.2 (by decide)),h2⟩
 ·exact h2.elim
def K7{gl t h nx o K alt} (e:hA P t h nx o K alt) (ha:alt->Told gl P t h nx o K):Told gl P t h nx o K:=by
 unfold hA at e;split at e
 ·rename_i v ob hv;split at e
  ·rename_i h1;split at e
   ·rename_i h2;split at e
    ·rename_i h' hp;exact⟨_,_,_,_,_,_,KP.mka (λI a ht=>sH hv ht) hp h1 h2,e⟩
    ·exact e.elim
   ·exact e.elim
  ·exact e.elim
 ·exact ha e
def qgh{gl t h nx o K} (hc:∀g C,calls g=some C->q4p P g C) (e:hC P calls gl t h nx o K):Told gl P t h nx o K:=by
 unfold hC at e;obtain⟨e0,e⟩:=qP e;split at e;case h_2=>exact e.elim
 rename_i g l hac;split at e;case h_2=>exact e.elim
 rename_i C hC;have hok:=hc g C hC;obtain⟨e1,e⟩:=qP e;obtain⟨r,h',nx',gs,hK,hle,hcall⟩:=qgj hok e (Nat.le_of_ble_eq_true e1);refine⟨_,_,_,_,_,_,KP.mks ⟨hle,λF I n a w st fr K' Q hk=> ?_⟩ e0,hK⟩;obtain⟨vs,g1,g2⟩:=pQ (P:=P) hac st.tr;unfold Oper.wp;rw[g2 w,hok.2.2.1];refine(hcall F I w vs g1 st.sim st.low st.zf st.pf fr st.gok.z).mono λen w' he=> ?_;obtain⟨z,I',rfl,k1,k2,k3⟩:=he;exact hk z I' w' k1 k2 k3
def sR (hc:∀g C,calls g=some C->q4p P g C) (hq:x3 P qs) (hr:ka P rs) (hs:Vp P ss) (ha:Sz P au):vJ P (Xf P calls qs rs ss au):=by
 intro gl t h nx o K e;show Told gl P t h nx o K;have rd:QN P rs gl t h o (λv=>K .r v none h nx none)->Told gl P t h nx o K:=λe=>by obtain⟨v,h1,h2⟩:=AW hr _ _ _ _ _ e;exact⟨_,_,_,_,_,_,KP.mkr h1,h2⟩
 unfold Xf at e;split at e
 ·exact rd e
 ·exact rd e
 ·exact K7 e (K2 ha)
 ·exact K7 e (K2 ha)
 ·exact K7 e (K2 ha)
 ·exact K7 e (K2 ha)
 ·exact K7 e (K2 ha)
 ·exact QX hs e
 ·exact QX hs e
 ·exact QX hs e
 ·exact QX hs e
 ·exact QX hs e
 ·split at e
  ·rename_i v hv;exact Al hv e
  ·split at e
   ·rename_i v hv;exact rU hv e
   ·split at e
    ·exact QX hs e
    ·refine K7 e λe=> ?_;split at e
     ·exact K2 ha e
     ·split at e
      ·obtain⟨v,h1,h2⟩:=hr _ _ _ _ _ e;exact⟨_,_,_,_,_,_,KP.mkr h1,h2⟩
      ·exact FJ hq e
     ·exact FJ hq e
 ·split at e
  ·exact qdn hs e
  ·exact QX hs e
  ·exact QX hs e
  ·split at e
   ·rename_i v hv;exact Al hv e
   ·split at e
    ·rename_i v hv;exact rU hv e
    ·exact FJ hq e
  ·exact sF hq e
  ·exact qgh hc e
 ·exact sF hq e
end
end
section
structure CtR where
 σ:Type
 args:σ->List AV
 h:σ->List (Nat×AO)
 m:Nat
 pre:σ->Prop:=λ_=>True
 mem:σ->PF:=λ_=>{}
 find:Option (List AV->T AO->Option σ):=none
 sel:Option (List AV->T AO->Option (Sel σ)):=none
 β:σ->Type
 post:(s:σ)->β s->Prop:=λ_ _=>True
 pm:(s:σ)->β s->PF:=λ_ _=>{}
 r:(s:σ)->β s->AV
 h':(s:σ)->β s->List (Nat×AO)
 m':Nat
def q1q(P:IW) (f:Nat) (C:CtR):Prop:=C.m<=C.m'/\1<=C.m/\Enters P f/\∀s,∃h0,q0p (C.h s) .e=some h0/\
 ∀ (F:Bool->Nat->Prop) (I:In) (w:World) (vs:List Value),VRs I (C.args s) vs->Sim F I h0 w->(∀b,F true b->b<w.heap.size)->(∀b,F false b->F true b)->C.pre s->(C.mem s).ok (q11 F w)->(∀i,C.m<=i->I i=none)->I 0=some (0,0,0)->
  Calls P f ⟨vs⟩ w λe w'=>∃b h1,C.post s b/\q0p (C.h' s b) .e=some h1/\∃z I',e= .returned z/\VR I' (C.r s b) z/\Grow F I C.m w I' C.m' h1 w'/\(C.pm s b).ok (jK F w I' h1 w')
def Wl (C:CtR) (gl:GL) (args:List AV) (h:T AO) (nx:Nat) (K:GL->AV->T AO->Nat->Prop) (s:C.σ):Prop:=match q0p (C.h s) .e with
  | some h0 =>match z6 h0 with
    | lh => match wa 0 h lh (Vl 0 (C.args s) args [])with
      | l =>match Wa nx C.m l&&(Jd (j_ nx l) lh []&&QZ nx (z6 h))with
        | true=>KD (j_ nx l) C.m (C.args s) args (KB (j_ nx l) nx C.m C.m' h lh (Ob (C.pre s)/\x6 gl (C.mem s) (match Vd (j_ nx l) lh h with
          | some h2=>∀b:C.β s,Ob (C.post s b)->match q0p (C.h' s b) .e with
            | some h1=>match QZ C.m' (z6 h1)with
              | true=>match kV (j_ nx l) (z6 h1) h2 with
                |some h3=>wb gl (C.pm s b) λgl=>K gl (zh (j_ nx l) (C.r s b)) h3 (nx+C.m')
                |none=>False
              |false=>False
            |none=>False
          |none=>False)))
        |false=>False
  |none=>False
def Gm(C:CtR) (gl:GL) (args:List AV) (h:T AO) (nx:Nat) (K:GL->AV->T AO->Nat->Prop):Prop:=match C.sel with
  | some g=>match g args h with
    |some s=>∃b:s.β,Wl C gl args h nx K (s.f b)
    |none=>False
  | none=>match C.find with
    |none=>∃s:C.σ,Wl C gl args h nx K s
    | some f=>match f args h with
      |some s=>Wl C gl args h nx K s
      |none=>False
def qgk{C:CtR} {gl:GL} {args:List AV} {h:T AO} {nx:Nat} {K:GL->AV->T AO->Nat->Prop} (e:Gm C gl args h nx K):∃s,Wl C gl args h nx K s:=by
 unfold Gm at e;split at e
 ·split at e
  ·obtain⟨b,e⟩:=e;exact⟨_,e⟩
  ·exact e.elim
 ·split at e
  ·exact e
  ·split at e
   ·exact⟨_,e⟩
   ·exact e.elim
def qgl{P:IW} {f:Nat} {C:CtR} (hC:q1q P f C) {gl:GL} {args:List AV} {h:T AO} {nx:Nat} {K:GL->AV->T AO->Nat->Prop} (e:Gm C gl args h nx K) (hnx:1<=nx):
  ∃ (B:Type) (r:B->AV) (h':B->T AO) (nx':Nat) (pm:B->PF),(∀b,wb gl (pm b) λgl=>K gl (r b) (h' b) nx')/\nx<=nx'/\∀(F:Bool->Nat->Prop) (I:In) (w:World) (vs:List Value),VRs I args vs->Sim F I h w->(∀b,F true b->b<w.heap.size)->(∀b,F false b->F true b)->gl.pf (q11 F w)->vd I nx nx'->I 0=some (0,0,0)->
   Calls P f ⟨vs⟩ w λe w'=>∃b z I',e= .returned z/\VR I' (r b) z/\Grow F I nx w I' nx' (h' b) w'/\(pm b).ok (jK F w I' (h' b) w'):=by
 obtain⟨hmm,hm1,_,hC⟩:=hC;obtain⟨s,e⟩:=qgk e;unfold Wl at e;obtain⟨h0,hp0,hC⟩:=hC s;rw[hp0]at e;simp only at e;generalize wa 0 h (z6 h0) (Vl 0 (C.args s) args [])=l at e;split at e;case h_2=>exact e.elim
 rename_i hb;simp only[Bool.and_eq_true]at hb;obtain⟨hv,hi,hk⟩:=hb;have hsig:∀j,0<j->j_ nx l j=(match assoc j l with|some i=>i|none=>nx+j):=λj hj=>by
  cases j with
  |zero=>omega
  |succ j=>rfl
 have hsig0:j_ nx l 0=0:=rfl;have hval:=E8 hv;generalize hσ:j_ nx l=σ at e hi;have sig0:σ 0=0:=by rw[←hσ];rfl
 have sig1:∀j,C.m<=j->σ j=nx+j:=λj hj=>by
  rw[←hσ,hsig j (by omega)];cases ha:assoc j l with
  |none=>rfl
  |some i=>have:=(hval j i ha).1;omega
 have sig2:∀j,σ j<nx\/σ j=nx+j:=λj=>by
  rcases Nat.eq_zero_or_pos j with rfl|hj
  ·rw[sig0];exact .inl (by omega)
  rw[←hσ,hsig j hj];cases ha:assoc j l with
  |none=>exact .inr rfl
  |some i=>exact .inl (hval j i ha).2
 have keys:=YX hk;obtain⟨_,inj⟩:=Y6 hi;have e0:=e;have e1:=Vc (I:=λi=>if i=0 then some (0,0,0)else none) rfl e;obtain⟨_,e⟩:=e1;obtain⟨_,e⟩:=Vb (I:=λi=>if i=0 then some (0,0,0)else none) rfl (λi h _=>if_neg (by omega)) e;obtain⟨hpre,e⟩:=e;obtain⟨hpf,e⟩:=Y8 e;split at e;case h_2=>exact e.elim
 rename_i h2 hp2;have hall:∀b: {b:C.β s // C.post s b},∃q:T AO×T AO,q0p (C.h' s b.1) .e=some q.1/\QZ C.m' (z6 q.1)=true/\kV σ (z6 q.1) h2=some q.2/\wb gl (C.pm s b.1) λgl=>K gl (zh σ (C.r s b.1)) q.2 (nx+C.m'):=λb=>by
  have e:=e b.1 b.2;split at e;case h_2=>exact e.elim
  rename_i h1 hp1;split at e;case h_2=>exact e.elim
  rename_i hk1;split at e;case h_2=>exact e.elim
  rename_i h3 hp3;exact⟨(h1,h3),hp1,hk1,hp3,e⟩
 obtain⟨qf,hqf⟩:=Classical.axiomOfChoice hall;refine⟨{b:C.β s // C.post s b},λb=>zh σ (C.r s b.1),λb=>(qf b).2,nx+C.m',λb=>C.pm s b.1,λb=>(hqf b).2.2.2,Nat.le_add_right _ _,?_⟩;intro F I w vs hvs hs low zf hpfw fr hz;obtain⟨hargs,e'⟩:=Vc (I:=I) hz e0;obtain⟨hobj,_⟩:=Vb (I:=I) hz (λi a b=>fr i a b) e';have old2:=EY hp2
 let Fc:Bool->Nat->Prop:=λs x=>match s with
  |true=>F true x\/∃id o t,h2.get id=some o/\I id=some (x,t)
  |false=>F false x
 have sc:Sim Fc (q9 C.m σ I) h0 w:=by
  refine⟨λid o b t g hI=> ?_,λid id' o o' b t t' g g' hI hI'=> ?_,λid o b t g hI hf=> ?_⟩
  ·obtain⟨_,hJ⟩:=jJ hI;rcases(hobj id o (jd g)).2 with h5|⟨b2,h5,h6,_⟩
   ·rw[h5]at hJ;cases hJ
   ·obtain⟨ob,k1,k2⟩:=hs.obj _ _ _ _ h5 hJ;exact⟨ob,k1,h6 _ _ k2⟩
  ·obtain⟨_,hJ⟩:=jJ hI;obtain⟨_,hJ'⟩:=jJ hI';rcases(hobj id o (jd g)).2 with h5|⟨b2,h5,h6,_⟩
   ·rw[h5]at hJ;cases hJ
   rcases(hobj id' o' (jd g')).2 with h5'|⟨b2',h5',h6',_⟩
   ·rw[h5']at hJ';cases hJ'
   exact inj _ _ _ _ (jd g) (jd g') (hs.inj _ _ _ _ _ _ _ h5 h5' hJ hJ')
  ·obtain⟨_,hJ⟩:=jJ hI;rcases(hobj id o (jd g)).2 with h5|⟨b2,h5,h6,h7⟩
   ·rw[h5]at hJ;cases hJ
   rcases hf with hf|⟨id',o',t',q1,q2⟩
   ·have:=(hs.fr _ _ _ _ h5 hJ hf).1;rw[h7]at this;cases this
   ·obtain⟨r1,r2⟩:=old2 _ _ q1;have:=hs.inj _ _ _ _ _ _ _ r1 h5 q2 hJ;exact absurd this.symm (r2 _ _ (jd g))
 have lowc:∀b,Fc true b->b<w.heap.size:=λb hb=>by
  rcases hb with hb|⟨id,o,t,q1,q2⟩
  ·exact low b hb
  ·obtain⟨ob,k1,_⟩:=hs.obj _ _ _ _ (old2 _ _ q1).1 q2;exact(Array.getElem?_eq_some_iff.1 k1).1
 have frc:∀i,C.m<=i->q9 C.m σ I i=none:=λi hi=>by
  cases hr:q9 C.m σ I i with
  |none=>rfl
  |some y=>have:=(jJ hr).1;omega
 have pfc:(C.mem s).ok (q11 Fc w):=hpf _ hpfw;have hz':q9 C.m σ I 0=some (0,0,0):=by unfold q9;rw[show Nat.blt 0 C.m=true by simp[Nat.blt_eq];omega];simp only;rw[sig0];exact hz
 refine(hC Fc (q9 C.m σ I) w vs (hargs vs hvs) sc lowc (λb hb=> .inl (zf b hb)) hpre pfc frc hz').mono λen w' he=> ?_;obtain⟨b,h1,hpost,hph1,z,I1,rfl,hz,g,hgh⟩:=he;obtain⟨hq1,hk1,hp3,_⟩:=hqf ⟨b,hpost⟩;generalize hh3:(qf ⟨b,hpost⟩).2=h3 at hp3;have:(qf ⟨b,hpost⟩).1=h1:=by have:=hq1.symm.trans hph1;exact Option.some.inj this
 rw[this]at hk1 hp3;clear hq1 this;have keys1:=YX hk1
 let I':In:=λid=>if nx+C.m<=id/\id<nx+C.m' then I1 (id- nx)else I id
 have hle:I.le I':=λid x hx=>by
  simp only[I'];split
  ·rename_i hh;rw[fr id (by omega) hh.2]at hx;cases hx
  ·exact hx
 have dom1:∀j x,I1 j=some x->j<C.m':=λj x hx=>by
  rcases g.new j x hx with h4|h4
  ·have:=(jJ h4).1;omega
  ·exact h4.2
 have hx:∀j x,I1 j=some x->I' (σ j)=some x:=λj x hj=>by
  have hd:=dom1 j x hj;rcases Nat.lt_or_ge j C.m with hjm|hjm
  ·rcases g.new j x hj with h4|h4
   ·exact hle _ _ (jJ h4).2
   ·omega
  ·rw[sig1 j hjm];simp only[I'];rw[if_pos (by omega),Nat.add_sub_cancel_left];exact hj
 have part:∀id o b t,h3.get id=some o->I' id=some (b,t)->(∃j q,h1.get j=some q/\id=σ j/\o=yA σ q/\q.rw=true/\I1 j=some (b,t))\/(h2.get id=some o/\I id=some (b,t)):=λid o b t hg hI=>by
  rcases Aw hp3 id o hg with h4|⟨j,q,h4,h5,h6,h7⟩
  ·refine .inr ⟨h4,?_⟩;have:=keys id o (jd (old2 _ _ h4).1);simp only[I']at hI;rw[if_neg (by omega)]at hI;exact hI
  ·refine .inl ⟨j,q,X9 h4,h5,h6,h7,?_⟩;have hjm':=keys1 j q h4;subst h5;rcases Nat.lt_or_ge j C.m with hjm|hjm
   ·rcases sig2 j with h8|h8
    ·simp only[I']at hI;rw[if_neg (by omega)]at hI;refine g.le _ _ ?_;unfold q9;rw[show Nat.blt j C.m=true by simpa[Nat.blt_eq]using hjm];exact hI
    ·simp only[I']at hI;rw[h8,if_neg (by omega),fr _ (by omega) (by omega)]at hI;cases hI
   ·rw[sig1 j hjm]at hI;simp only[I']at hI;rw[if_pos (by omega),Nat.add_sub_cancel_left]at hI;exact hI
 have hgr:Grow F I nx w I' (nx+C.m') h3 w':=by
  refine⟨hle,λi x hi=> ?_,⟨λid o b t hg hI=> ?_,λid id' o o' b t t' hg hg' hI hI'=> ?_,λid o b t hg hI hf=> ?_⟩,λb hb=>g.fr b (.inl hb),g.size,g.same⟩
  ·simp only[I']at hi;split at hi
   ·exact .inr ⟨by omega,by omega⟩
   ·exact .inl hi
  ·rcases part id o b t hg hI with⟨j,q,k1,k2,k3,k4,k5⟩|⟨k1,k2⟩
   ·obtain⟨ob,r1,r2⟩:=g.sim.obj _ _ _ _ k1 k5;exact⟨ob,r1,by rw[k3];exact sB hx r2⟩
   ·obtain⟨ob,r1,r2⟩:=hs.obj _ _ _ _ (old2 _ _ k1).1 k2;exact⟨ob,(g.fr b (.inr ⟨id,o,t,k1,k2⟩)).trans r1,r2.mono hle⟩
  ·rcases part id o b t hg hI with⟨j,q,k1,k2,k3,k4,k5⟩|⟨k1,k2⟩<;>rcases part id' o' b t' hg' hI' with⟨j',q',k1',k2',k3',k4',k5'⟩|⟨k1',k2'⟩
   ·rw[k2,k2',g.sim.inj _ _ _ _ _ _ _ k1 k1' k5 k5']
   ·have:=(g.sim.fr _ _ _ _ k1 k5 (.inr ⟨id',o',t',k1',k2'⟩)).1;rw[k4]at this;cases this
   ·have:=(g.sim.fr _ _ _ _ k1' k5' (.inr ⟨id,o,t,k1,k2⟩)).1;rw[k4']at this;cases this
   ·exact hs.inj _ _ _ _ _ _ _ (old2 _ _ k1).1 (old2 _ _ k1').1 k2 k2'
  ·rcases part id o b t hg hI with⟨j,q,k1,k2,k3,k4,k5⟩|⟨k1,k2⟩
   ·have:=(g.sim.fr _ _ _ _ k1 k5 (.inl hf)).1;rw[k4]at this;cases this
   ·exact hs.fr _ _ _ _ (old2 _ _ k1).1 k2 hf
 refine⟨⟨b,hpost⟩,z,I',rfl,Y' hx hz,(show Grow F I nx w I' (nx+C.m') (qf ⟨b,hpost⟩).2 w' from by rw[hh3];exact hgr),?_⟩;show(C.pm s b).ok (jK F w I' (qf ⟨b,hpost⟩).2 w');rw[hh3];have hpub:Pub.le (jK Fc w I1 h1 w') (jK F w I' h3 w'):=λb ob hb=>by
  rw[yr]at hb⊢;refine⟨hb.1.imp (λh=>h) λ⟨h4,h5⟩=>⟨λhf=>h4 (.inl hf),λ⟨id,o,t,q1,q2,q3⟩=> ?_⟩,hb.2⟩;rcases part id o b t q1 q3 with⟨j,q,k1,k2,k3,k4,k5⟩|⟨k1,k2⟩
  ·exact h5 ⟨j,q,t,k1,k4,k5⟩
  ·exact h4 (.inr ⟨id,o,t,k1,k2⟩)
 exact PF.ok_mono hpub hgh
def Xg(P:IW) (rel:Nat->Option CtR):jv:=λgl t h nx o=>match qG o with
  |false=>none
  | true=>match Y3 t o with
    | some (g,l)=>match rel g with
      |some C=>some λK=>tB (Nat.ble 1 nx) (Gm C gl l h nx K)
      |none=>none
    |none=>none
def A6{P:IW} {rel:Nat->Option CtR} (hc:∀g C,rel g=some C->q1q P g C):j9 P (Xg P rel):=λgl t h nx o q K hq e=>by
 unfold Xg at hq;split at hq
 ·cases hq
 split at hq;case h_2=>cases hq
 rename_i g l hac;split at hq;case h_2=>cases hq
 rename_i C hC;cases hq;have hok:=hc g C hC;obtain⟨e1,e⟩:=qP e;obtain⟨B,r,h',nx',pm,hK,hle,hcall⟩:=qgl hok e (Nat.le_of_ble_eq_true e1);refine⟨B,r,h',nx',pm,hK,hle,λF I n a w st fr K' Q hk=> ?_⟩;obtain⟨vs,g1,g2⟩:=pQ (P:=P) hac st.tr;unfold Oper.wp;rw[g2 w,hok.2.2.1];refine(hcall F I w vs g1 st.sim st.low st.zf st.pf fr st.gok.z).mono λen w' he=> ?_;obtain⟨b,z,I',rfl,k1,k2,k3⟩:=he;exact hk b z I' w' k1 k2 k3
def tR(C:CtR) (s:C.σ) (gl:GL) (r:AV) (h:T AO) (nx:Nat):Prop:=∃b:C.β s,match q0p (C.h' s b) .e with
 |some h1=>Wr C.m gl r h nx (C.r s b) (z6 h1) C.m' [] x_ (Ob (C.post s b)/\x6 gl (C.pm s b) True)
 |none=>False
def qkk(pe:List Nat) (P:IW) (fn:Func) (C:CtR) (s:C.σ):AX->KS:=λx gl t h nx=>match x with
  | .ex _=>False
  | _=>wg pe gl t h λgl t h=>match w_ P t h fn.results.toList with
    |some rs=>tR C s gl (Wk rs) h nx
    |none=>False
def FU(tab:T AV) (P:IW) (E:VE) (fuel:Nat) (fn:Func) (c:Code) (C:CtR) (s:C.σ):Prop:=match q0p (C.h s) .e with
  | some h0=>match Nat.blt (C.args s).length jB with
    | true=>match Vn (C.args s) 0 tab with
      |some t0=>Ob (C.pre s)->wb (gl0 tab) (C.mem s) λgl=>vc E P fuel 0 c gl t0 h0 C.m (qkk E.pubE P fn C s)
      |none=>False
    |false=>False
  |none=>False
def sP{P:IW} (hm:P.follows .mixedOrders=true) {tab:T AV} {fuel f:Nat} {fn:Func} {c:Code} {C:CtR} {E:C.σ->VE} (hfn:P.funcs[f]? =some fn) (hc:fn.body=some c) (hname:(fn.name== "runtime.NumGoroutine")=false) (ho:∀s,vJ P (E s).hs) (hX:∀s,j9 P (E s).hx) (hr:∀s,ka P (E s).hr)
    (h0:∀s,(E s).nx0=C.m) (h1m:1<=C.m) (htab:∀I,ZE tab I) (hle:C.m<=C.m') (hn:∀s,(E s).n=(C.args s).length+(fn.ntmps- (C.args s).length)) (hv:∀s,FU tab P (E s) fuel fn c C s):q1q P f C:=by
  refine⟨hle,h1m,λargs w=> ?_,λs=> ?_⟩
  · have hnn:¬fn.name= "runtime.NumGoroutine" :=(by simpa using hname);simp[callFunc,program,Sem.run,bind,Sem.bind,pure,hfn,hnn,hc]
  have e:=hv s;unfold FU at e;split at e;case h_2=>exact e.elim
  rename_i hh0 hp0;split at e;case h_2=>exact e.elim
  rename_i hlen;split at e;case h_2=>exact e.elim
  rename_i t0 ht0;refine⟨hh0,hp0,λF I w vs hvs hs low zf hpre hmem fr hz0=> ?_⟩;have hlt:(C.args s).length<jB:=by simpa[Nat.blt_eq]using hlen
  refine calls_of_wp hfn hc (tI (F0:=F) (I0:=I) (w0:=w) hm (ho s) (hX s) (hr s) (by rw[h0 s];exact fr) fuel 0 c (Z4 (e hpre) (p:=q11 F w) trivial hmem) (F:=F) (I:=I) (by rw[GL.withP_tab];exact⟨htab I,hz0⟩) ?_ ?_ _ λx ex a' w' hx hp=> ?_)
  · refine⟨λk b hk=> ?_,?_,rfl,hs,low,by rw[GL.withP_tab];exact⟨htab I,hz0⟩,zf,GL.withP_of trivial hmem⟩
    · have hg:=E1 _ _ _ _ ht0 k;rw[hk]at hg;simp only[Nat.not_lt_zero,if_false,Nat.zero_add,Nat.sub_zero]at hg;split at hg
      · rename_i hlt2;obtain⟨v,g1,g2⟩:=hvs.get k b hg.symm;have hkv:k<vs.length:=(by rw[←hvs.len];exact hlt2);have:((⟨vs⟩:Array Value)++Array.replicate (fn.ntmps- (⟨vs⟩:Array Value).size) undef).getD k undef=v:=(by rw[Array.getD_eq_getD_getElem?,Array.getElem?_append_left (by simpa using hkv)];simp[g1]);rw[QV (by omega),this];exact g2
      · obtain⟨g1,g2⟩:=htab I k b hg.symm;unfold slot;rw[if_neg (by omega)];exact g2
    · rw[Array.size_append,Array.size_replicate,hn s];show vs.length+(fn.ntmps- vs.length)=_;rw[hvs.len]
  · exact⟨λid _=>rfl,by rw[h0 s];exact Nat.le_refl _,fr,λs b h=>h,λb h=> .inl h,λb _=>rfl,Nat.le_refl _, .refl w⟩
  · obtain⟨gl2,t2,h2,nx2,F2,I2,e2,hg2,st2,at2⟩:=hp;have fin:(wg (E s).pubE gl2 t2 h2 λgl t h=>match w_ P t h fn.results.toList with
        |some rs=>tR C s gl (Wk rs) h nx2
        |none=>False)->a'.defers=[]/\∃v,(results fn a'.tmps).run P w'= .ok v w'/\∃b h1,C.post s b/\q0p (C.h' s b) .e=some h1/\∃z I',Ending.returned v= .returned z/\VR I' (C.r s b) z/\Grow F I C.m w I' C.m' h1 w'/\(C.pm s b).ok (jK F w I' h1 w'):=λe2=>by
      obtain⟨gl3,t3,h3,F3,htb,e3,st3,at3⟩:=QW _ e2 st2 at2;split at e3;case h_2=>exact e3.elim
      rename_i rs hrs;have st4:Eng.St tab F3 I2 t3 h3 (E s).n a' w':=⟨st3.tr,st3.size,st3.defers,st3.sim,st3.low,htab I2,st3.zf⟩;obtain⟨v,r1,r2⟩:=pO (P:=P) st4 hrs;obtain⟨b,e3⟩:=e3;split at e3;case h_2=>exact e3.elim
      rename_i h1 hp1;obtain⟨⟨q0,q4⟩,I',q1,q2,_,q3⟩:=Ay e3 st3 (by rw[h0 s]at at3;exact at3) r2 low fr;exact⟨st3.defers,v,r1,b,h1,q0,hp1,v,I',rfl,q1,q2,PF.ok_mono q3 ((Y8 q4).1 _ st3.pf)⟩
    cases x with
    |ex i=>exact e2.elim
    | nrm=>
      cases ex<;>simp only[AX.is]at hx;exact fin e2
    | rt=>
      cases ex<;>simp only[AX.is]at hx;exact fin e2
end
section
def gi:AV->Option (IntKind×Int)
 | .int k n=>some (k,n)
 | .sv (.int k n)=>some (k,n)
 |_=>none
variable {k:IntKind} {v:Value}
def ve{I:In} {a:AV} {n:Int} (h:gi a=some (k,n)) (r:VR I a v):v= .int k n:=by
 unfold gi at h;split at h
 ·cases h;cases r;rfl
 ·cases h;cases r;rfl
 ·cases h
def qaf(op:BinOp) (k:IntKind) (x y:Int):Int:=match op with
 | .and=>k.wrap (BitVec.ofInt k.bits x&&&BitVec.ofInt k.bits y).toNat
 | .or=>k.wrap (BitVec.ofInt k.bits x|||BitVec.ofInt k.bits y).toNat
 | .xor=>k.wrap (BitVec.ofInt k.bits x ^^^ BitVec.ofInt k.bits y).toNat
 |_=>k.wrap (BitVec.ofInt k.bits x&&& ~~~ BitVec.ofInt k.bits y).toNat
def U'(k:IntKind) (r:Int) (K:AV->Prop):Prop:=match k with
 | .i64=>Ob (-9223372036854775808<=r/\r<=9223372036854775807)/\K (.sv (.int .i64 r))
 |k=>K (.sv (.int k (k.wrap r)))
variable {K:AV->Prop}
def qgy{r:Int} (h:U' k r K):K (.sv (.int k (k.wrap r))):=by
 unfold U' at h;split at h
 ·obtain⟨⟨h1,h2⟩,h3⟩:=h;have:IntKind.i64.wrap r=r:=by unfold IntKind.wrap;simp[IntKind.bits,IntKind.signed];omega
  rw[this];exact h3
 ·exact h
def Gc(k:IntKind) (r:Int) (K:AV->Prop):Prop:=match k with
 | .i64=>∃v:Int,Ob (v=IntKind.wrap .i64 r)/\K (.sv (.int .i64 v))
 |k=>K (.sv (.int k (k.wrap r)))
def sk{r:Int} (h:Gc k r K):K (.sv (.int k (k.wrap r))):=by
 unfold Gc at h;split at h
 ·obtain⟨v,h1,h2⟩:=h;rw[←show v=IntKind.wrap .i64 r from h1];exact h2
 ·exact h
def Gi(op:BinOp) (k:IntKind) (x y:Int) (K:AV->Prop):Prop:=match op with
 | .add=>U' k (x+y) K
 | .sub=>U' k (x- y) K
 | .mul=>Gc k (x*y) K
 | .and=>K (.sv (.int k (qaf .and k x y)))
 | .or=>K (.sv (.int k (qaf .or k x y)))
 | .xor=>K (.sv (.int k (qaf .xor k x y)))
 | .andNot=>K (.sv (.int k (qaf .andNot k x y)))
 | .eql=>K (.sv (.bool (decide (x=y))))
 | .neq=>K (.sv (.bool (!decide (x=y))))
 | .lss=>K (.sv (.bool (decide (x<y))))
 | .gtr=>K (.sv (.bool (decide (y<x))))
 | .leq=>K (.sv (.bool (decide (x<=y))))
 | .geq=>K (.sv (.bool (decide (y<=x))))
 |_=>False
def qg7{P:IW} {op:BinOp} {t:TypeId} {x y:Int} (h:Gi op k x y K):∃v,(∀w,(binOp op t (.int k x) (.int k y)).run P w= .ok v w)/\K (.sv v):=by
 cases op<;>simp only[Gi]at h<;>first
  |exact h.elim
  |exact⟨_,λw=>by simp only[binOp,ne_eq,not_true,if_false,Op.intArith,Sem.run_pure],qgy h⟩
  |exact⟨_,λw=>by simp only[binOp,ne_eq,not_true,if_false,Op.intArith,Sem.run_pure],sk h⟩
  |exact⟨_,λw=>by simp only[binOp,ne_eq,not_true,if_false,Op.intBits,Sem.run_pure];rfl,h⟩
  |exact⟨_,λw=>by simp only[binOp,ne_eq,not_true,if_false,Op.intCmp,Sem.run_pure];rfl,h⟩
def gb:AV->Option Bool
 | .bool b=>some b
 | .sv (.bool b)=>some b
 |_=>none
def Wh{I:In} {a:AV} {b:Bool} (h:gb a=some b) (r:VR I a v):v= .bool b:=by
 unfold gb at h;split at h
 ·cases h;cases r;rfl
 ·cases h;cases r;rfl
 ·cases h
def FK (P:IW):uK:=λt o K=>match o.op with
  | .pick c a b=>match ev t c with
    | some (.sv (.bool x))=>match ev t a with
      | some va=>match ev t b with
        |some vb=>(Ob (x=true)->K va)/\(Ob (x=false)->K vb)
        |none=>False
      |none=>False
    |_=>False
  | .binOp op xt x y _=>match ev t x with
    | some a=>match ev t y with
      | some b=>match gi a with
        | some (k,n)=>match gi b with
          | some (j,m)=>match QM k j with
            | true=>match op with
              | .shl=>False
              | .shr=>False
              |op=>Gi op k n m K
            |false=>False
          |none=>False
        |none=>False
      |none=>False
    |none=>False
  |_=>False
def qhw(P:IW):x3 P (FK P):=by
  intro t o K e;obtain⟨dst,op,ty,pos,after,guard⟩:=o;cases op with
  | pick c a b=>
    simp only[FK]at e;split at e;case h_2=>exact e.elim
    rename_i x hc;split at e;case h_2=>exact e.elim
    rename_i va ha;split at e;case h_2=>exact e.elim
    rename_i vb hb;cases x with
    | true=>
      refine⟨va,λI ac ht=> ?_,e.1 rfl⟩;have h1:=qj ht hc;generalize hcv:ac.eval c=cv at h1;cases h1;exact⟨_,λw=>by simp[execOp,hcv,asBool,Result.andThen],qj ht ha⟩
    | false=>
      refine⟨vb,λI ac ht=> ?_,e.2 rfl⟩;have h1:=qj ht hc;generalize hcv:ac.eval c=cv at h1;cases h1;exact⟨_,λw=>by simp[execOp,hcv,asBool,Result.andThen],qj ht hb⟩
  | binOp op xt x y yt=>
    simp only[FK]at e;split at e;case h_2=>exact e.elim
    rename_i a ha;split at e;case h_2=>exact e.elim
    rename_i b hb;split at e;case h_2=>exact e.elim
    rename_i k n hk;split at e;case h_2=>exact e.elim
    rename_i j m hj;split at e;case h_2=>exact e.elim
    rename_i hkj;have hkj:=Z6 hkj;subst hkj;have e:Gi op k n m K:=by
      split at e
      · exact e.elim
      · exact e.elim
      · exact e
    obtain⟨v,h1,h2⟩:=qg7 (P:=P) (t:=xt) e;refine⟨.sv v,λI ac ht=> ?_,h2⟩;have r1:=ve hk (qj ht ha);have r2:=ve hj (qj ht hb);refine⟨v,λw=> ?_, .sv v⟩;simp only[execOp,r1,r2,Sem.run_bind];rw[QT (by simp) (by simp)];simp[Result.andThen,h1 w]
  |_=>exact e.elim
end
section
def bat(s:IV) (j:Nat):Nat:=(s[j]?.getD 0).toNat
def gs:AV->Option IV
 | .str l=>some (mkS l)
 | .sv (.string s)=>some s
 |_=>none
def xZ{I:In} {a:AV} {s:IV} {v:Value} (h:gs a=some s) (r:VR I a v):v= .string s:=by
 unfold gs at h;split at h
 ·cases h;cases r;rfl
 ·cases h;cases r;rfl
 ·cases h
def ZJ(t:T AV):Option Operand->Option (Option (IntKind×Int))
  |none=>some none
  | some x=>match ev t x with
    | some a=>match gi a with
      |some p=>some (some p)
      |none=>none
    |none=>none
def Ve{I:In} {t:T AV} {a:Act} (h:TR I t a.tmps) {x:Option Operand} {v} (e:ZJ t x=some v):x.map a.eval=v.map λp=>Value.int p.1 p.2:=by
  cases x with
  |none=>simp[ZJ]at e;subst e;rfl
  | some x=>
    simp only[ZJ]at e;split at e
    · rename_i b hb;split at e
      · rename_i p hp;cases e;obtain⟨k,n⟩:=p;simp[ve hp (qj h hb)]
      · cases e
    · cases e
def Wn(len cap:Nat) (lo hi:Option (IntKind×Int)) (K:Nat->Nat->Prop):Prop:=match lo,hi with
 |none,none=>Ob (len<=cap)/\K 0 len
 |some (_,x),none=>Ob (0<=x/\x<=(len:Int))/\K x.toNat len
 |none,some (_,y)=>Ob (0<=y/\y<=(cap:Int))/\K 0 y.toNat
 |some (_,x),some (_,y)=>Ob (0<=x/\x<=y/\y<=(cap:Int))/\K x.toNat y.toNat
def r_{P:IW} {b:Bool} {len cap:Nat} {lo hi:Option (IntKind×Int)} {K:Nat->Nat->Prop} (h:Wn len cap lo hi K):∃l u,(∀w,(Instr.sliceBounds b len cap (lo.map λp=>Value.int p.1 p.2) (hi.map λp=>Value.int p.1 p.2) none).run P w= .ok (l,u,cap) w)/\K l u:=by
 unfold Wn at h;split at h
 ·exact⟨_,_,λw=>by simp[Instr.sliceBounds,Result.andThen],h.2⟩
 ·rename_i k x;refine⟨_,_,λw=> ?_,h.2⟩;have h1:=h.1;simp[Instr.sliceBounds,Instr.sliceBound,asIntOf,Result.andThen,h1.1,h1.2]
 ·rename_i k y;refine⟨_,_,λw=> ?_,h.2⟩;have h1:=h.1;simp[Instr.sliceBounds,Instr.sliceBound,asIntOf,Result.andThen,h1.1,h1.2]
 ·rename_i k x k' y;refine⟨_,_,λw=> ?_,h.2⟩;have h1:=h.1;have h2:x<=((y.toNat:Nat):Int):=by have:=h1.2.1;have:=h1.1;omega
  have h3:0<=y:=by have:=h1.2.1;have:=h1.1;omega
  have h4:max y 0=y:=by omega
  simp[Instr.sliceBounds,Instr.sliceBound,asIntOf,Result.andThen,h1.1,h1.2.2,h2,h3,h4,h1.2.1]
def Q2 (P:IW):uK:=λt o K=>match o.op with
  | .index xt x i=>match P.underlying xt with
    | some .string=>match ev t x with
      | some a=>match gs a with
        | some s=>match ev t i with
          | some b=>match gi b with
            |some (_,n)=>Ob (0<=n/\n<(s.size:Int))/\K (.sv (.int .u8 (bat s n.toNat:Nat)))
            |none=>False
          |none=>False
        |none=>False
      |none=>False
    |_=>False
  | .slice xt x lo hi none=>match P.underlying xt with
    | some .string=>match ev t x with
      | some a=>match gs a with
        | some s=>match ZJ t lo with
          | some l=>match ZJ t hi with
            |some h=>Wn s.size s.size l h λl u=>K (.sv (.string (s.extract l u)))
            |none=>False
          |none=>False
        |none=>False
      |none=>False
    |_=>False
  | .call c =>match c.callee with
    | .builtin .len=>match c.argTypes.toList with
      | [ty]=>match P.underlying ty with
        | some .string=>match ki t c.args.toList with
          | some [a]=>match gs a with
            |some s=>K (.sv (.int .i64 (s.size:Nat)))
            |none=>False
          |_=>False
        |_=>False
      |_=>False
    | .builtin .max=>match ki t c.args.toList with
      | some [a,b]=>match gi a with
        | some (k,x)=>match gi b with
          |some (j,y)=>K (.sv (.int k (if y>x then y else x)))
          |none=>False
        |none=>False
      |_=>False
    | .builtin .min=>match ki t c.args.toList with
      | some [a,b]=>match gi a with
        | some (k,x)=>match gi b with
          |some (j,y)=>K (.sv (.int k (if y<x then y else x)))
          |none=>False
        |none=>False
      |_=>False
    |_=>False
  |_=>FK P t o K
def ta(P:IW):x3 P (Q2 P):=by
  intro t o K e;have e0:=e;obtain⟨dst,op,ty,pos,after,guard⟩:=o;cases op with
  | index xt x i=>
    simp only[Q2]at e;split at e;case h_2=>exact e.elim
    rename_i hu;split at e;case h_2=>exact e.elim
    rename_i a ha;split at e;case h_2=>exact e.elim
    rename_i s hs;split at e;case h_2=>exact e.elim
    rename_i b hb;split at e;case h_2=>exact e.elim
    rename_i k n hn;obtain⟨⟨h1,h2⟩,h3⟩:=e;refine⟨_,λI ac ht=>⟨_,λw=> ?_, .sv _⟩,h3⟩;have hlt:n.toNat<s.size:=(by omega);have hg:s[n.toNat]? =some s[n.toNat]:=(by simp[hlt]);simp only[execOp,xZ hs (qj ht ha),ve hn (qj ht hb),Instr.index,asIntOf,Sem.run_bind,Sem.run_pure,Result.andThen,run_underlying hu,if_pos h1,hg,bat,Option.getD_some]
  | slice xt x lo hi mx=>
    cases mx with
    |some m=>exact e.elim
    | none=>
      simp only[Q2]at e;split at e;case h_2=>exact e.elim
      rename_i hu;split at e;case h_2=>exact e.elim
      rename_i a ha;split at e;case h_2=>exact e.elim
      rename_i s hs;split at e;case h_2=>exact e.elim
      rename_i l hl;split at e;case h_2=>exact e.elim
      rename_i u hh;obtain⟨l',u',h1,h2⟩:=r_ (P:=P) (b:=false) e;refine⟨_,λI ac ht=>⟨_,λw=> ?_, .sv _⟩,h2⟩;have g1:=Ve ht hl;have g2:=Ve ht hh;simp[execOp,xZ hs (qj ht ha),g1,g2,Instr.sliceAt,Instr.slice,run_underlying hu,Result.andThen,h1 w]
  | call c=>
    obtain⟨callee,args,tys⟩:=c;cases callee with
    | builtin b=>
      cases b<;>first|exact e.elim|skip
      case max=>
        simp only[Q2]at e;split at e;case h_2=>exact e.elim
        rename_i a b hev;split at e;case h_2=>exact e.elim
        rename_i k x ha;split at e;case h_2=>exact e.elim
        rename_i j y hb;refine⟨_,λI ac ht=> ?_,e⟩;obtain⟨u,v,hv,h1,h2⟩:=Wv (k_ ht hev);have r1:=ve ha h1;have r2:=ve hb h2;subst r1 r2;have e1:args.map ac.eval= #[.int k x, .int j y]:=(by apply Array.toList_inj.1;simpa using hv);refine⟨_,λw=> ?_, .sv _⟩;simp only[execOp,resolve,Sem.run_bind,Sem.run_pure,Result.andThen,invoke,e1];simp[builtin,Builtin.max_,Builtin.max2,Result.andThen]
      case min=>
        simp only[Q2]at e;split at e;case h_2=>exact e.elim
        rename_i a b hev;split at e;case h_2=>exact e.elim
        rename_i k x ha;split at e;case h_2=>exact e.elim
        rename_i j y hb;refine⟨_,λI ac ht=> ?_,e⟩;obtain⟨u,v,hv,h1,h2⟩:=Wv (k_ ht hev);have r1:=ve ha h1;have r2:=ve hb h2;subst r1 r2;have e1:args.map ac.eval= #[.int k x, .int j y]:=(by apply Array.toList_inj.1;simpa using hv);refine⟨_,λw=> ?_, .sv _⟩;simp only[execOp,resolve,Sem.run_bind,Sem.run_pure,Result.andThen,invoke,e1];simp[builtin,Builtin.min_,Builtin.min2,Result.andThen]
      simp only[Q2]at e;split at e;case h_2=>exact e.elim
      rename_i ty' hty;split at e;case h_2=>exact e.elim
      rename_i hu;split at e;case h_2=>exact e.elim
      rename_i a ha;split at e;case h_2=>exact e.elim
      rename_i s hs;refine⟨_,λI ac ht=> ?_,e⟩;have hv:=k_ ht ha;obtain⟨v,hv1,hv2⟩:=ud hv;have r:=xZ hs hv2;subst r;refine⟨.int .i64 (s.size:Nat),λw=> ?_, .sv _⟩;have e1:args.map ac.eval= #[.string s]:=(by apply Array.toList_inj.1;simpa using hv1);obtain⟨tl⟩:=tys;simp only at hty;subst hty;simp only[execOp,resolve,Sem.run_bind,Sem.run_pure,Result.andThen,invoke,e1];simp[builtin,Builtin.len_,run_underlying hu,Result.andThen,goInt]
    |_=>exact e.elim
  |_=>exact qhw P _ _ _ e
end
section
def shP(op:BinOp) (k:IntKind) (x y:Int):Int:=match op with
 | .shl=>k.wrap (x*2 ^ min y.toNat k.bits)
 |_=>x.fdiv (2 ^ min y.toNat k.bits)
def qdg(x y:IV):Bool:=Op.bytesLess x.toList y.toList
def qi5(x y:IV):(x.toList==y.toList)=decide (x=y):=by
 rw[ByteArray.toList_eq,ByteArray.toList_eq];by_cases h:x=y
 ·subst h;simp
 ·have:x.data.toList≠y.data.toList:=λe=>h (ByteArray.ext (Array.toList_inj.1 e));rw[decide_eq_false h];simpa using this
def S0(op:BinOp) (x y:IV) (K:AV->Prop):Prop:=match op with
 | .add=>Ob (x.size+y.size<=9223372036854775807)/\K (.sv (.string (x++y)))
 | .eql=>K (.sv (.bool (decide (x=y))))
 | .neq=>K (.sv (.bool (!decide (x=y))))
 | .lss=>K (.sv (.bool (qdg x y)))
 | .leq=>K (.sv (.bool (qdg x y||decide (x=y))))
 | .gtr=>K (.sv (.bool (!(qdg x y||decide (x=y)))))
 | .geq=>K (.sv (.bool (!qdg x y)))
 |_=>False
variable {t:TypeId} {K:AV->Prop}
def qg8{P:IW} {op:BinOp} {x y:IV} (h:S0 op x y K):∃v,(∀w,(binOp op t (.string x) (.string y)).run P w= .ok v w)/\K (.sv v):=by
 cases op<;>simp only[S0]at h<;>first
  |exact h.elim
  |exact⟨_,λw=>by simp only[binOp,Op.stringOp,qi5];rfl,h⟩
  |skip
 refine⟨_,λw=> ?_,h.2⟩;have h1:=h.1;simp only[binOp,Op.stringOp];rw[if_neg (by simp[IntKind.max,IntKind.bits,IntKind.signed];omega)];rfl
def tE(op:BinOp) (x y:Bool) (K:AV->Prop):Prop:=match op with
 | .eql=>K (.sv (.bool (decide (x=y))))
 | .neq=>K (.sv (.bool (!decide (x=y))))
 |_=>False
def isNil(d:TypeDesc) (a b:AV):Option (Option Addr×Bool):=match d,a,b with
 | .pointer _, .sv (.pointer p), .nilp=>some (p,true)
 | .pointer _, .nilp, .sv (.pointer p)=>some (p,false)
 | .slice _, .sv (.slice p _ _), .nsl=>some (p,true)
 | .slice _, .nsl, .sv (.slice p _ _)=>some (p,false)
 |_,_,_=>none
def rI{P:IW} {I:In} {d:TypeDesc} {a b:AV} {p:Option Addr} {l:Bool} {u v:Value} (hd:P.underlying t=some d) (h:isNil d a b=some (p,l)) (ha:VR I a u) (hb:VR I b v):(∀k n,u≠ .int k n)/\(∀k n,u≠ .float k n)/\(∀k n m,u≠ .complex k n m)/\(∀s,u≠ .string s)/\(u= .nilIface->False)/\(∀c,u= .agg c->False)/\∀w,(Op.equal t u v).run P w= .ok (decide (p=none)) w:=by
 unfold isNil at h;have hr:=λw=>run_underlying (P:=P) hd w;split at h;all_goals first| (cases h;done)|skip
 all_goals
  cases h;cases ha;cases hb;refine⟨by simp,by simp,by simp,by simp,by simp,by simp,λw=>Z1 hd w _ λn=> ?_⟩
 all_goals
  cases p<;>simp[Op.equalIn,hr,Result.andThen]
def tP(d:TypeDesc) (op:BinOp) (a b:AV) (K:AV->Prop):Prop:=match isNil d a b with
  | some (p,_)=>match op with
    | .eql=>K (.sv (.bool (decide (p=none))))
    | .neq=>K (.sv (.bool (!decide (p=none))))
    |_=>False
  |none=>False
def MS(s:IntKind) (d:IntKind) (n:Int) (K:AV->Prop):Prop:=match d,s with
 | .i64, .u64=>K (.sv (.int .i64 (IntKind.i64.wrap n)))
 | .i64,_=>Ob (-9223372036854775808<=n/\n<=9223372036854775807)/\K (.sv (.int .i64 n))
 | .u64, .u8=>Ob (0<=n/\n<=18446744073709551615)/\K (.sv (.int .u64 n))
 | .u64, .u16=>Ob (0<=n/\n<=18446744073709551615)/\K (.sv (.int .u64 n))
 | .u64, .u32=>Ob (0<=n/\n<=18446744073709551615)/\K (.sv (.int .u64 n))
 |d,_=>K (.sv (.int d (d.wrap n)))
def qh3{s d:IntKind} {n:Int} (h:MS s d n K):K (.sv (.int d (d.wrap n))):=by
 have w64: -9223372036854775808<=n/\n<=9223372036854775807->IntKind.i64.wrap n=n:=λh=>by unfold IntKind.wrap;simp[IntKind.bits,IntKind.signed];omega
 have u64:0<=n/\n<=18446744073709551615->IntKind.u64.wrap n=n:=λh=>by unfold IntKind.wrap;simp[IntKind.bits,IntKind.signed];omega
 cases d<;>cases s<;>simp only[MS]at h<;>first
  |exact h
  | (rw[w64 h.1];exact h.2)
  | (rw[u64 h.1];exact h.2)
def rW(op:UnOp) (a:AV) (K:AV->Prop):Prop:=match op with
  | .not=>match gb a with
    |some b=>K (.sv (.bool (!b)))
    |none=>False
  | .neg=>match gi a with
    |some (k,n)=>Gc k (0- n) K
    |none=>False
  | .xor=>match gi a with
    |some (k,n)=>K (.sv (.int k (qaf .xor k (match k.signed with|true=> -1|false=>k.max) n)))
    |none=>False
  |_=>False
def Q3 (P:IW):uK:=λt o K=>match o.op with
  | .binOp op xt x y _=>match ev t x with
    | some a => match ev t y with
      | some b=>match gi a with
        | some (k,n)=>match gi b with
          | some (j,m)=>match op with
            | .shl=>Ob (0<=m)/\K (.sv (.int k (shP .shl k n m)))
            | .shr=>Ob (0<=m)/\K (.sv (.int k (shP .shr k n m)))
            | .quo=>tB (QM k j) (Ob (m≠0)/\K (.sv (.int k (k.wrap (n.tdiv m)))))
            | .rem=>tB (QM k j) (Ob (m≠0)/\K (.sv (.int k (n.tmod m))))
            |_=>Q2 P t o K
          |none=>False
        | none=>match gs a with
          | some s=>match gs b with
            |some r=>S0 op s r K
            |none=>False
          | none=>match gb a with
            | some p=>match gb b with
              | some q=>match P.underlying xt with
                |some .bool=>tE op p q K
                |_=>False
              |none=>False
            | none=>match P.underlying xt with
              |some d=>tP d op a b K
              |none=>False
      |none=>False
    |none=>False
  | .unOp op _ x=>match ev t x with
    |some a=>rW op a K
    |none=>False
  | .convert s d x=>match ev t x with
    | some a=>match P.underlying s with
      | some _=>match P.underlying d with
        | some (.int kd)=>match gi a with
          |some (k,n)=>MS k kd n K
          |none=>False
        | some .string=>match gs a with
          |some r=>K (.sv (.string r))
          |none=>False
        |_=>False
      |none=>False
    |none=>False
  |_=>Q2 P t o K
def Vh (P : IW):x3 P (Q3 P):=by
  intro t o K e;have e0:=e;obtain⟨dst,op,ty,pos,after,guard⟩:=o;cases op with
  | binOp op xt x y yt=>
    simp only[Q3]at e;split at e;case h_2=>exact e.elim
    rename_i a ha;split at e;case h_2=>exact e.elim
    rename_i b hb;have fin:∀{v:Value},(∀I (ac:Act),TR I t ac.tmps->(ac.eval x= .nilIface->False)/\(∀c,ac.eval x= .agg c->False)/\∀w,(binOp op xt (ac.eval x) (ac.eval y)).run P w= .ok v w)->QP P t ⟨dst, .binOp op xt x y yt,ty,pos,after,guard⟩ (.sv v):=λ{v} h I ac ht=>(by obtain⟨h1,h2,h3⟩:=h I ac ht;refine⟨v,λw=> ?_, .sv v⟩;simp only[execOp,Sem.run_bind];rw[QT h1 h2];simp[Result.andThen,h3 w]);split at e
    · rename_i k n hk;split at e;case h_2=>exact e.elim
      rename_i j m hj;have vals:∀I (ac:Act),TR I t ac.tmps->ac.eval x= .int k n/\ac.eval y= .int j m:=λI ac ht=>⟨ve hk (qj ht ha),ve hj (qj ht hb)⟩;split at e
      · refine⟨_,fin λI ac ht=> ?_,e.2⟩;obtain⟨r1,r2⟩:=vals I ac ht;rw[r1,r2];refine⟨by simp,by simp,λw=> ?_⟩;simp only[binOp,Op.shift];rw[if_neg (by have:=e.1;omega)];rfl
      · refine⟨_,fin λI ac ht=> ?_,e.2⟩;obtain⟨r1,r2⟩:=vals I ac ht;rw[r1,r2];refine⟨by simp,by simp,λw=> ?_⟩;simp only[binOp,Op.shift];rw[if_neg (by have:=e.1;omega)];rfl
      · obtain⟨e1,e2,e3⟩:=qP e;have:=Z6 e1;subst this;refine⟨_,fin λI ac ht=> ?_,e3⟩;obtain⟨r1,r2⟩:=vals I ac ht;rw[r1,r2];refine⟨by simp,by simp,λw=> ?_⟩;simp only[binOp,ne_eq,not_true,if_false,Op.intDiv];rw[if_neg e2];rfl
      · obtain⟨e1,e2,e3⟩:=qP e;have:=Z6 e1;subst this;refine⟨_,fin λI ac ht=> ?_,e3⟩;obtain⟨r1,r2⟩:=vals I ac ht;rw[r1,r2];refine⟨by simp,by simp,λw=> ?_⟩;simp only[binOp,ne_eq,not_true,if_false,Op.intDiv];rw[if_neg e2];rfl
      · exact ta P _ _ _ e
    · split at e
      · rename_i s hs;split at e;case h_2=>exact e.elim
        rename_i r hr;obtain⟨v,h1,h2⟩:=qg8 (P:=P) (t:=xt) e;refine⟨_,fin λI ac ht=> ?_,h2⟩;rw[xZ hs (qj ht ha),xZ hr (qj ht hb)];exact⟨by simp,by simp,h1⟩
      · split at e
        · rename_i p hp;split at e;case h_2=>exact e.elim
          rename_i q hq;split at e;case h_2=>exact e.elim
          rename_i hu;have hr:=λw=>run_underlying (P:=P) hu w;have:∃c:Bool,(∀I (ac:Act),TR I t ac.tmps->(ac.eval x= .nilIface->False)/\(∀c,ac.eval x= .agg c->False)/\∀w,(binOp op xt (ac.eval x) (ac.eval y)).run P w= .ok (.bool c) w)/\K (.sv (.bool c)):=by
            unfold tE at e;split at e
            · refine⟨_,λI ac ht=> ?_,e⟩;rw[Wh hp (qj ht ha),Wh hq (qj ht hb)];refine⟨by simp,by simp,λw=> ?_⟩;have he:(Op.equal xt (.bool p) (.bool q)).run P w= .ok (decide (p=q)) w:=Z1 hu w _ λn=>(by cases p<;>cases q<;>simp[Op.equalIn,hr,Result.andThen]);first
                | (rw[(Eng.binOp_eql (t:=xt) (a:=Value.bool p) (b:=Value.bool q) (by simp) (by simp) (by simp) (by simp)).1];simp[he,Result.andThen];done)
                | (rw[(Eng.binOp_eql (t:=xt) (a:=Value.bool p) (b:=Value.bool q) (by simp) (by simp) (by simp) (by simp)).2];simp[he,Result.andThen])
            · refine⟨_,λI ac ht=> ?_,e⟩;rw[Wh hp (qj ht ha),Wh hq (qj ht hb)];refine⟨by simp,by simp,λw=> ?_⟩;have he:(Op.equal xt (.bool p) (.bool q)).run P w= .ok (decide (p=q)) w:=Z1 hu w _ λn=>(by cases p<;>cases q<;>simp[Op.equalIn,hr,Result.andThen]);first
                | (rw[(Eng.binOp_eql (t:=xt) (a:=Value.bool p) (b:=Value.bool q) (by simp) (by simp) (by simp) (by simp)).1];simp[he,Result.andThen];done)
                | (rw[(Eng.binOp_eql (t:=xt) (a:=Value.bool p) (b:=Value.bool q) (by simp) (by simp) (by simp) (by simp)).2];simp[he,Result.andThen])
            · exact e.elim
          obtain⟨c,h1,h2⟩:=this;exact⟨_,fin h1,h2⟩
        · split at e;case h_2=>exact e.elim
          rename_i d hu;unfold tP at e;split at e;case h_2=>exact e.elim
          rename_i p l hn;split at e
          · refine⟨_,fin λI ac ht=> ?_,e⟩;obtain⟨g1,g2,g3,g4,g5,g6,g7⟩:=rI hu hn (qj ht ha) (qj ht hb);refine⟨g5,g6,λw=> ?_⟩;rw[(Eng.binOp_eql g1 g2 g3 g4).1];simp[g7 w,Result.andThen]
          · refine⟨_,fin λI ac ht=> ?_,e⟩;obtain⟨g1,g2,g3,g4,g5,g6,g7⟩:=rI hu hn (qj ht ha) (qj ht hb);refine⟨g5,g6,λw=> ?_⟩;rw[(Eng.binOp_eql g1 g2 g3 g4).2];simp[g7 w,Result.andThen]
          · exact e.elim
  | unOp op xt x=>
    simp only[Q3]at e;split at e;case h_2=>exact e.elim
    rename_i a ha;unfold rW at e;split at e
    · split at e;case h_2=>exact e.elim
      rename_i b hb;refine⟨_,λI ac ht=>⟨_,λw=> ?_, .sv _⟩,e⟩;simp only[execOp,Wh hb (qj ht ha),Op.unary];rfl
    · split at e;case h_2=>exact e.elim
      rename_i k n hk;refine⟨_,λI ac ht=>⟨_,λw=> ?_, .sv _⟩,sk e⟩;simp only[execOp,ve hk (qj ht ha),Op.unary,Op.intArith];rfl
    · split at e;case h_2=>exact e.elim
      rename_i k n hk;refine⟨_,λI ac ht=>⟨_,λw=> ?_, .sv _⟩,e⟩;simp only[execOp,ve hk (qj ht ha),Op.unary,Op.intBits];cases k<;>rfl
    · exact e.elim
  | convert s d x=>
    simp only[Q3]at e;split at e;case h_2=>exact e.elim
    rename_i a ha;split at e;case h_2=>exact e.elim
    rename_i ds hs;split at e
    · rename_i kd hd;split at e;case h_2=>exact e.elim
      rename_i k n hk;refine⟨_,λI ac ht=>⟨_,λw=> ?_, .sv _⟩,qh3 e⟩;simp[execOp,ve hk (qj ht ha),convert,run_underlying hs,run_underlying hd,Result.andThen,Conv.intToInt]
    · rename_i hd;split at e;case h_2=>exact e.elim
      rename_i r hr;refine⟨_,λI ac ht=>⟨.string r,λw=> ?_, .sv _⟩,e⟩;simp[execOp,xZ hr (qj ht ha),convert,run_underlying hs,run_underlying hd,Result.andThen]
    · exact e.elim
  |_=>exact ta P _ _ _ e
end
section
def adr(a:Option Addr) (k:Nat):Addr:=match a with
 |some x=>x.add k
 |none=>⟨0,0,none⟩
def slA(a:Option Addr) (c l sz:Nat):Option Addr:=if c=l then a else a.map (·.add (l*sz))
def SQ:AV->Option Nat
 | .sv (.slice _ n _)=>some n
 | .ssl _ _ n _ _=>some n
 | .msl _ n _=>some n
 | .usl _ _ n _=>some n
 |_=>none
variable {a:AV} {v:Value}
def qfm{I:In} {n:Nat} (h:SQ a=some n) (r:VR I a v):∃p c,v= .slice p n c:=by
 unfold SQ at h;split at h
 ·cases h;cases r;exact⟨_,_,rfl⟩
 ·cases h;cases r with
  |ssl=>exact⟨_,_,rfl⟩
  |ssl0 h=>subst h;exact⟨_,_,rfl⟩
 ·cases h;cases r with|msl=>exact⟨_,_,rfl⟩
 ·cases h;cases r with
  |usl=>exact⟨_,_,rfl⟩
  |usl0 h=>subst h;exact⟨_,_,rfl⟩
 ·cases h
def Jc:AV->Option (Nat×Nat×Nat×Nat)
 | .ssl id off n esz _=>some (id,off,n,esz)
 | .msl id n esz=>some (id,0,n,esz)
 | .usl id off n esz=>some (id,off,n,esz)
 |_=>none
def Y5{I:In} {id off n esz:Nat} (h:Jc a=some (id,off,n,esz)) (r:VR I a v):(n=0/\v= .slice none 0 0)\/∃b s t o c,I id=some (b,s,t)/\v= .slice (some ⟨b,o,none⟩) n c/\n<=c/\off+c*esz<=t/\(o=s+off\/c=0):=by
 unfold Jc at h;split at h
 ·cases h;cases r with
  |ssl h h1 h2 h3=>exact .inr ⟨_,_,_,_,_,h,rfl,h1,h2,h3⟩
  |ssl0 h=>exact .inl ⟨h,rfl⟩
 ·cases h;cases r with
  | @msl _ _ _ b s t h h2 h3=>exact .inr ⟨b,s,t,s,_,h,rfl,(Nat.le_div_iff_mul_le h3).2 h2,by rw[Nat.zero_add];exact Nat.div_mul_le_self _ _, .inl rfl⟩
 ·cases h;cases r with
  |usl h h1 h2 h3=>exact .inr ⟨_,_,_,_,_,h,rfl,h1,h2,h3⟩
  |usl0 h=>exact .inl ⟨h,rfl⟩
 ·cases h
def jy:Option (IntKind×Int)->Nat
 |none=>0
 |some (_,x)=>x.toNat
def y_(n:Nat):Option (IntKind×Int)->Nat
 |none=>n
 |some (_,x)=>x.toNat
def x4(len cap:Nat) (lo hi:Option (IntKind×Int)):Prop:=match lo,hi with
 |none,none=>len<=cap
 |some (_,x),none=>0<=x/\x<=(len:Int)
 |none,some (_,y)=>0<=y/\y<=(cap:Int)
 |some (_,x),some (_,y)=>0<=x/\x<=y/\y<=(cap:Int)
def qag{len cap:Nat} (hc:len<=cap) {lo hi:Option (IntKind×Int)} (h:x4 len len lo hi):x4 len cap lo hi:=by unfold x4 at h⊢;split<;>simp only at h<;>omega
def qf5{len:Nat} {cap:Nat} {lo hi:Option (IntKind×Int)} (h:x4 len cap lo hi):jy lo<=y_ len hi/\(len<=cap->y_ len hi<=cap):=by unfold x4 at h;split at h<;>simp only[jy,y_]<;>omega
def Fb{P:IW} {b:Bool} {len cap:Nat} {lo hi:Option (IntKind×Int)} (h:x4 len cap lo hi) (w:World):(Instr.sliceBounds b len cap (lo.map λp=>Value.int p.1 p.2) (hi.map λp=>Value.int p.1 p.2) none).run P w= .ok (jy lo,y_ len hi,cap) w:=by
 have hp:Wn len cap lo hi λl u=>l=jy lo/\u=y_ len hi:=by unfold x4 at h;unfold Wn;split at h<;>simp only[jy,y_,and_self,and_true,true_and]<;>exact h
 obtain⟨l,u,h1,h2,h3⟩:=r_ (P:=P) (b:=b) hp;rw[h1 w,h2,h3]
def EC(a:Option Addr) (K:Prop):Prop:=Ob (a≠none)/\K
def SZ(P:IW) (ty:TypeId) (a:AV) (i:Int) (K:AV->Prop):Prop:=match P.underlying ty with
  | some (.slice e)=>match P.info? e with
    | some j=>match Jc a with
      |some (id,off,n,esz)=>tB (Nat.beq j.size esz) (Ob (0<=i/\i<(n:Int))/\K (.sptr id (off+i.toNat*esz)))
      | none=>match a with
        | .sv (.slice p n c)=>Ob (0<=i/\i<(n:Int))/\EC p (K (.sv (.pointer (some (adr p (i.toNat*j.size))))))
        | .sl id off n _=>Ob (0<=i/\i<(n:Int))/\K (.sptr id (off+i.toNat*j.size))
        |_=>False
    |none=>False
  | some (.array n e)=>match P.info? e with
    | some j=>match a with
      | .ptr id off=>Ob (0<=i/\i<(n:Int))/\K (.sptr id (off+i.toNat*j.size))
      | .sptr id off=>Ob (0<=i/\i<(n:Int))/\K (.sptr id (off+i.toNat*j.size))
      | .sv (.pointer (some x))=>Ob (0<=i/\i<(n:Int))/\K (.sv (.pointer (some (x.add (i.toNat*j.size)))))
      |_=>False
    |none=>False
  |_=>False
def qg6{P:IW} {ty:TypeId} {i:Int} {K:AV->Prop} (e:SZ P ty a i K):∃r,(∀I u k,VR I a u->∃z,(∀w,(Instr.indexAt ty u (.int k i)).run P w= .ok z w)/\VR I r z)/\K r:=by
  unfold SZ at e;split at e
  · rename_i el hu;split at e;case h_2=>exact e.elim
    rename_i j hj;have sz:=λw=>Eng.run_sizeOf (P:=P) hj w;split at e
    · rename_i id off n esz hg;obtain⟨h1,h2,h3⟩:=qP e;have h1:=Nat.eq_of_beq_eq_true h1;refine⟨_,λI u k r=> ?_,h3⟩;rcases Y5 hg r with⟨h0,_⟩|⟨b,s,t,o,c,hI,rfl,g1,g2,g3⟩
      · have:=h2.2;omega
      · have ho:o=s+off:=by
          rcases g3 with g3|g3
          · exact g3
          · have:=h2.2;omega
        subst ho;refine⟨.pointer (some ⟨b,s+off+i.toNat*j.size,none⟩),λw=> ?_,?_⟩
        · simp[Instr.indexAt,asIntOf,run_underlying hu,Result.andThen,h2.1,h2.2,sz,j6]
        · rw[h1,Nat.add_assoc];exact .sptr hI
    · split at e
      · rename_i p n c _;obtain⟨h2,h3,h4⟩:=e;refine⟨_,λI u k r=> ?_,h4⟩;cases r;cases p with
        |none=>exact absurd rfl h3
        | some x=>
          refine⟨.pointer (some (x.add (i.toNat*j.size))),λw=> ?_, .sv _⟩;simp[Instr.indexAt,asIntOf,run_underlying hu,Result.andThen,h2.1,h2.2,sz]
      · rename_i id off n cap _;obtain⟨h2,h4⟩:=e;refine⟨_,λI u k r=> ?_,h4⟩;cases r with
        | @sl _ _ _ _ b s t hI=>
          refine⟨.pointer (some ⟨b,s+off+i.toNat*j.size,none⟩),λw=> ?_,by rw[Nat.add_assoc];exact .sptr hI⟩;simp[Instr.indexAt,asIntOf,run_underlying hu,Result.andThen,h2.1,h2.2,sz,j6]
      · exact e.elim
  · rename_i n el hu;split at e;case h_2=>exact e.elim
    rename_i j hj;have sz:=λw=>Eng.run_sizeOf (P:=P) hj w;split at e
    · rename_i id off;obtain⟨h2,h4⟩:=e;refine⟨_,λI u k r=> ?_,h4⟩;cases r with
      | @ptr _ _ b s t hI=>
        refine⟨.pointer (some ⟨b,s+off+i.toNat*j.size,none⟩),λw=> ?_,by rw[Nat.add_assoc];exact .sptr hI⟩;simp[Instr.indexAt,asIntOf,run_underlying hu,Instr.sureAddr,Result.andThen,h2.1,h2.2,sz,j6]
    · rename_i id off;obtain⟨h2,h4⟩:=e;refine⟨_,λI u k r=> ?_,h4⟩;cases r with
      | @sptr _ _ b s t hI=>
        refine⟨.pointer (some ⟨b,s+off+i.toNat*j.size,none⟩),λw=> ?_,by rw[Nat.add_assoc];exact .sptr hI⟩;simp[Instr.indexAt,asIntOf,run_underlying hu,Instr.sureAddr,Result.andThen,h2.1,h2.2,sz,j6]
    · rename_i x;obtain⟨h2,h4⟩:=e;refine⟨_,λI u k r=> ?_,h4⟩;cases r;refine⟨.pointer (some (x.add (i.toNat*j.size))),λw=> ?_, .sv _⟩;simp[Instr.indexAt,asIntOf,run_underlying hu,Instr.sureAddr,Result.andThen,h2.1,h2.2,sz]
    · exact e.elim
  · exact e.elim
def uc (P:IW):uK:=λt o K=>match o.op with
  | .slice xt x lo hi none=>match P.underlying xt with
    | some (.slice el)=>match ev t x with
      | some a=>match P.info? el with
        | some j=>match ZJ t lo with
          | some l=>match ZJ t hi with
            | some h=>match Jc a with
              |some (id,off,n,esz)=>tB (Nat.beq j.size esz) (Ob (x4 n n l h)/\K (.usl id (off+jy l*esz) (y_ n h- jy l) esz))
              | none=>match a with
                | .sv (.slice p n c)=>Ob (n<=c)/\Ob (x4 n c l h)/\K (.sv (.slice (slA p c (jy l) j.size) (y_ n h- jy l) (c- jy l)))
                |_=>False
            |none=>False
          |none=>False
        |none=>False
      |none=>False
    |_=>Q3 P t o K
  | .indexAddr ty x i=>match ev t x with
    | some a=>match ev t i with
      | some b=>match gi b with
        |some (_,n)=>SZ P ty a n K
        |none=>False
      |none=>False
    |none=>False
  | .fieldAddr s x f=>match P.underlying s with
    | some (.struct fs)=>match fs.toList[f]? with
      | some fd=>match P.info? fd.type with
        | some i=>match i.size with
          |0=>False
          | _+1=>match ev t x with
            |some (.sv (.pointer (some p)))=>K (.sv (.pointer (some (p.add fd.offset))))
            |some (.sv (.pointer p))=>EC p (K (.sv (.pointer (some (adr p fd.offset)))))
            |some (.sptr id off)=>K (.sptr id (off+fd.offset))
            |_=>False
        |none=>False
      |none=>False
    |_=>False
  | .nilCheck x=>match ev t x with
    |some (.sv (.pointer (some p)))=>K (.sv (.pointer (some p)))
    |some (.sv (.pointer p))=>EC p (K (.sv (.pointer p)))
    |some (.sptr id off)=>K (.sptr id off)
    |_=>False
  | .call c =>match c.callee with
    | .builtin .len=>match c.argTypes.toList with
      | [ty]=>match P.underlying ty with
        | some (.slice _)=>match ki t c.args.toList with
          | some [a]=>match SQ a with
            |some n=>K (.sv (.int .i64 (n:Nat)))
            |none=>False
          |_=>False
        |_=>Q3 P t o K
      |_=>False
    |_=>Q3 P t o K
  |_=>Q3 P t o K
def qhx (P :IW):x3 P (uc P):=by
  intro t o K e;have e0:=e;obtain⟨dst,op,ty,pos,after,guard⟩:=o;cases op with
  | slice xt x lo hi mx=>
    cases mx with
    |some m=>exact Vh P _ _ _ (by simpa[uc]using e)
    | none=>
      simp only[uc]at e;split at e;case h_2=>exact Vh P _ _ _ e
      rename_i el hu;split at e;case h_2=>exact e.elim
      rename_i a ha;split at e;case h_2=>exact e.elim
      rename_i j hj;have sz:=λw=>Eng.run_sizeOf (P:=P) hj w;split at e;case h_2=>exact e.elim
      rename_i l hl;split at e;case h_2=>exact e.elim
      rename_i h hh;split at e
      · rename_i id off n esz hg;obtain⟨h1,hb,hk⟩:=qP e;have h1:=Nat.eq_of_beq_eq_true h1;refine⟨_,λI ac ht=> ?_,hk⟩;have g1:=Ve ht hl;have g2:=Ve ht hh;have hx:=qj ht ha;generalize hxv:ac.eval x=xv at hx;obtain⟨le1,le2⟩:=qf5 hb;have le2:=le2 (Nat.le_refl _);rcases Y5 hg hx with⟨h0,rfl⟩|⟨b,s,tt,o,c,hI,rfl,k1,k2,k3⟩
        · subst h0;refine⟨.slice none 0 0,λw=> ?_, .usl0 (by omega)⟩;have hr:=Fb (P:=P) (b:=true) hb w;have e1:y_ 0 h- jy l=0:=(by omega);have e2:jy l=0:=(by omega);rw[e2]at hr;simp[execOp,hxv,g1,g2,Instr.sliceAt,Instr.slice,run_underlying hu,Result.andThen,hr,sz w];omega
        · have hbc:=qag k1 hb;have hsub:y_ n h- jy l<=c- jy l:=(by omega);have hoff:off+jy l*esz+(c- jy l)*esz<=tt:=by have:jy l*esz+(c- jy l)*esz=c*esz:=(by rw[←Nat.add_mul];congr 1;omega);omega
          by_cases hcl:c=jy l
          · refine⟨.slice (some ⟨b,o,none⟩) (y_ n h- jy l) (c- jy l),λw=> ?_, .usl hI hsub hoff (.inr (by omega))⟩;have hr:=Fb (P:=P) (b:=true) hbc w;simp[execOp,hxv,g1,g2,Instr.sliceAt,Instr.slice,run_underlying hu,Result.andThen,hr,sz w];intro hh;exact absurd hcl hh
          · have ho:o=s+off:=by
              rcases k3 with k3|k3
              · exact k3
              · omega
            refine⟨.slice (some ⟨b,s+off+jy l*esz,none⟩) (y_ n h- jy l) (c- jy l),λw=> ?_, .usl hI hsub hoff (.inl (by omega))⟩;have hr:=Fb (P:=P) (b:=true) hbc w;simp[execOp,hxv,g1,g2,Instr.sliceAt,Instr.slice,run_underlying hu,Result.andThen,hr,sz w,hcl,ho,h1,j6]
      · split at e;case h_2=>exact e.elim
        rename_i p n c _;obtain⟨hn,hb,hk⟩:=e;refine⟨_,λI ac ht=>⟨_,λw=> ?_, .sv _⟩,hk⟩;have g1:=Ve ht hl;have g2:=Ve ht hh;have hx:=qj ht ha;generalize hxv:ac.eval x=xv at hx;cases hx;have hr:=Fb (P:=P) (b:=true) hb w;simp[execOp,hxv,g1,g2,Instr.sliceAt,Instr.slice,run_underlying hu,Result.andThen,hr,sz w,slA]
  | indexAddr ty x i=>
    simp only[uc]at e;split at e;case h_2=>exact e.elim
    rename_i a ha;split at e;case h_2=>exact e.elim
    rename_i b hb;split at e;case h_2=>exact e.elim
    rename_i k n hn;obtain⟨r,h1,h2⟩:=qg6 e;refine⟨r,λI ac ht=> ?_,h2⟩;obtain⟨z,g1,g2⟩:=h1 I _ k (qj ht ha);refine⟨z,λw=> ?_,g2⟩;simp only[execOp,ve hn (qj ht hb),Sem.run_bind,Result.andThen,g1 w,Sem.run_pure]
  | fieldAddr s x f=>
    simp only[uc]at e;split at e;case h_2=>exact e.elim
    rename_i fs hs;split at e;case h_2=>exact e.elim
    rename_i fd hf;split at e;case h_2=>exact e.elim
    rename_i i hi;split at e
    · exact e.elim
    rename_i m hm;have hz:i.size≠0:=(by omega);have hf':fs[f]? =some fd:=(by simpa using hf);have run:∀(ad:Addr) w,(Instr.fieldAt s (.pointer (some ad)) f).run P w= .ok (.pointer (some (ad.add fd.offset))) w:=λad w=>(by simp[Instr.fieldAt,run_underlying hs,hf',Instr.sureAddr,fieldPlace,Eng.run_sizeOf hi,hz,Result.andThen]);split at e
    · rename_i p hx;refine⟨_,λI ac ht=>⟨_,λw=> ?_, .sv _⟩,e⟩;have hx:=qj ht hx;generalize hxv:ac.eval x=xv at hx;cases hx;simp only[execOp,hxv,Sem.run_bind,Result.andThen,run,Sem.run_pure]
    · rename_i p _ hx;obtain⟨hp,e⟩:=e;refine⟨_,λI ac ht=>⟨_,λw=> ?_, .sv _⟩,e⟩;have hx:=qj ht hx;generalize hxv:ac.eval x=xv at hx;cases hx;cases p with
      |none=>exact absurd rfl hp
      |some ad=>simp only[execOp,hxv,Sem.run_bind,Result.andThen,run,Sem.run_pure,adr]
    · rename_i id off hx;refine⟨_,λI ac ht=> ?_,e⟩;have hx:=qj ht hx;generalize hxv:ac.eval x=xv at hx;cases hx with
      | @sptr _ _ b s t hI=>
        refine⟨.pointer (some ⟨b,s+off+fd.offset,none⟩),λw=> ?_,by rw[Nat.add_assoc];exact .sptr hI⟩;simp only[execOp,hxv,Sem.run_bind,Result.andThen,run,Sem.run_pure,j6]
    · exact e.elim
  | nilCheck x=>
    simp only[uc]at e;split at e
    · rename_i p hx;refine⟨_,λI ac ht=>⟨_,λw=> ?_, .sv _⟩,e⟩;have hx:=qj ht hx;generalize hxv:ac.eval x=xv at hx;cases hx;simp only[execOp,hxv];rfl
    · rename_i p _ hx;obtain⟨hp,e⟩:=e;refine⟨_,λI ac ht=>⟨_,λw=> ?_, .sv _⟩,e⟩;have hx:=qj ht hx;generalize hxv:ac.eval x=xv at hx;cases hx;cases p with
      |none=>exact absurd rfl hp
      |some ad=>simp only[execOp,hxv];rfl
    · rename_i id off hx;refine⟨_,λI ac ht=> ?_,e⟩;have hx:=qj ht hx;generalize hxv:ac.eval x=xv at hx;cases hx with
      |sptr hI=>exact⟨_,λw=>by simp only[execOp,hxv];rfl, .sptr hI⟩
    · exact e.elim
  | call c=>
    obtain⟨callee,args,tys⟩:=c;cases callee with
    | builtin b=>
      cases b;case len=>
        simp only[uc]at e;split at e;case h_2=>exact e.elim
        rename_i ty' hty;split at e;case h_2=>exact Vh P _ _ _ e
        rename_i el hu;split at e;case h_2=>exact e.elim
        rename_i a ha;split at e;case h_2=>exact e.elim
        rename_i n hn;refine⟨_,λI ac ht=> ?_,e⟩;have hv:=k_ ht ha;obtain⟨v,hv1,hv2⟩:=ud hv;obtain⟨p,c,rfl⟩:=qfm hn hv2;refine⟨.int .i64 (n:Nat),λw=> ?_, .sv _⟩;have e1:args.map ac.eval= #[.slice p n c]:=(by apply Array.toList_inj.1;simpa using hv1);obtain⟨tl⟩:=tys;simp only at hty;subst hty;simp only[execOp,resolve,Sem.run_bind,Sem.run_pure,Result.andThen,invoke,e1];simp[builtin,Builtin.len_,run_underlying hu,Result.andThen,goInt]
      all_goals exact Vh P _ _ _ (by simpa only[uc]using e)
    |_=>exact Vh P _ _ _ (by simpa only[uc]using e)
  |_=>exact Vh P _ _ _ (by simpa only[uc]using e)
end
section
inductive CK where
 |int (k:IntKind)
 |bool
 |str
 |sl
 |ptr
 |map
def SJ:TypeDesc->Option CK
 | .bool=>some .bool
 | .int k=>some (.int k)
 | .string=>some .str
 | .pointer _=>some .ptr
 | .slice _=>some .sl
 | .map _ _=>some .map
 |_=>none
def u_:List CK->Nat
 | []=>0
 |_::l=>Nat.succ (u_ l)
def SH:List CK->List CK->List CK
 | [],m=>m
 |a::l,m=>a::SH l m
def tQ:Nat->List CK->List CK
 |0,_=>[]
 |n+1,l=>SH l (tQ n l)
mutual
def Sl(P:IW):Nat->TypeId->Option (List CK)
  |0,_=>none
  | f +1,t=>match P.underlying t with
    |some (.struct fs)=>cksFs P f fs.toList 0
    | some (.array n e)=>match Sl P f e with
      |some a=>some (tQ n a)
      |none=>none
    | some d=>match SJ d with
      |some k=>some [k]
      |none=>none
    |none=>none
def cksFs(P:IW):Nat->List Field->Nat->Option (List CK)
  |0,_,_=>none
  |_+1,[],_=>some []
  | f + 1,x::l,o=>match Nat.beq x.offset o with
    | true=>match Sl P f x.type with
      | some a=>match cksFs P f l (Nat.add o (u_ a))with
        |some b=>some (SH a b)
        |none=>none
      |none=>none
    |false=>none
end
def wT:List CK->(List AV->List Value->Prop)->Prop
 | [],K=>K [] []
 | .int k::l,K=>∃n:Int,wT l λa v=>K (.sv (.int k n)::a) (.int k n::v)
 | .bool::l,K=>∃b:Bool,wT l λa v=>K (.sv (.bool b)::a) (.bool b::v)
 | .str::l,K=>∃s:IV,wT l λa v=>K (.sv (.string s)::a) (.string s::v)
 | .sl::l,K=>∃(p:Option Addr) (n c:Nat),wT l λa v=>K (.sv (.slice p n c)::a) (.slice p n c::v)
 | .ptr::l,K=>∃p:Option Addr,wT l λa v=>K (.sv (.pointer p)::a) (.pointer p::v)
 | .map::l,K=>∃m:Option Nat,wT l λa v=>K (.sv (.map m)::a) (.map m::v)
def uW:∀{l:List CK} {K:List AV->List Value->Prop},wT l K->∃a v,K a v/\(∀I,VRs I a v)/\v.length=u_ l
  | [],K,h=>⟨[],[],h,λI=> .nil,rfl⟩
  | .int k::l,K,⟨n,h⟩=>by obtain⟨a,v,h1,h2,h3⟩:=uW h;exact⟨_,_,h1,λI=> .cons (.sv _) (h2 I),by simp[h3,u_]⟩
  | .bool::l,K,⟨n,h⟩=>by obtain⟨a,v,h1,h2,h3⟩:=uW h;exact⟨_,_,h1,λI=> .cons (.sv _) (h2 I),by simp[h3,u_]⟩
  | .str::l,K,⟨n,h⟩=>by obtain⟨a,v,h1,h2,h3⟩:=uW h;exact⟨_,_,h1,λI=> .cons (.sv _) (h2 I),by simp[h3,u_]⟩
  | .sl::l,K,⟨p,n,c,h⟩=>by obtain⟨a,v,h1,h2,h3⟩:=uW h;exact⟨_,_,h1,λI=> .cons (.sv _) (h2 I),by simp[h3,u_]⟩
  | .ptr::l,K,⟨n,h⟩=>by obtain⟨a,v,h1,h2,h3⟩:=uW h;exact⟨_,_,h1,λI=> .cons (.sv _) (h2 I),by simp[h3,u_]⟩
  | .map::l,K,⟨n,h⟩=>by obtain⟨a,v,h1,h2,h3⟩:=uW h;exact⟨_,_,h1,λI=> .cons (.sv _) (h2 I),by simp[h3,u_]⟩
def qgf(vs:List Value) (off:Nat) (us:List Value):Prop:=∀(j:Nat) v,us[j]? =some v->vs[off+j]? =some v
def ZY (P:IW) (t:TypeId) (src:List Value->Prop) (K:AV->Prop):Prop:=match shapeOf P t with
  | some none=>match P.underlying t with
    | some d=>match SJ d with
      | some k=>wT [k] λa v=>match a with
        | [x]=>Ob (src v)/\K x
        |_=>False
      |none=>False
    |none=>False
  | some (some n)=>match Sl P 20 t with
    |some l=>tB (Nat.beq (u_ l) n) (wT l λa v=>Ob (src v)/\K (.agg a))
    |none=>False
  |none=>False
def A8{P:IW} {t:TypeId} {src:List Value->Prop} {K:AV->Prop} (e:ZY P t src K):∃a vs,src vs/\K a/\∀I w (ad:Addr),(∀(j:Nat) v,vs[j]? =some v->w.cell? (ad.add j)=some v)->∃z,(loadVar t ad).run P w= .ok z w/\VR I a z:=by
  unfold ZY at e;split at e
  · rename_i hsh;split at e;case h_2=>exact e.elim
    rename_i d hd;split at e;case h_2=>exact e.elim
    rename_i k hk;obtain⟨a,v,h1,h2,h3⟩:=uW e;split at h1;case h_2=>exact h1.elim
    rename_i x;obtain⟨h4,h5⟩:=h1;refine⟨x,v,h4,h5,λI w ad hc=> ?_⟩;have hv:=h2 I;cases hv with
    | @cons _ _ z _ hz ht=>
      cases ht;obtain⟨g1,g2⟩:=K1 (P:=P) (w:=w) hsh;refine⟨z,?_,hz⟩;have hcell:w.cell? ad=some z:=by have:=hc 0 z rfl;simpa[Addr.add]using this
      have hld:(load ad).run P w= .ok z w:=(by simp[load,Sem.run,hcell]);simp[loadVar,g1,hld,Result.andThen]
  · rename_i n hsh;split at e;case h_2=>exact e.elim
    rename_i l hl;obtain⟨hn,e⟩:=qP e;have hn:=Nat.eq_of_beq_eq_true hn;obtain⟨a,v,⟨h1,h1'⟩,h2,h3⟩:=uW e;refine⟨_,v,h1,h1',λI w ad hc=> ?_⟩;obtain⟨g1,g2⟩:=K1 (P:=P) (w:=w) hsh;have hr:=run_loadCells_list (P:=P) w ad v hc;rw[h3,hn]at hr;refine⟨.agg ⟨v⟩,?_, .agg (h2 I)⟩;simp[loadVar,g1,g2 n rfl,hr,Result.andThen]
  · exact e.elim
def rowOf:AO->Option (List Value)
 | .row _ _ vs=>some vs
 | .cells _ _ _ l=>jH l
 |_=>none
variable {I:In}
def qdf{t:Nat×Nat} {o:AO} {ob:Obj} {vs:List Value} (h:rowOf o=some vs) (ho:OR I t o ob):∃pre rest e fr,ob= .cells ⟨pre++(vs++rest)⟩ e fr/\pre.length=t.1/\(vs++rest).length=t.2:=by
  cases ho with
  | cells h1 hg hp ht hf hE=>
    simp only[rowOf]at h;have:=uU h h1;subst this;exact⟨_,_,_,_,rfl,hp,ht⟩
  | row hp ht hf=>
    simp only[rowOf]at h;cases h;exact⟨_,_,_,_,rfl,hp,ht⟩
  |map h1=>cases h
  |mrow=>cases h
  |iter _ _=>cases h
variable {w:World}
def Fj{F:Bool->Nat->Prop} {h:T AO} (hs:Sim F I h w) {id:Nat} {o:AO} {vs us:List Value} {b s t off:Nat} (hg:h.get id=some o) (hr:rowOf o=some vs) (hi:I id=some (b,s,t)) (hsub:qgf vs off us):∀(j:Nat) v,us[j]? =some v->w.cell? (Addr.add ⟨b,s+off,none⟩ j)=some v:=λj v hj=>by obtain⟨ob,k1,k2⟩:=hs.obj _ _ _ _ hg hi;obtain⟨pre,rest,e,fr,rfl,hp,ht⟩:=qdf hr k2;rw[j6,cell_of k1];have:=hsub j v hj;simp only[List.getElem?_toArray];simp only at hp;rw[List.getElem?_append_right (by omega),List.getElem?_append_left (by have:=(List.getElem?_eq_some_iff.1 this).1;omega),←this];congr 1;omega
def q18(s:IV):List Value:=s.data.toList.map λb=> .int .u8 (b.toNat:Nat)
def q2t(s:IV):(q18 s).length=s.size:=by unfold q18;rw[List.length_map,Array.length_toList];rfl
variable {s:IV}
def q8v{i:Nat} (h:i<s.size):(q18 s)[i]? =some (.int .u8 (s[i].toNat:Nat)):=by unfold q18;rw[List.getElem?_map,List.getElem?_eq_getElem (by rw[Array.length_toList];exact h)];rfl
def FV:AV->Option (Nat×Nat×Nat)
  | .sl id off n _=>some (id,off,n)
  | .gsl id off n _=>some (id,off,n)
  | a=>match Jc a with
    |some (id,off,n,_)=>some (id,off,n)
    |none=>none
def rG{a:AV} {id off n:Nat} {v:Value} (h:FV a=some (id,off,n)) (r:VR I a v):∃q c,v= .slice q n c/\(n=0\/∃b s t,I id=some (b,s,t)/\q=some ⟨b,s+off,none⟩):=by
  unfold FV at h;split at h
  · cases h;cases r with|sl hI=>exact⟨_,_,rfl, .inr ⟨_,_,_,hI,rfl⟩⟩
  · cases h;cases r with
    | gsl hI h1 h2 h3=>
      refine⟨_,_,rfl,?_⟩;rcases h3 with h3|h3
      · exact .inr ⟨_,_,_,hI,by rw[h3]⟩
      · exact .inl (by omega)
  · split at h;case h_2=>cases h
    rename_i hg;cases h;rcases Y5 hg r with⟨h0,rfl⟩|⟨b,s0,tt,oo,c,hI,rfl,k1,k2,k3⟩
    · exact⟨none,0,by rw[h0], .inl h0⟩
    · refine⟨_,_,rfl,?_⟩;rcases k3 with k3|k3
      · exact .inr ⟨_,_,_,hI,by rw[k3]⟩
      · exact .inl (by omega)
def Gq (P:IW):jl:=λgl t h o K=>match o.op with
  | .load ty x=>match ev t x with
    |some (.sv (.pointer (some a)))=>ZY P ty (λvs=>∀p,gl.pf p->q37 p a vs) K
    |some (.sv (.pointer a))=>ZY P ty (λvs=>∀p,gl.pf p->∃x,a=some x/\q37 p x vs) K
    | some (.sptr id off)=>match h.get id with
      | some o=>match rowOf o with
        |some vs=>ZY P ty (λus=>qgf vs off us) K
        |none=>False
      |none=>False
    | some (.ptr id off)=>match h.get id with
      | some o=>match rowOf o with
        |some vs=>ZY P ty (λus=>qgf vs off us) K
        |none=>False
      |none=>False
    |_=>False
  | .convert s d x=>match P.underlying s,P.underlying d with
    | some (.slice e),some .string=>match P.underlying e with
      | some (.int .u8)=>match ev t x with
        | some a=>match FV a with
          | some (id,off,n)=>match h.get id with
            | some o=>match rowOf o with
              |some vs=>∃s:IV,Ob (s.size=n)/\Ob (qgf vs off (q18 s))/\K (.sv (.string s))
              |none=>False
            |none=>False
          | none=>match a with
            | .sv (.slice a n c)=>∃s:IV,Ob (s.size=n)/\Ob (∀p,gl.pf p->qgs p a (q18 s))/\K (.sv (.string s))
            |_=>False
        |none=>False
      | some (.int .i32)=>match ev t x with
        | some a=>match FV a with
          | some (id,off,n)=>match h.get id with
            | some o=>match rowOf o with
              |some vs=>∃ns:List Int,Ob (ns.length=n)/\Ob (qgf vs off (ns.map λi=>Value.int .i32 i))/\K (.sv (.string (runesBytes ns)))
              |none=>False
            |none=>False
          |none=>False
        |none=>False
      |_=>False
    |_,_=>False
  |_=>False
def pR{P:IW} {sT d el:TypeId} (hs:P.underlying sT=some (.slice el)) (hd:P.underlying d=some .string) (he:P.underlying el=some (.int .u8)) {s:IV} {b o c:Nat} (hc:∀(j:Nat) v,(q18 s)[j]? =some v->w.cell? (Addr.add ⟨b,o,none⟩ j)=some v):
  (convert sT d (.slice (some ⟨b,o,none⟩) s.size c)).run P w= .ok (.string s) w:=
 Lib.run_convert_whole (P:=P) w sT el d hs he hd b o s (λi hi=>by have:=hc i _ (q8v hi);rw[j6]at this;exact this) c
def rv(h:s.size=0):s=ByteArray.empty:=by
 apply ByteArray.ext;apply Array.toList_inj.1;have:s.data.toList.length=0:=by rw[Array.length_toList];exact h
 rw[List.eq_nil_of_length_eq_zero this];rfl
def qhz (P:IW):ka P (Gq P):=by
  intro gl t h o K e;obtain⟨dst,op,ty,pos,after,guard⟩:=o;cases op with
  | load lt x=>
    simp only[Gq]at e;have own:∀(av:AV) (id off:Nat),ev t x=some av->(∀I z,VR I av z->∃b s tt,I id=some (b,s,tt)/\z= .pointer (some ⟨b,s+off,none⟩))->(match h.get id with
      | some o=>match rowOf o with
        |some vs=>ZY P lt (λus=>qgf vs off us) K
        |none=>False
      |none=>False)->∃v,RP gl P t h ⟨dst, .load lt x,ty,pos,after,guard⟩ v/\K v:=λav id off hx hav e=>by
      split at e;case h_2=>exact e.elim
      rename_i ob hg;split at e;case h_2=>exact e.elim
      rename_i vs hr;obtain⟨a,us,h1,h2,h3⟩:=A8 e;refine⟨a,λF I ac w ht hs hp=> ?_,h2⟩;have hv:=qj ht hx;generalize hxv:ac.eval x=xv at hv;obtain⟨b,s,tt,hI,rfl⟩:=hav I xv hv;obtain⟨z,g1,g2⟩:=h3 I w ⟨b,s+off,none⟩ (Fj hs hg hr hI h1);exact⟨z,by simp[execOp,hxv,Instr.loadAt,Instr.sureAddr,g1,Result.andThen],g2⟩
    split at e
    · rename_i a hx;obtain⟨av,us,h1,h2,h3⟩:=A8 e;refine⟨av,λF I ac w ht hs hp=> ?_,h2⟩;have hv:=qj ht hx;generalize hxv:ac.eval x=xv at hv;cases hv;obtain⟨z,g1,g2⟩:=h3 I w a λj v hj=>X2 (h1 _ hp j v hj);exact⟨z,by simp[execOp,hxv,Instr.loadAt,Instr.sureAddr,g1,Result.andThen],g2⟩
    · rename_i a _ hx;obtain⟨av,us,h1,h2,h3⟩:=A8 e;refine⟨av,λF I ac w ht hs hp=> ?_,h2⟩;have hv:=qj ht hx;generalize hxv:ac.eval x=xv at hv;cases hv;obtain⟨y,rfl,hy⟩:=h1 _ hp;obtain⟨z,g1,g2⟩:=h3 I w y λj v hj=>X2 (hy j v hj);exact⟨z,by simp[execOp,hxv,Instr.loadAt,Instr.sureAddr,g1,Result.andThen],g2⟩
    · rename_i id off hx;exact own _ id off hx (λI z hz=>by cases hz with|sptr hI=>exact⟨_,_,_,hI,rfl⟩) e
    · rename_i id off hx;exact own _ id off hx (λI z hz=>by cases hz with|ptr hI=>exact⟨_,_,_,hI,rfl⟩) e
    · exact e.elim
  | convert s d x=>
    simp only[Gq]at e;split at e;case h_2=>exact e.elim
    rename_i el hs hd;split at e;case h_3=>exact e.elim
    case h_2=>
      rename_i he;split at e;case h_2=>exact e.elim
      rename_i a hx;split at e;case h_2=>exact e.elim
      rename_i id off n hg;split at e;case h_2=>exact e.elim
      rename_i ob hgt;split at e;case h_2=>exact e.elim
      rename_i vs hr;obtain⟨ns,hn,hsub,hk⟩:=e;refine⟨_,λF I ac w ht hs' hp=>⟨.string (runesBytes ns),?_, .sv _⟩,hk⟩;have hv:=qj ht hx;generalize hxv:ac.eval x=xv at hv;obtain⟨q,c,rfl,hq⟩:=rG hg hv;have hn:ns.length=n:=hn;by_cases h0:n=0
      · subst h0;obtain rfl:ns=[]:=List.length_eq_zero_iff.1 hn;have:(convert s d (.slice q 0 c)).run P w= .ok (.string (runesBytes [])) w:=by
          cases q with
          |none=>exact run_convert_runes_nil w s d el 0 c hs he hd
          |some y=>exact run_convert_runes w s d el y 0 c [] (Nat.le_refl _) hs he hd (λj hj=>absurd hj (by simp))
        simp[execOp,hxv,this,Result.andThen]
      · rcases hq with hq|⟨b,s0,tt,hI,rfl⟩
        · exact absurd hq h0
        · have:=run_convert_runes (P:=P) w s d el ⟨b,s0+off,none⟩ n c ns (by omega) hs he hd (λj hj=>by refine Fj hs' hgt hr hI hsub j _ ?_;rw[List.getElem?_map,List.getD_eq_getElem?_getD,List.getElem?_eq_getElem hj];rfl);rw[List.take_of_length_le (by omega)]at this;simp[execOp,hxv,this,Result.andThen]
    rename_i he;split at e;case h_2=>exact e.elim
    rename_i a hx;have zero:∀(q:Option Addr) (c:Nat) (w:World),q=none\/(∃y,q=some y)->(convert s d (.slice q 0 c)).run P w= .ok (.string .empty) w:=λq c w _=>by
      cases q with
      |none=>simp[convert,run_underlying hs,run_underlying hd,run_underlying he,Result.andThen,Conv.bytesToString]
      | some y=>
        have hl:(loadCells y 0).run P w= .ok #[] w:=(by simp[loadCells,loadCellsFrom]);simp[convert,run_underlying hs,run_underlying hd,run_underlying he,Result.andThen,Conv.bytesToString,hl]
    split at e
    · rename_i id off n hg;split at e;case h_2=>exact e.elim
      rename_i ob hgt;split at e;case h_2=>exact e.elim
      rename_i vs hr;obtain⟨str,hn,hsub,hk⟩:=e;refine⟨_,λF I ac w ht hs' hp=>⟨.string str,?_, .sv _⟩,hk⟩;have hv:=qj ht hx;generalize hxv:ac.eval x=xv at hv;obtain⟨q,c,rfl,hq⟩:=rG hg hv;by_cases h0:n=0
      · subst h0;rw[rv hn];simp[execOp,hxv,zero q c w (by cases q<;>simp),Result.andThen]
      · rcases hq with hq|⟨b,s0,tt,hI,rfl⟩
        · exact absurd hq h0
        · have:=pR (P:=P) (w:=w) hs hd he (s:=str) (b:=b) (o:=s0+off) (c:=c) (Fj hs' hgt hr hI hsub);rw[hn]at this;simp[execOp,hxv,this,Result.andThen]
    · split at e;case h_2=>exact e.elim
      rename_i q n c _;obtain⟨str,hn,hsub,hk⟩:=e;refine⟨_,λF I ac w ht hs' hp=>⟨.string str,?_, .sv _⟩,hk⟩;have hv:=qj ht hx;generalize hxv:ac.eval x=xv at hv;cases hv;rcases hsub _ hp with h0|⟨y,rfl,hy1,hy2⟩
      · have h0:str.size=0:=(by rw[←q2t,h0.1];rfl);rw[rv h0];have hn0:n=0:=(by omega);subst hn0;have:=zero q c w (by cases q<;>simp);simp[execOp,hxv,this,Result.andThen]
      · obtain⟨yb,yo,ys⟩:=y;simp only at hy1;subst hy1;have:=pR (P:=P) (w:=w) hs hd he (s:=str) (b:=yb) (o:=yo) (c:=c) λj v hj=>X2 (hy2 j v hj);rw[hn]at this;simp[execOp,hxv,this,Result.andThen]
  |_=>exact e.elim
end
section
def Grow.tok{F I nx w I' nx1 h' w'} {y:Nat×Nat×Nat} (g:Grow F I nx w I' nx1 h' w') (hle:nx<=nx1) (hi:I' nx1=none) (hh:h'.get nx1=none):Grow F I nx w (ext I' nx1 y) (nx1+1) h' w':=by
 have hl:=QY y hi;have ne:∀id o,h'.get id=some o->id≠nx1:=λid o h e=>by subst e;rw[hh]at h;cases h
 have old:∀id,id≠nx1->ext I' nx1 y id=I' id:=λid h=>if_neg h;refine⟨In.le_trans g.le hl,λi x h=> ?_,⟨λid o b t h1 h2=> ?_,λid id' o o' b t t' h1 h2 i1 i2=> ?_,λid o b t h1 h2 hf=> ?_⟩,g.fr,g.size,g.same⟩
 ·by_cases e:i=nx1
  ·exact .inr ⟨by omega,by omega⟩
  ·rw[old i e]at h;exact(g.new i x h).imp (λh=>h) λh=>⟨h.1,by omega⟩
 ·rw[old id (ne id o h1)]at h2;obtain⟨ob,k1,k2⟩:=g.sim.obj _ _ _ _ h1 h2;exact⟨ob,k1,k2.mono hl⟩
 ·rw[old id (ne id o h1)]at i1;rw[old id' (ne id' o' h2)]at i2;exact g.sim.inj _ _ _ _ _ _ _ h1 h2 i1 i2
 ·rw[old id (ne id o h1)]at h2;exact g.sim.fr _ _ _ _ h1 h2 hf
def Grow.put0{F I nx w I' nx1 h h' w'} {o:AO} (g:Grow F I nx w I' nx1 h w') (hi:I' nx1=none) (hp:T.put 64 nx1 (some o) h=some h'):Grow F I nx w I' (nx1+1) h' w':=by
 have hg:=T.get_put _ _ _ _ _ hp;have old:∀id q x,h'.get id=some q->I' id=some x->h.get id=some q:=λid q x h1 h2=>by
  rw[hg]at h1;split at h1
  ·rename_i e;subst e;rw[hi]at h2;cases h2
  ·exact h1
 exact⟨g.le,λi x h=>(g.new i x h).imp (λh=>h) λh=>⟨h.1,by omega⟩,⟨λid q b t h1 h2=>g.sim.obj _ _ _ _ (old _ _ _ h1 h2) h2,λid id' q q' b t t' h1 h2 i1 i2=>g.sim.inj _ _ _ _ _ _ _ (old _ _ _ h1 i1) (old _ _ _ h2 i2) i1 i2,λid q b t h1 h2=>g.sim.fr _ _ _ _ (old _ _ _ h1 h2) h2⟩,g.fr,g.size,g.same⟩
def qj1(P:IW) (gl:GL) (h:T AO) (x:AV) (esz n:Nat) (us:List Value):Prop:=us.length=n*esz/\(∀v∈us,v.oneCell'=true)/\∀F I w v,VR I x v->Sim F I h w->gl.pf (q11 F w)->∀w':World,w'.heap=w.heap->(Builtin.lenOf v).run P w'= .ok n w'/\(Builtin.firstCells esz n v).run P w'= .ok ⟨us⟩ w'
def qkd(us:List Value):Prop:=∀v∈us,v.oneCell'=true
def S1 (P:IW) (gl:GL) (h:T AO) (x:AV) (esz:Nat) (K:Nat->List Value->Prop):Prop:=match x with
  | .nsl=>K 0 []
  | .sl id off n _=>match Q5 h id off (n*esz)with
    | some l=>match jH l with
      | some us=>match l.all atom with
        |true=>K n us
        |false=>False
      |none=>False
    |none=>False
  | .gsl id off n _=>match Q5 h id off (n*esz)with
    | some l=>match jH l with
      | some us=>match l.all atom with
        |true=>K n us
        |false=>False
      |none=>False
    |none=>False
  | .sv (.slice a n _)=>∃us,Ob (us.length=n*esz)/\Ob (∀p,gl.pf p->qgs p a us)/\Ob (qkd us)/\K n us
  | x =>match gs x with
    | some s=>match esz with
      |1=>K s.size (q18 s)
      |_=>False
    | none=>match Jc x with
      | some (id,off,n,e)=>tB (Nat.beq e esz) (match h.get id with
        | some o=>match rowOf o with
          |some vs=>∃us,Ob (us.length=n*esz)/\Ob (qgf vs off us)/\Ob (qkd us)/\K n us
          |none=>False
        |none=>False)
      |none=>False
def cells_at{P:IW} {w w':World} (hw:w'.heap=w.heap) {a:Addr} {us:List Value} (h:∀(j:Nat) v,us[j]? =some v->w.cell? (a.add j)=some v):(loadCells a us.length).run P w'= .ok ⟨us⟩ w':=
 run_loadCells_list w' a us λj v hj=>by have:=h j v hj;unfold World.cell? at this⊢;rw[hw];exact this
def q8w(s:IV):∀v∈q18 s,v.oneCell'=true:=λv hv=>by unfold q18 at hv;obtain⟨b,_,rfl⟩:=List.mem_map.1 hv;rfl
variable {h:T AO}
def qgd {P:IW} {gl:GL} {x:AV} {esz:Nat} {K:Nat->List Value->Prop} (e:S1 P gl h x esz K):∃n us,qj1 P gl h x esz n us/\K n us:=by
  have known:∀{id off n:Nat} {l:List AV} {us:List Value},Q5 h id off (n*esz)=some l->jH l=some us->l.all atom=true->∀{F I} {w:World} {b s t c o},I id=some (b,s,t)->(o=s+off\/n=0)->Sim F I h w->us.length=n*esz/\(∀v∈us,v.oneCell'=true)/\∀w':World,w'.heap=w.heap->(Builtin.lenOf (.slice (some ⟨b,o,none⟩) n c)).run P w'= .ok n w'/\(Builtin.firstCells esz n (.slice (some ⟨b,o,none⟩) n c)).run P w'= .ok ⟨us⟩ w':=by intro id off n l us h1 h2 h3 F I w b s t c o hI ho hs;obtain⟨ys,g1,g2,g3⟩:=qa7 (P:=P) hs h1 hI (ho.imp (λh=>h) λh=>by rw[h,Nat.zero_mul]);have:=uU h2 g1;subst this;exact⟨g2,X6 g1 h3,λw' hw=>⟨rfl,g3 w' hw⟩⟩
  have len:∀{id off m:Nat} {l:List AV} {us:List Value},Q5 h id off m=some l->jH l=some us->us.length=m:=λ{id off m l us} h1 h2=>by
    have hl:l.length=m:=by
      unfold Q5 at h1;split at h1
      · unfold takeN at h1;simp only at h1;split at h1
        · rename_i hh;cases h1;exact hh
        · cases h1
      · cases h1
    have:∀(l:List AV) (us:List Value),jH l=some us->us.length=l.length:=by
      intro l;induction l with
      |nil=>intro us h;simp[jH]at h;subst h;rfl
      | cons a l ih=>
        intro us h;simp only[jH]at h;split at h
        · split at h
          · rename_i r hr;cases h;simp[ih _ hr]
          · cases h
        · cases h
    rw[this l us h2,hl]
  have one:∀{l:List AV} {us:List Value},jH l=some us->l.all atom=true->∀v∈us,v.oneCell'=true:=by
    intro l;induction l with
    |nil=>intro us h _ v hv;simp[jH]at h;subst h;cases hv
    | cons a l ih=>
      intro us h ha v hv;simp only[List.all_cons,Bool.and_eq_true]at ha;simp only[jH]at h;split at h
      · rename_i u hu;split at h
        · rename_i r hr;cases h;cases hv with
          | head=>
            unfold gv at hu;split at hu
            · cases hu;exact ha.1
            · cases a<;>simp[u9]at hu<;>subst hu<;>rfl
          |tail _ hm=>exact ih hr ha.2 v hm
        · cases h
      · cases h
  unfold S1 at e;split at e
  · exact⟨0,[],⟨by simp,by simp,λF I w v hv hs hp w' hw=>by cases hv;exact⟨rfl,rfl⟩⟩,e⟩
  · rename_i id off n cap;split at e;case h_2=>exact e.elim
    rename_i l hl;split at e;case h_2=>exact e.elim
    rename_i us hus;split at e;case h_2=>exact e.elim
    rename_i hat;refine⟨n,us,⟨len hl hus,one hus hat,λF I w v hv hs hp=> ?_⟩,e⟩;cases hv with|sl hI=>exact(known hl hus hat hI (.inl rfl) hs).2.2
  · rename_i id off n cap;split at e;case h_2=>exact e.elim
    rename_i l hl;split at e;case h_2=>exact e.elim
    rename_i us hus;split at e;case h_2=>exact e.elim
    rename_i hat;refine⟨n,us,⟨len hl hus,one hus hat,λF I w v hv hs hp=> ?_⟩,e⟩;cases hv with|gsl hI g1 g2 g3=>exact(known hl hus hat hI (g3.imp (λh=>h) λh=>by omega) hs).2.2
  · rename_i a n c;obtain⟨us,h1,h2,h3,h4⟩:=e;refine⟨n,us,⟨h1,h3,λF I w v hv hs hp w' hw=> ?_⟩,h4⟩;cases hv;refine⟨rfl,?_⟩;rcases h2 _ hp with⟨rfl,_⟩|⟨y,rfl,hy1,hy2⟩
    · have h1:n*esz=0:=h1.symm;cases a with
      |none=>rfl
      |some y=>simp[Builtin.firstCells,h1,loadCells,loadCellsFrom]
    · simp only[Builtin.firstCells];rw[←h1];exact cells_at hw λj v hj=>X2 (hy2 j v hj)
  · split at e
    · rename_i s hs;split at e;case h_2=>exact e.elim
      refine⟨_,_,⟨by rw[q2t];omega,q8w s,λF I w v hv _ hp w' hw=> ?_⟩,e⟩;rw[xZ hs hv];refine⟨rfl,?_⟩;simp only[Builtin.firstCells,Sem.run_pure];congr 1;apply Array.toList_inj.1;rw[Array.toList_map];have:s.extract 0 s.size=s:=(by simp);rw[this];rfl
    · split at e;case h_2=>exact e.elim
      rename_i id off n ez hg;obtain⟨h0,e⟩:=qP e;have h0:=Nat.eq_of_beq_eq_true h0;subst h0;split at e;case h_2=>exact e.elim
      rename_i o hgt;split at e;case h_2=>exact e.elim
      rename_i vs hr;obtain⟨us,h1,h2,h3,h4⟩:=e;refine⟨n,us,⟨h1,h3,λF I w v hv hs hp w' hw=> ?_⟩,h4⟩;rcases Y5 hg hv with⟨rfl,rfl⟩|⟨b,s0,tt,oo,c,hI,rfl,k1,k2,k3⟩
      · have:us=[]:=List.eq_nil_of_length_eq_zero (by rw[h1];simp);subst this;exact⟨rfl,rfl⟩
      · refine⟨rfl,?_⟩;by_cases hz:n*ez=0
        · have:us=[]:=List.eq_nil_of_length_eq_zero (by rw[h1];exact hz);subst this;simp[Builtin.firstCells,hz,loadCells,loadCellsFrom]
        · have hn:0<n:=Nat.pos_of_ne_zero λh=>hz (by rw[h];simp);have ho:oo=s0+off:=by
            rcases k3 with k3|k3
            · exact k3
            · omega
          subst ho;simp only[Builtin.firstCells];rw[←h1];exact cells_at hw (Fj hs hgt hr hI h2)
def qj0(h:T AO) (d:AV) (el esz len:Nat) (vs:List Value) (fz:Nat) (id:Option Nat):Prop:=vs.length=len*esz/\fz<=len*esz/\match id with
 |none=>len=0/\∀I u,VR I d u->u= .slice none 0 0
 |some id=>∃o,h.get id=some o/\o.rw=true/\(∀F I w u,VR I d u->Sim F I h w->(len=0/\u= .slice none 0 0)\/∃b s t o' c,I id=some (b,s,t)/\u= .slice (some ⟨b,o',none⟩) len c/\len<=c/\c*esz<=t/\(o'=s\/c=0))/\
   ∀I t ob,OR I t o ob->∃pre rest fr,ob= .cells ⟨pre++(vs++rest)⟩ el fr/\pre.length=t.1/\(vs++rest).length=t.2/\∀q,fz<=q->q<t.2->¬(fr.1<=t.1+q/\t.1+q<fr.2)
def Yy(fz m:Nat) (K:Prop):Prop:=match fz with
 |0=>K
 |f=>Ob (f<=m)/\K
def AU{fz m:Nat} {K:Prop} (h:Yy fz m K):fz<=m/\K:=by
 unfold Yy at h;split at h
 ·exact⟨Nat.zero_le _,h⟩
 ·exact h
def qjm:AV->Bool
 | .ssl .. =>true
 | .msl .. =>true
 |_=>false
def SM(h:T AO) (d:AV) (el esz:Nat) (K:Nat->List Value->Nat->Option Nat->Prop):Prop:=match d with
  | .nsl=>K 0 [] 0 none
  | .sl id off len cap=>match h.get id with
    | some (.cells e (some fz) _ l)=>match jH l with
      |some vs=>tB (Nat.beq e el&&(Nat.beq off 0&&(Nat.beq cap len&&(Nat.beq vs.length (len*esz)&&Nat.ble fz (len*esz))))) (K len vs fz (some id))
      |none=>False
    |_=>False
  | d =>match Jc d with
    | some (id,off,len,ez)=>match h.get id with
      | some (.row e fz vs)=>tB (Nat.beq e el&&(Nat.beq off 0&&Nat.beq ez esz)) (match qjm d with
        |true=>Ob (vs.length=len*esz)/\Yy fz (len*esz) (K len vs fz (some id))
        |false=>Ob (len*esz<=vs.length)/\Yy fz (len*esz) (K len (vs.take (len*esz)) fz (some id)))
      |_=>False
    |none=>False
def qff{d:AV} {el esz:Nat} {K:Nat->List Value->Nat->Option Nat->Prop} (e:SM h d el esz K):∃len vs fz id,qj0 h d el esz len vs fz id/\K len vs fz id:=by
  unfold SM at e;split at e
  · exact⟨0,[],0,none,⟨by simp,Nat.zero_le _,rfl,λI u hu=>by cases hu;rfl⟩,e⟩
  · rename_i id off len cap;split at e;case h_2=>exact e.elim
    rename_i e' fz g l hg;split at e;case h_2=>exact e.elim
    rename_i vs hvs;obtain⟨hb,e2⟩:=qP e;clear e;simp only[Bool.and_eq_true]at hb;obtain⟨b1,b2,b5,b3,b4⟩:=hb;have b1:=Nat.eq_of_beq_eq_true b1;have b2:=Nat.eq_of_beq_eq_true b2;have b3:=Nat.eq_of_beq_eq_true b3;have b4:=Nat.le_of_ble_eq_true b4;have b5:=Nat.eq_of_beq_eq_true b5;subst b1 b2 b5;refine⟨cap,vs,fz,some id,⟨b3,b4,_,hg,rfl,λF I w u hu hs=> ?_,λI t ob ho=> ?_⟩,e2⟩
    · cases hu with
      | @sl _ _ _ _ b s t hI=>
        obtain⟨ob,k1,k2⟩:=hs.obj _ _ _ _ hg hI;cases k2 with
        | @cells _ el' _ _ _ pre us rest fr hl hgr hp ht hf hE=>
          have:=uU hvs hl;subst this;refine .inr ⟨b,s,t,_,cap,hI,rfl,Nat.le_refl _,?_, .inl rfl⟩;simp only[List.length_append]at ht;omega
    · cases ho with
      | @cells _ el' _ _ _ pre us rest fr hl hgr hp ht hf hE=>
        have:=uU hvs hl;subst this;rcases hE with hE|hE
        · exact⟨pre,rest,fr,by rw[hE],hp,ht,hf fz rfl⟩
        · cases hE.1
  · split at e;case h_2=>exact e.elim
    rename_i id off len ez hg;split at e;case h_2=>exact e.elim
    rename_i e' fz vs hgt;obtain⟨hb,e2⟩:=qP e;clear e;simp only[Bool.and_eq_true]at hb;obtain⟨b1,b2,b3⟩:=hb;have b1:=Nat.eq_of_beq_eq_true b1;have b2:=Nat.eq_of_beq_eq_true b2;have b3:=Nat.eq_of_beq_eq_true b3;subst b1 b2 b3;have val:∀(F:Bool->Nat->Prop) I (w:World) u,VR I d u->Sim F I h w->(len=0/\u= .slice none 0 0)\/∃b s t o' c,I id=some (b,s,t)/\u= .slice (some ⟨b,o',none⟩) len c/\len<=c/\c*ez<=t/\(o'=s\/c=0):=λF I w u hu _=>by
      rcases Y5 hg hu with h|⟨b,s,t,o,c,k1,k2,k3,k4,k5⟩
      · exact .inl h
      · exact .inr ⟨b,s,t,o,c,k1,k2,k3,by omega,k5.imp (λh=>by omega) λh=>h⟩
    split at e2
    · obtain⟨h1,e⟩:=e2;obtain⟨h2,e⟩:=AU e;refine⟨len,vs,fz,some id,⟨h1,h2,_,hgt,rfl,val,λI t ob ho=> ?_⟩,e⟩;cases ho with
      | @row _ _ pre _ rest fr hp ht hf=>exact⟨pre,rest,fr,rfl,hp,ht,hf⟩
    · obtain⟨h1,e⟩:=e2;obtain⟨h2,e⟩:=AU e;refine⟨len,_,fz,some id,⟨by rw[List.length_take];omega,h2,_,hgt,rfl,val,λI t ob ho=> ?_⟩,e⟩;cases ho with
      | @row _ _ pre _ rest fr hp ht hf=>
        refine⟨pre,vs.drop (len*ez)++rest,fr,?_,hp,?_,hf⟩
        · rw[←List.append_assoc (vs.take _),List.take_append_drop]
        · rw[←List.append_assoc (vs.take _),List.take_append_drop];exact ht
def SG (P : IW) (gl:GL) (h:T AO) (nx:Nat) (ts:List TypeId) (d x:AV) (K:AV->T AO->Nat->GS->Prop):Prop:=match ts with
  | [t0, t1] => match P.underlying t0 with
    | some (.slice el)=>match Y7 P [t0,t1]with
      | true => match P.info? el with
        | some i=>match uY P el with
          | some z=>tB (Nat.beq z.length i.size&&(Nat.ble 1 i.size&&Nat.ble 1 i.bytes)) (SM h d el i.size λlen vs fz id=>S1 P gl h x i.size λn us=>Ob ((len+n)*i.bytes<=140737488355328)/\match(match id with|some id=>T.put 64 id none h|none=>some h)with
            | some h1=>match T.put 64 nx (some (.row el fz (vs++us))) h1 with
              | some h'=>match h'.get (nx+1)with
                |none=>K (.ssl nx 0 (len+n) i.size (nx+1)) h' (nx+2) none
                |some _=>False
              |none=>False
            |none=>False)
          |none=>False
        |none=>False
      |false=>False
    |_=>False
  |_=>False
def qex {P:IW} {gl:GL} {nx:Nat} {ts:List TypeId} {d x:AV} {K:AV->T AO->Nat->GS->Prop} (e:SG P gl h nx ts d x K):∃r h' nx' g,K r h' nx' g/\nx<=nx'/\g=none/\∀(F:Bool->Nat->Prop) (I:In) (w:World) (u v:Value) (ty:TypeId),VR I d u->VR I x v->Sim F I h w->(∀b,F true b->b<w.heap.size)->gl.pf (q11 F w)->vd I nx nx'->
    ∃z I' w',(Builtin.append_ ⟨ts⟩ ty ⟨[u,v]⟩).run P w= .ok z w'/\VR I' r z/\Grow F I nx w I' nx' h' w':=by
  unfold SG at e;split at e;case h_2=>exact e.elim
  rename_i t0 t1;split at e;case h_2=>exact e.elim
  rename_i el h0;split at e;case h_2=>exact e.elim
  rename_i hz0;split at e;case h_2=>exact e.elim
  rename_i i hi;split at e;case h_2=>exact e.elim
  rename_i z hz;obtain⟨hb,e1⟩:=qP e;clear e;simp only[Bool.and_eq_true]at hb;obtain⟨b1,b2,b3⟩:=hb;have b1:=Nat.eq_of_beq_eq_true b1;have b2:=Nat.le_of_ble_eq_true b2;have b3:=Nat.le_of_ble_eq_true b3;obtain⟨len,vs,fz,id,hd,e2⟩:=qff e1;obtain⟨n,us,hs,hlim,e3⟩:=qgd e2;split at e3;case h_2=>exact e3.elim
  rename_i h1 hp1;split at e3;case h_2=>exact e3.elim
  rename_i h' hp;split at e3;case h_2=>exact e3.elim
  rename_i hfree;refine⟨_,_,_,_,e3,by omega,rfl,λF I w u v ty hu hv hsim low hpf fr=> ?_⟩;obtain⟨s1,s2,s3⟩:=hs;have src:=s3 F I w v hv hsim hpf;obtain⟨d1,d2,d3⟩:=hd;obtain⟨zv,z1,z2⟩:=qc6 hi hz;rw[b1]at z2;have zc:∀k,(Builtin.zeroCells zv.cells k).size=k*i.size:=λk=>by rw[size_zeroCells,z2]
  have I0:I nx=none:=fr nx (Nat.le_refl _) (by omega);have I1:I (nx+1)=none:=fr (nx+1) (by omega) (by omega);have sim1:Sim F I h1 w:=by
    cases id with
    |none=>simp only[Option.some.injEq]at hp1;subst hp1;exact hsim
    |some id=>exact hsim.drop hp1
  have tk:∀(q:SV),Pl q.1->∃y,zp y=q:=λq hq=>Aj q hq;have grow:∀(base:Option Addr) (sCap:Nat),u= .slice base len sCap->(∀w':World,w'.heap=w.heap->(Builtin.firstCells i.size len (.slice base len sCap)).run P w'= .ok ⟨vs⟩ w')->¬len+n<=sCap->∃z I' w',(Builtin.append_ ⟨[t0,t1]⟩ ty ⟨[u,v]⟩).run P w= .ok z w'/\VR I' (.ssl nx 0 (len+n) i.size (nx+1)) z/\Grow F I nx w I' (nx+2) h' w':=by
    intro base sCap hu' ho hr;subst hu';have hrun:=q7f (P:=P) (ty:=ty) h0 hz0 hi z1 (src w rfl).1 (λw' hw=>(src w' hw).2) ho hr b3 hlim;have hle:=QY (w.heap.size,0,grownCap w (len+n) sCap el*i.size) I0;have hcap:=grownCap_ge w (len+n) sCap el;have hcells:(⟨vs⟩++(⟨us⟩++Builtin.zeroCells zv.cells (grownCap w (len+n) sCap el- (len+n))):Array Value)=⟨[]++((vs++us)++(Builtin.zeroCells zv.cells (grownCap w (len+n) sCap el- (len+n))).toList)⟩:=(by apply Array.toList_inj.1;simp);have hor2:OR (ext I nx (w.heap.size,0,grownCap w (len+n) sCap el*i.size)) (0,grownCap w (len+n) sCap el*i.size) (.row el fz (vs++us)) (.cells (⟨vs⟩++(⟨us⟩++Builtin.zeroCells zv.cells (grownCap w (len+n) sCap el- (len+n)))) el):=by rw[hcells];refine .row rfl ?_ (λo _ _=>by simp);have hzl:(Builtin.zeroCells zv.cells (grownCap w (len+n) sCap el- (len+n))).toList.length=(grownCap w (len+n) sCap el- (len+n))*i.size:=(by rw[Array.length_toList,zc]);show(vs++us++_).length=grownCap w (len+n) sCap el*i.size;rw[List.length_append,List.length_append,hzl,d1,s1,←Nat.add_mul,←Nat.add_mul];congr 1;omega
    have hg:=sim1.push' I0 low hp hor2;obtain⟨y,hy⟩:=tk (some ⟨w.heap.size,0,none⟩,len+n,grownCap w (len+n) sCap el) trivial;have hg2:=Grow.tok (y:=y) hg (Nat.le_succ _) (by rw[ext,if_neg (by omega)];exact I1) hfree;refine⟨_,_,_,hrun,?_,hg2⟩;exact .ssl (b:=w.heap.size) (s:=0) (t:=grownCap w (len+n) sCap el*i.size) (c:=grownCap w (len+n) sCap el) (o:=0) (by rw[ext,if_neg (by omega)];exact zZ _ _ _) hcap (by omega) (.inl rfl) (zZ _ _ _) hy
  have nilc:len=0->u= .slice none 0 0->∃z I' w',(Builtin.append_ ⟨[t0,t1]⟩ ty ⟨[u,v]⟩).run P w= .ok z w'/\VR I' (.ssl nx 0 (len+n) i.size (nx+1)) z/\Grow F I nx w I' (nx+2) h' w':=λhl hu'=>by
    have hvs:vs=[]:=List.eq_nil_of_length_eq_zero (by rw[d1,hl];simp);by_cases hn:n=0
    · have hg:=Grow.tok (y:=(0,0,0)) (Grow.put0 (sim1.grow nx) I0 hp) (Nat.le_succ _) I1 hfree;refine⟨.slice none 0 0,_,w,?_, .ssl0 (by omega) (zZ _ _ _) rfl,hg⟩;rw[hu'];have:=EL (P:=P) (ty:=ty) (base:=none) (sLen:=0) (sCap:=0) h0 hz0 hi (src w rfl).1 (src w rfl).2 (by omega);rw[this,hn];rfl
    · refine grow none 0 (by rw[hu',hl]) (λw' hw=>by rw[hvs];rfl) (by omega)
  cases id with
  |none=>exact nilc d3.1 (d3.2 I u hu)
  | some id =>
    obtain⟨o,hg,hrw,hval,hob⟩:=d3;rcases hval F I w u hu hsim with⟨hl,hu'⟩|⟨b,s,t,o',c,hI,rfl,k1,k2,k3⟩
    · exact nilc hl hu'
    · obtain⟨ob,hb',hor⟩:=hsim.obj _ _ _ _ hg hI;obtain⟨pre,rest,frz,rfl,hpl,htl,hff⟩:=hob _ _ _ hor;simp only at hpl htl hff hp1;have rdd:∀w':World,w'.heap=w.heap->(Builtin.firstCells i.size len (.slice (some ⟨b,o',none⟩) len c)).run P w'= .ok ⟨vs⟩ w':=λw' hw=>by
        simp only[Builtin.firstCells];by_cases hz:len*i.size=0
        · have:vs=[]:=List.eq_nil_of_length_eq_zero (by rw[d1];exact hz);subst this;simp[hz,loadCells,loadCellsFrom]
        · have hn:0<len:=Nat.pos_of_ne_zero λh=>hz (by rw[h];simp);have ho:o'=s:=by
            rcases k3 with k3|k3
            · exact k3
            · omega
          subst ho;rw[←d1];refine cells_at hw λj v hj=> ?_;rw[j6,cell_of hb'];simp only[List.getElem?_toArray];rw[List.getElem?_append_right (by omega),List.getElem?_append_left (by have:=(List.getElem?_eq_some_iff.1 hj).1;omega),←hj];congr 1;omega
      by_cases hroom:len+n<=c
      · by_cases hn:n=0
        ·
          have hus:us=[]:=List.eq_nil_of_length_eq_zero (by rw[s1,hn];simp);obtain⟨y,hy⟩:=tk (some ⟨b,o',none⟩,len+n,c) trivial;have hor2:OR (ext I nx (b,s,t)) (s,t) (.row el fz (vs++us)) (.cells ⟨pre++(vs++rest)⟩ el frz):=(by rw[hus,List.append_nil];exact .row hpl htl hff);have hgr:=Grow.tok (y:=y) (hsim.over hg hrw hI I0 hp1 hp hb' hor2 (λ_ _=>rfl) rfl (.refl w)) (Nat.le_succ _) (by rw[ext,if_neg (by omega)];exact I1) hfree;refine⟨.slice (some ⟨b,o',none⟩) (len+n) c,_,w,?_, .ssl (by rw[ext,if_neg (by omega)];exact zZ _ _ _) hroom (by omega) (k3.imp (λh=>by omega) λh=>h) (zZ _ _ _) hy,hgr⟩;rw[EL (P:=P) h0 hz0 hi (src w rfl).1 (src w rfl).2 hroom,hus];simp[storeCells,Result.andThen]
        · have ho:o'=s:=by
            rcases k3 with k3|k3
            · exact k3
            · omega
          subst ho;have hsp:(len+n)*i.size<=c*i.size:=Nat.mul_le_mul_right _ hroom;rw[Nat.add_mul]at hsp;have hrl:rest.length=t- len*i.size:=(by rw[List.length_append]at htl;omega);obtain⟨w',q1,q2,q3,q4,q5⟩:=X4 (P:=P) (o:=o'+len*i.size) us 0 (pre++(vs++rest)) w hb' (by simp only[List.length_append];rw[s1];omega) (λj a1 a2=>by have:=hff (j- o') (by omega) (by rw[s1]at a2;omega);rw[show o'+(j- o')=j by omega]at this;exact this) s2;rw[Nat.add_zero,←hpl,Fw us pre (vs++rest) (len*i.size),tf us (vs++rest) (len*i.size) (by rw[List.length_append,s1];omega),List.take_append_of_le_length (by omega),List.take_of_length_le (by omega)]at q2;have hor2:OR (ext I nx (b,o',t)) (o',t) (.row el fz (vs++us)) (.cells ⟨pre++(vs++us++(vs++rest).drop (len*i.size+us.length))⟩ el frz):=(by refine .row hpl ?_ hff;simp only[List.length_append,List.length_drop];rw[s1];omega);obtain⟨y,hy⟩:=tk (some ⟨b,o',none⟩,len+n,c) trivial;have hgr:=Grow.tok (y:=y) (hsim.over hg hrw hI I0 hp1 hp q2 hor2 q3 q4 q5) (Nat.le_succ _) (by rw[ext,if_neg (by omega)];exact I1) hfree;refine⟨.slice (some ⟨b,o',none⟩) (len+n) c,_,w',?_, .ssl (by rw[ext,if_neg (by omega)];exact zZ _ _ _) hroom (by omega) (.inl (by omega)) (zZ _ _ _) hy,hgr⟩;rw[EL (P:=P) h0 hz0 hi (src w rfl).1 (src w rfl).2 hroom];simp only[j6];rw[q1];rfl
      · exact grow _ c rfl rdd hroom
end
section
def Wz (P:IW) (h:T AO) (ty:TypeId) (id off:Nat) (a:AV) (K:T AO->Prop):Prop:=match h.get id with
  | some (.row e fz vs)=>match P.info? ty with
    | some i=>match jH (Z3 a)with
      | some us=>tB (Nat.beq us.length i.size&&(Z3 a).all atom) (Ob (off+us.length<=vs.length)/\Yy fz off (match T.put 64 id (some (.row e fz (spl vs off us))) h with
        |some h'=>K h'
        |none=>False))
      |none=>False
    |none=>False
  |_=>False
def qif{P:IW} {h:T AO} {ty:TypeId} {id off:Nat} {a:AV} {K:T AO->Prop} (e:Wz P h ty id off a K):∃h',K h'/\∀(F:Bool->Nat->Prop) (I:In) (w:World) (nx:Nat) (v:Value) (b s t:Nat),Sim F I h w->VR I a v->I id=some (b,s,t)->∃w',(storeVar ty ⟨b,s+off,none⟩ v).run P w= .ok () w'/\Grow F I nx w I nx h' w':=by
  unfold Wz at e;split at e;case h_2=>exact e.elim
  rename_i el fz vs hg;split at e;case h_2=>exact e.elim
  rename_i i hi;split at e;case h_2=>exact e.elim
  rename_i us hus;obtain⟨hb,hlen,e2⟩:=qP e;simp only[Bool.and_eq_true]at hb;have hsz:=Nat.eq_of_beq_eq_true hb.1;obtain⟨hfz,e3⟩:=AU e2;split at e3;case h_2=>exact e3.elim
  rename_i h' hp;refine⟨h',e3,λF I w nx v b s t hs hv hI=> ?_⟩;have hc:=X7 hv;have hcu:=uU hus hc;obtain⟨ob,hb',ho⟩:=hs.obj _ _ _ _ hg hI;cases ho with
  | @row _ _ pre _ rest fr hp' ht hf=>
    simp only at hp' ht hf;obtain⟨w',h1,h2,h3,h4,h5⟩:=X4 (P:=P) (o:=s+off) us 0 (pre++(vs++rest)) w hb' (by simp only[List.length_append];omega) (λj a1 a2=>by have:=hf (j- s) (by omega) (by simp only[List.length_append]at ht;omega);rw[show s+(j- s)=j by omega]at this;exact this) (by rw[←hcu];exact X6 hc hb.2);refine⟨w',?_,hs.upd hg rfl hI hp h2 ?_ h3 h4 h5 nx⟩
    · have:v.cells.size=i.size:=(by rw[←Array.length_toList,hcu];exact hsz);have hcc:v.cells.toList=us:=hcu;simp[storeVar,Eng.run_sizeOf hi,this,Result.andThen,hcc,h1]
    · rw[Nat.add_zero,←hp',Fw us pre (vs++rest) off,ET us vs rest off hlen];exact .row (t:=(pre.length,t)) rfl (by simp only[List.length_append,q7q];simp only[List.length_append]at ht;exact ht) (by rw[hp'];exact hf)
def Gt(P:IW):QK:=λgl t h nx o K=>match o.op with
  | .call c=>match c.callee with
    | .builtin .append=>match ki t c.args.toList with
      |some [d,x]=>SG P gl h nx c.argTypes.toList d x λr h' nx' g=>K r h' nx' g
      |_=>False
    |_=>False
  | .store ty x y=>match ev t x with
    | some (.sptr id off)=>match ev t y with
      |some a=>Wz P h ty id off a λh'=>K j8 h' nx none
      |none=>False
    | some (.ptr id off)=>match ev t y with
      |some a=>Wz P h ty id off a λh'=>K j8 h' nx none
      |none=>False
    |_=>False
  |_=>False
def qi4(P:IW):Vp P (Gt P):=by
  intro gl t h nx o K e;obtain⟨dst,op,ty,pos,after,guard⟩:=o;cases op with
  | call c=>
    obtain⟨callee,args,tys⟩:=c;simp only[Gt]at e;split at e;case h_2=>exact e.elim
    split at e;case h_2=>exact e.elim
    rename_i d x hev;obtain⟨r,h',nx',g,e1,e2,rfl,e3⟩:=qex e;refine⟨r,h',nx',none,⟨e2,λF I n a w st fr K' Q hk=> ?_⟩,e1⟩;obtain⟨u,v,hv,h1,h2⟩:=Wv (k_ st.tr hev);obtain⟨z,I',w',g1,g2,g3⟩:=e3 F I w u v ty h1 h2 st.sim st.low st.pf fr;have ea:args.map a.eval=⟨[u,v]⟩:=(by apply Array.toList_inj.1;simpa using hv);have et:(⟨tys.toList⟩:Array TypeId)=tys:=(by simp);rw[et]at g1;unfold Oper.wp;have:(execOp a.eval ⟨dst, .call ⟨.builtin .append,args,tys⟩,ty,pos,after,guard⟩).run P w= .ok (.value z) w':=(by simp only[execOp,resolve,Sem.run_bind,Sem.run_pure,Result.andThen,invoke,ea];simp only[builtin,Sem.run_bind,g1,Result.andThen,Sem.run_pure]);rw[this];exact hk z I' w' g2 g3 trivial
  | store sty x y=>
    have go:∀(id off:Nat) (a:AV) (av:AV),ev t x=some av->(∀I z,VR I av z->∃b s tt,I id=some (b,s,tt)/\z= .pointer (some ⟨b,s+off,none⟩))->ev t y=some a->(Wz P h sty id off a λh'=>K j8 h' nx none)->∃v h' nx' g,y7 gl P t h nx ⟨dst, .store sty x y,ty,pos,after,guard⟩ g v h' nx'/\K v h' nx' g:=λid off a av hx hav hy e=>by obtain⟨h',e1,e2⟩:=qif e;refine⟨j8,h',nx,none,⟨Nat.le_refl _,λF I n ac w st fr K' Q hk=> ?_⟩,e1⟩;have h1:=qj st.tr hx;generalize hxv:ac.eval x=xv at h1;obtain⟨b,s,tt,hI,rfl⟩:=hav I xv h1;obtain⟨w',g1,g2⟩:=e2 F I w nx _ b s tt st.sim (qj st.tr hy) hI;unfold Oper.wp;have:(execOp ac.eval ⟨dst, .store sty x y,ty,pos,after,guard⟩).run P w= .ok .skip w':=(by simp[execOp,hxv,Instr.storeAt,Instr.sureAddr,g1,Result.andThen]);rw[this];exact hk undef I w' (wZ I) g2 trivial
    simp only[Gt]at e;split at e
    · rename_i id off hx;split at e;case h_2=>exact e.elim
      rename_i a hy;exact go id off a _ hx (λI z hz=>by cases hz with|sptr hI=>exact⟨_,_,_,hI,rfl⟩) hy e
    · rename_i id off hx;split at e;case h_2=>exact e.elim
      rename_i a hy;exact go id off a _ hx (λI z hz=>by cases hz with|ptr hI=>exact⟨_,_,_,hI,rfl⟩) hy e
    · exact e.elim
  |_=>exact e.elim
def q6y(z:List Value):Nat->List Value
 |0=>[]
 |n+1=>z++q6y z n
def Fq(z:List Value):∀n,q6y z n=jx z n
 |0=>rfl
 |n+1=>by rw[q6y,jx,Fq z n]
def ry(z:List Value):∀n,(q6y z n).length=n*z.length
 |0=>by simp[q6y]
 |n+1=>by rw[q6y,List.length_append,ry z n,Nat.succ_mul];omega
def jC(s:IV):List Value:=(Conv.runesFrom s s.size 0 #[]).toList
def Yp (P:IW):Yk:=λt nx o K=>match o.op with
  | .convert s d x=>match P.underlying s,P.underlying d with
    | some .string,some (.slice e)=>match P.underlying e with
      | some (.int .u8)=>match ev t x with
        | some a=>match gs a with
          |some r=>K (.msl nx r.size 1) (.row e 0 (q18 r))
          |none=>False
        |none=>False
      | some (.int .i32)=>match ev t x with
        | some a=>match gs a with
          |some r=>Ob (r.size<1000000000)/\K (.msl nx (jC r).length 1) (.row e 0 (jC r))
          |none=>False
        |none=>False
      |_=>False
    |_,_=>False
  | .makeSlice ty x y=>match P.underlying ty with
    | some (.slice e)=>match P.info? e with
      | some i => match ev t x with
        | some a=>match ev t y with
          | some b=>match gi a with
            | some (_,n)=>match gi b with
              | some (_,c)=>match uY P e with
                | some z=>match jH z with
                  |some zs=>tB (Nat.beq z.length i.size&&Nat.ble 1 i.size) (Ob (0<=n/\n<=c/\(i.bytes:Int)*c<=140737488355328/\c<140737488355328)/\K (.msl nx n.toNat i.size) (.row e 0 (q6y zs n.toNat)))
                  |none=>False
                |none=>False
              |none=>False
            |none=>False
          |none=>False
        |none=>False
      |none=>False
    |_=>False
  |_=>False
def wrap64(x:Int) (h1: -9223372036854775808<=x) (h2:x<=9223372036854775807):IntKind.i64.wrap x=x:=by unfold IntKind.wrap;simp[IntKind.bits,IntKind.signed];omega
def rz(z:List Value) (m:Nat):∀n,jx z (n+m)=jx z n++jx z m
 |0=>by simp[jx]
 |n+1=>by rw[Nat.add_right_comm,jx,jx,rz z m n,List.append_assoc]
def sI(P:IW):Sz P (Yp P):=by
  intro t nx o K e;obtain⟨dst,op,ty,pos,after,guard⟩:=o;cases op with
  | convert s d x=>
    simp only[Yp]at e;split at e;case h_2=>exact e.elim
    rename_i el hs hd;split at e;case h_3=>exact e.elim
    case h_2=>
      rename_i he;split at e;case h_2=>exact e.elim
      rename_i a ha;split at e;case h_2=>exact e.elim
      rename_i r hr;obtain⟨hob,e⟩:=e;have hob:r.size<1000000000:=hob;refine⟨_,_,λI ac ht w=> ?_,e⟩;have hx:=xZ hr (qj ht ha);have hn:(Conv.runesFrom r r.size 0 #[]).size=(jC r).length:=(by simp[jC]);have hbd:=size_runesFrom r r.size 0 #[];have hrun:=run_runes_of_string (P:=P) w s d el r hs hd he (by simp at hbd;omega);rw[hn]at hrun;have hge:=grownCap_ge w (jC r).length 0 el;have hc:Conv.runesFrom r r.size 0 #[]++Array.replicate (grownCap w (jC r).length 0 el- (jC r).length) (Value.int .i32 0)=⟨[]++(jC r++List.replicate (grownCap w (jC r).length 0 el- (jC r).length) (Value.int .i32 0))⟩:=(by apply Array.toList_inj.1;simp[jC]);have hsz:(Conv.runesFrom r r.size 0 #[]++Array.replicate (grownCap w (jC r).length 0 el- (jC r).length) (Value.int .i32 0)).size=grownCap w (jC r).length 0 el:=(by rw[Array.size_append,hn,Array.size_replicate];omega);refine⟨.slice (some ⟨w.heap.size,0,none⟩) (jC r).length (grownCap w (jC r).length 0 el),(.cells (Conv.runesFrom r r.size 0 #[]++Array.replicate (grownCap w (jC r).length 0 el- (jC r).length) (Value.int .i32 0)) el),(0,(Conv.runesFrom r r.size 0 #[]++Array.replicate (grownCap w (jC r).length 0 el- (jC r).length) (Value.int .i32 0)).size),w.drew.alloc (.cells (Conv.runesFrom r r.size 0 #[]++Array.replicate (grownCap w (jC r).length 0 el- (jC r).length) (Value.int .i32 0)) el),by simp[execOp,hx,hrun,Result.andThen],rfl,⟨rfl,rfl,rfl⟩,λI' hl hI=>⟨?_,?_⟩⟩
      · have:=VR.msl (len:=(jC r).length) (esz:=1) hI (by rw[hsz];omega) (by omega);rw[Nat.div_one,hsz]at this;exact this
      · rw[hc];refine .row rfl ?_ (λo _ h2=> ?_)
        · simp
        simp
    rename_i he;split at e;case h_2=>exact e.elim
    rename_i a ha;split at e;case h_2=>exact e.elim
    rename_i r hr;refine⟨_,_,λI ac ht w=> ?_,e⟩;have hx:=xZ hr (qj ht ha);have hrun:=Lib.run_convert_string_bytes (P:=P) w s d el r hs hd he;have hheap:=pJ w el r;have hc:Lib.bytesCells w el r=⟨[]++(q18 r++List.replicate (grownCap w r.size 0 el- r.size) (.int .u8 0))⟩:=(by apply Array.toList_inj.1;simp only[Lib.bytesCells];simp[q18]);have hge:=grownCap_ge w r.size 0 el;have hsz:(Lib.bytesCells w el r).size=grownCap w r.size 0 el:=(by rw[hc];simp[q2t];omega);refine⟨_,_,(0,(Lib.bytesCells w el r).size),_,by simp[execOp,hx,hrun,Result.andThen];rfl,hheap,⟨rfl,rfl,rfl⟩,λI' hl hI=>⟨?_,?_⟩⟩
    · have:=VR.msl (len:=r.size) (esz:=1) hI (by rw[hsz];omega) (by omega);rw[Nat.div_one,hsz]at this;exact this
    · rw[hc];refine .row rfl ?_ (λo _ h2=> ?_)
      · simp
      · simp at h2⊢;omega
  | makeSlice sty x y=>
    simp only[Yp]at e;split at e;case h_2=>exact e.elim
    rename_i el hu;split at e;case h_2=>exact e.elim
    rename_i i hi;split at e;case h_2=>exact e.elim
    rename_i a ha;split at e;case h_2=>exact e.elim
    rename_i b hb;split at e;case h_2=>exact e.elim
    rename_i k n hn;split at e;case h_2=>exact e.elim
    rename_i j c hc;split at e;case h_2=>exact e.elim
    rename_i z hz;split at e;case h_2=>exact e.elim
    rename_i zs hzs;obtain⟨hbb,hob,e2⟩:=qP e;simp only[Bool.and_eq_true]at hbb;have hzl:=Nat.eq_of_beq_eq_true hbb.1;have hpos:=Nat.le_of_ble_eq_true hbb.2;obtain⟨o1,o2,o3,o4⟩:=hob;refine⟨_,_,λI ac ht w=> ?_,e2⟩;obtain⟨zv,h1,h2⟩:=YY hz I;have hzv:zv.cells.toList=zs:=uU hzs h2;have hsz:zv.cells.size=i.size:=(by rw[←Array.length_toList,←h2.len];exact hzl);obtain⟨n',rfl⟩:=Int.eq_ofNat_of_zero_le o1;obtain⟨c',rfl⟩:=Int.eq_ofNat_of_zero_le (Int.le_trans o1 o2);have hnc:n'<=c':=(by omega);have wn:=wrap64 n' (by omega) (by omega);have wc:=wrap64 c' (by omega) (by omega);have hbig:i.bytes*c'<=140737488355328:=by have h3:((i.bytes*c':Nat):Int)<=140737488355328:=(by rw[Int.natCast_mul];exact o3);omega
    have hne:¬c'*i.size=0\/c'=0:=by
      rcases Nat.eq_zero_or_pos c' with h|h
      · exact .inr h
      · exact .inl (Nat.ne_of_gt (Nat.mul_pos h hpos))
    have hti:(typeInfo el).run P w= .ok i w:=(by simp[typeInfo,program,Sem.run,hi,bind,Sem.bind,pure]);have row:(⟨jx zs c'⟩:Array Value)=⟨[]++(q6y zs n'++jx zs (c'- n'))⟩:=(by rw[Fq,List.nil_append,←rz];congr 2;omega);have hlenV:∀m,(jx zs m).length=m*i.size:=λm=>(by rw[←Fq,ry,←hsz,←hzv,Array.length_toList]);have b2:((i.bytes:Int)*(c':Int))<=2 ^ 47:=o3;have t1:((decide ((c':Int)<0))||decide ((i.bytes:Int)*(c':Int)>2 ^ 48))=false:=(by simp only[Bool.or_eq_false_iff,decide_eq_false_iff_not];omega);have t2:¬(c'*i.bytes>roomBytes):=Nat.not_lt.2 (by rw[Nat.mul_comm];exact hbig);have t0:(decide ((c':Int)<0)||decide ((i.bytes:Int)*(c':Int)>2 ^ 48)||decide ((n':Int)<0)||decide ((n':Int)>(c':Int)))=false:=(by rw[t1];simp only[Bool.false_or,Bool.or_eq_false_iff,decide_eq_false_iff_not];exact⟨by omega,by omega⟩);have hrow:∀m:Array Value,(c'*i.size=0/\m= #[]\/¬c'*i.size=0/\m=zv.cells)->((Array.range (c'*i.size)).map (λk=>m[k % m.size]!))=(⟨jx zs c'⟩:Array Value):=λm hm=>by
      rcases hm with⟨g0,rfl⟩|⟨g0,rfl⟩
      · have:c'=0:=by
          rcases hne with h|h
          · exact absurd g0 h
          · exact h
        rw[this];simp[jx]
      · rw[←hsz,EU zv.cells c',hzv]
    have hrun:(Instr.makeSlice sty (.int k n') (.int j c')).run P w= .ok (.slice (some ⟨w.heap.size,0,none⟩) n' c') (w.alloc (.cells ⟨jx zs c'⟩ el)):=by
      simp only[Instr.makeSlice,asInt,asIntOf,Sem.run_bind,run_underlying hu,Sem.run_pure,Result.andThen,hti,wn,wc];rw[t0];simp only[Bool.false_eq_true,if_false,Sem.run_bind,askRoom,Int.toNat_natCast,if_neg t2,Sem.run_pure,Result.andThen,Eng.run_sizeOf hi];by_cases g0:c'*i.size=0
      · simp only[if_pos g0,Sem.run_bind,Sem.run_pure,Result.andThen,hrow _ (.inl ⟨g0,rfl⟩)];simp[newRow,newObj,Sem.run,Result.andThen]
      · simp only[if_neg g0,Sem.run_bind,Sem.run_pure,Result.andThen,h1 w,hrow _ (.inr ⟨g0,rfl⟩)];simp[newRow,newObj,Sem.run,Result.andThen]
    refine⟨_, .cells ⟨jx zs c'⟩ el,(0,c'*i.size),w.alloc (.cells ⟨jx zs c'⟩ el),by simp only[execOp,ve hn (qj ht ha),ve hc (qj ht hb),Sem.run_bind];rw[hrun];rfl,rfl,⟨rfl,rfl,rfl⟩,λI' hl hI=>⟨?_,?_⟩⟩
    · have:=VR.msl (len:=n') (esz:=i.size) hI (Nat.mul_le_mul_right _ hnc) hpos;rw[Nat.mul_div_cancel _ hpos]at this;exact this
    · rw[row];refine .row rfl ?_ (λo _ h2=>by simp);rw[List.length_append,Fq,hlenV,hlenV,←Nat.add_mul];congr 1;omega
  |_=>exact e.elim
end
section
def FL(P:IW):uK:=uc P
def A_(P:IW):x3 P (FL P):=qhx P
end
section
def sJ(a b:IV):(a==b)=decide (a=b):=by rw[Bool.eq_iff_iff,decide_eq_true_iff];obtain⟨x⟩:=a;obtain⟨y⟩:=b;show(x==y)=true↔_;rw[beq_iff_eq,ByteArray.mk.injEq]
section
variable {P:IW} {kt el:TypeId} {i:TypeInfo}
def X_(he:P.underlying el=some (.int .i64)) (hi:P.info? el=some i) (hs:i.size=1) (cs:Array Value) (j:Nat) (v:Value) (h:cs[j]? =some v) (w:World):(part el cs j).run P w= .ok v w:=by simp[part,isAgg,run_underlying he,Result.andThen,h]
def rp(hi:P.info? el=some i) (hs:i.size=1) (w:World):(sizeOf el).run P w= .ok 1 w:=by simp[sizeOf,typeInfo,program,Sem.run,hi,bind,Sem.bind,pure,hs]
def int_eq(he:P.underlying el=some (.int .i64)) (a c:Int) (n:Nat) (w:World):(Op.equalIn (n+1) el (.int .i64 a) (.int .i64 c)).run P w= .ok (decide (a=c)) w:=by simp[Op.equalIn,run_underlying he,Result.andThen];rw[Bool.eq_iff_iff,beq_iff_eq,decide_eq_true_iff]
def qg1(hk:P.underlying kt=some (.array 2 el)) (he:P.underlying el=some (.int .i64)) (hi:P.info? el=some i) (hs:i.size=1) (a b c d:Int) (w:World):(Op.equal kt (.agg ⟨[.int .i64 a, .int .i64 b]⟩) (.agg ⟨[.int .i64 c, .int .i64 d]⟩)).run P w= .ok (decide (a=c)&&decide (b=d)) w:=by
 have e:Op.maxDepth=9998+1+1:=rfl;rw[Op.equal,e,Op.equalIn];have p0:=λ(x y:Int)=>X_ he hi hs ⟨[.int .i64 x, .int .i64 y]⟩ 0 (.int .i64 x) rfl w;have p1:=λ(x y:Int)=>X_ he hi hs ⟨[.int .i64 x, .int .i64 y]⟩ 1 (.int .i64 y) rfl w;have h0:=rp hi hs w;have q:=λ(x y:Int)=>int_eq he x y 9998 w;simp only[Nat.reduceAdd]at q;simp[run_underlying hk,Result.andThen,h0,Std.Legacy.Range.forIn_eq_forIn_range',Std.Legacy.Range.size,List.range'_succ,List.range'_zero,List.forIn_cons,List.forIn_nil,p0,p1,q];by_cases h1:a=c
 ·subst h1;by_cases h2:b=d
  ·subst h2;simp[p0,p1,q,Result.andThen]
  ·simp[h2,p0,p1,q,Result.andThen]
 ·simp[h1,p0,p1,q,Result.andThen]
def q96(hk:P.underlying kt=some (.array 2 el)) (he:P.underlying el=some (.int .i64)) (hi:P.info? el=some i) (hs:i.size=1) (a b:Int) (em:Bool) (w:World):(Instr.checkKey em 10000 kt (.agg ⟨[.int .i64 a, .int .i64 b]⟩)).run P w= .ok () w:=by
 have e:(10000:Nat)=9998+1+1:=rfl;rw[e,Instr.checkKey];have p0:=λ(x y:Int)=>X_ he hi hs ⟨[.int .i64 x, .int .i64 y]⟩ 0 (.int .i64 x) rfl w;have p1:=λ(x y:Int)=>X_ he hi hs ⟨[.int .i64 x, .int .i64 y]⟩ 1 (.int .i64 y) rfl w;have h0:=rp hi hs w;have q:∀x,(Instr.checkKey em (9998+1) el (.int .i64 x)).run P w= .ok () w:=λx=>by rw[Instr.checkKey];simp[run_underlying he,Result.andThen]
 simp only[Nat.reduceAdd]at q;simp[run_underlying hk,Result.andThen,h0,Std.Legacy.Range.forIn_eq_forIn_range',Std.Legacy.Range.size,p0,p1,q,List.range']
end
def kOK:TypeDesc->Value->Prop
 | .string, .string _=>True
 | .int k, .int j _=>k=j
 | .array 2 _, .agg ⟨[.int .i64 _, .int .i64 _]⟩=>True
 |_,_=>False
def ZW(P:IW):TypeDesc->Bool
  | .array _ el=>match P.underlying el with
    | some (.int .i64)=>match P.info? el with
      |some i=>Nat.beq i.size 1
      |none=>false
    |_=>false
  |_=>true
def sg{P:IW} {n:Nat} {el:TypeId} (h:ZW P (.array n el)=true):∃i,P.underlying el=some (.int .i64)/\P.info? el=some i/\i.size=1:=by
 simp only[ZW]at h;split at h;case h_2=>cases h
 rename_i h1;split at h;case h_2=>cases h
 rename_i i h2;exact⟨i,h1,h2,Nat.eq_of_beq_eq_true h⟩
variable {kd:TypeDesc}
def uV{v:Value} (h:kOK kd v):(kd= .string/\∃s,v= .string s)\/(∃k n,kd= .int k/\v= .int k n)\/∃el a b,kd= .array 2 el/\v= .agg ⟨[.int .i64 a, .int .i64 b]⟩:=by
 unfold kOK at h;split at h
 ·exact .inl ⟨rfl,_,rfl⟩
 ·subst h;exact .inr (.inl ⟨_,_,rfl,rfl⟩)
 ·exact .inr (.inr ⟨_,_,_,rfl,rfl⟩)
 ·exact h.elim
def yu:Value->Value->Bool
 | .string a, .string b=>decide (a=b)
 | .int _ a, .int _ b=>decide (a=b)
 | .agg ⟨[.int _ a, .int _ b]⟩, .agg ⟨[.int _ c, .int _ d]⟩=>decide (a=c)&&decide (b=d)
 |_,_=>false
def q1l(k:Value):List MapEntry->Nat->Option (Nat×Value)
  | [],_=>none
  | e::es,i=>match yu k e.key with
    |true=>some (i,e.val)
    |false=>q1l k es (i+1)
def pT{kd:TypeDesc} {k:Value} (hk:kOK kd k) (hn:∀el,kd≠ .array 2 el):∀(es:List MapEntry) (i:Nat),(∀e∈es,kOK kd e.key)->Instr.findNow kd k es i=some (q1l k es i)
  | [],i,_=>rfl
  | e ::es,i,h=>by
    have he:=h e List.mem_cons_self;have ih:=pT hk hn es (i+1) λe m=>h e (List.mem_cons_of_mem _ m);have key:Instr.sameNow kd k e.key=some (yu k e.key):=by
      rcases uV hk with⟨rfl,a,rfl⟩|⟨q,a,rfl,rfl⟩|⟨el,a,b,rfl,rfl⟩
      · rcases uV he with⟨_,b,hb⟩|⟨q',b,hq,_⟩|⟨_,_,_,hq,_⟩
        · rw[hb];simp only[Instr.sameNow,yu,sJ]
        · cases hq
        · cases hq
      · rcases uV he with⟨hq,_⟩|⟨q',b,hq,hb⟩|⟨_,_,_,hq,_⟩
        · cases hq
        · cases hq;rw[hb];simp only[Instr.sameNow,yu,if_true];congr 1
        · cases hq
      · exact absurd rfl (hn el)
    rw[Instr.findNow,key,q1l];cases h:yu k e.key
    · simp only[];exact ih
    · rfl
def pS{P:IW} {kt el:TypeId} {i:TypeInfo} (hu:P.underlying kt=some (.array 2 el)) (h1:P.underlying el=some (.int .i64)) (h2:P.info? el=some i) (h3:i.size=1) {k:Value} (hk:kOK (.array 2 el) k) (w:World):∀(es:List MapEntry) (j:Nat),(∀e∈es,kOK (.array 2 el) e.key)->(Instr.findAsking kt k es j).run P w= .ok (q1l k es j) w
  | [],j,_=>rfl
  | e ::es,j,h=>by
    have he:=h e List.mem_cons_self;have ih:=pS hu h1 h2 h3 hk w es (j+1) λe m=>h e (List.mem_cons_of_mem _ m);rcases uV hk with⟨hq,_⟩|⟨_,_,hq,_⟩|⟨_,a,b,hq,rfl⟩
    · cases hq
    · cases hq
    rcases uV he with⟨hq,_⟩|⟨_,_,hq,_⟩|⟨_,c,d,hq,hb⟩
    · cases hq
    · cases hq
    have hp:=qg1 (w:=w) hu h1 h2 h3 a b c d;rw[q1l,hb];have ks:yu (.agg ⟨[.int .i64 a, .int .i64 b]⟩) (.agg ⟨[.int .i64 c, .int .i64 d]⟩)=(decide (a=c)&&decide (b=d)):=rfl;rw[ks];rw[←hb]at hp;cases hh:(decide (a=c)&&decide (b=d))
    · rw[hh]at hp;simp[Instr.findAsking,hp,Result.andThen,ih]
    · rw[hh]at hp;simp[Instr.findAsking,hp,Result.andThen]
def EN{P:IW} {kt:TypeId} (hu:P.underlying kt=some kd) (ht:ZW P kd=true) {k:Value} (hk:kOK kd k) (b:Bool) (w:World):(Instr.checkKey b 10000 kt k).run P w= .ok () w:=by
 rcases uV hk with⟨rfl,a,rfl⟩|⟨q,a,rfl,rfl⟩|⟨el,x,y,rfl,rfl⟩
 ·rw[show(10000:Nat)=9999+1 from rfl,Instr.checkKey];simp[run_underlying hu,Result.andThen]
 ·rw[show(10000:Nat)=9999+1 from rfl,Instr.checkKey];simp[run_underlying hu,Result.andThen]
 ·obtain⟨i,h1,h2,h3⟩:=sg ht;exact q96 hu h1 h2 h3 x y b w
def ER{P:IW} {kt:TypeId} (hu:P.underlying kt=some kd) (ht:ZW P kd=true) {k:Value} (hk:kOK kd k) {es:List MapEntry} (h:∀e∈es,kOK kd e.key) (w:World):(Instr.findKey kt k es).run P w= .ok (q1l k es 0) w:=by
 by_cases hn:∀el,kd≠ .array 2 el
 ·simp[Instr.findKey,run_underlying hu,Result.andThen,pT hk hn es 0 h]
 ·obtain⟨el,rfl⟩:∃el,kd= .array 2 el:=Classical.byContradiction λhc=>hn λel he=>hc ⟨el,he⟩;obtain⟨i,h1,h2,h3⟩:=sg ht;have:=pS hu h1 h2 h3 hk w es 0 h;cases es with
  |nil=>simp[Instr.findKey,run_underlying hu,Result.andThen,Instr.findNow,q1l]
  |cons e es=>simp[Instr.findKey,run_underlying hu,Result.andThen,Instr.findNow,Instr.sameNow,this]
def Yz:AV->Option Value
  | .agg l=>match jH l with
    |some vs=>some (.agg ⟨vs⟩)
    |none=>none
  |a=>gv a
def Av{I:In} {a:AV} {v u:Value} (h:Yz a=some v) (r:VR I a u):u=v:=by
 unfold Yz at h;split at h
 ·split at h
  ·rename_i hv;cases h;cases r with
   |agg hr=>rw[uU hv hr]
  ·cases h
 ·exact Vf h r
def KW(h:T AO) (id:Nat):Option (List MapEntry×Nat):=match h.get id with
  |some (.mrow es c)=>some (es,c)
  | some (.map es c)=>match Wi es with
    |some r=>some (r,c)
    |none=>none
  |_=>none
variable {h:T AO}
def FE{P:IW} {F:Bool->Nat->Prop} {I:In} {w:World} (hs:Sim F I h w) {id b:Nat} {t:Nat×Nat} {ms:List MapEntry} {c:Nat} (e:KW h id=some (ms,c)) (hi:I id=some (b,t)):
    w.heap[b]? =some (.map ⟨ms⟩ c)/\(getObj b).run P w= .ok (.map ⟨ms⟩ c) w/\∃o,h.get id=some o/\o.rw=true:=by
  have fin:∀{ob},w.heap[b]? =some ob->ob= .map ⟨ms⟩ c->w.heap[b]? =some (.map ⟨ms⟩ c)/\(getObj b).run P w= .ok (.map ⟨ms⟩ c) w:=λhb e=>by subst e;exact⟨hb,by simp[getObj,Sem.run,hb]⟩
  unfold KW at e;split at e
  · rename_i es' c' hg;cases e;obtain⟨ob,hb,ho⟩:=hs.obj _ _ _ _ hg hi;cases ho with
    |mrow=>exact⟨(fin hb rfl).1,(fin hb rfl).2,_,hg,rfl⟩
  · rename_i es' c' hg;split at e;case h_2=>cases e
    rename_i r hr;cases e;obtain⟨ob,hb,ho⟩:=hs.obj _ _ _ _ hg hi;cases ho with
    | @map _ m _ hm=>
      have:=E4 hr hm;subst this;exact⟨(fin hb rfl).1,(fin hb rfl).2,_,hg,rfl⟩
  · cases e
def qim(k:Value) (ms:List MapEntry) (z:Value):Value:=match q1l k ms 0 with
 |some (_,v)=>v
 |none=>z
def qkb(k:Value) (ms:List MapEntry):Bool:=match q1l k ms 0 with
 |some _=>true
 |none=>false
def qd4(k v:Value) (ms:List MapEntry) (c:Nat):List MapEntry:=match q1l k ms 0 with
 |some (i,_)=>ms.modify i λe=>{e with key:=k,val:=v}
 |none=>ms++[⟨k,v,c⟩]
def qd3(k:Value) (ms:List MapEntry) (c:Nat):Nat:=match q1l k ms 0 with
 |some _=>c
 |none=>c+1
def I4(P:IW) (t:TypeId):Option CK:=match P.underlying t with
 |some d=>SJ d
 |none=>none
def Ex (P:IW) (h:T AO) (ty:TypeId) (x k:AV) (ok:Bool) (K:AV->Prop):Prop:=match P.underlying ty with
  | some (.map kt et)=>match P.underlying kt,x,Yz k with
    | some kd, .map id,some kv=>match KW h id with
      | some (ms,c)=>match P.info? et with
        | some i=>match i.zero with
          | some z=>match I4 P et with
            | some ck=>tB (ZW P kd) (Ob (kOK kd kv)/\Ob (∀e∈ms,kOK kd e.key)/\wT [ck] λa v=>match a,v with
              | [a],[v]=>Ob (qim kv ms z=v)/\K (match ok with
                |true=> .tup [a, .sv (.bool (qkb kv ms))]
                |false=>a)
              |_,_=>False)
            |none=>False
          |none=>False
        |none=>False
      |none=>False
    |_,_,_=>False
  |_=>False
variable {ty:TypeId}
def qhj{P:IW} {x k:AV} {ok:Bool} {K:AV->Prop} (e:Ex P h ty x k ok K):∃r,K r/\∀(F:Bool->Nat->Prop) (I:In) (w:World) (u v:Value),Sim F I h w->VR I x u->VR I k v->∃z,(Instr.lookup ty u v ok).run P w= .ok z w/\VR I r z:=by
  unfold Ex at e;split at e;case h_2=>exact e.elim
  rename_i kt et ht;split at e;case h_2=>exact e.elim
  rename_i kd id kv hkd hkv;split at e;case h_2=>exact e.elim
  rename_i ms c hm;split at e;case h_2=>exact e.elim
  rename_i i hi;split at e;case h_2=>exact e.elim
  rename_i z hz;split at e;case h_2=>exact e.elim
  rename_i ck hck;obtain⟨hkt,h1,h2,h3⟩:=qP e;obtain⟨a,v,h4,h5,h6⟩:=uW h3;split at h4;case h_2=>exact h4.elim
  rename_i a v;obtain⟨h7,h8⟩:=h4;have hva:∀I,VR I a v:=λI=>by cases h5 I with|cons r _=>exact r
  refine⟨_,h8,λF I w u v' hs hx hk=> ?_⟩;have hk':=Av hkv hk;subst hk';cases hx with
  | map hI=>
    obtain⟨g1,g2,_⟩:=FE (P:=P) hs hm hI;have hzr:(zeroValue et).run P w= .ok z w:=(by simp[zeroValue,typeInfo,program,Sem.run,hi,bind,Sem.bind,pure,hz]);have hck':=λb=>EN (P:=P) hkd hkt h1 b w;have hf:=ER (P:=P) hkd hkt h1 h2 w;unfold qim at h7;unfold qkb;cases hmf:q1l v' ms 0 with
    | none=>
      rw[hmf]at hf h7;simp only at h7;subst h7;cases ok
      · exact⟨_,by simp[Instr.lookup,run_underlying ht,Result.andThen,g2,hck',hf,hzr],hva I⟩
      · exact⟨_,by simp[Instr.lookup,run_underlying ht,Result.andThen,g2,hck',hf,hzr], .tup (.cons (hva I) (.cons (.sv _) .nil))⟩
    | some q=>
      obtain⟨j,v2⟩:=q;rw[hmf]at hf h7;simp only at h7;subst h7;cases ok
      · exact⟨_,by simp[Instr.lookup,run_underlying ht,Result.andThen,g2,hck',hf],hva I⟩
      · exact⟨_,by simp[Instr.lookup,run_underlying ht,Result.andThen,g2,hck',hf], .tup (.cons (hva I) (.cons (.sv _) .nil))⟩
def Ez (P:IW) (h:T AO) (ty:TypeId) (x k v:AV) (K:T AO->Prop):Prop:=match P.underlying ty with
  | some (.map kt et)=>match P.underlying kt,x,Yz k,gv v with
    | some kd, .map id,some kv,some vv=>match KW h id with
      | some (ms,c)=>tB (ZW P kd) (Ob (kOK kd kv)/\Ob (∀e∈ms,kOK kd e.key)/\match T.put 64 id (some (.mrow (qd4 kv vv ms c) (qd3 kv ms c))) h with
        |some h'=>K h'
        |none=>False)
      |none=>False
    |_,_,_,_=>False
  |_=>False
def pP{a b:Value} (ha:kOK kd a) (hb:kOK kd b) (h:yu a b=true):Instr.sameBits 10000 b a=true:=by
 rcases uV ha with⟨rfl,x,rfl⟩|⟨q,x,rfl,rfl⟩|⟨el,x,y,rfl,rfl⟩
 ·rcases uV hb with⟨_,y,rfl⟩|⟨q',y,hq,_⟩|⟨_,_,_,hq,_⟩
  ·simp only[yu,decide_eq_true_eq]at h;subst h;unfold Instr.sameBits;rw[sJ];simp
  ·cases hq
  ·cases hq
 ·rcases uV hb with⟨hq,_⟩|⟨q',y,hq,rfl⟩|⟨_,_,_,hq,_⟩
  ·cases hq
  ·cases hq;simp only[yu,decide_eq_true_eq]at h;subst h;unfold Instr.sameBits;simp
  ·cases hq
 ·rcases uV hb with⟨hq,_⟩|⟨_,_,hq,_⟩|⟨_,x',y',hq,rfl⟩
  ·cases hq
  ·cases hq
  ·have ks:yu (.agg ⟨[.int .i64 x, .int .i64 y]⟩) (.agg ⟨[.int .i64 x', .int .i64 y']⟩)=(decide (x=x')&&decide (y=y')):=rfl;rw[ks]at h;simp only[Bool.and_eq_true,decide_eq_true_eq]at h;obtain⟨rfl,rfl⟩:=h;rw[show(10000:Nat)=9999+1 from rfl];simp[Instr.sameBits]
def Ag{k:Value}:∀{es:List MapEntry} {i j:Nat} {v:Value},q1l k es i=some (j,v)->i<=j/\∃e,es[j- i]? =some e/\yu k e.key=true
  | [],i,j,v,h=>by cases h
  | e ::es,i,j,v,h=>by
    rw[q1l]at h;cases hs:yu k e.key with
    | true=>
      rw[hs]at h;cases h;exact⟨Nat.le_refl _,e,by simp,hs⟩
    | false=>
      rw[hs]at h;obtain⟨h1,e',h2,h3⟩:=Ag (i:=i+1) h;refine⟨by omega,e',?_,h3⟩;rw[show j- i=(j- (i+1))+1 by omega];exact h2
variable {K:T AO->Prop}
def qho{P:IW} {x k v:AV} (e:Ez P h ty x k v K):∃h',K h'/\∀(F:Bool->Nat->Prop) (I:In) (w:World) (nx:Nat) (u z y:Value),Sim F I h w->VR I x u->VR I k z->VR I v y->∃w',(Instr.mapUpdate ty u z y).run P w= .ok () w'/\Grow F I nx w I nx h' w':=by
  unfold Ez at e;split at e;case h_2=>exact e.elim
  rename_i kt et ht;split at e;case h_2=>exact e.elim
  rename_i kd id kv vv hkd hkv hvv;split at e;case h_2=>exact e.elim
  rename_i ms c hm;obtain⟨hkt,h1,h2,e⟩:=qP e;split at e;case h_2=>exact e.elim
  rename_i h' hp;refine⟨h',e,λF I w nx u z y hs hx hk hv=> ?_⟩;have hk':=Av hkv hk;have hv':=Vf hvv hv;subst hk' hv';cases hx with
  | @map _ b tt hI=>
    obtain⟨g1,g2,ob,g3,g4⟩:=FE (P:=P) hs hm hI;have hck':=λb=>EN (P:=P) hkd hkt h1 b w;have hf:=ER (P:=P) hkd hkt h1 h2 w;have upd:∀(ms':List MapEntry) (c':Nat),T.put 64 id (some (.mrow ms' c')) h=some h'->Grow F I nx w I nx h' (y0 w b (.map ⟨ms'⟩ c')):=λms' c' hp=>
      hs.upd g3 g4 hI hp (EJ g1) .mrow (λc hc=>EF hc) EH EG nx
    unfold qd4 qd3 at hp;cases hmf:q1l z ms 0 with
    | none=>
      rw[hmf]at hf hp;refine⟨_,?_,upd _ _ hp⟩;simp[Instr.mapUpdate,run_underlying ht,Result.andThen,g2,hck',hf,YU g1]
    | some q=>
      obtain⟨j,v2⟩:=q;rw[hmf]at hf hp;obtain⟨_,en,q1,q2⟩:=Ag hmf;rw[Nat.sub_zero]at q1;have hsb:=pP h1 (h2 en (List.mem_of_getElem? q1)) q2;have q1':(⟨ms⟩:Array MapEntry)[j]? =some en:=(by simpa using q1);refine⟨_,?_,upd _ _ hp⟩;simp[Instr.mapUpdate,run_underlying ht,Result.andThen,g2,hck',hf,Instr.keyThatStays,q1,hsb,YU g1]
def tA(k:Value) (ms:List MapEntry) (c:Nat):Nat:=match q1l k ms 0 with
 |some (i,_)=>((ms[i]?).map (·.born)).getD 0
 |none=>c
def qy (P:IW) (h:T AO) (ty:TypeId) (x k:AV) (K:AV->T AO->Prop):Prop:=match P.underlying ty with
  | some (.map kt et)=>match P.underlying kt,x,Yz k with
    | some kd, .map id,some kv=>match KW h id with
      | some (ms,c)=>match P.info? et with
        | some i=>match i.zero with
          | some z=>match I4 P et with
            | some ck=>tB (ZW P kd) (Ob (kOK kd kv)/\Ob (∀e∈ms,kOK kd e.key)/\wT [ck] λa v=>match a,v with
              | [a],[v]=>Ob (qim kv ms z=v)/\match T.put 64 id (some (.mrow (qd4 kv v ms c) (qd3 kv ms c))) h with
                |some h'=>K (.tup [a, .sv (.int .i64 (tA kv ms c))]) h'
                |none=>False
              |_,_=>False)
            |none=>False
          |none=>False
        |none=>False
      |none=>False
    |_,_,_=>False
  |_=>False
def rl{k:Value}:∀{es:List MapEntry} {i j:Nat} {v:Value},q1l k es i=some (j,v)->i<=j/\∃e,es[j- i]? =some e/\e.val=v
  | [],i,j,v,h=>by cases h
  | e ::es,i,j,v,h=>by
    rw[q1l]at h;cases hs:yu k e.key with
    | true=>
      rw[hs]at h;cases h;exact⟨Nat.le_refl _,e,by simp,rfl⟩
    | false=>
      rw[hs]at h;obtain⟨h1,e',h2,h3⟩:=rl (i:=i+1) h;refine⟨by omega,e',?_,h3⟩;rw[show j- i=(j- (i+1))+1 by omega];exact h2
def pN{k v:Value}:∀{ms:List MapEntry} {j:Nat} {e:MapEntry},ms[j]? =some e->e.val=v->ms.modify j (λe=>{e with key:=k,val:=v})=ms.modify j λe=>{e with key:=k}
  | [],_,_,h,_=>by simp at h
  | a::ms,0,e,h,hv=>by simp only[List.getElem?_cons_zero,Option.some.injEq]at h;subst h;subst hv;rfl
  | a::ms,j+1,e,h,hv=>by simp only[List.getElem?_cons_succ]at h;simp only[List.modify_succ_cons];rw[pN h hv]
def qhm{P:IW} {x k:AV} {K:AV->T AO->Prop} (e:qy P h ty x k K):∃r h',K r h'/\∀(F:Bool->Nat->Prop) (I:In) (w:World) (nx:Nat) (u z:Value),Sim F I h w->VR I x u->VR I k z->∃y w',(Instr.mapEntry ty u z).run P w= .ok y w'/\VR I r y/\Grow F I nx w I nx h' w':=by
  unfold qy at e;split at e;case h_2=>exact e.elim
  rename_i kt et ht;split at e;case h_2=>exact e.elim
  rename_i kd id kv hkd hkv;split at e;case h_2=>exact e.elim
  rename_i ms c hm;split at e;case h_2=>exact e.elim
  rename_i i hi;split at e;case h_2=>exact e.elim
  rename_i z hz;split at e;case h_2=>exact e.elim
  rename_i ck hck;obtain⟨hkt,h1,h2,h3⟩:=qP e;obtain⟨a,v,h4,h5,h6⟩:=uW h3;split at h4;case h_2=>exact h4.elim
  rename_i a v;obtain⟨h7,h8⟩:=h4;have hva:∀I,VR I a v:=λI=>by cases h5 I with|cons r _=>exact r
  split at h8;case h_2=>exact h8.elim
  rename_i h' hp;refine⟨_,h',h8,λF I w nx u z' hs hx hk=> ?_⟩;have hk':=Av hkv hk;subst hk';cases hx with
  | @map _ b tt hI=>
    obtain⟨g1,g2,ob,g3,g4⟩:=FE (P:=P) hs hm hI;have hzr:(zeroValue et).run P w= .ok z w:=(by simp[zeroValue,typeInfo,program,Sem.run,hi,bind,Sem.bind,pure,hz]);have hck':=λb=>EN (P:=P) hkd hkt h1 b w;have hf:=ER (P:=P) hkd hkt h1 h2 w;have upd:∀(ms':List MapEntry) (c':Nat),T.put 64 id (some (.mrow ms' c')) h=some h'->Grow F I nx w I nx h' (y0 w b (.map ⟨ms'⟩ c')):=λms' c' hp=>
      hs.upd g3 g4 hI hp (EJ g1) .mrow (λc hc=>EF hc) EH EG nx
    unfold qim at h7;unfold qd4 qd3 at hp;unfold tA;cases hmf:q1l z' ms 0 with
    | none=>
      rw[hmf]at hf hp h7;simp only at h7;subst h7;refine⟨_,_,?_, .tup (.cons (hva I) (.cons (.sv _) .nil)),upd _ _ hp⟩;simp[Instr.mapEntry,run_underlying ht,Result.andThen,g2,hck',hf,hzr,YU g1,goInt]
    | some q=>
      obtain⟨j,v2⟩:=q;rw[hmf]at hf hp h7;simp only at h7;subst h7;obtain⟨_,en,q1,q2⟩:=Ag hmf;obtain⟨_,en',q1',q3⟩:=rl hmf;rw[Nat.sub_zero]at q1 q1';simp only at hp;rw[pN q1' q3]at hp;have hsb:=pP h1 (h2 en (List.mem_of_getElem? q1)) q2;have q1a:(⟨ms⟩:Array MapEntry)[j]? =some en:=(by simpa using q1);refine⟨_,_,?_, .tup (.cons (hva I) (.cons (.sv _) .nil)),upd _ _ hp⟩;simp[Instr.mapEntry,run_underlying ht,Result.andThen,g2,hck',hf,Instr.keyThatStays,q1,hsb,YU g1,goInt]
def tO(n:Int) (v:Value) (ms:List MapEntry):List MapEntry:=match ms.findIdx? (λe=>(e.born:Int)==n)with
 |some i=>ms.modify i λe=>{e with val:=v}
 |none=>ms
def qfo(n:Int) (ms:List MapEntry):Prop:=∃e∈ms,(e.born:Int)=n
def EA(h:T AO) (x s v:AV) (K:T AO->Prop):Prop:=match x,gv s,gv v with
  | .map id,some (.int _ n),some vv=>match KW h id with
    | some (ms,c)=>Ob (qfo n ms)/\match T.put 64 id (some (.mrow (tO n vv ms) c)) h with
      |some h'=>K h'
      |none=>False
    |none=>False
  |_,_,_=>False
def qhp{P:IW} {x s v:AV} (e:EA h x s v K):∃h',K h'/\∀(F:Bool->Nat->Prop) (I:In) (w:World) (nx:Nat) (ty:TypeId) (u z y:Value),Sim F I h w->VR I x u->VR I s z->VR I v y->∃w',(Instr.entryStore ty u z y).run P w= .ok () w'/\Grow F I nx w I nx h' w':=by
  unfold EA at e;split at e;case h_2=>exact e.elim
  rename_i id q n vv hs' hv';split at e;case h_2=>exact e.elim
  rename_i ms c hm;obtain⟨h1,e⟩:=e;split at e;case h_2=>exact e.elim
  rename_i h' hp;refine⟨h',e,λF I w nx ty u z y hs hx hk hv=> ?_⟩;have hk':=Vf hs' hk;have hv'':=Vf hv' hv;subst hk' hv'';cases hx with
  | @map _ b tt hI=>
    obtain⟨g1,g2,ob,g3,g4⟩:=FE (P:=P) hs hm hI;have upd:∀(ms':List MapEntry) (c':Nat),T.put 64 id (some (.mrow ms' c')) h=some h'->Grow F I nx w I nx h' (y0 w b (.map ⟨ms'⟩ c')):=λms' c' hp=>
      hs.upd g3 g4 hI hp (EJ g1) .mrow (λc hc=>EF hc) EH EG nx
    unfold tO at hp;cases hf:ms.findIdx? (λe=>(e.born:Int)==n)with
    | none=>
      obtain⟨e0,he0,hb0⟩:=h1;rw[List.findIdx?_eq_none_iff]at hf;have:=hf e0 he0;simp[hb0]at this
    | some j=>
      rw[hf]at hp;refine⟨_,?_,upd _ _ hp⟩;simp[Instr.entryStore,Result.andThen,g2,asInt,asIntOf,hf,YU g1]
def Qa(P:IW):jl:=λgl t h o K=>match o.op with
  | .lookup ty x k ok=>match ev t x,ev t k with
    |some a,some b=>Ex P h ty a b ok K
    |_,_=>False
  |_=>Gq P gl t h o K
def Y_(P:IW):ka P (Qa P):=by
  intro gl t h o K e;obtain⟨dst,op,ty,pos,after,guard⟩:=o;cases op with
  | lookup lt x k ok=>
    simp only[Qa]at e;split at e;case h_2=>exact e.elim
    rename_i a b ha hb;obtain⟨r,h1,h2⟩:=qhj e;refine⟨r,λF I ac w st hs _=> ?_,h1⟩;obtain⟨z,g1,g2⟩:=h2 F I w _ _ hs (qj st ha) (qj st hb);exact⟨z,by simp[execOp,g1,Result.andThen],g2⟩
  |_=>exact qhz P _ _ _ _ _ e
def Q8(P:IW):QK:=λgl t h nx o K=>match o.op with
  | .mapUpdate ty m k x=>match ev t m,ev t k,ev t x with
    |some a,some b,some c=>Ez P h ty a b c λh'=>K j8 h' nx none
    |_,_,_=>False
  | .mapEntry ty m k=>match ev t m,ev t k with
    |some a,some b=>qy P h ty a b λr h'=>K r h' nx none
    |_,_=>False
  | .entryStore ty m s x=>match ev t m,ev t s,ev t x with
    |some a,some b,some c=>EA h a b c λh'=>K j8 h' nx none
    |_,_,_=>False
  |_=>Gt P gl t h nx o K
def FI(P:IW):Vp P (Q8 P):=by
  intro gl t h nx o K e;obtain⟨dst,op,ty,pos,after,guard⟩:=o;cases op with
  | mapUpdate mt m k x=>
    simp only[Q8]at e;split at e;case h_2=>exact e.elim
    rename_i a b c ha hb hc;obtain⟨h',e1,e2⟩:=qho e;refine⟨j8,h',nx,none,⟨Nat.le_refl _,λF I n ac w st fr K' Q hk=> ?_⟩,e1⟩;obtain⟨w',g1,g2⟩:=e2 F I w nx _ _ _ st.sim (qj st.tr ha) (qj st.tr hb) (qj st.tr hc);unfold Oper.wp;have:(execOp ac.eval ⟨dst, .mapUpdate mt m k x,ty,pos,after,guard⟩).run P w= .ok .skip w':=(by simp[execOp,g1,Result.andThen]);rw[this];exact hk undef I w' (wZ I) g2 trivial
  | mapEntry mt m k=>
    simp only[Q8]at e;split at e;case h_2=>exact e.elim
    rename_i a b ha hb;obtain⟨r,h',e1,e2⟩:=qhm e;refine⟨r,h',nx,none,⟨Nat.le_refl _,λF I n ac w st fr K' Q hk=> ?_⟩,e1⟩;obtain⟨y,w',g1,g2,g3⟩:=e2 F I w nx _ _ st.sim (qj st.tr ha) (qj st.tr hb);unfold Oper.wp;have:(execOp ac.eval ⟨dst, .mapEntry mt m k,ty,pos,after,guard⟩).run P w= .ok (.value y) w':=(by simp[execOp,g1,Result.andThen]);rw[this];exact hk y I w' g2 g3 trivial
  | entryStore mt m s x=>
    simp only[Q8]at e;split at e;case h_2=>exact e.elim
    rename_i a b c ha hb hc;obtain⟨h',e1,e2⟩:=qhp (P:=P) e;refine⟨j8,h',nx,none,⟨Nat.le_refl _,λF I n ac w st fr K' Q hk=> ?_⟩,e1⟩;obtain⟨w',g1,g2⟩:=e2 F I w nx mt _ _ _ st.sim (qj st.tr ha) (qj st.tr hb) (qj st.tr hc);unfold Oper.wp;have:(execOp ac.eval ⟨dst, .entryStore mt m s x,ty,pos,after,guard⟩).run P w= .ok .skip w':=(by simp[execOp,g1,Result.andThen]);rw[this];exact hk undef I w' (wZ I) g2 trivial
  |_=>exact qi4 P _ _ _ _ _ _ e
def Ge:Value->Bool
 | .nilIface=>true
 |_=>false
def FM (P:IW):uK:=λt o K=>match o.op with
  | .binOp op xt x y yt=>match ev t x with
    | some (.sv v)=>match ev t y with
      | some .nili=>match vX y with
        | true=>match P.underlying xt with
          | some (.interface _)=>Ob (v= .nilIface\/∃u z,v= .iface u z)/\match op with
            | .eql=>K (.sv (.bool (Ge v)))
            | .neq=>K (.sv (.bool (!Ge v)))
            |_=>False
          |_=>False
        |false=>False
      |_=>FL P t o K
    |_=>FL P t o K
  |_=>FL P t o K
def tb(P:IW):x3 P (FM P):=by
 intro t o K e;obtain⟨dst,op,ty,pos,after,guard⟩:=o;unfold FM at e;split at e;case h_2=>exact A_ P _ _ _ e
 rename_i op xt x y yt ho;simp only at ho;subst ho;split at e;case h_2=>exact A_ P _ _ _ e
 rename_i v hx;split at e;case h_2=>exact A_ P _ _ _ e
 rename_i hy;split at e;case h_2=>exact e.elim
 rename_i hc;split at e;case h_2=>exact e.elim
 rename_i ms hd;obtain⟨h1,e⟩:=e;have key:∀b:Bool,(v= .nilIface->xY P op xt y .nili .nili=some (.bool b))->(∀u z,v= .iface u z->xY P op xt y (.ifc u (.sv z)) .nili=some (.bool b))->QP P t ⟨dst, .binOp op xt x y yt,ty,pos,after,guard⟩ (.sv (.bool b)):=λb k1 k2 I ac ht=>by
  have r1:=qj ht hx;have r2:=qj ht hy;generalize hu1:ac.eval x=u1 at r1;generalize hu2:ac.eval y=u2 at r2;cases r1;have g:ze P (do eqGuard op xt x y v u2;binOp op xt v u2) I (.bool b):=by
   rcases h1 with h1|⟨u,z,h1⟩
   ·subst h1;exact E9 (k1 rfl) .nili r2
   ·subst h1;exact E9 (k2 u z rfl) (.ifc (.sv z)) r2
  obtain⟨z,g1,g2⟩:=g;cases g2;refine⟨_,λw=> ?_, .sv _⟩;simp only[execOp,Sem.run_bind,hu1,hu2];have:=g1 w;simp only[Sem.run_bind]at this;rw[this];rfl
 split at e
 ·refine⟨_,key (Ge v) (λh=> ?_) (λu z h=> ?_),e⟩
  ·subst h;simp only[xY,hc,hd];rfl
  ·subst h;simp only[xY,hd];rfl
 ·refine⟨_,key (!Ge v) (λh=> ?_) (λu z h=> ?_),e⟩
  ·subst h;simp only[xY,hc,hd];rfl
  ·subst h;simp only[xY,hd];rfl
 ·exact e.elim
end
section
def M1(P:IW) (hx:jv):jv:=hx
variable {hx:jv}
def sU{P:IW} (h0:j9 P hx):j9 P (M1 P hx):=h0
def M3(P:IW) (hx:jv):jv:=hx
def sV{P:IW} (h0:j9 P hx):j9 P (M3 P hx):=h0
def I7(P:IW) (hx:jv):jv:=hx
def qhg{P:IW} (h0:j9 P hx):j9 P (I7 P hx):=h0
end
section
def tN(h:T AO) (id:Nat):Bool:=match h.get id with
 |some (.cells e fz g l)=>true
 |_=>false
def Gp (P:IW):jl:=λgl t h o K=>match o.op with
  | .load ty x=>match ev t x with
    | some (.sptr id off)=>match tN h id with
      | true=>match Wf P h ty id off with
        |some a=>K a
        |none=>False
      |false=>Qa P gl t h o K
    |_=>Qa P gl t h o K
  |_=>Qa P gl t h o K
def tc(P:IW):ka P (Gp P):=by
  intro gl t h o K e;obtain⟨dst,op,ty,pos,after,guard⟩:=o;cases op with
  | load lt x=>
    simp only[Gp]at e;split at e;case h_2=>exact Y_ P _ _ _ _ _ e
    rename_i id off hx;split at e;case h_2=>exact Y_ P _ _ _ _ _ e
    split at e;case h_2=>exact e.elim
    rename_i a ha;refine⟨a,λF I ac w ht hs hp=> ?_,e⟩;have hv:=qj ht hx;generalize hxv:ac.eval x=xv at hv;cases hv with
    | sptr hI=>
      obtain⟨z,g1,g2⟩:=E_ (P:=P) hs ha hI;exact⟨z,by simp[execOp,hxv,Instr.loadAt,Instr.sureAddr,g1,Result.andThen],g2⟩
  |_=>exact Y_ P _ _ _ _ _ e
def S7 (P:IW):QK:=λgl t h nx o K=>match o.op with
  | .store ty x y=>match ev t x with
    | some (.sptr id off)=>match tN h id with
      | true=>match ev t y with
        | some a=>match Fy P h ty id off a with
          |some h'=>K j8 h' nx none
          |none=>False
        |none=>False
      |false=>Q8 P gl t h nx o K
    |_=>Q8 P gl t h nx o K
  |_=>Q8 P gl t h nx o K
def qi3(P:IW):Vp P (S7 P):=by
  intro gl t h nx o K e;obtain⟨dst,op,ty,pos,after,guard⟩:=o;cases op with
  | store sty x y=>
    simp only[S7]at e;split at e;case h_2=>exact FI P _ _ _ _ _ _ e
    rename_i id off hx;split at e;case h_2=>exact FI P _ _ _ _ _ _ e
    split at e;case h_2=>exact e.elim
    rename_i a hy;split at e;case h_2=>exact e.elim
    rename_i h' hp;refine⟨j8,h',nx,none,⟨Nat.le_refl _,λF I n ac w st fr K' Q hk=> ?_⟩,e⟩;have h1:=qj st.tr hx;generalize hxv:ac.eval x=xv at h1;cases h1 with
    | sptr hI=>
      obtain⟨w',g1,g2⟩:=p7 (P:=P) st.sim hp hI (qj st.tr hy) nx;unfold Oper.wp;have:(execOp ac.eval ⟨dst, .store sty x y,ty,pos,after,guard⟩).run P w= .ok .skip w':=(by simp[execOp,hxv,Instr.storeAt,Instr.sureAddr,g1,Result.andThen]);rw[this];exact hk undef I w' (wZ I) g2 trivial
  |_=>exact FI P _ _ _ _ _ _ e
end
section
def MY(P:IW) (calls:Nat->Option Ct):jF:=Xf P calls (FM P) (Qa P) (Q8 P) (Yp P)
variable {calls:Nat->Option Ct}
def sS{P:IW} (hc:∀g C,calls g=some C->q4p P g C):vJ P (MY P calls):=sR hc (tb P) (Y_ P) (FI P) (sI P)
def sQ{P:IW}:ka P (QN P (Qa P)):=AW (Y_ P)
abbrev noA:Option Addr:=none
structure WayF where
 ann:Nat->T AV->T AO->Option LT:=λ_ _ _=>none
 cut:Nat->T AV->T AO->Option LT:=λ_ _ _=>none
 pub:Nat->Nat->List Nat:=λ_ _=>[]
 pubE:List Nat:=[]
 unr:Nat:=0
 spl:Nat->Option Nat:=λ_=>none
 flo:Nat->Option (Nat×List Nat):=λ_=>none
 flu:Nat->List (Nat×List Nat):=λ_=>[]
def tT(P:IW) (calls:Nat->Option Ct) (n m:Nat) (W:WayF):VE:={hs:=MY P calls,hr:=QN P (Qa P),n:=n,nx0:=m,ann:=W.ann,cut:=W.cut,pub:=W.pub,pubE:=W.pubE,unr:=W.unr,spl:=W.spl,flo:=W.flo,flu:=W.flu}
def y4(fn:Func):Code:=match fn.body with
 |some c=>c
 |none=> .skip
def qk3(P:IW) (calls:Nat->Option Ct) (fn:Func) (C:Ct) (W:C.σ->WayF) (s:C.σ):Prop:=Ga .e P (tT P calls fn.ntmps C.m (W s)) 300 fn (y4 fn) C s
def q25(P:IW) (f:Nat) (fn:Func):Bool:=match fn.body with
 |some _=> !(fn.name== "runtime.NumGoroutine")
 |none=>false
def qk6{P:IW} (hm:P.follows .mixedOrders=true) {calls:Nat->Option Ct} (hc:∀g C,calls g=some C->q4p P g C) {f:Nat} {fn:Func} {C:Ct} {W:C.σ->WayF} (hfn:P.funcs[f]? =some fn) (hb:q25 P f fn=true) (h1:1<=C.m) (hle:C.m<=C.m') (hn:∀s,Nat.ble (C.args s).length fn.ntmps=true) (hv:∀s,qk3 P calls fn C W s):q4p P f C:=by
  unfold q25 at hb;cases hbody:fn.body with
  |none=>rw[hbody]at hb;cases hb
  | some c=>
    rw[hbody]at hb;have hcode:y4 fn=c:=(by unfold y4;rw[hbody]);refine tu hm (tab:= .e) (fuel:=300) (c:=c) (E:=λs=>tT P calls fn.ntmps C.m (W s)) hfn hbody (by simpa using hb) (λs=>sS hc) (λs=>qhr) (λs=>sQ) (λs=>rfl) h1 (λI n a h=>by rw[T.get_e]at h;cases h) hle (λs=> ?_) (λs=> ?_)
    · have:=Nat.le_of_ble_eq_true (hn s);show fn.ntmps=_;omega
    · have:=hv s;unfold qk3 at this;rw[hcode]at this;exact this
def M4(P:IW) (u:Nat) (hx:jv):jv:=match u with
 |0=>M3 P (M1 P hx)
 |_+1=>I7 P (M3 P (M1 P hx))
variable {u:Nat}
def sW{P:IW} {hx:jv} (h:j9 P hx):j9 P (M4 P u hx):=by
 unfold M4;split
 ·exact sV (sU h)
 ·exact qhg (sV (sU h))
def MZ(P:IW) (u:Nat) (calls:Nat->Option Ct):jF:=match u with
 |0=>MY P calls
 |_+1=>Xf P calls (FM P) (Gp P) (S7 P) (Yp P)
def AZ{P:IW} (hc:∀g C,calls g=some C->q4p P g C):vJ P (MZ P u calls):=by
 unfold MZ;split
 ·exact sS hc
 ·exact sR hc (tb P) (tc P) (qi3 P) (sI P)
def MX(P:IW) (u:Nat):jl:=match u with
 |0=>QN P (Qa P)
 |_+1=>QN P (Gp P)
def AY{P:IW}:ka P (MX P u):=by
 unfold MX;split
 ·exact sQ
 ·exact AW (tc P)
def Ww(P:IW) (calls:Nat->Option Ct) (rel:Nat->Option CtR) (n m:Nat) (W:WayF):VE:={hs:=MZ P W.unr calls,hx:=M4 P W.unr (Xg P rel),hr:=MX P W.unr,n:=n,nx0:=m,ann:=W.ann,cut:=W.cut,pub:=W.pub,pubE:=W.pubE,unr:=W.unr,spl:=W.spl,flo:=W.flo,flu:=W.flu}
def qk5(P:IW) (calls:Nat->Option Ct) (rel:Nat->Option CtR) (fn:Func) (C:Ct) (W:C.σ->WayF) (s:C.σ):Prop:=Ga .e P (Ww P calls rel fn.ntmps C.m (W s)) 300 fn (y4 fn) C s
def qk4(P:IW) (calls:Nat->Option Ct) (rel:Nat->Option CtR) (fn:Func) (C:CtR) (W:C.σ->WayF) (s:C.σ):Prop:=FU .e P (Ww P calls rel fn.ntmps C.m (W s)) 300 fn (y4 fn) C s
def qjc{P:IW} (hm:P.follows .mixedOrders=true) {calls:Nat->Option Ct} (hc:∀g C,calls g=some C->q4p P g C) {rel:Nat->Option CtR} (hrel:∀g C,rel g=some C->q1q P g C) {f:Nat} {fn:Func} {C:Ct} {W:C.σ->WayF} (hfn:P.funcs[f]? =some fn) (hb:q25 P f fn=true) (h1:1<=C.m) (hle:C.m<=C.m') (hn:∀s,Nat.ble (C.args s).length fn.ntmps=true) (hv:∀s,qk5 P calls rel fn C W s):q4p P f C:=by
  unfold q25 at hb;cases hbody:fn.body with
  |none=>rw[hbody]at hb;cases hb
  | some c=>
    rw[hbody]at hb;have hcode:y4 fn=c:=(by unfold y4;rw[hbody]);refine tu hm (tab:= .e) (fuel:=300) (c:=c) (E:=λs=>Ww P calls rel fn.ntmps C.m (W s)) hfn hbody (by simpa using hb) (λs=>AZ hc) (λs=>sW (A6 hrel)) (λs=>AY) (λs=>rfl) h1 (λI n a h=>by rw[T.get_e]at h;cases h) hle (λs=> ?_) (λs=> ?_)
    · have:=Nat.le_of_ble_eq_true (hn s);show fn.ntmps=_;omega
    · have:=hv s;unfold qk5 at this;rw[hcode]at this;exact this
def qjb{P:IW} (hm:P.follows .mixedOrders=true) {calls:Nat->Option Ct} (hc:∀g C,calls g=some C->q4p P g C) {rel:Nat->Option CtR} (hrel:∀g C,rel g=some C->q1q P g C) {f:Nat} {fn:Func} {C:CtR} {W:C.σ->WayF} (hfn:P.funcs[f]? =some fn) (hb:q25 P f fn=true) (h1:1<=C.m) (hle:C.m<=C.m') (hn:∀s,Nat.ble (C.args s).length fn.ntmps=true) (hv:∀s,qk4 P calls rel fn C W s):q1q P f C:=by
  unfold q25 at hb;cases hbody:fn.body with
  |none=>rw[hbody]at hb;cases hb
  | some c=>
    rw[hbody]at hb;have hcode:y4 fn=c:=(by unfold y4;rw[hbody]);refine sP hm (tab:= .e) (fuel:=300) (c:=c) (E:=λs=>Ww P calls rel fn.ntmps C.m (W s)) hfn hbody (by simpa using hb) (λs=>AZ hc) (λs=>sW (A6 hrel)) (λs=>AY) (λs=>rfl) h1 (λI n a h=>by rw[T.get_e]at h;cases h) hle (λs=> ?_) (λs=> ?_)
    · have:=Nat.le_of_ble_eq_true (hn s);show fn.ntmps=_;omega
    · have:=hv s;unfold qk4 at this;rw[hcode]at this;exact this
def Ct.below(C:Ct) (μ:C.σ->Nat) (n:Nat):Ct:={C with pre:=λs=>μ s<n/\C.pre s}
variable {f:Nat}
def Ct.of_below{P:IW} {C:Ct} {μ:C.σ->Nat} (h:∀n,q4p P f (C.below μ n)):q4p P f C:=by obtain⟨h1,h2,h3,_⟩:=h 0;refine⟨h1,h2,h3,λs=> ?_⟩;obtain⟨_,_,_,h4⟩:=h (μ s+1);obtain⟨a,b,g1,g2,g3⟩:=h4 s;exact⟨a,b,g1,g2,λF I w vs hv hs low zf hp=>g3 F I w vs hv hs low zf ⟨Nat.lt_succ_self _,hp⟩⟩
def Ct.below_zero{P:IW} {C:Ct} {μ:C.σ->Nat} (h1:C.m<=C.m') (h2:1<=C.m) (h3:Enters P f) (h4:∀s,(q0p (C.h s) .e).isSome=true/\(q0p (C.h' s) .e).isSome=true):q4p P f (C.below μ 0):=by refine⟨h1,h2,h3,λs=> ?_⟩;obtain⟨a,ha⟩:=Option.isSome_iff_exists.1 (h4 s).1;obtain⟨b,hb⟩:=Option.isSome_iff_exists.1 (h4 s).2;exact⟨a,b,ha,hb,λF I w vs _ _ _ _ hp=>absurd hp.1 (by omega)⟩
def CtR.below(C:CtR) (μ:C.σ->Nat) (n:Nat):CtR:={C with pre:=λs=>μ s<n/\C.pre s}
def CtR.of_below{P:IW} {C:CtR} {μ:C.σ->Nat} (h:∀n,q1q P f (C.below μ n)):q1q P f C:=by obtain⟨h1,h2,h3,_⟩:=h 0;refine⟨h1,h2,h3,λs=> ?_⟩;obtain⟨_,_,_,h4⟩:=h (μ s+1);obtain⟨a,g1,g3⟩:=h4 s;exact⟨a,g1,λF I w vs hv hs low zf hp=>g3 F I w vs hv hs low zf ⟨Nat.lt_succ_self _,hp⟩⟩
def CtR.below_zero{P:IW} {C:CtR} {μ:C.σ->Nat} (h1:C.m<=C.m') (h2:1<=C.m) (h3:Enters P f) (h4:∀s,(q0p (C.h s) .e).isSome=true):q1q P f (C.below μ 0):=by refine⟨h1,h2,h3,λs=> ?_⟩;obtain⟨a,ha⟩:=Option.isSome_iff_exists.1 (h4 s);exact⟨a,ha,λF I w vs _ _ _ _ hp=>absurd hp.1 (by omega)⟩
def qgc:List (Nat×CtR)->Nat->Option CtR
  | [],_=>none
  | (k,C)::l,g=>match Nat.beq k g with
    |true=>some C
    |false=>qgc l g
def qde{P:IW}:∀{l:List (Nat×CtR)},(∀k C,(k,C)∈l->q1q P k C)->∀g C,qgc l g=some C->q1q P g C
  | [],_,g,C,e=>by cases e
  | (k,D)::l,h,g,C,e=>by
    simp only[qgc]at e;split at e
    · rename_i hb;cases e;rw[←Nat.eq_of_beq_eq_true hb];exact h k D List.mem_cons_self
    · exact qde (λk C hm=>h k C (List.mem_cons_of_mem _ hm)) g C e
def qgo{P:IW} {k:Nat} {D:CtR} {l:List (Nat×CtR)} (h1:q1q P k D) (h2:∀k C,(k,C)∈l->q1q P k C):∀k' C,(k',C)∈(k,D)::l->q1q P k' C:=λk' C hm=>by
 cases hm with
 |head=>exact h1
 |tail _ hm=>exact h2 k' C hm
def qjq{P:IW}:∀k C,(k,C)∈([]:List (Nat×CtR))->q1q P k C:=λk C h=>by cases h
end
section
def enters_of{P:IW} {f:Nat} {fn:Func} (hfn:P.funcs[f]? =some fn) (hb:q25 P f fn=true):Enters P f:=λargs w=>by
  unfold q25 at hb;cases hbody:fn.body with
  |none=>rw[hbody]at hb;cases hb
  | some c=>
    rw[hbody]at hb;have hnn:¬fn.name= "runtime.NumGoroutine" :=(by simpa using hb);simp[callFunc,program,Sem.run,bind,Sem.bind,pure,hfn,hnn,hbody]
def qi7{I:In}:∀{l us:List Value},VRs I (l.map .sv) us->us=l
 | [],_,h=>by cases h;rfl
 |v::l,_,h=>by cases h with|cons h1 h2=>cases h1;rw[qi7 h2]
def tv:List AV->Option (List Value)
  | []=>some []
  | a ::l=>match gv a with
    | some v=>match tv l with
      |some r=>some (v::r)
      |none=>none
    |none=>none
def ctS(σ:Type) (args:σ->List Value) (find:List Value->Option σ) (pre:σ->Prop) (mem:σ->PF) (r:σ->AV):Ct where
 σ:=σ
 args:=λs=>(args s).map .sv
 h:=λ_=>[]
 m:=1
 pre:=pre
 mem:=mem
 find:=some λl _=>match tv l with
  |some vs=>find vs
  |none=>none
 r:=r
 h':=λ_=>[]
 m':=1
 g:=λ_=>none
def qfa:List (Nat×Ct)->Nat->Option Ct
  | [],_=>none
  | (k,C)::l,g=>match Nat.beq k g with
    |true=>some C
    |false=>qfa l g
def qcn{P:IW}:∀{l:List (Nat×Ct)},(∀k C,(k,C)∈l->q4p P k C)->∀g C,qfa l g=some C->q4p P g C
  | [],_,g,C,e=>by cases e
  | (k,D)::l,h,g,C,e=>by
    simp only[qfa]at e;split at e
    · rename_i hb;cases e;rw[←Nat.eq_of_beq_eq_true hb];exact h k D List.mem_cons_self
    · exact qcn (λk C hm=>h k C (List.mem_cons_of_mem _ hm)) g C e
def qgp{P:IW} {k:Nat} {D:Ct} {l:List (Nat×Ct)} (h1:q4p P k D) (h2:∀k C,(k,C)∈l->q4p P k C):∀k' C,(k',C)∈(k,D)::l->q4p P k' C:=λk' C hm=>by
 cases hm with
 |head=>exact h1
 |tail _ hm=>exact h2 k' C hm
def qjr{P:IW}:∀k C,(k,C)∈([]:List (Nat×Ct))->q4p P k C:=λk C h=>by cases h
end
section
def qjw{P:IW} {f:Nat} {C:Ct} (h1:Enters P f) (hm:C.m<=C.m') (hm1:1<=C.m) (vs:C.σ->List Value) (res:C.σ->Value) (ha:∀s,C.args s=(vs s).map .sv) (hh:∀s,C.h s=[]) (hh':∀s,C.h' s=[]) (hg:∀s,C.g s=none) (hr:∀s (I:In),VR I (C.r s) (res s))
    (h:∀s w,C.pre s->Calls P f ⟨vs s⟩ w λe w'=>e= .returned (res s)/\Below w.heap.size w w'):q4p P f C:=by
  refine⟨hm,hm1,h1,λs=>⟨.e, .e,by rw[hh];rfl,by rw[hh'];rfl,λF I w us hv hs low zf hp _ hn h0=> ?_⟩⟩;rw[ha]at hv;have e0:us=vs s:=by
    have:∀(x y:List Value),VRs I (x.map AV.sv) y->y=x:=λx=>by
      induction x with
      |nil=>intro y h;cases h;rfl
      | cons a l ih=>
        intro y h;cases h with|cons h t=>cases h;rw[ih _ t]
    exact this _ _ hv
  subst e0;refine(h s w hp).mono λe w' he=> ?_;obtain⟨rfl,hb⟩:=he;have no:∀{id:Nat} {o:AO},(T.e:T AO).get id=some o->False:=λh=>by rw[T.get_e]at h;cases h
  refine⟨res s,I,rfl,hr s I,⟨In.le_refl I,λ_ _ h=> .inl h,⟨λ_ _ _ _ h=>(no h).elim,λ_ _ _ _ _ _ _ h=>(no h).elim,λ_ _ _ _ h=>(no h).elim⟩,λb hb'=>hb.block b (low b hb'),hb.size,⟨hb.os,hb.tape,hb.output⟩⟩,?_⟩;rw[hg];trivial
end
section
def SI (P : IW):jv:=λgl t h nx o=>match o.op with
  | .buildSlice _ _ _=>match wS P t nx o with
    | some (.sl id off m c, .cells e (some fz) false l)=>match Nat.beq id nx&&(Nat.beq off 0&&(Nat.beq m c&&Nat.beq fz 0))with
      | true=>match ua.concs l with
        | some us=>match Nat.beq us.length (m*(us.length / m))with
          | true=>match T.put 64 nx (some (.row e 0 us)) h with
            | some h1=>match h1.get (nx+1)with
              |none=>some λK=>K gl (.ssl nx 0 m (us.length / m) (nx+1)) h1 (nx+2)
              |some _=>none
            |none=>none
          |false=>none
        |none=>none
      |false=>none
    |_=>none
  |_=>none
def qf4{P:IW}:j9 P (SI P):=λgl t h nx o q K hq e=>by
  unfold SI at hq;split at hq;case h_2=>cases hq
  split at hq;case h_2=>cases hq
  rename_i id off m c el fz l hao;split at hq;case h_2=>cases hq
  rename_i hb;split at hq;case h_2=>cases hq
  rename_i us hus;split at hq;case h_2=>cases hq
  rename_i hlen;split at hq;case h_2=>cases hq
  rename_i h1 hp;split at hq;case h_2=>cases hq
  rename_i hfree;cases hq;simp only[Bool.and_eq_true]at hb;obtain⟨b1,b2,b3,b4⟩:=hb;have b1:=Nat.eq_of_beq_eq_true b1;have b2:=Nat.eq_of_beq_eq_true b2;have b3:=Nat.eq_of_beq_eq_true b3;have b4:=Nat.eq_of_beq_eq_true b4;subst b1 b2 b3 b4;have hlen:=Nat.eq_of_beq_eq_true hlen;refine⟨Unit,λ_=> .ssl id 0 m (us.length / m) (id+1),λ_=>h1,id+2,λ_=>{},λ_=>e,by omega,λF I n a w st fr K' Q hk=> ?_⟩;obtain⟨z,obj,tot,w',g1,g2,g3,g4⟩:=sH (P:=P) hao st.tr w;have I0:I id=none:=fr id (Nat.le_refl _) (by omega);have I1:I (id+1)=none:=fr (id+1) (by omega) (by omega);obtain⟨k1,k2⟩:=g4 (ext I id (w.heap.size,tot)) (QY _ I0) (zZ _ _ _);cases k1 with
  | sl hI=>
    rename_i b s t';rw[zZ]at hI;cases hI;have k3:OR (ext I id (w.heap.size,s,t')) (s,t') (.row el 0 us) obj/\us.length=t':=by
      cases k2 with
      | cells r1 r2 r3 r4 r5 r6=>
        have:=YW hus r1;subst this;obtain⟨q1,q2⟩:=r2 rfl;subst q1 q2;rcases r6 with rfl|⟨r6,_⟩
        · exact⟨.row r3 r4 λo _ ho=>r5 0 rfl o (Nat.zero_le _) ho,by simpa using r4⟩
        · cases r6
    have hg:=st.sim.push I0 st.low hp g2 k3.1 g3;obtain⟨y,hy⟩:=Aj (some ⟨w.heap.size,s+0,none⟩,m,m) trivial;have hg2:=Grow.tok (y:=y) hg (Nat.le_succ _) (by rw[ext,if_neg (by omega)];exact I1) hfree;unfold Oper.wp;rw[g1];refine hk () _ _ w' ?_ hg2 trivial;exact .ssl (b:=w.heap.size) (s:=s) (t:=t') (c:=m) (o:=s+0) (by rw[ext,if_neg (by omega)];exact zZ _ _ _) (Nat.le_refl _) (by rw[Nat.zero_add,←k3.2,←hlen];exact Nat.le_refl _) (.inl rfl) (zZ _ _ _) hy
def M0(P:IW) (rel:Nat->Option CtR):jv:=λgl t h nx o=>match Xg P rel gl t h nx o with
 |some q=>some q
 |none=>SI P gl t h nx o
def qhf{P:IW} {rel:Nat->Option CtR} (hc:∀g C,rel g=some C->q1q P g C):j9 P (M0 P rel):=λgl t h nx o q K hq e=>by
 unfold M0 at hq;split at hq
 ·rename_i q' hq';cases hq;exact A6 hc gl t h nx o q K hq' e
 ·exact qf4 gl t h nx o q K hq e
def tS(P:IW) (calls:Nat->Option Ct) (rel:Nat->Option CtR) (n m:Nat) (W:WayF):VE:={Ww P calls rel n m W with hx:=M0 P rel}
def qk2(P:IW) (calls:Nat->Option Ct) (rel:Nat->Option CtR) (fn:Func) (C:CtR) (W:C.σ->WayF) (s:C.σ):Prop:=FU .e P (tS P calls rel fn.ntmps C.m (W s)) 300 fn (y4 fn) C s
def qja{P:IW} (hm:P.follows .mixedOrders=true) {calls:Nat->Option Ct} (hc:∀g C,calls g=some C->q4p P g C) {rel:Nat->Option CtR} (hrel:∀g C,rel g=some C->q1q P g C) {f:Nat} {fn:Func} {C:CtR} {W:C.σ->WayF} (hfn:P.funcs[f]? =some fn) (hb:q25 P f fn=true) (h1:1<=C.m) (hle:C.m<=C.m') (hn:∀s,Nat.ble (C.args s).length fn.ntmps=true) (hv:∀s,qk2 P calls rel fn C W s):q1q P f C:=by
  unfold q25 at hb;cases hbody:fn.body with
  |none=>rw[hbody]at hb;cases hb
  | some c=>
    rw[hbody]at hb;have hcode:y4 fn=c:=(by unfold y4;rw[hbody]);refine sP hm (tab:= .e) (fuel:=300) (c:=c) (E:=λs=>tS P calls rel fn.ntmps C.m (W s)) hfn hbody (by simpa using hb) (λs=>AZ hc) (λs=>qhf hrel) (λs=>AY) (λs=>rfl) h1 (λI n a h=>by rw[T.get_e]at h;cases h) hle (λs=> ?_) (λs=> ?_)
    · have:=Nat.le_of_ble_eq_true (hn s);show fn.ntmps=_;omega
    · have:=hv s;unfold qk2 at this;rw[hcode]at this;exact this
end
end
end Go.Proofs.YtniogjgfomaicaaGreat.Sen
