/-
  The machine with unknown values: questions reckoned out of the code. No condition but what its theorems ask.
-/
import Derived.Test.YtniogjgfomaicaaGreatU5
import Derived.Laws.Strings
import Derived.Laws.Cover4
import Derived.Laws.IdiomStrings
import Derived.Laws.StructEq
import Derived.Maps.RangeRun
namespace Go.Proofs.YtniogjgfomaicaaGreat.Sen
open Go.Proofs.YtniogjgfomaicaaGreat.Eng Go.RowKit
set_option linter.defProp false
set_option linter.unusedVariables false
set_option linter.unusedSimpArgs false
noncomputable section
section
def fnK(A:List Nat) (P:O7) (fn:Func) (C:Ct) (s:C.σ) (u:T AO):AX->KS:=λx gl t h nx=>match x with
  | .ex _=>False
  | _=>wM A gl t h λgl t h=>match uq P t h fn.results.toList with
    |some rs=>GO C.m gl (WG rs) h nx (C.r s) (zU u) C.m' (C.g s)
    |none=>False
def gl0(tab:T AV):GL:=⟨tab,λ_=>True,λ_ _ _ h=>h,true,λ_ _=>trivial⟩
def GC(tab:T AV) (P:O7) (E:VE) (fuel:Nat) (fn:Func) (c:Code) (C:Ct) (s:C.σ):Prop:=match q0m (C.h s) .e with
  | some u=>match Nat.blt (C.args s).length jE with
    | true=>match VM (C.args s) 0 tab with
      | some t0=>match q0m (C.h' s) .e with
        |some A=>Ob (C.pre s)->wK (gl0 tab) (C.mem s) λgl=>vc E P fuel 0 c gl t0 u C.m (fnK E.pubE P fn C s A)
        |none=>False
      |none=>False
    |false=>False
  |none=>False
def qge {P:O7} (hm:P.follows .mixedOrders=true) {tab:T AV} {fuel f:Nat} {fn:Func} {c:Code} {C:Ct} {E:C.σ->VE} (hfn:P.funcs[f]? =some fn) (hc:fn.body=some c) (hname:(fn.name== "runtime.NumGoroutine")=false) (ho:∀s,vq P (E s).hs) (hX:∀s,ye P (E s).hx) (hr:∀s,kD P (E s).hr)
    (h0:∀s,(E s).nx0=C.m) (h1m:1<=C.m) (htab:∀I,Z4 tab I) (hle:C.m<=C.m') (hn:∀s,(E s).n=(C.args s).length+(fn.ntmps- (C.args s).length)) (hv:∀s,GC tab P (E s) fuel fn c C s):q4a P f C:=by
  refine⟨hle,h1m,λargs w=> ?_,λs=> ?_⟩
  · have hnn:¬fn.name= "runtime.NumGoroutine" :=(by simpa using hname);simp[callFunc,program,Sem.run,bind,Sem.bind,pure,hfn,hnn,hc]
  have e:=hv s;unfold GC at e;split at e;case h_2=>exact e.elim
  rename_i hh0 hp0;split at e;case h_2=>exact e.elim
  rename_i hlen;split at e;case h_2=>exact e.elim
  rename_i t0 ht0;split at e;case h_2=>exact e.elim
  rename_i hh1 hp1;refine⟨hh0,hh1,hp0,hp1,λF I w vs hvs hs low zf hpre hmem fr hz0=> ?_⟩;have hlt:(C.args s).length<jE:=by simpa[Nat.blt_eq]using hlen
  refine calls_of_wp hfn hc (qh7 (F0:=F) (I0:=I) (w0:=w) hm (ho s) (hX s) (hr s) (by rw[h0 s];exact fr) fuel 0 c (Jw (e hpre) (p:=q0x F w) trivial hmem) (F:=F) (I:=I) (by rw[GL.withP_tab];exact⟨htab I,hz0⟩) ?_ ?_ _ λx ex a' w' hx hp=> ?_)
  · refine⟨λk b hk=> ?_,?_,rfl,hs,low,by rw[GL.withP_tab];exact⟨htab I,hz0⟩,zf,GL.withP_of trivial hmem⟩
    · have hg:=Su _ _ _ _ ht0 k;rw[hk]at hg;simp only[Nat.not_lt_zero,if_false,Nat.zero_add,Nat.sub_zero]at hg;split at hg
      · rename_i hlt2;obtain⟨v,g1,g2⟩:=hvs.get k b hg.symm;have hkv:k<vs.length:=(by rw[←hvs.len];exact hlt2);have:((⟨vs⟩:Array Value)++Array.replicate (fn.ntmps- (⟨vs⟩:Array Value).size) undef).getD k undef=v:=(by rw[Array.getD_eq_getD_getElem?,Array.getElem?_append_left (by simpa using hkv)];simp[g1]);rw[Zd (by omega),this];exact g2
      · obtain⟨g1,g2⟩:=htab I k b hg.symm;unfold slot;rw[if_neg (by omega)];exact g2
    · rw[Array.size_append,Array.size_replicate,hn s];show vs.length+(fn.ntmps- vs.length)=_;rw[hvs.len]
  · exact⟨λid _=>rfl,by rw[h0 s];exact Nat.le_refl _,fr,λs b h=>h,λb h=> .inl h,λb _=>rfl,Nat.le_refl _, .refl w⟩
  · obtain⟨gl2,t2,h2,nx2,F2,I2,e2,hg2,st2,at2⟩:=hp;have fin:(wM (E s).pubE gl2 t2 h2 λgl t h=>match uq P t h fn.results.toList with
        |some rs=>GO C.m gl (WG rs) h nx2 (C.r s) (zU hh1) C.m' (C.g s)
        |none=>False)->a'.defers=[]/\∃v,(results fn a'.tmps).run P w'= .ok v w'/\∃z I',Ending.returned v= .returned z/\VR I' (C.r s) z/\Grow F I C.m w I' C.m' hh1 w'/\(C.g s).Φ I' (jF F w I' hh1 w'):=λe2=>by
      obtain⟨gl3,t3,h3,F3,htb,e3,st3,at3⟩:=Ze _ e2 st2 at2;split at e3;case h_2=>exact e3.elim
      rename_i rs hrs;have st4:Eng.St tab F3 I2 t3 h3 (E s).n a' w':=⟨st3.tr,st3.size,st3.defers,st3.sim,st3.low,htab I2,st3.zf⟩;obtain⟨v,r1,r2⟩:=sW (P:=P) st4 hrs;obtain⟨I',q1,q2,q3⟩:=qfe e3 st3 (by rw[h0 s]at at3;exact at3) r2 low fr;exact⟨st3.defers,v,r1,v,I',rfl,q1,q2,q3⟩
    cases x with
    |ex i=>exact e2.elim
    | nrm=>
      cases ex<;>simp only[AX.is]at hx;exact fin e2
    | rt=>
      cases ex<;>simp only[AX.is]at hx;exact fin e2
end
section
mutual
def zh(σ:Nat->Nat):AV->AV
 | .tsl k=> .tsl (σ k)
 | .tpt k=> .tpt (σ k)
 | .tmap k=> .tmap (σ k)
 | .ifc t a=> .ifc t (zh σ a)
 | .agg l=> .agg (renL σ l)
 | .tup l=> .tup (renL σ l)
 | .fn f l=> .fn f (renL σ l)
 | .bfn f l m=> .bfn f (renL σ l) (renL σ m)
 | .bool b=> .bool b
 | .int k n=> .int k n
 | .str s=> .str s
 | .nilp=> .nilp
 | .ptr a b=> .ptr (σ a) b
 | .nsl=> .nsl
 | .sl a b c d=> .sl (σ a) b c d
 | .gsl a b c d=> .gsl (σ a) b c d
 | .nmap=> .nmap
 | .map a=> .map (σ a)
 | .nilf=> .nilf
 | .nili=> .nili
 | .ifo=> .ifo
 | .anyi k=> .anyi k
 | .lin k c l=> .anyi k
 | .sv v=> .sv v
 | .ssl a b c d k=> .ssl (σ a) b c d (σ k)
 | .msl a b c=> .msl (σ a) b c
 | .usl a b c d=> .usl (σ a) b c d
 | .sptr a b=> .sptr (σ a) b
def renL(σ:Nat->Nat):List AV->List AV
 | []=>[]
 |a::l=>zh σ a::renL σ l
end
section
variable {I J:In} {σ:Nat->Nat}
mutual
def Ww(hx:∀j x,J j=some x->I (σ j)=some x):∀{a v},VR J a v->VR I (zh σ a) v
 |_,_, .tsl h=>by unfold zh;exact .tsl (hx _ _ h)
 |_,_, .tpt h=>by unfold zh;exact .tpt (hx _ _ h)
 |_,_, .tmap h=>by unfold zh;exact .tmap (hx _ _ h)
 |_,_, .ifc h=>by unfold zh;exact .ifc (Ww hx h)
 |_,_, .agg h=>by unfold zh;exact .agg (renL_ok hx h)
 |_,_, .tup h=>by unfold zh;exact .tup (renL_ok hx h)
 |_,_, .fn h=>by unfold zh;exact .fn (renL_ok hx h)
 |_,_, .bfn u h=>by unfold zh;exact .bfn (renL_ok hx u) (renL_ok hx h)
 |_,_, .bool b=>by unfold zh;exact .bool b
 |_,_, .int k n=>by unfold zh;exact .int k n
 |_,_, .str l=>by unfold zh;exact .str l
 |_,_, .nilp=>by unfold zh;exact .nilp
 |_,_, .ptr h=>by unfold zh;exact .ptr (hx _ _ h)
 |_,_, .nsl=>by unfold zh;exact .nsl
 |_,_, .sl h=>by unfold zh;exact .sl (hx _ _ h)
 |_,_, .gsl h u A C=>by unfold zh;exact .gsl (hx _ _ h) u A C
 |_,_, .nmap=>by unfold zh;exact .nmap
 |_,_, .map h=>by unfold zh;exact .map (hx _ _ h)
 |_,_, .nilf=>by unfold zh;exact .nilf
 |_,_, .nili=>by unfold zh;exact .nili
 |_,_, .ifo=>by unfold zh;exact .ifo
 |_,_, .anyi=>by unfold zh;exact .anyi
 |_,_, .lin h=>by unfold zh;exact .anyi
 |_,_, .sv v=>by unfold zh;exact .sv v
 |_,_, .ssl h u A C G hd=>by unfold zh;exact .ssl (hx _ _ h) u A C (hx _ _ G) hd
 |_,_, .msl h A C=>by unfold zh;exact .msl (hx _ _ h) A C
 |_,_, .usl h u A C=>by unfold zh;exact .usl (hx _ _ h) u A C
 |_,_, .usl0 h=>by unfold zh;exact .usl0 h
 |_,_, .ssl0 h G hd=>by unfold zh;exact .ssl0 h (hx _ _ G) hd
 |_,_, .sptr h=>by unfold zh;exact .sptr (hx _ _ h)
def renL_ok(hx:∀j x,J j=some x->I (σ j)=some x):∀{l vs},VRs J l vs->VRs I (renL σ l) vs
 |_,_, .nil=>by unfold renL;exact .nil
 |_,_, .cons h t=>by unfold renL;exact .cons (Ww hx h) (renL_ok hx t)
end
end
def Zo(σ:Nat->Nat):List (Value×AV×Nat)->List (Value×AV×Nat)
 | []=>[]
 | (k,a,n)::l=>(k,zh σ a,n)::Zo σ l
def yQ(σ:Nat->Nat):AO->AO
 | .cells e fz g l=> .cells e fz g (renL σ l)
 | .map es c=> .map (Zo σ es) c
 | .row e fz vs=> .row e fz vs
 | .mrow es c=> .mrow es c
 | .iter m s l c=> .iter (σ m) s l c
def qaw{I J:In} {σ:Nat->Nat} (hx:∀j x,J j=some x->I (σ j)=some x):∀{l ms},MR J l ms->MR I (Zo σ l) ms
 |_,_, .nil=> .nil
 |_,_, .cons h t=> .cons (Ww hx h) (qaw hx t)
def qax{I J:In} {σ:Nat->Nat} (hx:∀j x,J j=some x->I (σ j)=some x) {t o ob} (h:OR J t o ob):OR I t (yQ σ o) ob:=by
 cases h with
 |cells h G hp A u C=>exact .cells (renL_ok hx h) G hp A u C
 |map h=>exact .map (qaw hx h)
 |row hp A u=>exact .row hp A u
 |mrow=>exact .mrow
 |iter h hp=>exact .iter (hx _ _ h) hp
def qjf(σ:Nat->Nat) (g:GS):GS:=match g with
 |none=>none
 |some d=>some ⟨d.β,d.ks.map σ,d.pre,d.mem⟩
def kj(nx:Nat) (l:List (Nat×Nat)) (j:Nat):Nat:=match j with
  |0=>0
  | j+1=>match assoc (j+1) l with
    |some i=>i
    |none=>nx+(j+1)
def K6(σ:Nat->Nat) (nx m m':Nat) (h:T AO):List (Nat×AO)->Prop->Prop
  | [],K=>K
  | (i,o)::l,K=>tB (o.rw) (match h.get (σ i)with
    |some b=>eO σ m o b (K6 σ nx m m' h l K)
    |none=>tB (Nat.ble nx (σ i)&&Nat.blt (σ i) (nx+m')) (K6 σ nx m m' h l K))
def VA{σ:Nat->Nat} {I:In} (z:I 0=some (0,0,0)) {nx m m':Nat} {h:T AO} (fr:∀i,nx<=i->i<nx+m'->I i=none):∀{l:List (Nat×AO)} {K:Prop},K6 σ nx m m' h l K->(∀i o,(i,o)∈l->o.rw=true/\(I (σ i)=none\/∃b,h.get (σ i)=some b/\(∀t ob,OR I t b ob->OR (qZ m σ I) t o ob)/\b.rw=true))/\K
  | [],K,e=>⟨λk a h=>(by cases h),e⟩
  | (i, o)::l,K,e=>by
    simp only[K6]at e;obtain⟨e0,e⟩:=qU e;split at e
    · rename_i b U;obtain⟨u,C,O,G⟩:=qga (I:=I) z e;obtain⟨H,J⟩:=VA z fr G;exact⟨λN A hm=>by
        cases hm with
        |head=>exact⟨e0, .inr ⟨b,U,u,C e0⟩⟩
        |tail _ hm=>exact H N A hm,J⟩
    · obtain⟨u,G⟩:=qU e;obtain⟨H,J⟩:=VA z fr G;simp only[Bool.and_eq_true]at u;exact⟨λN A hm=>by
        cases hm with
        |head=>exact⟨e0, .inl (fr _ (Nat.le_of_ble_eq_true u.1) (by simpa[Nat.blt_eq]using u.2))⟩
        |tail _ hm=>exact H N A hm,J⟩
def VC(σ:Nat->Nat):List (Nat×AO)->T AO->Option (T AO)
  | [],h=>some h
  | (i,_)::l,h=>match T.put 64 (σ i) none h with
    |some h'=>VC σ l h'
    |none=>none
def Sq{σ:Nat->Nat}:∀{l:List (Nat×AO)} {h h':T AO},VC σ l h=some h'->∀k o,h'.get k=some o->h.get k=some o/\∀i q,(i,q)∈l->σ i≠k
  | [],h,h',e,k,o,A=>by simp[VC]at e;subst e;exact⟨A,λi q hm=>by cases hm⟩
  | (i, q)::l,h,h',e,k,o,A=>by
    simp only[VC]at e;split at e
    · rename_i O hp;obtain⟨u,G⟩:=Sq e k o A;rw[T.get_put _ _ _ _ _ hp]at u;split at u
      · cases u
      · rename_i C;exact⟨u,λJ N hm=>by
          cases hm with
          |head=>exactλH=>C H.symm
          |tail _ hm=>exact G J N hm⟩
    · cases e
def k0(σ:Nat->Nat):List (Nat×AO)->T AO->Option (T AO)
  | [],h=>some h
  | (i,o)::l,h=>match o.rw with
    | true=>match T.put 64 (σ i) (some (yQ σ o)) h with
      |some h'=>k0 σ l h'
      |none=>none
    |false=>none
def SX {σ:Nat->Nat}:∀{l:List (Nat×AO)} {h h':T AO},k0 σ l h=some h'->∀k o,h'.get k=some o->h.get k=some o\/∃i q,(i,q)∈l/\k=σ i/\o=yQ σ q/\q.rw=true
  | [],h,h',e,k,o,A=>by simp[k0]at e;subst e;exact .inl A
  | (i, q)::l,h,h',e,k,o,A=>by
    simp only[k0]at e;split at e
    · rename_i G;split at e
      · rename_i O hp;rcases SX e k o A with u|⟨J,N,u,H⟩
        · rw[T.get_put _ _ _ _ _ hp]at u;split at u
          · rename_i C;cases u;exact .inr ⟨i,q,by simp,C,rfl,G⟩
          · exact .inl u
        · exact .inr ⟨J,N,by simp[u],H⟩
      · cases e
    · cases e
def Wx(nx m:Nat):List (Nat×Nat)->Bool
  | []=>true
  | (i,j)::l=>match Nat.blt i m&&Nat.blt j nx with
    |true=>Wx nx m l
    |false=>false
def SA{nx m:Nat}:∀{l:List (Nat×Nat)},Wx nx m l=true->∀i j,assoc i l=some j->i<m/\j<nx
  | [],_,i,j,h=>by cases h
  | (a, b)::l,h,i,j,e=>by
    simp only[Wx]at h;split at h
    · rename_i u;simp only[Bool.and_eq_true]at u;simp only[assoc]at e;split at e
      · rename_i A;cases e;have:=Nat.eq_of_beq_eq_true A;subst this;exact⟨by simpa[Nat.blt_eq]using u.1,by simpa[Nat.blt_eq]using u.2⟩
      · exact SA h i j e
    · cases h
def Zi(nx:Nat):List (Nat×AO)->Bool
  | []=>true
  | (i,_)::l=>match Nat.blt i nx with
    |true=>Zi nx l
    |false=>false
def Wj{nx:Nat}:∀{l:List (Nat×AO)},Zi nx l=true->∀i o,(i,o)∈l->i<nx
  | [],_,i,o,h=>by cases h
  | (j,q)::l,h,i,o,hm=>by
    simp only[Zi]at h;split at h
    · rename_i u;cases hm with
      |head=>simpa[Nat.blt_eq]using u
      |tail _ hm=>exact Wj h i o hm
    · cases h
def WS (C : Ct) (gl:GL) (args:List AV) (h:T AO) (nx:Nat) (K:KK) (s:C.σ):Prop:=match q0m (C.h s) .e with
  | some G =>match q0m (C.h' s) .e with
    | some A =>match zU G with
      | u => match wJ 0 h u (VK 0 (C.args s) args [])with
        | l =>match Wx nx C.m l&&(JI (kj nx l) u []&&(Zi nx (zU h)&&Zi C.m' (zU A)))with
          | true=>K8 (kj nx l) C.m (C.args s) args (K6 (kj nx l) nx C.m C.m' h u (Ob (C.pre s)/\Qq gl (C.mem s) (match VC (kj nx l) u h with
            | some H=>match k0 (kj nx l) (zU A) H with
              |some J=>K .s (zh (kj nx l) (C.r s)) none J (nx+C.m') (qjf (kj nx l) (C.g s))
              |none=>False
            |none=>False)))
          |false=>False
    |none=>False
  |none=>False
def GQ(C:Ct) (gl:GL) (args:List AV) (h:T AO) (nx:Nat) (K:KK):Prop:=match C.sel with
  | some g=>match g args h with
    |some s=>∃b:s.β,WS C gl args h nx K (s.f b)
    |none=>False
  | none=>match C.find with
    |none=>∃s:C.σ,WS C gl args h nx K s
    | some f=>match f args h with
      |some s=>WS C gl args h nx K s
      |none=>False
def qfl{C:Ct} {gl:GL} {args:List AV} {h:T AO} {nx:Nat} {K:KK} (e:GQ C gl args h nx K):∃s,WS C gl args h nx K s:=by
 unfold GQ at e;split at e
 ·split at e
  ·obtain⟨b,e⟩:=e;exact⟨_,e⟩
  ·exact e.elim
 ·split at e
  ·exact e
  ·split at e
   ·exact⟨_,e⟩
   ·exact e.elim
end
section
def qfm{P:O7} {f:Nat} {C:Ct} (hC:q4a P f C) {gl:GL} {args:List AV} {h:T AO} {nx:Nat} {K:KK} (e:GQ C gl args h nx K) (hnx:1<=nx):
    ∃ r h' nx' g,K .s r none h' nx' g/\nx<=nx'/\∀(F:Bool->Nat->Prop) (I:In) (w:World) (vs:List Value),VRs I args vs->Sim F I h w->(∀b,F true b->b<w.heap.size)->(∀b,F false b->F true b)->gl.pf (q0x F w)->vn I nx nx'->I 0=some (0,0,0)->
      Calls P f ⟨vs⟩ w λe w'=>∃z H,e= .returned z/\VR H r z/\Grow F I nx w H nx' h' w'/\g.Φ H (jF F w H h' w'):=by
  obtain⟨hmm,hm1,_,hC⟩:=hC;obtain⟨s,e⟩:=qfl e;unfold WS at e;obtain⟨h0,h1,hp0,hp1,hC⟩:=hC s;rw[hp0]at e;simp only at e;rw[hp1]at e;simp only at e;generalize wJ 0 h (zU h0) (VK 0 (C.args s) args [])=l at e;split at e;case h_2=>exact e.elim
  rename_i U;simp only[Bool.and_eq_true]at U;obtain⟨hv,hi,hk,hk1⟩:=U;have hsig:∀j,0<j->kj nx l j=(match assoc j l with|some i=>i|none=>nx+j):=λj hj=>by
    cases j with
    |zero=>omega
    |succ j=>rfl
  have hsig0:kj nx l 0=0:=rfl;have hval:=SA hv;generalize hσ:kj nx l=σ at e hi;have sig0:σ 0=0:=by rw[←hσ];rfl
  have sig1:∀j,C.m<=j->σ j=nx+j:=λj hj=>by
    rw[←hσ,hsig j (by omega)];cases ha:assoc j l with
    |none=>rfl
    |some i=>have:=(hval j i ha).1;omega
  have sig2:∀j,σ j<nx\/σ j=nx+j:=λj=>by
    rcases Nat.eq_zero_or_pos j with rfl|hj
    · rw[sig0];exact .inl (by omega)
    rw[←hσ,hsig j hj];cases ha:assoc j l with
    |none=>exact .inr rfl
    |some i=>exact .inl (hval j i ha).2
  have keys:=Wj hk;have keys1:=Wj hk1;obtain⟨_,inj⟩:=Ws hi;have e0:=e;have e1:=VB (I:=λi=>if i=0 then some (0,0,0)else none) rfl e;obtain⟨_,e⟩:=e1;obtain⟨_,e⟩:=VA (I:=λi=>if i=0 then some (0,0,0)else none) rfl (λi h _=>if_neg (by omega)) e;obtain⟨hpre,e⟩:=e;obtain⟨hpf,e⟩:=Wu e;split at e;case h_2=>exact e.elim
  rename_i h2 hp2;split at e;case h_2=>exact e.elim
  rename_i h3 hp3;refine⟨_,_,_,_,e,Nat.le_add_right _ _,?_⟩;intro F I w vs hvs hs low zf hpfw fr hz;obtain⟨hargs,e'⟩:=VB (I:=I) hz e0;obtain⟨V,_⟩:=VA (I:=I) hz (λi a b=>fr i a b) e';have A:=Sq hp2
  let Fc:Bool->Nat->Prop:=λs x=>match s with
    |true=>F true x\/∃id o t,h2.get id=some o/\I id=some (x,t)
    |false=>F false x
  have sc:Sim Fc (qZ C.m σ I) h0 w:=by
    refine⟨λid o b t g u=> ?_,λid Z o o' b t t' g g' u hI'=> ?_,λid o b t g u hf=> ?_⟩
    · obtain⟨_,Y⟩:=jD u;rcases(V id o (jc g)).2 with J|⟨b2,J,h6,_⟩
      · rw[J]at Y;cases Y
      · obtain⟨ob,G,N⟩:=hs.obj _ _ _ _ J Y;exact⟨ob,G,h6 _ _ N⟩
    · obtain⟨_,Y⟩:=jD u;obtain⟨_,hJ'⟩:=jD hI';rcases(V id o (jc g)).2 with J|⟨b2,J,h6,_⟩
      · rw[J]at Y;cases Y
      rcases(V Z o' (jc g')).2 with h5'|⟨b2',h5',h6',_⟩
      · rw[h5']at hJ';cases hJ'
      exact inj _ _ _ _ (jc g) (jc g') (hs.inj _ _ _ _ _ _ _ J h5' Y hJ')
    · obtain⟨_,Y⟩:=jD u;rcases(V id o (jc g)).2 with J|⟨b2,J,h6,h7⟩
      · rw[J]at Y;cases Y
      rcases hf with hf|⟨Z,o',t',q1,q2⟩
      · have:=(hs.fr _ _ _ _ J Y hf).1;rw[h7]at this;cases this
      · obtain⟨r1,r2⟩:=A _ _ q1;have:=hs.inj _ _ _ _ _ _ _ r1 J q2 Y;exact absurd this.symm (r2 _ _ (jc g))
  have lowc:∀b,Fc true b->b<w.heap.size:=λb U=>by
    rcases U with U|⟨id,o,t,q1,q2⟩
    · exact low b U
    · obtain⟨ob,G,_⟩:=hs.obj _ _ _ _ (A _ _ q1).1 q2;exact(Array.getElem?_eq_some_iff.1 G).1
  have frc:∀i,C.m<=i->qZ C.m σ I i=none:=λi hi=>by
    cases hr:qZ C.m σ I i with
    |none=>rfl
    |some y=>have:=(jD hr).1;omega
  have pfc:(C.mem s).ok (q0x Fc w):=hpf _ hpfw;have hz':qZ C.m σ I 0=some (0,0,0):=by unfold qZ;rw[show Nat.blt 0 C.m=true by simp[Nat.blt_eq];omega];simp only;rw[sig0];exact hz
  refine(hC Fc (qZ C.m σ I) w vs (hargs vs hvs) sc lowc (λb U=> .inl (zf b U)) hpre pfc frc hz').mono λen w' he=> ?_;obtain⟨z,I1,rfl,hz,g,hgh⟩:=he
  let H:In:=λid=>if nx+C.m<=id/\id<nx+C.m' then I1 (id- nx)else I id
  have hle:I.le H:=λid x hx=>by
    simp only[H];split
    · rename_i hh;rw[fr id (by omega) hh.2]at hx;cases hx
    · exact hx
  have dom1:∀j x,I1 j=some x->j<C.m':=λj x hx=>by
    rcases g.new j x hx with O|O
    · have:=(jD O).1;omega
    · exact O.2
  have hx:∀j x,I1 j=some x->H (σ j)=some x:=λj x hj=>by
    have hd:=dom1 j x hj;rcases Nat.lt_or_ge j C.m with X|X
    · rcases g.new j x hj with O|O
      · exact hle _ _ (jD O).2
      · omega
    · rw[sig1 j X];simp only[H];rw[if_pos (by omega),Nat.add_sub_cancel_left];exact hj
  have part:∀id o b t,h3.get id=some o->H id=some (b,t)->(∃j q,h1.get j=some q/\id=σ j/\o=yQ σ q/\q.rw=true/\I1 j=some (b,t))\/(h2.get id=some o/\I id=some (b,t)):=λid o b t hg u=>by
    rcases SX hp3 id o hg with O|⟨j,q,O,J,h6,h7⟩
    · refine .inr ⟨O,?_⟩;have:=keys id o (jc (A _ _ O).1);simp only[H]at u;rw[if_neg (by omega)]at u;exact u
    · refine .inl ⟨j,q,FF O,J,h6,h7,?_⟩;have hjm':=keys1 j q O;subst J;rcases Nat.lt_or_ge j C.m with X|X
      · rcases sig2 j with h8|h8
        · simp only[H]at u;rw[if_neg (by omega)]at u;refine g.le _ _ ?_;unfold qZ;rw[show Nat.blt j C.m=true by simpa[Nat.blt_eq]using X];exact u
        · simp only[H]at u;rw[h8,if_neg (by omega),fr _ (by omega) (by omega)]at u;cases u
      · rw[sig1 j X]at u;simp only[H]at u;rw[if_pos (by omega),Nat.add_sub_cancel_left]at u;exact u
  have hgr:Grow F I nx w H (nx+C.m') h3 w':=by
    refine⟨hle,λi x hi=> ?_,⟨λid o b t hg u=> ?_,λid Z o o' b t t' hg hg' u hI'=> ?_,λid o b t hg u hf=> ?_⟩,λb U=>g.fr b (.inl U),g.size,g.same⟩
    · simp only[H]at hi;split at hi
      · exact .inr ⟨by omega,by omega⟩
      · exact .inl hi
    · rcases part id o b t hg u with⟨j,q,G,N,k3,k4,k5⟩|⟨G,N⟩
      · obtain⟨ob,r1,r2⟩:=g.sim.obj _ _ _ _ G k5;exact⟨ob,r1,by rw[k3];exact qax hx r2⟩
      · obtain⟨ob,r1,r2⟩:=hs.obj _ _ _ _ (A _ _ G).1 N;exact⟨ob,(g.fr b (.inr ⟨id,o,t,G,N⟩)).trans r1,r2.mono hle⟩
    · rcases part id o b t hg u with⟨j,q,G,N,k3,k4,k5⟩|⟨G,N⟩<;>rcases part Z o' b t' hg' hI' with⟨j',q',k1',k2',k3',k4',k5'⟩|⟨k1',k2'⟩
      · rw[N,k2',g.sim.inj _ _ _ _ _ _ _ G k1' k5 k5']
      · have:=(g.sim.fr _ _ _ _ G k5 (.inr ⟨Z,o',t',k1',k2'⟩)).1;rw[k4]at this;cases this
      · have:=(g.sim.fr _ _ _ _ k1' k5' (.inr ⟨id,o,t,G,N⟩)).1;rw[k4']at this;cases this
      · exact hs.inj _ _ _ _ _ _ _ (A _ _ G).1 (A _ _ k1').1 N k2'
    · rcases part id o b t hg u with⟨j,q,G,N,k3,k4,k5⟩|⟨G,N⟩
      · have:=(g.sim.fr _ _ _ _ G k5 (.inl hf)).1;rw[k4]at this;cases this
      · exact hs.fr _ _ _ _ (A _ _ G).1 N hf
  refine⟨z,H,rfl,Ww hx hz,hgr,?_⟩;have hpub:Pub.le (jF Fc w I1 h1 w') (jF F w H h3 w'):=λb ob U=>by
    rw[yK]at U⊢;refine⟨U.1.imp (λh=>h) λ⟨O,J⟩=>⟨λhf=>O (.inl hf),λ⟨id,o,t,q1,q2,q3⟩=> ?_⟩,U.2⟩;rcases part id o b t q1 q3 with⟨j,q,G,N,k3,k4,k5⟩|⟨G,N⟩
    · exact J ⟨j,q,t,G,k4,k5⟩
    · exact O (.inr ⟨id,o,t,G,N⟩)
  have hΦ:=(C.g s).mono _ _ _ _ (In.le_refl I1) hpub hgh;generalize C.g s=gs at hΦ;cases gs with
  |none=>trivial
  | some d=>
    obtain⟨hΦ1,bb,hΦ0,hΦ2⟩:=hΦ;refine⟨λk hk=> ?_,bb,hΦ0,λx hxk=> ?_⟩
    · obtain⟨j,hj,rfl⟩:=List.mem_map.1 hk;obtain⟨y,hy⟩:=hΦ1 j hj;exact⟨y,hx _ _ hy⟩
    · show(d.mem bb ((d.ks.map σ).map x)).ok _;rw[List.map_map];exact hΦ2 (x∘σ) λk y hk hy=>hxk (σ k) y (List.mem_map.2 ⟨k,hk,rfl⟩) (hx _ _ hy)
end
section
abbrev Q5:=T AV->Oper->(AV->Prop)->Prop
def JG(P:O7) (q:Q5):Prop:=∀t o K,q t o K->∃v,QP P t o v/\K v
abbrev KY:=GL->T AV->T AO->Nat->Oper->(AV->T AO->Nat->GS->Prop)->Prop
def Gx(P:O7) (s:KY):Prop:=∀gl t h nx o K,s gl t h nx o K->∃v h' u g,wG gl P t h nx o g v h' u/\K v h' u g
abbrev YL:=T AV->Nat->Oper->(AV->AO->Prop)->Prop
def NO(P:O7) (au:YL):Prop:=∀t nx o K,au t nx o K->∃v ob,AP P t nx o v ob/\K v ob
variable {gl:GL} {t:T AV} {h:T AO} {nx:Nat} {o:Oper}
def qhx{P:O7} {r:AV} {h':T AO} {u:Nat} (e:uy P t h nx o=some (r,h',u)):wG gl P t h nx o none r h' u:=by
 refine⟨(qjc (gl:= .e) e).1,λF I n a w st fr K Q H=> ?_⟩;obtain⟨_,U,z,A,J,N,O,C,G⟩:=qdn e st.tr st.sim st.low fr;unfold Oper.wp;rw[N];rcases O with rfl|⟨rfl,rfl⟩
 ·exact H z A J C G trivial
 ·exact H undef A J C G trivial
def Q9(P:O7) (rs:jk):jk:=λgl t h o K=>match xr P t h o with
 |some v=>K v
 |none=>rs gl t h o K
def qd9{P:O7} {rs:jk} (ok:kD P rs):kD P (Q9 P rs):=λgl t h o K e=>by
 unfold Q9 at e;split at e
 ·rename_i v A;exact⟨v,λF I a w u hs _=>qdl A u hs,e⟩
 ·exact ok _ _ _ _ _ e
def hQ(P:O7) (qs:Q5) (t:T AV) (h:T AO) (nx:Nat) (o:Oper) (K:KK):Prop:=match jO P t o with
 |some v=>K .q v none h nx none
 |none=>qs t o λv=>K .q v none h nx none
def hS(P:O7) (ss:KY) (gl:GL) (t:T AV) (h:T AO) (nx:Nat) (o:Oper) (K:KK):Prop:=tB (qH o) (match uy P t h nx o with
 |some (v,h',u)=>K .s v none h' u none
 |none=>ss gl t h nx o λv h' u g=>K .s v none h' u g)
def hA (P:O7) (t:T AV) (h:T AO) (nx:Nat) (o:Oper) (K:KK) (alt:Prop):Prop:=match ui P t nx o with
  | some (v,ob)=>match kX P o with
    | true=>match qH o with
      | false=>match T.put 64 nx (some ob) h with
        |some h'=>K .a v (some ob) h' (nx+1) none
        |none=>False
      |true=>False
    |false=>False
  |none=>alt
def Xx(P:O7) (au:YL) (t:T AV) (h:T AO) (nx:Nat) (o:Oper) (K:KK):Prop:=tB (kX P o&&Bool.not (qH o)) (au t nx o λv ob=>match T.put 64 nx (some ob) h with
 |some h'=>K .a v (some ob) h' (nx+1) none
 |none=>False)
def RL(ss:KY) (gl:GL) (t:T AV) (h:T AO) (nx:Nat) (o:Oper) (K:KK):Prop:=tB (qH o) (ss gl t h nx o λv h' u g=>K .s v none h' u g)
def hC(P:O7) (calls:Nat->Option Ct) (gl:GL) (t:T AV) (h:T AO) (nx:Nat) (o:Oper) (K:KK):Prop:=tB (qH o) (match Wp t o with
  | some (g,l)=>match calls g with
    |some C=>tB (Nat.ble 1 nx) (GQ C gl l h nx K)
    |none=>False
  |none=>False)
def RN (P:O7) (calls:Nat->Option Ct) (qs:Q5) (rs:jk) (ss:KY) (au:YL):jr:=λgl t h nx o K=>match o.op with
  | .load .. | .lookup .. =>Q9 P rs gl t h o λv=>K .r v none h nx none
  | .alloc _| .box .. | .buildSlice .. | .makeMap .. | .makeSlice .. =>hA P t h nx o K (Xx P au t h nx o K)
  | .store .. | .mapUpdate .. | .insert .. | .mapEntry .. | .entryStore .. =>hS P ss gl t h nx o K
  | .convert s d _=>match jO P t o with
    |some v=>K .q v none h nx none
    | none=>match xr P t h o with
      |some v=>K .r v none h nx none
      | none=>match Nat.beq s d with
        |true=>hS P ss gl t h nx o K
        | false=>hA P t h nx o K (match P.underlying d with
          |some (.slice _)=>Xx P au t h nx o K
          | some .string=>match P.underlying s with
            |some (.slice _)=>rs gl t h o λv=>K .r v none h nx none
            |_=>qs t o λv=>K .q v none h nx none
          |_=>qs t o λv=>K .q v none h nx none)
  | .call c=>match c.callee with
    | .builtin .append=>RL ss gl t h nx o K
    | .builtin .copy=>hS P ss gl t h nx o K
    | .builtin .unsafeString=>hS P ss gl t h nx o K
    | .builtin .len=>match jO P t o with
      |some v=>K .q v none h nx none
      | none=>match xr P t h o with
        |some v=>K .r v none h nx none
        |none=>qs t o λv=>K .q v none h nx none
    | .builtin _=>hQ P qs t h nx o K
    |_=>hC P calls gl t h nx o K
  |_=>hQ P qs t h nx o K
variable {v:AV}
def KP.mkq{P:O7} (u:QP P t o v):KP gl P t h nx o .q v none none h nx:=⟨rfl,rfl,u,GS.triv_nil⟩
def KP.mkr{P:O7} (u:RP gl P t h o v):KP gl P t h nx o .r v none none h nx:=⟨rfl,rfl,u,GS.triv_nil⟩
def KP.mka{P:O7} {h h':T AO} {ob:AO} (u:AP P t nx o v ob) (A:T.put 64 nx (some ob) h=some h') (C:kX P o=true) (G:qH o=false):KP gl P t h nx o .a v (some ob) none h' (nx+1):=⟨ob,rfl,u,A,rfl,C,G,GS.triv_nil⟩
def KP.mks{P:O7} {h h':T AO} {nx u:Nat} {g:GS} (A:wG gl P t h nx o g v h' u) (C:qH o=true):KP gl P t h nx o .s v none g h' u:=⟨A,C⟩
section
variable {P:O7} {calls:Nat->Option Ct} {qs:Q5} {rs:jk} {ss:KY}
def Told(gl:GL) (P:O7) (t:T AV) (h:T AO) (nx:Nat) (o:Oper) (K:KK):Prop:=∃k v ob h' u g,KP gl P t h nx o k v ob g h' u/\K k v ob h' u g
def Gc{gl t h nx o K} (hq:JG P qs) (e:qs t o λv=>K .q v none h nx none):Told gl P t h nx o K:=by obtain⟨v,u,A⟩:=hq _ _ _ e;exact⟨_,_,_,_,_,_,KP.mkq u,A⟩
def SM{gl t h nx o v} {K:KK} (A:jO P t o=some v) (e:K .q v none h nx none):Told gl P t h nx o K:=
 ⟨_,_,_,_,_,_,KP.mkq λI a u=>qgw A u,e⟩
def tY{gl t h nx o v} {K:KK} (A:xr P t h o=some v) (e:K .r v none h nx none):Told gl P t h nx o K:=
 ⟨_,_,_,_,_,_,KP.mkr λF I a w u hs _=>qdl A u hs,e⟩
def qb5{gl t h nx o K} (hq:JG P qs) (e:hQ P qs t h nx o K):Told gl P t h nx o K:=by
 unfold hQ at e;split at e
 ·rename_i v u;exact SM u e
 ·exact Gc hq e
def Zf{gl t h nx o K} (hs:Gx P ss) (e:hS P ss gl t h nx o K):Told gl P t h nx o K:=by
 unfold hS at e;obtain⟨e0,e⟩:=qU e;split at e
 ·rename_i v h' u G;exact⟨_,_,_,_,_,_,KP.mks (qhx G) e0,e⟩
 ·obtain⟨v,h',u,g,A,C⟩:=hs _ _ _ _ _ _ e;exact⟨_,_,_,_,_,_,KP.mks A e0,C⟩
def qcu{gl t h nx o K} (hs:Gx P ss) (e:RL ss gl t h nx o K):Told gl P t h nx o K:=by unfold RL at e;obtain⟨e0,e⟩:=qU e;obtain⟨v,h',C,g,u,A⟩:=hs _ _ _ _ _ _ e;exact⟨_,_,_,_,_,_,KP.mks u e0,A⟩
variable {au:YL}
def Vq{gl t h nx o K} (C:NO P au) (e:Xx P au t h nx o K):Told gl P t h nx o K:=by
 unfold Xx at e;obtain⟨e0,e⟩:=qU e;simp only[Bool.and_eq_true]at e0;obtain⟨v,ob,A,u⟩:=C _ _ _ _ e;split at u
 ·rename_i h' hp;exact⟨_,_,_,_,_,_,KP.mka A hp e0.1 (by cases G:qH o with
   |false=>rfl
   |true=>rw[G]at e0;exact absurd e0.2 (by decide)),u⟩
 ·exact u.elim
def Vv{gl t h nx o K alt} (e:hA P t h nx o K alt) (C:alt->Told gl P t h nx o K):Told gl P t h nx o K:=by
 unfold hA at e;split at e
 ·rename_i v ob H;split at e
  ·rename_i u;split at e
   ·rename_i A;split at e
    ·rename_i h' hp;exact⟨_,_,_,_,_,_,KP.mka (λI a G=>qd1 H G) hp u A,e⟩
    ·exact e.elim
   ·exact e.elim
  ·exact e.elim
 ·exact C e
def qfk{gl t h nx o K} (T:∀g C,calls g=some C->q4a P g C) (e:hC P calls gl t h nx o K):Told gl P t h nx o K:=by
 unfold hC at e;obtain⟨e0,e⟩:=qU e;split at e;case h_2=>exact e.elim
 rename_i g l G;split at e;case h_2=>exact e.elim
 rename_i C hC;have A:=T g C hC;obtain⟨e1,e⟩:=qU e;obtain⟨r,h',Z,gs,O,hle,u⟩:=qfm A e (Nat.le_of_ble_eq_true e1);refine⟨_,_,_,_,_,_,KP.mks ⟨hle,λF I n a w st fr K' Q U=> ?_⟩ e0,O⟩;obtain⟨vs,J,N⟩:=sX (P:=P) G st.tr;unfold Oper.wp;rw[N w,A.2.2.1];refine(u F I w vs J st.sim st.low st.zf st.pf fr st.gok.z).mono λen w' he=> ?_;obtain⟨z,H,rfl,V,X,Y⟩:=he;exact U z H w' V X Y
def qgi (J:∀g C,calls g=some C->q4a P g C) (hq:JG P qs) (hr:kD P rs) (hs:Gx P ss) (A:NO P au):vq P (RN P calls qs rs ss au):=by
 intro gl t h nx o K e;show Told gl P t h nx o K;have rd:Q9 P rs gl t h o (λv=>K .r v none h nx none)->Told gl P t h nx o K:=λe=>by obtain⟨v,G,H⟩:=qd9 hr _ _ _ _ _ e;exact⟨_,_,_,_,_,_,KP.mkr G,H⟩
 unfold RN at e;split at e
 ·exact rd e
 ·exact rd e
 ·exact Vv e (Vq A)
 ·exact Vv e (Vq A)
 ·exact Vv e (Vq A)
 ·exact Vv e (Vq A)
 ·exact Vv e (Vq A)
 ·exact Zf hs e
 ·exact Zf hs e
 ·exact Zf hs e
 ·exact Zf hs e
 ·exact Zf hs e
 ·split at e
  ·rename_i v u;exact SM u e
  ·split at e
   ·rename_i v u;exact tY u e
   ·split at e
    ·exact Zf hs e
    ·refine Vv e λe=> ?_;split at e
     ·exact Vq A e
     ·split at e
      ·obtain⟨v,G,H⟩:=hr _ _ _ _ _ e;exact⟨_,_,_,_,_,_,KP.mkr G,H⟩
      ·exact Gc hq e
     ·exact Gc hq e
 ·split at e
  ·exact qcu hs e
  ·exact Zf hs e
  ·exact Zf hs e
  ·split at e
   ·rename_i v u;exact SM u e
   ·split at e
    ·rename_i v u;exact tY u e
    ·exact Gc hq e
  ·exact qb5 hq e
  ·exact qfk J e
 ·exact qb5 hq e
end
end
section
structure CtR where
 σ:Type
 args:σ->List AV
 h:σ->List (Nat×AO)
 m:Nat
 pre:σ->Prop:=λ_=>True
 mem:σ->PF:=λ_=>{}
 find:Option (List AV->T AO->Option σ):=none
 sel:Option (List AV->T AO->Option (Sel σ)):=none
 β:σ->Type
 post:(s:σ)->β s->Prop:=λ_ _=>True
 pm:(s:σ)->β s->PF:=λ_ _=>{}
 r:(s:σ)->β s->AV
 h':(s:σ)->β s->List (Nat×AO)
 m':Nat
def q1i(P:O7) (f:Nat) (C:CtR):Prop:=C.m<=C.m'/\1<=C.m/\q4h P f/\∀s,∃G,q0m (C.h s) .e=some G/\
 ∀ (F:Bool->Nat->Prop) (I:In) (w:World) (vs:List Value),VRs I (C.args s) vs->Sim F I G w->(∀b,F true b->b<w.heap.size)->(∀b,F false b->F true b)->C.pre s->(C.mem s).ok (q0x F w)->(∀i,C.m<=i->I i=none)->I 0=some (0,0,0)->
  Calls P f ⟨vs⟩ w λe H=>∃b A,C.post s b/\q0m (C.h' s b) .e=some A/\∃z u,e= .returned z/\VR u (C.r s b) z/\Grow F I C.m w u C.m' A H/\(C.pm s b).ok (jF F w u A H)
def WH (C:CtR) (gl:GL) (args:List AV) (h:T AO) (nx:Nat) (K:GL->AV->T AO->Nat->Prop) (s:C.σ):Prop:=match q0m (C.h s) .e with
  | some G =>match zU G with
    | u => match wJ 0 h u (VK 0 (C.args s) args [])with
      | l =>match Wx nx C.m l&&(JI (kj nx l) u []&&Zi nx (zU h))with
        | true=>K8 (kj nx l) C.m (C.args s) args (K6 (kj nx l) nx C.m C.m' h u (Ob (C.pre s)/\Qq gl (C.mem s) (match VC (kj nx l) u h with
          | some H=>∀b:C.β s,Ob (C.post s b)->match q0m (C.h' s b) .e with
            | some A=>match Zi C.m' (zU A)with
              | true=>match k0 (kj nx l) (zU A) H with
                |some J=>wK gl (C.pm s b) λgl=>K gl (zh (kj nx l) (C.r s b)) J (nx+C.m')
                |none=>False
              |false=>False
            |none=>False
          |none=>False)))
        |false=>False
  |none=>False
def GR(C:CtR) (gl:GL) (args:List AV) (h:T AO) (nx:Nat) (K:GL->AV->T AO->Nat->Prop):Prop:=match C.sel with
  | some g=>match g args h with
    |some s=>∃b:s.β,WH C gl args h nx K (s.f b)
    |none=>False
  | none=>match C.find with
    |none=>∃s:C.σ,WH C gl args h nx K s
    | some f=>match f args h with
      |some s=>WH C gl args h nx K s
      |none=>False
def qfn{C:CtR} {gl:GL} {args:List AV} {h:T AO} {nx:Nat} {K:GL->AV->T AO->Nat->Prop} (e:GR C gl args h nx K):∃s,WH C gl args h nx K s:=by
 unfold GR at e;split at e
 ·split at e
  ·obtain⟨b,e⟩:=e;exact⟨_,e⟩
  ·exact e.elim
 ·split at e
  ·exact e
  ·split at e
   ·exact⟨_,e⟩
   ·exact e.elim
def qfo{P:O7} {f:Nat} {C:CtR} (hC:q1i P f C) {gl:GL} {args:List AV} {h:T AO} {nx:Nat} {K:GL->AV->T AO->Nat->Prop} (e:GR C gl args h nx K) (hnx:1<=nx):
  ∃ (B:Type) (r:B->AV) (h':B->T AO) (nx':Nat) (pm:B->PF),(∀b,wK gl (pm b) λgl=>K gl (r b) (h' b) nx')/\nx<=nx'/\∀(F:Bool->Nat->Prop) (I:In) (w:World) (vs:List Value),VRs I args vs->Sim F I h w->(∀b,F true b->b<w.heap.size)->(∀b,F false b->F true b)->gl.pf (q0x F w)->vn I nx nx'->I 0=some (0,0,0)->
   Calls P f ⟨vs⟩ w λe w'=>∃b z J,e= .returned z/\VR J (r b) z/\Grow F I nx w J nx' (h' b) w'/\(pm b).ok (jF F w J (h' b) w'):=by
 obtain⟨hmm,hm1,_,hC⟩:=hC;obtain⟨s,e⟩:=qfn e;unfold WH at e;obtain⟨h0,hp0,hC⟩:=hC s;rw[hp0]at e;simp only at e;generalize wJ 0 h (zU h0) (VK 0 (C.args s) args [])=l at e;split at e;case h_2=>exact e.elim
 rename_i V;simp only[Bool.and_eq_true]at V;obtain⟨hv,hi,hk⟩:=V;have hsig:∀j,0<j->kj nx l j=(match assoc j l with|some i=>i|none=>nx+j):=λj hj=>by
  cases j with
  |zero=>omega
  |succ j=>rfl
 have hsig0:kj nx l 0=0:=rfl;have hval:=SA hv;generalize hσ:kj nx l=σ at e hi;have sig0:σ 0=0:=by rw[←hσ];rfl
 have sig1:∀j,C.m<=j->σ j=nx+j:=λj hj=>by
  rw[←hσ,hsig j (by omega)];cases ha:assoc j l with
  |none=>rfl
  |some i=>have:=(hval j i ha).1;omega
 have sig2:∀j,σ j<nx\/σ j=nx+j:=λj=>by
  rcases Nat.eq_zero_or_pos j with rfl|hj
  ·rw[sig0];exact .inl (by omega)
  rw[←hσ,hsig j hj];cases ha:assoc j l with
  |none=>exact .inr rfl
  |some i=>exact .inl (hval j i ha).2
 have keys:=Wj hk;obtain⟨_,inj⟩:=Ws hi;have e0:=e;have e1:=VB (I:=λi=>if i=0 then some (0,0,0)else none) rfl e;obtain⟨_,e⟩:=e1;obtain⟨_,e⟩:=VA (I:=λi=>if i=0 then some (0,0,0)else none) rfl (λi h _=>if_neg (by omega)) e;obtain⟨hpre,e⟩:=e;obtain⟨hpf,e⟩:=Wu e;split at e;case h_2=>exact e.elim
 rename_i h2 hp2;have hall:∀b: {b:C.β s // C.post s b},∃q:T AO×T AO,q0m (C.h' s b.1) .e=some q.1/\Zi C.m' (zU q.1)=true/\k0 σ (zU q.1) h2=some q.2/\wK gl (C.pm s b.1) λgl=>K gl (zh σ (C.r s b.1)) q.2 (nx+C.m'):=λb=>by
  have e:=e b.1 b.2;split at e;case h_2=>exact e.elim
  rename_i h1 hp1;split at e;case h_2=>exact e.elim
  rename_i hk1;split at e;case h_2=>exact e.elim
  rename_i h3 hp3;exact⟨(h1,h3),hp1,hk1,hp3,e⟩
 obtain⟨qf,hqf⟩:=Classical.axiomOfChoice hall;refine⟨{b:C.β s // C.post s b},λb=>zh σ (C.r s b.1),λb=>(qf b).2,nx+C.m',λb=>C.pm s b.1,λb=>(hqf b).2.2.2,Nat.le_add_right _ _,?_⟩;intro F I w vs hvs hs low zf hpfw fr hz;obtain⟨hargs,e'⟩:=VB (I:=I) hz e0;obtain⟨X,_⟩:=VA (I:=I) hz (λi a b=>fr i a b) e';have G:=Sq hp2
 let Fc:Bool->Nat->Prop:=λs x=>match s with
  |true=>F true x\/∃id o t,h2.get id=some o/\I id=some (x,t)
  |false=>F false x
 have sc:Sim Fc (qZ C.m σ I) h0 w:=by
  refine⟨λid o b t g A=> ?_,λid id' o o' b t t' g g' A hI'=> ?_,λid o b t g A hf=> ?_⟩
  ·obtain⟨_,Z⟩:=jD A;rcases(X id o (jc g)).2 with N|⟨b2,N,h6,_⟩
   ·rw[N]at Z;cases Z
   ·obtain⟨ob,H,O⟩:=hs.obj _ _ _ _ N Z;exact⟨ob,H,h6 _ _ O⟩
  ·obtain⟨_,Z⟩:=jD A;obtain⟨_,hJ'⟩:=jD hI';rcases(X id o (jc g)).2 with N|⟨b2,N,h6,_⟩
   ·rw[N]at Z;cases Z
   rcases(X id' o' (jc g')).2 with h5'|⟨b2',h5',h6',_⟩
   ·rw[h5']at hJ';cases hJ'
   exact inj _ _ _ _ (jc g) (jc g') (hs.inj _ _ _ _ _ _ _ N h5' Z hJ')
  ·obtain⟨_,Z⟩:=jD A;rcases(X id o (jc g)).2 with N|⟨b2,N,h6,h7⟩
   ·rw[N]at Z;cases Z
   rcases hf with hf|⟨id',o',t',q1,q2⟩
   ·have:=(hs.fr _ _ _ _ N Z hf).1;rw[h7]at this;cases this
   ·obtain⟨r1,r2⟩:=G _ _ q1;have:=hs.inj _ _ _ _ _ _ _ r1 N q2 Z;exact absurd this.symm (r2 _ _ (jc g))
 have lowc:∀b,Fc true b->b<w.heap.size:=λb V=>by
  rcases V with V|⟨id,o,t,q1,q2⟩
  ·exact low b V
  ·obtain⟨ob,H,_⟩:=hs.obj _ _ _ _ (G _ _ q1).1 q2;exact(Array.getElem?_eq_some_iff.1 H).1
 have frc:∀i,C.m<=i->qZ C.m σ I i=none:=λi hi=>by
  cases hr:qZ C.m σ I i with
  |none=>rfl
  |some y=>have:=(jD hr).1;omega
 have pfc:(C.mem s).ok (q0x Fc w):=hpf _ hpfw;have hz':qZ C.m σ I 0=some (0,0,0):=by unfold qZ;rw[show Nat.blt 0 C.m=true by simp[Nat.blt_eq];omega];simp only;rw[sig0];exact hz
 refine(hC Fc (qZ C.m σ I) w vs (hargs vs hvs) sc lowc (λb V=> .inl (zf b V)) hpre pfc frc hz').mono λen w' he=> ?_;obtain⟨b,h1,u,hph1,z,I1,rfl,hz,g,hgh⟩:=he;obtain⟨hq1,hk1,hp3,_⟩:=hqf ⟨b,u⟩;generalize hh3:(qf ⟨b,u⟩).2=h3 at hp3;have:(qf ⟨b,u⟩).1=h1:=by have:=hq1.symm.trans hph1;exact Option.some.inj this
 rw[this]at hk1 hp3;clear hq1 this;have keys1:=Wj hk1
 let J:In:=λid=>if nx+C.m<=id/\id<nx+C.m' then I1 (id- nx)else I id
 have hle:I.le J:=λid x hx=>by
  simp only[J];split
  ·rename_i hh;rw[fr id (by omega) hh.2]at hx;cases hx
  ·exact hx
 have dom1:∀j x,I1 j=some x->j<C.m':=λj x hx=>by
  rcases g.new j x hx with U|U
  ·have:=(jD U).1;omega
  ·exact U.2
 have hx:∀j x,I1 j=some x->J (σ j)=some x:=λj x hj=>by
  have hd:=dom1 j x hj;rcases Nat.lt_or_ge j C.m with Y|Y
  ·rcases g.new j x hj with U|U
   ·exact hle _ _ (jD U).2
   ·omega
  ·rw[sig1 j Y];simp only[J];rw[if_pos (by omega),Nat.add_sub_cancel_left];exact hj
 have part:∀id o b t,h3.get id=some o->J id=some (b,t)->(∃j q,h1.get j=some q/\id=σ j/\o=yQ σ q/\q.rw=true/\I1 j=some (b,t))\/(h2.get id=some o/\I id=some (b,t)):=λid o b t hg A=>by
  rcases SX hp3 id o hg with U|⟨j,q,U,N,h6,h7⟩
  ·refine .inr ⟨U,?_⟩;have:=keys id o (jc (G _ _ U).1);simp only[J]at A;rw[if_neg (by omega)]at A;exact A
  ·refine .inl ⟨j,q,FF U,N,h6,h7,?_⟩;have hjm':=keys1 j q U;subst N;rcases Nat.lt_or_ge j C.m with Y|Y
   ·rcases sig2 j with h8|h8
    ·simp only[J]at A;rw[if_neg (by omega)]at A;refine g.le _ _ ?_;unfold qZ;rw[show Nat.blt j C.m=true by simpa[Nat.blt_eq]using Y];exact A
    ·simp only[J]at A;rw[h8,if_neg (by omega),fr _ (by omega) (by omega)]at A;cases A
   ·rw[sig1 j Y]at A;simp only[J]at A;rw[if_pos (by omega),Nat.add_sub_cancel_left]at A;exact A
 have hgr:Grow F I nx w J (nx+C.m') h3 w':=by
  refine⟨hle,λi x hi=> ?_,⟨λid o b t hg A=> ?_,λid id' o o' b t t' hg hg' A hI'=> ?_,λid o b t hg A hf=> ?_⟩,λb V=>g.fr b (.inl V),g.size,g.same⟩
  ·simp only[J]at hi;split at hi
   ·exact .inr ⟨by omega,by omega⟩
   ·exact .inl hi
  ·rcases part id o b t hg A with⟨j,q,H,O,k3,k4,k5⟩|⟨H,O⟩
   ·obtain⟨ob,r1,r2⟩:=g.sim.obj _ _ _ _ H k5;exact⟨ob,r1,by rw[k3];exact qax hx r2⟩
   ·obtain⟨ob,r1,r2⟩:=hs.obj _ _ _ _ (G _ _ H).1 O;exact⟨ob,(g.fr b (.inr ⟨id,o,t,H,O⟩)).trans r1,r2.mono hle⟩
  ·rcases part id o b t hg A with⟨j,q,H,O,k3,k4,k5⟩|⟨H,O⟩<;>rcases part id' o' b t' hg' hI' with⟨j',q',k1',k2',k3',k4',k5'⟩|⟨k1',k2'⟩
   ·rw[O,k2',g.sim.inj _ _ _ _ _ _ _ H k1' k5 k5']
   ·have:=(g.sim.fr _ _ _ _ H k5 (.inr ⟨id',o',t',k1',k2'⟩)).1;rw[k4]at this;cases this
   ·have:=(g.sim.fr _ _ _ _ k1' k5' (.inr ⟨id,o,t,H,O⟩)).1;rw[k4']at this;cases this
   ·exact hs.inj _ _ _ _ _ _ _ (G _ _ H).1 (G _ _ k1').1 O k2'
  ·rcases part id o b t hg A with⟨j,q,H,O,k3,k4,k5⟩|⟨H,O⟩
   ·have:=(g.sim.fr _ _ _ _ H k5 (.inl hf)).1;rw[k4]at this;cases this
   ·exact hs.fr _ _ _ _ (G _ _ H).1 O hf
 refine⟨⟨b,u⟩,z,J,rfl,Ww hx hz,(show Grow F I nx w J (nx+C.m') (qf ⟨b,u⟩).2 w' from by rw[hh3];exact hgr),?_⟩;show(C.pm s b).ok (jF F w J (qf ⟨b,u⟩).2 w');rw[hh3];have hpub:Pub.le (jF Fc w I1 h1 w') (jF F w J h3 w'):=λb ob V=>by
  rw[yK]at V⊢;refine⟨V.1.imp (λh=>h) λ⟨U,N⟩=>⟨λhf=>U (.inl hf),λ⟨id,o,t,q1,q2,q3⟩=> ?_⟩,V.2⟩;rcases part id o b t q1 q3 with⟨j,q,H,O,k3,k4,k5⟩|⟨H,O⟩
  ·exact N ⟨j,q,t,H,k4,k5⟩
  ·exact U (.inr ⟨id,o,t,H,O⟩)
 exact PF.ok_mono hpub hgh
def Xz(P:O7) (rel:Nat->Option CtR):kc:=λgl t h nx o=>match qH o with
  |false=>none
  | true=>match Wp t o with
    | some (g,l)=>match rel g with
      |some C=>some λK=>tB (Nat.ble 1 nx) (GR C gl l h nx K)
      |none=>none
    |none=>none
def Nk{P:O7} {rel:Nat->Option CtR} (U:∀g C,rel g=some C->q1i P g C):ye P (Xz P rel):=λgl t h nx o q K hq e=>by
 unfold Xz at hq;split at hq
 ·cases hq
 split at hq;case h_2=>cases hq
 rename_i g l G;split at hq;case h_2=>cases hq
 rename_i C hC;cases hq;have A:=U g C hC;obtain⟨e1,e⟩:=qU e;obtain⟨B,r,h',H,pm,T,hle,u⟩:=qfo A e (Nat.le_of_ble_eq_true e1);refine⟨B,r,h',H,pm,T,hle,λF I n a w st fr K' Q V=> ?_⟩;obtain⟨vs,N,O⟩:=sX (P:=P) G st.tr;unfold Oper.wp;rw[O w,A.2.2.1];refine(u F I w vs N st.sim st.low st.zf st.pf fr st.gok.z).mono λen w' he=> ?_;obtain⟨b,z,J,rfl,X,Y,Z⟩:=he;exact V b z J w' X Y Z
def qj9(C:CtR) (s:C.σ) (gl:GL) (r:AV) (h:T AO) (nx:Nat):Prop:=∃b:C.β s,match q0m (C.h' s b) .e with
 |some u=>WQ C.m gl r h nx (C.r s b) (zU u) C.m' [] Qt (Ob (C.post s b)/\Qq gl (C.pm s b) True)
 |none=>False
def qjd(u:List Nat) (P:O7) (fn:Func) (C:CtR) (s:C.σ):AX->KS:=λx gl t h nx=>match x with
  | .ex _=>False
  | _=>wM u gl t h λgl t h=>match uq P t h fn.results.toList with
    |some rs=>qj9 C s gl (WG rs) h nx
    |none=>False
def Gm(tab:T AV) (P:O7) (E:VE) (fuel:Nat) (fn:Func) (c:Code) (C:CtR) (s:C.σ):Prop:=match q0m (C.h s) .e with
  | some u=>match Nat.blt (C.args s).length jE with
    | true=>match VM (C.args s) 0 tab with
      |some t0=>Ob (C.pre s)->wK (gl0 tab) (C.mem s) λgl=>vc E P fuel 0 c gl t0 u C.m (qjd E.pubE P fn C s)
      |none=>False
    |false=>False
  |none=>False
def qd7{P:O7} (hm:P.follows .mixedOrders=true) {tab:T AV} {fuel f:Nat} {fn:Func} {c:Code} {C:CtR} {E:C.σ->VE} (hfn:P.funcs[f]? =some fn) (hc:fn.body=some c) (hname:(fn.name== "runtime.NumGoroutine")=false) (ho:∀s,vq P (E s).hs) (hX:∀s,ye P (E s).hx) (hr:∀s,kD P (E s).hr)
    (h0:∀s,(E s).nx0=C.m) (h1m:1<=C.m) (htab:∀I,Z4 tab I) (hle:C.m<=C.m') (hn:∀s,(E s).n=(C.args s).length+(fn.ntmps- (C.args s).length)) (hv:∀s,Gm tab P (E s) fuel fn c C s):q1i P f C:=by
  refine⟨hle,h1m,λargs w=> ?_,λs=> ?_⟩
  · have hnn:¬fn.name= "runtime.NumGoroutine" :=(by simpa using hname);simp[callFunc,program,Sem.run,bind,Sem.bind,pure,hfn,hnn,hc]
  have e:=hv s;unfold Gm at e;split at e;case h_2=>exact e.elim
  rename_i hh0 hp0;split at e;case h_2=>exact e.elim
  rename_i hlen;split at e;case h_2=>exact e.elim
  rename_i t0 ht0;refine⟨hh0,hp0,λF I w vs hvs hs low zf hpre hmem fr hz0=> ?_⟩;have hlt:(C.args s).length<jE:=by simpa[Nat.blt_eq]using hlen
  refine calls_of_wp hfn hc (qh7 (F0:=F) (I0:=I) (w0:=w) hm (ho s) (hX s) (hr s) (by rw[h0 s];exact fr) fuel 0 c (Jw (e hpre) (p:=q0x F w) trivial hmem) (F:=F) (I:=I) (by rw[GL.withP_tab];exact⟨htab I,hz0⟩) ?_ ?_ _ λx ex a' w' hx hp=> ?_)
  · refine⟨λk b hk=> ?_,?_,rfl,hs,low,by rw[GL.withP_tab];exact⟨htab I,hz0⟩,zf,GL.withP_of trivial hmem⟩
    · have hg:=Su _ _ _ _ ht0 k;rw[hk]at hg;simp only[Nat.not_lt_zero,if_false,Nat.zero_add,Nat.sub_zero]at hg;split at hg
      · rename_i hlt2;obtain⟨v,g1,g2⟩:=hvs.get k b hg.symm;have hkv:k<vs.length:=(by rw[←hvs.len];exact hlt2);have:((⟨vs⟩:Array Value)++Array.replicate (fn.ntmps- (⟨vs⟩:Array Value).size) undef).getD k undef=v:=(by rw[Array.getD_eq_getD_getElem?,Array.getElem?_append_left (by simpa using hkv)];simp[g1]);rw[Zd (by omega),this];exact g2
      · obtain⟨g1,g2⟩:=htab I k b hg.symm;unfold slot;rw[if_neg (by omega)];exact g2
    · rw[Array.size_append,Array.size_replicate,hn s];show vs.length+(fn.ntmps- vs.length)=_;rw[hvs.len]
  · exact⟨λid _=>rfl,by rw[h0 s];exact Nat.le_refl _,fr,λs b h=>h,λb h=> .inl h,λb _=>rfl,Nat.le_refl _, .refl w⟩
  · obtain⟨gl2,t2,h2,nx2,F2,I2,e2,hg2,st2,at2⟩:=hp;have fin:(wM (E s).pubE gl2 t2 h2 λgl t h=>match uq P t h fn.results.toList with
        |some rs=>qj9 C s gl (WG rs) h nx2
        |none=>False)->a'.defers=[]/\∃v,(results fn a'.tmps).run P w'= .ok v w'/\∃b h1,C.post s b/\q0m (C.h' s b) .e=some h1/\∃z I',Ending.returned v= .returned z/\VR I' (C.r s b) z/\Grow F I C.m w I' C.m' h1 w'/\(C.pm s b).ok (jF F w I' h1 w'):=λe2=>by
      obtain⟨gl3,t3,h3,F3,htb,e3,st3,at3⟩:=Ze _ e2 st2 at2;split at e3;case h_2=>exact e3.elim
      rename_i rs hrs;have st4:Eng.St tab F3 I2 t3 h3 (E s).n a' w':=⟨st3.tr,st3.size,st3.defers,st3.sim,st3.low,htab I2,st3.zf⟩;obtain⟨v,r1,r2⟩:=sW (P:=P) st4 hrs;obtain⟨b,e3⟩:=e3;split at e3;case h_2=>exact e3.elim
      rename_i h1 hp1;obtain⟨⟨q0,q4⟩,I',q1,q2,_,q3⟩:=SZ e3 st3 (by rw[h0 s]at at3;exact at3) r2 low fr;exact⟨st3.defers,v,r1,b,h1,q0,hp1,v,I',rfl,q1,q2,PF.ok_mono q3 ((Wu q4).1 _ st3.pf)⟩
    cases x with
    |ex i=>exact e2.elim
    | nrm=>
      cases ex<;>simp only[AX.is]at hx;exact fin e2
    | rt=>
      cases ex<;>simp only[AX.is]at hx;exact fin e2
end
section
def gi:AV->Option (IntKind×Int)
 | .int k n=>some (k,n)
 | .sv (.int k n)=>some (k,n)
 |_=>none
variable {k:IntKind} {v:Value}
def vp{I:In} {a:AV} {n:Int} (h:gi a=some (k,n)) (r:VR I a v):v= .int k n:=by
 unfold gi at h;split at h
 ·cases h;cases r;rfl
 ·cases h;cases r;rfl
 ·cases h
def q9p(op:BinOp) (k:IntKind) (x y:Int):Int:=match op with
 | .and=>k.wrap (BitVec.ofInt k.bits x&&&BitVec.ofInt k.bits y).toNat
 | .or=>k.wrap (BitVec.ofInt k.bits x|||BitVec.ofInt k.bits y).toNat
 | .xor=>k.wrap (BitVec.ofInt k.bits x ^^^ BitVec.ofInt k.bits y).toNat
 |_=>k.wrap (BitVec.ofInt k.bits x&&& ~~~ BitVec.ofInt k.bits y).toNat
def Xs(k:IntKind) (r:Int) (K:AV->Prop):Prop:=match k with
 | .i64=>Ob (-9223372036854775808<=r/\r<=9223372036854775807)/\K (.sv (.int .i64 r))
 |k=>K (.sv (.int k (k.wrap r)))
variable {K:AV->Prop}
def qg0{r:Int} (h:Xs k r K):K (.sv (.int k (k.wrap r))):=by
 unfold Xs at h;split at h
 ·obtain⟨⟨A,C⟩,u⟩:=h;have:IntKind.i64.wrap r=r:=by unfold IntKind.wrap;simp[IntKind.bits,IntKind.signed];omega
  rw[this];exact u
 ·exact h
def GF(k:IntKind) (r:Int) (K:AV->Prop):Prop:=match k with
 | .i64=>∃v:Int,Ob (v=IntKind.wrap .i64 r)/\K (.sv (.int .i64 v))
 |k=>K (.sv (.int k (k.wrap r)))
def qai{r:Int} (h:GF k r K):K (.sv (.int k (k.wrap r))):=by
 unfold GF at h;split at h
 ·obtain⟨v,u,A⟩:=h;rw[←show v=IntKind.wrap .i64 r from u];exact A
 ·exact h
def GN(op:BinOp) (k:IntKind) (x y:Int) (K:AV->Prop):Prop:=match op with
 | .add=>Xs k (x+y) K
 | .sub=>Xs k (x- y) K
 | .mul=>GF k (x*y) K
 | .and=>K (.sv (.int k (q9p .and k x y)))
 | .or=>K (.sv (.int k (q9p .or k x y)))
 | .xor=>K (.sv (.int k (q9p .xor k x y)))
 | .andNot=>K (.sv (.int k (q9p .andNot k x y)))
 | .eql=>K (.sv (.bool (decide (x=y))))
 | .neq=>K (.sv (.bool (!decide (x=y))))
 | .lss=>K (.sv (.bool (decide (x<y))))
 | .gtr=>K (.sv (.bool (decide (y<x))))
 | .leq=>K (.sv (.bool (decide (x<=y))))
 | .geq=>K (.sv (.bool (decide (y<=x))))
 |_=>False
def qfa{P:O7} {op:BinOp} {t:TypeId} {x y:Int} (h:GN op k x y K):∃v,(∀w,(binOp op t (.int k x) (.int k y)).run P w= .ok v w)/\K (.sv v):=by
 cases op<;>simp only[GN]at h<;>first
  |exact h.elim
  |exact⟨_,λw=>by simp only[binOp,ne_eq,not_true,if_false,Op.intArith,Sem.run_pure],qg0 h⟩
  |exact⟨_,λw=>by simp only[binOp,ne_eq,not_true,if_false,Op.intArith,Sem.run_pure],qai h⟩
  |exact⟨_,λw=>by simp only[binOp,ne_eq,not_true,if_false,Op.intBits,Sem.run_pure];rfl,h⟩
  |exact⟨_,λw=>by simp only[binOp,ne_eq,not_true,if_false,Op.intCmp,Sem.run_pure];rfl,h⟩
def gb:AV->Option Bool
 | .bool b=>some b
 | .sv (.bool b)=>some b
 |_=>none
def WD{I:In} {a:AV} {b:Bool} (h:gb a=some b) (r:VR I a v):v= .bool b:=by
 unfold gb at h;split at h
 ·cases h;cases r;rfl
 ·cases h;cases r;rfl
 ·cases h
def Gd (P:O7):Q5:=λt o K=>match o.op with
  | .pick c a b=>match ev t c with
    | some (.sv (.bool x))=>match ev t a with
      | some h=>match ev t b with
        |some u=>(Ob (x=true)->K h)/\(Ob (x=false)->K u)
        |none=>False
      |none=>False
    |_=>False
  | .binOp op A x y _=>match ev t x with
    | some a=>match ev t y with
      | some b=>match gi a with
        | some (k,n)=>match gi b with
          | some (j,m)=>match Q8 k j with
            | true=>match op with
              | .shl=>False
              | .shr=>False
              |op=>GN op k n m K
            |false=>False
          |none=>False
        |none=>False
      |none=>False
    |none=>False
  |_=>False
def qgu(P:O7):JG P (Gd P):=by
  intro t o K e;obtain⟨dst,op,ty,pos,after,guard⟩:=o;cases op with
  | pick c a b=>
    simp only[Gd]at e;split at e;case h_2=>exact e.elim
    rename_i x J;split at e;case h_2=>exact e.elim
    rename_i Y G;split at e;case h_2=>exact e.elim
    rename_i Z H;cases x with
    | true=>
      refine⟨Y,λI ac h=> ?_,e.1 rfl⟩;have u:=qn h J;generalize A:ac.eval c=N at u;cases u;exact⟨_,λw=>by simp[execOp,A,asBool,Result.andThen],qn h G⟩
    | false=>
      refine⟨Z,λI ac h=> ?_,e.2 rfl⟩;have u:=qn h J;generalize A:ac.eval c=N at u;cases u;exact⟨_,λw=>by simp[execOp,A,asBool,Result.andThen],qn h H⟩
  | binOp op xt x y yt=>
    simp only[Gd]at e;split at e;case h_2=>exact e.elim
    rename_i a G;split at e;case h_2=>exact e.elim
    rename_i b H;split at e;case h_2=>exact e.elim
    rename_i k n U;split at e;case h_2=>exact e.elim
    rename_i j m T;split at e;case h_2=>exact e.elim
    rename_i C;have C:=Jy C;subst C;have e:GN op k n m K:=by
      split at e
      · exact e.elim
      · exact e.elim
      · exact e
    obtain⟨v,u,O⟩:=qfa (P:=P) (t:=xt) e;refine⟨.sv v,λI ac h=> ?_,O⟩;have V:=vp U (qn h G);have X:=vp T (qn h H);refine⟨v,λw=> ?_, .sv v⟩;simp only[execOp,V,X,Sem.run_bind];rw[Za (by simp) (by simp)];simp[Result.andThen,u w]
  |_=>exact e.elim
end
section
def bat(s:O6) (j:Nat):Nat:=(s[j]?.getD 0).toNat
def gs:AV->Option O6
 | .str l=>some (mkS l)
 | .sv (.string s)=>some s
 |_=>none
def Qm{I:In} {a:AV} {s:O6} {v:Value} (h:gs a=some s) (r:VR I a v):v= .string s:=by
 unfold gs at h;split at h
 ·cases h;cases r;rfl
 ·cases h;cases r;rfl
 ·cases h
def Z9(t:T AV):Option Operand->Option (Option (IntKind×Int))
  |none=>some none
  | some x=>match ev t x with
    | some a=>match gi a with
      |some p=>some (some p)
      |none=>none
    |none=>none
def VD{I:In} {t:T AV} {a:Act} (h:TR I t a.tmps) {x:Option Operand} {v} (e:Z9 t x=some v):x.map a.eval=v.map λp=>Value.int p.1 p.2:=by
  cases x with
  |none=>simp[Z9]at e;subst e;rfl
  | some x=>
    simp only[Z9]at e;split at e
    · rename_i b u;split at e
      · rename_i p hp;cases e;obtain⟨k,n⟩:=p;simp[vp hp (qn h u)]
      · cases e
    · cases e
def WL(len cap:Nat) (lo hi:Option (IntKind×Int)) (K:Nat->Nat->Prop):Prop:=match lo,hi with
 |none,none=>Ob (len<=cap)/\K 0 len
 |some (_,x),none=>Ob (0<=x/\x<=(len:Int))/\K x.toNat len
 |none,some (_,y)=>Ob (0<=y/\y<=(cap:Int))/\K 0 y.toNat
 |some (_,x),some (_,y)=>Ob (0<=x/\x<=y/\y<=(cap:Int))/\K x.toNat y.toNat
def q9r{P:O7} {b:Bool} {len cap:Nat} {lo hi:Option (IntKind×Int)} {K:Nat->Nat->Prop} (h:WL len cap lo hi K):∃l u,(∀w,(Instr.sliceBounds b len cap (lo.map λp=>Value.int p.1 p.2) (hi.map λp=>Value.int p.1 p.2) none).run P w= .ok (l,u,cap) w)/\K l u:=by
 unfold WL at h;split at h
 ·exact⟨_,_,λw=>by simp[Instr.sliceBounds,Result.andThen],h.2⟩
 ·rename_i k x;refine⟨_,_,λw=> ?_,h.2⟩;have A:=h.1;simp[Instr.sliceBounds,Instr.sliceBound,asIntOf,Result.andThen,A.1,A.2]
 ·rename_i k y;refine⟨_,_,λw=> ?_,h.2⟩;have A:=h.1;simp[Instr.sliceBounds,Instr.sliceBound,asIntOf,Result.andThen,A.1,A.2]
 ·rename_i k x J y;refine⟨_,_,λw=> ?_,h.2⟩;have A:=h.1;have C:x<=((y.toNat:Nat):Int):=by have:=A.2.1;have:=A.1;omega
  have G:0<=y:=by have:=A.2.1;have:=A.1;omega
  have H:max y 0=y:=by omega
  simp[Instr.sliceBounds,Instr.sliceBound,asIntOf,Result.andThen,A.1,A.2.2,C,G,H,A.2.1]
def Zk (P:O7):Q5:=λt o K=>match o.op with
  | .index A x i=>match P.underlying A with
    | some .string=>match ev t x with
      | some a=>match gs a with
        | some s=>match ev t i with
          | some b=>match gi b with
            |some (_,n)=>Ob (0<=n/\n<(s.size:Int))/\K (.sv (.int .u8 (bat s n.toNat:Nat)))
            |none=>False
          |none=>False
        |none=>False
      |none=>False
    |_=>False
  | .slice A x lo hi none=>match P.underlying A with
    | some .string=>match ev t x with
      | some a=>match gs a with
        | some s=>match Z9 t lo with
          | some l=>match Z9 t hi with
            |some h=>WL s.size s.size l h λl u=>K (.sv (.string (s.extract l u)))
            |none=>False
          |none=>False
        |none=>False
      |none=>False
    |_=>False
  | .call c =>match c.callee with
    | .builtin .len=>match c.argTypes.toList with
      | [ty]=>match P.underlying ty with
        | some .string=>match kA t c.args.toList with
          | some [a]=>match gs a with
            |some s=>K (.sv (.int .i64 (s.size:Nat)))
            |none=>False
          |_=>False
        |_=>False
      |_=>False
    | .builtin .max=>match kA t c.args.toList with
      | some [a,b]=>match gi a with
        | some (k,x)=>match gi b with
          |some (j,y)=>K (.sv (.int k (if y>x then y else x)))
          |none=>False
        |none=>False
      |_=>False
    | .builtin .min=>match kA t c.args.toList with
      | some [a,b]=>match gi a with
        | some (k,x)=>match gi b with
          |some (j,y)=>K (.sv (.int k (if y<x then y else x)))
          |none=>False
        |none=>False
      |_=>False
    |_=>False
  |_=>Gd P t o K
def qdi(P:O7):JG P (Zk P):=by
  intro t o K e;have e0:=e;obtain⟨dst,op,ty,pos,after,guard⟩:=o;cases op with
  | index xt x i=>
    simp only[Zk]at e;split at e;case h_2=>exact e.elim
    rename_i hu;split at e;case h_2=>exact e.elim
    rename_i a A;split at e;case h_2=>exact e.elim
    rename_i s hs;split at e;case h_2=>exact e.elim
    rename_i b J;split at e;case h_2=>exact e.elim
    rename_i k n hn;obtain⟨⟨C,H⟩,h3⟩:=e;refine⟨_,λI ac h=>⟨_,λw=> ?_, .sv _⟩,h3⟩;have T:n.toNat<s.size:=(by omega);have hg:s[n.toNat]? =some s[n.toNat]:=(by simp[T]);simp only[execOp,Qm hs (qn h A),vp hn (qn h J),Instr.index,asIntOf,Sem.run_bind,Sem.run_pure,Result.andThen,run_underlying hu,if_pos C,hg,bat,Option.getD_some]
  | slice xt x lo hi mx=>
    cases mx with
    |some m=>exact e.elim
    | none=>
      simp only[Zk]at e;split at e;case h_2=>exact e.elim
      rename_i hu;split at e;case h_2=>exact e.elim
      rename_i a A;split at e;case h_2=>exact e.elim
      rename_i s hs;split at e;case h_2=>exact e.elim
      rename_i l hl;split at e;case h_2=>exact e.elim
      rename_i u hh;obtain⟨l',u',C,H⟩:=q9r (P:=P) (b:=false) e;refine⟨_,λI ac h=>⟨_,λw=> ?_, .sv _⟩,H⟩;have g1:=VD h hl;have g2:=VD h hh;simp[execOp,Qm hs (qn h A),g1,g2,Instr.sliceAt,Instr.slice,run_underlying hu,Result.andThen,C w]
  | call c=>
    obtain⟨callee,args,Z⟩:=c;cases callee with
    | builtin b=>
      cases b<;>first|exact e.elim|skip
      case max=>
        simp only[Zk]at e;split at e;case h_2=>exact e.elim
        rename_i a b G;split at e;case h_2=>exact e.elim
        rename_i k x A;split at e;case h_2=>exact e.elim
        rename_i j y J;refine⟨_,λI ac h=> ?_,e⟩;obtain⟨u,v,O,C,H⟩:=WU (vm h G);have X:=vp A C;have Y:=vp J H;subst X Y;have e1:args.map ac.eval= #[.int k x, .int j y]:=(by apply Array.toList_inj.1;simpa using O);refine⟨_,λw=> ?_, .sv _⟩;simp only[execOp,resolve,Sem.run_bind,Sem.run_pure,Result.andThen,invoke,e1];simp[builtin,Builtin.max_,Builtin.max2,Result.andThen]
      case min=>
        simp only[Zk]at e;split at e;case h_2=>exact e.elim
        rename_i a b G;split at e;case h_2=>exact e.elim
        rename_i k x A;split at e;case h_2=>exact e.elim
        rename_i j y J;refine⟨_,λI ac h=> ?_,e⟩;obtain⟨u,v,O,C,H⟩:=WU (vm h G);have X:=vp A C;have Y:=vp J H;subst X Y;have e1:args.map ac.eval= #[.int k x, .int j y]:=(by apply Array.toList_inj.1;simpa using O);refine⟨_,λw=> ?_, .sv _⟩;simp only[execOp,resolve,Sem.run_bind,Sem.run_pure,Result.andThen,invoke,e1];simp[builtin,Builtin.min_,Builtin.min2,Result.andThen]
      simp only[Zk]at e;split at e;case h_2=>exact e.elim
      rename_i ty' N;split at e;case h_2=>exact e.elim
      rename_i hu;split at e;case h_2=>exact e.elim
      rename_i a A;split at e;case h_2=>exact e.elim
      rename_i s hs;refine⟨_,λI ac h=> ?_,e⟩;have O:=vm h A;obtain⟨v,U,V⟩:=ux O;have r:=Qm hs V;subst r;refine⟨.int .i64 (s.size:Nat),λw=> ?_, .sv _⟩;have e1:args.map ac.eval= #[.string s]:=(by apply Array.toList_inj.1;simpa using U);obtain⟨tl⟩:=Z;simp only at N;subst N;simp only[execOp,resolve,Sem.run_bind,Sem.run_pure,Result.andThen,invoke,e1];simp[builtin,Builtin.len_,run_underlying hu,Result.andThen,goInt]
    |_=>exact e.elim
  |_=>exact qgu P _ _ _ e
end
section
def shP(op:BinOp) (k:IntKind) (x y:Int):Int:=match op with
 | .shl=>k.wrap (x*2 ^ min y.toNat k.bits)
 |_=>x.fdiv (2 ^ min y.toNat k.bits)
def qcn(x y:O6):Bool:=Op.bytesLess x.toList y.toList
def qh1(x y:O6):(x.toList==y.toList)=decide (x=y):=by
 rw[ByteArray.toList_eq,ByteArray.toList_eq];by_cases h:x=y
 ·subst h;simp
 ·have:x.data.toList≠y.data.toList:=λe=>h (ByteArray.ext (Array.toList_inj.1 e));rw[decide_eq_false h];simpa using this
def If(op:BinOp) (x y:O6) (K:AV->Prop):Prop:=match op with
 | .add=>Ob (x.size+y.size<=9223372036854775807)/\K (.sv (.string (x++y)))
 | .eql=>K (.sv (.bool (decide (x=y))))
 | .neq=>K (.sv (.bool (!decide (x=y))))
 | .lss=>K (.sv (.bool (qcn x y)))
 | .leq=>K (.sv (.bool (qcn x y||decide (x=y))))
 | .gtr=>K (.sv (.bool (!(qcn x y||decide (x=y)))))
 | .geq=>K (.sv (.bool (!qcn x y)))
 |_=>False
variable {t:TypeId} {K:AV->Prop}
def qfb{P:O7} {op:BinOp} {x y:O6} (h:If op x y K):∃v,(∀w,(binOp op t (.string x) (.string y)).run P w= .ok v w)/\K (.sv v):=by
 cases op<;>simp only[If]at h<;>first
  |exact h.elim
  |exact⟨_,λw=>by simp only[binOp,Op.stringOp,qh1];rfl,h⟩
  |skip
 refine⟨_,λw=> ?_,h.2⟩;have u:=h.1;simp only[binOp,Op.stringOp];rw[if_neg (by simp[IntKind.max,IntKind.bits,IntKind.signed];omega)];rfl
def qgt(op:BinOp) (x y:Bool) (K:AV->Prop):Prop:=match op with
 | .eql=>K (.sv (.bool (decide (x=y))))
 | .neq=>K (.sv (.bool (!decide (x=y))))
 |_=>False
def isNil(d:TypeDesc) (a b:AV):Option (Option Addr×Bool):=match d,a,b with
 | .pointer _, .sv (.pointer p), .nilp=>some (p,true)
 | .pointer _, .nilp, .sv (.pointer p)=>some (p,false)
 | .slice _, .sv (.slice p _ _), .nsl=>some (p,true)
 | .slice _, .nsl, .sv (.slice p _ _)=>some (p,false)
 |_,_,_=>none
def tN{P:O7} {I:In} {d:TypeDesc} {a b:AV} {p:Option Addr} {l:Bool} {u v:Value} (hd:P.underlying t=some d) (h:isNil d a b=some (p,l)) (A:VR I a u) (C:VR I b v):(∀k n,u≠ .int k n)/\(∀k n,u≠ .float k n)/\(∀k n m,u≠ .complex k n m)/\(∀s,u≠ .string s)/\(u= .nilIface->False)/\(∀c,u= .agg c->False)/\∀w,(Op.equal t u v).run P w= .ok (decide (p=none)) w:=by
 unfold isNil at h;have hr:=λw=>run_underlying (P:=P) hd w;split at h;all_goals first| (cases h;done)|skip
 all_goals
  cases h;cases A;cases C;refine⟨by simp,by simp,by simp,by simp,by simp,by simp,λw=>Jr hd w _ λn=> ?_⟩
 all_goals
  cases p<;>simp[Op.equalIn,hr,Result.andThen]
def qj7(d:TypeDesc) (op:BinOp) (a b:AV) (K:AV->Prop):Prop:=match isNil d a b with
  | some (p,_)=>match op with
    | .eql=>K (.sv (.bool (decide (p=none))))
    | .neq=>K (.sv (.bool (!decide (p=none))))
    |_=>False
  |none=>False
def RH(s:IntKind) (d:IntKind) (n:Int) (K:AV->Prop):Prop:=match d,s with
 | .i64, .u64=>K (.sv (.int .i64 (IntKind.i64.wrap n)))
 | .i64,_=>Ob (-9223372036854775808<=n/\n<=9223372036854775807)/\K (.sv (.int .i64 n))
 | .u64, .u8=>Ob (0<=n/\n<=18446744073709551615)/\K (.sv (.int .u64 n))
 | .u64, .u16=>Ob (0<=n/\n<=18446744073709551615)/\K (.sv (.int .u64 n))
 | .u64, .u32=>Ob (0<=n/\n<=18446744073709551615)/\K (.sv (.int .u64 n))
 |d,_=>K (.sv (.int d (d.wrap n)))
def qg6{s d:IntKind} {n:Int} (h:RH s d n K):K (.sv (.int d (d.wrap n))):=by
 have u: -9223372036854775808<=n/\n<=9223372036854775807->IntKind.i64.wrap n=n:=λh=>by unfold IntKind.wrap;simp[IntKind.bits,IntKind.signed];omega
 have u64:0<=n/\n<=18446744073709551615->IntKind.u64.wrap n=n:=λh=>by unfold IntKind.wrap;simp[IntKind.bits,IntKind.signed];omega
 cases d<;>cases s<;>simp only[RH]at h<;>first
  |exact h
  | (rw[u h.1];exact h.2)
  | (rw[u64 h.1];exact h.2)
def qUn(op:UnOp) (a:AV) (K:AV->Prop):Prop:=match op with
  | .not=>match gb a with
    |some b=>K (.sv (.bool (!b)))
    |none=>False
  | .neg=>match gi a with
    |some (k,n)=>GF k (0- n) K
    |none=>False
  | .xor=>match gi a with
    |some (k,n)=>K (.sv (.int k (q9p .xor k (match k.signed with|true=> -1|false=>k.max) n)))
    |none=>False
  |_=>False
def Zl (P:O7):Q5:=λt o K=>match o.op with
  | .binOp op h x y _=>match ev t x with
    | some a => match ev t y with
      | some b=>match gi a with
        | some (k,n)=>match gi b with
          | some (j,m)=>match op with
            | .shl=>Ob (0<=m)/\K (.sv (.int k (shP .shl k n m)))
            | .shr=>Ob (0<=m)/\K (.sv (.int k (shP .shr k n m)))
            | .quo=>tB (Q8 k j) (Ob (m≠0)/\K (.sv (.int k (k.wrap (n.tdiv m)))))
            | .rem=>tB (Q8 k j) (Ob (m≠0)/\K (.sv (.int k (n.tmod m))))
            |_=>Zk P t o K
          |none=>False
        | none=>match gs a with
          | some s=>match gs b with
            |some r=>If op s r K
            |none=>False
          | none=>match gb a with
            | some p=>match gb b with
              | some q=>match P.underlying h with
                |some .bool=>qgt op p q K
                |_=>False
              |none=>False
            | none=>match P.underlying h with
              |some d=>qj7 d op a b K
              |none=>False
      |none=>False
    |none=>False
  | .unOp op _ x=>match ev t x with
    |some a=>qUn op a K
    |none=>False
  | .convert s d x=>match ev t x with
    | some a=>match P.underlying s with
      | some _=>match P.underlying d with
        | some (.int u)=>match gi a with
          |some (k,n)=>RH k u n K
          |none=>False
        | some .string=>match gs a with
          |some r=>K (.sv (.string r))
          |none=>False
        |_=>False
      |none=>False
    |none=>False
  |_=>Zk P t o K
def VG (P : O7):JG P (Zl P):=by
  intro t o K e;have e0:=e;obtain⟨dst,op,ty,pos,after,guard⟩:=o;cases op with
  | binOp op C x y yt=>
    simp only[Zl]at e;split at e;case h_2=>exact e.elim
    rename_i a A;split at e;case h_2=>exact e.elim
    rename_i b G;have fin:∀{v:Value},(∀I (ac:Act),TR I t ac.tmps->(ac.eval x= .nilIface->False)/\(∀c,ac.eval x= .agg c->False)/\∀w,(binOp op C (ac.eval x) (ac.eval y)).run P w= .ok v w)->QP P t ⟨dst, .binOp op C x y yt,ty,pos,after,guard⟩ (.sv v):=λ{v} h I ac u=>(by obtain⟨O,T,h3⟩:=h I ac u;refine⟨v,λw=> ?_, .sv v⟩;simp only[execOp,Sem.run_bind];rw[Za O T];simp[Result.andThen,h3 w]);split at e
    · rename_i k n H;split at e;case h_2=>exact e.elim
      rename_i j m hj;have vals:∀I (ac:Act),TR I t ac.tmps->ac.eval x= .int k n/\ac.eval y= .int j m:=λI ac u=>⟨vp H (qn u A),vp hj (qn u G)⟩;split at e
      · refine⟨_,fin λI ac u=> ?_,e.2⟩;obtain⟨J,N⟩:=vals I ac u;rw[J,N];refine⟨by simp,by simp,λw=> ?_⟩;simp only[binOp,Op.shift];rw[if_neg (by have:=e.1;omega)];rfl
      · refine⟨_,fin λI ac u=> ?_,e.2⟩;obtain⟨J,N⟩:=vals I ac u;rw[J,N];refine⟨by simp,by simp,λw=> ?_⟩;simp only[binOp,Op.shift];rw[if_neg (by have:=e.1;omega)];rfl
      · obtain⟨e1,e2,e3⟩:=qU e;have:=Jy e1;subst this;refine⟨_,fin λI ac u=> ?_,e3⟩;obtain⟨J,N⟩:=vals I ac u;rw[J,N];refine⟨by simp,by simp,λw=> ?_⟩;simp only[binOp,ne_eq,not_true,if_false,Op.intDiv];rw[if_neg e2];rfl
      · obtain⟨e1,e2,e3⟩:=qU e;have:=Jy e1;subst this;refine⟨_,fin λI ac u=> ?_,e3⟩;obtain⟨J,N⟩:=vals I ac u;rw[J,N];refine⟨by simp,by simp,λw=> ?_⟩;simp only[binOp,ne_eq,not_true,if_false,Op.intDiv];rw[if_neg e2];rfl
      · exact qdi P _ _ _ e
    · split at e
      · rename_i s hs;split at e;case h_2=>exact e.elim
        rename_i r hr;obtain⟨v,O,T⟩:=qfb (P:=P) (t:=C) e;refine⟨_,fin λI ac u=> ?_,T⟩;rw[Qm hs (qn u A),Qm hr (qn u G)];exact⟨by simp,by simp,O⟩
      · split at e
        · rename_i p hp;split at e;case h_2=>exact e.elim
          rename_i q hq;split at e;case h_2=>exact e.elim
          rename_i hu;have hr:=λw=>run_underlying (P:=P) hu w;have:∃c:Bool,(∀I (ac:Act),TR I t ac.tmps->(ac.eval x= .nilIface->False)/\(∀c,ac.eval x= .agg c->False)/\∀w,(binOp op C (ac.eval x) (ac.eval y)).run P w= .ok (.bool c) w)/\K (.sv (.bool c)):=by
            unfold qgt at e;split at e
            · refine⟨_,λI ac u=> ?_,e⟩;rw[WD hp (qn u A),WD hq (qn u G)];refine⟨by simp,by simp,λw=> ?_⟩;have he:(Op.equal C (.bool p) (.bool q)).run P w= .ok (decide (p=q)) w:=Jr hu w _ λn=>(by cases p<;>cases q<;>simp[Op.equalIn,hr,Result.andThen]);first
                | (rw[(Eng.binOp_eql (t:=C) (a:=Value.bool p) (b:=Value.bool q) (by simp) (by simp) (by simp) (by simp)).1];simp[he,Result.andThen];done)
                | (rw[(Eng.binOp_eql (t:=C) (a:=Value.bool p) (b:=Value.bool q) (by simp) (by simp) (by simp) (by simp)).2];simp[he,Result.andThen])
            · refine⟨_,λI ac u=> ?_,e⟩;rw[WD hp (qn u A),WD hq (qn u G)];refine⟨by simp,by simp,λw=> ?_⟩;have he:(Op.equal C (.bool p) (.bool q)).run P w= .ok (decide (p=q)) w:=Jr hu w _ λn=>(by cases p<;>cases q<;>simp[Op.equalIn,hr,Result.andThen]);first
                | (rw[(Eng.binOp_eql (t:=C) (a:=Value.bool p) (b:=Value.bool q) (by simp) (by simp) (by simp) (by simp)).1];simp[he,Result.andThen];done)
                | (rw[(Eng.binOp_eql (t:=C) (a:=Value.bool p) (b:=Value.bool q) (by simp) (by simp) (by simp) (by simp)).2];simp[he,Result.andThen])
            · exact e.elim
          obtain⟨c,O,T⟩:=this;exact⟨_,fin O,T⟩
        · split at e;case h_2=>exact e.elim
          rename_i d hu;unfold qj7 at e;split at e;case h_2=>exact e.elim
          rename_i p l hn;split at e
          · refine⟨_,fin λI ac u=> ?_,e⟩;obtain⟨U,V,X,Y,Z,g6,g7⟩:=tN hu hn (qn u A) (qn u G);refine⟨Z,g6,λw=> ?_⟩;rw[(Eng.binOp_eql U V X Y).1];simp[g7 w,Result.andThen]
          · refine⟨_,fin λI ac u=> ?_,e⟩;obtain⟨U,V,X,Y,Z,g6,g7⟩:=tN hu hn (qn u A) (qn u G);refine⟨Z,g6,λw=> ?_⟩;rw[(Eng.binOp_eql U V X Y).2];simp[g7 w,Result.andThen]
          · exact e.elim
  | unOp op C x=>
    simp only[Zl]at e;split at e;case h_2=>exact e.elim
    rename_i a A;unfold qUn at e;split at e
    · split at e;case h_2=>exact e.elim
      rename_i b G;refine⟨_,λI ac u=>⟨_,λw=> ?_, .sv _⟩,e⟩;simp only[execOp,WD G (qn u A),Op.unary];rfl
    · split at e;case h_2=>exact e.elim
      rename_i k n H;refine⟨_,λI ac u=>⟨_,λw=> ?_, .sv _⟩,qai e⟩;simp only[execOp,vp H (qn u A),Op.unary,Op.intArith];rfl
    · split at e;case h_2=>exact e.elim
      rename_i k n H;refine⟨_,λI ac u=>⟨_,λw=> ?_, .sv _⟩,e⟩;simp only[execOp,vp H (qn u A),Op.unary,Op.intBits];cases k<;>rfl
    · exact e.elim
  | convert s d x=>
    simp only[Zl]at e;split at e;case h_2=>exact e.elim
    rename_i a A;split at e;case h_2=>exact e.elim
    rename_i ds hs;split at e
    · rename_i kd hd;split at e;case h_2=>exact e.elim
      rename_i k n H;refine⟨_,λI ac u=>⟨_,λw=> ?_, .sv _⟩,qg6 e⟩;simp[execOp,vp H (qn u A),convert,run_underlying hs,run_underlying hd,Result.andThen,Conv.intToInt]
    · rename_i hd;split at e;case h_2=>exact e.elim
      rename_i r hr;refine⟨_,λI ac u=>⟨.string r,λw=> ?_, .sv _⟩,e⟩;simp[execOp,Qm hr (qn u A),convert,run_underlying hs,run_underlying hd,Result.andThen]
    · exact e.elim
  |_=>exact qdi P _ _ _ e
end
section
def adr(a:Option Addr) (k:Nat):Addr:=match a with
 |some x=>x.add k
 |none=>⟨0,0,none⟩
def slA(a:Option Addr) (c l sz:Nat):Option Addr:=if c=l then a else a.map (·.add (l*sz))
def N8:AV->Option Nat
 | .sv (.slice _ n _)=>some n
 | .ssl _ _ n _ _=>some n
 | .msl _ n _=>some n
 | .usl _ _ n _=>some n
 |_=>none
variable {a:AV} {v:Value}
def qer{I:In} {n:Nat} (h:N8 a=some n) (r:VR I a v):∃p c,v= .slice p n c:=by
 unfold N8 at h;split at h
 ·cases h;cases r;exact⟨_,_,rfl⟩
 ·cases h;cases r with
  |ssl=>exact⟨_,_,rfl⟩
  |ssl0 h=>subst h;exact⟨_,_,rfl⟩
 ·cases h;cases r with|msl=>exact⟨_,_,rfl⟩
 ·cases h;cases r with
  |usl=>exact⟨_,_,rfl⟩
  |usl0 h=>subst h;exact⟨_,_,rfl⟩
 ·cases h
def JH:AV->Option (Nat×Nat×Nat×Nat)
 | .ssl id off n esz _=>some (id,off,n,esz)
 | .msl id n esz=>some (id,0,n,esz)
 | .usl id off n esz=>some (id,off,n,esz)
 |_=>none
def Wr{I:In} {id off n esz:Nat} (h:JH a=some (id,off,n,esz)) (r:VR I a v):(n=0/\v= .slice none 0 0)\/∃b s t o c,I id=some (b,s,t)/\v= .slice (some ⟨b,o,none⟩) n c/\n<=c/\off+c*esz<=t/\(o=s+off\/c=0):=by
 unfold JH at h;split at h
 ·cases h;cases r with
  |ssl h C u A=>exact .inr ⟨_,_,_,_,_,h,rfl,C,u,A⟩
  |ssl0 h=>exact .inl ⟨h,rfl⟩
 ·cases h;cases r with
  | @msl _ _ _ b s t h u A=>exact .inr ⟨b,s,t,s,_,h,rfl,(Nat.le_div_iff_mul_le A).2 u,by rw[Nat.zero_add];exact Nat.div_mul_le_self _ _, .inl rfl⟩
 ·cases h;cases r with
  |usl h C u A=>exact .inr ⟨_,_,_,_,_,h,rfl,C,u,A⟩
  |usl0 h=>exact .inl ⟨h,rfl⟩
 ·cases h
def jv:Option (IntKind×Int)->Nat
 |none=>0
 |some (_,x)=>x.toNat
def wI(n:Nat):Option (IntKind×Int)->Nat
 |none=>n
 |some (_,x)=>x.toNat
def Qo(len cap:Nat) (lo hi:Option (IntKind×Int)):Prop:=match lo,hi with
 |none,none=>len<=cap
 |some (_,x),none=>0<=x/\x<=(len:Int)
 |none,some (_,y)=>0<=y/\y<=(cap:Int)
 |some (_,x),some (_,y)=>0<=x/\x<=y/\y<=(cap:Int)
def q9q{len cap:Nat} (u:len<=cap) {lo hi:Option (IntKind×Int)} (h:Qo len len lo hi):Qo len cap lo hi:=by unfold Qo at h⊢;split<;>simp only at h<;>omega
def qea{len:Nat} {cap:Nat} {lo hi:Option (IntKind×Int)} (h:Qo len cap lo hi):jv lo<=wI len hi/\(len<=cap->wI len hi<=cap):=by unfold Qo at h;split at h<;>simp only[jv,wI]<;>omega
def FI{P:O7} {b:Bool} {len cap:Nat} {lo hi:Option (IntKind×Int)} (h:Qo len cap lo hi) (w:World):(Instr.sliceBounds b len cap (lo.map λp=>Value.int p.1 p.2) (hi.map λp=>Value.int p.1 p.2) none).run P w= .ok (jv lo,wI len hi,cap) w:=by
 have hp:WL len cap lo hi λl u=>l=jv lo/\u=wI len hi:=by unfold Qo at h;unfold WL;split at h<;>simp only[jv,wI,and_self,and_true,true_and]<;>exact h
 obtain⟨l,u,A,C,G⟩:=q9r (P:=P) (b:=b) hp;rw[A w,C,G]
def A_(a:Option Addr) (K:Prop):Prop:=Ob (a≠none)/\K
def Ie(P:O7) (ty:TypeId) (a:AV) (i:Int) (K:AV->Prop):Prop:=match P.underlying ty with
  | some (.slice e)=>match P.info? e with
    | some j=>match JH a with
      |some (id,off,n,esz)=>tB (Nat.beq j.size esz) (Ob (0<=i/\i<(n:Int))/\K (.sptr id (off+i.toNat*esz)))
      | none=>match a with
        | .sv (.slice p n c)=>Ob (0<=i/\i<(n:Int))/\A_ p (K (.sv (.pointer (some (adr p (i.toNat*j.size))))))
        | .sl id off n _=>Ob (0<=i/\i<(n:Int))/\K (.sptr id (off+i.toNat*j.size))
        |_=>False
    |none=>False
  | some (.array n e)=>match P.info? e with
    | some j=>match a with
      | .ptr id off=>Ob (0<=i/\i<(n:Int))/\K (.sptr id (off+i.toNat*j.size))
      | .sptr id off=>Ob (0<=i/\i<(n:Int))/\K (.sptr id (off+i.toNat*j.size))
      | .sv (.pointer (some x))=>Ob (0<=i/\i<(n:Int))/\K (.sv (.pointer (some (x.add (i.toNat*j.size)))))
      |_=>False
    |none=>False
  |_=>False
def qf9{P:O7} {ty:TypeId} {i:Int} {K:AV->Prop} (e:Ie P ty a i K):∃r,(∀I u k,VR I a u->∃z,(∀w,(Instr.indexAt ty u (.int k i)).run P w= .ok z w)/\VR I r z)/\K r:=by
  unfold Ie at e;split at e
  · rename_i O hu;split at e;case h_2=>exact e.elim
    rename_i j N;have sz:=λw=>Eng.run_sizeOf (P:=P) N w;split at e
    · rename_i id off n esz T;obtain⟨H,h,J⟩:=qU e;have H:=Nat.eq_of_beq_eq_true H;refine⟨_,λI u k r=> ?_,J⟩;rcases Wr T r with⟨Y,_⟩|⟨b,s,t,o,c,C,rfl,V,X,G⟩
      · have:=h.2;omega
      · have U:o=s+off:=by
          rcases G with G|G
          · exact G
          · have:=h.2;omega
        subst U;refine⟨.pointer (some ⟨b,s+off+i.toNat*j.size,none⟩),λw=> ?_,?_⟩
        · simp[Instr.indexAt,asIntOf,run_underlying hu,Result.andThen,h.1,h.2,sz,kh]
        · rw[H,Nat.add_assoc];exact .sptr C
    · split at e
      · rename_i p n c _;obtain⟨h,J,A⟩:=e;refine⟨_,λI u k r=> ?_,A⟩;cases r;cases p with
        |none=>exact absurd rfl J
        | some x=>
          refine⟨.pointer (some (x.add (i.toNat*j.size))),λw=> ?_, .sv _⟩;simp[Instr.indexAt,asIntOf,run_underlying hu,Result.andThen,h.1,h.2,sz]
      · rename_i id off n cap _;obtain⟨h,A⟩:=e;refine⟨_,λI u k r=> ?_,A⟩;cases r with
        | @sl _ _ _ _ b s t C=>
          refine⟨.pointer (some ⟨b,s+off+i.toNat*j.size,none⟩),λw=> ?_,by rw[Nat.add_assoc];exact .sptr C⟩;simp[Instr.indexAt,asIntOf,run_underlying hu,Result.andThen,h.1,h.2,sz,kh]
      · exact e.elim
  · rename_i n O hu;split at e;case h_2=>exact e.elim
    rename_i j N;have sz:=λw=>Eng.run_sizeOf (P:=P) N w;split at e
    · rename_i id off;obtain⟨h,A⟩:=e;refine⟨_,λI u k r=> ?_,A⟩;cases r with
      | @ptr _ _ b s t C=>
        refine⟨.pointer (some ⟨b,s+off+i.toNat*j.size,none⟩),λw=> ?_,by rw[Nat.add_assoc];exact .sptr C⟩;simp[Instr.indexAt,asIntOf,run_underlying hu,Instr.sureAddr,Result.andThen,h.1,h.2,sz,kh]
    · rename_i id off;obtain⟨h,A⟩:=e;refine⟨_,λI u k r=> ?_,A⟩;cases r with
      | @sptr _ _ b s t C=>
        refine⟨.pointer (some ⟨b,s+off+i.toNat*j.size,none⟩),λw=> ?_,by rw[Nat.add_assoc];exact .sptr C⟩;simp[Instr.indexAt,asIntOf,run_underlying hu,Instr.sureAddr,Result.andThen,h.1,h.2,sz,kh]
    · rename_i x;obtain⟨h,A⟩:=e;refine⟨_,λI u k r=> ?_,A⟩;cases r;refine⟨.pointer (some (x.add (i.toNat*j.size))),λw=> ?_, .sv _⟩;simp[Instr.indexAt,asIntOf,run_underlying hu,Instr.sureAddr,Result.andThen,h.1,h.2,sz]
    · exact e.elim
  · exact e.elim
def uv (P:O7):Q5:=λt o K=>match o.op with
  | .slice A x lo hi none=>match P.underlying A with
    | some (.slice u)=>match ev t x with
      | some a=>match P.info? u with
        | some j=>match Z9 t lo with
          | some l=>match Z9 t hi with
            | some h=>match JH a with
              |some (id,off,n,esz)=>tB (Nat.beq j.size esz) (Ob (Qo n n l h)/\K (.usl id (off+jv l*esz) (wI n h- jv l) esz))
              | none=>match a with
                | .sv (.slice p n c)=>Ob (n<=c)/\Ob (Qo n c l h)/\K (.sv (.slice (slA p c (jv l) j.size) (wI n h- jv l) (c- jv l)))
                |_=>False
            |none=>False
          |none=>False
        |none=>False
      |none=>False
    |_=>Zl P t o K
  | .indexAddr ty x i=>match ev t x with
    | some a=>match ev t i with
      | some b=>match gi b with
        |some (_,n)=>Ie P ty a n K
        |none=>False
      |none=>False
    |none=>False
  | .fieldAddr s x f=>match P.underlying s with
    | some (.struct fs)=>match fs.toList[f]? with
      | some fd=>match P.info? fd.type with
        | some i=>match i.size with
          |0=>False
          | _+1=>match ev t x with
            |some (.sv (.pointer (some p)))=>K (.sv (.pointer (some (p.add fd.offset))))
            |some (.sv (.pointer p))=>A_ p (K (.sv (.pointer (some (adr p fd.offset)))))
            |some (.sptr id off)=>K (.sptr id (off+fd.offset))
            |_=>False
        |none=>False
      |none=>False
    |_=>False
  | .nilCheck x=>match ev t x with
    |some (.sv (.pointer (some p)))=>K (.sv (.pointer (some p)))
    |some (.sv (.pointer p))=>A_ p (K (.sv (.pointer p)))
    |some (.sptr id off)=>K (.sptr id off)
    |_=>False
  | .call c =>match c.callee with
    | .builtin .len=>match c.argTypes.toList with
      | [ty]=>match P.underlying ty with
        | some (.slice _)=>match kA t c.args.toList with
          | some [a]=>match N8 a with
            |some n=>K (.sv (.int .i64 (n:Nat)))
            |none=>False
          |_=>False
        |_=>Zl P t o K
      |_=>False
    |_=>Zl P t o K
  |_=>Zl P t o K
def qgv (P :O7):JG P (uv P):=by
  intro t o K e;have e0:=e;obtain⟨dst,op,ty,pos,after,guard⟩:=o;cases op with
  | slice xt x lo hi mx=>
    cases mx with
    |some m=>exact VG P _ _ _ (by simpa[uv]using e)
    | none=>
      simp only[uv]at e;split at e;case h_2=>exact VG P _ _ _ e
      rename_i el hu;split at e;case h_2=>exact e.elim
      rename_i a U;split at e;case h_2=>exact e.elim
      rename_i j hj;have sz:=λw=>Eng.run_sizeOf (P:=P) hj w;split at e;case h_2=>exact e.elim
      rename_i l hl;split at e;case h_2=>exact e.elim
      rename_i h hh;split at e
      · rename_i id off n esz hg;obtain⟨X,N,hk⟩:=qU e;have X:=Nat.eq_of_beq_eq_true X;refine⟨_,λI ac A=> ?_,hk⟩;have H:=VD A hl;have J:=VD A hh;have hx:=qn A U;generalize u:ac.eval x=O at hx;obtain⟨le1,le2⟩:=qea N;have le2:=le2 (Nat.le_refl _);rcases Wr hg hx with⟨h0,rfl⟩|⟨b,s,tt,o,c,T,rfl,k1,k2,k3⟩
        · subst h0;refine⟨.slice none 0 0,λw=> ?_, .usl0 (by omega)⟩;have hr:=FI (P:=P) (b:=true) N w;have e1:wI 0 h- jv l=0:=(by omega);have e2:jv l=0:=(by omega);rw[e2]at hr;simp[execOp,u,H,J,Instr.sliceAt,Instr.slice,run_underlying hu,Result.andThen,hr,sz w];omega
        · have Y:=q9q k1 N;have G:wI n h- jv l<=c- jv l:=(by omega);have C:off+jv l*esz+(c- jv l)*esz<=tt:=by have:jv l*esz+(c- jv l)*esz=c*esz:=(by rw[←Nat.add_mul];congr 1;omega);omega
          by_cases Z:c=jv l
          · refine⟨.slice (some ⟨b,o,none⟩) (wI n h- jv l) (c- jv l),λw=> ?_, .usl T G C (.inr (by omega))⟩;have hr:=FI (P:=P) (b:=true) Y w;simp[execOp,u,H,J,Instr.sliceAt,Instr.slice,run_underlying hu,Result.andThen,hr,sz w];intro hh;exact absurd Z hh
          · have ho:o=s+off:=by
              rcases k3 with k3|k3
              · exact k3
              · omega
            refine⟨.slice (some ⟨b,s+off+jv l*esz,none⟩) (wI n h- jv l) (c- jv l),λw=> ?_, .usl T G C (.inl (by omega))⟩;have hr:=FI (P:=P) (b:=true) Y w;simp[execOp,u,H,J,Instr.sliceAt,Instr.slice,run_underlying hu,Result.andThen,hr,sz w,Z,ho,X,kh]
      · split at e;case h_2=>exact e.elim
        rename_i p n c _;obtain⟨hn,N,hk⟩:=e;refine⟨_,λI ac A=>⟨_,λw=> ?_, .sv _⟩,hk⟩;have H:=VD A hl;have J:=VD A hh;have hx:=qn A U;generalize u:ac.eval x=O at hx;cases hx;have hr:=FI (P:=P) (b:=true) N w;simp[execOp,u,H,J,Instr.sliceAt,Instr.slice,run_underlying hu,Result.andThen,hr,sz w,slA]
  | indexAddr ty x i=>
    simp only[uv]at e;split at e;case h_2=>exact e.elim
    rename_i a U;split at e;case h_2=>exact e.elim
    rename_i b N;split at e;case h_2=>exact e.elim
    rename_i k n hn;obtain⟨r,X,h2⟩:=qf9 e;refine⟨r,λI ac A=> ?_,h2⟩;obtain⟨z,H,J⟩:=X I _ k (qn A U);refine⟨z,λw=> ?_,J⟩;simp only[execOp,vp hn (qn A N),Sem.run_bind,Result.andThen,H w,Sem.run_pure]
  | fieldAddr s x f=>
    simp only[uv]at e;split at e;case h_2=>exact e.elim
    rename_i fs hs;split at e;case h_2=>exact e.elim
    rename_i fd hf;split at e;case h_2=>exact e.elim
    rename_i i hi;split at e
    · exact e.elim
    rename_i m hm;have hz:i.size≠0:=(by omega);have hf':fs[f]? =some fd:=(by simpa using hf);have run:∀(V:Addr) w,(Instr.fieldAt s (.pointer (some V)) f).run P w= .ok (.pointer (some (V.add fd.offset))) w:=λV w=>(by simp[Instr.fieldAt,run_underlying hs,hf',Instr.sureAddr,fieldPlace,Eng.run_sizeOf hi,hz,Result.andThen]);split at e
    · rename_i p hx;refine⟨_,λI ac A=>⟨_,λw=> ?_, .sv _⟩,e⟩;have hx:=qn A hx;generalize u:ac.eval x=O at hx;cases hx;simp only[execOp,u,Sem.run_bind,Result.andThen,run,Sem.run_pure]
    · rename_i p _ hx;obtain⟨hp,e⟩:=e;refine⟨_,λI ac A=>⟨_,λw=> ?_, .sv _⟩,e⟩;have hx:=qn A hx;generalize u:ac.eval x=O at hx;cases hx;cases p with
      |none=>exact absurd rfl hp
      |some V=>simp only[execOp,u,Sem.run_bind,Result.andThen,run,Sem.run_pure,adr]
    · rename_i id off hx;refine⟨_,λI ac A=> ?_,e⟩;have hx:=qn A hx;generalize u:ac.eval x=O at hx;cases hx with
      | @sptr _ _ b s t T=>
        refine⟨.pointer (some ⟨b,s+off+fd.offset,none⟩),λw=> ?_,by rw[Nat.add_assoc];exact .sptr T⟩;simp only[execOp,u,Sem.run_bind,Result.andThen,run,Sem.run_pure,kh]
    · exact e.elim
  | nilCheck x=>
    simp only[uv]at e;split at e
    · rename_i p hx;refine⟨_,λI ac A=>⟨_,λw=> ?_, .sv _⟩,e⟩;have hx:=qn A hx;generalize u:ac.eval x=O at hx;cases hx;simp only[execOp,u];rfl
    · rename_i p _ hx;obtain⟨hp,e⟩:=e;refine⟨_,λI ac A=>⟨_,λw=> ?_, .sv _⟩,e⟩;have hx:=qn A hx;generalize u:ac.eval x=O at hx;cases hx;cases p with
      |none=>exact absurd rfl hp
      |some V=>simp only[execOp,u];rfl
    · rename_i id off hx;refine⟨_,λI ac A=> ?_,e⟩;have hx:=qn A hx;generalize u:ac.eval x=O at hx;cases hx with
      |sptr T=>exact⟨_,λw=>by simp only[execOp,u];rfl, .sptr T⟩
    · exact e.elim
  | call c=>
    obtain⟨callee,args,tys⟩:=c;cases callee with
    | builtin b=>
      cases b;case len=>
        simp only[uv]at e;split at e;case h_2=>exact e.elim
        rename_i ty' hty;split at e;case h_2=>exact VG P _ _ _ e
        rename_i el hu;split at e;case h_2=>exact e.elim
        rename_i a U;split at e;case h_2=>exact e.elim
        rename_i n hn;refine⟨_,λI ac A=> ?_,e⟩;have hv:=vm A U;obtain⟨v,hv1,hv2⟩:=ux hv;obtain⟨p,c,rfl⟩:=qer hn hv2;refine⟨.int .i64 (n:Nat),λw=> ?_, .sv _⟩;have e1:args.map ac.eval= #[.slice p n c]:=(by apply Array.toList_inj.1;simpa using hv1);obtain⟨tl⟩:=tys;simp only at hty;subst hty;simp only[execOp,resolve,Sem.run_bind,Sem.run_pure,Result.andThen,invoke,e1];simp[builtin,Builtin.len_,run_underlying hu,Result.andThen,goInt]
      all_goals exact VG P _ _ _ (by simpa only[uv]using e)
    |_=>exact VG P _ _ _ (by simpa only[uv]using e)
  |_=>exact VG P _ _ _ (by simpa only[uv]using e)
end
section
inductive CK where
 |int (k:IntKind)
 |bool
 |str
 |sl
 |ptr
 |map
def qj1:TypeDesc->Option CK
 | .bool=>some .bool
 | .int k=>some (.int k)
 | .string=>some .str
 | .pointer _=>some .ptr
 | .slice _=>some .sl
 | .map _ _=>some .map
 |_=>none
def xo:List CK->Nat
 | []=>0
 |_::l=>Nat.succ (xo l)
def NW:List CK->List CK->List CK
 | [],m=>m
 |a::l,m=>a::NW l m
def qj8:Nat->List CK->List CK
 |0,_=>[]
 |n+1,l=>NW l (qj8 n l)
mutual
def NA(P:O7):Nat->TypeId->Option (List CK)
  |0,_=>none
  | f +1,t=>match P.underlying t with
    |some (.struct fs)=>cksFs P f fs.toList 0
    | some (.array n e)=>match NA P f e with
      |some a=>some (qj8 n a)
      |none=>none
    | some d=>match qj1 d with
      |some k=>some [k]
      |none=>none
    |none=>none
def cksFs(P:O7):Nat->List Field->Nat->Option (List CK)
  |0,_,_=>none
  |_+1,[],_=>some []
  | f + 1,x::l,o=>match Nat.beq x.offset o with
    | true=>match NA P f x.type with
      | some a=>match cksFs P f l (Nat.add o (xo a))with
        |some b=>some (NW a b)
        |none=>none
      |none=>none
    |false=>none
end
def x_:List CK->(List AV->List Value->Prop)->Prop
 | [],K=>K [] []
 | .int k::l,K=>∃n:Int,x_ l λa v=>K (.sv (.int k n)::a) (.int k n::v)
 | .bool::l,K=>∃b:Bool,x_ l λa v=>K (.sv (.bool b)::a) (.bool b::v)
 | .str::l,K=>∃s:O6,x_ l λa v=>K (.sv (.string s)::a) (.string s::v)
 | .sl::l,K=>∃(p:Option Addr) (n c:Nat),x_ l λa v=>K (.sv (.slice p n c)::a) (.slice p n c::v)
 | .ptr::l,K=>∃p:Option Addr,x_ l λa v=>K (.sv (.pointer p)::a) (.pointer p::v)
 | .map::l,K=>∃m:Option Nat,x_ l λa v=>K (.sv (.map m)::a) (.map m::v)
def Zg:∀{l:List CK} {K:List AV->List Value->Prop},x_ l K->∃a v,K a v/\(∀I,VRs I a v)/\v.length=xo l
  | [],K,h=>⟨[],[],h,λI=> .nil,rfl⟩
  | .int k::l,K,⟨n,h⟩=>by obtain⟨a,v,u,A,C⟩:=Zg h;exact⟨_,_,u,λI=> .cons (.sv _) (A I),by simp[C,xo]⟩
  | .bool::l,K,⟨n,h⟩=>by obtain⟨a,v,u,A,C⟩:=Zg h;exact⟨_,_,u,λI=> .cons (.sv _) (A I),by simp[C,xo]⟩
  | .str::l,K,⟨n,h⟩=>by obtain⟨a,v,u,A,C⟩:=Zg h;exact⟨_,_,u,λI=> .cons (.sv _) (A I),by simp[C,xo]⟩
  | .sl::l,K,⟨p,n,c,h⟩=>by obtain⟨a,v,u,A,C⟩:=Zg h;exact⟨_,_,u,λI=> .cons (.sv _) (A I),by simp[C,xo]⟩
  | .ptr::l,K,⟨n,h⟩=>by obtain⟨a,v,u,A,C⟩:=Zg h;exact⟨_,_,u,λI=> .cons (.sv _) (A I),by simp[C,xo]⟩
  | .map::l,K,⟨n,h⟩=>by obtain⟨a,v,u,A,C⟩:=Zg h;exact⟨_,_,u,λI=> .cons (.sv _) (A I),by simp[C,xo]⟩
def qfi(vs:List Value) (off:Nat) (us:List Value):Prop:=∀(j:Nat) v,us[j]? =some v->vs[off+j]? =some v
def Jn (P:O7) (t:TypeId) (src:List Value->Prop) (K:AV->Prop):Prop:=match shapeOf P t with
  | some none=>match P.underlying t with
    | some d=>match qj1 d with
      | some k=>x_ [k] λa v=>match a with
        | [x]=>Ob (src v)/\K x
        |_=>False
      |none=>False
    |none=>False
  | some (some n)=>match NA P 20 t with
    |some l=>tB (Nat.beq (xo l) n) (x_ l λa v=>Ob (src v)/\K (.agg a))
    |none=>False
  |none=>False
def Nm{P:O7} {t:TypeId} {src:List Value->Prop} {K:AV->Prop} (e:Jn P t src K):∃a vs,src vs/\K a/\∀I w (h:Addr),(∀(j:Nat) v,vs[j]? =some v->w.cell? (h.add j)=some v)->∃z,(loadVar t h).run P w= .ok z w/\VR I a z:=by
  unfold Jn at e;split at e
  · rename_i A;split at e;case h_2=>exact e.elim
    rename_i d hd;split at e;case h_2=>exact e.elim
    rename_i k hk;obtain⟨a,v,C,J,V⟩:=Zg e;split at C;case h_2=>exact C.elim
    rename_i x;obtain⟨X,Y⟩:=C;refine⟨x,v,X,Y,λI w h N=> ?_⟩;have hv:=J I;cases hv with
    | @cons _ _ z _ hz Z=>
      cases Z;obtain⟨G,U⟩:=Vp (P:=P) (w:=w) A;refine⟨z,?_,hz⟩;have u:w.cell? h=some z:=by have:=N 0 z rfl;simpa[Addr.add]using this
      have O:(load h).run P w= .ok z w:=(by simp[load,Sem.run,u]);simp[loadVar,G,O,Result.andThen]
  · rename_i n A;split at e;case h_2=>exact e.elim
    rename_i l hl;obtain⟨T,e⟩:=qU e;have T:=Nat.eq_of_beq_eq_true T;obtain⟨a,v,⟨C,H⟩,J,V⟩:=Zg e;refine⟨_,v,C,H,λI w h N=> ?_⟩;obtain⟨G,U⟩:=Vp (P:=P) (w:=w) A;have hr:=run_loadCells_list (P:=P) w h v N;rw[V,T]at hr;refine⟨.agg ⟨v⟩,?_, .agg (J I)⟩;simp[loadVar,G,U n rfl,hr,Result.andThen]
  · exact e.elim
def rowOf:AO->Option (List Value)
 | .row _ _ vs=>some vs
 | .cells _ _ _ l=>jL l
 |_=>none
variable {I:In}
def qcm{t:Nat×Nat} {o:AO} {ob:Obj} {vs:List Value} (h:rowOf o=some vs) (G:OR I t o ob):∃pre rest e fr,ob= .cells ⟨pre++(vs++rest)⟩ e fr/\pre.length=t.1/\(vs++rest).length=t.2:=by
  cases G with
  | cells A J hp u C H=>
    simp only[rowOf]at h;have:=Qk h A;subst this;exact⟨_,_,_,_,rfl,hp,u⟩
  | row hp u C=>
    simp only[rowOf]at h;cases h;exact⟨_,_,_,_,rfl,hp,u⟩
  |map A=>cases h
  |mrow=>cases h
  |iter _ _=>cases h
variable {w:World}
def FO{F:Bool->Nat->Prop} {h:T AO} (hs:Sim F I h w) {id:Nat} {o:AO} {vs us:List Value} {b s t off:Nat} (A:h.get id=some o) (hr:rowOf o=some vs) (hi:I id=some (b,s,t)) (u:qfi vs off us):∀(j:Nat) v,us[j]? =some v->w.cell? (Addr.add ⟨b,s+off,none⟩ j)=some v:=λj v C=>by obtain⟨ob,G,H⟩:=hs.obj _ _ _ _ A hi;obtain⟨pre,rest,e,fr,rfl,hp,J⟩:=qcm hr H;rw[kh,cell_of G];have:=u j v C;simp only[List.getElem?_toArray];simp only at hp;rw[List.getElem?_append_right (by omega),List.getElem?_append_left (by have:=(List.getElem?_eq_some_iff.1 this).1;omega),←this];congr 1;omega
def q11(s:O6):List Value:=s.data.toList.map λb=> .int .u8 (b.toNat:Nat)
def q2i(s:O6):(q11 s).length=s.size:=by unfold q11;rw[List.length_map,Array.length_toList];rfl
variable {s:O6}
def q87{i:Nat} (h:i<s.size):(q11 s)[i]? =some (.int .u8 (s[i].toNat:Nat)):=by unfold q11;rw[List.getElem?_map,List.getElem?_eq_getElem (by rw[Array.length_toList];exact h)];rfl
def Gn:AV->Option (Nat×Nat×Nat)
  | .sl id off n _=>some (id,off,n)
  | .gsl id off n _=>some (id,off,n)
  | a=>match JH a with
    |some (id,off,n,_)=>some (id,off,n)
    |none=>none
def tL{a:AV} {id off n:Nat} {v:Value} (h:Gn a=some (id,off,n)) (r:VR I a v):∃q c,v= .slice q n c/\(n=0\/∃b s t,I id=some (b,s,t)/\q=some ⟨b,s+off,none⟩):=by
  unfold Gn at h;split at h
  · cases h;cases r with|sl u=>exact⟨_,_,rfl, .inr ⟨_,_,_,u,rfl⟩⟩
  · cases h;cases r with
    | gsl u J N A=>
      refine⟨_,_,rfl,?_⟩;rcases A with A|A
      · exact .inr ⟨_,_,_,u,by rw[A]⟩
      · exact .inl (by omega)
  · split at h;case h_2=>cases h
    rename_i H;cases h;rcases Wr H r with⟨G,rfl⟩|⟨b,V,X,U,c,u,rfl,O,T,C⟩
    · exact⟨none,0,by rw[G], .inl G⟩
    · refine⟨_,_,rfl,?_⟩;rcases C with C|C
      · exact .inr ⟨_,_,_,u,by rw[C]⟩
      · exact .inl (by omega)
def Zr (P:O7):jk:=λgl t h o K=>match o.op with
  | .load ty x=>match ev t x with
    |some (.sv (.pointer (some a)))=>Jn P ty (λvs=>∀p,gl.pf p->q2u p a vs) K
    |some (.sv (.pointer a))=>Jn P ty (λvs=>∀p,gl.pf p->∃x,a=some x/\q2u p x vs) K
    | some (.sptr id off)=>match h.get id with
      | some o=>match rowOf o with
        |some vs=>Jn P ty (λus=>qfi vs off us) K
        |none=>False
      |none=>False
    | some (.ptr id off)=>match h.get id with
      | some o=>match rowOf o with
        |some vs=>Jn P ty (λus=>qfi vs off us) K
        |none=>False
      |none=>False
    |_=>False
  | .convert s d x=>match P.underlying s,P.underlying d with
    | some (.slice e),some .string=>match P.underlying e with
      | some (.int .u8)=>match ev t x with
        | some a=>match Gn a with
          | some (id,off,n)=>match h.get id with
            | some o=>match rowOf o with
              |some vs=>∃s:O6,Ob (s.size=n)/\Ob (qfi vs off (q11 s))/\K (.sv (.string s))
              |none=>False
            |none=>False
          | none=>match a with
            | .sv (.slice a n c)=>∃s:O6,Ob (s.size=n)/\Ob (∀p,gl.pf p->qfu p a (q11 s))/\K (.sv (.string s))
            |_=>False
        |none=>False
      | some (.int .i32)=>match ev t x with
        | some a=>match Gn a with
          | some (id,off,n)=>match h.get id with
            | some o=>match rowOf o with
              |some vs=>∃u:List Int,Ob (u.length=n)/\Ob (qfi vs off (u.map λi=>Value.int .i32 i))/\K (.sv (.string (runesBytes u)))
              |none=>False
            |none=>False
          |none=>False
        |none=>False
      |_=>False
    |_,_=>False
  |_=>False
def sY{P:O7} {u d h:TypeId} (hs:P.underlying u=some (.slice h)) (hd:P.underlying d=some .string) (he:P.underlying h=some (.int .u8)) {s:O6} {b o c:Nat} (A:∀(j:Nat) v,(q11 s)[j]? =some v->w.cell? (Addr.add ⟨b,o,none⟩ j)=some v):
  (convert u d (.slice (some ⟨b,o,none⟩) s.size c)).run P w= .ok (.string s) w:=
 Lib.run_convert_whole (P:=P) w u h d hs he hd b o s (λi hi=>by have:=A i _ (q87 hi);rw[kh]at this;exact this) c
def tA(h:s.size=0):s=ByteArray.empty:=by
 apply ByteArray.ext;apply Array.toList_inj.1;have:s.data.toList.length=0:=by rw[Array.length_toList];exact h
 rw[List.eq_nil_of_length_eq_zero this];rfl
def qdj (P:O7):kD P (Zr P):=by
  intro gl t h o K e;obtain⟨dst,op,ty,pos,after,guard⟩:=o;cases op with
  | load lt x=>
    simp only[Zr]at e;have own:∀(av:AV) (id off:Nat),ev t x=some av->(∀I z,VR I av z->∃b s tt,I id=some (b,s,tt)/\z= .pointer (some ⟨b,s+off,none⟩))->(match h.get id with
      | some o=>match rowOf o with
        |some vs=>Jn P lt (λus=>qfi vs off us) K
        |none=>False
      |none=>False)->∃v,RP gl P t h ⟨dst, .load lt x,ty,pos,after,guard⟩ v/\K v:=λav id off hx hav e=>by
      split at e;case h_2=>exact e.elim
      rename_i ob hg;split at e;case h_2=>exact e.elim
      rename_i vs hr;obtain⟨a,us,Z,h2,h3⟩:=Nm e;refine⟨a,λF I ac w G hs hp=> ?_,h2⟩;have C:=qn G hx;generalize u:ac.eval x=V at C;obtain⟨b,s,tt,J,rfl⟩:=hav I V C;obtain⟨z,X,Y⟩:=h3 I w ⟨b,s+off,none⟩ (FO hs hg hr J Z);exact⟨z,by simp[execOp,u,Instr.loadAt,Instr.sureAddr,X,Result.andThen],Y⟩
    split at e
    · rename_i a hx;obtain⟨av,us,Z,h2,h3⟩:=Nm e;refine⟨av,λF I ac w G hs hp=> ?_,h2⟩;have C:=qn G hx;generalize u:ac.eval x=V at C;cases C;obtain⟨z,X,Y⟩:=h3 I w a λj v N=>Fy (Z _ hp j v N);exact⟨z,by simp[execOp,u,Instr.loadAt,Instr.sureAddr,X,Result.andThen],Y⟩
    · rename_i a _ hx;obtain⟨av,us,Z,h2,h3⟩:=Nm e;refine⟨av,λF I ac w G hs hp=> ?_,h2⟩;have C:=qn G hx;generalize u:ac.eval x=V at C;cases C;obtain⟨y,rfl,hy⟩:=Z _ hp;obtain⟨z,X,Y⟩:=h3 I w y λj v N=>Fy (hy j v N);exact⟨z,by simp[execOp,u,Instr.loadAt,Instr.sureAddr,X,Result.andThen],Y⟩
    · rename_i id off hx;exact own _ id off hx (λI z hz=>by cases hz with|sptr J=>exact⟨_,_,_,J,rfl⟩) e
    · rename_i id off hx;exact own _ id off hx (λI z hz=>by cases hz with|ptr J=>exact⟨_,_,_,J,rfl⟩) e
    · exact e.elim
  | convert s d x=>
    simp only[Zr]at e;split at e;case h_2=>exact e.elim
    rename_i el hs hd;split at e;case h_3=>exact e.elim
    case h_2=>
      rename_i he;split at e;case h_2=>exact e.elim
      rename_i a hx;split at e;case h_2=>exact e.elim
      rename_i id off n hg;split at e;case h_2=>exact e.elim
      rename_i ob U;split at e;case h_2=>exact e.elim
      rename_i vs hr;obtain⟨ns,T,A,hk⟩:=e;refine⟨_,λF I ac w G O hp=>⟨.string (runesBytes ns),?_, .sv _⟩,hk⟩;have C:=qn G hx;generalize u:ac.eval x=V at C;obtain⟨q,c,rfl,hq⟩:=tL hg C;have T:ns.length=n:=T;by_cases H:n=0
      · subst H;obtain rfl:ns=[]:=List.length_eq_zero_iff.1 T;have:(convert s d (.slice q 0 c)).run P w= .ok (.string (runesBytes [])) w:=by
          cases q with
          |none=>exact run_convert_runes_nil w s d el 0 c hs he hd
          |some y=>exact run_convert_runes w s d el y 0 c [] (Nat.le_refl _) hs he hd (λj N=>absurd N (by simp))
        simp[execOp,u,this,Result.andThen]
      · rcases hq with hq|⟨b,s0,tt,J,rfl⟩
        · exact absurd hq H
        · have:=run_convert_runes (P:=P) w s d el ⟨b,s0+off,none⟩ n c ns (by omega) hs he hd (λj N=>by refine FO O U hr J A j _ ?_;rw[List.getElem?_map,List.getD_eq_getElem?_getD,List.getElem?_eq_getElem N];rfl);rw[List.take_of_length_le (by omega)]at this;simp[execOp,u,this,Result.andThen]
    rename_i he;split at e;case h_2=>exact e.elim
    rename_i a hx;have zero:∀(q:Option Addr) (c:Nat) (w:World),q=none\/(∃y,q=some y)->(convert s d (.slice q 0 c)).run P w= .ok (.string .empty) w:=λq c w _=>by
      cases q with
      |none=>simp[convert,run_underlying hs,run_underlying hd,run_underlying he,Result.andThen,Conv.bytesToString]
      | some y=>
        have hl:(loadCells y 0).run P w= .ok #[] w:=(by simp[loadCells,loadCellsFrom]);simp[convert,run_underlying hs,run_underlying hd,run_underlying he,Result.andThen,Conv.bytesToString,hl]
    split at e
    · rename_i id off n hg;split at e;case h_2=>exact e.elim
      rename_i ob U;split at e;case h_2=>exact e.elim
      rename_i vs hr;obtain⟨str,T,A,hk⟩:=e;refine⟨_,λF I ac w G O hp=>⟨.string str,?_, .sv _⟩,hk⟩;have C:=qn G hx;generalize u:ac.eval x=V at C;obtain⟨q,c,rfl,hq⟩:=tL hg C;by_cases H:n=0
      · subst H;rw[tA T];simp[execOp,u,zero q c w (by cases q<;>simp),Result.andThen]
      · rcases hq with hq|⟨b,s0,tt,J,rfl⟩
        · exact absurd hq H
        · have:=sY (P:=P) (w:=w) hs hd he (s:=str) (b:=b) (o:=s0+off) (c:=c) (FO O U hr J A);rw[T]at this;simp[execOp,u,this,Result.andThen]
    · split at e;case h_2=>exact e.elim
      rename_i q n c _;obtain⟨str,T,A,hk⟩:=e;refine⟨_,λF I ac w G O hp=>⟨.string str,?_, .sv _⟩,hk⟩;have C:=qn G hx;generalize u:ac.eval x=V at C;cases C;rcases A _ hp with H|⟨y,rfl,hy1,hy2⟩
      · have H:str.size=0:=(by rw[←q2i,H.1];rfl);rw[tA H];have hn0:n=0:=(by omega);subst hn0;have:=zero q c w (by cases q<;>simp);simp[execOp,u,this,Result.andThen]
      · obtain⟨yb,yo,ys⟩:=y;simp only at hy1;subst hy1;have:=sY (P:=P) (w:=w) hs hd he (s:=str) (b:=yb) (o:=yo) (c:=c) λj v N=>Fy (hy2 j v N);rw[T]at this;simp[execOp,u,this,Result.andThen]
  |_=>exact e.elim
end
section
def Grow.tok{F I nx w H u h' O} {y:Nat×Nat×Nat} (g:Grow F I nx w H u h' O) (hle:nx<=u) (hi:H u=none) (U:h'.get u=none):Grow F I nx w (ext H u y) (u+1) h' O:=by
 have N:=Zh y hi;have ne:∀id o,h'.get id=some o->id≠u:=λid o h e=>by subst e;rw[U]at h;cases h
 have A:∀id,id≠u->ext H u y id=H id:=λid h=>if_neg h;refine⟨In.le_trans g.le N,λi x h=> ?_,⟨λid o b t C G=> ?_,λid J o Y b t Z C G i1 i2=> ?_,λid o b t C G T=> ?_⟩,g.fr,g.size,g.same⟩
 ·by_cases e:i=u
  ·exact .inr ⟨by omega,by omega⟩
  ·rw[A i e]at h;exact(g.new i x h).imp (λh=>h) λh=>⟨h.1,by omega⟩
 ·rw[A id (ne id o C)]at G;obtain⟨ob,V,X⟩:=g.sim.obj _ _ _ _ C G;exact⟨ob,V,X.mono N⟩
 ·rw[A id (ne id o C)]at i1;rw[A J (ne J Y G)]at i2;exact g.sim.inj _ _ _ _ _ _ _ C G i1 i2
 ·rw[A id (ne id o C)]at G;exact g.sim.fr _ _ _ _ C G T
def Grow.put0{F I nx w H C h h' J} {o:AO} (g:Grow F I nx w H C h J) (hi:H C=none) (hp:T.put 64 C (some o) h=some h'):Grow F I nx w H (C+1) h' J:=by
 have N:=T.get_put _ _ _ _ _ hp;have G:∀id q x,h'.get id=some q->H id=some x->h.get id=some q:=λid q x A u=>by
  rw[N]at A;split at A
  ·rename_i e;subst e;rw[hi]at u;cases u
  ·exact A
 exact⟨g.le,λi x h=>(g.new i x h).imp (λh=>h) λh=>⟨h.1,by omega⟩,⟨λid q b t A u=>g.sim.obj _ _ _ _ (G _ _ _ A u) u,λid O q U b t V A u i1 i2=>g.sim.inj _ _ _ _ _ _ _ (G _ _ _ A i1) (G _ _ _ u i2) i1 i2,λid q b t A u=>g.sim.fr _ _ _ _ (G _ _ _ A u) u⟩,g.fr,g.size,g.same⟩
def qhw(P:O7) (gl:GL) (h:T AO) (x:AV) (esz n:Nat) (us:List Value):Prop:=us.length=n*esz/\(∀v∈us,v.oneCell'=true)/\∀F I w v,VR I x v->Sim F I h w->gl.pf (q0x F w)->∀u:World,u.heap=w.heap->(Builtin.lenOf v).run P u= .ok n u/\(Builtin.firstCells esz n v).run P u= .ok ⟨us⟩ u
def qj5(us:List Value):Prop:=∀v∈us,v.oneCell'=true
def Ig (P:O7) (gl:GL) (h:T AO) (x:AV) (esz:Nat) (K:Nat->List Value->Prop):Prop:=match x with
  | .nsl=>K 0 []
  | .sl id off n _=>match Zn h id off (n*esz)with
    | some l=>match jL l with
      | some us=>match l.all atom with
        |true=>K n us
        |false=>False
      |none=>False
    |none=>False
  | .gsl id off n _=>match Zn h id off (n*esz)with
    | some l=>match jL l with
      | some us=>match l.all atom with
        |true=>K n us
        |false=>False
      |none=>False
    |none=>False
  | .sv (.slice a n _)=>∃us,Ob (us.length=n*esz)/\Ob (∀p,gl.pf p->qfu p a us)/\Ob (qj5 us)/\K n us
  | x =>match gs x with
    | some s=>match esz with
      |1=>K s.size (q11 s)
      |_=>False
    | none=>match JH x with
      | some (id,off,n,e)=>tB (Nat.beq e esz) (match h.get id with
        | some o=>match rowOf o with
          |some vs=>∃us,Ob (us.length=n*esz)/\Ob (qfi vs off us)/\Ob (qj5 us)/\K n us
          |none=>False
        |none=>False)
      |none=>False
def cells_at{P:O7} {w u:World} (hw:u.heap=w.heap) {a:Addr} {us:List Value} (h:∀(j:Nat) v,us[j]? =some v->w.cell? (a.add j)=some v):(loadCells a us.length).run P u= .ok ⟨us⟩ u:=
 run_loadCells_list u a us λj v A=>by have:=h j v A;unfold World.cell? at this⊢;rw[hw];exact this
def q88(s:O6):∀v∈q11 s,v.oneCell'=true:=λv h=>by unfold q11 at h;obtain⟨b,_,rfl⟩:=List.mem_map.1 h;rfl
variable {h:T AO}
def qfg {P:O7} {gl:GL} {x:AV} {esz:Nat} {K:Nat->List Value->Prop} (e:Ig P gl h x esz K):∃n us,qhw P gl h x esz n us/\K n us:=by
  have known:∀{id off n:Nat} {l:List AV} {us:List Value},Zn h id off (n*esz)=some l->jL l=some us->l.all atom=true->∀{F I} {w:World} {b s t c o},I id=some (b,s,t)->(o=s+off\/n=0)->Sim F I h w->us.length=n*esz/\(∀v∈us,v.oneCell'=true)/\∀J:World,J.heap=w.heap->(Builtin.lenOf (.slice (some ⟨b,o,none⟩) n c)).run P J= .ok n J/\(Builtin.firstCells esz n (.slice (some ⟨b,o,none⟩) n c)).run P J= .ok ⟨us⟩ J:=by intro id off n l us A N U F I w b s t c o O ho hs;obtain⟨ys,X,g2,Y⟩:=q9f (P:=P) hs A O (ho.imp (λh=>h) λh=>by rw[h,Nat.zero_mul]);have:=Qk N X;subst this;exact⟨g2,FC X U,λJ hw=>⟨rfl,Y J hw⟩⟩
  have len:∀{id off m:Nat} {l:List AV} {us:List Value},Zn h id off m=some l->jL l=some us->us.length=m:=λ{id off m l us} A N=>by
    have T:l.length=m:=by
      unfold Zn at A;split at A
      · unfold takeN at A;simp only at A;split at A
        · rename_i hh;cases A;exact hh
        · cases A
      · cases A
    have:∀(l:List AV) (us:List Value),jL l=some us->us.length=l.length:=by
      intro l;induction l with
      |nil=>intro us h;simp[jL]at h;subst h;rfl
      | cons a l ih=>
        intro us h;simp only[jL]at h;split at h
        · split at h
          · rename_i r hr;cases h;simp[ih _ hr]
          · cases h
        · cases h
    rw[this l us N,T]
  have one:∀{l:List AV} {us:List Value},jL l=some us->l.all atom=true->∀v∈us,v.oneCell'=true:=by
    intro l;induction l with
    |nil=>intro us h _ v G;simp[jL]at h;subst h;cases G
    | cons a l ih=>
      intro us h ha v G;simp only[List.all_cons,Bool.and_eq_true]at ha;simp only[jL]at h;split at h
      · rename_i u hu;split at h
        · rename_i r hr;cases h;cases G with
          | head=>
            unfold gv at hu;split at hu
            · cases hu;exact ha.1
            · cases a<;>simp[xn]at hu<;>subst hu<;>rfl
          |tail _ hm=>exact ih hr ha.2 v hm
        · cases h
      · cases h
  unfold Ig at e;split at e
  · exact⟨0,[],⟨by simp,by simp,λF I w v G hs hp J hw=>by cases G;exact⟨rfl,rfl⟩⟩,e⟩
  · rename_i id off n cap;split at e;case h_2=>exact e.elim
    rename_i l T;split at e;case h_2=>exact e.elim
    rename_i us C;split at e;case h_2=>exact e.elim
    rename_i H;refine⟨n,us,⟨len T C,one C H,λF I w v G hs hp=> ?_⟩,e⟩;cases G with|sl O=>exact(known T C H O (.inl rfl) hs).2.2
  · rename_i id off n cap;split at e;case h_2=>exact e.elim
    rename_i l T;split at e;case h_2=>exact e.elim
    rename_i us C;split at e;case h_2=>exact e.elim
    rename_i H;refine⟨n,us,⟨len T C,one C H,λF I w v G hs hp=> ?_⟩,e⟩;cases G with|gsl O X g2 Y=>exact(known T C H O (Y.imp (λh=>h) λh=>by omega) hs).2.2
  · rename_i a n c;obtain⟨us,A,N,U,h4⟩:=e;refine⟨n,us,⟨A,U,λF I w v G hs hp J hw=> ?_⟩,h4⟩;cases G;refine⟨rfl,?_⟩;rcases N _ hp with⟨rfl,_⟩|⟨y,rfl,hy1,hy2⟩
    · have A:n*esz=0:=A.symm;cases a with
      |none=>rfl
      |some y=>simp[Builtin.firstCells,A,loadCells,loadCellsFrom]
    · simp only[Builtin.firstCells];rw[←A];exact cells_at hw λj v hj=>Fy (hy2 j v hj)
  · split at e
    · rename_i s hs;split at e;case h_2=>exact e.elim
      refine⟨_,_,⟨by rw[q2i];omega,q88 s,λF I w v G _ hp J hw=> ?_⟩,e⟩;rw[Qm hs G];refine⟨rfl,?_⟩;simp only[Builtin.firstCells,Sem.run_pure];congr 1;apply Array.toList_inj.1;rw[Array.toList_map];have:s.extract 0 s.size=s:=(by simp);rw[this];rfl
    · split at e;case h_2=>exact e.elim
      rename_i id off n ez hg;obtain⟨Z,e⟩:=qU e;have Z:=Nat.eq_of_beq_eq_true Z;subst Z;split at e;case h_2=>exact e.elim
      rename_i o hgt;split at e;case h_2=>exact e.elim
      rename_i vs hr;obtain⟨us,A,N,U,h4⟩:=e;refine⟨n,us,⟨A,U,λF I w v G hs hp J hw=> ?_⟩,h4⟩;rcases Wr hg G with⟨rfl,rfl⟩|⟨b,s0,tt,oo,c,O,rfl,k1,k2,V⟩
      · have:us=[]:=List.eq_nil_of_length_eq_zero (by rw[A];simp);subst this;exact⟨rfl,rfl⟩
      · refine⟨rfl,?_⟩;by_cases hz:n*ez=0
        · have:us=[]:=List.eq_nil_of_length_eq_zero (by rw[A];exact hz);subst this;simp[Builtin.firstCells,hz,loadCells,loadCellsFrom]
        · have hn:0<n:=Nat.pos_of_ne_zero λh=>hz (by rw[h];simp);have ho:oo=s0+off:=by
            rcases V with V|V
            · exact V
            · omega
          subst ho;simp only[Builtin.firstCells];rw[←A];exact cells_at hw (FO hs hgt hr O N)
def qhv(h:T AO) (d:AV) (C esz len:Nat) (vs:List Value) (fz:Nat) (id:Option Nat):Prop:=vs.length=len*esz/\fz<=len*esz/\match id with
 |none=>len=0/\∀I u,VR I d u->u= .slice none 0 0
 |some id=>∃o,h.get id=some o/\o.rw=true/\(∀F I w u,VR I d u->Sim F I h w->(len=0/\u= .slice none 0 0)\/∃b s t A c,I id=some (b,s,t)/\u= .slice (some ⟨b,A,none⟩) len c/\len<=c/\c*esz<=t/\(A=s\/c=0))/\
   ∀I t ob,OR I t o ob->∃pre rest fr,ob= .cells ⟨pre++(vs++rest)⟩ C fr/\pre.length=t.1/\(vs++rest).length=t.2/\∀q,fz<=q->q<t.2->¬(fr.1<=t.1+q/\t.1+q<fr.2)
def YY(fz m:Nat) (K:Prop):Prop:=match fz with
 |0=>K
 |f=>Ob (f<=m)/\K
def Nh{fz m:Nat} {K:Prop} (h:YY fz m K):fz<=m/\K:=by
 unfold YY at h;split at h
 ·exact⟨Nat.zero_le _,h⟩
 ·exact h
def qig:AV->Bool
 | .ssl .. =>true
 | .msl .. =>true
 |_=>false
def N4(h:T AO) (d:AV) (u esz:Nat) (K:Nat->List Value->Nat->Option Nat->Prop):Prop:=match d with
  | .nsl=>K 0 [] 0 none
  | .sl id off len cap=>match h.get id with
    | some (.cells e (some fz) _ l)=>match jL l with
      |some vs=>tB (Nat.beq e u&&(Nat.beq off 0&&(Nat.beq cap len&&(Nat.beq vs.length (len*esz)&&Nat.ble fz (len*esz))))) (K len vs fz (some id))
      |none=>False
    |_=>False
  | d =>match JH d with
    | some (id,off,len,A)=>match h.get id with
      | some (.row e fz vs)=>tB (Nat.beq e u&&(Nat.beq off 0&&Nat.beq A esz)) (match qig d with
        |true=>Ob (vs.length=len*esz)/\YY fz (len*esz) (K len vs fz (some id))
        |false=>Ob (len*esz<=vs.length)/\YY fz (len*esz) (K len (vs.take (len*esz)) fz (some id)))
      |_=>False
    |none=>False
def qek{d:AV} {el esz:Nat} {K:Nat->List Value->Nat->Option Nat->Prop} (e:N4 h d el esz K):∃len vs fz id,qhv h d el esz len vs fz id/\K len vs fz id:=by
  unfold N4 at e;split at e
  · exact⟨0,[],0,none,⟨by simp,Nat.zero_le _,rfl,λI u hu=>by cases hu;rfl⟩,e⟩
  · rename_i id off len cap;split at e;case h_2=>exact e.elim
    rename_i e' fz g l X;split at e;case h_2=>exact e.elim
    rename_i vs V;obtain⟨O,e2⟩:=qU e;clear e;simp only[Bool.and_eq_true]at O;obtain⟨A,C,Z,G,Y⟩:=O;have A:=Nat.eq_of_beq_eq_true A;have C:=Nat.eq_of_beq_eq_true C;have G:=Nat.eq_of_beq_eq_true G;have Y:=Nat.le_of_ble_eq_true Y;have Z:=Nat.eq_of_beq_eq_true Z;subst A C Z;refine⟨cap,vs,fz,some id,⟨G,Y,_,X,rfl,λF I w u hu hs=> ?_,λI t ob U=> ?_⟩,e2⟩
    · cases hu with
      | @sl _ _ _ _ b s t hI=>
        obtain⟨ob,k1,k2⟩:=hs.obj _ _ _ _ X hI;cases k2 with
        | @cells _ el' _ _ _ pre us rest fr hl hgr hp H N J=>
          have:=Qk V hl;subst this;refine .inr ⟨b,s,t,_,cap,hI,rfl,Nat.le_refl _,?_, .inl rfl⟩;simp only[List.length_append]at H;omega
    · cases U with
      | @cells _ el' _ _ _ pre us rest fr hl hgr hp H N J=>
        have:=Qk V hl;subst this;rcases J with J|J
        · exact⟨pre,rest,fr,by rw[J],hp,H,N fz rfl⟩
        · cases J.1
  · split at e;case h_2=>exact e.elim
    rename_i id off len ez X;split at e;case h_2=>exact e.elim
    rename_i e' fz vs T;obtain⟨O,e2⟩:=qU e;clear e;simp only[Bool.and_eq_true]at O;obtain⟨A,C,G⟩:=O;have A:=Nat.eq_of_beq_eq_true A;have C:=Nat.eq_of_beq_eq_true C;have G:=Nat.eq_of_beq_eq_true G;subst A C G;have val:∀(F:Bool->Nat->Prop) I (w:World) u,VR I d u->Sim F I h w->(len=0/\u= .slice none 0 0)\/∃b s t o' c,I id=some (b,s,t)/\u= .slice (some ⟨b,o',none⟩) len c/\len<=c/\c*ez<=t/\(o'=s\/c=0):=λF I w u hu _=>by
      rcases Wr X hu with h|⟨b,s,t,o,c,k1,k2,k3,k4,k5⟩
      · exact .inl h
      · exact .inr ⟨b,s,t,o,c,k1,k2,k3,by omega,k5.imp (λh=>by omega) λh=>h⟩
    split at e2
    · obtain⟨h1,e⟩:=e2;obtain⟨h2,e⟩:=Nh e;refine⟨len,vs,fz,some id,⟨h1,h2,_,T,rfl,val,λI t ob U=> ?_⟩,e⟩;cases U with
      | @row _ _ pre _ rest fr hp H N=>exact⟨pre,rest,fr,rfl,hp,H,N⟩
    · obtain⟨h1,e⟩:=e2;obtain⟨h2,e⟩:=Nh e;refine⟨len,_,fz,some id,⟨by rw[List.length_take];omega,h2,_,T,rfl,val,λI t ob U=> ?_⟩,e⟩;cases U with
      | @row _ _ pre _ rest fr hp H N=>
        refine⟨pre,vs.drop (len*ez)++rest,fr,?_,hp,?_,N⟩
        · rw[←List.append_assoc (vs.take _),List.take_append_drop]
        · rw[←List.append_assoc (vs.take _),List.take_append_drop];exact H
def NV (P : O7) (gl:GL) (h:T AO) (nx:Nat) (ts:List TypeId) (d x:AV) (K:AV->T AO->Nat->GS->Prop):Prop:=match ts with
  | [t0, t1] => match P.underlying t0 with
    | some (.slice u)=>match Wt P [t0,t1]with
      | true => match P.info? u with
        | some i=>match xh P u with
          | some z=>tB (Nat.beq z.length i.size&&(Nat.ble 1 i.size&&Nat.ble 1 i.bytes)) (N4 h d u i.size λlen vs fz id=>Ig P gl h x i.size λn us=>Ob ((len+n)*i.bytes<=140737488355328)/\match(match id with|some id=>T.put 64 id none h|none=>some h)with
            | some A=>match T.put 64 nx (some (.row u fz (vs++us))) A with
              | some h'=>match h'.get (nx+1)with
                |none=>K (.ssl nx 0 (len+n) i.size (nx+1)) h' (nx+2) none
                |some _=>False
              |none=>False
            |none=>False)
          |none=>False
        |none=>False
      |false=>False
    |_=>False
  |_=>False
def qe2 {P:O7} {gl:GL} {nx:Nat} {ts:List TypeId} {d x:AV} {K:AV->T AO->Nat->GS->Prop} (e:NV P gl h nx ts d x K):∃r h' nx' g,K r h' nx' g/\nx<=nx'/\g=none/\∀(F:Bool->Nat->Prop) (I:In) (w:World) (u v:Value) (ty:TypeId),VR I d u->VR I x v->Sim F I h w->(∀b,F true b->b<w.heap.size)->gl.pf (q0x F w)->vn I nx nx'->
    ∃z I' G,(Builtin.append_ ⟨ts⟩ ty ⟨[u,v]⟩).run P w= .ok z G/\VR I' r z/\Grow F I nx w I' nx' h' G:=by
  unfold NV at e;split at e;case h_2=>exact e.elim
  rename_i t0 t1;split at e;case h_2=>exact e.elim
  rename_i H h0;split at e;case h_2=>exact e.elim
  rename_i hz0;split at e;case h_2=>exact e.elim
  rename_i i hi;split at e;case h_2=>exact e.elim
  rename_i z hz;obtain⟨hb,e1⟩:=qU e;clear e;simp only[Bool.and_eq_true]at hb;obtain⟨b1,b2,b3⟩:=hb;have b1:=Nat.eq_of_beq_eq_true b1;have b2:=Nat.le_of_ble_eq_true b2;have b3:=Nat.le_of_ble_eq_true b3;obtain⟨len,vs,fz,id,hd,e2⟩:=qek e1;obtain⟨n,us,hs,hlim,e3⟩:=qfg e2;split at e3;case h_2=>exact e3.elim
  rename_i h1 O;split at e3;case h_2=>exact e3.elim
  rename_i h' hp;split at e3;case h_2=>exact e3.elim
  rename_i J;refine⟨_,_,_,_,e3,by omega,rfl,λF I w u v ty hu hv C low hpf fr=> ?_⟩;obtain⟨s1,s2,s3⟩:=hs;have src:=s3 F I w v hv C hpf;obtain⟨d1,d2,d3⟩:=hd;obtain⟨zv,z1,z2⟩:=qbb hi hz;rw[b1]at z2;have zc:∀k,(Builtin.zeroCells zv.cells k).size=k*i.size:=λk=>by rw[size_zeroCells,z2]
  have I0:I nx=none:=fr nx (Nat.le_refl _) (by omega);have I1:I (nx+1)=none:=fr (nx+1) (by omega) (by omega);have sim1:Sim F I h1 w:=by
    cases id with
    |none=>simp only[Option.some.injEq]at O;subst O;exact C
    |some id=>exact C.drop O
  have tk:∀(q:SV),Pl q.1->∃y,zn y=q:=λq hq=>SK q hq;have grow:∀(base:Option Addr) (sCap:Nat),u= .slice base len sCap->(∀G:World,G.heap=w.heap->(Builtin.firstCells i.size len (.slice base len sCap)).run P G= .ok ⟨vs⟩ G)->¬len+n<=sCap->∃z I' G,(Builtin.append_ ⟨[t0,t1]⟩ ty ⟨[u,v]⟩).run P w= .ok z G/\VR I' (.ssl nx 0 (len+n) i.size (nx+1)) z/\Grow F I nx w I' (nx+2) h' G:=by
    intro base sCap U ho hr;subst U;have hrun:=q6s (P:=P) (ty:=ty) h0 hz0 hi z1 (src w rfl).1 (λG hw=>(src G hw).2) ho hr b3 hlim;have hle:=Zh (w.heap.size,0,grownCap w (len+n) sCap H*i.size) I0;have hcap:=grownCap_ge w (len+n) sCap H;have X:(⟨vs⟩++(⟨us⟩++Builtin.zeroCells zv.cells (grownCap w (len+n) sCap H- (len+n))):Array Value)=⟨[]++((vs++us)++(Builtin.zeroCells zv.cells (grownCap w (len+n) sCap H- (len+n))).toList)⟩:=(by apply Array.toList_inj.1;simp);have N:OR (ext I nx (w.heap.size,0,grownCap w (len+n) sCap H*i.size)) (0,grownCap w (len+n) sCap H*i.size) (.row H fz (vs++us)) (.cells (⟨vs⟩++(⟨us⟩++Builtin.zeroCells zv.cells (grownCap w (len+n) sCap H- (len+n)))) H):=by rw[X];refine .row rfl ?_ (λo _ _=>by simp);have hzl:(Builtin.zeroCells zv.cells (grownCap w (len+n) sCap H- (len+n))).toList.length=(grownCap w (len+n) sCap H- (len+n))*i.size:=(by rw[Array.length_toList,zc]);show(vs++us++_).length=grownCap w (len+n) sCap H*i.size;rw[List.length_append,List.length_append,hzl,d1,s1,←Nat.add_mul,←Nat.add_mul];congr 1;omega
    have hg:=sim1.push' I0 low hp N;obtain⟨y,hy⟩:=tk (some ⟨w.heap.size,0,none⟩,len+n,grownCap w (len+n) sCap H) trivial;have hg2:=Grow.tok (y:=y) hg (Nat.le_succ _) (by rw[ext,if_neg (by omega)];exact I1) J;refine⟨_,_,_,hrun,?_,hg2⟩;exact .ssl (b:=w.heap.size) (s:=0) (t:=grownCap w (len+n) sCap H*i.size) (c:=grownCap w (len+n) sCap H) (o:=0) (by rw[ext,if_neg (by omega)];exact zT _ _ _) hcap (by omega) (.inl rfl) (zT _ _ _) hy
  have nilc:len=0->u= .slice none 0 0->∃z I' G,(Builtin.append_ ⟨[t0,t1]⟩ ty ⟨[u,v]⟩).run P w= .ok z G/\VR I' (.ssl nx 0 (len+n) i.size (nx+1)) z/\Grow F I nx w I' (nx+2) h' G:=λhl U=>by
    have hvs:vs=[]:=List.eq_nil_of_length_eq_zero (by rw[d1,hl];simp);by_cases hn:n=0
    · have hg:=Grow.tok (y:=(0,0,0)) (Grow.put0 (sim1.grow nx) I0 hp) (Nat.le_succ _) I1 J;refine⟨.slice none 0 0,_,w,?_, .ssl0 (by omega) (zT _ _ _) rfl,hg⟩;rw[U];have:=Se (P:=P) (ty:=ty) (base:=none) (sLen:=0) (sCap:=0) h0 hz0 hi (src w rfl).1 (src w rfl).2 (by omega);rw[this,hn];rfl
    · refine grow none 0 (by rw[U,hl]) (λG hw=>by rw[hvs];rfl) (by omega)
  cases id with
  |none=>exact nilc d3.1 (d3.2 I u hu)
  | some id =>
    obtain⟨o,hg,hrw,hval,hob⟩:=d3;rcases hval F I w u hu C with⟨hl,U⟩|⟨b,s,t,V,c,hI,rfl,k1,k2,k3⟩
    · exact nilc hl U
    · obtain⟨ob,hb',hor⟩:=C.obj _ _ _ _ hg hI;obtain⟨pre,rest,frz,rfl,Z,htl,Y⟩:=hob _ _ _ hor;simp only at Z htl Y O;have rdd:∀G:World,G.heap=w.heap->(Builtin.firstCells i.size len (.slice (some ⟨b,V,none⟩) len c)).run P G= .ok ⟨vs⟩ G:=λG hw=>by
        simp only[Builtin.firstCells];by_cases hz:len*i.size=0
        · have:vs=[]:=List.eq_nil_of_length_eq_zero (by rw[d1];exact hz);subst this;simp[hz,loadCells,loadCellsFrom]
        · have hn:0<len:=Nat.pos_of_ne_zero λh=>hz (by rw[h];simp);have ho:V=s:=by
            rcases k3 with k3|k3
            · exact k3
            · omega
          subst ho;rw[←d1];refine cells_at hw λj v hj=> ?_;rw[kh,cell_of hb'];simp only[List.getElem?_toArray];rw[List.getElem?_append_right (by omega),List.getElem?_append_left (by have:=(List.getElem?_eq_some_iff.1 hj).1;omega),←hj];congr 1;omega
      by_cases A:len+n<=c
      · by_cases hn:n=0
        ·
          have hus:us=[]:=List.eq_nil_of_length_eq_zero (by rw[s1,hn];simp);obtain⟨y,hy⟩:=tk (some ⟨b,V,none⟩,len+n,c) trivial;have N:OR (ext I nx (b,s,t)) (s,t) (.row H fz (vs++us)) (.cells ⟨pre++(vs++rest)⟩ H frz):=(by rw[hus,List.append_nil];exact .row Z htl Y);have hgr:=Grow.tok (y:=y) (C.over hg hrw hI I0 O hp hb' N (λ_ _=>rfl) rfl (.refl w)) (Nat.le_succ _) (by rw[ext,if_neg (by omega)];exact I1) J;refine⟨.slice (some ⟨b,V,none⟩) (len+n) c,_,w,?_, .ssl (by rw[ext,if_neg (by omega)];exact zT _ _ _) A (by omega) (k3.imp (λh=>by omega) λh=>h) (zT _ _ _) hy,hgr⟩;rw[Se (P:=P) h0 hz0 hi (src w rfl).1 (src w rfl).2 A,hus];simp[storeCells,Result.andThen]
        · have ho:V=s:=by
            rcases k3 with k3|k3
            · exact k3
            · omega
          subst ho;have hsp:(len+n)*i.size<=c*i.size:=Nat.mul_le_mul_right _ A;rw[Nat.add_mul]at hsp;have hrl:rest.length=t- len*i.size:=(by rw[List.length_append]at htl;omega);obtain⟨G,q1,q2,q3,q4,q5⟩:=FA (P:=P) (o:=V+len*i.size) us 0 (pre++(vs++rest)) w hb' (by simp only[List.length_append];rw[s1];omega) (λj a1 a2=>by have:=Y (j- V) (by omega) (by rw[s1]at a2;omega);rw[show V+(j- V)=j by omega]at this;exact this) s2;rw[Nat.add_zero,←Z,FZ us pre (vs++rest) (len*i.size),qdo us (vs++rest) (len*i.size) (by rw[List.length_append,s1];omega),List.take_append_of_le_length (by omega),List.take_of_length_le (by omega)]at q2;have N:OR (ext I nx (b,V,t)) (V,t) (.row H fz (vs++us)) (.cells ⟨pre++(vs++us++(vs++rest).drop (len*i.size+us.length))⟩ H frz):=(by refine .row Z ?_ Y;simp only[List.length_append,List.length_drop];rw[s1];omega);obtain⟨y,hy⟩:=tk (some ⟨b,V,none⟩,len+n,c) trivial;have hgr:=Grow.tok (y:=y) (C.over hg hrw hI I0 O hp q2 N q3 q4 q5) (Nat.le_succ _) (by rw[ext,if_neg (by omega)];exact I1) J;refine⟨.slice (some ⟨b,V,none⟩) (len+n) c,_,G,?_, .ssl (by rw[ext,if_neg (by omega)];exact zT _ _ _) A (by omega) (.inl (by omega)) (zT _ _ _) hy,hgr⟩;rw[Se (P:=P) h0 hz0 hi (src w rfl).1 (src w rfl).2 A];simp only[kh];rw[q1];rfl
      · exact grow _ c rfl rdd A
end
section
def WY (P:O7) (h:T AO) (ty:TypeId) (id off:Nat) (a:AV) (K:T AO->Prop):Prop:=match h.get id with
  | some (.row e fz vs)=>match P.info? ty with
    | some i=>match jL (Jv a)with
      | some us=>tB (Nat.beq us.length i.size&&(Jv a).all atom) (Ob (off+us.length<=vs.length)/\YY fz off (match T.put 64 id (some (.row e fz (spl vs off us))) h with
        |some h'=>K h'
        |none=>False))
      |none=>False
    |none=>False
  |_=>False
def qhb{P:O7} {h:T AO} {ty:TypeId} {id off:Nat} {a:AV} {K:T AO->Prop} (e:WY P h ty id off a K):∃h',K h'/\∀(F:Bool->Nat->Prop) (I:In) (w:World) (nx:Nat) (v:Value) (b s t:Nat),Sim F I h w->VR I a v->I id=some (b,s,t)->∃G,(storeVar ty ⟨b,s+off,none⟩ v).run P w= .ok () G/\Grow F I nx w I nx h' G:=by
  unfold WY at e;split at e;case h_2=>exact e.elim
  rename_i el fz vs Z;split at e;case h_2=>exact e.elim
  rename_i i hi;split at e;case h_2=>exact e.elim
  rename_i us V;obtain⟨H,hlen,e2⟩:=qU e;simp only[Bool.and_eq_true]at H;have U:=Nat.eq_of_beq_eq_true H.1;obtain⟨hfz,e3⟩:=Nh e2;split at e3;case h_2=>exact e3.elim
  rename_i h' hp;refine⟨h',e3,λF I w nx v b s t hs hv X=> ?_⟩;have Y:=FD hv;have u:=Qk V Y;obtain⟨ob,J,ho⟩:=hs.obj _ _ _ _ Z X;cases ho with
  | @row _ _ pre _ rest fr A C O=>
    simp only at A C O;obtain⟨G,h1,h2,h3,h4,h5⟩:=FA (P:=P) (o:=s+off) us 0 (pre++(vs++rest)) w J (by simp only[List.length_append];omega) (λj a1 a2=>by have:=O (j- s) (by omega) (by simp only[List.length_append]at C;omega);rw[show s+(j- s)=j by omega]at this;exact this) (by rw[←u];exact FC Y H.2);refine⟨G,?_,hs.upd Z rfl X hp h2 ?_ h3 h4 h5 nx⟩
    · have:v.cells.size=i.size:=(by rw[←Array.length_toList,u];exact U);have N:v.cells.toList=us:=u;simp[storeVar,Eng.run_sizeOf hi,this,Result.andThen,N,h1]
    · rw[Nat.add_zero,←A,FZ us pre (vs++rest) off,Sl us vs rest off hlen];exact .row (t:=(pre.length,t)) rfl (by simp only[List.length_append,q73];simp only[List.length_append]at C;exact C) (by rw[A];exact O)
def GX(P:O7):KY:=λgl t h nx o K=>match o.op with
  | .call c=>match c.callee with
    | .builtin .append=>match kA t c.args.toList with
      |some [d,x]=>NV P gl h nx c.argTypes.toList d x λr h' u g=>K r h' u g
      |_=>False
    |_=>False
  | .store ty x y=>match ev t x with
    | some (.sptr id off)=>match ev t y with
      |some a=>WY P h ty id off a λh'=>K yL h' nx none
      |none=>False
    | some (.ptr id off)=>match ev t y with
      |some a=>WY P h ty id off a λh'=>K yL h' nx none
      |none=>False
    |_=>False
  |_=>False
def qh0(P:O7):Gx P (GX P):=by
  intro gl t h nx o K e;obtain⟨dst,op,ty,pos,after,guard⟩:=o;cases op with
  | call c=>
    obtain⟨callee,args,G⟩:=c;simp only[GX]at e;split at e;case h_2=>exact e.elim
    split at e;case h_2=>exact e.elim
    rename_i d x X;obtain⟨r,h',A,g,e1,e2,rfl,e3⟩:=qe2 e;refine⟨r,h',A,none,⟨e2,λF I n a w st fr K' Q Y=> ?_⟩,e1⟩;obtain⟨u,v,hv,T,h2⟩:=WU (vm st.tr X);obtain⟨z,I',N,O,U,g3⟩:=e3 F I w u v ty T h2 st.sim st.low st.pf fr;have ea:args.map a.eval=⟨[u,v]⟩:=(by apply Array.toList_inj.1;simpa using hv);have et:(⟨G.toList⟩:Array TypeId)=G:=(by simp);rw[et]at O;unfold Oper.wp;have:(execOp a.eval ⟨dst, .call ⟨.builtin .append,args,G⟩,ty,pos,after,guard⟩).run P w= .ok (.value z) N:=(by simp only[execOp,resolve,Sem.run_bind,Sem.run_pure,Result.andThen,invoke,ea];simp only[builtin,Sem.run_bind,O,Result.andThen,Sem.run_pure]);rw[this];exact Y z I' N U g3 trivial
  | store C x y=>
    have go:∀(id off:Nat) (a:AV) (av:AV),ev t x=some av->(∀I z,VR I av z->∃b s tt,I id=some (b,s,tt)/\z= .pointer (some ⟨b,s+off,none⟩))->ev t y=some a->(WY P h C id off a λh'=>K yL h' nx none)->∃v h' A g,wG gl P t h nx ⟨dst, .store C x y,ty,pos,after,guard⟩ g v h' A/\K v h' A g:=λid off a av hx V J e=>by obtain⟨h',e1,e2⟩:=qhb e;refine⟨yL,h',nx,none,⟨Nat.le_refl _,λF I n ac w st fr K' Q Y=> ?_⟩,e1⟩;have T:=qn st.tr hx;generalize Z:ac.eval x=xv at T;obtain⟨b,s,tt,H,rfl⟩:=V I xv T;obtain⟨N,O,U⟩:=e2 F I w nx _ b s tt st.sim (qn st.tr J) H;unfold Oper.wp;have:(execOp ac.eval ⟨dst, .store C x y,ty,pos,after,guard⟩).run P w= .ok .skip N:=(by simp[execOp,Z,Instr.storeAt,Instr.sureAddr,O,Result.andThen]);rw[this];exact Y undef I N (Zc I) U trivial
    simp only[GX]at e;split at e
    · rename_i id off hx;split at e;case h_2=>exact e.elim
      rename_i a J;exact go id off a _ hx (λI z hz=>by cases hz with|sptr H=>exact⟨_,_,_,H,rfl⟩) J e
    · rename_i id off hx;split at e;case h_2=>exact e.elim
      rename_i a J;exact go id off a _ hx (λI z hz=>by cases hz with|ptr H=>exact⟨_,_,_,H,rfl⟩) J e
    · exact e.elim
  |_=>exact e.elim
def q6b(z:List Value):Nat->List Value
 |0=>[]
 |n+1=>z++q6b z n
def FU(z:List Value):∀n,q6b z n=ju z n
 |0=>rfl
 |n+1=>by rw[q6b,ju,FU z n]
def tC(z:List Value):∀n,(q6b z n).length=n*z.length
 |0=>by simp[q6b]
 |n+1=>by rw[q6b,List.length_append,tC z n,Nat.succ_mul];omega
def jA(s:O6):List Value:=(Conv.runesFrom s s.size 0 #[]).toList
def Xt (P:O7):YL:=λt nx o K=>match o.op with
  | .convert s d x=>match P.underlying s,P.underlying d with
    | some .string,some (.slice e)=>match P.underlying e with
      | some (.int .u8)=>match ev t x with
        | some a=>match gs a with
          |some r=>K (.msl nx r.size 1) (.row e 0 (q11 r))
          |none=>False
        |none=>False
      | some (.int .i32)=>match ev t x with
        | some a=>match gs a with
          |some r=>Ob (r.size<1000000000)/\K (.msl nx (jA r).length 1) (.row e 0 (jA r))
          |none=>False
        |none=>False
      |_=>False
    |_,_=>False
  | .makeSlice ty x y=>match P.underlying ty with
    | some (.slice e)=>match P.info? e with
      | some i => match ev t x with
        | some a=>match ev t y with
          | some b=>match gi a with
            | some (_,n)=>match gi b with
              | some (_,c)=>match xh P e with
                | some z=>match jL z with
                  |some h=>tB (Nat.beq z.length i.size&&Nat.ble 1 i.size) (Ob (0<=n/\n<=c/\(i.bytes:Int)*c<=140737488355328/\c<140737488355328)/\K (.msl nx n.toNat i.size) (.row e 0 (q6b h n.toNat)))
                  |none=>False
                |none=>False
              |none=>False
            |none=>False
          |none=>False
        |none=>False
      |none=>False
    |_=>False
  |_=>False
def wrap64(x:Int) (h: -9223372036854775808<=x) (u:x<=9223372036854775807):IntKind.i64.wrap x=x:=by unfold IntKind.wrap;simp[IntKind.bits,IntKind.signed];omega
def tD(z:List Value) (m:Nat):∀n,ju z (n+m)=ju z n++ju z m
 |0=>by simp[ju]
 |n+1=>by rw[Nat.add_right_comm,ju,ju,tD z m n,List.append_assoc]
def qg1(P:O7):NO P (Xt P):=by
  intro t nx o K e;obtain⟨dst,op,ty,pos,after,guard⟩:=o;cases op with
  | convert s d x=>
    simp only[Xt]at e;split at e;case h_2=>exact e.elim
    rename_i A hs hd;split at e;case h_3=>exact e.elim
    case h_2=>
      rename_i he;split at e;case h_2=>exact e.elim
      rename_i a ha;split at e;case h_2=>exact e.elim
      rename_i r hr;obtain⟨N,e⟩:=e;have N:r.size<1000000000:=N;refine⟨_,_,λI ac ht w=> ?_,e⟩;have hx:=Qm hr (qn ht ha);have hn:(Conv.runesFrom r r.size 0 #[]).size=(jA r).length:=(by simp[jA]);have hbd:=size_runesFrom r r.size 0 #[];have C:=run_runes_of_string (P:=P) w s d A r hs hd he (by simp at hbd;omega);rw[hn]at C;have hge:=grownCap_ge w (jA r).length 0 A;have Z:Conv.runesFrom r r.size 0 #[]++Array.replicate (grownCap w (jA r).length 0 A- (jA r).length) (Value.int .i32 0)=⟨[]++(jA r++List.replicate (grownCap w (jA r).length 0 A- (jA r).length) (Value.int .i32 0))⟩:=(by apply Array.toList_inj.1;simp[jA]);have G:(Conv.runesFrom r r.size 0 #[]++Array.replicate (grownCap w (jA r).length 0 A- (jA r).length) (Value.int .i32 0)).size=grownCap w (jA r).length 0 A:=(by rw[Array.size_append,hn,Array.size_replicate];omega);refine⟨.slice (some ⟨w.heap.size,0,none⟩) (jA r).length (grownCap w (jA r).length 0 A),(.cells (Conv.runesFrom r r.size 0 #[]++Array.replicate (grownCap w (jA r).length 0 A- (jA r).length) (Value.int .i32 0)) A),(0,(Conv.runesFrom r r.size 0 #[]++Array.replicate (grownCap w (jA r).length 0 A- (jA r).length) (Value.int .i32 0)).size),w.drew.alloc (.cells (Conv.runesFrom r r.size 0 #[]++Array.replicate (grownCap w (jA r).length 0 A- (jA r).length) (Value.int .i32 0)) A),by simp[execOp,hx,C,Result.andThen],rfl,⟨rfl,rfl,rfl⟩,λI' hl hI=>⟨?_,?_⟩⟩
      · have:=VR.msl (len:=(jA r).length) (esz:=1) hI (by rw[G];omega) (by omega);rw[Nat.div_one,G]at this;exact this
      · rw[Z];refine .row rfl ?_ (λo _ Y=> ?_)
        · simp
        simp
    rename_i he;split at e;case h_2=>exact e.elim
    rename_i a ha;split at e;case h_2=>exact e.elim
    rename_i r hr;refine⟨_,_,λI ac ht w=> ?_,e⟩;have hx:=Qm hr (qn ht ha);have C:=Lib.run_convert_string_bytes (P:=P) w s d A r hs hd he;have X:=sR w A r;have Z:Lib.bytesCells w A r=⟨[]++(q11 r++List.replicate (grownCap w r.size 0 A- r.size) (.int .u8 0))⟩:=(by apply Array.toList_inj.1;simp only[Lib.bytesCells];simp[q11]);have hge:=grownCap_ge w r.size 0 A;have G:(Lib.bytesCells w A r).size=grownCap w r.size 0 A:=(by rw[Z];simp[q2i];omega);refine⟨_,_,(0,(Lib.bytesCells w A r).size),_,by simp[execOp,hx,C,Result.andThen];rfl,X,⟨rfl,rfl,rfl⟩,λI' hl hI=>⟨?_,?_⟩⟩
    · have:=VR.msl (len:=r.size) (esz:=1) hI (by rw[G];omega) (by omega);rw[Nat.div_one,G]at this;exact this
    · rw[Z];refine .row rfl ?_ (λo _ Y=> ?_)
      · simp
      · simp at Y⊢;omega
  | makeSlice sty x y=>
    simp only[Xt]at e;split at e;case h_2=>exact e.elim
    rename_i A hu;split at e;case h_2=>exact e.elim
    rename_i i hi;split at e;case h_2=>exact e.elim
    rename_i a ha;split at e;case h_2=>exact e.elim
    rename_i b hb;split at e;case h_2=>exact e.elim
    rename_i k n hn;split at e;case h_2=>exact e.elim
    rename_i j c Z;split at e;case h_2=>exact e.elim
    rename_i z hz;split at e;case h_2=>exact e.elim
    rename_i O hzs;obtain⟨V,N,e2⟩:=qU e;simp only[Bool.and_eq_true]at V;have hzl:=Nat.eq_of_beq_eq_true V.1;have J:=Nat.le_of_ble_eq_true V.2;obtain⟨o1,o2,o3,o4⟩:=N;refine⟨_,_,λI ac ht w=> ?_,e2⟩;obtain⟨zv,h1,Y⟩:=Wk hz I;have hzv:zv.cells.toList=O:=Qk hzs Y;have G:zv.cells.size=i.size:=(by rw[←Array.length_toList,←Y.len];exact hzl);obtain⟨n',rfl⟩:=Int.eq_ofNat_of_zero_le o1;obtain⟨u,rfl⟩:=Int.eq_ofNat_of_zero_le (Int.le_trans o1 o2);have hnc:n'<=u:=(by omega);have wn:=wrap64 n' (by omega) (by omega);have wc:=wrap64 u (by omega) (by omega);have hbig:i.bytes*u<=140737488355328:=by have h3:((i.bytes*u:Nat):Int)<=140737488355328:=(by rw[Int.natCast_mul];exact o3);omega
    have hne:¬u*i.size=0\/u=0:=by
      rcases Nat.eq_zero_or_pos u with h|h
      · exact .inr h
      · exact .inl (Nat.ne_of_gt (Nat.mul_pos h J))
    have hti:(typeInfo A).run P w= .ok i w:=(by simp[typeInfo,program,Sem.run,hi,bind,Sem.bind,pure]);have row:(⟨ju O u⟩:Array Value)=⟨[]++(q6b O n'++ju O (u- n'))⟩:=(by rw[FU,List.nil_append,←tD];congr 2;omega);have H:∀m,(ju O m).length=m*i.size:=λm=>(by rw[←FU,tC,←G,←hzv,Array.length_toList]);have b2:((i.bytes:Int)*(u:Int))<=2 ^ 47:=o3;have t1:((decide ((u:Int)<0))||decide ((i.bytes:Int)*(u:Int)>2 ^ 48))=false:=(by simp only[Bool.or_eq_false_iff,decide_eq_false_iff_not];omega);have t2:¬(u*i.bytes>roomBytes):=Nat.not_lt.2 (by rw[Nat.mul_comm];exact hbig);have t0:(decide ((u:Int)<0)||decide ((i.bytes:Int)*(u:Int)>2 ^ 48)||decide ((n':Int)<0)||decide ((n':Int)>(u:Int)))=false:=(by rw[t1];simp only[Bool.false_or,Bool.or_eq_false_iff,decide_eq_false_iff_not];exact⟨by omega,by omega⟩);have T:∀m:Array Value,(u*i.size=0/\m= #[]\/¬u*i.size=0/\m=zv.cells)->((Array.range (u*i.size)).map (λk=>m[k % m.size]!))=(⟨ju O u⟩:Array Value):=λm hm=>by
      rcases hm with⟨U,rfl⟩|⟨U,rfl⟩
      · have:u=0:=by
          rcases hne with h|h
          · exact absurd U h
          · exact h
        rw[this];simp[ju]
      · rw[←G,Sm zv.cells u,hzv]
    have C:(Instr.makeSlice sty (.int k n') (.int j u)).run P w= .ok (.slice (some ⟨w.heap.size,0,none⟩) n' u) (w.alloc (.cells ⟨ju O u⟩ A)):=by
      simp only[Instr.makeSlice,asInt,asIntOf,Sem.run_bind,run_underlying hu,Sem.run_pure,Result.andThen,hti,wn,wc];rw[t0];simp only[Bool.false_eq_true,if_false,Sem.run_bind,askRoom,Int.toNat_natCast,if_neg t2,Sem.run_pure,Result.andThen,Eng.run_sizeOf hi];by_cases U:u*i.size=0
      · simp only[if_pos U,Sem.run_bind,Sem.run_pure,Result.andThen,T _ (.inl ⟨U,rfl⟩)];simp[newRow,newObj,Sem.run,Result.andThen]
      · simp only[if_neg U,Sem.run_bind,Sem.run_pure,Result.andThen,h1 w,T _ (.inr ⟨U,rfl⟩)];simp[newRow,newObj,Sem.run,Result.andThen]
    refine⟨_, .cells ⟨ju O u⟩ A,(0,u*i.size),w.alloc (.cells ⟨ju O u⟩ A),by simp only[execOp,vp hn (qn ht ha),vp Z (qn ht hb),Sem.run_bind];rw[C];rfl,rfl,⟨rfl,rfl,rfl⟩,λI' hl hI=>⟨?_,?_⟩⟩
    · have:=VR.msl (len:=n') (esz:=i.size) hI (Nat.mul_le_mul_right _ hnc) J;rw[Nat.mul_div_cancel _ J]at this;exact this
    · rw[row];refine .row rfl ?_ (λo _ Y=>by simp);rw[List.length_append,FU,H,H,←Nat.add_mul];congr 1;omega
  |_=>exact e.elim
end
section
end
section
end
section
end
section
end
section
def Xy(P:O7) (calls:Nat->Option Ct):jr:=RN P calls (uv P) (Zr P) (GX P) (Xt P)
variable {calls:Nat->Option Ct}
def qdb{P:O7} (h:∀g C,calls g=some C->q4a P g C):vq P (Xy P calls):=qgi h (qgv P) (qdj P) (qh0 P) (qg1 P)
def qda{P:O7}:kD P (Q9 P (Zr P)):=qd9 (qdj P)
abbrev noA:Option Addr:=none
structure WayF where
 ann:Nat->T AV->T AO->Option LT:=λ_ _ _=>none
 cut:Nat->T AV->T AO->Option LT:=λ_ _ _=>none
 pub:Nat->Nat->List Nat:=λ_ _=>[]
 pubE:List Nat:=[]
 unr:Nat:=0
 spl:Nat->Option Nat:=λ_=>none
 flo:Nat->Option (Nat×List Nat):=λ_=>none
 flu:Nat->List (Nat×List Nat):=λ_=>[]
 spm:Nat->List Nat:=λ_=>[]
def qjb(P:O7) (calls:Nat->Option Ct) (n m:Nat) (W:WayF):VE:={hs:=Xy P calls,hr:=Q9 P (Zr P),n:=n,nx0:=m,ann:=W.ann,cut:=W.cut,pub:=W.pub,pubE:=W.pubE,unr:=W.unr,spl:=W.spl,flo:=W.flo,flu:=W.flu,spm:=W.spm}
def wD(fn:Func):Code:=match fn.body with
 |some c=>c
 |none=> .skip
def qix(P:O7) (calls:Nat->Option Ct) (fn:Func) (C:Ct) (W:C.σ->WayF) (s:C.σ):Prop:=GC .e P (qjb P calls fn.ntmps C.m (W s)) 300 fn (wD fn) C s
def q1v(P:O7) (f:Nat) (fn:Func):Bool:=match fn.body with
 |some _=> !(fn.name== "runtime.NumGoroutine")
 |none=>false
def qj0{P:O7} (hm:P.follows .mixedOrders=true) {calls:Nat->Option Ct} (N:∀g C,calls g=some C->q4a P g C) {f:Nat} {fn:Func} {C:Ct} {W:C.σ->WayF} (H:P.funcs[f]? =some fn) (G:q1v P f fn=true) (J:1<=C.m) (hle:C.m<=C.m') (O:∀s,Nat.ble (C.args s).length fn.ntmps=true) (U:∀s,qix P calls fn C W s):q4a P f C:=by
  unfold q1v at G;cases u:fn.body with
  |none=>rw[u]at G;cases G
  | some c=>
    rw[u]at G;have A:wD fn=c:=(by unfold wD;rw[u]);refine qge hm (tab:= .e) (fuel:=300) (c:=c) (E:=λs=>qjb P calls fn.ntmps C.m (W s)) H u (by simpa using G) (λs=>qdb N) (λs=>qgp) (λs=>qda) (λs=>rfl) J (λI n a h=>by rw[T.get_e]at h;cases h) hle (λs=> ?_) (λs=> ?_)
    · have:=Nat.le_of_ble_eq_true (O s);show fn.ntmps=_;omega
    · have:=U s;unfold qix at this;rw[A]at this;exact this
def RS(P:O7) (u:Nat) (hx:kc):kc:=match u with
 |0=>hx
 |_+1=>hx
variable {u:Nat}
def qdc{P:O7} {hx:kc} (h:ye P hx):ye P (RS P u hx):=by unfold RS;split<;>exact h
def RO(P:O7) (u:Nat) (calls:Nat->Option Ct):jr:=match u with
 |0=>Xy P calls
 |_+1=>Xy P calls
def Nj{P:O7} (h:∀g C,calls g=some C->q4a P g C):vq P (RO P u calls):=by unfold RO;split<;>exact qdb h
def RM(P:O7) (u:Nat):jk:=match u with
 |0=>Q9 P (Zr P)
 |_+1=>Q9 P (Zr P)
def Ni{P:O7}:kD P (RM P u):=by unfold RM;split<;>exact qda
def WV(P:O7) (calls:Nat->Option Ct) (rel:Nat->Option CtR) (n m:Nat) (W:WayF):VE:={hs:=RO P W.unr calls,hx:=RS P W.unr (Xz P rel),hr:=RM P W.unr,n:=n,nx0:=m,ann:=W.ann,cut:=W.cut,pub:=W.pub,pubE:=W.pubE,unr:=W.unr,spl:=W.spl,flo:=W.flo,flu:=W.flu,spm:=W.spm}
def qiz(P:O7) (calls:Nat->Option Ct) (rel:Nat->Option CtR) (fn:Func) (C:Ct) (W:C.σ->WayF) (s:C.σ):Prop:=GC .e P (WV P calls rel fn.ntmps C.m (W s)) 300 fn (wD fn) C s
def qiy(P:O7) (calls:Nat->Option Ct) (rel:Nat->Option CtR) (fn:Func) (C:CtR) (W:C.σ->WayF) (s:C.σ):Prop:=Gm .e P (WV P calls rel fn.ntmps C.m (W s)) 300 fn (wD fn) C s
def qi7{P:O7} (hm:P.follows .mixedOrders=true) {calls:Nat->Option Ct} (O:∀g C,calls g=some C->q4a P g C) {rel:Nat->Option CtR} (H:∀g C,rel g=some C->q1i P g C) {f:Nat} {fn:Func} {C:Ct} {W:C.σ->WayF} (J:P.funcs[f]? =some fn) (G:q1v P f fn=true) (N:1<=C.m) (hle:C.m<=C.m') (U:∀s,Nat.ble (C.args s).length fn.ntmps=true) (V:∀s,qiz P calls rel fn C W s):q4a P f C:=by
  unfold q1v at G;cases u:fn.body with
  |none=>rw[u]at G;cases G
  | some c=>
    rw[u]at G;have A:wD fn=c:=(by unfold wD;rw[u]);refine qge hm (tab:= .e) (fuel:=300) (c:=c) (E:=λs=>WV P calls rel fn.ntmps C.m (W s)) J u (by simpa using G) (λs=>Nj O) (λs=>qdc (Nk H)) (λs=>Ni) (λs=>rfl) N (λI n a h=>by rw[T.get_e]at h;cases h) hle (λs=> ?_) (λs=> ?_)
    · have:=Nat.le_of_ble_eq_true (U s);show fn.ntmps=_;omega
    · have:=V s;unfold qiz at this;rw[A]at this;exact this
def qi6{P:O7} (hm:P.follows .mixedOrders=true) {calls:Nat->Option Ct} (O:∀g C,calls g=some C->q4a P g C) {rel:Nat->Option CtR} (H:∀g C,rel g=some C->q1i P g C) {f:Nat} {fn:Func} {C:CtR} {W:C.σ->WayF} (J:P.funcs[f]? =some fn) (G:q1v P f fn=true) (N:1<=C.m) (hle:C.m<=C.m') (U:∀s,Nat.ble (C.args s).length fn.ntmps=true) (V:∀s,qiy P calls rel fn C W s):q1i P f C:=by
  unfold q1v at G;cases u:fn.body with
  |none=>rw[u]at G;cases G
  | some c=>
    rw[u]at G;have A:wD fn=c:=(by unfold wD;rw[u]);refine qd7 hm (tab:= .e) (fuel:=300) (c:=c) (E:=λs=>WV P calls rel fn.ntmps C.m (W s)) J u (by simpa using G) (λs=>Nj O) (λs=>qdc (Nk H)) (λs=>Ni) (λs=>rfl) N (λI n a h=>by rw[T.get_e]at h;cases h) hle (λs=> ?_) (λs=> ?_)
    · have:=Nat.le_of_ble_eq_true (U s);show fn.ntmps=_;omega
    · have:=V s;unfold qiy at this;rw[A]at this;exact this
def Ct.below(C:Ct) (μ:C.σ->Nat) (n:Nat):Ct:={C with pre:=λs=>μ s<n/\C.pre s}
variable {f:Nat}
def Ct.of_below{P:O7} {C:Ct} {μ:C.σ->Nat} (h:∀n,q4a P f (C.below μ n)):q4a P f C:=by obtain⟨H,J,N,_⟩:=h 0;refine⟨H,J,N,λs=> ?_⟩;obtain⟨_,_,_,O⟩:=h (μ s+1);obtain⟨a,b,u,A,G⟩:=O s;exact⟨a,b,u,A,λF I w vs T hs low zf hp=>G F I w vs T hs low zf ⟨Nat.lt_succ_self _,hp⟩⟩
def Ct.below_zero{P:O7} {C:Ct} {μ:C.σ->Nat} (A:C.m<=C.m') (G:1<=C.m) (H:q4h P f) (u:∀s,(q0m (C.h s) .e).isSome=true/\(q0m (C.h' s) .e).isSome=true):q4a P f (C.below μ 0):=by refine⟨A,G,H,λs=> ?_⟩;obtain⟨a,J⟩:=Option.isSome_iff_exists.1 (u s).1;obtain⟨b,N⟩:=Option.isSome_iff_exists.1 (u s).2;exact⟨a,b,J,N,λF I w vs _ _ _ _ hp=>absurd hp.1 (by omega)⟩
def CtR.below(C:CtR) (μ:C.σ->Nat) (n:Nat):CtR:={C with pre:=λs=>μ s<n/\C.pre s}
def CtR.of_below{P:O7} {C:CtR} {μ:C.σ->Nat} (h:∀n,q1i P f (C.below μ n)):q1i P f C:=by obtain⟨G,H,J,_⟩:=h 0;refine⟨G,H,J,λs=> ?_⟩;obtain⟨_,_,_,N⟩:=h (μ s+1);obtain⟨a,u,A⟩:=N s;exact⟨a,u,λF I w vs O hs low zf hp=>A F I w vs O hs low zf ⟨Nat.lt_succ_self _,hp⟩⟩
def CtR.below_zero{P:O7} {C:CtR} {μ:C.σ->Nat} (u:C.m<=C.m') (A:1<=C.m) (G:q4h P f) (H:∀s,(q0m (C.h s) .e).isSome=true):q1i P f (C.below μ 0):=by refine⟨u,A,G,λs=> ?_⟩;obtain⟨a,J⟩:=Option.isSome_iff_exists.1 (H s);exact⟨a,J,λF I w vs _ _ _ _ hp=>absurd hp.1 (by omega)⟩
def qff:List (Nat×CtR)->Nat->Option CtR
  | [],_=>none
  | (k,C)::l,g=>match Nat.beq k g with
    |true=>some C
    |false=>qff l g
def qcl{P:O7}:∀{l:List (Nat×CtR)},(∀k C,(k,C)∈l->q1i P k C)->∀g C,qff l g=some C->q1i P g C
  | [],_,g,C,e=>by cases e
  | (k,D)::l,h,g,C,e=>by
    simp only[qff]at e;split at e
    · rename_i u;cases e;rw[←Nat.eq_of_beq_eq_true u];exact h k D List.mem_cons_self
    · exact qcl (λk C hm=>h k C (List.mem_cons_of_mem _ hm)) g C e
def qfq{P:O7} {k:Nat} {D:CtR} {l:List (Nat×CtR)} (u:q1i P k D) (A:∀k C,(k,C)∈l->q1i P k C):∀h C,(h,C)∈(k,D)::l->q1i P h C:=λh C hm=>by
 cases hm with
 |head=>exact u
 |tail _ hm=>exact A h C hm
def qik{P:O7}:∀k C,(k,C)∈([]:List (Nat×CtR))->q1i P k C:=λk C h=>by cases h
end
section
def enters_of{P:O7} {f:Nat} {fn:Func} (hfn:P.funcs[f]? =some fn) (hb:q1v P f fn=true):q4h P f:=λargs w=>by
  unfold q1v at hb;cases hbody:fn.body with
  |none=>rw[hbody]at hb;cases hb
  | some c=>
    rw[hbody]at hb;have hnn:¬fn.name= "runtime.NumGoroutine" :=(by simpa using hb);simp[callFunc,program,Sem.run,bind,Sem.bind,pure,hfn,hnn,hbody]
def qh3{I:In}:∀{l us:List Value},VRs I (l.map .sv) us->us=l
 | [],_,h=>by cases h;rfl
 |v::l,_,h=>by cases h with|cons u A=>cases u;rw[qh3 A]
def qgf:List AV->Option (List Value)
  | []=>some []
  | a ::l=>match gv a with
    | some v=>match qgf l with
      |some r=>some (v::r)
      |none=>none
    |none=>none
def ctS(σ:Type) (args:σ->List Value) (find:List Value->Option σ) (pre:σ->Prop) (mem:σ->PF) (r:σ->AV):Ct where
 σ:=σ
 args:=λs=>(args s).map .sv
 h:=λ_=>[]
 m:=1
 pre:=pre
 mem:=mem
 find:=some λl _=>match qgf l with
  |some vs=>find vs
  |none=>none
 r:=r
 h':=λ_=>[]
 m':=1
 g:=λ_=>none
def qef:List (Nat×Ct)->Nat->Option Ct
  | [],_=>none
  | (k,C)::l,g=>match Nat.beq k g with
    |true=>some C
    |false=>qef l g
def qbu{P:O7}:∀{l:List (Nat×Ct)},(∀k C,(k,C)∈l->q4a P k C)->∀g C,qef l g=some C->q4a P g C
  | [],_,g,C,e=>by cases e
  | (k,D)::l,h,g,C,e=>by
    simp only[qef]at e;split at e
    · rename_i u;cases e;rw[←Nat.eq_of_beq_eq_true u];exact h k D List.mem_cons_self
    · exact qbu (λk C hm=>h k C (List.mem_cons_of_mem _ hm)) g C e
def qfr{P:O7} {k:Nat} {D:Ct} {l:List (Nat×Ct)} (u:q4a P k D) (A:∀k C,(k,C)∈l->q4a P k C):∀h C,(h,C)∈(k,D)::l->q4a P h C:=λh C hm=>by
 cases hm with
 |head=>exact u
 |tail _ hm=>exact A h C hm
def qil{P:O7}:∀k C,(k,C)∈([]:List (Nat×Ct))->q4a P k C:=λk C h=>by cases h
end
section
def qiq{P:O7} {f:Nat} {C:Ct} (O:q4h P f) (hm:C.m<=C.m') (H:1<=C.m) (vs:C.σ->List Value) (res:C.σ->Value) (U:∀s,C.args s=(vs s).map .sv) (X:∀s,C.h s=[]) (G:∀s,C.h' s=[]) (V:∀s,C.g s=none) (hr:∀s (I:In),VR I (C.r s) (res s))
    (h:∀s w,C.pre s->Calls P f ⟨vs s⟩ w λe N=>e= .returned (res s)/\Below w.heap.size w N):q4a P f C:=by
  refine⟨hm,H,O,λs=>⟨.e, .e,by rw[X];rfl,by rw[G];rfl,λF I w us J hs low zf hp _ hn Z=> ?_⟩⟩;rw[U]at J;have e0:us=vs s:=by
    have:∀(x y:List Value),VRs I (x.map AV.sv) y->y=x:=λx=>by
      induction x with
      |nil=>intro y h;cases h;rfl
      | cons a l Y=>
        intro y h;cases h with|cons h t=>cases h;rw[Y _ t]
    exact this _ _ J
  subst e0;refine(h s w hp).mono λe N he=> ?_;obtain⟨rfl,u⟩:=he;have no:∀{id:Nat} {o:AO},(T.e:T AO).get id=some o->False:=λh=>by rw[T.get_e]at h;cases h
  refine⟨res s,I,rfl,hr s I,⟨In.le_refl I,λ_ _ h=> .inl h,⟨λ_ _ _ _ h=>(no h).elim,λ_ _ _ _ _ _ _ h=>(no h).elim,λ_ _ _ _ h=>(no h).elim⟩,λb A=>u.block b (low b A),u.size,⟨u.os,u.tape,u.output⟩⟩,?_⟩;rw[V];trivial
end
section
def NX (P : O7):kc:=λgl t h nx o=>match o.op with
  | .buildSlice _ _ _=>match ui P t nx o with
    | some (.sl id off m c, .cells e (some fz) false l)=>match Nat.beq id nx&&(Nat.beq off 0&&(Nat.beq m c&&Nat.beq fz 0))with
      | true=>match ur.concs l with
        | some us=>match Nat.beq us.length (m*(us.length / m))with
          | true=>match T.put 64 nx (some (.row e 0 us)) h with
            | some u=>match u.get (nx+1)with
              |none=>some λK=>K gl (.ssl nx 0 m (us.length / m) (nx+1)) u (nx+2)
              |some _=>none
            |none=>none
          |false=>none
        |none=>none
      |false=>none
    |_=>none
  |_=>none
def qe9{P:O7}:ye P (NX P):=λgl t h nx o q K hq e=>by
  unfold NX at hq;split at hq;case h_2=>cases hq
  split at hq;case h_2=>cases hq
  rename_i id off m c el fz l N;split at hq;case h_2=>cases hq
  rename_i Y;split at hq;case h_2=>cases hq
  rename_i us T;split at hq;case h_2=>cases hq
  rename_i hlen;split at hq;case h_2=>cases hq
  rename_i h1 hp;split at hq;case h_2=>cases hq
  rename_i u;cases hq;simp only[Bool.and_eq_true]at Y;obtain⟨C,G,H,J⟩:=Y;have C:=Nat.eq_of_beq_eq_true C;have G:=Nat.eq_of_beq_eq_true G;have H:=Nat.eq_of_beq_eq_true H;have J:=Nat.eq_of_beq_eq_true J;subst C G H J;have hlen:=Nat.eq_of_beq_eq_true hlen;refine⟨Unit,λ_=> .ssl id 0 m (us.length / m) (id+1),λ_=>h1,id+2,λ_=>{},λ_=>e,by omega,λF I n a w st fr K' Q hk=> ?_⟩;obtain⟨z,obj,V,w',g1,g2,g3,g4⟩:=qd1 (P:=P) N st.tr w;have I0:I id=none:=fr id (Nat.le_refl _) (by omega);have I1:I (id+1)=none:=fr (id+1) (by omega) (by omega);obtain⟨k1,k2⟩:=g4 (ext I id (w.heap.size,V)) (Zh _ I0) (zT _ _ _);cases k1 with
  | sl X=>
    rename_i b s A;rw[zT]at X;cases X;have Z:OR (ext I id (w.heap.size,s,A)) (s,A) (.row el 0 us) obj/\us.length=A:=by
      cases k2 with
      | cells r1 r2 r3 r4 r5 U=>
        have:=Wi T r1;subst this;obtain⟨q1,q2⟩:=r2 rfl;subst q1 q2;rcases U with rfl|⟨U,_⟩
        · exact⟨.row r3 r4 λo _ ho=>r5 0 rfl o (Nat.zero_le _) ho,by simpa using r4⟩
        · cases U
    have hg:=st.sim.push I0 st.low hp g2 Z.1 g3;obtain⟨y,hy⟩:=SK (some ⟨w.heap.size,s+0,none⟩,m,m) trivial;have O:=Grow.tok (y:=y) hg (Nat.le_succ _) (by rw[ext,if_neg (by omega)];exact I1) u;unfold Oper.wp;rw[g1];refine hk () _ _ w' ?_ O trivial;exact .ssl (b:=w.heap.size) (s:=s) (t:=A) (c:=m) (o:=s+0) (by rw[ext,if_neg (by omega)];exact zT _ _ _) (Nat.le_refl _) (by rw[Nat.zero_add,←Z.2,←hlen];exact Nat.le_refl _) (.inl rfl) (zT _ _ _) hy
def RQ(P:O7) (rel:Nat->Option CtR):kc:=λgl t h nx o=>match Xz P rel gl t h nx o with
 |some q=>some q
 |none=>NX P gl t h nx o
def qgj{P:O7} {rel:Nat->Option CtR} (A:∀g C,rel g=some C->q1i P g C):ye P (RQ P rel):=λgl t h nx o q K hq e=>by
 unfold RQ at hq;split at hq
 ·rename_i G u;cases hq;exact Nk A gl t h nx o q K u e
 ·exact qe9 gl t h nx o q K hq e
def qja(P:O7) (calls:Nat->Option Ct) (rel:Nat->Option CtR) (n m:Nat) (W:WayF):VE:={WV P calls rel n m W with hx:=RQ P rel}
def qiw(P:O7) (calls:Nat->Option Ct) (rel:Nat->Option CtR) (fn:Func) (C:CtR) (W:C.σ->WayF) (s:C.σ):Prop:=Gm .e P (qja P calls rel fn.ntmps C.m (W s)) 300 fn (wD fn) C s
def qi5{P:O7} (hm:P.follows .mixedOrders=true) {calls:Nat->Option Ct} (O:∀g C,calls g=some C->q4a P g C) {rel:Nat->Option CtR} (H:∀g C,rel g=some C->q1i P g C) {f:Nat} {fn:Func} {C:CtR} {W:C.σ->WayF} (J:P.funcs[f]? =some fn) (G:q1v P f fn=true) (N:1<=C.m) (hle:C.m<=C.m') (U:∀s,Nat.ble (C.args s).length fn.ntmps=true) (V:∀s,qiw P calls rel fn C W s):q1i P f C:=by
  unfold q1v at G;cases u:fn.body with
  |none=>rw[u]at G;cases G
  | some c=>
    rw[u]at G;have A:wD fn=c:=(by unfold wD;rw[u]);refine qd7 hm (tab:= .e) (fuel:=300) (c:=c) (E:=λs=>qja P calls rel fn.ntmps C.m (W s)) J u (by simpa using G) (λs=>Nj O) (λs=>qgj H) (λs=>Ni) (λs=>rfl) N (λI n a h=>by rw[T.get_e]at h;cases h) hle (λs=> ?_) (λs=> ?_)
    · have:=Nat.le_of_ble_eq_true (U s);show fn.ntmps=_;omega
    · have:=V s;unfold qiw at this;rw[A]at this;exact this
end
end
end Go.Proofs.YtniogjgfomaicaaGreat.Sen
