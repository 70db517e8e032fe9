/-
  Regions in another order than the text's, and runs from numbers of whatever value. No condition but what its theorems ask.
-/
import Derived.Test.YthbedbjccmhcoaaEng9
namespace Go.Proofs.Ythbedbjccmhcoaa.Eng
open Go.RowKit
set_option linter.unusedVariables false
set_option linter.unusedSimpArgs false
variable {gl : T AV}
/-!
Regions whose operations are told in another order than the text's.
-/
/-- Where a number stands in a row. -/
noncomputable def posN (j : Nat) : List Nat → Nat
  | [] => 0
  | i :: l => match Nat.beq i j with
    | true => 0
    | false => posN j l + 1
noncomputable def renE (σ : List Nat) (e : Edge) : Edge := { e with on := posN e.on σ }
noncomputable def renO (σ : List Nat) (o : Oper) : Oper := { o with after := ⟨o.after.toList.map (renE σ)⟩, guard := match o.guard with | some (j, b) => some (posN j σ, b) | none => none }
noncomputable def takeOps (l : List Oper) (σ : List Nat) : List Nat → Option (List Oper)
  | [] => some []
  | i :: r => match nth l i with
    | some o => match takeOps l σ r with
      | some x => some (renO σ o :: x)
      | none => none
    | none => none
noncomputable def memN (j : Nat) : List Nat → Bool
  | [] => false
  | i :: l => Nat.beq i j || memN j l
noncomputable def edgesIn (n : Nat) : List Edge → Bool
  | [] => true
  | e :: l => Nat.blt e.on n && edgesIn n l
noncomputable def permOK (l : List Oper) (σ : List Nat) : Bool :=
  Nat.beq σ.length l.length && allUp l.length fun i =>
    (match nth σ (posN i σ) with | some j => Nat.beq j i | none => false) &&
    (match nth σ i with | some j => Nat.blt j l.length && Nat.beq (posN j σ) i | none => false) &&
    (match nth l i with | some o => edgesIn l.length o.after.toList && (match o.guard with | some (j, _) => Nat.blt j l.length | none => true) | none => false)
theorem takeOps_at {l : List Oper} {σ : List Nat} : ∀ {r : List Nat} {x : List Oper}, takeOps l σ r = some x → x.length = r.length ∧ ∀ (k i : Nat), r[k]? = some i → ∃ o, l[i]? = some o ∧ x[k]? = some (renO σ o)
  | [], x, h => by cases h; exact ⟨rfl, fun k i h => by simp at h⟩
  | i :: r, x, h => by
    simp only [takeOps] at h
    split at h
    · rename_i o ho
      split at h
      · rename_i y hy
        cases h
        obtain ⟨h1, h2⟩ := takeOps_at hy
        refine ⟨by simp [h1], fun k j hk => ?_⟩
        cases k with
        | zero => simp at hk; subst hk; exact ⟨o, by rw [← nth_eq]; exact ho, rfl⟩
        | succ k => simpa using h2 k j (by simpa using hk)
      · cases h
    · cases h
structure PermR (ops ops' : Array Oper) (τ : Nat → Nat) : Prop where
  size : ops'.size = ops.size
  lt : ∀ i, i < ops.size → τ i < ops.size
  inj : ∀ i j, i < ops.size → j < ops.size → τ i = τ j → i = j
  sur : ∀ k, k < ops.size → ∃ i, i < ops.size ∧ τ i = k
  op : ∀ i o, ops[i]? = some o → ∃ o', ops'[τ i]? = some o' ∧ (∀ P a w K Q, o'.wp P a w K Q = o.wp P a w K Q) ∧ (∀ P a w, o'.asks P a w = o.asks P a w) ∧ o'.dst = o.dst ∧
    (∀ l : Array Bool, ∀ l' : Array Bool, (∀ j, j < ops.size → ∀ d, l'.getD (τ j) d = l.getD j d) → (o'.after.all fun e => !Region.binds .any e || l'.getD e.on false) = (o.after.all fun e => !Region.binds .any e || l.getD e.on false)) ∧
    (∀ j b, o.guard = some (j, b) → j < ops.size ∧ o'.guard = some (τ j, b)) ∧ (o.guard = none → o'.guard = none)
theorem edgesIn_ok {n : Nat} : ∀ {l : List Edge}, edgesIn n l = true → ∀ e ∈ l, e.on < n
  | [], _, e, h => by cases h
  | x :: l, h, e, he => by
    simp only [edgesIn, Bool.and_eq_true] at h
    cases he with
    | head => exact blt_ok h.1
    | tail _ he => exact edgesIn_ok h.2 e he
theorem wp_ren (σ : List Nat) (o : Oper) : (∀ P a w K Q, (renO σ o).wp P a w K Q = o.wp P a w K Q) ∧ (∀ P a w, (renO σ o).asks P a w = o.asks P a w) := ⟨fun _ _ _ _ _ => rfl, fun _ _ _ => rfl⟩
theorem perm_of {ops : Array Oper} {σ : List Nat} {x : List Oper} (h : permOK ops.toList σ = true) (hx : takeOps ops.toList σ σ = some x) : PermR ops ⟨x⟩ fun i => posN i σ := by
  unfold permOK at h
  rw [Bool.and_eq_true] at h
  obtain ⟨h0, h⟩ := h
  have hl : σ.length = ops.size := by have := Nat.eq_of_beq_eq_true h0; simpa using this
  have hn : ops.toList.length = ops.size := by simp
  rw [hn] at h
  have H := allUp_ok h
  obtain ⟨x1, x2⟩ := takeOps_at hx
  have key : ∀ i, i < ops.size → σ[posN i σ]? = some i := fun i hi => by
    have := H i hi
    simp only [Bool.and_eq_true] at this
    have := this.1.1
    split at this
    · rename_i j hj
      rw [nth_eq] at hj; rw [hj, Nat.eq_of_beq_eq_true this]
    · cases this
  have back : ∀ k, k < ops.size → ∃ j, σ[k]? = some j ∧ j < ops.size ∧ posN j σ = k := fun k hk => by
    have := H k hk
    simp only [Bool.and_eq_true] at this
    have := this.1.2
    split at this
    · rename_i j hj
      simp only [Bool.and_eq_true] at this
      rw [nth_eq] at hj
      exact ⟨j, hj, blt_ok this.1, Nat.eq_of_beq_eq_true this.2⟩
    · cases this
  refine ⟨by simpa [x1] using hl, fun i hi => ?_, fun i j hi hj e => ?_, fun k hk => ?_, fun i o ho => ?_⟩
  · have := (List.getElem?_eq_some_iff.1 (key i hi)).1
    omega
  · have h1 := key i hi
    have h2 := key j hj
    have e : posN i σ = posN j σ := e
    rw [e, h2] at h1; cases h1; rfl
  · obtain ⟨j, h1, h2, h3⟩ := back k hk
    exact ⟨j, h2, h3⟩
  · have hi : i < ops.size := (Array.getElem?_eq_some_iff.1 ho).1
    obtain ⟨o2, g1, g2⟩ := x2 _ _ (key i hi)
    have : o2 = o := by
      have : ops.toList[i]? = some o := by simpa using ho
      rw [this] at g1; cases g1; rfl
    subst this
    have hw := H i hi
    simp only [Bool.and_eq_true] at hw
    have hw := hw.2
    have hnn : nth ops.toList i = some o2 := by rw [nth_eq]; simpa using ho
    rw [hnn] at hw
    simp only [Bool.and_eq_true] at hw
    refine ⟨renO σ o2, by simpa using g2, (wp_ren σ o2).1, (wp_ren σ o2).2, rfl, fun l l' hll => ?_, fun j b hg => ?_, fun hg => ?_⟩
    · have he := edgesIn_ok hw.1
      have : ∀ es : List Edge, (∀ e ∈ es, e.on < ops.size) → ((es.map (renE σ)).all fun e => !Region.binds .any e || l'.getD e.on false) = (es.all fun e => !Region.binds .any e || l.getD e.on false) := by
        intro es
        induction es with
        | nil => intro _; rfl
        | cons e es ih =>
          intro hes
          rw [List.map_cons, List.all_cons, List.all_cons, ih fun e he => hes e (.tail _ he)]
          have h1 : (renE σ e).on = posN e.on σ := rfl
          have h2 : Region.binds .any (renE σ e) = Region.binds .any e := rfl
          rw [h1, h2, hll e.on (hes e (.head _)) false]
      have h2 := this o2.after.toList (fun e h => he e h)
      rw [← Array.all_toList, ← Array.all_toList]
      exact h2
    · have := hw.2
      rw [hg] at this
      refine ⟨blt_ok this, ?_⟩
      unfold renO; rw [hg]
    · unfold renO; rw [hg]
theorem PermR.yield {ops ops' : Array Oper} {τ : Nat → Nat} (p : PermR ops ops' τ) (tmps : Array Value) {j : Nat} (hj : j < ops.size) : yielded ops' tmps (τ j) = yielded ops tmps j := by
  obtain ⟨o', h1, _, _, h4, _⟩ := p.op j _ (Array.getElem?_eq_getElem hj)
  unfold yielded
  rw [h1, Array.getElem?_eq_getElem hj]
  simp only [Option.bind_some, h4]
noncomputable def Lst (ops : Array Oper) (τ : Nat → Nat) (l l' : Array Bool) : Prop := l.size = ops.size ∧ l'.size = ops.size ∧ ∀ j, j < ops.size → ∀ d, l'.getD (τ j) d = l.getD j d
theorem PermR.ready {ops ops' : Array Oper} {τ : Nat → Nat} (p : PermR ops ops' τ) {l l' : Array Bool} (h : Lst ops τ l l') {i : Nat} (hi : i < ops.size) : τ i ∈ Region.ready .any ops' l' ↔ i ∈ Region.ready .any ops l := by
  unfold Region.ready
  rw [List.mem_filter, List.mem_filter, List.mem_range, List.mem_range, p.size]
  obtain ⟨o', h1, _, _, _, h5, _⟩ := p.op i _ (Array.getElem?_eq_getElem hi)
  rw [h.2.2 i hi true, h1, Array.getElem?_eq_getElem hi]
  simp only [Option.map_some, Option.getD_some]
  rw [h5 l l' h.2.2]
  simp [hi, p.lt i hi]
theorem ready_lt {ops : Array Oper} {l : Array Bool} {i : Nat} (h : i ∈ Region.ready .any ops l) : i < ops.size := by
  unfold Region.ready at h
  rw [List.mem_filter, List.mem_range] at h
  exact h.1
theorem Lst.set {ops ops' : Array Oper} {τ : Nat → Nat} (p : PermR ops ops' τ) {l l' : Array Bool} (h : Lst ops τ l l') {i : Nat} (hi : i < ops.size) : Lst ops τ (l.setIfInBounds i true) (l'.setIfInBounds (τ i) true) := by
  refine ⟨by simp [h.1], by simp [h.2.1], fun j hj d => ?_⟩
  have e := h.2.2 j hj d
  simp only [Array.getD_eq_getD_getElem?, Array.getElem?_setIfInBounds] at e ⊢
  by_cases hij : i = j
  · subst hij
    have := p.lt i hi
    simp [h.1, h.2.1, hi, this]
  · have : τ i ≠ τ j := fun e => hij (p.inj i j hi hj e)
    rw [if_neg this, if_neg hij]; exact e
theorem wpAny_perm {P : Program} {ops ops' : Array Oper} {τ : Nat → Nat} (p : PermR ops ops' τ) {Q : Exit → Act → World → Prop} : ∀ (fuel : Nat) (l l' : Array Bool) (a : Act) (w : World), Lst ops τ l l' → wpAny P .any ops' Q fuel l' a w → wpAny P .any ops Q fuel l a w := by
  have empty : ∀ l l', Lst ops τ l l' → (Region.ready .any ops l = [] ↔ Region.ready .any ops' l' = []) := fun l l' h => by
    constructor
    · intro e
      rw [List.eq_nil_iff_forall_not_mem]
      intro k hk
      have hlt := ready_lt hk
      rw [p.size] at hlt
      obtain ⟨i, hi, rfl⟩ := p.sur k hlt
      have := (p.ready h hi).1 hk
      rw [e] at this; cases this
    · intro e
      rw [List.eq_nil_iff_forall_not_mem]
      intro i hi
      have := (p.ready h (ready_lt hi)).2 hi
      rw [e] at this; cases this
  intro fuel
  induction fuel with
  | zero =>
    intro l l' a w hl h
    exact ⟨(empty l l' hl).2 h.1, h.2⟩
  | succ fuel ih =>
    intro l l' a w hl h
    refine ⟨fun e => h.1 ((empty l l' hl).1 e), fun i hi => ?_⟩
    have hlt := ready_lt hi
    have h1 := h.2 (τ i) ((p.ready hl hlt).2 hi)
    have h2 := wpOp_mono (fun a w => ih (l.setIfInBounds i true) (l'.setIfInBounds (τ i) true) a w (hl.set p hlt)) h1
    obtain ⟨o', g1, g2, g3, g4, g5, g6, g7⟩ := p.op i _ (Array.getElem?_eq_getElem hlt)
    unfold wpOp at h2 ⊢
    rw [g1] at h2
    rw [Array.getElem?_eq_getElem hlt]
    simp only at h2 ⊢
    have hw : Region.wanted o' (yielded ops' a.tmps) = Region.wanted ops[i] (yielded ops a.tmps) := by
      unfold Region.wanted
      cases hg : ops[i].guard with
      | none => rw [g7 hg]
      | some x =>
        obtain ⟨j, b⟩ := x
        obtain ⟨q1, q2⟩ := g6 j b hg
        rw [q2]
        simp only
        rw [p.yield _ q1]
    rw [hw, g2, g3, g4] at h2
    exact h2
/-- The text's order, what makes memory as late as may be. -/
noncomputable def readyP (l : List Oper) (done : List Nat) (o : Oper) : Bool := o.after.toList.all fun e => !(Region.binds .any e) || memN e.on done
noncomputable def pickP (P : Program) (l : List Oper) (done : List Nat) (a : Bool) : List Oper → Nat → Option Nat
  | [], _ => none
  | o :: r, i => match !(memN i done) && readyP l done o && (match isA P o with | true => a | false => true) with
    | true => some i
    | false => pickP P l done a r (i + 1)
noncomputable def orderP (P : Program) (l : List Oper) : Nat → List Nat → List Nat
  | 0, done => done
  | n + 1, done => match pickP P l done false l 0 with
    | some i => orderP P l n (done ++ [i])
    | none => match pickP P l done true l 0 with
      | some i => orderP P l n (done ++ [i])
      | none => done
noncomputable def permO (P : Program) (ops : Array Oper) : Option (Array Oper) :=
  match permOK ops.toList (orderP P ops.toList ops.toList.length []) with
  | true => match takeOps ops.toList (orderP P ops.toList ops.toList.length []) (orderP P ops.toList ops.toList.length []) with
    | some x => some ⟨x⟩
    | none => none
  | false => none
/-- A region, in the text's order or in the other one. -/
noncomputable def regG (P : Program) (call : CallF) (ext : ExtF) (n : Nat) (ops : Array Oper) (t : T AV) (h : T AO) (nx : Nat) : Res :=
  match regF P call ext n ops t h nx with
  | .bad => match permO P ops with
    | some ops' => regF P call ext n ops' t h nx
    | none => .bad
  | r => r
noncomputable def regH (P : Program) (call : CallF) (ext : ExtF) (n : Nat) : RegF := fun ops t h nx => match regG P call ext n ops t h nx with
  | .nrm t h nx => some (t, h, nx)
  | _ => none
theorem regG_cases {P : Program} {call : CallF} {ext : ExtF} {n : Nat} {ops : Array Oper} {t : T AV} {h : T AO} {nx : Nat} {r : Res} (e : regG P call ext n ops t h nx = r) (hr : r ≠ .bad) :
    ∃ t' h' nx', r = .nrm t' h' nx' ∧ (regD P call ext n ops t h nx = some (t', h', nx') ∨ ∃ ops', permO P ops = some ops' ∧ regD P call ext n ops' t h nx = some (t', h', nx')) := by
  unfold regG at e
  split at e
  · split at e
    · rename_i ops' hp
      obtain ⟨t', h', nx', k1, k2⟩ := regF_ok e hr
      exact ⟨t', h', nx', k1, .inr ⟨ops', hp, k2⟩⟩
    · exact absurd e.symm hr
  · subst e
    obtain ⟨t', h', nx', k1, k2⟩ := regF_ok rfl hr
    exact ⟨t', h', nx', k1, .inl k2⟩
theorem regG_ok {P : Program} {call : CallF} {ext : ExtF} {n : Nat} {ops : Array Oper} {t : T AV} {h : T AO} {nx : Nat} {r : Res} (e : regG P call ext n ops t h nx = r) (hr : r ≠ .bad) : ∃ t' h' nx', r = .nrm t' h' nx' ∧ regH P call ext n ops t h nx = some (t', h', nx') := by
  obtain ⟨t', h', nx', k1, k2⟩ := regG_cases e hr
  exact ⟨t', h', nx', k1, by unfold regH; rw [e, k1]⟩
theorem regH_ok {P : Program} (hm : P.follows .mixedOrders = true) {call : CallF} {ext : ExtF} (hc : CallOK gl P call) (he : ExtOK P ext) (n : Nat) : RegOK gl P n (regH P call ext n) := by
  intro ops t h nx t' h' nx' e
  unfold regH at e
  split at e
  case h_2 => cases e
  rename_i t1 h1 nx1 hr
  cases e
  obtain ⟨t2, h2, nx2, k1, k2⟩ := regG_cases hr (by simp)
  cases k1
  rcases k2 with k2 | ⟨ops', hp, k2⟩
  · exact regD_ok hm hc he n ops t h nx t' h' nx' k2
  · obtain ⟨k1, k2⟩ := regD_any hc he n ops' t h nx t' h' nx' k2
    unfold permO at hp
    split at hp
    · rename_i hok
      split at hp
      · rename_i x hx
        cases hp
        have p := perm_of hok hx
        refine ⟨k1, fun F I a w st fr Q hQ id => wp_region_any hm ?_⟩
        have h1 := k2 F I a w st fr Q hQ
        have hs : (⟨x⟩ : Array Oper).size = ops.size := p.size
        rw [hs] at h1
        refine wpAny_perm p ops.size _ (Array.replicate ops.size false) a _ ⟨by simp, by simp, fun j hj d => ?_⟩ h1
        have hlt : posN j (orderP P ops.toList ops.toList.length []) < ops.size := p.lt j hj
        have e1 : ∀ i, i < ops.size → (Array.replicate ops.size false).getD i d = false := fun i hi => by simp [Array.getD_eq_getD_getElem?, hi]
        exact (e1 _ hlt).trans (e1 j hj).symm
      · cases hp
    · cases hp
/-- A call's run, if its callees' are proved. -/
theorem call_of_exH {P : Program} {call : CallF} {ext : ExtF} (hm : P.follows .mixedOrders = true) (hc : CallOK gl P call) (he : ExtOK P ext) (hn : ∀ (f : Nat) (fn : Func), P.funcs[f]? = some fn → (fn.name == "runtime.NumGoroutine") = false)
    {f : Nat} {fn : Func} {c : Code} {args : List AV} {t t1 : T AV} {h h1 : T AO} {nx nx1 : Nat} {x : AX} {rs : List AV} (hfn : P.funcs[f]? = some fn) (hb : fn.body = some c) (ht : (if args.length < gBase then initT args 0 gl else none) = some t)
    (hx : Ex P call ext (regH P call ext (args.length + (fn.ntmps - args.length))) (args.length + (fn.ntmps - args.length)) c t h nx (x, t1, h1, nx1)) (hne : ∀ i, x ≠ .ex i) (hrs : aresults P t1 h1 fn.results.toList = some rs) :
    nx ≤ nx1 ∧ (∀ args w, (callFunc f args).run P w = .ok (.enter f args) w) ∧
    ∀ (F : Bool → Nat → Prop) (I : In) (w : World) (vs : List Value), VRs I args vs → Sim F I h w → (∀ b, F true b → b < w.heap.size) → GOK gl I → (∀ b, F false b → F true b) → Fresh I nx nx1 →
      Calls P f ⟨vs⟩ w fun e w' => ∃ z I', e = .returned z ∧ VR I' (oneOr rs) z ∧ Grow F I nx w I' nx1 h1 w' := by
  obtain ⟨M, hM⟩ := hx
  obtain ⟨k1, k2⟩ := exec_ok hc he (regH_ok hm hc he _) _ _ _ _ _ _ _ _ _ hM
  refine ⟨k1, fun args w => ?_, fun F I w vs hv hs hF hG hZ fr => ?_⟩
  · have hnn : ¬ fn.name = "runtime.NumGoroutine" := by have := hn f fn hfn; simpa using this
    simp [callFunc, program, Sem.run, bind, Sem.bind, pure, hfn, hnn, hb]
  · refine calls_of_wp hfn hb (k2 F I _ w ?_ fr _ fun e a' I' w' hxe st' g' => ?_)
    · split at ht
      case isFalse => cases ht
      rename_i hlg
      refine ⟨fun k b hk => ?_, by rw [Array.size_append, Array.size_replicate]; show vs.length + (fn.ntmps - vs.length) = _; rw [hv.len], rfl, hs, hF, hG, hZ⟩
      have hg := initT_get _ _ _ _ ht k
      rw [hk] at hg
      simp only [Nat.not_lt_zero, if_false, Nat.zero_add, Nat.sub_zero] at hg
      split at hg
      · rename_i hlt
        obtain ⟨v, g1, g2⟩ := hv.get k b hg.symm
        have hkv : k < vs.length := by rw [← hv.len]; exact hlt
        have : ((⟨vs⟩ : Array Value) ++ Array.replicate (fn.ntmps - (⟨vs⟩ : Array Value).size) undef).getD k undef = v := by
          rw [Array.getD_eq_getD_getElem?, Array.getElem?_append_left (by simpa using hkv)]
          simp [g1]
        rw [slot_low (by omega), this]; exact g2
      · obtain ⟨g1, g2⟩ := hG k b hg.symm
        unfold slot
        rw [if_neg (by omega)]; exact g2
    · obtain ⟨v, r1, r2⟩ := results_run (P := P) st' hrs
      cases e with
      | normal => exact ⟨st'.defers, v, r1, v, I', rfl, r2, g'⟩
      | ret => exact ⟨st'.defers, v, r1, v, I', rfl, r2, g'⟩
      | exit i => cases x <;> simp only [AX.is] at hxe; exact (hne _ rfl).elim
      | _ => cases x <;> simp only [AX.is] at hxe
theorem callH_ok {P : Program} {ext : ExtF} {N : Nat} (hm : P.follows .mixedOrders = true) (he : ExtOK P ext) (hn : ∀ (f : Nat) (fn : Func), P.funcs[f]? = some fn → (fn.name == "runtime.NumGoroutine") = false) (wrap : CallF → CallF) (hw : ∀ c, CallOK gl P c → CallOK gl P (wrap c)) : ∀ d, CallOK gl P (callF P ext (fun call n => regG P call ext n) N gl wrap d) := by
  intro d
  induction d with
  | zero => intro f args h nx r h' nx' e; cases e
  | succ d ih =>
    have ih := hw _ ih
    intro f args h nx r h' nx' e
    have e' : (match P.funcs[f]? with
      | some fn => match fn.body with
        | some c => match (if args.length < gBase then initT args 0 gl else none) with
          | some t => @Res.rec (fun _ => Option (AV × T AO × Nat)) none (fun t' h' nx' => endR P fn t' h' nx') (fun _ _ _ _ => none) (fun t' h' nx' => endR P fn t' h' nx') (execF c ⟨P, wrap (callF P ext (fun call n => regG P call ext n) N gl wrap d), ext, regG P (wrap (callF P ext (fun call n => regG P call ext n) N gl wrap d)) ext (args.length + (fn.ntmps - args.length)), args.length + (fn.ntmps - args.length), N⟩ t h nx)
          | none => none
        | none => none
      | none => none) = some (r, h', nx') := e
    split at e'
    · rename_i fn hfn
      split at e'
      · rename_i c hc
        split at e'
        · rename_i t ht
          have go : ∀ (q : Res) (x : AX) t1 h1 nx1, execF c ⟨P, wrap (callF P ext (fun call n => regG P call ext n) N gl wrap d), ext, regG P (wrap (callF P ext (fun call n => regG P call ext n) N gl wrap d)) ext (args.length + (fn.ntmps - args.length)), args.length + (fn.ntmps - args.length), N⟩ t h nx = q → q.is (x, t1, h1, nx1) → (∀ i, x ≠ .ex i) → endR P fn t1 h1 nx1 = some (r, h', nx') → nx ≤ nx' ∧ (∀ args w, (callFunc f args).run P w = .ok (.enter f args) w) ∧
              ∀ (F : Bool → Nat → Prop) (I : In) (w : World) (vs : List Value), VRs I args vs → Sim F I h w → (∀ b, F true b → b < w.heap.size) → GOK gl I → (∀ b, F false b → F true b) → Fresh I nx nx' →
                Calls P f ⟨vs⟩ w fun e w' => ∃ z I', e = .returned z ∧ VR I' r z ∧ Grow F I nx w I' nx' h' w' := fun q x t1 h1 nx1 hq hqi hx he1 => by
            obtain ⟨rs, k1, rfl, rfl, rfl⟩ := endR_ok he1
            exact call_of_exH hm ih he hn hfn hc ht (execF_ok (reg := regH P (wrap (callF P ext (fun call n => regG P call ext n) N gl wrap d)) ext (args.length + (fn.ntmps - args.length))) (fun ops t h nx r e hr => regG_ok e hr) c t h nx q hq _ hqi) hx k1
          generalize hq : execF c _ t h nx = q at e'
          cases q with
          | bad => cases e'
          | nrm t1 h1 nx1 => exact .inl (go _ .nrm t1 h1 nx1 hq rfl (by simp) e')
          | ex i t1 h1 nx1 => cases e'
          | rt t1 h1 nx1 => exact .inl (go _ .rt t1 h1 nx1 hq rfl (by simp) e')
        · cases e'
      · cases e'
    · cases e'
/-- The machine's call, with package-level variables, and regions in another order. -/
noncomputable def callH (P : Program) (ext : ExtF) (gl : T AV) (wrap : CallF → CallF) (d : Nat) : CallF := callF P ext (fun call n => regG P call ext n) 10000000 gl wrap d
/-- A run from numbers of whatever value, beside package-level variables that are laid. -/
theorem closed_args {P : Program} {gl : T AV} {call : CallF} (hc : CallOK gl P call) {f : Nat} {args : List AV} {vs : List Value} {b : Bool} {h0 h : T AO} {nx0 nx : Nat} (hb : hasB P f = true) (e : call f args h0 nx0 = some (.bool b, h, nx)) (w : World) (I0 : In)
    (hv : VRs I0 args vs)
    (obj : ∀ id o b t, h0.get id = some o → I0 id = some (b, t) → o.rw = false ∧ ∃ ob, w.heap[b]? = some ob ∧ OR I0 t o ob)
    (inj : ∀ id id' o o' b t t', h0.get id = some o → h0.get id' = some o' → I0 id = some (b, t) → I0 id' = some (b, t') → id = id')
    (low : ∀ id x, I0 id = some x → id < nx0)
    (hG : GOK gl I0) :
    Calls P f ⟨vs⟩ w fun e w' => e = .returned (.bool b) ∧ Below w.heap.size w w' := by
  obtain ⟨_, _, k⟩ := hc.enter hb e
  refine (k (fun s b => match s with | true => b < w.heap.size | false => ∃ id o t, h0.get id = some o ∧ I0 id = some (b, t)) I0 w vs hv ⟨fun id o b t h1 h2 => (obj id o b t h1 h2).2, inj, fun id o b t h1 h2 h3 => ⟨(obj id o b t h1 h2).1, id, o, t, h1, h2⟩⟩ (fun b h => h) hG (fun b h => (by
      obtain ⟨id, o, t, h1, h2⟩ := h
      obtain ⟨_, ob, h3, _⟩ := obj id o b t h1 h2
      exact (Array.getElem?_eq_some_iff.1 h3).1)) (fun i h1 _ => ?_)).mono fun e' w' hh => ?_
  · cases hI : I0 i with
    | none => rfl
    | some x => exact absurd (low i x hI) (by omega)
  · obtain ⟨z, I', rfl, h1, h2⟩ := hh
    cases h1
    exact ⟨rfl, h2.same.os, h2.same.tape, h2.same.output, h2.size, fun k hk => h2.fr k hk⟩
/-- Numbers for a row of ids, from 1 on; none is an object's. -/
noncomputable def numEntry (n : Int) : Nat × Nat × Nat := (n.toNat, (-n).toNat, 0)
noncomputable def numsI : List Int → In := fun l id => match id with
  | 0 => none
  | i + 1 => match l[i]? with
    | some n => some (numEntry n)
    | none => none
theorem numsI_at {l : List Int} {i : Nat} {n : Int} (h : l[i]? = some n) : numI (numsI l) (i + 1) = some n := by
  unfold numI numsI
  simp only [h, numEntry]
  congr 1
  simp only [Int.ofNat_eq_natCast]
  omega
theorem numsI_low {l : List Int} {id : Nat} {x} (h : numsI l id = some x) : id < l.length + 1 := by
  unfold numsI at h
  split at h
  · cases h
  · rename_i i
    split at h
    · rename_i n hn
      have := (List.getElem?_eq_some_iff.1 hn).1
      omega
    · cases h
/-- A run from numbers of whatever value, and nothing else. -/
theorem closed_nums {P : Program} {call : CallF} (hc : CallOK .e P call) {f : Nat} {args : List AV} {vs : List Value} {b : Bool} {h : T AO} {nx : Nat} (l : List Int) (hb : hasB P f = true) (e : call f args .e (l.length + 1) = some (.bool b, h, nx)) (w : World)
    (hv : VRs (numsI l) args vs) :
    Calls P f ⟨vs⟩ w fun e w' => e = .returned (.bool b) ∧ Below w.heap.size w w' :=
  closed_args hc hb e w (numsI l) hv (fun id o b t h => (by rw [T.get_e] at h; cases h)) (fun id id' o o' b t t' h => (by rw [T.get_e] at h; cases h)) (fun id x h => numsI_low h) (fun n a h => (by rw [T.get_e] at h; cases h))
end Go.Proofs.Ythbedbjccmhcoaa.Eng
