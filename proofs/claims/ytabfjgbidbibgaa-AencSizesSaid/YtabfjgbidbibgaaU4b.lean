/-
  The machine with unknown values: questions reckoned out of the code. No condition but what its theorems ask.
-/
import Derived.Test.YtabfjgbidbibgaaU4
namespace Go.Proofs.Ytabfjgbidbibgaa.Eng
open Go.RowKit
set_option linter.unusedVariables false
set_option linter.unusedSimpArgs false
variable {gl : T AV}
/-- What is known of a region in the text's order. -/
structure Text (gl : T AV) (P : Program) (n : Nat) (ops : Array Oper) (A : List Nat) (pr : Pair) (rs : List Rc) (Tt : Nat → T AV) (H : Nat → T AO) (X : Nat → Nat) : Prop where
  hA : ancs ops.toList 0 [] = some A
  st : statOK P ops A pr = true
  dy : dynOK P ops A rs (H ops.size) = true
  len : rs.length = ops.size
  step : ∀ i o c, ops[i]? = some o → rs[i]? = some c → c.o = o ∧ StepD gl P n ops c (Tt i) (H i) (X i) (Tt (i + 1)) (H (i + 1)) (X (i + 1))
section
variable {P : Program} {n : Nat} {ops : Array Oper} {A : List Nat} {pr : Pair} {rs : List Rc} {Tt : Nat → T AV} {H : Nat → T AO} {X : Nat → Nat}
theorem Text.rc (x : Text gl P n ops A pr rs Tt H X) {i : Nat} (hi : i < ops.size) : ∃ o c, ops[i]? = some o ∧ rs[i]? = some c ∧ c.o = o ∧ StepD gl P n ops c (Tt i) (H i) (X i) (Tt (i + 1)) (H (i + 1)) (X (i + 1)) := by
  have h1 : ops[i]? = some ops[i] := Array.getElem?_eq_getElem hi
  have h2 : rs[i]? = some (rs[i]'(by rw [x.len]; exact hi)) := List.getElem?_eq_getElem _
  exact ⟨_, _, h1, h2, x.step i _ _ h1 h2⟩
theorem Text.xle1 (x : Text gl P n ops A pr rs Tt H X) {i : Nat} (hi : i < ops.size) : X i ≤ X (i + 1) := by
  obtain ⟨o, c, h1, h2, h3, h4⟩ := x.rc hi
  obtain ⟨_, _, _, _, hg, hw, hu⟩ := h4
  cases hcw : c.w with
  | false => rw [(hu hcw).2.2]; exact Nat.le_refl _
  | true =>
    have := hw hcw
    cases hk : c.k <;> rw [hk] at this
    · rw [this.2.1]; exact Nat.le_refl _
    · rw [this.2.1]; exact Nat.le_refl _
    · obtain ⟨y, _, _, _, e, _, _⟩ := this; rw [e]; exact Nat.le_succ _
    · exact this.1.1
theorem Text.xle (x : Text gl P n ops A pr rs Tt H X) {i j : Nat} (h : i ≤ j) (hj : j ≤ ops.size) : X i ≤ X j := by
  induction j with
  | zero => have : i = 0 := by omega
            subst this; exact Nat.le_refl _
  | succ j ih =>
    by_cases e : i = j + 1
    · subst e; exact Nat.le_refl _
    · exact Nat.le_trans (ih (by omega) (by omega)) (x.xle1 (by omega))
/-- Which value a slot has in the text's order. -/
theorem Text.slot (x : Text gl P n ops A pr rs Tt H X) : ∀ i, i ≤ ops.size → ∀ τ, (∃ j c, j < i ∧ rs[j]? = some c ∧ c.o.dst = some τ ∧ (Tt i).get τ = some c.v) ∨ ((∀ j c, j < i → rs[j]? = some c → c.o.dst ≠ some τ) ∧ (Tt i).get τ = (Tt 0).get τ)
  | 0, _, τ => .inr ⟨fun j c h => by omega, rfl⟩
  | i + 1, hi, τ => by
    obtain ⟨o, c, h1, h2, h3, h4⟩ := x.rc (i := i) (by omega)
    obtain ⟨_, _, _, hp, _⟩ := h4
    have ih := Text.slot x i (by omega) τ
    have other : c.o.dst ≠ some τ → (Tt (i + 1)).get τ = (Tt i).get τ := fun hne => by
      cases hd : c.o.dst with
      | none => rw [hd] at hp; simp [putT] at hp; rw [hp]
      | some d =>
        rw [hd] at hp
        rw [(putT_dst hp).2.2 τ, if_neg (fun e => hne (by rw [hd, e]))]
    by_cases hd : c.o.dst = some τ
    · rw [hd] at hp
      exact .inl ⟨i, c, Nat.lt_succ_self _, h2, hd, by rw [(putT_dst hp).2.2 τ, if_pos rfl]⟩
    · rcases ih with ⟨j, cj, a1, a2, a3, a4⟩ | ⟨a1, a2⟩
      · exact .inl ⟨j, cj, by omega, a2, a3, by rw [other hd]; exact a4⟩
      · refine .inr ⟨fun j cj hj hc => ?_, by rw [other hd]; exact a2⟩
        by_cases e : j = i
        · subst e; rw [h2] at hc; cases hc; exact hd
        · exact a1 j cj (by omega) hc
/-- What the look ahead says. -/
theorem Text.look (x : Text gl P n ops A pr rs Tt H X) {i : Nat} {o : Oper} {c : Rc} (ho : ops[i]? = some o) (hc : rs[i]? = some c) :
    (∀ j cj d, rs[j]? = some cj → o.dst = some d → cj.o.dst = some d → j = i) ∧
    (∀ j cj τ, τ ∈ slotsOf ops o → rs[j]? = some cj → cj.o.dst = some τ → j = i ∨ bitOf A i j = true ∨ bitOf A j i = true) ∧
    (isS o = true → ∀ j, j < i → flag isS ops.toList j = true ∨ flag (isA P) ops.toList j = true → bitOf A i j = true ∨ pr = some (j, i)) := by
  have hil : i < ops.toList.length := by
    have := (Array.getElem?_eq_some_iff.1 ho).1; simpa using this
  have h := allUp_ok x.st i hil
  have hn : nth ops.toList i = some o := by rw [nth_eq]; simpa using ho
  simp only [hn, Bool.and_eq_true] at h
  obtain ⟨⟨h1, h2⟩, h3⟩ := h
  have dst : ∀ j cj τ, rs[j]? = some cj → cj.o.dst = some τ → j < ops.toList.length ∧ dstAt ops.toList j = some τ := fun j cj τ hj hd => by
    have hjl : j < ops.size := by
      have := (List.getElem?_eq_some_iff.1 hj).1; rw [x.len] at this; exact this
    obtain ⟨oj, cj', g1, g2, g3, _⟩ := x.rc hjl
    rw [hj] at g2; cases g2
    refine ⟨by simpa using hjl, ?_⟩
    unfold dstAt
    have : nth ops.toList j = some oj := by rw [nth_eq]; simpa using g1
    rw [this]; simp only; rw [← g3]; exact hd
  refine ⟨fun j cj d hj hd hjd => ?_, fun j cj τ hτ hj hjd => ?_, fun hs j hji hf => ?_⟩
  · rw [hd] at h1
    obtain ⟨g1, g2⟩ := dst j cj d hj hjd
    have := allUp_ok h1 j g1
    rw [g2] at this
    simp only [eqO, Bool.or_eq_true, Bool.not_eq_true'] at this
    rcases this with h | h
    · exact (Nat.eq_of_beq_eq_true h).symm
    · simp at h
  · obtain ⟨g1, g2⟩ := dst j cj τ hj hjd
    have := allUp_ok (List.all_eq_true.1 h2 τ hτ) j g1
    rw [g2] at this
    simp only [eqO, Bool.or_eq_true, Bool.not_eq_true'] at this
    rcases this with ((h | h) | h) | h
    · exact .inl (Nat.eq_of_beq_eq_true h).symm
    · simp at h
    · exact .inr (.inl h)
    · exact .inr (.inr h)
  · rw [hs] at h3
    simp only [Bool.not_true, Bool.false_or] at h3
    have := allUp_ok h3 j hji
    simp only [Bool.or_eq_true, Bool.not_eq_true', Bool.or_eq_false_iff] at this
    rcases this with (h | h) | h
    · rcases hf with hf | hf
      · rw [h.1] at hf; cases hf
      · rw [h.2] at hf; cases hf
    · exact .inl h
    · exact .inr (exem_ok h)
theorem flag_at {f : Oper → Bool} {i : Nat} {o : Oper} (ho : ops[i]? = some o) : flag f ops.toList i = f o := by
  have : nth ops.toList i = some o := by rw [nth_eq]; simpa using ho
  unfold flag; rw [this]
/-- The blocks that were made on the way between two places in the text. -/
theorem Text.reach (x : Text gl P n ops A pr rs Tt H X) {e : Nat} : ∀ m, e ≤ m → m ≤ ops.size → (∀ s, e ≤ s → s < m → flag isS ops.toList s = false) → ∀ id o, (H m).get id = some o →
    (∃ j c, rs[j]? = some c ∧ e ≤ j ∧ j < m ∧ c.w = true ∧ c.k = .a ∧ c.nx = id ∧ c.ob = some o) ∨ (H e).get id = some o := by
  intro m
  induction m with
  | zero => intro h1 _ _ id o h; have : e = 0 := by omega
            subst this; exact .inr h
  | succ m ih =>
    intro h1 h2 h3 id o h
    by_cases hem : e = m + 1
    · subst hem; exact .inr h
    · obtain ⟨op, c, g1, g2, g3, g4⟩ := x.rc (i := m) (by omega)
      have ih := ih (by omega) (by omega) fun s a b => h3 s a (by omega)
      have lift : (H m).get id = some o → (∃ j c, rs[j]? = some c ∧ e ≤ j ∧ j < m + 1 ∧ c.w = true ∧ c.k = .a ∧ c.nx = id ∧ c.ob = some o) ∨ (H e).get id = some o := fun h => by
        rcases ih id o h with ⟨j, cj, a1, a2, a3, a4⟩ | a
        · exact .inl ⟨j, cj, a1, a2, by omega, a4⟩
        · exact .inr a
      obtain ⟨_, hnx, _, _, _, hw, hu⟩ := g4
      cases hcw : c.w with
      | false => rw [(hu hcw).2.1] at h; exact lift h
      | true =>
        have hk := hw hcw
        cases hck : c.k <;> rw [hck] at hk
        · rw [hk.1] at h; exact lift h
        · rw [hk.1] at h; exact lift h
        · obtain ⟨y, k1, _, k3, _, _, _⟩ := hk
          rw [T.get_put _ _ _ _ _ k3] at h
          split at h
          · rename_i hid
            cases h
            exact .inl ⟨m, c, g2, by omega, Nat.lt_succ_self _, hcw, hck, by rw [hnx, hid], k1⟩
          · exact lift h
        · have hS := hk.2
          have hS := hS.1
          have := h3 m (by omega) (Nat.lt_succ_self _)
          rw [flag_at g1, ← g3, hS] at this; cases this
end
/-- The blocks that have been made ahead of their turn, and those of the last turn. -/
noncomputable def RR (rs : List Rc) (H : Nat → T AO) (e : Nat) (L : Nat → Prop) (id : Nat) (o : AO) : Prop :=
  (∃ j c, rs[j]? = some c ∧ e ≤ j ∧ L j ∧ c.w = true ∧ c.k = .a ∧ c.nx = id ∧ c.ob = some o) ∨ (H e).get id = some o
structure Inv (gl : T AV) (P : Program) (F : Bool → Nat → Prop) (n : Nat) (ops : Array Oper) (rs : List Rc) (T0 : T AV) (H : Nat → T AO) (X : Nat → Nat) (I0 : In) (w0 : World) (e : Nat) (L : Nat → Prop) (I : In) (a : Act) (w : World) : Prop where
  eN : e ≤ ops.size
  ep : isEp ops.toList e = true
  e1 : ∀ s, s < e → flag isS ops.toList s = true → L s
  e2 : ∀ s, e ≤ s → flag isS ops.toList s = true → ¬ L s
  e3 : ∀ j, j < e → flag (isA P) ops.toList j = true → L j
  cl : Closed ops L
  lN : ∀ i, L i → i < ops.size
  sz : a.tmps.size = n
  df : a.defers = []
  s1 : ∀ i c τ, rs[i]? = some c → L i → c.o.dst = some τ → VR I c.v (slot a.tmps τ)
  s2 : ∀ τ b, (∀ i c, rs[i]? = some c → c.o.dst = some τ → ¬ L i) → T0.get τ = some b → VR I b (slot a.tmps τ)
  obj : ∀ id o b t, RR rs H e L id o → I id = some (b, t) → ∃ ob, w.heap[b]? = some ob ∧ OR I t o ob
  inj : ∀ id id' o o' b t t', RR rs H e L id o → RR rs H e L id' o' → I id = some (b, t) → I id' = some (b, t') → id = id'
  fr : ∀ id o b t, RR rs H e L id o → I id = some (b, t) → F true b → o.rw = false ∧ F false b
  ex : ∀ j c, rs[j]? = some c → L j → c.w = true → c.k = .a → ∃ x, I c.nx = some x
  exf : ∀ j c b t, rs[j]? = some c → e ≤ j → L j → c.w = true → c.k = .a → I c.nx = some (b, t) → ¬ F true b
  dom : ∀ id x, I id = some x → I0 id = some x ∨ ∃ j, L j ∧ X j ≤ id ∧ id < X (j + 1)
  le : I0.le I
  frm : ∀ b, F true b → w.heap[b]? = w0.heap[b]?
  siz : w0.heap.size ≤ w.heap.size
  sam : Same w0 w
/-- The slots, while some are done. -/
structure SInv (n : Nat) (ops : Array Oper) (rs : List Rc) (T0 : T AV) (L : Nat → Prop) (I : In) (a : Act) : Prop where
  cl : Closed ops L
  lN : ∀ i, L i → i < ops.size
  sz : a.tmps.size = n
  df : a.defers = []
  s1 : ∀ i c τ, rs[i]? = some c → L i → c.o.dst = some τ → VR I c.v (slot a.tmps τ)
  s2 : ∀ τ b, (∀ i c, rs[i]? = some c → c.o.dst = some τ → ¬ L i) → T0.get τ = some b → VR I b (slot a.tmps τ)
theorem Inv.slots {P : Program} {F n ops rs T0 H X I0 w0 e L I a w} (v : Inv gl P F n ops rs T0 H X I0 w0 e L I a w) : SInv n ops rs T0 L I a := ⟨v.cl, v.lN, v.sz, v.df, v.s1, v.s2⟩
section
variable {P : Program} {n : Nat} {ops : Array Oper} {A : List Nat} {pr : Pair} {rs : List Rc} {Tt : Nat → T AV} {H : Nat → T AO} {X : Nat → Nat} {F : Bool → Nat → Prop} {I0 : In} {w0 : World} {e : Nat} {L : Nat → Prop} {I : In} {a : Act} {w : World}

/-- What has a number is done. -/
theorem Inv.doneX (v : Inv gl P F n ops rs (Tt 0) H X I0 w0 e L I a w) (x : Text gl P n ops A pr rs Tt H X) (fr0 : Fresh I0 (X 0) (X ops.size)) {i id : Nat} {y : Nat × Nat × Nat} (hi : i < ops.size) (h1 : X i ≤ id) (h2 : id < X (i + 1)) (h : I id = some y) : L i := by
  rcases v.dom id y h with h3 | ⟨j, hj, h3, h4⟩
  · have := fr0 id (Nat.le_trans (x.xle (Nat.zero_le _) (by omega)) h1) (Nat.lt_of_lt_of_le h2 (x.xle (by omega) (Nat.le_refl _)))
    rw [this] at h3; cases h3
  · have hjN := v.lN j hj
    rcases Nat.lt_trichotomy i j with hij | hij | hij
    · have := x.xle (i := i + 1) (j := j) (by omega) (by omega); omega
    · subst hij; exact hj
    · have := x.xle (i := j + 1) (j := i) (by omega) (by omega); omega
/-- Memory, as an operation meets it in its turn. -/
theorem Inv.simAt (v : Inv gl P F n ops rs (Tt 0) H X I0 w0 e L I a w) (x : Text gl P n ops A pr rs Tt H X) (fr0 : Fresh I0 (X 0) (X ops.size)) {m : Nat} (h1 : e ≤ m) (h2 : m ≤ ops.size) (h3 : ∀ s, e ≤ s → s < m → flag isS ops.toList s = false) {id : Nat} {o : AO} {y} (h : (H m).get id = some o) (hI : I id = some y) : RR rs H e L id o := by
  rcases x.reach m h1 h2 h3 id o h with ⟨j, c, g1, g2, g3, g4, g5, g6, g7⟩ | g
  · refine .inl ⟨j, c, g1, g2, ?_, g4, g5, g6, g7⟩
    obtain ⟨oj, cj, k1, k2, k3, k4⟩ := x.rc (i := j) (by omega)
    rw [g1] at k2; cases k2
    obtain ⟨_, hnx, _, _, _, hw, _⟩ := k4
    have hk := hw g4
    rw [g5] at hk
    obtain ⟨_, _, _, _, hX, _, _⟩ := hk
    exact v.doneX x fr0 (by omega) (by omega) (by omega) hI
  · exact .inr g
theorem Inv.sim (v : Inv gl P F n ops rs (Tt 0) H X I0 w0 e L I a w) (x : Text gl P n ops A pr rs Tt H X) (fr0 : Fresh I0 (X 0) (X ops.size)) {m : Nat} (h1 : e ≤ m) (h2 : m ≤ ops.size) (h3 : ∀ s, e ≤ s → s < m → flag isS ops.toList s = false) : Sim F I (H m) w :=
  ⟨fun id o b t g hI => v.obj id o b t (v.simAt x fr0 h1 h2 h3 g hI) hI,
   fun id id' o o' b t t' g g' hI hI' => v.inj id id' o o' b t t' (v.simAt x fr0 h1 h2 h3 g hI) (v.simAt x fr0 h1 h2 h3 g' hI') hI hI',
   fun id o b t g hI => v.fr id o b t (v.simAt x fr0 h1 h2 h3 g hI) hI⟩
/-- The slots that an operation looks at. -/
theorem SInv.tr (v : SInv n ops rs (Tt 0) L I a) (x : Text gl P n ops A pr rs Tt H X) {i : Nat} {o : Oper} {c : Rc} (ho : ops[i]? = some o) (hc : rs[i]? = some c) (hL : ¬ L i) (hr : ∀ e ∈ o.after, Region.binds .any e = true → L e.on) : TR I c.t a.tmps := by
  obtain ⟨hco, hst⟩ := x.step i o c ho hc
  obtain ⟨_, _, hres, _⟩ := hst
  obtain ⟨_, l2, _⟩ := x.look ho hc
  have hi : i < ops.size := (Array.getElem?_eq_some_iff.1 ho).1
  intro τ b hb
  rcases restr_ok hres τ b hb with h | ⟨h1, h2⟩
  · rw [T.get_e] at h; cases h
  · rw [hco] at h1
    -- whoever writes the slot behind it is not done
    have later : ∀ j cj, rs[j]? = some cj → cj.o.dst = some τ → L j → j < i := fun j cj hj hd hLj => by
      rcases l2 j cj τ h1 hj hd with h | h | h
      · subst h; exact absurd hLj hL
      · exact bit_lt x.hA h
      · obtain ⟨oj, _, k1, _⟩ := x.rc (v.lN j hLj)
        exact absurd (closed_bit x.hA v.cl k1 (fun e he hb => v.cl j oj k1 hLj e he hb) h) hL
    rcases x.slot i (by omega) τ with ⟨j, cj, a1, a2, a3, a4⟩ | ⟨a1, a2⟩
    · rw [h2] at a4; cases a4
      rcases l2 j cj τ h1 a2 a3 with h | h | h
      · omega
      · exact v.s1 j cj τ a2 (closed_bit x.hA v.cl ho hr h) a3
      · have := bit_lt x.hA h; omega
    · rw [a2] at h2
      exact v.s2 τ b (fun j cj hj hd hLj => a1 j cj (later j cj hj hd hLj) hj hd) h2
/-- The slots behind an operation. -/
theorem SInv.put (v : SInv n ops rs (Tt 0) L I a) (x : Text gl P n ops A pr rs Tt H X) {i : Nat} {o : Oper} {c : Rc} (ho : ops[i]? = some o) (hc : rs[i]? = some c) (hL : ¬ L i) {I' : In} (hle : I.le I') {z : Value} (hz : VR I' c.v z) :
    (a.put o.dst z).tmps.size = n ∧ (a.put o.dst z).defers = [] ∧
    (∀ j cj τ, rs[j]? = some cj → L j ∨ j = i → cj.o.dst = some τ → VR I' cj.v (slot (a.put o.dst z).tmps τ)) ∧
    (∀ τ b, (∀ j cj, rs[j]? = some cj → cj.o.dst = some τ → ¬ (L j ∨ j = i)) → (Tt 0).get τ = some b → VR I' b (slot (a.put o.dst z).tmps τ)) := by
  obtain ⟨hco, hst⟩ := x.step i o c ho hc
  obtain ⟨_, _, _, hp, _⟩ := hst
  obtain ⟨l1, _, _⟩ := x.look ho hc
  rw [hco] at hp
  refine ⟨by rw [Act.put_size]; exact v.sz, by cases o.dst <;> exact v.df, fun j cj τ hj hLj hd => ?_, fun τ b hno hb => ?_⟩
  · cases hod : o.dst with
    | none =>
      rcases hLj with hLj | rfl
      · exact (v.s1 j cj τ hj hLj hd).mono hle
      · rw [hc] at hj; cases hj; rw [hco, hod] at hd; cases hd
    | some d =>
      rw [hod] at hp
      obtain ⟨p1, p2, _⟩ := putT_dst hp
      rw [slot_put v.sz p1 p2]
      by_cases hτ : τ = d
      · subst hτ
        rw [if_pos rfl]
        have := l1 j cj τ hj hod hd
        subst this
        rw [hc] at hj; cases hj; exact hz
      · rw [if_neg hτ]
        rcases hLj with hLj | rfl
        · exact (v.s1 j cj τ hj hLj hd).mono hle
        · rw [hc] at hj; cases hj; rw [hco, hod] at hd; cases hd; exact absurd rfl hτ
  · have old : VR I b (Eng.slot a.tmps τ) := v.s2 τ b (fun j cj hj hd hLj => hno j cj hj hd (.inl hLj)) hb
    cases hod : o.dst with
    | none => exact old.mono hle
    | some d =>
      rw [hod] at hp
      obtain ⟨p1, p2, _⟩ := putT_dst hp
      rw [slot_put v.sz p1 p2]
      have hτ : τ ≠ d := fun h => hno i c hc (by rw [hco, hod, h]) (.inr rfl)
      rw [if_neg hτ]
      exact old.mono hle
theorem Closed.add (hcl : Closed ops L) {i : Nat} {o : Oper} (ho : ops[i]? = some o) (hr : ∀ e ∈ o.after, Region.binds .any e = true → L e.on) : Closed ops fun j => L j ∨ j = i := fun j oj hj hL e he hb => by
  rcases hL with hL | rfl
  · exact .inl (hcl j oj hj hL e he hb)
  · rw [ho] at hj; cases hj; exact .inl (hr e he hb)
end
theorem KP.act {P : Program} {t h nx o k v ob h' nx'} (hk : KP gl P t h nx o k v ob h' nx') : ActOK gl P t h nx o v h' nx' := by
  cases k with
  | q => obtain ⟨rfl, rfl, h1⟩ := hk; exact keepQ (by rw [h1]; rfl)
  | r => obtain ⟨rfl, rfl, h1, _⟩ := hk; exact keepR (by rw [h1]; rfl)
  | a => obtain ⟨x, _, h1, h2, rfl, _⟩ := hk; exact madeA (by rw [h1]; simp only [made, h2])
  | s => exact hk.1
theorem lastEp_ok (l : List Oper) : ∀ i, lastEp l i ≤ i ∧ ∀ s, lastEp l i ≤ s → s < i → flag isS l s = false
  | 0 => ⟨Nat.le_refl _, fun s _ h => by omega⟩
  | i + 1 => by
    simp only [lastEp]
    split
    · exact ⟨Nat.le_refl _, fun s h1 h2 => by omega⟩
    · rename_i hf
      obtain ⟨h1, h2⟩ := lastEp_ok l i
      refine ⟨by omega, fun s h3 h4 => ?_⟩
      by_cases e : s = i
      · subst e; exact hf
      · exact h2 s h3 (by omega)
section
variable {P : Program} {n : Nat} {ops : Array Oper} {A : List Nat} {pr : Pair} {rs : List Rc} {Tt : Nat → T AV} {H : Nat → T AO} {X : Nat → Nat} {F : Bool → Nat → Prop} {I0 : In} {w0 : World} {e : Nat} {L : Nat → Prop} {I : In} {a : Act} {w : World}
theorem Text.heapAt (x : Text gl P n ops A pr rs Tt H X) {e : Nat} (he : e ≤ ops.size) : Eng.heapAt rs (H ops.size) e = H e := by
  unfold Eng.heapAt
  by_cases h : e < ops.size
  · obtain ⟨o, c, h1, h2, h3, h4⟩ := x.rc h
    have : nth rs e = some c := by rw [nth_eq]; exact h2
    rw [this]; exact h4.1
  · have : e = ops.size := by omega
    subst this
    have : nth rs ops.size = none := by rw [nth_eq, List.getElem?_eq_none (by rw [x.len]; exact Nat.le_refl _)]
    rw [this]
/-- A number that is to be given has none in memory ahead. -/
theorem Text.free (x : Text gl P n ops A pr rs Tt H X) {i : Nat} {c : Rc} (hc : rs[i]? = some c) (hw : c.w = true) (hk : c.k = .a) {e : Nat} (he : e ≤ i) (hep : isEp ops.toList e = true) : (H e).get c.nx = none := by
  have hi : i < ops.size := by have := (List.getElem?_eq_some_iff.1 hc).1; rw [x.len] at this; exact this
  have h := allUp_ok x.dy i (by simpa using hi)
  have hn : nth rs i = some c := by rw [nth_eq]; exact hc
  simp only [hn, hw, hk] at h
  have := allUp_ok h e (by omega)
  simp only [hep, Bool.not_true, Bool.false_or] at this
  rw [x.heapAt (by omega)] at this
  split at this
  · rename_i hg; exact hg
  · cases this
theorem Text.again (x : Text gl P n ops A pr rs Tt H X) {i : Nat} {c : Rc} (hc : rs[i]? = some c) (hw : c.w = true) (hk : c.k = .r) {e : Nat} (he : e ≤ ops.size) (ho : other ops.toList A i e = true) : rop P c.t (H e) c.o = some c.v := by
  have hi : i < ops.size := by have := (List.getElem?_eq_some_iff.1 hc).1; rw [x.len] at this; exact this
  have h := allUp_ok x.dy i (by simpa using hi)
  have hn : nth rs i = some c := by rw [nth_eq]; exact hc
  simp only [hn, hw, hk] at h
  have hm : e ∈ others ops.toList A i := List.mem_filter.2 ⟨List.mem_range.2 (by simp; omega), ho⟩
  have := List.all_eq_true.1 h e hm
  rw [x.heapAt he] at this
  split at this
  · rename_i v hv; rw [hv, eqAV_eq this]
  · cases this
/-- A turn that leaves memory as it is. -/
theorem Inv.stay (v : Inv gl P F n ops rs (Tt 0) H X I0 w0 e L I a w) (x : Text gl P n ops A pr rs Tt H X) {i : Nat} {o : Oper} {c : Rc} (ho : ops[i]? = some o) (hc : rs[i]? = some c) (hL : ¬ L i) (hr : ∀ e ∈ o.after, Region.binds .any e = true → L e.on) (hS : flag isS ops.toList i = false) (hk : ¬ (c.w = true ∧ c.k = .a)) {z : Value} (hz : VR I c.v z) :
    Inv gl P F n ops rs (Tt 0) H X I0 w0 e (fun j => L j ∨ j = i) I (a.put o.dst z) w := by
  obtain ⟨p1, p2, p3, p4⟩ := v.slots.put x ho hc hL (In.le_refl I) hz
  have sub : ∀ id o, RR rs H e (fun j => L j ∨ j = i) id o → RR rs H e L id o := fun id o h => by
    rcases h with ⟨j, cj, a1, a2, a3, a4, a5, a6⟩ | h
    · rcases a3 with a3 | rfl
      · exact .inl ⟨j, cj, a1, a2, a3, a4, a5, a6⟩
      · rw [hc] at a1; cases a1; exact absurd ⟨a4, a5⟩ hk
    · exact .inr h
  exact {
    eN := v.eN, ep := v.ep, e1 := fun s h1 h2 => .inl (v.e1 s h1 h2)
    e2 := fun s h1 h2 h3 => by
      rcases h3 with h3 | rfl
      · exact v.e2 s h1 h2 h3
      · rw [hS] at h2; cases h2
    e3 := fun j h1 h2 => .inl (v.e3 j h1 h2)
    cl := v.cl.add ho hr
    lN := fun j h => h.elim (v.lN j) fun h => by subst h; exact (Array.getElem?_eq_some_iff.1 ho).1
    sz := p1, df := p2, s1 := fun j cj τ h1 h2 h3 => p3 j cj τ h1 h2 h3, s2 := p4
    obj := fun id o b t h => v.obj id o b t (sub _ _ h)
    inj := fun id id' o o' b t t' h h' => v.inj id id' o o' b t t' (sub _ _ h) (sub _ _ h')
    fr := fun id o b t h => v.fr id o b t (sub _ _ h)
    ex := fun j cj h1 h2 h3 h4 => by
      rcases h2 with h2 | rfl
      · exact v.ex j cj h1 h2 h3 h4
      · rw [hc] at h1; cases h1; exact absurd ⟨h3, h4⟩ hk
    exf := fun j cj b t h1 h2 h3 h4 h5 h6 => by
      rcases h3 with h3 | rfl
      · exact v.exf j cj b t h1 h2 h3 h4 h5 h6
      · rw [hc] at h1; cases h1; exact absurd ⟨h4, h5⟩ hk
    dom := fun id y h => (v.dom id y h).imp (fun h => h) fun ⟨j, h1, h2⟩ => ⟨j, .inl h1, h2⟩
    le := v.le, frm := v.frm, siz := v.siz, sam := v.sam }
/-- A turn that makes a block ahead of its time. -/
theorem Inv.make (v : Inv gl P F n ops rs (Tt 0) H X I0 w0 e L I a w) (x : Text gl P n ops A pr rs Tt H X) (fr0 : Fresh I0 (X 0) (X ops.size)) (low : ∀ b, F true b → b < w0.heap.size) {i : Nat} {o : Oper} {c : Rc} (ho : ops[i]? = some o) (hc : rs[i]? = some c) (hL : ¬ L i) (hr : ∀ e ∈ o.after, Region.binds .any e = true → L e.on) (hS : flag isS ops.toList i = false) (hw : c.w = true) (hk : c.k = .a) {ob : AO} (hob : c.ob = some ob) (hA : isA P o = true) (hX : X (i + 1) = X i + 1) (hnx : c.nx = X i)
    {z : Value} {obj : Obj} {tot : Nat × Nat} {w' : World} (hheap : w'.heap = w.heap.push obj) (hsame : Same w w') (hz : VR (ext I (X i) (w.heap.size, tot)) c.v z) (hor : OR (ext I (X i) (w.heap.size, tot)) tot ob obj) (hfree : I (X i) = none) :
    Inv gl P F n ops rs (Tt 0) H X I0 w0 e (fun j => L j ∨ j = i) (ext I (X i) (w.heap.size, tot)) (a.put o.dst z) w' := by
  have hle := ext_le (w.heap.size, tot) hfree
  obtain ⟨p1, p2, p3, p4⟩ := v.slots.put x ho hc hL hle hz
  have hei : e ≤ i := by
    rcases Nat.lt_or_ge i e with h | h
    · exact absurd (v.e3 i h (by rw [flag_at ho]; exact hA)) hL
    · exact h
  have old : ∀ b, b < w.heap.size → w'.heap[b]? = w.heap[b]? := fun b hb => by rw [hheap, Array.getElem?_push, if_neg (by omega)]
  have hnew : ∀ id y, id ≠ X i → ext I (X i) (w.heap.size, tot) id = some y → I id = some y := fun id y hne h => by simpa [ext, hne] using h
  -- what is there is old, or the new block
  have part : ∀ id o', RR rs H e (fun j => L j ∨ j = i) id o' → (id ≠ X i ∧ RR rs H e L id o') ∨ (id = X i ∧ o' = ob) := fun id o' h => by
    rcases h with ⟨j, cj, a1, a2, a3, a4, a5, a6, a7⟩ | h
    · rcases a3 with a3 | rfl
      · refine .inl ⟨fun he => ?_, .inl ⟨j, cj, a1, a2, a3, a4, a5, a6, a7⟩⟩
        obtain ⟨y, hy⟩ := v.ex j cj a1 a3 a4 a5
        rw [a6, he, hfree] at hy; cases hy
      · rw [hc] at a1; cases a1
        rw [hob] at a7; cases a7
        exact .inr ⟨by rw [← a6, hnx], rfl⟩
    · refine .inl ⟨fun he => ?_, .inr h⟩
      have := x.free hc hw hk hei v.ep
      rw [hnx, ← he, h] at this; cases this
  have lowb : ∀ id o' b t, RR rs H e L id o' → I id = some (b, t) → b < w.heap.size := fun id o' b t h hI => by
    obtain ⟨ob', h1, _⟩ := v.obj id o' b t h hI
    exact (Array.getElem?_eq_some_iff.1 h1).1
  exact {
    eN := v.eN, ep := v.ep, e1 := fun s h1 h2 => .inl (v.e1 s h1 h2)
    e2 := fun s h1 h2 h3 => by
      rcases h3 with h3 | rfl
      · exact v.e2 s h1 h2 h3
      · rw [hS] at h2; cases h2
    e3 := fun j h1 h2 => .inl (v.e3 j h1 h2)
    cl := v.cl.add ho hr
    lN := fun j h => h.elim (v.lN j) fun h => by subst h; exact (Array.getElem?_eq_some_iff.1 ho).1
    sz := p1, df := p2, s1 := fun j cj τ h1 h2 h3 => p3 j cj τ h1 h2 h3, s2 := p4
    obj := fun id o' b t h hI => by
      rcases part id o' h with ⟨h1, h2⟩ | ⟨rfl, rfl⟩
      · have hI := hnew id _ h1 hI
        obtain ⟨ob', g1, g2⟩ := v.obj id o' b t h2 hI
        exact ⟨ob', (old b (lowb _ _ _ _ h2 hI)).trans g1, g2.mono hle⟩
      · rw [ext_at] at hI; cases hI
        exact ⟨obj, by rw [hheap]; simp, hor⟩
    inj := fun id id' o1 o2 b t t' h h' hI hI' => by
      rcases part id o1 h with ⟨h1, h2⟩ | ⟨rfl, rfl⟩ <;> rcases part id' o2 h' with ⟨h1', h2'⟩ | ⟨e2, e3⟩
      · exact v.inj id id' o1 o2 b t t' h2 h2' (hnew _ _ h1 hI) (hnew _ _ h1' hI')
      · subst e2
        rw [ext_at] at hI'; cases hI'
        have := lowb _ _ _ _ h2 (hnew _ _ h1 hI); omega
      · rw [ext_at] at hI; cases hI
        have := lowb _ _ _ _ h2' (hnew _ _ h1' hI'); omega
      · exact e2.symm
    fr := fun id o' b t h hI hf => by
      rcases part id o' h with ⟨h1, h2⟩ | ⟨rfl, rfl⟩
      · exact v.fr id o' b t h2 (hnew _ _ h1 hI) hf
      · rw [ext_at] at hI; cases hI
        have := low _ hf; have := v.siz; omega
    ex := fun j cj h1 h2 h3 h4 => by
      rcases h2 with h2 | rfl
      · obtain ⟨y, hy⟩ := v.ex j cj h1 h2 h3 h4; exact ⟨y, hle _ _ hy⟩
      · rw [hc] at h1; cases h1; exact ⟨_, by rw [hnx]; exact ext_at _ _ _⟩
    exf := fun j cj b t h1 h2 h3 h4 h5 h6 hf => by
      rcases h3 with h3 | rfl
      · obtain ⟨y, hy⟩ := v.ex j cj h1 h3 h4 h5
        have := hle _ _ hy
        rw [h6] at this; cases this
        exact v.exf j cj b t h1 h2 h3 h4 h5 hy hf
      · rw [hc] at h1; cases h1
        rw [hnx, ext_at] at h6; cases h6
        have := low _ hf; have := v.siz; omega
    dom := fun id y h => by
      by_cases hid : id = X i
      · exact .inr ⟨i, .inr rfl, by omega, by omega⟩
      · exact (v.dom id y (hnew id y hid h)).imp (fun h => h) fun ⟨j, h1, h2⟩ => ⟨j, .inl h1, h2⟩
    le := In.le_trans v.le hle
    frm := fun b hb => (old b (by have := low b hb; have := v.siz; omega)).trans (v.frm b hb)
    siz := by rw [hheap]; have := v.siz; simp; omega
    sam := v.sam.trans hsame }
end
section
variable {P : Program} {n : Nat} {ops : Array Oper} {A : List Nat} {pr : Pair} {rs : List Rc} {Tt : Nat → T AV} {H : Nat → T AO} {X : Nat → Nat} {F : Bool → Nat → Prop} {I0 : In} {w0 : World} {e : Nat} {L : Nat → Prop} {I : In} {a : Act} {w : World}
/-- The blocks that must not be touched: those that were, and those made ahead of their time. -/
noncomputable def Fmore (F : Bool → Nat → Prop) (rs : List Rc) (i : Nat) (L : Nat → Prop) (I : In) : Bool → Nat → Prop
  | true, b => F true b ∨ ∃ j c t, rs[j]? = some c ∧ i < j ∧ L j ∧ c.w = true ∧ c.k = .a ∧ I c.nx = some (b, t)
  | false, b => F false b
/-- A turn of one of those that follow each other. -/
theorem Inv.turn (v : Inv gl P F n ops rs (Tt 0) H X I0 w0 e L I a w) (x : Text gl P n ops A pr rs Tt H X) (fr0 : Fresh I0 (X 0) (X ops.size)) (low : ∀ b, F true b → b < w0.heap.size) (zf : ∀ b, F false b → F true b) {i : Nat} {o : Oper} {c : Rc} (ho : ops[i]? = some o) (hc : rs[i]? = some c) (hL : ¬ L i) (hr : ∀ e ∈ o.after, Region.binds .any e = true → L e.on) (hS : flag isS ops.toList i = true) (hpr : ∀ p, pr = some (p, i) → L p) :
    e ≤ i ∧ Sim (Fmore F rs i L I) I (H i) w ∧ (∀ b, Fmore F rs i L I true b → b < w.heap.size) ∧ Fresh I (X i) (X (i + 1)) ∧
    ∀ z I' w', VR I' c.v z → Grow (Fmore F rs i L I) I (X i) w I' (X (i + 1)) (H (i + 1)) w' → Inv gl P F n ops rs (Tt 0) H X I0 w0 (i + 1) (fun j => L j ∨ j = i) I' (a.put o.dst z) w' := by
  obtain ⟨hco, hst⟩ := x.step i o c ho hc
  obtain ⟨_, hnx, _, _, _, hkw, _⟩ := hst
  obtain ⟨_, _, l3⟩ := x.look ho hc
  have hi : i < ops.size := (Array.getElem?_eq_some_iff.1 ho).1
  have hso : isS o = true := by rw [flag_at ho] at hS; exact hS
  have ahead : ∀ j, j < i → flag isS ops.toList j = true ∨ flag (isA P) ops.toList j = true → L j := fun j h1 h2 => (l3 hso j h1 h2).elim (closed_bit x.hA v.cl ho hr) (hpr j)
  have hei : e ≤ i := by
    rcases Nat.lt_or_ge i e with h | h
    · exact absurd (v.e1 i h hS) hL
    · exact h
  have none' : ∀ s, e ≤ s → s < i → flag isS ops.toList s = false := fun s h1 h2 => by
    cases hf : flag isS ops.toList s with
    | false => rfl
    | true => exact absurd (ahead s h2 (.inl hf)) (v.e2 s h1 hf)
  -- a block ahead of its time is none of those that lie in the text's order
  have apart : ∀ j cj t b id o' y, rs[j]? = some cj → i < j → L j → cj.w = true → cj.k = .a → I cj.nx = some (b, t) → (H i).get id = some o' → I id = some (b, y) → False := by
    intro j cj t b id o' y h1 h2 h3 h4 h5 h6 h7 h8
    obtain ⟨oj, cj', g1, g2, g3, g4⟩ := x.rc (v.lN j h3)
    rw [h1] at g2; cases g2
    obtain ⟨_, gnx, _, _, _, gw, _⟩ := g4
    have gk := gw h4
    rw [h5] at gk
    obtain ⟨xx, gob, _, _, gX, _, _⟩ := gk
    have hid : id = cj.nx := v.inj id cj.nx o' xx b y t (v.simAt x fr0 hei (by omega) none' h7 h8) (.inl ⟨j, cj, h1, by omega, h3, h4, h5, rfl, gob⟩) h8 h6
    subst hid
    rcases x.reach i hei (by omega) none' _ _ h7 with ⟨j', c', q1, q2, q3, q4, q5, q6, q7⟩ | h9
    · obtain ⟨oj', cj2, r1, r2, r3, r4⟩ := x.rc (i := j') (by omega)
      rw [q1] at r2; cases r2
      obtain ⟨_, rnx, _, _, _, rw', _⟩ := r4
      have rk := rw' q4
      rw [q5] at rk
      obtain ⟨_, _, _, _, rX, _, _⟩ := rk
      have := x.xle (i := j' + 1) (j := j) (by omega) (by have := v.lN j h3; omega)
      omega
    · have := x.free h1 h4 h5 (by omega : e ≤ j) v.ep
      rw [this] at h9; cases h9
  refine ⟨hei, ?_, ?_, ?_, ?_⟩
  · have s := v.sim x fr0 hei (by omega) none'
    refine ⟨s.obj, s.inj, fun id o' b t h1 h2 hf => ?_⟩
    rcases hf with hf | ⟨j, cj, t', q1, q2, q3, q4, q5, q6⟩
    · exact s.fr id o' b t h1 h2 hf
    · exact (apart j cj t' b id o' t q1 q2 q3 q4 q5 q6 h1 h2).elim
  · intro b hb
    rcases hb with hb | ⟨j, cj, t', q1, q2, q3, q4, q5, q6⟩
    · have := low b hb; have := v.siz; omega
    · obtain ⟨oj, cj', g1, g2, g3, g4⟩ := x.rc (v.lN j q3)
      rw [q1] at g2; cases g2
      obtain ⟨_, gnx, _, _, _, gw, _⟩ := g4
      have gk := gw q4
      rw [q5] at gk
      obtain ⟨xx, gob, _⟩ := gk
      obtain ⟨ob', k1, _⟩ := v.obj _ _ _ _ (.inl ⟨j, cj, q1, by omega, q3, q4, q5, rfl, gob⟩) q6
      exact (Array.getElem?_eq_some_iff.1 k1).1
  · intro id h1 h2
    cases hI : I id with
    | none => rfl
    | some y => exact absurd (v.doneX x fr0 hi h1 h2 hI) hL
  · intro z I' w' hz g
    obtain ⟨p1, p2, p3, p4⟩ := v.slots.put x ho hc hL g.le hz
    -- a block ahead of its time is as it was
    have stays : ∀ j cj b t, rs[j]? = some cj → i + 1 ≤ j → L j ∨ j = i → cj.w = true → cj.k = .a → I' cj.nx = some (b, t) → L j ∧ I cj.nx = some (b, t) ∧ Fmore F rs i L I true b := by
      intro j cj b t h1 h2 h3 h4 h5 h6
      have h3 : L j := by
        rcases h3 with h3 | h3
        · exact h3
        · omega
      obtain ⟨y, hy⟩ := v.ex j cj h1 h3 h4 h5
      have := g.le _ _ hy
      rw [h6] at this; cases this
      exact ⟨h3, hy, .inr ⟨j, cj, t, h1, by omega, h3, h4, h5, hy⟩⟩
    have ahd : ∀ j cj o' , rs[j]? = some cj → i + 1 ≤ j → L j → cj.w = true → cj.k = .a → cj.ob = some o' → RR rs H e L cj.nx o' := fun j cj o' h1 h2 h3 h4 h5 h6 => .inl ⟨j, cj, h1, by omega, h3, h4, h5, rfl, h6⟩
    have noF : ∀ j cj b t, rs[j]? = some cj → i + 1 ≤ j → L j → cj.w = true → cj.k = .a → I cj.nx = some (b, t) → ¬ F true b := fun j cj b t h1 h2 h3 h4 h5 h6 => v.exf j cj b t h1 (by omega) h3 h4 h5 h6
    exact {
      eN := by omega
      ep := by simp only [isEp]; exact hS
      e1 := fun s h1 h2 => by
        by_cases es : s = i
        · exact .inr es
        · exact .inl (ahead s (by omega) (.inl h2))
      e2 := fun s h1 h2 h3 => by
        rcases h3 with h3 | h3
        · exact v.e2 s (by omega) h2 h3
        · omega
      e3 := fun j h1 h2 => by
        by_cases es : j = i
        · exact .inr es
        · exact .inl (ahead j (by omega) (.inr h2))
      cl := v.cl.add ho hr
      lN := fun j h => h.elim (v.lN j) fun h => by subst h; exact hi
      sz := p1, df := p2, s1 := fun j cj τ h1 h2 h3 => p3 j cj τ h1 h2 h3, s2 := p4
      obj := fun id o' b t h hI => by
        rcases h with ⟨j, cj, a1, a2, a3, a4, a5, a6, a7⟩ | h
        · subst a6
          obtain ⟨q1, q2, q3⟩ := stays j cj b t a1 a2 a3 a4 a5 hI
          obtain ⟨ob', k1, k2⟩ := v.obj _ _ _ _ (ahd j cj o' a1 a2 q1 a4 a5 a7) q2
          exact ⟨ob', (g.fr b q3).trans k1, k2.mono g.le⟩
        · exact g.sim.obj id o' b t h hI
      inj := fun id id' o1 o2 b t t' h h' hI hI' => by
        rcases h with ⟨j, cj, a1, a2, a3, a4, a5, a6, a7⟩ | h <;> rcases h' with ⟨j', cj', b1, b2, b3, b4, b5, b6, b7⟩ | h'
        · subst a6 b6
          obtain ⟨q1, q2, _⟩ := stays j cj b t a1 a2 a3 a4 a5 hI
          obtain ⟨q1', q2', _⟩ := stays j' cj' b t' b1 b2 b3 b4 b5 hI'
          exact v.inj _ _ o1 o2 b t t' (ahd j cj o1 a1 a2 q1 a4 a5 a7) (ahd j' cj' o2 b1 b2 q1' b4 b5 b7) q2 q2'
        · subst a6
          obtain ⟨q1, q2, q3⟩ := stays j cj b t a1 a2 a3 a4 a5 hI
          have := (g.sim.fr id' o2 b t' h' hI' q3).2
          exact absurd (zf b this) (noF j cj b t a1 a2 q1 a4 a5 q2)
        · subst b6
          obtain ⟨q1', q2', q3'⟩ := stays j' cj' b t' b1 b2 b3 b4 b5 hI'
          have := (g.sim.fr id o1 b t h hI q3').2
          exact absurd (zf b this) (noF j' cj' b t' b1 b2 q1' b4 b5 q2')
        · exact g.sim.inj id id' o1 o2 b t t' h h' hI hI'
      fr := fun id o' b t h hI hf => by
        rcases h with ⟨j, cj, a1, a2, a3, a4, a5, a6, a7⟩ | h
        · subst a6
          obtain ⟨q1, q2, q3⟩ := stays j cj b t a1 a2 a3 a4 a5 hI
          exact absurd hf (noF j cj b t a1 a2 q1 a4 a5 q2)
        · exact g.sim.fr id o' b t h hI (.inl hf)
      ex := fun j cj h1 h2 h3 h4 => by
        rcases h2 with h2 | rfl
        · obtain ⟨y, hy⟩ := v.ex j cj h1 h2 h3 h4; exact ⟨y, g.le _ _ hy⟩
        · rw [hc] at h1; cases h1
          have := hkw h3
          rw [h4] at this
          obtain ⟨_, _, _, _, _, _, hns⟩ := this
          rw [hco, hso] at hns; cases hns
      exf := fun j cj b t h1 h2 h3 h4 h5 h6 => by
        obtain ⟨q1, q2, q3⟩ := stays j cj b t h1 h2 h3 h4 h5 h6
        exact noF j cj b t h1 h2 q1 h4 h5 q2
      dom := fun id y h => by
        rcases g.new id y h with h | h
        · exact (v.dom id y h).imp (fun h => h) fun ⟨j, h1, h2⟩ => ⟨j, .inl h1, h2⟩
        · exact .inr ⟨i, .inr rfl, h⟩
      le := In.le_trans v.le g.le
      frm := fun b hb => (g.fr b (.inl hb)).trans (v.frm b hb)
      siz := Nat.le_trans v.siz g.size
      sam := v.sam.trans g.same }
end
section
variable {P : Program} {n : Nat} {ops : Array Oper} {A : List Nat} {pr : Pair} {rs : List Rc} {Tt : Nat → T AV} {H : Nat → T AO} {X : Nat → Nat} {F : Bool → Nat → Prop} {I0 : In} {w0 : World} {e : Nat} {L : Nat → Prop} {I : In} {a : Act} {w : World}
theorem sop_store {P : Program} {t : T AV} {h h' : T AO} {nx nx' : Nat} {o : Oper} {r : AV} {st : TypeId} {x y : Operand} (ho : o.op = .store st x y) (e : sop P t h nx o = some (r, h', nx')) :
    r = undefA ∧ nx' = nx ∧ ∃ id off, ev t x = some (.ptr id off) ∧ ∀ k, k ≠ id → h'.get k = h.get k := by
  simp only [sop, ho] at e
  split at e
  · rename_i id off v hx hy
    split at e
    · rename_i h2 hp
      cases e
      refine ⟨rfl, rfl, id, off, hx, fun k hk => ?_⟩
      unfold astore at hp
      simp only at hp
      split at hp
      · split at hp
        · unfold awrite at hp
          split at hp
          · split at hp
            · rw [T.get_put _ _ _ _ _ hp, if_neg hk]
            · cases hp
          · cases hp
        · cases hp
      · cases hp
    · cases e
  · cases e
/-- What is known of the two. -/
structure PairOK (gl : T AV) (P : Program) (ops : Array Oper) (A : List Nat) (pr : Pair) (rs : List Rc) (H : Nat → T AO) (X : Nat → Nat) (p q : Nat) (ci cj : Rc) (B B' : T AO) : Prop where
  pr : pr = some (p, q)
  lt : p < q
  ltN : q < ops.size
  sp : flag isS ops.toList p = true
  sq : flag isS ops.toList q = true
  np : flag (isA P) ops.toList p = false
  nq : flag (isA P) ops.toList q = false
  st : ∀ k, k < ops.size → k ≠ p → k ≠ q → flag isS ops.toList k = true ∨ flag (isA P) ops.toList k = true ∨ flag isR ops.toList k = true → bitOf A p k = true ∧ bitOf A q k = true
  hp : rs[p]? = some ci
  hq : rs[q]? = some cj
  wp : ci.w = true
  wq : cj.w = true
  vp : ci.v = undefA
  vq : cj.v = undefA
  jr : sop P cj.t (H p) (X q) cj.o = some (undefA, B, X q)
  ir : sop P ci.t B (X p) ci.o = some (undefA, B', X p)
  xp : X (p + 1) = X p
  xq : X (q + 1) = X q
  eq : ∀ id, B'.get id = (H (q + 1)).get id
theorem store_kind {gl : T AV} {P : Program} {t : T AV} {h h' : T AO} {nx nx' : Nat} {o : Oper} {k : Kd} {v : AV} {ob : Option AO} {st : TypeId} {x y : Operand} (ho : o.op = .store st x y) (hk : KP gl P t h nx o k v ob h' nx') : sop P t h nx o = some (v, h', nx') := by
  cases k with
  | q => obtain ⟨_, _, h1⟩ := hk; simp [qop, ho] at h1
  | r => obtain ⟨_, _, h1, _⟩ := hk; simp [rop, ho] at h1
  | a => obtain ⟨z, _, h1, _⟩ := hk; simp [aop, ho] at h1
  | s => exact hk.2.2 _ _ _ ho
theorem isStore_op {l : List Oper} {i : Nat} (h : isStore l i = true) : ∃ o st x y, l[i]? = some o ∧ o.op = .store st x y := by
  unfold isStore at h
  split at h
  · rename_i o ho
    split at h
    · rename_i st x y hop; exact ⟨o, st, x, y, by rw [← nth_eq]; exact ho, hop⟩
    · cases h
  · cases h
/-- Memory between, where nothing is written. -/
theorem Text.still (x : Text gl P n ops A pr rs Tt H X) {i : Nat} : ∀ m, i ≤ m → m ≤ ops.size → (∀ s, i ≤ s → s < m → flag isS ops.toList s = false ∧ flag (isA P) ops.toList s = false) → H m = H i ∧ X m = X i := by
  intro m
  induction m with
  | zero => intro h1 _ _; have : i = 0 := by omega
            subst this; exact ⟨rfl, rfl⟩
  | succ m ih =>
    intro h1 h2 h3
    by_cases hm : i = m + 1
    · subst hm; exact ⟨rfl, rfl⟩
    · obtain ⟨k1, k2⟩ := ih (by omega) (by omega) fun s a b => h3 s a (by omega)
      obtain ⟨o, c, g1, g2, g3, g4⟩ := x.rc (i := m) (by omega)
      obtain ⟨_, _, _, _, _, hw, hu⟩ := g4
      obtain ⟨f1, f2⟩ := h3 m (by omega) (Nat.lt_succ_self _)
      rw [flag_at g1] at f1 f2
      cases hcw : c.w with
      | false =>
        obtain ⟨_, u2, u3⟩ := hu hcw
        rw [u2, u3]; exact ⟨k1, k2⟩
      | true =>
        have hk := hw hcw
        cases hck : c.k <;> rw [hck] at hk
        · rw [hk.1, hk.2.1]; exact ⟨k1, k2⟩
        · rw [hk.1, hk.2.1]; exact ⟨k1, k2⟩
        · obtain ⟨_, _, _, _, _, k5, _⟩ := hk
          rw [g3, f2] at k5; cases k5
        · have := hk.2.1
          rw [g3, f1] at this; cases this
theorem Text.pair (x : Text gl P n ops A pr rs Tt H X) {p q : Nat} (hpr : pr = some (p, q)) (hst : pairStat P ops A p q = true) (hdy : pairDyn P pr rs (H ops.size) = true) : ∃ ci cj B B', PairOK gl P ops A pr rs H X p q ci cj B B' := by
  unfold pairStat at hst
  simp only [Bool.and_eq_true] at hst
  obtain ⟨⟨⟨⟨s1, s2⟩, s3⟩, s4⟩, s5⟩ := hst
  have hlt : p < q := by simpa [Nat.blt_eq] using s3
  have hqN : q < ops.size := by have := s4; rw [blt_eq] at this; simpa using this
  have hall : ∀ k, k < ops.size → k ≠ p → k ≠ q → flag isS ops.toList k = true ∨ flag (isA P) ops.toList k = true ∨ flag isR ops.toList k = true → bitOf A p k = true ∧ bitOf A q k = true := by
    intro k hk h1 h2 h3
    have := allUp_ok s5 k (by simpa using hk)
    simp only [Bool.or_eq_true, Bool.not_eq_true', Bool.and_eq_true, Bool.or_eq_false_iff] at this
    rcases this with ((h | h) | h) | h
    · exact absurd (Nat.eq_of_beq_eq_true h) h1
    · exact absurd (Nat.eq_of_beq_eq_true h) h2
    · rcases h3 with h3 | h3 | h3
      · rw [h.1.1] at h3; cases h3
      · rw [h.1.2] at h3; cases h3
      · rw [h.2] at h3; cases h3
    · exact h
  obtain ⟨op, st, px, py, o1, o2⟩ := isStore_op s1
  obtain ⟨oq, st', qx, qy, o3, o4⟩ := isStore_op s2
  have op1 : ops[p]? = some op := by simpa using o1
  have oq1 : ops[q]? = some oq := by simpa using o3
  have fS : ∀ {i o st x y}, ops[i]? = some o → o.op = .store st x y → flag isS ops.toList i = true ∧ flag (isA P) ops.toList i = false := fun hi ho => by
    rw [flag_at hi, flag_at hi]; simp [isS, isA, ho]
  obtain ⟨fp, ap⟩ := fS op1 o2
  obtain ⟨fq, aq⟩ := fS oq1 o4
  subst hpr
  unfold pairDyn at hdy
  simp only at hdy
  split at hdy
  · rename_i ci hci
    split at hdy
    · rename_i cj hcj
      split at hdy
      · rename_i vj B nj hj
        split at hdy
        · rename_i vi B' ni hi
          split at hdy
          · rename_i di hdi
            split at hdy
            · rename_i dj hdj
              simp only [Bool.and_eq_true] at hdy
              obtain ⟨⟨⟨d1, d2⟩, d3⟩, d4⟩ := hdy
              rw [nth_eq] at hci hcj
              obtain ⟨e1, e2⟩ := x.step p op ci op1 hci
              obtain ⟨g1, g2⟩ := x.step q oq cj oq1 hcj
              obtain ⟨eh, ex, _, _, _, ew, _⟩ := e2
              obtain ⟨gh, gx, _, _, _, gw, _⟩ := g2
              have hio : ci.o.op = .store st px py := by rw [e1]; exact o2
              have hjo : cj.o.op = .store st' qx qy := by rw [g1]; exact o4
              obtain ⟨i1, i2, idi, offi, i3, i4⟩ := sop_store hio (store_kind hio (ew d1))
              obtain ⟨j1, j2, idj, offj, j3, j4⟩ := sop_store hjo (store_kind hjo (gw d2))
              rw [eh, gx] at hj
              rw [ex] at hi
              obtain ⟨b1, b2, idb, offb, b3, b4⟩ := sop_store hjo hj
              obtain ⟨c1, c2, idc, offc, c3, c4⟩ := sop_store hio hi
              have hidi : idi = di ∧ idc = di := by
                unfold storeId at hdi
                rw [hio] at hdi
                simp only [i3] at hdi
                rw [i3] at c3; cases c3; cases hdi; exact ⟨rfl, rfl⟩
              have hidj : idj = dj ∧ idb = dj := by
                unfold storeId at hdj
                rw [hjo] at hdj
                simp only [j3] at hdj
                rw [j3] at b3; cases b3; cases hdj; exact ⟨rfl, rfl⟩
              obtain ⟨rfl, rfl⟩ := hidi
              obtain ⟨rfl, rfl⟩ := hidj
              have quiet : ∀ lo hi', (∀ s, lo ≤ s → s < hi' → s ≠ p ∧ s ≠ q ∧ ¬ s < p) → hi' ≤ ops.size → ∀ s, lo ≤ s → s < hi' → flag isS ops.toList s = false ∧ flag (isA P) ops.toList s = false := by
                intro lo hi' h0 h1 s h2 h3
                obtain ⟨k1, k2, k3⟩ := h0 s h2 h3
                have no : ¬ (flag isS ops.toList s = true ∨ flag (isA P) ops.toList s = true) := fun hf => by
                  have := (hall s (by omega) k1 k2 (hf.elim .inl fun h => .inr (.inl h))).1
                  exact k3 (bit_lt x.hA this)
                constructor
                · cases h : flag isS ops.toList s with
                  | false => rfl
                  | true => exact absurd (.inl h) no
                · cases h : flag (isA P) ops.toList s with
                  | false => rfl
                  | true => exact absurd (.inr h) no
              obtain ⟨m1, m2⟩ := x.still (i := p + 1) q (by omega) (by omega) (quiet (p + 1) q (fun s h1 h2 => ⟨by omega, by omega, by omega⟩) (by omega))
              obtain ⟨t1, t2⟩ := x.still (i := q + 1) ops.size (by omega) (Nat.le_refl _) (quiet (q + 1) ops.size (fun s h1 h2 => ⟨by omega, by omega, by omega⟩) (Nat.le_refl _))
              rw [t1] at d3 d4
              refine ⟨ci, cj, B, B', ⟨rfl, hlt, hqN, fp, fq, ap, aq, hall, hci, hcj, d1, d2, i1, j1, by rw [hj, b1, b2], by rw [hi, c1, c2], i2, j2, fun id => ?_⟩⟩
              by_cases k1 : id = idc
              · subst k1; exact eqAO_eq d3
              · by_cases k2 : id = idb
                · subst k2; exact eqAO_eq d4
                · rw [c4 id k1, b4 id k2, j4 id k2, m1, i4 id k1]
            · cases hdy
          · cases hdy
        · cases hdy
      · cases hdy
    · cases hdy
  · cases hdy
/-- The later store is done, the earlier is not. -/
structure Inv2 (gl : T AV) (P : Program) (F : Bool → Nat → Prop) (n : Nat) (ops : Array Oper) (rs : List Rc) (T0 : T AV) (X : Nat → Nat) (I0 : In) (w0 : World) (p q : Nat) (B : T AO) (L : Nat → Prop) (I : In) (a : Act) (w : World) : Prop where
  sl : SInv n ops rs T0 L I a
  hp : ¬ L p
  hq : L q
  sim : Sim F I B w
  ex : ∀ j c, rs[j]? = some c → L j → c.w = true → c.k = .a → ∃ x, I c.nx = some x
  dom : ∀ id x, I id = some x → I0 id = some x ∨ ∃ j, L j ∧ X j ≤ id ∧ id < X (j + 1)
  le : I0.le I
  frm : ∀ b, F true b → w.heap[b]? = w0.heap[b]?
  siz : w0.heap.size ≤ w.heap.size
  sam : Same w0 w
theorem Sim.same {F : Bool → Nat → Prop} {I : In} {h h' : T AO} {w : World} (s : Sim F I h w) (e : ∀ id, h'.get id = h.get id) : Sim F I h' w :=
  ⟨fun id o b t h1 h2 => s.obj id o b t (by rw [← e]; exact h1) h2, fun id id' o o' b t t' h1 h2 => s.inj id id' o o' b t t' (by rw [← e]; exact h1) (by rw [← e]; exact h2), fun id o b t h1 => s.fr id o b t (by rw [← e]; exact h1)⟩
variable {p q : Nat} {ci cj : Rc} {B B' : T AO}
/-- What meets memory is done when one of the two is ready. -/
theorem PairOK.done (k : PairOK gl P ops A pr rs H X p q ci cj B B') (x : Text gl P n ops A pr rs Tt H X) (hL : Closed ops L) {i : Nat} {o : Oper} (ho : ops[i]? = some o) (hr : ∀ e ∈ o.after, Region.binds .any e = true → L e.on) (hi : i = p ∨ i = q) {s : Nat} (hs : s < ops.size) (h1 : s ≠ p) (h2 : s ≠ q) (hf : flag isS ops.toList s = true ∨ flag (isA P) ops.toList s = true ∨ flag isR ops.toList s = true) : L s := by
  obtain ⟨b1, b2⟩ := k.st s hs h1 h2 hf
  rcases hi with rfl | rfl
  · exact closed_bit x.hA hL ho hr b1
  · exact closed_bit x.hA hL ho hr b2
theorem PairOK.noMake (k : PairOK gl P ops A pr rs H X p q ci cj B B') (x : Text gl P n ops A pr rs Tt H X) {i : Nat} {c : Rc} (hi : i = p ∨ i = q) (hc : rs[i]? = some c) (hw : c.w = true) (hk : c.k = .a) : False := by
  have hj : i < ops.size := by have := (List.getElem?_eq_some_iff.1 hc).1; rw [x.len] at this; exact this
  obtain ⟨oj, cj', g1, g2, g3, g4⟩ := x.rc hj
  rw [hc] at g2; cases g2
  obtain ⟨_, _, _, _, _, gw, _⟩ := g4
  have gk := gw hw
  rw [hk] at gk
  obtain ⟨_, _, _, _, _, ga, _⟩ := gk
  rw [g3, ← flag_at (f := isA P) g1] at ga
  rcases hi with rfl | rfl
  · rw [k.np] at ga; cases ga
  · rw [k.nq] at ga; cases ga
/-- The later store's turn, ahead of the earlier's. -/
theorem Inv.later (v : Inv gl P F n ops rs (Tt 0) H X I0 w0 e L I a w) (k : PairOK gl P ops A pr rs H X p q ci cj B B') (x : Text gl P n ops A pr rs Tt H X) (fr0 : Fresh I0 (X 0) (X ops.size)) (hnp : ¬ L p) {o : Oper} (ho : ops[q]? = some o) (hL : ¬ L q) (hr : ∀ e ∈ o.after, Region.binds .any e = true → L e.on) :
    Sim F I (H p) w ∧ ∀ z I' w', VR I' cj.v z → Grow F I (X q) w I' (X q) B w' → Inv2 gl P F n ops rs (Tt 0) X I0 w0 p q B (fun j => L j ∨ j = q) I' (a.put o.dst z) w' := by
  have hep : e ≤ p := by
    rcases Nat.lt_or_ge p e with h | h
    · exact absurd (v.e1 p h k.sp) hnp
    · exact h
  have noS : ∀ s, e ≤ s → s < p → flag isS ops.toList s = false := fun s h1 h2 => by
    cases hf : flag isS ops.toList s with
    | false => rfl
    | true => exact absurd (k.done x v.cl ho hr (.inr rfl) (by have := k.lt; have := k.ltN; omega) (by omega) (by have := k.lt; omega) (.inl hf)) (v.e2 s h1 hf)
  refine ⟨v.sim x fr0 hep (by have := k.lt; have := k.ltN; omega) noS, fun z I' w' hz g => ?_⟩
  obtain ⟨p1, p2, p3, p4⟩ := v.slots.put x ho k.hq hL g.le hz
  exact {
    sl := ⟨v.cl.add ho hr, fun j h => h.elim (v.lN j) fun h => by subst h; exact k.ltN, p1, p2, fun j cj τ h1 h2 h3 => p3 j cj τ h1 h2 h3, p4⟩
    hp := fun h => h.elim hnp fun h => by have := k.lt; omega
    hq := .inr rfl
    sim := g.sim
    ex := fun j c h1 h2 h3 h4 => by
      rcases h2 with h2 | rfl
      · obtain ⟨y, hy⟩ := v.ex j c h1 h2 h3 h4; exact ⟨y, g.le _ _ hy⟩
      · exact (k.noMake x (.inr rfl) h1 h3 h4).elim
    dom := fun id y h => by
      rcases g.new id y h with h | ⟨h1, h2⟩
      · exact (v.dom id y h).imp (fun h => h) fun ⟨j, h1, h2⟩ => ⟨j, .inl h1, h2⟩
      · omega
    le := In.le_trans v.le g.le
    frm := fun b hb => (g.fr b hb).trans (v.frm b hb)
    siz := Nat.le_trans v.siz g.size
    sam := v.sam.trans g.same }
/-- A turn that leaves memory as it is. -/
theorem Inv2.stay (v : Inv2 gl P F n ops rs (Tt 0) X I0 w0 p q B L I a w) (x : Text gl P n ops A pr rs Tt H X) {i : Nat} {o : Oper} {c : Rc} (ho : ops[i]? = some o) (hc : rs[i]? = some c) (hL : ¬ L i) (hr : ∀ e ∈ o.after, Region.binds .any e = true → L e.on) (hip : i ≠ p) (hk : ¬ (c.w = true ∧ c.k = .a)) {z : Value} (hz : VR I c.v z) :
    Inv2 gl P F n ops rs (Tt 0) X I0 w0 p q B (fun j => L j ∨ j = i) I (a.put o.dst z) w := by
  obtain ⟨p1, p2, p3, p4⟩ := v.sl.put x ho hc hL (In.le_refl I) hz
  exact {
    sl := ⟨v.sl.cl.add ho hr, fun j h => h.elim (v.sl.lN j) fun h => by subst h; exact (Array.getElem?_eq_some_iff.1 ho).1, p1, p2, fun j cj τ h1 h2 h3 => p3 j cj τ h1 h2 h3, p4⟩
    hp := fun h => h.elim v.hp fun h => hip h.symm
    hq := .inl v.hq, sim := v.sim
    ex := fun j cj h1 h2 h3 h4 => by
      rcases h2 with h2 | rfl
      · exact v.ex j cj h1 h2 h3 h4
      · rw [hc] at h1; cases h1; exact absurd ⟨h3, h4⟩ hk
    dom := fun id y h => (v.dom id y h).imp (fun h => h) fun ⟨j, h1, h2⟩ => ⟨j, .inl h1, h2⟩
    le := v.le, frm := v.frm, siz := v.siz, sam := v.sam }
/-- The earlier store's turn, behind the later's. -/
theorem Inv2.earlier (v : Inv2 gl P F n ops rs (Tt 0) X I0 w0 p q B L I a w) (k : PairOK gl P ops A pr rs H X p q ci cj B B') (x : Text gl P n ops A pr rs Tt H X) {o : Oper} (ho : ops[p]? = some o) (hr : ∀ e ∈ o.after, Region.binds .any e = true → L e.on) {z : Value} {I' : In} {w' : World} (hz : VR I' ci.v z) (g : Grow F I (X p) w I' (X p) B' w') :
    Inv gl P F n ops rs (Tt 0) H X I0 w0 (q + 1) (fun j => L j ∨ j = p) I' (a.put o.dst z) w' := by
  obtain ⟨p1, p2, p3, p4⟩ := v.sl.put x ho k.hp v.hp g.le hz
  have hlt := k.lt
  have hqN := k.ltN
  have all : ∀ s, s < ops.size → s ≠ p → s ≠ q → flag isS ops.toList s = true ∨ flag (isA P) ops.toList s = true → L s := fun s h1 h2 h3 hf =>
    k.done x v.sl.cl ho hr (.inl rfl) h1 h2 h3 (hf.elim .inl fun h => .inr (.inl h))
  have ahead : ∀ s, s < ops.size → s ≠ p → s ≠ q → flag isS ops.toList s = true ∨ flag (isA P) ops.toList s = true → s < p := fun s h1 h2 h3 hf =>
    bit_lt x.hA (k.st s h1 h2 h3 (hf.elim .inl fun h => .inr (.inl h))).1
  have sim : Sim F I' (H (q + 1)) w' := g.sim.same fun id => (k.eq id).symm
  have noA : ∀ j c, rs[j]? = some c → q + 1 ≤ j → c.w = true → c.k = .a → False := fun j c h1 h2 h3 h4 => by
    have hj : j < ops.size := by have := (List.getElem?_eq_some_iff.1 h1).1; rw [x.len] at this; exact this
    obtain ⟨oj, cj', g1, g2, g3, g4⟩ := x.rc hj
    rw [h1] at g2; cases g2
    obtain ⟨_, _, _, _, _, gw, _⟩ := g4
    have gk := gw h3
    rw [h4] at gk
    obtain ⟨_, _, _, _, _, ga, _⟩ := gk
    have := ahead j hj (by omega) (by omega) (.inr (by rw [flag_at g1, ← g3]; exact ga))
    omega
  have mem : ∀ id o', RR rs H (q + 1) (fun j => L j ∨ j = p) id o' → (H (q + 1)).get id = some o' := fun id o' h => by
    rcases h with ⟨j, c, a1, a2, a3, a4, a5, _⟩ | h
    · exact (noA j c a1 a2 a4 a5).elim
    · exact h
  exact {
    eN := hqN
    ep := k.sq
    e1 := fun s h1 h2 => by
      by_cases e1 : s = p
      · exact .inr e1
      · by_cases e2 : s = q
        · subst e2; exact .inl v.hq
        · exact .inl (all s (by omega) e1 e2 (.inl h2))
    e2 := fun s h1 h2 h3 => by
      by_cases hs : s < ops.size
      · have := ahead s hs (by omega) (by omega) (.inl h2); omega
      · rcases h3 with h3 | h3
        · exact hs (v.sl.lN s h3)
        · omega
    e3 := fun s h1 h2 => by
      by_cases e1 : s = p
      · exact .inr e1
      · by_cases e2 : s = q
        · subst e2; exact .inl v.hq
        · exact .inl (all s (by omega) e1 e2 (.inr h2))
    cl := v.sl.cl.add ho hr
    lN := fun j h => h.elim (v.sl.lN j) fun h => by subst h; omega
    sz := p1, df := p2, s1 := fun j cj τ h1 h2 h3 => p3 j cj τ h1 h2 h3, s2 := p4
    obj := fun id o' b t h hI => sim.obj id o' b t (mem id o' h) hI
    inj := fun id id' o1 o2 b t t' h h' hI hI' => sim.inj id id' o1 o2 b t t' (mem _ _ h) (mem _ _ h') hI hI'
    fr := fun id o' b t h hI hf => sim.fr id o' b t (mem _ _ h) hI hf
    ex := fun j c h1 h2 h3 h4 => by
      rcases h2 with h2 | rfl
      · obtain ⟨y, hy⟩ := v.ex j c h1 h2 h3 h4; exact ⟨y, g.le _ _ hy⟩
      · exact (k.noMake x (.inl rfl) h1 h3 h4).elim
    exf := fun j c b t h1 h2 h3 h4 h5 h6 => (noA j c h1 h2 h4 h5).elim
    dom := fun id y h => by
      rcases g.new id y h with h | ⟨h1, h2⟩
      · exact (v.dom id y h).imp (fun h => h) fun ⟨j, h1, h2⟩ => ⟨j, .inl h1, h2⟩
      · omega
    le := In.le_trans v.le g.le
    frm := fun b hb => (g.fr b hb).trans (v.frm b hb)
    siz := Nat.le_trans v.siz g.size
    sam := v.sam.trans g.same }
end
theorem St.more {P : Program} {F : Bool → Nat → Prop} {I : In} {t : T AV} {h : T AO} {n : Nat} {a : Act} {w : World} {I' : In} (hG : GOK gl I) (hl : I.le I') : GOK gl I' := hG.mono hl
/-- The whole of it: each order that its edges allow comes to what the text's order comes to. -/
theorem region_any {P : Program} {n : Nat} {ops : Array Oper} {A : List Nat} {pr : Pair} {rs : List Rc} {Tt : Nat → T AV} {H : Nat → T AO} {X : Nat → Nat} (x : Text gl P n ops A pr rs Tt H X) {F : Bool → Nat → Prop} {I0 : In} {w0 : World} (fr0 : Fresh I0 (X 0) (X ops.size)) (low : ∀ b, F true b → b < w0.heap.size) (zf : ∀ b, F false b → F true b) (hG : GOK gl I0) (hpo : ∀ p q, pr = some (p, q) → ∃ ci cj B B', PairOK gl P ops A pr rs H X p q ci cj B B') {Q : Exit → Act → World → Prop}
    (hQ : ∀ a' I' w', St gl F I' (Tt ops.size) (H ops.size) n a' w' → Grow F I0 (X 0) w0 I' (X ops.size) (H ops.size) w' → Q .normal a' w') :
    ∀ (fuel : Nat) (listed : Array Bool) (I : In) (a : Act) (w : World), listed.size = ops.size → cnt ops.size (fun i => listed.getD i false) + fuel = ops.size → ((∃ e, Inv gl P F n ops rs (Tt 0) H X I0 w0 e (fun i => listed.getD i false = true) I a w) ∨ ∃ p q ci cj B B', PairOK gl P ops A pr rs H X p q ci cj B B' ∧ Inv2 gl P F n ops rs (Tt 0) X I0 w0 p q B (fun i => listed.getD i false = true) I a w) → wpAny P .any ops Q fuel listed a w := by
  intro fuel
  -- all is done
  have fin : ∀ (listed : Array Bool) (e : Nat) (I : In) (a : Act) (w : World), (∀ i, i < ops.size → listed.getD i false = true) → Inv gl P F n ops rs (Tt 0) H X I0 w0 e (fun i => listed.getD i false = true) I a w → Q .normal a w := by
    intro listed e I a w hall v
    have noS : ∀ s, e ≤ s → s < ops.size → flag isS ops.toList s = false := fun s h1 h2 => by
      cases hf : flag isS ops.toList s with
      | false => rfl
      | true => exact absurd (hall s h2) (v.e2 s h1 hf)
    refine hQ a I w ⟨fun τ b hb => ?_, v.sz, v.df, v.sim x fr0 v.eN (Nat.le_refl _) noS, fun b hb => Nat.lt_of_lt_of_le (low b hb) v.siz, hG.mono v.le, zf⟩ ⟨v.le, fun id y h => ?_, v.sim x fr0 v.eN (Nat.le_refl _) noS, v.frm, v.siz, v.sam⟩
    · rcases x.slot ops.size (Nat.le_refl _) τ with ⟨j, cj, a1, a2, a3, a4⟩ | ⟨a1, a2⟩
      · rw [hb] at a4; cases a4
        exact v.s1 j cj τ a2 (hall j a1) a3
      · rw [a2] at hb
        refine v.s2 τ b (fun j cj hj hd _ => ?_) hb
        have : j < ops.size := by have := (List.getElem?_eq_some_iff.1 hj).1; rw [x.len] at this; exact this
        exact a1 j cj this hj hd
    · rcases v.dom id y h with h | ⟨j, h1, h2, h3⟩
      · exact .inl h
      · have hj := v.lN j h1
        exact .inr ⟨Nat.le_trans (x.xle (Nat.zero_le _) (by omega)) h2, Nat.lt_of_lt_of_le h3 (x.xle (by omega) (Nat.le_refl _))⟩
  -- nothing is ready: all is done
  have stuck : ∀ (listed : Array Bool), listed.size = ops.size → Region.ready .any ops listed = [] → ∀ i, i < ops.size → listed.getD i false = true := by
    intro listed hsz hr i
    induction i using Nat.strongRecOn with
    | _ i ih =>
      intro hi
      cases hl : listed.getD i false with
      | true => rfl
      | false =>
        exfalso
        obtain ⟨o, c, h1, h2, h3, h4⟩ := x.rc hi
        have hrd : i ∈ Region.ready .any ops listed := by
          rw [mem_ready]
          refine ⟨?_, o, h1, fun e' he hb => ?_⟩
          · rw [Array.getD_eq_getD_getElem?] at hl ⊢
            rw [Array.getElem?_eq_getElem (by omega)] at hl ⊢; exact hl
          · obtain ⟨m, g1, g2⟩ := (ancs_ok ops.toList 0 [] A rfl x.hA).2.2 i o (by simpa using h1)
            -- an edge leads to an earlier one
            have : e'.on < i := by
              have hanc := x.hA
              exact edge_lt hanc h1 he hb
            exact ih e'.on this (by omega)
        rw [hr] at hrd; cases hrd
  have lN2 : ∀ {listed : Array Bool} {I : In} {a : Act} {w : World} {p q : Nat} {ci cj : Rc} {B B' : T AO}, PairOK gl P ops A pr rs H X p q ci cj B B' → Inv2 gl P F n ops rs (Tt 0) X I0 w0 p q B (fun i => listed.getD i false = true) I a w → (∀ i, i < ops.size → listed.getD i false = true) → False := fun k v hall => v.hp (hall _ (by have := k.lt; have := k.ltN; omega))
  induction fuel with
  | zero =>
    intro listed I a w hsz hc v
    have hall := cnt_all ops.size _ (by omega)
    rcases v with ⟨e, v⟩ | ⟨p, q, ci, cj, B, B', k, v⟩
    · refine ⟨?_, fin listed e I a w hall v⟩
      rw [List.eq_nil_iff_forall_not_mem]
      intro i hi
      obtain ⟨g1, o, g2, _⟩ := mem_ready.1 hi
      have hlt : i < ops.size := (Array.getElem?_eq_some_iff.1 g2).1
      have := hall i hlt
      rw [Array.getD_eq_getD_getElem?, Array.getElem?_eq_getElem (by omega)] at g1 this
      simp only [Option.getD_some] at g1 this
      rw [g1] at this; cases this
    · exact (lN2 k v hall).elim
  | succ fuel ih =>
    intro listed I a w hsz hc v
    refine ⟨fun hr => ?_, fun i hi => ?_⟩
    · rcases v with ⟨e, v⟩ | ⟨p, q, ci, cj, B, B', k, v⟩
      · exact fin listed e I a w (stuck listed hsz hr) v
      · exact (lN2 k v (stuck listed hsz hr)).elim
    obtain ⟨g1, o, ho, hr⟩ := mem_ready.1 hi
    have hlt : i < ops.size := (Array.getElem?_eq_some_iff.1 ho).1
    obtain ⟨o', c, h1, h2, h3, h4⟩ := x.rc hlt
    rw [ho] at h1; cases h1
    have hLf : listed.getD i false = false := by
      rw [Array.getD_eq_getD_getElem?, Array.getElem?_eq_getElem (by omega)] at g1 ⊢; exact g1
    have hL : ¬ listed.getD i false = true := by rw [hLf]; simp
    -- what is done behind it
    have hL' : (fun j => (listed.setIfInBounds i true).getD j false = true) = fun j => listed.getD j false = true ∨ j = i := by
      funext j
      apply propext
      by_cases hji : j = i
      · subst hji
        rw [Array.getD_eq_getD_getElem?, Array.getElem?_setIfInBounds_self_of_lt (by omega)]; simp
      · rw [Array.getD_eq_getD_getElem?, Array.getElem?_setIfInBounds_ne (by omega), ← Array.getD_eq_getD_getElem?]; simp [hji]
    have hcnt : cnt ops.size (fun j => (listed.setIfInBounds i true).getD j false) + fuel = ops.size := by
      have := cnt_upd ops.size (fun j => listed.getD j false) (fun j => (listed.setIfInBounds i true).getD j false) i hlt hLf (by
        simp only [Array.getD_eq_getD_getElem?]; rw [Array.getElem?_setIfInBounds_self_of_lt (by omega)]; rfl) (fun j hj => by
        simp only [Array.getD_eq_getD_getElem?]; rw [Array.getElem?_setIfInBounds_ne (by omega)])
      omega
    have go : ∀ e' I' a' w', Inv gl P F n ops rs (Tt 0) H X I0 w0 e' (fun j => listed.getD j false = true ∨ j = i) I' a' w' → wpAny P .any ops Q fuel (listed.setIfInBounds i true) a' w' := fun e' I' a' w' v' =>
      ih (listed.setIfInBounds i true) I' a' w' (by simp [hsz]) hcnt (.inl ⟨e', by rw [hL']; exact v'⟩)
    have go2 : ∀ p q ci cj B B' I' a' w', PairOK gl P ops A pr rs H X p q ci cj B B' → Inv2 gl P F n ops rs (Tt 0) X I0 w0 p q B (fun j => listed.getD j false = true ∨ j = i) I' a' w' → wpAny P .any ops Q fuel (listed.setIfInBounds i true) a' w' := fun p q ci cj B B' I' a' w' k' v' =>
      ih (listed.setIfInBounds i true) I' a' w' (by simp [hsz]) hcnt (.inr ⟨p, q, ci, cj, B, B', k', by rw [hL']; exact v'⟩)
    obtain ⟨_, hnx, _, _, hgd, hkw, hun⟩ := h4
    rcases v with ⟨e, v⟩ | ⟨p, q, ci, cj, B, B', k, v⟩
    case inr =>
      have htr := v.sl.tr x ho h2 hL hr
      have hwant := guardT_ok hgd htr
      rw [h3] at hwant
      unfold wpOp
      simp only [ho, hwant]
      by_cases hip : i = p
      · subst hip
        have hcc : c = ci := by have := k.hp; rw [h2] at this; exact Option.some.inj this
        subst hcc
        simp only [k.wp, if_true]
        refine .inl ?_
        have hact := actS (gl := gl) k.ir
        rw [h3] at hact
        exact hact.2 _ I n a w ⟨htr, v.sl.sz, v.sl.df, v.sim, fun b hb => Nat.lt_of_lt_of_le (low b hb) v.siz, hG.mono v.le, zf⟩ (fun j j1 j2 => by omega) _ Q fun z I' w' hz hgr => go _ _ _ _ (v.earlier k x ho hr (by rw [k.vp]; exact hz) hgr)
      · have hiq : i ≠ q := fun h => by subst h; exact hL v.hq
        have notmem : ¬ (flag isS ops.toList i = true ∨ flag (isA P) ops.toList i = true ∨ flag isR ops.toList i = true) := fun hf => by
          obtain ⟨b1, b2⟩ := k.st i hlt hip hiq hf
          obtain ⟨oq, _, q1, _⟩ := x.rc k.ltN
          exact hL (closed_bit x.hA v.sl.cl q1 (fun e he hb => v.sl.cl q oq q1 v.hq e he hb) b2)
        cases hcw : c.w with
        | false =>
          simp only [Bool.false_eq_true, if_false]
          obtain ⟨u1, u2, u3⟩ := hun hcw
          exact go2 _ _ _ _ _ _ _ _ _ k (v.stay x ho h2 hL hr hip (fun hh => by rw [hcw] at hh; cases hh.1) (by rw [u1]; exact undef_rel I))
        | true =>
          simp only [if_true]
          refine .inl ?_
          have hk := hkw hcw
          cases hck : c.k with
          | q =>
            rw [hck] at hk
            obtain ⟨k1, k2, k3⟩ := hk
            rw [h3] at k3
            obtain ⟨z, q1, q2⟩ := qop_ok k3 htr
            unfold Oper.wp
            rw [q1 w]
            exact go2 _ _ _ _ _ _ _ _ _ k (v.stay x ho h2 hL hr hip (fun hh => by rw [hck] at hh; cases hh.2) q2)
          | r =>
            rw [hck] at hk
            have := hk.2.2.2
            rw [h3, ← flag_at (f := isR) ho] at this
            exact absurd (.inr (.inr this)) notmem
          | a =>
            rw [hck] at hk
            obtain ⟨ob, k1, k2, k3, k4, k5, k6⟩ := hk
            rw [h3, ← flag_at (f := isA P) ho] at k5
            exact absurd (.inr (.inl k5)) notmem
          | s =>
            rw [hck] at hk
            have := hk.2.1
            rw [h3, ← flag_at (f := isS) ho] at this
            exact absurd (.inl this) notmem
    have htr := v.slots.tr x ho h2 hL hr
    have hwant := guardT_ok hgd htr
    rw [h3] at hwant
    unfold wpOp
    simp only [ho, hwant]
    cases hS : flag isS ops.toList i with
    | true =>
      by_cases hlater : ∃ p, pr = some (p, i) ∧ ¬ listed.getD p false = true
      · obtain ⟨p, hpr, hnp⟩ := hlater
        obtain ⟨ci, cj, B, B', k⟩ := hpo p i hpr
        have hcc : c = cj := by have := k.hq; rw [h2] at this; exact Option.some.inj this
        subst hcc
        obtain ⟨s1, s2⟩ := v.later k x fr0 hnp ho hL hr
        simp only [k.wq, if_true]
        refine .inl ?_
        have hact := actS (gl := gl) k.jr
        rw [h3] at hact
        exact hact.2 _ I n a w ⟨htr, v.sz, v.df, s1, fun b hb => Nat.lt_of_lt_of_le (low b hb) v.siz, hG.mono v.le, zf⟩ (fun j j1 j2 => by omega) _ Q fun z I' w' hz hgr => go2 _ _ _ _ _ _ _ _ _ k (s2 z I' w' (by rw [k.vq]; exact hz) hgr)
      have hpr : ∀ p, pr = some (p, i) → listed.getD p false = true := fun p hp => by
        by_cases h : listed.getD p false = true
        · exact h
        · exact absurd ⟨p, hp, h⟩ hlater
      obtain ⟨t1, t2, t3, t4, t5⟩ := v.turn x fr0 low zf ho h2 hL hr hS hpr
      cases hcw : c.w with
      | false =>
        simp only [Bool.false_eq_true, if_false]
        obtain ⟨u1, u2, u3⟩ := hun hcw
        refine go _ _ _ _ (t5 undef I w (by rw [u1]; exact undef_rel I) ?_)
        rw [u2, u3]
        exact t2.grow (X i)
      | true =>
        simp only [if_true]
        refine .inl ?_
        have hact := (hkw hcw).act
        rw [h3] at hact
        exact hact.2 _ I n a w ⟨htr, v.sz, v.df, t2, t3, hG.mono v.le, fun b hb => .inl (zf b hb)⟩ t4 _ Q fun z I' w' hz hgr => go _ _ _ _ (t5 z I' w' hz hgr)
    | false =>
      cases hcw : c.w with
      | false =>
        simp only [Bool.false_eq_true, if_false]
        obtain ⟨u1, u2, u3⟩ := hun hcw
        exact go _ _ _ _ (v.stay x ho h2 hL hr hS (fun hh => by rw [hcw] at hh; cases hh.1) (by rw [u1]; exact undef_rel I))
      | true =>
        simp only [if_true]
        refine .inl ?_
        have hk := hkw hcw
        cases hck : c.k with
        | q =>
          rw [hck] at hk
          obtain ⟨k1, k2, k3⟩ := hk
          rw [h3] at k3
          obtain ⟨z, q1, q2⟩ := qop_ok k3 htr
          unfold Oper.wp
          rw [q1 w]
          exact go _ _ _ _ (v.stay x ho h2 hL hr hS (fun hh => by rw [hck] at hh; cases hh.2) q2)
        | r =>
          rw [hck] at hk
          obtain ⟨k1, k2, k3, _⟩ := hk
          have hrun : ∃ z, (execOp a.eval o).run P w = .ok (.value z) w ∧ VR I c.v z := by
            obtain ⟨le1, le2⟩ := lastEp_ok ops.toList i
            by_cases hep : e = lastEp ops.toList i
            · rw [h3] at k3
              exact rop_ok k3 htr (v.sim x fr0 (m := i) (by rw [hep]; exact le1) (by omega) (fun s a1 a2 => le2 s (by rw [← hep]; exact a1) a2))
            · have hother : other ops.toList A i e = true := by
                unfold other
                simp only [Bool.and_eq_true, Bool.not_eq_true']
                refine ⟨⟨⟨v.ep, ?_⟩, ?_⟩, ?_⟩
                · cases hb : Nat.beq e (lastEp ops.toList i) with
                  | false => rfl
                  | true => exact absurd (Nat.eq_of_beq_eq_true hb) hep
                · cases e with
                  | zero => rfl
                  | succ e' =>
                    simp only
                    cases hb : bitOf A e' i with
                    | false => rfl
                    | true =>
                      have hf : flag isS ops.toList e' = true := v.ep
                      have hLe := v.e1 e' (Nat.lt_succ_self _) hf
                      obtain ⟨oe, _, q1, _⟩ := x.rc (v.lN e' hLe)
                      exact absurd (closed_bit x.hA v.cl q1 (fun e'' he hb => v.cl e' oe q1 hLe e'' he hb) hb) hL
                · apply allUp_of
                  intro s hs
                  simp only [Bool.or_eq_true, Bool.not_eq_true']
                  by_cases hse : s < e
                  · exact .inl (.inl (by rw [blt_eq]; exact decide_eq_true hse))
                  · cases hf : flag isS ops.toList s with
                    | false => exact .inl (.inr rfl)
                    | true =>
                      refine .inr ?_
                      cases hb : bitOf A i s with
                      | false => rfl
                      | true => exact absurd (closed_bit x.hA v.cl ho hr hb) (v.e2 s (by omega) hf)
              have hag := x.again h2 hcw hck v.eN hother
              rw [h3] at hag
              exact rop_ok hag htr (v.sim x fr0 (m := e) (Nat.le_refl _) v.eN (fun s a1 a2 => by omega))
          obtain ⟨z, q1, q2⟩ := hrun
          unfold Oper.wp
          rw [q1]
          exact go _ _ _ _ (v.stay x ho h2 hL hr hS (fun hh => by rw [hck] at hh; cases hh.2) q2)
        | a =>
          rw [hck] at hk
          obtain ⟨ob, k1, k2, k3, k4, k5, k6⟩ := hk
          rw [h3] at k2 k5
          obtain ⟨z, obj, tot, w', q1, q2, q3, q4⟩ := aop_ok k2 htr w
          have hfree : I (X i) = none := by
            cases hI : I (X i) with
            | none => rfl
            | some y => exact absurd (v.doneX x fr0 hlt (Nat.le_refl _) (by omega) hI) hL
          obtain ⟨r1, r2⟩ := q4 (ext I (X i) (w.heap.size, tot)) (ext_le _ hfree) (ext_at _ _ _)
          unfold Oper.wp
          rw [q1]
          exact go _ _ _ _ (v.make x fr0 low ho h2 hL hr hS hcw hck k1 k5 k4 hnx q2 q3 r1 r2 hfree)
        | s =>
          rw [hck] at hk
          have := hk.2.1
          rw [h3, ← flag_at (f := isS) ho, hS] at this; cases this
/-- The same as RegOK, ahead of the draw. -/
noncomputable def AnyOK (gl : T AV) (P : Program) (n : Nat) (reg : RegF) : Prop := ∀ ops t h nx t' h' nx', reg ops t h nx = some (t', h', nx') →
    nx ≤ nx' ∧ ∀ (F : Bool → Nat → Prop) (I : In) (a : Act) (w : World), St gl F I t h n a w → Fresh I nx nx' → ∀ (Q : Exit → Act → World → Prop),
      (∀ a' I' w', St gl F I' t' h' n a' w' → Grow F I nx w I' nx' h' w' → Q .normal a' w') → wpAny P .any ops Q ops.size (Array.replicate ops.size false) a { w with drawn := w.drawn + 1 }
theorem regD_any {P : Program} {call : CallF} {ext : ExtF} (hc : CallOK gl P call) (he : ExtOK P ext) (n : Nat) : AnyOK gl P n (regD P call ext n) := by
  intro ops t h nx t' h' nx' e
  unfold regD at e
  split at e
  · rename_i A hA
    split at e
    · rename_i pr hpr
      split at e
      · rename_i rs t1 h1 nx1 hrun
        split at e
        · rename_i hdy
          cases e
          rw [Bool.and_eq_true] at hdy
          obtain ⟨hdy, hpd⟩ := hdy
          have hst : statOK P ops A pr = true ∧ ∀ p q, pr = some (p, q) → pairStat P ops A p q = true := by
            unfold regPr at hpr
            split at hpr
            · rename_i hs; cases hpr; exact ⟨hs, fun p q h => by cases h⟩
            · split at hpr
              · rename_i p q _
                split at hpr
                · rename_i hs
                  cases hpr
                  rw [Bool.and_eq_true] at hs
                  exact ⟨hs.1, fun p' q' h => by cases h; exact hs.2⟩
                · cases hpr
              · cases hpr
          obtain ⟨hst, hps⟩ := hst
          obtain ⟨Tt, H, X, a1, a2, a3, a4, a5, a6, a7, a8⟩ := runD_ok (gl := gl) hc he ops.toList hrun
          have hsz : ops.toList.length = ops.size := by simp
          rw [hsz] at a4 a5 a6 a7
          have x : Text gl P n ops A pr rs Tt H X := ⟨hA, hst, by rw [a5]; exact hdy, a7, fun i o c h2 h3 => a8 i o c (by simpa using h2) h3⟩
          have hle := x.xle (Nat.zero_le _) (Nat.le_refl ops.size)
          rw [a3, a6] at hle
          refine ⟨hle, fun F I a w st fr Q hQ => ?_⟩
          refine region_any x (F := F) (I0 := I) (w0 := w) (by rw [a3, a6]; exact fr) st.low st.zf st.gok (fun p q hp => x.pair hp (hps p q hp) (by rw [a5]; exact hpd)) (fun a' I' w' s g => hQ a' I' w' (by rw [← a4, ← a5]; exact s) (by rw [← a3, ← a6, ← a5]; exact g)) ops.size (Array.replicate ops.size false) I a _ (by simp) ?_ (.inl ⟨0, ?_⟩)
          · have : cnt ops.size (fun i => (Array.replicate ops.size false).getD i false) = 0 := by
              have h0 : ∀ m, cnt m (fun _ => false) = 0 := by
                intro m; induction m with
                | zero => rfl
                | succ m ih => simp [cnt, ih]
              rw [← h0 ops.size]
              refine cnt_same _ _ _ fun j hj => ?_
              simp [Array.getD_eq_getD_getElem?, hj]
            omega
          · have none' : ∀ i, ¬ (Array.replicate ops.size false).getD i false = true := fun i => by
              rw [Array.getD_eq_getD_getElem?]
              by_cases hi : i < ops.size
              · simp [hi]
              · simp [hi]
            have init : ∀ id o, RR rs H 0 (fun i => (Array.replicate ops.size false).getD i false = true) id o → h.get id = some o := fun id o hR => by
              rcases hR with ⟨j, c, _, _, hL, _⟩ | hR
              · exact absurd hL (none' j)
              · rw [a2] at hR; exact hR
            exact {
              eN := Nat.zero_le _, ep := rfl, e1 := fun s h => by omega, e2 := fun s _ _ hL => none' s hL, e3 := fun j h => by omega
              cl := fun i o _ hL => absurd hL (none' i), lN := fun i hL => absurd hL (none' i)
              sz := st.size, df := st.defers, s1 := fun i c τ _ hL => absurd hL (none' i)
              s2 := fun τ b _ hb => st.tr τ b (by rw [← a1]; exact hb)
              obj := fun id o b t hR hI => st.sim.obj id o b t (init id o hR) hI
              inj := fun id id' o o' b t t' hR hR' => st.sim.inj id id' o o' b t t' (init id o hR) (init id' o' hR')
              fr := fun id o b t hR => st.sim.fr id o b t (init id o hR)
              ex := fun j c _ hL => absurd hL (none' j), exf := fun j c b t _ _ hL => absurd hL (none' j)
              dom := fun id y h => .inl h, le := In.le_refl I, frm := fun _ _ => rfl, siz := Nat.le_refl _, sam := ⟨rfl, rfl, rfl⟩ }
        · cases e
      · cases e
    · cases e
  · cases e
theorem regD_ok {P : Program} (hm : P.follows .mixedOrders = true) {call : CallF} {ext : ExtF} (hc : CallOK gl P call) (he : ExtOK P ext) (n : Nat) : RegOK gl P n (regD P call ext n) := by
  intro ops t h nx t' h' nx' e
  obtain ⟨k1, k2⟩ := regD_any hc he n ops t h nx t' h' nx' e
  exact ⟨k1, fun F I a w st fr Q hQ id => wp_region_any hm (k2 F I a w st fr Q hQ)⟩
/-- A run from nothing: what it yields in every world, and that it turns nothing that was there. -/
theorem closed {P : Program} {ext : ExtF} {N d : Nat} (hm : P.follows .mixedOrders = true) (he : ExtOK P ext) (hn : ∀ (f : Nat) (fn : Func), P.funcs[f]? = some fn → (fn.name == "runtime.NumGoroutine") = false) {f : Nat} {b : Bool} {h : T AO} {nx : Nat}
    (e : callN P ext (fun call n => regD P call ext n) N .e d f [] .e 0 = some (.bool b, h, nx)) (w : World) :
    Calls P f #[] w fun e w' => e = .returned (.bool b) ∧ Below w.heap.size w w' := by
  obtain ⟨_, _, k⟩ := CallOK.enter (callN_ok (gl := .e) he (fun call n hc => regD_ok hm hc he n) hn d) (callN_has _ _ _ _ _ _ e) e
  refine (k (fun s b => match s with | true => b < w.heap.size | false => False) (fun _ => none) w [] .nil ⟨fun id o b t h => (by rw [T.get_e] at h; cases h), fun id id' o o' b t t' h => (by rw [T.get_e] at h; cases h), fun id o b t h => (by rw [T.get_e] at h; cases h)⟩ (fun b h => h) (fun n a h => (by rw [T.get_e] at h; cases h)) (fun b h => h.elim) (fun i _ _ => rfl)).mono fun e' w' hh => ?_
  obtain ⟨z, I', rfl, h1, h2⟩ := hh
  cases h1
  exact ⟨rfl, h2.same.os, h2.same.tape, h2.same.output, h2.size, fun k hk => h2.fr k hk⟩
/-!
Proved runs as calls, and runs in pieces.
-/
/-- A run of no arguments that is proved: what it yields. -/
noncomputable def tabOf : List (Nat × Bool) → Nat → Option Bool
  | [], _ => none
  | (g, b) :: l, f => if f = g then some b else tabOf l f
theorem tabOf_mem : ∀ {l f b}, tabOf l f = some b → (f, b) ∈ l
  | (g, b') :: l, f, b, e => by
    simp only [tabOf] at e
    split at e
    · rename_i h; subst h; cases e; exact .head _
    · exact .tail _ (tabOf_mem e)
noncomputable def callC (P : Program) (tab : List (Nat × Bool)) (call : CallF) : CallF := fun f args h nx =>
  match args with
  | [] => match tabOf tab f with
    | some b => match P.funcs[f]? with
      | some fn => match fn.body with
        | some _ => some (.bool b, h, nx)
        | none => none
      | none => none
    | none => call f [] h nx
  | a :: l => call f (a :: l) h nx
noncomputable def TabOK (P : Program) (tab : List (Nat × Bool)) : Prop := ∀ f b, (f, b) ∈ tab → ∀ w, Calls P f #[] w fun e w' => e = .returned (.bool b) ∧ Below w.heap.size w w'
theorem callC_ok {P : Program} {tab : List (Nat × Bool)} {call : CallF} (ht : TabOK P tab) (hn : ∀ (f : Nat) (fn : Func), P.funcs[f]? = some fn → (fn.name == "runtime.NumGoroutine") = false) (hc : CallOK gl P call) : CallOK gl P (callC P tab call) := by
  intro f args h nx r h' nx' e
  unfold callC at e
  split at e
  · split at e
    · rename_i b hb
      split at e
      · rename_i fn hfn
        split at e
        · rename_i c hbody
          cases e
          refine .inl ⟨Nat.le_refl _, fun args w => ?_, fun F I w vs hv hs hF hG hZ fr => ?_⟩
          · have hnn : ¬ fn.name = "runtime.NumGoroutine" := by have := hn f fn hfn; simpa using this
            simp [callFunc, program, Sem.run, bind, Sem.bind, pure, hfn, hnn, hbody]
          · cases hv
            refine (ht f b (tabOf_mem hb) w).mono fun e w' hh => ?_
            obtain ⟨rfl, bl⟩ := hh
            refine ⟨_, I, rfl, .bool _, In.le_refl I, fun _ _ h => .inl h, ⟨fun id o b t h1 h2 => ?_, hs.inj, hs.fr⟩, fun b hb => bl.block b (hF b hb), bl.size, ⟨bl.os, bl.tape, bl.output⟩⟩
            obtain ⟨ob, k1, k2⟩ := hs.obj id o b t h1 h2
            refine ⟨ob, ?_, k2⟩
            rw [bl.block b ?_, k1]
            exact Array.getElem?_eq_some_iff.1 k1 |>.1
        · cases e
      · cases e
    · exact hc _ _ _ _ _ _ _ e
  · exact hc _ _ _ _ _ _ _ e

theorem exec_mono {P : Program} {call : CallF} {ext : ExtF} {reg : RegF} {n : Nat} : ∀ (f : Nat) (c : Code) (t : T AV) (h : T AO) (nx : Nat) (r : AX × T AV × T AO × Nat), exec P call ext reg n f c t h nx = some r → ∀ g, f ≤ g → exec P call ext reg n g c t h nx = some r := by
  intro f
  induction f with
  | zero => intro c t h nx r e; cases e
  | succ f ih =>
    intro c t h nx r e g hg
    cases g with
    | zero => omega
    | succ g =>
      have hg' : f ≤ g := by omega
      cases c with
      | seq x y =>
        simp only [exec] at e ⊢
        split at e
        · rename_i t1 h1 nx1 e1
          rw [ih _ _ _ _ _ e1 g hg']
          exact ih _ _ _ _ _ e g hg'
        · rename_i hne
          rw [ih _ _ _ _ _ e g hg']
          obtain ⟨x, t1, h1, nx1⟩ := r
          cases x with
          | nrm => exact (hne _ _ _ e).elim
          | _ => rfl
      | cond x a b =>
        simp only [exec] at e ⊢
        split at e
        · exact ih _ _ _ _ _ e g hg'
        · exact ih _ _ _ _ _ e g hg'
        · cases e
      | block id c =>
        simp only [exec] at e ⊢
        split at e
        · rename_i j r1 e1
          rw [ih _ _ _ _ _ e1 g hg']
          exact e
        · rename_i hne
          rw [ih _ _ _ _ _ e g hg']
          obtain ⟨x, r1⟩ := r
          cases x with
          | ex j => exact (hne _ _ e).elim
          | _ => rfl
      | loop c =>
        simp only [exec] at e ⊢
        split at e
        · rename_i t1 h1 nx1 e1
          rw [ih _ _ _ _ _ e1 g hg']
          exact ih _ _ _ _ _ e g hg'
        · rename_i hne
          rw [ih _ _ _ _ _ e g hg']
          obtain ⟨x, t1, h1, nx1⟩ := r
          cases x with
          | nrm => exact (hne _ _ _ e).elim
          | _ => rfl
      | _ => exact e

/-- What a piece leaves: its end, or the code that is still to run. -/
inductive PX where
  | done (x : AX)
  | rest (c : Code)
noncomputable def part (P : Program) (call : CallF) (ext : ExtF) (reg : RegF) (n N : Nat) : Nat → Nat → Code → T AV → T AO → Nat → Option (Nat × PX × T AV × T AO × Nat)
  | 0, _, _, _, _, _ => none
  | f + 1, b, c, t, h, nx => match c with
    | .seq x y => match part P call ext reg n N f b x t h nx with
      | some (b', .done .nrm, t', h', nx') => part P call ext reg n N f b' y t' h' nx'
      | some (b', .rest x', r) => some (b', .rest (.seq x' y), r)
      | r => r
    | .cond x a c => match ev t x with
      | some (.bool true) => part P call ext reg n N f b a t h nx
      | some (.bool false) => part P call ext reg n N f b c t h nx
      | _ => none
    | .block id c => match part P call ext reg n N f b c t h nx with
      | some (b', .done (.ex j), r) => if j = id then some (b', .done .nrm, r) else some (b', .done (.ex j), r)
      | some (b', .rest c', r) => some (b', .rest (.block id c'), r)
      | r => r
    | .loop c => match b with
      | 0 => some (0, .rest (.loop c), t, h, nx)
      | b + 1 => match exec P call ext reg n N c t h nx with
        | some (.nrm, t', h', nx') => part P call ext reg n N f b (.loop c) t' h' nx'
        | some (x, r) => some (b, .done x, r)
        | none => none
    | c => match exec P call ext reg n N c t h nx with
      | some (x, r) => some (b, .done x, r)
      | none => none
/-- That a piece of code runs to an end with some fuel. -/
noncomputable def Ex (P : Program) (call : CallF) (ext : ExtF) (reg : RegF) (n : Nat) (c : Code) (t : T AV) (h : T AO) (nx : Nat) (r : AX × T AV × T AO × Nat) : Prop := ∃ f, exec P call ext reg n f c t h nx = some r
/-- How a block takes an end. -/
noncomputable def blk (id : Nat) : AX → AX
  | .ex j => if j = id then .nrm else .ex j
  | z => z
section
variable {P : Program} {call : CallF} {ext : ExtF} {reg : RegF} {n : Nat} {t : T AV} {h : T AO} {nx : Nat} {r : AX × T AV × T AO × Nat}
theorem Ex.seq {x y t' h' nx'} (a : Ex P call ext reg n x t h nx (.nrm, t', h', nx')) (b : Ex P call ext reg n y t' h' nx' r) : Ex P call ext reg n (.seq x y) t h nx r := by
  obtain ⟨f, a⟩ := a
  obtain ⟨g, b⟩ := b
  refine ⟨f + g + 1, ?_⟩
  simp only [exec]
  rw [exec_mono _ _ _ _ _ _ a (f + g) (by omega)]
  exact exec_mono _ _ _ _ _ _ b _ (by omega)
theorem Ex.seq_out {x y z r'} (a : Ex P call ext reg n x t h nx (z, r')) (hz : z ≠ .nrm) : Ex P call ext reg n (.seq x y) t h nx (z, r') := by
  obtain ⟨f, a⟩ := a
  refine ⟨f + 1, ?_⟩
  simp only [exec]
  rw [a]
  obtain ⟨_, _, _⟩ := r'
  cases z <;> first | exact (hz rfl).elim | rfl
theorem Ex.block {id c z r'} (a : Ex P call ext reg n c t h nx (z, r')) : Ex P call ext reg n (.block id c) t h nx (blk id z, r') := by
  obtain ⟨f, a⟩ := a
  refine ⟨f + 1, ?_⟩
  simp only [exec]
  rw [a]
  cases z with
  | ex j =>
    by_cases hj : j = id
    · subst hj; simp [blk]
    · simp [hj, blk]
  | _ => rfl
theorem Ex.loop {c t' h' nx'} (a : Ex P call ext reg n c t h nx (.nrm, t', h', nx')) (b : Ex P call ext reg n (.loop c) t' h' nx' r) : Ex P call ext reg n (.loop c) t h nx r := by
  obtain ⟨f, a⟩ := a
  obtain ⟨g, b⟩ := b
  refine ⟨f + g + 1, ?_⟩
  simp only [exec]
  rw [exec_mono _ _ _ _ _ _ a (f + g) (by omega)]
  exact exec_mono _ _ _ _ _ _ b _ (by omega)
theorem Ex.loop_out {c z r'} (a : Ex P call ext reg n c t h nx (z, r')) (hz : z ≠ .nrm) : Ex P call ext reg n (.loop c) t h nx (z, r') := by
  obtain ⟨f, a⟩ := a
  refine ⟨f + 1, ?_⟩
  simp only [exec]
  rw [a]
  obtain ⟨_, _, _⟩ := r'
  cases z <;> first | exact (hz rfl).elim | rfl
theorem Ex.cond_true {x a c} (e : ev t x = some (.bool true)) (k : Ex P call ext reg n a t h nx r) : Ex P call ext reg n (.cond x a c) t h nx r := by
  obtain ⟨f, k⟩ := k
  exact ⟨f + 1, by simp only [exec, e]; exact k⟩
theorem Ex.cond_false {x a c} (e : ev t x = some (.bool false)) (k : Ex P call ext reg n c t h nx r) : Ex P call ext reg n (.cond x a c) t h nx r := by
  obtain ⟨f, k⟩ := k
  exact ⟨f + 1, by simp only [exec, e]; exact k⟩
end
/-- What a piece's print says of the code that it began. -/
noncomputable def PartOK (P : Program) (call : CallF) (ext : ExtF) (reg : RegF) (n : Nat) (c : Code) (t : T AV) (h : T AO) (nx : Nat) : PX → T AV → T AO → Nat → Prop
  | .done x, t', h', nx' => Ex P call ext reg n c t h nx (x, t', h', nx')
  | .rest c', t', h', nx' => ∀ r, Ex P call ext reg n c' t' h' nx' r → Ex P call ext reg n c t h nx r
theorem part_ok {P : Program} {call : CallF} {ext : ExtF} {reg : RegF} {n N : Nat} : ∀ (f b : Nat) (c : Code) (t : T AV) (h : T AO) (nx b' : Nat) (p : PX) (t' : T AV) (h' : T AO) (nx' : Nat), part P call ext reg n N f b c t h nx = some (b', p, t', h', nx') → PartOK P call ext reg n c t h nx p t' h' nx' := by
  intro f
  induction f with
  | zero => intro b c t h nx b' p t' h' nx' e; cases e
  | succ f ih =>
    intro b c t h nx b' p t' h' nx' e
    have base : ∀ {c : Code}, (match exec P call ext reg n N c t h nx with | some (x, r) => some (b, PX.done x, r) | none => none) = some (b', p, t', h', nx') → PartOK P call ext reg n c t h nx p t' h' nx' := fun e => by
      split at e
      · rename_i x r hx; cases e; exact ⟨_, hx⟩
      · cases e
    cases c with
    | seq x y =>
      simp only [part] at e
      split at e
      · rename_i b1 t1 h1 nx1 e1
        have k1 := ih _ _ _ _ _ _ _ _ _ _ e1
        have k2 := ih _ _ _ _ _ _ _ _ _ _ e
        cases p with
        | done z => exact Ex.seq k1 k2
        | rest c' => exact fun r hr => Ex.seq k1 (k2 r hr)
      · rename_i b1 x' r1 e1
        cases e
        have k1 := ih _ _ _ _ _ _ _ _ _ _ e1
        intro r hr
        obtain ⟨f, hr⟩ := hr
        cases f with
        | zero => cases hr
        | succ f =>
          simp only [exec] at hr
          split at hr
          · rename_i t2 h2 nx2 e2
            exact Ex.seq (k1 _ ⟨_, e2⟩) ⟨_, hr⟩
          · rename_i hne
            obtain ⟨z, r2⟩ := r
            refine Ex.seq_out (k1 _ ⟨_, hr⟩) fun hz => ?_
            subst hz
            obtain ⟨_, _, _⟩ := r2
            exact hne _ _ _ hr
      · rename_i hn1 hn2
        have k1 := ih _ _ _ _ _ _ _ _ _ _ e
        cases p with
        | done z => exact Ex.seq_out k1 fun hz => by subst hz; exact hn1 _ _ _ _ e
        | rest c' => exact (hn2 _ _ _ e).elim
    | cond x a c =>
      simp only [part] at e
      split at e
      · rename_i hx
        have k1 := ih _ _ _ _ _ _ _ _ _ _ e
        cases p with
        | done z => exact Ex.cond_true hx k1
        | rest c' => exact fun r hr => Ex.cond_true hx (k1 r hr)
      · rename_i hx
        have k1 := ih _ _ _ _ _ _ _ _ _ _ e
        cases p with
        | done z => exact Ex.cond_false hx k1
        | rest c' => exact fun r hr => Ex.cond_false hx (k1 r hr)
      · cases e
    | block id c =>
      simp only [part] at e
      split at e
      · rename_i b1 j r1 e1
        have k1 := ih _ _ _ _ _ _ _ _ _ _ e1
        have k2 := Ex.block (id := id) k1
        split at e
        · rename_i hj; subst hj; cases e; (simp [blk] at k2; exact k2)
        · rename_i hj; cases e; (simp [blk, hj] at k2; exact k2)
      · rename_i b1 c' r1 e1
        cases e
        have k1 := ih _ _ _ _ _ _ _ _ _ _ e1
        intro r hr
        obtain ⟨f, hr⟩ := hr
        cases f with
        | zero => cases hr
        | succ f =>
          simp only [exec] at hr
          split at hr
          · rename_i j r2 e2
            have k2 := Ex.block (id := id) (k1 _ ⟨_, e2⟩)
            split at hr
            · rename_i hj; subst hj; cases hr; (simp [blk] at k2; exact k2)
            · rename_i hj; cases hr; (simp [blk, hj] at k2; exact k2)
          · rename_i hne
            obtain ⟨z, r2⟩ := r
            have k2 := Ex.block (id := id) (k1 _ ⟨_, hr⟩)
            cases z with
            | ex j => exact (hne _ _ hr).elim
            | _ => (simp [blk] at k2; exact k2)
      · rename_i hn1 hn2
        have k1 := ih _ _ _ _ _ _ _ _ _ _ e
        cases p with
        | done z =>
          have k2 := Ex.block (id := id) k1
          cases z with
          | ex j => exact (hn1 _ _ _ e).elim
          | _ => (simp [blk] at k2; exact k2)
        | rest c' => exact (hn2 _ _ _ e).elim
    | loop c =>
      simp only [part] at e
      split at e
      · cases e
        exact fun r hr => hr
      · rename_i b1
        split at e
        · rename_i t1 h1 nx1 e1
          have k2 := ih _ _ _ _ _ _ _ _ _ _ e
          cases p with
          | done z => exact Ex.loop ⟨_, e1⟩ k2
          | rest c' => exact fun r hr => Ex.loop ⟨_, e1⟩ (k2 r hr)
        · rename_i x r1 hne e1
          cases e
          exact Ex.loop_out ⟨_, e1⟩ fun hz => by subst hz; exact hne _ _ _ rfl rfl
        · cases e
    | _ => simp only [part] at e; exact base e

/-- A run of no arguments in pieces: the code and the frame that are still ahead. -/
noncomputable def startF (P : Program) (call : CallF) (ext : ExtF) (N b f : Nat) : Option (Code × T AV × T AO × Nat) :=
  match P.funcs[f]? with
  | some fn => match fn.body with
    | some c => match part P call ext (regD P call ext fn.ntmps) fn.ntmps N N b c .e .e 0 with
      | some (_, .rest c', t, h, nx) => some (c', t, h, nx)
      | _ => none
    | none => none
  | none => none
noncomputable def goF (P : Program) (call : CallF) (ext : ExtF) (N b f : Nat) (c : Code) (t : T AV) (h : T AO) (nx : Nat) : Option (Code × T AV × T AO × Nat) :=
  match P.funcs[f]? with
  | some fn => match part P call ext (regD P call ext fn.ntmps) fn.ntmps N N b c t h nx with
    | some (_, .rest c', t, h, nx) => some (c', t, h, nx)
    | _ => none
  | none => none
noncomputable def endF (P : Program) (call : CallF) (ext : ExtF) (N f : Nat) (c : Code) (t : T AV) (h : T AO) (nx : Nat) : Option (AV × T AO × Nat) :=
  match P.funcs[f]? with
  | some fn => match exec P call ext (regD P call ext fn.ntmps) fn.ntmps N c t h nx with
    | some (.ex _, _) => none
    | some (_, t', h', nx') => match aresults P t' h' fn.results.toList with
      | some r => some (oneOr r, h', nx')
      | none => none
    | none => none
  | none => none
noncomputable def Reach (P : Program) (call : CallF) (ext : ExtF) (f : Nat) (c : Code) (t : T AV) (h : T AO) (nx : Nat) : Prop :=
  ∃ fn c0, P.funcs[f]? = some fn ∧ fn.body = some c0 ∧ ∀ r, Ex P call ext (regD P call ext fn.ntmps) fn.ntmps c t h nx r → Ex P call ext (regD P call ext fn.ntmps) fn.ntmps c0 .e .e 0 r
theorem start_ok {P : Program} {call : CallF} {ext : ExtF} {N b f : Nat} {c t h nx} (e : startF P call ext N b f = some (c, t, h, nx)) : Reach P call ext f c t h nx := by
  unfold startF at e
  split at e
  · rename_i fn hfn
    split at e
    · rename_i c0 hc
      split at e
      · rename_i e1
        cases e
        exact ⟨fn, c0, hfn, hc, part_ok _ _ _ _ _ _ _ _ _ _ _ e1⟩
      · cases e
    · cases e
  · cases e
theorem go_ok {P : Program} {call : CallF} {ext : ExtF} {N b f : Nat} {c t h nx c' t' h' nx'} (k : Reach P call ext f c t h nx) (e : goF P call ext N b f c t h nx = some (c', t', h', nx')) : Reach P call ext f c' t' h' nx' := by
  obtain ⟨fn, c0, hfn, hc, k⟩ := k
  unfold goF at e
  rw [hfn] at e
  simp only at e
  split at e
  · rename_i e1
    cases e
    exact ⟨fn, c0, hfn, hc, fun r hr => k r (part_ok _ _ _ _ _ _ _ _ _ _ _ e1 r hr)⟩
  · cases e
theorem end_ok {P : Program} {call : CallF} {ext : ExtF} {N f : Nat} {c t h nx b h' nx'} (hm : P.follows .mixedOrders = true) (hc : CallOK .e P call) (he : ExtOK P ext) (k : Reach P call ext f c t h nx) (e : endF P call ext N f c t h nx = some (.bool b, h', nx')) (w : World) :
    Calls P f #[] w fun e w' => e = .returned (.bool b) ∧ Below w.heap.size w w' := by
  obtain ⟨fn, c0, hfn, hb, k⟩ := k
  unfold endF at e
  rw [hfn] at e
  simp only at e
  split at e
  · cases e
  · rename_i x t1 h1 nx1 hx he1
    split at e
    · rename_i rs hrs
      simp only [Option.some.injEq, Prod.mk.injEq] at e
      obtain ⟨e1, rfl, rfl⟩ := e
      obtain ⟨M, hM⟩ := k _ ⟨_, he1⟩
      obtain ⟨k1, k2⟩ := exec_ok hc he (regD_ok hm hc he fn.ntmps) _ _ _ _ _ _ _ _ _ hM
      refine calls_of_wp hfn hb (k2 (fun s b => match s with | true => b < w.heap.size | false => False) (fun _ => none) _ w ?_ (fun i _ _ => rfl) _ fun e a' I' w' hxe st' g' => ?_)
      · refine ⟨fun k b hk => (by rw [T.get_e] at hk; cases hk), by simp, rfl, ⟨fun id o b t h => (by rw [T.get_e] at h; cases h), fun id id' o o' b t t' h => (by rw [T.get_e] at h; cases h), fun id o b t h => (by rw [T.get_e] at h; cases h)⟩, fun b h => h, fun n a h => (by rw [T.get_e] at h; cases h), fun b h => h.elim⟩
      · obtain ⟨v, r1, r2⟩ := results_run (P := P) st' hrs
        have fin : v = .bool b ∧ Below w.heap.size w w' := by
          rw [e1] at r2
          cases r2
          exact ⟨rfl, g'.same.os, g'.same.tape, g'.same.output, g'.size, fun k hk => g'.fr k hk⟩
        cases e with
        | normal => exact ⟨st'.defers, v, r1, congrArg _ fin.1, fin.2⟩
        | ret => exact ⟨st'.defers, v, r1, congrArg _ fin.1, fin.2⟩
        | exit i => cases x <;> simp only [AX.is] at hxe; exact (hx _ rfl).elim
        | _ => cases x <;> simp only [AX.is] at hxe
    · cases e
  · cases e
/-- A yes. -/
noncomputable def yes : Option (AV × T AO × Nat) → Bool
  | some (.bool true, _, _) => true
  | _ => false
theorem yes_ok : ∀ {r : Option (AV × T AO × Nat)}, yes r = true → ∃ h nx, r = some (.bool true, h, nx)
  | some (.bool true, h, nx), _ => ⟨h, nx, rfl⟩
/-- The code behind the first loop's head: what a piece leaves. -/
noncomputable def hasLoop : Code → Bool
  | .seq x y => hasLoop x || hasLoop y
  | .block _ c => hasLoop c
  | .loop _ => true
  | _ => false
noncomputable def strip : Code → Code
  | .seq x y => match hasLoop x with
    | true => .seq (strip x) y
    | false => strip y
  | .block id c => .block id (strip c)
  | c => c
noncomputable def bodyOf (P : Program) (f : Nat) : Code := match P.funcs[f]? with
  | some fn => match fn.body with
    | some c => c
    | none => .skip
  | none => .skip
noncomputable def noNum (P : Program) : Bool := P.funcs.toList.all fun fn => !(fn.name == "runtime.NumGoroutine")
theorem noNum_ok {P : Program} (e : noNum P = true) (f : Nat) (fn : Func) (h : P.funcs[f]? = some fn) : (fn.name == "runtime.NumGoroutine") = false := by
  have := List.all_eq_true.1 e fn (by
    rw [← Array.getElem?_toList] at h
    exact List.mem_of_getElem? h)
  simpa using this
noncomputable def noExt : ExtF := fun _ _ => none
theorem noExt_ok {P : Program} : ExtOK P noExt := fun f l r e => by cases e
end Go.Proofs.Ytabfjgbidbibgaa.Eng
