/-
  Loops over a map, in whatever order. No condition but what its theorems ask.
-/
import Derived.Test.YtbdmacfknhoddaaEng9b
import Derived.Maps.RangeRun
namespace Go.Proofs.Ytbdmacfknhoddaa.Eng
open Go.RowKit
set_option linter.unusedVariables false
set_option linter.unusedSimpArgs false
variable {gl : T AV}
/-!
Loops over a map, in whatever order.
-/
open Go.ChangeMaps (setBlock)
noncomputable def noReg : RegF := fun _ _ _ _ => none
theorem noReg_ok {P : Program} {n : Nat} : RegOK gl P n noReg := fun _ _ _ _ _ _ _ e => by cases e
noncomputable def subV : T AV → T AV → Bool
  | .e, _ => true
  | .n l v r, .n l' v' r' => (match v, v' with | none, _ => true | some a, some b => smAV a b | some _, none => false) && subV l l' && subV r r'
  | .n _ _ _, .e => false
theorem subV_ok : ∀ {a b : T AV}, subV a b = true → ∀ id o, a.get id = some o → b.get id = some o
  | .e, _, _, id, o, h => by rw [T.get_e] at h; cases h
  | .n l v r, .n l' v' r', e, id, o, h => by
    simp only [subV, Bool.and_eq_true] at e
    rw [T.get_eq] at h ⊢
    cases id with
    | zero =>
      simp only [T.getS] at h ⊢
      subst h
      cases hv : v' with
      | none => rw [hv] at e; cases e.1.1
      | some b => rw [hv] at e; rw [smAV_ok e.1.1]
    | succ k =>
      simp only [T.getS] at h ⊢
      split at h
      · rename_i hb; rw [← T.get_eq] at h ⊢; exact subV_ok e.1.2 _ _ h
      · rename_i hb; rw [← T.get_eq] at h ⊢; exact subV_ok e.2 _ _ h
  | .n l v r, .e, e, id, o, h => by simp [subV] at e
/-- Keys that are whole numbers, or rows of them. -/
noncomputable def smK1 : Value → Value → Bool
  | .int k n, .int k' n' => smKind k k' && smInt n n'
  | _, _ => false
theorem smK1_ok {a b : Value} (h : smK1 a b = true) : a = b := by
  unfold smK1 at h
  split at h
  · simp only [Bool.and_eq_true, smKind, decide_eq_true_eq] at h
    rw [h.1, smInt_ok h.2]
  · cases h
noncomputable def smKL : List Value → List Value → Bool
  | [], [] => true
  | a :: l, b :: m => smK1 a b && smKL l m
  | _, _ => false
theorem smKL_ok : ∀ {l m : List Value}, smKL l m = true → l = m
  | [], [], _ => rfl
  | a :: l, b :: m, h => by
    simp only [smKL, Bool.and_eq_true] at h
    rw [smK1_ok h.1, smKL_ok h.2]
  | [], _ :: _, h => by simp [smKL] at h
  | _ :: _, [], h => by simp [smKL] at h
noncomputable def smKey : Value → Value → Bool
  | .agg ⟨l⟩, .agg ⟨m⟩ => smKL l m
  | a, b => smK1 a b
theorem smKey_ok {a b : Value} (h : smKey a b = true) : a = b := by
  unfold smKey at h
  split at h
  · rw [smKL_ok h]
  · exact smK1_ok h
noncomputable def smEs : List (Value × AV × Nat) → List (Value × AV × Nat) → Bool
  | [], [] => true
  | (k, a, n) :: l, (k', a', n') :: m => smKey k k' && (smAV a a' && (Nat.beq n n' && smEs l m))
  | _, _ => false
theorem smEs_ok : ∀ {l m : List (Value × AV × Nat)}, smEs l m = true → l = m
  | [], [], _ => rfl
  | (k, a, n) :: l, (k', a', n') :: m, h => by
    simp only [smEs, Bool.and_eq_true] at h
    rw [smKey_ok h.1, smAV_ok h.2.1, Nat.eq_of_beq_eq_true h.2.2.1, smEs_ok h.2.2.2]
  | [], _ :: _, h => by simp [smEs] at h
  | _ :: _, [], h => by simp [smEs] at h
noncomputable def smAO2 : AO → AO → Bool
  | .map es c, .map es' c' => smEs es es' && Nat.beq c c'
  | a, b => smAO a b
theorem smAO2_ok {a b : AO} (h : smAO2 a b = true) : a = b := by
  unfold smAO2 at h
  split at h
  · simp only [Bool.and_eq_true] at h
    rw [smEs_ok h.1, Nat.eq_of_beq_eq_true h.2]
  · exact smAO_ok h
noncomputable def subO : T AO → T AO → Bool
  | .e, _ => true
  | .n l v r, .n l' v' r' => (match v, v' with | none, _ => true | some a, some b => smAO2 a b | some _, none => false) && subO l l' && subO r r'
  | .n _ _ _, .e => false
theorem subO_ok : ∀ {a b : T AO}, subO a b = true → ∀ id o, a.get id = some o → b.get id = some o
  | .e, _, _, id, o, h => by rw [T.get_e] at h; cases h
  | .n l v r, .n l' v' r', e, id, o, h => by
    simp only [subO, Bool.and_eq_true] at e
    rw [T.get_eq] at h ⊢
    cases id with
    | zero =>
      simp only [T.getS] at h ⊢
      subst h
      cases hv : v' with
      | none => rw [hv] at e; cases e.1.1
      | some b => rw [hv] at e; rw [smAO2_ok e.1.1]
    | succ k =>
      simp only [T.getS] at h ⊢
      split at h
      · rename_i hb; rw [← T.get_eq] at h ⊢; exact subO_ok e.1.2 _ _ h
      · rename_i hb; rw [← T.get_eq] at h ⊢; exact subO_ok e.2 _ _ h
  | .n l v r, .e, e, id, o, h => by simp [subO] at e
/-- The entries: none is laid since, and their marks are unlike. -/
noncomputable def noDup : List Nat → Bool
  | [] => true
  | b :: l => !memN b l && noDup l
theorem memN_iff (j : Nat) : ∀ l : List Nat, memN j l = true ↔ j ∈ l
  | [] => by simp [memN]
  | i :: l => by
    simp only [memN, Bool.or_eq_true, List.mem_cons, memN_iff j l]
    constructor
    · rintro (h | h)
      · exact .inl (Nat.eq_of_beq_eq_true h).symm
      · exact .inr h
    · rintro (h | h)
      · subst h; exact .inl (Nat.beq_refl _)
      · exact .inr h
theorem noDup_ok : ∀ {l : List Nat}, noDup l = true → l.Nodup
  | [], _ => List.nodup_nil
  | b :: l, h => by
    simp only [noDup, Bool.and_eq_true, Bool.not_eq_true'] at h
    rw [List.nodup_cons]
    exact ⟨fun hm => (by rw [(memN_iff b l).2 hm] at h; exact Bool.noConfusion h.1), noDup_ok h.2⟩
noncomputable def marks (es : List (Value × AV × Nat)) : List Nat := es.map fun e => e.2.2
noncomputable def oldAll (since : Nat) : List (Value × AV × Nat) → Bool
  | [] => true
  | e :: l => Nat.blt e.2.2 since && oldAll since l
theorem MR.marks {I : In} {es ms} (h : MR I es ms) : Eng.marks es = ms.map (·.born) := by
  induction h with
  | nil => rfl
  | cons h t ih => simp only [Eng.marks, List.map_cons] at ih ⊢; rw [ih]
theorem MR.old {I : In} {es ms} {since : Nat} (h : MR I es ms) (e : oldAll since es = true) : ∀ x ∈ ms, x.born < since := by
  induction h with
  | nil => intro x hx; cases hx
  | cons h t ih =>
    simp only [oldAll, Bool.and_eq_true] at e
    intro x hx
    cases hx with
    | head => exact blt_ok e.1
    | tail _ hx => exact ih e.2 x hx
theorem MR.filter {I : In} {es ms} (h : MR I es ms) (p : Nat → Bool) : MR I (es.filter fun e => p e.2.2) (ms.filter fun e => p e.born) := by
  induction h with
  | nil => exact .nil
  | @cons k a n l v ms h t ih =>
    simp only [List.filter_cons]
    cases hp : p n with
    | true => simp only [hp, if_true]; exact .cons h ih
    | false => simp only [hp, Bool.false_eq_true, if_false]; exact ih
theorem MR.mem {I : In} {es ms} (h : MR I es ms) {x : MapEntry} (hx : x ∈ ms) : ∃ a, (x.key, a, x.born) ∈ es ∧ VR I a x.val := by
  induction h with
  | nil => cases hx
  | @cons k a n l v ms h t ih =>
    cases hx with
    | head => exact ⟨a, .head _, h⟩
    | tail _ hx => obtain ⟨b, h1, h2⟩ := ih hx; exact ⟨b, .tail _ h1, h2⟩
/-- What a loop over a map has. -/
structure RP where
  o18 : Array Oper
  q0 : Oper
  q1 : Oper
  d55 : Nat
  it : Nat
  c : Nat
  o19 : Array Oper
  e0 : Oper
  d57 : Nat
  rest : Code
noncomputable def entryAV (e : Value × AV × Nat) : Option AV := match ofVal e.1 with
  | some k => some (.tup [k, e.2.1])
  | none => none
noncomputable def stepAV (e : Value × AV × Nat) : Option AV := match ofVal e.1 with
  | some k => some (.tup [.bool true, k, e.2.1])
  | none => none
noncomputable def findM (b : Nat) : List (Value × AV × Nat) → Option (Value × AV × Nat)
  | [] => none
  | e :: l => match Nat.beq e.2.2 b with
    | true => some e
    | false => findM b l
/-- One round: the map's object at id m, its clock clk. -/
noncomputable def oneR (P : Program) (call : CallF) (ext : ExtF) (n fx m since clk idit : Nat) (p : RP) (e : Value × AV × Nat) (t : T AV) (h : T AO) (nx : Nat) : Option (T AV × T AO × Nat) :=
  match stepAV e with
  | some v => match putT n (some p.d55) v t with
    | some t1 => match op1 P call ext n p.o18 t1 h nx p.q1 with
      | some (t2, h2, nx2) => match t2.get p.c with
        | some (.bool true) => match h2.get m with
          | some (.map es clk2) => match Nat.beq clk2 clk && noDup (marks es) && (match t2.get p.it with | some (.ptr i o) => Nat.beq i idit && Nat.beq o 0 | _ => false) with
            | true => match findM e.2.2 es with
              | some e2 => match entryAV e2 with
                | some v2 => match putT n (some p.d57) v2 t2 with
                  | some t3 => match opsI P call ext n p.o19 (List.range' 1 (p.o19.size - 1)) t3 h2 nx2 with
                    | some (t4, h4, nx4) => match exec P call ext noReg n fx p.rest t4 h4 nx4 with
                      | some (.nrm, t5, h5, nx5) => some (t5, h5, nx5)
                      | _ => none
                    | none => none
                  | none => none
                | none => none
              | none => none
            | false => none
          | _ => none
        | _ => none
      | none => none
    | none => none
  | none => none
/-- The end, if nothing is left. -/
noncomputable def endM (P : Program) (call : CallF) (ext : ExtF) (n : Nat) (p : RP) (t : T AV) (h : T AO) (nx : Nat) : Option (T AV × T AO × Nat) :=
  match putT n (some p.d55) (.tup [.bool false]) t with
  | some t1 => match op1 P call ext n p.o18 t1 h nx p.q1 with
    | some (t2, h2, nx2) => match t2.get p.c with
      | some (.bool false) => some (t2, h2, nx2)
      | _ => none
    | none => none
  | none => none
noncomputable def leftM (es : List (Value × AV × Nat)) (seen : List Nat) : List (Value × AV × Nat) := es.filter fun e => !memN e.2.2 seen
/-- The first entry each time. -/
noncomputable def pathR (P : Program) (call : CallF) (ext : ExtF) (n fx m since idit : Nat) (p : RP) : Nat → List Nat → T AV → T AO → Nat → Option (T AV × T AO × Nat)
  | 0, _, _, _, _ => none
  | f + 1, seen, t, h, nx => match h.get m with
    | some (.map es clk) => match leftM es seen with
      | [] => endM P call ext n p t h nx
      | e :: _ => match oneR P call ext n fx m since clk idit p e t h nx with
        | some (t5, h5, nx5) => pathR P call ext n fx m since idit p f (seen ++ [e.2.2]) t5 h5 nx5
        | none => none
    | _ => none
noncomputable def allM (p : Value × AV × Nat → Bool) : List (Value × AV × Nat) → Bool
  | [] => true
  | e :: l => p e && allM p l
theorem allM_ok {p : Value × AV × Nat → Bool} : ∀ {l}, allM p l = true → ∀ e ∈ l, p e = true
  | [], _, e, h => by cases h
  | x :: l, h, e, he => by
    simp only [allM, Bool.and_eq_true] at h
    cases he with
    | head => exact h.1
    | tail _ he => exact allM_ok h.2 e he
/-- Every order leaves the same. -/
noncomputable def roundR (P : Program) (call : CallF) (ext : ExtF) (n fx m since idit : Nat) (p : RP) (tF : T AV) (hF : T AO) (nxF : Nat) : Nat → List Nat → T AV → T AO → Nat → Bool
  | 0, _, _, _, _ => false
  | f + 1, seen, t, h, nx => match h.get m with
    | some (.map es clk) => oldAll since es && Nat.ble since clk && noDup (marks es) && (match t.get p.it with | some (.ptr i o) => Nat.beq i idit && Nat.beq o 0 | _ => false) &&
      (match leftM es seen with
       | [] => (match endM P call ext n p t h nx with
         | some (t2, h2, nx2) => subV tF t2 && subO hF h2 && Nat.beq nx2 nxF
         | none => false)
       | l => allM (fun e => match oneR P call ext n fx m since clk idit p e t h nx with
         | some (t5, h5, nx5) => roundR P call ext n fx m since idit p tF hF nxF f (seen ++ [e.2.2]) t5 h5 nx5
         | none => false) l)
    | _ => false
/-- How the parts stand. -/
structure RP.OK (p : RP) : Prop where
  s18 : p.o18.size = 2
  a0 : p.o18[0]? = some p.q0
  a1 : p.o18[1]? = some p.q1
  g0 : p.q0.guard = none
  n0 : p.q0.op = .next (.tmp p.it) false
  t0 : p.q0.dst = some p.d55
  s19 : 1 ≤ p.o19.size
  b0 : p.o19[0]? = some p.e0
  h0 : p.e0.guard = none
  m0 : p.e0.op = .entry (.tmp p.it)
  u0 : p.e0.dst = some p.d57
  low : p.it < gBase
  lowc : p.c < gBase
/-- A loop's world. -/
structure RW (gl : T AV) (F : Bool → Nat → Prop) (n m since idit bit bm : Nat) (seen : List Nat) (I : In) (t : T AV) (h : T AO) (a : Act) (w : World) : Prop where
  st : St gl F I t h n a w
  ft : F true bit
  ff : ¬ F false bit
  it : ∃ c0, w.heap[bit]? = some (.mapIter (some bm) since ⟨seen⟩ c0) ∧ since ≤ c0
  mp : ∃ tm, I m = some (bm, tm)
  ii : I idit = some (bit, 0, 0)
theorem set_heap {w : World} {b c : Nat} {o : Obj} (h : c ≠ b) : (setBlock w b o).heap[c]? = w.heap[c]? := by
  simp [setBlock, Array.getElem?_setIfInBounds, Ne.symm h]
theorem set_at {w : World} {b : Nat} {o : Obj} (h : b < w.heap.size) : (setBlock w b o).heap[b]? = some o := by
  simp [setBlock, h]
theorem RW.far {F n m since idit bit bm seen I t h a w} (r : RW gl F n m since idit bit bm seen I t h a w) {id o b tt} (h1 : h.get id = some o) (h2 : I id = some (b, tt)) : b ≠ bit := fun e => by
  subst e
  exact r.ff (r.st.sim.fr id o b tt h1 h2 r.ft).2
theorem St.turn {F n m since idit bit bm seen I t h a w} (r : RW gl F n m since idit bit bm seen I t h a w) {w1 : World} (hw : w1 = w ∨ w1 = w.drew) (o : Obj) : St gl F I t h n a (setBlock w1 bit o) := by
  have hh : w1.heap = w.heap := by rcases hw with rfl | rfl <;> rfl
  refine ⟨r.st.tr, r.st.size, r.st.defers, ⟨fun id ob b tt h1 h2 => ?_, r.st.sim.inj, r.st.sim.fr⟩, fun b hb => ?_, r.st.gok, r.st.zf⟩
  · rw [set_heap (r.far h1 h2), hh]; exact r.st.sim.obj id ob b tt h1 h2
  · have := r.st.low b hb
    simp only [setBlock, Array.size_setIfInBounds, hh]; exact this
noncomputable def bodyM (p : RP) (i18 i19 b7 e6 : Nat) : Code := .seq (.region i18 p.o18 false) (.seq (.cond (.tmp p.c) .skip (.exit e6)) (.block b7 (.seq (.region i19 p.o19 false) p.rest)))
theorem findM_ok {I : In} {b : Nat} : ∀ {es : List (Value × AV × Nat)} {ms : List MapEntry} {e}, MR I es ms → findM b es = some e → ∃ x ∈ ms, x.born = b ∧ x.key = e.1 ∧ VR I e.2.1 x.val
  | _, _, e, .nil, h => by cases h
  | (k, a, n) :: es, ⟨_, v, _⟩ :: ms, e, .cons hv t, h => by
    simp only [findM] at h
    split at h
    · rename_i hb
      cases h
      exact ⟨_, .head _, Nat.eq_of_beq_eq_true hb, rfl, hv⟩
    · obtain ⟨x, h1, h2⟩ := findM_ok t h
      exact ⟨x, .tail _ h1, h2⟩
theorem entryAV_ok {I : In} {e : Value × AV × Nat} {v : AV} {u : Value} (h : entryAV e = some v) (hv : VR I e.2.1 u) : VR I v (.tuple #[e.1, u]) := by
  unfold entryAV at h
  split at h
  · rename_i k hk; cases h
    exact .tup (.cons (ofVal_rel I _ _ hk) (.cons hv .nil))
  · cases h
theorem stepAV_ok {I : In} {e : Value × AV × Nat} {v : AV} {u : Value} (h : stepAV e = some v) (hv : VR I e.2.1 u) : VR I v (.tuple #[.bool true, e.1, u]) := by
  unfold stepAV at h
  split at h
  · rename_i k hk; cases h
    exact .tup (.cons (.bool _) (.cons (ofVal_rel I _ _ hk) (.cons hv .nil)))
  · cases h
theorem slot_ptr {I : In} {t : T AV} {a : Act} {it idit bit : Nat} (ht : TR I t a.tmps) (hl : it < gBase) (h : t.get it = some (.ptr idit 0)) (hi : I idit = some (bit, 0, 0)) : a.eval (.tmp it) = .pointer (some ⟨bit, 0, none⟩) := by
  have := ht it _ h
  rw [slot_low hl] at this
  show a.tmps.getD it undef = _
  generalize a.tmps.getD it undef = z at this
  cases this with
  | ptr h2 => rw [hi] at h2; cases h2; rfl
theorem put_st {F I t h n a w} {gl : T AV} (st : St gl F I t h n a w) {d : Nat} {v : AV} {z : Value} {t' : T AV} (e : putT n (some d) v t = some t') (hv : VR I v z) {w' : World} (hs : St gl F I t h n a w') : St gl F I t' h n (a.put (some d) z) w' := by
  obtain ⟨p1, p2, p3⟩ := putT_ok (z := z) e hs.tr hs.size hv
  exact ⟨p1, p2, p3.trans hs.defers, hs.sim, hs.low, hs.gok, hs.zf⟩
theorem roundR_ok {P : Program} {call : CallF} {ext : ExtF} (hc : CallOK gl P call) (he : ExtOK P ext) {n fx m since idit : Nat} {p : RP} (hp : p.OK) {tF : T AV} {hF : T AO} {nxF : Nat} (i18 i19 b7 e6 : Nat) :
    ∀ (f : Nat) (seen : List Nat) (t : T AV) (h : T AO) (nx : Nat), roundR P call ext n fx m since idit p tF hF nxF f seen t h nx = true → nx ≤ nxF ∧
      ∀ (F : Bool → Nat → Prop) (I : In) (a : Act) (w : World) (bit bm : Nat), RW gl F n m since idit bit bm seen I t h a w → Fresh I nx nxF → ∀ (Q2 : Exit → Act → World → Prop),
        (∀ a' I' w', St gl F I' tF hF n a' w' → I.le I' → (∀ i x, I' i = some x → I i = some x ∨ nx ≤ i ∧ i < nxF) → (∀ b, F true b → b ≠ bit → w'.heap[b]? = w.heap[b]?) → w.heap.size ≤ w'.heap.size → Same w w' → Q2 (.exit e6) a' w') →
        Code.rounds P (bodyM p i18 i19 b7 e6) Q2 f a w := by
  intro f
  induction f with
  | zero => intro seen t h nx e; cases e
  | succ f ih =>
    intro seen t h nx e
    simp only [roundR] at e
    split at e
    case h_2 => cases e
    rename_i es clk hm
    simp only [Bool.and_eq_true] at e
    obtain ⟨⟨⟨⟨o1, o2⟩, o3⟩, o4⟩, e⟩ := e
    have o2 := Nat.le_of_ble_eq_true o2
    have hit : t.get p.it = some (.ptr idit 0) := by
      split at o4
      · rename_i i o ho
        simp only [Bool.and_eq_true] at o4
        rw [ho, Nat.eq_of_beq_eq_true o4.1, Nat.eq_of_beq_eq_true o4.2]
      · cases o4
    have range2 : List.range p.o18.size = [0, 1] := by rw [hp.s18]; rfl
    have guards : ∀ tm, Region.wanted p.q0 (yielded p.o18 tm) = true := fun tm => by unfold Region.wanted; rw [hp.g0]
    have guards2 : ∀ tm, Region.wanted p.e0 (yielded p.o19 tm) = true := fun tm => by unfold Region.wanted; rw [hp.h0]
    -- the step's operation
    have nxt : ∀ (a : Act) (w w' : World) (bit : Nat) (u : Value) (K : Act → World → Prop) (Q : Exit → Act → World → Prop), a.eval (.tmp p.it) = .pointer (some ⟨bit, 0, none⟩) →
        (Instr.next (.pointer (some ⟨bit, 0, none⟩)) false p.q0.type).run P w = .ok u w' → K (a.put (some p.d55) u) w' → wpOp P p.o18 Q 0 K a w := fun a w w' bit u K Q h1 h2 h3 => by
      unfold wpOp
      rw [hp.a0]
      simp only [guards, if_true]
      left
      have hx : (execOp a.eval p.q0).run P w = .ok (.value u) w' := by
        unfold execOp
        rw [hp.n0]
        simp only [h1]
        simp [h2, Result.andThen]
      unfold Oper.wp
      rw [hx]
      show K (a.put p.q0.dst u) w'
      rw [hp.t0]; exact h3
    have ent : ∀ (a : Act) (w : World) (bit : Nat) (u : Value) (K : Act → World → Prop) (Q : Exit → Act → World → Prop), a.eval (.tmp p.it) = .pointer (some ⟨bit, 0, none⟩) →
        (Instr.entry (.pointer (some ⟨bit, 0, none⟩))).run P w = .ok u w → K (a.put (some p.d57) u) w → wpOp P p.o19 Q 0 K a w := fun a w bit u K Q h1 h2 h3 => by
      unfold wpOp
      rw [hp.b0]
      simp only [guards2, if_true]
      left
      have hx : (execOp a.eval p.e0).run P w = .ok (.value u) w := by
        unfold execOp
        rw [hp.m0]
        simp only [h1]
        simp [h2, Result.andThen]
      unfold Oper.wp
      rw [hx]
      show K (a.put p.e0.dst u) w
      rw [hp.u0]; exact h3
    -- what is left
    have leftEq : ∀ {I : In} {ms : List MapEntry}, MR I es ms → MR I (leftM es seen) (leftOf ⟨ms⟩ ⟨seen⟩).toList := fun {I ms} hM => by
      have h1 := hM.filter fun b => !memN b seen
      have h2 : (leftOf ⟨ms⟩ ⟨seen⟩).toList = ms.filter fun e => !memN e.born seen := by
        unfold leftOf
        simp only [Array.toList_filter]
        refine List.filter_congr fun x _ => ?_
        congr 1
        cases hq : memN x.born seen with
        | true => have := (memN_iff _ _).1 hq; simpa using this
        | false =>
          have : ¬ x.born ∈ seen := fun hh => by rw [(memN_iff _ _).2 hh] at hq; cases hq
          simpa using this
      rw [h2]; exact h1
    have getMap : ∀ {F I a w bit bm}, RW gl F n m since idit bit bm seen I t h a w → ∃ ms, w.heap[bm]? = some (.map ⟨ms⟩ clk) ∧ MR I es ms := fun {F I a w bit bm} r => by
      obtain ⟨tm, hI⟩ := r.mp
      obtain ⟨ob, k1, k2⟩ := r.st.sim.obj _ _ _ _ hm hI
      cases k2 with
      | map hM => exact ⟨_, k1, hM⟩
    cases hl : leftM es seen with
    | nil =>
      rw [hl] at e
      simp only at e
      unfold endM at e
      split at e
      case h_2 => cases e
      rename_i t2 h2 nx2 hend
      split at hend
      case h_2 => cases hend
      rename_i t1 ht1
      split at hend
      case h_2 => cases hend
      rename_i t2' h2' nx2' hop
      split at hend
      case h_2 => cases hend
      rename_i hcf
      cases hend
      simp only [Bool.and_eq_true] at e
      obtain ⟨⟨e1, e2⟩, e3⟩ := e
      have e3 := Nat.eq_of_beq_eq_true e3
      subst e3
      obtain ⟨k1, k2⟩ := op1_ok hc he hp.a1 hop
      refine ⟨k1, fun F I a w bit bm r fr Q2 hQ => ?_⟩
      obtain ⟨ms, hms, hM⟩ := getMap r
      obtain ⟨c0, hc0, hsc⟩ := r.it
      have hev := slot_ptr r.st.tr hp.low hit r.ii
      rw [rounds_succ]
      unfold bodyM
      refine wp_seq (wp_region ?_)
      rw [range2, wpOps_cons]
      rcases run_next_at (P := P) w p.q0.type bit bm since c0 ⟨seen⟩ ⟨ms⟩ clk hc0 hms (by simpa using hM.old o1) hsc with ⟨z1, z2⟩ | ⟨x, hx, _⟩
      · refine nxt a w w bit _ _ _ hev z2 ?_
        have st1 := put_st r.st ht1 (VR.tup (.cons (.bool false) .nil)) r.st
        rw [wpOps_cons]
        refine k2 F I _ w st1 fr _ _ fun a' I' w' st' g' => ?_
        show Exit.then _ _ Exit.normal a' w'
        refine wp_seq (wp_cond_false ?_ (wp_exit ?_))
        · have := st'.tr p.c _ hcf
          have hlt := hp.lowc
          rw [slot_low hlt] at this
          show a'.tmps.getD p.c undef = _
          generalize a'.tmps.getD p.c undef = z at this
          cases this; rfl
        · show Q2 (.exit e6) a' w'
          refine hQ a' I' w' ⟨fun i b hb => st'.tr i b (subV_ok e1 i b hb), st'.size, st'.defers, st'.sim.sub (subO_ok e2), st'.low, st'.gok, st'.zf⟩ g'.le g'.new (fun b hb _ => g'.fr b hb) g'.size g'.same
      · exfalso
        have := leftEq hM
        rw [hl] at this
        generalize (leftOf ⟨ms⟩ ⟨seen⟩).toList = q at this hx
        cases this
        cases hx
    | cons e0 el =>
      rw [hl] at e
      have e : allM (fun e => match oneR P call ext n fx m since clk idit p e t h nx with
         | some (t5, h5, nx5) => roundR P call ext n fx m since idit p tF hF nxF f (seen ++ [e.2.2]) t5 h5 nx5
         | none => false) (e0 :: el) = true := e
      have each := allM_ok e
      -- one entry
      have one : ∀ ee ∈ e0 :: el, ∃ v t1 t2 h2 nx2 es2 e2 v2 t3 t4 h4 nx4 t5 h5 nx5, stepAV ee = some v ∧ putT n (some p.d55) v t = some t1 ∧ op1 P call ext n p.o18 t1 h nx p.q1 = some (t2, h2, nx2) ∧ t2.get p.c = some (.bool true) ∧
          h2.get m = some (.map es2 clk) ∧ (marks es2).Nodup ∧ t2.get p.it = some (.ptr idit 0) ∧ findM ee.2.2 es2 = some e2 ∧ entryAV e2 = some v2 ∧ putT n (some p.d57) v2 t2 = some t3 ∧ opsI P call ext n p.o19 (List.range' 1 (p.o19.size - 1)) t3 h2 nx2 = some (t4, h4, nx4) ∧
          exec P call ext noReg n fx p.rest t4 h4 nx4 = some (.nrm, t5, h5, nx5) ∧ roundR P call ext n fx m since idit p tF hF nxF f (seen ++ [ee.2.2]) t5 h5 nx5 = true := fun ee hee => by
        have h1 := each ee hee
        split at h1
        case h_2 => cases h1
        rename_i t5 h5 nx5 ho
        unfold oneR at ho
        split at ho
        case h_2 => cases ho
        rename_i v hv
        split at ho
        case h_2 => cases ho
        rename_i t1 ht1
        split at ho
        case h_2 => cases ho
        rename_i t2 h2 nx2 hop
        split at ho
        case h_2 => cases ho
        rename_i hct
        split at ho
        case h_2 => cases ho
        rename_i es2 clk2 hm2
        split at ho
        case h_2 => cases ho
        rename_i hck
        simp only [Bool.and_eq_true] at hck
        obtain ⟨⟨c1, c2⟩, c3⟩ := hck
        have c1 := Nat.eq_of_beq_eq_true c1
        subst c1
        have c3 : t2.get p.it = some (.ptr idit 0) := by
          split at c3
          · rename_i i o ho'
            simp only [Bool.and_eq_true] at c3
            rw [ho', Nat.eq_of_beq_eq_true c3.1, Nat.eq_of_beq_eq_true c3.2]
          · cases c3
        split at ho
        case h_2 => cases ho
        rename_i e2 he2
        split at ho
        case h_2 => cases ho
        rename_i v2 hv2
        split at ho
        case h_2 => cases ho
        rename_i t3 ht3
        split at ho
        case h_2 => cases ho
        rename_i t4 h4 nx4 ho4
        split at ho
        case h_2 => cases ho
        rename_i t5' h5' nx5' hx
        cases ho
        exact ⟨v, t1, t2, h2, nx2, es2, e2, v2, t3, t4, h4, nx4, _, _, _, hv, ht1, hop, hct, hm2, noDup_ok c2, c3, he2, hv2, ht3, ho4, hx, h1⟩
      have hle : nx ≤ nxF := by
        obtain ⟨v, t1, t2, h2, nx2, es2, e2, v2, t3, t4, h4, nx4, t5, h5, nx5, _, _, q3, _, _, _, _, _, _, _, q11, q12, q13⟩ := one e0 (.head _)
        have a1 := (op1_ok hc he hp.a1 q3).1
        have a2 := (opsI_ok hc he _ q11).1
        have a3 := (exec_ok hc he noReg_ok _ _ _ _ _ _ _ _ _ q12).1
        have a4 := (ih _ _ _ _ q13).1
        omega
      refine ⟨hle, fun F I a w bit bm r fr Q2 hQ => ?_⟩
      obtain ⟨ms, hms, hM⟩ := getMap r
      obtain ⟨c0, hc0, hsc⟩ := r.it
      have hev := slot_ptr r.st.tr hp.low hit r.ii
      rw [rounds_succ]
      unfold bodyM
      refine wp_seq (wp_region ?_)
      rw [range2, wpOps_cons]
      have hL := leftEq hM
      rw [hl] at hL
      rcases run_next_at (P := P) w p.q0.type bit bm since c0 ⟨seen⟩ ⟨ms⟩ clk hc0 hms (by simpa using hM.old o1) hsc with ⟨z1, z2⟩ | ⟨x, hx, w1, hw1, hrun⟩
      · exfalso
        have hz : (leftOf ⟨ms⟩ ⟨seen⟩).toList = [] := List.length_eq_zero_iff.1 (by simpa using z1)
        rw [hz] at hL
        cases hL
      · obtain ⟨av, hmem, hav⟩ := hL.mem hx
        obtain ⟨v, t1, t2, h2, nx2, es2, e2, v2, t3, t4, h4, nx4, t5, h5, nx5, q1, q2, q3, q4, q5, q6, q7, q8, q9, q10, q11, q12, q13⟩ := one _ hmem
        obtain ⟨a1, b1⟩ := op1_ok hc he hp.a1 q3
        obtain ⟨a2, b2⟩ := opsI_ok hc he _ q11
        obtain ⟨a3, b3⟩ := exec_ok hc he noReg_ok _ _ _ _ _ _ _ _ _ q12
        obtain ⟨a4, b4⟩ := ih _ _ _ _ q13
        have hbit : bit < w1.heap.size := by
          have := r.st.low bit r.ft
          rcases hw1 with rfl | rfl <;> exact this
        have hw1h : w1.heap = w.heap := by rcases hw1 with rfl | rfl <;> rfl
        refine nxt a w _ bit _ _ _ hev hrun ?_
        have st1 := put_st r.st q2 (stepAV_ok q1 hav) (St.turn r hw1 (.mapIter (some bm) since ((⟨seen⟩ : Array Nat).push x.born) clk))
        rw [wpOps_cons]
        refine b1 F I _ _ st1 (fr.sub (Nat.le_refl _) (by omega)) _ _ fun a' I1 w3 st2 g1 => ?_
        show Exit.then _ _ Exit.normal a' w3
        have fr1 : Fresh I1 nx2 nxF := Fresh.of_grow g1 a1 fr
        have hitr : w3.heap[bit]? = some (.mapIter (some bm) since ((⟨seen⟩ : Array Nat).push x.born) clk) := by
          rw [g1.fr bit r.ft]; exact set_at hbit
        refine wp_seq (wp_cond_true ?_ (wp_skip ?_))
        · have := st2.tr p.c _ q4
          rw [slot_low hp.lowc] at this
          show a'.tmps.getD p.c undef = _
          generalize a'.tmps.getD p.c undef = z at this
          cases this; rfl
        · show (Code.block b7 (.seq (.region i19 p.o19 false) p.rest)).wp P _ a' w3
          refine wp_block (wp_seq (wp_region ?_))
          have hr19 : List.range p.o19.size = 0 :: List.range' 1 (p.o19.size - 1) := by
            rw [List.range_eq_range']
            obtain ⟨k, hk⟩ : ∃ k, p.o19.size = k + 1 := ⟨p.o19.size - 1, by have := hp.s19; omega⟩
            rw [hk, List.range'_succ]; simp
          rw [hr19, wpOps_cons]
          obtain ⟨tm, hI⟩ := r.mp
          obtain ⟨ob, k1, k2⟩ := st2.sim.obj _ _ _ _ q5 (g1.le _ _ hI)
          obtain ⟨ms2, hms2, hM2⟩ : ∃ ms2, w3.heap[bm]? = some (.map ⟨ms2⟩ clk) ∧ MR I1 es2 ms2 := by
            cases k2 with
            | map hM => exact ⟨_, k1, hM⟩
          obtain ⟨y, y1, y2, y3, y4⟩ := findM_ok hM2 q8
          have y2 : y.born = x.born := y2
          have hent := run_entry_at (P := P) w3 bit bm since ⟨seen⟩ ⟨ms2⟩ clk y (by rw [y2]; exact hitr) hms2 y1 (by rw [← hM2.marks]; exact q6)
          refine ent a' w3 bit _ _ _ (slot_ptr st2.tr hp.low q7 (g1.le _ _ r.ii)) hent ?_
          have st3 := put_st st2 q10 (by have := entryAV_ok q9 y4; rw [← y3] at this; exact this) st2
          refine b2 F I1 _ w3 st3 (fr1.sub (Nat.le_refl _) (by omega)) _ fun a4' I4 w4 st4 g4 => ?_
          have fr4 : Fresh I4 nx4 nxF := Fresh.of_grow g4 a2 fr1
          show Code.wp P p.rest _ a4' w4
          refine b3 F I4 a4' w4 st4 (fr4.sub (Nat.le_refl _) (by omega)) _ fun e5 a5 I5 w5 he5 st5 g5 => ?_
          cases e5 <;> simp only [AX.is] at he5
          show Code.rounds P (bodyM p i18 i19 b7 e6) Q2 f a5 w5
          have gg := (g1.trans (g4.trans g5 a2 a3) a1 (by omega))
          have hfr : ∀ b, F true b → w5.heap[b]? = (setBlock w1 bit (.mapIter (some bm) since ((⟨seen⟩ : Array Nat).push x.born) clk)).heap[b]? := gg.fr
          refine b4 F I5 a5 w5 bit bm ⟨st5, r.ft, r.ff, ⟨clk, ?_, o2⟩, ⟨tm, gg.le _ _ hI⟩, gg.le _ _ r.ii⟩ (Fresh.of_grow g5 a3 fr4) Q2 fun a' I' w' st' l1 l2 l3 l4 l5 => ?_
          · rw [hfr bit r.ft, set_at hbit]
            have : (⟨seen⟩ : Array Nat).push x.born = ⟨seen ++ [x.born]⟩ := by simp [Array.push]
            rw [this]
          · refine hQ a' I' w' st' (In.le_trans gg.le l1) (fun i z hz => ?_) (fun b hb hne => ?_) (Nat.le_trans ?_ l4) (Same.trans ?_ l5)
            · rcases l2 i z hz with h | h
              · rcases gg.new i z h with h | h
                · exact .inl h
                · exact .inr ⟨h.1, by omega⟩
              · exact .inr ⟨by omega, h.2⟩
            · rw [l3 b hb hne, hfr b hb, set_heap hne, hw1h]
            · have := gg.size
              simp only [setBlock, Array.size_setIfInBounds, hw1h] at this
              exact this
            · have h1 := gg.same
              have h2 : Same w (setBlock w1 bit (.mapIter (some bm) since ((⟨seen⟩ : Array Nat).push x.born) clk)) := by
                rcases hw1 with rfl | rfl <;> exact ⟨rfl, rfl, rfl⟩
              exact h2.trans h1
noncomputable def dropL : List Nat → T AV → Option (T AV)
  | [], t => some t
  | d :: l, t => match T.put 64 d none t with
    | some t' => dropL l t'
    | none => none
/-- The parts of a loop over a map. -/
noncomputable def rngParts (c : Code) : Option (RP × Array Oper × Oper × Oper × TypeId × Operand × (Nat × Nat) × (Nat × Nat × Nat × Nat)) := match c with
  | .seq (.region i17 o17 false) (.block b6 (.loop (.seq (.region i18 o18 false) (.seq (.cond (.tmp cc) .skip (.exit e6)) (.block b7 (.seq (.region i19 o19 false) rest)))))) =>
    match nth o17.toList 0, nth o17.toList 1, nth o18.toList 0, nth o18.toList 1, nth o19.toList 0 with
    | some r0, some r1, some q0, some q1, some e0 =>
      match q0.op, q0.dst, q0.guard, e0.op, e0.dst, e0.guard, r1.op, r1.dst, r1.guard with
      | .next (.tmp it) false, some d55, none, .entry (.tmp it'), some d57, none, .range ty y, some d54, none =>
        match Nat.beq o17.size 2 && Nat.beq o18.size 2 && Nat.beq it d54 && Nat.beq it' it && Nat.blt it gBase && Nat.blt cc gBase && Nat.beq b6 e6 && Nat.ble 1 o19.size with
        | true => some (⟨o18, q0, q1, d55, it, cc, o19, e0, d57, rest⟩, o17, r0, r1, ty, y, (i17, b6), (i18, i19, b7, e6))
        | false => none
      | _, _, _, _, _, _, _, _, _ => none
    | _, _, _, _, _ => none
  | _ => none
noncomputable def rngM (P : Program) (call : CallF) (ext : ExtF) (n fx : Nat) (D : List Nat) (c : Code) (t : T AV) (h : T AO) (nx : Nat) : Option (AX × T AV × T AO × Nat) :=
  match rngParts c with
  | some (p, o17, r0, r1, ty, y, (i17, b6), ids) =>
    match op1 P call ext n o17 t h nx r0 with
    | some (t1, h1, nx1) => match ev t1 y with
      | some (.map m) => match P.underlying ty with
        | some (.map _ _) => match h1.get m with
          | some (.map es clk) => match h1.get nx1 with
            | none => match putT n (some p.it) (.ptr nx1 0) t1 with
              | some t2 => match pathR P call ext n fx m clk nx1 p 20 [] t2 h1 (nx1 + 1) with
                | some (tl, hl, nxl) => match dropL D tl with
                  | some tF => match roundR P call ext n fx m clk nx1 p tF hl nxl 20 [] t2 h1 (nx1 + 1) with
                    | true => some (.nrm, tF, hl, nxl)
                    | false => none
                  | none => none
                | none => none
              | none => none
            | some _ => none
          | _ => none
        | _ => none
      | _ => none
    | none => none
  | none => none
theorem rngParts_ok {c : Code} {p : RP} {o17 : Array Oper} {r0 r1 : Oper} {ty : TypeId} {y : Operand} {i17 b6 i18 i19 b7 e6 : Nat} (e : rngParts c = some (p, o17, r0, r1, ty, y, (i17, b6), (i18, i19, b7, e6))) :
    c = .seq (.region i17 o17 false) (.block b6 (.loop (bodyM p i18 i19 b7 e6))) ∧ p.OK ∧ o17.size = 2 ∧ o17[0]? = some r0 ∧ o17[1]? = some r1 ∧ r1.op = .range ty y ∧ r1.dst = some p.it ∧ r1.guard = none ∧ b6 = e6 := by
  unfold rngParts at e
  split at e
  case h_2 => cases e
  split at e
  case h_2 => cases e
  rename_i r0' r1' q0 q1 e0 n1 n2 n3 n4 n5
  split at e
  case h_2 => cases e
  rename_i it d55 it' d57 ty' y' d54 m1 m2 m3 m4 m5 m6 m7 m8 m9
  split at e
  case h_2 => cases e
  rename_i hb
  cases e
  simp only [Bool.and_eq_true] at hb
  obtain ⟨⟨⟨⟨⟨⟨⟨k1, k2⟩, k3⟩, k4⟩, k5⟩, k6⟩, k7⟩, k8⟩ := hb
  have k1 := Nat.eq_of_beq_eq_true k1
  have k2 := Nat.eq_of_beq_eq_true k2
  have k3 := Nat.eq_of_beq_eq_true k3
  have k4 := Nat.eq_of_beq_eq_true k4
  have k7 := Nat.eq_of_beq_eq_true k7
  have at_ : ∀ {ops : Array Oper} {i : Nat} {o : Oper}, nth ops.toList i = some o → ops[i]? = some o := fun h => by rw [nth_eq] at h; simpa using h
  subst k3 k4
  exact ⟨rfl, ⟨k2, at_ n3, at_ n4, m3, m1, m2, Nat.le_of_ble_eq_true k8, at_ n5, m6, m4, m5, blt_ok k5, blt_ok k6⟩, k1, at_ n1, at_ n2, m7, m8, m9, k7⟩
theorem rngM_ok {P : Program} {call : CallF} {ext : ExtF} {n fx : Nat} {D : List Nat} (hc : CallOK gl P call) (he : ExtOK P ext) {c : Code} {t : T AV} {h : T AO} {nx : Nat} {x : AX} {t' : T AV} {h' : T AO} {nx' : Nat} (e : rngM P call ext n fx D c t h nx = some (x, t', h', nx')) :
    CodeOK gl P n c t h nx x t' h' nx' := by
  unfold rngM at e
  split at e
  case h_2 => cases e
  rename_i p o17 r0 r1 ty y i17 b6 ids hp
  obtain ⟨i18, i19, b7, e6⟩ := ids
  obtain ⟨rfl, pok, s17, a0, a1, m1, m2, m3, rfl⟩ := rngParts_ok hp
  split at e
  case h_2 => cases e
  rename_i t1 h1 nx1 hop
  split at e
  case h_2 => cases e
  rename_i m hy
  split at e
  case h_2 => cases e
  rename_i kt et hty
  split at e
  case h_2 => cases e
  rename_i es clk hm
  split at e
  case h_2 => cases e
  rename_i hnone
  split at e
  case h_2 => cases e
  rename_i t2 ht2
  split at e
  case h_2 => cases e
  rename_i tl hl nxl hpath
  split at e
  case h_2 => cases e
  rename_i tF htF
  split at e
  case h_2 => cases e
  rename_i hround
  cases e
  obtain ⟨k1, k2⟩ := op1_ok hc he a0 hop
  obtain ⟨l1, l2⟩ := roundR_ok hc he pok i18 i19 b7 b6 _ _ _ _ _ hround
  refine ⟨by omega, fun F I a w st fr Q hq => ?_⟩
  refine wp_seq (wp_region ?_)
  have range2 : List.range o17.size = [0, 1] := by rw [s17]; rfl
  rw [range2, wpOps_cons]
  refine k2 F I a w st (fr.sub (Nat.le_refl _) (by omega)) _ _ fun a1' I1 w1 st1 g1 => ?_
  rw [wpOps_cons]
  unfold wpOp
  rw [a1]
  have guard : Region.wanted r1 (yielded o17 a1'.tmps) = true := by unfold Region.wanted; rw [m3]
  simp only [guard, if_true]
  left
  have hyv := ev_ok st1.tr hy
  obtain ⟨bm, tm, hI, hyv⟩ : ∃ bm tm, I1 m = some (bm, tm) ∧ a1'.eval y = .map (some bm) := by
    generalize a1'.eval y = z at hyv
    cases hyv with
    | map h => exact ⟨_, _, h, rfl⟩
  obtain ⟨ob, o1, o2⟩ := st1.sim.obj _ _ _ _ hm hI
  obtain ⟨ms, hms, hM⟩ : ∃ ms, w1.heap[bm]? = some (.map ⟨ms⟩ clk) ∧ MR I1 es ms := by
    cases o2 with
    | map hM => exact ⟨_, o1, hM⟩
  have hrun : (execOp a1'.eval r1).run P w1 = .ok (.value (.pointer (some ⟨w1.heap.size, 0, none⟩))) (w1.alloc (.mapIter (some bm) clk #[] clk)) := by
    unfold execOp
    rw [m1]
    simp only [hyv]
    simp [run_range_map w1 ty kt et bm ⟨ms⟩ clk hty hms, Result.andThen]
  unfold Oper.wp
  rw [hrun]
  show Exit.then _ Q Exit.normal (a1'.put r1.dst (.pointer (some ⟨w1.heap.size, 0, none⟩))) (w1.alloc (.mapIter (some bm) clk #[] clk))
  rw [m2]
  refine wp_block (wp_loop_rounds 20 ?_)
  have hfr1 : I1 nx1 = none := Fresh.of_grow g1 k1 fr nx1 (Nat.le_refl _) (by omega)
  have hle := ext_le (w1.heap.size, 0, 0) hfr1
  obtain ⟨p1, p2, p3⟩ := putT_ok (z := .pointer (some ⟨w1.heap.size, 0, none⟩)) ht2 (st1.tr.mono hle) st1.size (VR.ptr' (ext_at I1 nx1 (w1.heap.size, 0, 0)) rfl)
  have hpush : (w1.alloc (.mapIter (some bm) clk #[] clk)).heap = w1.heap.push (.mapIter (some bm) clk #[] clk) := rfl
  have old : ∀ b, b < w1.heap.size → (w1.alloc (.mapIter (some bm) clk #[] clk)).heap[b]? = w1.heap[b]? := fun b hb => by rw [hpush, Array.getElem?_push_lt hb, Array.getElem?_eq_getElem hb]
  have oldI : ∀ id o x, h1.get id = some o → Eng.ext I1 nx1 (w1.heap.size, 0, 0) id = some x → I1 id = some x := fun id o x g h => by
    unfold Eng.ext at h
    split at h
    · rename_i e; subst e; rw [hnone] at g; cases g
    · exact h
  have inHeap : ∀ id o b tt, h1.get id = some o → I1 id = some (b, tt) → b < w1.heap.size := fun id o b tt g h => by
    obtain ⟨ob, h3, _⟩ := st1.sim.obj id o b tt g h
    exact (Array.getElem?_eq_some_iff.1 h3).1
  have st2 : St gl (fun s b => match s with | true => F true b ∨ b = w1.heap.size | false => F false b) (Eng.ext I1 nx1 (w1.heap.size, 0, 0)) t2 h1 n (a1'.put (some p.it) (.pointer (some ⟨w1.heap.size, 0, none⟩))) (w1.alloc (.mapIter (some bm) clk #[] clk)) :=
    ⟨p1, p2, p3.trans st1.defers, ⟨fun id o b tt g h => by
        have h := oldI id o _ g h
        obtain ⟨ob, h3, h4⟩ := st1.sim.obj id o b tt g h
        exact ⟨ob, by rw [old b (inHeap id o b tt g h)]; exact h3, h4.mono hle⟩,
      fun id id' o o' b tt tt' g g' h h' => st1.sim.inj id id' o o' b tt tt' g g' (oldI _ _ _ g h) (oldI _ _ _ g' h'),
      fun id o b tt g h hb => by
        have h := oldI id o _ g h
        rcases hb with hb | hb
        · exact st1.sim.fr id o b tt g h hb
        · have := inHeap id o b tt g h; omega⟩,
     fun b hb => by
      rw [hpush, Array.size_push]
      rcases hb with hb | hb
      · have := st1.low b hb; omega
      · omega,
     st1.gok.mono hle, fun b hb => .inl (st1.zf b hb)⟩
  refine l2 _ _ _ _ w1.heap.size bm ⟨st2, .inr rfl, fun hb => ?_, ⟨clk, ?_, Nat.le_refl _⟩, ⟨tm, hle _ _ hI⟩, ext_at _ _ _⟩ (fun i h2 h3 => ?_) _ fun a' I' w' st' q1 q2 q3 q4 q5 => ?_
  · have := st1.low _ (st1.zf _ hb); omega
  · rw [hpush]; simp
  · unfold Eng.ext
    rw [if_neg (by omega)]
    exact Fresh.of_grow g1 k1 fr i (by omega) h3
  · show Exit.inBlock b6 Q (.exit b6) a' w'
    simp only [Exit.inBlock, if_true]
    refine hq .normal a' I' w' trivial ⟨st'.tr, st'.size, st'.defers, ⟨st'.sim.obj, st'.sim.inj, fun id o b tt g h hb => st'.sim.fr id o b tt g h (.inl hb)⟩, fun b hb => st'.low b (.inl hb), st'.gok, st.zf⟩ ⟨In.le_trans g1.le (In.le_trans hle q1), fun i z hz => ?_, ⟨st'.sim.obj, st'.sim.inj, fun id o b tt g h hb => st'.sim.fr id o b tt g h (.inl hb)⟩, fun b hb => ?_, ?_, ?_⟩
    · rcases q2 i z hz with h | h
      · rcases ext_new i z h with h | h
        · rcases g1.new i z h with h | h
          · exact .inl h
          · exact .inr ⟨h.1, by omega⟩
        · exact .inr ⟨by omega, by omega⟩
      · exact .inr ⟨by omega, h.2⟩
    · have hlt := st1.low b hb
      rw [q3 b (.inl hb) (by omega), old b hlt, g1.fr b hb]
    · have := g1.size
      rw [hpush, Array.size_push] at q4
      omega
    · exact g1.same.trans (Same.trans (b := w1.alloc (.mapIter (some bm) clk #[] clk)) ⟨rfl, rfl, rfl⟩ q5)
noncomputable def execR (P : Program) (call : CallF) (ext : ExtF) (n : Nat) (D : List Nat) : Nat → Code → T AV → T AO → Nat → Option (AX × T AV × T AO × Nat)
  | 0, _, _, _, _ => none
  | f + 1, c, t, h, nx => match c with
    | .skip => some (.nrm, t, h, nx)
    | .region _ ops draw => match draw with
      | false => match opsI P call ext n ops (List.range ops.size) t h nx with
        | some (t', h', nx') => some (.nrm, t', h', nx')
        | none => none
      | true => none
    | .seq x y => match rngM P call ext n f D (.seq x y) t h nx with
      | some r => some r
      | none => match execR P call ext n D f x t h nx with
      | some (.nrm, t', h', nx') => execR P call ext n D f y t' h' nx'
      | r => r
    | .cond x a b => match ev t x with
      | some (.bool true) => execR P call ext n D f a t h nx
      | some (.bool false) => execR P call ext n D f b t h nx
      | _ => none
    | .block id c => match execR P call ext n D f c t h nx with
      | some (.ex j, r) => if j = id then some (.nrm, r) else some (.ex j, r)
      | r => r
    | .loop c => match execR P call ext n D f c t h nx with
      | some (.nrm, t', h', nx') => execR P call ext n D f (.loop c) t' h' nx'
      | r => r
    | .exit id => some (.ex id, t, h, nx)
    | .label _ => some (.nrm, t, h, nx)
    | .ret => some (.rt, t, h, nx)
    | _ => none
theorem execR_ok {P : Program} {call : CallF} {ext : ExtF} {n : Nat} {D : List Nat} (hc : CallOK gl P call) (he : ExtOK P ext) : ∀ (f : Nat) (c : Code) (t : T AV) (h : T AO) (nx : Nat) (x : AX) (t' : T AV) (h' : T AO) (nx' : Nat), execR P call ext n D f c t h nx = some (x, t', h', nx') → CodeOK gl P n c t h nx x t' h' nx' := by
  intro f
  induction f using Nat.strongRecOn with
  | _ f ih =>
    intro c t h nx x t' h' nx' e
    cases f with
    | zero => cases e
    | succ f =>
      have ih1 := ih f (Nat.lt_succ_self f)
      have stay : ∀ {c : Code} {x : AX}, (∀ (Q : Exit → Act → World → Prop) a w, (∀ e, x.is e → Q e a w) → c.wp P Q a w) → CodeOK gl P n c t h nx x t h nx := fun hx =>
        ⟨Nat.le_refl _, fun F I a w st fr Q hq => hx Q a w fun e h1 => hq e a I w h1 st (st.sim.grow nx)⟩
      cases c with
      | skip => simp only [execR, Option.some.injEq, Prod.mk.injEq] at e; obtain ⟨rfl, rfl, rfl, rfl⟩ := e; exact stay fun Q a w hq => wp_skip (hq _ trivial)
      | label l => simp only [execR, Option.some.injEq, Prod.mk.injEq] at e; obtain ⟨rfl, rfl, rfl, rfl⟩ := e; exact stay fun Q a w hq => wp_label (hq _ trivial)
      | exit id => simp only [execR, Option.some.injEq, Prod.mk.injEq] at e; obtain ⟨rfl, rfl, rfl, rfl⟩ := e; exact stay fun Q a w hq => wp_exit (hq _ rfl)
      | ret => simp only [execR, Option.some.injEq, Prod.mk.injEq] at e; obtain ⟨rfl, rfl, rfl, rfl⟩ := e; exact stay fun Q a w hq => wp_ret (hq _ trivial)
      | region id ops draw =>
        cases draw with
        | false =>
          simp only [execR] at e
          split at e
          · rename_i t1 h1 nx1 h1e
            cases e
            obtain ⟨k1, k2⟩ := opsI_ok hc he _ h1e
            exact ⟨k1, fun F I a w st fr Q hq => wp_region (k2 F I a w st fr Q fun a' I' w' => hq .normal a' I' w' trivial)⟩
          · cases e
        | true => simp only [execR] at e; cases e
      | seq p q =>
        simp only [execR] at e
        split at e
        · rename_i r hr
          cases e
          exact rngM_ok hc he hr
        split at e
        · rename_i t1 h1 nx1 h1e
          obtain ⟨k1, k2⟩ := ih1 _ _ _ _ _ _ _ _ h1e
          obtain ⟨q1, q2⟩ := ih1 _ _ _ _ _ _ _ _ e
          refine ⟨Nat.le_trans k1 q1, fun F I a w st fr Q hq => wp_seq (k2 F I a w st (fr.sub (Nat.le_refl _) q1) _ fun e a' I' w' he' st' g' => ?_)⟩
          cases e <;> simp only [AX.is] at he'
          exact q2 F I' a' w' st' (Fresh.of_grow g' k1 fr) Q fun e'' a'' I'' w'' he'' st'' g'' => hq e'' a'' I'' w'' he'' st'' (g'.trans g'' k1 q1)
        · rename_i hne
          obtain ⟨k1, k2⟩ := ih1 _ _ _ _ _ _ _ _ e
          refine ⟨k1, fun F I a w st fr Q hq => wp_seq (k2 F I a w st fr _ fun e' a' I' w' he' st' g' => ?_)⟩
          cases e' with
          | normal => cases x <;> simp only [AX.is] at he'; exact absurd e (hne _ _ _)
          | _ => exact hq _ a' I' w' he' st' g'
      | cond xx p q =>
        simp only [execR] at e
        split at e
        · rename_i hx
          obtain ⟨k1, k2⟩ := ih1 _ _ _ _ _ _ _ _ e
          refine ⟨k1, fun F I a w st fr Q hq => wp_cond_true ?_ (k2 F I a w st fr Q hq)⟩
          have := ev_ok st.tr hx
          generalize a.eval xx = v at this
          cases this; rfl
        · rename_i hx
          obtain ⟨k1, k2⟩ := ih1 _ _ _ _ _ _ _ _ e
          refine ⟨k1, fun F I a w st fr Q hq => wp_cond_false ?_ (k2 F I a w st fr Q hq)⟩
          have := ev_ok st.tr hx
          generalize a.eval xx = v at this
          cases this; rfl
        · cases e
      | block id c =>
        simp only [execR] at e
        split at e
        · rename_i j r h1e
          obtain ⟨t1, h1, nx1⟩ := r
          split at e
          · rename_i hj
            cases e; subst hj
            obtain ⟨k1, k2⟩ := ih1 _ _ _ _ _ _ _ _ h1e
            refine ⟨k1, fun F I a w st fr Q hq => wp_block (k2 F I a w st fr _ fun e' a' I' w' he' st' g' => ?_)⟩
            cases e' <;> simp only [AX.is] at he'
            subst he'
            simp only [Exit.inBlock, if_true]
            exact hq .normal a' I' w' trivial st' g'
          · rename_i hj
            cases e
            obtain ⟨k1, k2⟩ := ih1 _ _ _ _ _ _ _ _ h1e
            refine ⟨k1, fun F I a w st fr Q hq => wp_block (k2 F I a w st fr _ fun e' a' I' w' he' st' g' => ?_)⟩
            cases e' <;> simp only [AX.is] at he'
            subst he'
            simp only [Exit.inBlock, if_neg hj]
            exact hq _ a' I' w' rfl st' g'
        · rename_i hne
          obtain ⟨k1, k2⟩ := ih1 _ _ _ _ _ _ _ _ e
          refine ⟨k1, fun F I a w st fr Q hq => wp_block (k2 F I a w st fr _ fun e' a' I' w' he' st' g' => ?_)⟩
          cases e' with
          | exit j => cases x <;> simp only [AX.is] at he'; exact absurd e (hne _ _)
          | _ => exact hq _ a' I' w' he' st' g'
      | loop c =>
        have key : ∀ m, m ≤ f + 1 → ∀ t h nx, execR P call ext n D m (.loop c) t h nx = some (x, t', h', nx') → nx ≤ nx' ∧ ∀ (F : Bool → Nat → Prop) (I : In) (a : Act) (w : World), St gl F I t h n a w → Fresh I nx nx' → ∀ (Q : Exit → Act → World → Prop),
            (∀ e a' I' w', x.is e → St gl F I' t' h' n a' w' → Grow F I nx w I' nx' h' w' → Q e a' w') → Code.rounds P c Q m a w := by
          intro m
          induction m with
          | zero => intro _ t h nx e; cases e
          | succ m ihm =>
            intro hm t h nx e
            have ihb := ih m (by omega)
            simp only [execR] at e
            split at e
            · rename_i t1 h1 nx1 h1e
              obtain ⟨k1, k2⟩ := ihb _ _ _ _ _ _ _ _ h1e
              obtain ⟨q1, q2⟩ := ihm (by omega) _ _ _ e
              refine ⟨Nat.le_trans k1 q1, fun F I a w st fr Q hq => ?_⟩
              rw [rounds_succ]
              refine k2 F I a w st (fr.sub (Nat.le_refl _) q1) _ fun e a' I' w' he' st' g' => ?_
              cases e <;> simp only [AX.is] at he'
              exact q2 F I' a' w' st' (Fresh.of_grow g' k1 fr) Q fun e'' a'' I'' w'' he'' st'' g'' => hq e'' a'' I'' w'' he'' st'' (g'.trans g'' k1 q1)
            · rename_i hne
              obtain ⟨k1, k2⟩ := ihb _ _ _ _ _ _ _ _ e
              refine ⟨k1, fun F I a w st fr Q hq => ?_⟩
              rw [rounds_succ]
              refine k2 F I a w st fr _ fun e' a' I' w' he' st' g' => ?_
              cases e' with
              | normal => cases x <;> simp only [AX.is] at he'; exact absurd e (hne _ _ _)
              | _ => exact hq _ a' I' w' he' st' g'
        obtain ⟨k1, k2⟩ := key (f + 1) (Nat.le_refl _) t h nx e
        exact ⟨k1, fun F I a w st fr Q hq => wp_loop_rounds _ (k2 F I a w st fr Q hq)⟩
      | _ => simp [execR] at e
theorem call_of_code {P : Program} {call : CallF} {ext : ExtF} (hm : P.follows .mixedOrders = true) (hc : CallOK gl P call) (he : ExtOK P ext) (hn : ∀ (f : Nat) (fn : Func), P.funcs[f]? = some fn → (fn.name == "runtime.NumGoroutine") = false)
    {f : Nat} {fn : Func} {c : Code} {args : List AV} {t t1 : T AV} {h h1 : T AO} {nx nx1 : Nat} {x : AX} {rs : List AV} (hfn : P.funcs[f]? = some fn) (hb : fn.body = some c) (ht : (if args.length < gBase then initT args 0 gl else none) = some t)
    (hx : CodeOK gl P (args.length + (fn.ntmps - args.length)) c t h nx x t1 h1 nx1) (hne : ∀ i, x ≠ .ex i) (hrs : aresults P t1 h1 fn.results.toList = some rs) :
    nx ≤ nx1 ∧ (∀ args w, (callFunc f args).run P w = .ok (.enter f args) w) ∧
    ∀ (F : Bool → Nat → Prop) (I : In) (w : World) (vs : List Value), VRs I args vs → Sim F I h w → (∀ b, F true b → b < w.heap.size) → GOK gl I → (∀ b, F false b → F true b) → Fresh I nx nx1 →
      Calls P f ⟨vs⟩ w fun e w' => ∃ z I', e = .returned z ∧ VR I' (oneOr rs) z ∧ Grow F I nx w I' nx1 h1 w' := by
  obtain ⟨k1, k2⟩ := hx
  refine ⟨k1, fun args w => ?_, fun F I w vs hv hs hF hG hZ fr => ?_⟩
  · have hnn : ¬ fn.name = "runtime.NumGoroutine" := by have := hn f fn hfn; simpa using this
    simp [callFunc, program, Sem.run, bind, Sem.bind, pure, hfn, hnn, hb]
  · refine calls_of_wp hfn hb (k2 F I _ w ?_ fr _ fun e a' I' w' hxe st' g' => ?_)
    · split at ht
      case isFalse => cases ht
      rename_i hlg
      refine ⟨fun k b hk => ?_, by rw [Array.size_append, Array.size_replicate]; show vs.length + (fn.ntmps - vs.length) = _; rw [hv.len], rfl, hs, hF, hG, hZ⟩
      have hg := initT_get _ _ _ _ ht k
      rw [hk] at hg
      simp only [Nat.not_lt_zero, if_false, Nat.zero_add, Nat.sub_zero] at hg
      split at hg
      · rename_i hlt
        obtain ⟨v, g1, g2⟩ := hv.get k b hg.symm
        have hkv : k < vs.length := by rw [← hv.len]; exact hlt
        have : ((⟨vs⟩ : Array Value) ++ Array.replicate (fn.ntmps - (⟨vs⟩ : Array Value).size) undef).getD k undef = v := by
          rw [Array.getD_eq_getD_getElem?, Array.getElem?_append_left (by simpa using hkv)]
          simp [g1]
        rw [slot_low (by omega), this]; exact g2
      · obtain ⟨g1, g2⟩ := hG k b hg.symm
        unfold slot
        rw [if_neg (by omega)]; exact g2
    · obtain ⟨v, r1, r2⟩ := results_run (P := P) st' hrs
      cases e with
      | normal => exact ⟨st'.defers, v, r1, v, I', rfl, r2, g'⟩
      | ret => exact ⟨st'.defers, v, r1, v, I', rfl, r2, g'⟩
      | exit i => cases x <;> simp only [AX.is] at hxe; exact (hne _ rfl).elim
      | _ => cases x <;> simp only [AX.is] at hxe
/-- A call of the function that ranges over maps. -/
noncomputable def rngW (P : Program) (ext : ExtF) (gl : T AV) (f0 : Nat) (D : List Nat) (call : CallF) : CallF := fun f args h nx => match Nat.beq f f0 with
  | true => match P.funcs[f]? with
    | some fn => match fn.body with
      | some c => match (if args.length < gBase then initT args 0 gl else none) with
        | some t => match execR P call ext (args.length + (fn.ntmps - args.length)) D 100000 c t h nx with
          | some (.ex _, _) => none
          | some (_, t', h', nx') => match aresults P t' h' fn.results.toList with
            | some r => some (oneOr r, h', nx')
            | none => none
          | none => none
        | none => none
      | none => none
    | none => none
  | false => call f args h nx
theorem rngW_ok {P : Program} {ext : ExtF} {call : CallF} (hm : P.follows .mixedOrders = true) (hc : CallOK gl P call) (he : ExtOK P ext) (hn : ∀ (f : Nat) (fn : Func), P.funcs[f]? = some fn → (fn.name == "runtime.NumGoroutine") = false) (f0 : Nat) (D : List Nat) : CallOK gl P (rngW P ext gl f0 D call) := by
  intro f args h nx r h' nx' e
  cases hg : Nat.beq f f0 with
  | false => simp only [rngW, hg] at e; exact hc _ _ _ _ _ _ _ e
  | true =>
    simp only [rngW, hg] at e
    split at e
    · rename_i fn hfn
      split at e
      · rename_i c hb
        split at e
        · rename_i t ht
          split at e
          · cases e
          · rename_i x t' h1 nx1 hne hx
            split at e
            · rename_i rs hrs
              cases e
              exact .inl (call_of_code hm hc he hn hfn hb ht (execR_ok hc he _ _ _ _ _ _ _ _ _ hx) (fun i hi => by subst hi; exact hne _ rfl) hrs)
            · cases e
          · cases e
        · cases e
      · cases e
    · cases e
end Go.Proofs.Ytbdmacfknhoddaa.Eng
