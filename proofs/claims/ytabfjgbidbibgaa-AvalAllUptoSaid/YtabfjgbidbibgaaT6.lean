/-
  What the functions do: contracts, and their questions answered. No condition but what its theorems ask.
-/
import Derived.Test.YtabfjgbidbibgaaT5
namespace Go.Proofs.Ytabfjgbidbibgaa.Wd
open Go.Proofs.Ytabfjgbidbibgaa.Eng Go.Proofs.Ytabfjgbidbibgaa.Sen Go.RowKit
set_option linter.defProp false
set_option linter.unusedVariables false
set_option linter.unusedSimpArgs false
set_option maxRecDepth 1000000
noncomputable section
/-! Rows, in parts. -/
theorem add_spot {x : Addr} (h : x.spot = none) (k : Nat) : (x.add k).spot = none := by
  unfold Addr.add; split
  · exact h
  · rfl
theorem Pl_slA {a : Option Addr} (h : Pl a) (c l sz : Nat) : Pl (slA a c l sz) := trivial
theorem rowP_slA {p : Pub} {a : Option Addr} {c l sz : Nat} {vs us : List Value} (h : rowP p a vs) (hl : l ≤ c) (hlen : vs.length ≤ c * sz) (hu : ∀ (j : Nat) v, us[j]? = some v → vs[l * sz + j]? = some v) : rowP p (slA a c l sz) us := by
  have hp : Pl a := Sen.rowP_Pl h
  cases us with
  | nil => exact .inl ⟨rfl, Pl_slA hp c l sz⟩
  | cons u us =>
    have h0 := hu 0 u rfl
    rcases h with ⟨rfl, _⟩ | ⟨x, rfl, hs, hc⟩
    · simp at h0
    · have hne : c ≠ l := fun e => by
        subst e
        have := (List.getElem?_eq_some_iff.mp h0).1
        omega
      refine .inr ⟨x.add (l * sz), ?_, add_spot hs _, fun j v hj => ?_⟩
      · unfold slA; rw [if_neg hne]; rfl
      · have := hc (l * sz + j) v (hu j v hj)
        rw [Addr.add_add]; exact this
theorem GV.oks_iff : ∀ {l : List GV} {p : Pub}, GV.oks l p ↔ ∀ v ∈ l, v.ok p
  | [], p => by unfold GV.oks; simp
  | v :: l, p => by
    unfold GV.oks
    rw [GV.oks_iff (l := l)]
    simp
theorem rows_split {α : Type} {f : α → List Value} (l : List α) (k : Nat) : rowsV f l = rowsV f (l.take k) ++ rowsV f (l.drop k) := by
  rw [← rows_app, List.take_append_drop]
theorem rows_pre {α : Type} {f : α → List Value} (l : List α) (k : Nat) : ∀ (j : Nat) v, (rowsV f (l.take k))[j]? = some v → (rowsV f l)[j]? = some v := fun j v h => by
  rw [rows_split l k, List.getElem?_append_left (List.getElem?_eq_some_iff.mp h).1]; exact h
theorem rows_suf {α : Type} {f : α → List Value} {e : Nat} (hf : ∀ x, (f x).length = e) (l : List α) (k : Nat) (hk : k ≤ l.length) : ∀ (j : Nat) v, (rowsV f (l.drop k))[j]? = some v → (rowsV f l)[k * e + j]? = some v := fun j v h => by
  rw [rows_split l k]
  have : (rowsV f (l.take k)).length = k * e := by rw [rows_len hf, List.length_take, Nat.min_eq_left hk]
  rw [← this, List.getElem?_append_right (Nat.le_add_right _ _), Nat.add_sub_cancel_left]; exact h
theorem one_rows {α : Type} {f : α → List Value} (h : ∀ x, ∀ v ∈ f x, v.oneCell' = true) : ∀ l, oneP (rowsV f l)
  | [] => fun v hv => by cases hv
  | x :: l => fun v hv => by
    rcases List.mem_append.1 hv with hv | hv
    · exact h x v hv
    · exact one_rows h l v hv
theorem one_tx : ∀ (x : ByteArray), ∀ v ∈ txV x, v.oneCell' = true := fun x v hv => by
  simp [txV] at hv; subst hv; rfl
theorem one_gv : ∀ (x : GV), ∀ v ∈ x.cells, v.oneCell' = true := fun x v hv => by
  simp [GV.cells] at hv
  rcases hv with rfl | rfl | rfl | rfl | rfl <;> rfl
theorem kIx_le (k : ByteArray) : ∀ l, kIx k l ≤ l.length
  | [] => Nat.zero_le _
  | a :: l => by
    rw [kIx]; split
    · have := kIx_le k l; rw [List.length_cons]; omega
    · exact Nat.zero_le _
theorem spl_mid : ∀ (xs A B C : List Value), B.length = xs.length → spl (A ++ (B ++ C)) A.length xs = A ++ (xs ++ C)
  | [], A, B, C, h => by
    have : B = [] := List.length_eq_zero_iff.mp h
    subst this; rfl
  | x :: xs, A, [], C, h => by simp at h
  | x :: xs, A, b :: B, C, h => by
    rw [spl]
    have e : (A ++ (b :: B ++ C)).set A.length x = (A ++ [x]) ++ (B ++ C) := by
      clear h
      induction A with
      | nil => rfl
      | cons a A ih => rw [List.cons_append, List.length_cons, List.set_cons_succ, ih]; rfl
    rw [e, show A.length + 1 = (A ++ [x]).length by simp, spl_mid xs (A ++ [x]) B C (by simpa using h)]
    simp
theorem rows_set {α : Type} {f : α → List Value} {e : Nat} (hf : ∀ x, (f x).length = e) (l : List α) (k : Nat) (hk : k < l.length) (x : α) : rowsV f (l.set k x) = spl (rowsV f l) (0 + k * e) (f x) := by
  rw [List.set_eq_take_append_cons_drop, if_pos hk, rows_app]
  show _ ++ (f x ++ _) = _
  have h1 : rowsV f l = rowsV f (l.take k) ++ (f l[k] ++ rowsV f (l.drop (k + 1))) := by
    conv => lhs; rw [rows_split l k, List.drop_eq_getElem_cons hk]
    rfl
  have h2 : (rowsV f (l.take k)).length = k * e := by rw [rows_len hf, List.length_take, Nat.min_eq_left (Nat.le_of_lt hk)]
  rw [h1, Nat.zero_add, ← h2]
  exact (spl_mid _ _ _ _ ((hf _).trans (hf _).symm)).symm
theorem put_ok : CtROK P 41 cPut := by
  refine ask_okR mixed (ctTab_ok nil_tab) (rlTab_ok nil_rel) (W := wPut) Try.func41 (by kernel_rfl) (show 1 ≤ 1 by decide) (show 1 ≤ 1 by decide) (fun s => by kernel_rfl) fun ⟨v, k, w⟩ => (put_eq v k w).mpr ?_
  rintro ⟨hkl, hl⟩ ⟨p, _, hp, hw⟩
  have hv := hp
  have vo := fun q (h : v.ok q) => (by rw [GV.ok_eq] at h; exact h : slP GV.cells v.x v.l q ∧ slP txV v.y v.ks q ∧ GV.oks v.l q)
  have xl : v.x.2.1 = v.l.length := (vo p hp).1.1
  have yl : v.y.2.1 = v.ks.length := (vo p hp).2.1.1
  have xc : v.l.length ≤ v.x.2.2 := by have := (vo p hp).1.2.1; omega
  have yc : v.ks.length ≤ v.y.2.2 := by have := (vo p hp).2.1.2.1; omega
  simp only [decide_eq_true_eq, decide_eq_false_iff_not, Bool.not_eq_true', Bool.not_eq_false', true_and, and_true, eq_self, imp_self, implies_true, exists_const, forall_const, Int.toNat_natCast, xl, yl]
  have kd : ∀ s, s < v.ks.length → kIx k (v.ks.drop s) = if sLess (v.ks[s]!) k = true then kIx k (v.ks.drop (s + 1)) + 1 else 0 := fun s hs => by
    rw [List.drop_eq_getElem_cons hs, kIx, getElem!_pos v.ks s hs]
  have kat : ∀ s (hs : s < v.ks.length), v.ks[s]! = v.ks[s] := fun s hs => getElem!_pos v.ks s hs
  have txc := fun s (hs : s < v.ks.length) q (h : v.ok q) => (show v.y.1 ≠ noA ∧ cellsP q (adr v.y.1 (s * 1)) [.string v.ks[s]] from slP_at tx_len (by decide) (vo q h).2.1 hs)
  refine ⟨⟨⟨0, rfl, Nat.zero_le _, Nat.zero_add _⟩, fun s ⟨hs, hk⟩ => ⟨fun hlt => ?_, fun hge => ⟨s, rfl, ?_, hs⟩⟩⟩, fun s ⟨hs, hsl⟩ => ⟨⟨fun hlt => ?_, fun hge => ?_⟩, fun hno => ?_⟩⟩
  · have hlt : s < v.ks.length := by omega
    have hd := kd s hlt
    rw [kat s hlt] at hd
    refine ⟨⟨by omega, by omega⟩, (txc s hlt p hp).1, v.ks[s], fun q hq => (txc s hlt q hq.1).2, fun hl1 => ⟨⟨by omega, by omega⟩, s + 1, by omega, ⟨by omega, by rw [if_pos hl1] at hd; omega⟩, by omega⟩, fun hl1 => ⟨s, rfl, by rw [if_neg (by rw [hl1]; decide)] at hd; omega, hs⟩⟩
  · rw [List.drop_of_length_le (by omega), kIx] at hk; omega
  · have hlt : s < v.ks.length := by omega
    have hll : s < v.l.length := by omega
    refine ⟨⟨by omega, by omega⟩, (txc s hlt p hp).1, v.ks[s], fun q hq => (txc s hlt q hq.1).2, fun he => ?_, fun he => ?_⟩
    · have hh : putHas k v.ks = true := by
        unfold putHas; rw [← hs, List.getElem?_eq_getElem hlt, he]; exact decide_eq_true rfl
      refine ⟨rowsV GV.cells v.l, rows_len gv_len _, fun q hq => (vo q hq.1).1.2.2, one_rows one_gv _, by omega, ⟨by omega, by omega⟩, by rw [List.nil_append, rows_len gv_len]; show 0 + s * 5 + 5 ≤ _; omega, fun a c _ => ⟨.mk v.n v.s (a, 0 + v.l.length, c) (v.l.set s w) v.y v.ks v.b, rfl, rfl, rfl, rfl, rfl, rfl, yl, rfl, rfl, ?_, fun q hq => ?_⟩⟩
      · rw [GV.pv]
        show PV.mk v.n v.s (GV.pvs (v.l.set s w)) v.ks v.b = _
        unfold putV putS
        rw [hh, if_pos rfl, if_pos rfl, ← hs, GV.pvs_map, GV.pvs_map, List.map_set]
      · have h2 := hq.2.2
        rw [List.nil_append] at h2
        change rowP q a (List.take ((0 + v.l.length) * 5) (spl (rowsV GV.cells v.l) (0 + s * 5) w.cells)) at h2
        rw [← rows_set gv_len v.l s hll w, List.take_of_length_le (by rw [rows_len gv_len, List.length_set]; omega)] at h2
        unfold GV.ok
        refine ⟨⟨by show 0 + v.l.length = _; rw [List.length_set]; omega, hq.2.1, h2⟩, (vo q hq.1.1).2.1, GV.oks_iff.2 fun x hx => ?_⟩
        rcases List.mem_or_eq_of_mem_set hx with hx | rfl
        · exact GV.oks_iff.1 (vo q hq.1.1).2.2 x hx
        · exact hq.1.2
    · unfold putHas; rw [← hs, List.getElem?_eq_getElem hlt]; exact decide_eq_false fun h => he (Option.some.inj h)
  · unfold putHas; rw [← hs, List.getElem?_eq_none (by omega)]; rfl
  · have hsl2 : s ≤ v.l.length := by omega
    have tl : (v.ks.take s).length = s := by rw [List.length_take]; omega
    have tl2 : (v.l.take s).length = s := by rw [List.length_take]; omega
    have r1 : (rowsV txV (v.ks.take s)).length = s * 1 := by rw [rows_len tx_len, tl]
    have r2 : (rowsV txV (v.ks.drop s)).length = (v.ks.length - s) * 1 := by rw [rows_len tx_len, List.length_drop]
    have r3 : (rowsV GV.cells (v.l.take s)).length = s * 5 := by rw [rows_len gv_len, tl2]
    have r4 : (rowsV GV.cells (v.l.drop s)).length = (v.l.length - s) * 5 := by rw [rows_len gv_len, List.length_drop]
    refine ⟨yc, ⟨by omega, by omega⟩, rowsV txV (v.ks.take s), by rw [r1]; omega, fun q hq => rowP_slA (vo q hq.1).2.1.2.2 (Nat.zero_le _) (by rw [rows_len tx_len]; omega) (fun j x hj => by rw [Nat.zero_mul, Nat.zero_add]; exact rows_pre _ _ j x hj), one_rows one_tx _, by omega, by rw [List.nil_append, r1]; omega, by omega, yc, ⟨by omega, by omega⟩, by rw [List.length_append, List.nil_append, r1]; show s * 1 + 1 = _; omega, rowsV txV (v.ks.drop s), r2, fun q hq => rowP_slA (vo q hq.1).2.1.2.2 (by omega) (by rw [rows_len tx_len]; omega) (rows_suf tx_len _ _ hsl), one_rows one_tx _, by omega, xc, ⟨by omega, by omega⟩, rowsV GV.cells (v.l.take s), by rw [r3]; omega, fun q hq => rowP_slA (vo q hq.1).1.2.2 (Nat.zero_le _) (by rw [rows_len gv_len]; omega) (fun j x hj => by rw [Nat.zero_mul, Nat.zero_add]; exact rows_pre _ _ j x hj), one_rows one_gv _, by omega, by rw [List.nil_append, r3]; omega, by omega, xc, ⟨by omega, by omega⟩, by rw [List.length_append, List.nil_append, r3]; show s * 5 + 5 = _; omega, rowsV GV.cells (v.l.drop s), r4, fun q hq => rowP_slA (vo q hq.1).1.2.2 (by omega) (by rw [rows_len gv_len]; omega) (rows_suf gv_len _ _ hsl2), one_rows one_gv _, by omega, fun a c _ a2 c2 _ => ?_⟩
    have hx : (v.l.take s ++ w :: v.l.drop s).length = 0 + (s - 0) + 1 + (v.l.length - s) := by simp; omega
    have hy : (v.ks.take s ++ k :: v.ks.drop s).length = 0 + (s - 0) + 1 + (v.ks.length - s) := by simp; omega
    refine ⟨.mk v.n v.s (a, 0 + (s - 0) + 1 + (v.l.length - s), c) (v.l.take s ++ w :: v.l.drop s) (a2, 0 + (s - 0) + 1 + (v.ks.length - s), c2) (v.ks.take s ++ k :: v.ks.drop s) v.b, rfl, rfl, rfl, rfl, rfl, rfl, rfl, rfl, rfl, ?_, fun q hq => ?_⟩
    · rw [GV.pv]
      unfold putV putS
      rw [hno, if_neg (by decide), if_neg (by decide), ← hs, GV.pvs_map, GV.pvs_map, List.map_append, List.map_cons, List.map_take, List.map_drop]
    · unfold GV.ok
      refine ⟨⟨hx.symm, hq.1.2.1, ?_⟩, ⟨hy.symm, hq.2.1, ?_⟩, GV.oks_iff.2 fun x hx => ?_⟩
      · have h2 := hq.1.2.2
        rw [List.take_of_length_le (by simp only [List.length_append, List.nil_append, r3, r4]; show s * 5 + 5 + _ ≤ _; omega)] at h2
        rw [rows_app]
        simp only [List.nil_append, List.append_assoc] at h2
        exact h2
      · have h2 := hq.2.2
        rw [List.take_of_length_le (by simp only [List.length_append, List.nil_append, r1, r2]; show s * 1 + 1 + _ ≤ _; omega)] at h2
        rw [rows_app]
        simp only [List.nil_append, List.append_assoc] at h2
        exact h2
      · have ho := GV.oks_iff.1 (vo q hq.1.1.1).2.2
        rcases List.mem_append.1 hx with hx | hx
        · exact ho x (List.mem_of_mem_take hx)
        · rcases List.mem_cons.1 hx with rfl | hx
          · exact hq.1.1.2
          · exact ho x (List.mem_of_mem_drop hx)
/-! Values of defaults: that they are values, and how many there may be. -/
abbrev VlS := List AT × SV × Int × Int × GJ × Int
abbrev VlB := Int × Int × GV
def vlO (x : SV) (all : Int) : List (Nat × AO) := [(1, .cells 129 (some 0) false [svA x, .sv (.int .i64 all)])]
def vlPost (all : Int) : VlB → Prop := fun ⟨all', e, v⟩ => all ≤ all' ∧ all' ≤ 2001 ∧ (e = 0 → all' ≤ 2000)
def sgM (S : List AT) (x : SV) (g : GJ) : PF := ⟨true, fun p => schP S x p ∧ g.ok p, fun _ _ h e => ⟨schP_mono h e.1, GJ.ok_mono h e.2⟩⟩
def sagM (S : List AT) (x : SV) (a : AT) (g : GJ) : PF := ⟨true, fun p => schP S x p ∧ a.ok p ∧ g.ok p, fun _ _ h e => ⟨schP_mono h e.1, AT.ok_mono h e.2.1, GJ.ok_mono h e.2.2⟩⟩
def cVl : CtR where
  σ := VlS
  args := fun ⟨S, x, all, t, g, d⟩ => [.ptr 1 0, .sv (.int .i64 t), g.av, .sv (.int .i64 d)]
  h := fun ⟨S, x, all, t, g, d⟩ => vlO x all
  m := 2
  pre := fun ⟨S, x, all, t, g, d⟩ => goodS S ∧ (0 ≤ t ∧ t < S.length) ∧ g.wf ∧ (0 ≤ all ∧ all ≤ 2000) ∧ 1 ≤ d ∧ d ≤ 21
  mem := fun ⟨S, x, all, t, g, d⟩ => sgM S x g
  β := fun _ => VlB
  post := fun ⟨S, x, all, t, g, d⟩ b => vlPost all b
  pm := fun _ ⟨all', e, v⟩ => vM v
  r := fun _ ⟨all', e, v⟩ => .tup [v.av, .sv (.int .i64 e)]
  h' := fun ⟨S, x, all, t, g, d⟩ ⟨all', e, v⟩ => vlO x all'
  m' := 2
def muVl : VlS → Nat := fun ⟨S, x, all, t, g, d⟩ => 2 * (25 - d).toNat
abbrev VqS := List AT × SV × Int × AT × GJ × Int
def cVq (k : AT → GJ → Prop) : CtR where
  σ := VqS
  args := fun ⟨S, x, all, a, g, d⟩ => [.ptr 1 0, a.av, g.av, .sv (.int .i64 d)]
  h := fun ⟨S, x, all, a, g, d⟩ => vlO x all
  m := 2
  pre := fun ⟨S, x, all, a, g, d⟩ => goodS S ∧ a ∈ S ∧ k a g ∧ g.wf ∧ (0 ≤ all ∧ all ≤ 2000) ∧ 1 ≤ d ∧ d ≤ 20
  mem := fun ⟨S, x, all, a, g, d⟩ => sagM S x a g
  β := fun _ => VlB
  post := fun ⟨S, x, all, a, g, d⟩ b => vlPost all b
  pm := fun _ ⟨all', e, v⟩ => vM v
  r := fun _ ⟨all', e, v⟩ => .tup [v.av, .sv (.int .i64 e)]
  h' := fun ⟨S, x, all, a, g, d⟩ ⟨all', e, v⟩ => vlO x all'
  m' := 2
def muVq : VqS → Nat := fun ⟨S, x, all, a, g, d⟩ => 2 * (25 - d).toNat
def isArr (a : AT) (g : GJ) : Prop := a.k = 12
def isMap (a : AT) (g : GJ) : Prop := a.k = 13 ∧ g.k = 6
def isPar (a : AT) (g : GJ) : Prop := a.k = 12 ∨ a.k = 13 ∧ g.k = 6
def isRec (a : AT) (g : GJ) : Prop := a.k = 9
def kdOf (t : T AV) (h : T AO) : Option Int := match t.get 10 with
  | some (.ptr b _) => match h.get b with
    | some (.cells _ _ _ (v :: _)) => match gi v with
      | some (_, k) => some k
      | none => none
    | _ => none
  | _ => none
def bq (a b gk k : Int) : Bool := decide (k = a) && decide (gk = b)
def bI (gk gn k : Int) : Bool := decide (k = 3) && (decide (gk = 3) && (decide (-2147483648 ≤ gn) && decide (gn < 2147483648)))
def bN (gk gn k : Int) : Bool := bI gk gn k || bq 4 3 gk k
def bT (gk k : Int) : Bool := (decide (k = 7) || decide (k = 11)) && decide (gk = 4)
def bP (gk k : Int) : Bool := bq 12 5 gk k || bq 13 6 gk k
def cbK (f : Int → Bool) (i : Nat) (keep : List Nat) (t : T AV) (h : T AO) : Option LT := match kdOf t h with
  | some k => some { σ := Unit, t := fun _ => [(i, .sv (.bool (f k)))], h := fun _ => [], more := 0, μ := fun _ => 0, keep := keep }
  | none => none
def wVl : VlS → WayF := fun ⟨S, x, all, t, g, d⟩ => {
  ann := fun _ _ _ => some { σ := Nat, t := fun j => [(14, .sv (.int .i64 (j : Int)))], h := fun _ => [], more := 0, μ := fun j => 1000 - j, keep := [0, 3, 6, 8, 10, 11] }
  pubE := [250]
  spl := fun i => match i with
    | 35 => some 8
    | _ => none
  flo := fun i => match i with
    | 35 => some (12, [8])
    | _ => none
  cut := fun i t h => match i with
    | 7 => cbK (bq 1 1 g.k) 45 [0, 3, 6, 8, 10, 11] t h
    | 9 => cbK (bq 2 2 g.k) 55 [0, 3, 6, 8, 10, 11] t h
    | 11 => cbK (bI g.k g.n) 68 [0, 3, 6, 8, 10, 11] t h
    | 12 => cbK (bN g.k g.n) 68 [0, 3, 6, 8, 10, 11] t h
    | 14 => cbK (bq 5 3 g.k) 95 [0, 3, 6, 8, 10, 11] t h
    | 16 => cbK (bq 6 3 g.k) 107 [0, 3, 6, 8, 10, 11] t h
    | 18 => cbK (bq 8 4 g.k) 118 [0, 3, 6, 8, 10, 11] t h
    | 20 => cbK (bT g.k) 130 [0, 3, 6, 8, 10, 11] t h
    | 22 => some { σ := Bool, t := fun b => [(162, .sv (.bool b))], h := fun _ => [], more := 0, μ := fun _ => 0, keep := [8, 12] }
    | 24 => cbK (bq 10 4 g.k) 165 [0, 3, 6, 8, 10, 11] t h
    | 30 => cbK (bq 12 5 g.k) 192 [0, 3, 6, 8, 10, 11] t h
    | 31 => cbK (bP g.k) 192 [0, 3, 6, 8, 10, 11] t h
    | 33 => cbK (bq 9 6 g.k) 216 [0, 3, 6, 8, 10, 11] t h
    | 37 => some { σ := Unit, t := fun _ => [], h := fun _ => [], more := 0, μ := fun _ => 0, keep := [8] }
    | 36 => some { σ := VlB, t := fun ⟨all', e, v⟩ => [(16, .sv (.int .i64 e)), (15, .ptr 50 0)], h := fun ⟨all', e, v⟩ => [(50, .cells 27 (some 0) false [.sv (.int .u64 v.n), .sv (.string v.s), svA v.x, svA v.y, .sv (.int .i64 v.b)])] ++ vlO x all', pre := vlPost all, mem := fun ⟨all', e, v⟩ => vM v, more := 60, μ := fun _ => 0, keep := [8] }
    | _ => none }
def avO (v : GV) : AO := .cells 27 (some 0) false [.sv (.int .u64 v.n), .sv (.string v.s), svA v.x, svA v.y, .sv (.int .i64 v.b)]
def rwO (r n k : Nat) : AO := .cells 27 (some 0) false [.int .u64 0, .str [], .ssl r 0 n 5 k, .nsl, .int .i64 0]
def gsM (fs : List GV) : PF := ⟨true, GV.oks fs, fun _ _ h e => GV.oks_mono h e⟩
def cutV (x : SV) (all : Int) (pt es : Nat) (keep : List Nat) : LT := { σ := VlB, t := fun ⟨all', e, v⟩ => [(es, .sv (.int .i64 e)), (pt, .ptr 50 0)], h := fun ⟨all', e, v⟩ => [(50, avO v)] ++ vlO x all', pre := vlPost all, mem := fun ⟨all', e, v⟩ => vM v, more := 60, μ := fun _ => 0, keep := keep }
def vlAll (h : T AO) : Int := match h.get 1 with
  | some (.cells _ _ _ [_, .sv (.int _ a)]) => a
  | _ => 0
def wPa : VqS → WayF := fun ⟨S, x, all, a, g, d⟩ => {
  ann := fun _ _ _ => some { σ := Nat × Int × List GV, pre := fun ⟨j, all', fs⟩ => j ≤ g.l.length ∧ (all ≤ all' ∧ all' ≤ 2000) ∧ fs.length = j, mem := fun ⟨j, all', fs⟩ => gsM fs, t := fun ⟨j, all', fs⟩ => [(11, .sv (.int .i64 (j : Int)))], h := fun ⟨j, all', fs⟩ => vlO x all' ++ [(5, rwO 6 fs.length 7), (6, .row 27 0 (rowsV GV.cells fs))], more := 2, μ := fun ⟨j, all', fs⟩ => g.l.length - j, keep := [0, 3, 5, 6, 8, 10] }
  pubE := [57]
  spl := fun i => match i with
    | 5 => some 10
    | 10 => some 7
    | _ => none
  flo := fun i => match i with
    | 5 => some (14, [10])
    | _ => none
  cut := fun i _ h => match i with
    | 6 => some (cutV x (vlAll h) 12 13 [0, 3, 5, 6, 8, 10, 11])
    | _ => none }
def wPm : VqS → WayF := fun ⟨S, x, all, a, g, d⟩ => {
  ann := fun _ _ _ => some { σ := Nat × Int × GV, pre := fun ⟨j, all', v⟩ => j ≤ g.l.length ∧ (all ≤ all' ∧ all' ≤ 2000) ∧ v.ks.length = v.l.length ∧ v.l.length ≤ j, mem := fun ⟨j, all', v⟩ => vM v, t := fun ⟨j, all', v⟩ => [(11, .sv (.int .i64 (j : Int)))], h := fun ⟨j, all', v⟩ => vlO x all' ++ [(5, avO v)], more := 0, μ := fun ⟨j, all', v⟩ => g.l.length - j, keep := [0, 3, 5, 6, 8, 10] }
  spl := fun i => match i with
    | 5 => some 10
    | 10 => some 7
    | _ => none
  flo := fun i => match i with
    | 5 => some (14, [10])
    | _ => none
  cut := fun i _ h => match i with
    | 6 => some (cutV x (vlAll h) 12 13 [0, 3, 5, 6, 8, 10, 11])
    | _ => none }
def jnO (g : GJ) : AO := .cells 66 (some 0) false [.sv (.int .i64 g.k), .sv (.int .i64 g.n), .sv (.string g.s), svA g.y, svA g.x]
def wRe : VqS → WayF := fun ⟨S, x, all, a, g, d⟩ => {
  ann := fun _ _ _ => some { σ := Nat × Int × List GV, pre := fun ⟨j, all', fs⟩ => j ≤ a.fs.length ∧ (all ≤ all' ∧ all' ≤ 2000) ∧ fs.length = j, mem := fun ⟨j, all', fs⟩ => gsM fs, t := fun ⟨j, all', fs⟩ => [(11, .sv (.int .i64 (j : Int)))], h := fun ⟨j, all', fs⟩ => vlO x all' ++ [(5, rwO 6 fs.length 7), (6, .row 27 0 (rowsV GV.cells fs))], more := 2, μ := fun ⟨j, all', fs⟩ => a.fs.length - j, keep := [0, 3, 5, 6, 8, 10] }
  pubE := [65]
  cut := fun i _ h => match i with
    | 11 => some { σ := GJ, pre := fun c => c.wf, mem := gM, t := fun c => [(13, .ptr 50 0)], h := fun c => [(50, jnO c)], more := 60, μ := fun _ => 0, keep := [0, 3, 5, 6, 8, 10, 11, 12] }
    | _ => none }
noncomputable section
variable (x0 : Int) (x1 : SV) (x2 : Int) (x3 : GJ) (x4 : AT) (x5 : List AT) (x6 : Nat) (x7 : Nat × Int × List GV) (x8 : VlB) (x9 : Prop) (x10 : Nat → Option Obj)
 abbrev zbz15 := True ∧ schP x5 x1 x10 ∧ AT.ok x4 x10 ∧ GJ.ok x3 x10
 abbrev zbz11 := x1.1 = x1.1 ∧ x1.2.1 = x1.2.1 ∧ x1.2.2 = x1.2.2 ∧ x9
 abbrev zbz9 := GJ.k x3 = GJ.k x3 ∧ GJ.n x3 = GJ.n x3 ∧ GJ.s x3 = GJ.s x3 ∧ (GJ.y x3).1 = (GJ.y x3).1 ∧ (GJ.y x3).2.1 = (GJ.y x3).2.1 ∧ (GJ.y x3).2.2 = (GJ.y x3).2.2 ∧ (GJ.x x3).1 = (GJ.x x3).1 ∧ (GJ.x x3).2.1 = (GJ.x x3).2.1 ∧ (GJ.x x3).2.2 = (GJ.x x3).2.2 ∧ x9
 abbrev zbz8 := AT.k x4 = AT.k x4 ∧ AT.nm x4 = AT.nm x4 ∧ (AT.al x4).1 = (AT.al x4).1 ∧ (AT.al x4).2.1 = (AT.al x4).2.1 ∧ (AT.al x4).2.2 = (AT.al x4).2.2 ∧ AT.it x4 = AT.it x4 ∧ (AT.sy x4).1 = (AT.sy x4).1 ∧ (AT.sy x4).2.1 = (AT.sy x4).2.1 ∧ (AT.sy x4).2.2 = (AT.sy x4).2.2 ∧ AT.hd x4 = AT.hd x4 ∧ AT.df x4 = AT.df x4 ∧ AT.sz x4 = AT.sz x4 ∧ (AT.f x4).1 = (AT.f x4).1 ∧ (AT.f x4).2.1 = (AT.f x4).2.1 ∧ (AT.f x4).2.2 = (AT.f x4).2.2 ∧ (AT.br x4).1 = (AT.br x4).1 ∧ (AT.br x4).2.1 = (AT.br x4).2.1 ∧ (AT.br x4).2.2 = (AT.br x4).2.2 ∧ x9
 abbrev zbz13 := x7.1 ≤ List.length (GJ.l x3) ∧ (x0 ≤ x7.2.1 ∧ x7.2.1 ≤ 2000) ∧ List.length x7.2.2 = x7.1
 abbrev zbz10 := (zbz15 x1 x3 x4 x5 x10) ∧ GV.oks x7.2.2 x10
 abbrev zbz16 := (↑x7.1 : Int) < (↑(GJ.y x3).2.1 : Int)
 abbrev zbz7 := vlAll (T.n (T.n (T.n T.e (some (AO.cells 66 (some 0) false [AV.sv (Value.int IntKind.i64 (GJ.k x3)), AV.sv (Value.int IntKind.i64 (GJ.n x3)), AV.sv (Value.string (GJ.s x3)), AV.sv (Value.slice (GJ.y x3).1 (GJ.y x3).2.1 (GJ.y x3).2.2), AV.sv (Value.slice (GJ.x x3).1 (GJ.x x3).2.1 (GJ.x x3).2.2)])) T.e) (some (AO.cells (129 : TypeId) (some 0) false [AV.sv (Value.slice x1.1 x1.2.1 x1.2.2), AV.sv (Value.int IntKind.i64 x7.2.1)])) (T.n T.e (some (AO.cells (27 : TypeId) (some 0) false [AV.int IntKind.u64 0, AV.str [], AV.ssl (nat_lit 6) (nat_lit 0) (List.length x7.2.2) (nat_lit 5) (nat_lit 7), AV.nsl, AV.int IntKind.i64 0])) T.e)) none (T.n (T.n T.e (some (AO.cells 27 (some 0) false [AV.int IntKind.u64 0, AV.str (List.map UInt8.toNat (Array.toList (ByteArray.data (mkS [])))), AV.nsl, AV.nsl, AV.int IntKind.i64 0])) T.e) (some (AO.cells 57 (some 0) false [AV.sv (Value.int IntKind.i64 (AT.k x4)), AV.sv (Value.string (AT.nm x4)), AV.sv (Value.slice (AT.al x4).1 (AT.al x4).2.1 (AT.al x4).2.2), AV.sv (Value.int IntKind.i64 (AT.it x4)), AV.sv (Value.slice (AT.sy x4).1 (AT.sy x4).2.1 (AT.sy x4).2.2), AV.sv (Value.bool (AT.hd x4)), AV.sv (Value.string (AT.df x4)), AV.sv (Value.int IntKind.i64 (AT.sz x4)), AV.sv (Value.slice (AT.f x4).1 (AT.f x4).2.1 (AT.f x4).2.2), AV.sv (Value.slice (AT.br x4).1 (AT.br x4).2.1 (AT.br x4).2.2)])) (T.n T.e (some (AO.row (27 : TypeId) (nat_lit 0) (rowsV GV.cells x7.2.2))) T.e)))
 abbrev zbz3 := (0 ≤ (↑x7.1 : Int) ∧ zbz16 x3 x7) ∧ (GJ.y x3).1 ≠ noA ∧ ∃ (i0 : Int), ∃ (i1 : Int), ∃ (i2 : ByteArray), ∃ (i3 : Option Addr), ∃ (i4 : Nat), ∃ (i5 : Nat), ∃ (i6 : Option Addr), ∃ (i7 : Nat), ∃ (i8 : Nat), (∀ (i9 : Pub), zbz10 x1 x3 x4 x5 x7 i9 → cellsP i9 (adr (GJ.y x3).1 (Int.toNat (↑x7.1 : Int) * 5)) [Value.int IntKind.i64 i0, Value.int IntKind.i64 i1, Value.string i2, Value.slice i3 i4 i5, Value.slice i6 i7 i8]) ∧ ((-9223372036854775808 : Int) ≤ x0 + 1 ∧ x0 + 1 ≤ 9223372036854775807) ∧ ∃ (i10 : VlS), i10.2.2.2.1 = AT.it x4 ∧ GJ.k i10.2.2.2.2.1 = i0 ∧ GJ.n i10.2.2.2.2.1 = i1 ∧ GJ.s i10.2.2.2.2.1 = i2 ∧ (GJ.y i10.2.2.2.2.1).1 = i3 ∧ (GJ.y i10.2.2.2.2.1).2.1 = i4 ∧ (GJ.y i10.2.2.2.2.1).2.2 = i5 ∧ (GJ.x i10.2.2.2.2.1).1 = i6 ∧ (GJ.x i10.2.2.2.2.1).2.1 = i7 ∧ (GJ.x i10.2.2.2.2.1).2.2 = i8 ∧ i10.2.2.2.2.2 = x0 + 1 ∧ i10.2.1.1 = x1.1 ∧ i10.2.1.2.1 = x1.2.1 ∧ i10.2.1.2.2 = x1.2.2 ∧ i10.2.2.1 = x7.2.1 ∧ (muVl i10 < x6 ∧ goodS i10.1 ∧ (0 ≤ i10.2.2.2.1 ∧ i10.2.2.2.1 < (↑(List.length i10.1) : Int)) ∧ GJ.wf i10.2.2.2.2.1 ∧ (0 ≤ i10.2.2.1 ∧ i10.2.2.1 ≤ 2000) ∧ 1 ≤ i10.2.2.2.2.2 ∧ i10.2.2.2.2.2 ≤ 21) ∧ (∀ (i11 : Pub), zbz10 x1 x3 x4 x5 x7 i11 → schP i10.1 i10.2.1 i11 ∧ GJ.ok i10.2.2.2.2.1 i11) ∧ ∀ (i12 : VlB), vlPost i10.2.2.1 i12 → (∃ (i13 : Pub), (zbz10 x1 x3 x4 x5 x7 i13) ∧ GV.ok i12.2.2 i13) → ∃ (i14 : VlB), x0 = x0 ∧ (↑x7.1 : Int) = (↑x7.1 : Int) ∧ i14.2.1 = i12.2.1 ∧ x1.1 = i10.2.1.1 ∧ x1.2.1 = i10.2.1.2.1 ∧ x1.2.2 = i10.2.1.2.2 ∧ i14.1 = i12.1 ∧ zbz9 x3 (List.length x7.2.2 = List.length x7.2.2 ∧ zbz8 x4 (rowsV GV.cells x7.2.2 = rowsV GV.cells x7.2.2 ∧ GV.n i14.2.2 = GV.n i12.2.2 ∧ GV.s i14.2.2 = GV.s i12.2.2 ∧ (GV.x i14.2.2).1 = (GV.x i12.2.2).1 ∧ (GV.x i14.2.2).2.1 = (GV.x i12.2.2).2.1 ∧ (GV.x i14.2.2).2.2 = (GV.x i12.2.2).2.2 ∧ (GV.y i14.2.2).1 = (GV.y i12.2.2).1 ∧ (GV.y i14.2.2).2.1 = (GV.y i12.2.2).2.1 ∧ (GV.y i14.2.2).2.2 = (GV.y i12.2.2).2.2 ∧ GV.b i14.2.2 = GV.b i12.2.2 ∧ (∀ (i15 : Pub), (zbz10 x1 x3 x4 x5 x7 i15) ∧ GV.ok i12.2.2 i15 → zbz10 x1 x3 x4 x5 x7 i15) ∧ (∀ (i16 : Pub), (zbz10 x1 x3 x4 x5 x7 i16) ∧ GV.ok i12.2.2 i16 → GV.ok i14.2.2 i16) ∧ vlPost (zbz7 x1 x3 x4 x7) i14 ∧ True))
 abbrev zbz14 := (GV.y x8.2.2).1 = noA ∧ (GV.y x8.2.2).2.1 = 0 ∧ (GV.y x8.2.2).2.2 = 0 ∧ GV.b x8.2.2 = 0 ∧ x9
 abbrev zbz6 := List.length (rowsV GV.cells x7.2.2) = List.length x7.2.2 * 5 ∧ (List.length x7.2.2 + nat_lit 1) * 80 ≤ 140737488355328 ∧ ((-9223372036854775808 : Int) ≤ (↑x7.1 : Int) + 1 ∧ (↑x7.1 : Int) + 1 ≤ 9223372036854775807) ∧ ∃ (i0 : Nat × Int × List GV), x0 = x0 ∧ (↑i0.1 : Int) = (↑x7.1 : Int) + 1 ∧ zbz11 x1 (i0.2.1 = x8.1 ∧ zbz9 x3 (List.length i0.2.2 = List.length x7.2.2 + nat_lit 1 ∧ zbz8 x4 (rowsV GV.cells i0.2.2 = rowsV GV.cells x7.2.2 ++ [Value.int IntKind.u64 (GV.n x8.2.2), Value.string (GV.s x8.2.2), Value.slice (GV.x x8.2.2).1 (GV.x x8.2.2).2.1 (GV.x x8.2.2).2.2, Value.slice (GV.y x8.2.2).1 (GV.y x8.2.2).2.1 (GV.y x8.2.2).2.2, Value.int IntKind.i64 (GV.b x8.2.2)] ∧ (∀ (i1 : Pub), (zbz10 x1 x3 x4 x5 x7 i1) ∧ GV.ok x8.2.2 i1 → zbz15 x1 x3 x4 x5 i1) ∧ (∀ (i2 : Pub), (zbz10 x1 x3 x4 x5 x7 i2) ∧ GV.ok x8.2.2 i2 → GV.oks i0.2.2 i2) ∧ (zbz13 x2 x3 i0) ∧ List.length (GJ.l x3) - i0.1 < List.length (GJ.l x3) - x7.1 ∧ True)))
 abbrev zbz12 := (0 ≤ (↑x7.1 : Int) ∧ (↑x7.1 : Int) < (↑(GJ.x x3).2.1 : Int)) ∧ (GJ.x x3).1 ≠ noA ∧ ∃ (i0 : ByteArray), (∀ (i1 : Pub), (zbz10 x1 x3 x4 x5 x7 i1) ∧ GV.ok x8.2.2 i1 → cellsP i1 (adr (GJ.x x3).1 (Int.toNat (↑x7.1 : Int) * 1)) [Value.string i0]) ∧ ∃ (i2 : GV × ByteArray × GV), GV.n i2.1 = 0 ∧ GV.s i2.1 = mkS [] ∧ False
 abbrev zbz5 := (decide (AT.k x4 = 12) = true → zbz6 x0 x1 x2 x3 x4 x5 x7 x8) ∧ (decide (AT.k x4 = 12) = false → zbz12 x1 x3 x4 x5 x7 x8)
 abbrev zbz4 := ((!decide (x8.2.1 = 0)) = true → ∃ (i0 : VlB), GV.n i0.2.2 = 0 ∧ GV.s i0.2.2 = mkS [] ∧ (GV.x i0.2.2).1 = noA ∧ (GV.x i0.2.2).2.1 = 0 ∧ (GV.x i0.2.2).2.2 = 0 ∧ zbz14 i0 (i0.2.1 = x8.2.1 ∧ zbz11 x1 (i0.1 = x8.1 ∧ vlPost x0 i0 ∧ (∀ (i1 : Pub), (zbz10 x1 x3 x4 x5 x7 i1) ∧ GV.ok x8.2.2 i1 → GV.ok i0.2.2 i1) ∧ True))) ∧ ((!decide (x8.2.1 = 0)) = false → zbz5 x2 x1 x0 x3 x4 x5 x7 x8)
 abbrev zbz2 := ((zbz3 x0 x1 x3 x4 x5 x6 x7) ∧ zbz3 x0 x1 x3 x4 x5 x6 x7) ∧ ∀ (i34 : VlB), vlPost (zbz7 x1 x3 x4 x7) i34 → (∃ (i35 : Pub), (zbz10 x1 x3 x4 x5 x7 i35) ∧ GV.ok i34.2.2 i35) → zbz4 x2 x1 x0 x3 x4 x5 x7 i34
 abbrev zbz1 := (decide (zbz16 x3 x7) = true → zbz2 x0 x1 x2 x3 x4 x5 x6 x7) ∧ (decide (zbz16 x3 x7) = false → ∀ (i44 i45 i46 : Nat) (i47 : Option Addr) (i48 i49 : Nat), (∃ (i50 : Pub), (zbz10 x1 x3 x4 x5 x7 i50) ∧ List.length x7.2.2 ≤ i49 ∧ rowP i50 i47 (List.take (List.length x7.2.2 * nat_lit 5) (rowsV GV.cells x7.2.2))) → ∃ (i51 : VlB), GV.n i51.2.2 = 0 ∧ GV.s i51.2.2 = mkS [] ∧ (GV.x i51.2.2).1 = i47 ∧ (GV.x i51.2.2).2.1 = List.length x7.2.2 ∧ (GV.x i51.2.2).2.2 = i49 ∧ zbz14 i51 (i51.2.1 = 0 ∧ zbz11 x1 (i51.1 = x7.2.1 ∧ vlPost x2 i51 ∧ (∀ (i52 : Pub), (zbz10 x1 x3 x4 x5 x7 i52) ∧ List.length x7.2.2 ≤ i49 ∧ rowP i52 i47 (List.take (List.length x7.2.2 * nat_lit 5) (rowsV GV.cells x7.2.2)) → GV.ok i51.2.2 i52) ∧ True)))
 abbrev zbz0 := (∃ (i0 : Nat × Int × List GV), x0 = x0 ∧ (↑i0.1 : Int) = 0 ∧ zbz11 x1 (i0.2.1 = x2 ∧ zbz9 x3 (List.length i0.2.2 = 0 ∧ zbz8 x4 ((∀ (i1 : Pub), zbz15 x1 x3 x4 x5 i1 → zbz15 x1 x3 x4 x5 i1) ∧ (∀ (i2 : Pub), zbz15 x1 x3 x4 x5 i2 → GV.oks i0.2.2 i2) ∧ (zbz13 x2 x3 i0) ∧ True)))) ∧ ∀ (i3 : Nat × Int × List GV), zbz13 x2 x3 i3 → (∃ (i4 : Pub), zbz10 x1 x3 x4 x5 i3 i4) → zbz1 x0 x1 x2 x3 x4 x5 x6 i3
end
theorem partA_eqz (n : Nat) (S : List AT) (x : SV) (all : Int) (a : AT) (g : GJ) (d : Int) : askR P (ctTab []) (rlTab [(76, cVl.below muVl n), (41, cPut)]) Try.f107 ((cVq isArr).below muVq (n + 1)) (wPa) ⟨S, x, all, a, g, d⟩ = (muVq (S, x, all, a, g, d) < n + 1 ∧ goodS S ∧ a ∈ S ∧ isArr a g ∧ GJ.wf g ∧ (0 ≤ all ∧ all ≤ 2000) ∧ 1 ≤ d ∧ d ≤ 20 → (∃ (p : Pub), zbz15 x g a S p) → zbz0 d x all g a S n) := by kernel_rfl
def partA_eq (n : Nat) (S : List AT) (x : SV) (all : Int) (a : AT) (g : GJ) (d : Int) := Eq.trans (partA_eqz n S x all a g d) (by delta zbz15 zbz11 zbz9 zbz8 zbz13 zbz10 zbz16 zbz7 zbz3 zbz14 zbz6 zbz12 zbz5 zbz4 zbz2 zbz1 zbz0; exact rfl)
noncomputable section
variable (x0 : Int) (x1 : SV) (x2 : Int) (x3 : GJ) (x4 : AT) (x5 : List AT) (x6 : Nat) (x7 : Nat × Int × GV) (x8 : VlB) (x9 : GV) (x10 : Prop) (x11 : Nat → Option Obj)
 abbrev zca14 := True ∧ schP x5 x1 x11 ∧ AT.ok x4 x11 ∧ GJ.ok x3 x11
 abbrev zca13 := x1.1 = x1.1 ∧ x1.2.1 = x1.2.1 ∧ x1.2.2 = x1.2.2 ∧ x10
 abbrev zca10 := GJ.k x3 = GJ.k x3 ∧ GJ.n x3 = GJ.n x3 ∧ GJ.s x3 = GJ.s x3 ∧ (GJ.y x3).1 = (GJ.y x3).1 ∧ (GJ.y x3).2.1 = (GJ.y x3).2.1 ∧ (GJ.y x3).2.2 = (GJ.y x3).2.2 ∧ (GJ.x x3).1 = (GJ.x x3).1 ∧ (GJ.x x3).2.1 = (GJ.x x3).2.1 ∧ (GJ.x x3).2.2 = (GJ.x x3).2.2 ∧ x10
 abbrev zca9 := AT.k x4 = AT.k x4 ∧ AT.nm x4 = AT.nm x4 ∧ (AT.al x4).1 = (AT.al x4).1 ∧ (AT.al x4).2.1 = (AT.al x4).2.1 ∧ (AT.al x4).2.2 = (AT.al x4).2.2 ∧ AT.it x4 = AT.it x4 ∧ (AT.sy x4).1 = (AT.sy x4).1 ∧ (AT.sy x4).2.1 = (AT.sy x4).2.1 ∧ (AT.sy x4).2.2 = (AT.sy x4).2.2 ∧ AT.hd x4 = AT.hd x4 ∧ AT.df x4 = AT.df x4 ∧ AT.sz x4 = AT.sz x4 ∧ (AT.f x4).1 = (AT.f x4).1 ∧ (AT.f x4).2.1 = (AT.f x4).2.1 ∧ (AT.f x4).2.2 = (AT.f x4).2.2 ∧ (AT.br x4).1 = (AT.br x4).1 ∧ (AT.br x4).2.1 = (AT.br x4).2.1 ∧ (AT.br x4).2.2 = (AT.br x4).2.2 ∧ x10
 abbrev zca12 := x7.1 ≤ List.length (GJ.l x3) ∧ (x0 ≤ x7.2.1 ∧ x7.2.1 ≤ 2000) ∧ List.length (GV.ks x7.2.2) = List.length (GV.l x7.2.2) ∧ List.length (GV.l x7.2.2) ≤ x7.1
 abbrev zca11 := (zca14 x1 x3 x4 x5 x11) ∧ GV.ok x7.2.2 x11
 abbrev zca15 := (↑x7.1 : Int) < (↑(GJ.y x3).2.1 : Int)
 abbrev zca8 := vlAll (T.n (T.n (T.n T.e (some (AO.cells 66 (some 0) false [AV.sv (Value.int IntKind.i64 (GJ.k x3)), AV.sv (Value.int IntKind.i64 (GJ.n x3)), AV.sv (Value.string (GJ.s x3)), AV.sv (Value.slice (GJ.y x3).1 (GJ.y x3).2.1 (GJ.y x3).2.2), AV.sv (Value.slice (GJ.x x3).1 (GJ.x x3).2.1 (GJ.x x3).2.2)])) T.e) (some (AO.cells (129 : TypeId) (some 0) false [AV.sv (Value.slice x1.1 x1.2.1 x1.2.2), AV.sv (Value.int IntKind.i64 x7.2.1)])) (T.n T.e (some (AO.cells (27 : TypeId) (some 0) false [AV.sv (Value.int IntKind.u64 (GV.n x7.2.2)), AV.sv (Value.string (GV.s x7.2.2)), AV.sv (Value.slice (GV.x x7.2.2).1 (GV.x x7.2.2).2.1 (GV.x x7.2.2).2.2), AV.sv (Value.slice (GV.y x7.2.2).1 (GV.y x7.2.2).2.1 (GV.y x7.2.2).2.2), AV.sv (Value.int IntKind.i64 (GV.b x7.2.2))])) T.e)) none (T.n (T.n T.e (some (AO.cells 27 (some 0) false [AV.int IntKind.u64 0, AV.str (List.map UInt8.toNat (Array.toList (ByteArray.data (mkS [])))), AV.nsl, AV.nsl, AV.int IntKind.i64 0])) T.e) (some (AO.cells 57 (some 0) false [AV.sv (Value.int IntKind.i64 (AT.k x4)), AV.sv (Value.string (AT.nm x4)), AV.sv (Value.slice (AT.al x4).1 (AT.al x4).2.1 (AT.al x4).2.2), AV.sv (Value.int IntKind.i64 (AT.it x4)), AV.sv (Value.slice (AT.sy x4).1 (AT.sy x4).2.1 (AT.sy x4).2.2), AV.sv (Value.bool (AT.hd x4)), AV.sv (Value.string (AT.df x4)), AV.sv (Value.int IntKind.i64 (AT.sz x4)), AV.sv (Value.slice (AT.f x4).1 (AT.f x4).2.1 (AT.f x4).2.2), AV.sv (Value.slice (AT.br x4).1 (AT.br x4).2.1 (AT.br x4).2.2)])) T.e))
 abbrev zca3 := (0 ≤ (↑x7.1 : Int) ∧ zca15 x3 x7) ∧ (GJ.y x3).1 ≠ noA ∧ ∃ (i0 : Int), ∃ (i1 : Int), ∃ (i2 : ByteArray), ∃ (i3 : Option Addr), ∃ (i4 : Nat), ∃ (i5 : Nat), ∃ (i6 : Option Addr), ∃ (i7 : Nat), ∃ (i8 : Nat), (∀ (i9 : Pub), zca11 x1 x3 x4 x5 x7 i9 → cellsP i9 (adr (GJ.y x3).1 (Int.toNat (↑x7.1 : Int) * 5)) [Value.int IntKind.i64 i0, Value.int IntKind.i64 i1, Value.string i2, Value.slice i3 i4 i5, Value.slice i6 i7 i8]) ∧ ((-9223372036854775808 : Int) ≤ x0 + 1 ∧ x0 + 1 ≤ 9223372036854775807) ∧ ∃ (i10 : VlS), i10.2.2.2.1 = AT.it x4 ∧ GJ.k i10.2.2.2.2.1 = i0 ∧ GJ.n i10.2.2.2.2.1 = i1 ∧ GJ.s i10.2.2.2.2.1 = i2 ∧ (GJ.y i10.2.2.2.2.1).1 = i3 ∧ (GJ.y i10.2.2.2.2.1).2.1 = i4 ∧ (GJ.y i10.2.2.2.2.1).2.2 = i5 ∧ (GJ.x i10.2.2.2.2.1).1 = i6 ∧ (GJ.x i10.2.2.2.2.1).2.1 = i7 ∧ (GJ.x i10.2.2.2.2.1).2.2 = i8 ∧ i10.2.2.2.2.2 = x0 + 1 ∧ i10.2.1.1 = x1.1 ∧ i10.2.1.2.1 = x1.2.1 ∧ i10.2.1.2.2 = x1.2.2 ∧ i10.2.2.1 = x7.2.1 ∧ (muVl i10 < x6 ∧ goodS i10.1 ∧ (0 ≤ i10.2.2.2.1 ∧ i10.2.2.2.1 < (↑(List.length i10.1) : Int)) ∧ GJ.wf i10.2.2.2.2.1 ∧ (0 ≤ i10.2.2.1 ∧ i10.2.2.1 ≤ 2000) ∧ 1 ≤ i10.2.2.2.2.2 ∧ i10.2.2.2.2.2 ≤ 21) ∧ (∀ (i11 : Pub), zca11 x1 x3 x4 x5 x7 i11 → schP i10.1 i10.2.1 i11 ∧ GJ.ok i10.2.2.2.2.1 i11) ∧ ∀ (i12 : VlB), vlPost i10.2.2.1 i12 → (∃ (i13 : Pub), (zca11 x1 x3 x4 x5 x7 i13) ∧ GV.ok i12.2.2 i13) → ∃ (i14 : VlB), x0 = x0 ∧ (↑x7.1 : Int) = (↑x7.1 : Int) ∧ i14.2.1 = i12.2.1 ∧ x1.1 = i10.2.1.1 ∧ x1.2.1 = i10.2.1.2.1 ∧ x1.2.2 = i10.2.1.2.2 ∧ i14.1 = i12.1 ∧ zca10 x3 (GV.n x7.2.2 = GV.n x7.2.2 ∧ GV.s x7.2.2 = GV.s x7.2.2 ∧ (GV.x x7.2.2).1 = (GV.x x7.2.2).1 ∧ (GV.x x7.2.2).2.1 = (GV.x x7.2.2).2.1 ∧ (GV.x x7.2.2).2.2 = (GV.x x7.2.2).2.2 ∧ (GV.y x7.2.2).1 = (GV.y x7.2.2).1 ∧ (GV.y x7.2.2).2.1 = (GV.y x7.2.2).2.1 ∧ (GV.y x7.2.2).2.2 = (GV.y x7.2.2).2.2 ∧ GV.b x7.2.2 = GV.b x7.2.2 ∧ zca9 x4 (GV.n i14.2.2 = GV.n i12.2.2 ∧ GV.s i14.2.2 = GV.s i12.2.2 ∧ (GV.x i14.2.2).1 = (GV.x i12.2.2).1 ∧ (GV.x i14.2.2).2.1 = (GV.x i12.2.2).2.1 ∧ (GV.x i14.2.2).2.2 = (GV.x i12.2.2).2.2 ∧ (GV.y i14.2.2).1 = (GV.y i12.2.2).1 ∧ (GV.y i14.2.2).2.1 = (GV.y i12.2.2).2.1 ∧ (GV.y i14.2.2).2.2 = (GV.y i12.2.2).2.2 ∧ GV.b i14.2.2 = GV.b i12.2.2 ∧ (∀ (i15 : Pub), (zca11 x1 x3 x4 x5 x7 i15) ∧ GV.ok i12.2.2 i15 → zca11 x1 x3 x4 x5 x7 i15) ∧ (∀ (i16 : Pub), (zca11 x1 x3 x4 x5 x7 i16) ∧ GV.ok i12.2.2 i16 → GV.ok i14.2.2 i16) ∧ vlPost (zca8 x1 x3 x4 x7) i14 ∧ True))
 abbrev zca7 := ((-9223372036854775808 : Int) ≤ (↑x7.1 : Int) + 1 ∧ (↑x7.1 : Int) + 1 ≤ 9223372036854775807) ∧ ∃ (i0 : Nat × Int × GV), x0 = x0 ∧ (↑i0.1 : Int) = (↑x7.1 : Int) + 1 ∧ zca13 x1 (i0.2.1 = x8.1 ∧ zca10 x3 (GV.n i0.2.2 = GV.n x9 ∧ GV.s i0.2.2 = GV.s x9 ∧ (GV.x i0.2.2).1 = (GV.x x9).1 ∧ (GV.x i0.2.2).2.1 = (GV.x x9).2.1 ∧ (GV.x i0.2.2).2.2 = (GV.x x9).2.2 ∧ (GV.y i0.2.2).1 = (GV.y x9).1 ∧ (GV.y i0.2.2).2.1 = (GV.y x9).2.1 ∧ (GV.y i0.2.2).2.2 = (GV.y x9).2.2 ∧ GV.b i0.2.2 = GV.b x9 ∧ zca9 x4 ((∀ (i1 : Pub), ((zca11 x1 x3 x4 x5 x7 i1) ∧ GV.ok x8.2.2 i1) ∧ GV.ok x9 i1 → zca14 x1 x3 x4 x5 i1) ∧ (∀ (i2 : Pub), ((zca11 x1 x3 x4 x5 x7 i2) ∧ GV.ok x8.2.2 i2) ∧ GV.ok x9 i2 → GV.ok i0.2.2 i2) ∧ (zca12 x2 x3 i0) ∧ List.length (GJ.l x3) - i0.1 < List.length (GJ.l x3) - x7.1 ∧ True)))
 abbrev zca6 := (0 ≤ (↑x7.1 : Int) ∧ (↑x7.1 : Int) < (↑(GJ.x x3).2.1 : Int)) ∧ (GJ.x x3).1 ≠ noA ∧ ∃ (i0 : ByteArray), (∀ (i1 : Pub), (zca11 x1 x3 x4 x5 x7 i1) ∧ GV.ok x8.2.2 i1 → cellsP i1 (adr (GJ.x x3).1 (Int.toNat (↑x7.1 : Int) * 1)) [Value.string i0]) ∧ ∃ (i2 : GV × ByteArray × GV), GV.n i2.1 = GV.n x7.2.2 ∧ GV.s i2.1 = GV.s x7.2.2 ∧ (GV.x i2.1).1 = (GV.x x7.2.2).1 ∧ (GV.x i2.1).2.1 = (GV.x x7.2.2).2.1 ∧ (GV.x i2.1).2.2 = (GV.x x7.2.2).2.2 ∧ (GV.y i2.1).1 = (GV.y x7.2.2).1 ∧ (GV.y i2.1).2.1 = (GV.y x7.2.2).2.1 ∧ (GV.y i2.1).2.2 = (GV.y x7.2.2).2.2 ∧ GV.b i2.1 = GV.b x7.2.2 ∧ i2.2.1 = i0 ∧ GV.n i2.2.2 = GV.n x8.2.2 ∧ GV.s i2.2.2 = GV.s x8.2.2 ∧ (GV.x i2.2.2).1 = (GV.x x8.2.2).1 ∧ (GV.x i2.2.2).2.1 = (GV.x x8.2.2).2.1 ∧ (GV.x i2.2.2).2.2 = (GV.x x8.2.2).2.2 ∧ (GV.y i2.2.2).1 = (GV.y x8.2.2).1 ∧ (GV.y i2.2.2).2.1 = (GV.y x8.2.2).2.1 ∧ (GV.y i2.2.2).2.2 = (GV.y x8.2.2).2.2 ∧ GV.b i2.2.2 = GV.b x8.2.2 ∧ (List.length (GV.ks i2.1) = List.length (GV.l i2.1) ∧ List.length (GV.l i2.1) < 1000000) ∧ (∀ (i3 : Pub), (zca11 x1 x3 x4 x5 x7 i3) ∧ GV.ok x8.2.2 i3 → GV.ok i2.1 i3 ∧ GV.ok i2.2.2 i3) ∧ ∀ (i4 : GV), GV.pv i4 = PV.mk (GV.n i2.1) (GV.s i2.1) (putV i2.2.1 (GV.ks i2.1) (GV.pvs (GV.l i2.1)) (GV.pv i2.2.2)) (putS i2.2.1 (GV.ks i2.1)) (GV.b i2.1) → (∃ (i5 : Pub), ((zca11 x1 x3 x4 x5 x7 i5) ∧ GV.ok x8.2.2 i5) ∧ GV.ok i4 i5) → zca7 x0 x1 x2 x3 x4 x5 x7 x8 i4
 abbrev zca5 := (decide (AT.k x4 = 12) = true → False) ∧ (decide (AT.k x4 = 12) = false → zca6 x0 x1 x2 x3 x4 x5 x7 x8)
 abbrev zca4 := ((!decide (x8.2.1 = 0)) = true → ∃ (i0 : VlB), GV.n i0.2.2 = 0 ∧ GV.s i0.2.2 = mkS [] ∧ (GV.x i0.2.2).1 = noA ∧ (GV.x i0.2.2).2.1 = 0 ∧ (GV.x i0.2.2).2.2 = 0 ∧ (GV.y i0.2.2).1 = noA ∧ (GV.y i0.2.2).2.1 = 0 ∧ (GV.y i0.2.2).2.2 = 0 ∧ GV.b i0.2.2 = 0 ∧ i0.2.1 = x8.2.1 ∧ zca13 x1 (i0.1 = x8.1 ∧ vlPost x0 i0 ∧ (∀ (i1 : Pub), (zca11 x1 x3 x4 x5 x7 i1) ∧ GV.ok x8.2.2 i1 → GV.ok i0.2.2 i1) ∧ True)) ∧ ((!decide (x8.2.1 = 0)) = false → zca5 x2 x1 x0 x3 x4 x5 x7 x8)
 abbrev zca2 := ((zca3 x0 x1 x3 x4 x5 x6 x7) ∧ zca3 x0 x1 x3 x4 x5 x6 x7) ∧ ∀ (i34 : VlB), vlPost (zca8 x1 x3 x4 x7) i34 → (∃ (i35 : Pub), (zca11 x1 x3 x4 x5 x7 i35) ∧ GV.ok i34.2.2 i35) → zca4 x2 x1 x0 x3 x4 x5 x7 i34
 abbrev zca1 := (decide (zca15 x3 x7) = true → zca2 x0 x1 x2 x3 x4 x5 x6 x7) ∧ (decide (zca15 x3 x7) = false → ∃ (i47 : VlB), GV.n i47.2.2 = GV.n x7.2.2 ∧ GV.s i47.2.2 = GV.s x7.2.2 ∧ (GV.x i47.2.2).1 = (GV.x x7.2.2).1 ∧ (GV.x i47.2.2).2.1 = (GV.x x7.2.2).2.1 ∧ (GV.x i47.2.2).2.2 = (GV.x x7.2.2).2.2 ∧ (GV.y i47.2.2).1 = (GV.y x7.2.2).1 ∧ (GV.y i47.2.2).2.1 = (GV.y x7.2.2).2.1 ∧ (GV.y i47.2.2).2.2 = (GV.y x7.2.2).2.2 ∧ GV.b i47.2.2 = GV.b x7.2.2 ∧ i47.2.1 = 0 ∧ zca13 x1 (i47.1 = x7.2.1 ∧ vlPost x2 i47 ∧ (∀ (i48 : Pub), zca11 x1 x3 x4 x5 x7 i48 → GV.ok i47.2.2 i48) ∧ True))
 abbrev zca0 := (∃ (i0 : Nat × Int × GV), x0 = x0 ∧ (↑i0.1 : Int) = 0 ∧ zca13 x1 (i0.2.1 = x2 ∧ zca10 x3 (GV.n i0.2.2 = 0 ∧ GV.s i0.2.2 = mkS [] ∧ (GV.x i0.2.2).1 = noA ∧ (GV.x i0.2.2).2.1 = 0 ∧ (GV.x i0.2.2).2.2 = 0 ∧ (GV.y i0.2.2).1 = noA ∧ (GV.y i0.2.2).2.1 = 0 ∧ (GV.y i0.2.2).2.2 = 0 ∧ GV.b i0.2.2 = 0 ∧ zca9 x4 ((∀ (i1 : Pub), zca14 x1 x3 x4 x5 i1 → zca14 x1 x3 x4 x5 i1) ∧ (∀ (i2 : Pub), zca14 x1 x3 x4 x5 i2 → GV.ok i0.2.2 i2) ∧ (zca12 x2 x3 i0) ∧ True)))) ∧ ∀ (i3 : Nat × Int × GV), zca12 x2 x3 i3 → (∃ (i4 : Pub), zca11 x1 x3 x4 x5 i3 i4) → zca1 x0 x1 x2 x3 x4 x5 x6 i3
end
theorem partM_eqz (n : Nat) (S : List AT) (x : SV) (all : Int) (a : AT) (g : GJ) (d : Int) : askR P (ctTab []) (rlTab [(76, cVl.below muVl n), (41, cPut)]) Try.f107 ((cVq isMap).below muVq (n + 1)) (wPm) ⟨S, x, all, a, g, d⟩ = (muVq (S, x, all, a, g, d) < n + 1 ∧ goodS S ∧ a ∈ S ∧ isMap a g ∧ GJ.wf g ∧ (0 ≤ all ∧ all ≤ 2000) ∧ 1 ≤ d ∧ d ≤ 20 → (∃ (p : Pub), zca14 x g a S p) → zca0 d x all g a S n) := by kernel_rfl
def partM_eq (n : Nat) (S : List AT) (x : SV) (all : Int) (a : AT) (g : GJ) (d : Int) := Eq.trans (partM_eqz n S x all a g d) (by delta zca14 zca13 zca10 zca9 zca12 zca11 zca15 zca8 zca3 zca7 zca6 zca5 zca4 zca2 zca1 zca0; exact rfl)
noncomputable section
variable (x0 : Int) (x1 : SV) (x2 : Int) (x3 : GJ) (x4 : AT) (x5 : List AT) (x6 : Nat) (x7 : Nat × Int × List GV) (x8 : GJ) (x9 : Int) (x10 : VlB) (x11 : VlS) (x12 : Bool) (x13 : ByteArray) (x14 : Option Addr) (x15 : Nat) (x16 : Int) (x17 : Int) (x18 : ByteArray) (x19 : Option Addr) (x20 : Nat) (x21 : Nat) (x22 : Option Addr) (x23 : Nat) (x24 : Nat) (x25 : Prop) (x26 : Nat → Option Obj) (x27 : GJ × ByteArray)
 abbrev zcb15 := True ∧ schP x5 x1 x26 ∧ AT.ok x4 x26 ∧ GJ.ok x3 x26
 abbrev zcb10 := x1.1 = x1.1 ∧ x1.2.1 = x1.2.1 ∧ x1.2.2 = x1.2.2 ∧ x25
 abbrev zcb8 := GJ.k x3 = GJ.k x3 ∧ GJ.n x3 = GJ.n x3 ∧ GJ.s x3 = GJ.s x3 ∧ (GJ.y x3).1 = (GJ.y x3).1 ∧ (GJ.y x3).2.1 = (GJ.y x3).2.1 ∧ (GJ.y x3).2.2 = (GJ.y x3).2.2 ∧ (GJ.x x3).1 = (GJ.x x3).1 ∧ (GJ.x x3).2.1 = (GJ.x x3).2.1 ∧ (GJ.x x3).2.2 = (GJ.x x3).2.2 ∧ x25
 abbrev zcb7 := AT.k x4 = AT.k x4 ∧ AT.nm x4 = AT.nm x4 ∧ (AT.al x4).1 = (AT.al x4).1 ∧ (AT.al x4).2.1 = (AT.al x4).2.1 ∧ (AT.al x4).2.2 = (AT.al x4).2.2 ∧ AT.it x4 = AT.it x4 ∧ (AT.sy x4).1 = (AT.sy x4).1 ∧ (AT.sy x4).2.1 = (AT.sy x4).2.1 ∧ (AT.sy x4).2.2 = (AT.sy x4).2.2 ∧ AT.hd x4 = AT.hd x4 ∧ AT.df x4 = AT.df x4 ∧ AT.sz x4 = AT.sz x4 ∧ (AT.f x4).1 = (AT.f x4).1 ∧ (AT.f x4).2.1 = (AT.f x4).2.1 ∧ (AT.f x4).2.2 = (AT.f x4).2.2 ∧ (AT.br x4).1 = (AT.br x4).1 ∧ (AT.br x4).2.1 = (AT.br x4).2.1 ∧ (AT.br x4).2.2 = (AT.br x4).2.2 ∧ x25
 abbrev zcb12 := x7.1 ≤ List.length (AT.fs x4) ∧ (x0 ≤ x7.2.1 ∧ x7.2.1 ≤ 2000) ∧ List.length x7.2.2 = x7.1
 abbrev zcb9 := (zcb15 x1 x3 x4 x5 x26) ∧ GV.oks x7.2.2 x26
 abbrev zcb18 := (↑x7.1 : Int) < (↑(AT.f x4).2.1 : Int)
 abbrev zcb14 := (GV.y x10.2.2).1 = noA ∧ (GV.y x10.2.2).2.1 = 0 ∧ (GV.y x10.2.2).2.2 = 0 ∧ GV.b x10.2.2 = 0 ∧ x25
 abbrev zcb11 := GV.n x10.2.2 = 0 ∧ GV.s x10.2.2 = mkS [] ∧ (GV.x x10.2.2).1 = noA ∧ (GV.x x10.2.2).2.1 = 0 ∧ (GV.x x10.2.2).2.2 = 0 ∧ zcb14 x10 x25
 abbrev zcb17 := (∀ (i0 : Pub), zcb9 x1 x3 x4 x5 x7 i0 → zcb9 x1 x3 x4 x5 x7 i0) ∧ (∀ (i1 : Pub), zcb9 x1 x3 x4 x5 x7 i1 → GJ.ok x8 i1) ∧ GJ.wf x8 ∧ True
 abbrev zcb5 := ((!x12) = true → ∃ (i0 : VlB), zcb11 i0 (i0.2.1 = 7 ∧ zcb10 x1 (i0.1 = x7.2.1 ∧ vlPost x0 i0 ∧ (∀ (i1 : Pub), zcb9 x1 x3 x4 x5 x7 i1 → GV.ok i0.2.2 i1) ∧ True))) ∧ ((!x12) = false → ∃ (i2 : GJ), x2 = x2 ∧ (↑x7.1 : Int) = (↑x7.1 : Int) ∧ zcb10 x1 (x7.2.1 = x7.2.1 ∧ zcb8 x3 (List.length x7.2.2 = List.length x7.2.2 ∧ zcb7 x4 (x13 = x13 ∧ x14 = x14 ∧ x6 = x6 ∧ x15 = x15 ∧ x9 = x9 ∧ x12 = x12 ∧ x16 = x16 ∧ x17 = x17 ∧ x18 = x18 ∧ x19 = x19 ∧ x20 = x20 ∧ x21 = x21 ∧ x22 = x22 ∧ x23 = x23 ∧ x24 = x24 ∧ rowsV GV.cells x7.2.2 = rowsV GV.cells x7.2.2 ∧ GJ.k i2 = x16 ∧ GJ.n i2 = x17 ∧ GJ.s i2 = x18 ∧ (GJ.y i2).1 = x19 ∧ (GJ.y i2).2.1 = x20 ∧ (GJ.y i2).2.2 = x21 ∧ (GJ.x i2).1 = x22 ∧ (GJ.x i2).2.1 = x23 ∧ (GJ.x i2).2.2 = x24 ∧ zcb17 x1 x3 x4 x5 x7 i2))))
 abbrev zcb13 := Option.getD (getK x27.2 x27.1) zJ
 abbrev zcb16 := x1.1 = x11.2.1.1 ∧ x1.2.1 = x11.2.1.2.1 ∧ x1.2.2 = x11.2.1.2.2 ∧ x25
 abbrev zcb6 := List.length (rowsV GV.cells x7.2.2) = List.length x7.2.2 * 5 ∧ (List.length x7.2.2 + nat_lit 1) * 80 ≤ 140737488355328 ∧ ((-9223372036854775808 : Int) ≤ (↑x7.1 : Int) + 1 ∧ (↑x7.1 : Int) + 1 ≤ 9223372036854775807) ∧ ∃ (i0 : Nat × Int × List GV), x0 = x0 ∧ (↑i0.1 : Int) = (↑x7.1 : Int) + 1 ∧ zcb16 x1 x11 (i0.2.1 = x10.1 ∧ zcb8 x3 (List.length i0.2.2 = List.length x7.2.2 + nat_lit 1 ∧ zcb7 x4 (rowsV GV.cells i0.2.2 = rowsV GV.cells x7.2.2 ++ [Value.int IntKind.u64 (GV.n x10.2.2), Value.string (GV.s x10.2.2), Value.slice (GV.x x10.2.2).1 (GV.x x10.2.2).2.1 (GV.x x10.2.2).2.2, Value.slice (GV.y x10.2.2).1 (GV.y x10.2.2).2.1 (GV.y x10.2.2).2.2, Value.int IntKind.i64 (GV.b x10.2.2)] ∧ (∀ (i1 : Pub), ((zcb9 x1 x3 x4 x5 x7 i1) ∧ GJ.ok x8 i1) ∧ GV.ok x10.2.2 i1 → zcb15 x1 x3 x4 x5 i1) ∧ (∀ (i2 : Pub), ((zcb9 x1 x3 x4 x5 x7 i2) ∧ GJ.ok x8 i2) ∧ GV.ok x10.2.2 i2 → GV.oks i0.2.2 i2) ∧ (zcb12 x2 x4 i0) ∧ List.length (AT.fs x4) - i0.1 < List.length (AT.fs x4) - x7.1 ∧ True)))
 abbrev zcb4 := ((!decide (x10.2.1 = 0)) = true → ∃ (i0 : VlB), zcb11 i0 (i0.2.1 = x10.2.1 ∧ zcb16 x1 x11 (i0.1 = x10.1 ∧ vlPost x0 i0 ∧ (∀ (i1 : Pub), ((zcb9 x1 x3 x4 x5 x7 i1) ∧ GJ.ok x8 i1) ∧ GV.ok x10.2.2 i1 → GV.ok i0.2.2 i1) ∧ True))) ∧ ((!decide (x10.2.1 = 0)) = false → zcb6 x2 x1 x0 x3 x4 x5 x7 x8 x10 x11)
 abbrev zcb3 := ((-9223372036854775808 : Int) ≤ x0 + 1 ∧ x0 + 1 ≤ 9223372036854775807) ∧ ∃ (i0 : VlS), i0.2.2.2.1 = x2 ∧ GJ.k i0.2.2.2.2.1 = GJ.k x3 ∧ GJ.n i0.2.2.2.2.1 = GJ.n x3 ∧ GJ.s i0.2.2.2.2.1 = GJ.s x3 ∧ (GJ.y i0.2.2.2.2.1).1 = (GJ.y x3).1 ∧ (GJ.y i0.2.2.2.2.1).2.1 = (GJ.y x3).2.1 ∧ (GJ.y i0.2.2.2.2.1).2.2 = (GJ.y x3).2.2 ∧ (GJ.x i0.2.2.2.2.1).1 = (GJ.x x3).1 ∧ (GJ.x i0.2.2.2.2.1).2.1 = (GJ.x x3).2.1 ∧ (GJ.x i0.2.2.2.2.1).2.2 = (GJ.x x3).2.2 ∧ i0.2.2.2.2.2 = x0 + 1 ∧ i0.2.1.1 = x1.1 ∧ i0.2.1.2.1 = x1.2.1 ∧ i0.2.1.2.2 = x1.2.2 ∧ i0.2.2.1 = x7.2.1 ∧ (muVl i0 < x6 ∧ goodS i0.1 ∧ (0 ≤ i0.2.2.2.1 ∧ i0.2.2.2.1 < (↑(List.length i0.1) : Int)) ∧ GJ.wf i0.2.2.2.2.1 ∧ (0 ≤ i0.2.2.1 ∧ i0.2.2.1 ≤ 2000) ∧ 1 ≤ i0.2.2.2.2.2 ∧ i0.2.2.2.2.2 ≤ 21) ∧ (∀ (i1 : Pub), (zcb9 x1 x8 x4 x5 x7 i1) ∧ GJ.ok x3 i1 → schP i0.1 i0.2.1 i1 ∧ GJ.ok i0.2.2.2.2.1 i1) ∧ ∀ (i2 : VlB), vlPost i0.2.2.1 i2 → (∃ (i3 : Pub), ((zcb9 x1 x8 x4 x5 x7 i3) ∧ GJ.ok x3 i3) ∧ GV.ok i2.2.2 i3) → zcb4 x9 x1 x0 x8 x4 x5 x7 x3 i2 i0
 abbrev zcb2 := (0 ≤ (↑x7.1 : Int) ∧ zcb18 x4 x7) ∧ (AT.f x4).1 ≠ noA ∧ ∃ (i0 : ByteArray), ∃ (i1 : Option Addr), ∃ (i2 : Nat), ∃ (i3 : Nat), ∃ (i4 : Int), ∃ (i5 : Bool), ∃ (i6 : Int), ∃ (i7 : Int), ∃ (i8 : ByteArray), ∃ (i9 : Option Addr), ∃ (i10 : Nat), ∃ (i11 : Nat), ∃ (i12 : Option Addr), ∃ (i13 : Nat), ∃ (i14 : Nat), (∀ (i15 : Pub), zcb9 x1 x3 x4 x5 x7 i15 → cellsP i15 (adr (AT.f x4).1 (Int.toNat (↑x7.1 : Int) * 9)) [Value.string i0, Value.slice i1 i2 i3, Value.int IntKind.i64 i4, Value.bool i5, Value.int IntKind.i64 i6, Value.int IntKind.i64 i7, Value.string i8, Value.slice i9 i10 i11, Value.slice i12 i13 i14]) ∧ ∃ (i16 : GJ × ByteArray), GJ.k i16.1 = GJ.k x3 ∧ GJ.n i16.1 = GJ.n x3 ∧ GJ.s i16.1 = GJ.s x3 ∧ (GJ.y i16.1).1 = (GJ.y x3).1 ∧ (GJ.y i16.1).2.1 = (GJ.y x3).2.1 ∧ (GJ.y i16.1).2.2 = (GJ.y x3).2.2 ∧ (GJ.x i16.1).1 = (GJ.x x3).1 ∧ (GJ.x i16.1).2.1 = (GJ.x x3).2.1 ∧ (GJ.x i16.1).2.2 = (GJ.x x3).2.2 ∧ i16.2 = i0 ∧ GJ.wf i16.1 ∧ (∀ (i17 : Pub), zcb9 x1 x3 x4 x5 x7 i17 → GJ.ok i16.1 i17) ∧ (((!Option.isSome (getK i16.2 i16.1)) = true → zcb5 x0 x1 x2 x3 x4 x5 i2 x7 i4 i5 i0 i1 i3 i6 i7 i8 i9 i10 i11 i12 i13 i14) ∧ ((!Option.isSome (getK i16.2 i16.1)) = false → ∃ (i23 : GJ), x2 = x2 ∧ (↑x7.1 : Int) = (↑x7.1 : Int) ∧ zcb10 x1 (x7.2.1 = x7.2.1 ∧ zcb8 x3 (List.length x7.2.2 = List.length x7.2.2 ∧ zcb7 x4 (i0 = i0 ∧ i1 = i1 ∧ i2 = i2 ∧ i3 = i3 ∧ i4 = i4 ∧ i5 = i5 ∧ i6 = i6 ∧ i7 = i7 ∧ i8 = i8 ∧ i9 = i9 ∧ i10 = i10 ∧ i11 = i11 ∧ i12 = i12 ∧ i13 = i13 ∧ i14 = i14 ∧ rowsV GV.cells x7.2.2 = rowsV GV.cells x7.2.2 ∧ GJ.k i23 = GJ.k (zcb13 i16) ∧ GJ.n i23 = GJ.n (zcb13 i16) ∧ GJ.s i23 = GJ.s (zcb13 i16) ∧ (GJ.y i23).1 = (GJ.y (zcb13 i16)).1 ∧ (GJ.y i23).2.1 = (GJ.y (zcb13 i16)).2.1 ∧ (GJ.y i23).2.2 = (GJ.y (zcb13 i16)).2.2 ∧ (GJ.x i23).1 = (GJ.x (zcb13 i16)).1 ∧ (GJ.x i23).2.1 = (GJ.x (zcb13 i16)).2.1 ∧ (GJ.x i23).2.2 = (GJ.x (zcb13 i16)).2.2 ∧ zcb17 x1 x3 x4 x5 x7 i23))))) ∧ ∀ (i26 : GJ), GJ.wf i26 → (∃ (i27 : Pub), (zcb9 x1 x3 x4 x5 x7 i27) ∧ GJ.ok i26 i27) → zcb3 x2 x1 i4 i26 x4 x5 x6 x7 x3 x0
 abbrev zcb1 := (decide (zcb18 x4 x7) = true → zcb2 x0 x1 x2 x3 x4 x5 x6 x7) ∧ (decide (zcb18 x4 x7) = false → ∀ (i37 i38 i39 : Nat) (i40 : Option Addr) (i41 i42 : Nat), (∃ (i43 : Pub), (zcb9 x1 x3 x4 x5 x7 i43) ∧ List.length x7.2.2 ≤ i42 ∧ rowP i43 i40 (List.take (List.length x7.2.2 * nat_lit 5) (rowsV GV.cells x7.2.2))) → ∃ (i44 : VlB), GV.n i44.2.2 = 0 ∧ GV.s i44.2.2 = mkS [] ∧ (GV.x i44.2.2).1 = i40 ∧ (GV.x i44.2.2).2.1 = List.length x7.2.2 ∧ (GV.x i44.2.2).2.2 = i42 ∧ zcb14 i44 (i44.2.1 = 0 ∧ zcb10 x1 (i44.1 = x7.2.1 ∧ vlPost x0 i44 ∧ (∀ (i45 : Pub), (zcb9 x1 x3 x4 x5 x7 i45) ∧ List.length x7.2.2 ≤ i42 ∧ rowP i45 i40 (List.take (List.length x7.2.2 * nat_lit 5) (rowsV GV.cells x7.2.2)) → GV.ok i44.2.2 i45) ∧ True)))
 abbrev zcb0 := (∃ (i0 : Nat × Int × List GV), x0 = x0 ∧ (↑i0.1 : Int) = 0 ∧ zcb10 x1 (i0.2.1 = x2 ∧ zcb8 x3 (List.length i0.2.2 = 0 ∧ zcb7 x4 ((∀ (i1 : Pub), zcb15 x1 x3 x4 x5 i1 → zcb15 x1 x3 x4 x5 i1) ∧ (∀ (i2 : Pub), zcb15 x1 x3 x4 x5 i2 → GV.oks i0.2.2 i2) ∧ (zcb12 x2 x4 i0) ∧ True)))) ∧ ∀ (i3 : Nat × Int × List GV), zcb12 x2 x4 i3 → (∃ (i4 : Pub), zcb9 x1 x3 x4 x5 i3 i4) → zcb1 x2 x1 x0 x3 x4 x5 x6 i3
end
theorem recV_eqz (n : Nat) (S : List AT) (x : SV) (all : Int) (a : AT) (g : GJ) (d : Int) : askR P (ctTab [(68, cGet6)]) (rlTab [(76, cVl.below muVl n)]) Try.f108 ((cVq isRec).below muVq (n + 1)) (wRe) ⟨S, x, all, a, g, d⟩ = (muVq (S, x, all, a, g, d) < n + 1 ∧ goodS S ∧ a ∈ S ∧ isRec a g ∧ GJ.wf g ∧ (0 ≤ all ∧ all ≤ 2000) ∧ 1 ≤ d ∧ d ≤ 20 → (∃ (p : Pub), zcb15 x g a S p) → zcb0 d x all g a S n) := by kernel_rfl
def recV_eq (n : Nat) (S : List AT) (x : SV) (all : Int) (a : AT) (g : GJ) (d : Int) := Eq.trans (recV_eqz n S x all a g d) (by delta zcb15 zcb10 zcb8 zcb7 zcb12 zcb9 zcb18 zcb14 zcb11 zcb17 zcb5 zcb13 zcb16 zcb6 zcb4 zcb3 zcb2 zcb1 zcb0; exact rfl)
noncomputable section
variable (x0 : Int) (x1 : Int) (x2 : SV) (x3 : List AT) (x4 : GJ) (x5 : Int) (x6 : Nat) (x7 : ByteArray) (x8 : Option Addr) (x9 : Nat) (x10 : Int) (x11 : Option Addr) (x12 : Nat) (x13 : Nat) (x14 : Bool) (x15 : ByteArray) (x16 : Int) (x17 : Option Addr) (x18 : Nat) (x19 : Nat) (x20 : Option Addr) (x21 : Nat) (x22 : Nat) (x23 : Nat) (x24 : Prop) (x25 : VlB) (x26 : Int) (x27 : Int) (x28 : ByteArray × Bool) (x29 : VqS) (x30 : VlB) (x31 : Nat → Option Obj)
 abbrev zcc41 := True ∧ schP x3 x2 x31 ∧ GJ.ok x4 x31
 abbrev zcc52 := ((-9223372036854775808 : Int) ≤ x0 + 1 ∧ x0 + 1 ≤ 9223372036854775807)
 abbrev zcc50 := GV.n x25.2.2 = 0 ∧ GV.s x25.2.2 = mkS [] ∧ x24
 abbrev zcc49 := (GV.y x25.2.2).1 = noA ∧ (GV.y x25.2.2).2.1 = 0 ∧ (GV.y x25.2.2).2.2 = 0 ∧ GV.b x25.2.2 = 0 ∧ x24
 abbrev zcc40 := x2.1 = x2.1 ∧ x2.2.1 = x2.2.1 ∧ x2.2.2 = x2.2.2 ∧ x24
 abbrev zcc25 := (GV.x x25.2.2).1 = noA ∧ (GV.x x25.2.2).2.1 = 0 ∧ (GV.x x25.2.2).2.2 = 0 ∧ zcc49 (x25.2.1 = x1 ∧ zcc40 x2 (x25.1 = x0 + 1 ∧ vlPost x0 x25 ∧ (∀ (i0 : Pub), zcc41 x2 x3 x4 i0 → GV.ok x25.2.2 i0) ∧ True)) x25
 abbrev zcc32 := decide (GJ.k x4 = 3) = decide (GJ.k x4 = 3)
 abbrev zcc18 := zcc40 x2 (x0 + 1 = x0 + 1 ∧ GJ.k x4 = GJ.k x4 ∧ GJ.n x4 = GJ.n x4 ∧ GJ.s x4 = GJ.s x4 ∧ (GJ.y x4).1 = (GJ.y x4).1 ∧ (GJ.y x4).2.1 = (GJ.y x4).2.1 ∧ (GJ.y x4).2.2 = (GJ.y x4).2.2 ∧ (GJ.x x4).1 = (GJ.x x4).1 ∧ (GJ.x x4).2.1 = (GJ.x x4).2.1 ∧ (GJ.x x4).2.2 = (GJ.x x4).2.2 ∧ x1 = x1 ∧ x7 = x7 ∧ x8 = x8 ∧ x6 = x6 ∧ x9 = x9 ∧ x5 = x5 ∧ x11 = x11 ∧ x12 = x12 ∧ x13 = x13 ∧ x14 = x14 ∧ x15 = x15 ∧ x10 = x10 ∧ x17 = x17 ∧ x18 = x18 ∧ x19 = x19 ∧ x20 = x20 ∧ x21 = x21 ∧ x22 = x22 ∧ (∀ (i0 : Pub), zcc41 x2 x3 x4 i0 → zcc41 x2 x3 x4 i0) ∧ True ∧ x24)
 abbrev zcc27 := ((decide (x0 = x26) = true → ∃ (i0 : Unit), x1 = x1 ∧ zcc32 x4 ∧ bq x26 x27 (GJ.k x4) x0 = decide (GJ.k x4 = x27) ∧ zcc18 x5 x0 x2 x3 x4 x10 x6 x7 x8 x9 x16 x11 x12 x13 x14 x15 x17 x18 x19 x20 x21 x22 True) ∧ (decide (x0 = x26) = false → ∃ (i1 : Unit), x1 = x1 ∧ zcc32 x4 ∧ bq x26 x27 (GJ.k x4) x0 = false ∧ zcc18 x5 x0 x2 x3 x4 x10 x6 x7 x8 x9 x16 x11 x12 x13 x14 x15 x17 x18 x19 x20 x21 x22 True))
 abbrev zcc43 := ((decide (x0 = x26) = true → ∃ (i0 : Unit), x1 = x1 ∧ bq x26 x27 (GJ.k x4) x0 = decide (GJ.k x4 = x27) ∧ zcc32 x4 ∧ zcc18 x5 x0 x2 x3 x4 x10 x6 x7 x8 x9 x16 x11 x12 x13 x14 x15 x17 x18 x19 x20 x21 x22 True) ∧ (decide (x0 = x26) = false → ∃ (i1 : Unit), x1 = x1 ∧ bq x26 x27 (GJ.k x4) x0 = false ∧ zcc32 x4 ∧ zcc18 x5 x0 x2 x3 x4 x10 x6 x7 x8 x9 x16 x11 x12 x13 x14 x15 x17 x18 x19 x20 x21 x22 True))
 abbrev zcc53 := ∃ (i0 : VlB), GV.n i0.2.2 = IntKind.wrap IntKind.u64 (GJ.n x4) ∧ GV.s i0.2.2 = mkS [] ∧ zcc25 x0 0 x2 x3 x4 i0
 abbrev zcc42 := (decide ((-2147483648 : Int) ≤ GJ.n x4) = true → ∃ (i0 : Unit), x0 = x0 ∧ zcc32 x4 ∧ bI (GJ.k x4) (GJ.n x4) x1 = decide (GJ.n x4 < 2147483648) ∧ zcc18 x5 x1 x2 x3 x4 x10 x6 x7 x8 x9 x16 x11 x12 x13 x14 x15 x17 x18 x19 x20 x21 x22 True) ∧ (decide ((-2147483648 : Int) ≤ GJ.n x4) = false → ∃ (i1 : Unit), x0 = x0 ∧ zcc32 x4 ∧ bI (GJ.k x4) (GJ.n x4) x1 = false ∧ zcc18 x5 x1 x2 x3 x4 x10 x6 x7 x8 x9 x16 x11 x12 x13 x14 x15 x17 x18 x19 x20 x21 x22 True)
 abbrev zcc36 := (decide (GJ.k x4 = 3) = true → zcc42 x0 x1 x2 x3 x4 x5 x6 x7 x8 x9 x10 x11 x12 x13 x14 x15 x16 x17 x18 x19 x20 x21 x22) ∧ (decide (GJ.k x4 = 3) = false → ∃ (i2 : Unit), x0 = x0 ∧ zcc32 x4 ∧ bI (GJ.k x4) (GJ.n x4) x1 = false ∧ zcc18 x5 x1 x2 x3 x4 x10 x6 x7 x8 x9 x16 x11 x12 x13 x14 x15 x17 x18 x19 x20 x21 x22 True)
 abbrev zcc44 := (decide (x0 = 4) = true → ∃ (i0 : Unit), x1 = x1 ∧ zcc32 x4 ∧ bN (GJ.k x4) (GJ.n x4) x0 = decide (GJ.k x4 = 3) ∧ zcc18 x5 x0 x2 x3 x4 x10 x6 x7 x8 x9 x16 x11 x12 x13 x14 x15 x17 x18 x19 x20 x21 x22 True) ∧ (decide (x0 = 4) = false → ∃ (i1 : Unit), x1 = x1 ∧ zcc32 x4 ∧ bN (GJ.k x4) (GJ.n x4) x0 = false ∧ zcc18 x5 x0 x2 x3 x4 x10 x6 x7 x8 x9 x16 x11 x12 x13 x14 x15 x17 x18 x19 x20 x21 x22 True)
 abbrev zcc39 := (bI (GJ.k x4) (GJ.n x4) x0 = true → ∃ (i0 : Unit), x1 = x1 ∧ zcc32 x4 ∧ bN (GJ.k x4) (GJ.n x4) x0 = bI (GJ.k x4) (GJ.n x4) x0 ∧ zcc18 x5 x0 x2 x3 x4 x10 x6 x7 x8 x9 x16 x11 x12 x13 x14 x15 x17 x18 x19 x20 x21 x22 True) ∧ (bI (GJ.k x4) (GJ.n x4) x0 = false → zcc44 x0 x1 x2 x3 x4 x5 x6 x7 x8 x9 x10 x11 x12 x13 x14 x15 x16 x17 x18 x19 x20 x21 x22)
 abbrev zcc47 := (decide (x0 = 11) = true → ∃ (i0 : Unit), x1 = x1 ∧ zcc32 x4 ∧ bT (GJ.k x4) x0 = decide (GJ.k x4 = 4) ∧ zcc18 x5 x0 x2 x3 x4 x10 x6 x7 x8 x9 x16 x11 x12 x13 x14 x15 x17 x18 x19 x20 x21 x22 True) ∧ (decide (x0 = 11) = false → ∃ (i1 : Unit), x1 = x1 ∧ zcc32 x4 ∧ bT (GJ.k x4) x0 = false ∧ zcc18 x5 x0 x2 x3 x4 x10 x6 x7 x8 x9 x16 x11 x12 x13 x14 x15 x17 x18 x19 x20 x21 x22 True)
 abbrev zcc29 := zcc40 x2 (x0 + 1 = x0 + 1 ∧ (∀ (i0 : Pub), zcc41 x2 x3 x4 i0 → zcc41 x2 x3 x4 i0) ∧ True ∧ True)
 abbrev zcc45 := (decide (x0 = 7) = true → ∃ (i0 : Bool), x28.1 = x28.1 ∧ i0 = true ∧ zcc29 x1 x2 x3 x4) ∧ (decide (x0 = 7) = false → ∃ (i1 : Bool), x28.1 = x28.1 ∧ i1 = decide ((↑(ByteArray.size x28.1) : Int) = x5) ∧ zcc29 x1 x2 x3 x4)
 abbrev zcc51 := (x14 = true → ∃ (i0 : VlB), GV.n i0.2.2 = 0 ∧ GV.s i0.2.2 = x28.1 ∧ zcc25 x0 0 x2 x3 x4 i0) ∧ (x14 = false → ∃ (i1 : Unit), zcc29 x0 x2 x3 x4)
 abbrev zcc28 := ((x28.2 = true → zcc45 x0 x1 x2 x3 x4 x5 x28) ∧ (x28.2 = false → ∃ (i4 : Bool), x28.1 = x28.1 ∧ i4 = false ∧ zcc29 x1 x2 x3 x4)) ∧ ∀ (i6 : Bool), True → zcc51 x1 x2 x3 x4 i6 x28
 abbrev zcc37 := (0 ≤ (↑x6 : Int) ∧ (↑x6 : Int) < (↑x9 : Int)) ∧ x8 ≠ noA ∧ ∃ (i0 : ByteArray), (∀ (i1 : Pub), zcc41 x2 x3 x4 i1 → cellsP i1 (adr x8 (Int.toNat (↑x6 : Int) * 1)) [Value.string i0]) ∧ (decide (i0 = GJ.s x4) = true → ∃ (i2 : VlB), GV.n i2.2.2 = IntKind.wrap IntKind.u64 (↑x6 : Int) ∧ GV.s i2.2.2 = mkS [] ∧ zcc25 x0 0 x2 x3 x4 i2) ∧ (decide (i0 = GJ.s x4) = false → ((-9223372036854775808 : Int) ≤ (↑x6 : Int) + 1 ∧ (↑x6 : Int) + 1 ≤ 9223372036854775807) ∧ ∃ (i3 : Nat), x1 = x1 ∧ zcc32 x4 ∧ (↑i3 : Int) = (↑x6 : Int) + 1 ∧ zcc18 x0 x5 x2 x3 x4 x10 x12 x7 x11 x13 x16 x8 x9 x18 x14 x15 x17 x19 x21 x20 x22 x23 ((1000 : Nat) - i3 < 1000 - x6 ∧ True))
 abbrev zcc34 := (decide ((↑x6 : Int) < (↑x9 : Int)) = true → zcc37 x0 x1 x2 x3 x4 x5 x6 x7 x8 x9 x10 x11 x12 x13 x14 x15 x16 x17 x18 x19 x20 x21 x22 x23) ∧ (decide ((↑x6 : Int) < (↑x9 : Int)) = false → ∃ (i4 : Unit), zcc29 x0 x2 x3 x4)
 abbrev zcc33 := (∃ (i0 : Nat), x0 = x0 ∧ zcc32 x4 ∧ (↑i0 : Int) = 0 ∧ zcc18 x1 x5 x2 x3 x4 x10 x6 x7 x8 x9 x16 x11 x12 x13 x14 x15 x17 x18 x19 x20 x21 x22 True) ∧ ∀ (i1 : Nat), True → zcc34 x1 x0 x2 x3 x4 x5 i1 x7 x11 x12 x10 x8 x6 x9 x14 x15 x16 x17 x13 x18 x20 x19 x21 x22
 abbrev zcc48 := (decide (x0 = 13) = true → ∃ (i0 : Unit), x1 = x1 ∧ zcc32 x4 ∧ bP (GJ.k x4) x0 = decide (GJ.k x4 = 6) ∧ zcc18 x5 x0 x2 x3 x4 x10 x6 x7 x8 x9 x16 x11 x12 x13 x14 x15 x17 x18 x19 x20 x21 x22 True) ∧ (decide (x0 = 13) = false → ∃ (i1 : Unit), x1 = x1 ∧ zcc32 x4 ∧ bP (GJ.k x4) x0 = false ∧ zcc18 x5 x0 x2 x3 x4 x10 x6 x7 x8 x9 x16 x11 x12 x13 x14 x15 x17 x18 x19 x20 x21 x22 True)
 abbrev zcc38 := (bq 12 5 (GJ.k x4) x0 = true → ∃ (i0 : Unit), x1 = x1 ∧ zcc32 x4 ∧ bP (GJ.k x4) x0 = bq 12 5 (GJ.k x4) x0 ∧ zcc18 x5 x0 x2 x3 x4 x10 x6 x7 x8 x9 x16 x11 x12 x13 x14 x15 x17 x18 x19 x20 x21 x22 True) ∧ (bq 12 5 (GJ.k x4) x0 = false → zcc48 x0 x1 x2 x3 x4 x5 x6 x7 x8 x9 x10 x11 x12 x13 x14 x15 x16 x17 x18 x19 x20 x21 x22)
 abbrev zcc30 := AT.k x29.2.2.2.1 = x0 ∧ AT.nm x29.2.2.2.1 = x7 ∧ (AT.al x29.2.2.2.1).1 = x8 ∧ (AT.al x29.2.2.2.1).2.1 = x6 ∧ (AT.al x29.2.2.2.1).2.2 = x9 ∧ AT.it x29.2.2.2.1 = x1 ∧ (AT.sy x29.2.2.2.1).1 = x11 ∧ (AT.sy x29.2.2.2.1).2.1 = x12 ∧ (AT.sy x29.2.2.2.1).2.2 = x13 ∧ AT.hd x29.2.2.2.1 = x14 ∧ AT.df x29.2.2.2.1 = x15 ∧ AT.sz x29.2.2.2.1 = x5 ∧ (AT.f x29.2.2.2.1).1 = x17 ∧ (AT.f x29.2.2.2.1).2.1 = x18 ∧ (AT.f x29.2.2.2.1).2.2 = x19 ∧ (AT.br x29.2.2.2.1).1 = x20 ∧ (AT.br x29.2.2.2.1).2.1 = x21 ∧ (AT.br x29.2.2.2.1).2.2 = x22 ∧ GJ.k x29.2.2.2.2.1 = GJ.k x4 ∧ GJ.n x29.2.2.2.2.1 = GJ.n x4 ∧ GJ.s x29.2.2.2.2.1 = GJ.s x4 ∧ (GJ.y x29.2.2.2.2.1).1 = (GJ.y x4).1 ∧ (GJ.y x29.2.2.2.2.1).2.1 = (GJ.y x4).2.1 ∧ (GJ.y x29.2.2.2.2.1).2.2 = (GJ.y x4).2.2 ∧ (GJ.x x29.2.2.2.2.1).1 = (GJ.x x4).1 ∧ (GJ.x x29.2.2.2.2.1).2.1 = (GJ.x x4).2.1 ∧ (GJ.x x29.2.2.2.2.1).2.2 = (GJ.x x4).2.2 ∧ x29.2.2.2.2.2 = x10 ∧ x29.2.1.1 = x2.1 ∧ x29.2.1.2.1 = x2.2.1 ∧ x29.2.1.2.2 = x2.2.2 ∧ x29.2.2.1 = x16 + 1 ∧ x24
 abbrev zcc46 := GJ.wf x29.2.2.2.2.1 ∧ (0 ≤ x29.2.2.1 ∧ x29.2.2.1 ≤ 2000) ∧ 1 ≤ x29.2.2.2.2.2 ∧ x29.2.2.2.2.2 ≤ 20
 abbrev zcc35 := GV.n x25.2.2 = GV.n x30.2.2 ∧ GV.s x25.2.2 = GV.s x30.2.2 ∧ (GV.x x25.2.2).1 = (GV.x x30.2.2).1 ∧ (GV.x x25.2.2).2.1 = (GV.x x30.2.2).2.1 ∧ (GV.x x25.2.2).2.2 = (GV.x x30.2.2).2.2 ∧ (GV.y x25.2.2).1 = (GV.y x30.2.2).1 ∧ (GV.y x25.2.2).2.1 = (GV.y x30.2.2).2.1 ∧ (GV.y x25.2.2).2.2 = (GV.y x30.2.2).2.2 ∧ GV.b x25.2.2 = GV.b x30.2.2 ∧ x24
 abbrev zcc31 := (∀ (i0 : Pub), zcc41 x2 x3 x4 i0 → schP x29.1 x29.2.1 i0 ∧ AT.ok x29.2.2.2.1 i0 ∧ GJ.ok x29.2.2.2.2.1 i0) ∧ ∀ (i1 : VlB), vlPost x29.2.2.1 i1 → (∃ (i2 : Pub), (zcc41 x2 x3 x4 i2) ∧ GV.ok i1.2.2 i2) → ∃ (i3 : VlB), zcc35 (i3.2.1 = i1.2.1 ∧ x2.1 = x29.2.1.1 ∧ x2.2.1 = x29.2.1.2.1 ∧ x2.2.2 = x29.2.1.2.2 ∧ i3.1 = i1.1 ∧ vlPost x0 i3 ∧ (∀ (i4 : Pub), (zcc41 x2 x3 x4 i4) ∧ GV.ok i1.2.2 i4 → GV.ok i3.2.2 i4) ∧ True) i3 i1
 abbrev zcc26 := ((0 : Int) ≤ 0 ∧ 0 < (↑x6 : Int)) ∧ x8 ≠ noA ∧ ∃ (i0 : Int), (∀ (i1 : Pub), zcc41 x2 x3 x4 i1 → cellsP i1 (adr x8 ((0 : Nat) * 1)) [Value.int IntKind.i64 i0]) ∧ zcc52 x0 ∧ ∃ (i2 : VlS), i2.2.2.2.1 = i0 ∧ GJ.k i2.2.2.2.2.1 = GJ.k x4 ∧ GJ.n i2.2.2.2.2.1 = GJ.n x4 ∧ GJ.s i2.2.2.2.2.1 = GJ.s x4 ∧ (GJ.y i2.2.2.2.2.1).1 = (GJ.y x4).1 ∧ (GJ.y i2.2.2.2.2.1).2.1 = (GJ.y x4).2.1 ∧ (GJ.y i2.2.2.2.2.1).2.2 = (GJ.y x4).2.2 ∧ (GJ.x i2.2.2.2.2.1).1 = (GJ.x x4).1 ∧ (GJ.x i2.2.2.2.2.1).2.1 = (GJ.x x4).2.1 ∧ (GJ.x i2.2.2.2.2.1).2.2 = (GJ.x x4).2.2 ∧ i2.2.2.2.2.2 = x0 + 1 ∧ i2.2.1.1 = x2.1 ∧ i2.2.1.2.1 = x2.2.1 ∧ i2.2.1.2.2 = x2.2.2 ∧ i2.2.2.1 = x1 + 1 ∧ (muVl i2 < x9 ∧ goodS i2.1 ∧ (0 ≤ i2.2.2.2.1 ∧ i2.2.2.2.1 < (↑(List.length i2.1) : Int)) ∧ GJ.wf i2.2.2.2.2.1 ∧ (0 ≤ i2.2.2.1 ∧ i2.2.2.1 ≤ 2000) ∧ 1 ≤ i2.2.2.2.2.2 ∧ i2.2.2.2.2.2 ≤ 21) ∧ (∀ (i3 : Pub), zcc41 x2 x3 x4 i3 → schP i2.1 i2.2.1 i3 ∧ GJ.ok i2.2.2.2.2.1 i3) ∧ ∀ (i4 : VlB), vlPost i2.2.2.1 i4 → (∃ (i5 : Pub), (zcc41 x2 x3 x4 i5) ∧ GV.ok i4.2.2 i5) → ∃ (i6 : VlB), i6.2.1 = i4.2.1 ∧ x2.1 = i2.2.1.1 ∧ x2.2.1 = i2.2.1.2.1 ∧ x2.2.2 = i2.2.1.2.2 ∧ i6.1 = i4.1 ∧ zcc35 ((∀ (i7 : Pub), (zcc41 x2 x3 x4 i7) ∧ GV.ok i4.2.2 i7 → zcc41 x2 x3 x4 i7) ∧ (∀ (i8 : Pub), (zcc41 x2 x3 x4 i8) ∧ GV.ok i4.2.2 i8 → GV.ok i6.2.2 i8) ∧ vlPost x1 i6 ∧ True) i6 i4
 abbrev zcc24 := ((zcc26 x0 x1 x2 x3 x4 x6 x8 x9) ∧ zcc26 x0 x1 x2 x3 x4 x6 x8 x9) ∧ ∀ (i18 : VlB), vlPost x1 i18 → (∃ (i19 : Pub), (zcc41 x2 x3 x4 i19) ∧ GV.ok i18.2.2 i19) → ∀ (i20 i21 i22 : Nat), (∃ (i23 : Pub), ((zcc41 x2 x3 x4 i23) ∧ GV.ok i18.2.2 i23) ∧ cellsP i23 (Addr.mk i20 i21 none) [Value.int IntKind.u64 (GV.n i18.2.2), Value.string (GV.s i18.2.2), Value.slice (GV.x i18.2.2).1 (GV.x i18.2.2).2.1 (GV.x i18.2.2).2.2, Value.slice (GV.y i18.2.2).1 (GV.y i18.2.2).2.1 (GV.y i18.2.2).2.2, Value.int IntKind.i64 (GV.b i18.2.2)]) → ∃ (i24 : VlB), zcc50 ((GV.x i24.2.2).1 = some (Addr.mk i20 (i21 + nat_lit 0) none) ∧ (GV.x i24.2.2).2.1 = nat_lit 1 ∧ (GV.x i24.2.2).2.2 = nat_lit 1 ∧ zcc49 (i24.2.1 = i18.2.1 ∧ zcc40 x2 (i24.1 = i18.1 ∧ vlPost x1 i24 ∧ (∀ (i25 : Pub), (((zcc41 x2 x3 x4 i25) ∧ GV.ok i18.2.2 i25) ∧ ∀ (i26 : Nat) (i27 : Value), [Value.int IntKind.u64 (GV.n i18.2.2), Value.string (GV.s i18.2.2), Value.slice (GV.x i18.2.2).1 (GV.x i18.2.2).2.1 (GV.x i18.2.2).2.2, Value.slice (GV.y i18.2.2).1 (GV.y i18.2.2).2.1 (GV.y i18.2.2).2.2, Value.int IntKind.i64 (GV.b i18.2.2)][i26]? = some i27 → cellP i25 (Addr.add (Addr.mk i20 i21 none) i26) = some i27) → GV.ok i24.2.2 i25) ∧ True)) i24) i24
 abbrev zcc23 := (decide (x0 = 14) = true → zcc24 x1 x5 x2 x3 x4 x6 x8 x9) ∧ (decide (x0 = 14) = false → ∃ (i28 : Unit), zcc29 x5 x2 x3 x4)
 abbrev zcc22 := (bq 9 6 (GJ.k x4) x0 = true → ∃ (i0 : VqS), zcc30 x0 x1 x2 x4 x5 x6 x7 x8 x9 x10 x11 x12 x13 x14 x15 x16 x17 x18 x19 x20 x21 x22 ((muVq i0 < x23 + 1 ∧ goodS i0.1 ∧ i0.2.2.2.1 ∈ i0.1 ∧ isRec i0.2.2.2.1 i0.2.2.2.2.1 ∧ zcc46 i0) ∧ zcc31 x16 x2 x3 x4 i0) i0) ∧ (bq 9 6 (GJ.k x4) x0 = false → zcc23 x0 x10 x2 x3 x4 x16 x21 x20 x23)
 abbrev zcc21 := zcc27 x0 x1 x2 x3 x4 x5 x6 x7 x8 x9 x10 x11 x12 x13 x14 x15 x16 x17 x18 x19 x20 x21 x22 9 6 ∧ ∀ (i2 : Unit), True → zcc22 x0 x10 x2 x3 x4 x16 x6 x7 x8 x9 x1 x11 x12 x13 x14 x15 x5 x17 x18 x19 x20 x21 x22 x23
 abbrev zcc20 := (bP (GJ.k x4) x0 = true → ∃ (i0 : VqS), zcc30 x0 x1 x2 x4 x5 x6 x7 x8 x9 x10 x11 x12 x13 x14 x15 x16 x17 x18 x19 x20 x21 x22 ((muVq i0 < x23 + 1 ∧ goodS i0.1 ∧ i0.2.2.2.1 ∈ i0.1 ∧ isPar i0.2.2.2.1 i0.2.2.2.2.1 ∧ zcc46 i0) ∧ zcc31 x16 x2 x3 x4 i0) i0) ∧ (bP (GJ.k x4) x0 = false → zcc21 x0 x10 x2 x3 x4 x16 x6 x7 x8 x9 x1 x11 x12 x13 x14 x15 x5 x17 x18 x19 x20 x21 x22 x23)
 abbrev zcc19 := (zcc27 x0 x1 x2 x3 x4 x5 x6 x7 x8 x9 x10 x11 x12 x13 x14 x15 x16 x17 x18 x19 x20 x21 x22 12 5 ∧ ∀ (i2 : Unit), True → zcc38 x0 x1 x2 x3 x4 x5 x6 x7 x8 x9 x10 x11 x12 x13 x14 x15 x16 x17 x18 x19 x20 x21 x22) ∧ ∀ (i6 : Unit), True → zcc20 x0 x10 x2 x3 x4 x16 x6 x7 x8 x9 x1 x11 x12 x13 x14 x15 x5 x17 x18 x19 x20 x21 x22 x23
 abbrev zcc17 := (bq 10 4 (GJ.k x4) x0 = true → zcc33 x1 x5 x2 x3 x4 x0 x6 x7 x8 x9 x10 x11 x12 x13 x14 x15 x16 x17 x18 x19 x20 x21 x22) ∧ (bq 10 4 (GJ.k x4) x0 = false → zcc19 x0 x1 x2 x3 x4 x5 x6 x7 x8 x9 x10 x11 x12 x13 x14 x15 x16 x17 x18 x19 x20 x21 x22 x23)
 abbrev zcc16 := zcc27 x0 x1 x2 x3 x4 x5 x6 x7 x8 x9 x10 x11 x12 x13 x14 x15 x16 x17 x18 x19 x20 x21 x22 10 4 ∧ ∀ (i4 : Unit), True → zcc17 x0 x1 x2 x3 x4 x5 x6 x7 x8 x9 x10 x11 x12 x13 x14 x15 x16 x17 x18 x19 x20 x21 x22 x23
 abbrev zcc15 := (bT (GJ.k x4) x0 = true → ∃ (i0 : ByteArray), i0 = GJ.s x4 ∧ ByteArray.size i0 < 1000000 ∧ ∀ (i1 : ByteArray × Bool), ByteArray.size i1.1 ≤ ByteArray.size i0 → zcc28 x0 x1 x2 x3 x4 x5 i1) ∧ (bT (GJ.k x4) x0 = false → zcc16 x0 x10 x2 x3 x4 x1 x6 x7 x8 x9 x16 x11 x12 x13 x14 x15 x5 x17 x18 x19 x20 x21 x22 x23)
 abbrev zcc14 := ((decide (x0 = 7) = true → ∃ (i0 : Unit), x1 = x1 ∧ zcc32 x4 ∧ bT (GJ.k x4) x0 = decide (GJ.k x4 = 4) ∧ zcc18 x5 x0 x2 x3 x4 x10 x6 x7 x8 x9 x16 x11 x12 x13 x14 x15 x17 x18 x19 x20 x21 x22 True) ∧ (decide (x0 = 7) = false → zcc47 x0 x1 x2 x3 x4 x5 x6 x7 x8 x9 x10 x11 x12 x13 x14 x15 x16 x17 x18 x19 x20 x21 x22)) ∧ ∀ (i6 : Unit), True → zcc15 x0 x5 x2 x3 x4 x16 x6 x7 x8 x9 x1 x11 x12 x13 x14 x15 x10 x17 x18 x19 x20 x21 x22 x23
 abbrev zcc13 := (bq 8 4 (GJ.k x4) x0 = true → ∃ (i0 : VlB), GV.n i0.2.2 = 0 ∧ GV.s i0.2.2 = GJ.s x4 ∧ zcc25 x1 0 x2 x3 x4 i0) ∧ (bq 8 4 (GJ.k x4) x0 = false → zcc14 x0 x5 x2 x3 x4 x1 x6 x7 x8 x9 x10 x11 x12 x13 x14 x15 x16 x17 x18 x19 x20 x21 x22 x23)
 abbrev zcc12 := zcc27 x0 x1 x2 x3 x4 x5 x6 x7 x8 x9 x10 x11 x12 x13 x14 x15 x16 x17 x18 x19 x20 x21 x22 8 4 ∧ ∀ (i4 : Unit), True → zcc13 x0 x5 x2 x3 x4 x1 x6 x7 x8 x9 x10 x11 x12 x13 x14 x15 x16 x17 x18 x19 x20 x21 x22 x23
 abbrev zcc11 := (bq 6 3 (GJ.k x4) x0 = true → ∃ (i0 : Int), i0 = GJ.n x4 ∧ i64P i0 ∧ ∀ (i1 : Int), u64P i1 → ∃ (i2 : VlB), GV.n i2.2.2 = i1 ∧ GV.s i2.2.2 = mkS [] ∧ zcc25 x1 0 x2 x3 x4 i2) ∧ (bq 6 3 (GJ.k x4) x0 = false → zcc12 x0 x5 x2 x3 x4 x1 x6 x7 x8 x9 x10 x11 x12 x13 x14 x15 x16 x17 x18 x19 x20 x21 x22 x23)
 abbrev zcc10 := zcc27 x0 x1 x2 x3 x4 x5 x6 x7 x8 x9 x10 x11 x12 x13 x14 x15 x16 x17 x18 x19 x20 x21 x22 6 3 ∧ ∀ (i4 : Unit), True → zcc11 x0 x5 x2 x3 x4 x1 x6 x7 x8 x9 x10 x11 x12 x13 x14 x15 x16 x17 x18 x19 x20 x21 x22 x23
 abbrev zcc9 := (bq 5 3 (GJ.k x4) x0 = true → ∃ (i0 : Int), i0 = GJ.n x4 ∧ i64P i0 ∧ ∀ (i1 : Int), 0 ≤ i1 ∧ i1 < 4294967296 → (0 ≤ i1 ∧ i1 ≤ 18446744073709551615) ∧ ∃ (i2 : VlB), GV.n i2.2.2 = i1 ∧ GV.s i2.2.2 = mkS [] ∧ zcc25 x1 0 x2 x3 x4 i2) ∧ (bq 5 3 (GJ.k x4) x0 = false → zcc10 x0 x5 x2 x3 x4 x1 x6 x7 x8 x9 x10 x11 x12 x13 x14 x15 x16 x17 x18 x19 x20 x21 x22 x23)
 abbrev zcc8 := zcc43 x0 x1 x2 x3 x4 x5 x6 x7 x8 x9 x10 x11 x12 x13 x14 x15 x16 x17 x18 x19 x20 x21 x22 5 3 ∧ ∀ (i4 : Unit), True → zcc9 x0 x5 x2 x3 x4 x1 x6 x7 x8 x9 x10 x11 x12 x13 x14 x15 x16 x17 x18 x19 x20 x21 x22 x23
 abbrev zcc7 := (bN (GJ.k x4) (GJ.n x4) x0 = true → zcc53 x1 x2 x3 x4) ∧ (bN (GJ.k x4) (GJ.n x4) x0 = false → zcc8 x0 x5 x2 x3 x4 x1 x6 x7 x8 x9 x10 x11 x12 x13 x14 x15 x16 x17 x18 x19 x20 x21 x22 x23)
 abbrev zcc6 := (((decide (x0 = 3) = true → zcc36 x1 x0 x2 x3 x4 x5 x6 x7 x8 x9 x10 x11 x12 x13 x14 x15 x16 x17 x18 x19 x20 x21 x22) ∧ (decide (x0 = 3) = false → ∃ (i6 : Unit), x1 = x1 ∧ zcc32 x4 ∧ bI (GJ.k x4) (GJ.n x4) x0 = false ∧ zcc18 x5 x0 x2 x3 x4 x10 x6 x7 x8 x9 x16 x11 x12 x13 x14 x15 x17 x18 x19 x20 x21 x22 True)) ∧ ∀ (i8 : Unit), True → zcc39 x0 x1 x2 x3 x4 x5 x6 x7 x8 x9 x10 x11 x12 x13 x14 x15 x16 x17 x18 x19 x20 x21 x22) ∧ ∀ (i15 : Unit), True → zcc7 x0 x5 x2 x3 x4 x1 x6 x7 x8 x9 x10 x11 x12 x13 x14 x15 x16 x17 x18 x19 x20 x21 x22 x23
 abbrev zcc5 := (bq 2 2 (GJ.k x4) x0 = true → zcc53 x1 x2 x3 x4) ∧ (bq 2 2 (GJ.k x4) x0 = false → zcc6 x0 x5 x2 x3 x4 x1 x6 x7 x8 x9 x10 x11 x12 x13 x14 x15 x16 x17 x18 x19 x20 x21 x22 x23)
 abbrev zcc4 := zcc43 x0 x1 x2 x3 x4 x5 x6 x7 x8 x9 x10 x11 x12 x13 x14 x15 x16 x17 x18 x19 x20 x21 x22 2 2 ∧ ∀ (i4 : Unit), True → zcc5 x0 x5 x2 x3 x4 x1 x6 x7 x8 x9 x10 x11 x12 x13 x14 x15 x16 x17 x18 x19 x20 x21 x22 x23
 abbrev zcc3 := (bq 1 1 (GJ.k x4) x0 = true → ∃ (i0 : VlB), zcc50 (zcc25 x1 0 x2 x3 x4 i0) i0) ∧ (bq 1 1 (GJ.k x4) x0 = false → zcc4 x0 x5 x2 x3 x4 x1 x6 x7 x8 x9 x10 x11 x12 x13 x14 x15 x16 x17 x18 x19 x20 x21 x22 x23)
 abbrev zcc2 := (0 ≤ x0 ∧ x0 < (↑x2.2.1 : Int)) ∧ x2.1 ≠ noA ∧ ∃ (i0 : Int), ∃ (i1 : ByteArray), ∃ (i2 : Option Addr), ∃ (i3 : Nat), ∃ (i4 : Nat), ∃ (i5 : Int), ∃ (i6 : Option Addr), ∃ (i7 : Nat), ∃ (i8 : Nat), ∃ (i9 : Bool), ∃ (i10 : ByteArray), ∃ (i11 : Int), ∃ (i12 : Option Addr), ∃ (i13 : Nat), ∃ (i14 : Nat), ∃ (i15 : Option Addr), ∃ (i16 : Nat), ∃ (i17 : Nat), (∀ (i18 : Pub), zcc41 x2 x3 x4 i18 → cellsP i18 (adr x2.1 (Int.toNat x0 * 10)) [Value.int IntKind.i64 i0, Value.string i1, Value.slice i2 i3 i4, Value.int IntKind.i64 i5, Value.slice i6 i7 i8, Value.bool i9, Value.string i10, Value.int IntKind.i64 i11, Value.slice i12 i13 i14, Value.slice i15 i16 i17]) ∧ (zcc27 i0 x1 x2 x3 x4 x5 i3 i1 i2 i4 i5 i6 i7 i8 i9 i10 i11 i12 i13 i14 i15 i16 i17 1 1 ∧ ∀ (i23 : Unit), True → zcc3 i0 x5 x2 x3 x4 x1 i3 i1 i2 i4 i5 i6 i7 i8 i9 i10 i11 i12 i13 i14 i15 i16 i17 x6) ∧ ∀ (i171 : Unit), True → ∃ (i172 : VlB), zcc50 (zcc25 x5 7 x2 x3 x4 i172) i172
 abbrev zcc1 := (decide (2000 < x0 + 1) = true → ∃ (i0 : VlB), zcc50 (zcc25 x0 3 x2 x3 x4 i0) i0) ∧ (decide (2000 < x0 + 1) = false → zcc2 x1 x5 x2 x3 x4 x0 x6)
 abbrev zcc0 := zcc52 x0 ∧ (decide (20 < x1) = true → ∃ (i0 : VlB), zcc50 (zcc25 x0 3 x2 x3 x4 i0) i0) ∧ (decide (20 < x1) = false → zcc1 x0 x5 x2 x3 x4 x1 x6)
end
theorem vl_eqz (n : Nat) (S : List AT) (x : SV) (all t : Int) (g : GJ) (d : Int) : askR P (ctTab []) (rlTab [(76, cVl.below muVl n), (107, (cVq isPar).below muVq (n + 1)), (108, (cVq isRec).below muVq (n + 1)), (104, cFloat), (105, cDouble), (106, cRaw)]) Try.f76 (cVl.below muVl (n + 1)) (wVl) ⟨S, x, all, t, g, d⟩ = (muVl (S, x, all, t, g, d) < n + 1 ∧ goodS S ∧ (0 ≤ t ∧ t < (↑(List.length S) : Int)) ∧ GJ.wf g ∧ (0 ≤ all ∧ all ≤ 2000) ∧ 1 ≤ d ∧ d ≤ 21 → (∃ (p : Pub), zcc41 x S g p) → zcc0 all d x S g t n) := by kernel_rfl
def vl_eq (n : Nat) (S : List AT) (x : SV) (all t : Int) (g : GJ) (d : Int) := Eq.trans (vl_eqz n S x all t g d) (by delta zcc41 zcc52 zcc50 zcc49 zcc40 zcc25 zcc32 zcc18 zcc27 zcc43 zcc53 zcc42 zcc36 zcc44 zcc39 zcc47 zcc29 zcc45 zcc51 zcc28 zcc37 zcc34 zcc33 zcc48 zcc38 zcc30 zcc46 zcc35 zcc31 zcc26 zcc24 zcc23 zcc22 zcc21 zcc20 zcc19 zcc17 zcc16 zcc15 zcc14 zcc13 zcc12 zcc11 zcc10 zcc9 zcc8 zcc7 zcc6 zcc5 zcc4 zcc3 zcc2 zcc1 zcc0; exact rfl)
theorem AT_slots {a : AT} {p : Pub} (h : a.ok p) : a.al.2.1 = a.als.length ∧ a.sy.2.1 = a.sys.length ∧ a.f.2.1 = a.fs.length ∧ a.br.2.1 = a.brs.length := ⟨h.1.1, h.2.1.1, h.2.2.1.1, h.2.2.2.1.1⟩
theorem GJ_slots {g : GJ} {p : Pub} (h : g.ok p) : g.y.2.1 = g.l.length ∧ g.x.2.1 = g.nm.length := by rw [GJ.ok_eq] at h; exact ⟨h.1.1, h.2.1.1⟩
theorem gjl_at {g : GJ} {p : Pub} (h : g.ok p) {j : Nat} (hj : j < g.l.length) : (g.y.1 ≠ noA ∧ cellsP p (adr g.y.1 (j * 5)) g.l[j].cells) ∧ g.l[j].ok p := by
  rw [GJ.ok_eq] at h; exact ⟨slP_at gj_len (by decide) h.1 hj, GJ.oks_at h.2.2 hj⟩
theorem gjn_at {g : GJ} {p : Pub} (h : g.ok p) {j : Nat} (hj : j < g.nm.length) : g.x.1 ≠ noA ∧ cellsP p (adr g.x.1 (j * 1)) [.string g.nm[j]] := by
  rw [GJ.ok_eq] at h; exact slP_at tx_len (by decide) h.2.1 hj
theorem gvs_app : ∀ {l m : List GV} {p : Pub}, GV.oks l p → GV.oks m p → GV.oks (l ++ m) p := fun h1 h2 => GV.oks_iff.2 fun v hv => (List.mem_append.1 hv).elim (GV.oks_iff.1 h1 v) (GV.oks_iff.1 h2 v)
theorem gvs_one {v : GV} {p : Pub} (h : v.ok p) : GV.oks [v] p := GV.oks_iff.2 fun w hw => by simp at hw; subst hw; exact h
def zV : GV := .mk 0 (mkS []) (none, 0, 0) [] (none, 0, 0) [] 0
theorem zV_ok (p : Pub) : zV.ok p := by unfold zV GV.ok; exact ⟨slP_nil, slP_nil, by unfold GV.oks; trivial⟩
theorem put_len (k : ByteArray) (ks : List ByteArray) (l : List PV) (w : PV) (h : ks.length = l.length) : (putS k ks).length = (putV k ks l w).length ∧ (putV k ks l w).length ≤ l.length + 1 := by
  have hi := kIx_le k ks
  unfold putS putV
  split
  · rw [List.length_set]; omega
  · simp only [List.length_append, List.length_take, List.length_cons, List.length_drop]; omega
theorem partA_ok (n : Nat) (hv : CtROK P 76 (cVl.below muVl n)) : CtROK P 107 ((cVq isArr).below muVq (n + 1)) := by
  refine ask_okR mixed (ctTab_ok nil_tab) (rlTab_ok (forall_rel hv (forall_rel put_ok nil_rel))) (W := wPa) Try.func107 (by kernel_rfl) (show 1 ≤ 2 by decide) (show 2 ≤ 2 by decide) (fun s => by kernel_rfl) fun ⟨S, (x : SV), (all : Int), a, g, (d : Int)⟩ => (partA_eq n S x all a g d).mpr ?_
  rintro ⟨hmu, hS, haS, hk, hg, ⟨hal0, hal1⟩, hd1, hd2⟩ ⟨p, _, hx, ha, hgo⟩
  have hmu : 2 * (25 - d).toNat < n + 1 := hmu
  have hk : a.k = 12 := hk
  obtain ⟨gl, gnl⟩ := GJ_slots hgo
  have hgw := hg
  rw [GJ.wf_eq] at hgw
  obtain ⟨_, hgl, _, _, _, _, hgs⟩ := hgw
  have hat := (hS.2 a haS).2.1 (.inl hk)
  simp only [decide_eq_true_eq, decide_eq_false_iff_not, Bool.not_eq_true', Bool.not_eq_false', true_and, and_true, eq_self, imp_self, implies_true, exists_const, forall_const, Int.toNat_natCast, gl, gnl]
  refine ⟨⟨⟨0, all, []⟩, rfl, rfl, rfl, fun q hq => GV.oks_iff.2 fun v h => (by cases h), Nat.zero_le _, ⟨by show all ≤ all; omega, hal1⟩, rfl⟩, ?_⟩
  rintro ⟨j, al, fs⟩ ⟨hj, ⟨hl0, hl1⟩, hfl⟩ ⟨p1, hp1, hfs1⟩
  simp only at hj hl0 hl1 hfl hfs1 ⊢
  refine ⟨fun hlt => ⟨⟨?xa, ?xb⟩, ?_⟩, fun hge => ?_⟩
  case xa | xb =>
    have hjl : j < g.l.length := by omega
    have hw : g.l[j].wf := GJ.wfs_at hgs hjl
    refine ⟨⟨by omega, by omega⟩, (gjl_at hgo hjl).1.1, g.l[j].k, g.l[j].n, g.l[j].s, g.l[j].y.1, g.l[j].y.2.1, g.l[j].y.2.2, g.l[j].x.1, g.l[j].x.2.1, g.l[j].x.2.2, fun q hq => (gjl_at hq.1.2.2 hjl).1.2, ⟨by omega, by omega⟩, ⟨S, x, al, a.it, g.l[j], d + 1⟩, rfl, rfl, rfl, rfl, rfl, rfl, rfl, rfl, rfl, rfl, rfl, rfl, rfl, rfl, rfl, ⟨by show 2 * (25 - (d + 1)).toNat < n; omega, hS, hat, hw, ⟨by show 0 ≤ al; omega, hl1⟩, by show 1 ≤ d + 1; omega, by show d + 1 ≤ 21; omega⟩, fun q hq => ⟨hq.1.1, (gjl_at hq.1.2.2 hjl).2⟩, ?_⟩
    rintro ⟨a2, e, w⟩ hb _
    exact ⟨⟨a2, e, w⟩, rfl, rfl, rfl, rfl, rfl, rfl, rfl, rfl, rfl, rfl, rfl, rfl, rfl, rfl, fun q hq => hq.1, fun q hq => hq.2, hb⟩
  · rintro ⟨a2, e, w⟩ hb _
    have hb : al ≤ a2 ∧ a2 ≤ 2001 ∧ (e = 0 → a2 ≤ 2000) := hb
    simp only
    refine ⟨fun he => ⟨⟨a2, e, zV⟩, rfl, rfl, rfl, rfl, rfl, rfl, rfl, rfl, rfl, rfl, rfl, ⟨by show all ≤ a2; omega, hb.2⟩, fun q hq => zV_ok q⟩, fun he => ⟨fun _ => ⟨rows_len gv_len fs, by omega, ⟨by omega, by omega⟩, ⟨j + 1, a2, fs ++ [w]⟩, by show ((j + 1 : Nat) : Int) = _; omega, rfl, by simp, by rw [rows_app]; rfl, fun q hq => hq.1.1, fun q hq => gvs_app hq.1.2 (gvs_one hq.2), ⟨by show j + 1 ≤ _; omega, ⟨by show all ≤ a2; omega, hb.2.2 he⟩, by show (fs ++ [w]).length = j + 1; simp [hfl]⟩, by show _ - (j + 1) < _; omega⟩, fun h => absurd hk h⟩⟩
  · intro a6 c _
    refine ⟨⟨al, 0, .mk 0 (mkS []) (a6, fs.length, c) fs (none, 0, 0) [] 0⟩, rfl, rfl, rfl, rfl, rfl, rfl, rfl, rfl, rfl, rfl, rfl, ⟨by show all ≤ al; omega, by show al ≤ 2001; omega, fun _ => hl1⟩, fun q hq => ?_⟩
    have h2 := hq.2.2
    rw [List.take_of_length_le (by rw [rows_len gv_len]; exact Nat.le_refl _)] at h2
    show GV.ok _ q
    unfold GV.ok
    exact ⟨⟨rfl, hq.2.1, h2⟩, slP_nil, hq.1.2⟩
theorem partM_ok (n : Nat) (hv : CtROK P 76 (cVl.below muVl n)) : CtROK P 107 ((cVq isMap).below muVq (n + 1)) := by
  refine ask_okR mixed (ctTab_ok nil_tab) (rlTab_ok (forall_rel hv (forall_rel put_ok nil_rel))) (W := wPm) Try.func107 (by kernel_rfl) (show 1 ≤ 2 by decide) (show 2 ≤ 2 by decide) (fun s => by kernel_rfl) fun ⟨S, (x : SV), (all : Int), a, g, (d : Int)⟩ => (partM_eq n S x all a g d).mpr ?_
  rintro ⟨hmu, hS, haS, hk, hg, ⟨hal0, hal1⟩, hd1, hd2⟩ ⟨p, _, hx, ha, hgo⟩
  have hmu : 2 * (25 - d).toNat < n + 1 := hmu
  obtain ⟨hk, hgk⟩ := hk
  obtain ⟨gl, gnl⟩ := GJ_slots hgo
  have hgw := hg
  rw [GJ.wf_eq] at hgw
  obtain ⟨_, hgl, _, hnsz, _, hnl, hgs⟩ := hgw
  have hnl := hnl hgk
  have hat := (hS.2 a haS).2.1 (.inr hk)
  simp only [decide_eq_true_eq, decide_eq_false_iff_not, Bool.not_eq_true', Bool.not_eq_false', true_and, and_true, eq_self, imp_self, implies_true, exists_const, forall_const, Int.toNat_natCast, gl, gnl]
  refine ⟨⟨⟨0, all, zV⟩, rfl, rfl, rfl, rfl, rfl, rfl, rfl, rfl, rfl, rfl, rfl, fun q hq => zV_ok q, Nat.zero_le _, ⟨by show all ≤ all; omega, hal1⟩, rfl, Nat.zero_le _⟩, ?_⟩
  rintro ⟨j, al, v⟩ ⟨hj, ⟨hl0, hl1⟩, hvk, hvl⟩ ⟨p1, hp1, hv1⟩
  simp only at hj hl0 hl1 hvk hvl hv1 ⊢
  refine ⟨fun hlt => ⟨⟨?xa, ?xb⟩, ?_⟩, fun hge => ?_⟩
  case xa | xb =>
    have hjl : j < g.l.length := by omega
    have hw : g.l[j].wf := GJ.wfs_at hgs hjl
    refine ⟨⟨by omega, by omega⟩, (gjl_at hgo hjl).1.1, g.l[j].k, g.l[j].n, g.l[j].s, g.l[j].y.1, g.l[j].y.2.1, g.l[j].y.2.2, g.l[j].x.1, g.l[j].x.2.1, g.l[j].x.2.2, fun q hq => (gjl_at hq.1.2.2 hjl).1.2, ⟨by omega, by omega⟩, ⟨S, x, al, a.it, g.l[j], d + 1⟩, rfl, rfl, rfl, rfl, rfl, rfl, rfl, rfl, rfl, rfl, rfl, rfl, rfl, rfl, rfl, ⟨by show 2 * (25 - (d + 1)).toNat < n; omega, hS, hat, hw, ⟨by show 0 ≤ al; omega, hl1⟩, by show 1 ≤ d + 1; omega, by show d + 1 ≤ 21; omega⟩, fun q hq => ⟨hq.1.1, (gjl_at hq.1.2.2 hjl).2⟩, ?_⟩
    rintro ⟨a2, e, w⟩ hb _
    exact ⟨⟨a2, e, w⟩, rfl, rfl, rfl, rfl, rfl, rfl, rfl, rfl, rfl, rfl, rfl, rfl, rfl, rfl, fun q hq => hq.1, fun q hq => hq.2, hb⟩
  · rintro ⟨a2, e, w⟩ hb _
    have hb : al ≤ a2 ∧ a2 ≤ 2001 ∧ (e = 0 → a2 ≤ 2000) := hb
    simp only
    refine ⟨fun he => ⟨⟨a2, e, zV⟩, rfl, rfl, rfl, rfl, rfl, rfl, rfl, rfl, rfl, rfl, rfl, ⟨by show all ≤ a2; omega, hb.2⟩, fun q hq => zV_ok q⟩, fun he => ⟨fun h => by omega, fun _ => ?_⟩⟩
    have hjn : j < g.nm.length := by omega
    refine ⟨⟨by omega, by omega⟩, (gjn_at hgo hjn).1, g.nm[j], fun q hq => (gjn_at hq.1.1.2.2 hjn).2, ⟨v, g.nm[j], w⟩, rfl, rfl, rfl, rfl, rfl, rfl, rfl, rfl, rfl, rfl, rfl, rfl, rfl, rfl, rfl, rfl, rfl, rfl, rfl, ⟨hvk, by show v.l.length < _; omega⟩, fun q hq => ⟨hq.1.2, hq.2⟩, ?_⟩
    intro b hb2 _
    have hb2 : b.pv = PV.mk v.n v.s (putV g.nm[j] v.ks (GV.pvs v.l) w.pv) (putS g.nm[j] v.ks) v.b := hb2
    rw [GV.pv_eq] at hb2
    injection hb2 with _ _ e1 e2 _
    have hpl := put_len g.nm[j] v.ks (GV.pvs v.l) w.pv (by rw [GV.pvs_len]; exact hvk)
    rw [← e1, ← e2, GV.pvs_len, GV.pvs_len] at hpl
    exact ⟨⟨by omega, by omega⟩, ⟨j + 1, a2, b⟩, by show ((j + 1 : Nat) : Int) = _; omega, rfl, rfl, rfl, rfl, rfl, rfl, rfl, rfl, rfl, rfl, fun q hq => hq.1.1.1, fun q hq => hq.2, ⟨by show j + 1 ≤ _; omega, ⟨by show all ≤ a2; omega, hb.2.2 he⟩, hpl.1, by show b.l.length ≤ j + 1; omega⟩, by show _ - (j + 1) < _; omega⟩
  · exact ⟨⟨al, 0, v⟩, rfl, rfl, rfl, rfl, rfl, rfl, rfl, rfl, rfl, rfl, rfl, ⟨by show all ≤ al; omega, by show al ≤ 2001; omega, fun _ => hl1⟩, fun q hq => hq.2⟩
theorem recV_ok (n : Nat) (hv : CtROK P 76 (cVl.below muVl n)) : CtROK P 108 ((cVq isRec).below muVq (n + 1)) := by
  refine ask_okR mixed (ctTab_ok (forall_tab get6_ok nil_tab)) (rlTab_ok (forall_rel hv nil_rel)) (W := wRe) Try.func108 (by kernel_rfl) (show 1 ≤ 2 by decide) (show 2 ≤ 2 by decide) (fun s => by kernel_rfl) fun ⟨S, (x : SV), (all : Int), a, g, (d : Int)⟩ => (recV_eq n S x all a g d).mpr ?_
  rintro ⟨hmu, hS, haS, hk, hg, ⟨hal0, hal1⟩, hd1, hd2⟩ ⟨p, _, hx, ha, hgo⟩
  have hmu : 2 * (25 - d).toNat < n + 1 := hmu
  obtain ⟨gl, gnl⟩ := GJ_slots hgo
  obtain ⟨_, _, afl, _⟩ := AT_slots ha
  have hgf := hS.2 a haS
  have hf30 := hgf.2.2.2.2.2.2.2.1
  have hfg := hgf.2.2.2.2.1
  simp only [decide_eq_true_eq, decide_eq_false_iff_not, Bool.not_eq_true', Bool.not_eq_false', true_and, and_true, eq_self, imp_self, implies_true, exists_const, forall_const, Int.toNat_natCast, gl, gnl, afl]
  refine ⟨⟨⟨0, all, []⟩, rfl, rfl, rfl, fun q hq => GV.oks_iff.2 fun v h => (by cases h), Nat.zero_le _, ⟨by show all ≤ all; omega, hal1⟩, rfl⟩, ?_⟩
  rintro ⟨j, al, fs⟩ ⟨hj, ⟨hl0, hl1⟩, hfl⟩ ⟨p1, hp1, hfs1⟩
  simp only at hj hl0 hl1 hfl hfs1 ⊢
  refine ⟨fun hlt => ?_, fun hge => ?_⟩
  · have hjf : j < a.fs.length := by omega
    have hff := hfg _ (List.getElem_mem hjf)
    have fok := fun q (h : a.ok q) => h.2.2.2.2 a.fs[j] (List.getElem_mem hjf)
    generalize hfj : a.fs[j] = f at *
    have fat := fun q (h : a.ok q) => (show a.f.1 ≠ noA ∧ cellsP q (adr a.f.1 (j * 9)) f.cells by rw [← hfj]; exact fld_at h hjf)
    obtain ⟨cw, cok⟩ := getK_wf f.nm hg
    refine ⟨⟨by omega, by omega⟩, (fat p ha).1, f.nm, f.al.1, f.al.2.1, f.al.2.2, f.ty, f.hd, f.df.k, f.df.n, f.df.s, f.df.y.1, f.df.y.2.1, f.df.y.2.2, f.df.x.1, f.df.x.2.1, f.df.x.2.2, fun q hq => (fat q hq.1.2.1).2, ⟨g, f.nm⟩, rfl, rfl, rfl, rfl, gl, rfl, rfl, gnl, rfl, rfl, hg, fun q hq => hq.1.2.2, ?_⟩
    simp only
    generalize (getK f.nm g).getD zJ = cj at *
    refine ⟨⟨fun hno => ⟨fun _ => ⟨⟨al, 7, zV⟩, rfl, rfl, rfl, rfl, rfl, rfl, rfl, rfl, rfl, rfl, rfl, ⟨by show all ≤ al; omega, by show al ≤ 2001; omega, fun _ => hl1⟩, fun q hq => zV_ok q⟩, fun _ => ⟨f.df, rfl, rfl, rfl, rfl, rfl, rfl, rfl, rfl, rfl, fun q hq => (fok q hq.1.2.1).2, hff.2⟩⟩, fun hyes => ⟨cj, rfl, rfl, rfl, rfl, rfl, rfl, rfl, rfl, rfl, fun q hq => cok q hq.1.2.2, cw⟩⟩, ?_⟩
    intro c hcw _
    refine ⟨⟨by omega, by omega⟩, ⟨S, x, al, f.ty, c, d + 1⟩, rfl, rfl, rfl, rfl, rfl, rfl, rfl, rfl, rfl, rfl, rfl, rfl, rfl, rfl, rfl, ⟨by show 2 * (25 - (d + 1)).toNat < n; omega, hS, hff.1, hcw, ⟨by show 0 ≤ al; omega, hl1⟩, by show 1 ≤ d + 1; omega, by show d + 1 ≤ 21; omega⟩, fun q hq => ⟨hq.1.1.1, hq.2⟩, ?_⟩
    rintro ⟨a2, e, w⟩ hb _
    have hb : al ≤ a2 ∧ a2 ≤ 2001 ∧ (e = 0 → a2 ≤ 2000) := hb
    simp only [true_and]
    refine ⟨fun he => ⟨⟨a2, e, zV⟩, rfl, rfl, rfl, rfl, rfl, rfl, rfl, rfl, rfl, rfl, rfl, ⟨by show all ≤ a2; omega, hb.2⟩, fun q hq => zV_ok q⟩, fun he => ⟨rows_len gv_len fs, by omega, ⟨by omega, by omega⟩, ⟨j + 1, a2, fs ++ [w]⟩, by show ((j + 1 : Nat) : Int) = _; omega, rfl, by simp, by rw [rows_app]; rfl, fun q hq => hq.1.1.1, fun q hq => gvs_app hq.1.1.2 (gvs_one hq.2), ⟨by show j + 1 ≤ _; omega, ⟨by show all ≤ a2; omega, hb.2.2 he⟩, by show (fs ++ [w]).length = j + 1; simp [hfl]⟩, by show _ - (j + 1) < _; omega⟩⟩
  · intro a6 c _
    refine ⟨⟨al, 0, .mk 0 (mkS []) (a6, fs.length, c) fs (none, 0, 0) [] 0⟩, rfl, rfl, rfl, rfl, rfl, rfl, rfl, rfl, rfl, rfl, rfl, ⟨by show all ≤ al; omega, by show al ≤ 2001; omega, fun _ => hl1⟩, fun q hq => ?_⟩
    have h2 := hq.2.2
    rw [List.take_of_length_le (by rw [rows_len gv_len]; exact Nat.le_refl _)] at h2
    show GV.ok _ q
    unfold GV.ok
    exact ⟨⟨rfl, hq.2.1, h2⟩, slP_nil, hq.1.2⟩
theorem parts_ok11 (n : Nat) (hv : CtROK P 76 (cVl.below muVl n)) : CtROK P 107 ((cVq isPar).below muVq (n + 1)) := by
  have hA := partA_ok n hv
  have hM := partM_ok n hv
  refine ⟨hA.1, hA.2.1, hA.2.2.1, fun s => ?_⟩
  obtain ⟨h0, e0, rA⟩ := hA.2.2.2 s
  obtain ⟨h1, e1, rM⟩ := hM.2.2.2 s
  have e : h1 = h0 := Option.some.inj (e1.symm.trans e0)
  subst e
  refine ⟨h1, e0, fun F I w vs a1 a2 a3 a4 hp a5 a6 a7 => ?_⟩
  obtain ⟨m, p1, p2, p3, p4⟩ := hp
  rcases p3 with h | h
  · exact rA F I w vs a1 a2 a3 a4 ⟨m, p1, p2, h, p4⟩ a5 a6 a7
  · exact rM F I w vs a1 a2 a3 a4 ⟨m, p1, p2, h, p4⟩ a5 a6 a7
theorem vl_ok (n : Nat) (hv : CtROK P 76 (cVl.below muVl n)) : CtROK P 76 (cVl.below muVl (n + 1)) := by
  refine ask_okR mixed (ctTab_ok nil_tab) (rlTab_ok (forall_rel hv (forall_rel (parts_ok11 n hv) (forall_rel (recV_ok n hv) (forall_rel float_ok (forall_rel double_ok (forall_rel raw_ok nil_rel))))))) (W := wVl) Try.func76 (by kernel_rfl) (show 1 ≤ 2 by decide) (show 2 ≤ 2 by decide) (fun s => by kernel_rfl) fun ⟨S, (x : SV), (all : Int), (t : Int), g, (d : Int)⟩ => (vl_eq n S x all t g d).mpr ?_
  rintro ⟨hmu, hS, ⟨ht0, ht1⟩, hg, ⟨hal0, hal1⟩, hd1, hd2⟩ ⟨p, _, hx, hgo⟩
  have hmu : 2 * (25 - d).toNat < n + 1 := hmu
  obtain ⟨gl, gnl⟩ := GJ_slots hgo
  obtain ⟨j, rfl⟩ := Int.eq_ofNat_of_zero_le ht0
  have hj : j < S.length := by omega
  have sl : x.2.1 = S.length := hx.1.1
  have hat := fun q (hq : schP S x q ∧ g.ok q) => typ_at hq.1 hj
  have hao := fun q (hq : schP S x q ∧ g.ok q) => hq.1.2 S[j] (List.getElem_mem hj)
  have hgd := hS.2 S[j] (List.getElem_mem hj)
  simp only [decide_eq_true_eq, decide_eq_false_iff_not, Bool.not_eq_true', Bool.not_eq_false', true_and, and_true, eq_self, imp_self, implies_true, exists_const, forall_const, Int.toNat_natCast, sl]
  refine ⟨⟨by omega, by omega⟩, fun h20 => ⟨⟨all + 1, 3, zV⟩, rfl, rfl, rfl, rfl, rfl, rfl, rfl, rfl, rfl, rfl, rfl, ⟨by show all ≤ all + 1; omega, by show all + 1 ≤ 2001; omega, fun h => (by have h : (3 : Int) = 0 := h; omega)⟩, fun q hq => zV_ok q⟩, fun h20 => ⟨fun h2 => ⟨⟨all + 1, 3, zV⟩, rfl, rfl, rfl, rfl, rfl, rfl, rfl, rfl, rfl, rfl, rfl, ⟨by show all ≤ all + 1; omega, by show all + 1 ≤ 2001; omega, fun h => (by have h : (3 : Int) = 0 := h; omega)⟩, fun q hq => zV_ok q⟩, fun h2 => ?_⟩⟩
  refine ⟨⟨by omega, by omega⟩, (hat p ⟨hx, hgo⟩).1, S[j].k, S[j].nm, S[j].al.1, S[j].al.2.1, S[j].al.2.2, S[j].it, S[j].sy.1, S[j].sy.2.1, S[j].sy.2.2, S[j].hd, S[j].df, S[j].sz, S[j].f.1, S[j].f.2.1, S[j].f.2.2, S[j].br.1, S[j].br.2.1, S[j].br.2.2, fun q hq => (hat q hq).2, ?_⟩
  have hmem := List.getElem_mem hj
  obtain ⟨_, syl, _, brl⟩ := AT_slots (hao p ⟨hx, hgo⟩)
  generalize S[j] = a at *
  simp only [syl, brl]
  have ret : ∀ (nn : Int) (ss : ByteArray) (ee : Int), ∃ b : VlB, b.snd.snd.n = nn ∧ b.snd.snd.s = ss ∧ b.snd.snd.x.fst = noA ∧ b.snd.snd.x.snd.fst = 0 ∧ b.snd.snd.x.snd.snd = 0 ∧ b.snd.snd.y.fst = noA ∧ b.snd.snd.y.snd.fst = 0 ∧ b.snd.snd.y.snd.snd = 0 ∧ b.snd.snd.b = 0 ∧ b.snd.fst = ee ∧ b.fst = all + 1 ∧ vlPost all b ∧ ∀ (p : Nat → Option Obj), schP S x p ∧ g.ok p → b.snd.snd.ok p := fun nn ss ee => ⟨⟨all + 1, ee, .mk nn ss (none, 0, 0) [] (none, 0, 0) [] 0⟩, rfl, rfl, rfl, rfl, rfl, rfl, rfl, rfl, rfl, rfl, rfl, ⟨by show all ≤ all + 1; omega, by show all + 1 ≤ 2001; omega, fun _ => by show all + 1 ≤ 2000; omega⟩, fun q _ => by show GV.ok _ q; unfold GV.ok; exact ⟨slP_nil, slP_nil, by unfold GV.oks; trivial⟩⟩
  have q1 : ∀ {k b gk : Int}, a.k = k → bq k b gk a.k = decide (gk = b) := fun {k b gk} h => by unfold bq; rw [decide_eq_true h]; rfl
  have q0 : ∀ {k b gk : Int}, ¬ a.k = k → bq k b gk a.k = false := fun {k b gk} h => by unfold bq; rw [decide_eq_false h]; rfl
  have qk : ∀ {k b : Int}, bq k b g.k a.k = true → a.k = k ∧ g.k = b := fun {k b} h => by
    unfold bq at h; rw [Bool.and_eq_true, decide_eq_true_eq, decide_eq_true_eq] at h; exact h
  have gn := hg
  rw [GJ.wf_eq] at gn
  obtain ⟨gsz, _, _, _, ⟨gn0, gn1⟩, _, _⟩ := gn
  refine ⟨⟨⟨fun h => q1 h, fun h => q0 h⟩, fun _ => ret _ _ _, fun _ => ⟨⟨fun h => q1 h, fun h => q0 h⟩, fun _ => ret _ _ _, fun _ => ⟨⟨⟨fun h => ⟨fun h2 => ⟨fun h3 => ?_, fun h3 => ?_⟩, fun h2 => ?_⟩, fun h => ?_⟩, fun h => ?_, fun h => ⟨fun h2 => ?_, fun h2 => ?_⟩⟩, fun _ => ret _ _ _, fun _ => ⟨⟨fun h => q1 h, fun h => q0 h⟩, fun _ => ⟨g.n, rfl, ⟨gn0, gn1⟩, fun b hb => ⟨⟨by omega, by omega⟩, ret _ _ _⟩⟩, fun _ => ⟨⟨fun h => q1 h, fun h => q0 h⟩, fun _ => ⟨g.n, rfl, ⟨gn0, gn1⟩, fun b hb => ret _ _ _⟩, fun _ => ⟨⟨fun h => q1 h, fun h => q0 h⟩, fun _ => ret _ _ _, fun _ => ⟨⟨fun h => ?_, fun h => ⟨fun h2 => ?_, fun h2 => ?_⟩⟩, fun _ => ⟨g.s, rfl, by omega, fun b hb => ⟨⟨fun _ => ⟨fun _ => ⟨_, rfl⟩, fun _ => ⟨_, rfl⟩⟩, fun _ => ⟨_, rfl⟩⟩, fun s hs => ret _ _ _⟩⟩, fun _ => ⟨⟨fun h => q1 h, fun h => q0 h⟩, fun hE => ⟨⟨0, rfl⟩, fun i hi => ?_⟩, fun _ => ⟨⟨⟨fun h => q1 h, fun h => q0 h⟩, fun h => ?_, fun h => ⟨fun h2 => ?_, fun h2 => ?_⟩⟩, fun hP => ?_, fun _ => ⟨⟨fun h => q1 h, fun h => q0 h⟩, fun hR => ?_, fun _ h14 => ⟨⟨?xa, ?xb⟩, ?_⟩⟩⟩⟩⟩⟩⟩⟩⟩⟩⟩, ret _ _ _⟩
  · unfold bI; rw [decide_eq_true h, decide_eq_true h2, decide_eq_true h3]; rfl
  · unfold bI; rw [decide_eq_true h, decide_eq_true h2, decide_eq_false h3]; rfl
  · unfold bI; rw [decide_eq_true h, decide_eq_false h2]; rfl
  · unfold bI; rw [decide_eq_false h]; rfl
  · unfold bN; rw [h]; rfl
  · unfold bN; rw [h, Bool.false_or]; exact q1 h2
  · unfold bN; rw [h, Bool.false_or]; exact q0 h2
  · unfold bT; rw [decide_eq_true h, Bool.true_or, Bool.true_and]
  · unfold bT; rw [decide_eq_true h2, Bool.or_true, Bool.true_and]
  · unfold bT; rw [decide_eq_false h, decide_eq_false h2]; rfl
  · have hi' : i < a.sys.length := by omega
    have ty := fun q (hq : schP S x q ∧ g.ok q) => tx_at (hao q hq).2.1 hi'
    have h30 := hgd.2.2.2.2.2.2.2.2.2
    exact ⟨⟨by omega, by omega⟩, (ty p ⟨hx, hgo⟩).1, a.sys[i], fun q hq => (ty q hq).2, fun _ => ret _ _ _, fun _ => ⟨⟨by omega, by omega⟩, i + 1, by omega, by omega⟩⟩
  · unfold bP; rw [h]; rfl
  · unfold bP; rw [h, Bool.false_or]; exact q1 h2
  · unfold bP; rw [h, Bool.false_or]; exact q0 h2
  · have hpar : isPar a g := by
      unfold bP at hP
      rw [Bool.or_eq_true] at hP
      rcases hP with h | h
      · exact .inl (qk h).1
      · exact .inr (qk h)
    refine ⟨⟨S, x, all + 1, a, g, d⟩, rfl, rfl, rfl, rfl, rfl, rfl, rfl, syl, rfl, rfl, rfl, rfl, rfl, rfl, rfl, rfl, brl, rfl, rfl, rfl, rfl, rfl, rfl, rfl, rfl, rfl, rfl, rfl, rfl, sl, rfl, rfl, ⟨hmu, hS, hmem, hpar, hg, ⟨by show 0 ≤ all + 1; omega, by show all + 1 ≤ 2000; omega⟩, hd1, by show d ≤ 20; omega⟩, fun q hq => ⟨hq.1, hao q hq, hq.2⟩, ?_⟩
    rintro ⟨a2, e, w⟩ hb _
    have hb : all + 1 ≤ a2 ∧ a2 ≤ 2001 ∧ (e = 0 → a2 ≤ 2000) := hb
    exact ⟨⟨a2, e, w⟩, rfl, rfl, rfl, rfl, rfl, rfl, rfl, rfl, rfl, rfl, rfl, sl.symm, rfl, rfl, ⟨by show all ≤ a2; omega, hb.2⟩, fun q hq => hq.2⟩
  · have hrec : isRec a g := (qk hR).1
    refine ⟨⟨S, x, all + 1, a, g, d⟩, rfl, rfl, rfl, rfl, rfl, rfl, rfl, syl, rfl, rfl, rfl, rfl, rfl, rfl, rfl, rfl, brl, rfl, rfl, rfl, rfl, rfl, rfl, rfl, rfl, rfl, rfl, rfl, rfl, sl, rfl, rfl, ⟨hmu, hS, hmem, hrec, hg, ⟨by show 0 ≤ all + 1; omega, by show all + 1 ≤ 2000; omega⟩, hd1, by show d ≤ 20; omega⟩, fun q hq => ⟨hq.1, hao q hq, hq.2⟩, ?_⟩
    rintro ⟨a2, e, w⟩ hb _
    have hb : all + 1 ≤ a2 ∧ a2 ≤ 2001 ∧ (e = 0 → a2 ≤ 2000) := hb
    exact ⟨⟨a2, e, w⟩, rfl, rfl, rfl, rfl, rfl, rfl, rfl, rfl, rfl, rfl, rfl, sl.symm, rfl, rfl, ⟨by show all ≤ a2; omega, hb.2⟩, fun q hq => hq.2⟩
  case xa | xb =>
    have h0 : 0 < a.brs.length := List.length_pos_iff.2 (hgd.2.2.2.1 h14)
    have hbr := hgd.2.2.1 _ (List.getElem_mem h0)
    refine ⟨⟨by omega, by omega⟩, (brn_at (hao p ⟨hx, hgo⟩) h0).1, a.brs[0], fun q hq => (brn_at (hao q hq) h0).2, ⟨by omega, by omega⟩, ⟨S, x, all + 1, a.brs[0], g, d + 1⟩, rfl, rfl, rfl, rfl, rfl, rfl, rfl, rfl, rfl, rfl, rfl, rfl, sl, rfl, rfl, ⟨by show 2 * (25 - (d + 1)).toNat < n; omega, hS, hbr, hg, ⟨by show 0 ≤ all + 1; omega, by show all + 1 ≤ 2000; omega⟩, by show 1 ≤ d + 1; omega, by show d + 1 ≤ 21; omega⟩, fun q hq => hq, ?_⟩
    rintro ⟨a2, e, w⟩ hb _
    have hb : all + 1 ≤ a2 ∧ a2 ≤ 2001 ∧ (e = 0 → a2 ≤ 2000) := hb
    exact ⟨⟨a2, e, w⟩, rfl, rfl, sl.symm, rfl, rfl, rfl, rfl, rfl, rfl, rfl, rfl, rfl, rfl, rfl, fun q hq => hq.1, fun q hq => hq.2, ⟨by show all ≤ a2; omega, hb.2⟩⟩
  · rintro ⟨a2, e, w⟩ hb _ b s1 _
    refine ⟨⟨a2, e, .mk 0 (mkS []) (some ⟨b, s1 + 0, none⟩, 1, 1) [w] (none, 0, 0) [] 0⟩, rfl, rfl, rfl, rfl, rfl, rfl, rfl, rfl, rfl, rfl, rfl, hb, fun q hq => ?_⟩
    show GV.ok _ q
    unfold GV.ok
    refine ⟨⟨rfl, Nat.le_refl _, .inr ⟨⟨b, s1 + 0, none⟩, rfl, rfl, fun i v hi => ?_⟩⟩, slP_nil, gvs_one hq.1.2⟩
    rw [rowsV, rowsV, List.append_nil] at hi
    exact hq.2 i v hi
theorem vl_all : ∀ n, CtROK P 76 (cVl.below muVl n)
  | 0 => CtR.below_zero (by decide) (by decide) (Sen.enters_of Try.func76 (by kernel_rfl)) fun s => rfl
  | n + 1 => vl_ok n (vl_all n)
theorem vl_fin : CtROK P 76 cVl := CtR.of_below vl_all
/-! The document's answer to values: contracts. -/
def cIsT : Ct := ctP (SV × Int) (fun ⟨x, t⟩ => [scA x, .sv (.int .i64 t)]) (fun _ => True) (fun _ => {}) fun ⟨x, t⟩ => .sv (.bool (decide (0 ≤ t) && decide (t < (x.2.1 : Int))))
def kindsOK (S : List AT) : Prop := ∀ a ∈ S, 1 ≤ a.k ∧ a.k ≤ 14
def okQ (a : AT) (n : Nat) (ks : List ByteArray) (b : Int) : Bool := if a.k = 9 then decide (n = a.fs.length) else if a.k = 14 then decide (0 ≤ b ∧ b < a.brs.length ∧ n = 1) else if a.k = 13 then decide (n = ks.length) && keyF ks else true
def inF (S : List AT) (a : AT) (v : GV) : Bool := okQ a v.l.length v.ks v.b && PV.fitL S (tyOf a v.b) 0 (GV.pvs v.l)
def nB (k : Int) : Bool := decide (k = 2 ∨ k = 3 ∨ k = 4 ∨ k = 5 ∨ k = 6 ∨ k = 10)
def okAll (S : List AT) (a : AT) (v : GV) : Bool := if a.k = 1 then true else if isN a.k = true then okN a v.n else if isT a.k = true then okT a v.s else inF S a v
def cFitsR : Ct := ctP FtS (fun ⟨S, x, t, v⟩ => [scA x, .sv (.int .i64 t), v.av]) (fun ⟨S, x, t, v⟩ => small S ∧ kindsOK S ∧ v.pv.sm) (fun ⟨S, x, t, v⟩ => svM S x v) fun ⟨S, x, t, v⟩ => .sv (.bool (PV.fits S t v.pv))
def cInner : Ct := ctP FpS (fun ⟨S, x, a, v⟩ => [scA x, a.av, v.av]) (fun ⟨S, x, a, v⟩ => small S ∧ kindsOK S ∧ a.fs.length < 1000000 ∧ v.pv.sm ∧ isQ a.k = true) (fun ⟨S, x, a, v⟩ => savM S x a v) fun ⟨S, x, a, v⟩ => .sv (.bool (inF S a v))
def zA : AT := ⟨0, mkS [], (none, 0, 0), [], 0, (none, 0, 0), [], false, mkS [], 0, (none, 0, 0), [], (none, 0, 0), []⟩
def atS (S : List AT) (t : Int) : AT := (S[t.toNat]?).getD zA
def b46 (k : Int) : Bool := decide (k = 4) || decide (k = 6)
def badB (a : AT) (v : GV) : Bool := (decide (a.k ≠ 13) && decide (0 < v.ks.length)) || (decide (a.k ≠ 14) && decide (v.b ≠ 0))
def wFitsR : FtS → WayF := fun ⟨S, x, t, v⟩ => {
  cut := fun i _ _ => match i with
    | 14 => some { σ := Unit, t := fun _ => [(46, .sv (.bool (decide ((atS S t).k = 4))))], h := fun _ => [], more := 0, μ := fun _ => 0, keep := [3, 5, 6, 7, 8, 9, 10, 11, 22] }
    | 15 => some { σ := Unit, t := fun _ => [(46, .sv (.bool (b46 (atS S t).k)))], h := fun _ => [], more := 0, μ := fun _ => 0, keep := [3, 5, 6, 7, 8, 9, 10, 11, 22] }
    | 26 => some { σ := Unit, t := fun _ => [(8, .sv (.bool (nB (atS S t).k))), (9, .sv (.bool (isT (atS S t).k))), (10, .sv (.bool (isQ (atS S t).k))), (11, .sv (.bool (okAll S (atS S t) v)))], h := fun _ => [], more := 0, μ := fun _ => 0, keep := [3, 5, 6, 7] }
    | 27 => some { σ := Unit, t := fun _ => [(96, .sv (.bool (badB (atS S t) v)))], h := fun _ => [], more := 0, μ := fun _ => 0, keep := [3, 5, 6, 7, 8, 9, 10, 11] }
    | _ => none }
def wInner : FpS → WayF := fun ⟨S, x, a, v⟩ => {
  ann := fun id _ _ => match id with
    | 1 => some { σ := Nat, pre := fun j => j ≤ v.ks.length ∧ keyF v.ks = (if j = 0 then keyF v.ks else keyF (v.ks.drop (j - 1))) ∧ (∀ (h : 0 < j) (h2 : j ≤ v.ks.length), vld v.ks[j - 1] = true), t := fun j => [(7, .sv (.int .i64 (j : Int)))], h := fun _ => [], more := 0, μ := fun j => v.ks.length - j, keep := [3, 4, 5, 6] }
    | _ => some { σ := Nat, pre := fun j => j ≤ v.l.length ∧ PV.fitL S (tyOf a v.b) j ((GV.pvs v.l).drop j) = PV.fitL S (tyOf a v.b) 0 (GV.pvs v.l), t := fun j => [(8, .sv (.int .i64 (j : Int)))], h := fun _ => [], more := 0, μ := fun j => v.l.length - j, keep := [3, 4, 5, 6] }
  cut := fun i t _ => match i with
    | 15 => some { σ := Unit, pre := fun _ => a.k ≠ 14 ∧ okQ a v.l.length v.ks v.b = true, t := fun _ => [], h := fun _ => [], more := 0, μ := fun _ => 0, keep := [3, 4, 5, 6] }
    | 21 => match slI t 8 with
      | some i => some { σ := Unit, t := fun _ => [(9, .sv (.int .i64 (tyOf a v.b i.toNat)))], h := fun _ => [], more := 0, μ := fun _ => 0, keep := [3, 4, 5, 6, 8] }
      | none => none
    | _ => none }
def muFr : FtS → Nat := fun ⟨S, x, t, v⟩ => SizeOf.sizeOf v
def muIn : FpS → Nat := fun ⟨S, x, a, v⟩ => SizeOf.sizeOf v
/-! The same, and how great. -/
end
end Go.Proofs.Ytabfjgbidbibgaa.Wd
