/-
  What the functions do: contracts, and their questions answered. No condition but what its theorems ask.
-/
import Derived.Test.YtjjambbdkbpdgaaT4
namespace Go.Proofs.Ytjjambbdkbpdgaa.Wd
open Go.Proofs.Ytjjambbdkbpdgaa.Eng Go.Proofs.Ytjjambbdkbpdgaa.Sen Go.RowKit
set_option linter.unusedVariables false
set_option linter.unusedSimpArgs false
set_option maxRecDepth 1000000
/-- A law's contract, in a world. -/
theorem law_of {f : Nat} {C : Ct} (h : CtOK P f C) (s : C.σ) (vs : List Value) (ha : C.args s = vs.map .sv) (hh : C.h s = []) (r : Value) (hr : C.r s = .sv r) (w : World) (hp : C.pre s) (hm : (C.mem s).ok (PubF (fun _ b => b < w.heap.size) w)) :
    Calls P f ⟨vs⟩ w fun e w' => e = .returned r ∧ Below w.heap.size w w' := by
  obtain ⟨h1, h2, _, h4⟩ := h
  obtain ⟨h0, h1', e1, e2, h5⟩ := h4 s
  rw [hh] at e1
  cases e1
  refine (h5 (fun _ b => b < w.heap.size) (fun i => if i = 0 then some (0, 0, 0) else none) w vs (by rw [ha]; exact VRs.svs vs) ⟨fun id o b t h => ?_, fun id id' o o' b t t' h => ?_, fun id o b t h => ?_⟩ (fun _ h => h) (fun _ h => h) hp hm (fun i hi => if_neg (by omega)) (if_pos rfl)).mono fun e w' he => ?_
  · rw [T.get_e] at h; cases h
  · rw [T.get_e] at h; cases h
  · rw [T.get_e] at h; cases h
  obtain ⟨z, I', rfl, hz, hg, _⟩ := he
  rw [hr] at hz
  cases hz
  exact ⟨rfl, ⟨hg.same.1, hg.same.2, hg.same.3, hg.size, fun k hk => hg.fr k hk⟩⟩
/-- The library's variable, as it lies there. -/
noncomputable def Laid (w : World) : Prop := ∃ m e fr, w.heap[0]? = some (.cells #[.int .i64 m] e fr)
theorem int_laid {P : Program} {w : World} {g : Nat} {t : TypeId} {zero : Array Value} {k : IntKind}
    (h : w.ShapedOpen P) (hg : g < P.globals.size)
    (h0 : ((begin P (fun _ _ => 0) default).world.heap[g]?).bind Obj.row? = some (zero, t)) (hz : zero.size = 1)
    (hb : P.buildable t = true) (hc : P.cellTypes P.depth t = some [t]) (hu : P.underlying t = some (.int k)) :
    ∃ m e fr, w.heap[g]? = some (.cells #[.int k m] e fr) := by
  obtain ⟨cs, hh, hs, hr⟩ := h.1 g zero t hg h0
  obtain ⟨ts, hts, _, hall⟩ := hr hb
  rw [hc] at hts
  cases hts
  have h1 : cs.size = 1 := by omega
  obtain ⟨u, hu', hok⟩ := hall 0 cs[0] (by simp [h1])
  have : u = t := by simpa using hu'.symm
  subst this
  unfold Cell.ok at hok
  rw [hu] at hok
  have hcs : cs = #[cs[0]] := by
    apply Array.ext
    · simp [h1]
    · intro i h2 h3
      have : i = 0 := by omega
      subst this; simp
  cases hv : cs[0] <;> rw [hv] at hok <;> simp at hok
  case int k' n =>
    rw [hcs, hv, hok.1] at hh
    exact ⟨n, _, _, hh⟩
theorem laid_of {w : World} (h : w.ShapedOpen P) : Laid w :=
  int_laid (t := 3) (zero := #[.int .i64 0]) (k := .i64) h (by decide +kernel) (by kernel_rfl) (by rfl) (by kernel_rfl) (by kernel_rfl) Go.Proofs.Try.underlying3
theorem hG_of {w : World} (h : Laid w) : hG.ok (PubF (fun _ b => b < w.heap.size) w) := by
  obtain ⟨m, e, fr, hw⟩ := h
  refine ⟨m, ?_⟩
  have hp : PubF (fun _ b => b < w.heap.size) w 0 = some (.cells #[.int .i64 m] e fr) := PubF_some.mpr ⟨(Array.getElem?_eq_some_iff.mp hw).1, hw⟩
  unfold cellP
  simp only [hp]; rfl
theorem all_law_wf (s : ByteArray) (w : World) (h0 : s.size ≤ maxLen) (hl : Laid w) : Calls P 3 #[.string s] w fun e w' => e = .returned (.bool true) ∧ Below w.heap.size w w' :=
  law_of all_ok s [.string s] rfl rfl (.bool true) rfl w trivial (hG_of hl)
noncomputable def wPlaces : cLaw1.σ → WayF := fun (s : ByteArray) => { ann := fun _ _ _ => some { σ := Int, pre := fun i => 0 ≤ i ∧ i ≤ (lxR s).1.length, find := some fun t _ => slI t 6, t := fun i => [(6, .sv (.int .i64 i))], h := fun _ => [], more := 0, μ := fun i => (lxR s).1.length - i.toNat, keep := [0, 3] } }
noncomputable def tPlaces : Nat → Option Ct := ctTab [(9, cBegun), (10, cLex)]
noncomputable def tkOK (s : ByteArray) (x : Tk) : Prop := x.2.2.2 ≤ s.size ∧ ((x.1 = 1 ∨ x.1 = 4) → x.2.2.2 + x.2.1.size ≤ s.size ∧ s.extract x.2.2.2 (x.2.2.2 + x.2.1.size) = x.2.1 ∧ x.2.1 ≠ mkS [])
theorem size_ne {t : ByteArray} (h : 0 < t.size) : t ≠ mkS [] := fun e => by rw [e] at h; exact absurd h (by decide)
theorem wdR_tk (s : ByteArray) (i : Nat) (hi : i ≤ s.size) (he : (wdR s i).1 = 0) : tkOK s (wdR s i).2.1 ∧ (wdR s i).2.1.2.2.2 = i := by
  unfold wdR at he ⊢
  split
  · exact ⟨⟨hi, fun h => by simp at h⟩, rfl⟩
  · rename_i h0
    rw [if_neg h0] at he
    split
    · have := nmE_le s _ (i + 1) (by omega) rfl
      have hz : (s.extract i (nmE s (i + 1))).size = nmE s (i + 1) - i := by rw [ByteArray.size_extract]; omega
      refine ⟨⟨hi, fun _ => ?_⟩, rfl⟩
      simp only [hz]
      refine ⟨by omega, ?_, size_ne (by omega)⟩
      rw [show i + (nmE s (i + 1) - i) = nmE s (i + 1) by omega]
    · rename_i h1
      rw [if_neg h1] at he
      split
      · rename_i h2
        rw [if_pos h2] at he
        have he : (nbR s i).1 = 0 := he
        rw [he]
        exact ⟨⟨hi, fun h => by simp [nbK] at h⟩, rfl⟩
      · rename_i h2
        rw [if_neg h2] at he
        split
        · rename_i h3
          rw [if_pos h3] at he
          have he : (txR s (bat s i) i).1 = 0 := he
          rw [he]
          exact ⟨⟨hi, fun h => by simp [nbK] at h⟩, rfl⟩
        · rename_i h3
          rw [if_neg h3] at he
          split
          · refine ⟨⟨hi, fun _ => ?_⟩, rfl⟩
            have hz : (mkS [bat s i]).size = 1 := rfl
            simp only [hz]
            refine ⟨by omega, ext_one s i (by omega), size_ne (by rw [hz]; omega)⟩
          · rename_i h4
            rw [if_neg h4] at he
            simp at he
theorem lxF_tk (s : ByteArray) : ∀ (f i : Nat) (acc : List Tk), i ≤ s.size → s.size + 1 - i ≤ f → (∀ x ∈ acc, tkOK s x ∧ x.1 ≠ 5 ∧ x.2.2.2 < i) → acc.Pairwise (fun x y => x.2.2.2 < y.2.2.2) →
    ((lxF s f i acc).2.1 ≠ 0 → (lxF s f i acc).1 = [] ∧ (lxF s f i acc).2.2 ≤ s.size) ∧ ((lxF s f i acc).2.1 = 0 → ∃ l x, (lxF s f i acc).1 = l ++ [x] ∧ x.1 = 5 ∧ (∀ y ∈ l, y.1 ≠ 5) ∧ (∀ y ∈ l ++ [x], tkOK s y) ∧ (l ++ [x]).Pairwise (fun x y => x.2.2.2 < y.2.2.2))
  | 0, i, acc, hi, hf, ha, hp => by omega
  | f + 1, i, acc, hi, hf, ha, hp => by
    have a := spR_le s _ i hi rfl
    have b := wdR_le s (spR s i).2 a.2
    rw [lxF]
    split
    · exact ⟨fun _ => ⟨rfl, a.2⟩, fun h => by simp at h⟩
    · split
      · rename_i h1
        exact ⟨fun _ => ⟨rfl, b.1⟩, fun h => absurd h h1⟩
      · rename_i h1
        have h1 : (wdR s (spR s i).2).1 = 0 := Classical.not_not.mp h1
        obtain ⟨tk, tat⟩ := wdR_tk s _ a.2 h1
        have pw : (acc ++ [(wdR s (spR s i).2).2.1]).Pairwise (fun x y => x.2.2.2 < y.2.2.2) := by
          rw [List.pairwise_append]
          refine ⟨hp, List.pairwise_singleton _ _, fun x hx y hy => ?_⟩
          rw [List.mem_singleton.mp hy, tat]
          have := (ha x hx).2.2
          omega
        split
        · rename_i h2
          refine ⟨fun h => absurd rfl h, fun _ => ⟨acc, _, rfl, h2, fun y hy => (ha y hy).2.1, fun y hy => ?_, pw⟩⟩
          rcases List.mem_append.mp hy with h | h
          · exact (ha y h).1
          · rw [List.mem_singleton.mp h]; exact tk
        · rename_i h2
          have gt := b.2 h1 h2
          refine lxF_tk s f _ _ b.1 (by omega) (fun y hy => ?_) pw
          rcases List.mem_append.mp hy with h | h
          · have := ha y h
            exact ⟨this.1, this.2.1, by omega⟩
          · rw [List.mem_singleton.mp h]; exact ⟨tk, h2, by rw [tat]; exact gt⟩
theorem lxR_tk (s : ByteArray) : ((lxR s).2.1 ≠ 0 → (lxR s).1 = [] ∧ (lxR s).2.2 ≤ s.size) ∧ ((lxR s).2.1 = 0 → ∃ l x, (lxR s).1 = l ++ [x] ∧ x.1 = 5 ∧ (∀ y ∈ l, y.1 ≠ 5) ∧ (∀ y ∈ l ++ [x], tkOK s y) ∧ (l ++ [x]).Pairwise (fun x y => x.2.2.2 < y.2.2.2)) := by
  unfold lxR
  split
  · exact ⟨fun _ => ⟨rfl, Nat.zero_le _⟩, fun h => by simp at h⟩
  · exact lxF_tk s _ 0 [] (Nat.zero_le _) (by omega) (fun x h => by cases h) .nil
/-- What is said of each word. -/
theorem lxR_at (s : ByteArray) (h : (lxR s).2.1 = 0) : 0 < (lxR s).1.length ∧ ∀ (i : Nat) (hi : i < (lxR s).1.length), tkOK s (lxR s).1[i] ∧ ((lxR s).1[i].1 = 5 ↔ i + 1 = (lxR s).1.length) ∧ ∀ (j : Nat) (hj : j < i), ((lxR s).1[j]'(by omega)).2.2.2 < (lxR s).1[i].2.2.2 := by
  obtain ⟨l, x, e, h1, h2, h3, h4⟩ := (lxR_tk s).2 h
  have key : ∀ r : List Tk, r = l ++ [x] → 0 < r.length ∧ ∀ (i : Nat) (hi : i < r.length), tkOK s r[i] ∧ (r[i].1 = 5 ↔ i + 1 = r.length) ∧ ∀ (j : Nat) (hj : j < i), (r[j]'(by omega)).2.2.2 < r[i].2.2.2 := fun r e => by
    subst e
    refine ⟨by simp, fun i hi => ⟨h3 _ (List.getElem_mem hi), ?_, fun j hj => List.pairwise_iff_getElem.mp h4 j i _ hi hj⟩⟩
    simp at hi
    rcases Nat.lt_or_ge i l.length with hlt | hge
    · rw [List.getElem_append_left hlt]
      have := h2 _ (List.getElem_mem hlt)
      simp; constructor
      · intro k; exact absurd k this
      · intro k; omega
    · have : i = l.length := by omega
      subst this
      simp [h1]
  exact key _ e
end Go.Proofs.Ytjjambbdkbpdgaa.Wd
