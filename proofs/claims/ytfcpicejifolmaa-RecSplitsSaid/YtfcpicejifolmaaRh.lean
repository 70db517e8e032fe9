/-
  Records one behind the other: what stands behind does not matter, and each by itself is the same. No condition.
-/
import Derived.Test.YtfcpicejifolmaaRg
namespace Go.Proofs.Ytfcpicejifolmaa
open Go.ChangeShapes Go.WideShapes Go.ChangeAt Go.RowKit
namespace Rv
set_option linter.unusedVariables false
set_option linter.unusedSimpArgs false
theorem rfix_more {l : List UInt8} {k : Nat} {x : Nat × Nat} (rest : List UInt8) (h : rfix l k = some x) : rfix (l ++ rest) k = some x := by
  unfold rfix at *
  split at h
  · cases h
  · rename_i hl
    rw [if_neg (by rw [List.length_append]; omega), List.take_append_of_le_length (by omega)]; exact h
theorem rfix_take {l : List UInt8} {k : Nat} {x : Nat × Nat} {m : Nat} (hm : x.2 ≤ m) (h : rfix l k = some x) : rfix (l.take m) k = some x := by
  unfold rfix at *
  split at h
  · cases h
  · rename_i hl
    cases h
    simp only at hm
    rw [if_neg (by rw [List.length_take]; omega), List.take_take, show min k m = k by omega]
theorem rtext_more {l : List UInt8} {x : List UInt8 × Nat} (rest : List UInt8) (h : rtext l = some x) : rtext (l ++ rest) = some x := by
  unfold rtext at *
  split at h
  · cases h
  · rename_i v n hv
    have hb := vdec_bd0 hv
    rw [vdec_more rest _ _ _ _ hv]
    simp only
    split at h
    · cases h
    · rename_i hl
      rw [if_neg (by rw [List.length_append]; omega), List.drop_append_of_le_length (by omega), List.take_append_of_le_length (by rw [List.length_drop]; omega)]
      exact h
theorem rtext_take {l : List UInt8} {x : List UInt8 × Nat} {m : Nat} (hm : x.2 ≤ m) (h : rtext l = some x) : rtext (l.take m) = some x := by
  unfold rtext at *
  split at h
  · cases h
  · rename_i v n hv
    have hb := vdec_bd0 hv
    split at h
    · cases h
    · rename_i hl
      cases h
      simp only at hm
      rw [vdec_take _ _ _ _ _ hv m (by omega)]
      simp only
      rw [if_neg (by rw [List.length_take]; omega), List.drop_take, List.take_take, show min v (m - n) = v by omega]
theorem rbody_more {w : Nat} {l : List UInt8} {x : Nat × List UInt8 × Nat} (rest : List UInt8) (h : rbody w l = some x) : rbody w (l ++ rest) = some x := by
  unfold rbody at *
  split at h
  · rename_i e; rw [if_pos e]
    obtain ⟨y, hy, hx⟩ := Option.map_eq_some_iff.1 h
    rw [vdec_more rest _ _ _ _ hy]; exact congrArg some hx
  · rename_i e; rw [if_neg e]
    split at h
    · rename_i e; rw [if_pos e]
      obtain ⟨y, hy, hx⟩ := Option.map_eq_some_iff.1 h
      rw [rfix_more rest hy]; exact congrArg some hx
    · rename_i e; rw [if_neg e]
      split at h
      · rename_i e; rw [if_pos e]
        obtain ⟨y, hy, hx⟩ := Option.map_eq_some_iff.1 h
        rw [rfix_more rest hy]; exact congrArg some hx
      · rename_i e; rw [if_neg e]
        split at h
        · rename_i e; rw [if_pos e]
          obtain ⟨y, hy, hx⟩ := Option.map_eq_some_iff.1 h
          rw [rtext_more rest hy]; exact congrArg some hx
        · cases h
theorem rbody_take {w : Nat} {l : List UInt8} {x : Nat × List UInt8 × Nat} {m : Nat} (hm : x.2.2 ≤ m) (h : rbody w l = some x) : rbody w (l.take m) = some x := by
  unfold rbody at *
  split at h
  · rename_i e; rw [if_pos e]
    obtain ⟨y, hy, hx⟩ := Option.map_eq_some_iff.1 h
    subst hx
    rw [vdec_take _ _ _ _ _ hy m (by simpa using hm)]; rfl
  · rename_i e; rw [if_neg e]
    split at h
    · rename_i e; rw [if_pos e]
      obtain ⟨y, hy, hx⟩ := Option.map_eq_some_iff.1 h
      subst hx
      rw [rfix_take hm hy]; rfl
    · rename_i e; rw [if_neg e]
      split at h
      · rename_i e; rw [if_pos e]
        obtain ⟨y, hy, hx⟩ := Option.map_eq_some_iff.1 h
        subst hx
        rw [rfix_take hm hy]; rfl
      · rename_i e; rw [if_neg e]
        split at h
        · rename_i e; rw [if_pos e]
          obtain ⟨y, hy, hx⟩ := Option.map_eq_some_iff.1 h
          subst hx
          rw [rtext_take hm hy]; rfl
        · cases h
theorem rfirst_parts {l : List UInt8} {r : Rc} (h : rfirst l = some r) : ∃ t n v s m, vdec l 0 0 = some (t, n) ∧ ¬ (t / 8 < 1 ∨ 536870911 < t / 8) ∧ rbody (t % 8) (l.drop n) = some (v, s, m) ∧ r = ⟨t / 8, t % 8, v, s, l.take (n + m)⟩ := by
  unfold rfirst at h
  split at h
  · cases h
  · rename_i t n hv
    split at h
    · cases h
    · rename_i hn
      obtain ⟨⟨v, s, m⟩, hy, hx⟩ := Option.map_eq_some_iff.1 h
      exact ⟨t, n, v, s, m, hv, hn, hy, hx.symm⟩
theorem rfirst_more {l : List UInt8} {r : Rc} (rest : List UInt8) (h : rfirst l = some r) : rfirst (l ++ rest) = some r := by
  obtain ⟨t, n, v, s, m, h1, h2, h3, rfl⟩ := rfirst_parts h
  have hb := vdec_bd0 h1
  have hm := (rbody_bd h3).1
  rw [List.length_drop] at hm
  simp only at hm
  have := rf_some (l := l ++ rest) (vdec_more rest _ _ _ _ h1) h2 (by rw [List.drop_append_of_le_length (by omega)]; exact rbody_more rest h3)
  rw [this, List.take_append_of_le_length (by omega)]
theorem rfirst_raw {l : List UInt8} {r : Rc} (h : rfirst l = some r) : rfirst r.raw = some r := by
  obtain ⟨t, n, v, s, m, h1, h2, h3, rfl⟩ := rfirst_parts h
  have hb := vdec_bd0 h1
  have hm := (rbody_bd h3).1
  rw [List.length_drop] at hm
  simp only at hm
  show rfirst (l.take (n + m)) = _
  have := rf_some (l := l.take (n + m)) (vdec_take _ _ _ _ _ h1 _ (by omega)) h2 (by rw [List.drop_take, show n + m - n = m by omega]; exact rbody_take (Nat.le_refl _) h3)
  rw [this, List.take_take, Nat.min_self]
theorem rsplit_raw {l : List UInt8} {r : Rc} (h : rfirst l = some r) : rsplit r.raw = some [r] := by
  have h1 := rfirst_raw h
  have hb := rfirst_bd h
  rw [rsplit_some (by omega) h1, List.drop_length, rsplit_nil]; rfl
/-- What is split: each record by itself, all of it, and what stands behind. -/
theorem rsplit_all : ∀ (N : Nat) (l : List UInt8) (p : List Rc), l.length ≤ N → rsplit l = some p → cat p = l ∧ (∀ r ∈ p, rsplit r.raw = some [r]) ∧ p.length ≤ l.length ∧ ∀ (t : List UInt8) (q : List Rc), rsplit t = some q → rsplit (l ++ t) = some (p ++ q)
  | N, l, p, hN, h => by
    by_cases h0 : l.length = 0
    · have : l = [] := List.length_eq_zero_iff.1 h0
      subst this
      rw [rsplit_nil] at h; cases h
      exact ⟨rfl, (fun r hr => by cases hr), Nat.le_refl _, (fun t q hq => by simpa using hq)⟩
    · cases hf : rfirst l with
      | none => rw [rsplit_none (by omega) hf] at h; cases h
      | some r =>
        rw [rsplit_some (by omega) hf] at h
        obtain ⟨p', hp', rfl⟩ := Option.map_eq_some_iff.1 h
        have hb := rfirst_bd hf
        obtain ⟨b1, b2, b3, b4, b5, b6, b7⟩ := hb
        match N, hN with
        | 0, hN => omega
        | N + 1, hN =>
        obtain ⟨i1, i2, i3, i4⟩ := rsplit_all N (l.drop r.raw.length) p' (by rw [List.length_drop]; omega) hp'
        refine ⟨?_, ?_, ?_, ?_⟩
        · have : cat (r :: p') = r.raw ++ cat p' := by simp [cat]
          rw [this, i1]
          conv => lhs; lhs; rw [b7]
          exact List.take_append_drop _ _
        · intro x hx
          rcases List.mem_cons.1 hx with rfl | hx
          · exact rsplit_raw hf
          · exact i2 x hx
        · rw [List.length_drop] at i3
          simp only [List.length_cons]; omega
        · intro t q hq
          rw [rsplit_some (by rw [List.length_append]; omega) (rfirst_more t hf), List.drop_append_of_le_length b6, i4 t q hq]
          rfl
end Rv
end Go.Proofs.Ytfcpicejifolmaa
