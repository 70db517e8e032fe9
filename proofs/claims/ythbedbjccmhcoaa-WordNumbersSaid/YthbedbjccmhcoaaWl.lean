/-
  Digits of a number in a base of sixteen at most, and what they are worth. No condition.
-/
import Derived.Test.YthbedbjccmhcoaaWe
namespace Go.Proofs.Ythbedbjccmhcoaa
open Go.RowKit
namespace Jn
set_option linter.unusedVariables false
def ch (d : Nat) : UInt8 := if d < 10 then UInt8.ofNat (48 + d) else UInt8.ofNat (87 + d)
theorem ch_vl : ∀ d, d < 16 → Wb.vl (ch d).toNat = d := by decide
theorem ch_lo : ∀ d, d < 16 → 48 ≤ (ch d).toNat := by decide
theorem ch_hi : ∀ d, d < 10 → (ch d).toNat = 48 + d := by decide
def dgs (B : Nat) (n : Nat) : List UInt8 := if h : n < B ∨ B < 2 then [ch n] else dgs B (n / B) ++ [ch (n % B)]
termination_by n
decreasing_by exact Nat.div_lt_self (by omega) (by omega)
theorem dgs_lt {B n : Nat} (h : n < B) : dgs B n = [ch n] := by rw [dgs, dif_pos (.inl h)]
theorem dgs_ge {B n : Nat} (hB : 2 ≤ B) (h : B ≤ n) : dgs B n = dgs B (n / B) ++ [ch (n % B)] := by rw [dgs, dif_neg (by omega)]
/-- What digits are worth. -/
def worth (B : Nat) (a : Nat) : List UInt8 → Nat
  | [] => a
  | c :: l => worth B (a * B + Wb.vl c.toNat) l
theorem worth_snoc (B : Nat) : ∀ (l : List UInt8) (a : Nat) (c : UInt8), worth B a (l ++ [c]) = worth B a l * B + Wb.vl c.toNat
  | [], a, c => rfl
  | x :: l, a, c => worth_snoc B l _ c
theorem dgs_all {B : Nat} (hB : 2 ≤ B) (hB2 : B ≤ 16) (n : Nat) : worth B 0 (dgs B n) = n ∧ (∀ c ∈ dgs B n, Wb.vl c.toNat < B ∧ 48 ≤ c.toNat) ∧ dgs B n ≠ [] ∧ (0 < n → ∃ c r, dgs B n = c :: r ∧ c.toNat ≠ 48) := by
  induction n using Nat.strongRecOn with
  | _ n ih =>
    by_cases h : n < B
    · rw [dgs_lt h]
      refine ⟨?_, ?_, by simp, fun h0 => ⟨_, _, rfl, ?_⟩⟩
      · show worth B (0 * B + Wb.vl (ch n).toNat) [] = n
        rw [ch_vl n (by omega)]; simp [worth]
      · intro c hc
        obtain rfl : c = ch n := by simpa using hc
        rw [ch_vl n (by omega)]
        exact ⟨h, ch_lo n (by omega)⟩
      · intro e
        have := ch_vl n (by omega)
        rw [e] at this
        simp [Wb.vl] at this
        omega
    · rw [dgs_ge hB (by omega)]
      obtain ⟨i1, i2, i3, i4⟩ := ih (n / B) (Nat.div_lt_self (by omega) (by omega))
      have hm : n % B < B := Nat.mod_lt _ (by omega)
      refine ⟨?_, ?_, by simp, fun h0 => ?_⟩
      · rw [worth_snoc, i1, ch_vl _ (by omega), Nat.mul_comm]
        exact Nat.div_add_mod n B
      · intro c hc
        rcases List.mem_append.1 hc with hc | hc
        · exact i2 c hc
        · obtain rfl : c = ch (n % B) := by simpa using hc
          rw [ch_vl _ (by omega)]
          exact ⟨hm, ch_lo _ (by omega)⟩
      · obtain ⟨c, r, h1, h2⟩ := i4 (Nat.div_pos (by omega) (by omega))
        exact ⟨c, r ++ [ch (n % B)], by rw [h1]; rfl, h2⟩
theorem dgs_len {B : Nat} (hB : 2 ≤ B) : ∀ (k n : Nat), n < B ^ (k + 1) → (dgs B n).length ≤ k + 1
  | 0, n, h => by rw [dgs_lt (by simpa using h)]; simp
  | k + 1, n, h => by
    by_cases h2 : n < B
    · rw [dgs_lt h2]; simp
    · rw [dgs_ge hB (by omega), List.length_append]
      have := dgs_len hB k (n / B) (by rw [Nat.div_lt_iff_lt_mul (by omega), ← Nat.pow_succ]; exact h)
      simp; omega
theorem dgs_len64 {B n : Nat} (hB : B = 8 ∨ B = 10 ∨ B = 16) (hn : n < 18446744073709551616) : (dgs B n).length ≤ 22 := by
  rcases hB with rfl | rfl | rfl
  · exact dgs_len (by decide) 21 n (Nat.lt_of_lt_of_le hn (by decide))
  · exact Nat.le_trans (dgs_len (by decide) 19 n (Nat.lt_of_lt_of_le hn (by decide))) (by decide)
  · exact Nat.le_trans (dgs_len (by decide) 15 n (Nat.lt_of_lt_of_le hn (by decide))) (by decide)
theorem bt_bin (l : List UInt8) (j : Nat) {c : UInt8} (h : l[j]? = some c) : bt (bin l) j = c.toNat := by
  obtain ⟨h1, h2⟩ := List.getElem?_eq_some_iff.1 h
  have hs : j < (bin l).size := by rw [bin_size]; exact h1
  unfold bt
  rw [dif_pos hs, ← h2]
  show (l.toArray[j]'(by simpa using h1)).toNat = _
  simp
theorem worth_nv (B : Nat) (p r : List UInt8) : ∀ (d : List UInt8) (m : Nat), m ≤ d.length → nv (bin (p ++ d ++ r)) B p.length m = worth B 0 (d.take m)
  | d, 0, h => by simp [nv, worth]
  | d, m + 1, h => by
    obtain ⟨c, hc⟩ : ∃ c, d[m]? = some c := ⟨d[m], List.getElem?_eq_getElem (by omega)⟩
    have ht : d.take (m + 1) = d.take m ++ [c] := by
      rw [List.take_add_one, hc]; rfl
    rw [ht, worth_snoc, ← worth_nv B p r d m (by omega)]
    simp only [nv, nv.vlb]
    rw [bt_bin _ _ (c := c) (by rw [List.append_assoc, List.getElem?_append_right (by omega), Nat.add_sub_cancel_left, List.getElem?_append_left (by omega), hc])]
end Jn
end Go.Proofs.Ythbedbjccmhcoaa
