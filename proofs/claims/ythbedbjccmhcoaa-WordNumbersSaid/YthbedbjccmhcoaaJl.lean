/-
  Texts of whole numbers: what of no program is. No condition.
-/
import Derived.Test.YthbedbjccmhcoaaMem
import Derived.Lib.ParseIntB
import Derived.Lib.ParseIntBCases
namespace Go.Proofs.Ythbedbjccmhcoaa
open Go.ChangeShapes Go.WideShapes Go.ChangeAt Go.RowKit
namespace Jn
set_option linter.unusedVariables false
set_option linter.unusedSimpArgs false
export Mem (bin bin_size bin_list bin_of)
/-- A digit. -/
def dg (d : Nat) : UInt8 := UInt8.ofNat (48 + d)
theorem dg_nat {d : Nat} (h : d < 10) : (dg d).toNat = 48 + d := by unfold dg; rw [UInt8.toNat_ofNat']; omega
/-- A number's digits. -/
def dec (n : Nat) : List UInt8 := if n < 10 then [dg n] else dec (n / 10) ++ [dg (n % 10)]
theorem dec_lt {n : Nat} (h : n < 10) : dec n = [dg n] := by rw [dec, if_pos h]
theorem dec_ge {n : Nat} (h : 10 ≤ n) : dec n = dec (n / 10) ++ [dg (n % 10)] := by rw [dec, if_neg (by omega)]
theorem dec_ne (n : Nat) : dec n ≠ [] := by
  by_cases h : n < 10
  · rw [dec_lt h]; simp
  · rw [dec_ge (by omega)]; simp
def isD (c : UInt8) : Bool := decide (48 ≤ c.toNat) && decide (c.toNat ≤ 57)
theorem dg_isD {d : Nat} (h : d < 10) : isD (dg d) = true := by unfold isD; rw [dg_nat h]; simp; omega
theorem dec_digits (n : Nat) : ∀ c ∈ dec n, isD c = true := by
  induction n using Nat.strongRecOn with
  | _ n ih =>
    intro c hc
    by_cases h : n < 10
    · rw [dec_lt h] at hc
      simp only [List.mem_cons, List.not_mem_nil, or_false] at hc
      rw [hc]; exact dg_isD h
    · rw [dec_ge (by omega)] at hc
      simp only [List.mem_append, List.mem_cons, List.not_mem_nil, or_false] at hc
      rcases hc with hc | hc
      · exact ih (n / 10) (by omega) c hc
      · rw [hc]; exact dg_isD (by omega)
theorem dec_head {n : Nat} (h : 0 < n) : ∃ c r, dec n = c :: r ∧ c.toNat ≠ 48 := by
  induction n using Nat.strongRecOn with
  | _ n ih =>
    by_cases h10 : n < 10
    · exact ⟨dg n, [], dec_lt h10, by rw [dg_nat h10]; omega⟩
    · obtain ⟨c, r, h1, h2⟩ := ih (n / 10) (by omega) (by omega)
      exact ⟨c, r ++ [dg (n % 10)], by rw [dec_ge (by omega), h1]; rfl, h2⟩
theorem dec_len (k : Nat) : ∀ n, n < 10 ^ (k + 1) → (dec n).length ≤ k + 1 := by
  induction k with
  | zero => intro n h; rw [dec_lt (by omega)]; simp
  | succ k ih =>
    intro n h
    by_cases h10 : n < 10
    · rw [dec_lt h10]; simp
    · rw [dec_ge (by omega), List.length_append]
      have := ih (n / 10) (by rw [Nat.pow_succ] at h; omega)
      simp; omega
theorem dec_len20 {n : Nat} (h : n < 18446744073709551616) : (dec n).length ≤ 20 := dec_len 19 n (by omega)
theorem parse_snoc (M : Nat) (c : UInt8) : ∀ (l : List UInt8) (acc a : Nat), Lib.parseUintM M acc l = .ok a → Lib.parseUintM M acc (l ++ [c]) = Lib.parseUintM M a [c]
  | [], acc, a, h => by simp only [Lib.parseUintM] at h; cases h; rfl
  | x :: l, acc, a, h => by
    simp only [Lib.parseUintM, List.cons_append] at h ⊢
    split at h
    · rename_i h1
      rw [if_pos h1]
      split at h
      · cases h
      · rename_i h2
        rw [if_neg h2]
        split at h
        · cases h
        · rename_i h3
          rw [if_neg h3]
          exact parse_snoc M c l _ a h
    · cases h
theorem parse_dec (n : Nat) : n < 18446744073709551616 → Lib.parseUintM 18446744073709551615 0 (dec n) = .ok n := by
  induction n using Nat.strongRecOn with
  | _ n ih =>
    intro h
    by_cases h10 : n < 10
    · rw [dec_lt h10]
      simp only [Lib.parseUintM, dg_nat h10]
      rw [if_pos (by omega), if_neg (by omega), if_neg (by omega)]
      congr 1; omega
    · rw [dec_ge (by omega), parse_snoc _ _ _ _ _ (ih (n / 10) (by omega) (by omega))]
      simp only [Lib.parseUintM, dg_nat (show n % 10 < 10 by omega)]
      rw [if_pos (by omega), if_neg (by omega), if_neg (by omega)]
      congr 1; omega
/-- A whole number's text. -/
def tens (v : Int) : List UInt8 := if v < 0 then 45 :: dec v.natAbs else dec v.natAbs
theorem parse_tens (v : Int) (h1 : -9223372036854775808 ≤ v) (h2 : v ≤ 9223372036854775807) : Lib.parseIntB 64 (tens v) = .ok v := by
  unfold tens
  by_cases h : v < 0
  · rw [if_pos h, Lib.parseIntB_minus]
    have hp := parse_dec v.natAbs (by omega)
    have : Lib.parseUintB 64 (dec v.natAbs) = .ok v.natAbs := by
      unfold Lib.parseUintB
      rw [if_neg (dec_ne _)]
      exact hp
    rw [this]
    simp only [Lib.signedC]
    rw [if_neg (by omega)]
    congr 1; omega
  · rw [if_neg h]
    have hp := parse_dec v.natAbs (by omega)
    have hu : Lib.parseUintB 64 (dec v.natAbs) = .ok v.natAbs := by
      unfold Lib.parseUintB
      rw [if_neg (dec_ne _)]
      exact hp
    obtain ⟨c, r, hc⟩ : ∃ c r, dec v.natAbs = c :: r := by
      cases hd : dec v.natAbs with
      | nil => exact absurd hd (dec_ne _)
      | cons c r => exact ⟨c, r, rfl⟩
    have hdig := dec_digits v.natAbs c (by rw [hc]; simp)
    unfold isD at hdig
    simp only [Bool.and_eq_true, decide_eq_true_eq] at hdig
    rw [hc, Lib.parseIntB_plain 64 c r (by omega) (by omega), ← hc, hu]
    simp only [Lib.signlessC]
    rw [if_neg (by omega)]
    congr 1; omega
/-- How many digits stand in front. -/
def dr : List UInt8 → Nat
  | [] => 0
  | c :: l => if isD c then dr l + 1 else 0
theorem dr_append {l : List UInt8} (h : ∀ c ∈ l, isD c = true) (r : List UInt8) : dr (l ++ r) = l.length + dr r := by
  induction l with
  | nil => simp
  | cons c l ih =>
    simp only [List.cons_append, dr, h c (by simp), if_true, List.length_cons]
    rw [ih fun c hc => h c (by simp [hc])]; omega
theorem dr_le : ∀ l : List UInt8, dr l ≤ l.length
  | [] => Nat.le_refl _
  | c :: l => by simp only [dr]; have := dr_le l; split <;> simp <;> omega
theorem dr_is : ∀ (l : List UInt8) (k : Nat), k < dr l → ∃ c, l[k]? = some c ∧ isD c = true
  | [], k, h => by simp [dr] at h
  | c :: l, k, h => by
    simp only [dr] at h
    split at h
    · rename_i hc
      cases k with
      | zero => exact ⟨c, rfl, hc⟩
      | succ k => exact dr_is l k (by omega)
    · omega
theorem dr_end : ∀ (l : List UInt8) (c : UInt8), l[dr l]? = some c → isD c = false
  | [], c, h => by simp [dr] at h
  | x :: l, c, h => by
    simp only [dr] at h
    split at h
    · exact dr_end l c (by simpa using h)
    · rename_i hx
      simp at h; subst h; simpa using hx
end Jn
end Go.Proofs.Ythbedbjccmhcoaa
