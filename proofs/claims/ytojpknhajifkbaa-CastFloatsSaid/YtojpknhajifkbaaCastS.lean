/-
  The law CastSmall: numbers of few bits are exact, signs aside, and narrow ones are widened to the wide ones.
-/
import Derived.Test.YtojpknhajifkbaaCastX
namespace Go.Proofs.Ytojpknhajifkbaa
open Go.ChangeShapes Go.WideShapes Go.ChangeAt Go.RowKit
namespace Cast
set_option linter.unusedVariables false

def D (v : Int) : Nat := sgn v * 9223372036854775808 + mag v 52 1023
def Fl (v : Int) : Nat := sgn v * 2147483648 + mag v 23 127
theorem dbl_val (u Z : Int) (w : World) (h1 : -9223372036854775808 ≤ u) (h2 : u ≤ 9223372036854775807) (hZ : ((D u : Nat) : Int) = Z) :
    Calls Try.prog 10 #[.int .i64 u] w fun e w' => e = .returned (.int .u64 Z) ∧ w = w' := by
  rw [← hZ]; exact double_any u w h1 h2
theorem flt_val (u Z : Int) (w : World) (h1 : -9223372036854775808 ≤ u) (h2 : u ≤ 9223372036854775807) (hZ : ((Fl u : Nat) : Int) = Z) :
    Calls Try.prog 12 #[.int .i64 u] w fun e w' => e = .returned (.int .u32 Z) ∧ w = w' := by
  rw [← hZ]; exact float_any u w h1 h2
theorem wid_val (f : Nat) (Z : Int) (w : World) (hf : f < 4294967296) (hZ : ((wd f : Nat) : Int) = Z) :
    Calls Try.prog 14 #[.int .u32 (f : Int)] w fun e w' => e = .returned (.int .u64 Z) ∧ w = w' := by
  rw [← hZ]; exact widen_any f w hf
theorem mag_neg (v : Int) (f b : Nat) : mag (-v) f b = mag v f b := by
  unfold mag
  rw [Int.natAbs_neg]
  by_cases h : v = 0
  · rw [if_pos h, if_pos (by omega)]
  · rw [if_neg h, if_neg (by omega)]
theorem sgn_neg (v : Int) (h : v ≠ 0) : sgn (-v) = 1 - sgn v := by
  unfold sgn
  split <;> split <;> omega
theorem xor_top (q r : Nat) (hq : q ≤ 1) (hr : r < 9223372036854775808) : (q * 9223372036854775808 + r) ^^^ 9223372036854775808 = (1 - q) * 9223372036854775808 + r := by
  have h1 := Nat.two_pow_add_eq_or_of_lt (i := 63) (b := r) hr q
  have h2 := Nat.two_pow_add_eq_or_of_lt (i := 63) (b := r) hr (1 - q)
  rw [show q * 9223372036854775808 + r = 2 ^ 63 * q + r by omega, show (1 - q) * 9223372036854775808 + r = 2 ^ 63 * (1 - q) + r by omega, show (9223372036854775808 : Nat) = 2 ^ 63 from rfl]
  apply Nat.eq_of_testBit_eq
  intro i
  rw [Nat.testBit_xor, Nat.testBit_two_pow_mul_add _ hr, Nat.testBit_two_pow_mul_add _ hr, Nat.testBit_two_pow]
  by_cases hi : i < 63
  · have hne : ¬ 63 = i := by omega
    rw [if_pos hi, if_pos hi]; simp [hne]
  · rw [if_neg hi, if_neg hi]
    rcases (show q = 0 ∨ q = 1 by omega) with rfl | rfl
    · by_cases h : 63 = i
      · subst h; decide
      · have : (1 - 0 : Nat).testBit (i - 63) = false := Nat.testBit_lt_two_pow (Nat.lt_of_lt_of_le (by decide : (1 - 0 : Nat) < 2 ^ 1) (Nat.pow_le_pow_right (by decide) (by omega)))
        rw [this]; simp [h]
    · by_cases h : 63 = i
      · subst h; decide
      · have : (1 : Nat).testBit (i - 63) = false := Nat.testBit_lt_two_pow (Nat.lt_of_lt_of_le (by decide : (1 : Nat) < 2 ^ 1) (Nat.pow_le_pow_right (by decide) (by omega)))
        rw [this]; simp [h]
theorem xor_top32 (q r : Nat) (hq : q ≤ 1) (hr : r < 2147483648) : (q * 2147483648 + r) ^^^ 2147483648 = (1 - q) * 2147483648 + r := by
  rw [show q * 2147483648 + r = 2 ^ 31 * q + r by omega, show (1 - q) * 2147483648 + r = 2 ^ 31 * (1 - q) + r by omega, show (2147483648 : Nat) = 2 ^ 31 from rfl]
  apply Nat.eq_of_testBit_eq
  intro i
  rw [Nat.testBit_xor, Nat.testBit_two_pow_mul_add _ hr, Nat.testBit_two_pow_mul_add _ hr, Nat.testBit_two_pow]
  by_cases hi : i < 31
  · have hne : ¬ 31 = i := by omega
    rw [if_pos hi, if_pos hi]; simp [hne]
  · rw [if_neg hi, if_neg hi]
    rcases (show q = 0 ∨ q = 1 by omega) with rfl | rfl
    · by_cases h : 31 = i
      · subst h; decide
      · have : (1 - 0 : Nat).testBit (i - 31) = false := Nat.testBit_lt_two_pow (Nat.lt_of_lt_of_le (by decide : (1 - 0 : Nat) < 2 ^ 1) (Nat.pow_le_pow_right (by decide) (by omega)))
        rw [this]; simp [h]
    · by_cases h : 31 = i
      · subst h; decide
      · have : (1 : Nat).testBit (i - 31) = false := Nat.testBit_lt_two_pow (Nat.lt_of_lt_of_le (by decide : (1 : Nat) < 2 ^ 1) (Nat.pow_le_pow_right (by decide) (by omega)))
        rw [this]; simp [h]
theorem D_neg (v : Int) (h : v ≠ 0) (h1 : -9223372036854775808 < v) (h2 : v ≤ 9223372036854775807) : ((D (-v) : Nat) : Int) = bits .xor .u64 ((D v : Nat) : Int) 9223372036854775808 := by
  have hm := mag_lt v 52 1023 (by omega) h2 (by omega)
  have hq := sgn_le v
  have e := u64_xor_nat (D v) 9223372036854775808 (by unfold D; omega) (by decide)
  rw [show bits .xor .u64 ((D v : Nat) : Int) 9223372036854775808 = _ from e]
  unfold D
  rw [xor_top _ _ hq hm, mag_neg, sgn_neg v h]
theorem Fl_neg (v : Int) (h : v ≠ 0) (h1 : -9223372036854775808 < v) (h2 : v ≤ 9223372036854775807) : ((Fl (-v) : Nat) : Int) = bits .xor .u32 ((Fl v : Nat) : Int) 2147483648 := by
  have hm := mag_lt31 v (by omega) h2
  have hq := sgn_le v
  have e := u32_xor_nat (Fl v) 2147483648 (by unfold Fl; omega) (by decide)
  rw [show bits .xor .u32 ((Fl v : Nat) : Int) 2147483648 = _ from e]
  unfold Fl
  rw [xor_top32 _ _ hq hm, mag_neg, sgn_neg v h]
/-- A small number's size as a binary number, wide and narrow. -/
theorem small_nat (m t : Nat) (a1 : 2 ^ t ≤ m) (a2 : m < 2 ^ (t + 1)) (ht : t < 24) :
    nr m t 52 1023 = (t + 1022) * 4503599627370496 + m * 2 ^ (52 - t) ∧ nr m t 23 127 = (t + 126) * 8388608 + m * 2 ^ (23 - t) ∧
    8388608 ≤ m * 2 ^ (23 - t) ∧ m * 2 ^ (23 - t) < 16777216 ∧ m * 2 ^ (52 - t) = m * 2 ^ (23 - t) * 536870912 := by
  refine ⟨?_, ?_, ?_, ?_, ?_⟩
  · unfold nr; rw [if_pos (by omega)]; generalize m * 2 ^ (52 - t) = z; omega
  · unfold nr; rw [if_pos (by omega)]; generalize m * 2 ^ (23 - t) = z; omega
  · have := Nat.mul_le_mul_right (2 ^ (23 - t)) a1
    rw [← Nat.pow_add, show t + (23 - t) = 23 by omega] at this
    exact this
  · have := Nat.mul_lt_mul_of_pos_right a2 (Nat.two_pow_pos (23 - t))
    rw [← Nat.pow_add, show t + 1 + (23 - t) = 24 by omega] at this
    exact this
  · rw [show 52 - t = (23 - t) + 29 by omega, Nat.pow_add, ← Nat.mul_assoc]
theorem log_small (m : Nat) (h0 : m ≠ 0) (h : m ≤ 8388608) : 2 ^ Nat.log2 m ≤ m ∧ m < 2 ^ (Nat.log2 m + 1) ∧ Nat.log2 m < 24 :=
  ⟨Nat.log2_self_le h0, Nat.lt_log2_self, (Nat.log2_lt h0).2 (by omega)⟩
theorem mag_of (v : Int) (m t f b : Nat) (h0 : v ≠ 0) (hm : m = v.natAbs) (ht : t = Nat.log2 m) : mag v f b = nr m t f b := by
  unfold mag; rw [if_neg h0, ht, hm]
theorem wd_Fl (v : Int) (hv : v.natAbs ≤ 8388608) : wd (Fl v) = D v := by
  by_cases h0 : v = 0
  · subst h0; decide
  · obtain ⟨m, hm⟩ : ∃ m, m = v.natAbs := ⟨_, rfl⟩
    obtain ⟨t, ht⟩ : ∃ t, t = Nat.log2 m := ⟨_, rfl⟩
    obtain ⟨a1, a2, a3⟩ := log_small m (by omega) (by omega)
    rw [← ht] at a1 a2 a3
    obtain ⟨e1, e2, e4, e5, e6⟩ := small_nat m t a1 a2 a3
    rw [← mag_of v m t 52 1023 h0 hm ht] at e1
    rw [← mag_of v m t 23 127 h0 hm ht] at e2
    have hq := sgn_le v
    unfold wd Fl D
    generalize m * 2 ^ (23 - t) = y at *
    generalize m * 2 ^ (52 - t) = z at *
    generalize mag v 52 1023 = A at *
    generalize mag v 23 127 = B at *
    rw [show (sgn v * 2147483648 + B) / 2147483648 = sgn v by omega, show (sgn v * 2147483648 + B) % 2147483648 = B by omega]
    congr 1
    have hg : B / 8388608 = t + 127 := by omega
    unfold wm
    rw [if_neg (by omega), if_pos (by omega), hg]
    omega
theorem Fl_lt (v : Int) (h1 : -9223372036854775808 ≤ v) (h2 : v ≤ 9223372036854775807) : Fl v < 4294967296 := by
  have hm := mag_lt31 v h1 h2
  have hq := sgn_le v
  unfold Fl; omega
end Cast
end Go.Proofs.Ytojpknhajifkbaa
