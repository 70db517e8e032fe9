/-
  Package cast: the nearest binary number.
-/
import Derived.Test.YtojpknhajifkbaaCastR
namespace Go.Proofs.Ytojpknhajifkbaa
open Go.ChangeShapes Go.WideShapes Go.ChangeAt Go.RowKit
namespace Cast
set_option linter.unusedVariables false

/-- The binary number nearest to m, 2^t its top bit, with f bits of fraction. -/
def nr (m t f b : Nat) : Nat := (t + b - 1) * 2 ^ f + (if t ≤ f then m * 2 ^ (f - t) else rnd m (t - f))
theorem shl_lt (m t f : Nat) (hm : m < 2 ^ (t + 1)) (h : t ≤ f) : m * 2 ^ (f - t) < 2 ^ (f + 1) := by
  have h1 : m * 2 ^ (f - t) < 2 ^ (t + 1) * 2 ^ (f - t) := Nat.mul_lt_mul_of_pos_right hm (Nat.two_pow_pos _)
  rw [← Nat.pow_add, show t + 1 + (f - t) = f + 1 by omega] at h1
  exact h1
theorem rnd_lt (m t f : Nat) (hm : m < 2 ^ (t + 1)) (h : f < t) : rnd m (t - f) ≤ 2 ^ (f + 1) := by
  have h1 : m / 2 ^ (t - f) < 2 ^ (f + 1) := by
    rw [Nat.div_lt_iff_lt_mul (Nat.two_pow_pos _), ← Nat.pow_add, show f + 1 + (t - f) = t + 1 by omega]; exact hm
  unfold rnd; split <;> omega
theorem nr_lt (m t f b : Nat) (hm : m < 2 ^ (t + 1)) (ht : t ≤ 63) (h : f = 52 ∧ b = 1023 ∨ f = 23 ∧ b = 127) : nr m t f b < 9223372036854775808 := by
  unfold nr
  rcases h with ⟨rfl, rfl⟩ | ⟨rfl, rfl⟩
  · split
    · have := shl_lt m t 52 hm (by assumption); omega
    · have := rnd_lt m t 52 hm (by omega); omega
  · split
    · have := shl_lt m t 23 hm (by assumption); omega
    · have := rnd_lt m t 23 hm (by omega); omega
theorem or_sign (q n : Nat) (hq : q ≤ 1) (hn : n < 9223372036854775808) : bits .or .u64 ((q * 9223372036854775808 : Nat) : Int) (n : Int) = ((q * 9223372036854775808 + n : Nat) : Int) := by
  rw [u64_or_nat _ _ (by omega) (by omega)]
  have := Nat.two_pow_add_eq_or_of_lt (i := 63) (b := n) hn q
  rw [show q * 9223372036854775808 = 2 ^ 63 * q by omega, ← this]
theorem sign_pos (m : Nat) (h : m < 9223372036854775808) : bits .and .u64 (m : Int) 9223372036854775808 = ((0 * 9223372036854775808 : Nat) : Int) := by
  have := u64_and_nat m 9223372036854775808 (by omega) (by decide)
  have e : m &&& 9223372036854775808 = 0 := by
    apply Nat.eq_of_testBit_eq
    intro i
    rw [Nat.testBit_and, show (9223372036854775808 : Nat) = 2 ^ 63 from rfl, Nat.testBit_two_pow]
    by_cases hi : 63 = i
    · subst hi; rw [Nat.testBit_lt_two_pow h]; simp
    · simp [hi]
  rw [e] at this
  exact this
theorem sign_neg (m : Nat) (h0 : 1 ≤ m) (h : m ≤ 9223372036854775808) : bits .and .u64 (IntKind.u64.wrap (-(m : Int))) 9223372036854775808 = ((1 * 9223372036854775808 : Nat) : Int) := by
  have e1 : IntKind.u64.wrap (-(m : Int)) = ((18446744073709551616 - m : Nat) : Int) := by rw [IntKind.wrap_u64]; omega
  have := u64_and_nat (18446744073709551616 - m) 9223372036854775808 (by omega) (by decide)
  have e : (18446744073709551616 - m) &&& 9223372036854775808 = 9223372036854775808 := by
    have h2 : (18446744073709551616 - m).testBit 63 = true := by
      rw [Nat.testBit_eq_decide_div_mod_eq]
      have : (18446744073709551616 - m) / 2 ^ 63 = 1 := by omega
      rw [this]; rfl
    apply Nat.eq_of_testBit_eq
    intro i
    rw [Nat.testBit_and, show (9223372036854775808 : Nat) = 2 ^ 63 from rfl, Nat.testBit_two_pow]
    by_cases hi : 63 = i
    · subst hi; rw [h2]; simp
    · simp [hi]
  rw [e] at this
  rw [e1]
  exact this
theorem negneg (m : Nat) (h : m < 18446744073709551616) : IntKind.u64.wrap (-IntKind.u64.wrap (-(m : Int))) = (m : Int) := by
  rw [IntKind.wrap_u64, IntKind.wrap_u64]; omega
theorem sumN (x y : Nat) (X Y : Int) (hX : X = x) (hY : Y = y) (h : x + y < 18446744073709551616) : IntKind.u64.wrap (X + Y) = ((x + y : Nat) : Int) := by
  rw [hX, hY, show (x : Int) + y = ((x + y : Nat) : Int) from rfl, wrapN _ h]
theorem ret_nr (S : Int) (q m t f b : Nat) (X Y : Int) (y : Nat) (hS : S = ((q * 9223372036854775808 : Nat) : Int)) (hq : q ≤ 1) (hX : X = ((t + b - 1) * 2 ^ f : Nat)) (hY : Y = (y : Nat)) (hy : nr m t f b = (t + b - 1) * 2 ^ f + y) (hl : nr m t f b < 9223372036854775808) :
    Ending.returned (.int .u64 (bits .or .u64 S (IntKind.u64.wrap (X + Y)))) = .returned (.int .u64 (q * 9223372036854775808 + nr m t f b : Nat)) := by
  have e := sumN _ _ X Y hX hY (by omega)
  rw [← hy] at e
  rw [e, hS]
  exact ret_int (or_sign q _ hq hl)
set_option maxHeartbeats 1000000 in
theorem near_pos_52_s (m t : Nat) (w : World) (h0 : 1 ≤ m) (hm : (m : Int) ≤ 9223372036854775807) (ht : bitLen m = t + 1) (ht2 : t ≤ 63) (hb : m < 2 ^ (t + 1)) (hf : t ≤ 52) : Calls Try.prog 21 #[.int .i64 (m : Int), .int .i64 52, .int .i64 1023] w fun e w' => e = .returned (.int .u64 (0 * 9223372036854775808 + nr m t 52 1023 : Nat)) ∧ w = w' := by
  have hz : ((m : Int) == 0) = false := by rw [beq_eq_false_iff_ne]; omega
  have HT := Lib.hid ht; clear ht
  have HB := Lib.hid hb; clear hb
  have hy : Hid (nr m t 52 1023 = (t + 1023 - 1) * 2 ^ 52 + m * 2 ^ (52 - t)) := by show nr m t 52 1023 = _; unfold nr; rw [if_pos hf]
  have hYv : Hid (IntKind.u64.wrap ((m : Int) * 2 ^ (52 - t)) = ((m * 2 ^ (52 - t) : Nat) : Int)) := by
    have e : (m : Int) * 2 ^ (52 - t) = ((m * 2 ^ (52 - t) : Nat) : Int) := by simp
    have := shl_lt m t 52 HB.out hf
    show _ = _
    rw [e, wrapN _ (by omega)]
  have HL := Lib.hid (nr_lt m t 52 1023 HB.out ht2 (by omega))
  go_enter Try.func21, Try.ntmps21
  go_wp2_with fail
  refine (len_any m _ (by omega)).mono ?_; rintro e w' ⟨rfl, rfl⟩
  rw [HT.out]
  go_wp2_with fail
  go_ret
  exact ⟨ret_nr _ 0 m t 52 1023 _ _ (m * 2 ^ (52 - t)) (sign_pos m (by omega)) (by omega) (by omega) hYv.out hy.out HL.out, rfl⟩
set_option maxHeartbeats 1000000 in
theorem near_pos_52_l (m t : Nat) (w : World) (h0 : 1 ≤ m) (hm : (m : Int) ≤ 9223372036854775807) (ht : bitLen m = t + 1) (ht2 : t ≤ 63) (hb : m < 2 ^ (t + 1)) (hf : 52 < t) : Calls Try.prog 21 #[.int .i64 (m : Int), .int .i64 52, .int .i64 1023] w fun e w' => e = .returned (.int .u64 (0 * 9223372036854775808 + nr m t 52 1023 : Nat)) ∧ w = w' := by
  have hz : ((m : Int) == 0) = false := by rw [beq_eq_false_iff_ne]; omega
  have HT := Lib.hid ht; clear ht
  have HB := Lib.hid hb; clear hb
  have hy : Hid (nr m t 52 1023 = (t + 1023 - 1) * 2 ^ 52 + rnd m (t - 52)) := by show nr m t 52 1023 = _; unfold nr; rw [if_neg (by omega)]
  have HL := Lib.hid (nr_lt m t 52 1023 HB.out ht2 (by omega))
  go_enter Try.func21, Try.ntmps21
  go_wp2_with fail
  refine (len_any m _ (by omega)).mono ?_; rintro e w' ⟨rfl, rfl⟩
  rw [HT.out]
  go_wp2_with fail
  rw [show (t : Int) - 52 = ((t - 52 : Nat) : Int) by omega]
  refine (rounded_any m (t - 52) _ (by omega) (by omega) (by omega)).mono ?_; rintro e w' ⟨rfl, rfl⟩
  go_wp2_with fail
  go_ret
  exact ⟨ret_nr _ 0 m t 52 1023 _ _ (rnd m (t - 52)) (sign_pos m (by omega)) (by omega) (by omega) rfl hy.out HL.out, rfl⟩
set_option maxHeartbeats 1000000 in
theorem near_neg_52_s (m t : Nat) (w : World) (h0 : 1 ≤ m) (hm : (m : Int) ≤ 9223372036854775808) (ht : bitLen m = t + 1) (ht2 : t ≤ 63) (hb : m < 2 ^ (t + 1)) (hf : t ≤ 52) : Calls Try.prog 21 #[.int .i64 (-(m : Int)), .int .i64 52, .int .i64 1023] w fun e w' => e = .returned (.int .u64 (1 * 9223372036854775808 + nr m t 52 1023 : Nat)) ∧ w = w' := by
  have hz : (-(m : Int) == 0) = false := by rw [beq_eq_false_iff_ne]; omega
  have hl : -(m : Int) < 0 := by omega
  have HT := Lib.hid ht; clear ht
  have HB := Lib.hid hb; clear hb
  have hy : Hid (nr m t 52 1023 = (t + 1023 - 1) * 2 ^ 52 + m * 2 ^ (52 - t)) := by show nr m t 52 1023 = _; unfold nr; rw [if_pos hf]
  have hYv : Hid (IntKind.u64.wrap ((m : Int) * 2 ^ (52 - t)) = ((m * 2 ^ (52 - t) : Nat) : Int)) := by
    have e : (m : Int) * 2 ^ (52 - t) = ((m * 2 ^ (52 - t) : Nat) : Int) := by simp
    have := shl_lt m t 52 HB.out hf
    show _ = _
    rw [e, wrapN _ (by omega)]
  have HL := Lib.hid (nr_lt m t 52 1023 HB.out ht2 (by omega))
  go_enter Try.func21, Try.ntmps21
  go_wp2_with fail
  rw [negneg m (by omega)]
  refine (len_any m _ (by omega)).mono ?_; rintro e w' ⟨rfl, rfl⟩
  rw [HT.out]
  go_wp2_with fail
  go_ret
  exact ⟨ret_nr _ 1 m t 52 1023 _ _ (m * 2 ^ (52 - t)) (sign_neg m h0 (by omega)) (by omega) (by omega) hYv.out hy.out HL.out, rfl⟩
set_option maxHeartbeats 1000000 in
theorem near_neg_52_l (m t : Nat) (w : World) (h0 : 1 ≤ m) (hm : (m : Int) ≤ 9223372036854775808) (ht : bitLen m = t + 1) (ht2 : t ≤ 63) (hb : m < 2 ^ (t + 1)) (hf : 52 < t) : Calls Try.prog 21 #[.int .i64 (-(m : Int)), .int .i64 52, .int .i64 1023] w fun e w' => e = .returned (.int .u64 (1 * 9223372036854775808 + nr m t 52 1023 : Nat)) ∧ w = w' := by
  have hz : (-(m : Int) == 0) = false := by rw [beq_eq_false_iff_ne]; omega
  have hl : -(m : Int) < 0 := by omega
  have HT := Lib.hid ht; clear ht
  have HB := Lib.hid hb; clear hb
  have hy : Hid (nr m t 52 1023 = (t + 1023 - 1) * 2 ^ 52 + rnd m (t - 52)) := by show nr m t 52 1023 = _; unfold nr; rw [if_neg (by omega)]
  have HL := Lib.hid (nr_lt m t 52 1023 HB.out ht2 (by omega))
  go_enter Try.func21, Try.ntmps21
  go_wp2_with fail
  rw [negneg m (by omega)]
  refine (len_any m _ (by omega)).mono ?_; rintro e w' ⟨rfl, rfl⟩
  rw [HT.out]
  go_wp2_with fail
  rw [show (t : Int) - 52 = ((t - 52 : Nat) : Int) by omega]
  refine (rounded_any m (t - 52) _ (by omega) (by omega) (by omega)).mono ?_; rintro e w' ⟨rfl, rfl⟩
  go_wp2_with fail
  go_ret
  exact ⟨ret_nr _ 1 m t 52 1023 _ _ (rnd m (t - 52)) (sign_neg m h0 (by omega)) (by omega) (by omega) rfl hy.out HL.out, rfl⟩
set_option maxHeartbeats 1000000 in
theorem near_pos_23_s (m t : Nat) (w : World) (h0 : 1 ≤ m) (hm : (m : Int) ≤ 9223372036854775807) (ht : bitLen m = t + 1) (ht2 : t ≤ 63) (hb : m < 2 ^ (t + 1)) (hf : t ≤ 23) : Calls Try.prog 21 #[.int .i64 (m : Int), .int .i64 23, .int .i64 127] w fun e w' => e = .returned (.int .u64 (0 * 9223372036854775808 + nr m t 23 127 : Nat)) ∧ w = w' := by
  have hz : ((m : Int) == 0) = false := by rw [beq_eq_false_iff_ne]; omega
  have HT := Lib.hid ht; clear ht
  have HB := Lib.hid hb; clear hb
  have hy : Hid (nr m t 23 127 = (t + 127 - 1) * 2 ^ 23 + m * 2 ^ (23 - t)) := by show nr m t 23 127 = _; unfold nr; rw [if_pos hf]
  have hYv : Hid (IntKind.u64.wrap ((m : Int) * 2 ^ (23 - t)) = ((m * 2 ^ (23 - t) : Nat) : Int)) := by
    have e : (m : Int) * 2 ^ (23 - t) = ((m * 2 ^ (23 - t) : Nat) : Int) := by simp
    have := shl_lt m t 23 HB.out hf
    show _ = _
    rw [e, wrapN _ (by omega)]
  have HL := Lib.hid (nr_lt m t 23 127 HB.out ht2 (by omega))
  go_enter Try.func21, Try.ntmps21
  go_wp2_with fail
  refine (len_any m _ (by omega)).mono ?_; rintro e w' ⟨rfl, rfl⟩
  rw [HT.out]
  go_wp2_with fail
  go_ret
  exact ⟨ret_nr _ 0 m t 23 127 _ _ (m * 2 ^ (23 - t)) (sign_pos m (by omega)) (by omega) (by omega) hYv.out hy.out HL.out, rfl⟩
set_option maxHeartbeats 1000000 in
theorem near_pos_23_l (m t : Nat) (w : World) (h0 : 1 ≤ m) (hm : (m : Int) ≤ 9223372036854775807) (ht : bitLen m = t + 1) (ht2 : t ≤ 63) (hb : m < 2 ^ (t + 1)) (hf : 23 < t) : Calls Try.prog 21 #[.int .i64 (m : Int), .int .i64 23, .int .i64 127] w fun e w' => e = .returned (.int .u64 (0 * 9223372036854775808 + nr m t 23 127 : Nat)) ∧ w = w' := by
  have hz : ((m : Int) == 0) = false := by rw [beq_eq_false_iff_ne]; omega
  have HT := Lib.hid ht; clear ht
  have HB := Lib.hid hb; clear hb
  have hy : Hid (nr m t 23 127 = (t + 127 - 1) * 2 ^ 23 + rnd m (t - 23)) := by show nr m t 23 127 = _; unfold nr; rw [if_neg (by omega)]
  have HL := Lib.hid (nr_lt m t 23 127 HB.out ht2 (by omega))
  go_enter Try.func21, Try.ntmps21
  go_wp2_with fail
  refine (len_any m _ (by omega)).mono ?_; rintro e w' ⟨rfl, rfl⟩
  rw [HT.out]
  go_wp2_with fail
  rw [show (t : Int) - 23 = ((t - 23 : Nat) : Int) by omega]
  refine (rounded_any m (t - 23) _ (by omega) (by omega) (by omega)).mono ?_; rintro e w' ⟨rfl, rfl⟩
  go_wp2_with fail
  go_ret
  exact ⟨ret_nr _ 0 m t 23 127 _ _ (rnd m (t - 23)) (sign_pos m (by omega)) (by omega) (by omega) rfl hy.out HL.out, rfl⟩
set_option maxHeartbeats 1000000 in
theorem near_neg_23_s (m t : Nat) (w : World) (h0 : 1 ≤ m) (hm : (m : Int) ≤ 9223372036854775808) (ht : bitLen m = t + 1) (ht2 : t ≤ 63) (hb : m < 2 ^ (t + 1)) (hf : t ≤ 23) : Calls Try.prog 21 #[.int .i64 (-(m : Int)), .int .i64 23, .int .i64 127] w fun e w' => e = .returned (.int .u64 (1 * 9223372036854775808 + nr m t 23 127 : Nat)) ∧ w = w' := by
  have hz : (-(m : Int) == 0) = false := by rw [beq_eq_false_iff_ne]; omega
  have hl : -(m : Int) < 0 := by omega
  have HT := Lib.hid ht; clear ht
  have HB := Lib.hid hb; clear hb
  have hy : Hid (nr m t 23 127 = (t + 127 - 1) * 2 ^ 23 + m * 2 ^ (23 - t)) := by show nr m t 23 127 = _; unfold nr; rw [if_pos hf]
  have hYv : Hid (IntKind.u64.wrap ((m : Int) * 2 ^ (23 - t)) = ((m * 2 ^ (23 - t) : Nat) : Int)) := by
    have e : (m : Int) * 2 ^ (23 - t) = ((m * 2 ^ (23 - t) : Nat) : Int) := by simp
    have := shl_lt m t 23 HB.out hf
    show _ = _
    rw [e, wrapN _ (by omega)]
  have HL := Lib.hid (nr_lt m t 23 127 HB.out ht2 (by omega))
  go_enter Try.func21, Try.ntmps21
  go_wp2_with fail
  rw [negneg m (by omega)]
  refine (len_any m _ (by omega)).mono ?_; rintro e w' ⟨rfl, rfl⟩
  rw [HT.out]
  go_wp2_with fail
  go_ret
  exact ⟨ret_nr _ 1 m t 23 127 _ _ (m * 2 ^ (23 - t)) (sign_neg m h0 (by omega)) (by omega) (by omega) hYv.out hy.out HL.out, rfl⟩
set_option maxHeartbeats 1000000 in
theorem near_neg_23_l (m t : Nat) (w : World) (h0 : 1 ≤ m) (hm : (m : Int) ≤ 9223372036854775808) (ht : bitLen m = t + 1) (ht2 : t ≤ 63) (hb : m < 2 ^ (t + 1)) (hf : 23 < t) : Calls Try.prog 21 #[.int .i64 (-(m : Int)), .int .i64 23, .int .i64 127] w fun e w' => e = .returned (.int .u64 (1 * 9223372036854775808 + nr m t 23 127 : Nat)) ∧ w = w' := by
  have hz : (-(m : Int) == 0) = false := by rw [beq_eq_false_iff_ne]; omega
  have hl : -(m : Int) < 0 := by omega
  have HT := Lib.hid ht; clear ht
  have HB := Lib.hid hb; clear hb
  have hy : Hid (nr m t 23 127 = (t + 127 - 1) * 2 ^ 23 + rnd m (t - 23)) := by show nr m t 23 127 = _; unfold nr; rw [if_neg (by omega)]
  have HL := Lib.hid (nr_lt m t 23 127 HB.out ht2 (by omega))
  go_enter Try.func21, Try.ntmps21
  go_wp2_with fail
  rw [negneg m (by omega)]
  refine (len_any m _ (by omega)).mono ?_; rintro e w' ⟨rfl, rfl⟩
  rw [HT.out]
  go_wp2_with fail
  rw [show (t : Int) - 23 = ((t - 23 : Nat) : Int) by omega]
  refine (rounded_any m (t - 23) _ (by omega) (by omega) (by omega)).mono ?_; rintro e w' ⟨rfl, rfl⟩
  go_wp2_with fail
  go_ret
  exact ⟨ret_nr _ 1 m t 23 127 _ _ (rnd m (t - 23)) (sign_neg m h0 (by omega)) (by omega) (by omega) rfl hy.out HL.out, rfl⟩
end Cast
end Go.Proofs.Ytojpknhajifkbaa
