/-
  The law CastSmall: the walk.
-/
import Derived.Test.YtojpknhajifkbaaCastS
namespace Go.Proofs.Ytojpknhajifkbaa
open Go.ChangeShapes Go.WideShapes Go.ChangeAt Go.RowKit
namespace Cast
set_option linter.unusedVariables false
theorem shr_big (m t e : Nat) (ht : t = Nat.log2 m) (hm : m ≠ 0) (h : e < t) : 1 < (m : Int) / 2 ^ e := by
  have a1 : 2 ^ Nat.log2 m ≤ m := Nat.log2_self_le hm
  rw [← ht] at a1
  have h1 : 2 ^ (e + 1) ≤ m := Nat.le_trans (Nat.pow_le_pow_right (by decide) (by omega)) a1
  have h2 : 2 ≤ m / 2 ^ e := by
    rw [Nat.le_div_iff_mul_le (Nat.two_pow_pos e)]; rw [Nat.pow_succ] at h1; omega
  rw [e_div]
  exact_mod_cast h2
theorem want_eq (v : Int) (m t A : Nat) (h0 : v ≠ 0) (hm : m = v.natAbs) (hml : m ≤ 8388608) (ht : t = Nat.log2 m) (hA : A = D v) :
    bits .and .u64 (A : Int) 9223372036854775807 = bits .or .u64 (((t : Int) + 1023) * 4503599627370496) (IntKind.u64.wrap (IntKind.u64.wrap ((m : Int) - IntKind.u64.wrap (2 ^ t)) * 2 ^ (52 - t))) := by
  obtain ⟨a1, a2, a3⟩ := log_small m (by omega) hml
  rw [← ht] at a1 a2 a3
  obtain ⟨e1, e2, e4, e5, e6⟩ := small_nat m t a1 a2 a3
  rw [← mag_of v m t 52 1023 h0 hm ht] at e1
  have hq := sgn_le v
  have hl := mag_lt v 52 1023 (by omega) (by omega) (by omega)
  have b1 : bits .and .u64 (A : Int) 9223372036854775807 = ((mag v 52 1023 : Nat) : Int) := by
    have h := u64_and_nat A 9223372036854775807 (by rw [hA]; unfold D; omega) (by decide)
    have e := Nat.and_two_pow_sub_one_eq_mod A 63
    rw [show (9223372036854775807 : Nat) = 2 ^ 63 - 1 from rfl, e] at h
    rw [show bits .and .u64 (A : Int) 9223372036854775807 = _ from h, hA]
    unfold D
    rw [show (sgn v * 9223372036854775808 + mag v 52 1023) % 2 ^ 63 = mag v 52 1023 by omega]
  have b2 : IntKind.u64.wrap ((m : Int) - IntKind.u64.wrap (2 ^ t)) = ((m - 2 ^ t : Nat) : Int) := by
    rw [e_pow t (by omega), show (m : Int) - ((2 ^ t : Nat) : Int) = ((m - 2 ^ t : Nat) : Int) by rw [Int.natCast_sub a1], wrapN _ (by omega)]
  have hp : 2 ^ t * 2 ^ (52 - t) = 4503599627370496 := by rw [← Nat.pow_add, show t + (52 - t) = 52 by omega]
  have b3 : (m - 2 ^ t) * 2 ^ (52 - t) = m * 2 ^ (52 - t) - 4503599627370496 := by rw [Nat.sub_mul, hp]
  have b4 : IntKind.u64.wrap (((m - 2 ^ t : Nat) : Int) * 2 ^ (52 - t)) = ((m * 2 ^ (52 - t) - 4503599627370496 : Nat) : Int) := by
    rw [show ((m - 2 ^ t : Nat) : Int) * 2 ^ (52 - t) = (((m - 2 ^ t) * 2 ^ (52 - t) : Nat) : Int) by simp, b3, wrapN _ (by omega)]
  rw [b1, b2, b4]
  generalize m * 2 ^ (23 - t) = y at *
  generalize m * 2 ^ (52 - t) = z at *
  obtain ⟨T, hT⟩ : ∃ T, T = t + 1023 := ⟨_, rfl⟩
  obtain ⟨q, hq2⟩ : ∃ q, q = z - 4503599627370496 := ⟨_, rfl⟩
  have o := u64_or_nat (T * 4503599627370496) q (by omega) (by omega)
  have o2 := Nat.two_pow_add_eq_or_of_lt (i := 52) (b := q) (by omega) T
  rw [show 2 ^ 52 * T = T * 4503599627370496 by omega] at o2
  rw [← o2] at o
  have c : ((t : Int) + 1023) * 4503599627370496 = ((T * 4503599627370496 : Nat) : Int) := by omega
  rw [c, ← hq2]
  refine Eq.trans ?_ o.symm
  rw [e1]
  omega
theorem sign_bits (n : Int) (C : Nat) (hn1 : -2147483648 ≤ n) (hn2 : n ≤ 2147483647) (hC : C = D n) : ((C : Int) / 9223372036854775808 == IntKind.u32.wrap n / 2147483648) = true := by
  rw [beq_iff_eq, IntKind.wrap_u32, hC]
  have hl := mag_lt n 52 1023 (by omega) (by omega) (by omega)
  unfold D
  unfold sgn
  split <;> omega
theorem shr_one (m t : Nat) (ht : t = Nat.log2 m) (hm : m ≠ 0) : (m : Int) / 2 ^ t ≤ 1 := by
  have a2 : m < 2 ^ (Nat.log2 m + 1) := Nat.lt_log2_self
  rw [← ht, Nat.pow_succ] at a2
  have h2 : m / 2 ^ t < 2 := by
    rw [Nat.div_lt_iff_lt_mul (Nat.two_pow_pos t)]; omega
  rw [e_div]
  have : m / 2 ^ t ≤ 1 := by omega
  exact_mod_cast this
set_option maxRecDepth 100000 in
set_option maxHeartbeats 2000000 in
theorem small_pos (n : Int) (m t A B : Nat) (w : World) (hn1 : -2147483648 ≤ n) (hn2 : n ≤ 2147483647) (hv : n.tdiv 256 = (m : Int)) (hm0 : 1 ≤ m) (hm : m ≤ 8388608) (ht : t = Nat.log2 m) (ht2 : t ≤ 23) (hA : A = D (m : Int)) (hB : B = Fl (m : Int)) :
    Calls Try.prog 6 #[.int .i32 n] w fun e w' => e = .returned (.bool true) ∧ w = w' := by
  have wA : ((wd B : Nat) : Int) = (A : Int) := by rw [hA, hB, wd_Fl (m : Int) (by omega)]
  have WA := Lib.hid wA
  have nA := Lib.hid (show ((D (-(m : Int)) : Nat) : Int) = bits .xor .u64 (A : Int) 9223372036854775808 by rw [hA]; exact D_neg (m : Int) (by omega) (by omega) (by omega))
  have nB := Lib.hid (show ((Fl (-(m : Int)) : Nat) : Int) = bits .xor .u32 (B : Int) 2147483648 by rw [hB]; exact Fl_neg (m : Int) (by omega) (by omega) (by omega))
  have HA := Lib.hid (show ((D (m : Int) : Nat) : Int) = (A : Int) by rw [hA])
  have HB := Lib.hid (show ((Fl (m : Int) : Nat) : Int) = (B : Int) by rw [hB])
  have hBl := Lib.hid (show B < 4294967296 by rw [hB]; exact Fl_lt (m : Int) (by omega) (by omega))
  have hz : ((m : Int) != 0) = true := by rw [bne_iff_ne]; omega
  have hz2 : ((m : Int) == 0) = false := by rw [beq_eq_false_iff_ne]; omega
  have hw := want_eq (m : Int) m t A (by omega) (by omega) (by omega) ht hA
  have HW := Lib.hid hw
  obtain ⟨C, hC⟩ : ∃ C, C = D n := ⟨_, rfl⟩
  have HC := Lib.hid (show ((D n : Nat) : Int) = (C : Int) by rw [hC])
  have HS := Lib.hid (sign_bits n C hn1 hn2 hC)
  have hn0 : -9223372036854775808 ≤ n := by omega
  have hn3 : n ≤ 9223372036854775807 := by omega
  clear wA hA hB hw hC
  have HT := Lib.hid ht; clear ht
  go_enter Try.func6, Try.ntmps6
  go_wp2_with fail
  refine (begun_any _).mono ?_; rintro e w' ⟨rfl, rfl⟩
  go_wp2_with fail
  refine (dbl_val (m : Int) A _ (by omega) (by omega) HA.out).mono ?_; rintro e w' ⟨rfl, rfl⟩
  go_wp2_with fail
  refine (flt_val (m : Int) B _ (by omega) (by omega) HB.out).mono ?_; rintro e w' ⟨rfl, rfl⟩
  go_wp2_with fail
  refine (wid_val B A _ hBl.out WA.out).mono ?_; rintro e w' ⟨rfl, rfl⟩
  go_wp2_with fail
  refine (dbl_val (-(m : Int)) _ _ (by omega) (by omega) nA.out).mono ?_; rintro e w' ⟨rfl, rfl⟩
  go_wp2_with fail
  refine (flt_val (-(m : Int)) _ _ (by omega) (by omega) nB.out).mono ?_; rintro e w' ⟨rfl, rfl⟩
  go_wp2_with fail
  go_loop [7] (fun i => ∃ e : Nat, e ≤ t ∧ i = .int .i64 e) (fun i => t - (intOf i).toNat)
  case atStart => exact ⟨0, Nat.zero_le _, rfl⟩
  case round =>
    obtain ⟨e, he, rfl⟩ := hrel
    by_cases hlt : e < t
    · have hs := shr_big m t e HT.out (by omega) hlt
      go_wp2_with fail
      go_round
      case rel => exact ⟨e + 1, by omega, by go_num⟩
      case measure => simp [intOf]; omega
    · obtain rfl : e = t := by omega
      have hs := shr_one m e HT.out (by omega)
      go_wp2_with fail
      all_goals first | exact absurd HW.out (by assumption) | (refine (dbl_val n C _ hn0 hn3 HC.out).mono ?_; rintro e w' ⟨rfl, rfl⟩; go_wp2_with fail; go_ret; exact ⟨ret_bool HS.out, rfl⟩)
set_option maxRecDepth 100000 in
set_option maxHeartbeats 2000000 in
theorem small_neg (n : Int) (m t A B : Nat) (w : World) (hn1 : -2147483648 ≤ n) (hn2 : n ≤ 2147483647) (hv : n.tdiv 256 = (-(m : Int))) (hm0 : 1 ≤ m) (hm : m ≤ 8388608) (ht : t = Nat.log2 m) (ht2 : t ≤ 23) (hA : A = D (-(m : Int))) (hB : B = Fl (-(m : Int))) :
    Calls Try.prog 6 #[.int .i32 n] w fun e w' => e = .returned (.bool true) ∧ w = w' := by
  have wA : ((wd B : Nat) : Int) = (A : Int) := by rw [hA, hB, wd_Fl (-(m : Int)) (by omega)]
  have WA := Lib.hid wA
  have nA := Lib.hid (show ((D (m : Int) : Nat) : Int) = bits .xor .u64 (A : Int) 9223372036854775808 by rw [hA]; have := D_neg (-(m : Int)) (by omega) (by omega) (by omega); rw [Int.neg_neg] at this; exact this)
  have nB := Lib.hid (show ((Fl (m : Int) : Nat) : Int) = bits .xor .u32 (B : Int) 2147483648 by rw [hB]; have := Fl_neg (-(m : Int)) (by omega) (by omega) (by omega); rw [Int.neg_neg] at this; exact this)
  have HA := Lib.hid (show ((D (-(m : Int)) : Nat) : Int) = (A : Int) by rw [hA])
  have HB := Lib.hid (show ((Fl (-(m : Int)) : Nat) : Int) = (B : Int) by rw [hB])
  have hBl := Lib.hid (show B < 4294967296 by rw [hB]; exact Fl_lt (-(m : Int)) (by omega) (by omega))
  have hz : (-(m : Int) != 0) = true := by rw [bne_iff_ne]; omega
  have hz2 : ((m : Int) == 0) = false := by rw [beq_eq_false_iff_ne]; omega
  have hneg : -(m : Int) < 0 := by omega
  have hw := want_eq (-(m : Int)) m t A (by omega) (by omega) (by omega) ht hA
  have HW := Lib.hid hw
  obtain ⟨C, hC⟩ : ∃ C, C = D n := ⟨_, rfl⟩
  have HC := Lib.hid (show ((D n : Nat) : Int) = (C : Int) by rw [hC])
  have HS := Lib.hid (sign_bits n C hn1 hn2 hC)
  have hn0 : -9223372036854775808 ≤ n := by omega
  have hn3 : n ≤ 9223372036854775807 := by omega
  clear wA hA hB hw hC
  have HT := Lib.hid ht; clear ht
  go_enter Try.func6, Try.ntmps6
  go_wp2_with fail
  refine (begun_any _).mono ?_; rintro e w' ⟨rfl, rfl⟩
  go_wp2_with fail
  refine (dbl_val (-(m : Int)) A _ (by omega) (by omega) HA.out).mono ?_; rintro e w' ⟨rfl, rfl⟩
  go_wp2_with fail
  refine (flt_val (-(m : Int)) B _ (by omega) (by omega) HB.out).mono ?_; rintro e w' ⟨rfl, rfl⟩
  go_wp2_with fail
  refine (wid_val B A _ hBl.out WA.out).mono ?_; rintro e w' ⟨rfl, rfl⟩
  go_wp2_with fail
  refine (dbl_val (m : Int) _ _ (by omega) (by omega) nA.out).mono ?_; rintro e w' ⟨rfl, rfl⟩
  go_wp2_with fail
  refine (flt_val (m : Int) _ _ (by omega) (by omega) nB.out).mono ?_; rintro e w' ⟨rfl, rfl⟩
  go_wp2_with fail
  go_loop [7] (fun i => ∃ e : Nat, e ≤ t ∧ i = .int .i64 e) (fun i => t - (intOf i).toNat)
  case atStart => exact ⟨0, Nat.zero_le _, rfl⟩
  case round =>
    obtain ⟨e, he, rfl⟩ := hrel
    by_cases hlt : e < t
    · have hs := shr_big m t e HT.out (by omega) hlt
      go_wp2_with fail
      go_round
      case rel => exact ⟨e + 1, by omega, by go_num⟩
      case measure => simp [intOf]; omega
    · obtain rfl : e = t := by omega
      have hs := shr_one m e HT.out (by omega)
      go_wp2_with fail
      all_goals first | exact absurd HW.out (by assumption) | (refine (dbl_val n C _ hn0 hn3 HC.out).mono ?_; rintro e w' ⟨rfl, rfl⟩; go_wp2_with fail; go_ret; exact ⟨ret_bool HS.out, rfl⟩)
set_option maxHeartbeats 2000000 in
theorem small_zero (n : Int) (w : World) (hn1 : -2147483648 ≤ n) (hn2 : n ≤ 2147483647) (hv : n.tdiv 256 = 0) :
    Calls Try.prog 6 #[.int .i32 n] w fun e w' => e = .returned (.bool true) ∧ w = w' := by
  have z1 := Lib.hid (show ((D 0 : Nat) : Int) = 0 by decide)
  have z2 := Lib.hid (show ((Fl 0 : Nat) : Int) = ((0 : Nat) : Int) by decide)
  have z3 := Lib.hid (show ((wd 0 : Nat) : Int) = 0 by decide)
  go_enter Try.func6, Try.ntmps6
  go_wp2_with fail
  refine (begun_any _).mono ?_; rintro e w' ⟨rfl, rfl⟩
  go_wp2_with fail
  refine (dbl_val 0 0 _ (by omega) (by omega) z1.out).mono ?_; rintro e w' ⟨rfl, rfl⟩
  go_wp2_with fail
  refine (flt_val 0 _ _ (by omega) (by omega) z2.out).mono ?_; rintro e w' ⟨rfl, rfl⟩
  go_wp2_with fail
  refine (wid_val 0 0 _ (by omega) z3.out).mono ?_; rintro e w' ⟨rfl, rfl⟩
  go_wp2_with fail
  go_ret
  exact ⟨rfl, rfl⟩
theorem small_law_wf (a0 : Int) (w : World) (h0 : (Lit.int .i32 a0).wf = true) :
    Calls Try.prog 6 #[.int .i32 a0] w fun e w' => e = .returned (.bool true) ∧ Below w.heap.size w w' := by
  have hb := bounds_i32 h0
  have go : Calls Try.prog 6 #[.int .i32 a0] w fun e w' => e = .returned (.bool true) ∧ w = w' := by
    obtain ⟨v, hv⟩ : ∃ v, v = a0.tdiv 256 := ⟨_, rfl⟩
    have hv1 : -8388608 ≤ v ∧ v ≤ 8388608 := by
      rw [hv]
      by_cases hs : 0 ≤ a0
      · rw [Int.tdiv_eq_ediv_of_nonneg hs]; omega
      · have : a0.tdiv 256 = -((-a0).tdiv 256) := by rw [Int.neg_tdiv]; omega
        rw [this, Int.tdiv_eq_ediv_of_nonneg (by omega)]; omega
    by_cases hz : v = 0
    · exact small_zero a0 w (by omega) (by omega) (by rw [← hv]; exact hz)
    · have hl := log_small v.natAbs (by omega) (by omega)
      by_cases hp : 0 < v
      · obtain ⟨m, rfl⟩ := Int.eq_ofNat_of_zero_le (show 0 ≤ v by omega)
        exact small_pos a0 m _ _ _ w (by omega) (by omega) hv.symm (by omega) (by omega) rfl (by simp at hl; omega) rfl rfl
      · obtain ⟨m, hm⟩ := Int.eq_ofNat_of_zero_le (show 0 ≤ -v by omega)
        obtain rfl : v = -(m : Int) := by omega
        exact small_neg a0 m _ _ _ w (by omega) (by omega) hv.symm (by omega) (by omega) rfl (by simp at hl; omega) rfl rfl
  refine go.mono fun e w' ⟨he, hw⟩ => ⟨he, ?_⟩
  rw [← hw]; exact Below.refl _ _
end Cast
end Go.Proofs.Ytojpknhajifkbaa
