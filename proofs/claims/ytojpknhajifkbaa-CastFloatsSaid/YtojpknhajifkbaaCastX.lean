/-
  The law CastWide: what is widened keeps its order, its sign, and what is no number.
-/
import Derived.Test.YtojpknhajifkbaaCastW
namespace Go.Proofs.Ytojpknhajifkbaa
open Go.ChangeShapes Go.WideShapes Go.ChangeAt Go.RowKit
namespace Cast
set_option linter.unusedVariables false

theorem bitLen_mono (x y : Nat) (h : x ≤ y) : bitLen x ≤ bitLen y := by
  by_cases hx : x = 0
  · subst hx; exact Nat.zero_le _
  · have hy : y ≠ 0 := by omega
    obtain ⟨a1, a2, a3⟩ := bitLen_ge x hx
    obtain ⟨b1, b2, b3⟩ := bitLen_ge y hy
    rcases Nat.lt_or_ge (bitLen y) (bitLen x) with h9 | h9
    · have : 2 ^ bitLen y ≤ 2 ^ (bitLen x - 1) := Nat.pow_le_pow_right (by decide) (by omega)
      omega
    · exact h9
theorem bitLen23 (g : Nat) (h0 : g ≠ 0) (h : g < 8388608) : 1 ≤ bitLen g ∧ bitLen g ≤ 23 := by
  obtain ⟨h1, _, h3⟩ := bitLen_ge g h0
  refine ⟨h3, ?_⟩
  rcases Nat.lt_or_ge 23 (bitLen g) with h9 | h9
  · have : 2 ^ 23 ≤ 2 ^ (bitLen g - 1) := Nat.pow_le_pow_right (by decide) (by omega)
    omega
  · exact h9
/-- A small number's parts. -/
theorem wm_small (g : Nat) (h0 : g ≠ 0) (h : g < 8388608) : wm g = (873 + bitLen g) * 4503599627370496 + (g * 2 ^ (24 - bitLen g) - 8388608) * 536870912 := by
  unfold wm
  rw [if_neg (by omega), if_neg (by omega), if_neg h0]
theorem wm_small_lt (g : Nat) (h0 : g ≠ 0) (h : g < 8388608) : (873 + bitLen g) * 4503599627370496 ≤ wm g ∧ wm g < (874 + bitLen g) * 4503599627370496 := by
  obtain ⟨h1, h2⟩ := bitLen23 g h0 h
  obtain ⟨a1, a2, _⟩ := bitLen_ge g h0
  have ht := top_shift g (bitLen g) a1 a2 h1 h2
  rw [wm_small g h0 h]
  omega
theorem wm_mid (g : Nat) (h1 : 8388608 ≤ g) (h2 : g / 8388608 < 255) : wm g = (g / 8388608 + 896) * 4503599627370496 + g % 8388608 * 536870912 := by
  unfold wm
  rw [if_neg (by omega), if_pos (by omega)]
theorem wm_top (g : Nat) (h : g / 8388608 = 255) : wm g = 2047 * 4503599627370496 + g % 8388608 * 536870912 := by
  unfold wm
  rw [if_pos h]
theorem wm_lt (g : Nat) (h : g < 2147483648) : wm g < 9223372036854775808 := by
  by_cases h0 : g = 0
  · subst h0; decide
  · by_cases h1 : g < 8388608
    · have := bitLen23 g h0 h1; have := wm_small_lt g h0 h1; omega
    · by_cases h2 : g / 8388608 = 255
      · rw [wm_top g h2]; omega
      · rw [wm_mid g (by omega) (by omega)]; omega
theorem wm_low (g : Nat) (h : g < 2147483648) (h2 : g / 8388608 ≠ 255) : wm g / 4503599627370496 < 2047 := by
  by_cases h0 : g = 0
  · subst h0; decide
  · by_cases h1 : g < 8388608
    · have := bitLen23 g h0 h1; have := wm_small_lt g h0 h1; omega
    · rw [wm_mid g (by omega) (by omega)]; omega
theorem wm_mono (x y : Nat) (hxy : x < y) (hy : y < 2147483648) : wm x < wm y := by
  by_cases hx0 : x = 0
  · subst hx0
    have e : wm 0 = 0 := rfl
    rw [e]
    by_cases h1 : y < 8388608
    · have := wm_small_lt y (by omega) h1; omega
    · by_cases h2 : y / 8388608 = 255
      · rw [wm_top y h2]; omega
      · rw [wm_mid y (by omega) (by omega)]; omega
  · by_cases hx1 : x < 8388608
    · have a := wm_small_lt x hx0 hx1
      have b := bitLen23 x hx0 hx1
      by_cases h1 : y < 8388608
      · have c := wm_small_lt y (by omega) h1
        have d := bitLen_mono x y (by omega)
        by_cases he : bitLen x = bitLen y
        · rw [wm_small x hx0 hx1, wm_small y (by omega) h1, he]
          have g := bitLen_ge x hx0
          have ht := top_shift x (bitLen x) g.1 g.2.1 b.1 b.2
          rw [he] at ht
          have : x * 2 ^ (24 - bitLen y) < y * 2 ^ (24 - bitLen y) := Nat.mul_lt_mul_of_pos_right hxy (Nat.two_pow_pos _)
          omega
        · omega
      · by_cases h2 : y / 8388608 = 255
        · rw [wm_top y h2]; omega
        · rw [wm_mid y (by omega) (by omega)]; omega
    · by_cases hx2 : x / 8388608 = 255
      · rw [wm_top x hx2, wm_top y (by omega)]; omega
      · rw [wm_mid x (by omega) (by omega)]
        by_cases h2 : y / 8388608 = 255
        · rw [wm_top y h2]; omega
        · rw [wm_mid y (by omega) (by omega)]; omega

theorem wide_at (x P : Nat) (w : World) (hx : x < 2147483648) (hP : P = wm x) : Calls Try.prog 14 #[.int .u32 (x : Int)] w fun e' w' => e' = .returned (.int .u64 (P : Int)) ∧ w = w' := by
  have h := widen_any x w (by omega)
  have e : wd x = P := by
    unfold wd
    rw [show x / 2147483648 = 0 by omega, show x % 2147483648 = x by omega, hP]; omega
  rw [e] at h
  exact h
theorem wide_neg (x P : Nat) (w : World) (hx : x < 2147483648) (hP : P = wm x) : Calls Try.prog 14 #[.int .u32 (bits .or .u32 (x : Int) 2147483648)] w fun e' w' => e' = .returned (.int .u64 (bits .or .u64 (P : Int) 9223372036854775808)) ∧ w = w' := by
  have h := widen_any (2147483648 + x) w (by omega)
  have hl := wm_lt x hx
  have e : wd (2147483648 + x) = 9223372036854775808 + P := by
    unfold wd
    rw [show (2147483648 + x) / 2147483648 = 1 by omega, show (2147483648 + x) % 2147483648 = x by omega, hP]
  rw [e] at h
  have e1 : bits .or .u32 (x : Int) 2147483648 = ((2147483648 + x : Nat) : Int) := by
    have h1 := u32_or_nat x 2147483648 (by omega) (by decide)
    have h2 := Nat.two_pow_add_eq_or_of_lt (i := 31) (b := x) hx 1
    rw [Nat.or_comm] at h1
    rw [show bits .or .u32 (x : Int) 2147483648 = _ from h1, show (2147483648 : Nat) = 2 ^ 31 * 1 from rfl, ← h2]
  have e2 : bits .or .u64 (P : Int) 9223372036854775808 = ((9223372036854775808 + P : Nat) : Int) := by
    have h1 := u64_or_nat P 9223372036854775808 (by omega) (by decide)
    have h2 := Nat.two_pow_add_eq_or_of_lt (i := 63) (b := P) (by omega) 1
    rw [Nat.or_comm] at h1
    rw [show bits .or .u64 (P : Int) 9223372036854775808 = _ from h1, show (9223372036854775808 : Nat) = 2 ^ 63 * 1 from rfl, ← h2]
  rw [e1, e2]
  exact h
theorem top52 (y Q : Nat) (hQ : Q = wm y) (h : y / 8388608 = 255) : (Q : Int) / 4503599627370496 = 2047 := by
  rw [hQ, wm_top y h]; omega
theorem top41 (y Q : Nat) (hQ : Q = wm y) (h : y / 8388608 = 255) : IntKind.u64.wrap ((Q : Int) * 4096) / 2199023255552 = (y : Int) * 512 % 4294967296 / 512 := by
  rw [IntKind.wrap_u64, hQ, wm_top y h]; omega
theorem top35 (y Q : Nat) (hQ : Q = wm y) (h : y / 8388608 = 255) : (IntKind.u64.wrap ((Q : Int) * 34359738368) == 0) = true := by
  rw [beq_iff_eq, IntKind.wrap_u64, hQ, wm_top y h]; omega
set_option maxRecDepth 100000 in
set_option maxHeartbeats 2000000 in
theorem wide_lt_1 (a b x y P Q : Nat) (w : World) (hA : bits .and .u32 (a : Int) 2147483647 = (x : Int)) (hB : bits .and .u32 (b : Int) 2147483647 = (y : Int)) (hx : x ≤ 2147483647) (hy : y ≤ 2147483647) (hP : P = wm x) (hQ : Q = wm y) (hlt : x < y) (ht : y / 8388608 = 255) :
    Calls Try.prog 8 #[.int .u32 (a : Int), .int .u32 (b : Int)] w fun e' w' => e' = .returned (.bool true) ∧ w = w' := by
  have hPQ : P < Q := by rw [hP, hQ]; exact wm_mono x y hlt (by omega)
  have hq : (Q : Int) ≤ 9223372036854775807 := by have := wm_lt y (by omega); omega
  have HP := Lib.hid hP
  have HQ := Lib.hid hQ
  have hb : ((y : Int) / 8388608 == 255) = true := by rw [beq_iff_eq]; omega
  have t52 := Lib.hid (top52 y Q hQ ht)
  have t41 := Lib.hid (top41 y Q hQ ht)
  have t35 := Lib.hid (top35 y Q hQ ht)
  clear hP hQ ht
  go_enter Try.func8, Try.ntmps8
  go_wp2_with fail
  refine (begun_any _).mono ?_; rintro e w' ⟨rfl, rfl⟩
  go_wp2_with fail
  refine (wide_at x P _ (by omega) HP.out).mono ?_; rintro e w' ⟨rfl, rfl⟩
  go_wp2_with fail
  refine (wide_at y Q _ (by omega) HQ.out).mono ?_; rintro e w' ⟨rfl, rfl⟩
  go_wp2_with fail
  refine (wide_neg x P _ (by omega) HP.out).mono ?_; rintro e w' ⟨rfl, rfl⟩
  go_wp2_with fail
  all_goals first | (go_ret; exact ⟨ret_bool t35.out, rfl⟩) | exact absurd t41.out (by assumption) | exact absurd t52.out (by assumption)
set_option maxRecDepth 100000 in
set_option maxHeartbeats 2000000 in
theorem wide_eq_1 (a b x y P Q : Nat) (w : World) (hA : bits .and .u32 (a : Int) 2147483647 = (x : Int)) (hB : bits .and .u32 (b : Int) 2147483647 = (y : Int)) (hx : x ≤ 2147483647) (hy : y ≤ 2147483647) (hP : P = wm x) (hQ : Q = wm y) (hlt : x = y) (ht : y / 8388608 = 255) :
    Calls Try.prog 8 #[.int .u32 (a : Int), .int .u32 (b : Int)] w fun e' w' => e' = .returned (.bool true) ∧ w = w' := by
  subst hlt
  obtain rfl : P = Q := by rw [hP, hQ]
  have hq : (P : Int) ≤ 9223372036854775807 := by have := wm_lt x (by omega); omega
  have HP := Lib.hid hP
  have HQ := Lib.hid hQ
  have hb : ((x : Int) / 8388608 == 255) = true := by rw [beq_iff_eq]; omega
  have t52 := Lib.hid (top52 x P hQ ht)
  have t41 := Lib.hid (top41 x P hQ ht)
  have t35 := Lib.hid (top35 x P hQ ht)
  clear hP hQ ht
  go_enter Try.func8, Try.ntmps8
  go_wp2_with fail
  refine (begun_any _).mono ?_; rintro e w' ⟨rfl, rfl⟩
  go_wp2_with fail
  refine (wide_at x P _ (by omega) HP.out).mono ?_; rintro e w' ⟨rfl, rfl⟩
  go_wp2_with fail
  refine (wide_at x P _ (by omega) HQ.out).mono ?_; rintro e w' ⟨rfl, rfl⟩
  go_wp2_with fail
  refine (wide_neg x P _ (by omega) HP.out).mono ?_; rintro e w' ⟨rfl, rfl⟩
  go_wp2_with fail
  all_goals first | (go_ret; exact ⟨ret_bool t35.out, rfl⟩) | exact absurd t41.out (by assumption) | exact absurd t52.out (by assumption)
set_option maxRecDepth 100000 in
set_option maxHeartbeats 2000000 in
theorem wide_sw_1 (a b x y P Q : Nat) (w : World) (hA : bits .and .u32 (a : Int) 2147483647 = (y : Int)) (hB : bits .and .u32 (b : Int) 2147483647 = (x : Int)) (hx : x ≤ 2147483647) (hy : y ≤ 2147483647) (hP : P = wm x) (hQ : Q = wm y) (hlt : x < y) (ht : y / 8388608 = 255) :
    Calls Try.prog 8 #[.int .u32 (a : Int), .int .u32 (b : Int)] w fun e' w' => e' = .returned (.bool true) ∧ w = w' := by
  have hPQ : P < Q := by rw [hP, hQ]; exact wm_mono x y hlt (by omega)
  have hq : (Q : Int) ≤ 9223372036854775807 := by have := wm_lt y (by omega); omega
  have HP := Lib.hid hP
  have HQ := Lib.hid hQ
  have hb : ((y : Int) / 8388608 == 255) = true := by rw [beq_iff_eq]; omega
  have t52 := Lib.hid (top52 y Q hQ ht)
  have t41 := Lib.hid (top41 y Q hQ ht)
  have t35 := Lib.hid (top35 y Q hQ ht)
  clear hP hQ ht
  go_enter Try.func8, Try.ntmps8
  go_wp2_with fail
  refine (begun_any _).mono ?_; rintro e w' ⟨rfl, rfl⟩
  go_wp2_with fail
  refine (wide_at x P _ (by omega) HP.out).mono ?_; rintro e w' ⟨rfl, rfl⟩
  go_wp2_with fail
  refine (wide_at y Q _ (by omega) HQ.out).mono ?_; rintro e w' ⟨rfl, rfl⟩
  go_wp2_with fail
  refine (wide_neg x P _ (by omega) HP.out).mono ?_; rintro e w' ⟨rfl, rfl⟩
  go_wp2_with fail
  all_goals first | (go_ret; exact ⟨ret_bool t35.out, rfl⟩) | exact absurd t41.out (by assumption) | exact absurd t52.out (by assumption)
set_option maxRecDepth 100000 in
set_option maxHeartbeats 2000000 in
theorem wide_lt_0 (a b x y P Q : Nat) (w : World) (hA : bits .and .u32 (a : Int) 2147483647 = (x : Int)) (hB : bits .and .u32 (b : Int) 2147483647 = (y : Int)) (hx : x ≤ 2147483647) (hy : y ≤ 2147483647) (hP : P = wm x) (hQ : Q = wm y) (hlt : x < y) (ht : y / 8388608 ≠ 255) :
    Calls Try.prog 8 #[.int .u32 (a : Int), .int .u32 (b : Int)] w fun e' w' => e' = .returned (.bool true) ∧ w = w' := by
  have hPQ : P < Q := by rw [hP, hQ]; exact wm_mono x y hlt (by omega)
  have hq : (Q : Int) ≤ 9223372036854775807 := by have := wm_lt y (by omega); omega
  have HP := Lib.hid hP
  have HQ := Lib.hid hQ
  have hb : ((y : Int) / 8388608 == 255) = false := by rw [beq_eq_false_iff_ne]; omega
  have hlow : (Q : Int) / 4503599627370496 < 2047 := by have := wm_low y (by omega) ht; rw [← hQ] at this; omega
  have HLow := Lib.hid hlow
  clear hlow
  clear hP hQ ht
  go_enter Try.func8, Try.ntmps8
  go_wp2_with fail
  refine (begun_any _).mono ?_; rintro e w' ⟨rfl, rfl⟩
  go_wp2_with fail
  refine (wide_at x P _ (by omega) HP.out).mono ?_; rintro e w' ⟨rfl, rfl⟩
  go_wp2_with fail
  refine (wide_at y Q _ (by omega) HQ.out).mono ?_; rintro e w' ⟨rfl, rfl⟩
  go_wp2_with fail
  refine (wide_neg x P _ (by omega) HP.out).mono ?_; rintro e w' ⟨rfl, rfl⟩
  go_wp2_with fail
  go_ret
  exact ⟨ret_bool (by rw [decide_eq_true_iff]; exact HLow.out), rfl⟩
set_option maxRecDepth 100000 in
set_option maxHeartbeats 2000000 in
theorem wide_eq_0 (a b x y P Q : Nat) (w : World) (hA : bits .and .u32 (a : Int) 2147483647 = (x : Int)) (hB : bits .and .u32 (b : Int) 2147483647 = (y : Int)) (hx : x ≤ 2147483647) (hy : y ≤ 2147483647) (hP : P = wm x) (hQ : Q = wm y) (hlt : x = y) (ht : y / 8388608 ≠ 255) :
    Calls Try.prog 8 #[.int .u32 (a : Int), .int .u32 (b : Int)] w fun e' w' => e' = .returned (.bool true) ∧ w = w' := by
  subst hlt
  obtain rfl : P = Q := by rw [hP, hQ]
  have hq : (P : Int) ≤ 9223372036854775807 := by have := wm_lt x (by omega); omega
  have HP := Lib.hid hP
  have HQ := Lib.hid hQ
  have hb : ((x : Int) / 8388608 == 255) = false := by rw [beq_eq_false_iff_ne]; omega
  have hlow : (P : Int) / 4503599627370496 < 2047 := by have := wm_low x (by omega) ht; rw [← hQ] at this; omega
  have HLow := Lib.hid hlow
  clear hlow
  clear hP hQ ht
  go_enter Try.func8, Try.ntmps8
  go_wp2_with fail
  refine (begun_any _).mono ?_; rintro e w' ⟨rfl, rfl⟩
  go_wp2_with fail
  refine (wide_at x P _ (by omega) HP.out).mono ?_; rintro e w' ⟨rfl, rfl⟩
  go_wp2_with fail
  refine (wide_at x P _ (by omega) HQ.out).mono ?_; rintro e w' ⟨rfl, rfl⟩
  go_wp2_with fail
  refine (wide_neg x P _ (by omega) HP.out).mono ?_; rintro e w' ⟨rfl, rfl⟩
  go_wp2_with fail
  go_ret
  exact ⟨ret_bool (by rw [decide_eq_true_iff]; exact HLow.out), rfl⟩
set_option maxRecDepth 100000 in
set_option maxHeartbeats 2000000 in
theorem wide_sw_0 (a b x y P Q : Nat) (w : World) (hA : bits .and .u32 (a : Int) 2147483647 = (y : Int)) (hB : bits .and .u32 (b : Int) 2147483647 = (x : Int)) (hx : x ≤ 2147483647) (hy : y ≤ 2147483647) (hP : P = wm x) (hQ : Q = wm y) (hlt : x < y) (ht : y / 8388608 ≠ 255) :
    Calls Try.prog 8 #[.int .u32 (a : Int), .int .u32 (b : Int)] w fun e' w' => e' = .returned (.bool true) ∧ w = w' := by
  have hPQ : P < Q := by rw [hP, hQ]; exact wm_mono x y hlt (by omega)
  have hq : (Q : Int) ≤ 9223372036854775807 := by have := wm_lt y (by omega); omega
  have HP := Lib.hid hP
  have HQ := Lib.hid hQ
  have hb : ((y : Int) / 8388608 == 255) = false := by rw [beq_eq_false_iff_ne]; omega
  have hlow : (Q : Int) / 4503599627370496 < 2047 := by have := wm_low y (by omega) ht; rw [← hQ] at this; omega
  have HLow := Lib.hid hlow
  clear hlow
  clear hP hQ ht
  go_enter Try.func8, Try.ntmps8
  go_wp2_with fail
  refine (begun_any _).mono ?_; rintro e w' ⟨rfl, rfl⟩
  go_wp2_with fail
  refine (wide_at x P _ (by omega) HP.out).mono ?_; rintro e w' ⟨rfl, rfl⟩
  go_wp2_with fail
  refine (wide_at y Q _ (by omega) HQ.out).mono ?_; rintro e w' ⟨rfl, rfl⟩
  go_wp2_with fail
  refine (wide_neg x P _ (by omega) HP.out).mono ?_; rintro e w' ⟨rfl, rfl⟩
  go_wp2_with fail
  go_ret
  exact ⟨ret_bool (by rw [decide_eq_true_iff]; exact HLow.out), rfl⟩
theorem and31 (a : Nat) (h : a < 4294967296) : bits .and .u32 (a : Int) 2147483647 = ((a % 2147483648 : Nat) : Int) := by
  have := u32_and_nat a 2147483647 h (by decide)
  rw [show (2147483647 : Nat) = 2 ^ 31 - 1 from rfl, Nat.and_two_pow_sub_one_eq_mod] at this
  exact this
theorem wide_law (a b : Nat) (w : World) (ha : a < 4294967296) (hb : b < 4294967296) :
    Calls Try.prog 8 #[.int .u32 (a : Int), .int .u32 (b : Int)] w fun e' w' => e' = .returned (.bool true) ∧ w = w' := by
  have hA := and31 a ha
  have hB := and31 b hb
  by_cases hsw : b % 2147483648 < a % 2147483648
  · by_cases ht : a % 2147483648 / 8388608 = 255
    · exact wide_sw_1 a b _ _ _ _ w hA hB (by omega) (by omega) rfl rfl hsw ht
    · exact wide_sw_0 a b _ _ _ _ w hA hB (by omega) (by omega) rfl rfl hsw ht
  · by_cases he : a % 2147483648 = b % 2147483648
    · by_cases ht : b % 2147483648 / 8388608 = 255
      · exact wide_eq_1 a b _ _ _ _ w hA hB (by omega) (by omega) rfl rfl he ht
      · exact wide_eq_0 a b _ _ _ _ w hA hB (by omega) (by omega) rfl rfl he ht
    · by_cases ht : b % 2147483648 / 8388608 = 255
      · exact wide_lt_1 a b _ _ _ _ w hA hB (by omega) (by omega) rfl rfl (by omega) ht
      · exact wide_lt_0 a b _ _ _ _ w hA hB (by omega) (by omega) rfl rfl (by omega) ht
theorem u32_lt {a : Int} (h : (Lit.int .u32 a).wf = true) : 0 ≤ a ∧ a < 4294967296 := by
  have := bounds_u32 h; omega
theorem wide_law_wf (a0 a1 : Int) (w : World) (h0 : (Lit.int .u32 a0).wf = true) (h1 : (Lit.int .u32 a1).wf = true) :
    Calls Try.prog 8 #[.int .u32 a0, .int .u32 a1] w fun e w' => e = .returned (.bool true) ∧ Below w.heap.size w w' := by
  have hb := u32_lt h0
  have hc := u32_lt h1
  obtain ⟨n, rfl⟩ := Int.eq_ofNat_of_zero_le hb.1
  obtain ⟨m, rfl⟩ := Int.eq_ofNat_of_zero_le hc.1
  refine (wide_law n m w (by omega) (by omega)).mono fun e w' ⟨he, hw⟩ => ⟨he, ?_⟩
  rw [← hw]; exact Below.refl _ _
end Cast
end Go.Proofs.Ytojpknhajifkbaa
