/-
  The document's answer to package cast: the nearest binary number.
-/
import Derived.Test.YtojpknhajifkbaaCastP
namespace Go.Proofs.Ytojpknhajifkbaa
open Go.ChangeShapes Go.WideShapes Go.ChangeAt Go.RowKit
namespace Cast
set_option linter.unusedVariables false

theorem shr_some (v t : Nat) (ht : t = Nat.log2 v) (hv : v ≠ 0) : ((v : Int) / 2 ^ t == 0) = false := by
  have a1 : 2 ^ Nat.log2 v ≤ v := Nat.log2_self_le hv
  rw [← ht] at a1
  have h2 : 0 < v / 2 ^ t := Nat.div_pos a1 (Nat.two_pow_pos t)
  rw [beq_eq_false_iff_ne, e_div]
  intro h
  have h' : v / 2 ^ t = 0 := Int.ofNat.inj h
  omega
theorem shr_none (v t e : Nat) (ht : t = Nat.log2 v) (h : t < e) : ((v : Int) / 2 ^ e == 0) = true := by
  have h2 : v / 2 ^ e = 0 := by
    apply Nat.div_eq_of_lt
    have a2 : v < 2 ^ (Nat.log2 v + 1) := Nat.lt_log2_self
    rw [← ht] at a2
    exact Nat.lt_of_lt_of_le a2 (Nat.pow_le_pow_right (by decide) (by omega))
  rw [beq_iff_eq, e_div, h2]; rfl
theorem nr_bounds2 (m t f b : Nat) (a1 : 2 ^ t ≤ m) (a2 : m < 2 ^ (t + 1)) : ∃ M, nr m t f b = (t + b - 1) * 2 ^ f + M ∧ 2 ^ f ≤ M ∧ M ≤ 2 ^ (f + 1) := by
  unfold nr
  by_cases hf : t ≤ f
  · rw [if_pos hf]
    have l1 := Nat.mul_le_mul_right (2 ^ (f - t)) a1
    rw [← Nat.pow_add, show t + (f - t) = f by omega] at l1
    have l2 := shl_lt m t f a2 hf
    exact ⟨_, rfl, l1, by omega⟩
  · rw [if_neg hf]
    have l2 := rnd_lt m t f a2 (by omega)
    have l1 : 2 ^ f ≤ m / 2 ^ (t - f) := by
      rw [Nat.le_div_iff_mul_le (Nat.two_pow_pos _), ← Nat.pow_add, show f + (t - f) = t by omega]; exact a1
    have l3 : m / 2 ^ (t - f) ≤ rnd m (t - f) := by unfold rnd; split <;> omega
    exact ⟨_, rfl, by omega, l2⟩
theorem rend_52 (t M : Nat) (X : Int) (ht : t ≤ 63) (hX : X = (M : Int)) (h1 : 4503599627370496 ≤ M) (h2 : M ≤ 9007199254740992) (N : Nat) (hN : N = (t + 1022) * 4503599627370496 + M) :
    Ending.returned (.int .u64 (IntKind.u64.wrap (((t : Int) + 1023) * 4503599627370496 + IntKind.u64.wrap (X - 4503599627370496)))) = .returned (.int .u64 (N : Nat)) := by
  refine ret_int ?_
  rw [hX, hN, IntKind.wrap_u64, IntKind.wrap_u64]
  omega
set_option maxRecDepth 100000 in
set_option maxHeartbeats 2000000 in
theorem rnear_52_s (v t M : Nat) (w : World) (hv : (v : Int) ≤ 18446744073709551615) (h0 : v ≠ 0) (ht : t = Nat.log2 v) (ht2 : t ≤ 63) (hM1 : 4503599627370496 ≤ M) (hM2 : M ≤ 9007199254740992) (hf : t ≤ 52) (hM : v * 2 ^ (52 - t) = M) :
    Calls Try.prog 22 #[.int .u64 (v : Int), .int .i64 52, .int .i64 1023] w fun e w' => e = .returned (.int .u64 ((t + 1022) * 4503599627370496 + M : Nat)) ∧ ∃ q, w' = w.drewN q := by
  have hz : ((v : Int) == 0) = false := by rw [beq_eq_false_iff_ne]; omega
  have hMX : IntKind.u64.wrap ((v : Int) * 2 ^ (52 - t)) = (M : Int) := by
    rw [show (v : Int) * 2 ^ (52 - t) = ((v * 2 ^ (52 - t) : Nat) : Int) by simp, hM, wrapN _ (by omega)]
  have HE := Lib.hid (rend_52 t M _ ht2 hMX hM1 hM2 _ rfl)
  clear hMX hM
  have HT := Lib.hid ht
  have H0 := Lib.hid h0
  clear ht h0 hM1 hM2
  go_enter Try.func22, Try.ntmps22
  go_wp2_with fail
  go_loop [7] (fun i => ∃ e : Nat, t ≤ e ∧ e ≤ 63 ∧ i = .int .i64 e) (fun i => (intOf i).toNat)
  case atStart => exact ⟨63, by omega, by omega, rfl⟩
  case round =>
    obtain ⟨e, he, he2, rfl⟩ := hrel
    by_cases hlt : t < e
    · have hs := shr_none v t e HT.out hlt
      go_wp2_with fail
      go_round
      case rel => exact ⟨e - 1, by omega, by omega, by congr 1; omega⟩
      case measure => simp [intOf]; omega
    · obtain rfl : e = t := by omega
      have hs := shr_some v e HT.out H0.out
      go_wp2_with fail
      go_quiet (fail)
      go_wp2_with fail
      go_ret
      exact ⟨HE.out, _, rfl⟩
set_option maxRecDepth 100000 in
set_option maxHeartbeats 2000000 in
theorem rnear_52_u (v t M : Nat) (w : World) (hv : (v : Int) ≤ 18446744073709551615) (h0 : v ≠ 0) (ht : t = Nat.log2 v) (ht2 : t ≤ 63) (hM1 : 4503599627370496 ≤ M) (hM2 : M ≤ 9007199254740992) (hf : 52 < t) (pw hp r q : Nat) (hpw : 2 ^ (t - 52) = pw) (hhp : 2 ^ (t - 52 - 1) = hp) (hr : v % pw = r) (hq : v / pw = q) (hpos : 1 ≤ pw) (hpl : pw ≤ 9223372036854775808) (hhl : hp ≤ 9223372036854775808) (hql : q ≤ 9223372036854775807) (hc : hp < r) (hM : q + 1 = M) :
    Calls Try.prog 22 #[.int .u64 (v : Int), .int .i64 52, .int .i64 1023] w fun e w' => e = .returned (.int .u64 ((t + 1022) * 4503599627370496 + M : Nat)) ∧ ∃ q, w' = w.drewN q := by
  have hz : ((v : Int) == 0) = false := by rw [beq_eq_false_iff_ne]; omega
  have HE := Lib.hid (rend_52 t M ((q : Int) + 1) ht2 (by omega) hM1 hM2 _ rfl)
  have w1 : IntKind.u64.wrap (2 ^ (t - 52)) = (pw : Int) := by rw [e_pow _ (by omega), hpw]
  have w2 : IntKind.u64.wrap (2 ^ (t - 52 - 1)) = (hp : Int) := by rw [e_pow _ (by omega), hhp]
  have w3 : (v : Int) % (pw : Int) = (r : Int) := by rw [← hr]; rfl
  have w4 : (v : Int) / 2 ^ (t - 52) = (q : Int) := by rw [e_div, hpw, hq]
  have p0 : 1 ≤ (pw : Int) := by omega
  have qb : (q : Int) ≤ 9223372036854775807 := by omega
  have r0 : (r : Int) ≤ 18446744073709551615 := by have := Nat.mod_le v pw; omega
  have c1 : (hp : Int) < (r : Int) := by omega
  clear hpw hhp hr hq hM hpos hpl hhl hql hc
  have HT := Lib.hid ht
  have H0 := Lib.hid h0
  clear ht h0 hM1 hM2
  go_enter Try.func22, Try.ntmps22
  go_wp2_with fail
  go_loop [7] (fun i => ∃ e : Nat, t ≤ e ∧ e ≤ 63 ∧ i = .int .i64 e) (fun i => (intOf i).toNat)
  case atStart => exact ⟨63, by omega, by omega, rfl⟩
  case round =>
    obtain ⟨e, he, he2, rfl⟩ := hrel
    by_cases hlt : t < e
    · have hs := shr_none v t e HT.out hlt
      go_wp2_with fail
      go_round
      case rel => exact ⟨e - 1, by omega, by omega, by congr 1; omega⟩
      case measure => simp [intOf]; omega
    · obtain rfl : e = t := by omega
      have hs := shr_some v e HT.out H0.out
      go_wp2_with fail
      go_quiet (fail)
      go_wp2_with fail
      go_ret
      exact ⟨HE.out, _, rfl⟩
set_option maxRecDepth 100000 in
set_option maxHeartbeats 2000000 in
theorem rnear_52_d1 (v t M : Nat) (w : World) (hv : (v : Int) ≤ 18446744073709551615) (h0 : v ≠ 0) (ht : t = Nat.log2 v) (ht2 : t ≤ 63) (hM1 : 4503599627370496 ≤ M) (hM2 : M ≤ 9007199254740992) (hf : 52 < t) (pw hp r q : Nat) (hpw : 2 ^ (t - 52) = pw) (hhp : 2 ^ (t - 52 - 1) = hp) (hr : v % pw = r) (hq : v / pw = q) (hpos : 1 ≤ pw) (hpl : pw ≤ 9223372036854775808) (hhl : hp ≤ 9223372036854775808) (hql : q ≤ 9223372036854775807) (hc : r = hp) (ho : q % 2 = 1) (hM : q + 1 = M) :
    Calls Try.prog 22 #[.int .u64 (v : Int), .int .i64 52, .int .i64 1023] w fun e w' => e = .returned (.int .u64 ((t + 1022) * 4503599627370496 + M : Nat)) ∧ ∃ q, w' = w.drewN q := by
  have hz : ((v : Int) == 0) = false := by rw [beq_eq_false_iff_ne]; omega
  have HE := Lib.hid (rend_52 t M ((q : Int) + 1) ht2 (by omega) hM1 hM2 _ rfl)
  have w1 : IntKind.u64.wrap (2 ^ (t - 52)) = (pw : Int) := by rw [e_pow _ (by omega), hpw]
  have w2 : IntKind.u64.wrap (2 ^ (t - 52 - 1)) = (hp : Int) := by rw [e_pow _ (by omega), hhp]
  have w3 : (v : Int) % (pw : Int) = (r : Int) := by rw [← hr]; rfl
  have w4 : (v : Int) / 2 ^ (t - 52) = (q : Int) := by rw [e_div, hpw, hq]
  have p0 : 1 ≤ (pw : Int) := by omega
  have qb : (q : Int) ≤ 9223372036854775807 := by omega
  have r0 : (r : Int) ≤ 18446744073709551615 := by have := Nat.mod_le v pw; omega
  have c1 : ¬ (hp : Int) < (r : Int) := by omega
  have c2 : ((r : Int) == (hp : Int)) = true := by rw [beq_iff_eq]; omega
  have c3 : ((q : Int) % 2 == 1) = true := by rw [beq_iff_eq]; omega
  clear hpw hhp hr hq hM hpos hpl hhl hql hc ho
  have HT := Lib.hid ht
  have H0 := Lib.hid h0
  clear ht h0 hM1 hM2
  go_enter Try.func22, Try.ntmps22
  go_wp2_with fail
  go_loop [7] (fun i => ∃ e : Nat, t ≤ e ∧ e ≤ 63 ∧ i = .int .i64 e) (fun i => (intOf i).toNat)
  case atStart => exact ⟨63, by omega, by omega, rfl⟩
  case round =>
    obtain ⟨e, he, he2, rfl⟩ := hrel
    by_cases hlt : t < e
    · have hs := shr_none v t e HT.out hlt
      go_wp2_with fail
      go_round
      case rel => exact ⟨e - 1, by omega, by omega, by congr 1; omega⟩
      case measure => simp [intOf]; omega
    · obtain rfl : e = t := by omega
      have hs := shr_some v e HT.out H0.out
      go_wp2_with fail
      go_quiet (fail)
      go_wp2_with fail
      go_ret
      exact ⟨HE.out, _, rfl⟩
set_option maxRecDepth 100000 in
set_option maxHeartbeats 2000000 in
theorem rnear_52_d2 (v t M : Nat) (w : World) (hv : (v : Int) ≤ 18446744073709551615) (h0 : v ≠ 0) (ht : t = Nat.log2 v) (ht2 : t ≤ 63) (hM1 : 4503599627370496 ≤ M) (hM2 : M ≤ 9007199254740992) (hf : 52 < t) (pw hp r q : Nat) (hpw : 2 ^ (t - 52) = pw) (hhp : 2 ^ (t - 52 - 1) = hp) (hr : v % pw = r) (hq : v / pw = q) (hpos : 1 ≤ pw) (hpl : pw ≤ 9223372036854775808) (hhl : hp ≤ 9223372036854775808) (hql : q ≤ 9223372036854775807) (hc : ¬ hp < r) (ho : ¬ (r = hp ∧ q % 2 = 1)) (hM : q = M) :
    Calls Try.prog 22 #[.int .u64 (v : Int), .int .i64 52, .int .i64 1023] w fun e w' => e = .returned (.int .u64 ((t + 1022) * 4503599627370496 + M : Nat)) ∧ ∃ q, w' = w.drewN q := by
  have hz : ((v : Int) == 0) = false := by rw [beq_eq_false_iff_ne]; omega
  have HE := Lib.hid (rend_52 t M (q : Int) ht2 (by omega) hM1 hM2 _ rfl)
  have w1 : IntKind.u64.wrap (2 ^ (t - 52)) = (pw : Int) := by rw [e_pow _ (by omega), hpw]
  have w2 : IntKind.u64.wrap (2 ^ (t - 52 - 1)) = (hp : Int) := by rw [e_pow _ (by omega), hhp]
  have w3 : (v : Int) % (pw : Int) = (r : Int) := by rw [← hr]; rfl
  have w4 : (v : Int) / 2 ^ (t - 52) = (q : Int) := by rw [e_div, hpw, hq]
  have p0 : 1 ≤ (pw : Int) := by omega
  have qb : (q : Int) ≤ 9223372036854775807 := by omega
  have r0 : (r : Int) ≤ 18446744073709551615 := by have := Nat.mod_le v pw; omega
  clear hpw hhp hr hq hM hpos hpl hhl hql
  have HT := Lib.hid ht
  have H0 := Lib.hid h0
  clear ht h0 hM1 hM2
  by_cases hrr : r = hp
  · have c1 : ¬ (hp : Int) < (r : Int) := by omega
    have c2 : ((r : Int) == (hp : Int)) = true := by rw [beq_iff_eq]; omega
    have c3 : ((q : Int) % 2 == 1) = false := by rw [beq_eq_false_iff_ne]; omega
    clear hc ho hrr
    go_enter Try.func22, Try.ntmps22
    go_wp2_with fail
    go_loop [7] (fun i => ∃ e : Nat, t ≤ e ∧ e ≤ 63 ∧ i = .int .i64 e) (fun i => (intOf i).toNat)
    case atStart => exact ⟨63, by omega, by omega, rfl⟩
    case round =>
      obtain ⟨e, he, he2, rfl⟩ := hrel
      by_cases hlt : t < e
      · have hs := shr_none v t e HT.out hlt
        go_wp2_with fail
        go_round
        case rel => exact ⟨e - 1, by omega, by omega, by congr 1; omega⟩
        case measure => simp [intOf]; omega
      · obtain rfl : e = t := by omega
        have hs := shr_some v e HT.out H0.out
        go_wp2_with fail
        go_quiet (fail)
        go_wp2_with fail
        go_ret
        exact ⟨HE.out, _, rfl⟩
  · have c1 : ¬ (hp : Int) < (r : Int) := by omega
    have c2 : ((r : Int) == (hp : Int)) = false := by rw [beq_eq_false_iff_ne]; omega
    clear hc ho hrr
    go_enter Try.func22, Try.ntmps22
    go_wp2_with fail
    go_loop [7] (fun i => ∃ e : Nat, t ≤ e ∧ e ≤ 63 ∧ i = .int .i64 e) (fun i => (intOf i).toNat)
    case atStart => exact ⟨63, by omega, by omega, rfl⟩
    case round =>
      obtain ⟨e, he, he2, rfl⟩ := hrel
      by_cases hlt : t < e
      · have hs := shr_none v t e HT.out hlt
        go_wp2_with fail
        go_round
        case rel => exact ⟨e - 1, by omega, by omega, by congr 1; omega⟩
        case measure => simp [intOf]; omega
      · obtain rfl : e = t := by omega
        have hs := shr_some v e HT.out H0.out
        go_wp2_with fail
        go_quiet (fail)
        go_wp2_with fail
        go_ret
        exact ⟨HE.out, _, rfl⟩
theorem rend_23 (t M : Nat) (X : Int) (ht : t ≤ 63) (hX : X = (M : Int)) (h1 : 8388608 ≤ M) (h2 : M ≤ 16777216) (N : Nat) (hN : N = (t + 126) * 8388608 + M) :
    Ending.returned (.int .u64 (IntKind.u64.wrap (((t : Int) + 127) * 8388608 + IntKind.u64.wrap (X - 8388608)))) = .returned (.int .u64 (N : Nat)) := by
  refine ret_int ?_
  rw [hX, hN, IntKind.wrap_u64, IntKind.wrap_u64]
  omega
set_option maxRecDepth 100000 in
set_option maxHeartbeats 2000000 in
theorem rnear_23_s (v t M : Nat) (w : World) (hv : (v : Int) ≤ 18446744073709551615) (h0 : v ≠ 0) (ht : t = Nat.log2 v) (ht2 : t ≤ 63) (hM1 : 8388608 ≤ M) (hM2 : M ≤ 16777216) (hf : t ≤ 23) (hM : v * 2 ^ (23 - t) = M) :
    Calls Try.prog 22 #[.int .u64 (v : Int), .int .i64 23, .int .i64 127] w fun e w' => e = .returned (.int .u64 ((t + 126) * 8388608 + M : Nat)) ∧ ∃ q, w' = w.drewN q := by
  have hz : ((v : Int) == 0) = false := by rw [beq_eq_false_iff_ne]; omega
  have hMX : IntKind.u64.wrap ((v : Int) * 2 ^ (23 - t)) = (M : Int) := by
    rw [show (v : Int) * 2 ^ (23 - t) = ((v * 2 ^ (23 - t) : Nat) : Int) by simp, hM, wrapN _ (by omega)]
  have HE := Lib.hid (rend_23 t M _ ht2 hMX hM1 hM2 _ rfl)
  clear hMX hM
  have HT := Lib.hid ht
  have H0 := Lib.hid h0
  clear ht h0 hM1 hM2
  go_enter Try.func22, Try.ntmps22
  go_wp2_with fail
  go_loop [7] (fun i => ∃ e : Nat, t ≤ e ∧ e ≤ 63 ∧ i = .int .i64 e) (fun i => (intOf i).toNat)
  case atStart => exact ⟨63, by omega, by omega, rfl⟩
  case round =>
    obtain ⟨e, he, he2, rfl⟩ := hrel
    by_cases hlt : t < e
    · have hs := shr_none v t e HT.out hlt
      go_wp2_with fail
      go_round
      case rel => exact ⟨e - 1, by omega, by omega, by congr 1; omega⟩
      case measure => simp [intOf]; omega
    · obtain rfl : e = t := by omega
      have hs := shr_some v e HT.out H0.out
      go_wp2_with fail
      go_quiet (fail)
      go_wp2_with fail
      go_ret
      exact ⟨HE.out, _, rfl⟩
set_option maxRecDepth 100000 in
set_option maxHeartbeats 2000000 in
theorem rnear_23_u (v t M : Nat) (w : World) (hv : (v : Int) ≤ 18446744073709551615) (h0 : v ≠ 0) (ht : t = Nat.log2 v) (ht2 : t ≤ 63) (hM1 : 8388608 ≤ M) (hM2 : M ≤ 16777216) (hf : 23 < t) (pw hp r q : Nat) (hpw : 2 ^ (t - 23) = pw) (hhp : 2 ^ (t - 23 - 1) = hp) (hr : v % pw = r) (hq : v / pw = q) (hpos : 1 ≤ pw) (hpl : pw ≤ 9223372036854775808) (hhl : hp ≤ 9223372036854775808) (hql : q ≤ 9223372036854775807) (hc : hp < r) (hM : q + 1 = M) :
    Calls Try.prog 22 #[.int .u64 (v : Int), .int .i64 23, .int .i64 127] w fun e w' => e = .returned (.int .u64 ((t + 126) * 8388608 + M : Nat)) ∧ ∃ q, w' = w.drewN q := by
  have hz : ((v : Int) == 0) = false := by rw [beq_eq_false_iff_ne]; omega
  have HE := Lib.hid (rend_23 t M ((q : Int) + 1) ht2 (by omega) hM1 hM2 _ rfl)
  have w1 : IntKind.u64.wrap (2 ^ (t - 23)) = (pw : Int) := by rw [e_pow _ (by omega), hpw]
  have w2 : IntKind.u64.wrap (2 ^ (t - 23 - 1)) = (hp : Int) := by rw [e_pow _ (by omega), hhp]
  have w3 : (v : Int) % (pw : Int) = (r : Int) := by rw [← hr]; rfl
  have w4 : (v : Int) / 2 ^ (t - 23) = (q : Int) := by rw [e_div, hpw, hq]
  have p0 : 1 ≤ (pw : Int) := by omega
  have qb : (q : Int) ≤ 9223372036854775807 := by omega
  have r0 : (r : Int) ≤ 18446744073709551615 := by have := Nat.mod_le v pw; omega
  have c1 : (hp : Int) < (r : Int) := by omega
  clear hpw hhp hr hq hM hpos hpl hhl hql hc
  have HT := Lib.hid ht
  have H0 := Lib.hid h0
  clear ht h0 hM1 hM2
  go_enter Try.func22, Try.ntmps22
  go_wp2_with fail
  go_loop [7] (fun i => ∃ e : Nat, t ≤ e ∧ e ≤ 63 ∧ i = .int .i64 e) (fun i => (intOf i).toNat)
  case atStart => exact ⟨63, by omega, by omega, rfl⟩
  case round =>
    obtain ⟨e, he, he2, rfl⟩ := hrel
    by_cases hlt : t < e
    · have hs := shr_none v t e HT.out hlt
      go_wp2_with fail
      go_round
      case rel => exact ⟨e - 1, by omega, by omega, by congr 1; omega⟩
      case measure => simp [intOf]; omega
    · obtain rfl : e = t := by omega
      have hs := shr_some v e HT.out H0.out
      go_wp2_with fail
      go_quiet (fail)
      go_wp2_with fail
      go_ret
      exact ⟨HE.out, _, rfl⟩
set_option maxRecDepth 100000 in
set_option maxHeartbeats 2000000 in
theorem rnear_23_d1 (v t M : Nat) (w : World) (hv : (v : Int) ≤ 18446744073709551615) (h0 : v ≠ 0) (ht : t = Nat.log2 v) (ht2 : t ≤ 63) (hM1 : 8388608 ≤ M) (hM2 : M ≤ 16777216) (hf : 23 < t) (pw hp r q : Nat) (hpw : 2 ^ (t - 23) = pw) (hhp : 2 ^ (t - 23 - 1) = hp) (hr : v % pw = r) (hq : v / pw = q) (hpos : 1 ≤ pw) (hpl : pw ≤ 9223372036854775808) (hhl : hp ≤ 9223372036854775808) (hql : q ≤ 9223372036854775807) (hc : r = hp) (ho : q % 2 = 1) (hM : q + 1 = M) :
    Calls Try.prog 22 #[.int .u64 (v : Int), .int .i64 23, .int .i64 127] w fun e w' => e = .returned (.int .u64 ((t + 126) * 8388608 + M : Nat)) ∧ ∃ q, w' = w.drewN q := by
  have hz : ((v : Int) == 0) = false := by rw [beq_eq_false_iff_ne]; omega
  have HE := Lib.hid (rend_23 t M ((q : Int) + 1) ht2 (by omega) hM1 hM2 _ rfl)
  have w1 : IntKind.u64.wrap (2 ^ (t - 23)) = (pw : Int) := by rw [e_pow _ (by omega), hpw]
  have w2 : IntKind.u64.wrap (2 ^ (t - 23 - 1)) = (hp : Int) := by rw [e_pow _ (by omega), hhp]
  have w3 : (v : Int) % (pw : Int) = (r : Int) := by rw [← hr]; rfl
  have w4 : (v : Int) / 2 ^ (t - 23) = (q : Int) := by rw [e_div, hpw, hq]
  have p0 : 1 ≤ (pw : Int) := by omega
  have qb : (q : Int) ≤ 9223372036854775807 := by omega
  have r0 : (r : Int) ≤ 18446744073709551615 := by have := Nat.mod_le v pw; omega
  have c1 : ¬ (hp : Int) < (r : Int) := by omega
  have c2 : ((r : Int) == (hp : Int)) = true := by rw [beq_iff_eq]; omega
  have c3 : ((q : Int) % 2 == 1) = true := by rw [beq_iff_eq]; omega
  clear hpw hhp hr hq hM hpos hpl hhl hql hc ho
  have HT := Lib.hid ht
  have H0 := Lib.hid h0
  clear ht h0 hM1 hM2
  go_enter Try.func22, Try.ntmps22
  go_wp2_with fail
  go_loop [7] (fun i => ∃ e : Nat, t ≤ e ∧ e ≤ 63 ∧ i = .int .i64 e) (fun i => (intOf i).toNat)
  case atStart => exact ⟨63, by omega, by omega, rfl⟩
  case round =>
    obtain ⟨e, he, he2, rfl⟩ := hrel
    by_cases hlt : t < e
    · have hs := shr_none v t e HT.out hlt
      go_wp2_with fail
      go_round
      case rel => exact ⟨e - 1, by omega, by omega, by congr 1; omega⟩
      case measure => simp [intOf]; omega
    · obtain rfl : e = t := by omega
      have hs := shr_some v e HT.out H0.out
      go_wp2_with fail
      go_quiet (fail)
      go_wp2_with fail
      go_ret
      exact ⟨HE.out, _, rfl⟩
set_option maxRecDepth 100000 in
set_option maxHeartbeats 2000000 in
theorem rnear_23_d2 (v t M : Nat) (w : World) (hv : (v : Int) ≤ 18446744073709551615) (h0 : v ≠ 0) (ht : t = Nat.log2 v) (ht2 : t ≤ 63) (hM1 : 8388608 ≤ M) (hM2 : M ≤ 16777216) (hf : 23 < t) (pw hp r q : Nat) (hpw : 2 ^ (t - 23) = pw) (hhp : 2 ^ (t - 23 - 1) = hp) (hr : v % pw = r) (hq : v / pw = q) (hpos : 1 ≤ pw) (hpl : pw ≤ 9223372036854775808) (hhl : hp ≤ 9223372036854775808) (hql : q ≤ 9223372036854775807) (hc : ¬ hp < r) (ho : ¬ (r = hp ∧ q % 2 = 1)) (hM : q = M) :
    Calls Try.prog 22 #[.int .u64 (v : Int), .int .i64 23, .int .i64 127] w fun e w' => e = .returned (.int .u64 ((t + 126) * 8388608 + M : Nat)) ∧ ∃ q, w' = w.drewN q := by
  have hz : ((v : Int) == 0) = false := by rw [beq_eq_false_iff_ne]; omega
  have HE := Lib.hid (rend_23 t M (q : Int) ht2 (by omega) hM1 hM2 _ rfl)
  have w1 : IntKind.u64.wrap (2 ^ (t - 23)) = (pw : Int) := by rw [e_pow _ (by omega), hpw]
  have w2 : IntKind.u64.wrap (2 ^ (t - 23 - 1)) = (hp : Int) := by rw [e_pow _ (by omega), hhp]
  have w3 : (v : Int) % (pw : Int) = (r : Int) := by rw [← hr]; rfl
  have w4 : (v : Int) / 2 ^ (t - 23) = (q : Int) := by rw [e_div, hpw, hq]
  have p0 : 1 ≤ (pw : Int) := by omega
  have qb : (q : Int) ≤ 9223372036854775807 := by omega
  have r0 : (r : Int) ≤ 18446744073709551615 := by have := Nat.mod_le v pw; omega
  clear hpw hhp hr hq hM hpos hpl hhl hql
  have HT := Lib.hid ht
  have H0 := Lib.hid h0
  clear ht h0 hM1 hM2
  by_cases hrr : r = hp
  · have c1 : ¬ (hp : Int) < (r : Int) := by omega
    have c2 : ((r : Int) == (hp : Int)) = true := by rw [beq_iff_eq]; omega
    have c3 : ((q : Int) % 2 == 1) = false := by rw [beq_eq_false_iff_ne]; omega
    clear hc ho hrr
    go_enter Try.func22, Try.ntmps22
    go_wp2_with fail
    go_loop [7] (fun i => ∃ e : Nat, t ≤ e ∧ e ≤ 63 ∧ i = .int .i64 e) (fun i => (intOf i).toNat)
    case atStart => exact ⟨63, by omega, by omega, rfl⟩
    case round =>
      obtain ⟨e, he, he2, rfl⟩ := hrel
      by_cases hlt : t < e
      · have hs := shr_none v t e HT.out hlt
        go_wp2_with fail
        go_round
        case rel => exact ⟨e - 1, by omega, by omega, by congr 1; omega⟩
        case measure => simp [intOf]; omega
      · obtain rfl : e = t := by omega
        have hs := shr_some v e HT.out H0.out
        go_wp2_with fail
        go_quiet (fail)
        go_wp2_with fail
        go_ret
        exact ⟨HE.out, _, rfl⟩
  · have c1 : ¬ (hp : Int) < (r : Int) := by omega
    have c2 : ((r : Int) == (hp : Int)) = false := by rw [beq_eq_false_iff_ne]; omega
    clear hc ho hrr
    go_enter Try.func22, Try.ntmps22
    go_wp2_with fail
    go_loop [7] (fun i => ∃ e : Nat, t ≤ e ∧ e ≤ 63 ∧ i = .int .i64 e) (fun i => (intOf i).toNat)
    case atStart => exact ⟨63, by omega, by omega, rfl⟩
    case round =>
      obtain ⟨e, he, he2, rfl⟩ := hrel
      by_cases hlt : t < e
      · have hs := shr_none v t e HT.out hlt
        go_wp2_with fail
        go_round
        case rel => exact ⟨e - 1, by omega, by omega, by congr 1; omega⟩
        case measure => simp [intOf]; omega
      · obtain rfl : e = t := by omega
        have hs := shr_some v e HT.out H0.out
        go_wp2_with fail
        go_quiet (fail)
        go_wp2_with fail
        go_ret
        exact ⟨HE.out, _, rfl⟩
end Cast
end Go.Proofs.Ytojpknhajifkbaa
