/-
  The document's answer to package cast: Double, Float.
-/
import Derived.Test.YtojpknhajifkbaaCastQ
namespace Go.Proofs.Ytojpknhajifkbaa
open Go.ChangeShapes Go.WideShapes Go.ChangeAt Go.RowKit
namespace Cast
set_option linter.unusedVariables false

def near0 (v f b : Nat) : Nat := if v = 0 then 0 else nr v (Nat.log2 v) f b
theorem rnear_zero (f b : Nat) (w : World) : Calls Try.prog 22 #[.int .u64 0, .int .i64 (f : Int), .int .i64 (b : Int)] w fun e w' => e = .returned (.int .u64 0) ∧ ∃ q, w' = w.drewN q := by
  go_enter Try.func22, Try.ntmps22
  go_wp2_with fail
  go_ret
  exact ⟨rfl, 0, rfl⟩
theorem large_parts (v t f : Nat) (hv : v < 18446744073709551616) (hf : f < t) (ht : t ≤ 63) (hf1 : 1 ≤ f) :
    1 ≤ 2 ^ (t - f) ∧ 2 ^ (t - f) ≤ 9223372036854775808 ∧ 2 ^ (t - f - 1) ≤ 9223372036854775808 ∧ v / 2 ^ (t - f) ≤ 9223372036854775807 := by
  have h1 : 2 ^ (t - f) ≤ 2 ^ 63 := Nat.pow_le_pow_right (by decide) (by omega)
  have h2 : 2 ^ (t - f - 1) ≤ 2 ^ 63 := Nat.pow_le_pow_right (by decide) (by omega)
  exact ⟨Nat.two_pow_pos _, h1, h2, half_le v (t - f) hv (by omega)⟩
theorem rnear_any (v f b : Nat) (w : World) (hv : v < 18446744073709551616) (h : f = 52 ∧ b = 1023 ∨ f = 23 ∧ b = 127) :
    Calls Try.prog 22 #[.int .u64 (v : Int), .int .i64 (f : Int), .int .i64 (b : Int)] w fun e w' => e = .returned (.int .u64 (near0 v f b : Nat)) ∧ ∃ q, w' = w.drewN q := by
  by_cases h0 : v = 0
  · subst h0; exact rnear_zero f b w
  · have e : near0 v f b = nr v (Nat.log2 v) f b := by unfold near0; rw [if_neg h0]
    rw [e]
    obtain ⟨t, ht⟩ : ∃ t, t = Nat.log2 v := ⟨_, rfl⟩
    have a1 : 2 ^ t ≤ v := by rw [ht]; exact Nat.log2_self_le h0
    have a2 : v < 2 ^ (t + 1) := by rw [ht]; exact Nat.lt_log2_self
    have t63 : t ≤ 63 := by have := (Nat.log2_lt h0).2 (show v < 2 ^ 64 from hv); omega
    rw [← ht]
    obtain ⟨M, hM, hM1, hM2⟩ := nr_bounds2 v t f b a1 a2
    rw [hM]
    by_cases hf : t ≤ f
    · have hm : v * 2 ^ (f - t) = M := by unfold nr at hM; rw [if_pos hf] at hM; omega
      rcases h with ⟨rfl, rfl⟩ | ⟨rfl, rfl⟩
      · exact rnear_52_s v t M w (by omega) h0 ht t63 hM1 hM2 hf hm
      · exact rnear_23_s v t M w (by omega) h0 ht t63 hM1 hM2 hf hm
    · have hm : rnd v (t - f) = M := by unfold nr at hM; rw [if_neg hf] at hM; omega
      have hp := large_parts v t f hv (by omega) t63 (by omega)
      obtain ⟨p1, p2, p3, p4⟩ := hp
      unfold rnd at hm
      by_cases c1 : 2 ^ (t - f - 1) < v % 2 ^ (t - f)
      · rw [if_pos (.inl c1)] at hm
        rcases h with ⟨rfl, rfl⟩ | ⟨rfl, rfl⟩
        · exact rnear_52_u v t M w (by omega) h0 ht t63 hM1 hM2 (by omega) _ _ _ _ rfl rfl rfl rfl p1 p2 p3 p4 c1 hm
        · exact rnear_23_u v t M w (by omega) h0 ht t63 hM1 hM2 (by omega) _ _ _ _ rfl rfl rfl rfl p1 p2 p3 p4 c1 hm
      · by_cases c2 : v % 2 ^ (t - f) = 2 ^ (t - f - 1) ∧ v / 2 ^ (t - f) % 2 = 1
        · rw [if_pos (.inr c2)] at hm
          rcases h with ⟨rfl, rfl⟩ | ⟨rfl, rfl⟩
          · exact rnear_52_d1 v t M w (by omega) h0 ht t63 hM1 hM2 (by omega) _ _ _ _ rfl rfl rfl rfl p1 p2 p3 p4 c2.1 c2.2 hm
          · exact rnear_23_d1 v t M w (by omega) h0 ht t63 hM1 hM2 (by omega) _ _ _ _ rfl rfl rfl rfl p1 p2 p3 p4 c2.1 c2.2 hm
        · rw [if_neg (fun x => x.elim c1 c2)] at hm
          rcases h with ⟨rfl, rfl⟩ | ⟨rfl, rfl⟩
          · exact rnear_52_d2 v t M w (by omega) h0 ht t63 hM1 hM2 (by omega) _ _ _ _ rfl rfl rfl rfl p1 p2 p3 p4 c1 c2 hm
          · exact rnear_23_d2 v t M w (by omega) h0 ht t63 hM1 hM2 (by omega) _ _ _ _ rfl rfl rfl rfl p1 p2 p3 p4 c1 c2 hm
theorem near0_mag (v : Int) (f b : Nat) : near0 v.natAbs f b = mag v f b := by
  unfold near0 mag
  by_cases h : v = 0
  · rw [if_pos (by omega), if_pos h]
  · rw [if_neg (by omega), if_neg h]
theorem or_top (N : Nat) (h : N < 9223372036854775808) : bits .or .u64 9223372036854775808 (N : Int) = ((9223372036854775808 + N : Nat) : Int) := by
  have h1 := u64_or_nat 9223372036854775808 N (by decide) (by omega)
  have h2 := Nat.two_pow_add_eq_or_of_lt (i := 63) (b := N) h 1
  rw [show (2 : Nat) ^ 63 * 1 = 9223372036854775808 from rfl] at h2
  rw [← h2] at h1
  exact h1
theorem or_top32 (N : Nat) (h : N < 2147483648) : bits .or .u32 2147483648 (N : Int) = ((2147483648 + N : Nat) : Int) := by
  have h1 := u32_or_nat 2147483648 N (by decide) (by omega)
  have h2 := Nat.two_pow_add_eq_or_of_lt (i := 31) (b := N) h 1
  rw [show (2 : Nat) ^ 31 * 1 = 2147483648 from rfl] at h2
  rw [← h2] at h1
  exact h1
theorem rdouble_neg (m N : Nat) (w : World) (h1 : 1 ≤ m) (h2 : (m : Int) ≤ 9223372036854775808) (hN : near0 m 52 1023 = N) (hl : N < 9223372036854775808) :
    Calls Try.prog 11 #[.int .i64 (-(m : Int))] w fun e w' => e = .returned (.int .u64 (9223372036854775808 + N : Nat)) ∧ ∃ q, w' = w.drewN q := by
  have hn : -(m : Int) < 0 := by omega
  have HN := Lib.hid hN
  have HO := Lib.hid (or_top N hl)
  clear hN hl
  go_enter Try.func11, Try.ntmps11
  go_wp2_with fail
  rw [show -(-(m : Int) + 1) + 1 = (m : Int) by omega]
  refine (rnear_any m 52 1023 _ (by omega) (by omega)).mono ?_; rintro e w' ⟨rfl, nq, rfl⟩
  rw [HN.out]
  go_wp2_with fail
  go_ret
  exact ⟨ret_int HO.out, _, rfl⟩
theorem rdouble_pos (m N : Nat) (w : World) (h2 : (m : Int) ≤ 9223372036854775807) (hN : near0 m 52 1023 = N) :
    Calls Try.prog 11 #[.int .i64 (m : Int)] w fun e w' => e = .returned (.int .u64 (N : Nat)) ∧ ∃ q, w' = w.drewN q := by
  have HN := Lib.hid hN
  clear hN
  go_enter Try.func11, Try.ntmps11
  go_wp2_with fail
  refine (rnear_any m 52 1023 _ (by omega) (by omega)).mono ?_; rintro e w' ⟨rfl, nq, rfl⟩
  rw [HN.out]
  go_wp2_with fail
  go_ret
  exact ⟨rfl, _, rfl⟩
theorem rfloat_neg (m N : Nat) (w : World) (h1 : 1 ≤ m) (h2 : (m : Int) ≤ 9223372036854775808) (hN : near0 m 23 127 = N) (hNl : (N : Int) ≤ 2147483647) :
    Calls Try.prog 13 #[.int .i64 (-(m : Int))] w fun e w' => e = .returned (.int .u32 (2147483648 + N : Nat)) ∧ ∃ q, w' = w.drewN q := by
  have hn : -(m : Int) < 0 := by omega
  have HN := Lib.hid hN
  have HO := Lib.hid (or_top32 N (by omega))
  clear hN
  go_enter Try.func13, Try.ntmps13
  go_wp2_with fail
  rw [show -(-(m : Int) + 1) + 1 = (m : Int) by omega]
  refine (rnear_any m 23 127 _ (by omega) (by omega)).mono ?_; rintro e w' ⟨rfl, nq, rfl⟩
  rw [HN.out]
  go_wp2_with fail
  go_ret
  exact ⟨ret_int HO.out, _, rfl⟩
theorem rfloat_pos (m N : Nat) (w : World) (h2 : (m : Int) ≤ 9223372036854775807) (hN : near0 m 23 127 = N) (hNl : (N : Int) ≤ 2147483647) :
    Calls Try.prog 13 #[.int .i64 (m : Int)] w fun e w' => e = .returned (.int .u32 (N : Nat)) ∧ ∃ q, w' = w.drewN q := by
  have HN := Lib.hid hN
  clear hN
  go_enter Try.func13, Try.ntmps13
  go_wp2_with fail
  refine (rnear_any m 23 127 _ (by omega) (by omega)).mono ?_; rintro e w' ⟨rfl, nq, rfl⟩
  rw [HN.out]
  go_wp2_with fail
  go_ret
  exact ⟨rfl, _, rfl⟩
theorem rdouble_any (v : Int) (w : World) (h1 : -9223372036854775808 ≤ v) (h2 : v ≤ 9223372036854775807) :
    Calls Try.prog 11 #[.int .i64 v] w fun e w' => e = .returned (.int .u64 (D v : Nat)) ∧ ∃ q, w' = w.drewN q := by
  have hm := mag_lt v 52 1023 h1 h2 (by omega)
  have hn := near0_mag v 52 1023
  by_cases h : v < 0
  · have hs : sgn v = 1 := by unfold sgn; rw [if_pos h]
    have e : D v = 9223372036854775808 + mag v 52 1023 := by unfold D; rw [hs]
    rw [e]
    generalize mag v 52 1023 = N at *
    obtain ⟨m, hmm⟩ := Int.eq_ofNat_of_zero_le (show 0 ≤ -v by omega)
    obtain rfl : v = -(m : Int) := by omega
    exact rdouble_neg m N w (by omega) (by omega) (by rw [← hn]; simp) hm
  · have hs : sgn v = 0 := by unfold sgn; rw [if_neg h]
    have e : D v = mag v 52 1023 := by unfold D; rw [hs]; omega
    rw [e]
    generalize mag v 52 1023 = N at *
    obtain ⟨m, rfl⟩ := Int.eq_ofNat_of_zero_le (show 0 ≤ v by omega)
    exact rdouble_pos m N w (by omega) (by rw [← hn]; simp)
theorem rfloat_any (v : Int) (w : World) (h1 : -9223372036854775808 ≤ v) (h2 : v ≤ 9223372036854775807) :
    Calls Try.prog 13 #[.int .i64 v] w fun e w' => e = .returned (.int .u32 (Fl v : Nat)) ∧ ∃ q, w' = w.drewN q := by
  have hm := mag_lt31 v h1 h2
  have hn := near0_mag v 23 127
  by_cases h : v < 0
  · have hs : sgn v = 1 := by unfold sgn; rw [if_pos h]
    have e : Fl v = 2147483648 + mag v 23 127 := by unfold Fl; rw [hs]
    rw [e]
    generalize mag v 23 127 = N at *
    obtain ⟨m, hmm⟩ := Int.eq_ofNat_of_zero_le (show 0 ≤ -v by omega)
    obtain rfl : v = -(m : Int) := by omega
    exact rfloat_neg m N w (by omega) (by omega) (by rw [← hn]; simp) (by omega)
  · have hs : sgn v = 0 := by unfold sgn; rw [if_neg h]
    have e : Fl v = mag v 23 127 := by unfold Fl; rw [hs]; omega
    rw [e]
    generalize mag v 23 127 = N at *
    obtain ⟨m, rfl⟩ := Int.eq_ofNat_of_zero_le (show 0 ≤ v by omega)
    exact rfloat_pos m N w (by omega) (by rw [← hn]; simp) (by omega)

theorem low_whole2 (m t : Nat) (h : 8388608 ≤ m * 2 ^ (23 - t) ∧ m * 2 ^ (23 - t) < 16777216) (ht : t ≤ 22) :
    IntKind.u64.wrap (IntKind.u64.wrap ((m : Int) * 2 ^ (52 - t)) - 4503599627370496) = (((m * 2 ^ (23 - t) - 8388608) * 536870912 : Nat) : Int) := by
  have e : (m : Int) * 2 ^ (52 - t) = ((m * 2 ^ (23 - t) * 536870912 : Nat) : Int) := by
    rw [show m * 2 ^ (23 - t) * 536870912 = m * 2 ^ (52 - t) by rw [show 52 - t = (23 - t) + 29 by omega, Nat.pow_add, ← Nat.mul_assoc]]; simp
  rw [e]
  generalize m * 2 ^ (23 - t) = q at *
  rw [wrapN _ (by omega), show ((q * 536870912 : Nat) : Int) - 4503599627370496 = (((q - 8388608) * 536870912 : Nat) : Int) by omega, wrapN _ (by omega)]
set_option maxHeartbeats 1000000 in
theorem rwiden_parts (f s e m : Nat) (w : World) (hf : (f : Int) ≤ 4294967295) (hE : bits .and .u32 ((f : Int) / 8388608) 255 = (e : Int)) (hM : bits .and .u32 (f : Int) 8388607 = (m : Int)) (hS : (f : Int) / 2147483648 = (s : Int)) (hs : s ≤ 1) (he : e ≤ 255) (hm : m ≤ 8388607) :
    Calls Try.prog 15 #[.int .u32 (f : Int)] w fun e' w' => e' = .returned (.int .u64 (s * 9223372036854775808 + wm (e * 8388608 + m) : Nat)) ∧ w = w' := by
  have q1 : (e * 8388608 + m) / 8388608 = e := by omega
  have q2 : (e * 8388608 + m) % 8388608 = m := by omega
  by_cases h1 : e = 255
  · have hw : wm (e * 8388608 + m) = 2047 * 4503599627370496 + m * 536870912 := by unfold wm; rw [q1, q2, if_pos h1]
    rw [hw]
    have HB := Lib.hid (or3 s 2047 m _ 9218868437227405312 _ rfl rfl rfl hs (by decide) (by omega))
    subst h1
    clear hw q1 q2
    go_enter Try.func15, Try.ntmps15
    go_wp2_with fail
    go_ret
    exact ⟨ret_int HB.out, rfl⟩
  · have b1 : ((e : Int) == 255) = false := by rw [beq_eq_false_iff_ne]; omega
    by_cases h2 : e = 0
    · by_cases h3 : m = 0
      · have hw : wm (e * 8388608 + m) = 0 := by subst h2; subst h3; rfl
        rw [hw]
        subst h2
        subst h3
        clear hw q1 q2
        go_enter Try.func15, Try.ntmps15
        go_wp2_with fail
        go_ret
        exact ⟨ret_int (by omega), rfl⟩
      · have b3 : ((m : Int) == 0) = false := by rw [beq_eq_false_iff_ne]; omega
        obtain ⟨t, ht⟩ : ∃ t, t = Nat.log2 m := ⟨_, rfl⟩
        have hbl : bitLen m = t + 1 := by unfold bitLen; rw [if_neg h3, ht]
        have hL := bitLen23 m h3 (by omega)
        have hg := bitLen_ge m h3
        rw [hbl] at hg hL
        have hw : wm (e * 8388608 + m) = (t + 874) * 4503599627370496 + (m * 2 ^ (23 - t) - 8388608) * 536870912 := by
          have e1 := wm_small m h3 (by omega)
          rw [hbl, show 24 - (t + 1) = 23 - t by omega] at e1
          rw [show e * 8388608 + m = m by omega, e1]; omega
        rw [hw]
        have hts := top_shift m (t + 1) hg.1 hg.2.1 hL.1 hL.2
        rw [show 24 - (t + 1) = 23 - t by omega] at hts
        have HB := Lib.hid (or3 s (t + 874) (m * 2 ^ (23 - t) - 8388608) _ (((t : Int) - 149 + 1023) * 4503599627370496) _ rfl (by omega) (low_whole2 m t hts (by omega)) hs (by omega) (by omega))
        have ht2 : t ≤ 22 := by omega
        have HT := Lib.hid ht
        have H0 := Lib.hid h3
        clear ht h3 hbl hL hg hw hts q1 q2
        subst h2
        go_enter Try.func15, Try.ntmps15
        go_wp2_with fail
        go_loop [6] (fun i => ∃ e : Nat, t ≤ e ∧ e ≤ 22 ∧ i = .int .i64 e) (fun i => (intOf i).toNat)
        case atStart => exact ⟨22, by omega, by omega, rfl⟩
        case round =>
          obtain ⟨e, he, he2, rfl⟩ := hrel
          by_cases hlt : t < e
          · have hs := shr_none m t e HT.out hlt
            go_wp2_with fail
            go_round
            case rel => exact ⟨e - 1, by omega, by omega, by congr 1; omega⟩
            case measure => simp [intOf]; omega
          · obtain rfl : e = t := by omega
            have hs := shr_some m e HT.out H0.out
            go_wp2_with fail
            go_ret
            exact ⟨ret_int HB.out, rfl⟩
    · have b2 : ((e : Int) == 0) = false := by rw [beq_eq_false_iff_ne]; omega
      have hw : wm (e * 8388608 + m) = (e + 896) * 4503599627370496 + m * 536870912 := by unfold wm; rw [q1, q2, if_neg h1, if_pos h2]
      rw [hw]
      have HB := Lib.hid (or3 s (e + 896) m _ (((e : Int) - 127 + 1023) * 4503599627370496) _ rfl (by omega) rfl hs (by omega) (by omega))
      have he1 : 1 ≤ (e : Int) := by omega
      clear hw q1 q2
      go_enter Try.func15, Try.ntmps15
      go_wp2_with fail
      go_ret
      exact ⟨ret_int HB.out, rfl⟩
theorem rwiden_any (f : Nat) (w : World) (hf : f < 4294967296) :
    Calls Try.prog 15 #[.int .u32 (f : Int)] w fun e' w' => e' = .returned (.int .u64 (wd f : Nat)) ∧ w = w' := by
  have h := rwiden_parts f (f / 2147483648) (f / 8388608 % 256) (f % 8388608) w (by omega) (e_exp f hf) (e_frac f hf) (by omega) (by omega) (by omega) (by omega)
  have e : f / 8388608 % 256 * 8388608 + f % 8388608 = f % 2147483648 := by omega
  rw [e] at h
  exact h
set_option maxHeartbeats 1000000 in
theorem floats_law (v : Int) (f A B C : Nat) (w : World) (h1 : -9223372036854775808 ≤ v) (h2 : v ≤ 9223372036854775807) (hf : f < 4294967296) (hA : D v = A) (hB : Fl v = B) (hC : wd f = C) :
    Calls Try.prog 3 #[.int .i64 v, .int .u32 (f : Int)] w fun e w' => e = .returned (.bool true) ∧ ∃ q, w' = w.drewN q := by
  have c1 : ∀ w, Calls Try.prog 10 #[.int .i64 v] w fun e w' => e = .returned (.int .u64 (A : Int)) ∧ w = w' := fun w => dbl_val v A w h1 h2 (by rw [hA])
  have c2 : ∀ w, Calls Try.prog 11 #[.int .i64 v] w fun e w' => e = .returned (.int .u64 (A : Int)) ∧ ∃ q, w' = w.drewN q := fun w => by have := rdouble_any v w h1 h2; rw [hA] at this; exact this
  have c3 : ∀ w, Calls Try.prog 12 #[.int .i64 v] w fun e w' => e = .returned (.int .u32 (B : Int)) ∧ w = w' := fun w => flt_val v B w h1 h2 (by rw [hB])
  have c4 : ∀ w, Calls Try.prog 13 #[.int .i64 v] w fun e w' => e = .returned (.int .u32 (B : Int)) ∧ ∃ q, w' = w.drewN q := fun w => by have := rfloat_any v w h1 h2; rw [hB] at this; exact this
  have c5 : ∀ w, Calls Try.prog 14 #[.int .u32 (f : Int)] w fun e w' => e = .returned (.int .u64 (C : Int)) ∧ w = w' := fun w => wid_val f C w hf (by rw [hC])
  have c6 : ∀ w, Calls Try.prog 15 #[.int .u32 (f : Int)] w fun e w' => e = .returned (.int .u64 (C : Int)) ∧ w = w' := fun w => by have := rwiden_any f w hf; rw [hC] at this; exact this
  have C1 := Lib.hid c1
  have C2 := Lib.hid c2
  have C3 := Lib.hid c3
  have C4 := Lib.hid c4
  have C5 := Lib.hid c5
  have C6 := Lib.hid c6
  clear c1 c2 c3 c4 c5 c6 hA hB hC h1 h2 hf
  go_enter Try.func3, Try.ntmps3
  go_wp2_with fail
  refine (begun_any _).mono ?_; rintro e w' ⟨rfl, rfl⟩
  go_wp2_with fail
  refine (C1.out _).mono ?_; rintro e w' ⟨rfl, rfl⟩
  go_wp2_with fail
  refine (C2.out _).mono ?_; rintro e w' ⟨rfl, n1, rfl⟩
  go_wp2_with fail
  refine (C3.out _).mono ?_; rintro e w' ⟨rfl, rfl⟩
  go_wp2_with fail
  refine (C4.out _).mono ?_; rintro e w' ⟨rfl, n2, rfl⟩
  go_wp2_with fail
  refine (C5.out _).mono ?_; rintro e w' ⟨rfl, rfl⟩
  go_wp2_with fail
  refine (C6.out _).mono ?_; rintro e w' ⟨rfl, rfl⟩
  go_wp2_with fail
  go_ret
  exact ⟨rfl, _, rfl⟩
theorem floats_law_wf (a0 a1 : Int) (w : World) (h0 : (Lit.int .i64 a0).wf = true) (h1 : (Lit.int .u32 a1).wf = true) :
    Calls Try.prog 3 #[.int .i64 a0, .int .u32 a1] w fun e w' => e = .returned (.bool true) ∧ Below w.heap.size w w' := by
  have hb := bounds_i64 h0
  have hc := u32_lt h1
  obtain ⟨m, rfl⟩ := Int.eq_ofNat_of_zero_le hc.1
  refine (floats_law a0 m _ _ _ w (by omega) (by omega) (by omega) rfl rfl rfl).mono fun e w' ⟨he, q, hw⟩ => ⟨he, ?_⟩
  rw [hw]
  exact below_drewN (Below.refl _ _) q
end Cast
end Go.Proofs.Ytojpknhajifkbaa
