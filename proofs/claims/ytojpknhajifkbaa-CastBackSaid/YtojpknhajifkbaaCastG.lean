/-
  The law CastBack: what is read fits, and is written and read as itself.
-/
import Derived.Test.YtojpknhajifkbaaCastC
namespace Go.Proofs.Ytojpknhajifkbaa
open Go.ChangeShapes Go.WideShapes Go.ChangeAt Go.RowKit
namespace Cast

theorem cases17 (k : Nat) (h1 : 1 ≤ k) (h : k ≤ 17) : k = 1 ∨ k = 2 ∨ k = 3 ∨ k = 4 ∨ k = 5 ∨ k = 6 ∨ k = 7 ∨ k = 8 ∨ k = 9 ∨ k = 10 ∨ k = 11 ∨ k = 12 ∨ k = 13 ∨ k = 14 ∨ k = 15 ∨ k = 16 ∨ k = 17 := by omega
theorem sg_low (l : Nat) (h : l < 4294967296) : sg l % 4294967296 = l := by unfold sg; split <;> omega
theorem uz_zg (n : Nat) (h : n < 18446744073709551616) : uz (zg n) = n := by
  unfold uz zg
  split <;> split <;> omega
theorem back32 (l : Nat) (h : l < 4294967296) : uz (zg (sg l) % 4294967296) % 4294967296 = l := by
  unfold uz zg sg
  repeat' split
  all_goals omega
theorem fit_from (k r : Nat) (h1 : 1 ≤ k) (hk : k ≤ 17) (hw : wir k ≠ 2) : fit k (frm k r) = true := by
  rcases cases17 k h1 hk with rfl | rfl | rfl | rfl | rfl | rfl | rfl | rfl | rfl | rfl | rfl | rfl | rfl | rfl | rfl | rfl | rfl
  all_goals first
    | rfl
    | exact absurd rfl hw
    | (show (sg (r % 4294967296) == sg (sg (r % 4294967296) % 4294967296)) = true; rw [sg_low _ (by omega)]; simp; done)
    | (show decide (r % 4294967296 < 4294967296) = true; simp; omega)
    | (show decide (tr r ≤ 1) = true; unfold tr; split <;> decide)
    | (show (sg (uz (r % 4294967296) % 4294967296) == sg (sg (uz (r % 4294967296) % 4294967296) % 4294967296)) = true; rw [sg_low _ (by omega)]; simp; done)
theorem from_to (k r : Nat) (h1 : 1 ≤ k) (hk : k ≤ 17) (hr : r < 18446744073709551616) (hf : fit k r = true) : frm k (tow k r) = r := by
  rcases cases17 k h1 hk with rfl | rfl | rfl | rfl | rfl | rfl | rfl | rfl | rfl | rfl | rfl | rfl | rfl | rfl | rfl | rfl | rfl
  all_goals first
    | rfl
    | (have : r = sg (r % 4294967296) := by simpa [fit] using hf
       show sg (sg (r % 4294967296) % 4294967296) = r; rw [sg_low _ (by omega)]; exact this.symm)
    | (have : r = sg (r % 4294967296) := by simpa [fit] using hf
       show sg (r % 4294967296 % 4294967296) = r; rw [Nat.mod_mod]; exact this.symm)
    | (have : r < 4294967296 := by simpa [fit] using hf
       show r % 4294967296 % 4294967296 = r; omega)
    | (have : r ≤ 1 := by simpa [fit] using hf
       show tr (tr r) = r; unfold tr; split <;> split <;> omega)
    | exact uz_zg r hr
    | (have : r = sg (r % 4294967296) := by simpa [fit] using hf
       show sg (uz (zg (sg (r % 4294967296)) % 4294967296 % 4294967296) % 4294967296) = r; rw [Nat.mod_mod, back32 _ (by omega)]; exact this.symm)
    | (exact absurd hf (by decide))
theorem fit_text (k r : Nat) (h1 : 1 ≤ k) (hk : k ≤ 17) (hw : wir k = 2) : fit k r = false := by
  rcases cases17 k h1 hk with rfl | rfl | rfl | rfl | rfl | rfl | rfl | rfl | rfl | rfl | rfl | rfl | rfl | rfl | rfl | rfl | rfl
  all_goals first
    | rfl
    | exact absurd hw (by decide)
set_option maxHeartbeats 2000000 in
theorem back_law (r : Nat) (w : World) (hr : (r : Int) ≤ 18446744073709551615) :
    Calls Try.prog 4 #[.int .u64 (r : Int)] w fun e w' => e = .returned (.bool true) ∧ w = w' := by
  have HR := Lib.hid hr
  go_enter Try.func4, Try.ntmps4
  go_wp2_with (go_at_call 9; refine (begun_any _).mono ?_; rintro e w1 ⟨rfl, rfl⟩)
  go_loop [3] (fun i => ∃ k : Nat, 1 ≤ k ∧ k ≤ 18 ∧ i = .int .i64 k) (fun i => 18 - (intOf i).toNat)
  case atStart => exact ⟨1, by omega, by omega, rfl⟩
  case round =>
    obtain ⟨k, hk1, hk, rfl⟩ := hrel
    by_cases hlt : k ≤ 17
    · by_cases hw : wir k = 2
      · have hwb : (wir k == 2) = true := by rw [beq_iff_eq]; exact hw
        have HF := Lib.hid (fit_text k r hk1 hlt hw)
        clear hw
        go_wp2_with fail
        refine (wire_any k _ hlt).mono ?_; rintro e w' ⟨rfl, rfl⟩
        go_wp2_with fail
        refine (fits_any k r _ hlt HR.out).mono ?_; rintro e w' ⟨rfl, rfl⟩
        rw [HF.out]
        go_wp2_with fail
        go_round
        case rel => exact ⟨k + 1, by omega, by omega, by go_num⟩
        case measure => simp [intOf]; omega
      · have hwb : (wir k == 2) = false := by rw [beq_eq_false_iff_ne]; exact hw
        have HF := Lib.hid (fit_from k r hk1 hlt hw)
        have HX := Lib.hid (from_to k (frm k r) hk1 hlt (frm_lt k r (by omega)) HF.out)
        have hxl : ((frm k r : Nat) : Int) ≤ 18446744073709551615 := by have := frm_lt k r (by omega); omega
        have HXL := Lib.hid hxl
        have hyl : ((tow k (frm k r) : Nat) : Int) ≤ 18446744073709551615 := by have := tow_lt k (frm k r) (frm_lt k r (by omega)); omega
        have HYL := Lib.hid hyl
        have hzl : ((tow k r : Nat) : Int) ≤ 18446744073709551615 := by have := tow_lt k r (by omega); omega
        have HZL := Lib.hid hzl
        have nx : (((frm k (tow k (frm k r)) : Nat) : Int) != ((frm k r : Nat) : Int)) = false := by rw [HX.out]; simp
        clear hw hxl hyl hzl
        go_wp2_with fail
        refine (wire_any k _ hlt).mono ?_; rintro e w' ⟨rfl, rfl⟩
        go_wp2_with fail
        refine (from_any k r _ hlt HR.out).mono ?_; rintro e w' ⟨rfl, rfl⟩
        go_wp2_with fail
        refine (fits_any k (frm k r) _ hlt HXL.out).mono ?_; rintro e w' ⟨rfl, rfl⟩
        rw [HF.out]
        go_wp2_with fail
        refine (to_any k (frm k r) _ hlt HXL.out).mono ?_; rintro e w' ⟨rfl, rfl⟩
        go_wp2_with fail
        refine (from_any k (tow k (frm k r)) _ hlt HYL.out).mono ?_; rintro e w' ⟨rfl, rfl⟩
        go_wp2_with fail
        refine (fits_any k r _ hlt HR.out).mono ?_; rintro e w' ⟨rfl, rfl⟩
        by_cases hf : fit k r = true
        · have HZ := Lib.hid (from_to k r hk1 hlt (by omega) hf)
          have ny : (((frm k (tow k r) : Nat) : Int) != (r : Int)) = false := by rw [HZ.out]; simp
          rw [hf]
          clear hf
          go_wp2_with fail
          refine (to_any k r _ hlt HR.out).mono ?_; rintro e w' ⟨rfl, rfl⟩
          go_wp2_with fail
          refine (from_any k (tow k r) _ hlt HZL.out).mono ?_; rintro e w' ⟨rfl, rfl⟩
          go_wp2_with fail
          go_round
          case rel => exact ⟨k + 1, by omega, by omega, by go_num⟩
          case measure => simp [intOf]; omega
        · have hf' : fit k r = false := by simpa using hf
          rw [hf']
          clear hf hf'
          go_wp2_with fail
          go_round
          case rel => exact ⟨k + 1, by omega, by omega, by go_num⟩
          case measure => simp [intOf]; omega
    · obtain rfl : k = 18 := by omega
      go_wp2_with fail
      go_ret
      exact ⟨rfl, rfl⟩
theorem back_law_wf (a0 : Int) (w : World) (h : (Lit.int .u64 a0).wf = true) :
    Calls Try.prog 4 #[.int .u64 a0] w fun e w' => e = .returned (.bool true) ∧ Below w.heap.size w w' := by
  have hb := u64_lt h
  obtain ⟨n, rfl⟩ := Int.eq_ofNat_of_zero_le hb.1
  refine (back_law n w (by omega)).mono fun e w' ⟨he, hw⟩ => ⟨he, ?_⟩
  rw [← hw]; exact Below.refl _ _
end Cast
end Go.Proofs.Ytojpknhajifkbaa
