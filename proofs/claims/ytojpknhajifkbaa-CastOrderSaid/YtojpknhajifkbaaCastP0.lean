/-
  The law CastOrder: numbers of at most 53 bits.
-/
import Derived.Test.YtojpknhajifkbaaCastP
import Derived.Deep.QuietTactic
import Derived.BigQuiet
import Derived.WalkSmall
namespace Go.Proofs.Ytojpknhajifkbaa
open Go.ChangeShapes Go.WideShapes Go.ChangeAt Go.RowKit
namespace Cast
set_option linter.unusedVariables false

set_option maxRecDepth 100000 in
set_option maxHeartbeats 2000000 in
theorem order_s0 (a b x y n P Q R S Q2 : Nat) (w : World) (hA : (a : Int) / 2 = (x : Int)) (hB : (b : Int) / 2 = (y : Int)) (ha : (a : Int) ≤ 18446744073709551615) (hb : (b : Int) ≤ 18446744073709551615) (hxy : x ≤ y) (hy : (y : Int) ≤ 9223372036854775807) (hn : n = bitLen y) (hn2 : n ≤ 53)
    (hP : ((D (x : Int) : Nat) : Int) = P) (hQ : ((D (y : Int) : Nat) : Int) = Q) (hR : ((Fl (x : Int) : Nat) : Int) = R) (hS : ((Fl (y : Int) : Nat) : Int) = S) (hQ2 : ((D ((y : Int) - (y : Int) % 2) : Nat) : Int) = Q2) (hPQ : P ≤ Q) (hRS : R ≤ S) (hq : Q = Q2 + stp y n) (hql : (Q : Int) ≤ 9223372036854775807) (hpos : y % 2 = 1 → 1 ≤ n) :
    Calls Try.prog 7 #[.int .u64 (a : Int), .int .u64 (b : Int)] w fun e w' => e = .returned (.bool true) ∧ w = w' := by
  have HP := Lib.hid hP
  have HQ := Lib.hid hQ
  have HR := Lib.hid hR
  have HS := Lib.hid hS
  have HQ2 := Lib.hid hQ2
  have HN := Lib.hid hn
  have hx0 : (x : Int) ≤ 9223372036854775807 := by omega
  have HE := Lib.hid (show (IntKind.u64.wrap ((Q2 : Int) + (stp y n : Nat))) = (Q : Int) by rw [hq, show (Q2 : Int) + (stp y n : Nat) = ((Q2 + stp y n : Nat) : Int) from rfl, wrapN _ (by omega)])
  have HPos := Lib.hid hpos
  clear hP hQ hR hS hQ2 hn hq hpos
  go_enter Try.func7, Try.ntmps7
  go_wp2_with fail
  refine (begun_any _).mono ?_; rintro e w' ⟨rfl, rfl⟩
  go_wp2_with fail
  refine (dbl_val (x : Int) P _ (by omega) (by omega) HP.out).mono ?_; rintro e w' ⟨rfl, rfl⟩
  go_wp2_with fail
  refine (dbl_val (y : Int) Q _ (by omega) (by omega) HQ.out).mono ?_; rintro e w' ⟨rfl, rfl⟩
  go_wp2_with fail
  refine (flt_val (x : Int) R _ (by omega) (by omega) HR.out).mono ?_; rintro e w' ⟨rfl, rfl⟩
  go_wp2_with fail
  refine (flt_val (y : Int) S _ (by omega) (by omega) HS.out).mono ?_; rintro e w' ⟨rfl, rfl⟩
  go_wp2_with fail
  go_loop [7] (fun i => ∃ e : Nat, e ≤ n ∧ i = .int .i64 e) (fun i => n - (intOf i).toNat)
  case atStart => exact ⟨0, Nat.zero_le _, rfl⟩
  case round =>
    obtain ⟨e, he, rfl⟩ := hrel
    by_cases hlt : e < n
    · have hs := shr_pos y n e HN.out hlt
      go_wp2_with fail
      go_round
      case rel => exact ⟨e + 1, by omega, by go_num⟩
      case measure => simp [intOf]; omega
    · obtain rfl : e = n := by omega
      have hs := shr_nil y e HN.out
      go_wp2_with fail
      refine (dbl_val (y : Int) Q _ (by omega) (by omega) HQ.out).mono ?_; rintro e w' ⟨rfl, rfl⟩
      go_wp2_with fail
      refine (dbl_val ((y : Int) - (y : Int) % 2) Q2 _ (by omega) (by omega) HQ2.out).mono ?_; rintro e w' ⟨rfl, rfl⟩
      go_wp2_with fail
      refine (step_any y e _ hy hn2 HPos.out).mono ?_; rintro e w' ⟨rfl, rfl⟩
      go_wp2_with fail
      go_ret
      exact ⟨ret_bool (by rw [HE.out]; simp), rfl⟩
set_option maxRecDepth 100000 in
set_option maxHeartbeats 2000000 in
theorem order_s1 (a b x y n P Q R S Q2 : Nat) (w : World) (hA : (a : Int) / 2 = (y : Int)) (hB : (b : Int) / 2 = (x : Int)) (ha : (a : Int) ≤ 18446744073709551615) (hb : (b : Int) ≤ 18446744073709551615) (hxy : x < y) (hy : (y : Int) ≤ 9223372036854775807) (hn : n = bitLen y) (hn2 : n ≤ 53)
    (hP : ((D (x : Int) : Nat) : Int) = P) (hQ : ((D (y : Int) : Nat) : Int) = Q) (hR : ((Fl (x : Int) : Nat) : Int) = R) (hS : ((Fl (y : Int) : Nat) : Int) = S) (hQ2 : ((D ((y : Int) - (y : Int) % 2) : Nat) : Int) = Q2) (hPQ : P ≤ Q) (hRS : R ≤ S) (hq : Q = Q2 + stp y n) (hql : (Q : Int) ≤ 9223372036854775807) (hpos : y % 2 = 1 → 1 ≤ n) :
    Calls Try.prog 7 #[.int .u64 (a : Int), .int .u64 (b : Int)] w fun e w' => e = .returned (.bool true) ∧ w = w' := by
  have HP := Lib.hid hP
  have HQ := Lib.hid hQ
  have HR := Lib.hid hR
  have HS := Lib.hid hS
  have HQ2 := Lib.hid hQ2
  have HN := Lib.hid hn
  have hx0 : (x : Int) ≤ 9223372036854775807 := by omega
  have HE := Lib.hid (show (IntKind.u64.wrap ((Q2 : Int) + (stp y n : Nat))) = (Q : Int) by rw [hq, show (Q2 : Int) + (stp y n : Nat) = ((Q2 + stp y n : Nat) : Int) from rfl, wrapN _ (by omega)])
  have HPos := Lib.hid hpos
  clear hP hQ hR hS hQ2 hn hq hpos
  go_enter Try.func7, Try.ntmps7
  go_wp2_with fail
  refine (begun_any _).mono ?_; rintro e w' ⟨rfl, rfl⟩
  go_wp2_with fail
  refine (dbl_val (x : Int) P _ (by omega) (by omega) HP.out).mono ?_; rintro e w' ⟨rfl, rfl⟩
  go_wp2_with fail
  refine (dbl_val (y : Int) Q _ (by omega) (by omega) HQ.out).mono ?_; rintro e w' ⟨rfl, rfl⟩
  go_wp2_with fail
  refine (flt_val (x : Int) R _ (by omega) (by omega) HR.out).mono ?_; rintro e w' ⟨rfl, rfl⟩
  go_wp2_with fail
  refine (flt_val (y : Int) S _ (by omega) (by omega) HS.out).mono ?_; rintro e w' ⟨rfl, rfl⟩
  go_wp2_with fail
  go_loop [7] (fun i => ∃ e : Nat, e ≤ n ∧ i = .int .i64 e) (fun i => n - (intOf i).toNat)
  case atStart => exact ⟨0, Nat.zero_le _, rfl⟩
  case round =>
    obtain ⟨e, he, rfl⟩ := hrel
    by_cases hlt : e < n
    · have hs := shr_pos y n e HN.out hlt
      go_wp2_with fail
      go_round
      case rel => exact ⟨e + 1, by omega, by go_num⟩
      case measure => simp [intOf]; omega
    · obtain rfl : e = n := by omega
      have hs := shr_nil y e HN.out
      go_wp2_with fail
      refine (dbl_val (y : Int) Q _ (by omega) (by omega) HQ.out).mono ?_; rintro e w' ⟨rfl, rfl⟩
      go_wp2_with fail
      refine (dbl_val ((y : Int) - (y : Int) % 2) Q2 _ (by omega) (by omega) HQ2.out).mono ?_; rintro e w' ⟨rfl, rfl⟩
      go_wp2_with fail
      refine (step_any y e _ hy hn2 HPos.out).mono ?_; rintro e w' ⟨rfl, rfl⟩
      go_wp2_with fail
      go_ret
      exact ⟨ret_bool (by rw [HE.out]; simp), rfl⟩
end Cast
end Go.Proofs.Ytojpknhajifkbaa
