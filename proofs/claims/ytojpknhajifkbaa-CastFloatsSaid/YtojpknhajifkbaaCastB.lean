/-
  Package cast: which numbers fit, on which wire; the test 'begun' ahead of each law; two laws.
-/
import Derived.Test.YtojpknhajifkbaaCast
namespace Go.Proofs.Ytojpknhajifkbaa
open Go.ChangeShapes Go.WideShapes Go.ChangeAt Go.RowKit
namespace Cast

def wir (k : Nat) : Int := if k = 1 ∨ k = 10 ∨ k = 12 then 1 else if k = 2 ∨ k = 9 ∨ k = 11 then 5 else if k = 14 ∨ k = 15 ∨ k = 16 then 2 else if k = 0 then -1 else 0
def fit (k n : Nat) : Bool :=
  if k = 3 ∨ k = 7 ∨ k = 11 ∨ k = 17 then n == sg (n % 4294967296) else if k = 5 ∨ k = 9 ∨ k = 2 then decide (n < 4294967296) else if k = 13 then decide (n ≤ 1)
  else if k = 4 ∨ k = 8 ∨ k = 12 ∨ k = 6 ∨ k = 10 ∨ k = 1 then true else false

set_option maxHeartbeats 1000000 in
theorem wire_any (k : Nat) (w : World) (hk : k ≤ 17) :
    Calls Try.prog 16 #[.int .i64 (k : Int)] w fun e w' => e = .returned (.int .i64 (wir k)) ∧ w = w' := by
  rcases (show k = 0 ∨ k = 1 ∨ k = 2 ∨ k = 3 ∨ k = 4 ∨ k = 5 ∨ k = 6 ∨ k = 7 ∨ k = 8 ∨ k = 9 ∨ k = 10 ∨ k = 11 ∨ k = 12 ∨ k = 13 ∨ k = 14 ∨ k = 15 ∨ k = 16 ∨ k = 17 by omega) with rfl | rfl | rfl | rfl | rfl | rfl | rfl | rfl | rfl | rfl | rfl | rfl | rfl | rfl | rfl | rfl | rfl | rfl
  all_goals
    go_enter Try.func16, Try.ntmps16
    go_wp2
    go_ret
  all_goals exact ⟨rfl, rfl⟩

theorem ret_bool {a b : Bool} (h : a = b) : Ending.returned (.bool a) = .returned (.bool b) := by rw [h]
theorem eqn (a b : Nat) : ((a : Int) == (b : Int)) = (a == b) := by
  rw [Bool.eq_iff_iff, beq_iff_eq, beq_iff_eq]; omega
theorem fit_hi (n : Nat) : ((n : Int) / 4294967296 == 0) = decide (n < 4294967296) := by
  rw [Bool.eq_iff_iff, beq_iff_eq, decide_eq_true_iff]; omega
theorem fit_one (n : Nat) : decide ((n : Int) ≤ 1) = decide (n ≤ 1) := by
  rw [Bool.eq_iff_iff, decide_eq_true_iff, decide_eq_true_iff]; omega
set_option maxHeartbeats 1000000 in
theorem fits_any (k : Nat) (r : Nat) (w : World) (hk : k ≤ 17) (hr : (r : Int) ≤ 18446744073709551615) :
    Calls Try.prog 17 #[.int .i64 (k : Int), .int .u64 (r : Int)] w fun e w' => e = .returned (.bool (fit k r)) ∧ w = w' := by
  have hl0 := low32_lo (r : Int)
  have hl1 := low32_hi (r : Int)
  rcases (show k = 0 ∨ k = 1 ∨ k = 2 ∨ k = 3 ∨ k = 4 ∨ k = 5 ∨ k = 6 ∨ k = 7 ∨ k = 8 ∨ k = 9 ∨ k = 10 ∨ k = 11 ∨ k = 12 ∨ k = 13 ∨ k = 14 ∨ k = 15 ∨ k = 16 ∨ k = 17 by omega) with rfl | rfl | rfl | rfl | rfl | rfl | rfl | rfl | rfl | rfl | rfl | rfl | rfl | rfl | rfl | rfl | rfl | rfl
  all_goals
    go_enter Try.func17, Try.ntmps17
    go_wp2_with (go_at_call 24; refine (signed_any _ _ (by first | assumption | exact low32_lo _) (by first | assumption | exact low32_hi _)).mono ?_; rintro e w' ⟨rfl, rfl⟩)
    go_ret
  all_goals (refine ⟨ret_bool ?_, rfl⟩)
  all_goals first
    | (simp [fit]; done)
    | (simp [fit, eqn]; done)
    | (simp [fit]; omega)
    | (simp [fit, fit_hi]; done)
set_option maxRecDepth 100000 in
set_option maxHeartbeats 1000000 in
theorem len_one (w : World) : Calls Try.prog 23 #[.int .u64 1] w fun e w' => e = .returned (.int .i64 1) ∧ w = w' := by
  go_enter Try.func23, Try.ntmps23
  go_wp2
  go_ret
  exact ⟨ret_int (by decide +kernel), rfl⟩
set_option maxHeartbeats 1000000 in
theorem near_one (f b : Nat) (w : World) (h : f = 52 ∧ b = 1023 ∨ f = 23 ∧ b = 127) : Calls Try.prog 21 #[.int .i64 1, .int .i64 (f : Int), .int .i64 (b : Int)] w fun e w' => e = .returned (.int .u64 (b * 2 ^ f : Nat)) ∧ w = w' := by
  rcases h with ⟨rfl, rfl⟩ | ⟨rfl, rfl⟩
  all_goals
    go_enter Try.func21, Try.ntmps21
    go_wp2_with (go_at_call 23; refine (len_one _).mono ?_; rintro e w' ⟨rfl, rfl⟩)
    go_ret
  all_goals exact ⟨ret_int (by decide +kernel), rfl⟩
set_option maxHeartbeats 1000000 in
theorem double_one (w : World) : Calls Try.prog 10 #[.int .i64 1] w fun e w' => e = .returned (.int .u64 4607182418800017408) ∧ w = w' := by
  go_enter Try.func10, Try.ntmps10
  go_wp2_with (go_at_call 21; refine (near_one 52 1023 _ (by omega)).mono ?_; rintro e w' ⟨rfl, rfl⟩)
  go_ret
  exact ⟨ret_int (by decide +kernel), rfl⟩
set_option maxHeartbeats 1000000 in
theorem float_one (w : World) : Calls Try.prog 12 #[.int .i64 1] w fun e w' => e = .returned (.int .u32 1065353216) ∧ w = w' := by
  go_enter Try.func12, Try.ntmps12
  go_wp2_with (go_at_call 21; refine (near_one 23 127 _ (by omega)).mono ?_; rintro e w' ⟨rfl, rfl⟩)
  go_ret
  exact ⟨ret_int (by decide +kernel), rfl⟩
set_option maxHeartbeats 1000000 in
theorem widen_one (w : World) : Calls Try.prog 14 #[.int .u32 1065353216] w fun e w' => e = .returned (.int .u64 4607182418800017408) ∧ w = w' := by
  go_enter Try.func14, Try.ntmps14
  go_wp2
  go_ret
  exact ⟨ret_int (by decide +kernel), rfl⟩
end Cast
end Go.Proofs.Ytojpknhajifkbaa
