/-
  The law CastGo: at nought, and all together.
-/
import Derived.Test.YtojpknhajifkbaaCastD
import Derived.Test.YtojpknhajifkbaaCastE
namespace Go.Proofs.Ytojpknhajifkbaa
open Go.ChangeShapes Go.WideShapes Go.ChangeAt Go.RowKit
namespace Cast
theorem from_zero (k : Nat) (w : World) (hk : k ≤ 17) (h : frm k 0 = 0) :
    Calls Try.prog 18 #[.int .i64 (k : Int), .int .u64 0] w fun e w' => e = .returned (.int .u64 0) ∧ w = w' := by
  refine (from_any k 0 w hk (by omega)).mono fun e w' ⟨he, hw⟩ => ⟨?_, hw⟩
  rw [he, h]; rfl
set_option maxHeartbeats 2000000 in
theorem go_zero (w : World) :
    Calls Try.prog 5 #[.int .u64 0] w fun e w' => e = .returned (.bool true) ∧ w = w' := by
  have o1 : (bits .and .u64 0 1 == 1) = false := by decide
  go_enter Try.func5, Try.ntmps5
  go_wp2_with fail
  refine (begun_any _).mono ?_; rintro e w' ⟨rfl, rfl⟩
  go_wp2_with fail
  refine (from_zero 3 _ (by omega) (by decide)).mono ?_; rintro e w' ⟨rfl, rfl⟩
  go_wp2_with fail
  refine (from_zero 17 _ (by omega) (by decide)).mono ?_; rintro e w' ⟨rfl, rfl⟩
  go_wp2_with fail
  refine (from_zero 11 _ (by omega) (by decide)).mono ?_; rintro e w' ⟨rfl, rfl⟩
  go_wp2_with fail
  refine (from_zero 5 _ (by omega) (by decide)).mono ?_; rintro e w' ⟨rfl, rfl⟩
  go_wp2_with fail
  refine (from_zero 9 _ (by omega) (by decide)).mono ?_; rintro e w' ⟨rfl, rfl⟩
  go_wp2_with fail
  refine (from_zero 4 _ (by omega) (by decide)).mono ?_; rintro e w' ⟨rfl, rfl⟩
  go_wp2_with fail
  refine (from_zero 6 _ (by omega) (by decide)).mono ?_; rintro e w' ⟨rfl, rfl⟩
  go_wp2_with fail
  refine (from_zero 8 _ (by omega) (by decide)).mono ?_; rintro e w' ⟨rfl, rfl⟩
  go_wp2_with fail
  refine (from_zero 7 _ (by omega) (by decide)).mono ?_; rintro e w' ⟨rfl, rfl⟩
  go_wp2_with fail
  refine (from_tr0 _).mono ?_; rintro e w' ⟨rfl, rfl⟩
  go_wp2_with fail
  go_ret
  exact ⟨rfl, rfl⟩
theorem go_law_wf (a0 : Int) (w : World) (h : (Lit.int .u64 a0).wf = true) :
    Calls Try.prog 5 #[.int .u64 a0] w fun e w' => e = .returned (.bool true) ∧ Below w.heap.size w w' := by
  have hb := u64_lt h
  obtain ⟨n, rfl⟩ := Int.eq_ofNat_of_zero_le hb.1
  have go : Calls Try.prog 5 #[.int .u64 (n : Int)] w fun e w' => e = .returned (.bool true) ∧ w = w' := by
    by_cases h0 : n = 0
    · subst h0; exact go_zero w
    · by_cases ho : n % 2 = 1
      · exact go_odd n w (by omega) ho
      · exact go_even n w (by omega) (by omega) (by omega)
  refine go.mono fun e w' ⟨he, hw⟩ => ⟨he, ?_⟩
  rw [← hw]; exact Below.refl _ _
end Cast
end Go.Proofs.Ytojpknhajifkbaa
