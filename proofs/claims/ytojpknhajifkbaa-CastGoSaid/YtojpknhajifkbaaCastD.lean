/-
  The law CastGo at odd numbers.
-/
import Derived.Test.YtojpknhajifkbaaCastC
namespace Go.Proofs.Ytojpknhajifkbaa
open Go.ChangeShapes Go.WideShapes Go.ChangeAt Go.RowKit
namespace Cast
set_option maxHeartbeats 2000000 in
theorem go_odd (r : Nat) (w : World) (hr : (r : Int) ≤ 18446744073709551615) (ho : r % 2 = 1) :
    Calls Try.prog 5 #[.int .u64 (r : Int)] w fun e w' => e = .returned (.bool true) ∧ w = w' := by
  have e32 : ((r % 4294967296 : Nat) : Int) = (r : Int) % 4294967296 := by omega
  have o1 := odd_of r (by omega) ho
  have o2 := odd_of (r % 4294967296) (by omega) (by omega)
  rw [e32] at o2
  have z1 := Lib.hid (v_odd r (by omega) ho)
  have z2 := v_odd (r % 4294967296) (by omega) (by omega)
  rw [e32] at z2
  have Z2 := Lib.hid z2
  have nz : ((r : Int) != 0) = true := by rw [bne_iff_ne]; omega
  have hp : 0 < r := by omega
  clear z2 e32 ho
  go_enter Try.func5, Try.ntmps5
  go_wp2_with fail
  refine (begun_any _).mono ?_; rintro e w' ⟨rfl, rfl⟩
  go_wp2_with fail
  refine (from_sg 3 r _ hr (by omega)).mono ?_; rintro e w' ⟨rfl, rfl⟩
  go_wp2_with fail
  refine (from_sg 17 r _ hr (by omega)).mono ?_; rintro e w' ⟨rfl, rfl⟩
  go_wp2_with fail
  refine (from_sg 11 r _ hr (by omega)).mono ?_; rintro e w' ⟨rfl, rfl⟩
  go_wp2_with fail
  refine (from_low 5 r _ hr (by omega)).mono ?_; rintro e w' ⟨rfl, rfl⟩
  go_wp2_with fail
  refine (from_low 9 r _ hr (by omega)).mono ?_; rintro e w' ⟨rfl, rfl⟩
  go_wp2_with fail
  refine (from_same 4 r _ hr (by omega)).mono ?_; rintro e w' ⟨rfl, rfl⟩
  go_wp2_with fail
  refine (from_same 6 r _ hr (by omega)).mono ?_; rintro e w' ⟨rfl, rfl⟩
  go_wp2_with fail
  refine (from_z64 r _ _ hr z1.out).mono ?_; rintro e w' ⟨rfl, rfl⟩
  go_wp2_with fail
  refine (from_z32 r _ _ hr Z2.out).mono ?_; rintro e w' ⟨rfl, rfl⟩
  go_wp2_with fail
  refine (from_tr r _ hr hp).mono ?_; rintro e w' ⟨rfl, rfl⟩
  go_wp2_with fail
  go_ret
  exact ⟨rfl, rfl⟩
end Cast
end Go.Proofs.Ytojpknhajifkbaa
