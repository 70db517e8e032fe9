/-
  Package cast: the test 'begun' ahead of each law; what the law CastGo wants of From.
-/
import Derived.Test.YtojpknhajifkbaaCastB
namespace Go.Proofs.Ytojpknhajifkbaa
open Go.ChangeShapes Go.WideShapes Go.ChangeAt Go.RowKit
namespace Cast

theorem b_wire (w : World) : Calls Try.prog 16 #[.int .i64 14] w fun e w' => e = .returned (.int .i64 2) ∧ w = w' := wire_any 14 w (by decide)
theorem b_from (w : World) : Calls Try.prog 18 #[.int .i64 7, .int .u64 3] w fun e w' => e = .returned (.int .u64 18446744073709551614) ∧ w = w' := from_any 7 3 w (by decide) (by decide)
theorem b_to (w : World) : Calls Try.prog 19 #[.int .i64 7, .int .u64 18446744073709551614] w fun e w' => e = .returned (.int .u64 3) ∧ w = w' := to_any 7 18446744073709551614 w (by decide) (by decide)
theorem b_fits1 (w : World) : Calls Try.prog 17 #[.int .i64 13, .int .u64 1] w fun e w' => e = .returned (.bool true) ∧ w = w' := fits_any 13 1 w (by decide) (by decide)
theorem b_fits2 (w : World) : Calls Try.prog 17 #[.int .i64 13, .int .u64 2] w fun e w' => e = .returned (.bool false) ∧ w = w' := fits_any 13 2 w (by decide) (by decide)

set_option maxHeartbeats 1000000 in
theorem begun_any (w : World) : Calls Try.prog 9 #[] w fun e w' => e = .returned (.bool true) ∧ w = w' := by
  go_enter Try.func9, Try.ntmps9
  go_wp2_with fail
  refine (b_wire _).mono ?_; rintro e w' ⟨rfl, rfl⟩
  go_wp2_with fail
  refine (b_from _).mono ?_; rintro e w' ⟨rfl, rfl⟩
  go_wp2_with fail
  refine (b_to _).mono ?_; rintro e w' ⟨rfl, rfl⟩
  go_wp2_with fail
  refine (b_fits1 _).mono ?_; rintro e w' ⟨rfl, rfl⟩
  go_wp2_with fail
  refine (b_fits2 _).mono ?_; rintro e w' ⟨rfl, rfl⟩
  go_wp2_with fail
  refine (double_one _).mono ?_; rintro e w' ⟨rfl, rfl⟩
  go_wp2_with fail
  refine (float_one _).mono ?_; rintro e w' ⟨rfl, rfl⟩
  go_wp2_with fail
  refine (widen_one _).mono ?_; rintro e w' ⟨rfl, rfl⟩
  go_wp2_with fail
  go_ret
  exact ⟨rfl, rfl⟩

theorem u64_lt {a : Int} (h : (Lit.int .u64 a).wf = true) : 0 ≤ a ∧ a < 18446744073709551616 := by
  have := bounds_u64 h; omega

/-- What the language's own conversions say, in the walk's spelling. -/
theorem v_sg (r : Nat) : ((sg (r % 4294967296) : Nat) : Int) = IntKind.u64.wrap (wrap64 (wrap32 (r : Int))) := by
  rw [IntKind.wrap_u64]
  unfold sg
  by_cases h : r % 4294967296 < 2147483648
  · rw [if_pos h]; unfold wrap64 wrap32; omega
  · rw [if_neg h]; unfold wrap64 wrap32; omega
theorem max64 : IntKind.u64.max = ((18446744073709551615 : Nat) : Int) := by decide
theorem v_odd (r : Nat) (hr : r < 18446744073709551616) (h : r % 2 = 1) : ((uz r : Nat) : Int) = bits .xor .u64 IntKind.u64.max ((r : Int) / 2) := by
  have hd : (r : Int) / 2 = ((r / 2 : Nat) : Int) := by omega
  rw [max64, hd, u64_xor_nat _ _ (by decide) (by omega), Nat.xor_comm, xor_ones _ (by omega)]
  unfold uz
  rw [if_neg (by omega)]
theorem v_even (r : Nat) (h : r % 2 = 0) : ((uz r : Nat) : Int) = (r : Int) / 2 := by
  unfold uz
  rw [if_pos h]
  omega
theorem from_sg (k r : Nat) (w : World) (hr : (r : Int) ≤ 18446744073709551615) (hk : k = 3 ∨ k = 17 ∨ k = 11) :
    Calls Try.prog 18 #[.int .i64 (k : Int), .int .u64 (r : Int)] w fun e w' => e = .returned (.int .u64 (IntKind.u64.wrap (wrap64 (wrap32 (r : Int))))) ∧ w = w' := by
  refine (from_any k r w (by omega) hr).mono fun e w' ⟨he, hw⟩ => ⟨?_, hw⟩
  rw [he, ← v_sg]
  have : frm k r = sg (r % 4294967296) := by unfold frm; rw [if_pos hk]
  rw [this]
theorem from_low (k r : Nat) (w : World) (hr : (r : Int) ≤ 18446744073709551615) (hk : k = 5 ∨ k = 9) :
    Calls Try.prog 18 #[.int .i64 (k : Int), .int .u64 (r : Int)] w fun e w' => e = .returned (.int .u64 ((r : Int) % 4294967296)) ∧ w = w' := by
  refine (from_any k r w (by omega) hr).mono fun e w' ⟨he, hw⟩ => ⟨?_, hw⟩
  rw [he]
  have : frm k r = r % 4294967296 := by unfold frm; rw [if_neg (by omega), if_pos (by omega)]
  rw [this]; exact ret_int (by omega)
theorem from_same (k r : Nat) (w : World) (hr : (r : Int) ≤ 18446744073709551615) (hk : k = 4 ∨ k = 6) :
    Calls Try.prog 18 #[.int .i64 (k : Int), .int .u64 (r : Int)] w fun e w' => e = .returned (.int .u64 (r : Int)) ∧ w = w' := by
  refine (from_any k r w (by omega) hr).mono fun e w' ⟨he, hw⟩ => ⟨?_, hw⟩
  rw [he]
  have : frm k r = r := by unfold frm; rw [if_neg (by omega), if_neg (by omega), if_neg (by omega), if_neg (by omega), if_neg (by omega)]
  rw [this]
theorem from_z64 (r : Nat) (z : Int) (w : World) (hr : (r : Int) ≤ 18446744073709551615) (hz : ((uz r : Nat) : Int) = z) :
    Calls Try.prog 18 #[.int .i64 8, .int .u64 (r : Int)] w fun e w' => e = .returned (.int .u64 z) ∧ w = w' := by
  refine (from_any 8 r w (by omega) hr).mono fun e w' ⟨he, hw⟩ => ⟨?_, hw⟩
  rw [he, ← hz]; rfl
theorem from_z32 (r : Nat) (z : Int) (w : World) (hr : (r : Int) ≤ 18446744073709551615) (hz : ((uz (r % 4294967296) : Nat) : Int) = z) :
    Calls Try.prog 18 #[.int .i64 7, .int .u64 (r : Int)] w fun e w' => e = .returned (.int .u64 (IntKind.u64.wrap (wrap64 (wrap32 z)))) ∧ w = w' := by
  refine (from_any 7 r w (by omega) hr).mono fun e w' ⟨he, hw⟩ => ⟨?_, hw⟩
  rw [he, ← hz, ← v_sg]; rfl
theorem from_tr (r : Nat) (w : World) (hr : (r : Int) ≤ 18446744073709551615) (h : 0 < r) :
    Calls Try.prog 18 #[.int .i64 13, .int .u64 (r : Int)] w fun e w' => e = .returned (.int .u64 1) ∧ w = w' := by
  refine (from_any 13 r w (by omega) hr).mono fun e w' ⟨he, hw⟩ => ⟨?_, hw⟩
  rw [he]
  have : frm 13 r = 1 := by show tr r = 1; unfold tr; rw [if_neg (by omega)]
  rw [this]; rfl
theorem from_tr0 (w : World) :
    Calls Try.prog 18 #[.int .i64 13, .int .u64 0] w fun e w' => e = .returned (.int .u64 0) ∧ w = w' := from_any 13 0 w (by decide) (by decide)
theorem odd_of (r : Nat) (hr : r < 18446744073709551616) (h : r % 2 = 1) : (bits .and .u64 (r : Int) 1 == 1) = true := by
  have := u64_and_nat r 1 hr (by decide)
  rw [Nat.and_one_is_mod, h] at this
  rw [show bits .and .u64 (r : Int) 1 = 1 from this]; rfl
theorem even_of (r : Nat) (hr : r < 18446744073709551616) (h : r % 2 = 0) : (bits .and .u64 (r : Int) 1 == 1) = false := by
  have := u64_and_nat r 1 hr (by decide)
  rw [Nat.and_one_is_mod, h] at this
  rw [show bits .and .u64 (r : Int) 1 = 0 from this]; rfl

theorem from_z32e (r : Nat) (z : Int) (w : World) (hr : (r : Int) ≤ 18446744073709551615) (hz : ((uz (r % 4294967296) : Nat) : Int) = z) (hz2 : z < 2147483648) :
    Calls Try.prog 18 #[.int .i64 7, .int .u64 (r : Int)] w fun e w' => e = .returned (.int .u64 z) ∧ w = w' := by
  refine (from_any 7 r w (by omega) hr).mono fun e w' ⟨he, hw⟩ => ⟨?_, hw⟩
  rw [he, ← hz]
  have : frm 7 r = uz (r % 4294967296) := by
    show sg (uz (r % 4294967296) % 4294967296) = _
    unfold sg
    rw [if_pos (by omega)]; omega
  rw [this]
end Cast
end Go.Proofs.Ytojpknhajifkbaa
