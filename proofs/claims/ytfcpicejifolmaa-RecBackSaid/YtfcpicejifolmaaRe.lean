/-
  RecBack, whole. No condition.
-/
import Derived.Test.YtfcpicejifolmaaRa
namespace Go.Proofs.Ytfcpicejifolmaa
open Go.ChangeShapes Go.WideShapes Go.ChangeAt Go.RowKit
namespace Rv
set_option linter.unusedVariables false
set_option maxHeartbeats 1000000 in
theorem back_long (a0 a1 a2 : Int) (s : ByteArray) (w : World) (hs : s.size ≤ 9223372036854775807) (hl : 100 < s.size) :
    Calls Try.prog 6 #[.int .u32 a0, .int .u8 a1, .int .u64 a2, .string s] w fun e w' => e = .returned (.bool true) ∧ Below w.heap.size w w' := by
  go_enter Try.func6, Try.ntmps6
  go_wp2_with (go_at_call 15; refine (Rf.begun1 _).mono ?_; rintro e w1 ⟨rfl, hb1⟩)
  go_ret
  exact ⟨rfl, hb1⟩
theorem back_law_wf (a0 a1 a2 : Int) (s : ByteArray) (w : World) (h0 : (Lit.int .u32 a0).wf = true) (h1 : (Lit.int .u8 a1).wf = true) (h2 : (Lit.int .u64 a2).wf = true) (hs : s.size ≤ maxLen) :
    Calls Try.prog 6 #[.int .u32 a0, .int .u8 a1, .int .u64 a2, .string s] w fun e w' => e = .returned (.bool true) ∧ Below w.heap.size w w' := by
  unfold maxLen at hs
  by_cases hl : 100 < s.size
  · exact back_long a0 a1 a2 s w (by omega) hl
  · have b0 : 0 ≤ a0 ∧ a0 < 4294967296 := by simp [Lit.wf, IntKind.min, IntKind.max, IntKind.signed, IntKind.bits] at h0; omega
    have b1 : 0 ≤ a1 ∧ a1 < 256 := by simp [Lit.wf, IntKind.min, IntKind.max, IntKind.signed, IntKind.bits] at h1; omega
    have b2 := u64_lt h2
    obtain ⟨u, rfl⟩ := Int.eq_ofNat_of_zero_le b0.1
    obtain ⟨w8, rfl⟩ := Int.eq_ofNat_of_zero_le b1.1
    obtain ⟨n, rfl⟩ := Int.eq_ofNat_of_zero_le b2.1
    have hq : w8 % 4 = 0 ∨ w8 % 4 = 1 ∨ w8 % 4 = 2 ∨ w8 % 4 = 3 := by omega
    rcases hq with hq | hq | hq | hq
    · exact back_0 u w8 n s w (by omega) (by omega) hq (by omega) (by omega)
    · exact back_1 u w8 n s w (by omega) (by omega) hq (by omega) (by omega)
    · exact back_2 u w8 n s w (by omega) (by omega) hq (by omega) (by omega)
    · exact back_5 u w8 n s w (by omega) (by omega) hq (by omega) (by omega)
end Rv
end Go.Proofs.Ytfcpicejifolmaa
