/-
  RecNumbers: the document's numbers are the program's. No condition.
-/
import Derived.Test.YtfcpicejifolmaaRpr
import Derived.Test.YtfcpicejifolmaaRf
namespace Go.Proofs.Ytfcpicejifolmaa
open Go.ChangeShapes Go.WideShapes Go.ChangeAt Go.RowKit
namespace Rv
set_option linter.unusedVariables false
set_option maxHeartbeats 1000000 in
set_option maxRecDepth 20000 in
theorem numbers_law (s : ByteArray) (v : Nat) (w : World) (hs : s.size ≤ maxLen) (hv : v < 18446744073709551616) :
    Calls Try.prog 3 #[.string s, .int .u64 v] w fun e w' => e = .returned (.bool true) ∧ Below w.heap.size w w' := by
  have HV := Lib.hid hv; clear hv
  have HM := Lib.hid hs
  unfold maxLen at hs
  by_cases hl : s.size ≤ 30
  · go_enter Try.func3, Try.ntmps3
    go_wp2_with (go_at_call 15; refine (Rf.begun1 _).mono ?_; rintro e w1 ⟨rfl, hb1⟩)
    go_wp2_with (first | (go_at_call 16; refine (varint_any _ _ HM.out).mono ?_; rintro e w' ⟨rfl, rfl⟩; unfold vend) | (go_at_call 17; refine (rvarint_any _ _ HM.out).mono ?_; rintro e w' ⟨rfl, rfl⟩; unfold vend) | (go_at_call 18; refine (put_any _ _ HV.out).mono ?_; rintro e w2 ⟨rfl, hb2⟩) | (go_at_call 19; refine (rput_any _ _ HV.out).mono ?_; rintro e w3 ⟨rfl, hb3⟩))
    go_ret
    exact ⟨by simp, hb1.trans ((hb2.trans (hb3.mono hb2.size)).mono hb1.size)⟩
  · go_enter Try.func3, Try.ntmps3
    go_wp2_with (go_at_call 15; refine (Rf.begun1 _).mono ?_; rintro e w1 ⟨rfl, hb1⟩)
    go_ret
    exact ⟨rfl, hb1⟩
theorem u64_lt {a : Int} (h : (Lit.int .u64 a).wf = true) : 0 ≤ a ∧ a < 18446744073709551616 := by
  simp [Lit.wf, IntKind.min, IntKind.max, IntKind.signed, IntKind.bits] at h; omega
theorem numbers_law_wf (s : ByteArray) (a1 : Int) (w : World) (hs : s.size ≤ maxLen) (h : (Lit.int .u64 a1).wf = true) :
    Calls Try.prog 3 #[.string s, .int .u64 a1] w fun e w' => e = .returned (.bool true) ∧ Below w.heap.size w w' := by
  have hb := u64_lt h
  obtain ⟨n, rfl⟩ := Int.eq_ofNat_of_zero_le hb.1
  exact numbers_law s n w hs (by omega)
end Rv
end Go.Proofs.Ytfcpicejifolmaa
