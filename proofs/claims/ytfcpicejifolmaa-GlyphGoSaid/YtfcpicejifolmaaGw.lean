/-
  GlyphGo, whole. No condition.
-/
import Derived.Test.YtfcpicejifolmaaGwb
import Derived.Test.YtfcpicejifolmaaGwc
import Derived.Test.YtfcpicejifolmaaGwd
import Derived.Test.YtfcpicejifolmaaGwe
namespace Go.Proofs.Ytfcpicejifolmaa
open Go.ChangeShapes Go.WideShapes Go.ChangeAt Go.RowKit
namespace Gl
open Mem
set_option linter.unusedVariables false
set_option linter.unusedSimpArgs false
theorem go_law_wf (s : ByteArray) (r : Int) (w : World) (h0 : s.size ≤ maxLen) (h2 : (Lit.int .u32 r).wf = true) :
    Calls Try.prog 11 #[.string s, .int .u32 r] w fun e w' => e = .returned (.bool true) ∧ Below w.heap.size w w' := by
  unfold maxLen at h0
  by_cases hs : 60 < s.size
  · exact go_long s r w (by omega) hs
  · have b0 : 0 ≤ r ∧ r < 4294967296 := by simp [Lit.wf, IntKind.min, IntKind.max, IntKind.signed, IntKind.bits] at h2; omega
    obtain ⟨r, rfl⟩ := Int.eq_ofNat_of_zero_le b0.1
    cases hv : valid s.data.toList with
    | true =>
      by_cases hb : 1114111 < r
      · exact go_true_no s r w (by omega) (by omega) hb hv
      · exact go_true_pt s r w (by omega) (by omega) hv
    | false =>
      by_cases hb : 1114111 < r
      · exact go_false_no s r w (by omega) (by omega) hb hv
      · exact go_false_pt s r w (by omega) (by omega) hv

end Gl
end Go.Proofs.Ytfcpicejifolmaa
