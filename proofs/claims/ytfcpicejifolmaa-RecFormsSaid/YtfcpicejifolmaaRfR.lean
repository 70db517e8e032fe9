/-
  RecForms by the machine. No condition.
-/
import Derived.Test.YtfcpicejifolmaaRf
namespace Go.Proofs.Ytfcpicejifolmaa
open Go.RowKit
namespace Rf
open Eng

set_option maxRecDepth 1000000
set_option maxHeartbeats 0
theorem rec_run : yes (call0 8 [] .e 0) = true := by decide +kernel
/-- The law. -/
theorem rec_law_wf (w : World) : Calls Try.prog 8 #[] w fun e w' => e = .returned (.bool true) ∧ Below w.heap.size w w' := by
  obtain ⟨h, nx, e⟩ := yes_ok rec_run
  exact closed mixed exts_ok (noNum_ok nums) e w
end Rf
end Go.Proofs.Ytfcpicejifolmaa
