/-
  PcompKinds by the machine: the rest, and the whole. No condition.
-/
import Derived.Test.YtoaffmbbpibjpaaPckB
import Derived.Test.YtoaffmbbpibjpaaPckC
namespace Go.Proofs.Ytoaffmbbpibjpaa
open Go.RowKit
namespace Pck
open Eng

set_option maxRecDepth 1000000
set_option maxHeartbeats 0
theorem run3 : yes (endF Try.prog call1 noExt 1000000 6 c1 t2 h2 10) = true := by decide +kernel
/-- The law. -/
theorem kinds_law_wf (w : World) : Calls Try.prog 6 #[] w fun e w' => e = .returned (.bool true) ∧ Below w.heap.size w w' := by
  obtain ⟨h, nx, e⟩ := yes_ok run3
  exact end_ok mixed call1_ok noExt_ok (go_ok (start_ok run1) run2) e w
end Pck
end Go.Proofs.Ytoaffmbbpibjpaa
