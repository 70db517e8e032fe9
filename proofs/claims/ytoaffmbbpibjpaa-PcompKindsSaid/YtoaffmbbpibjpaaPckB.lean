/-
  PcompKinds by the machine: its first round. No condition.
-/
import Derived.Test.YtoaffmbbpibjpaaPck
namespace Go.Proofs.Ytoaffmbbpibjpaa
open Go.RowKit
namespace Pck
open Eng

set_option maxRecDepth 1000000
set_option maxHeartbeats 0
theorem run1 : startF Try.prog call1 noExt 1000000 1 6 = some (c1, t1, h1, 10) := by kernel_rfl
end Pck
end Go.Proofs.Ytoaffmbbpibjpaa
