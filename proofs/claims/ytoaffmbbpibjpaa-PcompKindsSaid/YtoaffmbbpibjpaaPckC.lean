/-
  PcompKinds by the machine: three rounds more. No condition.
-/
import Derived.Test.YtoaffmbbpibjpaaPck
namespace Go.Proofs.Ytoaffmbbpibjpaa
open Go.RowKit
namespace Pck
open Eng

set_option maxRecDepth 1000000
set_option maxHeartbeats 0
theorem run2 : goF Try.prog call1 noExt 1000000 3 6 c1 t1 h1 10 = some (c1, t2, h2, 10) := by kernel_rfl
end Pck
end Go.Proofs.Ytoaffmbbpibjpaa
