/-
  What the machine asks of the program of layer 19. No condition.
-/
import Derived.Test.YtgbddkgjdeflkaaGreatProg
import Derived.Test.YtgbddkgjdeflkaaGreatEng9b
namespace Go.Proofs.YtgbddkgjdeflkaaGreat
open Go.RowKit
namespace Pd
open Eng
set_option linter.unusedVariables false
set_option maxRecDepth 1000000
set_option maxHeartbeats 0
theorem mixed : Tryz.prog.follows .mixedOrders = true := by decide +kernel
theorem nums : noNum Tryz.prog = true := by decide +kernel
noncomputable def exts : ExtF := noExt
theorem exts_ok : ExtOK Tryz.prog exts := noExt_ok
noncomputable def gl : T AV := .e
noncomputable def h0 : T AO := .e
end Pd
end Go.Proofs.YtgbddkgjdeflkaaGreat
