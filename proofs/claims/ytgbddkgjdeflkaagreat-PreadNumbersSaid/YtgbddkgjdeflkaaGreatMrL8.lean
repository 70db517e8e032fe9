/-
  proclitic/procliticlaw19.PreadNumbers by the machine, one sort of arguments.
-/
import Derived.Test.YtgbddkgjdeflkaaGreatPd
import Derived.Test.YtgbddkgjdeflkaaGreatMr2
import Derived.Test.YtgbddkgjdeflkaaGreatMr1
import Derived.Test.YtgbddkgjdeflkaaGreatMr0
namespace Go.Proofs.YtgbddkgjdeflkaaGreat
open Go.RowKit
namespace Pd
open Eng
set_option linter.unusedVariables false
set_option maxRecDepth 1000000
set_option maxHeartbeats 0
noncomputable def Mrw8L : CallF → CallF := fun c => callS [Mrm14, Mrm5, Mrm3, Mrm1, Mrm0] c
theorem Mr_run8 : yes (callH Tryz.prog exts gl Mrw8L 100 3 [.lin .i32 0 [(1, 1, (-2147483648), (-1))], .lin .i64 0 [(4294967296, 2, (-2147483648), (-1)), (1, 3, 0, 2147483647)]] h0 4) = true := by decide +kernel
theorem Mr_ok8 : CallOK gl Tryz.prog (callH Tryz.prog exts gl Mrw8L 100) := callH_ok mixed exts_ok (noNum_ok nums) Mrw8L (fun _ h => callS_ok h _ (List.forall_mem_cons.2 ⟨Mrm14_ok, (List.forall_mem_cons.2 ⟨Mrm5_ok, (List.forall_mem_cons.2 ⟨Mrm3_ok, (List.forall_mem_cons.2 ⟨Mrm1_ok, (List.forall_mem_cons.2 ⟨Mrm0_ok, (fun _ h => by cases h)⟩)⟩)⟩)⟩)⟩)) 100
end Pd
end Go.Proofs.YtgbddkgjdeflkaaGreat
