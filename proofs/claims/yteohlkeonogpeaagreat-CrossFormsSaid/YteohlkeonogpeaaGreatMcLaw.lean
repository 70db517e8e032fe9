/-
  proclitic/procliticlaw29.CrossForms by the machine. No condition.
-/
import Derived.Test.YteohlkeonogpeaaGreatCr
import Derived.Test.YteohlkeonogpeaaGreatEng7
import Derived.Test.YteohlkeonogpeaaGreatMc2
import Derived.Test.YteohlkeonogpeaaGreatMc1
namespace Go.Proofs.YteohlkeonogpeaaGreat
open Go.RowKit
namespace Cr
open Eng
set_option linter.unusedVariables false
set_option maxRecDepth 1000000
set_option maxHeartbeats 0
noncomputable def Mcw : CallF → CallF := fun c => callM [Mcm190, Mcm187, Mcm184, Mcm182, Mcm181, Mcm180, Mcm166] (callC Tryz.prog tab c)
theorem Mc_run : yes (callQ Tryz.prog noExt Mcw 100 5 [] .e 0) = true := by decide +kernel
/-- The law. -/
theorem Mc_law (w : World) : Calls Tryz.prog 5 #[] w fun e w' => e = .returned (.bool true) ∧ Below w.heap.size w w' := by
  obtain ⟨h, nx, e⟩ := yes_ok Mc_run
  exact closed_of (callF_ok mixed noExt_ok (noNum_ok nums) Mcw (fun _ h => callM_ok (callC_ok tab_ok (noNum_ok nums) h) _ (List.forall_mem_cons.2 ⟨Mcm190_ok, (List.forall_mem_cons.2 ⟨Mcm187_ok, (List.forall_mem_cons.2 ⟨Mcm184_ok, (List.forall_mem_cons.2 ⟨Mcm182_ok, (List.forall_mem_cons.2 ⟨Mcm181_ok, (List.forall_mem_cons.2 ⟨Mcm180_ok, (List.forall_mem_cons.2 ⟨Mcm166_ok, (fun _ h => by cases h)⟩)⟩)⟩)⟩)⟩)⟩)⟩)) 100) e w
end Cr
end Go.Proofs.YteohlkeonogpeaaGreat
