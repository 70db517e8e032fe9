/-
  proclitic/procliticlaw6.JsonForms by the machine, beside what is laid.
-/
import Derived.Test.YtdecogndpnghkaaDoorJs
import Derived.Test.YtdecogndpnghkaaDoorMj0
namespace Go.Proofs.YtdecogndpnghkaaDoor
open Go.RowKit
namespace Js
open Eng
set_option linter.unusedVariables false
set_option maxRecDepth 1000000
set_option maxHeartbeats 0
noncomputable def Mjw : CallF → CallF := fun c => callS [Mjm3, Mjm2, Mjm1, Mjm0] c
theorem Mj_run : yes (callG Tryd.prog exts gl Mjw 100 6 [] h0 3) = true := by decide +kernel
/-- The law. -/
theorem Mj_law (w : World) (hw : Laid w) : Calls Tryd.prog 6 #[] w fun e w' => e = .returned (.bool true) ∧ Below w.heap.size w w' := by
  obtain ⟨h, nx, e⟩ := yes_ok Mj_run
  exact law_of (callF_ok mixed exts_ok (noNum_ok nums) Mjw (fun _ h => callS_ok h _ (List.forall_mem_cons.2 ⟨Mjm3_ok, (List.forall_mem_cons.2 ⟨Mjm2_ok, (List.forall_mem_cons.2 ⟨Mjm1_ok, (List.forall_mem_cons.2 ⟨Mjm0_ok, (fun _ h => by cases h)⟩)⟩)⟩)⟩)) 100) e w hw
end Js
end Go.Proofs.YtdecogndpnghkaaDoor
