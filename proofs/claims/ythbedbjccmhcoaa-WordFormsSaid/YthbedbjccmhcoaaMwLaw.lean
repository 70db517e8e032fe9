/-
  proclitic/procliticlaw7.WordForms by the machine, beside what is laid.
-/
import Derived.Test.YthbedbjccmhcoaaWf
import Derived.Test.YthbedbjccmhcoaaMw0
namespace Go.Proofs.Ythbedbjccmhcoaa
open Go.RowKit
namespace Wf
open Eng
set_option linter.unusedVariables false
set_option maxRecDepth 1000000
set_option maxHeartbeats 0
noncomputable def Mww : CallF → CallF := fun c => callS [Mwm4, Mwm3, Mwm2, Mwm1, Mwm0] (Wx.idxW c)
theorem Mw_run : yes (callH Try.prog exts gl Mww 100 7 [] h0 1) = true := by decide +kernel
/-- The law. -/
theorem Mw_law (w : World) (hw : Laid w) : Calls Try.prog 7 #[] w fun e w' => e = .returned (.bool true) ∧ Below w.heap.size w w' := by
  obtain ⟨h, nx, e⟩ := yes_ok Mw_run
  exact law_of (callH_ok mixed exts_ok (noNum_ok nums) Mww (fun _ h => callS_ok (Wx.idxW_ok h) _ (List.forall_mem_cons.2 ⟨Mwm4_ok, (List.forall_mem_cons.2 ⟨Mwm3_ok, (List.forall_mem_cons.2 ⟨Mwm2_ok, (List.forall_mem_cons.2 ⟨Mwm1_ok, (List.forall_mem_cons.2 ⟨Mwm0_ok, (fun _ h => by cases h)⟩)⟩)⟩)⟩)⟩)) 100) (by kernel_rfl) e w hw
end Wf
end Go.Proofs.Ythbedbjccmhcoaa
