/-
  proclitic/procliticlaw11.AvscForms by the machine, beside what is laid.
-/
import Derived.Test.YtmacmgmcngkmgaaDoorAv
import Derived.Test.YtmacmgmcngkmgaaDoorMa2
import Derived.Test.YtmacmgmcngkmgaaDoorMa1
import Derived.Test.YtmacmgmcngkmgaaDoorMa0
namespace Go.Proofs.YtmacmgmcngkmgaaDoor
open Go.RowKit
namespace Av
open Eng
set_option linter.unusedVariables false
set_option maxRecDepth 1000000
set_option maxHeartbeats 0
noncomputable def Maw : CallF → CallF := fun c => callS [Mam29, Mam28, Mam23, Mam22, Mam21, Mam19, Mam18, Mam17, Mam15, Mam14, Mam13, Mam12, Mam11, Mam10, Mam9, Mam8, Mam7, Mam6, Mam5, Mam4, Mam3, Mam2, Mam1, Mam0] c
theorem Ma_run : yes (callG Tryd.prog exts gl Maw 100 5 [] h0 2) = true := by decide +kernel
/-- The law. -/
theorem Ma_law (w : World) (hw : Laid w) : Calls Tryd.prog 5 #[] w fun e w' => e = .returned (.bool true) ∧ Below w.heap.size w w' := by
  obtain ⟨h, nx, e⟩ := yes_ok Ma_run
  exact law_of (callF_ok mixed exts_ok (noNum_ok nums) Maw (fun _ h => callS_ok h _ (List.forall_mem_cons.2 ⟨Mam29_ok, (List.forall_mem_cons.2 ⟨Mam28_ok, (List.forall_mem_cons.2 ⟨Mam23_ok, (List.forall_mem_cons.2 ⟨Mam22_ok, (List.forall_mem_cons.2 ⟨Mam21_ok, (List.forall_mem_cons.2 ⟨Mam19_ok, (List.forall_mem_cons.2 ⟨Mam18_ok, (List.forall_mem_cons.2 ⟨Mam17_ok, (List.forall_mem_cons.2 ⟨Mam15_ok, (List.forall_mem_cons.2 ⟨Mam14_ok, (List.forall_mem_cons.2 ⟨Mam13_ok, (List.forall_mem_cons.2 ⟨Mam12_ok, (List.forall_mem_cons.2 ⟨Mam11_ok, (List.forall_mem_cons.2 ⟨Mam10_ok, (List.forall_mem_cons.2 ⟨Mam9_ok, (List.forall_mem_cons.2 ⟨Mam8_ok, (List.forall_mem_cons.2 ⟨Mam7_ok, (List.forall_mem_cons.2 ⟨Mam6_ok, (List.forall_mem_cons.2 ⟨Mam5_ok, (List.forall_mem_cons.2 ⟨Mam4_ok, (List.forall_mem_cons.2 ⟨Mam3_ok, (List.forall_mem_cons.2 ⟨Mam2_ok, (List.forall_mem_cons.2 ⟨Mam1_ok, (List.forall_mem_cons.2 ⟨Mam0_ok, (fun _ h => by cases h)⟩)⟩)⟩)⟩)⟩)⟩)⟩)⟩)⟩)⟩)⟩)⟩)⟩)⟩)⟩)⟩)⟩)⟩)⟩)⟩)⟩)⟩)⟩)⟩)) 100) e w hw
end Av
end Go.Proofs.YtmacmgmcngkmgaaDoor
