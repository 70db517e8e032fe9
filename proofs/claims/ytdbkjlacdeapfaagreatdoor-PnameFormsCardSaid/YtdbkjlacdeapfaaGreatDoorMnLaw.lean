/-
  proclitic/procliticlaw9.PnameForms by the machine, beside what is laid.
-/
import Derived.Test.YtdbkjlacdeapfaaGreatDoorPn
import Derived.Test.YtdbkjlacdeapfaaGreatDoorMn1
import Derived.Test.YtdbkjlacdeapfaaGreatDoorMn0
namespace Go.Proofs.YtdbkjlacdeapfaaGreatDoor
open Go.RowKit
namespace Pn
open Eng
set_option linter.unusedVariables false
set_option maxRecDepth 1000000
set_option maxHeartbeats 0
noncomputable def Mnw : CallF → CallF := fun c => callS [Mnm16, Mnm15, Mnm14, Mnm13, Mnm12, Mnm11, Mnm10, Mnm9, Mnm8, Mnm7, Mnm6, Mnm5, Mnm4, Mnm3, Mnm1, Mnm0] (mnzW 77 5 c)
theorem Mn_run : yes (callG Tryz.prog exts gl Mnw 100 3 [] h0 2) = true := by decide +kernel
/-- The law. -/
theorem Mn_law (w : World) (hw : Laid w) : Calls Tryz.prog 3 #[] w fun e w' => e = .returned (.bool true) ∧ Below w.heap.size w w' := by
  obtain ⟨h, nx, e⟩ := yes_ok Mn_run
  exact law_of (callF_ok mixed exts_ok (noNum_ok nums) Mnw (fun _ h => callS_ok (mnz_ok mnz_fact h) _ (List.forall_mem_cons.2 ⟨Mnm16_ok, (List.forall_mem_cons.2 ⟨Mnm15_ok, (List.forall_mem_cons.2 ⟨Mnm14_ok, (List.forall_mem_cons.2 ⟨Mnm13_ok, (List.forall_mem_cons.2 ⟨Mnm12_ok, (List.forall_mem_cons.2 ⟨Mnm11_ok, (List.forall_mem_cons.2 ⟨Mnm10_ok, (List.forall_mem_cons.2 ⟨Mnm9_ok, (List.forall_mem_cons.2 ⟨Mnm8_ok, (List.forall_mem_cons.2 ⟨Mnm7_ok, (List.forall_mem_cons.2 ⟨Mnm6_ok, (List.forall_mem_cons.2 ⟨Mnm5_ok, (List.forall_mem_cons.2 ⟨Mnm4_ok, (List.forall_mem_cons.2 ⟨Mnm3_ok, (List.forall_mem_cons.2 ⟨Mnm1_ok, (List.forall_mem_cons.2 ⟨Mnm0_ok, (fun _ h => by cases h)⟩)⟩)⟩)⟩)⟩)⟩)⟩)⟩)⟩)⟩)⟩)⟩)⟩)⟩)⟩)⟩)) 100) (by kernel_rfl) e w hw
end Pn
end Go.Proofs.YtdbkjlacdeapfaaGreatDoor
