/-
  proclitic/procliticlaw12.CanonForms by the machine, beside what is laid.
-/
import Derived.Test.YtgbddkgjdeflkaaDoorCn
import Derived.Test.YtgbddkgjdeflkaaDoorMk1
import Derived.Test.YtgbddkgjdeflkaaDoorMk0
namespace Go.Proofs.YtgbddkgjdeflkaaDoor
open Go.RowKit
namespace Cn
open Eng
set_option linter.unusedVariables false
set_option maxRecDepth 1000000
set_option maxHeartbeats 0
noncomputable def Mkw : CallF → CallF := fun c => callS [Mkm11, Mkm10, Mkm9, Mkm6, Mkm5, Mkm4, Mkm3, Mkm2, Mkm1, Mkm0] c
theorem Mk_run : yes (callH Tryd.prog exts gl Mkw 100 3 [] h0 1) = true := by decide +kernel
/-- The law. -/
theorem Mk_law (w : World) (hw : Laid w) : Calls Tryd.prog 3 #[] w fun e w' => e = .returned (.bool true) ∧ Below w.heap.size w w' := by
  obtain ⟨h, nx, e⟩ := yes_ok Mk_run
  exact law_of (callH_ok mixed exts_ok (noNum_ok nums) Mkw (fun _ h => callS_ok h _ (List.forall_mem_cons.2 ⟨Mkm11_ok, (List.forall_mem_cons.2 ⟨Mkm10_ok, (List.forall_mem_cons.2 ⟨Mkm9_ok, (List.forall_mem_cons.2 ⟨Mkm6_ok, (List.forall_mem_cons.2 ⟨Mkm5_ok, (List.forall_mem_cons.2 ⟨Mkm4_ok, (List.forall_mem_cons.2 ⟨Mkm3_ok, (List.forall_mem_cons.2 ⟨Mkm2_ok, (List.forall_mem_cons.2 ⟨Mkm1_ok, (List.forall_mem_cons.2 ⟨Mkm0_ok, (fun _ h => by cases h)⟩)⟩)⟩)⟩)⟩)⟩)⟩)⟩)⟩)⟩)) 100) (by kernel_rfl) e w hw
end Cn
end Go.Proofs.YtgbddkgjdeflkaaDoor
