/-
  proclitic/procliticlaw8.PfileForms by the machine, beside what is laid.
-/
import Derived.Test.YtdbkjlacdeapfaaDoorPf
import Derived.Test.YtdbkjlacdeapfaaDoorMf5
import Derived.Test.YtdbkjlacdeapfaaDoorMf4
import Derived.Test.YtdbkjlacdeapfaaDoorMf3
import Derived.Test.YtdbkjlacdeapfaaDoorMf2
import Derived.Test.YtdbkjlacdeapfaaDoorMf1
import Derived.Test.YtdbkjlacdeapfaaDoorMf0
namespace Go.Proofs.YtdbkjlacdeapfaaDoor
open Go.RowKit
namespace Pf
open Eng
set_option linter.unusedVariables false
set_option maxRecDepth 1000000
set_option maxHeartbeats 0
noncomputable def Mfw : CallF → CallF := fun c => callS [Mfm37, Mfm36, Mfm35, Mfm34, Mfm33, Mfm32, Mfm30, Mfm29, Mfm28, Mfm26, Mfm24, Mfm22, Mfm21, Mfm20, Mfm18, Mfm17, Mfm15, Mfm14, Mfm12, Mfm10, Mfm9, Mfm8, Mfm7, Mfm5, Mfm4, Mfm3, Mfm2, Mfm1, Mfm0] c
theorem Mf_run : yes (callG Tryd.prog exts gl Mfw 100 3 [] h0 1) = true := by decide +kernel
/-- The law. -/
theorem Mf_law (w : World) (hw : Laid w) : Calls Tryd.prog 3 #[] w fun e w' => e = .returned (.bool true) ∧ Below w.heap.size w w' := by
  obtain ⟨h, nx, e⟩ := yes_ok Mf_run
  exact law_of (callF_ok mixed exts_ok (noNum_ok nums) Mfw (fun _ h => callS_ok h _ (List.forall_mem_cons.2 ⟨Mfm37_ok, (List.forall_mem_cons.2 ⟨Mfm36_ok, (List.forall_mem_cons.2 ⟨Mfm35_ok, (List.forall_mem_cons.2 ⟨Mfm34_ok, (List.forall_mem_cons.2 ⟨Mfm33_ok, (List.forall_mem_cons.2 ⟨Mfm32_ok, (List.forall_mem_cons.2 ⟨Mfm30_ok, (List.forall_mem_cons.2 ⟨Mfm29_ok, (List.forall_mem_cons.2 ⟨Mfm28_ok, (List.forall_mem_cons.2 ⟨Mfm26_ok, (List.forall_mem_cons.2 ⟨Mfm24_ok, (List.forall_mem_cons.2 ⟨Mfm22_ok, (List.forall_mem_cons.2 ⟨Mfm21_ok, (List.forall_mem_cons.2 ⟨Mfm20_ok, (List.forall_mem_cons.2 ⟨Mfm18_ok, (List.forall_mem_cons.2 ⟨Mfm17_ok, (List.forall_mem_cons.2 ⟨Mfm15_ok, (List.forall_mem_cons.2 ⟨Mfm14_ok, (List.forall_mem_cons.2 ⟨Mfm12_ok, (List.forall_mem_cons.2 ⟨Mfm10_ok, (List.forall_mem_cons.2 ⟨Mfm9_ok, (List.forall_mem_cons.2 ⟨Mfm8_ok, (List.forall_mem_cons.2 ⟨Mfm7_ok, (List.forall_mem_cons.2 ⟨Mfm5_ok, (List.forall_mem_cons.2 ⟨Mfm4_ok, (List.forall_mem_cons.2 ⟨Mfm3_ok, (List.forall_mem_cons.2 ⟨Mfm2_ok, (List.forall_mem_cons.2 ⟨Mfm1_ok, (List.forall_mem_cons.2 ⟨Mfm0_ok, (fun _ h => by cases h)⟩)⟩)⟩)⟩)⟩)⟩)⟩)⟩)⟩)⟩)⟩)⟩)⟩)⟩)⟩)⟩)⟩)⟩)⟩)⟩)⟩)⟩)⟩)⟩)⟩)⟩)⟩)⟩)⟩)) 100) e w hw
end Pf
end Go.Proofs.YtdbkjlacdeapfaaDoor
