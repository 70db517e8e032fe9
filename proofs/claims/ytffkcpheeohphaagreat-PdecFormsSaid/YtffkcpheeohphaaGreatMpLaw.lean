/-
  proclitic/procliticlaw16.PdecForms by the machine. No condition.
-/
import Derived.Test.YtffkcpheeohphaaGreatCr
import Derived.Test.YtffkcpheeohphaaGreatEng7
import Derived.Test.YtffkcpheeohphaaGreatMp2
import Derived.Test.YtffkcpheeohphaaGreatMp1
import Derived.Test.YtffkcpheeohphaaGreatMp0
namespace Go.Proofs.YtffkcpheeohphaaGreat
open Go.RowKit
namespace Cr
open Eng
set_option linter.unusedVariables false
set_option maxRecDepth 1000000
set_option maxHeartbeats 0
noncomputable def Mpw : CallF → CallF := fun c => callM [Mpm49, Mpm48, Mpm47, Mpm46, Mpm45, Mpm44, Mpm43, Mpm42, Mpm41, Mpm40, Mpm39, Mpm38, Mpm37, Mpm36, Mpm35, Mpm34, Mpm33, Mpm32, Mpm31, Mpm30, Mpm29, Mpm28, Mpm27, Mpm26, Mpm25, Mpm24, Mpm23, Mpm22, Mpm21, Mpm20, Mpm19, Mpm18, Mpm17, Mpm16, Mpm15] (callC Tryz.prog tab c)
theorem Mp_run : yes (callQ Tryz.prog noExt Mpw 100 3 [] .e 0) = true := by decide +kernel
/-- The law. -/
theorem Mp_law (w : World) : Calls Tryz.prog 3 #[] w fun e w' => e = .returned (.bool true) ∧ Below w.heap.size w w' := by
  obtain ⟨h, nx, e⟩ := yes_ok Mp_run
  exact closed_of (callF_ok mixed noExt_ok (noNum_ok nums) Mpw (fun _ h => callM_ok (callC_ok tab_ok (noNum_ok nums) h) _ (List.forall_mem_cons.2 ⟨Mpm49_ok, (List.forall_mem_cons.2 ⟨Mpm48_ok, (List.forall_mem_cons.2 ⟨Mpm47_ok, (List.forall_mem_cons.2 ⟨Mpm46_ok, (List.forall_mem_cons.2 ⟨Mpm45_ok, (List.forall_mem_cons.2 ⟨Mpm44_ok, (List.forall_mem_cons.2 ⟨Mpm43_ok, (List.forall_mem_cons.2 ⟨Mpm42_ok, (List.forall_mem_cons.2 ⟨Mpm41_ok, (List.forall_mem_cons.2 ⟨Mpm40_ok, (List.forall_mem_cons.2 ⟨Mpm39_ok, (List.forall_mem_cons.2 ⟨Mpm38_ok, (List.forall_mem_cons.2 ⟨Mpm37_ok, (List.forall_mem_cons.2 ⟨Mpm36_ok, (List.forall_mem_cons.2 ⟨Mpm35_ok, (List.forall_mem_cons.2 ⟨Mpm34_ok, (List.forall_mem_cons.2 ⟨Mpm33_ok, (List.forall_mem_cons.2 ⟨Mpm32_ok, (List.forall_mem_cons.2 ⟨Mpm31_ok, (List.forall_mem_cons.2 ⟨Mpm30_ok, (List.forall_mem_cons.2 ⟨Mpm29_ok, (List.forall_mem_cons.2 ⟨Mpm28_ok, (List.forall_mem_cons.2 ⟨Mpm27_ok, (List.forall_mem_cons.2 ⟨Mpm26_ok, (List.forall_mem_cons.2 ⟨Mpm25_ok, (List.forall_mem_cons.2 ⟨Mpm24_ok, (List.forall_mem_cons.2 ⟨Mpm23_ok, (List.forall_mem_cons.2 ⟨Mpm22_ok, (List.forall_mem_cons.2 ⟨Mpm21_ok, (List.forall_mem_cons.2 ⟨Mpm20_ok, (List.forall_mem_cons.2 ⟨Mpm19_ok, (List.forall_mem_cons.2 ⟨Mpm18_ok, (List.forall_mem_cons.2 ⟨Mpm17_ok, (List.forall_mem_cons.2 ⟨Mpm16_ok, (List.forall_mem_cons.2 ⟨Mpm15_ok, (fun _ h => by cases h)⟩)⟩)⟩)⟩)⟩)⟩)⟩)⟩)⟩)⟩)⟩)⟩)⟩)⟩)⟩)⟩)⟩)⟩)⟩)⟩)⟩)⟩)⟩)⟩)⟩)⟩)⟩)⟩)⟩)⟩)⟩)⟩)⟩)⟩)⟩)) 100) (by kernel_rfl) e w
end Cr
end Go.Proofs.YtffkcpheeohphaaGreat
