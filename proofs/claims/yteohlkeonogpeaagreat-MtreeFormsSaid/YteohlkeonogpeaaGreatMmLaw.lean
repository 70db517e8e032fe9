/-
  proclitic/procliticlaw26.MtreeForms by the machine. No condition.
-/
import Derived.Test.YteohlkeonogpeaaGreatCr
import Derived.Test.YteohlkeonogpeaaGreatEng7
import Derived.Test.YteohlkeonogpeaaGreatMm4
import Derived.Test.YteohlkeonogpeaaGreatMm3
import Derived.Test.YteohlkeonogpeaaGreatMm2
import Derived.Test.YteohlkeonogpeaaGreatMm1
import Derived.Test.YteohlkeonogpeaaGreatMm0
namespace Go.Proofs.YteohlkeonogpeaaGreat
open Go.RowKit
namespace Cr
open Eng
set_option linter.unusedVariables false
set_option maxRecDepth 1000000
set_option maxHeartbeats 0
noncomputable def Mmw : CallF → CallF := fun c => callM [Mmm85, Mmm84, Mmm83, Mmm82, Mmm81, Mmm80, Mmm79, Mmm78, Mmm77, Mmm76, Mmm75, Mmm74, Mmm73, Mmm72, Mmm71, Mmm70, Mmm69, Mmm68, Mmm67, Mmm66, Mmm65, Mmm64, Mmm63, Mmm62, Mmm61, Mmm60, Mmm59, Mmm58, Mmm57, Mmm56, Mmm55, Mmm54, Mmm53, Mmm52, Mmm51, Mmm50, Mmm49, Mmm48, Mmm47, Mmm46, Mmm45, Mmm44, Mmm43, Mmm42, Mmm41, Mmm40, Mmm39, Mmm38, Mmm37, Mmm36, Mmm35, Mmm34, Mmm33, Mmm32, Mmm31, Mmm30, Mmm29, Mmm28, Mmm27, Mmm26, Mmm25, Mmm24, Mmm23, Mmm22, Mmm21, Mmm20, Mmm19, Mmm18, Mmm17, Mmm16, Mmm15, Mmm14, Mmm13, Mmm12, Mmm11, Mmm10, Mmm9] (callC Tryz.prog tab c)
theorem Mm_run : yes (callQ Tryz.prog noExt Mmw 100 4 [] .e 0) = true := by decide +kernel
/-- The law. -/
theorem Mm_law (w : World) : Calls Tryz.prog 4 #[] w fun e w' => e = .returned (.bool true) ∧ Below w.heap.size w w' := by
  obtain ⟨h, nx, e⟩ := yes_ok Mm_run
  exact closed_of (callF_ok mixed noExt_ok (noNum_ok nums) Mmw (fun _ h => callM_ok (callC_ok tab_ok (noNum_ok nums) h) _ (List.forall_mem_cons.2 ⟨Mmm85_ok, (List.forall_mem_cons.2 ⟨Mmm84_ok, (List.forall_mem_cons.2 ⟨Mmm83_ok, (List.forall_mem_cons.2 ⟨Mmm82_ok, (List.forall_mem_cons.2 ⟨Mmm81_ok, (List.forall_mem_cons.2 ⟨Mmm80_ok, (List.forall_mem_cons.2 ⟨Mmm79_ok, (List.forall_mem_cons.2 ⟨Mmm78_ok, (List.forall_mem_cons.2 ⟨Mmm77_ok, (List.forall_mem_cons.2 ⟨Mmm76_ok, (List.forall_mem_cons.2 ⟨Mmm75_ok, (List.forall_mem_cons.2 ⟨Mmm74_ok, (List.forall_mem_cons.2 ⟨Mmm73_ok, (List.forall_mem_cons.2 ⟨Mmm72_ok, (List.forall_mem_cons.2 ⟨Mmm71_ok, (List.forall_mem_cons.2 ⟨Mmm70_ok, (List.forall_mem_cons.2 ⟨Mmm69_ok, (List.forall_mem_cons.2 ⟨Mmm68_ok, (List.forall_mem_cons.2 ⟨Mmm67_ok, (List.forall_mem_cons.2 ⟨Mmm66_ok, (List.forall_mem_cons.2 ⟨Mmm65_ok, (List.forall_mem_cons.2 ⟨Mmm64_ok, (List.forall_mem_cons.2 ⟨Mmm63_ok, (List.forall_mem_cons.2 ⟨Mmm62_ok, (List.forall_mem_cons.2 ⟨Mmm61_ok, (List.forall_mem_cons.2 ⟨Mmm60_ok, (List.forall_mem_cons.2 ⟨Mmm59_ok, (List.forall_mem_cons.2 ⟨Mmm58_ok, (List.forall_mem_cons.2 ⟨Mmm57_ok, (List.forall_mem_cons.2 ⟨Mmm56_ok, (List.forall_mem_cons.2 ⟨Mmm55_ok, (List.forall_mem_cons.2 ⟨Mmm54_ok, (List.forall_mem_cons.2 ⟨Mmm53_ok, (List.forall_mem_cons.2 ⟨Mmm52_ok, (List.forall_mem_cons.2 ⟨Mmm51_ok, (List.forall_mem_cons.2 ⟨Mmm50_ok, (List.forall_mem_cons.2 ⟨Mmm49_ok, (List.forall_mem_cons.2 ⟨Mmm48_ok, (List.forall_mem_cons.2 ⟨Mmm47_ok, (List.forall_mem_cons.2 ⟨Mmm46_ok, (List.forall_mem_cons.2 ⟨Mmm45_ok, (List.forall_mem_cons.2 ⟨Mmm44_ok, (List.forall_mem_cons.2 ⟨Mmm43_ok, (List.forall_mem_cons.2 ⟨Mmm42_ok, (List.forall_mem_cons.2 ⟨Mmm41_ok, (List.forall_mem_cons.2 ⟨Mmm40_ok, (List.forall_mem_cons.2 ⟨Mmm39_ok, (List.forall_mem_cons.2 ⟨Mmm38_ok, (List.forall_mem_cons.2 ⟨Mmm37_ok, (List.forall_mem_cons.2 ⟨Mmm36_ok, (List.forall_mem_cons.2 ⟨Mmm35_ok, (List.forall_mem_cons.2 ⟨Mmm34_ok, (List.forall_mem_cons.2 ⟨Mmm33_ok, (List.forall_mem_cons.2 ⟨Mmm32_ok, (List.forall_mem_cons.2 ⟨Mmm31_ok, (List.forall_mem_cons.2 ⟨Mmm30_ok, (List.forall_mem_cons.2 ⟨Mmm29_ok, (List.forall_mem_cons.2 ⟨Mmm28_ok, (List.forall_mem_cons.2 ⟨Mmm27_ok, (List.forall_mem_cons.2 ⟨Mmm26_ok, (List.forall_mem_cons.2 ⟨Mmm25_ok, (List.forall_mem_cons.2 ⟨Mmm24_ok, (List.forall_mem_cons.2 ⟨Mmm23_ok, (List.forall_mem_cons.2 ⟨Mmm22_ok, (List.forall_mem_cons.2 ⟨Mmm21_ok, (List.forall_mem_cons.2 ⟨Mmm20_ok, (List.forall_mem_cons.2 ⟨Mmm19_ok, (List.forall_mem_cons.2 ⟨Mmm18_ok, (List.forall_mem_cons.2 ⟨Mmm17_ok, (List.forall_mem_cons.2 ⟨Mmm16_ok, (List.forall_mem_cons.2 ⟨Mmm15_ok, (List.forall_mem_cons.2 ⟨Mmm14_ok, (List.forall_mem_cons.2 ⟨Mmm13_ok, (List.forall_mem_cons.2 ⟨Mmm12_ok, (List.forall_mem_cons.2 ⟨Mmm11_ok, (List.forall_mem_cons.2 ⟨Mmm10_ok, (List.forall_mem_cons.2 ⟨Mmm9_ok, (fun _ h => by cases h)⟩)⟩)⟩)⟩)⟩)⟩)⟩)⟩)⟩)⟩)⟩)⟩)⟩)⟩)⟩)⟩)⟩)⟩)⟩)⟩)⟩)⟩)⟩)⟩)⟩)⟩)⟩)⟩)⟩)⟩)⟩)⟩)⟩)⟩)⟩)⟩)⟩)⟩)⟩)⟩)⟩)⟩)⟩)⟩)⟩)⟩)⟩)⟩)⟩)⟩)⟩)⟩)⟩)⟩)⟩)⟩)⟩)⟩)⟩)⟩)⟩)⟩)⟩)⟩)⟩)⟩)⟩)⟩)⟩)⟩)⟩)⟩)⟩)⟩)⟩)⟩)⟩)) 100) e w
end Cr
end Go.Proofs.YteohlkeonogpeaaGreat
