/-
  proclitic/procliticlaw18.PcompForms by the machine. No condition.
-/
import Derived.Test.YteohlkeonogpeaaPc
import Derived.Test.YteohlkeonogpeaaEng8
import Derived.Test.YteohlkeonogpeaaMr0
import Derived.Test.YteohlkeonogpeaaMq19
import Derived.Test.YteohlkeonogpeaaMq18
import Derived.Test.YteohlkeonogpeaaMq17
import Derived.Test.YteohlkeonogpeaaMq16
import Derived.Test.YteohlkeonogpeaaMq15
import Derived.Test.YteohlkeonogpeaaMq14
import Derived.Test.YteohlkeonogpeaaMq13
import Derived.Test.YteohlkeonogpeaaMq12
import Derived.Test.YteohlkeonogpeaaMq11
import Derived.Test.YteohlkeonogpeaaMq10
import Derived.Test.YteohlkeonogpeaaMq9
import Derived.Test.YteohlkeonogpeaaMq8
import Derived.Test.YteohlkeonogpeaaMq7
import Derived.Test.YteohlkeonogpeaaMq6
import Derived.Test.YteohlkeonogpeaaMq5
import Derived.Test.YteohlkeonogpeaaMq4
import Derived.Test.YteohlkeonogpeaaMq3
import Derived.Test.YteohlkeonogpeaaMq2
import Derived.Test.YteohlkeonogpeaaMq1
namespace Go.Proofs.Yteohlkeonogpeaa
open Go.RowKit
namespace Pc
open Eng
set_option linter.unusedVariables false
set_option maxRecDepth 1000000
set_option maxHeartbeats 0
noncomputable def Mrw : CallF → CallF := fun c => callS [Mrm89, Mqm67, Mqm65, Mrm88, Mqm63, Mqm61, Mrm87, Mqm59, Mqm57, Mrm86, Mqm55, Mqm53, Mrm85, Mqm51, Mqm49, Mrm84, Mqm47, Mqm45, Mrm83, Mqm43, Mqm41, Mrm82, Mqm39, Mqm37, Mrm81, Mqm35, Mqm33, Mrm80, Mqm31, Mqm29, Mrm79, Mqm27, Mqm25, Mrm78, Mqm23, Mqm21, Mrm77, Mqm19, Mqm17, Mrm76, Mqm15, Mqm13, Mrm75, Mrm74, Mqm10, Mrm73, Mqm8, Mqm6, Mrm72, Mqm4, Mrm71, Mrm70, Mrm69, Mrm68] (callC Try.prog tab c)
theorem Mr_run : yes (callQ Try.prog noExt Mrw 100 4 [] .e 0) = true := by decide +kernel
/-- The law. -/
theorem Mr_law (w : World) : Calls Try.prog 4 #[] w fun e w' => e = .returned (.bool true) ∧ Below w.heap.size w w' := by
  obtain ⟨h, nx, e⟩ := yes_ok Mr_run
  exact closed_of (callF_ok mixed noExt_ok (noNum_ok nums) Mrw (fun _ h => callS_ok (callC_ok tab_ok (noNum_ok nums) h) _ (List.forall_mem_cons.2 ⟨Mrm89_ok, (List.forall_mem_cons.2 ⟨Mqm67_ok, (List.forall_mem_cons.2 ⟨Mqm65_ok, (List.forall_mem_cons.2 ⟨Mrm88_ok, (List.forall_mem_cons.2 ⟨Mqm63_ok, (List.forall_mem_cons.2 ⟨Mqm61_ok, (List.forall_mem_cons.2 ⟨Mrm87_ok, (List.forall_mem_cons.2 ⟨Mqm59_ok, (List.forall_mem_cons.2 ⟨Mqm57_ok, (List.forall_mem_cons.2 ⟨Mrm86_ok, (List.forall_mem_cons.2 ⟨Mqm55_ok, (List.forall_mem_cons.2 ⟨Mqm53_ok, (List.forall_mem_cons.2 ⟨Mrm85_ok, (List.forall_mem_cons.2 ⟨Mqm51_ok, (List.forall_mem_cons.2 ⟨Mqm49_ok, (List.forall_mem_cons.2 ⟨Mrm84_ok, (List.forall_mem_cons.2 ⟨Mqm47_ok, (List.forall_mem_cons.2 ⟨Mqm45_ok, (List.forall_mem_cons.2 ⟨Mrm83_ok, (List.forall_mem_cons.2 ⟨Mqm43_ok, (List.forall_mem_cons.2 ⟨Mqm41_ok, (List.forall_mem_cons.2 ⟨Mrm82_ok, (List.forall_mem_cons.2 ⟨Mqm39_ok, (List.forall_mem_cons.2 ⟨Mqm37_ok, (List.forall_mem_cons.2 ⟨Mrm81_ok, (List.forall_mem_cons.2 ⟨Mqm35_ok, (List.forall_mem_cons.2 ⟨Mqm33_ok, (List.forall_mem_cons.2 ⟨Mrm80_ok, (List.forall_mem_cons.2 ⟨Mqm31_ok, (List.forall_mem_cons.2 ⟨Mqm29_ok, (List.forall_mem_cons.2 ⟨Mrm79_ok, (List.forall_mem_cons.2 ⟨Mqm27_ok, (List.forall_mem_cons.2 ⟨Mqm25_ok, (List.forall_mem_cons.2 ⟨Mrm78_ok, (List.forall_mem_cons.2 ⟨Mqm23_ok, (List.forall_mem_cons.2 ⟨Mqm21_ok, (List.forall_mem_cons.2 ⟨Mrm77_ok, (List.forall_mem_cons.2 ⟨Mqm19_ok, (List.forall_mem_cons.2 ⟨Mqm17_ok, (List.forall_mem_cons.2 ⟨Mrm76_ok, (List.forall_mem_cons.2 ⟨Mqm15_ok, (List.forall_mem_cons.2 ⟨Mqm13_ok, (List.forall_mem_cons.2 ⟨Mrm75_ok, (List.forall_mem_cons.2 ⟨Mrm74_ok, (List.forall_mem_cons.2 ⟨Mqm10_ok, (List.forall_mem_cons.2 ⟨Mrm73_ok, (List.forall_mem_cons.2 ⟨Mqm8_ok, (List.forall_mem_cons.2 ⟨Mqm6_ok, (List.forall_mem_cons.2 ⟨Mrm72_ok, (List.forall_mem_cons.2 ⟨Mqm4_ok, (List.forall_mem_cons.2 ⟨Mrm71_ok, (List.forall_mem_cons.2 ⟨Mrm70_ok, (List.forall_mem_cons.2 ⟨Mrm69_ok, (List.forall_mem_cons.2 ⟨Mrm68_ok, (fun _ h => by cases h)⟩)⟩)⟩)⟩)⟩)⟩)⟩)⟩)⟩)⟩)⟩)⟩)⟩)⟩)⟩)⟩)⟩)⟩)⟩)⟩)⟩)⟩)⟩)⟩)⟩)⟩)⟩)⟩)⟩)⟩)⟩)⟩)⟩)⟩)⟩)⟩)⟩)⟩)⟩)⟩)⟩)⟩)⟩)⟩)⟩)⟩)⟩)⟩)⟩)⟩)⟩)⟩)⟩)⟩)) 100) e w
end Pc
end Go.Proofs.Yteohlkeonogpeaa
