/-
  AcompForms by the machine. No condition.
-/
import Derived.Test.YtbdmacfknhoddaaProg
import Derived.Test.YtbdmacfknhoddaaEng9c
namespace Go.Proofs.Ytbdmacfknhoddaa
open Go.RowKit
namespace Ac
open Eng

set_option maxRecDepth 1000000
set_option maxHeartbeats 0
theorem mixed : Try.prog.follows .mixedOrders = true := by decide +kernel
theorem nums : noNum Try.prog = true := by decide +kernel
noncomputable def wrap : CallF → CallF := fun c => rngW Try.prog noExt .e 26 [9, 10, 55, 56, 57, 58, 59, 60, 61, 62, 63] c
/-- The machine's call. -/
noncomputable def callA : CallF := callH Try.prog noExt .e wrap 60
theorem callA_ok : CallOK .e Try.prog callA := callH_ok mixed noExt_ok (noNum_ok nums) wrap (fun _ h => rngW_ok mixed h noExt_ok (noNum_ok nums) _ _) 60
theorem acomp_run : yes (callA 4 [] .e 0) = true := by decide +kernel
/-- The law. -/
theorem acomp_law_wf (w : World) : Calls Try.prog 4 #[] w fun e w' => e = .returned (.bool true) ∧ Below w.heap.size w w' := by
  obtain ⟨h, nx, e⟩ := yes_ok acomp_run
  exact closed_of callA_ok (by kernel_rfl) e w
end Ac
end Go.Proofs.Ytbdmacfknhoddaa
