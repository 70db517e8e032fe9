/-
  What the machine asks of the program; AdecForms by the machine. No condition.
-/
import Derived.Test.YteohlkeonogpeaaProg
import Derived.Test.YteohlkeonogpeaaEng6
namespace Go.Proofs.Yteohlkeonogpeaa
open Go.RowKit
namespace Ad
open Eng

set_option maxRecDepth 1000000
set_option maxHeartbeats 0
theorem mixed : Try.prog.follows .mixedOrders = true := by decide +kernel
theorem nums : noNum Try.prog = true := by decide +kernel
/-- The machine's call. -/
noncomputable def callA : CallF := callQ Try.prog noExt id 60
theorem callA_ok : CallOK .e Try.prog callA := callF_ok mixed noExt_ok (noNum_ok nums) id (fun _ h => h) 60
theorem adec_run : yes (callA 5 [] .e 0) = true := by decide +kernel
/-- The law. -/
theorem adec_law_wf (w : World) : Calls Try.prog 5 #[] w fun e w' => e = .returned (.bool true) ∧ Below w.heap.size w w' := by
  obtain ⟨h, nx, e⟩ := yes_ok adec_run
  exact closed_of callA_ok e w
end Ad
end Go.Proofs.Yteohlkeonogpeaa
