/-
  What the machine asks of the program; begun of layer 18 by the machine. No condition.
-/
import Derived.Test.YteohlkeonogpeaaProg
import Derived.Test.YteohlkeonogpeaaEng6
namespace Go.Proofs.Yteohlkeonogpeaa
open Go.RowKit
namespace Pc
open Eng

set_option maxRecDepth 1000000
set_option maxHeartbeats 0
theorem mixed : Try.prog.follows .mixedOrders = true := by decide +kernel
theorem nums : noNum Try.prog = true := by decide +kernel
/-- The machine's call. -/
noncomputable def callA : CallF := callQ Try.prog noExt id 100
theorem callA_ok : CallOK .e Try.prog callA := callF_ok mixed noExt_ok (noNum_ok nums) id (fun _ h => h) 100
theorem begun18_run : yes (callA 8 [] .e 0) = true := by decide +kernel
theorem begun18 (w : World) : Calls Try.prog 8 #[] w fun e w' => e = .returned (.bool true) ∧ Below w.heap.size w w' := by
  obtain ⟨h, nx, e⟩ := yes_ok begun18_run
  exact closed_of callA_ok e w
/-- Calls, of which begun is proved. -/
noncomputable def tab : List (Nat × Bool) := [(8, true)]
theorem tab_ok : TabOK Try.prog tab := fun f b hm w => by
  simp only [tab, List.mem_cons, List.not_mem_nil, or_false, Prod.mk.injEq] at hm
  obtain ⟨rfl, rfl⟩ := hm
  exact begun18 w
noncomputable def callB : CallF := callQ Try.prog noExt (callC Try.prog tab) 100
theorem callB_ok : CallOK .e Try.prog callB := callF_ok mixed noExt_ok (noNum_ok nums) (callC Try.prog tab) (fun _ h => callC_ok tab_ok (noNum_ok nums) h) 100
end Pc
end Go.Proofs.Yteohlkeonogpeaa
