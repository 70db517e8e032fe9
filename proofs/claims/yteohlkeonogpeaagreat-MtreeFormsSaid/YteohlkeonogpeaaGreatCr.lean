/-
  What the machine asks of the program; begun of layers 16, 26, 29 by the machine. No condition.
-/
import Derived.Test.YteohlkeonogpeaaGreatProg
import Derived.Test.YteohlkeonogpeaaGreatEng6
namespace Go.Proofs.YteohlkeonogpeaaGreat
open Go.RowKit
namespace Cr
open Eng

set_option maxRecDepth 1000000
set_option maxHeartbeats 0
theorem mixed : Tryz.prog.follows .mixedOrders = true := by decide +kernel
theorem nums : noNum Tryz.prog = true := by decide +kernel
/-- The machine's call. -/
noncomputable def callA : CallF := callQ Tryz.prog noExt id 100
theorem callA_ok : CallOK .e Tryz.prog callA := callF_ok mixed noExt_ok (noNum_ok nums) id (fun _ h => h) 100
theorem begun16_run : yes (callA 6 [] .e 0) = true := by decide +kernel
theorem begun16 (w : World) : Calls Tryz.prog 6 #[] w fun e w' => e = .returned (.bool true) ∧ Below w.heap.size w w' := by
  obtain ⟨h, nx, e⟩ := yes_ok begun16_run
  exact closed_of callA_ok e w
theorem begun26_run : yes (callA 10 [] .e 0) = true := by decide +kernel
theorem begun26 (w : World) : Calls Tryz.prog 10 #[] w fun e w' => e = .returned (.bool true) ∧ Below w.heap.size w w' := by
  obtain ⟨h, nx, e⟩ := yes_ok begun26_run
  exact closed_of callA_ok e w
theorem begun29_run : yes (callA 15 [] .e 0) = true := by decide +kernel
theorem begun29 (w : World) : Calls Tryz.prog 15 #[] w fun e w' => e = .returned (.bool true) ∧ Below w.heap.size w w' := by
  obtain ⟨h, nx, e⟩ := yes_ok begun29_run
  exact closed_of callA_ok e w
/-- Calls, of which begun is proved. -/
noncomputable def tab : List (Nat × Bool) := [(6, true), (10, true), (15, true)]
theorem tab_ok : TabOK Tryz.prog tab := fun f b hm w => by
  simp only [tab, List.mem_cons, List.not_mem_nil, or_false, Prod.mk.injEq] at hm
  rcases hm with ⟨rfl, rfl⟩ | ⟨rfl, rfl⟩ | ⟨rfl, rfl⟩
  · exact begun16 w
  · exact begun26 w
  · exact begun29 w
noncomputable def callB : CallF := callQ Tryz.prog noExt (callC Tryz.prog tab) 100
theorem callB_ok : CallOK .e Tryz.prog callB := callF_ok mixed noExt_ok (noNum_ok nums) (callC Tryz.prog tab) (fun _ h => callC_ok tab_ok (noNum_ok nums) h) 100
end Cr
end Go.Proofs.YteohlkeonogpeaaGreat
