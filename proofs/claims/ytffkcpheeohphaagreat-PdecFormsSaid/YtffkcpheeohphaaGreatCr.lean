/-
  What the machine asks of the program; begun of layers 16, 26, 29 by the machine. No condition.
-/
import Derived.Test.YtffkcpheeohphaaGreatProg
import Derived.Test.YtffkcpheeohphaaGreatEng6
namespace Go.Proofs.YtffkcpheeohphaaGreat
open Go.RowKit
namespace Cr
open Eng

set_option maxRecDepth 1000000
set_option maxHeartbeats 0
theorem mixed : Tryz.prog.follows .mixedOrders = true := by decide +kernel
theorem nums : noNum Tryz.prog = true := by decide +kernel
/-- The machine's call. -/
noncomputable def callA : CallF := callQ Tryz.prog noExt id 100
theorem callA_ok : CallOK .e Tryz.prog callA := callF_ok mixed noExt_ok (noNum_ok nums) id (fun _ h => h) 100
theorem begun16_run : yes (callA 4 [] .e 0) = true := by decide +kernel
theorem begun16 (w : World) : Calls Tryz.prog 4 #[] w fun e w' => e = .returned (.bool true) ∧ Below w.heap.size w w' := by
  obtain ⟨h, nx, e⟩ := yes_ok begun16_run
  exact closed_of callA_ok (by kernel_rfl) e w
/-- Calls, of which begun is proved. -/
noncomputable def tab : List (Nat × Bool) := [(4, true)]
theorem tab_ok : TabOK Tryz.prog tab := fun f b hm w => by
  simp only [tab, List.mem_cons, List.not_mem_nil, or_false, Prod.mk.injEq] at hm
  obtain ⟨rfl, rfl⟩ := hm
  exact begun16 w
noncomputable def callB : CallF := callQ Tryz.prog noExt (callC Tryz.prog tab) 100
theorem callB_ok : CallOK .e Tryz.prog callB := callF_ok mixed noExt_ok (noNum_ok nums) (callC Tryz.prog tab) (fun _ h => callC_ok tab_ok (noNum_ok nums) h) 100
end Cr
end Go.Proofs.YtffkcpheeohphaaGreat
