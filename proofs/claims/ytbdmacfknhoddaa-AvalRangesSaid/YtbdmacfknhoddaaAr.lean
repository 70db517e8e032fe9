/-
  AvalRanges by the machine: a run for each of some sorts of numbers, and that each number is of one of them. No condition.
-/
import Derived.Test.YtbdmacfknhoddaaProg
import Derived.Test.YtbdmacfknhoddaaEng9b
import Derived.ProofKit
import Derived.OpenShut
namespace Go.Proofs.Ytbdmacfknhoddaa
open Go.RowKit Go.ChangeShapes Go.WideShapes Go.ChangeAt
namespace Ar
open Eng

set_option maxRecDepth 1000000
set_option maxHeartbeats 0
theorem mixed : Try.prog.follows .mixedOrders = true := by decide +kernel
theorem nums : noNum Try.prog = true := by decide +kernel
/-- The machine's call. -/
noncomputable def callA : CallF := callH Try.prog noExt .e id 60
theorem callA_ok : CallOK .e Try.prog callA := callH_ok mixed noExt_ok (noNum_ok nums) id (fun _ h => h) 60
theorem run0 : yes (callA 3 [.int .u64 0] .e 3) = true := by decide +kernel
theorem run1 : yes (callA 3 [.int .u64 1] .e 3) = true := by decide +kernel
theorem run2 : yes (callA 3 [.int .u64 2] .e 3) = true := by decide +kernel
theorem run3 : yes (callA 3 [.lin .u64 0 [(1, 1, 3, 2147483647)]] .e 3) = true := by decide +kernel
theorem run4 : yes (callA 3 [.lin .u64 2147483648 [(1, 1, 0, 2147483647)]] .e 3) = true := by decide +kernel
theorem run5 : yes (callA 3 [.lin .u64 0 [(4294967296, 2, 1, 4294967295), (1, 1, 0, 2147483647)]] .e 3) = true := by decide +kernel
theorem run6 : yes (callA 3 [.lin .u64 2147483648 [(4294967296, 2, 1, 4294967294), (1, 1, 0, 2147483647)]] .e 3) = true := by decide +kernel
theorem run7 : yes (callA 3 [.lin .u64 18446744071562067968 [(1, 1, 0, 2147483647)]] .e 3) = true := by decide +kernel
theorem of_run {a : AV} {n : Int} (r q : Int) (hrun : yes (callA 3 [a] .e 3) = true) (hv : VR (numsI [r, q]) a (.int .u64 n)) (w : World) :
    Calls Try.prog 3 #[.int .u64 n] w fun e w' => e = .returned (.bool true) ∧ Below w.heap.size w w' := by
  obtain ⟨h, nx, e⟩ := yes_ok hrun
  exact closed_nums callA_ok [r, q] (by kernel_rfl) e w (.cons hv .nil)
theorem lin1 {r q n c lo hi : Int} (h1 : lo ≤ r) (h2 : r ≤ hi) (e : n = c + r) : VR (numsI [r, q]) (.lin .u64 c [(1, 1, lo, hi)]) (.int .u64 n) := by
  have := VR.lin (I := numsI [r, q]) (k := .u64) (c := c) (.cons (c := 1) (numsI_at (l := [r, q]) (i := 0) rfl) h1 h2 .nil)
  rw [show c + (1 * r + 0) = n by omega] at this
  exact this
theorem lin2 {r q n c lo hi lo2 hi2 : Int} (h1 : lo ≤ r) (h2 : r ≤ hi) (h3 : lo2 ≤ q) (h4 : q ≤ hi2) (e : n = c + 4294967296 * q + r) : VR (numsI [r, q]) (.lin .u64 c [(4294967296, 2, lo2, hi2), (1, 1, lo, hi)]) (.int .u64 n) := by
  have := VR.lin (I := numsI [r, q]) (k := .u64) (c := c) (.cons (c := 4294967296) (numsI_at (l := [r, q]) (i := 1) rfl) h3 h4 (.cons (c := 1) (numsI_at (l := [r, q]) (i := 0) rfl) h1 h2 .nil))
  rw [show c + (4294967296 * q + (1 * r + 0)) = n by omega] at this
  exact this
/-- The law. -/
theorem ranges_law_wf (a0 : Int) (w : World) (h : (Lit.int .u64 a0).wf = true) :
    Calls Try.prog 3 #[.int .u64 a0] w fun e w' => e = .returned (.bool true) ∧ Below w.heap.size w w' := by
  have hw : 0 ≤ a0 ∧ a0 < 18446744073709551616 := by have := bounds_u64 h; omega
  by_cases h0 : a0 = 0
  · subst h0; exact of_run 0 0 run0 (.int _ _) w
  by_cases h1 : a0 = 1
  · subst h1; exact of_run 0 0 run1 (.int _ _) w
  by_cases h2 : a0 = 2
  · subst h2; exact of_run 0 0 run2 (.int _ _) w
  by_cases h3 : a0 < 2147483648
  · exact of_run a0 0 run3 (lin1 (by omega) (by omega) (by omega)) w
  by_cases h4 : a0 < 4294967296
  · exact of_run (a0 - 2147483648) 0 run4 (lin1 (by omega) (by omega) (by omega)) w
  by_cases h5 : a0 % 4294967296 < 2147483648
  · exact of_run (a0 % 4294967296) (a0 / 4294967296) run5 (lin2 (by omega) (by omega) (by omega) (by omega) (by omega)) w
  by_cases h6 : a0 < 18446744071562067968
  · exact of_run (a0 % 4294967296 - 2147483648) (a0 / 4294967296) run6 (lin2 (by omega) (by omega) (by omega) (by omega) (by omega)) w
  · exact of_run (a0 - 18446744071562067968) 0 run7 (lin1 (by omega) (by omega) (by omega)) w
end Ar
end Go.Proofs.Ytbdmacfknhoddaa
