/-
  PreadNumbers by the machine: a run for each of some sorts of numbers, and that all numbers are of one of them. No condition.
-/
import Derived.Test.YtgbddkgjdeflkaaGreatMrL0
import Derived.Test.YtgbddkgjdeflkaaGreatMrL1
import Derived.Test.YtgbddkgjdeflkaaGreatMrL2
import Derived.Test.YtgbddkgjdeflkaaGreatMrL3
import Derived.Test.YtgbddkgjdeflkaaGreatMrL4
import Derived.Test.YtgbddkgjdeflkaaGreatMrL5
import Derived.Test.YtgbddkgjdeflkaaGreatMrL6
import Derived.Test.YtgbddkgjdeflkaaGreatMrL7
import Derived.Test.YtgbddkgjdeflkaaGreatMrL8
import Derived.Test.YtgbddkgjdeflkaaGreatMrL9
import Derived.Test.YtgbddkgjdeflkaaGreatMrL10
import Derived.Test.YtgbddkgjdeflkaaGreatMrL11
import Derived.Test.YtgbddkgjdeflkaaGreatMrL12
import Derived.ProofKit
import Derived.OpenShut
namespace Go.Proofs.YtgbddkgjdeflkaaGreat
open Go.RowKit Go.ChangeShapes Go.WideShapes Go.ChangeAt
namespace Pd
open Eng
set_option maxRecDepth 1000000
set_option maxHeartbeats 0
theorem of_run {call : CallF} {a b : AV} {m n : Int} (x q r : Int) (hc : CallOK gl Tryz.prog call) (hrun : yes (call 3 [a, b] h0 4) = true) (hv : VR (numsI [x, q, r]) a (.int .i32 m)) (hw : VR (numsI [x, q, r]) b (.int .i64 n)) (w : World) :
    Calls Tryz.prog 3 #[.int .i32 m, .int .i64 n] w fun e w' => e = .returned (.bool true) ∧ Below w.heap.size w w' := by
  obtain ⟨h, nx, e⟩ := yes_ok hrun
  exact closed_nums hc [x, q, r] (by kernel_rfl) e w (.cons hv (.cons hw .nil))
theorem linA {x q r n lo hi : Int} (h1 : lo ≤ n) (h2 : n ≤ hi) (e : x = n) : VR (numsI [x, q, r]) (.lin .i32 0 [(1, 1, lo, hi)]) (.int .i32 n) := by
  subst e
  have := VR.lin (I := numsI [x, q, r]) (k := .i32) (c := 0) (.cons (c := 1) (numsI_at (l := [x, q, r]) (i := 0) rfl) h1 h2 .nil)
  rw [show 0 + (1 * x + 0) = x by omega] at this
  exact this
theorem linB1 {x q r n lo hi : Int} (h1 : lo ≤ r) (h2 : r ≤ hi) (e : n = r) : VR (numsI [x, q, r]) (.lin .i64 0 [(1, 3, lo, hi)]) (.int .i64 n) := by
  subst e
  have := VR.lin (I := numsI [x, q, n]) (k := .i64) (c := 0) (.cons (c := 1) (numsI_at (l := [x, q, n]) (i := 2) rfl) h1 h2 .nil)
  rw [show 0 + (1 * n + 0) = n by omega] at this
  exact this
theorem linB2 {x q r n c lo hi lo2 hi2 : Int} (h1 : lo ≤ r) (h2 : r ≤ hi) (h3 : lo2 ≤ q) (h4 : q ≤ hi2) (e : n = c + 4294967296 * q + r) : VR (numsI [x, q, r]) (.lin .i64 c [(4294967296, 2, lo2, hi2), (1, 3, lo, hi)]) (.int .i64 n) := by
  have := VR.lin (I := numsI [x, q, r]) (k := .i64) (c := c) (.cons (c := 4294967296) (numsI_at (l := [x, q, r]) (i := 1) rfl) h3 h4 (.cons (c := 1) (numsI_at (l := [x, q, r]) (i := 2) rfl) h1 h2 .nil))
  rw [show c + (4294967296 * q + (1 * r + 0)) = n by omega] at this
  exact this
/-- The law. -/
theorem numbers_law_wf (a0 a1 : Int) (w : World) (h0 : (Lit.int .i32 a0).wf = true) (h1 : (Lit.int .i64 a1).wf = true) :
    Calls Tryz.prog 3 #[.int .i32 a0, .int .i64 a1] w fun e w' => e = .returned (.bool true) ∧ Below w.heap.size w w' := by
  have ha := bounds_i32 h0
  have hb := bounds_i64 h1
  by_cases hz : a0 = 0
  · subst hz; exact of_run (a := .int .i32 0) (b := .anyi .i64) 0 0 0 Mr_ok10 Mr_run10 (.int _ _) .anyi w
  by_cases hy : a1 = 0
  · subst hy
    by_cases hp : 0 < a0
    · exact of_run (a := .lin .i32 0 [(1, 1, 1, 2147483647)]) (b := .int .i64 0) a0 0 0 Mr_ok11 Mr_run11 (linA (by omega) (by omega) rfl) (.int _ _) w
    · exact of_run (a := .lin .i32 0 [(1, 1, -2147483648, -1)]) (b := .int .i64 0) a0 0 0 Mr_ok12 Mr_run12 (linA (by omega) (by omega) rfl) (.int _ _) w
  by_cases hp : 0 < a0
  · by_cases c1 : a1 % 4294967296 < 2147483648
    · by_cases c2 : a1 < 0
      · exact of_run (a := .lin .i32 0 [(1, 1, 1, 2147483647)]) (b := .lin .i64 0 [(4294967296, 2, -2147483648, -1), (1, 3, 0, 2147483647)]) a0 (a1 / 4294967296) (a1 % 4294967296) Mr_ok3 Mr_run3 (linA (by omega) (by omega) rfl) (linB2 (by omega) (by omega) (by omega) (by omega) (by omega)) w
      · by_cases c3 : a1 < 4294967296
        · exact of_run (a := .lin .i32 0 [(1, 1, 1, 2147483647)]) (b := .lin .i64 0 [(1, 3, 1, 2147483647)]) a0 0 a1 Mr_ok1 Mr_run1 (linA (by omega) (by omega) rfl) (linB1 (by omega) (by omega) rfl) w
        · exact of_run (a := .lin .i32 0 [(1, 1, 1, 2147483647)]) (b := .lin .i64 0 [(4294967296, 2, 1, 2147483647), (1, 3, 0, 2147483647)]) a0 (a1 / 4294967296) (a1 % 4294967296) Mr_ok0 Mr_run0 (linA (by omega) (by omega) rfl) (linB2 (by omega) (by omega) (by omega) (by omega) (by omega)) w
    · by_cases c2 : a1 < 0
      · exact of_run (a := .lin .i32 0 [(1, 1, 1, 2147483647)]) (b := .lin .i64 2147483648 [(4294967296, 2, -2147483648, -1), (1, 3, 0, 2147483647)]) a0 (a1 / 4294967296) (a1 % 4294967296 - 2147483648) Mr_ok4 Mr_run4 (linA (by omega) (by omega) rfl) (linB2 (by omega) (by omega) (by omega) (by omega) (by omega)) w
      · exact of_run (a := .lin .i32 0 [(1, 1, 1, 2147483647)]) (b := .lin .i64 2147483648 [(4294967296, 2, 0, 2147483647), (1, 3, 0, 2147483647)]) a0 (a1 / 4294967296) (a1 % 4294967296 - 2147483648) Mr_ok2 Mr_run2 (linA (by omega) (by omega) rfl) (linB2 (by omega) (by omega) (by omega) (by omega) (by omega)) w
  · by_cases c1 : a1 % 4294967296 < 2147483648
    · by_cases c2 : a1 < 0
      · exact of_run (a := .lin .i32 0 [(1, 1, -2147483648, -1)]) (b := .lin .i64 0 [(4294967296, 2, -2147483648, -1), (1, 3, 0, 2147483647)]) a0 (a1 / 4294967296) (a1 % 4294967296) Mr_ok8 Mr_run8 (linA (by omega) (by omega) rfl) (linB2 (by omega) (by omega) (by omega) (by omega) (by omega)) w
      · by_cases c3 : a1 < 4294967296
        · exact of_run (a := .lin .i32 0 [(1, 1, -2147483648, -1)]) (b := .lin .i64 0 [(1, 3, 1, 2147483647)]) a0 0 a1 Mr_ok6 Mr_run6 (linA (by omega) (by omega) rfl) (linB1 (by omega) (by omega) rfl) w
        · exact of_run (a := .lin .i32 0 [(1, 1, -2147483648, -1)]) (b := .lin .i64 0 [(4294967296, 2, 1, 2147483647), (1, 3, 0, 2147483647)]) a0 (a1 / 4294967296) (a1 % 4294967296) Mr_ok5 Mr_run5 (linA (by omega) (by omega) rfl) (linB2 (by omega) (by omega) (by omega) (by omega) (by omega)) w
    · by_cases c2 : a1 < 0
      · exact of_run (a := .lin .i32 0 [(1, 1, -2147483648, -1)]) (b := .lin .i64 2147483648 [(4294967296, 2, -2147483648, -1), (1, 3, 0, 2147483647)]) a0 (a1 / 4294967296) (a1 % 4294967296 - 2147483648) Mr_ok9 Mr_run9 (linA (by omega) (by omega) rfl) (linB2 (by omega) (by omega) (by omega) (by omega) (by omega)) w
      · exact of_run (a := .lin .i32 0 [(1, 1, -2147483648, -1)]) (b := .lin .i64 2147483648 [(4294967296, 2, 0, 2147483647), (1, 3, 0, 2147483647)]) a0 (a1 / 4294967296) (a1 % 4294967296 - 2147483648) Mr_ok7 Mr_run7 (linA (by omega) (by omega) rfl) (linB2 (by omega) (by omega) (by omega) (by omega) (by omega)) w
end Pd
end Go.Proofs.YtgbddkgjdeflkaaGreat
