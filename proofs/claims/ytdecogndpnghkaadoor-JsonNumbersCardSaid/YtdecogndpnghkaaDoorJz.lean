/-
  The law of whole numbers, called: it returns true, what lay there stands. Its condition: the two errors hold something.
-/
import Derived.Test.YtdecogndpnghkaaDoorJy
import Derived.Test.YtdecogndpnghkaaDoorJs
import Derived.OpenShut
namespace Go.Proofs.YtdecogndpnghkaaDoor
open Go.ChangeShapes Go.WideShapes Go.ChangeAt Go.RowKit
namespace Jn
set_option linter.unusedVariables false
set_option linter.unusedSimpArgs false
theorem Bl.th {w W W' : World} (h : Below w.heap.size w W) (k : Below W.heap.size W W') : Below w.heap.size w W' := h.trans (k.mono h.size)
theorem Bl.al {w W : World} (h : Below w.heap.size w W) (o : Obj) : Below w.heap.size w (W.alloc o) := h.alloc h.size o
set_option maxHeartbeats 4000000 in
set_option maxRecDepth 100000 in
theorem law_a0 (v : Int) (z m : Nat) (h1 : -9223372036854775808 ≤ v) (h2 : v ≤ 9223372036854775807) (hz : z < 256) (hm : m < 256) (hj : ((m : Int) % 6) = 0) (hv : v ≤ 0) (w : World) (hw : Js.Laid w) :
    Calls Tryd.prog 5 #[.int .i64 v, .int .u8 (z : Int), .int .u8 (m : Int)] w fun e w' => e = .returned (.bool true) ∧ Below w.heap.size w w' := by
  have cB := Lib.hid (Js.begun6 w hw)
  have cP := Lib.hid (fun W => print_any v h1 h2 W)
  have cK := Lib.hid (fun W => parse_tens_ok v h1 h2 W)
  have cM := Lib.hid (show ∀ W, Calls Tryd.prog 8 #[.string (bin (tens v) ++ ⟨#[46, 48]⟩)] W fun e w' => e = .returned (.tuple #[node 0 0, .int .i64 2]) ∧ Below W.heap.size W w' from fun W => parse_tens_more v h1 h2 [46, 48] rfl (by decide) (by decide) W)
  have hT : (bin (tens v)).size ≤ 21 := by rw [bin_size]; exact tens_len h1 h2
  have hTi : ((bin (tens v)).size : Int) ≤ 21 := by omega
  have hTs : ((bin (tens v)).size : Int) + 1 ≤ 22 := by omega
  have hTt : ((bin (tens v)).size : Int) + 2 ≤ 23 := by omega
  have hvi : (v ≤ 0) = True := eq_true hv
  go_enter Tryd.func5, Tryd.ntmps5
  go_wp2_with (first
    | (go_at_call 7; (with_reducible refine (cB.out).mono ?_); rintro e w2 ⟨rfl, hb2⟩)
    | (go_at_call 14; (with_reducible refine (cP.out _).mono ?_); rintro e w3 ⟨rfl, hb3⟩)
    | (go_at_call 8; (with_reducible refine (cK.out _).mono ?_); rintro e w4 ⟨rfl, hb4⟩)
    | (go_at_call 8; (with_reducible refine (cM.out _).mono ?_); rintro e w5 ⟨rfl, hb5⟩))
  go_ret
  exact ⟨rfl, by
    repeat (first | exact hb2 | refine Bl.al ?_ _ | refine Bl.th ?_ hb5 | refine Bl.th ?_ hb4 | refine Bl.th ?_ hb3)⟩
set_option maxHeartbeats 4000000 in
set_option maxRecDepth 100000 in
theorem law_b0 (v : Int) (z m : Nat) (h1 : -9223372036854775808 ≤ v) (h2 : v ≤ 9223372036854775807) (hz : z < 256) (hm : m < 256) (hj : ((m : Int) % 6) = 0) (hv : 0 < v) (hz3 : ((z : Int) % 3) = 0) (w : World) (hw : Js.Laid w) :
    Calls Tryd.prog 5 #[.int .i64 v, .int .u8 (z : Int), .int .u8 (m : Int)] w fun e w' => e = .returned (.bool true) ∧ Below w.heap.size w w' := by
  have cB := Lib.hid (Js.begun6 w hw)
  have cP := Lib.hid (fun W => print_any v h1 h2 W)
  have cK := Lib.hid (fun W => parse_tens_ok v h1 h2 W)
  have cM := Lib.hid (show ∀ W, Calls Tryd.prog 8 #[.string (bin (tens v) ++ ⟨#[46, 48]⟩)] W fun e w' => e = .returned (.tuple #[node 0 0, .int .i64 2]) ∧ Below W.heap.size W w' from fun W => parse_tens_more v h1 h2 [46, 48] rfl (by decide) (by decide) W)
  have hT : (bin (tens v)).size ≤ 21 := by rw [bin_size]; exact tens_len h1 h2
  have hTi : ((bin (tens v)).size : Int) ≤ 21 := by omega
  have hTs : ((bin (tens v)).size : Int) + 1 ≤ 22 := by omega
  have hTt : ((bin (tens v)).size : Int) + 2 ≤ 23 := by omega
  have hvi : (v ≤ 0) = False := eq_false (by omega)
  have hvn : ¬ (v ≤ 0) := by omega
  go_enter Tryd.func5, Tryd.ntmps5
  go_wp2_with (first
    | (go_at_call 7; (with_reducible refine (cB.out).mono ?_); rintro e w2 ⟨rfl, hb2⟩)
    | (go_at_call 14; (with_reducible refine (cP.out _).mono ?_); rintro e w3 ⟨rfl, hb3⟩)
    | (go_at_call 8; (with_reducible refine (cK.out _).mono ?_); rintro e w4 ⟨rfl, hb4⟩)
    | (go_at_call 8; (with_reducible refine (cM.out _).mono ?_); rintro e w5 ⟨rfl, hb5⟩))
  go_ret
  exact ⟨rfl, by
    repeat (first | exact hb2 | refine Bl.al ?_ _ | refine Bl.th ?_ hb5 | refine Bl.th ?_ hb4 | refine Bl.th ?_ hb3)⟩
set_option maxHeartbeats 4000000 in
set_option maxRecDepth 100000 in
theorem law_c0 (v : Int) (z m : Nat) (h1 : -9223372036854775808 ≤ v) (h2 : v ≤ 9223372036854775807) (hz : z < 256) (hm : m < 256) (hj : ((m : Int) % 6) = 0) (hv : 0 < v) (hz3 : ¬ ((z : Int) % 3) = 0) (w : World) (hw : Js.Laid w) :
    Calls Tryd.prog 5 #[.int .i64 v, .int .u8 (z : Int), .int .u8 (m : Int)] w fun e w' => e = .returned (.bool true) ∧ Below w.heap.size w w' := by
  have cB := Lib.hid (Js.begun6 w hw)
  have cP := Lib.hid (fun W => print_any v h1 h2 W)
  have cK := Lib.hid (fun W => parse_tens_ok v h1 h2 W)
  have cM := Lib.hid (show ∀ W, Calls Tryd.prog 8 #[.string (bin (tens v) ++ ⟨#[46, 48]⟩)] W fun e w' => e = .returned (.tuple #[node 0 0, .int .i64 2]) ∧ Below W.heap.size W w' from fun W => parse_tens_more v h1 h2 [46, 48] rfl (by decide) (by decide) W)
  have hT : (bin (tens v)).size ≤ 21 := by rw [bin_size]; exact tens_len h1 h2
  have hTi : ((bin (tens v)).size : Int) ≤ 21 := by omega
  have hTs : ((bin (tens v)).size : Int) + 1 ≤ 22 := by omega
  have hTt : ((bin (tens v)).size : Int) + 2 ≤ 23 := by omega
  have hvi : (v ≤ 0) = False := eq_false (by omega)
  have hvn : ¬ (v ≤ 0) := by omega
  have hzb : (((z : Int) % 3) == 0) = false := by rw [beq_eq_false_iff_ne]; exact hz3
  have ht : tens v = dec v.natAbs := by unfold tens; rw [if_neg (by omega)]
  have cQ := Lib.hid (show ∀ W, Calls Tryd.prog 8 #[.string (⟨#[48]⟩ ++ bin (tens v))] W fun e w' => e = .returned (.tuple #[node 0 0, .int .i64 2]) ∧ Below W.heap.size W w' from fun W => by rw [ht]; exact parse_nought v.natAbs (by omega) W)
  have cS := Lib.hid (show ∀ W, Calls Tryd.prog 8 #[.string (⟨#[43]⟩ ++ bin (tens v))] W fun e w' => e = .returned (.tuple #[node 0 0, .int .i64 2]) ∧ Below W.heap.size W w' from fun W => parse_plus (tens v) (by have := tens_len h1 h2; omega) W)
  clear ht
  go_enter Tryd.func5, Tryd.ntmps5
  go_wp2_with (first
    | (go_at_call 7; (with_reducible refine (cB.out).mono ?_); rintro e w2 ⟨rfl, hb2⟩)
    | (go_at_call 14; (with_reducible refine (cP.out _).mono ?_); rintro e w3 ⟨rfl, hb3⟩)
    | (go_at_call 8; (with_reducible refine (cK.out _).mono ?_); rintro e w4 ⟨rfl, hb4⟩)
    | (go_at_call 8; (with_reducible refine (cM.out _).mono ?_); rintro e w5 ⟨rfl, hb5⟩)
    | (go_at_call 8; (with_reducible refine (cQ.out _).mono ?_); rintro e w6 ⟨rfl, hb6⟩)
    | (go_at_call 8; (with_reducible refine (cS.out _).mono ?_); rintro e w7 ⟨rfl, hb7⟩))
  go_ret
  exact ⟨rfl, by
    repeat (first | exact hb2 | refine Bl.al ?_ _ | refine Bl.th ?_ hb7 | refine Bl.th ?_ hb6 | refine Bl.th ?_ hb5 | refine Bl.th ?_ hb4 | refine Bl.th ?_ hb3)⟩
set_option maxHeartbeats 4000000 in
set_option maxRecDepth 100000 in
theorem law_a1 (v : Int) (z m : Nat) (h1 : -9223372036854775808 ≤ v) (h2 : v ≤ 9223372036854775807) (hz : z < 256) (hm : m < 256) (hj : ((m : Int) % 6) = 1) (hv : v ≤ 0) (w : World) (hw : Js.Laid w) :
    Calls Tryd.prog 5 #[.int .i64 v, .int .u8 (z : Int), .int .u8 (m : Int)] w fun e w' => e = .returned (.bool true) ∧ Below w.heap.size w w' := by
  have cB := Lib.hid (Js.begun6 w hw)
  have cP := Lib.hid (fun W => print_any v h1 h2 W)
  have cK := Lib.hid (fun W => parse_tens_ok v h1 h2 W)
  have cM := Lib.hid (show ∀ W, Calls Tryd.prog 8 #[.string (bin (tens v) ++ ⟨#[101, 49]⟩)] W fun e w' => e = .returned (.tuple #[node 0 0, .int .i64 2]) ∧ Below W.heap.size W w' from fun W => parse_tens_more v h1 h2 [101, 49] rfl (by decide) (by decide) W)
  have hT : (bin (tens v)).size ≤ 21 := by rw [bin_size]; exact tens_len h1 h2
  have hTi : ((bin (tens v)).size : Int) ≤ 21 := by omega
  have hTs : ((bin (tens v)).size : Int) + 1 ≤ 22 := by omega
  have hTt : ((bin (tens v)).size : Int) + 2 ≤ 23 := by omega
  have hvi : (v ≤ 0) = True := eq_true hv
  go_enter Tryd.func5, Tryd.ntmps5
  go_wp2_with (first
    | (go_at_call 7; (with_reducible refine (cB.out).mono ?_); rintro e w2 ⟨rfl, hb2⟩)
    | (go_at_call 14; (with_reducible refine (cP.out _).mono ?_); rintro e w3 ⟨rfl, hb3⟩)
    | (go_at_call 8; (with_reducible refine (cK.out _).mono ?_); rintro e w4 ⟨rfl, hb4⟩)
    | (go_at_call 8; (with_reducible refine (cM.out _).mono ?_); rintro e w5 ⟨rfl, hb5⟩))
  go_ret
  exact ⟨rfl, by
    repeat (first | exact hb2 | refine Bl.al ?_ _ | refine Bl.th ?_ hb5 | refine Bl.th ?_ hb4 | refine Bl.th ?_ hb3)⟩
set_option maxHeartbeats 4000000 in
set_option maxRecDepth 100000 in
theorem law_b1 (v : Int) (z m : Nat) (h1 : -9223372036854775808 ≤ v) (h2 : v ≤ 9223372036854775807) (hz : z < 256) (hm : m < 256) (hj : ((m : Int) % 6) = 1) (hv : 0 < v) (hz3 : ((z : Int) % 3) = 0) (w : World) (hw : Js.Laid w) :
    Calls Tryd.prog 5 #[.int .i64 v, .int .u8 (z : Int), .int .u8 (m : Int)] w fun e w' => e = .returned (.bool true) ∧ Below w.heap.size w w' := by
  have cB := Lib.hid (Js.begun6 w hw)
  have cP := Lib.hid (fun W => print_any v h1 h2 W)
  have cK := Lib.hid (fun W => parse_tens_ok v h1 h2 W)
  have cM := Lib.hid (show ∀ W, Calls Tryd.prog 8 #[.string (bin (tens v) ++ ⟨#[101, 49]⟩)] W fun e w' => e = .returned (.tuple #[node 0 0, .int .i64 2]) ∧ Below W.heap.size W w' from fun W => parse_tens_more v h1 h2 [101, 49] rfl (by decide) (by decide) W)
  have hT : (bin (tens v)).size ≤ 21 := by rw [bin_size]; exact tens_len h1 h2
  have hTi : ((bin (tens v)).size : Int) ≤ 21 := by omega
  have hTs : ((bin (tens v)).size : Int) + 1 ≤ 22 := by omega
  have hTt : ((bin (tens v)).size : Int) + 2 ≤ 23 := by omega
  have hvi : (v ≤ 0) = False := eq_false (by omega)
  have hvn : ¬ (v ≤ 0) := by omega
  go_enter Tryd.func5, Tryd.ntmps5
  go_wp2_with (first
    | (go_at_call 7; (with_reducible refine (cB.out).mono ?_); rintro e w2 ⟨rfl, hb2⟩)
    | (go_at_call 14; (with_reducible refine (cP.out _).mono ?_); rintro e w3 ⟨rfl, hb3⟩)
    | (go_at_call 8; (with_reducible refine (cK.out _).mono ?_); rintro e w4 ⟨rfl, hb4⟩)
    | (go_at_call 8; (with_reducible refine (cM.out _).mono ?_); rintro e w5 ⟨rfl, hb5⟩))
  go_ret
  exact ⟨rfl, by
    repeat (first | exact hb2 | refine Bl.al ?_ _ | refine Bl.th ?_ hb5 | refine Bl.th ?_ hb4 | refine Bl.th ?_ hb3)⟩
set_option maxHeartbeats 4000000 in
set_option maxRecDepth 100000 in
theorem law_c1 (v : Int) (z m : Nat) (h1 : -9223372036854775808 ≤ v) (h2 : v ≤ 9223372036854775807) (hz : z < 256) (hm : m < 256) (hj : ((m : Int) % 6) = 1) (hv : 0 < v) (hz3 : ¬ ((z : Int) % 3) = 0) (w : World) (hw : Js.Laid w) :
    Calls Tryd.prog 5 #[.int .i64 v, .int .u8 (z : Int), .int .u8 (m : Int)] w fun e w' => e = .returned (.bool true) ∧ Below w.heap.size w w' := by
  have cB := Lib.hid (Js.begun6 w hw)
  have cP := Lib.hid (fun W => print_any v h1 h2 W)
  have cK := Lib.hid (fun W => parse_tens_ok v h1 h2 W)
  have cM := Lib.hid (show ∀ W, Calls Tryd.prog 8 #[.string (bin (tens v) ++ ⟨#[101, 49]⟩)] W fun e w' => e = .returned (.tuple #[node 0 0, .int .i64 2]) ∧ Below W.heap.size W w' from fun W => parse_tens_more v h1 h2 [101, 49] rfl (by decide) (by decide) W)
  have hT : (bin (tens v)).size ≤ 21 := by rw [bin_size]; exact tens_len h1 h2
  have hTi : ((bin (tens v)).size : Int) ≤ 21 := by omega
  have hTs : ((bin (tens v)).size : Int) + 1 ≤ 22 := by omega
  have hTt : ((bin (tens v)).size : Int) + 2 ≤ 23 := by omega
  have hvi : (v ≤ 0) = False := eq_false (by omega)
  have hvn : ¬ (v ≤ 0) := by omega
  have hzb : (((z : Int) % 3) == 0) = false := by rw [beq_eq_false_iff_ne]; exact hz3
  have ht : tens v = dec v.natAbs := by unfold tens; rw [if_neg (by omega)]
  have cQ := Lib.hid (show ∀ W, Calls Tryd.prog 8 #[.string (⟨#[48]⟩ ++ bin (tens v))] W fun e w' => e = .returned (.tuple #[node 0 0, .int .i64 2]) ∧ Below W.heap.size W w' from fun W => by rw [ht]; exact parse_nought v.natAbs (by omega) W)
  have cS := Lib.hid (show ∀ W, Calls Tryd.prog 8 #[.string (⟨#[43]⟩ ++ bin (tens v))] W fun e w' => e = .returned (.tuple #[node 0 0, .int .i64 2]) ∧ Below W.heap.size W w' from fun W => parse_plus (tens v) (by have := tens_len h1 h2; omega) W)
  clear ht
  go_enter Tryd.func5, Tryd.ntmps5
  go_wp2_with (first
    | (go_at_call 7; (with_reducible refine (cB.out).mono ?_); rintro e w2 ⟨rfl, hb2⟩)
    | (go_at_call 14; (with_reducible refine (cP.out _).mono ?_); rintro e w3 ⟨rfl, hb3⟩)
    | (go_at_call 8; (with_reducible refine (cK.out _).mono ?_); rintro e w4 ⟨rfl, hb4⟩)
    | (go_at_call 8; (with_reducible refine (cM.out _).mono ?_); rintro e w5 ⟨rfl, hb5⟩)
    | (go_at_call 8; (with_reducible refine (cQ.out _).mono ?_); rintro e w6 ⟨rfl, hb6⟩)
    | (go_at_call 8; (with_reducible refine (cS.out _).mono ?_); rintro e w7 ⟨rfl, hb7⟩))
  go_ret
  exact ⟨rfl, by
    repeat (first | exact hb2 | refine Bl.al ?_ _ | refine Bl.th ?_ hb7 | refine Bl.th ?_ hb6 | refine Bl.th ?_ hb5 | refine Bl.th ?_ hb4 | refine Bl.th ?_ hb3)⟩
set_option maxHeartbeats 4000000 in
set_option maxRecDepth 100000 in
theorem law_a2 (v : Int) (z m : Nat) (h1 : -9223372036854775808 ≤ v) (h2 : v ≤ 9223372036854775807) (hz : z < 256) (hm : m < 256) (hj : ((m : Int) % 6) = 2) (hv : v ≤ 0) (w : World) (hw : Js.Laid w) :
    Calls Tryd.prog 5 #[.int .i64 v, .int .u8 (z : Int), .int .u8 (m : Int)] w fun e w' => e = .returned (.bool true) ∧ Below w.heap.size w w' := by
  have cB := Lib.hid (Js.begun6 w hw)
  have cP := Lib.hid (fun W => print_any v h1 h2 W)
  have cK := Lib.hid (fun W => parse_tens_ok v h1 h2 W)
  have cM := Lib.hid (show ∀ W, Calls Tryd.prog 8 #[.string (bin (tens v) ++ ⟨#[69, 53]⟩)] W fun e w' => e = .returned (.tuple #[node 0 0, .int .i64 2]) ∧ Below W.heap.size W w' from fun W => parse_tens_more v h1 h2 [69, 53] rfl (by decide) (by decide) W)
  have hT : (bin (tens v)).size ≤ 21 := by rw [bin_size]; exact tens_len h1 h2
  have hTi : ((bin (tens v)).size : Int) ≤ 21 := by omega
  have hTs : ((bin (tens v)).size : Int) + 1 ≤ 22 := by omega
  have hTt : ((bin (tens v)).size : Int) + 2 ≤ 23 := by omega
  have hvi : (v ≤ 0) = True := eq_true hv
  go_enter Tryd.func5, Tryd.ntmps5
  go_wp2_with (first
    | (go_at_call 7; (with_reducible refine (cB.out).mono ?_); rintro e w2 ⟨rfl, hb2⟩)
    | (go_at_call 14; (with_reducible refine (cP.out _).mono ?_); rintro e w3 ⟨rfl, hb3⟩)
    | (go_at_call 8; (with_reducible refine (cK.out _).mono ?_); rintro e w4 ⟨rfl, hb4⟩)
    | (go_at_call 8; (with_reducible refine (cM.out _).mono ?_); rintro e w5 ⟨rfl, hb5⟩))
  go_ret
  exact ⟨rfl, by
    repeat (first | exact hb2 | refine Bl.al ?_ _ | refine Bl.th ?_ hb5 | refine Bl.th ?_ hb4 | refine Bl.th ?_ hb3)⟩
set_option maxHeartbeats 4000000 in
set_option maxRecDepth 100000 in
theorem law_b2 (v : Int) (z m : Nat) (h1 : -9223372036854775808 ≤ v) (h2 : v ≤ 9223372036854775807) (hz : z < 256) (hm : m < 256) (hj : ((m : Int) % 6) = 2) (hv : 0 < v) (hz3 : ((z : Int) % 3) = 0) (w : World) (hw : Js.Laid w) :
    Calls Tryd.prog 5 #[.int .i64 v, .int .u8 (z : Int), .int .u8 (m : Int)] w fun e w' => e = .returned (.bool true) ∧ Below w.heap.size w w' := by
  have cB := Lib.hid (Js.begun6 w hw)
  have cP := Lib.hid (fun W => print_any v h1 h2 W)
  have cK := Lib.hid (fun W => parse_tens_ok v h1 h2 W)
  have cM := Lib.hid (show ∀ W, Calls Tryd.prog 8 #[.string (bin (tens v) ++ ⟨#[69, 53]⟩)] W fun e w' => e = .returned (.tuple #[node 0 0, .int .i64 2]) ∧ Below W.heap.size W w' from fun W => parse_tens_more v h1 h2 [69, 53] rfl (by decide) (by decide) W)
  have hT : (bin (tens v)).size ≤ 21 := by rw [bin_size]; exact tens_len h1 h2
  have hTi : ((bin (tens v)).size : Int) ≤ 21 := by omega
  have hTs : ((bin (tens v)).size : Int) + 1 ≤ 22 := by omega
  have hTt : ((bin (tens v)).size : Int) + 2 ≤ 23 := by omega
  have hvi : (v ≤ 0) = False := eq_false (by omega)
  have hvn : ¬ (v ≤ 0) := by omega
  go_enter Tryd.func5, Tryd.ntmps5
  go_wp2_with (first
    | (go_at_call 7; (with_reducible refine (cB.out).mono ?_); rintro e w2 ⟨rfl, hb2⟩)
    | (go_at_call 14; (with_reducible refine (cP.out _).mono ?_); rintro e w3 ⟨rfl, hb3⟩)
    | (go_at_call 8; (with_reducible refine (cK.out _).mono ?_); rintro e w4 ⟨rfl, hb4⟩)
    | (go_at_call 8; (with_reducible refine (cM.out _).mono ?_); rintro e w5 ⟨rfl, hb5⟩))
  go_ret
  exact ⟨rfl, by
    repeat (first | exact hb2 | refine Bl.al ?_ _ | refine Bl.th ?_ hb5 | refine Bl.th ?_ hb4 | refine Bl.th ?_ hb3)⟩
set_option maxHeartbeats 4000000 in
set_option maxRecDepth 100000 in
theorem law_c2 (v : Int) (z m : Nat) (h1 : -9223372036854775808 ≤ v) (h2 : v ≤ 9223372036854775807) (hz : z < 256) (hm : m < 256) (hj : ((m : Int) % 6) = 2) (hv : 0 < v) (hz3 : ¬ ((z : Int) % 3) = 0) (w : World) (hw : Js.Laid w) :
    Calls Tryd.prog 5 #[.int .i64 v, .int .u8 (z : Int), .int .u8 (m : Int)] w fun e w' => e = .returned (.bool true) ∧ Below w.heap.size w w' := by
  have cB := Lib.hid (Js.begun6 w hw)
  have cP := Lib.hid (fun W => print_any v h1 h2 W)
  have cK := Lib.hid (fun W => parse_tens_ok v h1 h2 W)
  have cM := Lib.hid (show ∀ W, Calls Tryd.prog 8 #[.string (bin (tens v) ++ ⟨#[69, 53]⟩)] W fun e w' => e = .returned (.tuple #[node 0 0, .int .i64 2]) ∧ Below W.heap.size W w' from fun W => parse_tens_more v h1 h2 [69, 53] rfl (by decide) (by decide) W)
  have hT : (bin (tens v)).size ≤ 21 := by rw [bin_size]; exact tens_len h1 h2
  have hTi : ((bin (tens v)).size : Int) ≤ 21 := by omega
  have hTs : ((bin (tens v)).size : Int) + 1 ≤ 22 := by omega
  have hTt : ((bin (tens v)).size : Int) + 2 ≤ 23 := by omega
  have hvi : (v ≤ 0) = False := eq_false (by omega)
  have hvn : ¬ (v ≤ 0) := by omega
  have hzb : (((z : Int) % 3) == 0) = false := by rw [beq_eq_false_iff_ne]; exact hz3
  have ht : tens v = dec v.natAbs := by unfold tens; rw [if_neg (by omega)]
  have cQ := Lib.hid (show ∀ W, Calls Tryd.prog 8 #[.string (⟨#[48]⟩ ++ bin (tens v))] W fun e w' => e = .returned (.tuple #[node 0 0, .int .i64 2]) ∧ Below W.heap.size W w' from fun W => by rw [ht]; exact parse_nought v.natAbs (by omega) W)
  have cS := Lib.hid (show ∀ W, Calls Tryd.prog 8 #[.string (⟨#[43]⟩ ++ bin (tens v))] W fun e w' => e = .returned (.tuple #[node 0 0, .int .i64 2]) ∧ Below W.heap.size W w' from fun W => parse_plus (tens v) (by have := tens_len h1 h2; omega) W)
  clear ht
  go_enter Tryd.func5, Tryd.ntmps5
  go_wp2_with (first
    | (go_at_call 7; (with_reducible refine (cB.out).mono ?_); rintro e w2 ⟨rfl, hb2⟩)
    | (go_at_call 14; (with_reducible refine (cP.out _).mono ?_); rintro e w3 ⟨rfl, hb3⟩)
    | (go_at_call 8; (with_reducible refine (cK.out _).mono ?_); rintro e w4 ⟨rfl, hb4⟩)
    | (go_at_call 8; (with_reducible refine (cM.out _).mono ?_); rintro e w5 ⟨rfl, hb5⟩)
    | (go_at_call 8; (with_reducible refine (cQ.out _).mono ?_); rintro e w6 ⟨rfl, hb6⟩)
    | (go_at_call 8; (with_reducible refine (cS.out _).mono ?_); rintro e w7 ⟨rfl, hb7⟩))
  go_ret
  exact ⟨rfl, by
    repeat (first | exact hb2 | refine Bl.al ?_ _ | refine Bl.th ?_ hb7 | refine Bl.th ?_ hb6 | refine Bl.th ?_ hb5 | refine Bl.th ?_ hb4 | refine Bl.th ?_ hb3)⟩
set_option maxHeartbeats 4000000 in
set_option maxRecDepth 100000 in
theorem law_a3 (v : Int) (z m : Nat) (h1 : -9223372036854775808 ≤ v) (h2 : v ≤ 9223372036854775807) (hz : z < 256) (hm : m < 256) (hj : ((m : Int) % 6) = 3) (hv : v ≤ 0) (w : World) (hw : Js.Laid w) :
    Calls Tryd.prog 5 #[.int .i64 v, .int .u8 (z : Int), .int .u8 (m : Int)] w fun e w' => e = .returned (.bool true) ∧ Below w.heap.size w w' := by
  have cB := Lib.hid (Js.begun6 w hw)
  have cP := Lib.hid (fun W => print_any v h1 h2 W)
  have cK := Lib.hid (fun W => parse_tens_ok v h1 h2 W)
  have cM := Lib.hid (show ∀ W, Calls Tryd.prog 8 #[.string (bin (tens v) ++ ⟨#[97]⟩)] W fun e w' => e = .returned (.tuple #[node 0 0, .int .i64 2]) ∧ Below W.heap.size W w' from fun W => parse_tens_more v h1 h2 [97] rfl (by decide) (by decide) W)
  have hT : (bin (tens v)).size ≤ 21 := by rw [bin_size]; exact tens_len h1 h2
  have hTi : ((bin (tens v)).size : Int) ≤ 21 := by omega
  have hTs : ((bin (tens v)).size : Int) + 1 ≤ 22 := by omega
  have hTt : ((bin (tens v)).size : Int) + 2 ≤ 23 := by omega
  have hvi : (v ≤ 0) = True := eq_true hv
  go_enter Tryd.func5, Tryd.ntmps5
  go_wp2_with (first
    | (go_at_call 7; (with_reducible refine (cB.out).mono ?_); rintro e w2 ⟨rfl, hb2⟩)
    | (go_at_call 14; (with_reducible refine (cP.out _).mono ?_); rintro e w3 ⟨rfl, hb3⟩)
    | (go_at_call 8; (with_reducible refine (cK.out _).mono ?_); rintro e w4 ⟨rfl, hb4⟩)
    | (go_at_call 8; (with_reducible refine (cM.out _).mono ?_); rintro e w5 ⟨rfl, hb5⟩))
  go_ret
  exact ⟨rfl, by
    repeat (first | exact hb2 | refine Bl.al ?_ _ | refine Bl.th ?_ hb5 | refine Bl.th ?_ hb4 | refine Bl.th ?_ hb3)⟩
set_option maxHeartbeats 4000000 in
set_option maxRecDepth 100000 in
theorem law_b3 (v : Int) (z m : Nat) (h1 : -9223372036854775808 ≤ v) (h2 : v ≤ 9223372036854775807) (hz : z < 256) (hm : m < 256) (hj : ((m : Int) % 6) = 3) (hv : 0 < v) (hz3 : ((z : Int) % 3) = 0) (w : World) (hw : Js.Laid w) :
    Calls Tryd.prog 5 #[.int .i64 v, .int .u8 (z : Int), .int .u8 (m : Int)] w fun e w' => e = .returned (.bool true) ∧ Below w.heap.size w w' := by
  have cB := Lib.hid (Js.begun6 w hw)
  have cP := Lib.hid (fun W => print_any v h1 h2 W)
  have cK := Lib.hid (fun W => parse_tens_ok v h1 h2 W)
  have cM := Lib.hid (show ∀ W, Calls Tryd.prog 8 #[.string (bin (tens v) ++ ⟨#[97]⟩)] W fun e w' => e = .returned (.tuple #[node 0 0, .int .i64 2]) ∧ Below W.heap.size W w' from fun W => parse_tens_more v h1 h2 [97] rfl (by decide) (by decide) W)
  have hT : (bin (tens v)).size ≤ 21 := by rw [bin_size]; exact tens_len h1 h2
  have hTi : ((bin (tens v)).size : Int) ≤ 21 := by omega
  have hTs : ((bin (tens v)).size : Int) + 1 ≤ 22 := by omega
  have hTt : ((bin (tens v)).size : Int) + 2 ≤ 23 := by omega
  have hvi : (v ≤ 0) = False := eq_false (by omega)
  have hvn : ¬ (v ≤ 0) := by omega
  go_enter Tryd.func5, Tryd.ntmps5
  go_wp2_with (first
    | (go_at_call 7; (with_reducible refine (cB.out).mono ?_); rintro e w2 ⟨rfl, hb2⟩)
    | (go_at_call 14; (with_reducible refine (cP.out _).mono ?_); rintro e w3 ⟨rfl, hb3⟩)
    | (go_at_call 8; (with_reducible refine (cK.out _).mono ?_); rintro e w4 ⟨rfl, hb4⟩)
    | (go_at_call 8; (with_reducible refine (cM.out _).mono ?_); rintro e w5 ⟨rfl, hb5⟩))
  go_ret
  exact ⟨rfl, by
    repeat (first | exact hb2 | refine Bl.al ?_ _ | refine Bl.th ?_ hb5 | refine Bl.th ?_ hb4 | refine Bl.th ?_ hb3)⟩
set_option maxHeartbeats 4000000 in
set_option maxRecDepth 100000 in
theorem law_c3 (v : Int) (z m : Nat) (h1 : -9223372036854775808 ≤ v) (h2 : v ≤ 9223372036854775807) (hz : z < 256) (hm : m < 256) (hj : ((m : Int) % 6) = 3) (hv : 0 < v) (hz3 : ¬ ((z : Int) % 3) = 0) (w : World) (hw : Js.Laid w) :
    Calls Tryd.prog 5 #[.int .i64 v, .int .u8 (z : Int), .int .u8 (m : Int)] w fun e w' => e = .returned (.bool true) ∧ Below w.heap.size w w' := by
  have cB := Lib.hid (Js.begun6 w hw)
  have cP := Lib.hid (fun W => print_any v h1 h2 W)
  have cK := Lib.hid (fun W => parse_tens_ok v h1 h2 W)
  have cM := Lib.hid (show ∀ W, Calls Tryd.prog 8 #[.string (bin (tens v) ++ ⟨#[97]⟩)] W fun e w' => e = .returned (.tuple #[node 0 0, .int .i64 2]) ∧ Below W.heap.size W w' from fun W => parse_tens_more v h1 h2 [97] rfl (by decide) (by decide) W)
  have hT : (bin (tens v)).size ≤ 21 := by rw [bin_size]; exact tens_len h1 h2
  have hTi : ((bin (tens v)).size : Int) ≤ 21 := by omega
  have hTs : ((bin (tens v)).size : Int) + 1 ≤ 22 := by omega
  have hTt : ((bin (tens v)).size : Int) + 2 ≤ 23 := by omega
  have hvi : (v ≤ 0) = False := eq_false (by omega)
  have hvn : ¬ (v ≤ 0) := by omega
  have hzb : (((z : Int) % 3) == 0) = false := by rw [beq_eq_false_iff_ne]; exact hz3
  have ht : tens v = dec v.natAbs := by unfold tens; rw [if_neg (by omega)]
  have cQ := Lib.hid (show ∀ W, Calls Tryd.prog 8 #[.string (⟨#[48]⟩ ++ bin (tens v))] W fun e w' => e = .returned (.tuple #[node 0 0, .int .i64 2]) ∧ Below W.heap.size W w' from fun W => by rw [ht]; exact parse_nought v.natAbs (by omega) W)
  have cS := Lib.hid (show ∀ W, Calls Tryd.prog 8 #[.string (⟨#[43]⟩ ++ bin (tens v))] W fun e w' => e = .returned (.tuple #[node 0 0, .int .i64 2]) ∧ Below W.heap.size W w' from fun W => parse_plus (tens v) (by have := tens_len h1 h2; omega) W)
  clear ht
  go_enter Tryd.func5, Tryd.ntmps5
  go_wp2_with (first
    | (go_at_call 7; (with_reducible refine (cB.out).mono ?_); rintro e w2 ⟨rfl, hb2⟩)
    | (go_at_call 14; (with_reducible refine (cP.out _).mono ?_); rintro e w3 ⟨rfl, hb3⟩)
    | (go_at_call 8; (with_reducible refine (cK.out _).mono ?_); rintro e w4 ⟨rfl, hb4⟩)
    | (go_at_call 8; (with_reducible refine (cM.out _).mono ?_); rintro e w5 ⟨rfl, hb5⟩)
    | (go_at_call 8; (with_reducible refine (cQ.out _).mono ?_); rintro e w6 ⟨rfl, hb6⟩)
    | (go_at_call 8; (with_reducible refine (cS.out _).mono ?_); rintro e w7 ⟨rfl, hb7⟩))
  go_ret
  exact ⟨rfl, by
    repeat (first | exact hb2 | refine Bl.al ?_ _ | refine Bl.th ?_ hb7 | refine Bl.th ?_ hb6 | refine Bl.th ?_ hb5 | refine Bl.th ?_ hb4 | refine Bl.th ?_ hb3)⟩
set_option maxHeartbeats 4000000 in
set_option maxRecDepth 100000 in
theorem law_a4 (v : Int) (z m : Nat) (h1 : -9223372036854775808 ≤ v) (h2 : v ≤ 9223372036854775807) (hz : z < 256) (hm : m < 256) (hj : ((m : Int) % 6) = 4) (hv : v ≤ 0) (w : World) (hw : Js.Laid w) :
    Calls Tryd.prog 5 #[.int .i64 v, .int .u8 (z : Int), .int .u8 (m : Int)] w fun e w' => e = .returned (.bool true) ∧ Below w.heap.size w w' := by
  have cB := Lib.hid (Js.begun6 w hw)
  have cP := Lib.hid (fun W => print_any v h1 h2 W)
  have cK := Lib.hid (fun W => parse_tens_ok v h1 h2 W)
  have cM := Lib.hid (show ∀ W, Calls Tryd.prog 8 #[.string (bin (tens v) ++ ⟨#[45]⟩)] W fun e w' => e = .returned (.tuple #[node 0 0, .int .i64 2]) ∧ Below W.heap.size W w' from fun W => parse_tens_more v h1 h2 [45] rfl (by decide) (by decide) W)
  have hT : (bin (tens v)).size ≤ 21 := by rw [bin_size]; exact tens_len h1 h2
  have hTi : ((bin (tens v)).size : Int) ≤ 21 := by omega
  have hTs : ((bin (tens v)).size : Int) + 1 ≤ 22 := by omega
  have hTt : ((bin (tens v)).size : Int) + 2 ≤ 23 := by omega
  have hvi : (v ≤ 0) = True := eq_true hv
  go_enter Tryd.func5, Tryd.ntmps5
  go_wp2_with (first
    | (go_at_call 7; (with_reducible refine (cB.out).mono ?_); rintro e w2 ⟨rfl, hb2⟩)
    | (go_at_call 14; (with_reducible refine (cP.out _).mono ?_); rintro e w3 ⟨rfl, hb3⟩)
    | (go_at_call 8; (with_reducible refine (cK.out _).mono ?_); rintro e w4 ⟨rfl, hb4⟩)
    | (go_at_call 8; (with_reducible refine (cM.out _).mono ?_); rintro e w5 ⟨rfl, hb5⟩))
  go_ret
  exact ⟨rfl, by
    repeat (first | exact hb2 | refine Bl.al ?_ _ | refine Bl.th ?_ hb5 | refine Bl.th ?_ hb4 | refine Bl.th ?_ hb3)⟩
set_option maxHeartbeats 4000000 in
set_option maxRecDepth 100000 in
theorem law_b4 (v : Int) (z m : Nat) (h1 : -9223372036854775808 ≤ v) (h2 : v ≤ 9223372036854775807) (hz : z < 256) (hm : m < 256) (hj : ((m : Int) % 6) = 4) (hv : 0 < v) (hz3 : ((z : Int) % 3) = 0) (w : World) (hw : Js.Laid w) :
    Calls Tryd.prog 5 #[.int .i64 v, .int .u8 (z : Int), .int .u8 (m : Int)] w fun e w' => e = .returned (.bool true) ∧ Below w.heap.size w w' := by
  have cB := Lib.hid (Js.begun6 w hw)
  have cP := Lib.hid (fun W => print_any v h1 h2 W)
  have cK := Lib.hid (fun W => parse_tens_ok v h1 h2 W)
  have cM := Lib.hid (show ∀ W, Calls Tryd.prog 8 #[.string (bin (tens v) ++ ⟨#[45]⟩)] W fun e w' => e = .returned (.tuple #[node 0 0, .int .i64 2]) ∧ Below W.heap.size W w' from fun W => parse_tens_more v h1 h2 [45] rfl (by decide) (by decide) W)
  have hT : (bin (tens v)).size ≤ 21 := by rw [bin_size]; exact tens_len h1 h2
  have hTi : ((bin (tens v)).size : Int) ≤ 21 := by omega
  have hTs : ((bin (tens v)).size : Int) + 1 ≤ 22 := by omega
  have hTt : ((bin (tens v)).size : Int) + 2 ≤ 23 := by omega
  have hvi : (v ≤ 0) = False := eq_false (by omega)
  have hvn : ¬ (v ≤ 0) := by omega
  go_enter Tryd.func5, Tryd.ntmps5
  go_wp2_with (first
    | (go_at_call 7; (with_reducible refine (cB.out).mono ?_); rintro e w2 ⟨rfl, hb2⟩)
    | (go_at_call 14; (with_reducible refine (cP.out _).mono ?_); rintro e w3 ⟨rfl, hb3⟩)
    | (go_at_call 8; (with_reducible refine (cK.out _).mono ?_); rintro e w4 ⟨rfl, hb4⟩)
    | (go_at_call 8; (with_reducible refine (cM.out _).mono ?_); rintro e w5 ⟨rfl, hb5⟩))
  go_ret
  exact ⟨rfl, by
    repeat (first | exact hb2 | refine Bl.al ?_ _ | refine Bl.th ?_ hb5 | refine Bl.th ?_ hb4 | refine Bl.th ?_ hb3)⟩
set_option maxHeartbeats 4000000 in
set_option maxRecDepth 100000 in
theorem law_c4 (v : Int) (z m : Nat) (h1 : -9223372036854775808 ≤ v) (h2 : v ≤ 9223372036854775807) (hz : z < 256) (hm : m < 256) (hj : ((m : Int) % 6) = 4) (hv : 0 < v) (hz3 : ¬ ((z : Int) % 3) = 0) (w : World) (hw : Js.Laid w) :
    Calls Tryd.prog 5 #[.int .i64 v, .int .u8 (z : Int), .int .u8 (m : Int)] w fun e w' => e = .returned (.bool true) ∧ Below w.heap.size w w' := by
  have cB := Lib.hid (Js.begun6 w hw)
  have cP := Lib.hid (fun W => print_any v h1 h2 W)
  have cK := Lib.hid (fun W => parse_tens_ok v h1 h2 W)
  have cM := Lib.hid (show ∀ W, Calls Tryd.prog 8 #[.string (bin (tens v) ++ ⟨#[45]⟩)] W fun e w' => e = .returned (.tuple #[node 0 0, .int .i64 2]) ∧ Below W.heap.size W w' from fun W => parse_tens_more v h1 h2 [45] rfl (by decide) (by decide) W)
  have hT : (bin (tens v)).size ≤ 21 := by rw [bin_size]; exact tens_len h1 h2
  have hTi : ((bin (tens v)).size : Int) ≤ 21 := by omega
  have hTs : ((bin (tens v)).size : Int) + 1 ≤ 22 := by omega
  have hTt : ((bin (tens v)).size : Int) + 2 ≤ 23 := by omega
  have hvi : (v ≤ 0) = False := eq_false (by omega)
  have hvn : ¬ (v ≤ 0) := by omega
  have hzb : (((z : Int) % 3) == 0) = false := by rw [beq_eq_false_iff_ne]; exact hz3
  have ht : tens v = dec v.natAbs := by unfold tens; rw [if_neg (by omega)]
  have cQ := Lib.hid (show ∀ W, Calls Tryd.prog 8 #[.string (⟨#[48]⟩ ++ bin (tens v))] W fun e w' => e = .returned (.tuple #[node 0 0, .int .i64 2]) ∧ Below W.heap.size W w' from fun W => by rw [ht]; exact parse_nought v.natAbs (by omega) W)
  have cS := Lib.hid (show ∀ W, Calls Tryd.prog 8 #[.string (⟨#[43]⟩ ++ bin (tens v))] W fun e w' => e = .returned (.tuple #[node 0 0, .int .i64 2]) ∧ Below W.heap.size W w' from fun W => parse_plus (tens v) (by have := tens_len h1 h2; omega) W)
  clear ht
  go_enter Tryd.func5, Tryd.ntmps5
  go_wp2_with (first
    | (go_at_call 7; (with_reducible refine (cB.out).mono ?_); rintro e w2 ⟨rfl, hb2⟩)
    | (go_at_call 14; (with_reducible refine (cP.out _).mono ?_); rintro e w3 ⟨rfl, hb3⟩)
    | (go_at_call 8; (with_reducible refine (cK.out _).mono ?_); rintro e w4 ⟨rfl, hb4⟩)
    | (go_at_call 8; (with_reducible refine (cM.out _).mono ?_); rintro e w5 ⟨rfl, hb5⟩)
    | (go_at_call 8; (with_reducible refine (cQ.out _).mono ?_); rintro e w6 ⟨rfl, hb6⟩)
    | (go_at_call 8; (with_reducible refine (cS.out _).mono ?_); rintro e w7 ⟨rfl, hb7⟩))
  go_ret
  exact ⟨rfl, by
    repeat (first | exact hb2 | refine Bl.al ?_ _ | refine Bl.th ?_ hb7 | refine Bl.th ?_ hb6 | refine Bl.th ?_ hb5 | refine Bl.th ?_ hb4 | refine Bl.th ?_ hb3)⟩
set_option maxHeartbeats 4000000 in
set_option maxRecDepth 100000 in
theorem law_a5 (v : Int) (z m : Nat) (h1 : -9223372036854775808 ≤ v) (h2 : v ≤ 9223372036854775807) (hz : z < 256) (hm : m < 256) (hj : ((m : Int) % 6) = 5) (hv : v ≤ 0) (w : World) (hw : Js.Laid w) :
    Calls Tryd.prog 5 #[.int .i64 v, .int .u8 (z : Int), .int .u8 (m : Int)] w fun e w' => e = .returned (.bool true) ∧ Below w.heap.size w w' := by
  have cB := Lib.hid (Js.begun6 w hw)
  have cP := Lib.hid (fun W => print_any v h1 h2 W)
  have cK := Lib.hid (fun W => parse_tens_ok v h1 h2 W)
  have cM := Lib.hid (show ∀ W, Calls Tryd.prog 8 #[.string (bin (tens v) ++ ⟨#[32, 49]⟩)] W fun e w' => e = .returned (.tuple #[node 0 0, .int .i64 2]) ∧ Below W.heap.size W w' from fun W => parse_tens_more v h1 h2 [32, 49] rfl (by decide) (by decide) W)
  have hT : (bin (tens v)).size ≤ 21 := by rw [bin_size]; exact tens_len h1 h2
  have hTi : ((bin (tens v)).size : Int) ≤ 21 := by omega
  have hTs : ((bin (tens v)).size : Int) + 1 ≤ 22 := by omega
  have hTt : ((bin (tens v)).size : Int) + 2 ≤ 23 := by omega
  have hvi : (v ≤ 0) = True := eq_true hv
  go_enter Tryd.func5, Tryd.ntmps5
  go_wp2_with (first
    | (go_at_call 7; (with_reducible refine (cB.out).mono ?_); rintro e w2 ⟨rfl, hb2⟩)
    | (go_at_call 14; (with_reducible refine (cP.out _).mono ?_); rintro e w3 ⟨rfl, hb3⟩)
    | (go_at_call 8; (with_reducible refine (cK.out _).mono ?_); rintro e w4 ⟨rfl, hb4⟩)
    | (go_at_call 8; (with_reducible refine (cM.out _).mono ?_); rintro e w5 ⟨rfl, hb5⟩))
  go_ret
  exact ⟨rfl, by
    repeat (first | exact hb2 | refine Bl.al ?_ _ | refine Bl.th ?_ hb5 | refine Bl.th ?_ hb4 | refine Bl.th ?_ hb3)⟩
set_option maxHeartbeats 4000000 in
set_option maxRecDepth 100000 in
theorem law_b5 (v : Int) (z m : Nat) (h1 : -9223372036854775808 ≤ v) (h2 : v ≤ 9223372036854775807) (hz : z < 256) (hm : m < 256) (hj : ((m : Int) % 6) = 5) (hv : 0 < v) (hz3 : ((z : Int) % 3) = 0) (w : World) (hw : Js.Laid w) :
    Calls Tryd.prog 5 #[.int .i64 v, .int .u8 (z : Int), .int .u8 (m : Int)] w fun e w' => e = .returned (.bool true) ∧ Below w.heap.size w w' := by
  have cB := Lib.hid (Js.begun6 w hw)
  have cP := Lib.hid (fun W => print_any v h1 h2 W)
  have cK := Lib.hid (fun W => parse_tens_ok v h1 h2 W)
  have cM := Lib.hid (show ∀ W, Calls Tryd.prog 8 #[.string (bin (tens v) ++ ⟨#[32, 49]⟩)] W fun e w' => e = .returned (.tuple #[node 0 0, .int .i64 2]) ∧ Below W.heap.size W w' from fun W => parse_tens_more v h1 h2 [32, 49] rfl (by decide) (by decide) W)
  have hT : (bin (tens v)).size ≤ 21 := by rw [bin_size]; exact tens_len h1 h2
  have hTi : ((bin (tens v)).size : Int) ≤ 21 := by omega
  have hTs : ((bin (tens v)).size : Int) + 1 ≤ 22 := by omega
  have hTt : ((bin (tens v)).size : Int) + 2 ≤ 23 := by omega
  have hvi : (v ≤ 0) = False := eq_false (by omega)
  have hvn : ¬ (v ≤ 0) := by omega
  go_enter Tryd.func5, Tryd.ntmps5
  go_wp2_with (first
    | (go_at_call 7; (with_reducible refine (cB.out).mono ?_); rintro e w2 ⟨rfl, hb2⟩)
    | (go_at_call 14; (with_reducible refine (cP.out _).mono ?_); rintro e w3 ⟨rfl, hb3⟩)
    | (go_at_call 8; (with_reducible refine (cK.out _).mono ?_); rintro e w4 ⟨rfl, hb4⟩)
    | (go_at_call 8; (with_reducible refine (cM.out _).mono ?_); rintro e w5 ⟨rfl, hb5⟩))
  go_ret
  exact ⟨rfl, by
    repeat (first | exact hb2 | refine Bl.al ?_ _ | refine Bl.th ?_ hb5 | refine Bl.th ?_ hb4 | refine Bl.th ?_ hb3)⟩
set_option maxHeartbeats 4000000 in
set_option maxRecDepth 100000 in
theorem law_c5 (v : Int) (z m : Nat) (h1 : -9223372036854775808 ≤ v) (h2 : v ≤ 9223372036854775807) (hz : z < 256) (hm : m < 256) (hj : ((m : Int) % 6) = 5) (hv : 0 < v) (hz3 : ¬ ((z : Int) % 3) = 0) (w : World) (hw : Js.Laid w) :
    Calls Tryd.prog 5 #[.int .i64 v, .int .u8 (z : Int), .int .u8 (m : Int)] w fun e w' => e = .returned (.bool true) ∧ Below w.heap.size w w' := by
  have cB := Lib.hid (Js.begun6 w hw)
  have cP := Lib.hid (fun W => print_any v h1 h2 W)
  have cK := Lib.hid (fun W => parse_tens_ok v h1 h2 W)
  have cM := Lib.hid (show ∀ W, Calls Tryd.prog 8 #[.string (bin (tens v) ++ ⟨#[32, 49]⟩)] W fun e w' => e = .returned (.tuple #[node 0 0, .int .i64 2]) ∧ Below W.heap.size W w' from fun W => parse_tens_more v h1 h2 [32, 49] rfl (by decide) (by decide) W)
  have hT : (bin (tens v)).size ≤ 21 := by rw [bin_size]; exact tens_len h1 h2
  have hTi : ((bin (tens v)).size : Int) ≤ 21 := by omega
  have hTs : ((bin (tens v)).size : Int) + 1 ≤ 22 := by omega
  have hTt : ((bin (tens v)).size : Int) + 2 ≤ 23 := by omega
  have hvi : (v ≤ 0) = False := eq_false (by omega)
  have hvn : ¬ (v ≤ 0) := by omega
  have hzb : (((z : Int) % 3) == 0) = false := by rw [beq_eq_false_iff_ne]; exact hz3
  have ht : tens v = dec v.natAbs := by unfold tens; rw [if_neg (by omega)]
  have cQ := Lib.hid (show ∀ W, Calls Tryd.prog 8 #[.string (⟨#[48]⟩ ++ bin (tens v))] W fun e w' => e = .returned (.tuple #[node 0 0, .int .i64 2]) ∧ Below W.heap.size W w' from fun W => by rw [ht]; exact parse_nought v.natAbs (by omega) W)
  have cS := Lib.hid (show ∀ W, Calls Tryd.prog 8 #[.string (⟨#[43]⟩ ++ bin (tens v))] W fun e w' => e = .returned (.tuple #[node 0 0, .int .i64 2]) ∧ Below W.heap.size W w' from fun W => parse_plus (tens v) (by have := tens_len h1 h2; omega) W)
  clear ht
  go_enter Tryd.func5, Tryd.ntmps5
  go_wp2_with (first
    | (go_at_call 7; (with_reducible refine (cB.out).mono ?_); rintro e w2 ⟨rfl, hb2⟩)
    | (go_at_call 14; (with_reducible refine (cP.out _).mono ?_); rintro e w3 ⟨rfl, hb3⟩)
    | (go_at_call 8; (with_reducible refine (cK.out _).mono ?_); rintro e w4 ⟨rfl, hb4⟩)
    | (go_at_call 8; (with_reducible refine (cM.out _).mono ?_); rintro e w5 ⟨rfl, hb5⟩)
    | (go_at_call 8; (with_reducible refine (cQ.out _).mono ?_); rintro e w6 ⟨rfl, hb6⟩)
    | (go_at_call 8; (with_reducible refine (cS.out _).mono ?_); rintro e w7 ⟨rfl, hb7⟩))
  go_ret
  exact ⟨rfl, by
    repeat (first | exact hb2 | refine Bl.al ?_ _ | refine Bl.th ?_ hb7 | refine Bl.th ?_ hb6 | refine Bl.th ?_ hb5 | refine Bl.th ?_ hb4 | refine Bl.th ?_ hb3)⟩
theorem numbers_law (v : Int) (z m : Nat) (h1 : -9223372036854775808 ≤ v) (h2 : v ≤ 9223372036854775807) (hz : z < 256) (hm : m < 256) (w : World) (hw : Js.Laid w) :
    Calls Tryd.prog 5 #[.int .i64 v, .int .u8 (z : Int), .int .u8 (m : Int)] w fun e w' => e = .returned (.bool true) ∧ Below w.heap.size w w' := by
  have hc : ((m : Int) % 6) = 0 ∨ ((m : Int) % 6) = 1 ∨ ((m : Int) % 6) = 2 ∨ ((m : Int) % 6) = 3 ∨ ((m : Int) % 6) = 4 ∨ ((m : Int) % 6) = 5 := by omega
  by_cases hv : v ≤ 0
  · rcases hc with h | h | h | h | h | h
    · exact law_a0 v z m h1 h2 hz hm h hv w hw
    · exact law_a1 v z m h1 h2 hz hm h hv w hw
    · exact law_a2 v z m h1 h2 hz hm h hv w hw
    · exact law_a3 v z m h1 h2 hz hm h hv w hw
    · exact law_a4 v z m h1 h2 hz hm h hv w hw
    · exact law_a5 v z m h1 h2 hz hm h hv w hw
  · have hp : 0 < v := by omega
    by_cases h3 : ((z : Int) % 3) = 0
    · rcases hc with h | h | h | h | h | h
      · exact law_b0 v z m h1 h2 hz hm h hp h3 w hw
      · exact law_b1 v z m h1 h2 hz hm h hp h3 w hw
      · exact law_b2 v z m h1 h2 hz hm h hp h3 w hw
      · exact law_b3 v z m h1 h2 hz hm h hp h3 w hw
      · exact law_b4 v z m h1 h2 hz hm h hp h3 w hw
      · exact law_b5 v z m h1 h2 hz hm h hp h3 w hw
    · rcases hc with h | h | h | h | h | h
      · exact law_c0 v z m h1 h2 hz hm h hp h3 w hw
      · exact law_c1 v z m h1 h2 hz hm h hp h3 w hw
      · exact law_c2 v z m h1 h2 hz hm h hp h3 w hw
      · exact law_c3 v z m h1 h2 hz hm h hp h3 w hw
      · exact law_c4 v z m h1 h2 hz hm h hp h3 w hw
      · exact law_c5 v z m h1 h2 hz hm h hp h3 w hw
/-- The same, of arguments as they are handed. -/
theorem numbers_law_wf (v z m : Int) (w : World) (hw : Js.Laid w) (w0 : (Lit.int .i64 v).wf = true) (w1 : (Lit.int .u8 z).wf = true) (w2 : (Lit.int .u8 m).wf = true) :
    Calls Tryd.prog 5 #[.int .i64 v, .int .u8 z, .int .u8 m] w fun e w' => e = .returned (.bool true) ∧ Below w.heap.size w w' := by
  have b0 : -9223372036854775808 ≤ v ∧ v ≤ 9223372036854775807 := bounds_i64 w0
  have b1 : 0 ≤ z ∧ z ≤ 255 := bounds_u8 w1
  have b2 : 0 ≤ m ∧ m ≤ 255 := bounds_u8 w2
  obtain ⟨n, rfl⟩ : ∃ n : Nat, z = (n : Int) := ⟨z.toNat, by omega⟩
  obtain ⟨k, rfl⟩ : ∃ n : Nat, m = (n : Int) := ⟨m.toNat, by omega⟩
  exact numbers_law v n k b0.1 b0.2 (by omega) (by omega) w hw
end Jn
end Go.Proofs.YtdecogndpnghkaaDoor
