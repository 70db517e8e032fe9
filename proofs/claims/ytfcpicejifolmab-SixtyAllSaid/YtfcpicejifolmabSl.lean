/-
  SixtyAll: which text bytes have, and which bytes a text is. No condition.
-/
import Derived.Test.YtfcpicejifolmabSo
namespace Go.Proofs.Ytfcpicejifolmab
open Go.ChangeShapes Go.WideShapes Go.ChangeAt Go.RowKit
namespace Six
open Mem
set_option linter.unusedVariables false
theorem tend_form (l : List UInt8) : ∃ (X : ByteArray) (E : Int), tend l = .returned (.tuple #[.string X, .int .i64 E]) := by
  unfold tend
  split
  · exact ⟨_, _, rfl⟩
  · exact ⟨_, _, rfl⟩
set_option maxHeartbeats 1000000 in
set_option maxRecDepth 20000 in
theorem all_law_wf (s t : ByteArray) (w : World) (hs : s.size ≤ maxLen) (ht : t.size ≤ maxLen) :
    Calls Try.prog 3 #[.string s, .string t] w fun e w' => e = .returned (.bool true) ∧ Below w.heap.size w w' := by
  unfold maxLen at hs ht
  by_cases hl1 : s.size ≤ 60
  · by_cases hl2 : t.size ≤ 60
    · obtain ⟨X, E, hX⟩ := tend_form t.data.toList
      obtain ⟨Y, hY⟩ : ∃ Y, Y = bin (enc s.data.toList) := ⟨_, rfl⟩
      have c1 := Lib.hid (fun W => take_any t W (by omega))
      have c2 := Lib.hid (fun W => rtake_any t W (by omega))
      have c3 := Lib.hid (fun W => put_any s W (by omega))
      have c4 := Lib.hid (fun W => sixty_any s W (by omega))
      rw [hX] at c1 c2
      rw [← hY] at c3 c4
      clear hX hY
      go_enter Try.func3, Try.ntmps3
      go_wp2_with (first | (go_at_call 6; refine (begun_any _).mono ?_; rintro e w1 ⟨rfl, hb1⟩) | (go_at_call 7; ((with_reducible refine (c1.out _).mono ?_); rintro e w2 ⟨rfl, hb2⟩)) | (go_at_call 8; ((with_reducible refine (c2.out _).mono ?_); rintro e w3 ⟨rfl, hb3⟩)) | (go_at_call 9; ((with_reducible refine (c3.out _).mono ?_); rintro e w4 ⟨rfl, hb4⟩)) | (go_at_call 10; ((with_reducible refine (c4.out _).mono ?_); rintro e w5 ⟨rfl, hb5⟩)))
      go_ret
      have h5 := hb4.trans (hb5.mono hb4.size)
      have h4 := hb3.trans (h5.mono hb3.size)
      have h3 := hb2.trans (h4.mono hb2.size)
      exact ⟨rfl, hb1.trans (h3.mono hb1.size)⟩
    · have hl2' : 60 < t.size := by omega
      clear hl2
      go_enter Try.func3, Try.ntmps3
      go_wp2_with (go_at_call 6; refine (begun_any _).mono ?_; rintro e w1 ⟨rfl, hb1⟩)
      go_ret
      exact ⟨rfl, hb1⟩
  · have hl1' : 60 < s.size := by omega
    clear hl1
    go_enter Try.func3, Try.ntmps3
    go_wp2_with (go_at_call 6; refine (begun_any _).mono ?_; rintro e w1 ⟨rfl, hb1⟩)
    go_ret
    exact ⟨rfl, hb1⟩
end Six
end Go.Proofs.Ytfcpicejifolmab
