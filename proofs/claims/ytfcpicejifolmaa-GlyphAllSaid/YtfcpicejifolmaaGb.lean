/-
  strings.Builder's WriteByte; glyph.letterOf: contracts. No condition but that texts are short.
-/
import Derived.Test.YtfcpicejifolmaaGs
import Derived.Test.YtfcpicejifolmaaRj
namespace Go.Proofs.Ytfcpicejifolmaa
open Go.ChangeShapes Go.WideShapes Go.ChangeAt Go.RowKit
namespace Rv
set_option linter.unusedVariables false
set_option linter.unusedSimpArgs false
set_option maxHeartbeats 2000000 in
set_option maxRecDepth 100000 in
theorem wbyte_any (B b : Nat) (bs : List Value) (c : UInt8) (w : World) (h : Lib.IsBuilder 63 5 B b bs w) (hlen : bs.length + 1 ≤ 140737488355328) (hBw : B ≤ w.heap.size) :
    Calls Try.prog 47 #[.pointer (some ⟨b, 0, none⟩), .int .u8 (c.toNat : Int)] w fun e w' => e = .returned .nilIface ∧ Lib.BuilderAt 63 5 B b (.pointer (some ⟨b, 0, none⟩)) (bs ++ [.int .u8 (c.toNat : Int)]) w' ∧ Below B w w' := by
  obtain ⟨i0, hi, hz0, hz1, hz2⟩ := info_parts info8
  go_enter Try.func47, Try.ntmps47
  go_wp2_with (go_at_call 54; refine (check_any B b bs _ h).mono ?_)
  rintro e w1 ⟨rfl, hat, hb1⟩
  obtain ⟨hB, v, hbk, hown, hne⟩ := hat
  have hsz1 := hb1.size
  have hlt : b < w1.heap.size := (Array.getElem?_eq_some_iff.1 hbk).1
  have c1 : w1.cell? ⟨b, 1, none⟩ = some v := by rw [Lib.cell_of_heap hbk]; rfl
  go_wp2_with (at_builtin; refine wpList_append_own _ rfl _ _ 44 rfl B 5 i0 (.int .u8 0) 1 1 Try.underlying44 hi hz0 hz1 hz2 rfl (by decide) _ bs.length bs rfl (hown.alloc _) ⟨w1.heap.size, 0, none⟩ 1 1 [.int .u8 (c.toNat : Int)] rfl rfl (one_src _ _ _) (one_int _ _) (by unfold maxLen; omega) (by omega) (by simp; omega) ?_)
  intro v' w2 hown' hgrow _
  have hbk' : (w1.alloc (.cells #[.int .u8 (c.toNat : Int)] 5)).heap[b]? = some (.cells #[.pointer (some ⟨b, 0, none⟩), v] 63 (0, 0)) := by
    rw [Below.heap_alloc w1 _ b hlt]; exact hbk
  have hb2 : w2.heap[b]? = some (.cells #[.pointer (some ⟨b, 0, none⟩), v] 63 (0, 0)) := by
    rw [hgrow.block b (by simp; omega) (fun e => hne e.symm)]; exact hbk'
  have d1 : w2.cell? ⟨b, 1, none⟩ = some v := by rw [Lib.cell_of_heap hb2]; rfl
  have f1 : w2.frozen? ⟨b, 1, none⟩ = false := Lib.frozen_of_heap hb2 1
  have hform : ∃ ao n' cap, v' = .slice ao n' cap := by
    rcases hown'.2 with ⟨hv, _⟩ | ⟨g, cap, cur, hv, _⟩
    · exact ⟨_, _, _, hv⟩
    · exact ⟨_, _, _, hv⟩
  obtain ⟨ao, n', cap, rfl⟩ := hform
  have hput := Lib.hid (Lib.BuilderAt.put (T := 63) (e := 5) hB hb2 (bs' := bs ++ [.int .u8 (c.toNat : Int)]) (by simpa using hown') neB)
  have hbel := Lib.hid (((hb1.alloc (by omega) _).grown hgrow (by simp; omega) (fun k hk => (hown.lt k hk).1)).setCell (p := ⟨b, 1, none⟩) hB (.slice ao n' cap))
  clear hown' hgrow hown hbk hbk' hb2 hne
  go_wp2
  go_ret
  exact ⟨rfl, hput.out, hbel.out⟩
end Rv
namespace Gl
set_option linter.unusedVariables false
set_option maxHeartbeats 1000000 in
set_option maxRecDepth 100000 in
theorem letterOf_any (c : Nat) (hc : c < 256) (w : World) :
    Calls Try.prog 48 #[.int .u8 (c : Int)] w fun e w' => e = .returned (.int .u8 (letterOf c : Nat)) ∧ w = w' := by
  by_cases h : c = 34 ∨ c = 92 ∨ c = 8 ∨ c = 12 ∨ c = 10 ∨ c = 13 ∨ c = 9
  · rcases h with rfl | rfl | rfl | rfl | rfl | rfl | rfl
    · rw [show letterOf 34 = 34 from rfl, show ((34 : Nat) : Int) = 34 from rfl]
      go_enter Try.func48, Try.ntmps48
      go_wp2
      go_ret
      exact ⟨rfl, rfl⟩
    · rw [show letterOf 92 = 92 from rfl, show ((92 : Nat) : Int) = 92 from rfl]
      go_enter Try.func48, Try.ntmps48
      go_wp2
      go_ret
      exact ⟨rfl, rfl⟩
    · rw [show letterOf 8 = 98 from rfl, show ((8 : Nat) : Int) = 8 from rfl]
      go_enter Try.func48, Try.ntmps48
      go_wp2
      go_ret
      exact ⟨rfl, rfl⟩
    · rw [show letterOf 12 = 102 from rfl, show ((12 : Nat) : Int) = 12 from rfl]
      go_enter Try.func48, Try.ntmps48
      go_wp2
      go_ret
      exact ⟨rfl, rfl⟩
    · rw [show letterOf 10 = 110 from rfl, show ((10 : Nat) : Int) = 10 from rfl]
      go_enter Try.func48, Try.ntmps48
      go_wp2
      go_ret
      exact ⟨rfl, rfl⟩
    · rw [show letterOf 13 = 114 from rfl, show ((13 : Nat) : Int) = 13 from rfl]
      go_enter Try.func48, Try.ntmps48
      go_wp2
      go_ret
      exact ⟨rfl, rfl⟩
    · rw [show letterOf 9 = 116 from rfl, show ((9 : Nat) : Int) = 9 from rfl]
      go_enter Try.func48, Try.ntmps48
      go_wp2
      go_ret
      exact ⟨rfl, rfl⟩
  · have hl : letterOf c = 0 := by unfold letterOf; repeat (rw [if_neg (by omega)])
    rw [hl]
    have e34 : ((c : Int) == 34) = false := by rw [beq_eq_false_iff_ne]; omega
    have e92 : ((c : Int) == 92) = false := by rw [beq_eq_false_iff_ne]; omega
    have e8 : ((c : Int) == 8) = false := by rw [beq_eq_false_iff_ne]; omega
    have e12 : ((c : Int) == 12) = false := by rw [beq_eq_false_iff_ne]; omega
    have e10 : ((c : Int) == 10) = false := by rw [beq_eq_false_iff_ne]; omega
    have e13 : ((c : Int) == 13) = false := by rw [beq_eq_false_iff_ne]; omega
    have e9 : ((c : Int) == 9) = false := by rw [beq_eq_false_iff_ne]; omega
    clear hl h
    go_enter Try.func48, Try.ntmps48
    go_wp2
    go_ret
    exact ⟨rfl, rfl⟩
end Gl
end Go.Proofs.Ytfcpicejifolmaa
