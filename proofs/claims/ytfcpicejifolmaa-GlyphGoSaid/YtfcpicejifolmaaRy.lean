/-
  Numbers of so many bytes, written and read: contracts. No condition but that a text is short.
-/
import Derived.Test.YtfcpicejifolmaaRx
import Derived.Test.YtfcpicejifolmaaMem
namespace Go.Proofs.Ytfcpicejifolmaa
open Go.ChangeShapes Go.WideShapes Go.ChangeAt Go.RowKit
namespace Rv
set_option linter.unusedVariables false
set_option linter.unusedSimpArgs false
/-- A number's bytes, of which the first j are there. -/
def lePad (v k j : Nat) : List UInt8 := leB v j ++ List.replicate (k - j) 0
theorem lePad_len (v : Nat) {k j : Nat} (h : j ≤ k) : (lePad v k j).length = k := by
  unfold lePad; rw [List.length_append, leB_len, List.length_replicate]; omega
theorem lePad_set (v : Nat) {k j : Nat} (h : j < k) : (lePad v k j).set j (UInt8.ofNat (v / 256 ^ j % 256)) = lePad v k (j + 1) := by
  unfold lePad
  have hl := leB_len j v
  rw [List.set_append_right _ _ (by omega), hl, Nat.sub_self, leB_snoc, List.append_assoc]
  congr 1
  obtain ⟨m, hm⟩ : ∃ m, k - j = m + 1 := ⟨k - j - 1, by omega⟩
  rw [hm, show k - (j + 1) = m by omega, List.replicate_succ]
  rfl
theorem lePad_full (v k : Nat) : lePad v k k = leB v k := by
  unfold lePad; rw [Nat.sub_self]; simp
theorem vals_zero (k : Nat) : Mem.vals (List.replicate k 0) = List.replicate k (.int .u8 0) := by
  simp [Mem.vals]
theorem made_zero (n : Nat) : (madeCells #[Value.int .u8 0] n).toList = List.replicate n (.int .u8 0) := by
  apply List.ext_getElem
  · simp [madeCells]
  · intro i h1 h2
    simp [madeCells, Nat.mod_one]
theorem set_row {W : World} {base e g n cap : Nat} {l : List UInt8} (h : Mem.BRow W base e (.slice (some ⟨g, 0, none⟩) n cap) l) (k : Nat) (c : UInt8) (hk : k < l.length) {x : Int} (hx : x = (c.toNat : Int)) : Mem.BRow (W.setCell ⟨g, k, none⟩ (.int .u8 x)) base e (.slice (some ⟨g, 0, none⟩) n cap) (l.set k c) := by
  subst hx; exact h.set k c hk
theorem low_byte (v j : Nat) (hv : v < 18446744073709551616) : (v : Int) / 2 ^ (8 * j) % 256 = ((UInt8.ofNat (v / 256 ^ j % 256)).toNat : Int) := by
  rw [ofNat_lt (by omega), pow256]
  have : (v : Int) / 2 ^ (8 * j) = ((v / 2 ^ (8 * j) : Nat) : Int) := by simp
  rw [this]; omega
set_option maxHeartbeats 1000000 in
set_option maxRecDepth 20000 in
theorem putfixed_any (v k : Nat) (w : World) (hk : 1 ≤ k) (hk8 : k ≤ 8) (hv : v < 18446744073709551616) :
    Calls Try.prog 38 #[.int .u64 (v : Int), .int .i64 (k : Int)] w fun e w' => e = .returned (.string (bin (leB v k))) ∧ Below w.heap.size w w' := by
  obtain ⟨i0, hi, hz0, hz1, hz2⟩ := Mem.info_parts Mem.info8
  have HV := Lib.hid hv
  have hvi : (v : Int) ≤ 18446744073709551615 := by omega
  clear hv
  go_enter Try.func38, Try.ntmps38
  go_wp2_with (at_make; refine wpList_make_full _ rfl _ _ 44 rfl w.heap.size 5 i0 (.int .u8 0) 1 Try.underlying44 hi hz0 hz1 .i64 .i64 k k k rfl rfl rfl rfl (by rw [hz2]; omega) (by unfold maxLen; omega) (Nat.le_refl _) ?_)
  intro w1 hown hgr
  have hbel : Below w.heap.size w w1 := (Below.refl _ _).grown hgr (Nat.le_refl _) (by intro k h; cases h)
  have hrow : Mem.BRow w1 w.heap.size 5 (.slice (some ⟨w.heap.size, 0, none⟩) k k) (lePad v k 0) := by
    have e1 : lePad v k 0 = List.replicate k 0 := by simp [lePad, leB]
    rw [e1]
    refine Mem.row_of_own ?_
    rw [vals_zero, List.length_replicate]
    rw [made_zero] at hown
    exact hown
  have HO := Lib.hid hrow
  have HB := Lib.hid hbel
  clear hown hgr hbel hrow
  go_wp2_with fail
  go_loopw [10] (fun x W => ∃ j : Nat, x = .int .i64 j ∧ j ≤ k ∧ Mem.BRow W w.heap.size 5 (.slice (some ⟨w.heap.size, 0, none⟩) k k) (lePad v k j) ∧ Below w.heap.size w W) (fun x _ => k - (intOf x).toNat)
  case atStart => exact ⟨0, rfl, Nat.zero_le _, HO.out, HB.out⟩
  case round =>
    obtain ⟨j, rfl, hj, hr, hb⟩ := hrel
    have HB2 := Lib.hid hb
    have HW := Lib.hid hb.size
    clear hb
    by_cases hjk : j < k
    · have hl := lePad_len v hj
      obtain ⟨hc, hf⟩ := hr.out.2.2.1 j _ (List.getElem?_eq_getElem (by rw [hl]; exact hjk))
      obtain ⟨x, hx⟩ : ∃ x, x = ((lePad v k j)[j]'(by rw [hl]; exact hjk)).toNat := ⟨_, rfl⟩
      rw [← hx] at hc
      have HR := Lib.hid hr
      have HL := Lib.hid hl
      clear hx hr hl
      go_wp2
      go_roundw
      case rel => exact ⟨j + 1, by go_num, hjk, by rw [← lePad_set v hjk]; exact set_row HR.out j _ (by rw [HL.out]; exact hjk) (low_byte v j HV.out), HB2.out.setCell (Nat.le_refl _) _⟩
      case measure => simp [intOf]; omega
    · obtain rfl : j = k := by omega
      rw [lePad_full] at hr
      have cv := Mem.row_text (P := Try.prog) Try.underlying44 Try.underlying5 Try.underlying9 hr
      clear hr
      go_wp2
      go_ret
      exact ⟨rfl, HB2.out⟩
end Rv
end Go.Proofs.Ytfcpicejifolmaa
