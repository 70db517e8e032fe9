/-
  GlyphBack, whole. No condition.
-/
import Derived.Test.YtfcpicejifolmaaGk
import Derived.Test.YtfcpicejifolmaaRf
namespace Go.Proofs.Ytfcpicejifolmaa
open Go.ChangeShapes Go.WideShapes Go.ChangeAt Go.RowKit
namespace Gl
open Mem
set_option linter.unusedVariables false
set_option linter.unusedSimpArgs false
set_option maxHeartbeats 1000000 in
theorem back_long1 (s m : ByteArray) (w : World) (hs : s.size ≤ 9223372036854775807) (hl : 60 < s.size) :
    Calls Try.prog 12 #[.string s, .string m] w fun e w' => e = .returned (.bool true) ∧ Below w.heap.size w w' := by
  go_enter Try.func12, Try.ntmps12
  go_wp2_with (go_at_call 27; refine (Rf.begun3 _).mono ?_; rintro e w1 ⟨rfl, hb1⟩)
  go_ret
  exact ⟨rfl, hb1⟩
set_option maxHeartbeats 1000000 in
theorem back_long2 (s m : ByteArray) (w : World) (hs : s.size ≤ 60) (hm : m.size ≤ 9223372036854775807) (hl : 20 < m.size) :
    Calls Try.prog 12 #[.string s, .string m] w fun e w' => e = .returned (.bool true) ∧ Below w.heap.size w w' := by
  go_enter Try.func12, Try.ntmps12
  go_wp2_with (go_at_call 27; refine (Rf.begun3 _).mono ?_; rintro e w1 ⟨rfl, hb1⟩)
  go_ret
  exact ⟨rfl, hb1⟩
theorem bin_appG (a b : List UInt8) : bin a ++ bin b = bin (a ++ b) := by
  apply ByteArray.ext; simp [bin]
theorem bin_list (a : List UInt8) : (bin a).data.toList = a := by simp [bin]
theorem bin_of (s : ByteArray) : bin s.data.toList = s := by apply ByteArray.ext; simp [bin]
theorem bin_take (a : List UInt8) (n : Nat) : (bin a).extract 0 n = bin (a.take n) := by
  apply ByteArray.ext; simp [bin, ByteArray.data_extract]
/-- What the law reads of a text that is quoted. -/
structure QF (s m : ByteArray) (q : ByteArray) : Prop where
  lo : 2 ≤ q.size
  hi : q.size ≤ 362
  long : (q ++ m).size ≤ 382
  both : qend (q ++ m).data.toList = if valid s.data.toList then .returned (.tuple #[.string s, .int .i64 (q.size : Int), .int .i64 0]) else .returned (.tuple #[.string (bin []), .int .i64 0, .int .i64 2])
  cut : qend (q.extract 0 (q.size - 1)).data.toList = .returned (.tuple #[.string (bin []), .int .i64 0, .int .i64 2])
  high : ∀ i (h : i < q.size), 32 ≤ (q[i]'h).toNat
theorem qf (s m : ByteArray) (hs : s.size ≤ 60) (hm : m.size ≤ 20) : QF s m (bin (quote s.data.toList)) where
  lo := by rw [bin_size]; exact (quote_bd _).1
  hi := by rw [bin_size]; have := (quote_bd s.data.toList).2; simp at this ⊢; omega
  long := by rw [ByteArray.size_append, bin_size]; have := (quote_bd s.data.toList).2; simp at this ⊢; omega
  both := by
    have h : (bin (quote s.data.toList) ++ m).data.toList = quote s.data.toList ++ m.data.toList := by
      rw [ByteArray.data_append, Array.toList_append, bin_list]
    rw [h, bin_size]
    have hu := unq_quote s.data.toList m.data.toList
    cases hv : valid s.data.toList with
    | true =>
      rw [hv, if_pos rfl] at hu
      rw [qend_some hu, bin_of]; rfl
    | false =>
      rw [hv] at hu
      rw [qend_none hu]; rfl
  cut := by
    rw [bin_size, bin_take, bin_list]
    exact qend_none (unq_cut _)
  high := by
    intro i h
    have hm : (bin (quote s.data.toList))[i]'h ∈ quote s.data.toList := by
      have h2 : i < (quote s.data.toList).length := by rw [← bin_size]; exact h
      have h3 : (bin (quote s.data.toList))[i]'h = (quote s.data.toList)[i]'h2 := rfl
      rw [h3]; exact List.getElem_mem h2
    exact quote_high _ _ hm
set_option maxHeartbeats 4000000 in
set_option maxRecDepth 1000000 in
theorem back_all (s m : ByteArray) (w : World) (hs : s.size ≤ 60) (hm : m.size ≤ 20) :
    Calls Try.prog 12 #[.string s, .string m] w fun e w' => e = .returned (.bool true) ∧ Below w.heap.size w w' := by
  have cB := Lib.hid (fun W => Rf.begun3 W)
  have cQ := Lib.hid (fun W => Quote_any s W (by omega))
  have cV := Lib.hid (fun W => Valid_any s W (by omega))
  have F := qf s m hs hm
  obtain ⟨q, hq⟩ : ∃ q, q = bin (quote s.data.toList) := ⟨_, rfl⟩
  rw [← hq] at cQ F
  clear hq
  have HH := Lib.hid F.high
  have q1 := F.lo
  have q2 := F.hi
  have cU := Lib.hid (fun W => Unquote_any (q ++ m) W (by have := F.long; omega))
  have cC := Lib.hid (fun W => Unquote_any (q.extract 0 (q.size - 1)) W (by rw [ByteArray.size_extract]; omega))
  rw [F.both] at cU
  rw [F.cut] at cC
  clear F
  have hsub : (q.size : Int) - 1 = ((q.size - 1 : Nat) : Int) := by omega
  obtain ⟨u, hu⟩ : ∃ u, u = q.size - 1 := ⟨_, rfl⟩
  rw [← hu] at cC hsub
  have hu1 : u ≤ q.size := by omega
  clear hu
  cases hv : valid s.data.toList with
  | true =>
    rw [hv, if_pos rfl] at cU
    rw [hv] at cV
    clear hv
    go_enter Try.func12, Try.ntmps12
    go_wp2_with (first | (go_at_call 27; ((with_reducible refine (cB.out _).mono ?_); rintro e w1 ⟨rfl, hb1⟩)) | (go_at_call 32; ((with_reducible refine (cQ.out _).mono ?_); rintro e w2 ⟨rfl, hb2⟩)) | (go_at_call 28; ((with_reducible refine (cU.out _).mono ?_); rintro e w3 ⟨rfl, hb3⟩)) | (go_at_call 28; ((with_reducible refine (cC.out _).mono ?_); rintro e w4 ⟨rfl, hb4⟩)))
    have BB := ((hb1.trans (hb2.mono hb1.size)).trans (hb3.mono (hb1.trans (hb2.mono hb1.size)).size)).trans (hb4.mono ((hb1.trans (hb2.mono hb1.size)).trans (hb3.mono (hb1.trans (hb2.mono hb1.size)).size)).size)
    clear hb1 hb2 hb3 hb4
    go_loopw [12] (fun x W => ∃ k : Nat, x = .int .i64 k ∧ k ≤ q.size ∧ Below w.heap.size w W) (fun x _ => q.size - (intOf x).toNat)
    case atStart => exact ⟨0, rfl, Nat.zero_le _, BB⟩
    case round =>
      obtain ⟨k, rfl, hk, hb⟩ := hrel
      have HB := Lib.hid hb
      clear hb
      by_cases hlt : k < q.size
      · have hh := HH.out k hlt
        go_wp2
        go_roundw
        case rel => exact ⟨k + 1, by go_num, hlt, HB.out⟩
        case measure => simp [intOf]; omega
      · obtain rfl : k = q.size := by omega
        go_wp2_with (go_at_call 30; ((with_reducible refine (cV.out _).mono ?_); rintro e w' ⟨rfl, rfl⟩))
        go_ret
        exact ⟨by first | rfl | (simp; done), HB.out⟩
  | false =>
    rw [hv, if_neg (by decide)] at cU
    rw [hv] at cV
    clear hv
    go_enter Try.func12, Try.ntmps12
    go_wp2_with (first | (go_at_call 27; ((with_reducible refine (cB.out _).mono ?_); rintro e w1 ⟨rfl, hb1⟩)) | (go_at_call 32; ((with_reducible refine (cQ.out _).mono ?_); rintro e w2 ⟨rfl, hb2⟩)) | (go_at_call 28; ((with_reducible refine (cU.out _).mono ?_); rintro e w3 ⟨rfl, hb3⟩)) | (go_at_call 28; ((with_reducible refine (cC.out _).mono ?_); rintro e w4 ⟨rfl, hb4⟩)))
    have BB := ((hb1.trans (hb2.mono hb1.size)).trans (hb3.mono (hb1.trans (hb2.mono hb1.size)).size)).trans (hb4.mono ((hb1.trans (hb2.mono hb1.size)).trans (hb3.mono (hb1.trans (hb2.mono hb1.size)).size)).size)
    clear hb1 hb2 hb3 hb4
    go_loopw [12] (fun x W => ∃ k : Nat, x = .int .i64 k ∧ k ≤ q.size ∧ Below w.heap.size w W) (fun x _ => q.size - (intOf x).toNat)
    case atStart => exact ⟨0, rfl, Nat.zero_le _, BB⟩
    case round =>
      obtain ⟨k, rfl, hk, hb⟩ := hrel
      have HB := Lib.hid hb
      clear hb
      by_cases hlt : k < q.size
      · have hh := HH.out k hlt
        go_wp2
        go_roundw
        case rel => exact ⟨k + 1, by go_num, hlt, HB.out⟩
        case measure => simp [intOf]; omega
      · obtain rfl : k = q.size := by omega
        go_wp2_with (go_at_call 30; ((with_reducible refine (cV.out _).mono ?_); rintro e w' ⟨rfl, rfl⟩))
        go_ret
        exact ⟨by first | rfl | (simp; done), HB.out⟩
theorem back_law_wf (s m : ByteArray) (w : World) (h0 : s.size ≤ maxLen) (h1 : m.size ≤ maxLen) :
    Calls Try.prog 12 #[.string s, .string m] w fun e w' => e = .returned (.bool true) ∧ Below w.heap.size w w' := by
  unfold maxLen at h0 h1
  by_cases hs : 60 < s.size
  · exact back_long1 s m w (by omega) hs
  · by_cases hm : 20 < m.size
    · exact back_long2 s m w (by omega) (by omega) hm
    · exact back_all s m w (by omega) (by omega)
end Gl
end Go.Proofs.Ytfcpicejifolmaa
