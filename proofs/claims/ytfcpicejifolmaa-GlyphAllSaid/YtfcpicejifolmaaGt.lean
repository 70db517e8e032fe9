/-
  GlyphAll, whole. No condition.
-/
import Derived.Test.YtfcpicejifolmaaGr
import Derived.Test.YtfcpicejifolmaaRf
namespace Go.Proofs.Ytfcpicejifolmaa
open Go.ChangeShapes Go.WideShapes Go.ChangeAt Go.RowKit
namespace Gl
open Mem
set_option linter.unusedVariables false
set_option linter.unusedSimpArgs false
set_option maxHeartbeats 1000000 in
theorem all_long1 (s q : ByteArray) (r : Int) (w : World) (hs : s.size ≤ 9223372036854775807) (hl : 60 < s.size) :
    Calls Try.prog 10 #[.string s, .string q, .int .u32 r] w fun e w' => e = .returned (.bool true) ∧ Below w.heap.size w w' := by
  go_enter Try.func10, Try.ntmps10
  go_wp2_with (go_at_call 27; refine (Rf.begun3 _).mono ?_; rintro e w1 ⟨rfl, hb1⟩)
  go_ret
  exact ⟨rfl, hb1⟩
set_option maxHeartbeats 1000000 in
theorem all_long2 (s q : ByteArray) (r : Int) (w : World) (hs : s.size ≤ 60) (hq : q.size ≤ 9223372036854775807) (hl : 60 < q.size) :
    Calls Try.prog 10 #[.string s, .string q, .int .u32 r] w fun e w' => e = .returned (.bool true) ∧ Below w.heap.size w w' := by
  go_enter Try.func10, Try.ntmps10
  go_wp2_with (go_at_call 27; refine (Rf.begun3 _).mono ?_; rintro e w1 ⟨rfl, hb1⟩)
  go_ret
  exact ⟨rfl, hb1⟩
theorem qend_form (l : List UInt8) : ∃ (a : ByteArray) (n e : Int), qend l = .returned (.tuple #[.string a, .int .i64 n, .int .i64 e]) := by
  unfold qend
  split
  · exact ⟨_, _, _, rfl⟩
  · exact ⟨_, _, _, rfl⟩
set_option maxHeartbeats 4000000 in
set_option maxRecDepth 1000000 in
theorem all_law (s q : ByteArray) (r : Nat) (w : World) (hs : s.size ≤ 60) (hq : q.size ≤ 60) (hr : r < 4294967296) :
    Calls Try.prog 10 #[.string s, .string q, .int .u32 (r : Int)] w fun e w' => e = .returned (.bool true) ∧ Below w.heap.size w w' := by
  have cB := Lib.hid (fun W => Rf.begun3 W)
  have cU := Lib.hid (fun W => Unquote_any q W (by omega))
  have cW := Lib.hid (fun W => DUnquote_any q W (by omega))
  have cV := Lib.hid (fun W => Valid_any s W (by omega))
  have cX := Lib.hid (fun W => DValid_any s W (by omega))
  have cQ := Lib.hid (fun W => Quote_any s W (by omega))
  have cR := Lib.hid (fun W => DQuote_any s W (by omega))
  have cP := Lib.hid (fun W => Put_any r W hr)
  have cG := Lib.hid (fun W => DGlyph_any r W hr)
  obtain ⟨a, n, e, hf⟩ := qend_form q.data.toList
  rw [hf] at cU cW
  obtain ⟨Q, hQ⟩ : ∃ Q, Q = bin (quote s.data.toList) := ⟨_, rfl⟩
  rw [← hQ] at cQ cR
  obtain ⟨G, hG⟩ : ∃ G, G = bin (gput r) := ⟨_, rfl⟩
  rw [← hG] at cP cG
  obtain ⟨V, hV⟩ : ∃ V, V = valid s.data.toList := ⟨_, rfl⟩
  rw [← hV] at cV cX
  clear hf hQ hG hV
  cases V with
  | true =>
    go_enter Try.func10, Try.ntmps10
    go_wp2_with (first | (go_at_call 27; ((with_reducible refine (cB.out _).mono ?_); rintro e w1 ⟨rfl, hb1⟩)) | (go_at_call 28; ((with_reducible refine (cU.out _).mono ?_); rintro e w2 ⟨rfl, hb2⟩)) | (go_at_call 29; ((with_reducible refine (cW.out _).mono ?_); rintro e w3 ⟨rfl, hb3⟩)) | (go_at_call 30; ((with_reducible refine (cV.out _).mono ?_); rintro e w' ⟨rfl, rfl⟩)) | (go_at_call 31; ((with_reducible refine (cX.out _).mono ?_); rintro e w' ⟨rfl, rfl⟩)) | (go_at_call 32; ((with_reducible refine (cQ.out _).mono ?_); rintro e w4 ⟨rfl, hb4⟩)) | (go_at_call 33; ((with_reducible refine (cR.out _).mono ?_); rintro e w5 ⟨rfl, hb5⟩)) | (go_at_call 34; ((with_reducible refine (cP.out _).mono ?_); rintro e w6 ⟨rfl, hb6⟩)) | (go_at_call 35; ((with_reducible refine (cG.out _).mono ?_); rintro e w7 ⟨rfl, hb7⟩)))
    go_ret
    refine ⟨by first | rfl | (simp; done), ?_⟩
    have e1 := hb1.size
    have e2 := hb2.size
    have e3 := hb3.size
    have e4 := hb4.size
    have e5 := hb5.size
    have e6 := hb6.size
    exact (((((hb1.trans (hb2.mono (by omega))).trans (hb3.mono (by omega))).trans (hb4.mono (by omega))).trans (hb5.mono (by omega))).trans (hb6.mono (by omega))).trans (hb7.mono (by omega))
  | false =>
    go_enter Try.func10, Try.ntmps10
    go_wp2_with (first | (go_at_call 27; ((with_reducible refine (cB.out _).mono ?_); rintro e w1 ⟨rfl, hb1⟩)) | (go_at_call 28; ((with_reducible refine (cU.out _).mono ?_); rintro e w2 ⟨rfl, hb2⟩)) | (go_at_call 29; ((with_reducible refine (cW.out _).mono ?_); rintro e w3 ⟨rfl, hb3⟩)) | (go_at_call 30; ((with_reducible refine (cV.out _).mono ?_); rintro e w' ⟨rfl, rfl⟩)) | (go_at_call 31; ((with_reducible refine (cX.out _).mono ?_); rintro e w' ⟨rfl, rfl⟩)) | (go_at_call 32; ((with_reducible refine (cQ.out _).mono ?_); rintro e w4 ⟨rfl, hb4⟩)) | (go_at_call 33; ((with_reducible refine (cR.out _).mono ?_); rintro e w5 ⟨rfl, hb5⟩)) | (go_at_call 34; ((with_reducible refine (cP.out _).mono ?_); rintro e w6 ⟨rfl, hb6⟩)) | (go_at_call 35; ((with_reducible refine (cG.out _).mono ?_); rintro e w7 ⟨rfl, hb7⟩)))
    go_ret
    refine ⟨by first | rfl | (simp; done), ?_⟩
    have e1 := hb1.size
    have e2 := hb2.size
    have e3 := hb3.size
    have e4 := hb4.size
    have e5 := hb5.size
    have e6 := hb6.size
    exact (((((hb1.trans (hb2.mono (by omega))).trans (hb3.mono (by omega))).trans (hb4.mono (by omega))).trans (hb5.mono (by omega))).trans (hb6.mono (by omega))).trans (hb7.mono (by omega))
theorem all_law_wf (s q : ByteArray) (r : Int) (w : World) (h0 : s.size ≤ maxLen) (h1 : q.size ≤ maxLen) (h2 : (Lit.int .u32 r).wf = true) :
    Calls Try.prog 10 #[.string s, .string q, .int .u32 r] w fun e w' => e = .returned (.bool true) ∧ Below w.heap.size w w' := by
  unfold maxLen at h0 h1
  by_cases hs : 60 < s.size
  · exact all_long1 s q r w (by omega) hs
  · by_cases hq : 60 < q.size
    · exact all_long2 s q r w (by omega) (by omega) hq
    · have b0 : 0 ≤ r ∧ r < 4294967296 := by simp [Lit.wf, IntKind.min, IntKind.max, IntKind.signed, IntKind.bits] at h2; omega
      obtain ⟨r, rfl⟩ := Int.eq_ofNat_of_zero_le b0.1
      exact all_law s q r w (by omega) (by omega) (by omega)
end Gl
end Go.Proofs.Ytfcpicejifolmaa
