/-
  The cursor's word at a semicolon: its contract. No condition but that the text is short.
-/
import Derived.Test.YthbedbjccmhcoaaWh
import Derived.Test.YthbedbjccmhcoaaMem
import Derived.Deep.RegionLaw
namespace Go.Proofs.Ythbedbjccmhcoaa
open Go.ChangeShapes Go.WideShapes Go.ChangeAt Go.RowKit
namespace Jn
theorem one_text {P : Program} (W : World) {s d el e : TypeId} (hs : P.underlying s = some (.slice el)) (hel : P.underlying el = some (.int .u8)) (hd : P.underlying d = some .string) (c : UInt8) {x : Int} (hx : x = (c.toNat : Int)) {W' : World} (hb : W'.heap[W.heap.size]? = (W.alloc (.cells #[.int .u8 x] e)).heap[W.heap.size]?) :
    (convert s d (.slice (some ⟨W.heap.size, 0, none⟩) 1 1)).run P W' = .ok (.string (bin [c])) W' := by
  subst hx
  have h0 : Lib.Bytes (W.alloc (.cells #[.int .u8 (c.toNat : Int)] e)) W.heap.size 0 (bin [c]) := (Mem.Holds.lit W [c] e).bytes
  have hB : Lib.Bytes W' W.heap.size 0 (bin [c]) := fun i hi => by
    rw [World.cell?_of_block (w := W.alloc (.cells #[.int .u8 (c.toNat : Int)] e)) hb]
    exact h0 i hi
  exact Lib.run_convert_whole (P := P) W' s el d hs hel hd W.heap.size 0 (bin [c]) hB 1
set_option linter.unusedVariables false
set_option linter.unusedSimpArgs false
theorem Tok.set4 {w : World} {g : Nat} {k : Int} {t : ByteArray} {n c : Int} (h : Tok w g k t n c) (k' : Int) (t' : ByteArray) (n' c' : Int) : Tok ((((w.setCell ⟨g, 0, none⟩ (.int .i64 k')).setCell ⟨g, 1, none⟩ (.string t')).setCell ⟨g, 2, none⟩ (.int .u64 n')).setCell ⟨g, 3, none⟩ (.int .i64 c')) g k' t' n' c' := by
  refine ⟨?_, ?_, ?_, ?_, ?_, ?_, ?_, ?_⟩
  · exact setc (setc (setc (setc h.c0 0 _) 1 _) 2 _) 3 _
  · exact setc (setc (setc (setc h.c1 0 _) 1 _) 2 _) 3 _
  · exact setc (setc (setc (setc h.c2 0 _) 1 _) 2 _) 3 _
  · exact setc (setc (setc (setc h.c3 0 _) 1 _) 2 _) 3 _
  · simp only [World.frozen?_setCell]; exact h.f0
  · simp only [World.frozen?_setCell]; exact h.f1
  · simp only [World.frozen?_setCell]; exact h.f2
  · simp only [World.frozen?_setCell]; exact h.f3
theorem Rd.drew {w : World} {b : Nat} {s : ByteArray} {i : Nat} (h : Rd w b s i) : Rd w.drew b s i := ⟨h.txt, h.pos, h.frz, h.lt⟩
theorem Bex.drew {b : Nat} {x w : World} (h : Bex b x w) : Bex b x w.drew := ⟨h.os, h.tape, h.output, h.size, h.block⟩
set_option maxHeartbeats 4000000 in
set_option maxRecDepth 100000 in
theorem word_sign (s : ByteArray) (i b : Nat) (w : World) (h : Rd w b s i) (hs : s.size ≤ 10000000) (hi : i < s.size) (hd : bt s i = 59) :
    Calls Try.prog 16 #[.pointer (some ⟨b, 0, none⟩)] w fun e w' => e = .returned (.tuple #[tokS 4 ⟨#[59]⟩ 0 (i : Nat), .int .i64 0]) ∧ Rd w' b s (i + 1) ∧ Bex b w w' := by
  have cA0 := Lib.hid (show ∀ W, Rd W b s i → Calls Try.prog 20 #[.pointer (some ⟨b, 0, none⟩), .int .i64 0] W fun e w' => e = .returned (.int .u8 (bt s i : Nat)) ∧ Rd w' b s i ∧ Bex b W w' from fun W hW => byteAt_any s i 0 b W hW (by omega) hs (by omega))
  rw [hd] at cA0
  have cL := Lib.hid (show ∀ W, Calls Try.prog 25 #[.int .u8 59] W fun e w' => e = .returned (.bool false) ∧ Below W.heap.size W w' from fun W => Wb.letter_any 59 (by decide) W)
  have cD := Lib.hid (show ∀ W, Calls Try.prog 27 #[.int .u8 59] W fun e w' => e = .returned (.bool false) ∧ Below W.heap.size W w' from fun W => Wb.digit_any 59 (by decide) W)
  have cI := Lib.hid (show ∀ W, Calls Try.prog 23 #[.string ⟨#[123, 125, 40, 41, 91, 93, 61, 59, 44, 60, 62, 45]⟩, .int .u8 59] W fun e w' => e = .returned (.int .i64 7) ∧ w' = W from fun W => Sh.strings_IndexByte ⟨#[123, 125, 40, 41, 91, 93, 61, 59, 44, 60, 62, 45]⟩ 59 W)
  have H1 := Lib.hid (h.old ((Below.refl _ _).alloc (Nat.le_refl _) (.cells #[.int .i64 0, .string ⟨#[]⟩, .int .u64 0, .int .i64 0] 37)))
  have F1 := Lib.hid (Tok.new w 0 ⟨#[]⟩ 0 0 37)
  have hgb : w.heap.size ≠ b := by have := h.lt; omega
  have e0 : ((i : Int) == (s.size : Int)) = false := by rw [beq_eq_false_iff_ne]; omega
  have hi8 : (i : Int) ≤ 10000000 := by omega
  obtain ⟨r1, r2, r3, r4⟩ := H1.out
  clear h hd hi
  go_enter Try.func16, Try.ntmps16
  go_wp2_with fail
  go_quiet (fail)
  have H2 := Lib.hid (H1.out.drewN nq)
  go_wp2_with (first
    | (go_at_call 20; (with_reducible refine (cA0.out _ H2.out).mono ?_); rintro e w2 ⟨rfl, hr2, hb2⟩)
    | (go_at_call 25; (with_reducible refine (cL.out _).mono ?_); rintro e w3 ⟨rfl, hb3⟩)
    | (go_at_call 27; (with_reducible refine (cD.out _).mono ?_); rintro e w4 ⟨rfl, hb4⟩; have hr4 := (hr2.old hb3).old hb4; have BX := ((((Bex.refl b (w.alloc (.cells #[.int .i64 0, .string ⟨#[]⟩, .int .u64 0, .int .i64 0] 37))).drewN nq).trans hb2).trans (Bex.of_below hb3)).trans (Bex.of_below hb4); have FX := F1.out.bex BX hgb (by simp); have hr5 := hr4.step; have FZ := Lib.hid FX; obtain ⟨f0, f1, f2, f3, f4, f5, f6, f7⟩ := FX; have HR4 := Lib.hid hr4; have HR5 := Lib.hid hr5; obtain ⟨r5, r6, r7, r8⟩ := hr4; obtain ⟨r9, r10, r11, r12⟩ := hr5)
    | (go_at_call 23; (with_reducible refine (cI.out _).mono ?_); rintro e w5 ⟨rfl, rfl⟩))
  have hone : (1 : Int) ≤ (i : Int) + 1 := by omega
  obtain ⟨W0, hW0⟩ : ∃ W0, W0 = w5.setCell ⟨b, 1, none⟩ (.int .i64 ((i : Int) + 1)) := ⟨_, rfl⟩
  have FW := Lib.hid (FZ.out.bex (Bex.set b _ 1 (.int .i64 ((i : Int) + 1))) hgb (by have := BX.size; simp at this; omega))
  rw [← hW0] at FW HR5 r9 r10 r11 ⊢
  have BW := Lib.hid (show Bex b w5 W0 by rw [hW0]; exact Bex.set b _ 1 _)
  have SW := Lib.hid (show w.heap.size < W0.heap.size by rw [hW0]; have := BX.size; simp at this ⊢; omega)
  have BXh := Lib.hid BX
  clear hW0 r5 r6 r7 r8 f0 f1 f2 f3 f4 f5 f6 f7 BX r1 r2 r3
  have hbW := HR5.out.lt
  have cv1 := one_text (P := Try.prog) W0 Try.underlying29 Try.underlying5 Try.underlying9 59 (x := 59) (e := 5) rfl (W' := W0.alloc (.cells #[.int .u8 59] 5)) rfl
  have cv2 := one_text (P := Try.prog) W0 Try.underlying29 Try.underlying5 Try.underlying9 59 (x := 59) (e := 5) rfl (W' := (W0.alloc (.cells #[.int .u8 59] 5)).drew) rfl
  have cv3 := one_text (P := Try.prog) W0.drew Try.underlying29 Try.underlying5 Try.underlying9 59 (x := 59) (e := 5) rfl (W' := W0.drew.alloc (.cells #[.int .u8 59] 5)) rfl
  have hS := SW.out
  have FS := FW.out.set4 4 (bin [59]) 0 i
  have FA := FS.bex (Bex.alloc (b := b) (.cells #[.int .u8 59] 5)) hgb (by simpa using SW.out)
  obtain ⟨x0, x1, x2, x3, _, _, _, _⟩ := FA
  obtain ⟨g0, g1, g2, g3, g4, g5, g6, g7⟩ := FW.out
  clear FS
  go_region
  go_wp2
  refine bodyPost_ret (v := .tuple #[tokS 4 (bin [59]) 0 (i : Nat), .int .i64 0]) (by simp [results, Try.results16, go_sem, x0, x1, x2, x3]) rfl ?_
  exact ⟨rfl, (((((HR5.out.off hgb _ _).off hgb _ _).off hgb _ _).off hgb _ _).old ((Below.refl _ _).alloc (Nat.le_refl _) _)).drew, (((((((Bex.alloc _).trans BXh.out).trans BW.out).off (Nat.le_refl _) _ _).off (Nat.le_refl _) _ _).off (Nat.le_refl _) _ _).off (Nat.le_refl _) _ _).trans (Bex.alloc _) |>.drew⟩
end Jn
end Go.Proofs.Ythbedbjccmhcoaa
