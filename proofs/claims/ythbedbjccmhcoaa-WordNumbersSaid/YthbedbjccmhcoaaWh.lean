/-
  The cursor's word where a number stands, a semicolon, or the end: contracts. No condition but that the text is short.
-/
import Derived.Test.YthbedbjccmhcoaaWe
import Derived.Test.YthbedbjccmhcoaaWg
namespace Go.Proofs.Ythbedbjccmhcoaa
open Go.ChangeShapes Go.WideShapes Go.ChangeAt Go.RowKit
namespace Jn
set_option linter.unusedVariables false
set_option linter.unusedSimpArgs false
abbrev tokS (k : Int) (t : ByteArray) (n c : Int) : Value := .agg #[.int .i64 k, .string t, .int .u64 n, .int .i64 c]
/-- What the cursor's number tells at a place. -/
def NumAt (s : ByteArray) (i q n : Nat) : Prop := ∀ (W : World) (b : Nat), Rd W b s i → Calls Try.prog 28 #[.pointer (some ⟨b, 0, none⟩)] W fun e w' => e = .returned (.tuple #[tok 2 (n : Nat) (i : Nat), .int .i64 0]) ∧ Rd w' b s q ∧ Bex b W w'
set_option maxHeartbeats 4000000 in
set_option maxRecDepth 100000 in
theorem word_num (s : ByteArray) (i q n b : Nat) (w : World) (h : Rd w b s i) (hs : s.size ≤ 10000000) (hi : i < s.size) (hd1 : 48 ≤ bt s i) (hd2 : bt s i ≤ 57) (N : NumAt s i q n) :
    Calls Try.prog 16 #[.pointer (some ⟨b, 0, none⟩)] w fun e w' => e = .returned (.tuple #[tok 2 (n : Nat) (i : Nat), .int .i64 0]) ∧ Rd w' b s q ∧ Bex b w w' := by
  have cA0 := Lib.hid (show ∀ W, Rd W b s i → Calls Try.prog 20 #[.pointer (some ⟨b, 0, none⟩), .int .i64 0] W fun e w' => e = .returned (.int .u8 (bt s i : Nat)) ∧ Rd w' b s i ∧ Bex b W w' from fun W hW => byteAt_any s i 0 b W hW (by omega) hs (by omega))
  obtain ⟨c, hc⟩ : ∃ c, c = bt s i := ⟨_, rfl⟩
  rw [← hc] at cA0 hd1 hd2
  have cL := Lib.hid (show ∀ W, Calls Try.prog 25 #[.int .u8 (c : Int)] W fun e w' => e = .returned (.bool false) ∧ Below W.heap.size W w' from fun W => by
    have := Wb.letter_any c (by omega) W
    rw [show Wb.letB c = false by unfold Wb.letB; simp; omega] at this
    exact this)
  have cD := Lib.hid (show ∀ W, Calls Try.prog 27 #[.int .u8 (c : Int)] W fun e w' => e = .returned (.bool true) ∧ Below W.heap.size W w' from fun W => by
    have := Wb.digit_any c (by omega) W
    rw [show Wb.digB c = true by unfold Wb.digB; simp; omega] at this
    exact this)
  have cN := Lib.hid (show ∀ (W : World) (b : Nat), Rd W b s i → Calls Try.prog 28 #[.pointer (some ⟨b, 0, none⟩)] W fun e w' => e = .returned (.tuple #[tok 2 (n : Nat) (i : Nat), .int .i64 0]) ∧ Rd w' b s q ∧ Bex b W w' from N)
  have H1 := Lib.hid (h.old ((Below.refl _ _).alloc (Nat.le_refl _) (.cells #[.int .i64 0, .string ⟨#[]⟩, .int .u64 0, .int .i64 0] 37)))
  have F1 := Lib.hid (Tok.new w 0 ⟨#[]⟩ 0 0 37)
  have hgb : w.heap.size ≠ b := by have := h.lt; omega
  have e0 : ((i : Int) == (s.size : Int)) = false := by rw [beq_eq_false_iff_ne]; omega
  have e1 : ((c : Int) == 46) = false := by rw [beq_eq_false_iff_ne]; omega
  obtain ⟨r1, r2, r3, r4⟩ := H1.out
  clear N h hc hd1 hd2 hi
  go_enter Try.func16, Try.ntmps16
  go_wp2_with fail
  go_quiet (fail)
  have H2 := Lib.hid (H1.out.drewN nq)
  go_wp2_with (first
    | (go_at_call 20; (with_reducible refine (cA0.out _ H2.out).mono ?_); rintro e w2 ⟨rfl, hr2, hb2⟩)
    | (go_at_call 25; (with_reducible refine (cL.out _).mono ?_); rintro e w3 ⟨rfl, hb3⟩)
    | (go_at_call 27; (with_reducible refine (cD.out _).mono ?_); rintro e w4 ⟨rfl, hb4⟩; have hr4 := (hr2.old hb3).old hb4)
    | (go_at_call 28; (with_reducible refine (cN.out _ _ hr4).mono ?_); rintro e w5 ⟨rfl, hr5, hb5⟩; have BX := (((((Bex.refl b (w.alloc (.cells #[.int .i64 0, .string ⟨#[]⟩, .int .u64 0, .int .i64 0] 37))).drewN nq).trans hb2).trans (Bex.of_below hb3)).trans (Bex.of_below hb4)).trans hb5; have FX := F1.out.bex BX hgb (by simp); obtain ⟨x0, x1, x2, x3⟩ := FX.own4 2 ⟨#[]⟩ n i; obtain ⟨f0, f1, f2, f3, f4, f5, f6, f7⟩ := FX))
  refine bodyPost_ret (v := .tuple #[tok 2 (n : Nat) (i : Nat), .int .i64 0]) (by simp [results, Try.results16, go_sem, x0, x1, x2, x3]) rfl ?_
  exact ⟨rfl, (((hr5.off hgb _ _).off hgb _ _).off hgb _ _).off hgb _ _, (((((Bex.alloc _).trans BX).off (Nat.le_refl _) _ _).off (Nat.le_refl _) _ _).off (Nat.le_refl _) _ _).off (Nat.le_refl _) _ _⟩
set_option maxHeartbeats 4000000 in
set_option maxRecDepth 100000 in
theorem word_end (s : ByteArray) (b : Nat) (w : World) (h : Rd w b s s.size) (hs : s.size ≤ 10000000) :
    Calls Try.prog 16 #[.pointer (some ⟨b, 0, none⟩)] w fun e w' => e = .returned (.tuple #[tok 5 0 (s.size : Nat), .int .i64 0]) ∧ Rd w' b s s.size ∧ Bex b w w' := by
  have H1 := Lib.hid (h.old ((Below.refl _ _).alloc (Nat.le_refl _) (.cells #[.int .i64 0, .string ⟨#[]⟩, .int .u64 0, .int .i64 0] 37)))
  have F1 := Lib.hid (Tok.new w 0 ⟨#[]⟩ 0 0 37)
  have hgb : w.heap.size ≠ b := by have := h.lt; omega
  obtain ⟨r1, r2, r3, r4⟩ := H1.out
  clear h
  go_enter Try.func16, Try.ntmps16
  go_wp2_with fail
  go_quiet (fail)
  have BX := (Bex.refl b (w.alloc (.cells #[.int .i64 0, .string ⟨#[]⟩, .int .u64 0, .int .i64 0] 37))).drewN nq
  have FX := F1.out.bex BX hgb (by simp)
  have H2 := H1.out.drewN nq
  obtain ⟨x0, x1, x2, x3⟩ := FX.own4 5 ⟨#[]⟩ 0 s.size
  obtain ⟨f0, f1, f2, f3, f4, f5, f6, f7⟩ := FX
  go_wp2
  refine bodyPost_ret (v := .tuple #[tok 5 0 (s.size : Nat), .int .i64 0]) (by simp [results, Try.results16, go_sem, x0, x1, x2, x3]) rfl ?_
  exact ⟨rfl, (((H2.off hgb _ _).off hgb _ _).off hgb _ _).off hgb _ _, (((((Bex.alloc _).trans BX).off (Nat.le_refl _) _ _).off (Nat.le_refl _) _ _).off (Nat.le_refl _) _ _).off (Nat.le_refl _) _ _⟩
end Jn
end Go.Proofs.Ythbedbjccmhcoaa
