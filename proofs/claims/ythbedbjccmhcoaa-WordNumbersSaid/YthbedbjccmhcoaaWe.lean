/-
  The cursor's number: its contract, where digits of the base stand, then a space. No condition but that the number is one of 64 bits and the text is short.
-/
import Derived.Test.YthbedbjccmhcoaaWd
namespace Go.Proofs.Ythbedbjccmhcoaa
open Go.ChangeShapes Go.WideShapes Go.ChangeAt Go.RowKit
namespace Jn
set_option linter.unusedVariables false
set_option linter.unusedSimpArgs false
set_option maxHeartbeats 4000000 in
set_option maxRecDepth 100000 in
theorem number10 (s : ByteArray) (i b len : Nat) (w : World) (h : Rd w b s i) (hs : s.size ≤ 10000000) (hi : i + 0 + len ≤ s.size) (h0 : bt s i ≠ 48)
    (hdig : ∀ m, m < len → Wb.vl (bt s (i + 0 + m)) < 10) (hend : bt s (i + 0 + len) = 32) (hn : nv s 10 (i + 0) len < 18446744073709551616) :
    Calls Try.prog 28 #[.pointer (some ⟨b, 0, none⟩)] w fun e w' => e = .returned (.tuple #[tok 2 (nv s 10 (i + 0) len : Nat) (i : Nat), .int .i64 0]) ∧ Rd w' b s (i + 0 + len) ∧ Bex b w w' := by
  have cA0 := Lib.hid (show ∀ W, Rd W b s i → Calls Try.prog 20 #[.pointer (some ⟨b, 0, none⟩), .int .i64 0] W fun e w' => e = .returned (.int .u8 (bt s i : Nat)) ∧ Rd w' b s i ∧ Bex b W w' from fun W hW => byteAt_any s i 0 b W hW (by omega) hs (by omega))
  have cA := Lib.hid (show ∀ q : Nat, q ≤ 0 + len → ∀ W, Rd W b s i → Calls Try.prog 20 #[.pointer (some ⟨b, 0, none⟩), .int .i64 (q : Int)] W fun e w' => e = .returned (.int .u8 (bt s (i + q) : Nat)) ∧ Rd w' b s i ∧ Bex b W w' from fun q hq W hW => byteAt_any s i q b W hW (by omega) hs (by omega))
  have H1 := Lib.hid (h.old ((Below.refl _ _).alloc (Nat.le_refl _) (.cells #[.int .i64 0, .string ⟨#[]⟩, .int .u64 0, .int .i64 0] 37)))
  have F1 := Lib.hid (Tok.new w 0 ⟨#[]⟩ 0 0 37)
  have hlt := h.lt
  have FV := Lib.hid (show ∀ q : Nat, 0 ≤ q → q < 0 + len → Wb.vl (bt s (i + q)) < 10 ∧ nv s 10 (i + 0) (q - 0 + 1) = nv s 10 (i + 0) (q - 0) * 10 + Wb.vl (bt s (i + q)) ∧ nv s 10 (i + 0) (q - 0 + 1) < 18446744073709551616 from fun q h1 h2 => by
    refine ⟨?_, ?_, ?_⟩
    · have := hdig (q - 0) (by omega)
      rw [show i + 0 + (q - 0) = i + q by omega] at this; exact this
    · simp only [nv, nv.vlb]
      rw [show i + 0 + (q - 0) = i + q by omega]
    · have := nv_le s 10 (i + 0) (by decide) (len - (q - 0 + 1)) (q - 0 + 1)
      rw [show q - 0 + 1 + (len - (q - 0 + 1)) = len by omega] at this
      omega)
  have HE := Lib.hid hend
  obtain ⟨r1, r2, r3, r4⟩ := H1.out
  have z0 : (((bt s i : Nat) : Int) == 48) = false := by rw [beq_eq_false_iff_ne]; omega
  clear hdig hend hn h
  go_enter Try.func28, Try.ntmps28
  go_wp2_with (go_at_call 20; (with_reducible refine (cA0.out _ H1.out).mono ?_); rintro e w2 ⟨rfl, hr2, hb2⟩)
  have F2 := Lib.hid (F1.out.bex hb2 (by omega) (by simp))
  have B2 := Lib.hid ((Bex.alloc (b := b) (w := w) _).trans hb2)
  have R2 := Lib.hid hr2
  have S2 := Lib.hid (show w.heap.size < w2.heap.size by have := hb2.size; simp at this; omega)
  clear hr2 hb2
  go_loopw [6, 7, 8] (fun x y z wr => ∃ q : Nat, x = .int .u64 ((nv s 10 (i + 0) (q - 0) : Nat) : Int) ∧ y = .bool false ∧ z = .int .i64 (q : Int) ∧ 0 ≤ q ∧ q ≤ 0 + len ∧ Rd wr b s i ∧ Bex b w wr ∧ Tok wr w.heap.size 0 ⟨#[]⟩ 0 0 ∧ w.heap.size < wr.heap.size) (fun x y z wr => 0 + len - (intOf z).toNat)
  case atStart => exact ⟨0, rfl, rfl, rfl, Nat.le_refl _, by omega, R2.out, B2.out, F2.out, S2.out⟩
  case round =>
    obtain ⟨q, rfl, rfl, rfl, hq1, hq2, hr, hb, ht, hsz⟩ := hrel
    have HR := Lib.hid hr
    have HB := Lib.hid hb
    have HT := Lib.hid ht
    have HS := Lib.hid hsz
    clear hr hb ht
    by_cases hlt2 : q < 0 + len
    · obtain ⟨fv1, fv2, fv3⟩ := FV.out q hq1 hlt2
      obtain ⟨v, hv⟩ : ∃ v, v = Wb.vl (bt s (i + q)) := ⟨_, rfl⟩
      obtain ⟨n, hn⟩ : ∃ n, n = nv s 10 (i + 0) (q - 0) := ⟨_, rfl⟩
      rw [← hv] at fv1 fv2
      rw [← hn] at fv2 ⊢
      rw [fv2] at fv3
      have cV := Lib.hid (show ∀ W, Calls Try.prog 45 #[.int .u8 (bt s (i + q) : Nat), .int .u64 10] W fun e w' => e = .returned (.tuple #[.int .u64 (v : Int), .bool true]) ∧ Below W.heap.size W w' from fun W => by
        have := Wb.value_any (bt s (i + q)) 10 (bt_lt _ _) (by decide) W
        rw [← hv, decide_eq_true fv1] at this
        exact this)
      have HF := Lib.hid fv2
      have HN := Lib.hid hn
      have cAq := Lib.hid (cA.out q (by omega))
      have e1 : ((n : Int) > ((18446744073709551615 - (v : Int)) / 10)) = False := eq_false (by omega)
      have e2 : (((18446744073709551615 - (v : Int)) / 10) < (n : Int)) = False := eq_false (by omega)
      have m1 : (n : Int) * 10 ≤ 18446744073709551615 := by omega
      have m2 : (n : Int) * 10 + (v : Int) ≤ 18446744073709551615 := by omega
      have m3 : (v : Int) ≤ 15 := by omega
      have m4 : (q : Int) ≤ 10000000 := by omega
      have hqs : q + 1 ≤ 0 + len := by omega
      have hgb : w.heap.size ≠ b := by omega
      clear fv2 fv3 hn hv hlt2
      go_wp2_with (first
        | (go_at_call 20; (with_reducible refine (cAq.out _ HR.out).mono ?_); rintro e w3 ⟨rfl, hr3, hb3⟩)
        | (go_at_call 45; (with_reducible refine (cV.out _).mono ?_); rintro e w4 ⟨rfl, hb4⟩))
      go_roundw
      case rel => exact ⟨q + 1, by rw [show q + 1 - 0 = q - 0 + 1 by omega, HF.out]; go_num, rfl, by go_num, by omega, hqs, hr3.old hb4, (HB.out.trans hb3).trans (Bex.of_below hb4), (HT.out.bex hb3 hgb HS.out).bex (Bex.of_below hb4) hgb (by have := HS.out; have := hb3.size; omega), by have := HS.out; have := hb3.size; have := hb4.size; omega⟩
      case measure => simp [intOf]; omega
    · have hq : q = 0 + len := by omega
      subst hq
      have bE : bt s (i + (0 + len)) = 32 := by rw [show i + (0 + len) = i + 0 + len by omega]; exact HE.out
      obtain ⟨q, hq⟩ : ∃ q, q = 0 + len := ⟨_, rfl⟩
      have cAq := Lib.hid (cA.out q (by omega))
      rw [← hq] at bE ⊢
      rw [bE] at cAq
      have cV := Lib.hid (show ∀ W, Calls Try.prog 45 #[.int .u8 32, .int .u64 10] W fun e w' => e = .returned (.tuple #[.int .u64 16, .bool false]) ∧ Below W.heap.size W w' from fun W => Wb.value_any 32 10 (by decide) (by decide) W)
      have cL := Lib.hid (show ∀ W, Calls Try.prog 25 #[.int .u8 32] W fun e w' => e = .returned (.bool false) ∧ Below W.heap.size W w' from fun W => Wb.letter_any 32 (by decide) W)
      have cD := Lib.hid (show ∀ W, Calls Try.prog 27 #[.int .u8 32] W fun e w' => e = .returned (.bool false) ∧ Below W.heap.size W w' from fun W => Wb.digit_any 32 (by decide) W)
      obtain ⟨j, hj⟩ : ∃ j, j = i + q := ⟨_, rfl⟩
      have hwr : IntKind.i64.wrap ((i : Int) + (q : Int)) = (j : Int) := by rw [IntWalk.i64_in _ (by omega)]; omega
      obtain ⟨n, hn⟩ : ∃ n, n = nv s 10 (i + 0) len := ⟨_, rfl⟩
      rw [show q - 0 = len by omega, ← hn]
      have hgb : w.heap.size ≠ b := by omega
      have HJ := Lib.hid (show i + 0 + len = j by omega)
      have HN := Lib.hid hn
      clear hn hq hj
      clear hq1 hq2 hlt2 bE
      go_wp2_with (first
        | (go_at_call 20; (with_reducible refine (cAq.out _ HR.out).mono ?_); rintro e w3 ⟨rfl, hr3, hb3⟩)
        | (go_at_call 45; (with_reducible refine (cV.out _).mono ?_); rintro e w4 ⟨rfl, hb4⟩; have hr4 := hr3.old hb4)
        | (go_at_call 20; (with_reducible refine (cAq.out _ hr4).mono ?_); rintro e w5 ⟨rfl, hr5, hb5⟩)
        | (go_at_call 25; (with_reducible refine (cL.out _).mono ?_); rintro e w6 ⟨rfl, hb6⟩)
        | (go_at_call 27; (with_reducible refine (cD.out _).mono ?_); rintro e w7 ⟨rfl, hb7⟩; have BX := (((hb3.trans (Bex.of_below hb4)).trans hb5).trans (Bex.of_below hb6)).trans (Bex.of_below (b := b) hb7); have hr7 := (hr5.old hb6).old hb7; have hr8 := hr7.set j; have s8 := BX.size; have FX := (HT.out.bex BX hgb HS.out).bex (Bex.set b _ 1 (.int .i64 (j : Int))) hgb (by have := HS.out; omega); obtain ⟨x0, x1, x2, x3⟩ := FX.own4 2 ⟨#[]⟩ n i; obtain ⟨f0, f1, f2, f3, f4, f5, f6, f7⟩ := FX; obtain ⟨r5, r6, r7, r8⟩ := hr7))
      refine bodyPost_ret (v := .tuple #[tok 2 (n : Nat) (i : Nat), .int .i64 0]) (by simp [results, Try.results28, go_sem, x0, x1, x2, x3]) rfl ?_
      exact ⟨by rw [HN.out], by rw [HJ.out]; exact (((hr8.off hgb _ _).off hgb _ _).off hgb _ _).off hgb _ _, (((((HB.out.trans BX).trans (Bex.set b _ 1 _)).off (Nat.le_refl _) _ _).off (Nat.le_refl _) _ _).off (Nat.le_refl _) _ _).off (Nat.le_refl _) _ _⟩
set_option maxHeartbeats 4000000 in
set_option maxRecDepth 100000 in
theorem number8a (s : ByteArray) (i b len : Nat) (w : World) (h : Rd w b s i) (hs : s.size ≤ 10000000) (hi : i + 1 + len ≤ s.size) (h0 : bt s i = 48) (h1 : 16 ≤ Wb.vl (bt s (i + 2)))
    (hdig : ∀ m, m < len → Wb.vl (bt s (i + 1 + m)) < 8) (hend : bt s (i + 1 + len) = 32) (hn : nv s 8 (i + 1) len < 18446744073709551616) :
    Calls Try.prog 28 #[.pointer (some ⟨b, 0, none⟩)] w fun e w' => e = .returned (.tuple #[tok 2 (nv s 8 (i + 1) len : Nat) (i : Nat), .int .i64 0]) ∧ Rd w' b s (i + 1 + len) ∧ Bex b w w' := by
  have cA0 := Lib.hid (show ∀ W, Rd W b s i → Calls Try.prog 20 #[.pointer (some ⟨b, 0, none⟩), .int .i64 0] W fun e w' => e = .returned (.int .u8 (bt s i : Nat)) ∧ Rd w' b s i ∧ Bex b W w' from fun W hW => byteAt_any s i 0 b W hW (by omega) hs (by omega))
  have cA := Lib.hid (show ∀ q : Nat, q ≤ 1 + len → ∀ W, Rd W b s i → Calls Try.prog 20 #[.pointer (some ⟨b, 0, none⟩), .int .i64 (q : Int)] W fun e w' => e = .returned (.int .u8 (bt s (i + q) : Nat)) ∧ Rd w' b s i ∧ Bex b W w' from fun q hq W hW => byteAt_any s i q b W hW (by omega) hs (by omega))
  have H1 := Lib.hid (h.old ((Below.refl _ _).alloc (Nat.le_refl _) (.cells #[.int .i64 0, .string ⟨#[]⟩, .int .u64 0, .int .i64 0] 37)))
  have F1 := Lib.hid (Tok.new w 0 ⟨#[]⟩ 0 0 37)
  have hlt := h.lt
  have FV := Lib.hid (show ∀ q : Nat, 1 ≤ q → q < 1 + len → Wb.vl (bt s (i + q)) < 8 ∧ nv s 8 (i + 1) (q - 1 + 1) = nv s 8 (i + 1) (q - 1) * 8 + Wb.vl (bt s (i + q)) ∧ nv s 8 (i + 1) (q - 1 + 1) < 18446744073709551616 from fun q h1 h2 => by
    refine ⟨?_, ?_, ?_⟩
    · have := hdig (q - 1) (by omega)
      rw [show i + 1 + (q - 1) = i + q by omega] at this; exact this
    · simp only [nv, nv.vlb]
      rw [show i + 1 + (q - 1) = i + q by omega]
    · have := nv_le s 8 (i + 1) (by decide) (len - (q - 1 + 1)) (q - 1 + 1)
      rw [show q - 1 + 1 + (len - (q - 1 + 1)) = len by omega] at this
      omega)
  have HE := Lib.hid hend
  obtain ⟨r1, r2, r3, r4⟩ := H1.out
  have cC := Lib.hid (show ∀ W, Rd W b s i → Calls Try.prog 20 #[.pointer (some ⟨b, 0, none⟩), .int .i64 2] W fun e w' => e = .returned (.int .u8 (bt s (i + 2) : Nat)) ∧ Rd w' b s i ∧ Bex b W w' from fun W hW => byteAt_any s i 2 b W hW (by omega) hs (by omega))
  obtain ⟨v2, hv2⟩ : ∃ v2, v2 = Wb.vl (bt s (i + 2)) := ⟨_, rfl⟩
  rw [← hv2] at h1
  have cW := Lib.hid (show ∀ W, Calls Try.prog 45 #[.int .u8 (bt s (i + 2) : Nat), .int .u64 16] W fun e w' => e = .returned (.tuple #[.int .u64 (v2 : Int), .bool false]) ∧ Below W.heap.size W w' from fun W => by
    have := Wb.value_any (bt s (i + 2)) 16 (bt_lt _ _) (by decide) W
    rw [← hv2, decide_eq_false (by omega)] at this
    exact this)
  rw [h0] at cA0
  clear h0 h1 hv2
  clear hdig hend hn h
  go_enter Try.func28, Try.ntmps28
  go_wp2_with (first
    | (go_at_call 20; (with_reducible refine (cA0.out _ H1.out).mono ?_); rintro e wa ⟨rfl, hra, hba⟩)
    | (go_at_call 20; (with_reducible refine (cC.out _ hra).mono ?_); rintro e wc ⟨rfl, hrc, hbc⟩)
    | (go_at_call 45; (with_reducible refine (cW.out _).mono ?_); rintro e w2 ⟨rfl, hbd⟩; have hr2 := hrc.old hbd; have hb2 := (hba.trans hbc).trans (Bex.of_below hbd)))
  have F2 := Lib.hid (F1.out.bex hb2 (by omega) (by simp))
  have B2 := Lib.hid ((Bex.alloc (b := b) (w := w) _).trans hb2)
  have R2 := Lib.hid hr2
  have S2 := Lib.hid (show w.heap.size < w2.heap.size by have := hb2.size; simp at this; omega)
  clear hr2 hb2
  go_loopw [6, 7, 8] (fun x y z wr => ∃ q : Nat, x = .int .u64 ((nv s 8 (i + 1) (q - 1) : Nat) : Int) ∧ y = .bool false ∧ z = .int .i64 (q : Int) ∧ 1 ≤ q ∧ q ≤ 1 + len ∧ Rd wr b s i ∧ Bex b w wr ∧ Tok wr w.heap.size 0 ⟨#[]⟩ 0 0 ∧ w.heap.size < wr.heap.size) (fun x y z wr => 1 + len - (intOf z).toNat)
  case atStart => exact ⟨1, rfl, rfl, rfl, Nat.le_refl _, by omega, R2.out, B2.out, F2.out, S2.out⟩
  case round =>
    obtain ⟨q, rfl, rfl, rfl, hq1, hq2, hr, hb, ht, hsz⟩ := hrel
    have HR := Lib.hid hr
    have HB := Lib.hid hb
    have HT := Lib.hid ht
    have HS := Lib.hid hsz
    clear hr hb ht
    by_cases hlt2 : q < 1 + len
    · obtain ⟨fv1, fv2, fv3⟩ := FV.out q hq1 hlt2
      obtain ⟨v, hv⟩ : ∃ v, v = Wb.vl (bt s (i + q)) := ⟨_, rfl⟩
      obtain ⟨n, hn⟩ : ∃ n, n = nv s 8 (i + 1) (q - 1) := ⟨_, rfl⟩
      rw [← hv] at fv1 fv2
      rw [← hn] at fv2 ⊢
      rw [fv2] at fv3
      have cV := Lib.hid (show ∀ W, Calls Try.prog 45 #[.int .u8 (bt s (i + q) : Nat), .int .u64 8] W fun e w' => e = .returned (.tuple #[.int .u64 (v : Int), .bool true]) ∧ Below W.heap.size W w' from fun W => by
        have := Wb.value_any (bt s (i + q)) 8 (bt_lt _ _) (by decide) W
        rw [← hv, decide_eq_true fv1] at this
        exact this)
      have HF := Lib.hid fv2
      have HN := Lib.hid hn
      have cAq := Lib.hid (cA.out q (by omega))
      have e1 : ((n : Int) > ((18446744073709551615 - (v : Int)) / 8)) = False := eq_false (by omega)
      have e2 : (((18446744073709551615 - (v : Int)) / 8) < (n : Int)) = False := eq_false (by omega)
      have m1 : (n : Int) * 8 ≤ 18446744073709551615 := by omega
      have m2 : (n : Int) * 8 + (v : Int) ≤ 18446744073709551615 := by omega
      have m3 : (v : Int) ≤ 15 := by omega
      have m4 : (q : Int) ≤ 10000000 := by omega
      have hqs : q + 1 ≤ 1 + len := by omega
      have hgb : w.heap.size ≠ b := by omega
      clear fv2 fv3 hn hv hlt2
      go_wp2_with (first
        | (go_at_call 20; (with_reducible refine (cAq.out _ HR.out).mono ?_); rintro e w3 ⟨rfl, hr3, hb3⟩)
        | (go_at_call 45; (with_reducible refine (cV.out _).mono ?_); rintro e w4 ⟨rfl, hb4⟩))
      go_roundw
      case rel => exact ⟨q + 1, by rw [show q + 1 - 1 = q - 1 + 1 by omega, HF.out]; go_num, rfl, by go_num, by omega, hqs, hr3.old hb4, (HB.out.trans hb3).trans (Bex.of_below hb4), (HT.out.bex hb3 hgb HS.out).bex (Bex.of_below hb4) hgb (by have := HS.out; have := hb3.size; omega), by have := HS.out; have := hb3.size; have := hb4.size; omega⟩
      case measure => simp [intOf]; omega
    · have hq : q = 1 + len := by omega
      subst hq
      have bE : bt s (i + (1 + len)) = 32 := by rw [show i + (1 + len) = i + 1 + len by omega]; exact HE.out
      obtain ⟨q, hq⟩ : ∃ q, q = 1 + len := ⟨_, rfl⟩
      have cAq := Lib.hid (cA.out q (by omega))
      rw [← hq] at bE ⊢
      rw [bE] at cAq
      have cV := Lib.hid (show ∀ W, Calls Try.prog 45 #[.int .u8 32, .int .u64 8] W fun e w' => e = .returned (.tuple #[.int .u64 16, .bool false]) ∧ Below W.heap.size W w' from fun W => Wb.value_any 32 8 (by decide) (by decide) W)
      have cL := Lib.hid (show ∀ W, Calls Try.prog 25 #[.int .u8 32] W fun e w' => e = .returned (.bool false) ∧ Below W.heap.size W w' from fun W => Wb.letter_any 32 (by decide) W)
      have cD := Lib.hid (show ∀ W, Calls Try.prog 27 #[.int .u8 32] W fun e w' => e = .returned (.bool false) ∧ Below W.heap.size W w' from fun W => Wb.digit_any 32 (by decide) W)
      obtain ⟨j, hj⟩ : ∃ j, j = i + q := ⟨_, rfl⟩
      have hwr : IntKind.i64.wrap ((i : Int) + (q : Int)) = (j : Int) := by rw [IntWalk.i64_in _ (by omega)]; omega
      obtain ⟨n, hn⟩ : ∃ n, n = nv s 8 (i + 1) len := ⟨_, rfl⟩
      rw [show q - 1 = len by omega, ← hn]
      have hgb : w.heap.size ≠ b := by omega
      have HJ := Lib.hid (show i + 1 + len = j by omega)
      have HN := Lib.hid hn
      clear hn hq hj
      clear hq1 hq2 hlt2 bE
      go_wp2_with (first
        | (go_at_call 20; (with_reducible refine (cAq.out _ HR.out).mono ?_); rintro e w3 ⟨rfl, hr3, hb3⟩)
        | (go_at_call 45; (with_reducible refine (cV.out _).mono ?_); rintro e w4 ⟨rfl, hb4⟩; have hr4 := hr3.old hb4)
        | (go_at_call 20; (with_reducible refine (cAq.out _ hr4).mono ?_); rintro e w5 ⟨rfl, hr5, hb5⟩)
        | (go_at_call 25; (with_reducible refine (cL.out _).mono ?_); rintro e w6 ⟨rfl, hb6⟩)
        | (go_at_call 27; (with_reducible refine (cD.out _).mono ?_); rintro e w7 ⟨rfl, hb7⟩; have BX := (((hb3.trans (Bex.of_below hb4)).trans hb5).trans (Bex.of_below hb6)).trans (Bex.of_below (b := b) hb7); have hr7 := (hr5.old hb6).old hb7; have hr8 := hr7.set j; have s8 := BX.size; have FX := (HT.out.bex BX hgb HS.out).bex (Bex.set b _ 1 (.int .i64 (j : Int))) hgb (by have := HS.out; omega); obtain ⟨x0, x1, x2, x3⟩ := FX.own4 2 ⟨#[]⟩ n i; obtain ⟨f0, f1, f2, f3, f4, f5, f6, f7⟩ := FX; obtain ⟨r5, r6, r7, r8⟩ := hr7))
      refine bodyPost_ret (v := .tuple #[tok 2 (n : Nat) (i : Nat), .int .i64 0]) (by simp [results, Try.results28, go_sem, x0, x1, x2, x3]) rfl ?_
      exact ⟨by rw [HN.out], by rw [HJ.out]; exact (((hr8.off hgb _ _).off hgb _ _).off hgb _ _).off hgb _ _, (((((HB.out.trans BX).trans (Bex.set b _ 1 _)).off (Nat.le_refl _) _ _).off (Nat.le_refl _) _ _).off (Nat.le_refl _) _ _).off (Nat.le_refl _) _ _⟩
set_option maxHeartbeats 4000000 in
set_option maxRecDepth 100000 in
theorem number8b (s : ByteArray) (i b len : Nat) (w : World) (h : Rd w b s i) (hs : s.size ≤ 10000000) (hi : i + 1 + len ≤ s.size) (h0 : bt s i = 48) (h1 : Wb.vl (bt s (i + 2)) < 16) (h2 : 48 ≤ bt s (i + 1)) (h3 : bt s (i + 1) ≤ 55)
    (hdig : ∀ m, m < len → Wb.vl (bt s (i + 1 + m)) < 8) (hend : bt s (i + 1 + len) = 32) (hn : nv s 8 (i + 1) len < 18446744073709551616) :
    Calls Try.prog 28 #[.pointer (some ⟨b, 0, none⟩)] w fun e w' => e = .returned (.tuple #[tok 2 (nv s 8 (i + 1) len : Nat) (i : Nat), .int .i64 0]) ∧ Rd w' b s (i + 1 + len) ∧ Bex b w w' := by
  have cA0 := Lib.hid (show ∀ W, Rd W b s i → Calls Try.prog 20 #[.pointer (some ⟨b, 0, none⟩), .int .i64 0] W fun e w' => e = .returned (.int .u8 (bt s i : Nat)) ∧ Rd w' b s i ∧ Bex b W w' from fun W hW => byteAt_any s i 0 b W hW (by omega) hs (by omega))
  have cA := Lib.hid (show ∀ q : Nat, q ≤ 1 + len → ∀ W, Rd W b s i → Calls Try.prog 20 #[.pointer (some ⟨b, 0, none⟩), .int .i64 (q : Int)] W fun e w' => e = .returned (.int .u8 (bt s (i + q) : Nat)) ∧ Rd w' b s i ∧ Bex b W w' from fun q hq W hW => byteAt_any s i q b W hW (by omega) hs (by omega))
  have H1 := Lib.hid (h.old ((Below.refl _ _).alloc (Nat.le_refl _) (.cells #[.int .i64 0, .string ⟨#[]⟩, .int .u64 0, .int .i64 0] 37)))
  have F1 := Lib.hid (Tok.new w 0 ⟨#[]⟩ 0 0 37)
  have hlt := h.lt
  have FV := Lib.hid (show ∀ q : Nat, 1 ≤ q → q < 1 + len → Wb.vl (bt s (i + q)) < 8 ∧ nv s 8 (i + 1) (q - 1 + 1) = nv s 8 (i + 1) (q - 1) * 8 + Wb.vl (bt s (i + q)) ∧ nv s 8 (i + 1) (q - 1 + 1) < 18446744073709551616 from fun q h1 h2 => by
    refine ⟨?_, ?_, ?_⟩
    · have := hdig (q - 1) (by omega)
      rw [show i + 1 + (q - 1) = i + q by omega] at this; exact this
    · simp only [nv, nv.vlb]
      rw [show i + 1 + (q - 1) = i + q by omega]
    · have := nv_le s 8 (i + 1) (by decide) (len - (q - 1 + 1)) (q - 1 + 1)
      rw [show q - 1 + 1 + (len - (q - 1 + 1)) = len by omega] at this
      omega)
  have HE := Lib.hid hend
  obtain ⟨r1, r2, r3, r4⟩ := H1.out
  have cC := Lib.hid (show ∀ W, Rd W b s i → Calls Try.prog 20 #[.pointer (some ⟨b, 0, none⟩), .int .i64 2] W fun e w' => e = .returned (.int .u8 (bt s (i + 2) : Nat)) ∧ Rd w' b s i ∧ Bex b W w' from fun W hW => byteAt_any s i 2 b W hW (by omega) hs (by omega))
  obtain ⟨v2, hv2⟩ : ∃ v2, v2 = Wb.vl (bt s (i + 2)) := ⟨_, rfl⟩
  rw [← hv2] at h1
  have cW := Lib.hid (show ∀ W, Calls Try.prog 45 #[.int .u8 (bt s (i + 2) : Nat), .int .u64 16] W fun e w' => e = .returned (.tuple #[.int .u64 (v2 : Int), .bool true]) ∧ Below W.heap.size W w' from fun W => by
    have := Wb.value_any (bt s (i + 2)) 16 (bt_lt _ _) (by decide) W
    rw [← hv2, decide_eq_true (by omega)] at this
    exact this)
  rw [h0] at cA0
  have cX := Lib.hid (show ∀ W, Rd W b s i → Calls Try.prog 20 #[.pointer (some ⟨b, 0, none⟩), .int .i64 1] W fun e w' => e = .returned (.int .u8 (bt s (i + 1) : Nat)) ∧ Rd w' b s i ∧ Bex b W w' from fun W hW => byteAt_any s i 1 b W hW (by omega) hs (by omega))
  obtain ⟨c1, hc1⟩ : ∃ c1, c1 = bt s (i + 1) := ⟨_, rfl⟩
  rw [← hc1] at cX h2 h3
  have hbo : bits BinOp.or IntKind.u8 (c1 : Int) 32 = (c1 : Int) := by
    have h8 : c1 = 48 ∨ c1 = 49 ∨ c1 = 50 ∨ c1 = 51 ∨ c1 = 52 ∨ c1 = 53 ∨ c1 = 54 ∨ c1 = 55 := by omega
    rcases h8 with h | h | h | h | h | h | h | h <;> (rw [h]; decide)
  have hne : ((c1 : Int) == 120) = false := by rw [beq_eq_false_iff_ne]; omega
  clear h0 h1 hv2 hc1 h2 h3
  clear hdig hend hn h
  go_enter Try.func28, Try.ntmps28
  go_wp2_with (first
    | (go_at_call 20; (with_reducible refine (cA0.out _ H1.out).mono ?_); rintro e wa ⟨rfl, hra, hba⟩)
    | (go_at_call 20; (with_reducible refine (cC.out _ hra).mono ?_); rintro e wc ⟨rfl, hrc, hbc⟩)
    | (go_at_call 45; (with_reducible refine (cW.out _).mono ?_); rintro e wd ⟨rfl, hbd⟩; have hrd := hrc.old hbd; have hbe := (hba.trans hbc).trans (Bex.of_below hbd))
    | (go_at_call 20; (with_reducible refine (cX.out _ hrd).mono ?_); rintro e w2 ⟨rfl, hr2, hbx⟩; have hb2 := hbe.trans hbx))
  have F2 := Lib.hid (F1.out.bex hb2 (by omega) (by simp))
  have B2 := Lib.hid ((Bex.alloc (b := b) (w := w) _).trans hb2)
  have R2 := Lib.hid hr2
  have S2 := Lib.hid (show w.heap.size < w2.heap.size by have := hb2.size; simp at this; omega)
  clear hr2 hb2
  go_loopw [6, 7, 8] (fun x y z wr => ∃ q : Nat, x = .int .u64 ((nv s 8 (i + 1) (q - 1) : Nat) : Int) ∧ y = .bool false ∧ z = .int .i64 (q : Int) ∧ 1 ≤ q ∧ q ≤ 1 + len ∧ Rd wr b s i ∧ Bex b w wr ∧ Tok wr w.heap.size 0 ⟨#[]⟩ 0 0 ∧ w.heap.size < wr.heap.size) (fun x y z wr => 1 + len - (intOf z).toNat)
  case atStart => exact ⟨1, rfl, rfl, rfl, Nat.le_refl _, by omega, R2.out, B2.out, F2.out, S2.out⟩
  case round =>
    obtain ⟨q, rfl, rfl, rfl, hq1, hq2, hr, hb, ht, hsz⟩ := hrel
    have HR := Lib.hid hr
    have HB := Lib.hid hb
    have HT := Lib.hid ht
    have HS := Lib.hid hsz
    clear hr hb ht
    by_cases hlt2 : q < 1 + len
    · obtain ⟨fv1, fv2, fv3⟩ := FV.out q hq1 hlt2
      obtain ⟨v, hv⟩ : ∃ v, v = Wb.vl (bt s (i + q)) := ⟨_, rfl⟩
      obtain ⟨n, hn⟩ : ∃ n, n = nv s 8 (i + 1) (q - 1) := ⟨_, rfl⟩
      rw [← hv] at fv1 fv2
      rw [← hn] at fv2 ⊢
      rw [fv2] at fv3
      have cV := Lib.hid (show ∀ W, Calls Try.prog 45 #[.int .u8 (bt s (i + q) : Nat), .int .u64 8] W fun e w' => e = .returned (.tuple #[.int .u64 (v : Int), .bool true]) ∧ Below W.heap.size W w' from fun W => by
        have := Wb.value_any (bt s (i + q)) 8 (bt_lt _ _) (by decide) W
        rw [← hv, decide_eq_true fv1] at this
        exact this)
      have HF := Lib.hid fv2
      have HN := Lib.hid hn
      have cAq := Lib.hid (cA.out q (by omega))
      have e1 : ((n : Int) > ((18446744073709551615 - (v : Int)) / 8)) = False := eq_false (by omega)
      have e2 : (((18446744073709551615 - (v : Int)) / 8) < (n : Int)) = False := eq_false (by omega)
      have m1 : (n : Int) * 8 ≤ 18446744073709551615 := by omega
      have m2 : (n : Int) * 8 + (v : Int) ≤ 18446744073709551615 := by omega
      have m3 : (v : Int) ≤ 15 := by omega
      have m4 : (q : Int) ≤ 10000000 := by omega
      have hqs : q + 1 ≤ 1 + len := by omega
      have hgb : w.heap.size ≠ b := by omega
      clear fv2 fv3 hn hv hlt2
      go_wp2_with (first
        | (go_at_call 20; (with_reducible refine (cAq.out _ HR.out).mono ?_); rintro e w3 ⟨rfl, hr3, hb3⟩)
        | (go_at_call 45; (with_reducible refine (cV.out _).mono ?_); rintro e w4 ⟨rfl, hb4⟩))
      go_roundw
      case rel => exact ⟨q + 1, by rw [show q + 1 - 1 = q - 1 + 1 by omega, HF.out]; go_num, rfl, by go_num, by omega, hqs, hr3.old hb4, (HB.out.trans hb3).trans (Bex.of_below hb4), (HT.out.bex hb3 hgb HS.out).bex (Bex.of_below hb4) hgb (by have := HS.out; have := hb3.size; omega), by have := HS.out; have := hb3.size; have := hb4.size; omega⟩
      case measure => simp [intOf]; omega
    · have hq : q = 1 + len := by omega
      subst hq
      have bE : bt s (i + (1 + len)) = 32 := by rw [show i + (1 + len) = i + 1 + len by omega]; exact HE.out
      obtain ⟨q, hq⟩ : ∃ q, q = 1 + len := ⟨_, rfl⟩
      have cAq := Lib.hid (cA.out q (by omega))
      rw [← hq] at bE ⊢
      rw [bE] at cAq
      have cV := Lib.hid (show ∀ W, Calls Try.prog 45 #[.int .u8 32, .int .u64 8] W fun e w' => e = .returned (.tuple #[.int .u64 16, .bool false]) ∧ Below W.heap.size W w' from fun W => Wb.value_any 32 8 (by decide) (by decide) W)
      have cL := Lib.hid (show ∀ W, Calls Try.prog 25 #[.int .u8 32] W fun e w' => e = .returned (.bool false) ∧ Below W.heap.size W w' from fun W => Wb.letter_any 32 (by decide) W)
      have cD := Lib.hid (show ∀ W, Calls Try.prog 27 #[.int .u8 32] W fun e w' => e = .returned (.bool false) ∧ Below W.heap.size W w' from fun W => Wb.digit_any 32 (by decide) W)
      obtain ⟨j, hj⟩ : ∃ j, j = i + q := ⟨_, rfl⟩
      have hwr : IntKind.i64.wrap ((i : Int) + (q : Int)) = (j : Int) := by rw [IntWalk.i64_in _ (by omega)]; omega
      obtain ⟨n, hn⟩ : ∃ n, n = nv s 8 (i + 1) len := ⟨_, rfl⟩
      rw [show q - 1 = len by omega, ← hn]
      have hgb : w.heap.size ≠ b := by omega
      have HJ := Lib.hid (show i + 1 + len = j by omega)
      have HN := Lib.hid hn
      clear hn hq hj
      clear hq1 hq2 hlt2 bE
      go_wp2_with (first
        | (go_at_call 20; (with_reducible refine (cAq.out _ HR.out).mono ?_); rintro e w3 ⟨rfl, hr3, hb3⟩)
        | (go_at_call 45; (with_reducible refine (cV.out _).mono ?_); rintro e w4 ⟨rfl, hb4⟩; have hr4 := hr3.old hb4)
        | (go_at_call 20; (with_reducible refine (cAq.out _ hr4).mono ?_); rintro e w5 ⟨rfl, hr5, hb5⟩)
        | (go_at_call 25; (with_reducible refine (cL.out _).mono ?_); rintro e w6 ⟨rfl, hb6⟩)
        | (go_at_call 27; (with_reducible refine (cD.out _).mono ?_); rintro e w7 ⟨rfl, hb7⟩; have BX := (((hb3.trans (Bex.of_below hb4)).trans hb5).trans (Bex.of_below hb6)).trans (Bex.of_below (b := b) hb7); have hr7 := (hr5.old hb6).old hb7; have hr8 := hr7.set j; have s8 := BX.size; have FX := (HT.out.bex BX hgb HS.out).bex (Bex.set b _ 1 (.int .i64 (j : Int))) hgb (by have := HS.out; omega); obtain ⟨x0, x1, x2, x3⟩ := FX.own4 2 ⟨#[]⟩ n i; obtain ⟨f0, f1, f2, f3, f4, f5, f6, f7⟩ := FX; obtain ⟨r5, r6, r7, r8⟩ := hr7))
      refine bodyPost_ret (v := .tuple #[tok 2 (n : Nat) (i : Nat), .int .i64 0]) (by simp [results, Try.results28, go_sem, x0, x1, x2, x3]) rfl ?_
      exact ⟨by rw [HN.out], by rw [HJ.out]; exact (((hr8.off hgb _ _).off hgb _ _).off hgb _ _).off hgb _ _, (((((HB.out.trans BX).trans (Bex.set b _ 1 _)).off (Nat.le_refl _) _ _).off (Nat.le_refl _) _ _).off (Nat.le_refl _) _ _).off (Nat.le_refl _) _ _⟩
set_option maxHeartbeats 4000000 in
set_option maxRecDepth 100000 in
theorem number16 (s : ByteArray) (i b len : Nat) (w : World) (h : Rd w b s i) (hs : s.size ≤ 10000000) (hi : i + 2 + len ≤ s.size) (h0 : bt s i = 48) (h1 : Wb.vl (bt s (i + 2)) < 16) (h2 : bt s (i + 1) = 120)
    (hdig : ∀ m, m < len → Wb.vl (bt s (i + 2 + m)) < 16) (hend : bt s (i + 2 + len) = 32) (hn : nv s 16 (i + 2) len < 18446744073709551616) :
    Calls Try.prog 28 #[.pointer (some ⟨b, 0, none⟩)] w fun e w' => e = .returned (.tuple #[tok 2 (nv s 16 (i + 2) len : Nat) (i : Nat), .int .i64 0]) ∧ Rd w' b s (i + 2 + len) ∧ Bex b w w' := by
  have cA0 := Lib.hid (show ∀ W, Rd W b s i → Calls Try.prog 20 #[.pointer (some ⟨b, 0, none⟩), .int .i64 0] W fun e w' => e = .returned (.int .u8 (bt s i : Nat)) ∧ Rd w' b s i ∧ Bex b W w' from fun W hW => byteAt_any s i 0 b W hW (by omega) hs (by omega))
  have cA := Lib.hid (show ∀ q : Nat, q ≤ 2 + len → ∀ W, Rd W b s i → Calls Try.prog 20 #[.pointer (some ⟨b, 0, none⟩), .int .i64 (q : Int)] W fun e w' => e = .returned (.int .u8 (bt s (i + q) : Nat)) ∧ Rd w' b s i ∧ Bex b W w' from fun q hq W hW => byteAt_any s i q b W hW (by omega) hs (by omega))
  have H1 := Lib.hid (h.old ((Below.refl _ _).alloc (Nat.le_refl _) (.cells #[.int .i64 0, .string ⟨#[]⟩, .int .u64 0, .int .i64 0] 37)))
  have F1 := Lib.hid (Tok.new w 0 ⟨#[]⟩ 0 0 37)
  have hlt := h.lt
  have FV := Lib.hid (show ∀ q : Nat, 2 ≤ q → q < 2 + len → Wb.vl (bt s (i + q)) < 16 ∧ nv s 16 (i + 2) (q - 2 + 1) = nv s 16 (i + 2) (q - 2) * 16 + Wb.vl (bt s (i + q)) ∧ nv s 16 (i + 2) (q - 2 + 1) < 18446744073709551616 from fun q h1 h2 => by
    refine ⟨?_, ?_, ?_⟩
    · have := hdig (q - 2) (by omega)
      rw [show i + 2 + (q - 2) = i + q by omega] at this; exact this
    · simp only [nv, nv.vlb]
      rw [show i + 2 + (q - 2) = i + q by omega]
    · have := nv_le s 16 (i + 2) (by decide) (len - (q - 2 + 1)) (q - 2 + 1)
      rw [show q - 2 + 1 + (len - (q - 2 + 1)) = len by omega] at this
      omega)
  have HE := Lib.hid hend
  obtain ⟨r1, r2, r3, r4⟩ := H1.out
  have cC := Lib.hid (show ∀ W, Rd W b s i → Calls Try.prog 20 #[.pointer (some ⟨b, 0, none⟩), .int .i64 2] W fun e w' => e = .returned (.int .u8 (bt s (i + 2) : Nat)) ∧ Rd w' b s i ∧ Bex b W w' from fun W hW => byteAt_any s i 2 b W hW (by omega) hs (by omega))
  obtain ⟨v2, hv2⟩ : ∃ v2, v2 = Wb.vl (bt s (i + 2)) := ⟨_, rfl⟩
  rw [← hv2] at h1
  have cW := Lib.hid (show ∀ W, Calls Try.prog 45 #[.int .u8 (bt s (i + 2) : Nat), .int .u64 16] W fun e w' => e = .returned (.tuple #[.int .u64 (v2 : Int), .bool true]) ∧ Below W.heap.size W w' from fun W => by
    have := Wb.value_any (bt s (i + 2)) 16 (bt_lt _ _) (by decide) W
    rw [← hv2, decide_eq_true (by omega)] at this
    exact this)
  rw [h0] at cA0
  have cX := Lib.hid (show ∀ W, Rd W b s i → Calls Try.prog 20 #[.pointer (some ⟨b, 0, none⟩), .int .i64 1] W fun e w' => e = .returned (.int .u8 (bt s (i + 1) : Nat)) ∧ Rd w' b s i ∧ Bex b W w' from fun W hW => byteAt_any s i 1 b W hW (by omega) hs (by omega))
  rw [h2] at cX
  have hbo : bits BinOp.or IntKind.u8 120 32 = 120 := by decide
  clear h0 h1 h2 hv2
  clear hdig hend hn h
  go_enter Try.func28, Try.ntmps28
  go_wp2_with (first
    | (go_at_call 20; (with_reducible refine (cA0.out _ H1.out).mono ?_); rintro e wa ⟨rfl, hra, hba⟩)
    | (go_at_call 20; (with_reducible refine (cC.out _ hra).mono ?_); rintro e wc ⟨rfl, hrc, hbc⟩)
    | (go_at_call 45; (with_reducible refine (cW.out _).mono ?_); rintro e wd ⟨rfl, hbd⟩; have hrd := hrc.old hbd; have hbe := (hba.trans hbc).trans (Bex.of_below hbd))
    | (go_at_call 20; (with_reducible refine (cX.out _ hrd).mono ?_); rintro e w2 ⟨rfl, hr2, hbx⟩; have hb2 := hbe.trans hbx))
  have F2 := Lib.hid (F1.out.bex hb2 (by omega) (by simp))
  have B2 := Lib.hid ((Bex.alloc (b := b) (w := w) _).trans hb2)
  have R2 := Lib.hid hr2
  have S2 := Lib.hid (show w.heap.size < w2.heap.size by have := hb2.size; simp at this; omega)
  clear hr2 hb2
  go_loopw [6, 7, 8] (fun x y z wr => ∃ q : Nat, x = .int .u64 ((nv s 16 (i + 2) (q - 2) : Nat) : Int) ∧ y = .bool false ∧ z = .int .i64 (q : Int) ∧ 2 ≤ q ∧ q ≤ 2 + len ∧ Rd wr b s i ∧ Bex b w wr ∧ Tok wr w.heap.size 0 ⟨#[]⟩ 0 0 ∧ w.heap.size < wr.heap.size) (fun x y z wr => 2 + len - (intOf z).toNat)
  case atStart => exact ⟨2, rfl, rfl, rfl, Nat.le_refl _, by omega, R2.out, B2.out, F2.out, S2.out⟩
  case round =>
    obtain ⟨q, rfl, rfl, rfl, hq1, hq2, hr, hb, ht, hsz⟩ := hrel
    have HR := Lib.hid hr
    have HB := Lib.hid hb
    have HT := Lib.hid ht
    have HS := Lib.hid hsz
    clear hr hb ht
    by_cases hlt2 : q < 2 + len
    · obtain ⟨fv1, fv2, fv3⟩ := FV.out q hq1 hlt2
      obtain ⟨v, hv⟩ : ∃ v, v = Wb.vl (bt s (i + q)) := ⟨_, rfl⟩
      obtain ⟨n, hn⟩ : ∃ n, n = nv s 16 (i + 2) (q - 2) := ⟨_, rfl⟩
      rw [← hv] at fv1 fv2
      rw [← hn] at fv2 ⊢
      rw [fv2] at fv3
      have cV := Lib.hid (show ∀ W, Calls Try.prog 45 #[.int .u8 (bt s (i + q) : Nat), .int .u64 16] W fun e w' => e = .returned (.tuple #[.int .u64 (v : Int), .bool true]) ∧ Below W.heap.size W w' from fun W => by
        have := Wb.value_any (bt s (i + q)) 16 (bt_lt _ _) (by decide) W
        rw [← hv, decide_eq_true fv1] at this
        exact this)
      have HF := Lib.hid fv2
      have HN := Lib.hid hn
      have cAq := Lib.hid (cA.out q (by omega))
      have e1 : ((n : Int) > ((18446744073709551615 - (v : Int)) / 16)) = False := eq_false (by omega)
      have e2 : (((18446744073709551615 - (v : Int)) / 16) < (n : Int)) = False := eq_false (by omega)
      have m1 : (n : Int) * 16 ≤ 18446744073709551615 := by omega
      have m2 : (n : Int) * 16 + (v : Int) ≤ 18446744073709551615 := by omega
      have m3 : (v : Int) ≤ 15 := by omega
      have m4 : (q : Int) ≤ 10000000 := by omega
      have hqs : q + 1 ≤ 2 + len := by omega
      have hgb : w.heap.size ≠ b := by omega
      clear fv2 fv3 hn hv hlt2
      go_wp2_with (first
        | (go_at_call 20; (with_reducible refine (cAq.out _ HR.out).mono ?_); rintro e w3 ⟨rfl, hr3, hb3⟩)
        | (go_at_call 45; (with_reducible refine (cV.out _).mono ?_); rintro e w4 ⟨rfl, hb4⟩))
      go_roundw
      case rel => exact ⟨q + 1, by rw [show q + 1 - 2 = q - 2 + 1 by omega, HF.out]; go_num, rfl, by go_num, by omega, hqs, hr3.old hb4, (HB.out.trans hb3).trans (Bex.of_below hb4), (HT.out.bex hb3 hgb HS.out).bex (Bex.of_below hb4) hgb (by have := HS.out; have := hb3.size; omega), by have := HS.out; have := hb3.size; have := hb4.size; omega⟩
      case measure => simp [intOf]; omega
    · have hq : q = 2 + len := by omega
      subst hq
      have bE : bt s (i + (2 + len)) = 32 := by rw [show i + (2 + len) = i + 2 + len by omega]; exact HE.out
      obtain ⟨q, hq⟩ : ∃ q, q = 2 + len := ⟨_, rfl⟩
      have cAq := Lib.hid (cA.out q (by omega))
      rw [← hq] at bE ⊢
      rw [bE] at cAq
      have cV := Lib.hid (show ∀ W, Calls Try.prog 45 #[.int .u8 32, .int .u64 16] W fun e w' => e = .returned (.tuple #[.int .u64 16, .bool false]) ∧ Below W.heap.size W w' from fun W => Wb.value_any 32 16 (by decide) (by decide) W)
      have cL := Lib.hid (show ∀ W, Calls Try.prog 25 #[.int .u8 32] W fun e w' => e = .returned (.bool false) ∧ Below W.heap.size W w' from fun W => Wb.letter_any 32 (by decide) W)
      have cD := Lib.hid (show ∀ W, Calls Try.prog 27 #[.int .u8 32] W fun e w' => e = .returned (.bool false) ∧ Below W.heap.size W w' from fun W => Wb.digit_any 32 (by decide) W)
      obtain ⟨j, hj⟩ : ∃ j, j = i + q := ⟨_, rfl⟩
      have hwr : IntKind.i64.wrap ((i : Int) + (q : Int)) = (j : Int) := by rw [IntWalk.i64_in _ (by omega)]; omega
      obtain ⟨n, hn⟩ : ∃ n, n = nv s 16 (i + 2) len := ⟨_, rfl⟩
      rw [show q - 2 = len by omega, ← hn]
      have hgb : w.heap.size ≠ b := by omega
      have HJ := Lib.hid (show i + 2 + len = j by omega)
      have HN := Lib.hid hn
      clear hn hq hj
      clear hq1 hq2 hlt2 bE
      go_wp2_with (first
        | (go_at_call 20; (with_reducible refine (cAq.out _ HR.out).mono ?_); rintro e w3 ⟨rfl, hr3, hb3⟩)
        | (go_at_call 45; (with_reducible refine (cV.out _).mono ?_); rintro e w4 ⟨rfl, hb4⟩; have hr4 := hr3.old hb4)
        | (go_at_call 20; (with_reducible refine (cAq.out _ hr4).mono ?_); rintro e w5 ⟨rfl, hr5, hb5⟩)
        | (go_at_call 25; (with_reducible refine (cL.out _).mono ?_); rintro e w6 ⟨rfl, hb6⟩)
        | (go_at_call 27; (with_reducible refine (cD.out _).mono ?_); rintro e w7 ⟨rfl, hb7⟩; have BX := (((hb3.trans (Bex.of_below hb4)).trans hb5).trans (Bex.of_below hb6)).trans (Bex.of_below (b := b) hb7); have hr7 := (hr5.old hb6).old hb7; have hr8 := hr7.set j; have s8 := BX.size; have FX := (HT.out.bex BX hgb HS.out).bex (Bex.set b _ 1 (.int .i64 (j : Int))) hgb (by have := HS.out; omega); obtain ⟨x0, x1, x2, x3⟩ := FX.own4 2 ⟨#[]⟩ n i; obtain ⟨f0, f1, f2, f3, f4, f5, f6, f7⟩ := FX; obtain ⟨r5, r6, r7, r8⟩ := hr7))
      refine bodyPost_ret (v := .tuple #[tok 2 (n : Nat) (i : Nat), .int .i64 0]) (by simp [results, Try.results28, go_sem, x0, x1, x2, x3]) rfl ?_
      exact ⟨by rw [HN.out], by rw [HJ.out]; exact (((hr8.off hgb _ _).off hgb _ _).off hgb _ _).off hgb _ _, (((((HB.out.trans BX).trans (Bex.set b _ 1 _)).off (Nat.le_refl _) _ _).off (Nat.le_refl _) _ _).off (Nat.le_refl _) _ _).off (Nat.le_refl _) _ _⟩
end Jn
end Go.Proofs.Ythbedbjccmhcoaa
