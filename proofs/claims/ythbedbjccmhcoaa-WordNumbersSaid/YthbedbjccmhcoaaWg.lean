/-
  The cursor's space: its contract, where spaces stand, then what is none and no remark. No condition but that the text is short.
-/
import Derived.Test.YthbedbjccmhcoaaWd
namespace Go.Proofs.Ythbedbjccmhcoaa
open Go.ChangeShapes Go.WideShapes Go.ChangeAt Go.RowKit
namespace Jn
set_option linter.unusedVariables false
set_option linter.unusedSimpArgs false
theorem no_word {s : ByteArray} {i : Nat} (hi : i < s.size) {c : UInt8} {p : List UInt8} (h : s[i].toNat ≠ c.toNat) : Lib.hasPrefix (s.extract i s.size).data.toList (c :: p) = false := by
  have : (s.extract i s.size).data.toList = s[i] :: s.data.toList.drop (i + 1) := by
    rw [ByteArray.data_extract, Array.toList_extract, List.extract_eq_take_drop, ← drop_at hi]
    rw [List.take_of_length_le (by simp)]
  rw [this]
  show ((c == s[i]) && p.isPrefixOf _) = false
  rw [beq_eq_false_iff_ne.2 (fun e => h (by rw [e])), Bool.false_and]
theorem no_end {s : ByteArray} {c : UInt8} {p : List UInt8} : Lib.hasPrefix (s.extract s.size s.size).data.toList (c :: p) = false := by
  have : (s.extract s.size s.size).data.toList = [] := by
    rw [ByteArray.data_extract, Array.toList_extract, List.extract_eq_take_drop]
    simp
  rw [this]; rfl
set_option maxHeartbeats 4000000 in
set_option maxRecDepth 100000 in
theorem space_any (s : ByteArray) (i p b : Nat) (w : World) (h : Rd w b s i) (hs : s.size ≤ 10000000) (hsp : ∀ m, m < p → bt s (i + m) = 32)
    (hend : i + p = s.size ∨ (i + p < s.size ∧ 48 ≤ bt s (i + p))) :
    Calls Try.prog 15 #[.pointer (some ⟨b, 0, none⟩)] w fun e w' => e = .returned (.bool true) ∧ Rd w' b s (i + p) ∧ Bex b w w' := by
  have cA0 := Lib.hid (show ∀ j, j ≤ s.size → ∀ W, Rd W b s j → Calls Try.prog 20 #[.pointer (some ⟨b, 0, none⟩), .int .i64 0] W fun e w' => e = .returned (.int .u8 (bt s j : Nat)) ∧ Rd w' b s j ∧ Bex b W w' from fun j hj W hW => byteAt_any s j 0 b W hW hj hs (by omega))
  have cL := Lib.hid (fun j (hj : j ≤ s.size) W (hW : Rd W b s j) => left_any s j b W hW hj hs)
  have HK := Lib.hid (show i + p ≤ s.size by omega)
  have HSP := Lib.hid (show ∀ j, i ≤ j → j < i + p → bt s j = 32 from fun j h1 h2 => by
    have := hsp (j - i) (by omega)
    rw [show i + (j - i) = j by omega] at this; exact this)
  have H0 := Lib.hid h
  have HE := Lib.hid hend
  clear hsp h hend
  go_enter Try.func15, Try.ntmps15
  go_wp2_with fail
  go_loopw [] (fun wr => ∃ j, Rd wr b s j ∧ i ≤ j ∧ j ≤ i + p ∧ Bex b w wr) (fun wr => i + p - posOf wr b)
  case atStart => exact ⟨i, H0.out, Nat.le_refl _, by omega, Bex.refl _ _⟩
  case round =>
    obtain ⟨j, hr, hj1, hj2, hb⟩ := hrel
    have HR := Lib.hid hr
    have HB := Lib.hid hb
    have hjs : j ≤ s.size := by have := HK.out; omega
    clear hr hb
    by_cases hlt : j < i + p
    · have c1 := Lib.hid (cA0.out j hjs)
      rw [HSP.out j hj1 hlt] at c1
      have hj8 : (j : Int) ≤ 10000000 := by omega
      go_wp2_with (go_at_call 20; (with_reducible refine (c1.out _ HR.out).mono ?_); rintro e w2 ⟨rfl, hr2, hb2⟩; have HR2 := Lib.hid hr2; obtain ⟨r1, r2, r3, r4⟩ := hr2)
      go_roundw
      case rel => exact ⟨j + 1, HR2.out.step, by omega, by omega, (HB.out.trans hb2).trans (Bex.set b _ 1 _)⟩
      case measure => rw [HR2.out.step.posOf, HR.out.posOf]; omega
    · have hj : j = i + p := by omega
      have hE : j = s.size ∨ (j < s.size ∧ 48 ≤ bt s j) := by rw [hj]; exact HE.out
      have c1 := Lib.hid (cA0.out j hjs)
      have cl := Lib.hid (cL.out j hjs)
      have HJ := Lib.hid hj
      rcases hE with h1 | ⟨h1, h2⟩
      · have hz : bt s j = 0 := by unfold bt; rw [dif_neg (by omega)]
        rw [hz] at c1
        have HP1 := Lib.hid (fun W => Sh.strings_HasPrefix (s.extract j s.size) ⟨#[47, 47]⟩ W)
        have HP2 := Lib.hid (fun W => Sh.strings_HasPrefix (s.extract j s.size) ⟨#[47, 42]⟩ W)
        rw [show Lib.hasPrefix (s.extract j s.size).data.toList (ByteArray.mk #[47, 47]).data.toList = false by rw [h1]; exact no_end] at HP1
        rw [show Lib.hasPrefix (s.extract j s.size).data.toList (ByteArray.mk #[47, 42]).data.toList = false by rw [h1]; exact no_end] at HP2
        clear h1 hz hj hlt hj1 hj2 hjs
        go_wp2_with (first
          | (go_at_call 20; (with_reducible refine (c1.out _ HR.out).mono ?_); rintro e w2 ⟨rfl, hr2, hb2⟩)
          | (go_at_call 22; (with_reducible refine (cl.out _ hr2).mono ?_); rintro e w3 ⟨rfl, hr3, hb3⟩)
          | (go_at_call 21; (with_reducible refine (HP1.out _).mono ?_); rintro e w4 ⟨rfl, rfl⟩)
          | (go_at_call 22; (with_reducible refine (cl.out _ hr3).mono ?_); rintro e w5 ⟨rfl, hr5, hb5⟩)
          | (go_at_call 21; (with_reducible refine (HP2.out _).mono ?_); rintro e w6 ⟨rfl, rfl⟩))
        go_ret
        exact ⟨rfl, by rw [← HJ.out]; exact hr5, ((HB.out.trans hb2).trans hb3).trans hb5⟩
      · obtain ⟨c, hc⟩ : ∃ c, c = bt s j := ⟨_, rfl⟩
        have hz : s[j].toNat = c := by rw [hc]; unfold bt; rw [dif_pos h1]
        rw [← hc] at c1 h2
        have hc8 : c < 256 := by rw [hc]; exact bt_lt _ _
        have HP1 := Lib.hid (fun W => Sh.strings_HasPrefix (s.extract j s.size) ⟨#[47, 47]⟩ W)
        have HP2 := Lib.hid (fun W => Sh.strings_HasPrefix (s.extract j s.size) ⟨#[47, 42]⟩ W)
        rw [show Lib.hasPrefix (s.extract j s.size).data.toList (ByteArray.mk #[47, 47]).data.toList = false from no_word h1 (by rw [hz]; show c ≠ 47; omega)] at HP1
        rw [show Lib.hasPrefix (s.extract j s.size).data.toList (ByteArray.mk #[47, 42]).data.toList = false from no_word h1 (by rw [hz]; show c ≠ 47; omega)] at HP2
        have e1 : ((9 : Int) ≤ (c : Int)) = True := eq_true (by omega)
        have e2 : ((c : Int) ≤ 13) = False := eq_false (by omega)
        have e3 : ((c : Int) == 32) = false := by rw [beq_eq_false_iff_ne]; omega
        clear h1 hz hj hlt hj1 hj2 hjs hc h2 hc8
        go_wp2_with (first
          | (go_at_call 20; (with_reducible refine (c1.out _ HR.out).mono ?_); rintro e w2 ⟨rfl, hr2, hb2⟩)
          | (go_at_call 22; (with_reducible refine (cl.out _ hr2).mono ?_); rintro e w3 ⟨rfl, hr3, hb3⟩)
          | (go_at_call 21; (with_reducible refine (HP1.out _).mono ?_); rintro e w4 ⟨rfl, rfl⟩)
          | (go_at_call 22; (with_reducible refine (cl.out _ hr3).mono ?_); rintro e w5 ⟨rfl, hr5, hb5⟩)
          | (go_at_call 21; (with_reducible refine (HP2.out _).mono ?_); rintro e w6 ⟨rfl, rfl⟩))
        go_ret
        exact ⟨rfl, by rw [← HJ.out]; exact hr5, ((HB.out.trans hb2).trans hb3).trans hb5⟩
end Jn
end Go.Proofs.Ythbedbjccmhcoaa
