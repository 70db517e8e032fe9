/-
  The reader's word, and the document's text of a whole number: contracts. No condition but that a text is short.
-/
import Derived.Test.YtdecogndpnghkaaDoorJp
import Derived.Test.YtdecogndpnghkaaDoorSh
import Derived.Deep.RegionHeld3
namespace Go.Proofs.YtdecogndpnghkaaDoor
open Go.ChangeShapes Go.WideShapes Go.ChangeAt Go.RowKit
namespace Jn
set_option linter.unusedVariables false
set_option linter.unusedSimpArgs false
set_option maxHeartbeats 2000000 in
set_option maxRecDepth 100000 in
/-- No such word is next. -/
theorem word_no (s p : ByteArray) (i b : Nat) (w : World) (h : Rd w b s i) (hi : i ≤ s.size) (hs : s.size ≤ 10000000) (hp : Lib.hasPrefix (s.extract i s.size).data.toList p.data.toList = false) :
    Calls Tryd.prog 34 #[.pointer (some ⟨b, 0, none⟩), .string p] w fun e w' => e = .returned (.bool false) ∧ Rd w' b s i ∧ Bex b w w' := by
  have HP := Lib.hid (fun W => Sh.strings_HasPrefix (s.extract i s.size) p W)
  rw [hp] at HP
  have H0 := Lib.hid h
  obtain ⟨r1, r2, r3, r4⟩ := h
  have b1 : (0 : Int) ≤ (i : Int) := by omega
  have b2 : (i : Int) ≤ (s.size : Int) := by omega
  clear hp
  go_enter Tryd.func34, Tryd.ntmps34
  go_wp2_with fail
  go_quiet ((go_at_call 54; with_reducible refine Calls.quiet_of_same (HP.out _)))
  go_wp2
  go_ret
  exact ⟨rfl, H0.out.drewN _, (Bex.refl b w).drewN _⟩
theorem one_text {P : Program} (W : World) {s d el e : TypeId} (hs : P.underlying s = some (.slice el)) (hel : P.underlying el = some (.int .u8)) (hd : P.underlying d = some .string) (c : UInt8) {x : Int} (hx : x = (c.toNat : Int)) :
    (convert s d (.slice (some ⟨W.heap.size, 0, none⟩) 1 1)).run P (W.alloc (.cells #[.int .u8 x] e)) = .ok (.string (bin [c])) (W.alloc (.cells #[.int .u8 x] e)) := by
  subst hx
  have := Lib.run_convert_whole (P := P) (W.alloc (.cells #[.int .u8 (c.toNat : Int)] e)) s el d hs hel hd W.heap.size 0 (bin [c]) (Mem.Holds.lit W [c] e).bytes 1
  exact this
theorem bin_cons (p : List UInt8) (c : UInt8) : bin [c] ++ bin p = bin (c :: p) := by
  apply ByteArray.ext; simp [bin]
set_option maxHeartbeats 2000000 in
set_option maxRecDepth 100000 in
theorem plain_any (n : Nat) (hn : n < 18446744073709551616) (w : World) :
    Calls Tryd.prog 48 #[.int .u64 (n : Int)] w fun e w' => e = .returned (.string (bin (dec n))) ∧ Below w.heap.size w w' := by
  have HL := Lib.hid (dec_len20 hn)
  go_enter Tryd.func48, Tryd.ntmps48
  go_wp2_with fail
  go_loopw [0, 3] (fun x t W => ∃ (m : Nat) (l : List UInt8), x = .int .u64 (m : Int) ∧ t = .string (bin l) ∧ m < 18446744073709551616 ∧ dec n = dec m ++ l ∧ Below w.heap.size w W) (fun x _ _ => (intOf x).toNat)
  case atStart => exact ⟨n, [], rfl, rfl, hn, by simp, Below.refl _ _⟩
  case round =>
    obtain ⟨m, l, rfl, rfl, hm, hd, hb⟩ := hrel
    have HB := Lib.hid hb
    have HS := Lib.hid hb.size
    have hll : l.length ≤ 20 := by have := HL.out; rw [hd, List.length_append] at this; omega
    have hls : (bin l).size ≤ 20 := by rw [bin_size]; exact hll
    have HD := Lib.hid hd
    have hdg : (48 : Int) + (m : Int) % 10 = ((dg (m % 10)).toNat : Int) := by rw [dg_nat (by omega)]; omega
    have cv := one_text (P := Tryd.prog) wr (e := 5) Tryd.underlying32 Tryd.underlying5 Tryd.underlying9 (dg (m % 10)) (x := ((dg (m % 10)).toNat : Int)) rfl
    have hc1 : (bin [dg (m % 10)]).size = 1 := rfl
    have hsum : ((bin [dg (m % 10)]).size : Int) + ((bin l).size : Int) ≤ 21 := by omega
    clear hb hd
    by_cases h0 : m / 10 = 0
    · have hz : ((m : Int) / 10) = 0 := by omega
      have HE := Lib.hid (show dec n = dg (m % 10) :: l by rw [HD.out, dec_lt (by omega), Nat.mod_eq_of_lt (by omega)]; rfl)
      have HT := Lib.hid (bin_cons l (dg (m % 10)))
      clear h0
      go_wp2
      go_ret
      exact ⟨by rw [HE.out, ← HT.out]; rfl, HB.out.alloc HS.out _⟩
    · have hz : ¬ ((m : Int) / 10) = 0 := by omega
      have hz' : (((m : Int) / 10) == 0) = false := by rw [beq_eq_false_iff_ne]; omega
      have HE := Lib.hid (show dec n = dec (m / 10) ++ (dg (m % 10) :: l) by rw [HD.out, dec_ge (by omega)]; simp)
      have HT := Lib.hid (bin_cons l (dg (m % 10)))
      clear h0
      go_wp2
      go_roundw
      case rel => exact ⟨m / 10, dg (m % 10) :: l, by go_num, by rw [← HT.out], by omega, HE.out, HB.out.alloc HS.out _⟩
      case measure => simp [intOf]; omega
/-- A whole number's text, as the document has it. -/
theorem tens_any (v : Int) (h1 : -9223372036854775808 ≤ v) (h2 : v ≤ 9223372036854775807) (w : World) :
    Calls Tryd.prog 26 #[.int .i64 v] w fun e w' => e = .returned (.string (bin (tens v))) ∧ Below w.heap.size w w' := by
  by_cases h : v < 0
  · obtain ⟨n, hn⟩ : ∃ n : Nat, v = -(n : Int) := ⟨v.natAbs, by omega⟩
    have HT := Lib.hid (show tens v = 45 :: dec n by unfold tens; rw [if_pos h, hn]; congr 2; omega)
    have cP := Lib.hid (fun W => plain_any n (by omega) W)
    have HB := Lib.hid (bin_cons (dec n) 45)
    have hl : (bin (dec n)).size ≤ 20 := by rw [bin_size]; exact dec_len20 (by omega)
    have hx : (-(v + 1) : Int) + 1 = (n : Int) := by omega
    rw [HT.out]
    clear hn
    go_enter Tryd.func26, Tryd.ntmps26
    go_wp2_with (go_at_call 48; (with_reducible refine (cP.out _).mono ?_); rintro e w2 ⟨rfl, hb2⟩)
    go_ret
    exact ⟨by rw [← HB.out]; rfl, hb2⟩
  · obtain ⟨n, rfl⟩ : ∃ n : Nat, v = (n : Int) := ⟨v.natAbs, by omega⟩
    have HT := Lib.hid (show tens (n : Int) = dec n by unfold tens; rw [if_neg h]; congr 1)
    have cP := Lib.hid (fun W => plain_any n (by omega) W)
    have hn : ¬ ((n : Int) < 0) := by omega
    rw [HT.out]
    clear h
    go_enter Tryd.func26, Tryd.ntmps26
    go_wp2_with (go_at_call 48; (with_reducible refine (cP.out _).mono ?_); rintro e w2 ⟨rfl, hb2⟩)
    go_ret
    exact ⟨rfl, hb2⟩
end Jn
end Go.Proofs.YtdecogndpnghkaaDoor
