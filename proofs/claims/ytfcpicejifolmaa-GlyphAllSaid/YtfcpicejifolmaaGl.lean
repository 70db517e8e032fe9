/-
  The document's Quote: its contract. No condition but that a text is short.
-/
import Derived.Test.YtfcpicejifolmaaGk
namespace Go.Proofs.Ytfcpicejifolmaa
open Go.ChangeShapes Go.WideShapes Go.ChangeAt Go.RowKit
namespace Gl
open Mem
set_option linter.unusedVariables false
set_option linter.unusedSimpArgs false
theorem gl_drewN {B : Nat} {w W : World} (h : Below B w W) (m : Nat) : Below B w (W.drewN m) := ⟨h.1, h.2, h.3, h.4, h.5⟩
theorem app_bin (a b : List UInt8) : bin a ++ bin b = bin (a ++ b) := by
  apply ByteArray.ext; simp [bin]
theorem ext_H (d : Nat) (hd : d < 16) : (ByteArray.mk #[48, 49, 50, 51, 52, 53, 54, 55, 56, 57, 97, 98, 99, 100, 101, 102]).extract d (d + 1) = bin [hexd d] := by
  have : ∀ d : Fin 16, (ByteArray.mk #[48, 49, 50, 51, 52, 53, 54, 55, 56, 57, 97, 98, 99, 100, 101, 102]).extract d.1 (d.1 + 1) = bin [hexd d.1] := by decide +kernel
  exact this ⟨d, hd⟩
theorem one_of (s : ByteArray) (k : Nat) (h : k < s.size) : s.extract k (k + 1) = bin [s[k]] := by
  apply ByteArray.ext
  apply Array.toList_inj.1
  rw [ByteArray.data_extract, Array.toList_extract, List.extract_eq_take_drop]
  rw [at_drop s k h, show k + 1 - k = 1 by omega]
  rfl
theorem qtake_q (s : ByteArray) (k : Nat) (h : k < s.size) (p : List UInt8) (hp : p = 34 :: (s.data.toList.take k).flatMap qbyte) : 34 :: (s.data.toList.take (k + 1)).flatMap qbyte = p ++ qbyte s[k] := by
  rw [qtake s k h, hp]; exact rfl
set_option maxHeartbeats 8000000 in
set_option maxRecDepth 1000000 in
theorem DQuote_any (s : ByteArray) (w : World) (hs : s.size ≤ 200) :
    Calls Try.prog 33 #[.string s] w fun e w' => e = .returned (.string (bin (quote s.data.toList))) ∧ Below w.heap.size w w' := by
  have hsl : s.data.toList.length = s.size := by simp
  have HL : Hid (∀ k, (34 :: (s.data.toList.take k).flatMap qbyte).length ≤ 1201) := fun k => by
    have := qflat_len (s.data.toList.take k)
    have h2 : (s.data.toList.take k).length ≤ 200 := by rw [List.length_take]; omega
    rw [List.length_cons]; omega
  go_enter Try.func33, Try.ntmps33
  go_wp2_with fail
  go_loopw [3, 4] (fun o i W => ∃ k : Nat, i = .int .i64 k ∧ k ≤ s.size ∧ o = .string (bin (34 :: (s.data.toList.take k).flatMap qbyte)) ∧ Below w.heap.size w W) (fun _ i _ => s.size - (intOf i).toNat)
  case atStart => exact ⟨0, rfl, Nat.zero_le _, rfl, Below.refl _ _⟩
  case round =>
    obtain ⟨k, rfl, hk, rfl, hb⟩ := hrel
    have HB := Lib.hid hb
    clear hb
    by_cases hlt : k < s.size
    · have hql := HL.out k
      obtain ⟨p, hp⟩ : ∃ p, p = 34 :: (s.data.toList.take k).flatMap qbyte := ⟨_, rfl⟩
      have HN := Lib.hid (qtake_q s k hlt p hp)
      rw [← hp] at hql ⊢
      clear hp
      have hbs : (bin p).size ≤ 1201 := by rw [Mem.bin_size]; exact hql
      have HX := Lib.hid (one_of s k hlt)
      obtain ⟨c, hc⟩ : ∃ c, c = s[k]'hlt := ⟨_, rfl⟩
      rw [← hc] at HN HX
      have hc8 : c.toNat < 256 := c.toNat_lt
      have hcn : (s[k]'hlt).toNat = c.toNat := by rw [hc]
      clear hc
      by_cases e34 : c.toNat = 34
      · have hqb : Hid (qbyte c = [92, c]) := by
          have hc : c = 34 := by rw [← of_nat c, e34]; rfl
          rw [hc]; show qbyte 34 = _; decide
        rw [e34] at hcn
        clear hc8 e34
        go_wp2_with fail
        go_roundw
        case rel => exact ⟨k + 1, by go_num, hlt, by rw [HN.out, hqb.out]; exact congrArg Value.string (by rw [HX.out, show (ByteArray.mk #[92]) = bin [92] from rfl, app_bin, app_bin, List.append_assoc]; rfl), HB.out⟩
        case measure => simp [intOf]; omega
      have b34 : ((c.toNat : Int) == 34) = false := by rw [beq_eq_false_iff_ne]; omega
      by_cases e92 : c.toNat = 92
      · have hqb : Hid (qbyte c = [92, c]) := by
          have hc : c = 92 := by rw [← of_nat c, e92]; rfl
          rw [hc]; show qbyte 92 = _; decide
        rw [e92] at hcn
        clear hc8 e92
        go_wp2_with fail
        go_roundw
        case rel => exact ⟨k + 1, by go_num, hlt, by rw [HN.out, hqb.out]; exact congrArg Value.string (by rw [HX.out, show (ByteArray.mk #[92]) = bin [92] from rfl, app_bin, app_bin, List.append_assoc]; rfl), HB.out⟩
        case measure => simp [intOf]; omega
      have b92 : ((c.toNat : Int) == 92) = false := by rw [beq_eq_false_iff_ne]; omega
      by_cases e8 : c.toNat = 8
      · have hqb : Hid (qbyte c = [92, 98]) := by
          have hc : c = 8 := by rw [← of_nat c, e8]; rfl
          rw [hc]; show qbyte 8 = _; decide
        rw [e8] at hcn
        clear hc8 e8
        go_wp2_with fail
        go_roundw
        case rel => exact ⟨k + 1, by go_num, hlt, by rw [HN.out, hqb.out]; exact congrArg Value.string (by rw [show (ByteArray.mk #[92, 98]) = bin [92, 98] from rfl, app_bin]), HB.out⟩
        case measure => simp [intOf]; omega
      have b8 : ((c.toNat : Int) == 8) = false := by rw [beq_eq_false_iff_ne]; omega
      by_cases e12 : c.toNat = 12
      · have hqb : Hid (qbyte c = [92, 102]) := by
          have hc : c = 12 := by rw [← of_nat c, e12]; rfl
          rw [hc]; show qbyte 12 = _; decide
        rw [e12] at hcn
        clear hc8 e12
        go_wp2_with fail
        go_roundw
        case rel => exact ⟨k + 1, by go_num, hlt, by rw [HN.out, hqb.out]; exact congrArg Value.string (by rw [show (ByteArray.mk #[92, 102]) = bin [92, 102] from rfl, app_bin]), HB.out⟩
        case measure => simp [intOf]; omega
      have b12 : ((c.toNat : Int) == 12) = false := by rw [beq_eq_false_iff_ne]; omega
      by_cases e10 : c.toNat = 10
      · have hqb : Hid (qbyte c = [92, 110]) := by
          have hc : c = 10 := by rw [← of_nat c, e10]; rfl
          rw [hc]; show qbyte 10 = _; decide
        rw [e10] at hcn
        clear hc8 e10
        go_wp2_with fail
        go_roundw
        case rel => exact ⟨k + 1, by go_num, hlt, by rw [HN.out, hqb.out]; exact congrArg Value.string (by rw [show (ByteArray.mk #[92, 110]) = bin [92, 110] from rfl, app_bin]), HB.out⟩
        case measure => simp [intOf]; omega
      have b10 : ((c.toNat : Int) == 10) = false := by rw [beq_eq_false_iff_ne]; omega
      by_cases e13 : c.toNat = 13
      · have hqb : Hid (qbyte c = [92, 114]) := by
          have hc : c = 13 := by rw [← of_nat c, e13]; rfl
          rw [hc]; show qbyte 13 = _; decide
        rw [e13] at hcn
        clear hc8 e13
        go_wp2_with fail
        go_roundw
        case rel => exact ⟨k + 1, by go_num, hlt, by rw [HN.out, hqb.out]; exact congrArg Value.string (by rw [show (ByteArray.mk #[92, 114]) = bin [92, 114] from rfl, app_bin]), HB.out⟩
        case measure => simp [intOf]; omega
      have b13 : ((c.toNat : Int) == 13) = false := by rw [beq_eq_false_iff_ne]; omega
      by_cases e9 : c.toNat = 9
      · have hqb : Hid (qbyte c = [92, 116]) := by
          have hc : c = 9 := by rw [← of_nat c, e9]; rfl
          rw [hc]; show qbyte 9 = _; decide
        rw [e9] at hcn
        clear hc8 e9
        go_wp2_with fail
        go_roundw
        case rel => exact ⟨k + 1, by go_num, hlt, by rw [HN.out, hqb.out]; exact congrArg Value.string (by rw [show (ByteArray.mk #[92, 116]) = bin [92, 116] from rfl, app_bin]), HB.out⟩
        case measure => simp [intOf]; omega
      have b9 : ((c.toNat : Int) == 9) = false := by rw [beq_eq_false_iff_ne]; omega
      have hlo : letterOf c.toNat = 0 := by unfold letterOf; rw [if_neg (by omega), if_neg e8, if_neg e12, if_neg e10, if_neg e13, if_neg e9]
      clear e34 e92 e8 e12 e10 e13 e9
      by_cases h32 : c.toNat < 32
      · have hqb : Hid (qbyte c = [92, 117, 48, 48, hexd (c.toNat / 16), hexd (c.toNat % 16)]) := by unfold qbyte; rw [if_neg (by rw [hlo]; decide), if_pos h32]; exact rfl
        clear hlo
        obtain ⟨d1, hd1⟩ : ∃ d1, d1 = c.toNat / 16 := ⟨_, rfl⟩
        obtain ⟨d2, hd2⟩ : ∃ d2, d2 = c.toNat % 16 := ⟨_, rfl⟩
        rw [← hd1, ← hd2] at hqb
        have hq1 : (c.toNat : Int) / 16 = (d1 : Int) := by omega
        have hq2 : (c.toNat : Int) % 16 = (d2 : Int) := by omega
        have hl1 : d1 < 16 := by omega
        have hl2 : d2 < 16 := by omega
        have X1 := Lib.hid (ext_H d1 hl1)
        have X2 := Lib.hid (ext_H d2 hl2)
        clear hd1 hd2
        go_wp2_with fail
        go_quiet (fail)
        go_wp2_with fail
        go_roundw
        case rel => exact ⟨k + 1, by go_num, hlt, by rw [HN.out, hqb.out]; exact congrArg Value.string (by rw [X1.out, X2.out, show (ByteArray.mk #[92, 117, 48, 48]) = bin [92, 117, 48, 48] from rfl, app_bin, app_bin, app_bin, List.append_assoc, List.append_assoc]; rfl), gl_drewN HB.out _⟩
        case measure => simp [intOf]; omega
      · have hqb : Hid (qbyte c = [c]) := by unfold qbyte; rw [if_neg (by rw [hlo]; decide), if_neg h32]; exact rfl
        clear hlo
        go_wp2_with fail
        go_roundw
        case rel => exact ⟨k + 1, by go_num, hlt, by rw [HN.out, hqb.out]; exact congrArg Value.string (by rw [HX.out, app_bin]), HB.out⟩
        case measure => simp [intOf]; omega
    · obtain rfl : k = s.size := by omega
      have hql := HL.out s.size
      rw [List.take_of_length_le (by omega)] at hql ⊢
      obtain ⟨p, hp⟩ : ∃ p, p = 34 :: s.data.toList.flatMap qbyte := ⟨_, rfl⟩
      have HQ : Hid (quote s.data.toList = p ++ [34]) := by rw [hp]; exact rfl
      rw [← hp] at hql ⊢
      clear hp
      have hbs : (bin p).size ≤ 1201 := by rw [Mem.bin_size]; exact hql
      go_wp2_with fail
      go_ret
      exact ⟨by rw [HQ.out, ← app_bin]; exact rfl, HB.out⟩
end Gl
end Go.Proofs.Ytfcpicejifolmaa
