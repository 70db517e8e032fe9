/-
  glyph.Quote: its contract. No condition but that a text is short.
-/
import Derived.Test.YtfcpicejifolmaaGb
import Derived.Test.YtfcpicejifolmaaRg
namespace Go.Proofs.Ytfcpicejifolmaa
open Go.ChangeShapes Go.WideShapes Go.ChangeAt Go.RowKit
namespace Gl
open Mem
set_option linter.unusedVariables false
set_option linter.unusedSimpArgs false
theorem wbyte_x (B b : Nat) (l : List UInt8) (c : UInt8) (x : Int) (hx : x = (c.toNat : Int)) (w : World) (h : Lib.IsBuilder 63 5 B b (Lib.byteCells l) w) (hlen : l.length ≤ 5000) (hBw : B ≤ w.heap.size) :
    Calls Try.prog 47 #[.pointer (some ⟨b, 0, none⟩), .int .u8 x] w fun e w' => e = .returned .nilIface ∧ Lib.IsBuilder 63 5 B b (Lib.byteCells (l ++ [c])) w' ∧ Below B w w' := by
  subst hx
  refine (Rv.wbyte_any B b _ c w h (by rw [Rv.bc_len]; omega) hBw).mono ?_
  rintro e w' ⟨rfl, hat, hb⟩
  exact ⟨rfl, .inr (by rw [Rv.bc_app]; exact hat), hb⟩
theorem wstr_x (B b : Nat) (l m : List UInt8) (w : World) (h : Lib.IsBuilder 63 5 B b (Lib.byteCells l) w) (hlen : l.length ≤ 5000) (hm : m.length ≤ 5000) (hBw : B ≤ w.heap.size) :
    Calls Try.prog 40 #[.pointer (some ⟨b, 0, none⟩), .string (bin m)] w fun e w' => e = .returned (.tuple #[.int .i64 (bin m).size, .nilIface]) ∧ Lib.IsBuilder 63 5 B b (Lib.byteCells (l ++ m)) w' ∧ Below B w w' := by
  refine (Rv.wstr_any B b _ (bin m) w h (by rw [Rv.bc_len, Mem.bin_size]; omega) hBw).mono ?_
  rintro e w' ⟨rfl, hat, hb⟩
  exact ⟨rfl, .inr (by rw [Rv.bc_app, ← Rv.bc_str]; exact hat), hb⟩
theorem wstr_y (B b : Nat) (l m : List UInt8) (x : ByteArray) (hx : x = bin m) (w : World) (h : Lib.IsBuilder 63 5 B b (Lib.byteCells l) w) (hlen : l.length ≤ 5000) (hm : m.length ≤ 5000) (hBw : B ≤ w.heap.size) :
    Calls Try.prog 40 #[.pointer (some ⟨b, 0, none⟩), .string x] w fun e w' => e = .returned (.tuple #[.int .i64 x.size, .nilIface]) ∧ Lib.IsBuilder 63 5 B b (Lib.byteCells (l ++ m)) w' ∧ Below B w w' := by
  subst hx
  exact wstr_x B b l m w h hlen hm hBw
theorem qbyte_len (c : UInt8) : (qbyte c).length ≤ 6 := by
  unfold qbyte
  repeat' split
  all_goals simp
theorem qflat_len : ∀ l : List UInt8, (l.flatMap qbyte).length ≤ l.length * 6
  | [] => by simp
  | c :: l => by
    have h1 := qbyte_len c
    have h2 := qflat_len l
    rw [List.flatMap_cons, List.length_append, List.length_cons]; omega
theorem qtake (s : ByteArray) (k : Nat) (h : k < s.size) : (s.data.toList.take (k + 1)).flatMap qbyte = (s.data.toList.take k).flatMap qbyte ++ qbyte s[k] := by
  rw [List.take_succ_eq_append_getElem (by simpa using h), List.flatMap_append]
  simp; rfl
theorem hexd_at (d : Nat) (h : d < (ByteArray.mk #[48, 49, 50, 51, 52, 53, 54, 55, 56, 57, 97, 98, 99, 100, 101, 102]).size) : (ByteArray.mk #[48, 49, 50, 51, 52, 53, 54, 55, 56, 57, 97, 98, 99, 100, 101, 102])[d]'h = hexd d := by
  have : ∀ d : Fin 16, (ByteArray.mk #[48, 49, 50, 51, 52, 53, 54, 55, 56, 57, 97, 98, 99, 100, 101, 102])[d.1]'(d.2) = hexd d.1 := by decide +kernel
  exact this ⟨d, h⟩
set_option maxHeartbeats 4000000 in
set_option maxRecDepth 1000000 in
theorem Quote_any (s : ByteArray) (w : World) (hs : s.size ≤ 200) :
    Calls Try.prog 32 #[.string s] w fun e w' => e = .returned (.string (bin (quote s.data.toList))) ∧ Below w.heap.size w w' := by
  have hsl : s.data.toList.length = s.size := by simp
  have n34 : Hid ((34 : Int) = ((34 : UInt8).toNat : Int)) := rfl
  have n4 : Hid ((ByteArray.mk #[92, 117, 48, 48]) = bin [92, 117, 48, 48]) := rfl
  have n92 : Hid ((92 : Int) = ((92 : UInt8).toNat : Int)) := rfl
  have HB := Lib.hid (Lib.fresh_isBuilder 63 5 w)
  have HL : Hid (∀ k, (34 :: (s.data.toList.take k).flatMap qbyte).length ≤ 1201) := fun k => by
    have := qflat_len (s.data.toList.take k)
    have h2 : (s.data.toList.take k).length ≤ 200 := by rw [List.length_take]; omega
    rw [List.length_cons]; omega
  go_enter Try.func32, Try.ntmps32
  go_wp2_with (go_at_call 47; refine (wbyte_x w.heap.size w.heap.size [] 34 34 n34.out _ HB.out (by simp) (by simp)).mono ?_; rintro e w1 ⟨rfl, hat1, hb1⟩)
  have H1 := Lib.hid hat1
  have B1 := Lib.hid (((Below.refl w.heap.size w).alloc (Nat.le_refl _) _).trans hb1)
  clear hat1 hb1
  go_loopw [10] (fun x W => ∃ k : Nat, x = .int .i64 k ∧ k ≤ s.size ∧ Lib.IsBuilder 63 5 w.heap.size w.heap.size (Lib.byteCells (34 :: (s.data.toList.take k).flatMap qbyte)) W ∧ Below w.heap.size w W) (fun x _ => s.size - (intOf x).toNat)
  case atStart => exact ⟨0, rfl, Nat.zero_le _, H1.out, B1.out⟩
  case round =>
    obtain ⟨k, rfl, hk, hi, hb⟩ := hrel
    have HI := Lib.hid hi
    have HB2 := Lib.hid hb
    have HS := Lib.hid hb.size
    clear hi hb
    by_cases hlt : k < s.size
    · have hql := HL.out k
      obtain ⟨p, hp⟩ : ∃ p, p = 34 :: (s.data.toList.take k).flatMap qbyte := ⟨_, rfl⟩
      rw [← hp] at HI hql
      have HN : Hid (34 :: (s.data.toList.take (k + 1)).flatMap qbyte = p ++ qbyte s[k]) := by rw [qtake s k hlt, hp]; exact rfl
      clear hp
      obtain ⟨c, hc⟩ : ∃ c, c = s[k]'hlt := ⟨_, rfl⟩
      rw [← hc] at HN
      have hc8 : c.toNat < 256 := c.toNat_lt
      have hcn : (s[k]'hlt).toNat = c.toNat := by rw [hc]
      have cO := Lib.hid (fun W => letterOf_any c.toNat hc8 W)
      clear hc
      by_cases hlo : letterOf c.toNat = 0
      · rw [hlo] at cO
        by_cases h32 : c.toNat < 32
        · have hqb : Hid (qbyte c = [92, 117, 48, 48, hexd (c.toNat / 16), hexd (c.toNat % 16)]) := by unfold qbyte; rw [if_neg (by rw [hlo]; decide), if_pos h32]; exact rfl
          obtain ⟨d1, hd1⟩ : ∃ d1, d1 = c.toNat / 16 := ⟨_, rfl⟩
          obtain ⟨d2, hd2⟩ : ∃ d2, d2 = c.toNat % 16 := ⟨_, rfl⟩
          rw [← hd1, ← hd2] at hqb
          have hq1 : (c.toNat : Int) / 16 = (d1 : Int) := by omega
          have hl1 : d1 < 16 := by omega
          have hl2 : d2 < 16 := by omega
          have ha := and8 c.toNat 4 hc8 (by decide)
          rw [show ((2 ^ 4 - 1 : Nat) : Int) = 15 from rfl, show (2 : Nat) ^ 4 = 16 from rfl, ← hd2] at ha
          clear hlo hd1 hd2
          go_wp2_with (first | (go_at_call 48; ((with_reducible refine (cO.out _).mono ?_); rintro e w' ⟨rfl, rfl⟩)) | (go_at_call 40; with_reducible refine (wstr_y w.heap.size w.heap.size p [92, 117, 48, 48] _ n4.out _ HI.out (by omega) (by simp) HS.out).mono ?_; rintro e w2 ⟨rfl, hat2, hb2⟩) | (go_at_call 47; (with_reducible refine (wbyte_x w.heap.size w.heap.size (p ++ [92, 117, 48, 48]) (hexd d1) _ (congrArg (fun z : UInt8 => ((z.toNat : Nat) : Int)) (hexd_at d1 _)) _ hat2 (by simp; omega) (Nat.le_trans HS.out hb2.size)).mono ?_); rintro e w3 ⟨rfl, hat3, hb3⟩) | (go_at_call 47; with_reducible refine (wbyte_x w.heap.size w.heap.size (p ++ [92, 117, 48, 48] ++ [hexd d1]) (hexd d2) _ (congrArg (fun z : UInt8 => ((z.toNat : Nat) : Int)) (hexd_at d2 _)) _ hat3 (by simp; omega) (Nat.le_trans (Nat.le_trans HS.out hb2.size) hb3.size)).mono ?_; rintro e w4 ⟨rfl, hat4, hb4⟩))
          have H2 := Lib.hid hat4
          have B2 := Lib.hid (((HB2.out.trans hb2).trans hb3).trans hb4)
          clear hat2 hb2 hat3 hb3 hat4 hb4
          go_roundw
          case rel => exact ⟨k + 1, by go_num, hlt, by rw [HN.out, hqb.out]; simpa using H2.out, B2.out⟩
          case measure => simp [intOf]; omega
        · have hqb : Hid (qbyte c = [c]) := by unfold qbyte; rw [if_neg (by rw [hlo]; decide), if_neg h32]; exact rfl
          clear hlo
          go_wp2_with (first | (go_at_call 48; ((with_reducible refine (cO.out _).mono ?_); rintro e w' ⟨rfl, rfl⟩)) | (go_at_call 47; with_reducible refine (wbyte_x w.heap.size w.heap.size p c _ rfl _ HI.out (by omega) HS.out).mono ?_; rintro e w2 ⟨rfl, hat2, hb2⟩))
          have H2 := Lib.hid hat2
          have B2 := Lib.hid (HB2.out.trans hb2)
          clear hat2 hb2
          go_roundw
          case rel => exact ⟨k + 1, by go_num, hlt, by rw [HN.out, hqb.out]; exact H2.out, B2.out⟩
          case measure => simp [intOf]; omega
      · have hqb : Hid (qbyte c = [92, UInt8.ofNat (letterOf c.toNat)]) := by unfold qbyte; rw [if_pos hlo]; exact rfl
        obtain ⟨L, hL⟩ : ∃ L, L = letterOf c.toNat := ⟨_, rfl⟩
        rw [← hL] at cO hqb hlo
        have hL8 : L < 256 := by
          rw [hL]; unfold letterOf
          repeat' split
          all_goals omega
        have hLn : (L : Int) = ((UInt8.ofNat L).toNat : Int) := by rw [Mem.ofNat_lt hL8]
        have HLN := Lib.hid hLn
        have b0 : ((L : Int) != 0) = true := by rw [bne, beq_eq_false_iff_ne.2 (by omega)]; rfl
        have f0 : ¬ (L : Int) = 0 := by omega
        clear hL hLn hlo
        go_wp2_with (first | (go_at_call 48; ((with_reducible refine (cO.out _).mono ?_); rintro e w' ⟨rfl, rfl⟩)) | (go_at_call 47; with_reducible refine (wbyte_x w.heap.size w.heap.size p 92 92 n92.out _ HI.out (by omega) HS.out).mono ?_; rintro e w2 ⟨rfl, hat2, hb2⟩) | (go_at_call 47; with_reducible refine (wbyte_x w.heap.size w.heap.size (p ++ [92]) (UInt8.ofNat L) (L : Int) HLN.out _ hat2 (by simp; omega) (Nat.le_trans HS.out hb2.size)).mono ?_; rintro e w3 ⟨rfl, hat3, hb3⟩))
        have H2 := Lib.hid hat3
        have B2 := Lib.hid ((HB2.out.trans hb2).trans hb3)
        clear hat2 hb2 hat3 hb3
        go_roundw
        case rel => exact ⟨k + 1, by go_num, hlt, by rw [HN.out, hqb.out]; simpa using H2.out, B2.out⟩
        case measure => simp [intOf]; omega
    · obtain rfl : k = s.size := by omega
      have hql := HL.out s.size
      rw [List.take_of_length_le (by omega)] at HI hql
      obtain ⟨p, hp⟩ : ∃ p, p = 34 :: s.data.toList.flatMap qbyte := ⟨_, rfl⟩
      have HQ : Hid (quote s.data.toList = p ++ [34]) := by rw [hp]; exact rfl
      rw [← hp] at HI hql
      clear hp
      have cS := Lib.hid (fun W (h : Lib.IsBuilder 63 5 w.heap.size w.heap.size (Lib.byteCells (p ++ [34])) W) (hB : w.heap.size ≤ W.heap.size) => Rv.bstring_any w.heap.size w.heap.size (p ++ [34]) W h hB)
      go_wp2_with (first | (go_at_call 47; with_reducible refine (wbyte_x w.heap.size w.heap.size p 34 34 n34.out _ HI.out (by omega) HS.out).mono ?_; rintro e w2 ⟨rfl, hat2, hb2⟩) | (go_at_call 41; refine (cS.out _ hat2 (Nat.le_trans HS.out hb2.size)).mono ?_; rintro e w3 ⟨rfl, hb3⟩))
      go_ret
      exact ⟨by rw [HQ.out]; rfl, (HB2.out.trans hb2).trans hb3⟩
end Gl
end Go.Proofs.Ytfcpicejifolmaa
