/-
  sixty.Put: its contract; SixtyJoins. No condition.
-/
import Derived.Test.YtfcpicejifolmabSa
import Derived.Deep.RegionLaw
namespace Go.Proofs.Ytfcpicejifolmab
open Go.ChangeShapes Go.WideShapes Go.ChangeAt Go.RowKit
namespace Six
open Mem
set_option linter.unusedVariables false
def enc : List UInt8 → List UInt8
  | a :: b :: c :: r => fours (a.toNat * 65536 + b.toNat * 256 + c.toNat) 4 ++ enc r
  | [a, b] => fours (a.toNat * 65536 + b.toNat * 256) 3
  | [a] => fours (a.toNat * 65536) 2
  | [] => []
theorem enc_len : ∀ (l : List UInt8), (enc l).length = (l.length + 2) / 3 * 4
  | a :: b :: c :: r => by rw [enc, List.length_append, fours_len, enc_len r]; simp; omega
  | [a, b] => by rw [enc, fours_len]; simp
  | [a] => by rw [enc, fours_len]; simp
  | [] => rfl
theorem or_add (x y k : Nat) (h : y < 2 ^ k) : x * 2 ^ k ||| y = x * 2 ^ k + y := by
  rw [Nat.mul_comm x, Nat.two_pow_add_eq_or_of_lt h]
theorem mix2 (a b : UInt8) : bits .or .u32 ((a.toNat : Int) * 65536) ((b.toNat : Int) * 256) = ((a.toNat * 65536 + b.toNat * 256 : Nat) : Int) := by
  have ha := a.toNat_lt
  have hb := b.toNat_lt
  have o1 : a.toNat * 65536 ||| b.toNat * 256 = a.toNat * 65536 + b.toNat * 256 := or_add a.toNat (b.toNat * 256) 16 (by omega)
  rw [show (a.toNat : Int) * 65536 = ((a.toNat * 65536 : Nat) : Int) by omega, show (b.toNat : Int) * 256 = ((b.toNat * 256 : Nat) : Int) by omega, u32_or_nat _ _ (by omega) (by omega), o1]
theorem sh16 (a : UInt8) : IntKind.u32.wrap (IntKind.u32.wrap (a.toNat : Int) * 65536) = (a.toNat : Int) * 65536 := by
  have := a.toNat_lt
  rw [IntKind.wrap_u32', IntKind.wrap_u32']; omega
theorem sh8 (a : UInt8) : IntKind.u32.wrap (IntKind.u32.wrap (a.toNat : Int) * 256) = (a.toNat : Int) * 256 := by
  have := a.toNat_lt
  rw [IntKind.wrap_u32', IntKind.wrap_u32']; omega
theorem sh0 (a : UInt8) : IntKind.u32.wrap (a.toNat : Int) = (a.toNat : Int) := by
  have := a.toNat_lt
  rw [IntKind.wrap_u32']; omega
theorem mix3 (a b c : UInt8) : bits .or .u32 (bits .or .u32 (IntKind.u32.wrap (IntKind.u32.wrap (a.toNat : Int) * 65536)) (IntKind.u32.wrap (IntKind.u32.wrap (b.toNat : Int) * 256))) (IntKind.u32.wrap (c.toNat : Int)) = ((a.toNat * 65536 + b.toNat * 256 + c.toNat : Nat) : Int) := by
  have ha := a.toNat_lt
  have hb := b.toNat_lt
  have hc := c.toNat_lt
  have o2 : (a.toNat * 65536 + b.toNat * 256) ||| c.toNat = a.toNat * 65536 + b.toNat * 256 + c.toNat := by
    have := or_add (a.toNat * 256 + b.toNat) c.toNat 8 (by omega)
    have e : (a.toNat * 256 + b.toNat) * 2 ^ 8 = a.toNat * 65536 + b.toNat * 256 := by omega
    rw [e] at this; exact this
  rw [sh16, sh8, sh0, mix2, u32_or_nat _ _ (by omega) (by omega), o2]
theorem mix2' (a b : UInt8) : bits .or .u32 (IntKind.u32.wrap (IntKind.u32.wrap (a.toNat : Int) * 65536)) (IntKind.u32.wrap (IntKind.u32.wrap (b.toNat : Int) * 256)) = ((a.toNat * 65536 + b.toNat * 256 : Nat) : Int) := by
  rw [sh16, sh8, mix2]
theorem src_four {P : Program} {W : World} {t1 e : TypeId} (ht : P.underlying t1 = some (.slice e)) {g v k : Nat} (h : Holds W g (fours v k)) : Src P W t1 (.slice (some ⟨g, 0, none⟩) 4 4) (fours v k) := by
  have := Src.slice (W := W) (cap := 4) ht (g := g) (cs := fours v k) fun j c hj => (h.1 j c hj).1
  rw [fours_len] at this; exact this
theorem enc3 (t : ByteArray) (h0 : 0 < t.size) (h1 : 1 < t.size) (h2 : 2 < t.size) : enc t.data.toList = fours (t[0].toNat * 65536 + t[1].toNat * 256 + t[2].toNat) 4 ++ enc (t.extract 3 t.size).data.toList := by
  have e : t.data.toList = t[0] :: t[1] :: t[2] :: (t.extract 3 t.size).data.toList := by
    have hl : t.data.toList.length = t.size := by simp
    have hd : (t.extract 3 t.size).data.toList = t.data.toList.drop 3 := by
      simp
      exact List.take_of_length_le (by simp)
    rw [hd]
    have d0 := List.drop_eq_getElem_cons (l := t.data.toList) (i := 0) (by omega)
    have d1 := List.drop_eq_getElem_cons (l := t.data.toList) (i := 1) (by omega)
    have d2 := List.drop_eq_getElem_cons (l := t.data.toList) (i := 2) (by omega)
    rw [List.drop_zero] at d0
    rw [d0, d1, d2]
    rfl
  rw [e, enc]
theorem enc2 (t : ByteArray) (h : t.size = 2) : enc t.data.toList = fours ((t[0]'(by omega)).toNat * 65536 + (t[1]'(by omega)).toNat * 256) 3 := by
  have hl : t.data.toList.length = t.size := by simp
  have e : t.data.toList = [t[0]'(by omega), t[1]'(by omega)] := by
    have d0 := List.drop_eq_getElem_cons (l := t.data.toList) (i := 0) (by omega)
    have d1 := List.drop_eq_getElem_cons (l := t.data.toList) (i := 1) (by omega)
    rw [List.drop_zero] at d0
    rw [d0, d1, List.drop_of_length_le (by omega)]
    rfl
  rw [e, enc]
theorem enc1 (t : ByteArray) (h : t.size = 1) : enc t.data.toList = fours ((t[0]'(by omega)).toNat * 65536) 2 := by
  have hl : t.data.toList.length = t.size := by simp
  have e : t.data.toList = [t[0]'(by omega)] := by
    have d0 := List.drop_eq_getElem_cons (l := t.data.toList) (i := 0) (by omega)
    rw [List.drop_zero] at d0
    rw [d0, List.drop_of_length_le (by omega)]
    rfl
  rw [e, enc]
theorem enc0 (t : ByteArray) (h : t.size = 0) : enc t.data.toList = [] := by
  have hl : t.data.toList.length = t.size := by simp
  have h0 : t.data.toList = [] := List.length_eq_zero_iff.1 (by omega)
  rw [h0, enc]
set_option maxHeartbeats 1000000 in
set_option maxRecDepth 20000 in
theorem put_any (s : ByteArray) (w : World) (hs : s.size ≤ 200) :
    Calls Try.prog 9 #[.string s] w fun e w' => e = .returned (.string (bin (enc s.data.toList))) ∧ Below w.heap.size w w' := by
  obtain ⟨i0, hi, hz0, hz1, hz2⟩ := info_parts info8
  go_enter Try.func9, Try.ntmps9
  go_wp2_with (at_make; refine wpList_make_own _ rfl _ _ 28 rfl w.heap.size 5 i0 (.int .u8 0) 1 Try.underlying28 hi hz0 hz1 .i64 .i64 _ ((s.size + 2) / 3 * 4) rfl rfl (by omega) (by rw [hz2]; omega) (by unfold maxLen; omega) (Nat.le_refl _) ?_)
  intro w1 hown hgr
  have hbel : Below w.heap.size w w1 := (Below.refl _ _).grown hgr (Nat.le_refl _) (by intro k h; cases h)
  have HO := Lib.hid (row_of_own (l := []) hown)
  have HB := Lib.hid hbel
  clear hown hgr hbel
  go_wp2_with fail
  go_loopw [0, 3] (fun x b wr => ∃ (t : ByteArray) (p : List UInt8), x = .string t ∧ t.size ≤ 200 ∧ p.length + (t.size + 2) / 3 * 4 ≤ 400 ∧ BRow wr w.heap.size 5 b p ∧ p ++ enc t.data.toList = enc s.data.toList ∧ Below w.heap.size w wr) (fun x _ _ => match x with | .string t => t.size | _ => 0)
  case atStart => exact ⟨s, [], rfl, hs, by simp; omega, HO.out, rfl, HB.out⟩
  case round =>
    obtain ⟨t, p, rfl, ht, hp, ho, he, hb⟩ := hrel
    have HO := Lib.hid ho
    have HB := Lib.hid hb
    have HE := Lib.hid he
    have hw := hb.size
    have HWr := Lib.hid hw
    clear ho hb he hw
    by_cases hlt : 3 ≤ t.size
    · have j0 : 0 < t.size := by omega
      have j1 : 1 < t.size := by omega
      have j2 : 2 < t.size := by omega
      have i0' : (0 : Int) < (t.size : Int) := by omega
      have i1' : (1 : Int) < (t.size : Int) := by omega
      have i2' : (2 : Int) < (t.size : Int) := by omega
      have b0 : (t[0].toNat : Int) < 256 := by have := t[0].toNat_lt; omega
      have b2 : (t[2].toNat : Int) < 256 := by have := t[2].toNat_lt; omega
      have b1 : (t[1].toNat : Int) < 256 := by have := t[1].toNat_lt; omega
      obtain ⟨V, hV⟩ : ∃ V, V = t[0].toNat * 65536 + t[1].toNat * 256 + t[2].toNat := ⟨_, rfl⟩
      have hVl : V < 4294967296 := by omega
      have c4 := Lib.hid (fun W => four_any V 4 W hVl (Nat.le_refl _))
      rw [show ((V : Nat) : Int) = _ from hV ▸ (mix3 t[0] t[1] t[2]).symm] at c4
      have EN := Lib.hid (enc3 t j0 j1 j2)
      rw [← hV] at EN
      have hp' : p.length + 4 ≤ 400 := by omega
      have HP := Lib.hid hp'
      have HV := Lib.hid hV
      clear hp' hV hVl
      go_wp2_with fail
      go_region_law (first | (refine step_append_row rfl _ _ 28 28 rfl w.heap.size 5 i0 Try.underlying28 hi hz0 hz1 hz2 _ p rfl (HO.out.drew.old hB2 (Nat.le_refl _)) (fours V 4) _ rfl (src_four Try.underlying28 hH) (by have := HP.out; rw [fours_len]; omega) (Nat.le_trans HWr.out hB2.size) ?_; intro v' w' hown' hgrow') | (go_simp; go_at_call 13; refine (c4.out _).mono ?_; rintro e w2 ⟨rfl, hH, hB2⟩))
      all_goals (
        have HO2 := Lib.hid hown'
        have HB2 := Lib.hid (((HB.out.drew).trans (hB2.mono HWr.out)).grown hgrow' (Nat.le_trans HWr.out hB2.size) (fun k hk => (HO.out.lt k hk).1))
        clear hown' hgrow' hH hB2
        go_wp2
        go_roundw
        case rel => exact ⟨t.extract 3 t.size, p ++ fours V 4, rfl, by simp; omega, by simp [fours_len]; omega, HO2.out, by rw [List.append_assoc, ← EN.out]; exact HE.out, HB2.out⟩
        case measure => simp; omega)
    · by_cases h0 : t.size = 0
      · have EN := Lib.hid (enc0 t h0)
        have cv := row_text (P := Try.prog) Try.underlying28 Try.underlying5 Try.underlying9 HO.out
        clear hlt
        go_wp2
        go_ret
        exact ⟨by rw [← HE.out, EN.out, List.append_nil]; rfl, HB.out⟩
      · have j0 : 0 < t.size := by omega
        have i0' : (0 : Int) < (t.size : Int) := by omega
        have b0 : (t[0].toNat : Int) < 256 := by have := t[0].toNat_lt; omega
        by_cases h1 : t.size = 1
        · obtain ⟨V, hV⟩ : ∃ V, V = t[0].toNat * 65536 := ⟨_, rfl⟩
          have hVl : V < 4294967296 := by omega
          have c4 := Lib.hid (fun W => four_any V 2 W hVl (by decide))
          rw [show ((V : Nat) : Int) = (t[0].toNat : Int) * 65536 by omega] at c4
          have EN := Lib.hid (enc1 t h1)
          rw [← hV] at EN
          have HP : Hid (p.length ≤ 400) := by show _ ≤ _; omega
          have h1' : (t.size : Int) = 1 := by omega
          clear hV hVl hlt h0 hp ht
          go_wp2_with (first | (refine wpList_append_row rfl _ _ 28 28 rfl w.heap.size 5 i0 Try.underlying28 hi hz0 hz1 hz2 _ p rfl (HO.out.old hB2 (Nat.le_refl _)) (fours V 2) _ rfl (src_four Try.underlying28 hH) (by have := HP.out; rw [fours_len]; omega) (Nat.le_trans HWr.out hB2.size) ?_; intro v' w' hown' hgrow'; have cv := row_text (P := Try.prog) Try.underlying28 Try.underlying5 Try.underlying9 hown'; have HB2 := Lib.hid (((HB.out).trans (hB2.mono HWr.out)).grown hgrow' (Nat.le_trans HWr.out hB2.size) (fun k hk => (HO.out.lt k hk).1)); clear hown' hgrow' hH hB2) | (go_at_call 13; refine (c4.out _).mono ?_; rintro e w2 ⟨rfl, hH, hB2⟩))
          go_ret
          exact ⟨by rw [← HE.out, EN.out]; rfl, HB2.out⟩
        · have h2 : t.size = 2 := by omega
          have j1 : 1 < t.size := by omega
          have i1' : (1 : Int) < (t.size : Int) := by omega
          have b1 : (t[1].toNat : Int) < 256 := by have := t[1].toNat_lt; omega
          obtain ⟨V, hV⟩ : ∃ V, V = t[0].toNat * 65536 + t[1].toNat * 256 := ⟨_, rfl⟩
          have hVl : V < 4294967296 := by omega
          have c4 := Lib.hid (fun W => four_any V 3 W hVl (by decide))
          rw [show ((V : Nat) : Int) = _ from hV ▸ (mix2' t[0] t[1]).symm] at c4
          have EN := Lib.hid (enc2 t h2)
          rw [← hV] at EN
          have HP : Hid (p.length ≤ 400) := by show _ ≤ _; omega
          have h2' : (t.size : Int) = 2 := by omega
          clear hV hVl hlt h0 h1 hp ht
          go_wp2_with fail
          go_region_law (first | (refine step_append_row rfl _ _ 28 28 rfl w.heap.size 5 i0 Try.underlying28 hi hz0 hz1 hz2 _ p rfl (HO.out.drew.old hB2 (Nat.le_refl _)) (fours V 3) _ rfl (src_four Try.underlying28 hH) (by have := HP.out; rw [fours_len]; omega) (Nat.le_trans HWr.out hB2.size) ?_; intro v' w' hown' hgrow') | (go_simp; go_at_call 13; refine (c4.out _).mono ?_; rintro e w2 ⟨rfl, hH, hB2⟩))
          all_goals (
            have cv := row_text (P := Try.prog) Try.underlying28 Try.underlying5 Try.underlying9 hown'
            have HB2 := Lib.hid (((HB.out.drew).trans (hB2.mono HWr.out)).grown hgrow' (Nat.le_trans HWr.out hB2.size) (fun k hk => (HO.out.lt k hk).1))
            clear hown' hgrow' hH hB2
            go_wp2
            go_ret
            exact ⟨by rw [← HE.out, EN.out]; rfl, HB2.out⟩)
end Six
end Go.Proofs.Ytfcpicejifolmab
