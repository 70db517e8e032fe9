/-
  rec.first: its contract. No condition but that a text is short.
-/
import Derived.Test.YtfcpicejifolmaaRy
import Derived.Handy
namespace Go.Proofs.Ytfcpicejifolmaa
open Go.ChangeShapes Go.WideShapes Go.ChangeAt Go.RowKit
namespace Rv
set_option linter.unusedVariables false
set_option linter.unusedSimpArgs false
def noRc : Ending := .returned (.tuple #[.agg #[.int .i64 0, .int .i64 0, .int .u64 0, .string (bin []), .string (bin [])], .int .i64 2])
/-- What first tells. -/
def oend (l : List UInt8) : Ending := match rfirst l with
  | some r => .returned (.tuple #[.agg ⟨rcells r⟩, .int .i64 0])
  | none => noRc
theorem oend_none {l : List UInt8} (h : rfirst l = none) : noRc = oend l := by
  unfold oend; rw [h]
theorem oend_some {l : List UInt8} {r : Rc} (h : rfirst l = some r) {a b c : Int} {x y : ByteArray} (ha : a = (r.num : Int)) (hb : b = (r.wire : Int)) (hc : c = (r.n : Int)) (hx : x = bin r.s) (hy : y = bin r.raw) :
    Ending.returned (.tuple #[.agg #[.int .i64 a, .int .i64 b, .int .u64 c, .string x, .string y], .int .i64 0]) = oend l := by
  unfold oend; rw [h, ha, hb, hc, hx, hy]; rfl
theorem rf_tag {l : List UInt8} (h : vdec l 0 0 = none) : rfirst l = none := by unfold rfirst; rw [h]
theorem rf_num {l : List UInt8} {t n : Nat} (h : vdec l 0 0 = some (t, n)) (hb : t / 8 < 1 ∨ 536870911 < t / 8) : rfirst l = none := by
  unfold rfirst; rw [h]; simp only [if_pos hb]
theorem rf_none {l : List UInt8} {t n : Nat} (h : vdec l 0 0 = some (t, n)) (hb : rbody (t % 8) (l.drop n) = none) : rfirst l = none := by
  unfold rfirst; rw [h]; simp only [hb, Option.map_none, ite_self]
theorem rf_some {l s : List UInt8} {t n v m : Nat} (h : vdec l 0 0 = some (t, n)) (hn : ¬ (t / 8 < 1 ∨ 536870911 < t / 8)) (hb : rbody (t % 8) (l.drop n) = some (v, s, m)) : rfirst l = some ⟨t / 8, t % 8, v, s, l.take (n + m)⟩ := by
  unfold rfirst; rw [h]; simp only [if_neg hn, hb, Option.map_some]
theorem and7 (t : Nat) (h : t < 18446744073709551616) : bits .and .u64 (t : Int) 7 = ((t % 8 : Nat) : Int) := by
  have := u64_and_nat t 7 h (by decide)
  rw [show t &&& 7 = t % 8 from Nat.and_two_pow_sub_one_eq_mod _ 3] at this
  exact this
theorem rb0 (l : List UInt8) : rbody 0 l = (vdec l 0 0).map fun x => (x.1, [], x.2) := rfl
theorem rb1 (l : List UInt8) : rbody 1 l = (rfix l 8).map fun x => (x.1, [], x.2) := rfl
theorem rb5 (l : List UInt8) : rbody 5 l = (rfix l 4).map fun x => (x.1, [], x.2) := rfl
theorem rb2 (l : List UInt8) : rbody 2 l = (rtext l).map fun x => (0, x.1, x.2) := rfl
theorem rbo {w : Nat} (h0 : w ≠ 0) (h1 : w ≠ 1) (h5 : w ≠ 5) (h2 : w ≠ 2) (l : List UInt8) : rbody w l = none := by
  unfold rbody; rw [if_neg h0, if_neg h1, if_neg h5, if_neg h2]
theorem front_at (s : ByteArray) (k : Nat) : s.extract 0 k = bin (s.data.toList.take k) := bin_of _ (by rw [cut_at]; rfl)
theorem rest_at (s : ByteArray) (n : Nat) : (s.extract n s.size).data.toList = s.data.toList.drop n := by
  rw [cut_at, List.take_of_length_le (by simp)]
set_option maxHeartbeats 4000000 in
set_option maxRecDepth 100000 in
theorem first_any (s : ByteArray) (w : World) (hs : s.size ≤ 5000) :
    Calls Try.prog 36 #[.string s] w fun e w' => e = oend s.data.toList ∧ Below w.heap.size w w' := by
  have hl : s.data.toList.length = s.size := by simp
  have cV := Lib.hid (fun W => varint_any s W (by unfold maxLen; omega))
  cases hv : vdec s.data.toList 0 0 with
  | none =>
    rw [vend_none hv] at cV
    have HE := Lib.hid (oend_none (rf_tag hv))
    clear hv hl
    go_enter Try.func36, Try.ntmps36
    go_wp2_with (go_at_call 16; ((with_reducible refine (cV.out _).mono ?_); rintro e w' ⟨rfl, rfl⟩))
    go_returns
    exact ⟨HE.out, by go_grown⟩
  | some x =>
    obtain ⟨t, n⟩ := x
    rw [vend_some hv] at cV
    have hb := vdec_bd0 hv
    rw [hl] at hb
    obtain ⟨h1, h2, h3, h4⟩ := hb
    have h5 : (t : Int) ≤ 18446744073709551615 := by omega
    by_cases hn : t / 8 < 1 ∨ 536870911 < t / 8
    · have HE := Lib.hid (oend_none (rf_num hv hn))
      clear hv hl
      by_cases hn1 : t / 8 < 1
      · have hd1 : decide ((t : Int) / 8 < 1) = true := by simp; omega
        clear hn hn1
        go_enter Try.func36, Try.ntmps36
        go_wp2_with (go_at_call 16; ((with_reducible refine (cV.out _).mono ?_); rintro e w' ⟨rfl, rfl⟩))
        go_returns
        exact ⟨HE.out, by go_grown⟩
      · have hd1 : decide ((t : Int) / 8 < 1) = false := by simp; omega
        have hd2 : decide (536870911 < (t : Int) / 8) = true := by simp; omega
        clear hn hn1
        go_enter Try.func36, Try.ntmps36
        go_wp2_with (go_at_call 16; ((with_reducible refine (cV.out _).mono ?_); rintro e w' ⟨rfl, rfl⟩))
        go_returns
        exact ⟨HE.out, by go_grown⟩
    · have hd1 : decide ((t : Int) / 8 < 1) = false := by simp; omega
      have hd2 : decide (536870911 < (t : Int) / 8) = false := by simp; omega
      have h8 : (t : Int) / 8 ≤ 536870911 := by omega
      have ha := and7 t h4
      have hrl : (s.data.toList.drop n).length = s.size - n := by rw [List.length_drop, hl]
      have hR := rest_at s n
      obtain ⟨R, hRe⟩ : ∃ R, R = s.extract n s.size := ⟨_, rfl⟩
      rw [← hRe] at hR
      have hRs : R.size = s.size - n := by rw [hRe, ByteArray.size_extract]; omega
      have hR' : s.extract n s.size = R := hRe.symm
      clear hRe

      by_cases hw : t % 8 = 0
      · have hw : t % 8 = 0 := hw
        have ha0 : bits .and .u64 (t : Int) 7 = 0 := by rw [ha, hw]; rfl
        clear ha
        have cB := Lib.hid (fun W => varint_any R W (by unfold maxLen; omega))
        rw [hR] at cB
        cases hb : vdec (s.data.toList.drop n) 0 0 with
        | none =>
          rw [vend_none hb] at cB
          have HE := Lib.hid (oend_none (rf_none hv (by rw [hw, rb0, hb]; rfl)))
          clear hv hl hb hrl hn hw hR
          go_enter Try.func36, Try.ntmps36
          go_wp2_with (first | (go_at_call 16; ((with_reducible refine (cV.out _).mono ?_); rintro e w' ⟨rfl, rfl⟩)) | (go_at_call 16; ((with_reducible refine (cB.out _).mono ?_); rintro e w' ⟨rfl, rfl⟩)))
          go_returns
          exact ⟨HE.out, by go_grown⟩
        | some x =>
          obtain ⟨v, m⟩ := x
          rw [vend_some hb] at cB
          have hbd := vdec_bd0 hb
          rw [hrl] at hbd
          obtain ⟨g1, g2, g3, g4⟩ := hbd
          have HF := Lib.hid (rf_some hv hn (by rw [hw, rb0, hb]; rfl))
          have HY := Lib.hid (front_at s (n + m))
          have g5 : (n : Int) + (m : Int) ≤ (s.size : Int) := by omega
          have HW := Lib.hid hw
          clear hv hl hb hrl hn hw hR
          go_enter Try.func36, Try.ntmps36
          go_wp2_with (first | (go_at_call 16; ((with_reducible refine (cV.out _).mono ?_); rintro e w' ⟨rfl, rfl⟩)) | (go_at_call 16; ((with_reducible refine (cB.out _).mono ?_); rintro e w' ⟨rfl, rfl⟩)))
          go_returns
          exact ⟨oend_some HF.out (by simp) (by rw [HW.out]; rfl) rfl rfl HY.out, by go_grown⟩
      ·
        by_cases hw1 : t % 8 = 1
        · have hw : t % 8 = 1 := hw1
          have ha1 : bits .and .u64 (t : Int) 7 = 1 := by rw [ha, hw]; rfl
          clear ha
          have cB := Lib.hid (fun W => fixed_any R 8 W (by omega) (by omega))
          rw [hR, show ((8 : Nat) : Int) = 8 from rfl] at cB
          by_cases hb : (s.data.toList.drop n).length < 8
          · rw [fend_none hb] at cB
            have HE := Lib.hid (oend_none (rf_none hv (by rw [hw, rb1, rfix, if_pos hb]; rfl)))
            clear hv hl hb hrl hn hw hR
            go_enter Try.func36, Try.ntmps36
            go_wp2_with (first | (go_at_call 16; ((with_reducible refine (cV.out _).mono ?_); rintro e w' ⟨rfl, rfl⟩)) | (go_at_call 52; ((with_reducible refine (cB.out _).mono ?_); rintro e w' ⟨rfl, rfl⟩)))
            go_returns
            exact ⟨HE.out, by go_grown⟩
          · rw [fend_some hb, show ((8 : Nat) : Int) = 8 from rfl] at cB
            have HF := Lib.hid (rf_some hv hn (by rw [hw, rb1, rfix, if_neg hb]; rfl))
            have HY := Lib.hid (front_at s (n + 8))
            have g5 : (n : Int) + 8 ≤ (s.size : Int) := by omega
            have HW := Lib.hid hw
            clear hv hl hb hrl hn hw hR
            go_enter Try.func36, Try.ntmps36
            go_wp2_with (first | (go_at_call 16; ((with_reducible refine (cV.out _).mono ?_); rintro e w' ⟨rfl, rfl⟩)) | (go_at_call 52; ((with_reducible refine (cB.out _).mono ?_); rintro e w' ⟨rfl, rfl⟩)))
            go_returns
            exact ⟨oend_some HF.out (by simp) (by rw [HW.out]; rfl) rfl rfl HY.out, by go_grown⟩
        ·
          by_cases hw5 : t % 8 = 5
          · have hw : t % 8 = 5 := hw5
            have ha5 : bits .and .u64 (t : Int) 7 = 5 := by rw [ha, hw]; rfl
            clear ha
            have cB := Lib.hid (fun W => fixed_any R 4 W (by omega) (by omega))
            rw [hR, show ((4 : Nat) : Int) = 4 from rfl] at cB
            by_cases hb : (s.data.toList.drop n).length < 4
            · rw [fend_none hb] at cB
              have HE := Lib.hid (oend_none (rf_none hv (by rw [hw, rb5, rfix, if_pos hb]; rfl)))
              clear hv hl hb hrl hn hw hR
              go_enter Try.func36, Try.ntmps36
              go_wp2_with (first | (go_at_call 16; ((with_reducible refine (cV.out _).mono ?_); rintro e w' ⟨rfl, rfl⟩)) | (go_at_call 52; ((with_reducible refine (cB.out _).mono ?_); rintro e w' ⟨rfl, rfl⟩)))
              go_returns
              exact ⟨HE.out, by go_grown⟩
            · rw [fend_some hb, show ((4 : Nat) : Int) = 4 from rfl] at cB
              have HF := Lib.hid (rf_some hv hn (by rw [hw, rb5, rfix, if_neg hb]; rfl))
              have HY := Lib.hid (front_at s (n + 4))
              have g5 : (n : Int) + 4 ≤ (s.size : Int) := by omega
              have HW := Lib.hid hw
              clear hv hl hb hrl hn hw hR
              go_enter Try.func36, Try.ntmps36
              go_wp2_with (first | (go_at_call 16; ((with_reducible refine (cV.out _).mono ?_); rintro e w' ⟨rfl, rfl⟩)) | (go_at_call 52; ((with_reducible refine (cB.out _).mono ?_); rintro e w' ⟨rfl, rfl⟩)))
              go_returns
              exact ⟨oend_some HF.out (by simp) (by rw [HW.out]; rfl) rfl rfl HY.out, by go_grown⟩
          ·
            by_cases hw2 : t % 8 = 2
            · have hw : t % 8 = 2 := hw2
              have ha2 : bits .and .u64 (t : Int) 7 = 2 := by rw [ha, hw]; rfl
              clear ha
              have cB := Lib.hid (fun W => text_any R W (by omega))
              rw [hR] at cB
              cases hb : rtext (s.data.toList.drop n) with
              | none =>
                rw [xend_none hb] at cB
                have HE := Lib.hid (oend_none (rf_none hv (by rw [hw, rb2, hb]; rfl)))
                clear hv hl hb hrl hn hw hR
                go_enter Try.func36, Try.ntmps36
                go_wp2_with (first | (go_at_call 16; ((with_reducible refine (cV.out _).mono ?_); rintro e w' ⟨rfl, rfl⟩)) | (go_at_call 53; ((with_reducible refine (cB.out _).mono ?_); rintro e w' ⟨rfl, rfl⟩)))
                go_returns
                exact ⟨HE.out, by go_grown⟩
              | some x =>
                obtain ⟨v, m⟩ := x
                rw [xend_some hb] at cB
                have hbd := (rbody_bd (w := 2) (l := s.data.toList.drop n) (x := (0, v, m)) (by rw [rb2, hb]; rfl)).1
                rw [hrl] at hbd
                have g3 : m ≤ s.size - n := hbd
                have HF := Lib.hid (rf_some hv hn (by rw [hw, rb2, hb]; rfl))
                have HY := Lib.hid (front_at s (n + m))
                have g5 : (n : Int) + (m : Int) ≤ (s.size : Int) := by omega
                have HW := Lib.hid hw
                clear hv hl hb hrl hn hw hR hbd
                go_enter Try.func36, Try.ntmps36
                go_wp2_with (first | (go_at_call 16; ((with_reducible refine (cV.out _).mono ?_); rintro e w' ⟨rfl, rfl⟩)) | (go_at_call 53; ((with_reducible refine (cB.out _).mono ?_); rintro e w' ⟨rfl, rfl⟩)))
                go_returns
                exact ⟨oend_some HF.out (by simp) (by rw [HW.out]; rfl) rfl rfl HY.out, by go_grown⟩
            · have h0' : ((t % 8 : Nat) : Int) ≠ 0 := by omega
              have hlt : t % 8 < 8 := Nat.mod_lt _ (by decide)
              obtain ⟨z, hz⟩ : ∃ z, z = t % 8 := ⟨_, rfl⟩
              rw [← hz] at ha hlt
              have e0 : ((z : Int) == 0) = false := by rw [beq_eq_false_iff_ne]; omega
              have e1 : ((z : Int) == 1) = false := by rw [beq_eq_false_iff_ne]; omega
              have e5 : ((z : Int) == 5) = false := by rw [beq_eq_false_iff_ne]; omega
              have e2 : ((z : Int) == 2) = false := by rw [beq_eq_false_iff_ne]; omega
              have HE := Lib.hid (oend_none (rf_none hv (rbo (by omega) (by omega) (by omega) (by omega) _)))
              clear hv hl hrl hn hR hz h0'
              go_enter Try.func36, Try.ntmps36
              go_wp2_with (go_at_call 16; ((with_reducible refine (cV.out _).mono ?_); rintro e w' ⟨rfl, rfl⟩))
              go_returns
              exact ⟨HE.out, by go_grown⟩
end Rv
end Go.Proofs.Ytfcpicejifolmaa
