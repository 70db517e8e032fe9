/-
  glyph.Unquote: its contract. No condition but that a text is short.
-/
import Derived.Test.YtfcpicejifolmaaGy
namespace Go.Proofs.Ytfcpicejifolmaa
open Go.ChangeShapes Go.WideShapes Go.ChangeAt Go.RowKit
namespace Gl
open Mem
set_option linter.unusedVariables false
set_option linter.unusedSimpArgs false
theorem gbytes_len (r : Nat) : (gbytes r).length ≤ 4 := by
  unfold gbytes
  repeat' split
  all_goals (simp only [List.length_cons, List.length_nil]; omega)
theorem gput_len (r : Nat) : (gput r).length ≤ 4 := gbytes_len _
theorem esc_bd {l p : List UInt8} {k : Nat} (h : esc l = some (p, k)) : 2 ≤ k ∧ k ≤ l.length ∧ p.length ≤ k := by
  unfold esc at h
  split at h
  · rename_i a d r
    split at h
    · obtain ⟨c, _, hx⟩ := Option.map_eq_some_iff.1 h
      cases hx
      exact ⟨Nat.le_refl _, by simp, by simp⟩
    · cases hg : gunit (a :: d :: r) with
      | none => rw [hg] at h; cases h
      | some hi =>
        rw [hg] at h
        simp only at h
        have h6 := (gunit_bd hg).1
        split at h
        · cases h
          have := gput_len hi
          exact ⟨by omega, h6, by omega⟩
        · cases hg2 : gunit ((a :: d :: r).drop 6) with
          | none => rw [hg2] at h; cases h
          | some lo =>
            rw [hg2] at h
            simp only at h
            have h7 := (gunit_bd hg2).1
            rw [List.length_drop] at h7
            split at h
            · cases h
              have := gput_len (65536 + hi % 1024 * 1024 + lo % 1024)
              exact ⟨by omega, by omega, by omega⟩
            · cases h
  · cases h
theorem uq_nil (acc : List UInt8) (n : Nat) : uq [] acc n = none := by rw [uq]
theorem uq_end {c : UInt8} {r acc : List UInt8} {n : Nat} (h : c.toNat = 34) : uq (c :: r) acc n = if valid acc then some (acc, n + 1) else none := by rw [uq, if_pos h]
theorem uq_low {c : UInt8} {r acc : List UInt8} {n : Nat} (h : c.toNat ≠ 34) (h2 : c.toNat < 32) : uq (c :: r) acc n = none := by rw [uq, if_neg h, if_pos h2]
theorem uq_bad {c : UInt8} {r acc : List UInt8} {n : Nat} (h : c.toNat = 92) (he : esc (c :: r) = none) : uq (c :: r) acc n = none := by
  rw [uq, if_neg (by omega), if_neg (by omega), if_pos h]
  split
  · rfl
  · rename_i e; rw [he] at e; cases e
theorem uq_esc {c : UInt8} {r acc p : List UInt8} {n k : Nat} (h : c.toNat = 92) (he : esc (c :: r) = some (p, k)) : uq (c :: r) acc n = uq ((c :: r).drop k) (acc ++ p) (n + k) := by
  have hb := esc_bd he
  rw [uq, if_neg (by omega), if_neg (by omega), if_pos h]
  split
  · rename_i e; rw [he] at e; cases e
  · rename_i e; rw [he] at e; cases e
    rw [if_neg (by omega)]
theorem uq_one {c : UInt8} {r acc : List UInt8} {n : Nat} (h : c.toNat ≠ 34) (h2 : ¬ c.toNat < 32) (h3 : c.toNat ≠ 92) : uq (c :: r) acc n = uq r (acc ++ [c]) (n + 1) := by
  rw [uq, if_neg h, if_neg h2, if_neg h3]
theorem at_drop (s : ByteArray) (k : Nat) (h : k < s.size) : s.data.toList.drop k = s[k] :: s.data.toList.drop (k + 1) := by
  rw [List.drop_eq_getElem_cons (by simpa using h)]; rfl
theorem unq_nil (s : ByteArray) (h : s.size = 0) : unq s.data.toList = none := by
  have : s.data.toList = [] := List.length_eq_zero_iff.1 (by simpa using h)
  rw [this]; rfl
theorem unq_at (s : ByteArray) (h : 0 < s.size) : unq s.data.toList = if (s[0]'h).toNat = 34 then uq (s.data.toList.drop 1) [] 1 else none := by
  obtain ⟨⟨l⟩⟩ := s
  change 0 < l.length at h
  match l, h with
  | a :: r, _ => rfl
def qend (l : List UInt8) : Ending := match unq l with
  | some (t, n) => .returned (.tuple #[.string (bin t), .int .i64 (n : Int), .int .i64 0])
  | none => .returned (.tuple #[.string (bin []), .int .i64 0, .int .i64 2])
theorem qend_none {l : List UInt8} (h : unq l = none) : qend l = .returned (.tuple #[.string (bin []), .int .i64 0, .int .i64 2]) := by unfold qend; rw [h]
theorem qend_some {l t : List UInt8} {n : Nat} (h : unq l = some (t, n)) : qend l = .returned (.tuple #[.string (bin t), .int .i64 (n : Int), .int .i64 0]) := by unfold qend; rw [h]
set_option maxHeartbeats 4000000 in
set_option maxRecDepth 100000 in
theorem Unquote_any (s : ByteArray) (w : World) (hs : s.size ≤ 900) :
    Calls Try.prog 28 #[.string s] w fun e w' => e = qend s.data.toList ∧ Below w.heap.size w w' := by
  obtain ⟨i0, hi, hz0, hz1, hz2⟩ := Mem.info_parts Mem.info8
  have hsl : s.data.toList.length = s.size := by simp
  have BR : Hid (Below w.heap.size w w) := Below.refl _ _
  by_cases h0 : s.size = 0
  · have HE := Lib.hid (qend_none (unq_nil s h0))
    go_enter Try.func28, Try.ntmps28
    go_wp2
    go_returns
    exact ⟨HE.out.symm, BR.out⟩
  · have hs0 : 0 < s.size := by omega
    have hu := unq_at s hs0
    have hb0 : ((s.size : Int) == 0) = false := by rw [beq_eq_false_iff_ne]; omega
    by_cases h34 : (s[0]'hs0).toNat = 34
    · rw [if_pos h34] at hu
      have HU := Lib.hid hu
      clear hu h0
      go_enter Try.func28, Try.ntmps28
      go_wp2_with fail
      go_loopw [5, 6] (fun b i W => ∃ (k : Nat) (acc : List UInt8), i = .int .i64 k ∧ 1 ≤ k ∧ k ≤ s.size ∧ acc.length ≤ k ∧ BRow W w.heap.size 5 b acc ∧ unq s.data.toList = uq (s.data.toList.drop k) acc k ∧ Below w.heap.size w W) (fun _ i _ => s.size - (intOf i).toNat)
      case atStart => exact ⟨1, [], rfl, by omega, by omega, by simp, BRow.nil _ _ _, HU.out, Below.refl _ _⟩
      case round =>
        obtain ⟨k, acc, rfl, hk1, hks, hal, hr, hq, hb⟩ := hrel
        have HR := Lib.hid hr
        have HQ := Lib.hid hq
        have HB := Lib.hid hb
        have HW := Lib.hid hb.size
        have hacc : (bin acc).size ≤ 1000 := by rw [Mem.bin_size]; omega
        clear hr hq hb
        by_cases hlt : k < s.size
        · have hd := at_drop s k hlt
          have hbl : (bin acc).data.toList = acc := Mem.bin_list acc
          obtain ⟨c, hc⟩ : ∃ c, c = s[k]'hlt := ⟨_, rfl⟩
          rw [← hc] at hd
          have hc8 : c.toNat < 256 := c.toNat_lt
          have hcn : (s[k]'hlt).toNat = c.toNat := by rw [hc]
          clear hc
          by_cases e34 : c.toNat = 34
          · have cv := Mem.row_text (P := Try.prog) Try.underlying44 Try.underlying5 Try.underlying9 HR.out
            have hx := HQ.out
            rw [hd, uq_end e34] at hx
            cases hv : valid acc with
            | true =>
              rw [hv, if_pos rfl] at hx
              have HE := Lib.hid (qend_some hx)
              have cE := Lib.hid (fun n W => ended_yes (bin acc) n W hacc (by rw [hbl]; exact hv))
              clear hx hv hd hbl
              go_wp2_with (go_at_call 42; ((with_reducible refine (cE.out _ _).mono ?_); rintro e w' ⟨rfl, rfl⟩))
              go_returns
              exact ⟨by rw [HE.out]; first | rfl | (simp; done), HB.out⟩
            | false =>
              rw [hv, if_neg (by decide)] at hx
              have HE := Lib.hid (qend_none hx)
              have cE := Lib.hid (fun n W => ended_no (bin acc) n W hacc (by rw [hbl]; exact hv))
              clear hx hv hd hbl
              go_wp2_with (go_at_call 42; ((with_reducible refine (cE.out _ _).mono ?_); rintro e w' ⟨rfl, rfl⟩))
              go_returns
              exact ⟨HE.out.symm, HB.out⟩
          · have b34 : ((c.toNat : Int) == 34) = false := by rw [beq_eq_false_iff_ne]; omega
            by_cases e32 : c.toNat < 32
            · have hx := HQ.out
              rw [hd, uq_low e34 e32] at hx
              have HE := Lib.hid (qend_none hx)
              clear hx hd hbl e34
              go_wp2_with fail
              go_returns
              exact ⟨HE.out.symm, HB.out⟩
            · by_cases e92 : c.toNat = 92
              · obtain ⟨R, hR⟩ : ∃ R, R = s.extract k s.size := ⟨_, rfl⟩
                have hRl := rest_at s k
                rw [← hR] at hRl
                have hRs : R.size ≤ 1000 := by rw [hR, ByteArray.size_extract]; omega
                have hR' : s.extract k s.size = R := hR.symm
                have cX := Lib.hid (fun W => escaped_any R W hRs)
                cases he : esc R.data.toList with
                | none =>
                  rw [eend_none he] at cX
                  have hx := HQ.out
                  rw [hd, uq_bad e92 (by rw [← hd, ← hRl]; exact he)] at hx
                  have HE := Lib.hid (qend_none hx)
                  clear hx hd hbl e34 he hRl hR
                  go_wp2_with (go_at_call 43; ((with_reducible refine (cX.out _).mono ?_); rintro e w2 ⟨rfl, hb2⟩))
                  go_returns
                  exact ⟨HE.out.symm, HB.out.trans (hb2.mono HW.out)⟩
                | some x =>
                  obtain ⟨p, m⟩ := x
                  rw [eend_some he] at cX
                  have hx := HQ.out
                  rw [hd, uq_esc e92 (by rw [← hd, ← hRl]; exact he), ← hd, List.drop_drop] at hx
                  obtain ⟨m1, m2, m3⟩ := esc_bd he
                  rw [hRl, List.length_drop, hsl] at m2
                  have HX := Lib.hid hx
                  have bm : ((m : Int) == 0) = false := by rw [beq_eq_false_iff_ne]; omega
                  clear hx hd hbl e34 he hRl hR
                  go_wp2_with (first | (at_builtin; refine wpList_append_row rfl _ _ 44 9 rfl w.heap.size 5 i0 Try.underlying44 hi hz0 hz1 hz2 _ acc rfl (HR.out.old hb2 (Nat.le_refl _)) p _ rfl (Src.text Try.underlying9 p) (by omega) (Nat.le_trans HW.out hb2.size) ?_) | (go_at_call 43; ((with_reducible refine (cX.out _).mono ?_); rintro e w2 ⟨rfl, hb2⟩)))
                  intro v' w3 hrow hgr
                  have HR2 := Lib.hid hrow
                  have HB2 := Lib.hid ((HB.out.trans (hb2.mono HW.out)).grown hgr (Nat.le_trans HW.out hb2.size) (fun j hj => (BRow.lt HR.out j hj).1))
                  clear hrow hgr hb2
                  go_wp2_with fail
                  go_roundw
                  case rel => exact ⟨k + m, acc ++ p, by go_num, by omega, by omega, by rw [List.length_append]; omega, HR2.out, HX.out, HB2.out⟩
                  case measure => simp [intOf]; omega
              · have b92 : ((c.toNat : Int) == 92) = false := by rw [beq_eq_false_iff_ne]; omega
                have hx := HQ.out
                rw [hd, uq_one e34 e32 e92] at hx
                have HX := Lib.hid hx
                have HS : Hid (Src Try.prog (wr.alloc (.cells #[.int .u8 (c.toNat : Int)] 5)) 44 (.slice (some ⟨wr.heap.size, 0, none⟩) 1 1) [c]) := Src.slice (g := wr.heap.size) (cs := [c]) (cap := 1) Try.underlying44 (fun j d hj => by
                  match j, hj with
                  | 0, hj => cases hj; exact Mem.one_src wr _ _)
                clear hx hd hbl e34 e92
                go_wp2_with (at_builtin; refine wpList_append_row rfl _ _ 44 44 rfl w.heap.size 5 i0 Try.underlying44 hi hz0 hz1 hz2 _ acc rfl (HR.out.alloc _) [c] _ rfl HS.out (by simp; omega) (by have := HW.out; simp; omega) ?_)
                intro v' w3 hrow hgr
                have HR2 := Lib.hid hrow
                have HB2 := Lib.hid ((HB.out.alloc HW.out _).grown hgr (by have := HW.out; simp; omega) (fun j hj => (BRow.lt HR.out j hj).1))
                clear hrow hgr
                go_wp2_with fail
                go_roundw
                case rel => exact ⟨k + 1, acc ++ [c], by go_num, by omega, by omega, by rw [List.length_append]; simp; omega, HR2.out, HX.out, HB2.out⟩
                case measure => simp [intOf]; omega
        · have hx := HQ.out
          rw [List.drop_of_length_le (by omega), uq_nil] at hx
          have HE := Lib.hid (qend_none hx)
          clear hx
          go_wp2_with fail
          go_returns
          exact ⟨HE.out.symm, HB.out⟩
    · rw [if_neg h34] at hu
      have HE := Lib.hid (qend_none hu)
      have b0 : (((s[0]'hs0).toNat : Int) != 34) = true := by rw [bne, beq_eq_false_iff_ne.2 (by omega)]; rfl
      have f0 : ¬ ((s[0]'hs0).toNat : Int) = 34 := by omega
      clear hu h0 h34
      go_enter Try.func28, Try.ntmps28
      go_wp2
      go_returns
      exact ⟨HE.out.symm, BR.out⟩
end Gl
end Go.Proofs.Ytfcpicejifolmaa
