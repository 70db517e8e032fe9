/-
  The document's Unquote: its contract. No condition but that a text is short.
-/
import Derived.Test.YtfcpicejifolmaaGo
import Derived.Test.YtfcpicejifolmaaGj
import Derived.Test.YtfcpicejifolmaaGl
namespace Go.Proofs.Ytfcpicejifolmaa
open Go.ChangeShapes Go.WideShapes Go.ChangeAt Go.RowKit
namespace Gl
open Mem
set_option linter.unusedVariables false
set_option linter.unusedSimpArgs false
set_option maxHeartbeats 4000000 in
set_option maxRecDepth 1000000 in
theorem DUnquote_any (s : ByteArray) (w : World) (hs : s.size ≤ 900) :
    Calls Try.prog 29 #[.string s] w fun e w' => e = qend s.data.toList ∧ Below w.heap.size w w' := by
  have hsl : s.data.toList.length = s.size := by simp
  have BR : Hid (Below w.heap.size w w) := Below.refl _ _
  by_cases h0 : s.size = 0
  · have HE := Lib.hid (qend_none (unq_nil s h0))
    go_enter Try.func29, Try.ntmps29
    go_wp2
    go_returns
    exact ⟨HE.out.symm, BR.out⟩
  · have hs0 : 0 < s.size := by omega
    have hu := unq_at s hs0
    have hb0 : ((s.size : Int) == 0) = false := by rw [beq_eq_false_iff_ne]; omega
    by_cases h34 : (s[0]'hs0).toNat = 34
    · rw [if_pos h34] at hu
      have HU := Lib.hid hu
      clear hu h0
      go_enter Try.func29, Try.ntmps29
      go_wp2_with fail
      go_loopw [5, 6] (fun b i W => ∃ (k : Nat) (acc : List UInt8), i = .int .i64 k ∧ 1 ≤ k ∧ k ≤ s.size ∧ acc.length ≤ k ∧ b = .string (bin acc) ∧ unq s.data.toList = uq (s.data.toList.drop k) acc k ∧ Below w.heap.size w W) (fun _ i _ => s.size - (intOf i).toNat)
      case atStart => exact ⟨1, [], rfl, by omega, by omega, by simp, rfl, HU.out, Below.refl _ _⟩
      case round =>
        obtain ⟨k, acc, rfl, hk1, hks, hal, rfl, hq, hb⟩ := hrel
        have HQ := Lib.hid hq
        have HB := Lib.hid hb
        have HW := Lib.hid hb.size
        have hacc : (bin acc).size ≤ 1000 := by rw [Mem.bin_size]; omega
        clear hq hb
        by_cases hlt : k < s.size
        · have hd := at_drop s k hlt
          have hbl : (bin acc).data.toList = acc := Mem.bin_list acc
          have HX := Lib.hid (one_of s k hlt)
          obtain ⟨c, hc⟩ : ∃ c, c = s[k]'hlt := ⟨_, rfl⟩
          rw [← hc] at hd HX
          have hc8 : c.toNat < 256 := c.toNat_lt
          have hcn : (s[k]'hlt).toNat = c.toNat := by rw [hc]
          clear hc
          by_cases e34 : c.toNat = 34
          · have hx := HQ.out
            rw [hd, uq_end e34] at hx
            have cE := Lib.hid (fun W => DValid_any (bin acc) W hacc)
            rw [hbl] at cE
            cases hv : valid acc with
            | true =>
              rw [hv, if_pos rfl] at hx
              rw [hv] at cE
              have HE := Lib.hid (qend_some hx)
              clear hx hv hd hbl
              go_wp2_with (go_at_call 31; ((with_reducible refine (cE.out _).mono ?_); rintro e w' ⟨rfl, rfl⟩))
              go_returns
              exact ⟨by rw [HE.out]; first | rfl | (simp; done), HB.out⟩
            | false =>
              rw [hv, if_neg (by decide)] at hx
              rw [hv] at cE
              have HE := Lib.hid (qend_none hx)
              clear hx hv hd hbl
              go_wp2_with (go_at_call 31; ((with_reducible refine (cE.out _).mono ?_); rintro e w' ⟨rfl, rfl⟩))
              go_returns
              exact ⟨HE.out.symm, HB.out⟩
          · have b34 : ((c.toNat : Int) == 34) = false := by rw [beq_eq_false_iff_ne]; omega
            by_cases e32 : c.toNat < 32
            · have hx := HQ.out
              rw [hd, uq_low e34 e32] at hx
              have HE := Lib.hid (qend_none hx)
              clear hx hd hbl e34
              go_wp2_with fail
              go_returns
              exact ⟨HE.out.symm, HB.out⟩
            · by_cases e92 : c.toNat = 92
              · obtain ⟨R, hR⟩ : ∃ R, R = s.extract k s.size := ⟨_, rfl⟩
                have hRl := rest_at s k
                rw [← hR] at hRl
                have hRs : R.size ≤ 1000 := by rw [hR, ByteArray.size_extract]; omega
                have hR' : s.extract k s.size = R := hR.symm
                have cX := Lib.hid (fun W => escape_any R W hRs)
                cases he : esc R.data.toList with
                | none =>
                  rw [eend_none he] at cX
                  have hx := HQ.out
                  rw [hd, uq_bad e92 (by rw [← hd, ← hRl]; exact he)] at hx
                  have HE := Lib.hid (qend_none hx)
                  clear hx hd hbl e34 he hRl hR HX
                  go_wp2_with (go_at_call 44; ((with_reducible refine (cX.out _).mono ?_); rintro e w2 ⟨rfl, hb2⟩))
                  go_returns
                  exact ⟨HE.out.symm, HB.out.trans (hb2.mono HW.out)⟩
                | some x =>
                  obtain ⟨p, m⟩ := x
                  rw [eend_some he] at cX
                  have hx := HQ.out
                  rw [hd, uq_esc e92 (by rw [← hd, ← hRl]; exact he), ← hd, List.drop_drop] at hx
                  obtain ⟨m1, m2, m3⟩ := esc_bd he
                  rw [hRl, List.length_drop, hsl] at m2
                  have HX2 := Lib.hid hx
                  have bm : ((m : Int) == 0) = false := by rw [beq_eq_false_iff_ne]; omega
                  have hps : (bin p).size ≤ 1000 := by rw [Mem.bin_size]; omega
                  clear hx hd hbl e34 he hRl hR HX
                  go_wp2_with (go_at_call 44; ((with_reducible refine (cX.out _).mono ?_); rintro e w2 ⟨rfl, hb2⟩))
                  have HB2 := Lib.hid (HB.out.trans (hb2.mono HW.out))
                  clear hb2
                  go_roundw
                  case rel => exact ⟨k + m, acc ++ p, by go_num, by omega, by omega, by rw [List.length_append]; omega, congrArg Value.string (app_bin acc p), HX2.out, HB2.out⟩
                  case measure => simp [intOf]; omega
              · have b92 : ((c.toNat : Int) != 92) = true := by rw [bne, beq_eq_false_iff_ne.2 (by omega)]; rfl
                have f92 : ¬ (c.toNat : Int) = 92 := by omega
                have hx := HQ.out
                rw [hd, uq_one e34 e32 e92] at hx
                have HX2 := Lib.hid hx
                clear hx hd hbl e34 e92
                go_wp2_with fail
                go_roundw
                case rel => exact ⟨k + 1, acc ++ [c], by go_num, by omega, by omega, by rw [List.length_append]; simp; omega, congrArg Value.string (by rw [HX.out, app_bin]), HX2.out, HB.out⟩
                case measure => simp [intOf]; omega
        · have hx := HQ.out
          rw [List.drop_of_length_le (by omega), uq_nil] at hx
          have HE := Lib.hid (qend_none hx)
          clear hx
          go_wp2_with fail
          go_returns
          exact ⟨HE.out.symm, HB.out⟩
    · rw [if_neg h34] at hu
      have HE := Lib.hid (qend_none hu)
      have b0 : (((s[0]'hs0).toNat : Int) != 34) = true := by rw [bne, beq_eq_false_iff_ne.2 (by omega)]; rfl
      have f0 : ¬ ((s[0]'hs0).toNat : Int) = 34 := by omega
      clear hu h0 h34
      go_enter Try.func29, Try.ntmps29
      go_wp2
      go_returns
      exact ⟨HE.out.symm, BR.out⟩
end Gl
end Go.Proofs.Ytfcpicejifolmaa
