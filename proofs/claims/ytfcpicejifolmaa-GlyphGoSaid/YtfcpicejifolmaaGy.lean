/-
  glyph.escaped: its contract. No condition but that a text is short.
-/
import Derived.Test.YtfcpicejifolmaaGx
namespace Go.Proofs.Ytfcpicejifolmaa
open Go.ChangeShapes Go.WideShapes Go.ChangeAt Go.RowKit
namespace Gl
open Mem
set_option linter.unusedVariables false
set_option linter.unusedSimpArgs false
theorem byteOf_lt {c d : Nat} (hc : c < 256) (h : byteOf c = some d) : d < 256 := by
  unfold byteOf at h
  repeat' (split at h)
  all_goals (first | (cases h; done) | (cases h; omega))
set_option maxHeartbeats 4000000 in
set_option maxRecDepth 100000 in
theorem escaped_any (s : ByteArray) (w : World) (hs : s.size ≤ 1000) :
    Calls Try.prog 43 #[.string s] w fun e w' => e = eend s.data.toList ∧ Below w.heap.size w w' := by
  have BL : Hid (∀ o, Below w.heap.size w (w.alloc o)) := fun o => (Below.refl _ _).alloc (Nat.le_refl _) _
  have BR : Hid (Below w.heap.size w w) := Below.refl _ _
  by_cases h2 : s.size < 2
  · have HE := Lib.hid (eend_none (esc_short s h2))
    go_enter Try.func43, Try.ntmps43
    go_wp2
    go_returns
    exact ⟨HE.out.symm, BR.out⟩
  · have hs1 : 1 < s.size := by omega
    have hsl : s.data.toList.length = s.size := by simp
    have he := esc_long s (by omega)
    obtain ⟨a, ha⟩ : ∃ a, a = (s[1]'hs1).toNat := ⟨_, rfl⟩
    have ha8 : a < 256 := by rw [ha]; exact (s[1]'hs1).toNat_lt
    have ha' : (s[1]'hs1).toNat = a := ha.symm
    rw [← ha] at he
    clear ha
    by_cases hu : a = 117
    · rw [if_neg (by omega)] at he
      have cU := Lib.hid (fun W => unit_any s W hs)
      have e1 : (s[1]'hs1).toNat = 117 := by omega
      cases hg : gunit s.data.toList with
      | none =>
        rw [hg] at he
        rw [uend_none hg] at cU
        have HE := Lib.hid (eend_none he)
        clear he hg hu ha' hsl
        go_enter Try.func43, Try.ntmps43
        go_wp2_with (go_at_call 56; ((with_reducible refine (cU.out _).mono ?_); rintro e w' ⟨rfl, rfl⟩))
        go_returns
        exact ⟨HE.out.symm, BR.out⟩
      | some hi =>
        rw [hg] at he
        rw [uend_some hg] at cU
        simp only at he
        obtain ⟨hl6, hi6⟩ := gunit_bd hg
        rw [hsl] at hl6
        have cI := Lib.hid (fun W => is_any hi (by omega) W)
        cases hp : isPt hi with
        | true =>
          rw [hp, if_pos rfl] at he
          rw [hp] at cI
          have cP := Lib.hid (fun W => Put_any hi W (by omega))
          have HE := Lib.hid (eend_some he)
          clear he hg hu ha' hsl hp
          go_enter Try.func43, Try.ntmps43
          go_wp2_with (first | (go_at_call 56; ((with_reducible refine (cU.out _).mono ?_); rintro e w' ⟨rfl, rfl⟩)) | (go_at_call 49; ((with_reducible refine (cI.out _).mono ?_); rintro e w' ⟨rfl, rfl⟩)) | (go_at_call 34; ((with_reducible refine (cP.out _).mono ?_); rintro e w2 ⟨rfl, hb2⟩)))
          go_returns
          exact ⟨HE.out.symm, hb2⟩
        | false =>
          rw [hp, if_neg (by decide)] at he
          rw [hp] at cI
          obtain ⟨R, hR⟩ : ∃ R, R = s.extract 6 s.size := ⟨_, rfl⟩
          have hRl := rest_at s 6
          rw [← hR] at hRl
          have hRs : R.size ≤ 1000 := by rw [hR, ByteArray.size_extract]; omega
          have hR' : s.extract 6 s.size = R := hR.symm
          have cW := Lib.hid (fun W => unit_any R W hRs)
          rw [← hRl] at he
          clear hR hRl
          cases hg2 : gunit R.data.toList with
          | none =>
            rw [hg2] at he
            rw [uend_none hg2] at cW
            have HE := Lib.hid (eend_none he)
            clear he hg hu ha' hsl hp hg2
            go_enter Try.func43, Try.ntmps43
            go_wp2_with (first | (go_at_call 56; ((with_reducible refine (cU.out _).mono ?_); rintro e w' ⟨rfl, rfl⟩)) | (go_at_call 56; ((with_reducible refine (cW.out _).mono ?_); rintro e w' ⟨rfl, rfl⟩)) | (go_at_call 49; ((with_reducible refine (cI.out _).mono ?_); rintro e w' ⟨rfl, rfl⟩)))
            go_returns
            exact ⟨HE.out.symm, BR.out⟩
          | some lo =>
            rw [hg2] at he
            rw [uend_some hg2] at cW
            simp only at he
            obtain ⟨_, lo6⟩ := gunit_bd hg2
            by_cases hh : hi / 1024 = 54
            · by_cases hk : lo / 1024 = 55
              · rw [if_pos ⟨hh, hk⟩] at he
                have g1 : (hi : Int) / 1024 = 54 := by omega
                have g2 : (lo : Int) / 1024 = 55 := by omega
                have m1 := and10 hi (by omega)
                have m2 := and10 lo (by omega)
                obtain ⟨x, hx⟩ : ∃ x, x = hi % 1024 := ⟨_, rfl⟩
                obtain ⟨y, hy⟩ : ∃ y, y = lo % 1024 := ⟨_, rfl⟩
                rw [← hx, ← hy] at he
                rw [← hx] at m1
                rw [← hy] at m2
                have hx4 : x < 1024 := by omega
                have hy4 : y < 1024 := by omega
                have cP := Lib.hid (fun W => Put_any (65536 + x * 1024 + y) W (by omega))
                rw [show ((65536 + x * 1024 + y : Nat) : Int) = 65536 + (x : Int) * 1024 + (y : Int) by omega] at cP
                have HE := Lib.hid (eend_some he)
                clear he hg hu ha' hsl hp hg2 hh hk hx hy
                go_enter Try.func43, Try.ntmps43
                go_wp2_with (first | (go_at_call 56; ((with_reducible refine (cU.out _).mono ?_); rintro e w' ⟨rfl, rfl⟩)) | (go_at_call 56; ((with_reducible refine (cW.out _).mono ?_); rintro e w' ⟨rfl, rfl⟩)) | (go_at_call 49; ((with_reducible refine (cI.out _).mono ?_); rintro e w' ⟨rfl, rfl⟩)) | (go_at_call 34; ((with_reducible refine (cP.out _).mono ?_); rintro e w2 ⟨rfl, hb2⟩)))
                go_returns
                exact ⟨HE.out.symm, hb2⟩
              · rw [if_neg (by rintro ⟨_, h⟩; exact hk h)] at he
                have g1 : (hi : Int) / 1024 = 54 := by omega
                have g2 : ((lo : Int) / 1024 != 55) = true := by rw [bne, beq_eq_false_iff_ne.2 (by omega)]; rfl
                have g3 : ¬ (lo : Int) / 1024 = 55 := by omega
                have HE := Lib.hid (eend_none he)
                clear he hg hu ha' hsl hp hg2 hh hk
                go_enter Try.func43, Try.ntmps43
                go_wp2_with (first | (go_at_call 56; ((with_reducible refine (cU.out _).mono ?_); rintro e w' ⟨rfl, rfl⟩)) | (go_at_call 56; ((with_reducible refine (cW.out _).mono ?_); rintro e w' ⟨rfl, rfl⟩)) | (go_at_call 49; ((with_reducible refine (cI.out _).mono ?_); rintro e w' ⟨rfl, rfl⟩)))
                go_returns
                exact ⟨HE.out.symm, BR.out⟩
            · rw [if_neg (by rintro ⟨h, _⟩; exact hh h)] at he
              have g2 : ((hi : Int) / 1024 != 54) = true := by rw [bne, beq_eq_false_iff_ne.2 (by omega)]; rfl
              have g3 : ¬ (hi : Int) / 1024 = 54 := by omega
              have HE := Lib.hid (eend_none he)
              clear he hg hu ha' hsl hp hg2 hh
              go_enter Try.func43, Try.ntmps43
              go_wp2_with (first | (go_at_call 56; ((with_reducible refine (cU.out _).mono ?_); rintro e w' ⟨rfl, rfl⟩)) | (go_at_call 56; ((with_reducible refine (cW.out _).mono ?_); rintro e w' ⟨rfl, rfl⟩)) | (go_at_call 49; ((with_reducible refine (cI.out _).mono ?_); rintro e w' ⟨rfl, rfl⟩)))
              go_returns
              exact ⟨HE.out.symm, BR.out⟩
    · rw [if_pos hu] at he
      have cB := Lib.hid (fun W => byteOf_any a ha8 W)
      have e1 : ((a : Int) != 117) = true := by rw [bne, beq_eq_false_iff_ne.2 (by omega)]; rfl
      have f1 : ¬ (a : Int) = 117 := by omega
      cases hd : byteOf a with
      | none =>
        rw [hd] at he cB
        have HE := Lib.hid (eend_none he)
        clear he hu hsl hd
        go_enter Try.func43, Try.ntmps43
        go_wp2_with (go_at_call 55; ((with_reducible refine (cB.out _).mono ?_); rintro e w' ⟨rfl, rfl⟩))
        go_returns
        exact ⟨HE.out.symm, BR.out⟩
      | some d =>
        rw [hd] at he cB
        have hd8 := byteOf_lt ha8 hd
        have hdt : (UInt8.ofNat d).toNat = d := Mem.ofNat_lt hd8
        have cv := lit_bin (P := Try.prog) w Try.underlying44 Try.underlying5 Try.underlying9 (e := 5) [UInt8.ofNat d] 1 rfl [.int .u8 (d : Int)] (by simp only [Mem.vals, List.map_cons, List.map_nil, hdt])
        have HE := Lib.hid (eend_some he)
        clear he hu hsl hd hdt
        go_enter Try.func43, Try.ntmps43
        go_wp2_with (go_at_call 55; ((with_reducible refine (cB.out _).mono ?_); rintro e w' ⟨rfl, rfl⟩))
        go_returns
        exact ⟨HE.out.symm, BL.out _⟩
end Gl
end Go.Proofs.Ytfcpicejifolmaa
