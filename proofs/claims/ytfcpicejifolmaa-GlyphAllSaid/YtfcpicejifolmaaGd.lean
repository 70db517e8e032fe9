/-
  The document's Digit and unit: contracts. No condition but that a text is short.
-/
import Derived.Test.YtfcpicejifolmaaGu
namespace Go.Proofs.Ytfcpicejifolmaa
open Go.ChangeShapes Go.WideShapes Go.ChangeAt Go.RowKit
namespace Gl
open Mem
set_option linter.unusedVariables false
set_option linter.unusedSimpArgs false
set_option maxHeartbeats 1000000 in
set_option maxRecDepth 100000 in
theorem Digit_any (c : Nat) (hc : c < 256) (w : World) :
    Calls Try.prog 61 #[.int .u8 (c : Int)] w fun e w' => e = (match hexv c with | some d => .returned (.int .i64 (d : Int)) | none => .returned (.int .i64 (-1))) ∧ w = w' := by
  have key : ∀ x, hexv c = x → Calls Try.prog 61 #[.int .u8 (c : Int)] w fun e w' => e = (match x with | some d => .returned (.int .i64 (d : Int)) | none => .returned (.int .i64 (-1))) ∧ w = w' := by
    intro x hx
    by_cases h1 : 48 ≤ c ∧ c ≤ 57
    · have : x = some (c - 48) := by rw [← hx]; unfold hexv; rw [if_pos h1]
      subst this
      obtain ⟨d, rfl⟩ : ∃ d, c = 48 + d := ⟨c - 48, by omega⟩
      have hd9 : d ≤ 9 := by omega
      have e1 : 48 + d - 48 = d := by omega
      rw [e1]
      clear hx e1 h1
      go_enter Try.func61, Try.ntmps61
      go_wp2
      go_ret
      exact ⟨by first | rfl | (simp; done) | (simp; omega), rfl⟩
    · by_cases h2 : 97 ≤ c ∧ c ≤ 102
      · have : x = some (c - 97 + 10) := by rw [← hx]; unfold hexv; rw [if_neg h1, if_pos h2]
        subst this
        obtain ⟨d, rfl⟩ : ∃ d, c = 97 + d := ⟨c - 97, by omega⟩
        have hd9 : d ≤ 5 := by omega
        have e1 : 97 + d - 97 + 10 = d + 10 := by omega
        rw [e1]
        clear hx e1 h1 h2
        go_enter Try.func61, Try.ntmps61
        go_wp2
        go_ret
        exact ⟨by first | rfl | (simp; done) | (simp; omega), rfl⟩
      · by_cases h3 : 65 ≤ c ∧ c ≤ 70
        · have : x = some (c - 65 + 10) := by rw [← hx]; unfold hexv; rw [if_neg h1, if_neg h2, if_pos h3]
          subst this
          obtain ⟨d, rfl⟩ : ∃ d, c = 65 + d := ⟨c - 65, by omega⟩
          have hd9 : d ≤ 5 := by omega
          have e1 : 65 + d - 65 + 10 = d + 10 := by omega
          rw [e1]
          clear hx e1 h1 h2 h3
          go_enter Try.func61, Try.ntmps61
          go_wp2
          go_ret
          exact ⟨by first | rfl | (simp; done) | (simp; omega), rfl⟩
        · have : x = none := by rw [← hx]; unfold hexv; rw [if_neg h1, if_neg h2, if_neg h3]
          subst this
          clear hx
          have h1' : c < 48 ∨ 57 < c := by omega
          have h2' : c < 97 ∨ 102 < c := by omega
          have h3' : c < 65 ∨ 70 < c := by omega
          clear h1 h2 h3
          rcases h1' with h1 | h1
          · have a1 : ¬ (48 : Int) ≤ (c : Int) := by omega
            have a2 : ¬ (97 : Int) ≤ (c : Int) := by omega
            have a3 : ¬ (65 : Int) ≤ (c : Int) := by omega
            clear h2' h3'
            go_enter Try.func61, Try.ntmps61
            go_wp2
            go_ret
            exact ⟨rfl, rfl⟩
          · have a1 : (48 : Int) ≤ (c : Int) := by omega
            have a1' : ¬ (c : Int) ≤ 57 := by omega
            rcases h3' with h3 | h3
            · have a2 : ¬ (97 : Int) ≤ (c : Int) := by omega
              have a3 : ¬ (65 : Int) ≤ (c : Int) := by omega
              clear h2'
              go_enter Try.func61, Try.ntmps61
              go_wp2
              go_ret
              exact ⟨rfl, rfl⟩
            · have a3 : (65 : Int) ≤ (c : Int) := by omega
              have a3' : ¬ (c : Int) ≤ 70 := by omega
              rcases h2' with h2 | h2
              · have a2 : ¬ (97 : Int) ≤ (c : Int) := by omega
                go_enter Try.func61, Try.ntmps61
                go_wp2
                go_ret
                exact ⟨rfl, rfl⟩
              · have a2 : (97 : Int) ≤ (c : Int) := by omega
                have a2' : ¬ (c : Int) ≤ 102 := by omega
                go_enter Try.func61, Try.ntmps61
                go_wp2
                go_ret
                exact ⟨rfl, rfl⟩
  exact key _ rfl
set_option maxHeartbeats 2000000 in
set_option maxRecDepth 100000 in
theorem dunit_any (s : ByteArray) (w : World) (hs : s.size ≤ 1000) :
    Calls Try.prog 57 #[.string s] w fun e w' => e = uend s.data.toList ∧ w = w' := by
  by_cases h6 : s.size < 6
  · rw [uend_none (gunit_short s h6)]
    go_enter Try.func57, Try.ntmps57
    go_wp2
    go_returns
    exact ⟨rfl, rfl⟩
  · have hg := gunit_long s (by omega)
    have hs0 : 0 < s.size := by omega
    have hs1 : 1 < s.size := by omega
    obtain ⟨a, ha⟩ : ∃ a, a = (s[0]'hs0).toNat := ⟨_, rfl⟩
    obtain ⟨b, hb⟩ : ∃ b, b = (s[1]'hs1).toNat := ⟨_, rfl⟩
    rw [← ha, ← hb] at hg
    by_cases h1 : a = 92
    · by_cases h2 : b = 117
      · rw [if_pos ⟨h1, h2⟩] at hg
        have HG := Lib.hid hg
        have e0 : (s[0]'hs0).toNat = 92 := by omega
        have e1 : (s[1]'hs1).toNat = 117 := by omega
        clear hg ha hb h1 h2
        go_enter Try.func57, Try.ntmps57
        go_wp2
        go_loop [4, 5] (fun u i => ∃ k v : Nat, i = .int .i64 k ∧ 2 ≤ k ∧ k ≤ 6 ∧ u = .int .u32 v ∧ hexs (seg s k) 0 = some v ∧ v < 16 ^ (k - 2)) (fun _ i => 6 - (intOf i).toNat)
        case atStart => exact ⟨2, 0, rfl, by omega, by omega, rfl, by unfold seg; simp [hexs], by decide⟩
        case round =>
          obtain ⟨k, v, rfl, hk2, hk6, rfl, hv, hvl⟩ := hrel
          by_cases hk : k < 6
          · have hks : k < s.size := by omega
            have hcb : s[k].toNat < 256 := s[k].toNat_lt
            have cD := Lib.hid (fun W => Digit_any s[k].toNat hcb W)
            have hpow : 16 ^ (k - 2) ≤ 16 ^ 3 := Nat.pow_le_pow_right (by decide) (by omega)
            have hv4 : v < 4096 := by have h3 : (16 : Nat) ^ 3 = 4096 := by decide
                                      omega
            have HV := Lib.hid hv
            have HS := Lib.hid (seg_snoc s k hks hk2)
            have hpl : 16 ^ (k + 1 - 2) = 16 ^ (k - 2) * 16 := by rw [show k + 1 - 2 = (k - 2) + 1 by omega, Nat.pow_succ]
            cases hd : hexv s[k].toNat with
            | none =>
              rw [hd] at cD
              have HE : Hid (gunit s.data.toList = none) := by
                rw [HG.out, seg_full s (k + 1) (by omega) (by omega), HS.out, hexs_app, hexs_app, HV.out]
                show (((some v).bind (hexs [s[k]])).bind _ = none)
                simp only [Option.bind_some, hexs, hd, Option.bind_none]
              clear hv hvl hd hpl hpow
              go_wp2_with (go_at_call 61; ((with_reducible refine (cD.out _).mono ?_); rintro e w' ⟨rfl, rfl⟩))
              rw [uend_none HE.out]
              go_returns
              exact ⟨rfl, rfl⟩
            | some d =>
              rw [hd] at cD
              have hd16 := hexv_lt hd
              have ho : 0 ≤ (d : Int) := by omega
              have HN : Hid (hexs (seg s (k + 1)) 0 = some (v * 16 + d)) := by
                rw [HS.out, hexs_app, HV.out]
                show hexs [s[k]] v = _
                simp only [hexs, hd]
              have HL : Hid (v * 16 + d < 16 ^ (k + 1 - 2)) := by
                rw [hpl]
                have : (v + 1) * 16 ≤ 16 ^ (k - 2) * 16 := Nat.mul_le_mul_right _ hvl
                show _ < _
                omega
              clear hv hvl hd hpl hpow
              go_wp2_with (go_at_call 61; ((with_reducible refine (cD.out _).mono ?_); rintro e w' ⟨rfl, rfl⟩))
              go_round
              case rel => exact ⟨k + 1, v * 16 + d, by go_num, by omega, by omega, by go_num, HN.out, HL.out⟩
              case measure => simp [intOf]; omega
          · obtain rfl : k = 6 := by omega
            have HE : Hid (gunit s.data.toList = some v) := by rw [HG.out]; exact hv
            clear hv hvl
            go_wp2
            rw [uend_some HE.out]
            go_returns
            exact ⟨rfl, rfl⟩
      · rw [if_neg (by omega)] at hg
        rw [uend_none hg]
        have e0 : (s[0]'hs0).toNat = 92 := by omega
        have e1 : (((s[1]'hs1).toNat : Int) != 117) = true := by rw [bne, beq_eq_false_iff_ne.2 (by omega)]; rfl
        have f1 : ¬ ((s[1]'hs1).toNat : Int) = 117 := by omega
        clear hg ha hb h1 h2
        go_enter Try.func57, Try.ntmps57
        go_wp2
        go_returns
        exact ⟨rfl, rfl⟩
    · rw [if_neg (by omega)] at hg
      rw [uend_none hg]
      have e0 : (((s[0]'hs0).toNat : Int) != 92) = true := by rw [bne, beq_eq_false_iff_ne.2 (by omega)]; rfl
      have f0 : ¬ ((s[0]'hs0).toNat : Int) = 92 := by omega
      clear hg ha hb h1
      go_enter Try.func57, Try.ntmps57
      go_wp2
      go_returns
      exact ⟨rfl, rfl⟩
end Gl
end Go.Proofs.Ytfcpicejifolmaa
