/-
  The document's point and Valid: contracts. No condition but that a text is short.
-/
import Derived.Test.YtfcpicejifolmaaGx
namespace Go.Proofs.Ytfcpicejifolmaa
open Go.ChangeShapes Go.WideShapes Go.ChangeAt Go.RowKit
namespace Gl
open Mem
set_option linter.unusedVariables false
set_option linter.unusedSimpArgs false
/-- What 'point' answers: how many bytes, and some number. -/
def PE (n : Nat) (e : Ending) : Prop := ∃ v : Int, e = .returned (.tuple #[.int .u32 v, .int .i64 (n : Int)])

set_option maxHeartbeats 2000000 in
set_option maxRecDepth 1000000 in
theorem point_1 (s : ByteArray) (w : World) (h0 : 0 < s.size) (hs : s.size ≤ 1000) (h : (s[0]'h0).toNat < 128) :
    Calls Try.prog 46 #[.string s] w fun e w' => PE (front s.data.toList) e ∧ w = w' := by
  have hf := front_at s h0
  have hl : lead (s[0]'h0).toNat = (1, (s[0]'h0).toNat) := by unfold lead; rw [if_pos h]
  rw [hl, if_neg (by show ¬ s.size < 1; omega)] at hf
  have hfo : fol s 1 = [] := by unfold fol; simp
  have hp : isPt (s[0]'h0).toNat = true := by unfold isPt; simp; omega
  have hg : glen (s[0]'h0).toNat = 1 := by unfold glen; rw [if_pos h]
  dsimp only at hf
  rw [hfo] at hf
  simp only [follow, hp, hg] at hf
  rw [if_neg (by decide)] at hf
  rw [hf]
  clear hf hl hfo hp hg
  go_enter Try.func46, Try.ntmps46
  go_wp2
  go_returns
  exact ⟨⟨_, rfl⟩, rfl⟩
set_option maxHeartbeats 2000000 in
set_option maxRecDepth 1000000 in
theorem point_z1 (s : ByteArray) (w : World) (h0 : 0 < s.size) (hs : s.size ≤ 1000) (h : 128 ≤ (s[0]'h0).toNat) (h2 : (s[0]'h0).toNat < 192) :
    Calls Try.prog 46 #[.string s] w fun e w' => PE (front s.data.toList) e ∧ w = w' := by
  have hf := front_at s h0
  have hl : lead (s[0]'h0).toNat = (0, 0) := by
    have := (s[0]'h0).toNat_lt
    unfold lead; rw [if_neg (by omega), if_neg (by omega), if_neg (by omega), if_neg (by omega)]
  rw [hl] at hf
  have hfo : fol s 0 = [] := by unfold fol; simp
  dsimp only at hf
  rw [if_neg (by omega), hfo] at hf
  simp only [follow] at hf
  rw [if_pos (.inl trivial)] at hf
  rw [hf]
  have h8 : (s[0]'h0).toNat < 256 := (s[0]'h0).toNat_lt
  clear hf hl hfo
  go_enter Try.func46, Try.ntmps46
  go_wp2
  go_returns
  exact ⟨⟨_, rfl⟩, rfl⟩
set_option maxHeartbeats 2000000 in
set_option maxRecDepth 1000000 in
theorem point_z2 (s : ByteArray) (w : World) (h0 : 0 < s.size) (hs : s.size ≤ 1000) (h : 248 ≤ (s[0]'h0).toNat) :
    Calls Try.prog 46 #[.string s] w fun e w' => PE (front s.data.toList) e ∧ w = w' := by
  have hf := front_at s h0
  have hl : lead (s[0]'h0).toNat = (0, 0) := by
    have := (s[0]'h0).toNat_lt
    unfold lead; rw [if_neg (by omega), if_neg (by omega), if_neg (by omega), if_neg (by omega)]
  rw [hl] at hf
  have hfo : fol s 0 = [] := by unfold fol; simp
  dsimp only at hf
  rw [if_neg (by omega), hfo] at hf
  simp only [follow] at hf
  rw [if_pos (.inl trivial)] at hf
  rw [hf]
  have h8 : (s[0]'h0).toNat < 256 := (s[0]'h0).toNat_lt
  clear hf hl hfo
  go_enter Try.func46, Try.ntmps46
  go_wp2
  go_returns
  exact ⟨⟨_, rfl⟩, rfl⟩
set_option maxHeartbeats 2000000 in
set_option maxRecDepth 1000000 in
theorem point_2 (s : ByteArray) (w : World) (h0 : 0 < s.size) (hs : s.size ≤ 1000) (q : Nat) (hq : q < 32) (ha : (s[0]'h0).toNat = 192 + q) :
    Calls Try.prog 46 #[.string s] w fun e w' => PE (front s.data.toList) e ∧ w = w' := by
  have hf := front_at s h0
  have hl : lead (s[0]'h0).toNat = (2, q) := by
    rw [ha]; unfold lead; rw [if_neg (by omega), if_pos (by omega)]
    exact Prod.ext rfl (by show _ = q; omega)
  rw [hl] at hf
  dsimp only at hf
  have ha' : ((s[0]'h0).toNat : Int) = 192 + (q : Int) := by omega
  clear hl ha
  by_cases hlt : s.size < 2
  · rw [if_pos hlt] at hf
    rw [hf]; clear hf
    go_enter Try.func46, Try.ntmps46
    go_wp2
    go_returns
    exact ⟨⟨_, rfl⟩, rfl⟩
  · rw [if_neg hlt] at hf
    have HF := Lib.hid hf
    clear hf
    go_enter Try.func46, Try.ntmps46
    go_wp2
    go_loop [6, 8] (fun u i => ∃ k r : Nat, i = .int .i64 k ∧ 1 ≤ k ∧ k ≤ 2 ∧ u = .int .u32 r ∧ follow (fol s k) q = some r ∧ r < 32 * 64 ^ (k - 1)) (fun _ i => 5 - (intOf i).toNat)
    case atStart => exact ⟨1, q, rfl, by omega, by omega, by first | rfl | go_num, by unfold fol; simp [follow], by simpa using hq⟩
    case round =>
      obtain ⟨k, r, rfl, hk1, hkz, rfl, hv, hvl⟩ := hrel
      have hpow : 64 ^ (k - 1) ≤ 64 ^ 1 := Nat.pow_le_pow_right (by decide) (by omega)
      have h64 : (64 : Nat) ^ 1 = 64 := by decide
      have hr4 : r < 2048 := by omega
      by_cases hk : k < 2
      · have hks : k < s.size := by omega
        have hcb : s[k].toNat < 256 := s[k].toNat_lt
        have HV := Lib.hid hv
        have HS := Lib.hid (fol_snoc s k hks hk1)
        have hpl : 64 ^ (k + 1 - 1) = 64 ^ (k - 1) * 64 := by rw [show k + 1 - 1 = (k - 1) + 1 by omega, Nat.pow_succ]
        by_cases hc : s[k].toNat / 64 = 2
        · obtain ⟨d, hd⟩ : ∃ d, s[k].toNat = 128 + d := ⟨s[k].toNat - 128, by omega⟩
          have hd64 : d < 64 := by omega
          have hdd : d = s[k].toNat % 64 := by omega
          have hc1 : (s[k].toNat : Int) = 128 + (d : Int) := by omega
          have HN : Hid (follow (fol s (k + 1)) q = some (r * 64 + d)) := by
            rw [HS.out, follow_app, HV.out]
            show follow [s[k]] r = _
            simp only [follow, if_pos hc, ← hdd]
          have HL : Hid (r * 64 + d < 32 * 64 ^ (k + 1 - 1)) := by
            rw [hpl]
            have : (r + 1) * 64 ≤ 32 * 64 ^ (k - 1) * 64 := Nat.mul_le_mul_right _ hvl
            show _ < _
            rw [Nat.mul_assoc] at this
            omega
          clear hv hvl hpl hpow h64 hc hd hdd
          go_wp2
          go_round
          case rel => exact ⟨u2, u3, .int .u32 ((r * 64 + d : Nat) : Int), .int .i64 ((k + 1 : Nat) : Int), ⟨k + 1, rfl, by omega, by omega, r * 64 + d, rfl, HN.out, HL.out⟩, rfl, rfl, by go_num, by go_num⟩
          case measure => simp [intOf]; omega
        · have HE : Hid (front s.data.toList = 0) := by
            rw [HF.out, fol_full s (k + 1) 2 (by omega) (by omega) (by omega), HS.out, follow_app, follow_app, HV.out]
            have : follow [s[k]] r = none := by simp only [follow, if_neg hc]
            simp only [Option.bind_some, this, Option.bind_none]
            first | exact rfl | exact trivial
          have hcc : s[k].toNat < 128 ∨ 191 < s[k].toNat := by omega
          clear hv hvl hpl hpow h64 hc
          rcases hcc with hcc | hcc
          · go_wp2
            go_returns
            exact ⟨⟨_, by rw [HE.out]; rfl⟩, rfl⟩
          · go_wp2
            go_returns
            exact ⟨⟨_, by rw [HE.out]; rfl⟩, rfl⟩
      · obtain rfl : k = 2 := by omega
        have hfr := HF.out
        rw [hv] at hfr
        simp only at hfr
        clear hv hvl hpow h64 hk hk1 hkz
        by_cases hA : r < 128
        · have hx : glen r ≠ 2 := by
            unfold glen; repeat' split
            all_goals omega
          rw [if_pos (.inr (.inr hx))] at hfr
          have HFR := Lib.hid hfr
          clear hfr hx
          go_wp2
          go_returns
          exact ⟨⟨_, by rw [HFR.out]; rfl⟩, rfl⟩
        · have hg : glen r = 2 := by
            unfold glen; repeat' split
            all_goals omega
          rw [hg] at hfr
          have hp : isPt r = true := by unfold isPt; simp; omega
          rw [if_neg (by rw [hp]; decide)] at hfr
          have HFR := Lib.hid hfr
          clear hfr hp hg
          go_wp2
          go_returns
          exact ⟨⟨_, by rw [HFR.out]; rfl⟩, rfl⟩
set_option maxHeartbeats 2000000 in
set_option maxRecDepth 1000000 in
theorem point_3 (s : ByteArray) (w : World) (h0 : 0 < s.size) (hs : s.size ≤ 1000) (q : Nat) (hq : q < 16) (ha : (s[0]'h0).toNat = 224 + q) :
    Calls Try.prog 46 #[.string s] w fun e w' => PE (front s.data.toList) e ∧ w = w' := by
  have hf := front_at s h0
  have hl : lead (s[0]'h0).toNat = (3, q) := by
    rw [ha]; unfold lead; rw [if_neg (by omega), if_neg (by omega), if_pos (by omega)]
    exact Prod.ext rfl (by show _ = q; omega)
  rw [hl] at hf
  dsimp only at hf
  have ha' : ((s[0]'h0).toNat : Int) = 224 + (q : Int) := by omega
  clear hl ha
  by_cases hlt : s.size < 3
  · rw [if_pos hlt] at hf
    rw [hf]; clear hf
    go_enter Try.func46, Try.ntmps46
    go_wp2
    go_returns
    exact ⟨⟨_, rfl⟩, rfl⟩
  · rw [if_neg hlt] at hf
    have HF := Lib.hid hf
    clear hf
    go_enter Try.func46, Try.ntmps46
    go_wp2
    go_loop [6, 8] (fun u i => ∃ k r : Nat, i = .int .i64 k ∧ 1 ≤ k ∧ k ≤ 3 ∧ u = .int .u32 r ∧ follow (fol s k) q = some r ∧ r < 16 * 64 ^ (k - 1)) (fun _ i => 5 - (intOf i).toNat)
    case atStart => exact ⟨1, q, rfl, by omega, by omega, by first | rfl | go_num, by unfold fol; simp [follow], by simpa using hq⟩
    case round =>
      obtain ⟨k, r, rfl, hk1, hkz, rfl, hv, hvl⟩ := hrel
      have hpow : 64 ^ (k - 1) ≤ 64 ^ 2 := Nat.pow_le_pow_right (by decide) (by omega)
      have h64 : (64 : Nat) ^ 2 = 4096 := by decide
      have hr4 : r < 65536 := by omega
      by_cases hk : k < 3
      · have hks : k < s.size := by omega
        have hcb : s[k].toNat < 256 := s[k].toNat_lt
        have HV := Lib.hid hv
        have HS := Lib.hid (fol_snoc s k hks hk1)
        have hpl : 64 ^ (k + 1 - 1) = 64 ^ (k - 1) * 64 := by rw [show k + 1 - 1 = (k - 1) + 1 by omega, Nat.pow_succ]
        by_cases hc : s[k].toNat / 64 = 2
        · obtain ⟨d, hd⟩ : ∃ d, s[k].toNat = 128 + d := ⟨s[k].toNat - 128, by omega⟩
          have hd64 : d < 64 := by omega
          have hdd : d = s[k].toNat % 64 := by omega
          have hc1 : (s[k].toNat : Int) = 128 + (d : Int) := by omega
          have HN : Hid (follow (fol s (k + 1)) q = some (r * 64 + d)) := by
            rw [HS.out, follow_app, HV.out]
            show follow [s[k]] r = _
            simp only [follow, if_pos hc, ← hdd]
          have HL : Hid (r * 64 + d < 16 * 64 ^ (k + 1 - 1)) := by
            rw [hpl]
            have : (r + 1) * 64 ≤ 16 * 64 ^ (k - 1) * 64 := Nat.mul_le_mul_right _ hvl
            show _ < _
            rw [Nat.mul_assoc] at this
            omega
          clear hv hvl hpl hpow h64 hc hd hdd
          go_wp2
          go_round
          case rel => exact ⟨u2, u3, .int .u32 ((r * 64 + d : Nat) : Int), .int .i64 ((k + 1 : Nat) : Int), ⟨k + 1, rfl, by omega, by omega, r * 64 + d, rfl, HN.out, HL.out⟩, rfl, rfl, by go_num, by go_num⟩
          case measure => simp [intOf]; omega
        · have HE : Hid (front s.data.toList = 0) := by
            rw [HF.out, fol_full s (k + 1) 3 (by omega) (by omega) (by omega), HS.out, follow_app, follow_app, HV.out]
            have : follow [s[k]] r = none := by simp only [follow, if_neg hc]
            simp only [Option.bind_some, this, Option.bind_none]
            first | exact rfl | exact trivial
          have hcc : s[k].toNat < 128 ∨ 191 < s[k].toNat := by omega
          clear hv hvl hpl hpow h64 hc
          rcases hcc with hcc | hcc
          · go_wp2
            go_returns
            exact ⟨⟨_, by rw [HE.out]; rfl⟩, rfl⟩
          · go_wp2
            go_returns
            exact ⟨⟨_, by rw [HE.out]; rfl⟩, rfl⟩
      · obtain rfl : k = 3 := by omega
        have hfr := HF.out
        rw [hv] at hfr
        simp only at hfr
        clear hv hvl hpow h64 hk hk1 hkz
        by_cases hA : r < 2048
        · have hx : glen r ≠ 3 := by
            unfold glen; repeat' split
            all_goals omega
          rw [if_pos (.inr (.inr hx))] at hfr
          have HFR := Lib.hid hfr
          clear hfr hx
          go_wp2
          go_returns
          exact ⟨⟨_, by rw [HFR.out]; rfl⟩, rfl⟩
        · have hg : glen r = 3 := by
            unfold glen; repeat' split
            all_goals omega
          rw [hg] at hfr
          by_cases hB : r < 55296
          · skip
            have hp : isPt r = true := by unfold isPt; simp; omega
            rw [if_neg (by rw [hp]; decide)] at hfr
            have HFR := Lib.hid hfr
            clear hfr hp hg
            go_wp2
            go_returns
            exact ⟨⟨_, by rw [HFR.out]; rfl⟩, rfl⟩
          · by_cases hC : r ≤ 57343
            · skip
              have hp : isPt r = false := by unfold isPt; simp; omega
              rw [if_pos (.inr (.inl hp))] at hfr
              have HFR := Lib.hid hfr
              clear hfr hp hg
              go_wp2
              go_returns
              exact ⟨⟨_, by rw [HFR.out]; rfl⟩, rfl⟩
            · skip
              have hp : isPt r = true := by unfold isPt; simp; omega
              rw [if_neg (by rw [hp]; decide)] at hfr
              have HFR := Lib.hid hfr
              clear hfr hp hg
              go_wp2
              go_returns
              exact ⟨⟨_, by rw [HFR.out]; rfl⟩, rfl⟩
set_option maxHeartbeats 2000000 in
set_option maxRecDepth 1000000 in
theorem point_4 (s : ByteArray) (w : World) (h0 : 0 < s.size) (hs : s.size ≤ 1000) (q : Nat) (hq : q < 8) (ha : (s[0]'h0).toNat = 240 + q) :
    Calls Try.prog 46 #[.string s] w fun e w' => PE (front s.data.toList) e ∧ w = w' := by
  have hf := front_at s h0
  have hl : lead (s[0]'h0).toNat = (4, q) := by
    rw [ha]; unfold lead; rw [if_neg (by omega), if_neg (by omega), if_neg (by omega), if_pos (by omega)]
    exact Prod.ext rfl (by show _ = q; omega)
  rw [hl] at hf
  dsimp only at hf
  have ha' : ((s[0]'h0).toNat : Int) = 240 + (q : Int) := by omega
  clear hl ha
  by_cases hlt : s.size < 4
  · rw [if_pos hlt] at hf
    rw [hf]; clear hf
    go_enter Try.func46, Try.ntmps46
    go_wp2
    go_returns
    exact ⟨⟨_, rfl⟩, rfl⟩
  · rw [if_neg hlt] at hf
    have HF := Lib.hid hf
    clear hf
    go_enter Try.func46, Try.ntmps46
    go_wp2
    go_loop [6, 8] (fun u i => ∃ k r : Nat, i = .int .i64 k ∧ 1 ≤ k ∧ k ≤ 4 ∧ u = .int .u32 r ∧ follow (fol s k) q = some r ∧ r < 8 * 64 ^ (k - 1)) (fun _ i => 5 - (intOf i).toNat)
    case atStart => exact ⟨1, q, rfl, by omega, by omega, by first | rfl | go_num, by unfold fol; simp [follow], by simpa using hq⟩
    case round =>
      obtain ⟨k, r, rfl, hk1, hkz, rfl, hv, hvl⟩ := hrel
      have hpow : 64 ^ (k - 1) ≤ 64 ^ 3 := Nat.pow_le_pow_right (by decide) (by omega)
      have h64 : (64 : Nat) ^ 3 = 262144 := by decide
      have hr4 : r < 2097152 := by omega
      by_cases hk : k < 4
      · have hks : k < s.size := by omega
        have hcb : s[k].toNat < 256 := s[k].toNat_lt
        have HV := Lib.hid hv
        have HS := Lib.hid (fol_snoc s k hks hk1)
        have hpl : 64 ^ (k + 1 - 1) = 64 ^ (k - 1) * 64 := by rw [show k + 1 - 1 = (k - 1) + 1 by omega, Nat.pow_succ]
        by_cases hc : s[k].toNat / 64 = 2
        · obtain ⟨d, hd⟩ : ∃ d, s[k].toNat = 128 + d := ⟨s[k].toNat - 128, by omega⟩
          have hd64 : d < 64 := by omega
          have hdd : d = s[k].toNat % 64 := by omega
          have hc1 : (s[k].toNat : Int) = 128 + (d : Int) := by omega
          have HN : Hid (follow (fol s (k + 1)) q = some (r * 64 + d)) := by
            rw [HS.out, follow_app, HV.out]
            show follow [s[k]] r = _
            simp only [follow, if_pos hc, ← hdd]
          have HL : Hid (r * 64 + d < 8 * 64 ^ (k + 1 - 1)) := by
            rw [hpl]
            have : (r + 1) * 64 ≤ 8 * 64 ^ (k - 1) * 64 := Nat.mul_le_mul_right _ hvl
            show _ < _
            rw [Nat.mul_assoc] at this
            omega
          clear hv hvl hpl hpow h64 hc hd hdd
          go_wp2
          go_round
          case rel => exact ⟨u2, u3, .int .u32 ((r * 64 + d : Nat) : Int), .int .i64 ((k + 1 : Nat) : Int), ⟨k + 1, rfl, by omega, by omega, r * 64 + d, rfl, HN.out, HL.out⟩, rfl, rfl, by go_num, by go_num⟩
          case measure => simp [intOf]; omega
        · have HE : Hid (front s.data.toList = 0) := by
            rw [HF.out, fol_full s (k + 1) 4 (by omega) (by omega) (by omega), HS.out, follow_app, follow_app, HV.out]
            have : follow [s[k]] r = none := by simp only [follow, if_neg hc]
            simp only [Option.bind_some, this, Option.bind_none]
            first | exact rfl | exact trivial
          have hcc : s[k].toNat < 128 ∨ 191 < s[k].toNat := by omega
          clear hv hvl hpl hpow h64 hc
          rcases hcc with hcc | hcc
          · go_wp2
            go_returns
            exact ⟨⟨_, by rw [HE.out]; rfl⟩, rfl⟩
          · go_wp2
            go_returns
            exact ⟨⟨_, by rw [HE.out]; rfl⟩, rfl⟩
      · obtain rfl : k = 4 := by omega
        have hfr := HF.out
        rw [hv] at hfr
        simp only at hfr
        clear hv hvl hpow h64 hk hk1 hkz
        by_cases hA : r < 65536
        · have hx : glen r ≠ 4 := by
            unfold glen; repeat' split
            all_goals omega
          rw [if_pos (.inr (.inr hx))] at hfr
          have HFR := Lib.hid hfr
          clear hfr hx
          go_wp2
          go_returns
          exact ⟨⟨_, by rw [HFR.out]; rfl⟩, rfl⟩
        · have hg : glen r = 4 := by
            unfold glen; repeat' split
            all_goals omega
          rw [hg] at hfr
          by_cases hB : r ≤ 1114111
          · skip
            have hp : isPt r = true := by unfold isPt; simp; omega
            rw [if_neg (by rw [hp]; decide)] at hfr
            have HFR := Lib.hid hfr
            clear hfr hp hg
            go_wp2
            go_returns
            exact ⟨⟨_, by rw [HFR.out]; rfl⟩, rfl⟩
          · skip
            have hp : isPt r = false := by unfold isPt; simp; omega
            rw [if_pos (.inr (.inl hp))] at hfr
            have HFR := Lib.hid hfr
            clear hfr hp hg
            go_wp2
            go_returns
            exact ⟨⟨_, by rw [HFR.out]; rfl⟩, rfl⟩
theorem point_any (s : ByteArray) (w : World) (h0 : 0 < s.size) (hs : s.size ≤ 1000) :
    Calls Try.prog 46 #[.string s] w fun e w' => PE (front s.data.toList) e ∧ w = w' := by
  have h8 := (s[0]'h0).toNat_lt
  by_cases h1 : (s[0]'h0).toNat < 128
  · exact point_1 s w h0 hs h1
  · by_cases h2 : (s[0]'h0).toNat < 192
    · exact point_z1 s w h0 hs (by omega) h2
    · by_cases h3 : (s[0]'h0).toNat < 224
      · exact point_2 s w h0 hs ((s[0]'h0).toNat - 192) (by omega) (by omega)
      · by_cases h4 : (s[0]'h0).toNat < 240
        · exact point_3 s w h0 hs ((s[0]'h0).toNat - 224) (by omega) (by omega)
        · by_cases h5 : (s[0]'h0).toNat < 248
          · exact point_4 s w h0 hs ((s[0]'h0).toNat - 240) (by omega) (by omega)
          · exact point_z2 s w h0 hs (by omega)
set_option maxHeartbeats 2000000 in
set_option maxRecDepth 1000000 in
theorem DValid_any (s : ByteArray) (w : World) (hs : s.size ≤ 1000) :
    Calls Try.prog 31 #[.string s] w fun e w' => e = .returned (.bool (valid s.data.toList)) ∧ w = w' := by
  go_enter Try.func31, Try.ntmps31
  go_wp2
  go_loop [0] (fun x => ∃ t : ByteArray, x = .string t ∧ t.size ≤ 1000 ∧ valid s.data.toList = valid t.data.toList) (fun x => match x with | .string t => t.size | _ => 0)
  case atStart => exact ⟨s, rfl, hs, rfl⟩
  case round =>
    obtain ⟨t, rfl, ht, hv⟩ := hrel
    have hl : t.data.toList.length = t.size := by simp
    have HV := Lib.hid hv
    clear hv
    by_cases h0 : 0 < t.size
    · have cF := Lib.hid (fun W => point_any t W h0 ht)
      have hle := front_le t.data.toList
      rw [hl] at hle
      by_cases hf : front t.data.toList = 0
      · rw [hf] at cF
        have HE := Lib.hid (HV.out.trans (valid_bad (by omega) hf))
        clear hf hl hle
        go_wp2_with (go_at_call 46; ((with_reducible refine (cF.out _).mono ?_); rintro e w' ⟨⟨v, rfl⟩, rfl⟩))
        go_ret
        exact ⟨by rw [HE.out]; rfl, rfl⟩
      · have hn := valid_next (l := t.data.toList) (by omega) hf
        obtain ⟨f, hff⟩ : ∃ f, f = front t.data.toList := ⟨_, rfl⟩
        rw [← hff] at cF hle hf hn
        rw [← rest_at] at hn
        have HN := Lib.hid (HV.out.trans hn)
        have hb : ((f : Int) == 0) = false := by rw [beq_eq_false_iff_ne]; omega
        clear hff hl hn
        go_wp2_with (go_at_call 46; ((with_reducible refine (cF.out _).mono ?_); rintro e w' ⟨⟨v, rfl⟩, rfl⟩))
        go_round
        case rel => exact ⟨t.extract f t.size, rfl, by rw [ByteArray.size_extract]; omega, HN.out⟩
        case measure => simp only [ByteArray.size_extract]; omega
    · have ht0 : t.data.toList = [] := List.length_eq_zero_iff.1 (by omega)
      have hvt : valid t.data.toList = true := by rw [ht0]; exact valid_nil
      have HE := Lib.hid (HV.out.trans hvt)
      clear ht0 hl hvt
      go_wp2
      go_ret
      exact ⟨by rw [HE.out]; rfl, rfl⟩
end Gl
end Go.Proofs.Ytfcpicejifolmaa
