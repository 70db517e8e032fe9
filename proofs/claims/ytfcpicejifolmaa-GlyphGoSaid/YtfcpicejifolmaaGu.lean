/-
  glyph.unit: its contract. No condition but that a text is short.
-/
import Derived.Test.YtfcpicejifolmaaGp
namespace Go.Proofs.Ytfcpicejifolmaa
open Go.ChangeShapes Go.WideShapes Go.ChangeAt Go.RowKit
namespace Gl
open Mem
set_option linter.unusedVariables false
set_option linter.unusedSimpArgs false
theorem hexv_lt {c d : Nat} (h : hexv c = some d) : d < 16 := by
  unfold hexv at h
  split at h
  · cases h; omega
  · split at h
    · cases h; omega
    · split at h
      · cases h; omega
      · cases h
theorem hexs_app : ∀ (a b : List UInt8) (u : Nat), hexs (a ++ b) u = (hexs a u).bind (hexs b)
  | [], b, u => rfl
  | c :: a, b, u => by
    rw [List.cons_append, hexs, hexs]
    cases hexv c.toNat with
    | none => rfl
    | some d => exact hexs_app a b _
theorem or16 (u d : Nat) (hu : u < 65536) (hd : d < 16) : bits .or .u32 ((u : Int) * 16) (d : Int) = ((u * 16 + d : Nat) : Int) := by
  have e : (u : Int) * 16 = ((u * 16 : Nat) : Int) := by omega
  rw [e, u32_or_nat _ _ (by omega) (by omega)]
  congr 1
  have h := Nat.two_pow_add_eq_or_of_lt (i := 4) (b := d) hd u
  rw [show 2 ^ 4 * u = u * 16 by omega] at h
  exact h.symm
/-- The four digits so far. -/
def seg (s : ByteArray) (k : Nat) : List UInt8 := (s.data.toList.take k).drop 2
theorem seg_snoc (s : ByteArray) (k : Nat) (h : k < s.size) (h2 : 2 ≤ k) : seg s (k + 1) = seg s k ++ [s[k]] := by
  unfold seg
  rw [List.take_succ_eq_append_getElem (by simpa using h), List.drop_append_of_le_length (by rw [List.length_take]; simp; omega)]
  rfl
theorem seg_full (s : ByteArray) (k : Nat) (h : k ≤ 6) (h2 : 2 ≤ k) : seg s 6 = seg s k ++ ((s.data.toList.take 6).drop k) := by
  unfold seg
  have e1 : (s.data.toList.take 6).drop 2 = ((s.data.toList.take 6).take k).drop 2 ++ (s.data.toList.take 6).drop k := by
    conv => lhs; rw [← List.take_append_drop k (s.data.toList.take 6)]
    by_cases hk : k ≤ (s.data.toList.take 6).length
    · rw [List.drop_append_of_le_length (by rw [List.length_take]; omega)]
    · rw [List.take_of_length_le (by omega), List.drop_of_length_le (i := k) (by omega)]; simp
  rw [e1, List.take_take, Nat.min_eq_left h]
theorem gunit_short (s : ByteArray) (h : s.size < 6) : gunit s.data.toList = none := by
  have hl : s.data.toList.length = s.size := by simp
  unfold gunit
  split
  · rename_i e; rw [e] at hl; simp only [List.length_cons] at hl; omega
  · rfl
theorem gunit_long (s : ByteArray) (h : 6 ≤ s.size) : gunit s.data.toList = if (s[0]'(by omega)).toNat = 92 ∧ (s[1]'(by omega)).toNat = 117 then hexs (seg s 6) 0 else none := by
  obtain ⟨⟨l⟩⟩ := s
  change 6 ≤ l.length at h
  match l, h with
  | a :: b :: c :: d :: e :: f :: r, _ => rfl
def uend (l : List UInt8) : Ending := match gunit l with
  | some u => .returned (.tuple #[.int .u32 (u : Int), .bool true])
  | none => .returned (.tuple #[.int .u32 0, .bool false])
theorem uend_none {l : List UInt8} (h : gunit l = none) : uend l = .returned (.tuple #[.int .u32 0, .bool false]) := by unfold uend; rw [h]
theorem uend_some {l : List UInt8} {u : Nat} (h : gunit l = some u) : uend l = .returned (.tuple #[.int .u32 (u : Int), .bool true]) := by unfold uend; rw [h]
set_option maxHeartbeats 2000000 in
set_option maxRecDepth 100000 in
theorem unit_any (s : ByteArray) (w : World) (hs : s.size ≤ 1000) :
    Calls Try.prog 56 #[.string s] w fun e w' => e = uend s.data.toList ∧ w = w' := by
  by_cases h6 : s.size < 6
  · rw [uend_none (gunit_short s h6)]
    go_enter Try.func56, Try.ntmps56
    go_wp2
    go_returns
    exact ⟨rfl, rfl⟩
  · have hg := gunit_long s (by omega)
    have hs0 : 0 < s.size := by omega
    have hs1 : 1 < s.size := by omega
    obtain ⟨a, ha⟩ : ∃ a, a = (s[0]'hs0).toNat := ⟨_, rfl⟩
    obtain ⟨b, hb⟩ : ∃ b, b = (s[1]'hs1).toNat := ⟨_, rfl⟩
    rw [← ha, ← hb] at hg
    by_cases h1 : a = 92
    · by_cases h2 : b = 117
      · rw [if_pos ⟨h1, h2⟩] at hg
        have HG := Lib.hid hg
        have e0 : (s[0]'hs0).toNat = 92 := by omega
        have e1 : (s[1]'hs1).toNat = 117 := by omega
        clear hg ha hb h1 h2
        go_enter Try.func56, Try.ntmps56
        go_wp2
        go_loop [4, 5] (fun u i => ∃ k v : Nat, i = .int .i64 k ∧ 2 ≤ k ∧ k ≤ 6 ∧ u = .int .u32 v ∧ hexs (seg s k) 0 = some v ∧ v < 16 ^ (k - 2)) (fun _ i => 6 - (intOf i).toNat)
        case atStart => exact ⟨2, 0, rfl, by omega, by omega, rfl, by unfold seg; simp [hexs], by decide⟩
        case round =>
          obtain ⟨k, v, rfl, hk2, hk6, rfl, hv, hvl⟩ := hrel
          by_cases hk : k < 6
          · have hks : k < s.size := by omega
            have hcb : s[k].toNat < 256 := s[k].toNat_lt
            have cD := Lib.hid (fun W => digit_any s[k].toNat hcb W)
            have hpow : 16 ^ (k - 2) ≤ 16 ^ 3 := Nat.pow_le_pow_right (by decide) (by omega)
            have hv4 : v < 4096 := by have h3 : (16 : Nat) ^ 3 = 4096 := by decide
                                      omega
            have HV := Lib.hid hv
            have HS := Lib.hid (seg_snoc s k hks hk2)
            have hpl : 16 ^ (k + 1 - 2) = 16 ^ (k - 2) * 16 := by rw [show k + 1 - 2 = (k - 2) + 1 by omega, Nat.pow_succ]
            cases hd : hexv s[k].toNat with
            | none =>
              rw [hd] at cD
              have HE : Hid (gunit s.data.toList = none) := by
                rw [HG.out, seg_full s (k + 1) (by omega) (by omega), HS.out, hexs_app, hexs_app, HV.out]
                show (((some v).bind (hexs [s[k]])).bind _ = none)
                simp only [Option.bind_some, hexs, hd, Option.bind_none]
              clear hv hvl hd hpl hpow
              go_wp2_with (go_at_call 60; ((with_reducible refine (cD.out _).mono ?_); rintro e w' ⟨rfl, rfl⟩))
              rw [uend_none HE.out]
              go_returns
              exact ⟨rfl, rfl⟩
            | some d =>
              rw [hd] at cD
              have hd16 := hexv_lt hd
              have ho := or16 v d (by omega) hd16
              have HN : Hid (hexs (seg s (k + 1)) 0 = some (v * 16 + d)) := by
                rw [HS.out, hexs_app, HV.out]
                show hexs [s[k]] v = _
                simp only [hexs, hd]
              have HL : Hid (v * 16 + d < 16 ^ (k + 1 - 2)) := by
                rw [hpl]
                have : (v + 1) * 16 ≤ 16 ^ (k - 2) * 16 := Nat.mul_le_mul_right _ hvl
                show _ < _
                omega
              clear hv hvl hd hpl hpow
              go_wp2_with (go_at_call 60; ((with_reducible refine (cD.out _).mono ?_); rintro e w' ⟨rfl, rfl⟩))
              go_round
              case rel => exact ⟨k + 1, v * 16 + d, by go_num, by omega, by omega, by go_num, HN.out, HL.out⟩
              case measure => simp [intOf]; omega
          · obtain rfl : k = 6 := by omega
            have HE : Hid (gunit s.data.toList = some v) := by rw [HG.out]; exact hv
            clear hv hvl
            go_wp2
            rw [uend_some HE.out]
            go_returns
            exact ⟨rfl, rfl⟩
      · rw [if_neg (by omega)] at hg
        rw [uend_none hg]
        have e0 : (s[0]'hs0).toNat = 92 := by omega
        have e1 : (((s[1]'hs1).toNat : Int) != 117) = true := by rw [bne, beq_eq_false_iff_ne.2 (by omega)]; rfl
        have f1 : ¬ ((s[1]'hs1).toNat : Int) = 117 := by omega
        clear hg ha hb h1 h2
        go_enter Try.func56, Try.ntmps56
        go_wp2
        go_returns
        exact ⟨rfl, rfl⟩
    · rw [if_neg (by omega)] at hg
      rw [uend_none hg]
      have e0 : (((s[0]'hs0).toNat : Int) != 92) = true := by rw [bne, beq_eq_false_iff_ne.2 (by omega)]; rfl
      have f0 : ¬ ((s[0]'hs0).toNat : Int) = 92 := by omega
      clear hg ha hb h1
      go_enter Try.func56, Try.ntmps56
      go_wp2
      go_returns
      exact ⟨rfl, rfl⟩
end Gl
end Go.Proofs.Ytfcpicejifolmaa
