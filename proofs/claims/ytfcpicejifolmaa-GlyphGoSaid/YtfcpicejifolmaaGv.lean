/-
  glyph.front, Valid, ended: contracts. No condition but that a text is short.
-/
import Derived.Test.YtfcpicejifolmaaGu
namespace Go.Proofs.Ytfcpicejifolmaa
open Go.ChangeShapes Go.WideShapes Go.ChangeAt Go.RowKit
namespace Gl
open Mem
set_option linter.unusedVariables false
set_option linter.unusedSimpArgs false
theorem follow_app : ∀ (a b : List UInt8) (r : Nat), follow (a ++ b) r = (follow a r).bind (follow b)
  | [], b, r => rfl
  | c :: a, b, r => by
    rw [List.cons_append, follow, follow]
    split
    · exact follow_app a b _
    · rfl
theorem lead_le (c : Nat) (hc : c < 256) : (lead c).1 ≤ 4 ∧ (lead c).2 < 128 := by
  unfold lead
  repeat' split
  all_goals (simp only; omega)
theorem or64 (r d : Nat) (hr : r < 67108864) (hd : d < 64) : bits .or .u32 ((r : Int) * 64) (d : Int) = ((r * 64 + d : Nat) : Int) := by
  have e : (r : Int) * 64 = ((r * 64 : Nat) : Int) := by omega
  rw [e, u32_or_nat _ _ (by omega) (by omega)]
  congr 1
  have h := Nat.two_pow_add_eq_or_of_lt (i := 6) (b := d) hd r
  rw [show 2 ^ 6 * r = r * 64 by omega] at h
  exact h.symm
/-- The bytes that follow, so far. -/
def fol (s : ByteArray) (k : Nat) : List UInt8 := (s.data.toList.take k).drop 1
theorem fol_snoc (s : ByteArray) (k : Nat) (h : k < s.size) (h1 : 1 ≤ k) : fol s (k + 1) = fol s k ++ [s[k]] := by
  unfold fol
  rw [List.take_succ_eq_append_getElem (by simpa using h), List.drop_append_of_le_length (by rw [List.length_take]; simp; omega)]
  rfl
theorem fol_full (s : ByteArray) (k m : Nat) (hm : m ≤ s.size) (h : k ≤ m) (h1 : 1 ≤ k) : fol s m = fol s k ++ ((s.data.toList.take m).drop k) := by
  unfold fol
  have hl : (s.data.toList.take m).length = m := by rw [List.length_take]; simp; omega
  have e1 : (s.data.toList.take m).drop 1 = ((s.data.toList.take m).take k).drop 1 ++ (s.data.toList.take m).drop k := by
    conv => lhs; rw [← List.take_append_drop k (s.data.toList.take m)]
    rw [List.drop_append_of_le_length (by rw [List.length_take]; omega)]
  rw [e1, List.take_take, Nat.min_eq_left h]
theorem front_at (s : ByteArray) (h : 0 < s.size) : front s.data.toList = if s.size < (lead (s[0]'h).toNat).1 then 0 else match follow (fol s (lead (s[0]'h).toNat).1) (lead (s[0]'h).toNat).2 with
    | none => 0
    | some r => if (lead (s[0]'h).toNat).1 = 0 ∨ isPt r = false ∨ glen r ≠ (lead (s[0]'h).toNat).1 then 0 else (lead (s[0]'h).toNat).1 := by
  obtain ⟨⟨l⟩⟩ := s
  change 0 < l.length at h
  match l, h with
  | a :: r, _ => rfl
set_option maxHeartbeats 4000000 in
set_option maxRecDepth 100000 in
theorem front_any (s : ByteArray) (w : World) (h0 : 0 < s.size) (hs : s.size ≤ 1000) :
    Calls Try.prog 45 #[.string s] w fun e w' => e = .returned (.int .i64 (front s.data.toList : Nat)) ∧ w = w' := by
  have hf := front_at s h0
  obtain ⟨a, ha⟩ : ∃ a, a = (s[0]'h0).toNat := ⟨_, rfl⟩
  have ha8 : a < 256 := by rw [ha]; exact (s[0]'h0).toNat_lt
  rw [← ha] at hf
  have hle := lead_le a ha8
  have cL := Lib.hid (fun W => lead_any a ha8 W)
  obtain ⟨z, hz⟩ : ∃ z, z = (lead a).1 := ⟨_, rfl⟩
  obtain ⟨q, hq⟩ : ∃ q, q = (lead a).2 := ⟨_, rfl⟩
  rw [← hz, ← hq] at hf hle cL
  obtain ⟨hz4, hq7⟩ := hle
  have ha' : ((s[0]'h0).toNat : Int) = (a : Int) := by rw [ha]
  have ha'' : (s[0]'h0).toNat = a := ha.symm
  clear hz hq ha
  by_cases hlt : s.size < z
  · rw [if_pos hlt] at hf
    rw [hf]; clear hf
    go_enter Try.func45, Try.ntmps45
    go_wp2_with (go_at_call 58; ((with_reducible refine (cL.out _).mono ?_); rintro e w' ⟨rfl, rfl⟩))
    go_ret
    exact ⟨rfl, rfl⟩
  · rw [if_neg hlt] at hf
    have HF := Lib.hid hf
    clear hf
    go_enter Try.func45, Try.ntmps45
    go_wp2_with (go_at_call 58; ((with_reducible refine (cL.out _).mono ?_); rintro e w' ⟨rfl, rfl⟩))
    go_loop [4, 5] (fun u i => ∃ k r : Nat, i = .int .i64 k ∧ 1 ≤ k ∧ (k ≤ z ∨ k = 1) ∧ u = .int .u32 r ∧ follow (fol s k) q = some r ∧ r < 128 * 64 ^ (k - 1)) (fun _ i => 5 - (intOf i).toNat)
    case atStart => exact ⟨1, q, rfl, by omega, .inr rfl, rfl, by unfold fol; simp [follow], by simpa using hq7⟩
    case round =>
      obtain ⟨k, r, rfl, hk1, hkz, rfl, hv, hvl⟩ := hrel
      have hk4 : k ≤ 4 := by omega
      have hpow : 64 ^ (k - 1) ≤ 64 ^ 3 := Nat.pow_le_pow_right (by decide) (by omega)
      have h64 : (64 : Nat) ^ 3 = 262144 := by decide
      have hr4 : r < 33554432 := by omega
      by_cases hk : k < z
      · have hks : k < s.size := by omega
        have hcb : s[k].toNat < 256 := s[k].toNat_lt
        have HV := Lib.hid hv
        have HS := Lib.hid (fol_snoc s k hks hk1)
        have hpl : 64 ^ (k + 1 - 1) = 64 ^ (k - 1) * 64 := by rw [show k + 1 - 1 = (k - 1) + 1 by omega, Nat.pow_succ]
        by_cases hc : s[k].toNat / 64 = 2
        · have ga := and8 s[k].toNat 6 hcb (by decide)
          rw [show ((2 ^ 6 - 1 : Nat) : Int) = 63 from rfl, show (2 : Nat) ^ 6 = 64 from rfl] at ga
          obtain ⟨d, hd⟩ : ∃ d, d = s[k].toNat % 64 := ⟨_, rfl⟩
          rw [← hd] at ga
          have hd64 : d < 64 := by omega
          have ho := or64 r d (by omega) hd64
          have hc1 : ((s[k].toNat : Int) / 64) = 2 := by omega
          have HN : Hid (follow (fol s (k + 1)) q = some (r * 64 + d)) := by
            rw [HS.out, follow_app, HV.out]
            show follow [s[k]] r = _
            simp only [follow, if_pos hc, ← hd]
          have HL : Hid (r * 64 + d < 128 * 64 ^ (k + 1 - 1)) := by
            rw [hpl]
            have : (r + 1) * 64 ≤ 128 * 64 ^ (k - 1) * 64 := Nat.mul_le_mul_right _ hvl
            show _ < _
            rw [Nat.mul_assoc] at this
            omega
          clear hv hvl hpl hpow h64 hc hd
          go_wp2
          go_round
          case rel => exact ⟨k + 1, r * 64 + d, by go_num, by omega, .inl (by omega), by go_num, HN.out, HL.out⟩
          case measure => simp [intOf]; omega
        · have HE : Hid (front s.data.toList = 0) := by
            rw [HF.out, fol_full s (k + 1) z (by omega) (by omega) (by omega), HS.out, follow_app, follow_app, HV.out]
            have : follow [s[k]] r = none := by simp only [follow, if_neg hc]
            simp only [Option.bind_some, this, Option.bind_none]
            first | exact rfl | exact trivial
          have hc1 : ((s[k].toNat : Int) / 64 != 2) = true := by rw [bne, beq_eq_false_iff_ne.2 (by omega)]; rfl
          have hc2 : ¬ (s[k].toNat : Int) / 64 = 2 := by omega
          clear hv hvl hpl hpow h64 hc
          go_wp2
          go_ret
          exact ⟨by rw [HE.out]; rfl, rfl⟩
      · have cI := Lib.hid (fun W => is_any r (by omega) W)
        have cG := Lib.hid (fun W => length_any r (by omega) W)
        by_cases hz0 : z = 0
        · subst hz0
          have HE : Hid (front s.data.toList = 0) := by
            rw [HF.out]
            split
            · exact rfl
            · rw [if_pos (.inl rfl)]; exact rfl
          clear hv hvl hpow h64 hk
          go_wp2
          go_ret
          exact ⟨by rw [HE.out]; rfl, rfl⟩
        · obtain rfl : k = z := by omega
          have hz1 : ((k : Int) == 0) = false := by rw [beq_eq_false_iff_ne]; omega
          have hfr := HF.out
          rw [hv] at hfr
          simp only at hfr
          cases hp : isPt r with
          | false =>
            rw [if_pos (.inr (.inl hp))] at hfr
            rw [hp] at cI
            have HFR := Lib.hid hfr
            clear hv hvl hpow h64 hk hfr hp
            go_wp2_with (first | (go_at_call 49; ((with_reducible refine (cI.out _).mono ?_); rintro e w' ⟨rfl, rfl⟩)) | (go_at_call 50; ((with_reducible refine (cG.out _).mono ?_); rintro e w' ⟨rfl, rfl⟩)))
            go_ret
            exact ⟨by rw [HFR.out]; rfl, rfl⟩
          | true =>
            rw [hp] at cI
            by_cases hg : glen r = k
            · rw [if_neg (by rw [hp, hg]; rintro (h | h | h) <;> first | exact hz0 h | cases h | exact h rfl)] at hfr
              have HFR := Lib.hid hfr
              rw [hg] at cG
              clear hv hvl hpow h64 hk hfr hp hg
              go_wp2_with (first | (go_at_call 49; ((with_reducible refine (cI.out _).mono ?_); rintro e w' ⟨rfl, rfl⟩)) | (go_at_call 50; ((with_reducible refine (cG.out _).mono ?_); rintro e w' ⟨rfl, rfl⟩)))
              go_ret
              exact ⟨by rw [HFR.out]; rfl, rfl⟩
            · rw [if_pos (.inr (.inr hg))] at hfr
              have HFR := Lib.hid hfr
              obtain ⟨gl, hgl⟩ : ∃ gl, gl = glen r := ⟨_, rfl⟩
              rw [← hgl] at cG hg
              have hne : ((gl : Int) != (k : Int)) = true := by rw [bne, beq_eq_false_iff_ne.2 (by omega)]; rfl
              have hne2 : ¬ (gl : Int) = (k : Int) := by omega
              clear hv hvl hpow h64 hk hfr hp hgl
              go_wp2_with (first | (go_at_call 49; ((with_reducible refine (cI.out _).mono ?_); rintro e w' ⟨rfl, rfl⟩)) | (go_at_call 50; ((with_reducible refine (cG.out _).mono ?_); rintro e w' ⟨rfl, rfl⟩)))
              go_ret
              exact ⟨by rw [HFR.out]; rfl, rfl⟩
end Gl
end Go.Proofs.Ytfcpicejifolmaa
