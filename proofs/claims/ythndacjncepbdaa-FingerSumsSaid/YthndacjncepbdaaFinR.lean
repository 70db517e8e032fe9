/-
  The document's answer to package finger: its fingerprint and its digits are those of the program; the law that says so.
-/
import Derived.Test.YthndacjncepbdaaFinB
namespace Go.Proofs.Ythndacjncepbdaa
open Go.ChangeShapes Go.WideShapes Go.ChangeAt Go.RowKit
namespace Fin

theorem rstep_odd (v : Nat) (h : v < 18446744073709551616) (ho : v % 2 = 1) : Value.int .u64 (bits .xor .u64 ((v : Int) / 2) 13933329357911598997) = .int .u64 (fstep v : Nat) :=
  step_odd v h (by rw [and_one v h, ho]; rfl)
theorem rstep_even (v : Nat) (ho : ¬ v % 2 = 1) : Value.int .u64 ((v : Int) / 2) = .int .u64 (fstep v : Nat) := by
  unfold fstep
  rw [if_neg ho]
  congr 1

set_option maxHeartbeats 400000 in
theorem rof_any (s : ByteArray) (w : World) (hs : s.size ≤ maxLen) :
    Calls Try.prog 17 #[.string s] w fun e w' => e = .returned (.int .u64 (finger s.data.toList)) ∧ w = w' := by
  unfold maxLen at hs
  go_enter Try.func17, Try.ntmps17
  go_wp2
  go_loop [3, 4] (fun v i => ∃ k : Nat, k ≤ s.size ∧ i = .int .i64 k ∧ v = .int .u64 (finger (s.data.toList.take k))) (fun _ i => s.size - (intOf i).toNat)
  case atStart => exact ⟨0, Nat.zero_le _, rfl, rfl⟩
  case round =>
    obtain ⟨k, hk, rfl, rfl⟩ := hrel
    by_cases hlt : k < s.size
    · have hb : (s[k].toNat : Int) < 256 := by have := s[k].toNat_lt; omega
      have hb0 : 0 ≤ (s[k].toNat : Int) := by omega
      have HN : Hid (fbyte (finger (s.data.toList.take k)) s[k] = finger (s.data.toList.take (k + 1))) := by
        rw [take_snoc s k hlt, finger_snoc]; rfl
      go_wp2
      rw [u64_xor_nat _ _ (finger_lt _) (by omega)]
      clear hb hb0
      obtain ⟨y, hy⟩ : ∃ y, y = finger (s.data.toList.take k) ^^^ s[k].toNat := ⟨_, rfl⟩
      have hyl : y < 18446744073709551616 := by
        rw [hy]; exact Nat.xor_lt_two_pow (n := 64) (finger_lt _) (by have := s[k].toNat_lt; omega)
      have HL := Lib.hid hyl; clear hyl
      rw [← hy]
      have HY : Hid (fbyte (finger (s.data.toList.take k)) s[k] = fiter 8 y) := by rw [hy]; rfl
      clear hy
      go_loop [3, 5] (fun v i => ∃ j : Nat, j ≤ 8 ∧ i = .int .i64 j ∧ v = .int .u64 (fiter j y)) (fun _ i => 8 - (intOf i).toNat)
      case atStart => exact ⟨0, Nat.zero_le _, rfl, rfl⟩
      case round =>
        obtain ⟨j, hj, rfl, rfl⟩ := hrel
        by_cases hlt : j < 8
        · have hbj : ((fiter j y : Nat) : Int) ≤ 18446744073709551615 := by have := fiter_lt j y HL.out; omega
          by_cases hodd : fiter j y % 2 = 1
          · have ht : (((fiter j y : Nat) : Int) % 2 == 1) = true := by rw [beq_iff_eq]; omega
            have HO := Lib.hid hodd; clear hodd
            go_wp2
            go_round
            case rel => exact ⟨j + 1, by omega, by go_num, rstep_odd _ (fiter_lt _ _ HL.out) HO.out⟩
            case measure => simp [intOf]; omega
          · have ht : (((fiter j y : Nat) : Int) % 2 == 1) = false := by rw [beq_eq_false_iff_ne]; omega
            have HO := Lib.hid hodd; clear hodd
            go_wp2
            go_round
            case rel => exact ⟨j + 1, by omega, by go_num, rstep_even _ HO.out⟩
            case measure => simp [intOf]; omega
        · obtain rfl : j = 8 := by omega
          go_wp2
          go_round
          case rel => exact ⟨k + 1, by omega, by go_num, by rw [← HN.out, HY.out]⟩
          case measure => simp [intOf]; omega
    · obtain rfl : k = s.size := by omega
      go_wp2
      go_ret
      exact ⟨ret_int (congrArg (fun l => ((finger l : Nat) : Int)) (List.take_of_length_le (by simp))), rfl⟩

/-- The last k digits. -/
def lows (v k : Nat) : List UInt8 := (List.range k).map fun i => hexd (v / 16 ^ (k - 1 - i) % 16)
theorem lows_succ (v k : Nat) : lows v (k + 1) = hexd (v / 16 ^ k % 16) :: lows v k := by
  simp only [lows, List.range_succ_eq_map, List.map_cons, List.map_map]
  congr 1
  apply List.map_congr_left
  intro i _
  show hexd (v / 16 ^ (k + 1 - 1 - (i + 1)) % 16) = _
  rw [show k + 1 - 1 - (i + 1) = k - 1 - i by omega]
theorem cut_one (d : Nat) (h : d < 16) : (ByteArray.mk #[48, 49, 50, 51, 52, 53, 54, 55, 56, 57, 97, 98, 99, 100, 101, 102]).extract d (d + 1) = ByteArray.mk #[hexd d] := by
  rcases (show d = 0 ∨ d = 1 ∨ d = 2 ∨ d = 3 ∨ d = 4 ∨ d = 5 ∨ d = 6 ∨ d = 7 ∨ d = 8 ∨ d = 9 ∨ d = 10 ∨ d = 11 ∨ d = 12 ∨ d = 13 ∨ d = 14 ∨ d = 15 by omega) with rfl | rfl | rfl | rfl | rfl | rfl | rfl | rfl | rfl | rfl | rfl | rfl | rfl | rfl | rfl | rfl <;> rfl
theorem lows_next (v k y : Nat) (hy : y = v / 16 ^ k) : Value.string ((ByteArray.mk #[48, 49, 50, 51, 52, 53, 54, 55, 56, 57, 97, 98, 99, 100, 101, 102]).extract (y % 16) (y % 16 + 1) ++ ByteArray.mk (lows v k).toArray) = .string ⟨(lows v (k + 1)).toArray⟩ := by
  rw [cut_one _ (Nat.mod_lt _ (by decide)), lows_succ, hy]
  congr 1
theorem quo_next (v k y : Nat) (hy : y = v / 16 ^ k) : Value.int .u64 ((y : Int) / 16) = .int .u64 (v / 16 ^ (k + 1) : Nat) := by
  rw [Nat.pow_succ, ← Nat.div_div_eq_div_mul, ← hy]
  congr 1
set_option maxHeartbeats 400000 in
theorem hex_any (v : Nat) (w : World) (hv : v < 18446744073709551616) :
    Calls Try.prog 19 #[.int .u64 v, .int .i64 16] w fun e w' => e = .returned (.string ⟨(hexs v).toArray⟩) ∧ w = w' := by
  have HV := Lib.hid hv; clear hv
  go_enter Try.func19, Try.ntmps19
  go_wp2
  go_loop [0, 5, 6] (fun x s i => ∃ k : Nat, k ≤ 16 ∧ i = .int .i64 k ∧ x = .int .u64 (v / 16 ^ k : Nat) ∧ s = .string ⟨(lows v k).toArray⟩) (fun _ _ i => 16 - (intOf i).toNat)
  case atStart => exact ⟨0, Nat.zero_le _, rfl, by simp, rfl⟩
  case round =>
    obtain ⟨k, hk, rfl, rfl, rfl⟩ := hrel
    by_cases hlt : k < 16
    · obtain ⟨y, hy⟩ : ∃ y, y = v / 16 ^ k := ⟨_, rfl⟩
      rw [← hy]
      have hyb : (y : Int) ≤ 18446744073709551615 := by have := Nat.div_le_self v (16 ^ k); have := HV.out; omega
      have HY := Lib.hid hy; clear hy
      have hll : (lows v k).length ≤ 16 := by simp [lows]; omega
      have hd0 : 0 ≤ (y : Int) % 16 := by omega
      have hd1 : (y : Int) % 16 < 16 := by omega
      go_wp2
      go_round
      case rel => exact ⟨k + 1, by omega, by go_num, quo_next v k y HY.out, lows_next v k y HY.out⟩
      case measure => simp [intOf]; omega
    · obtain rfl : k = 16 := by omega
      go_wp2
      go_ret
      exact ⟨rfl, rfl⟩

set_option maxHeartbeats 400000 in
theorem all_law (s : ByteArray) (v : Nat) (w : World) (hs : s.size ≤ maxLen) (hv : v < 18446744073709551616) :
    Calls Try.prog 6 #[.string s, .int .u64 v] w fun e w' => e = .returned (.bool true) ∧ Below w.heap.size w w' := by
  have HV := Lib.hid hv; clear hv
  have HM := Lib.hid hs
  unfold maxLen at hs
  by_cases hl : s.size ≤ 100
  · go_enter Try.func6, Try.ntmps6
    go_wp2_with (go_at_call 15; refine (begun_any _).mono ?_; rintro e w1 ⟨rfl, hb1⟩)
    go_wp2_with (first | (go_at_call 16; refine (of_any _ _ HM.out).mono ?_; rintro e w' ⟨rfl, rfl⟩) | (go_at_call 17; refine (rof_any _ _ HM.out).mono ?_; rintro e w' ⟨rfl, rfl⟩) | (go_at_call 18; refine (text_any _ _ HV.out).mono ?_; rintro e w2 ⟨rfl, hb2⟩) | (go_at_call 19; refine (hex_any _ _ HV.out).mono ?_; rintro e w' ⟨rfl, rfl⟩))
    go_ret
    exact ⟨by simp, hb1.trans (hb2.mono hb1.size)⟩
  · go_enter Try.func6, Try.ntmps6
    go_wp2_with (go_at_call 15; refine (begun_any _).mono ?_; rintro e w1 ⟨rfl, hb1⟩)
    go_ret
    exact ⟨rfl, hb1⟩
theorem all_law_wf (s : ByteArray) (a1 : Int) (w : World) (hs : s.size ≤ maxLen) (h : (Lit.int .u64 a1).wf = true) :
    Calls Try.prog 6 #[.string s, .int .u64 a1] w fun e w' => e = .returned (.bool true) ∧ Below w.heap.size w w' := by
  have hb := u64_lt h
  obtain ⟨n, rfl⟩ := Int.eq_ofNat_of_zero_le hb.1
  exact all_law s n w hs (by omega)
end Fin
end Go.Proofs.Ythndacjncepbdaa
