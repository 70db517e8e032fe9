/-
  Package cast: Double and Float.
-/
import Derived.Test.YtojpknhajifkbaaCastM
namespace Go.Proofs.Ytojpknhajifkbaa
open Go.ChangeShapes Go.WideShapes Go.ChangeAt Go.RowKit
namespace Cast
set_option linter.unusedVariables false

def sgn (v : Int) : Nat := if v < 0 then 1 else 0
def mag (v : Int) (f b : Nat) : Nat := if v = 0 then 0 else nr v.natAbs (Nat.log2 v.natAbs) f b
theorem mag_lt (v : Int) (f b : Nat) (h1 : -9223372036854775808 ≤ v) (h2 : v ≤ 9223372036854775807) (h : f = 52 ∧ b = 1023 ∨ f = 23 ∧ b = 127) : mag v f b < 9223372036854775808 := by
  unfold mag
  split
  · decide
  · have h0 : v.natAbs ≠ 0 := by omega
    have hl : Nat.log2 v.natAbs < 64 := (Nat.log2_lt h0).2 (by omega)
    exact nr_lt _ _ f b Nat.lt_log2_self (by omega) h
theorem mag_lt31 (v : Int) (h1 : -9223372036854775808 ≤ v) (h2 : v ≤ 9223372036854775807) : mag v 23 127 < 2147483648 := by
  unfold mag
  split
  · decide
  · have h0 : v.natAbs ≠ 0 := by omega
    have hl : Nat.log2 v.natAbs < 64 := (Nat.log2_lt h0).2 (by omega)
    have hb : v.natAbs < 2 ^ (Nat.log2 v.natAbs + 1) := Nat.lt_log2_self
    obtain ⟨m, hm⟩ : ∃ m, m = v.natAbs := ⟨_, rfl⟩
    obtain ⟨t, ht⟩ : ∃ t, t = Nat.log2 v.natAbs := ⟨_, rfl⟩
    rw [← ht] at hl hb ⊢
    rw [← hm] at hb ⊢
    unfold nr
    split
    · have := shl_lt m t 23 hb (by assumption); omega
    · have := rnd_lt m t 23 hb (by omega); omega

theorem near_zero (f b : Nat) (w : World) : Calls Try.prog 21 #[.int .i64 0, .int .i64 (f : Int), .int .i64 (b : Int)] w fun e w' => e = .returned (.int .u64 0) ∧ w = w' := by
  go_enter Try.func21, Try.ntmps21
  go_wp2_with fail
  go_ret
  exact ⟨rfl, rfl⟩
theorem near_any (v : Int) (f b : Nat) (w : World) (h1 : -9223372036854775808 ≤ v) (h2 : v ≤ 9223372036854775807) (h : f = 52 ∧ b = 1023 ∨ f = 23 ∧ b = 127) :
    Calls Try.prog 21 #[.int .i64 v, .int .i64 (f : Int), .int .i64 (b : Int)] w fun e w' => e = .returned (.int .u64 (sgn v * 9223372036854775808 + mag v f b : Nat)) ∧ w = w' := by
  by_cases hz : v = 0
  · subst hz; exact near_zero f b w
  · have h0 : v.natAbs ≠ 0 := by omega
    have hl : Nat.log2 v.natAbs < 64 := (Nat.log2_lt h0).2 (by omega)
    have hb : v.natAbs < 2 ^ (Nat.log2 v.natAbs + 1) := Nat.lt_log2_self
    have hbl : bitLen v.natAbs = Nat.log2 v.natAbs + 1 := by unfold bitLen; rw [if_neg h0]
    have hmag : mag v f b = nr v.natAbs (Nat.log2 v.natAbs) f b := by unfold mag; rw [if_neg hz]
    rw [hmag]
    by_cases hn : v < 0
    · have hs : sgn v = 1 := by unfold sgn; rw [if_pos hn]
      obtain ⟨m, hm⟩ : ∃ m, m = v.natAbs := ⟨_, rfl⟩
      obtain ⟨t, ht⟩ : ∃ t, t = Nat.log2 v.natAbs := ⟨_, rfl⟩
      rw [hs]
      rw [← ht] at hl hb hbl ⊢
      rw [← hm] at hb hbl h0 ⊢
      obtain rfl : v = -(m : Int) := by omega
      rcases h with ⟨rfl, rfl⟩ | ⟨rfl, rfl⟩
      · by_cases hf : t ≤ 52
        · exact near_neg_52_s m t w (by omega) (by omega) hbl (by omega) hb hf
        · exact near_neg_52_l m t w (by omega) (by omega) hbl (by omega) hb (by omega)
      · by_cases hf : t ≤ 23
        · exact near_neg_23_s m t w (by omega) (by omega) hbl (by omega) hb hf
        · exact near_neg_23_l m t w (by omega) (by omega) hbl (by omega) hb (by omega)
    · have hs : sgn v = 0 := by unfold sgn; rw [if_neg hn]
      obtain ⟨m, hm⟩ : ∃ m, m = v.natAbs := ⟨_, rfl⟩
      obtain ⟨t, ht⟩ : ∃ t, t = Nat.log2 v.natAbs := ⟨_, rfl⟩
      rw [hs]
      rw [← ht] at hl hb hbl ⊢
      rw [← hm] at hb hbl h0 ⊢
      obtain rfl : v = (m : Int) := by omega
      rcases h with ⟨rfl, rfl⟩ | ⟨rfl, rfl⟩
      · by_cases hf : t ≤ 52
        · exact near_pos_52_s m t w (by omega) (by omega) hbl (by omega) hb hf
        · exact near_pos_52_l m t w (by omega) (by omega) hbl (by omega) hb (by omega)
      · by_cases hf : t ≤ 23
        · exact near_pos_23_s m t w (by omega) (by omega) hbl (by omega) hb hf
        · exact near_pos_23_l m t w (by omega) (by omega) hbl (by omega) hb (by omega)

theorem double_any (v : Int) (w : World) (h1 : -9223372036854775808 ≤ v) (h2 : v ≤ 9223372036854775807) :
    Calls Try.prog 10 #[.int .i64 v] w fun e w' => e = .returned (.int .u64 (sgn v * 9223372036854775808 + mag v 52 1023 : Nat)) ∧ w = w' := by
  have hn := fun w => near_any v 52 1023 w h1 h2 (by omega)
  have HN := Lib.hid hn; clear hn h1 h2
  go_enter Try.func10, Try.ntmps10
  go_wp2_with fail
  refine (HN.out _).mono ?_; rintro e w' ⟨rfl, rfl⟩
  go_wp2_with fail
  go_ret
  exact ⟨rfl, rfl⟩
theorem sgn_le (v : Int) : sgn v ≤ 1 := by unfold sgn; split <;> omega
theorem sgn_bit (v : Int) (h1 : -9223372036854775808 ≤ v) (h2 : v ≤ 9223372036854775807) : IntKind.u64.wrap v / 9223372036854775808 % 4294967296 * 2147483648 % 4294967296 = ((sgn v * 2147483648 : Nat) : Int) := by
  rw [IntKind.wrap_u64]
  unfold sgn
  split <;> omega
theorem float_end (v : Int) (n : Nat) (hn : n < 2147483648) (h1 : -9223372036854775808 ≤ v) (h2 : v ≤ 9223372036854775807) :
    bits .or .u32 (bits .and .u64 ((sgn v : Int) * 9223372036854775808 + (n : Int)) 2147483647 % 4294967296) (IntKind.u64.wrap v / 9223372036854775808 % 4294967296 * 2147483648 % 4294967296) = ((sgn v * 2147483648 + n : Nat) : Int) := by
  have hq := sgn_le v
  have e1 : bits .and .u64 ((sgn v : Int) * 9223372036854775808 + (n : Int)) 2147483647 = (n : Int) := by
    have h := u64_and_nat (sgn v * 9223372036854775808 + n) 2147483647 (by omega) (by decide)
    have e : (sgn v * 9223372036854775808 + n) &&& 2147483647 = n := by
      have := Nat.and_two_pow_sub_one_eq_mod (sgn v * 9223372036854775808 + n) 31
      rw [show (2147483647 : Nat) = 2 ^ 31 - 1 from rfl, this]; omega
    rw [e] at h
    exact h
  rw [e1, sgn_bit v h1 h2, show (n : Int) % 4294967296 = (n : Int) by omega, u32_or_nat _ _ (by omega) (by omega), Nat.or_comm]
  have := Nat.two_pow_add_eq_or_of_lt (i := 31) (b := n) hn (sgn v)
  rw [show sgn v * 2147483648 = 2 ^ 31 * sgn v by omega, ← this]
set_option maxHeartbeats 1000000 in
theorem float_any (v : Int) (w : World) (h1 : -9223372036854775808 ≤ v) (h2 : v ≤ 9223372036854775807) :
    Calls Try.prog 12 #[.int .i64 v] w fun e w' => e = .returned (.int .u32 (sgn v * 2147483648 + mag v 23 127 : Nat)) ∧ w = w' := by
  have hn := fun w => near_any v 23 127 w h1 h2 (by omega)
  have HN := Lib.hid hn
  have H1 := Lib.hid h1
  have H2 := Lib.hid h2
  clear hn h1 h2
  go_enter Try.func12, Try.ntmps12
  go_wp2_with fail
  refine (HN.out _).mono ?_; rintro e w' ⟨rfl, rfl⟩
  go_wp2_with fail
  go_ret
  exact ⟨ret_int (float_end v (mag v 23 127) (mag_lt31 v H1.out H2.out) H1.out H2.out), rfl⟩
end Cast
end Go.Proofs.Ytojpknhajifkbaa
