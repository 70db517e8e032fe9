/-
  The law CastOrder: its parts.
-/
import Derived.Test.YtojpknhajifkbaaCastO
import Derived.Deep.QuietTactic
import Derived.BigQuiet
import Derived.WalkSmall
namespace Go.Proofs.Ytojpknhajifkbaa
open Go.ChangeShapes Go.WideShapes Go.ChangeAt Go.RowKit
namespace Cast
set_option linter.unusedVariables false

theorem shr_pos (y n e : Nat) (hn : n = bitLen y) (h : e < n) : 0 < (y : Int) / 2 ^ e := by
  have hy : y ≠ 0 := by
    rintro rfl
    have : bitLen 0 = 0 := rfl
    omega
  have a := bitLen_ge y hy
  rw [← hn] at a
  have h1 : 2 ^ e ≤ y := Nat.le_trans (Nat.pow_le_pow_right (by decide) (by omega)) a.1
  have h2 : 0 < y / 2 ^ e := Nat.div_pos h1 (Nat.two_pow_pos e)
  rw [e_div]
  exact_mod_cast h2
theorem shr_nil (y n : Nat) (hn : n = bitLen y) : (y : Int) / 2 ^ n ≤ 0 := by
  have h2 : y / 2 ^ n = 0 := by
    by_cases hy : y = 0
    · subst hy; simp
    · have a := bitLen_ge y hy
      rw [← hn] at a
      exact Nat.div_eq_of_lt a.2.1
  rw [e_div, h2]; exact Int.le_refl _
set_option maxHeartbeats 1000000 in
theorem step_any (y n : Nat) (w : World) (hy : (y : Int) ≤ 9223372036854775807) (hn1 : n ≤ 53) (hn : y % 2 = 1 → 1 ≤ n) :
    Calls Try.prog 20 #[.int .i64 (y : Int), .int .i64 (n : Int)] w fun e w' => e = .returned (.int .u64 (stp y n : Nat)) ∧ w = w' := by
  by_cases h2 : y % 2 = 0
  · have hb : ((y : Int) % 2 == 0) = true := by rw [beq_iff_eq]; omega
    have H := Lib.hid (show stp y n = 0 by unfold stp; rw [if_pos h2])
    clear h2 hn
    go_enter Try.func20, Try.ntmps20
    go_wp2_with fail
    go_ret
    exact ⟨by rw [H.out]; rfl, rfl⟩
  · have hb : ((y : Int) % 2 == 0) = false := by rw [beq_eq_false_iff_ne]; omega
    have hn0 := hn (by omega)
    by_cases h1 : n = 1
    · have H := Lib.hid (show stp y 1 = 4607182418800017408 by unfold stp; rw [if_neg h2, if_pos rfl])
      subst h1
      clear h2 hn
      go_enter Try.func20, Try.ntmps20
      go_wp2_with fail
      go_ret
      exact ⟨by rw [H.out]; rfl, rfl⟩
    · have hb1 : ((n : Int) == 1) = false := by rw [beq_eq_false_iff_ne]; omega
      have H := Lib.hid (show stp y n = 2 ^ (53 - n) by unfold stp; rw [if_neg h2, if_neg h1])
      have HP := Lib.hid (e_pow (53 - n) (by omega))
      clear h2 hn h1
      go_enter Try.func20, Try.ntmps20
      go_wp2_with fail
      go_ret
      exact ⟨ret_int (by rw [H.out]; exact HP.out), rfl⟩
theorem half64 (k : Nat) (h : 1 ≤ k) (h2 : k ≤ 10) : wrap64 (2 ^ (k - 1)) = ((2 ^ (k - 1) : Nat) : Int) := by
  have e : (2 : Int) ^ (k - 1) = ((2 ^ (k - 1) : Nat) : Int) := by simp
  have l : 2 ^ (k - 1) ≤ 2 ^ 9 := Nat.pow_le_pow_right (by decide) (by omega)
  rw [e]
  obtain ⟨p, hp⟩ : ∃ p, p = 2 ^ (k - 1) := ⟨_, rfl⟩
  rw [← hp] at l ⊢
  unfold wrap64; omega
end Cast
end Go.Proofs.Ytojpknhajifkbaa
