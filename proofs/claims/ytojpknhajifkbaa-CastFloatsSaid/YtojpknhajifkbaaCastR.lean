/-
  Package cast: rounding, and the nearest binary number.
-/
import Derived.Test.YtojpknhajifkbaaCastN
namespace Go.Proofs.Ytojpknhajifkbaa
open Go.ChangeShapes Go.WideShapes Go.ChangeAt Go.RowKit
namespace Cast
set_option linter.unusedVariables false

/-- A number without its low bits, to the nearest, of two the even one. -/
def rnd (s d : Nat) : Nat := if 2 ^ (d - 1) < s % 2 ^ d ∨ s % 2 ^ d = 2 ^ (d - 1) ∧ s / 2 ^ d % 2 = 1 then s / 2 ^ d + 1 else s / 2 ^ d
theorem pow_lt63 (d : Nat) (h : d ≤ 63) : 2 ^ d < 18446744073709551616 := Nat.lt_of_le_of_lt (Nat.pow_le_pow_right (by decide) h) (by decide)
theorem wrapN (n : Nat) (h : n < 18446744073709551616) : IntKind.u64.wrap (n : Int) = (n : Int) := IntWalk.u64_in _ (by omega)
theorem predN (n : Nat) (h : 0 < n) : (n : Int) - 1 = ((n - 1 : Nat) : Int) := by omega
theorem e_pow (d : Nat) (h : d ≤ 63) : IntKind.u64.wrap (2 ^ d) = ((2 ^ d : Nat) : Int) := by
  have e : (2 : Int) ^ d = ((2 ^ d : Nat) : Int) := by simp
  have := pow_lt63 d h
  rw [e, wrapN _ this]
theorem e_low (s d : Nat) (hs : s < 18446744073709551616) (h : d ≤ 63) : bits .and .u64 (s : Int) (IntKind.u64.wrap (IntKind.u64.wrap (2 ^ d) - 1)) = ((s % 2 ^ d : Nat) : Int) := by
  have := pow_lt63 d h
  have hp := Nat.two_pow_pos d
  rw [e_pow d h, predN _ hp, wrapN _ (by omega), u64_and_nat _ _ hs (by omega), Nat.and_two_pow_sub_one_eq_mod]
theorem e_div (s d : Nat) : (s : Int) / 2 ^ d = ((s / 2 ^ d : Nat) : Int) := by simp
theorem e_odd (s d : Nat) (hs : s < 18446744073709551616) : bits .and .u64 ((s : Int) / 2 ^ d) 1 = ((s / 2 ^ d % 2 : Nat) : Int) := by
  have h : s / 2 ^ d < 18446744073709551616 := Nat.lt_of_le_of_lt (Nat.div_le_self _ _) hs
  have := u64_and_nat (s / 2 ^ d) 1 h (by decide)
  rw [Nat.and_one_is_mod] at this
  rw [e_div]; exact this
theorem half_le (s d : Nat) (hs : s < 18446744073709551616) (hd : 1 ≤ d) : s / 2 ^ d ≤ 9223372036854775807 := by
  have h1 : s / 2 ^ d ≤ s / 2 ^ 1 := Nat.div_le_div_left (Nat.pow_le_pow_right (by decide) hd) (by decide)
  omega
theorem e_up (s d : Nat) (hs : s < 18446744073709551616) (hd : 1 ≤ d) : IntKind.u64.wrap ((s : Int) / 2 ^ d + 1) = ((s / 2 ^ d + 1 : Nat) : Int) := by
  have := half_le s d hs hd
  rw [e_div, show ((s / 2 ^ d : Nat) : Int) + 1 = ((s / 2 ^ d + 1 : Nat) : Int) from rfl, wrapN _ (by omega)]
theorem rnd_le (s d : Nat) (hs : s < 18446744073709551616) (hd : 1 ≤ d) : rnd s d ≤ 9223372036854775808 := by
  have := half_le s d hs hd
  unfold rnd; split <;> omega
section
variable (s d : Nat) (hs : s < 18446744073709551616) (hd : 1 ≤ d) (hd2 : d ≤ 63)
include hs hd hd2
theorem r1 (h : bits .and .u64 (s : Int) (IntKind.u64.wrap (IntKind.u64.wrap (2 ^ d) - 1)) = IntKind.u64.wrap (2 ^ (d - 1))) (ho : (bits .and .u64 ((s : Int) / 2 ^ d) 1 == 1) = true) :
    Ending.returned (.int .u64 (IntKind.u64.wrap ((s : Int) / 2 ^ d + 1))) = .returned (.int .u64 (rnd s d : Nat)) := by
  rw [e_low s d hs hd2, e_pow (d - 1) (by omega)] at h
  rw [e_odd s d hs, beq_iff_eq] at ho
  have h' : s % 2 ^ d = 2 ^ (d - 1) := by exact_mod_cast h
  have ho' : s / 2 ^ d % 2 = 1 := by exact_mod_cast ho
  rw [e_up s d hs hd]
  unfold rnd; rw [if_pos (.inr ⟨h', ho'⟩)]
theorem r2 (h : bits .and .u64 (s : Int) (IntKind.u64.wrap (IntKind.u64.wrap (2 ^ d) - 1)) = IntKind.u64.wrap (2 ^ (d - 1))) (ho : (bits .and .u64 ((s : Int) / 2 ^ d) 1 == 1) = false) :
    Ending.returned (.int .u64 ((s : Int) / 2 ^ d)) = .returned (.int .u64 (rnd s d : Nat)) := by
  rw [e_low s d hs hd2, e_pow (d - 1) (by omega)] at h
  rw [e_odd s d hs, beq_eq_false_iff_ne] at ho
  have h' : s % 2 ^ d = 2 ^ (d - 1) := by exact_mod_cast h
  have ho' : ¬ s / 2 ^ d % 2 = 1 := fun e => ho (by rw [e]; rfl)
  rw [e_div]
  unfold rnd; rw [if_neg]
  rintro (h2 | ⟨_, h2⟩)
  · omega
  · exact ho' h2
theorem r3 (h : bits .and .u64 (s : Int) (IntKind.u64.wrap (IntKind.u64.wrap (2 ^ d) - 1)) ≤ IntKind.u64.wrap (2 ^ (d - 1))) (hn : ¬ bits .and .u64 (s : Int) (IntKind.u64.wrap (IntKind.u64.wrap (2 ^ d) - 1)) = IntKind.u64.wrap (2 ^ (d - 1))) :
    Ending.returned (.int .u64 ((s : Int) / 2 ^ d)) = .returned (.int .u64 (rnd s d : Nat)) := by
  rw [e_low s d hs hd2, e_pow (d - 1) (by omega)] at h hn
  have h' : s % 2 ^ d ≤ 2 ^ (d - 1) := by exact_mod_cast h
  rw [e_div]
  unfold rnd; rw [if_neg]
  rintro (h2 | ⟨h2, _⟩)
  · omega
  · exact hn (by rw [h2])
theorem r4 (h : IntKind.u64.wrap (2 ^ (d - 1)) < bits .and .u64 (s : Int) (IntKind.u64.wrap (IntKind.u64.wrap (2 ^ d) - 1))) :
    Ending.returned (.int .u64 (IntKind.u64.wrap ((s : Int) / 2 ^ d + 1))) = .returned (.int .u64 (rnd s d : Nat)) := by
  rw [e_low s d hs hd2, e_pow (d - 1) (by omega)] at h
  have h' : 2 ^ (d - 1) < s % 2 ^ d := by exact_mod_cast h
  rw [e_up s d hs hd]
  unfold rnd; rw [if_pos (.inl h')]
end
set_option maxHeartbeats 1000000 in
theorem rounded_any (s : Nat) (d : Nat) (w : World) (hs : (s : Int) ≤ 18446744073709551615) (hd : 1 ≤ d) (hd2 : d ≤ 63) : Calls Try.prog 28 #[.int .u64 (s : Int), .int .u64 (d : Int)] w fun e w' => e = .returned (.int .u64 (rnd s d : Nat)) ∧ w = w' := by
  go_enter Try.func28, Try.ntmps28
  go_wp2_with fail
  all_goals go_ret
  · exact ⟨r1 s d (by omega) hd hd2 (by assumption) (by assumption), rfl⟩
  · exact ⟨r2 s d (by omega) hd hd2 (by assumption) (by assumption), rfl⟩
  · exact ⟨r3 s d (by omega) hd hd2 (by assumption) (by assumption), rfl⟩
  · exact ⟨r4 s d (by omega) hd hd2 (by assumption), rfl⟩
end Cast
end Go.Proofs.Ytojpknhajifkbaa
