/-
  Package cast: of greater numbers the greater ones are nearest; how a number is rounded. On plain numbers.
-/
import Derived.Test.YtojpknhajifkbaaCastT
namespace Go.Proofs.Ytojpknhajifkbaa
open Go.ChangeShapes Go.WideShapes Go.ChangeAt Go.RowKit
namespace Cast
set_option linter.unusedVariables false

theorem rnd_mono (s1 s2 d : Nat) (h : s1 ≤ s2) : rnd s1 d ≤ rnd s2 d := by
  have hq : s1 / 2 ^ d ≤ s2 / 2 ^ d := Nat.div_le_div_right h
  have e1 := Nat.div_add_mod s1 (2 ^ d)
  have e2 := Nat.div_add_mod s2 (2 ^ d)
  by_cases he : s1 / 2 ^ d = s2 / 2 ^ d
  · have hr : s1 % 2 ^ d ≤ s2 % 2 ^ d := by rw [he] at e1; omega
    unfold rnd
    rw [he]
    split
    · next h1 =>
      rw [if_pos]
      · exact Nat.le_refl _
      · rcases h1 with h1 | ⟨h1, h2⟩
        · left; omega
        · by_cases h3 : s2 % 2 ^ d = 2 ^ (d - 1)
          · right; exact ⟨h3, h2⟩
          · left; omega
    · split <;> omega
  · unfold rnd
    split <;> split <;> omega
theorem nr_bounds (m t f b : Nat) (a1 : 2 ^ t ≤ m) (a2 : m < 2 ^ (t + 1)) (hb : 1 ≤ b) : (t + b) * 2 ^ f ≤ nr m t f b ∧ nr m t f b ≤ (t + b + 1) * 2 ^ f := by
  have h1 : (t + b) * 2 ^ f = (t + b - 1) * 2 ^ f + 2 ^ f := by
    rw [show t + b = (t + b - 1) + 1 by omega, Nat.add_mul, Nat.one_mul, show t + b - 1 + 1 - 1 = t + b - 1 by omega]
  have h2 : (t + b + 1) * 2 ^ f = (t + b - 1) * 2 ^ f + 2 ^ (f + 1) := by
    rw [show t + b + 1 = (t + b - 1) + 2 by omega, Nat.add_mul, Nat.pow_succ, Nat.mul_comm 2 (2 ^ f)]
  rw [h1, h2]
  unfold nr
  by_cases hf : t ≤ f
  · rw [if_pos hf]
    have l1 := Nat.mul_le_mul_right (2 ^ (f - t)) a1
    rw [← Nat.pow_add, show t + (f - t) = f by omega] at l1
    have l2 := shl_lt m t f a2 hf
    omega
  · rw [if_neg hf]
    have l2 := rnd_lt m t f a2 (by omega)
    have l1 : 2 ^ f ≤ m / 2 ^ (t - f) := by
      rw [Nat.le_div_iff_mul_le (Nat.two_pow_pos _), ← Nat.pow_add, show f + (t - f) = t by omega]; exact a1
    have l3 : m / 2 ^ (t - f) ≤ rnd m (t - f) := by unfold rnd; split <;> omega
    omega
theorem nr_mono (m1 m2 t1 t2 f b : Nat) (h : m1 ≤ m2) (a1 : 2 ^ t1 ≤ m1) (a2 : m1 < 2 ^ (t1 + 1)) (c1 : 2 ^ t2 ≤ m2) (c2 : m2 < 2 ^ (t2 + 1)) (hb : 1 ≤ b) : nr m1 t1 f b ≤ nr m2 t2 f b := by
  have ht : t1 ≤ t2 := by
    rcases Nat.lt_or_ge t2 t1 with h9 | h9
    · have : 2 ^ (t2 + 1) ≤ 2 ^ t1 := Nat.pow_le_pow_right (by decide) (by omega)
      omega
    · exact h9
  by_cases he : t1 = t2
  · subst he
    unfold nr
    by_cases hf : t1 ≤ f
    · rw [if_pos hf, if_pos hf]
      exact Nat.add_le_add_left (Nat.mul_le_mul_right _ h) _
    · rw [if_neg hf, if_neg hf]
      exact Nat.add_le_add_left (rnd_mono _ _ _ h) _
  · have b1 := (nr_bounds m1 t1 f b a1 a2 hb).2
    have b2 := (nr_bounds m2 t2 f b c1 c2 hb).1
    have b3 : (t1 + b + 1) * 2 ^ f ≤ (t2 + b) * 2 ^ f := Nat.mul_le_mul_right _ (by omega)
    omega
theorem mag_mono (x y : Nat) (f b : Nat) (h : x ≤ y) (hb : 1 ≤ b) : mag (x : Int) f b ≤ mag (y : Int) f b := by
  by_cases hx : x = 0
  · subst hx
    have : mag ((0 : Nat) : Int) f b = 0 := by unfold mag; rw [if_pos (by rfl)]
    rw [this]; exact Nat.zero_le _
  · rw [mag_of (x : Int) x _ f b (by omega) (by simp) rfl, mag_of (y : Int) y _ f b (by omega) (by simp) rfl]
    exact nr_mono x y _ _ f b h (Nat.log2_self_le hx) Nat.lt_log2_self (Nat.log2_self_le (by omega)) Nat.lt_log2_self hb
theorem sgn_nat (x : Nat) : sgn (x : Int) = 0 := by unfold sgn; rw [if_neg (by omega)]
theorem D_nat (x : Nat) : D (x : Int) = mag (x : Int) 52 1023 := by unfold D; rw [sgn_nat]; omega
theorem Fl_nat (x : Nat) : Fl (x : Int) = mag (x : Int) 23 127 := by unfold Fl; rw [sgn_nat]; omega
theorem D_mono (x y : Nat) (h : x ≤ y) : D (x : Int) ≤ D (y : Int) := by
  rw [D_nat, D_nat]; exact mag_mono x y 52 1023 h (by decide)
theorem Fl_mono (x y : Nat) (h : x ≤ y) : Fl (x : Int) ≤ Fl (y : Int) := by
  rw [Fl_nat, Fl_nat]; exact mag_mono x y 23 127 h (by decide)

/-- How much an odd number of so many bits is more than the even one ahead of it. -/
def stp (y bits : Nat) : Nat := if y % 2 = 0 then 0 else if bits = 1 then 4607182418800017408 else 2 ^ (53 - bits)
theorem D_step (y n : Nat) (hn : n = bitLen y) (h : n ≤ 53) : D (y : Int) = D ((y - y % 2 : Nat) : Int) + stp y n := by
  by_cases h2 : y % 2 = 0
  · unfold stp; rw [if_pos h2, h2]; simp
  · have hy : y ≠ 0 := by omega
    have hbl : bitLen y = Nat.log2 y + 1 := by unfold bitLen; rw [if_neg hy]
    have a1 : 2 ^ Nat.log2 y ≤ y := Nat.log2_self_le hy
    have a2 : y < 2 ^ (Nat.log2 y + 1) := Nat.lt_log2_self
    obtain ⟨t, ht⟩ : ∃ t, t = Nat.log2 y := ⟨_, rfl⟩
    rw [← ht] at hbl a1 a2
    rw [D_nat, D_nat, mag_of (y : Int) y t 52 1023 (by omega) (by simp) ht]
    unfold stp
    rw [if_neg h2]
    by_cases h1 : n = 1
    · have ht0 : t = 0 := by omega
      subst ht0
      have : y = 1 := by omega
      subst this
      rw [if_pos h1]
      decide
    · rw [if_neg h1]
      have ht1 : 1 ≤ t := by omega
      have hp : 2 ^ t = 2 * 2 ^ (t - 1) := by rw [← Nat.pow_succ']; congr 1; omega
      have hy2 : y - y % 2 ≠ 0 := by have := Nat.two_pow_pos (t - 1); omega
      have c1 : 2 ^ t ≤ y - y % 2 := by omega
      have hlog : Nat.log2 (y - y % 2) = t := (Nat.log2_eq_iff hy2).2 ⟨c1, by omega⟩
      rw [mag_of ((y - y % 2 : Nat) : Int) (y - y % 2) t 52 1023 (by omega) (by simp) hlog.symm]
      unfold nr
      rw [if_pos (by omega), if_pos (by omega), show 53 - n = 52 - t by omega]
      have : y * 2 ^ (52 - t) = (y - y % 2) * 2 ^ (52 - t) + 2 ^ (52 - t) := by
        conv => lhs; rw [show y = (y - y % 2) + 1 by omega]
        rw [Nat.add_mul, Nat.one_mul]
      omega
/-- Beyond 53 bits. -/
theorem D_round (y n k : Nat) (hn : n = bitLen y) (h : 53 < n) (h64 : n ≤ 63) (hk : k = n - 53) :
    D ((y / 2 ^ k * 2 ^ k : Nat) : Int) = (k + 1074) * 4503599627370496 + y / 2 ^ k ∧ D (y : Int) = (k + 1074) * 4503599627370496 + rnd y k := by
  have hy : y ≠ 0 := by
    rintro rfl
    have : bitLen 0 = 0 := rfl
    omega
  have hbl : bitLen y = Nat.log2 y + 1 := by unfold bitLen; rw [if_neg hy]
  have a1 : 2 ^ Nat.log2 y ≤ y := Nat.log2_self_le hy
  have a2 : y < 2 ^ (Nat.log2 y + 1) := Nat.lt_log2_self
  obtain ⟨t, ht⟩ : ∃ t, t = Nat.log2 y := ⟨_, rfl⟩
  rw [← ht] at hbl a1 a2
  have htk : t = k + 52 := by omega
  have hq : 2 ^ 52 ≤ y / 2 ^ k := by
    rw [Nat.le_div_iff_mul_le (Nat.two_pow_pos _), ← Nat.pow_add, show 52 + k = t by omega]; exact a1
  have hlow1 : 2 ^ t ≤ y / 2 ^ k * 2 ^ k := by
    have := Nat.mul_le_mul_right (2 ^ k) hq
    rw [← Nat.pow_add, show 52 + k = t by omega] at this
    exact this
  have hlow2 : y / 2 ^ k * 2 ^ k ≤ y := Nat.div_mul_le_self _ _
  have hl0 : y / 2 ^ k * 2 ^ k ≠ 0 := by have := Nat.two_pow_pos t; omega
  have hlog : Nat.log2 (y / 2 ^ k * 2 ^ k) = t := (Nat.log2_eq_iff hl0).2 ⟨hlow1, by omega⟩
  constructor
  · rw [D_nat, mag_of _ (y / 2 ^ k * 2 ^ k) t 52 1023 (by omega) (Int.natAbs_natCast _).symm hlog.symm]
    unfold nr
    rw [if_neg (by omega), show t - 52 = k by omega]
    have : rnd (y / 2 ^ k * 2 ^ k) k = y / 2 ^ k := by
      unfold rnd
      rw [Nat.mul_mod_left, Nat.mul_div_cancel _ (Nat.two_pow_pos k), if_neg]
      rintro (hh | ⟨hh, _⟩)
      · exact Nat.not_lt_zero _ hh
      · have := Nat.two_pow_pos (k - 1); omega
    rw [this]; omega
  · rw [D_nat, mag_of (y : Int) y t 52 1023 (by omega) (by simp) ht]
    unfold nr
    rw [if_neg (by omega), show t - 52 = k by omega]; omega
end Cast
end Go.Proofs.Ytojpknhajifkbaa
