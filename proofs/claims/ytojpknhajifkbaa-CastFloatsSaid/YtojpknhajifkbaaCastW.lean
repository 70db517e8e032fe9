/-
  Package cast: Widen.
-/
import Derived.Test.YtojpknhajifkbaaCastD2
namespace Go.Proofs.Ytojpknhajifkbaa
open Go.ChangeShapes Go.WideShapes Go.ChangeAt Go.RowKit
namespace Cast
set_option linter.unusedVariables false

theorem e_exp (f : Nat) (h : f < 4294967296) : bits .and .u32 ((f : Int) / 8388608) 255 = ((f / 8388608 % 256 : Nat) : Int) := by
  have := u32_and_nat (f / 8388608) 255 (by omega) (by decide)
  rw [show (255 : Nat) = 2 ^ 8 - 1 from rfl, Nat.and_two_pow_sub_one_eq_mod] at this
  exact this
theorem e_frac (f : Nat) (h : f < 4294967296) : bits .and .u32 (f : Int) 8388607 = ((f % 8388608 : Nat) : Int) := by
  have := u32_and_nat f 8388607 h (by decide)
  rw [show (8388607 : Nat) = 2 ^ 23 - 1 from rfl, Nat.and_two_pow_sub_one_eq_mod] at this
  exact this
/-- The wide number of a narrow one without its sign. -/
def wm (g : Nat) : Nat :=
  if g / 8388608 = 255 then 2047 * 4503599627370496 + g % 8388608 * 536870912
  else if g / 8388608 ≠ 0 then (g / 8388608 + 896) * 4503599627370496 + g % 8388608 * 536870912
  else if g = 0 then 0
  else (873 + bitLen g) * 4503599627370496 + (g * 2 ^ (24 - bitLen g) - 8388608) * 536870912
def wd (f : Nat) : Nat := f / 2147483648 * 9223372036854775808 + wm (f % 2147483648)
theorem or3 (s E M : Nat) (X Y Z : Int) (hX : X = ((s * 9223372036854775808 : Nat) : Int)) (hY : Y = ((E * 4503599627370496 : Nat) : Int)) (hZ : Z = ((M * 536870912 : Nat) : Int)) (hs : s ≤ 1) (hE : E < 2048) (hM : M < 8388608) :
    bits .or .u64 (bits .or .u64 X Y) Z = ((s * 9223372036854775808 + (E * 4503599627370496 + M * 536870912) : Nat) : Int) := by
  rw [hX, hY, hZ, u64_or_nat _ _ (by omega) (by omega)]
  have h1 := Nat.two_pow_add_eq_or_of_lt (i := 63) (b := E * 4503599627370496) (by omega) s
  rw [show s * 9223372036854775808 = 2 ^ 63 * s by omega, ← h1, u64_or_nat _ _ (by omega) (by omega)]
  have h2 := Nat.two_pow_add_eq_or_of_lt (i := 52) (b := M * 536870912) (by omega) (2048 * s + E)
  rw [show 2 ^ 63 * s + E * 4503599627370496 = 2 ^ 52 * (2048 * s + E) by omega, ← h2]
  congr 1
  omega
theorem top_shift (m L : Nat) (h1 : 2 ^ (L - 1) ≤ m) (h2 : m < 2 ^ L) (h3 : 1 ≤ L) (h4 : L ≤ 23) : 8388608 ≤ m * 2 ^ (24 - L) ∧ m * 2 ^ (24 - L) < 16777216 := by
  constructor
  · have := Nat.mul_le_mul_right (2 ^ (24 - L)) h1
    rw [← Nat.pow_add, show L - 1 + (24 - L) = 23 by omega] at this
    exact this
  · have := Nat.mul_lt_mul_of_pos_right h2 (Nat.two_pow_pos (24 - L))
    rw [← Nat.pow_add, show L + (24 - L) = 24 by omega] at this
    exact this
theorem low_whole (m L : Nat) (h : 8388608 ≤ m * 2 ^ (24 - L) ∧ m * 2 ^ (24 - L) < 16777216) :
    IntKind.u64.wrap (bits .and .u64 (IntKind.u64.wrap ((m : Int) * 2 ^ (24 - L))) 8388607 * 536870912) = (((m * 2 ^ (24 - L) - 8388608) * 536870912 : Nat) : Int) := by
  have e : (m : Int) * 2 ^ (24 - L) = ((m * 2 ^ (24 - L) : Nat) : Int) := by simp
  rw [e]
  obtain ⟨q, hq⟩ : ∃ q, q = m * 2 ^ (24 - L) := ⟨_, rfl⟩
  rw [← hq] at h ⊢
  have h1 := u64_and_nat q 8388607 (by omega) (by decide)
  rw [show (8388607 : Nat) = 2 ^ 23 - 1 from rfl, Nat.and_two_pow_sub_one_eq_mod, show q % 2 ^ 23 = q - 8388608 by omega] at h1
  rw [wrapN q (by omega), show bits .and .u64 (q : Int) 8388607 = ((q - 8388608 : Nat) : Int) from h1, show ((q - 8388608 : Nat) : Int) * 536870912 = (((q - 8388608) * 536870912 : Nat) : Int) by omega, wrapN _ (by omega)]
set_option maxHeartbeats 1000000 in
theorem widen_parts (f s e m : Nat) (w : World) (hf : (f : Int) ≤ 4294967295) (hE : bits .and .u32 ((f : Int) / 8388608) 255 = (e : Int)) (hM : bits .and .u32 (f : Int) 8388607 = (m : Int)) (hS : (f : Int) / 2147483648 = (s : Int)) (hs : s ≤ 1) (he : e ≤ 255) (hm : m ≤ 8388607) :
    Calls Try.prog 14 #[.int .u32 (f : Int)] w fun e' w' => e' = .returned (.int .u64 (s * 9223372036854775808 + wm (e * 8388608 + m) : Nat)) ∧ w = w' := by
  have q1 : (e * 8388608 + m) / 8388608 = e := by omega
  have q2 : (e * 8388608 + m) % 8388608 = m := by omega
  by_cases h1 : e = 255
  · have hw : wm (e * 8388608 + m) = 2047 * 4503599627370496 + m * 536870912 := by unfold wm; rw [q1, q2, if_pos h1]
    rw [hw]
    have HB := Lib.hid (or3 s 2047 m _ 9218868437227405312 _ rfl rfl rfl hs (by decide) (by omega))
    subst h1
    clear hw q1 q2
    go_enter Try.func14, Try.ntmps14
    go_wp2_with fail
    go_ret
    exact ⟨ret_int HB.out, rfl⟩
  · have b1 : ((e : Int) == 255) = false := by rw [beq_eq_false_iff_ne]; omega
    by_cases h2 : e = 0
    · by_cases h3 : m = 0
      · have hw : wm (e * 8388608 + m) = 0 := by subst h2; subst h3; rfl
        rw [hw]
        subst h2
        subst h3
        clear hw q1 q2
        go_enter Try.func14, Try.ntmps14
        go_wp2_with fail
        go_ret
        exact ⟨ret_int (by omega), rfl⟩
      · have b3 : ((m : Int) == 0) = false := by rw [beq_eq_false_iff_ne]; omega
        obtain ⟨L, hL⟩ : ∃ L, L = bitLen m := ⟨_, rfl⟩
        have hg := bitLen_ge m h3
        rw [← hL] at hg
        have hL1 : 1 ≤ L := hg.2.2
        have hL2 : L ≤ 23 := by
          rcases Nat.lt_or_ge 23 L with h9 | h9
          · have : 2 ^ 23 ≤ 2 ^ (L - 1) := Nat.pow_le_pow_right (by decide) (by omega)
            omega
          · exact h9
        have hw : wm (e * 8388608 + m) = (873 + L) * 4503599627370496 + (m * 2 ^ (24 - L) - 8388608) * 536870912 := by
          unfold wm
          rw [q1, if_neg h1, if_neg (by omega), if_neg (by omega), show e * 8388608 + m = m by omega, hL]
        rw [hw]
        have ht := top_shift m L hg.1 hg.2.1 hL1 hL2
        have HB := Lib.hid (or3 s (873 + L) (m * 2 ^ (24 - L) - 8388608) _ ((897 - (24 - (L : Int))) * 4503599627370496) _ rfl (by omega) (low_whole m L ht) hs (by omega) (by omega))
        have HL := Lib.hid hL
        clear hL hw ht hg q1 q2
        subst h2
        go_enter Try.func14, Try.ntmps14
        go_wp2_with fail
        refine (len_any m _ (by omega)).mono ?_; rintro e w' ⟨rfl, rfl⟩
        rw [← HL.out]
        go_wp2_with fail
        go_ret
        exact ⟨ret_int HB.out, rfl⟩
    · have b2 : ((e : Int) != 0) = true := by rw [bne_iff_ne]; omega
      have hw : wm (e * 8388608 + m) = (e + 896) * 4503599627370496 + m * 536870912 := by unfold wm; rw [q1, q2, if_neg h1, if_pos h2]
      rw [hw]
      have HB := Lib.hid (or3 s (e + 896) m _ (((e : Int) + 1023 - 127) * 4503599627370496) _ rfl (by omega) rfl hs (by omega) (by omega))
      clear hw q1 q2
      go_enter Try.func14, Try.ntmps14
      go_wp2_with fail
      go_ret
      exact ⟨ret_int HB.out, rfl⟩
theorem widen_any (f : Nat) (w : World) (hf : f < 4294967296) :
    Calls Try.prog 14 #[.int .u32 (f : Int)] w fun e' w' => e' = .returned (.int .u64 (wd f : Nat)) ∧ w = w' := by
  have h := widen_parts f (f / 2147483648) (f / 8388608 % 256) (f % 8388608) w (by omega) (e_exp f hf) (e_frac f hf) (by omega) (by omega) (by omega) (by omega)
  have e : f / 8388608 % 256 * 8388608 + f % 8388608 = f % 2147483648 := by omega
  rw [e] at h
  exact h
end Cast
end Go.Proofs.Ytojpknhajifkbaa
