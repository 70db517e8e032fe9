/-
  The law CastOrder, all together.
-/
import Derived.Test.YtojpknhajifkbaaCastP0
import Derived.Test.YtojpknhajifkbaaCastP1
import Derived.Test.YtojpknhajifkbaaCastP2
import Derived.Deep.QuietTactic
import Derived.BigQuiet
import Derived.WalkSmall
namespace Go.Proofs.Ytojpknhajifkbaa
open Go.ChangeShapes Go.WideShapes Go.ChangeAt Go.RowKit
namespace Cast
set_option linter.unusedVariables false

theorem rnd_cases (y k : Nat) (hk : 1 ≤ k) (r : Nat) (hr : r = y - y / 2 ^ k * 2 ^ k) :
    (r < 2 ^ (k - 1) → rnd y k = y / 2 ^ k) ∧ (2 ^ (k - 1) < r → rnd y k = y / 2 ^ k + 1) ∧ (r = 2 ^ (k - 1) → rnd y k = y / 2 ^ k + y / 2 ^ k % 2) := by
  have e := Nat.div_add_mod y (2 ^ k)
  have hm : y % 2 ^ k = r := by rw [Nat.mul_comm] at e; omega
  unfold rnd
  rw [hm]
  refine ⟨fun h => ?_, fun h => ?_, fun h => ?_⟩
  · rw [if_neg]; rintro (h2 | ⟨h2, _⟩) <;> omega
  · rw [if_pos (.inl h)]
  · by_cases ho : y / 2 ^ k % 2 = 1
    · rw [if_pos (.inr ⟨h, ho⟩), ho]
    · rw [if_neg]
      · omega
      · rintro (h2 | ⟨_, h2⟩) <;> omega
theorem D_lt (y : Nat) (h : y ≤ 9223372036854775807) : D (y : Int) < 9223372036854775808 := by
  rw [D_nat]; exact mag_lt (y : Int) 52 1023 (by omega) (by omega) (by omega)
theorem dec_cases (y k : Nat) (L : Nat) (hL : y / 2 ^ k * 2 ^ k = L) (hk : 1 ≤ k) (hk2 : k ≤ 10) (hl : L ≤ y) (Q d : Nat)
    (d1 : y - L < 2 ^ (k - 1) → Q = d) (d2 : 2 ^ (k - 1) < y - L → Q = d + 1) (d3 : y - L = 2 ^ (k - 1) → Q = d + d % 2) :
    ((y : Int) - (L : Int) < wrap64 (2 ^ (k - 1)) → (Q : Int) = (d : Int)) ∧ (wrap64 (2 ^ (k - 1)) < (y : Int) - (L : Int) → (Q : Int) = (d : Int) + 1) ∧ (wrap64 (2 ^ (k - 1)) ≤ (y : Int) - (L : Int) → (y : Int) - (L : Int) ≤ wrap64 (2 ^ (k - 1)) → (Q : Int) = (d : Int) + (d : Int) % 2) := by
  rw [half64 k hk hk2]
  clear hL hk hk2
  generalize 2 ^ (k - 1) = p at *
  refine ⟨fun h => ?_, fun h => ?_, fun h h' => ?_⟩
  · have := d1 (by omega); omega
  · have := d2 (by omega); omega
  · have := d3 (by omega); omega
theorem db_of (q k : Nat) (hk : k ≤ 10) (hq : q < 9007199254740992) : (k + 1074) * 4503599627370496 + q ≤ 9223372036854775806 := by omega
theorem ext3 (q r h Dy Dl R k : Nat) (r2 : Dy = (k + 1074) * 4503599627370496 + R) (r1 : Dl = (k + 1074) * 4503599627370496 + q)
    (c1 : r < h → R = q) (c2 : h < r → R = q + 1) (c3 : r = h → R = q + q % 2) : (r < h → Dy = Dl) ∧ (h < r → Dy = Dl + 1) ∧ (r = h → Dy = Dl + Dl % 2) := by
  refine ⟨fun x => ?_, fun x => ?_, fun x => ?_⟩
  · rw [r2, r1, c1 x]
  · rw [r2, r1, c2 x]; omega
  · rw [r2, r1, c3 x]; omega
theorem big (a b x y n k : Nat) (w : World) (ba : (a : Int) ≤ 18446744073709551615) (bb : (b : Int) ≤ 18446744073709551615) (by' : (y : Int) ≤ 9223372036854775807) (bq : ((D (y : Int) : Nat) : Int) ≤ 9223372036854775807)
    (hab : ((a : Int) / 2 = (x : Int) ∧ (b : Int) / 2 = (y : Int)) ∨ ((a : Int) / 2 = (y : Int) ∧ (b : Int) / 2 = (x : Int) ∧ x < y)) (hxy : x ≤ y) (hn : n = bitLen y) (hk1 : 1 ≤ k) (hk10 : k ≤ 10) (hnk : n = k + 53) (hn53 : 53 < n) (hn63 : n ≤ 63) (hk : k = n - 53) (hkn : 53 + k = n) (hy0 : y ≠ 0) (m1 : D (x : Int) ≤ D (y : Int)) (m2 : Fl (x : Int) ≤ Fl (y : Int)) :
    Calls Try.prog 7 #[.int .u64 (a : Int), .int .u64 (b : Int)] w fun e w' => e = .returned (.bool true) ∧ ∃ q, w' = w.drewN q := by
  have hr := D_round y n k hn hn53 hn63 hk
  have hc := rnd_cases y k hk1 _ rfl
  have hl := Nat.div_mul_le_self y (2 ^ k)
  have l3 : y / 2 ^ k < 9007199254740992 := by
    have a2 := (bitLen_ge y hy0).2.1
    rw [Nat.div_lt_iff_lt_mul (Nat.two_pow_pos _), show (9007199254740992 : Nat) = 2 ^ 53 from rfl, ← Nat.pow_add, hkn, hn]; exact a2
  have d0 := ext3 (y / 2 ^ k) (y - y / 2 ^ k * 2 ^ k) (2 ^ (k - 1)) (D (y : Int)) (D ((y / 2 ^ k * 2 ^ k : Nat) : Int)) (rnd y k) k hr.2 hr.1 hc.1 hc.2.1 hc.2.2
  have hq := dec_cases y k _ rfl hk1 hk10 hl _ _ d0.1 d0.2.1 d0.2.2
  have db : ((D ((y / 2 ^ k * 2 ^ k : Nat) : Int) : Nat) : Int) ≤ 9223372036854775806 := by
    rw [hr.1]; exact Int.ofNat_le.2 (db_of _ k hk10 l3)
  rcases hab with ⟨h1, h2⟩ | ⟨h1, h2, h3⟩
  · exact order_l0 a b x y n k (D (x : Int)) (D (y : Int)) (Fl (x : Int)) (Fl (y : Int)) (D ((y / 2 ^ k * 2 ^ k : Nat) : Int)) w h1 h2 ba bb hxy by' hn hnk hk1 hk10 rfl rfl rfl rfl m1 m2 bq (y / 2 ^ k * 2 ^ k) rfl hl rfl db hq.1 hq.2.1 hq.2.2
  · exact order_l1 a b x y n k (D (x : Int)) (D (y : Int)) (Fl (x : Int)) (Fl (y : Int)) (D ((y / 2 ^ k * 2 ^ k : Nat) : Int)) w h1 h2 ba bb h3 by' hn hnk hk1 hk10 rfl rfl rfl rfl m1 m2 bq (y / 2 ^ k * 2 ^ k) rfl hl rfl db hq.1 hq.2.1 hq.2.2
set_option maxHeartbeats 1000000 in
theorem order_law (a b : Nat) (w : World) (ha : a ≤ 18446744073709551615) (hb : b ≤ 18446744073709551615) :
    Calls Try.prog 7 #[.int .u64 (a : Int), .int .u64 (b : Int)] w fun e w' => e = .returned (.bool true) ∧ ∃ q, w' = w.drewN q := by
  have same : ∀ {e : Ending} {w' : World}, (e = .returned (.bool true) ∧ w = w') → (e = .returned (.bool true) ∧ ∃ q, w' = w.drewN q) := fun h => ⟨h.1, 0, h.2.symm⟩
  have main : ∀ x y : Nat, x ≤ y → y ≤ 9223372036854775807 → ((a / 2 = x ∧ b / 2 = y) ∨ (a / 2 = y ∧ b / 2 = x ∧ x < y)) →
      Calls Try.prog 7 #[.int .u64 (a : Int), .int .u64 (b : Int)] w fun e w' => e = .returned (.bool true) ∧ ∃ q, w' = w.drewN q := by
    intro x y hxy hy hab
    have m1 := D_mono x y hxy
    have m2 := Fl_mono x y hxy
    have l1 := D_lt y hy
    by_cases hn : bitLen y ≤ 53
    · have hq := D_step y (bitLen y) rfl hn
      have e2 : (y : Int) - (y : Int) % 2 = ((y - y % 2 : Nat) : Int) := by omega
      have hpos : y % 2 = 1 → 1 ≤ bitLen y := fun h => (bitLen_ge y (by omega)).2.2
      rcases hab with ⟨h1, h2⟩ | ⟨h1, h2, h3⟩
      · exact (order_s0 a b x y _ _ _ _ _ _ w (by omega) (by omega) (by omega) (by omega) hxy (by omega) rfl hn rfl rfl rfl rfl (by rw [e2]) m1 m2 hq (by omega) hpos).mono fun _ _ h => same h
      · exact (order_s1 a b x y _ _ _ _ _ _ w (by omega) (by omega) (by omega) (by omega) h3 (by omega) rfl hn rfl rfl rfl rfl (by rw [e2]) m1 m2 hq (by omega) hpos).mono fun _ _ h => same h
    · have hy0 : y ≠ 0 := by
        rintro rfl
        have : bitLen 0 = 0 := rfl
        omega
      have hb2 : bitLen y ≤ 63 := by
        have := (Nat.log2_lt hy0).2 (show y < 2 ^ 63 by omega)
        unfold bitLen; rw [if_neg hy0]; omega
      obtain ⟨n, hn'⟩ : ∃ n, n = bitLen y := ⟨_, rfl⟩
      obtain ⟨k, hk⟩ : ∃ k, k = n - 53 := ⟨_, rfl⟩
      have kb : 1 ≤ k ∧ k ≤ 10 ∧ n = k + 53 ∧ 53 < n ∧ n ≤ 63 ∧ 53 + k = n := by omega
      have ba : (a : Int) ≤ 18446744073709551615 := by omega
      have bb : (b : Int) ≤ 18446744073709551615 := by omega
      have by' : (y : Int) ≤ 9223372036854775807 := by omega
      have bq : ((D (y : Int) : Nat) : Int) ≤ 9223372036854775807 := by omega
      have hab' : ((a : Int) / 2 = (x : Int) ∧ (b : Int) / 2 = (y : Int)) ∨ ((a : Int) / 2 = (y : Int) ∧ (b : Int) / 2 = (x : Int) ∧ x < y) := by omega
      exact big a b x y n k w ba bb by' bq hab' hxy hn' kb.1 kb.2.1 kb.2.2.1 kb.2.2.2.1 kb.2.2.2.2.1 hk kb.2.2.2.2.2 hy0 m1 m2
  by_cases h : b / 2 < a / 2
  · exact main (b / 2) (a / 2) (by omega) (by omega) (.inr ⟨rfl, rfl, h⟩)
  · exact main (a / 2) (b / 2) (by omega) (by omega) (.inl ⟨rfl, rfl⟩)
theorem order_law_wf (a0 a1 : Int) (w : World) (h0 : (Lit.int .u64 a0).wf = true) (h1 : (Lit.int .u64 a1).wf = true) :
    Calls Try.prog 7 #[.int .u64 a0, .int .u64 a1] w fun e w' => e = .returned (.bool true) ∧ Below w.heap.size w w' := by
  have hb := u64_lt h0
  have hc := u64_lt h1
  obtain ⟨n, rfl⟩ := Int.eq_ofNat_of_zero_le hb.1
  obtain ⟨m, rfl⟩ := Int.eq_ofNat_of_zero_le hc.1
  refine (order_law n m w (by omega) (by omega)).mono fun e w' ⟨he, q, hw⟩ => ⟨he, ?_⟩
  rw [hw]
  exact below_drewN (Below.refl _ _) q
end Cast
end Go.Proofs.Ytojpknhajifkbaa
