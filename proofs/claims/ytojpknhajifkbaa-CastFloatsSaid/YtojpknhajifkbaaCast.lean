/-
  Package cast over plain numbers: contracts of its functions on whole numbers.
-/
import Derived.Test.YtojpknhajifkbaaRows
import Derived.WalkKit
import Derived.ProofKit
import Derived.OpenShut
import Derived.WalkLawsBesides
import Derived.WalkSpells
import Derived.Outline
import Derived.IntWalk
import Derived.Laws.BitsAllLaws
import Derived.Laws.BitsLemmas
import Derived.Laws.Bits64
import Derived.Lib.Hide
namespace Go.Proofs.Ytojpknhajifkbaa
open Go.ChangeShapes Go.WideShapes Go.ChangeAt Go.RowKit
namespace Cast

/-- The sign of 32 bits drawn out. -/
def sg (l : Nat) : Nat := if l < 2147483648 then l else l + 18446744069414584320
def zg (n : Nat) : Nat := if n < 9223372036854775808 then 2 * n else 2 * (18446744073709551615 - n) + 1
def uz (r : Nat) : Nat := if r % 2 = 0 then r / 2 else 18446744073709551615 - r / 2
def tr (n : Nat) : Nat := if n = 0 then 0 else 1
theorem xor_ones (a : Nat) (h : a < 18446744073709551616) : a ^^^ 18446744073709551615 = 18446744073709551615 - a := by
  have h1 := congrArg BitVec.toNat (BitVec.xor_allOnes (x := BitVec.ofNat 64 a))
  simp only [BitVec.toNat_xor, BitVec.toNat_not, BitVec.toNat_allOnes, BitVec.toNat_ofNat] at h1
  rw [Nat.mod_eq_of_lt (by simpa using h)] at h1
  exact h1
theorem sg_lt (l : Nat) (h : l < 4294967296) : sg l < 18446744073709551616 := by unfold sg; split <;> omega
theorem zg_lt (n : Nat) (h : n < 18446744073709551616) : zg n < 18446744073709551616 := by unfold zg; split <;> omega
theorem uz_lt (r : Nat) (h : r < 18446744073709551616) : uz r < 18446744073709551616 := by unfold uz; split <;> omega
theorem tr_lt (r : Nat) : tr r < 18446744073709551616 := by unfold tr; split <;> omega

theorem sg_spell (l : Int) (h0 : 0 ≤ l) (h1 : l ≤ 4294967295) : Ending.returned (.int .u64 (IntKind.u64.wrap (wrap64 (wrap32 l)))) = .returned (.int .u64 (sg l.toNat : Nat)) := by
  have : IntKind.u64.wrap (wrap64 (wrap32 l)) = (sg l.toNat : Nat) := by
    rw [IntKind.wrap_u64]
    unfold sg
    by_cases h : l < 2147483648
    · rw [if_pos (by omega)]; unfold wrap64 wrap32; omega
    · rw [if_neg (by omega)]; unfold wrap64 wrap32; omega
  rw [this]
theorem signed_any (l : Int) (w : World) (h0 : 0 ≤ l) (h1 : l ≤ 4294967295) :
    Calls Try.prog 24 #[.int .u32 l] w fun e w' => e = .returned (.int .u64 (sg l.toNat : Nat)) ∧ w = w' := by
  have H := Lib.hid (sg_spell l h0 h1)
  go_enter Try.func24, Try.ntmps24
  go_wp2
  go_ret
  exact ⟨H.out, rfl⟩
theorem truth_any (l : Int) (w : World) (h0 : 0 ≤ l) (h1 : l ≤ 18446744073709551615) :
    Calls Try.prog 25 #[.int .u64 l] w fun e w' => e = .returned (.int .u64 (tr l.toNat : Nat)) ∧ w = w' := by
  by_cases h : l = 0
  · subst h
    go_enter Try.func25, Try.ntmps25
    go_wp2
    go_ret
    exact ⟨rfl, rfl⟩
  · have ht : (l != 0) = true := by rw [bne_iff_ne]; exact h
    have H : Hid (tr l.toNat = 1) := by show tr l.toNat = 1; unfold tr; rw [if_neg (by omega)]
    clear h
    go_enter Try.func25, Try.ntmps25
    go_wp2
    go_ret
    exact ⟨by rw [H.out]; rfl, rfl⟩
theorem uz_spell (l : Int) (h0 : 0 ≤ l) (h1 : l ≤ 18446744073709551615) : Ending.returned (.int .u64 (bits .xor .u64 (l / 2) (IntKind.u64.wrap (-bits .and .u64 l 1)))) = .returned (.int .u64 (uz l.toNat : Nat)) := by
  obtain ⟨n, rfl⟩ := Int.eq_ofNat_of_zero_le h0
  have ha : bits .and .u64 (n : Int) 1 = ((n % 2 : Nat) : Int) := by
    have := u64_and_nat n 1 (by omega) (by decide)
    rw [Nat.and_one_is_mod] at this
    exact this
  have hd : (n : Int) / 2 = ((n / 2 : Nat) : Int) := by omega
  have : bits .xor .u64 ((n : Int) / 2) (IntKind.u64.wrap (-bits .and .u64 (n : Int) 1)) = (uz n : Nat) := by
    rw [ha, hd, IntKind.wrap_u64]
    unfold uz
    by_cases h : n % 2 = 0
    · rw [if_pos h, h, show (-((0 : Nat) : Int)) % 18446744073709551616 = ((0 : Nat) : Int) from rfl, u64_xor_nat _ _ (by omega) (by decide), Nat.xor_zero]
    · have h2 : n % 2 = 1 := by omega
      rw [if_neg h, h2, show (-((1 : Nat) : Int)) % 18446744073709551616 = ((18446744073709551615 : Nat) : Int) from rfl, u64_xor_nat _ _ (by omega) (by decide), xor_ones _ (by omega)]
  rw [this]; rfl
theorem unzig_any (l : Int) (w : World) (h0 : 0 ≤ l) (h1 : l ≤ 18446744073709551615) :
    Calls Try.prog 26 #[.int .u64 l] w fun e w' => e = .returned (.int .u64 (uz l.toNat : Nat)) ∧ w = w' := by
  have H := Lib.hid (uz_spell l h0 h1)
  go_enter Try.func26, Try.ntmps26
  go_wp2
  go_ret
  exact ⟨H.out, rfl⟩
theorem zg_spell (l : Int) (h0 : 0 ≤ l) (h1 : l ≤ 18446744073709551615) : Ending.returned (.int .u64 (bits .xor .u64 (IntKind.u64.wrap (l * 2)) (IntKind.u64.wrap (wrap64 l / 9223372036854775808)))) = .returned (.int .u64 (zg l.toNat : Nat)) := by
  obtain ⟨n, rfl⟩ := Int.eq_ofNat_of_zero_le h0
  have : bits .xor .u64 (IntKind.u64.wrap ((n : Int) * 2)) (IntKind.u64.wrap (wrap64 (n : Int) / 9223372036854775808)) = (zg n : Nat) := by
    unfold zg
    by_cases h : n < 9223372036854775808
    · have e1 : IntKind.u64.wrap ((n : Int) * 2) = ((2 * n : Nat) : Int) := by rw [IntKind.wrap_u64]; omega
      have e2 : IntKind.u64.wrap (wrap64 (n : Int) / 9223372036854775808) = ((0 : Nat) : Int) := by rw [IntKind.wrap_u64]; unfold wrap64; omega
      rw [if_pos h, e1, e2, u64_xor_nat _ _ (by omega) (by decide), Nat.xor_zero]
    · have e1 : IntKind.u64.wrap ((n : Int) * 2) = ((2 * n - 18446744073709551616 : Nat) : Int) := by rw [IntKind.wrap_u64]; omega
      have e2 : IntKind.u64.wrap (wrap64 (n : Int) / 9223372036854775808) = ((18446744073709551615 : Nat) : Int) := by rw [IntKind.wrap_u64]; unfold wrap64; omega
      rw [if_neg h, e1, e2, u64_xor_nat _ _ (by omega) (by decide), xor_ones _ (by omega)]
      omega
  rw [this]; rfl
theorem zig_any (l : Int) (w : World) (h0 : 0 ≤ l) (h1 : l ≤ 18446744073709551615) :
    Calls Try.prog 27 #[.int .u64 l] w fun e w' => e = .returned (.int .u64 (zg l.toNat : Nat)) ∧ w = w' := by
  have H := Lib.hid (zg_spell l h0 h1)
  go_enter Try.func27, Try.ntmps27
  go_wp2
  go_ret
  exact ⟨H.out, rfl⟩

/-- Low 32 bits. -/
theorem low32 (l : Int) (h0 : 0 ≤ l) : IntKind.u32.wrap l = ((l.toNat % 4294967296 : Nat) : Int) := by rw [IntKind.wrap_u32]; omega
theorem low32_lo (l : Int) : 0 ≤ IntKind.u32.wrap l := by rw [IntKind.wrap_u32]; omega
theorem low32_hi (l : Int) : IntKind.u32.wrap l ≤ 4294967295 := by rw [IntKind.wrap_u32]; omega

def frm (k r : Nat) : Nat :=
  if k = 3 ∨ k = 17 ∨ k = 11 then sg (r % 4294967296) else if k = 5 ∨ k = 9 ∨ k = 2 then r % 4294967296 else if k = 13 then tr r
  else if k = 7 then sg (uz (r % 4294967296) % 4294967296) else if k = 8 then uz r else r
def tow (k n : Nat) : Nat :=
  if k = 3 ∨ k = 17 then sg (n % 4294967296) else if k = 5 ∨ k = 9 ∨ k = 2 ∨ k = 11 then n % 4294967296 else if k = 13 then tr n
  else if k = 7 then zg (sg (n % 4294967296)) % 4294967296 else if k = 8 then zg n else n
theorem frm_lt (k r : Nat) (h : r < 18446744073709551616) : frm k r < 18446744073709551616 := by
  unfold frm
  repeat' split
  · exact sg_lt _ (by omega)
  · omega
  · exact tr_lt _
  · exact sg_lt _ (by omega)
  · exact uz_lt _ h
  · exact h
theorem tow_lt (k r : Nat) (h : r < 18446744073709551616) : tow k r < 18446744073709551616 := by
  unfold tow
  repeat' split
  · exact sg_lt _ (by omega)
  · omega
  · exact tr_lt _
  · omega
  · exact zg_lt _ h
  · exact h

theorem ret_int {k : IntKind} {a b : Int} (h : a = b) : Ending.returned (.int k a) = .returned (.int k b) := by rw [h]
theorem toNat_low (n : Nat) : ((n : Int) % 4294967296).toNat = n % 4294967296 := by omega
set_option maxHeartbeats 1000000 in
theorem from_any (k : Nat) (r : Nat) (w : World) (hk : k ≤ 17) (hr : (r : Int) ≤ 18446744073709551615) :
    Calls Try.prog 18 #[.int .i64 (k : Int), .int .u64 (r : Int)] w fun e w' => e = .returned (.int .u64 (frm k r : Nat)) ∧ w = w' := by
  have hl0 := low32_lo (r : Int)
  have hl1 := low32_hi (r : Int)
  have HL := Lib.hid (low32 (r : Int) (by omega))
  rcases (show k = 0 ∨ k = 1 ∨ k = 2 ∨ k = 3 ∨ k = 4 ∨ k = 5 ∨ k = 6 ∨ k = 7 ∨ k = 8 ∨ k = 9 ∨ k = 10 ∨ k = 11 ∨ k = 12 ∨ k = 13 ∨ k = 14 ∨ k = 15 ∨ k = 16 ∨ k = 17 by omega) with rfl | rfl | rfl | rfl | rfl | rfl | rfl | rfl | rfl | rfl | rfl | rfl | rfl | rfl | rfl | rfl | rfl | rfl
  all_goals
    go_enter Try.func18, Try.ntmps18
    go_wp2_with (first | (go_at_call 24; refine (signed_any _ _ (by first | assumption | exact low32_lo _) (by first | assumption | exact low32_hi _)).mono ?_; rintro e w' ⟨rfl, rfl⟩) | (go_at_call 25; refine (truth_any _ _ (by omega) (by omega)).mono ?_; rintro e w' ⟨rfl, rfl⟩) | (go_at_call 26; refine (unzig_any _ _ (by omega) (by omega)).mono ?_; rintro e w' ⟨rfl, rfl⟩))
    go_ret
  all_goals (refine ⟨ret_int ?_, rfl⟩)
  all_goals first
    | (simp [frm]; done)
    | (simp [frm, toNat_low]; done)
set_option maxHeartbeats 1000000 in
theorem to_any (k : Nat) (r : Nat) (w : World) (hk : k ≤ 17) (hr : (r : Int) ≤ 18446744073709551615) :
    Calls Try.prog 19 #[.int .i64 (k : Int), .int .u64 (r : Int)] w fun e w' => e = .returned (.int .u64 (tow k r : Nat)) ∧ w = w' := by
  have hl0 := low32_lo (r : Int)
  have hl1 := low32_hi (r : Int)
  have hsg : ((sg (r % 4294967296) : Nat) : Int) ≤ 18446744073709551615 := by have := sg_lt (r % 4294967296) (by omega); omega
  rcases (show k = 0 ∨ k = 1 ∨ k = 2 ∨ k = 3 ∨ k = 4 ∨ k = 5 ∨ k = 6 ∨ k = 7 ∨ k = 8 ∨ k = 9 ∨ k = 10 ∨ k = 11 ∨ k = 12 ∨ k = 13 ∨ k = 14 ∨ k = 15 ∨ k = 16 ∨ k = 17 by omega) with rfl | rfl | rfl | rfl | rfl | rfl | rfl | rfl | rfl | rfl | rfl | rfl | rfl | rfl | rfl | rfl | rfl | rfl
  all_goals
    go_enter Try.func19, Try.ntmps19
    go_wp2_with (first | (go_at_call 24; refine (signed_any _ _ (by first | assumption | exact low32_lo _) (by first | assumption | exact low32_hi _)).mono ?_; rintro e w' ⟨rfl, rfl⟩) | (go_at_call 25; refine (truth_any _ _ (by omega) (by omega)).mono ?_; rintro e w' ⟨rfl, rfl⟩) | (go_at_call 27; refine (zig_any _ _ (by omega) (by rw [toNat_low]; exact hsg)).mono ?_; rintro e w' ⟨rfl, rfl⟩) | (go_at_call 27; refine (zig_any _ _ (by omega) (by omega)).mono ?_; rintro e w' ⟨rfl, rfl⟩))
    go_ret
  all_goals (refine ⟨ret_int ?_, rfl⟩)
  all_goals first
    | (simp [tow]; done)
    | (simp [tow, toNat_low]; done)
end Cast
end Go.Proofs.Ytojpknhajifkbaa
