/-
  Numbers of seven bits a byte, over plain lists: how they are written and read. No condition.
-/
import Derived.Test.YtniogjgfomaicaaRows
import Derived.WalkKit
import Derived.ProofKit
import Derived.OpenShut
import Derived.ShutString
import Derived.WalkLawsBesides
import Derived.WalkSpells
import Derived.Outline
import Derived.Laws.BitsAllLaws
import Derived.Laws.Bits64
import Derived.Lib.Hide
import Derived.Lib.SlBytesRow
namespace Go.Proofs.Ytniogjgfomaicaa
open Go.ChangeShapes Go.WideShapes Go.ChangeAt Go.RowKit
namespace Rv
set_option linter.unusedVariables false
set_option linter.unusedSimpArgs false
theorem ret_int {k : IntKind} {a b : Int} (h : a = b) : Ending.returned (.int k a) = .returned (.int k b) := by rw [h]
/-- How a number is written. -/
def venc (v : Nat) : List UInt8 :=
  if h : v < 128 then [UInt8.ofNat v] else UInt8.ofNat (v % 128 + 128) :: venc (v / 128)
termination_by v
decreasing_by omega
theorem venc_lt {v : Nat} (h : v < 128) : venc v = [UInt8.ofNat v] := by rw [venc, dif_pos h]
theorem venc_ge {v : Nat} (h : 128 ≤ v) : venc v = UInt8.ofNat (v % 128 + 128) :: venc (v / 128) := by rw [venc, dif_neg (by omega)]
/-- How a number is read: from the i-th byte on. -/
def vdec : List UInt8 → Nat → Nat → Option (Nat × Nat)
  | [], _, _ => none
  | c :: r, i, acc =>
    if 10 ≤ i then none else if i = 9 ∧ 1 < c.toNat % 128 then none
    else if c.toNat < 128 then some (acc + c.toNat % 128 * 2 ^ (7 * i), i + 1) else vdec r (i + 1) (acc + c.toNat % 128 * 2 ^ (7 * i))
theorem vdec_ten (l : List UInt8) (i acc : Nat) (h : 10 ≤ i) : vdec l i acc = none := by
  cases l with
  | nil => rfl
  | cons c r => rw [vdec, if_pos h]
def vval (l : List UInt8) : Nat := ((vdec l 0 0).getD (0, 0)).1
def vlen (l : List UInt8) : Nat := ((vdec l 0 0).getD (0, 0)).2
def verr (l : List UInt8) : Nat := if (vdec l 0 0).isSome then 0 else 2
def vend (l : List UInt8) : Ending := .returned (.tuple #[.int .u64 (vval l : Nat), .int .i64 (vlen l : Nat), .int .i64 (verr l : Nat)])
theorem vend_some {l : List UInt8} {v n : Nat} (h : vdec l 0 0 = some (v, n)) : vend l = .returned (.tuple #[.int .u64 (v : Int), .int .i64 (n : Int), .int .i64 0]) := by
  simp [vend, vval, vlen, verr, h]
theorem vend_none {l : List UInt8} (h : vdec l 0 0 = none) : vend l = .returned (.tuple #[.int .u64 0, .int .i64 0, .int .i64 2]) := by
  simp [vend, vval, vlen, verr, h]
theorem drop_at (s : ByteArray) (k : Nat) (h : k < s.size) : s.data.toList.drop k = s[k] :: s.data.toList.drop (k + 1) := by
  rw [List.drop_eq_getElem_cons (by simpa using h)]; rfl
/-- What stands behind the k first bytes. -/
structure At (s : ByteArray) (k acc : Nat) : Prop where
  le : k ≤ s.size
  ten : k ≤ 10
  lt : acc < 2 ^ (7 * k)
  lt64 : acc < 18446744073709551616
  eq : vdec (s.data.toList.drop k) k acc = vdec s.data.toList 0 0
theorem At.start (s : ByteArray) : At s 0 0 := ⟨Nat.zero_le _, Nat.zero_le _, by simp, by decide, rfl⟩
theorem At.stop {s : ByteArray} {k acc : Nat} (a : At s k acc) (h : k = s.size ∨ k = 10) : vdec s.data.toList 0 0 = none := by
  rw [← a.eq]
  rcases h with h | h
  · rw [h, List.drop_of_length_le (by simp)]; rfl
  · exact vdec_ten _ _ _ (by omega)
theorem At.bad {s : ByteArray} {k acc : Nat} (a : At s k acc) (hk : k < s.size) (h9 : k = 9) (hc : 1 < s[k].toNat % 128) : vdec s.data.toList 0 0 = none := by
  rw [← a.eq, drop_at s k hk, vdec, if_neg (by omega), if_pos ⟨h9, hc⟩]
/-- A tenth byte that is greater than one. -/
theorem At.bad2 {s : ByteArray} {k acc : Nat} (a : At s k acc) (hk : k < s.size) (h9 : k = 9) (hc : 1 < s[k].toNat) : vdec s.data.toList 0 0 = none := by
  by_cases h : 1 < s[k].toNat % 128
  · exact a.bad hk h9 h
  · rw [← a.eq, drop_at s k hk, vdec, if_neg (by omega), if_neg (by omega), if_neg (by omega)]
    exact vdec_ten _ _ _ (by omega)
theorem At.hit {s : ByteArray} {k acc : Nat} (a : At s k acc) (hk : k < s.size) (h10 : k < 10) (h9 : ¬ (k = 9 ∧ 1 < s[k].toNat % 128)) (hc : s[k].toNat < 128) : vdec s.data.toList 0 0 = some (acc + s[k].toNat % 128 * 2 ^ (7 * k), k + 1) := by
  rw [← a.eq, drop_at s k hk, vdec, if_neg (by omega), if_neg h9, if_pos hc]
theorem pow7 (k : Nat) : 2 ^ (7 * (k + 1)) = 128 * 2 ^ (7 * k) := by
  rw [show 7 * (k + 1) = 7 + 7 * k by omega, Nat.pow_add]
theorem group_lt {k g : Nat} (h10 : k < 10) (hg : g < 128) (h9 : ¬ (k = 9 ∧ 1 < g)) : g * 2 ^ (7 * k) + 2 ^ (7 * k) ≤ 18446744073709551616 := by
  rcases (show k = 0 ∨ k = 1 ∨ k = 2 ∨ k = 3 ∨ k = 4 ∨ k = 5 ∨ k = 6 ∨ k = 7 ∨ k = 8 ∨ k = 9 by omega) with rfl | rfl | rfl | rfl | rfl | rfl | rfl | rfl | rfl | rfl <;> simp only [Nat.reduceMul, Nat.reducePow] <;> omega
theorem At.next {s : ByteArray} {k acc : Nat} (a : At s k acc) (hk : k < s.size) (h10 : k < 10) (h9 : ¬ (k = 9 ∧ 1 < s[k].toNat % 128)) (hc : ¬ s[k].toNat < 128) : At s (k + 1) (acc + s[k].toNat % 128 * 2 ^ (7 * k)) := by
  have hg : s[k].toNat % 128 < 128 := Nat.mod_lt _ (by decide)
  have h1 := group_lt h10 hg h9
  have h2 := a.lt
  refine ⟨by omega, by omega, ?_, by omega, ?_⟩
  · rw [pow7]
    have : s[k].toNat % 128 * 2 ^ (7 * k) ≤ 127 * 2 ^ (7 * k) := Nat.mul_le_mul_right _ (by omega)
    omega
  · rw [← a.eq, drop_at s k hk]
    conv => rhs; rw [vdec, if_neg (by omega), if_neg h9, if_neg hc]
theorem wrap64n (N : Nat) (h : N < 18446744073709551616) : IntKind.u64.wrap (N : Int) = (N : Int) := by
  rw [IntKind.wrap_u64]; omega
/-- What 'v |= group << (7 * i)' comes to. -/
theorem or_group {k acc g : Nat} (h10 : k < 10) (hg : g < 128) (h9 : ¬ (k = 9 ∧ 1 < g)) (ha : acc < 2 ^ (7 * k)) : bits .or .u64 (acc : Int) (IntKind.u64.wrap ((g : Int) * 2 ^ (7 * k))) = ((acc + g * 2 ^ (7 * k) : Nat) : Int) := by
  have h1 := group_lt h10 hg h9
  have hp : 0 < 2 ^ (7 * k) := Nat.two_pow_pos _
  have e1 : (g : Int) * 2 ^ (7 * k) = ((g * 2 ^ (7 * k) : Nat) : Int) := by simp
  have e2 : IntKind.u64.wrap ((g : Int) * 2 ^ (7 * k)) = ((g * 2 ^ (7 * k) : Nat) : Int) := by
    rw [e1]; exact wrap64n _ (by omega)
  rw [e2, u64_or_nat _ _ (by omega) (by omega)]
  congr 1
  rw [Nat.or_comm, Nat.mul_comm, ← Nat.two_pow_add_eq_or_of_lt ha, Nat.add_comm]
theorem or_group' {k acc : Nat} {c : UInt8} (h10 : k < 10) (h9 : ¬ (k = 9 ∧ 1 < c.toNat % 128)) (ha : acc < 2 ^ (7 * k)) : bits .or .u64 (acc : Int) (IntKind.u64.wrap ((c.toNat : Int) % 128 * 2 ^ (7 * k))) = ((acc + c.toNat % 128 * 2 ^ (7 * k) : Nat) : Int) := by
  rw [show (c.toNat : Int) % 128 = ((c.toNat % 128 : Nat) : Int) by omega]
  exact or_group h10 (Nat.mod_lt _ (by decide)) h9 ha
theorem or_nine {acc : Nat} {c : UInt8} (h9 : ¬ 1 < c.toNat % 128) (ha : acc < 2 ^ (7 * 9)) : bits .or .u64 (acc : Int) ((c.toNat : Int) % 128 * 9223372036854775808) = ((acc + c.toNat % 128 * 2 ^ (7 * 9) : Nat) : Int) := by
  rw [← or_group' (by decide) (by omega) ha, IntKind.wrap_u64]
  congr 1
  have : (2 : Int) ^ (7 * 9) = 9223372036854775808 := by decide
  rw [this]; omega
theorem and127 (c : UInt8) : bits .and .u8 (c.toNat : Int) 127 = ((c.toNat % 128 : Nat) : Int) := by
  have := u8_and_nat c.toNat 127 c.toNat_lt (by decide)
  rw [show c.toNat &&& 127 = c.toNat % 128 from Nat.and_two_pow_sub_one_eq_mod _ 7] at this
  exact this
end Rv
end Go.Proofs.Ytniogjgfomaicaa
