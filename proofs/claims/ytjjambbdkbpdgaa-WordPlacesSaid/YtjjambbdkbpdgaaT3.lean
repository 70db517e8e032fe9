/-
  What the functions do: contracts, and their questions answered. No condition but what its theorems ask.
-/
import Derived.Test.YtjjambbdkbpdgaaT2
namespace Go.Proofs.Ytjjambbdkbpdgaa.Wd
open Go.Proofs.Ytjjambbdkbpdgaa.Eng Go.Proofs.Ytjjambbdkbpdgaa.Sen Go.RowKit
set_option linter.unusedVariables false
set_option linter.unusedSimpArgs false
set_option maxRecDepth 1000000
theorem wrap8 (x : Int) : IntKind.u8.wrap x = x % 256 := by
  unfold IntKind.wrap; simp [IntKind.bits, IntKind.signed]
theorem starts_eq (s : ByteArray) (i : Int) (t : ByteArray) : askF P (fun _ => none) Go.Proofs.Try.f30 cStarts (fun _ => {}) ⟨s, i, t⟩ = ((0 : Int) ≤ i ∧ i ≤ (↑(ByteArray.size s) : Int) ∧ ByteArray.size s < (100000 : Nat) ∧ ByteArray.size t < (1000 : Nat) → ((-9223372036854775808 : Int) ≤ i + (↑(ByteArray.size t) : Int) ∧ i + (↑(ByteArray.size t) : Int) ≤ (9223372036854775807 : Int)) ∧ (decide (i + (↑(ByteArray.size t) : Int) ≤ (↑(ByteArray.size s) : Int)) = true → decide (i + (↑(ByteArray.size t) : Int) ≤ (↑(ByteArray.size s) : Int)) = decide (i + (↑(ByteArray.size t) : Int) ≤ (↑(ByteArray.size s) : Int)) ∧ decide (i + (↑(ByteArray.size t) : Int) ≤ (↑(ByteArray.size s) : Int)) = decide (i + (↑(ByteArray.size t) : Int) ≤ (↑(ByteArray.size s) : Int)) ∧ decide (i + (↑(ByteArray.size t) : Int) ≤ (↑(ByteArray.size s) : Int)) = decide (i + (↑(ByteArray.size t) : Int) ≤ (↑(ByteArray.size s) : Int)) ∧ decide (i + (↑(ByteArray.size t) : Int) ≤ (↑(ByteArray.size s) : Int)) = decide (i + (↑(ByteArray.size t) : Int) ≤ (↑(ByteArray.size s) : Int)) ∧ decide (i + (↑(ByteArray.size t) : Int) ≤ (↑(ByteArray.size s) : Int)) = decide (i + (↑(ByteArray.size t) : Int) ≤ (↑(ByteArray.size s) : Int)) ∧ decide (i + (↑(ByteArray.size t) : Int) ≤ (↑(ByteArray.size s) : Int)) = decide (i + (↑(ByteArray.size t) : Int) ≤ (↑(ByteArray.size s) : Int)) ∧ decide (i + (↑(ByteArray.size t) : Int) ≤ (↑(ByteArray.size s) : Int)) = decide (i + (↑(ByteArray.size t) : Int) ≤ (↑(ByteArray.size s) : Int)) ∧ decide (i + (↑(ByteArray.size t) : Int) ≤ (↑(ByteArray.size s) : Int)) = decide (i + (↑(ByteArray.size t) : Int) ≤ (↑(ByteArray.size s) : Int)) ∧ decide (i + (↑(ByteArray.size t) : Int) ≤ (↑(ByteArray.size s) : Int)) = decide (i + (↑(ByteArray.size t) : Int) ≤ (↑(ByteArray.size s) : Int)) ∧ decide (i + (↑(ByteArray.size t) : Int) ≤ (↑(ByteArray.size s) : Int)) = decide (i + (↑(ByteArray.size t) : Int) ≤ (↑(ByteArray.size s) : Int)) ∧ decide (i + (↑(ByteArray.size t) : Int) ≤ (↑(ByteArray.size s) : Int)) = decide (i + (↑(ByteArray.size t) : Int) ≤ (↑(ByteArray.size s) : Int)) ∧ decide (i + (↑(ByteArray.size t) : Int) ≤ (↑(ByteArray.size s) : Int)) = decide (i + (↑(ByteArray.size t) : Int) ≤ (↑(ByteArray.size s) : Int)) ∧ decide (i + (↑(ByteArray.size t) : Int) ≤ (↑(ByteArray.size s) : Int)) = decide (i + (↑(ByteArray.size t) : Int) ≤ (↑(ByteArray.size s) : Int)) ∧ decide (i + (↑(ByteArray.size t) : Int) ≤ (↑(ByteArray.size s) : Int)) = decide (i + (↑(ByteArray.size t) : Int) ≤ (↑(ByteArray.size s) : Int)) ∧ ((-9223372036854775808 : Int) ≤ i + (↑(ByteArray.size t) : Int) ∧ i + (↑(ByteArray.size t) : Int) ≤ (9223372036854775807 : Int)) ∧ decide (i + (↑(ByteArray.size t) : Int) ≤ (↑(ByteArray.size s) : Int)) = decide (i + (↑(ByteArray.size t) : Int) ≤ (↑(ByteArray.size s) : Int)) ∧ ((0 : Int) ≤ i ∧ i ≤ i + (↑(ByteArray.size t) : Int) ∧ i + (↑(ByteArray.size t) : Int) ≤ (↑(ByteArray.size s) : Int)) ∧ decide (i + (↑(ByteArray.size t) : Int) ≤ (↑(ByteArray.size s) : Int)) = decide (i + (↑(ByteArray.size t) : Int) ≤ (↑(ByteArray.size s) : Int)) ∧ decide (i + (↑(ByteArray.size t) : Int) ≤ (↑(ByteArray.size s) : Int)) = decide (i + (↑(ByteArray.size t) : Int) ≤ (↑(ByteArray.size s) : Int)) ∧ (decide (i + (↑(ByteArray.size t) : Int) ≤ (↑(ByteArray.size s) : Int)) = true → stW s (Int.toNat i) t = decide (ByteArray.extract s (Int.toNat i) (Int.toNat (i + (↑(ByteArray.size t) : Int))) = t) ∧ s = s ∧ i = i ∧ (0 : Int) = (0 : Int) ∧ (0 : Int) = (0 : Int) ∧ True) ∧ (decide (i + (↑(ByteArray.size t) : Int) ≤ (↑(ByteArray.size s) : Int)) = false → stW s (Int.toNat i) t = false ∧ s = s ∧ i = i ∧ (0 : Int) = (0 : Int) ∧ (0 : Int) = (0 : Int) ∧ True)) ∧ (decide (i + (↑(ByteArray.size t) : Int) ≤ (↑(ByteArray.size s) : Int)) = false → decide (i + (↑(ByteArray.size t) : Int) ≤ (↑(ByteArray.size s) : Int)) = decide (i + (↑(ByteArray.size t) : Int) ≤ (↑(ByteArray.size s) : Int)) ∧ decide (i + (↑(ByteArray.size t) : Int) ≤ (↑(ByteArray.size s) : Int)) = decide (i + (↑(ByteArray.size t) : Int) ≤ (↑(ByteArray.size s) : Int)) ∧ decide (i + (↑(ByteArray.size t) : Int) ≤ (↑(ByteArray.size s) : Int)) = decide (i + (↑(ByteArray.size t) : Int) ≤ (↑(ByteArray.size s) : Int)) ∧ decide (i + (↑(ByteArray.size t) : Int) ≤ (↑(ByteArray.size s) : Int)) = decide (i + (↑(ByteArray.size t) : Int) ≤ (↑(ByteArray.size s) : Int)) ∧ decide (i + (↑(ByteArray.size t) : Int) ≤ (↑(ByteArray.size s) : Int)) = decide (i + (↑(ByteArray.size t) : Int) ≤ (↑(ByteArray.size s) : Int)) ∧ decide (i + (↑(ByteArray.size t) : Int) ≤ (↑(ByteArray.size s) : Int)) = decide (i + (↑(ByteArray.size t) : Int) ≤ (↑(ByteArray.size s) : Int)) ∧ decide (i + (↑(ByteArray.size t) : Int) ≤ (↑(ByteArray.size s) : Int)) = decide (i + (↑(ByteArray.size t) : Int) ≤ (↑(ByteArray.size s) : Int)) ∧ decide (i + (↑(ByteArray.size t) : Int) ≤ (↑(ByteArray.size s) : Int)) = decide (i + (↑(ByteArray.size t) : Int) ≤ (↑(ByteArray.size s) : Int)) ∧ decide (i + (↑(ByteArray.size t) : Int) ≤ (↑(ByteArray.size s) : Int)) = decide (i + (↑(ByteArray.size t) : Int) ≤ (↑(ByteArray.size s) : Int)) ∧ decide (i + (↑(ByteArray.size t) : Int) ≤ (↑(ByteArray.size s) : Int)) = decide (i + (↑(ByteArray.size t) : Int) ≤ (↑(ByteArray.size s) : Int)) ∧ decide (i + (↑(ByteArray.size t) : Int) ≤ (↑(ByteArray.size s) : Int)) = decide (i + (↑(ByteArray.size t) : Int) ≤ (↑(ByteArray.size s) : Int)) ∧ decide (i + (↑(ByteArray.size t) : Int) ≤ (↑(ByteArray.size s) : Int)) = decide (i + (↑(ByteArray.size t) : Int) ≤ (↑(ByteArray.size s) : Int)) ∧ decide (i + (↑(ByteArray.size t) : Int) ≤ (↑(ByteArray.size s) : Int)) = decide (i + (↑(ByteArray.size t) : Int) ≤ (↑(ByteArray.size s) : Int)) ∧ decide (i + (↑(ByteArray.size t) : Int) ≤ (↑(ByteArray.size s) : Int)) = decide (i + (↑(ByteArray.size t) : Int) ≤ (↑(ByteArray.size s) : Int)) ∧ decide (i + (↑(ByteArray.size t) : Int) ≤ (↑(ByteArray.size s) : Int)) = decide (i + (↑(ByteArray.size t) : Int) ≤ (↑(ByteArray.size s) : Int)) ∧ decide (i + (↑(ByteArray.size t) : Int) ≤ (↑(ByteArray.size s) : Int)) = decide (i + (↑(ByteArray.size t) : Int) ≤ (↑(ByteArray.size s) : Int)) ∧ decide (i + (↑(ByteArray.size t) : Int) ≤ (↑(ByteArray.size s) : Int)) = decide (i + (↑(ByteArray.size t) : Int) ≤ (↑(ByteArray.size s) : Int)) ∧ (decide (i + (↑(ByteArray.size t) : Int) ≤ (↑(ByteArray.size s) : Int)) = true → False) ∧ (decide (i + (↑(ByteArray.size t) : Int) ≤ (↑(ByteArray.size s) : Int)) = false → stW s (Int.toNat i) t = false ∧ s = s ∧ i = i ∧ (0 : Int) = (0 : Int) ∧ (0 : Int) = (0 : Int) ∧ True))) := by kernel_rfl
theorem starts_ok : CtOK P 30 cStarts := by
  refine ask_ok mixed no_tab (W := fun _ => {}) Go.Proofs.Try.func30 (by kernel_rfl) (by decide) (by decide) (fun ⟨s, i, t⟩ => by kernel_rfl) fun ⟨s, i, t⟩ => (starts_eq s i t).mpr ?_
  rintro ⟨h1, h2, h3, h4⟩
  obtain ⟨n, rfl⟩ := Int.eq_ofNat_of_zero_le h1
  simp only [decide_eq_true_eq, decide_eq_false_iff_not, and_true, true_and, Int.toNat_natCast, Int.add_zero, tnn]
  refine ⟨by omega, fun a1 => ⟨by omega, by omega, fun _ => ?_, fun h => absurd a1 h⟩, fun a1 => ⟨fun h => a1 h, fun _ => ?_⟩⟩
  · unfold stW; rw [decide_eq_true (by omega)]; rfl
  · unfold stW; rw [decide_eq_false (by omega)]; rfl
theorem fail_eq (s : ByteArray) (i e a : Int) : askF P (fun _ => none) Go.Proofs.Try.f31 cFail (fun _ => {}) ⟨s, i, e, a⟩ = (True → (↑(0 : Nat) : Int) = (0 : Int) ∧ mkS [] = mkS [] ∧ (↑(0 : Nat) : Int) = (0 : Int) ∧ (↑(0 : Nat) : Int) = (0 : Int) ∧ s = s ∧ i = i ∧ e = e ∧ a = a ∧ True) := by kernel_rfl
theorem fail_ok : CtOK P 31 cFail := by
  refine ask_ok mixed no_tab (W := fun _ => {}) Go.Proofs.Try.func31 (by kernel_rfl) (by decide) (by decide) (fun ⟨s, i, e, a⟩ => by kernel_rfl) fun ⟨s, i, e, a⟩ => (fail_eq s i e a).mpr ?_
  exact fun _ => ⟨rfl, rfl, rfl, rfl, rfl, rfl, rfl, rfl, trivial⟩
theorem byteR_eq (s : ByteArray) (i d : Int) : askF P (fun _ => none) Go.Proofs.Try.f33 cByte (fun _ => {}) ⟨s, i, d⟩ = ((0 : Int) ≤ i ∧ i ≤ (↑(ByteArray.size s) : Int) ∧ ByteArray.size s < (1000000 : Nat) ∧ (0 : Int) ≤ d ∧ d < (1000000 : Int) → ((-9223372036854775808 : Int) ≤ i + d ∧ i + d ≤ (9223372036854775807 : Int)) ∧ (decide (i + d < (↑(ByteArray.size s) : Int)) = true → ((-9223372036854775808 : Int) ≤ i + d ∧ i + d ≤ (9223372036854775807 : Int)) ∧ ((0 : Int) ≤ i + d ∧ i + d < (↑(ByteArray.size s) : Int)) ∧ (↑(bat s (Int.toNat (i + d))) : Int) = (↑(bat s (Int.toNat (i + d))) : Int) ∧ s = s ∧ i = i ∧ (0 : Int) = (0 : Int) ∧ (0 : Int) = (0 : Int) ∧ True) ∧ (decide (i + d < (↑(ByteArray.size s) : Int)) = false → (↑(bat s (Int.toNat (i + d))) : Int) = (0 : Int) ∧ s = s ∧ i = i ∧ (0 : Int) = (0 : Int) ∧ (0 : Int) = (0 : Int) ∧ True)) := by kernel_rfl
theorem byteR_ok : CtOK P 33 cByte := by
  refine ask_ok mixed no_tab (W := fun _ => {}) Go.Proofs.Try.func33 (by kernel_rfl) (by decide) (by decide) (fun ⟨s, i, d⟩ => by kernel_rfl) fun ⟨s, i, d⟩ => (byteR_eq s i d).mpr ?_
  rintro ⟨h1, h2, h3, h4, h5⟩
  simp only [decide_eq_true_eq, decide_eq_false_iff_not, and_true, true_and]
  refine ⟨by omega, fun a1 => ⟨by omega, by omega⟩, fun a1 => ?_⟩
  rw [bat_out (by omega)]; rfl
theorem letterR_eq (c : Int) : askF P (fun _ => none) Go.Proofs.Try.f32 cLetter (fun _ => {}) c = ((0 : Int) ≤ c ∧ c < (256 : Int) → (decide ((97 : Int) ≤ c) = true → (decide (c ≤ (122 : Int)) = true → isLet (Int.toNat c) = true ∧ True) ∧ (decide (c ≤ (122 : Int)) = false → (decide ((65 : Int) ≤ c) = true → (decide (c ≤ (90 : Int)) = true → isLet (Int.toNat c) = true ∧ True) ∧ (decide (c ≤ (90 : Int)) = false → isLet (Int.toNat c) = decide (c = (95 : Int)) ∧ True)) ∧ (decide ((65 : Int) ≤ c) = false → isLet (Int.toNat c) = decide (c = (95 : Int)) ∧ True))) ∧ (decide ((97 : Int) ≤ c) = false → (decide ((65 : Int) ≤ c) = true → (decide (c ≤ (90 : Int)) = true → isLet (Int.toNat c) = true ∧ True) ∧ (decide (c ≤ (90 : Int)) = false → isLet (Int.toNat c) = decide (c = (95 : Int)) ∧ True)) ∧ (decide ((65 : Int) ≤ c) = false → isLet (Int.toNat c) = decide (c = (95 : Int)) ∧ True))) := by kernel_rfl
theorem letterR_ok : CtOK P 32 cLetter := by
  refine ask_ok mixed no_tab (W := fun _ => {}) Go.Proofs.Try.func32 (by kernel_rfl) (by decide) (by decide) (fun c => by kernel_rfl) fun (c : Int) => (letterR_eq c).mpr ?_
  rintro ⟨h1, h2⟩
  obtain ⟨n, rfl⟩ := Int.eq_ofNat_of_zero_le h1
  simp only [decide_eq_true_eq, decide_eq_false_iff_not, Int.toNat_natCast, and_true]
  repeat' first | intro _ | apply And.intro
  all_goals (rw [Bool.eq_iff_iff]; simp [isLet]; omega)
theorem digitR_eq (c : Int) : askF P (fun _ => none) Go.Proofs.Try.f34 cDigit (fun _ => {}) c = ((0 : Int) ≤ c ∧ c < (256 : Int) → (decide ((48 : Int) ≤ c) = true → isDig (Int.toNat c) = decide (c ≤ (57 : Int)) ∧ True) ∧ (decide ((48 : Int) ≤ c) = false → isDig (Int.toNat c) = false ∧ True)) := by kernel_rfl
theorem digitR_ok : CtOK P 34 cDigit := by
  refine ask_ok mixed no_tab (W := fun _ => {}) Go.Proofs.Try.func34 (by kernel_rfl) (by decide) (by decide) (fun c => by kernel_rfl) fun (c : Int) => (digitR_eq c).mpr ?_
  rintro ⟨h1, h2⟩
  obtain ⟨n, rfl⟩ := Int.eq_ofNat_of_zero_le h1
  simp only [decide_eq_true_eq, decide_eq_false_iff_not, Int.toNat_natCast, and_true]
  repeat' first | intro _ | apply And.intro
  all_goals (rw [Bool.eq_iff_iff]; simp [isDig]; omega)
theorem digR_eq (c : Int) : askF P (fun _ => none) Go.Proofs.Try.f48 cDigitR (fun _ => {}) c = ((0 : Int) ≤ c ∧ c < (256 : Int) → (decide ((48 : Int) ≤ c) = true → (decide (c ≤ (57 : Int)) = true → ((-9223372036854775808 : Int) ≤ IntKind.wrap IntKind.u8 (c - (48 : Int)) ∧ IntKind.wrap IntKind.u8 (c - (48 : Int)) ≤ (9223372036854775807 : Int)) ∧ dvR (Int.toNat c) = IntKind.wrap IntKind.u8 (c - (48 : Int)) ∧ True) ∧ (decide (c ≤ (57 : Int)) = false → (decide ((97 : Int) ≤ c) = true → (decide (c ≤ (102 : Int)) = true → ((-9223372036854775808 : Int) ≤ IntKind.wrap IntKind.u8 (c - (97 : Int)) ∧ IntKind.wrap IntKind.u8 (c - (97 : Int)) ≤ (9223372036854775807 : Int)) ∧ ((-9223372036854775808 : Int) ≤ IntKind.wrap IntKind.u8 (c - (97 : Int)) + (10 : Int) ∧ IntKind.wrap IntKind.u8 (c - (97 : Int)) + (10 : Int) ≤ (9223372036854775807 : Int)) ∧ dvR (Int.toNat c) = IntKind.wrap IntKind.u8 (c - (97 : Int)) + (10 : Int) ∧ True) ∧ (decide (c ≤ (102 : Int)) = false → (decide ((65 : Int) ≤ c) = true → (decide (c ≤ (70 : Int)) = true → ((-9223372036854775808 : Int) ≤ IntKind.wrap IntKind.u8 (c - (65 : Int)) ∧ IntKind.wrap IntKind.u8 (c - (65 : Int)) ≤ (9223372036854775807 : Int)) ∧ ((-9223372036854775808 : Int) ≤ IntKind.wrap IntKind.u8 (c - (65 : Int)) + (10 : Int) ∧ IntKind.wrap IntKind.u8 (c - (65 : Int)) + (10 : Int) ≤ (9223372036854775807 : Int)) ∧ dvR (Int.toNat c) = IntKind.wrap IntKind.u8 (c - (65 : Int)) + (10 : Int) ∧ True) ∧ (decide (c ≤ (70 : Int)) = false → dvR (Int.toNat c) = (-1 : Int) ∧ True)) ∧ (decide ((65 : Int) ≤ c) = false → dvR (Int.toNat c) = (-1 : Int) ∧ True))) ∧ (decide ((97 : Int) ≤ c) = false → (decide ((65 : Int) ≤ c) = true → (decide (c ≤ (70 : Int)) = true → ((-9223372036854775808 : Int) ≤ IntKind.wrap IntKind.u8 (c - (65 : Int)) ∧ IntKind.wrap IntKind.u8 (c - (65 : Int)) ≤ (9223372036854775807 : Int)) ∧ ((-9223372036854775808 : Int) ≤ IntKind.wrap IntKind.u8 (c - (65 : Int)) + (10 : Int) ∧ IntKind.wrap IntKind.u8 (c - (65 : Int)) + (10 : Int) ≤ (9223372036854775807 : Int)) ∧ dvR (Int.toNat c) = IntKind.wrap IntKind.u8 (c - (65 : Int)) + (10 : Int) ∧ True) ∧ (decide (c ≤ (70 : Int)) = false → dvR (Int.toNat c) = (-1 : Int) ∧ True)) ∧ (decide ((65 : Int) ≤ c) = false → dvR (Int.toNat c) = (-1 : Int) ∧ True)))) ∧ (decide ((48 : Int) ≤ c) = false → (decide ((97 : Int) ≤ c) = true → (decide (c ≤ (102 : Int)) = true → ((-9223372036854775808 : Int) ≤ IntKind.wrap IntKind.u8 (c - (97 : Int)) ∧ IntKind.wrap IntKind.u8 (c - (97 : Int)) ≤ (9223372036854775807 : Int)) ∧ ((-9223372036854775808 : Int) ≤ IntKind.wrap IntKind.u8 (c - (97 : Int)) + (10 : Int) ∧ IntKind.wrap IntKind.u8 (c - (97 : Int)) + (10 : Int) ≤ (9223372036854775807 : Int)) ∧ dvR (Int.toNat c) = IntKind.wrap IntKind.u8 (c - (97 : Int)) + (10 : Int) ∧ True) ∧ (decide (c ≤ (102 : Int)) = false → (decide ((65 : Int) ≤ c) = true → (decide (c ≤ (70 : Int)) = true → ((-9223372036854775808 : Int) ≤ IntKind.wrap IntKind.u8 (c - (65 : Int)) ∧ IntKind.wrap IntKind.u8 (c - (65 : Int)) ≤ (9223372036854775807 : Int)) ∧ ((-9223372036854775808 : Int) ≤ IntKind.wrap IntKind.u8 (c - (65 : Int)) + (10 : Int) ∧ IntKind.wrap IntKind.u8 (c - (65 : Int)) + (10 : Int) ≤ (9223372036854775807 : Int)) ∧ dvR (Int.toNat c) = IntKind.wrap IntKind.u8 (c - (65 : Int)) + (10 : Int) ∧ True) ∧ (decide (c ≤ (70 : Int)) = false → dvR (Int.toNat c) = (-1 : Int) ∧ True)) ∧ (decide ((65 : Int) ≤ c) = false → dvR (Int.toNat c) = (-1 : Int) ∧ True))) ∧ (decide ((97 : Int) ≤ c) = false → (decide ((65 : Int) ≤ c) = true → (decide (c ≤ (70 : Int)) = true → ((-9223372036854775808 : Int) ≤ IntKind.wrap IntKind.u8 (c - (65 : Int)) ∧ IntKind.wrap IntKind.u8 (c - (65 : Int)) ≤ (9223372036854775807 : Int)) ∧ ((-9223372036854775808 : Int) ≤ IntKind.wrap IntKind.u8 (c - (65 : Int)) + (10 : Int) ∧ IntKind.wrap IntKind.u8 (c - (65 : Int)) + (10 : Int) ≤ (9223372036854775807 : Int)) ∧ dvR (Int.toNat c) = IntKind.wrap IntKind.u8 (c - (65 : Int)) + (10 : Int) ∧ True) ∧ (decide (c ≤ (70 : Int)) = false → dvR (Int.toNat c) = (-1 : Int) ∧ True)) ∧ (decide ((65 : Int) ≤ c) = false → dvR (Int.toNat c) = (-1 : Int) ∧ True)))) := by kernel_rfl
theorem digR_ok : CtOK P 48 cDigitR := by
  refine ask_ok mixed no_tab (W := fun _ => {}) Go.Proofs.Try.func48 (by kernel_rfl) (by decide) (by decide) (fun c => by kernel_rfl) fun (c : Int) => (digR_eq c).mpr ?_
  rintro ⟨h1, h2⟩
  obtain ⟨n, rfl⟩ := Int.eq_ofNat_of_zero_le h1
  simp only [decide_eq_true_eq, decide_eq_false_iff_not, Int.toNat_natCast, and_true, wrap8]
  have d : dvR n = if 48 ≤ n ∧ n ≤ 57 then (n : Int) - 48 else if 65 ≤ n ∧ n ≤ 70 then (n : Int) - 55 else if 97 ≤ n ∧ n ≤ 102 then (n : Int) - 87 else -1 := by
    unfold dvR dv
    repeat' split
    all_goals omega
  rw [d]
  repeat' first | intro _ | apply And.intro
  all_goals (repeat' split)
  all_goals omega
theorem wrap32 (x : Int) : IntKind.u32.wrap x = x % 4294967296 := by
  unfold IntKind.wrap; simp [IntKind.bits, IntKind.signed]
theorem ld_cases (b : Nat) : (b < 128 ∧ ldN b = 1 ∧ ldV b = b) ∨ (192 ≤ b ∧ b < 224 ∧ ldN b = 2 ∧ ldV b = b - 192) ∨ (224 ≤ b ∧ b < 240 ∧ ldN b = 3 ∧ ldV b = b - 224) ∨ (240 ≤ b ∧ b < 248 ∧ ldN b = 4 ∧ ldV b = b - 240) ∨ (((128 ≤ b ∧ b < 192) ∨ 248 ≤ b) ∧ ldN b = 0) := by
  unfold ldN ldV
  repeat' split
  all_goals omega
theorem lnN_le (n q : Nat) (hn : n = 2 ∨ n = 3 ∨ n = 4) (hq : q < 128 * 64 ^ (n - 1)) (h2 : n = 2 → q < 2048) (h3 : n = 3 → q < 65536) : lnN q = n ↔ leN n ≤ q := by
  unfold lnN leN
  rcases hn with rfl | rfl | rfl
  all_goals (repeat' split)
  all_goals (first | omega | (have := h2 rfl; omega) | (have := h3 rfl; omega))
theorem point_eq (s : ByteArray) : askF P (fun _ => none) Go.Proofs.Try.f56 cPoint (wPoint) s = (ByteArray.size s < (1000000 : Nat) → (decide ((↑(ByteArray.size s) : Int) = (0 : Int)) = true → (↑(ptV s) : Int) = (0 : Int) ∧ (↑(frt s) : Int) = (0 : Int) ∧ True) ∧ (decide ((↑(ByteArray.size s) : Int) = (0 : Int)) = false → ((0 : Int) ≤ (0 : Int) ∧ (0 : Int) < (↑(ByteArray.size s) : Int)) ∧ ((decide (IntKind.wrap IntKind.u32 (↑(bat s (0 : Nat)) : Int) < (128 : Int)) = true → (↑(ptV s) : Int) = IntKind.wrap IntKind.u32 (↑(bat s (0 : Nat)) : Int) ∧ (↑(frt s) : Int) = (1 : Int) ∧ True) ∧ (decide (IntKind.wrap IntKind.u32 (↑(bat s (0 : Nat)) : Int) < (128 : Int)) = false → (decide ((192 : Int) ≤ IntKind.wrap IntKind.u32 (↑(bat s (0 : Nat)) : Int)) = true → (decide (IntKind.wrap IntKind.u32 (↑(bat s (0 : Nat)) : Int) < (224 : Int)) = true → s = s ∧ (↑(leN (ldN (bat s (0 : Nat)))) : Int) = (128 : Int) ∧ (↑(ldN (bat s (0 : Nat))) : Int) = (2 : Int) ∧ (↑(ldV (bat s (0 : Nat))) : Int) = IntKind.wrap IntKind.u32 (IntKind.wrap IntKind.u32 (↑(bat s (0 : Nat)) : Int) - (192 : Int)) ∧ ((0 : Nat) < ByteArray.size s ∧ (2 : Nat) ≤ ldN (bat s (0 : Nat))) ∧ True) ∧ (decide (IntKind.wrap IntKind.u32 (↑(bat s (0 : Nat)) : Int) < (224 : Int)) = false → (decide ((224 : Int) ≤ IntKind.wrap IntKind.u32 (↑(bat s (0 : Nat)) : Int)) = true → (decide (IntKind.wrap IntKind.u32 (↑(bat s (0 : Nat)) : Int) < (240 : Int)) = true → s = s ∧ (↑(leN (ldN (bat s (0 : Nat)))) : Int) = (2048 : Int) ∧ (↑(ldN (bat s (0 : Nat))) : Int) = (3 : Int) ∧ (↑(ldV (bat s (0 : Nat))) : Int) = IntKind.wrap IntKind.u32 (IntKind.wrap IntKind.u32 (↑(bat s (0 : Nat)) : Int) - (224 : Int)) ∧ ((0 : Nat) < ByteArray.size s ∧ (2 : Nat) ≤ ldN (bat s (0 : Nat))) ∧ True) ∧ (decide (IntKind.wrap IntKind.u32 (↑(bat s (0 : Nat)) : Int) < (240 : Int)) = false → (decide ((240 : Int) ≤ IntKind.wrap IntKind.u32 (↑(bat s (0 : Nat)) : Int)) = true → (decide (IntKind.wrap IntKind.u32 (↑(bat s (0 : Nat)) : Int) < (248 : Int)) = true → s = s ∧ (↑(leN (ldN (bat s (0 : Nat)))) : Int) = (65536 : Int) ∧ (↑(ldN (bat s (0 : Nat))) : Int) = (4 : Int) ∧ (↑(ldV (bat s (0 : Nat))) : Int) = IntKind.wrap IntKind.u32 (IntKind.wrap IntKind.u32 (↑(bat s (0 : Nat)) : Int) - (240 : Int)) ∧ ((0 : Nat) < ByteArray.size s ∧ (2 : Nat) ≤ ldN (bat s (0 : Nat))) ∧ True) ∧ (decide (IntKind.wrap IntKind.u32 (↑(bat s (0 : Nat)) : Int) < (248 : Int)) = false → (↑(ptV s) : Int) = (0 : Int) ∧ (↑(frt s) : Int) = (0 : Int) ∧ True)) ∧ (decide ((240 : Int) ≤ IntKind.wrap IntKind.u32 (↑(bat s (0 : Nat)) : Int)) = false → (↑(ptV s) : Int) = (0 : Int) ∧ (↑(frt s) : Int) = (0 : Int) ∧ True))) ∧ (decide ((224 : Int) ≤ IntKind.wrap IntKind.u32 (↑(bat s (0 : Nat)) : Int)) = false → (decide ((240 : Int) ≤ IntKind.wrap IntKind.u32 (↑(bat s (0 : Nat)) : Int)) = true → (decide (IntKind.wrap IntKind.u32 (↑(bat s (0 : Nat)) : Int) < (248 : Int)) = true → s = s ∧ (↑(leN (ldN (bat s (0 : Nat)))) : Int) = (65536 : Int) ∧ (↑(ldN (bat s (0 : Nat))) : Int) = (4 : Int) ∧ (↑(ldV (bat s (0 : Nat))) : Int) = IntKind.wrap IntKind.u32 (IntKind.wrap IntKind.u32 (↑(bat s (0 : Nat)) : Int) - (240 : Int)) ∧ ((0 : Nat) < ByteArray.size s ∧ (2 : Nat) ≤ ldN (bat s (0 : Nat))) ∧ True) ∧ (decide (IntKind.wrap IntKind.u32 (↑(bat s (0 : Nat)) : Int) < (248 : Int)) = false → (↑(ptV s) : Int) = (0 : Int) ∧ (↑(frt s) : Int) = (0 : Int) ∧ True)) ∧ (decide ((240 : Int) ≤ IntKind.wrap IntKind.u32 (↑(bat s (0 : Nat)) : Int)) = false → (↑(ptV s) : Int) = (0 : Int) ∧ (↑(frt s) : Int) = (0 : Int) ∧ True)))) ∧ (decide ((192 : Int) ≤ IntKind.wrap IntKind.u32 (↑(bat s (0 : Nat)) : Int)) = false → (decide ((224 : Int) ≤ IntKind.wrap IntKind.u32 (↑(bat s (0 : Nat)) : Int)) = true → (decide (IntKind.wrap IntKind.u32 (↑(bat s (0 : Nat)) : Int) < (240 : Int)) = true → s = s ∧ (↑(leN (ldN (bat s (0 : Nat)))) : Int) = (2048 : Int) ∧ (↑(ldN (bat s (0 : Nat))) : Int) = (3 : Int) ∧ (↑(ldV (bat s (0 : Nat))) : Int) = IntKind.wrap IntKind.u32 (IntKind.wrap IntKind.u32 (↑(bat s (0 : Nat)) : Int) - (224 : Int)) ∧ ((0 : Nat) < ByteArray.size s ∧ (2 : Nat) ≤ ldN (bat s (0 : Nat))) ∧ True) ∧ (decide (IntKind.wrap IntKind.u32 (↑(bat s (0 : Nat)) : Int) < (240 : Int)) = false → (decide ((240 : Int) ≤ IntKind.wrap IntKind.u32 (↑(bat s (0 : Nat)) : Int)) = true → (decide (IntKind.wrap IntKind.u32 (↑(bat s (0 : Nat)) : Int) < (248 : Int)) = true → s = s ∧ (↑(leN (ldN (bat s (0 : Nat)))) : Int) = (65536 : Int) ∧ (↑(ldN (bat s (0 : Nat))) : Int) = (4 : Int) ∧ (↑(ldV (bat s (0 : Nat))) : Int) = IntKind.wrap IntKind.u32 (IntKind.wrap IntKind.u32 (↑(bat s (0 : Nat)) : Int) - (240 : Int)) ∧ ((0 : Nat) < ByteArray.size s ∧ (2 : Nat) ≤ ldN (bat s (0 : Nat))) ∧ True) ∧ (decide (IntKind.wrap IntKind.u32 (↑(bat s (0 : Nat)) : Int) < (248 : Int)) = false → (↑(ptV s) : Int) = (0 : Int) ∧ (↑(frt s) : Int) = (0 : Int) ∧ True)) ∧ (decide ((240 : Int) ≤ IntKind.wrap IntKind.u32 (↑(bat s (0 : Nat)) : Int)) = false → (↑(ptV s) : Int) = (0 : Int) ∧ (↑(frt s) : Int) = (0 : Int) ∧ True))) ∧ (decide ((224 : Int) ≤ IntKind.wrap IntKind.u32 (↑(bat s (0 : Nat)) : Int)) = false → (decide ((240 : Int) ≤ IntKind.wrap IntKind.u32 (↑(bat s (0 : Nat)) : Int)) = true → (decide (IntKind.wrap IntKind.u32 (↑(bat s (0 : Nat)) : Int) < (248 : Int)) = true → s = s ∧ (↑(leN (ldN (bat s (0 : Nat)))) : Int) = (65536 : Int) ∧ (↑(ldN (bat s (0 : Nat))) : Int) = (4 : Int) ∧ (↑(ldV (bat s (0 : Nat))) : Int) = IntKind.wrap IntKind.u32 (IntKind.wrap IntKind.u32 (↑(bat s (0 : Nat)) : Int) - (240 : Int)) ∧ ((0 : Nat) < ByteArray.size s ∧ (2 : Nat) ≤ ldN (bat s (0 : Nat))) ∧ True) ∧ (decide (IntKind.wrap IntKind.u32 (↑(bat s (0 : Nat)) : Int) < (248 : Int)) = false → (↑(ptV s) : Int) = (0 : Int) ∧ (↑(frt s) : Int) = (0 : Int) ∧ True)) ∧ (decide ((240 : Int) ≤ IntKind.wrap IntKind.u32 (↑(bat s (0 : Nat)) : Int)) = false → (↑(ptV s) : Int) = (0 : Int) ∧ (↑(frt s) : Int) = (0 : Int) ∧ True))))) ∧ ∀ (s_1 : Unit), (0 : Nat) < ByteArray.size s ∧ (2 : Nat) ≤ ldN (bat s (0 : Nat)) → (decide ((↑(ByteArray.size s) : Int) < (↑(ldN (bat s (0 : Nat))) : Int)) = true → (↑(ptV s) : Int) = (0 : Int) ∧ (↑(frt s) : Int) = (0 : Int) ∧ True) ∧ (decide ((↑(ByteArray.size s) : Int) < (↑(ldN (bat s (0 : Nat))) : Int)) = false → (s = s ∧ (↑(leN (ldN (bat s (0 : Nat)))) : Int) = (↑(leN (ldN (bat s (0 : Nat)))) : Int) ∧ (↑(ldN (bat s (0 : Nat))) : Int) = (↑(ldN (bat s (0 : Nat))) : Int) ∧ (1 : Int) = (1 : Int) ∧ (↑(ldV (bat s (0 : Nat))) : Int) = (↑(ldV (bat s (0 : Nat))) : Int) ∧ ((1 : Int) ≤ (1 : Int) ∧ (1 : Int) ≤ (↑(ldN (bat s (0 : Nat))) : Int) ∧ ∃ (q : Nat), (↑(ldV (bat s (0 : Nat))) : Int) = (↑q : Int) ∧ vlF s (1 : Nat) = some q) ∧ True) ∧ ∀ (s_2 : Int × Int), ((1 : Int) ≤ Prod.snd s_2 ∧ Prod.snd s_2 ≤ (↑(ldN (bat s (0 : Nat))) : Int) ∧ ∃ (q : Nat), Prod.fst s_2 = (↑q : Int) ∧ vlF s (Int.toNat (Prod.snd s_2)) = some q) → (decide (s_2.2 < (↑(ldN (bat s (0 : Nat))) : Int)) = true → ((0 : Int) ≤ s_2.2 ∧ s_2.2 < (↑(ByteArray.size s) : Int)) ∧ (decide ((↑(bat s (Int.toNat s_2.2)) : Int) < (128 : Int)) = true → (↑(ptV s) : Int) = (0 : Int) ∧ (↑(frt s) : Int) = (0 : Int) ∧ True) ∧ (decide ((↑(bat s (Int.toNat s_2.2)) : Int) < (128 : Int)) = false → ((0 : Int) ≤ s_2.2 ∧ s_2.2 < (↑(ByteArray.size s) : Int)) ∧ (decide ((191 : Int) < (↑(bat s (Int.toNat s_2.2)) : Int)) = true → (↑(ptV s) : Int) = (0 : Int) ∧ (↑(frt s) : Int) = (0 : Int) ∧ True) ∧ (decide ((191 : Int) < (↑(bat s (Int.toNat s_2.2)) : Int)) = false → ((0 : Int) ≤ s_2.2 ∧ s_2.2 < (↑(ByteArray.size s) : Int)) ∧ ((-9223372036854775808 : Int) ≤ s_2.2 + (1 : Int) ∧ s_2.2 + (1 : Int) ≤ (9223372036854775807 : Int)) ∧ s = s ∧ (↑(leN (ldN (bat s (0 : Nat)))) : Int) = (↑(leN (ldN (bat s (0 : Nat)))) : Int) ∧ (↑(ldN (bat s (0 : Nat))) : Int) = (↑(ldN (bat s (0 : Nat))) : Int) ∧ s_2.2 + (1 : Int) = s_2.2 + (1 : Int) ∧ IntKind.wrap IntKind.u32 (IntKind.wrap IntKind.u32 (s_2.1 * (64 : Int)) + IntKind.wrap IntKind.u32 (IntKind.wrap IntKind.u8 ((↑(bat s (Int.toNat s_2.2)) : Int) - (128 : Int)))) = IntKind.wrap IntKind.u32 (IntKind.wrap IntKind.u32 (s_2.1 * (64 : Int)) + IntKind.wrap IntKind.u32 (IntKind.wrap IntKind.u8 ((↑(bat s (Int.toNat s_2.2)) : Int) - (128 : Int)))) ∧ ((1 : Int) ≤ s_2.2 + (1 : Int) ∧ s_2.2 + (1 : Int) ≤ (↑(ldN (bat s (0 : Nat))) : Int) ∧ ∃ (q : Nat), IntKind.wrap IntKind.u32 (IntKind.wrap IntKind.u32 (s_2.1 * (64 : Int)) + IntKind.wrap IntKind.u32 (IntKind.wrap IntKind.u8 ((↑(bat s (Int.toNat s_2.2)) : Int) - (128 : Int)))) = (↑q : Int) ∧ vlF s (Int.toNat (s_2.2 + (1 : Int))) = some q) ∧ (5 : Nat) - Int.toNat (s_2.2 + (1 : Int)) < (5 : Nat) - Int.toNat (Prod.snd s_2) ∧ True))) ∧ (decide (s_2.2 < (↑(ldN (bat s (0 : Nat))) : Int)) = false → (decide (s_2.1 < (↑(leN (ldN (bat s (0 : Nat)))) : Int)) = true → (↑(ptV s) : Int) = (0 : Int) ∧ (↑(frt s) : Int) = (0 : Int) ∧ True) ∧ (decide (s_2.1 < (↑(leN (ldN (bat s (0 : Nat)))) : Int)) = false → (decide ((1114111 : Int) < s_2.1) = true → (↑(ptV s) : Int) = (0 : Int) ∧ (↑(frt s) : Int) = (0 : Int) ∧ True) ∧ (decide ((1114111 : Int) < s_2.1) = false → (decide ((55296 : Int) ≤ s_2.1) = true → (decide (s_2.1 ≤ (57343 : Int)) = true → (↑(ptV s) : Int) = (0 : Int) ∧ (↑(frt s) : Int) = (0 : Int) ∧ True) ∧ (decide (s_2.1 ≤ (57343 : Int)) = false → (↑(ptV s) : Int) = s_2.1 ∧ (↑(frt s) : Int) = (↑(ldN (bat s (0 : Nat))) : Int) ∧ True)) ∧ (decide ((55296 : Int) ≤ s_2.1) = false → (↑(ptV s) : Int) = s_2.1 ∧ (↑(frt s) : Int) = (↑(ldN (bat s (0 : Nat))) : Int) ∧ True))))))) := by kernel_rfl
theorem ldV_2 (b : Nat) : (ldN b = 2 → ldV b < 32) ∧ (ldN b = 3 → ldV b < 16) := by
  have := ld_cases b; omega
theorem vlF_2 (s : ByteArray) (q : Nat) (h : vlF s 2 = some q) (h2 : ldN (bat s 0) = 2) : q < 2048 := by
  have b := (ldV_2 (bat s 0)).1 h2
  simp only [vlF] at h
  split at h
  · rename_i hc
    have hb := bat_lt s 1
    simp only [ctC, Bool.and_eq_true, decide_eq_true_eq] at hc
    cases h
    simp only [Nat.zero_add] at hc ⊢
    omega
  · cases h
theorem vlF_3 (s : ByteArray) (q : Nat) (h : vlF s 3 = some q) (h2 : ldN (bat s 0) = 3) : q < 65536 := by
  have b := (ldV_2 (bat s 0)).2 h2
  simp only [vlF] at h
  split at h
  · rename_i r hr
    split at hr
    · cases hr
      rename_i hc0
      split at h
      · rename_i hc
        have hb := bat_lt s 1
        have hb2 := bat_lt s 2
        simp only [ctC, Bool.and_eq_true, decide_eq_true_eq] at hc hc0
        cases h
        simp only [Nat.zero_add, show 1 + 1 = 2 from rfl] at hc hc0 ⊢
        omega
      · cases h
    · cases hr
  · cases h
theorem isC_of (q : Nat) : isC q = true ↔ q ≤ 1114111 ∧ ¬ (55296 ≤ q ∧ q ≤ 57343) := by
  simp [isC]; omega
theorem ct_of (b : Nat) : ctC b = true ↔ 128 ≤ b ∧ b < 192 := by simp [ctC]
theorem point_ok : CtOK P 56 cPoint := by
  refine ask_ok mixed no_tab (W := wPoint) Go.Proofs.Try.func56 (by kernel_rfl) (by decide) (by decide) (fun c => by kernel_rfl) fun (s : ByteArray) => (point_eq s).mpr ?_
  intro h2
  have b0 := bat_lt s 0
  obtain ⟨n, hn⟩ : ∃ n, n = ldN (bat s 0) := ⟨_, rfl⟩
  have hc := ld_cases (bat s 0)
  have hz : frt s = 0 → ptV s = 0 := fun h => by unfold ptV; rw [if_pos h]
  have hfr : frt s = if s.size < n then 0 else match vlF s n with
    | none => 0
    | some r => if n = 0 ∨ isC r = false ∨ lnN r ≠ n then 0 else n := by rw [hn]; rfl
  rw [← hn] at hc
  have A0 : s.size = 0 → frt s = 0 := fun h => by
    have := bat_out (s := s) (j := 0) (by omega)
    rw [hfr, if_pos (by omega)]
  have A1 : s.size ≠ 0 → bat s 0 < 128 → ptV s = bat s 0 ∧ frt s = 1 := fun h h1 => by
    have e1 : n = 1 := by omega
    have ev : ldV (bat s 0) = bat s 0 := by omega
    have ef : frt s = 1 := by
      rw [hfr, if_neg (by omega), e1]
      simp only [vlF]
      rw [ev, if_neg]
      have hi := (isC_of (bat s 0)).mpr (by omega)
      have hl : lnN (bat s 0) = 1 := by unfold lnN; rw [if_pos h1]
      rw [hi, hl]; simp
    refine ⟨?_, ef⟩
    unfold ptV
    rw [if_neg (by omega), ef]
    simp only [vlF, ev]; rfl
  have A5 : n = 0 → frt s = 0 := fun h => by
    rw [hfr, if_neg (by omega), h]; simp [vlF]
  have hle : (n = 2 → leN n = 128) ∧ (n = 3 → leN n = 2048) ∧ (n = 4 → leN n = 65536) := by
    refine ⟨fun h => ?_, fun h => ?_, fun h => ?_⟩ <;> rw [h] <;> rfl
  have e0 : IntKind.u32.wrap (bat s 0 : Nat) = (bat s 0 : Nat) := by rw [wrap32]; omega
  simp only [Int.toNat_natCast, Int.toNat_zero, and_true, true_and, decide_eq_true_eq, decide_eq_false_iff_not, Bool.not_eq_true', Bool.not_eq_false', e0, ← hn]
  refine ⟨?_, fun g0 => ⟨by omega, ?_, ?_⟩⟩
  · intro h; have := A0 (by omega); have := hz this; omega
  · simp only [wrap32]
    clear hfr A0 e0
    rcases hc with ⟨c1, c2, c3⟩ | ⟨c0, c1, c2, c3⟩ | ⟨c0, c1, c2, c3⟩ | ⟨c0, c1, c2, c3⟩ | ⟨c1, c2⟩
    · obtain ⟨p, f⟩ := A1 (by omega) c1
      clear A1 A5 hle hz
      refine ⟨fun _ => by omega, fun h => absurd (by omega) h⟩
    · have l := hle.1 c2
      clear A1 A5 hle hz
      refine ⟨fun h => by omega, fun h => ⟨fun _ => ⟨fun _ => by omega, fun k => absurd (by omega) k⟩, fun k => absurd (by omega) k⟩⟩
    · have l := hle.2.1 c2
      clear A1 A5 hle hz
      refine ⟨fun h => by omega, fun h => ⟨fun _ => ⟨fun k => by omega, fun _ => ⟨fun _ => ⟨fun _ => by omega, fun k => absurd (by omega) k⟩, fun k => absurd (by omega) k⟩⟩, fun k => absurd (by omega) k⟩⟩
    · have l := hle.2.2 c2
      clear A1 A5 hle hz
      refine ⟨fun h => by omega, fun h => ⟨fun _ => ⟨fun k => by omega, fun _ => ⟨fun _ => ⟨fun k => by omega, fun _ => ⟨fun _ => ⟨fun _ => by omega, fun k => absurd (by omega) k⟩, fun k => absurd (by omega) k⟩⟩, fun k => absurd (by omega) k⟩⟩, fun k => absurd (by omega) k⟩⟩
    · have f := A5 c2
      have p := hz f
      clear A1 A5 hle hz
      repeat' first | intro _ | apply And.intro
      all_goals omega
  · clear A0 A1 A5
    rintro _ ⟨g1, g2⟩
    have Z : frt s = 0 → ((ptV s : Nat) : Int) = 0 ∧ ((frt s : Nat) : Int) = 0 := fun h => by have := hz h; omega
    refine ⟨fun k => Z ?_, fun k => ⟨⟨by omega, by omega, ldV (bat s 0), rfl, rfl⟩, ?_⟩⟩
    · rw [hfr, if_pos (by omega)]
    rw [if_neg (by omega)] at hfr
    rintro ⟨v, i⟩ ⟨i1, i2, q, hq, hv⟩
    simp only at i1 i2 hq hv ⊢
    obtain ⟨m, rfl⟩ := Int.eq_ofNat_of_zero_le (show 0 ≤ i by omega)
    subst hq
    simp only [Int.toNat_natCast, tn1] at hv ⊢
    have hbd := vlF_bd s m q hv (by omega)
    have bm := bat_lt s m
    obtain ⟨m', rfl⟩ : ∃ m', m = m' + 1 := ⟨m - 1, by omega⟩
    have cn : ¬ (128 ≤ bat s (m' + 1) ∧ bat s (m' + 1) < 192) → ((m' + 1 : Nat) : Int) < n → frt s = 0 := fun h hl => by
      have : vlF s (m' + 2) = none := by
        simp only [vlF]; rw [hv]; simp only []
        rw [if_neg (by rw [ct_of]; exact h)]
      rw [hfr, vlF_none s (m' + 2) n (by omega) (by omega) this]
    refine ⟨fun k1 => ⟨by omega, fun k2 => Z (cn (by omega) k1), fun k2 => ⟨by omega, fun k3 => Z (cn (by omega) k1), fun k3 => ⟨by omega, by omega, ⟨by omega, by omega, ?_⟩, by omega⟩⟩⟩, fun k1 => ?_⟩
    · have hq26 : q < 67108864 := by
        have : m' + 1 ≤ 3 := by omega
        rcases m' with _ | _ | _ | m' <;> simp at hbd <;> omega
      refine ⟨q * 64 + (bat s (m' + 1) - 128), ?_, ?_⟩
      · rw [wrap8, wrap32, wrap32, wrap32]; omega
      · simp only [vlF]; rw [hv]; simp only []
        rw [if_pos (by rw [ct_of]; omega)]
    · have em : m' + 1 = n := by omega
      rw [em] at hv hbd
      rw [hv] at hfr
      simp only at hfr
      have nn : n = 2 ∨ n = 3 ∨ n = 4 := by omega
      have ln := lnN_le n q nn hbd (fun h => vlF_2 s q (h ▸ hv) (by omega)) (fun h => vlF_3 s q (h ▸ hv) (by omega))
      have ic := isC_of q
      have bad : ¬ (leN n ≤ q) ∨ ¬ (q ≤ 1114111 ∧ ¬ (55296 ≤ q ∧ q ≤ 57343)) → frt s = 0 := fun h => by
        rw [hfr, if_pos]
        rcases h with h | h
        · exact .inr (.inr fun e => h (ln.mp e))
        · exact .inr (.inl (by rw [← Bool.not_eq_true]; exact fun e => h (ic.mp e)))
      have good : leN n ≤ q → (q ≤ 1114111 ∧ ¬ (55296 ≤ q ∧ q ≤ 57343)) → ((ptV s : Nat) : Int) = q ∧ ((frt s : Nat) : Int) = n := fun h1 h2 => by
        have ef : frt s = n := by
          rw [hfr, if_neg]
          rw [ic.mpr h2, ln.mpr h1]; simp; omega
        refine ⟨?_, by omega⟩
        unfold ptV
        rw [if_neg (by omega), ef, hv]; rfl
      refine ⟨fun c1 => Z (bad (.inl (by omega))), fun c1 => ⟨fun c2 => Z (bad (.inr (by omega))), fun c2 => ⟨fun c3 => ⟨fun c4 => Z (bad (.inr (by omega))), fun c4 => good (by omega) (by omega)⟩, fun c3 => good (by omega) (by omega)⟩⟩⟩
theorem validR_eq (s : ByteArray) : askF P (ctTab [(56, cPoint)]) Go.Proofs.Try.f49 cValid (wValidR) s = (ByteArray.size s < (1000000 : Nat) → (s = s ∧ (ByteArray.size s ≤ ByteArray.size s ∧ vld s = vld s) ∧ True) ∧ ∀ (s_1 : ByteArray), ByteArray.size s_1 ≤ ByteArray.size s ∧ vld s_1 = vld s → (decide ((0 : Int) < (↑(ByteArray.size s_1) : Int)) = true → s_1 = s_1 ∧ ByteArray.size s_1 < (1000000 : Nat) ∧ (decide ((↑(frt s_1) : Int) = (0 : Int)) = true → vld s = false ∧ True) ∧ (decide ((↑(frt s_1) : Int) = (0 : Int)) = false → ((0 : Int) ≤ (↑(frt s_1) : Int) ∧ (↑(frt s_1) : Int) ≤ (↑(ByteArray.size s_1) : Int)) ∧ ByteArray.extract s_1 (Int.toNat (↑(frt s_1) : Int)) (ByteArray.size s_1) = ByteArray.extract s_1 (Int.toNat (↑(frt s_1) : Int)) (ByteArray.size s_1) ∧ (ByteArray.size (ByteArray.extract s_1 (Int.toNat (↑(frt s_1) : Int)) (ByteArray.size s_1)) ≤ ByteArray.size s ∧ vld (ByteArray.extract s_1 (Int.toNat (↑(frt s_1) : Int)) (ByteArray.size s_1)) = vld s) ∧ ByteArray.size (ByteArray.extract s_1 (Int.toNat (↑(frt s_1) : Int)) (ByteArray.size s_1)) < ByteArray.size s_1 ∧ True)) ∧ (decide ((0 : Int) < (↑(ByteArray.size s_1) : Int)) = false → vld s = true ∧ True)) := by kernel_rfl
theorem validR_ok : CtOK P 49 cValid := by
  refine ask_ok mixed (ctTab_ok (forall_tab point_ok nil_tab)) (W := wValidR) Go.Proofs.Try.func49 (by kernel_rfl) (by decide) (by decide) (fun c => by kernel_rfl) fun (s : ByteArray) => (validR_eq s).mpr ?_
  intro h
  simp only [Int.toNat_natCast, and_true, true_and, decide_eq_true_eq, decide_eq_false_iff_not]
  refine ⟨Nat.le_refl _, fun t ht => ⟨fun g => ⟨by omega, fun g2 => ?_, fun g2 => ?_⟩, fun g => ?_⟩⟩
  · rw [← ht.2, vld_step t (by omega), if_pos (by omega)]
  · have := frt_le t
    rw [← ht.2, vld_step t (by omega), if_neg (by omega)]
    refine ⟨by omega, ⟨?_, rfl⟩, ?_⟩
    · simp; omega
    · simp; omega
  · rw [← ht.2]; exact vld_nil t (by omega)
theorem stW2 (s : ByteArray) (n a b : Nat) (ha : a < 256 ∧ 0 < a) (hb : b < 256 ∧ 0 < b) (hn : n ≤ s.size) : stW s n (mkS [a, b]) = decide (bat s n = a ∧ bat s (n + 1) = b) := by
  rw [← hasPre2 s n a b hn ha hb]
  unfold stW hasPre
  have hsz : (mkS [a, b]).size = 2 := rfl
  rw [hsz, ByteArray.size_extract]
  by_cases h : n + 2 ≤ s.size
  · rw [decide_eq_true h, decide_eq_true (show 2 ≤ min s.size s.size - n by omega)]
    simp only [Bool.true_and]
    have e : s.extract n (n + 2) = (s.extract n s.size).extract 0 2 := by
      apply ByteArray.ext; apply Array.toList_inj.mp
      rw [ByteArray.data_extract, Array.toList_extract, List.extract_eq_take_drop, ByteArray.data_extract, Array.toList_extract, List.extract_eq_take_drop, ext_list]
      rw [show n + 2 - n = 2 by omega]; rfl
    rw [e]
  · rw [decide_eq_false h, decide_eq_false (show ¬ 2 ≤ min s.size s.size - n by omega), Bool.false_and, Bool.false_and]
theorem sz2 (a b : Nat) : (mkS [a, b]).size = 2 := rfl
theorem spaceR_eq (s : ByteArray) (i : Int) : askF P (tSpaceR) Go.Proofs.Try.f17 cSpaceR (wSpaceR) ⟨s, i⟩ = ((0 : Int) ≤ i ∧ i ≤ (↑(ByteArray.size s) : Int) ∧ ByteArray.size s < (100000 : Nat) → (s = s ∧ i = i ∧ (0 : Int) = (0 : Int) ∧ (0 : Int) = (0 : Int) ∧ ((0 : Int) ≤ i ∧ i ≤ (↑(ByteArray.size s) : Int) ∧ spR s (Int.toNat i) = spR s (Int.toNat i)) ∧ True) ∧ ∀ (s_1 : Int), (0 : Int) ≤ s_1 ∧ s_1 ≤ (↑(ByteArray.size s) : Int) ∧ spR s (Int.toNat s_1) = spR s (Int.toNat i) → (decide (s_1 < (↑(ByteArray.size s) : Int)) = true → decide (s_1 < (↑(ByteArray.size s) : Int)) = decide (s_1 < (↑(ByteArray.size s) : Int)) ∧ decide (s_1 < (↑(ByteArray.size s) : Int)) = decide (s_1 < (↑(ByteArray.size s) : Int)) ∧ decide (s_1 < (↑(ByteArray.size s) : Int)) = decide (s_1 < (↑(ByteArray.size s) : Int)) ∧ decide (s_1 < (↑(ByteArray.size s) : Int)) = decide (s_1 < (↑(ByteArray.size s) : Int)) ∧ (decide (s_1 < (↑(ByteArray.size s) : Int)) = true → (decide ((0 : Int) = (0 : Int)) = true → ((0 : Int) ≤ s_1 ∧ s_1 < (↑(ByteArray.size s) : Int)) ∧ (decide ((9 : Int) ≤ (↑(bat s (Int.toNat s_1)) : Int)) = true → (decide ((↑(bat s (Int.toNat s_1)) : Int) ≤ (13 : Int)) = true → ((-9223372036854775808 : Int) ≤ s_1 + (1 : Int) ∧ s_1 + (1 : Int) ≤ (9223372036854775807 : Int)) ∧ s = s ∧ s_1 + (1 : Int) = s_1 + (1 : Int) ∧ (0 : Int) = (0 : Int) ∧ (0 : Int) = (0 : Int) ∧ ((0 : Int) ≤ s_1 + (1 : Int) ∧ s_1 + (1 : Int) ≤ (↑(ByteArray.size s) : Int) ∧ spR s (Int.toNat (s_1 + (1 : Int))) = spR s (Int.toNat i)) ∧ ByteArray.size s - Int.toNat (s_1 + (1 : Int)) < ByteArray.size s - Int.toNat s_1 ∧ True) ∧ (decide ((↑(bat s (Int.toNat s_1)) : Int) ≤ (13 : Int)) = false → (decide ((↑(bat s (Int.toNat s_1)) : Int) = (32 : Int)) = true → ((-9223372036854775808 : Int) ≤ s_1 + (1 : Int) ∧ s_1 + (1 : Int) ≤ (9223372036854775807 : Int)) ∧ s = s ∧ s_1 + (1 : Int) = s_1 + (1 : Int) ∧ (0 : Int) = (0 : Int) ∧ (0 : Int) = (0 : Int) ∧ ((0 : Int) ≤ s_1 + (1 : Int) ∧ s_1 + (1 : Int) ≤ (↑(ByteArray.size s) : Int) ∧ spR s (Int.toNat (s_1 + (1 : Int))) = spR s (Int.toNat i)) ∧ ByteArray.size s - Int.toNat (s_1 + (1 : Int)) < ByteArray.size s - Int.toNat s_1 ∧ True) ∧ (decide ((↑(bat s (Int.toNat s_1)) : Int) = (32 : Int)) = false → mkS [(47 : Nat), (47 : Nat)] = mkS [(47 : Nat), (47 : Nat)] ∧ s = s ∧ s_1 = s_1 ∧ (0 : Int) = (0 : Int) ∧ (0 : Int) = (0 : Int) ∧ ((0 : Int) ≤ s_1 ∧ s_1 ≤ (↑(ByteArray.size s) : Int) ∧ ByteArray.size s < (100000 : Nat) ∧ ByteArray.size (mkS [(47 : Nat), (47 : Nat)]) < (1000 : Nat)) ∧ (stW s (Int.toNat s_1) (mkS [(47 : Nat), (47 : Nat)]) = true → (s = s ∧ s_1 = s_1 ∧ (0 : Int) = (0 : Int) ∧ (0 : Int) = (0 : Int) ∧ (s_1 ≤ s_1 ∧ s_1 ≤ (↑(ByteArray.size s) : Int) ∧ eol s (Int.toNat s_1) = eol s (Int.toNat s_1)) ∧ True) ∧ ∀ (s_2 : Int), s_1 ≤ s_2 ∧ s_2 ≤ (↑(ByteArray.size s) : Int) ∧ eol s (Int.toNat s_2) = eol s (Int.toNat s_1) → (decide (s_2 < (↑(ByteArray.size s) : Int)) = true → decide (s_2 < (↑(ByteArray.size s) : Int)) = decide (s_2 < (↑(ByteArray.size s) : Int)) ∧ decide (s_2 < (↑(ByteArray.size s) : Int)) = decide (s_2 < (↑(ByteArray.size s) : Int)) ∧ decide (s_2 < (↑(ByteArray.size s) : Int)) = decide (s_2 < (↑(ByteArray.size s) : Int)) ∧ decide (s_2 < (↑(ByteArray.size s) : Int)) = decide (s_2 < (↑(ByteArray.size s) : Int)) ∧ decide (s_2 < (↑(ByteArray.size s) : Int)) = decide (s_2 < (↑(ByteArray.size s) : Int)) ∧ decide (s_2 < (↑(ByteArray.size s) : Int)) = decide (s_2 < (↑(ByteArray.size s) : Int)) ∧ decide (s_2 < (↑(ByteArray.size s) : Int)) = decide (s_2 < (↑(ByteArray.size s) : Int)) ∧ decide (s_2 < (↑(ByteArray.size s) : Int)) = decide (s_2 < (↑(ByteArray.size s) : Int)) ∧ ((0 : Int) ≤ s_2 ∧ s_2 < (↑(ByteArray.size s) : Int)) ∧ decide (s_2 < (↑(ByteArray.size s) : Int)) = decide (s_2 < (↑(ByteArray.size s) : Int)) ∧ (decide (s_2 < (↑(ByteArray.size s) : Int)) = true → ((!decide ((↑(bat s (Int.toNat s_2)) : Int) = (10 : Int))) = true → ((-9223372036854775808 : Int) ≤ s_2 + (1 : Int) ∧ s_2 + (1 : Int) ≤ (9223372036854775807 : Int)) ∧ s = s ∧ s_2 + (1 : Int) = s_2 + (1 : Int) ∧ (0 : Int) = (0 : Int) ∧ (0 : Int) = (0 : Int) ∧ (s_1 ≤ s_2 + (1 : Int) ∧ s_2 + (1 : Int) ≤ (↑(ByteArray.size s) : Int) ∧ eol s (Int.toNat (s_2 + (1 : Int))) = eol s (Int.toNat s_1)) ∧ ByteArray.size s - Int.toNat (s_2 + (1 : Int)) < ByteArray.size s - Int.toNat s_2 ∧ True) ∧ ((!decide ((↑(bat s (Int.toNat s_2)) : Int) = (10 : Int))) = false → s = s ∧ s_2 = s_2 ∧ (0 : Int) = (0 : Int) ∧ (0 : Int) = (0 : Int) ∧ ((0 : Int) ≤ s_2 ∧ s_2 ≤ (↑(ByteArray.size s) : Int) ∧ spR s (Int.toNat s_2) = spR s (Int.toNat i)) ∧ ByteArray.size s - Int.toNat s_2 < ByteArray.size s - Int.toNat s_1 ∧ True)) ∧ (decide (s_2 < (↑(ByteArray.size s) : Int)) = false → s = s ∧ s_2 = s_2 ∧ (0 : Int) = (0 : Int) ∧ (0 : Int) = (0 : Int) ∧ ((0 : Int) ≤ s_2 ∧ s_2 ≤ (↑(ByteArray.size s) : Int) ∧ spR s (Int.toNat s_2) = spR s (Int.toNat i)) ∧ ByteArray.size s - Int.toNat s_2 < ByteArray.size s - Int.toNat s_1 ∧ True)) ∧ (decide (s_2 < (↑(ByteArray.size s) : Int)) = false → decide (s_2 < (↑(ByteArray.size s) : Int)) = decide (s_2 < (↑(ByteArray.size s) : Int)) ∧ decide (s_2 < (↑(ByteArray.size s) : Int)) = decide (s_2 < (↑(ByteArray.size s) : Int)) ∧ decide (s_2 < (↑(ByteArray.size s) : Int)) = decide (s_2 < (↑(ByteArray.size s) : Int)) ∧ decide (s_2 < (↑(ByteArray.size s) : Int)) = decide (s_2 < (↑(ByteArray.size s) : Int)) ∧ decide (s_2 < (↑(ByteArray.size s) : Int)) = decide (s_2 < (↑(ByteArray.size s) : Int)) ∧ decide (s_2 < (↑(ByteArray.size s) : Int)) = decide (s_2 < (↑(ByteArray.size s) : Int)) ∧ decide (s_2 < (↑(ByteArray.size s) : Int)) = decide (s_2 < (↑(ByteArray.size s) : Int)) ∧ decide (s_2 < (↑(ByteArray.size s) : Int)) = decide (s_2 < (↑(ByteArray.size s) : Int)) ∧ decide (s_2 < (↑(ByteArray.size s) : Int)) = decide (s_2 < (↑(ByteArray.size s) : Int)) ∧ (decide (s_2 < (↑(ByteArray.size s) : Int)) = true → False) ∧ (decide (s_2 < (↑(ByteArray.size s) : Int)) = false → s = s ∧ s_2 = s_2 ∧ (0 : Int) = (0 : Int) ∧ (0 : Int) = (0 : Int) ∧ ((0 : Int) ≤ s_2 ∧ s_2 ≤ (↑(ByteArray.size s) : Int) ∧ spR s (Int.toNat s_2) = spR s (Int.toNat i)) ∧ ByteArray.size s - Int.toNat s_2 < ByteArray.size s - Int.toNat s_1 ∧ True))) ∧ (stW s (Int.toNat s_1) (mkS [(47 : Nat), (47 : Nat)]) = false → mkS [(47 : Nat), (42 : Nat)] = mkS [(47 : Nat), (42 : Nat)] ∧ s = s ∧ s_1 = s_1 ∧ (0 : Int) = (0 : Int) ∧ (0 : Int) = (0 : Int) ∧ ((0 : Int) ≤ s_1 ∧ s_1 ≤ (↑(ByteArray.size s) : Int) ∧ ByteArray.size s < (100000 : Nat) ∧ ByteArray.size (mkS [(47 : Nat), (42 : Nat)]) < (1000 : Nat)) ∧ (stW s (Int.toNat s_1) (mkS [(47 : Nat), (42 : Nat)]) = true → ((-9223372036854775808 : Int) ≤ s_1 + (2 : Int) ∧ s_1 + (2 : Int) ≤ (9223372036854775807 : Int)) ∧ (s_1 = s_1 ∧ s = s ∧ s_1 + (2 : Int) = s_1 + (2 : Int) ∧ (0 : Int) = (0 : Int) ∧ (0 : Int) = (0 : Int) ∧ (s_1 + (2 : Int) ≤ s_1 + (2 : Int) ∧ s_1 + (2 : Int) ≤ (↑(ByteArray.size s) : Int) ∧ cl s (Int.toNat (s_1 + (2 : Int))) = cl s (Int.toNat (s_1 + (2 : Int)))) ∧ True) ∧ ∀ (s_2 : Int), s_1 + (2 : Int) ≤ s_2 ∧ s_2 ≤ (↑(ByteArray.size s) : Int) ∧ cl s (Int.toNat s_2) = cl s (Int.toNat (s_1 + (2 : Int))) → (decide (s_2 < (↑(ByteArray.size s) : Int)) = true → decide (s_2 < (↑(ByteArray.size s) : Int)) = decide (s_2 < (↑(ByteArray.size s) : Int)) ∧ mkS [(42 : Nat), (47 : Nat)] = mkS [(42 : Nat), (47 : Nat)] ∧ s = s ∧ s_2 = s_2 ∧ (0 : Int) = (0 : Int) ∧ (0 : Int) = (0 : Int) ∧ ((0 : Int) ≤ s_2 ∧ s_2 ≤ (↑(ByteArray.size s) : Int) ∧ ByteArray.size s < (100000 : Nat) ∧ ByteArray.size (mkS [(42 : Nat), (47 : Nat)]) < (1000 : Nat)) ∧ decide (s_2 < (↑(ByteArray.size s) : Int)) = decide (s_2 < (↑(ByteArray.size s) : Int)) ∧ (decide (s_2 < (↑(ByteArray.size s) : Int)) = true → ((!stW s (Int.toNat s_2) (mkS [(42 : Nat), (47 : Nat)])) = true → ((-9223372036854775808 : Int) ≤ s_2 + (1 : Int) ∧ s_2 + (1 : Int) ≤ (9223372036854775807 : Int)) ∧ s_1 = s_1 ∧ s = s ∧ s_2 + (1 : Int) = s_2 + (1 : Int) ∧ (0 : Int) = (0 : Int) ∧ (0 : Int) = (0 : Int) ∧ (s_1 + (2 : Int) ≤ s_2 + (1 : Int) ∧ s_2 + (1 : Int) ≤ (↑(ByteArray.size s) : Int) ∧ cl s (Int.toNat (s_2 + (1 : Int))) = cl s (Int.toNat (s_1 + (2 : Int)))) ∧ ByteArray.size s - Int.toNat (s_2 + (1 : Int)) < ByteArray.size s - Int.toNat s_2 ∧ True) ∧ ((!stW s (Int.toNat s_2) (mkS [(42 : Nat), (47 : Nat)])) = false → (decide ((↑(ByteArray.size s) : Int) ≤ s_2) = true → (2 : Int) = (2 : Int) ∧ s_1 = s_1 ∧ s = s ∧ s_2 = s_2 ∧ (0 : Int) = (0 : Int) ∧ (0 : Int) = (0 : Int) ∧ True ∧ s = s ∧ Int.ofNat (spI s (Int.toNat i)) = s_2 ∧ Int.ofNat (spN s (Int.toNat i) (2 : Nat)) = (2 : Int) ∧ Int.ofNat (spN s (Int.toNat i) (Prod.snd (spR s (Int.toNat i)))) = s_1 ∧ True) ∧ (decide ((↑(ByteArray.size s) : Int) ≤ s_2) = false → ((-9223372036854775808 : Int) ≤ s_2 + (2 : Int) ∧ s_2 + (2 : Int) ≤ (9223372036854775807 : Int)) ∧ s = s ∧ s_2 + (2 : Int) = s_2 + (2 : Int) ∧ (0 : Int) = (0 : Int) ∧ (0 : Int) = (0 : Int) ∧ ((0 : Int) ≤ s_2 + (2 : Int) ∧ s_2 + (2 : Int) ≤ (↑(ByteArray.size s) : Int) ∧ spR s (Int.toNat (s_2 + (2 : Int))) = spR s (Int.toNat i)) ∧ ByteArray.size s - Int.toNat (s_2 + (2 : Int)) < ByteArray.size s - Int.toNat s_1 ∧ True))) ∧ (decide (s_2 < (↑(ByteArray.size s) : Int)) = false → (decide ((↑(ByteArray.size s) : Int) ≤ s_2) = true → (2 : Int) = (2 : Int) ∧ s_1 = s_1 ∧ s = s ∧ s_2 = s_2 ∧ (0 : Int) = (0 : Int) ∧ (0 : Int) = (0 : Int) ∧ True ∧ s = s ∧ Int.ofNat (spI s (Int.toNat i)) = s_2 ∧ Int.ofNat (spN s (Int.toNat i) (2 : Nat)) = (2 : Int) ∧ Int.ofNat (spN s (Int.toNat i) (Prod.snd (spR s (Int.toNat i)))) = s_1 ∧ True) ∧ (decide ((↑(ByteArray.size s) : Int) ≤ s_2) = false → ((-9223372036854775808 : Int) ≤ s_2 + (2 : Int) ∧ s_2 + (2 : Int) ≤ (9223372036854775807 : Int)) ∧ s = s ∧ s_2 + (2 : Int) = s_2 + (2 : Int) ∧ (0 : Int) = (0 : Int) ∧ (0 : Int) = (0 : Int) ∧ ((0 : Int) ≤ s_2 + (2 : Int) ∧ s_2 + (2 : Int) ≤ (↑(ByteArray.size s) : Int) ∧ spR s (Int.toNat (s_2 + (2 : Int))) = spR s (Int.toNat i)) ∧ ByteArray.size s - Int.toNat (s_2 + (2 : Int)) < ByteArray.size s - Int.toNat s_1 ∧ True))) ∧ (decide (s_2 < (↑(ByteArray.size s) : Int)) = false → decide (s_2 < (↑(ByteArray.size s) : Int)) = decide (s_2 < (↑(ByteArray.size s) : Int)) ∧ decide (s_2 < (↑(ByteArray.size s) : Int)) = decide (s_2 < (↑(ByteArray.size s) : Int)) ∧ (decide (s_2 < (↑(ByteArray.size s) : Int)) = true → False) ∧ (decide (s_2 < (↑(ByteArray.size s) : Int)) = false → (decide ((↑(ByteArray.size s) : Int) ≤ s_2) = true → (2 : Int) = (2 : Int) ∧ s_1 = s_1 ∧ s = s ∧ s_2 = s_2 ∧ (0 : Int) = (0 : Int) ∧ (0 : Int) = (0 : Int) ∧ True ∧ s = s ∧ Int.ofNat (spI s (Int.toNat i)) = s_2 ∧ Int.ofNat (spN s (Int.toNat i) (2 : Nat)) = (2 : Int) ∧ Int.ofNat (spN s (Int.toNat i) (Prod.snd (spR s (Int.toNat i)))) = s_1 ∧ True) ∧ (decide ((↑(ByteArray.size s) : Int) ≤ s_2) = false → ((-9223372036854775808 : Int) ≤ s_2 + (2 : Int) ∧ s_2 + (2 : Int) ≤ (9223372036854775807 : Int)) ∧ s = s ∧ s_2 + (2 : Int) = s_2 + (2 : Int) ∧ (0 : Int) = (0 : Int) ∧ (0 : Int) = (0 : Int) ∧ ((0 : Int) ≤ s_2 + (2 : Int) ∧ s_2 + (2 : Int) ≤ (↑(ByteArray.size s) : Int) ∧ spR s (Int.toNat (s_2 + (2 : Int))) = spR s (Int.toNat i)) ∧ ByteArray.size s - Int.toNat (s_2 + (2 : Int)) < ByteArray.size s - Int.toNat s_1 ∧ True)))) ∧ (stW s (Int.toNat s_1) (mkS [(47 : Nat), (42 : Nat)]) = false → s = s ∧ Int.ofNat (spI s (Int.toNat i)) = s_1 ∧ Int.ofNat (spN s (Int.toNat i) (2 : Nat)) = (0 : Int) ∧ Int.ofNat (spN s (Int.toNat i) (Prod.snd (spR s (Int.toNat i)))) = (0 : Int) ∧ True))))) ∧ (decide ((9 : Int) ≤ (↑(bat s (Int.toNat s_1)) : Int)) = false → (decide ((↑(bat s (Int.toNat s_1)) : Int) = (32 : Int)) = true → ((-9223372036854775808 : Int) ≤ s_1 + (1 : Int) ∧ s_1 + (1 : Int) ≤ (9223372036854775807 : Int)) ∧ s = s ∧ s_1 + (1 : Int) = s_1 + (1 : Int) ∧ (0 : Int) = (0 : Int) ∧ (0 : Int) = (0 : Int) ∧ ((0 : Int) ≤ s_1 + (1 : Int) ∧ s_1 + (1 : Int) ≤ (↑(ByteArray.size s) : Int) ∧ spR s (Int.toNat (s_1 + (1 : Int))) = spR s (Int.toNat i)) ∧ ByteArray.size s - Int.toNat (s_1 + (1 : Int)) < ByteArray.size s - Int.toNat s_1 ∧ True) ∧ (decide ((↑(bat s (Int.toNat s_1)) : Int) = (32 : Int)) = false → mkS [(47 : Nat), (47 : Nat)] = mkS [(47 : Nat), (47 : Nat)] ∧ s = s ∧ s_1 = s_1 ∧ (0 : Int) = (0 : Int) ∧ (0 : Int) = (0 : Int) ∧ ((0 : Int) ≤ s_1 ∧ s_1 ≤ (↑(ByteArray.size s) : Int) ∧ ByteArray.size s < (100000 : Nat) ∧ ByteArray.size (mkS [(47 : Nat), (47 : Nat)]) < (1000 : Nat)) ∧ (stW s (Int.toNat s_1) (mkS [(47 : Nat), (47 : Nat)]) = true → (s = s ∧ s_1 = s_1 ∧ (0 : Int) = (0 : Int) ∧ (0 : Int) = (0 : Int) ∧ (s_1 ≤ s_1 ∧ s_1 ≤ (↑(ByteArray.size s) : Int) ∧ eol s (Int.toNat s_1) = eol s (Int.toNat s_1)) ∧ True) ∧ ∀ (s_2 : Int), s_1 ≤ s_2 ∧ s_2 ≤ (↑(ByteArray.size s) : Int) ∧ eol s (Int.toNat s_2) = eol s (Int.toNat s_1) → (decide (s_2 < (↑(ByteArray.size s) : Int)) = true → decide (s_2 < (↑(ByteArray.size s) : Int)) = decide (s_2 < (↑(ByteArray.size s) : Int)) ∧ decide (s_2 < (↑(ByteArray.size s) : Int)) = decide (s_2 < (↑(ByteArray.size s) : Int)) ∧ decide (s_2 < (↑(ByteArray.size s) : Int)) = decide (s_2 < (↑(ByteArray.size s) : Int)) ∧ decide (s_2 < (↑(ByteArray.size s) : Int)) = decide (s_2 < (↑(ByteArray.size s) : Int)) ∧ decide (s_2 < (↑(ByteArray.size s) : Int)) = decide (s_2 < (↑(ByteArray.size s) : Int)) ∧ decide (s_2 < (↑(ByteArray.size s) : Int)) = decide (s_2 < (↑(ByteArray.size s) : Int)) ∧ decide (s_2 < (↑(ByteArray.size s) : Int)) = decide (s_2 < (↑(ByteArray.size s) : Int)) ∧ decide (s_2 < (↑(ByteArray.size s) : Int)) = decide (s_2 < (↑(ByteArray.size s) : Int)) ∧ ((0 : Int) ≤ s_2 ∧ s_2 < (↑(ByteArray.size s) : Int)) ∧ decide (s_2 < (↑(ByteArray.size s) : Int)) = decide (s_2 < (↑(ByteArray.size s) : Int)) ∧ (decide (s_2 < (↑(ByteArray.size s) : Int)) = true → ((!decide ((↑(bat s (Int.toNat s_2)) : Int) = (10 : Int))) = true → ((-9223372036854775808 : Int) ≤ s_2 + (1 : Int) ∧ s_2 + (1 : Int) ≤ (9223372036854775807 : Int)) ∧ s = s ∧ s_2 + (1 : Int) = s_2 + (1 : Int) ∧ (0 : Int) = (0 : Int) ∧ (0 : Int) = (0 : Int) ∧ (s_1 ≤ s_2 + (1 : Int) ∧ s_2 + (1 : Int) ≤ (↑(ByteArray.size s) : Int) ∧ eol s (Int.toNat (s_2 + (1 : Int))) = eol s (Int.toNat s_1)) ∧ ByteArray.size s - Int.toNat (s_2 + (1 : Int)) < ByteArray.size s - Int.toNat s_2 ∧ True) ∧ ((!decide ((↑(bat s (Int.toNat s_2)) : Int) = (10 : Int))) = false → s = s ∧ s_2 = s_2 ∧ (0 : Int) = (0 : Int) ∧ (0 : Int) = (0 : Int) ∧ ((0 : Int) ≤ s_2 ∧ s_2 ≤ (↑(ByteArray.size s) : Int) ∧ spR s (Int.toNat s_2) = spR s (Int.toNat i)) ∧ ByteArray.size s - Int.toNat s_2 < ByteArray.size s - Int.toNat s_1 ∧ True)) ∧ (decide (s_2 < (↑(ByteArray.size s) : Int)) = false → s = s ∧ s_2 = s_2 ∧ (0 : Int) = (0 : Int) ∧ (0 : Int) = (0 : Int) ∧ ((0 : Int) ≤ s_2 ∧ s_2 ≤ (↑(ByteArray.size s) : Int) ∧ spR s (Int.toNat s_2) = spR s (Int.toNat i)) ∧ ByteArray.size s - Int.toNat s_2 < ByteArray.size s - Int.toNat s_1 ∧ True)) ∧ (decide (s_2 < (↑(ByteArray.size s) : Int)) = false → decide (s_2 < (↑(ByteArray.size s) : Int)) = decide (s_2 < (↑(ByteArray.size s) : Int)) ∧ decide (s_2 < (↑(ByteArray.size s) : Int)) = decide (s_2 < (↑(ByteArray.size s) : Int)) ∧ decide (s_2 < (↑(ByteArray.size s) : Int)) = decide (s_2 < (↑(ByteArray.size s) : Int)) ∧ decide (s_2 < (↑(ByteArray.size s) : Int)) = decide (s_2 < (↑(ByteArray.size s) : Int)) ∧ decide (s_2 < (↑(ByteArray.size s) : Int)) = decide (s_2 < (↑(ByteArray.size s) : Int)) ∧ decide (s_2 < (↑(ByteArray.size s) : Int)) = decide (s_2 < (↑(ByteArray.size s) : Int)) ∧ decide (s_2 < (↑(ByteArray.size s) : Int)) = decide (s_2 < (↑(ByteArray.size s) : Int)) ∧ decide (s_2 < (↑(ByteArray.size s) : Int)) = decide (s_2 < (↑(ByteArray.size s) : Int)) ∧ decide (s_2 < (↑(ByteArray.size s) : Int)) = decide (s_2 < (↑(ByteArray.size s) : Int)) ∧ (decide (s_2 < (↑(ByteArray.size s) : Int)) = true → False) ∧ (decide (s_2 < (↑(ByteArray.size s) : Int)) = false → s = s ∧ s_2 = s_2 ∧ (0 : Int) = (0 : Int) ∧ (0 : Int) = (0 : Int) ∧ ((0 : Int) ≤ s_2 ∧ s_2 ≤ (↑(ByteArray.size s) : Int) ∧ spR s (Int.toNat s_2) = spR s (Int.toNat i)) ∧ ByteArray.size s - Int.toNat s_2 < ByteArray.size s - Int.toNat s_1 ∧ True))) ∧ (stW s (Int.toNat s_1) (mkS [(47 : Nat), (47 : Nat)]) = false → mkS [(47 : Nat), (42 : Nat)] = mkS [(47 : Nat), (42 : Nat)] ∧ s = s ∧ s_1 = s_1 ∧ (0 : Int) = (0 : Int) ∧ (0 : Int) = (0 : Int) ∧ ((0 : Int) ≤ s_1 ∧ s_1 ≤ (↑(ByteArray.size s) : Int) ∧ ByteArray.size s < (100000 : Nat) ∧ ByteArray.size (mkS [(47 : Nat), (42 : Nat)]) < (1000 : Nat)) ∧ (stW s (Int.toNat s_1) (mkS [(47 : Nat), (42 : Nat)]) = true → ((-9223372036854775808 : Int) ≤ s_1 + (2 : Int) ∧ s_1 + (2 : Int) ≤ (9223372036854775807 : Int)) ∧ (s_1 = s_1 ∧ s = s ∧ s_1 + (2 : Int) = s_1 + (2 : Int) ∧ (0 : Int) = (0 : Int) ∧ (0 : Int) = (0 : Int) ∧ (s_1 + (2 : Int) ≤ s_1 + (2 : Int) ∧ s_1 + (2 : Int) ≤ (↑(ByteArray.size s) : Int) ∧ cl s (Int.toNat (s_1 + (2 : Int))) = cl s (Int.toNat (s_1 + (2 : Int)))) ∧ True) ∧ ∀ (s_2 : Int), s_1 + (2 : Int) ≤ s_2 ∧ s_2 ≤ (↑(ByteArray.size s) : Int) ∧ cl s (Int.toNat s_2) = cl s (Int.toNat (s_1 + (2 : Int))) → (decide (s_2 < (↑(ByteArray.size s) : Int)) = true → decide (s_2 < (↑(ByteArray.size s) : Int)) = decide (s_2 < (↑(ByteArray.size s) : Int)) ∧ mkS [(42 : Nat), (47 : Nat)] = mkS [(42 : Nat), (47 : Nat)] ∧ s = s ∧ s_2 = s_2 ∧ (0 : Int) = (0 : Int) ∧ (0 : Int) = (0 : Int) ∧ ((0 : Int) ≤ s_2 ∧ s_2 ≤ (↑(ByteArray.size s) : Int) ∧ ByteArray.size s < (100000 : Nat) ∧ ByteArray.size (mkS [(42 : Nat), (47 : Nat)]) < (1000 : Nat)) ∧ decide (s_2 < (↑(ByteArray.size s) : Int)) = decide (s_2 < (↑(ByteArray.size s) : Int)) ∧ (decide (s_2 < (↑(ByteArray.size s) : Int)) = true → ((!stW s (Int.toNat s_2) (mkS [(42 : Nat), (47 : Nat)])) = true → ((-9223372036854775808 : Int) ≤ s_2 + (1 : Int) ∧ s_2 + (1 : Int) ≤ (9223372036854775807 : Int)) ∧ s_1 = s_1 ∧ s = s ∧ s_2 + (1 : Int) = s_2 + (1 : Int) ∧ (0 : Int) = (0 : Int) ∧ (0 : Int) = (0 : Int) ∧ (s_1 + (2 : Int) ≤ s_2 + (1 : Int) ∧ s_2 + (1 : Int) ≤ (↑(ByteArray.size s) : Int) ∧ cl s (Int.toNat (s_2 + (1 : Int))) = cl s (Int.toNat (s_1 + (2 : Int)))) ∧ ByteArray.size s - Int.toNat (s_2 + (1 : Int)) < ByteArray.size s - Int.toNat s_2 ∧ True) ∧ ((!stW s (Int.toNat s_2) (mkS [(42 : Nat), (47 : Nat)])) = false → (decide ((↑(ByteArray.size s) : Int) ≤ s_2) = true → (2 : Int) = (2 : Int) ∧ s_1 = s_1 ∧ s = s ∧ s_2 = s_2 ∧ (0 : Int) = (0 : Int) ∧ (0 : Int) = (0 : Int) ∧ True ∧ s = s ∧ Int.ofNat (spI s (Int.toNat i)) = s_2 ∧ Int.ofNat (spN s (Int.toNat i) (2 : Nat)) = (2 : Int) ∧ Int.ofNat (spN s (Int.toNat i) (Prod.snd (spR s (Int.toNat i)))) = s_1 ∧ True) ∧ (decide ((↑(ByteArray.size s) : Int) ≤ s_2) = false → ((-9223372036854775808 : Int) ≤ s_2 + (2 : Int) ∧ s_2 + (2 : Int) ≤ (9223372036854775807 : Int)) ∧ s = s ∧ s_2 + (2 : Int) = s_2 + (2 : Int) ∧ (0 : Int) = (0 : Int) ∧ (0 : Int) = (0 : Int) ∧ ((0 : Int) ≤ s_2 + (2 : Int) ∧ s_2 + (2 : Int) ≤ (↑(ByteArray.size s) : Int) ∧ spR s (Int.toNat (s_2 + (2 : Int))) = spR s (Int.toNat i)) ∧ ByteArray.size s - Int.toNat (s_2 + (2 : Int)) < ByteArray.size s - Int.toNat s_1 ∧ True))) ∧ (decide (s_2 < (↑(ByteArray.size s) : Int)) = false → (decide ((↑(ByteArray.size s) : Int) ≤ s_2) = true → (2 : Int) = (2 : Int) ∧ s_1 = s_1 ∧ s = s ∧ s_2 = s_2 ∧ (0 : Int) = (0 : Int) ∧ (0 : Int) = (0 : Int) ∧ True ∧ s = s ∧ Int.ofNat (spI s (Int.toNat i)) = s_2 ∧ Int.ofNat (spN s (Int.toNat i) (2 : Nat)) = (2 : Int) ∧ Int.ofNat (spN s (Int.toNat i) (Prod.snd (spR s (Int.toNat i)))) = s_1 ∧ True) ∧ (decide ((↑(ByteArray.size s) : Int) ≤ s_2) = false → ((-9223372036854775808 : Int) ≤ s_2 + (2 : Int) ∧ s_2 + (2 : Int) ≤ (9223372036854775807 : Int)) ∧ s = s ∧ s_2 + (2 : Int) = s_2 + (2 : Int) ∧ (0 : Int) = (0 : Int) ∧ (0 : Int) = (0 : Int) ∧ ((0 : Int) ≤ s_2 + (2 : Int) ∧ s_2 + (2 : Int) ≤ (↑(ByteArray.size s) : Int) ∧ spR s (Int.toNat (s_2 + (2 : Int))) = spR s (Int.toNat i)) ∧ ByteArray.size s - Int.toNat (s_2 + (2 : Int)) < ByteArray.size s - Int.toNat s_1 ∧ True))) ∧ (decide (s_2 < (↑(ByteArray.size s) : Int)) = false → decide (s_2 < (↑(ByteArray.size s) : Int)) = decide (s_2 < (↑(ByteArray.size s) : Int)) ∧ decide (s_2 < (↑(ByteArray.size s) : Int)) = decide (s_2 < (↑(ByteArray.size s) : Int)) ∧ (decide (s_2 < (↑(ByteArray.size s) : Int)) = true → False) ∧ (decide (s_2 < (↑(ByteArray.size s) : Int)) = false → (decide ((↑(ByteArray.size s) : Int) ≤ s_2) = true → (2 : Int) = (2 : Int) ∧ s_1 = s_1 ∧ s = s ∧ s_2 = s_2 ∧ (0 : Int) = (0 : Int) ∧ (0 : Int) = (0 : Int) ∧ True ∧ s = s ∧ Int.ofNat (spI s (Int.toNat i)) = s_2 ∧ Int.ofNat (spN s (Int.toNat i) (2 : Nat)) = (2 : Int) ∧ Int.ofNat (spN s (Int.toNat i) (Prod.snd (spR s (Int.toNat i)))) = s_1 ∧ True) ∧ (decide ((↑(ByteArray.size s) : Int) ≤ s_2) = false → ((-9223372036854775808 : Int) ≤ s_2 + (2 : Int) ∧ s_2 + (2 : Int) ≤ (9223372036854775807 : Int)) ∧ s = s ∧ s_2 + (2 : Int) = s_2 + (2 : Int) ∧ (0 : Int) = (0 : Int) ∧ (0 : Int) = (0 : Int) ∧ ((0 : Int) ≤ s_2 + (2 : Int) ∧ s_2 + (2 : Int) ≤ (↑(ByteArray.size s) : Int) ∧ spR s (Int.toNat (s_2 + (2 : Int))) = spR s (Int.toNat i)) ∧ ByteArray.size s - Int.toNat (s_2 + (2 : Int)) < ByteArray.size s - Int.toNat s_1 ∧ True)))) ∧ (stW s (Int.toNat s_1) (mkS [(47 : Nat), (42 : Nat)]) = false → s = s ∧ Int.ofNat (spI s (Int.toNat i)) = s_1 ∧ Int.ofNat (spN s (Int.toNat i) (2 : Nat)) = (0 : Int) ∧ Int.ofNat (spN s (Int.toNat i) (Prod.snd (spR s (Int.toNat i)))) = (0 : Int) ∧ True))))) ∧ (decide ((0 : Int) = (0 : Int)) = false → s = s ∧ Int.ofNat (spI s (Int.toNat i)) = s_1 ∧ Int.ofNat (spN s (Int.toNat i) (2 : Nat)) = (0 : Int) ∧ Int.ofNat (spN s (Int.toNat i) (Prod.snd (spR s (Int.toNat i)))) = (0 : Int) ∧ True)) ∧ (decide (s_1 < (↑(ByteArray.size s) : Int)) = false → s = s ∧ Int.ofNat (spI s (Int.toNat i)) = s_1 ∧ Int.ofNat (spN s (Int.toNat i) (2 : Nat)) = (0 : Int) ∧ Int.ofNat (spN s (Int.toNat i) (Prod.snd (spR s (Int.toNat i)))) = (0 : Int) ∧ True)) ∧ (decide (s_1 < (↑(ByteArray.size s) : Int)) = false → decide (s_1 < (↑(ByteArray.size s) : Int)) = decide (s_1 < (↑(ByteArray.size s) : Int)) ∧ decide (s_1 < (↑(ByteArray.size s) : Int)) = decide (s_1 < (↑(ByteArray.size s) : Int)) ∧ decide (s_1 < (↑(ByteArray.size s) : Int)) = decide (s_1 < (↑(ByteArray.size s) : Int)) ∧ decide (s_1 < (↑(ByteArray.size s) : Int)) = decide (s_1 < (↑(ByteArray.size s) : Int)) ∧ (decide (s_1 < (↑(ByteArray.size s) : Int)) = true → False) ∧ (decide (s_1 < (↑(ByteArray.size s) : Int)) = false → s = s ∧ Int.ofNat (spI s (Int.toNat i)) = s_1 ∧ Int.ofNat (spN s (Int.toNat i) (2 : Nat)) = (0 : Int) ∧ Int.ofNat (spN s (Int.toNat i) (Prod.snd (spR s (Int.toNat i)))) = (0 : Int) ∧ True))) := by kernel_rfl
theorem tSpaceR_ok : ∀ g C, tSpaceR g = some C → CtOK P g C := ctTab_ok (forall_tab starts_ok (forall_tab fail_ok nil_tab))
theorem spaceR_ok : CtOK P 17 cSpaceR := by
  refine ask_ok mixed tSpaceR_ok (W := wSpaceR) Go.Proofs.Try.func17 (by kernel_rfl) (by decide) (by decide) (fun ⟨s, i⟩ => by kernel_rfl) fun ⟨s, i⟩ => (spaceR_eq s i).mpr ?_
  rintro ⟨h1, h2, h3⟩
  obtain ⟨i, rfl⟩ := Int.eq_ofNat_of_zero_le h1
  refine ⟨⟨rfl, rfl, rfl, rfl, ⟨h1, h2, rfl⟩, trivial⟩, ?_⟩
  rintro j ⟨g1, g2, g3⟩
  obtain ⟨n, rfl⟩ := Int.eq_ofNat_of_zero_le g1
  have hn : n ≤ s.size := by omega
  have step := spR_step s n hn
  have hsp := isSp_of (bat s n)
  simp only [decide_eq_true_eq, decide_eq_false_iff_not, and_true, true_and, Int.toNat_natCast, Int.add_zero, stW2 s n 47 47 (by omega) (by omega) hn, stW2 s n 47 42 (by omega) (by omega) hn, tn1, tn2, sz2] at g3 ⊢
  have spc : isSp (bat s n) = true → spR s (n + 1) = spR s i ∧ n + 1 ≤ s.size := fun q => by
    have := isSp_pos q
    rw [if_pos q] at step
    exact ⟨step ▸ g3, by omega⟩
  have fin : spR s n = (true, n) → Int.ofNat (spI s i) = (n : Int) ∧ Int.ofNat (spN s i 2) = 0 ∧ Int.ofNat (spN s i (spR s i).2) = 0 := fun h => by
    rw [g3] at h
    unfold spI spN
    rw [h]; exact ⟨rfl, rfl, rfl⟩
  have no : spR s n = (false, n) → ∀ k : Int, k = s.size → Int.ofNat (spI s i) = k ∧ Int.ofNat (spN s i 2) = 2 ∧ Int.ofNat (spN s i (spR s i).2) = (n : Int) := fun h k hk => by
    rw [g3] at h
    unfold spI spN
    rw [h, hk]; exact ⟨rfl, rfl, rfl⟩
  refine ⟨fun a0 => ⟨fun _ => ⟨fun _ => ⟨by omega, fun a1 => ⟨fun a2 => ?a, fun a2 => ⟨fun a3 => ?b, fun a3 => ?x⟩⟩, fun a1 => ⟨fun a3 => ?c, fun a3 => ?y⟩⟩, fun h => absurd trivial h⟩, fun h => absurd a0 h⟩, fun a0 => ⟨fun h => absurd h a0, fun _ => fin ?_⟩⟩
  case a | b | c =>
    obtain ⟨q1, q2⟩ := spc (hsp.mpr (by omega))
    exact ⟨by omega, ⟨by omega, by omega, q1⟩, by omega⟩
  case x | y =>
    have ns : ¬ isSp (bat s n) = true := fun q => by have := hsp.mp q; omega
    rw [if_neg ns] at step
    refine ⟨by omega, fun c1 => ⟨by omega, ?_⟩, fun c1 => ⟨by omega, fun c2 => ⟨by omega, ?_, ?_⟩, fun c2 => ?_⟩⟩
    · rw [if_pos c1] at step
      rintro k ⟨k1, k2, k3⟩
      obtain ⟨m, rfl⟩ := Int.eq_ofNat_of_zero_le (show 0 ≤ k by omega)
      have es := eol_step s m
      have gt := eol_gt s n c1
      simp only [Int.toNat_natCast, tn1, Bool.not_eq_true', Bool.not_eq_false', decide_eq_true_eq, decide_eq_false_iff_not] at k3 ⊢
      have stop : eol s m = m → (0 ≤ (m : Int) ∧ (m : Int) ≤ s.size ∧ spR s m = spR s i) ∧ s.size - m < s.size - n := fun h => by
        rw [← k3, h] at step
        exact ⟨⟨by omega, by omega, step ▸ g3⟩, by omega⟩
      refine ⟨fun d1 => ⟨by omega, fun _ => ⟨fun d2 => ?_, fun d2 => stop ?_⟩, fun h => absurd d1 h⟩, fun d1 => ⟨fun h => absurd h d1, fun _ => stop ?_⟩⟩
      · rw [if_pos ⟨by omega, by omega⟩] at es
        exact ⟨by omega, ⟨by omega, by omega, by rw [← es, k3]⟩, by omega⟩
      · rw [es, if_neg (by omega)]
      · rw [es, if_neg (by omega)]
    · have := bat_pos (s := s) (k := n + 1) (by omega)
      omega
    · have hb := bat_pos (s := s) (k := n + 1) (by omega)
      rw [if_neg c1, if_pos c2] at step
      rintro k ⟨k1, k2, k3⟩
      obtain ⟨m, rfl⟩ := Int.eq_ofNat_of_zero_le (show 0 ≤ k by omega)
      have hm : m ≤ s.size := by omega
      simp only [Int.toNat_natCast, tn1, tn2, stW2 s m 42 47 (by omega) (by omega) hm, Bool.not_eq_true', Bool.not_eq_false', decide_eq_true_eq, decide_eq_false_iff_not] at k3 ⊢
      have none_ : s.size ≤ m → spR s n = (false, n) := fun h => by
        rw [step, ← k3, cl_end s m h]
      have some_ : m < s.size → (bat s m = 42 ∧ bat s (m + 1) = 47) → (0 ≤ (m : Int) + 2 ∧ (m : Int) + 2 ≤ s.size ∧ spR s (m + 2) = spR s i) ∧ s.size - (m + 2) < s.size - n := fun h h' => by
        have hp := bat_pos (s := s) (k := m + 1) (by omega)
        have e : cl s m = some m := by rw [cl_step s m h, if_pos h']
        rw [← k3, e] at step
        have step : spR s n = spR s (m + 2) := step
        exact ⟨⟨by omega, by omega, step ▸ g3⟩, by omega⟩
      refine ⟨fun d1 => ⟨by omega, fun _ => ⟨fun d2 => ?_, fun d2 => ⟨fun d3 => absurd d1 (by omega), fun d3 => ⟨by omega, some_ (by omega) d2⟩⟩⟩, fun h => absurd d1 h⟩, fun d1 => ⟨fun h => absurd h d1, fun _ => ⟨fun d3 => no (none_ (by omega)) _ (by omega), fun d3 => absurd d1 (by omega)⟩⟩⟩
      have cs := cl_step s m (by omega)
      rw [if_neg d2] at cs
      exact ⟨by omega, ⟨by omega, by omega, by rw [← cs, k3]⟩, by omega⟩
    · rw [if_neg c1, if_neg c2] at step
      exact fin step
  · have hb := bat_out (s := s) (j := n) (by omega)
    have hb1 := bat_out (s := s) (j := n + 1) (by omega)
    rw [step, if_neg (by rw [hsp]; omega), if_neg (by omega), if_neg (by omega)]
theorem dgP_step (s : ByteArray) (B j v : Nat) (hB : B ≤ 16) : dgP s B j v = if dv (bat s j) < B then if 18446744073709551616 ≤ v * B + dv (bat s j) then j else dgP s B (j + 1) (v * B + dv (bat s j)) else j := by
  unfold dgP
  cases h : s.size - j with
  | zero =>
    rw [bat_out (by omega), if_neg (by show ¬ (16 < B); omega)]; rfl
  | succ f => rw [dgG, show s.size - (j + 1) = f by omega]
theorem dgE_ge (s : ByteArray) (B : Nat) (hB : B ≤ 16) (h1 : 1 ≤ B) : ∀ (f j v : Nat), s.size - j = f → v ≤ (dgE s B j v).2
  | 0, j, v, hf => by rw [dgE, hf, dgF]; exact Nat.le_refl _
  | f + 1, j, v, hf => by
    rw [dgE_step s B j v hB]
    split
    · have := dgE_ge s B hB h1 f (j + 1) (v * B + dv (bat s j)) (by omega)
      have : v ≤ v * B := Nat.le_mul_of_pos_right v h1
      omega
    · exact Nat.le_refl _
theorem nbS_at (s : ByteArray) (i : Nat) : dgE s (nbB s i) (nbS s i) 0 = dgE s (nbB s i) (i + nbO s i) 0 := by
  unfold nbS nbO
  by_cases h : bat s i = 48
  · have eB : nbB s i = if dv (bat s (i + 2)) < 16 ∧ (bat s (i + 1) = 120 ∨ bat s (i + 1) = 88) then 16 else 8 := by unfold nbB; rw [if_pos h]
    rw [if_pos h]
    by_cases h2 : dv (bat s (i + 2)) < 16 ∧ (bat s (i + 1) = 120 ∨ bat s (i + 1) = 88)
    · rw [eB, if_pos h2, if_pos h2, if_pos rfl]
    · rw [eB, if_neg h2, if_neg h2, if_neg (by omega), dgE_step s 8 i 0 (by omega), h]
      have : dv 48 = 0 := rfl
      rw [this, if_pos (by omega)]
  · have eB : nbB s i = 10 := by unfold nbB; rw [if_neg h]
    rw [if_neg h, eB, if_neg (by omega)]; rfl
theorem dvR_of (c : Nat) : (0 ≤ dvR c ↔ dv c < 16) ∧ (dv c < 16 → dvR c = dv c) := by
  unfold dvR; split <;> constructor <;> omega
theorem numberR_eq (s : ByteArray) (i : Int) : askF P (tNumberR) Go.Proofs.Try.f35 cNumberR (wNumberR) ⟨s, i⟩ = ((0 : Int) ≤ i ∧ i < (↑(ByteArray.size s) : Int) ∧ ByteArray.size s < (100000 : Nat) ∧ isDig (bat s (Int.toNat i)) = true → (mkS [(48 : Nat), (120 : Nat)] = mkS [(48 : Nat), (120 : Nat)] ∧ s = s ∧ i = i ∧ (0 : Int) = (0 : Int) ∧ (0 : Int) = (0 : Int) ∧ ((0 : Int) ≤ i ∧ i ≤ (↑(ByteArray.size s) : Int) ∧ ByteArray.size s < (100000 : Nat) ∧ ByteArray.size (mkS [(48 : Nat), (120 : Nat)]) < (1000 : Nat)) ∧ (stW s (Int.toNat i) (mkS [(48 : Nat), (120 : Nat)]) = true → (2 : Int) = (2 : Int) ∧ s = s ∧ i = i ∧ (0 : Int) = (0 : Int) ∧ (0 : Int) = (0 : Int) ∧ ((0 : Int) ≤ i ∧ i ≤ (↑(ByteArray.size s) : Int) ∧ ByteArray.size s < (1000000 : Nat) ∧ (0 : Int) ≤ (2 : Int) ∧ (2 : Int) < (1000000 : Int)) ∧ (↑(bat s (Int.toNat (i + (2 : Int)))) : Int) = (↑(bat s (Int.toNat (i + (2 : Int)))) : Int) ∧ ((0 : Int) ≤ (↑(bat s (Int.toNat (i + (2 : Int)))) : Int) ∧ (↑(bat s (Int.toNat (i + (2 : Int)))) : Int) < (256 : Int)) ∧ (decide ((0 : Int) ≤ dvR (Int.toNat (↑(bat s (Int.toNat (i + (2 : Int)))) : Int))) = true → ((-9223372036854775808 : Int) ≤ i + (2 : Int) ∧ i + (2 : Int) ≤ (9223372036854775807 : Int)) ∧ i = i ∧ (↑(nbB s (Int.toNat i)) : Int) = (16 : Int) ∧ s = s ∧ (↑(nbS s (Int.toNat i)) : Int) = i + (2 : Int) ∧ (0 : Int) = (0 : Int) ∧ (0 : Int) = (0 : Int) ∧ True ∧ True) ∧ (decide ((0 : Int) ≤ dvR (Int.toNat (↑(bat s (Int.toNat (i + (2 : Int)))) : Int))) = false → ((0 : Int) ≤ i ∧ i < (↑(ByteArray.size s) : Int)) ∧ (decide ((↑(bat s (Int.toNat i)) : Int) = (48 : Int)) = true → i = i ∧ (↑(nbB s (Int.toNat i)) : Int) = (8 : Int) ∧ s = s ∧ (↑(nbS s (Int.toNat i)) : Int) = i ∧ (0 : Int) = (0 : Int) ∧ (0 : Int) = (0 : Int) ∧ True ∧ True) ∧ (decide ((↑(bat s (Int.toNat i)) : Int) = (48 : Int)) = false → i = i ∧ (↑(nbB s (Int.toNat i)) : Int) = (10 : Int) ∧ s = s ∧ (↑(nbS s (Int.toNat i)) : Int) = i ∧ (0 : Int) = (0 : Int) ∧ (0 : Int) = (0 : Int) ∧ True ∧ True))) ∧ (stW s (Int.toNat i) (mkS [(48 : Nat), (120 : Nat)]) = false → mkS [(48 : Nat), (88 : Nat)] = mkS [(48 : Nat), (88 : Nat)] ∧ s = s ∧ i = i ∧ (0 : Int) = (0 : Int) ∧ (0 : Int) = (0 : Int) ∧ ((0 : Int) ≤ i ∧ i ≤ (↑(ByteArray.size s) : Int) ∧ ByteArray.size s < (100000 : Nat) ∧ ByteArray.size (mkS [(48 : Nat), (88 : Nat)]) < (1000 : Nat)) ∧ (stW s (Int.toNat i) (mkS [(48 : Nat), (88 : Nat)]) = true → (2 : Int) = (2 : Int) ∧ s = s ∧ i = i ∧ (0 : Int) = (0 : Int) ∧ (0 : Int) = (0 : Int) ∧ ((0 : Int) ≤ i ∧ i ≤ (↑(ByteArray.size s) : Int) ∧ ByteArray.size s < (1000000 : Nat) ∧ (0 : Int) ≤ (2 : Int) ∧ (2 : Int) < (1000000 : Int)) ∧ (↑(bat s (Int.toNat (i + (2 : Int)))) : Int) = (↑(bat s (Int.toNat (i + (2 : Int)))) : Int) ∧ ((0 : Int) ≤ (↑(bat s (Int.toNat (i + (2 : Int)))) : Int) ∧ (↑(bat s (Int.toNat (i + (2 : Int)))) : Int) < (256 : Int)) ∧ (decide ((0 : Int) ≤ dvR (Int.toNat (↑(bat s (Int.toNat (i + (2 : Int)))) : Int))) = true → ((-9223372036854775808 : Int) ≤ i + (2 : Int) ∧ i + (2 : Int) ≤ (9223372036854775807 : Int)) ∧ i = i ∧ (↑(nbB s (Int.toNat i)) : Int) = (16 : Int) ∧ s = s ∧ (↑(nbS s (Int.toNat i)) : Int) = i + (2 : Int) ∧ (0 : Int) = (0 : Int) ∧ (0 : Int) = (0 : Int) ∧ True ∧ True) ∧ (decide ((0 : Int) ≤ dvR (Int.toNat (↑(bat s (Int.toNat (i + (2 : Int)))) : Int))) = false → ((0 : Int) ≤ i ∧ i < (↑(ByteArray.size s) : Int)) ∧ (decide ((↑(bat s (Int.toNat i)) : Int) = (48 : Int)) = true → i = i ∧ (↑(nbB s (Int.toNat i)) : Int) = (8 : Int) ∧ s = s ∧ (↑(nbS s (Int.toNat i)) : Int) = i ∧ (0 : Int) = (0 : Int) ∧ (0 : Int) = (0 : Int) ∧ True ∧ True) ∧ (decide ((↑(bat s (Int.toNat i)) : Int) = (48 : Int)) = false → i = i ∧ (↑(nbB s (Int.toNat i)) : Int) = (10 : Int) ∧ s = s ∧ (↑(nbS s (Int.toNat i)) : Int) = i ∧ (0 : Int) = (0 : Int) ∧ (0 : Int) = (0 : Int) ∧ True ∧ True))) ∧ (stW s (Int.toNat i) (mkS [(48 : Nat), (88 : Nat)]) = false → ((0 : Int) ≤ i ∧ i < (↑(ByteArray.size s) : Int)) ∧ (decide ((↑(bat s (Int.toNat i)) : Int) = (48 : Int)) = true → i = i ∧ (↑(nbB s (Int.toNat i)) : Int) = (8 : Int) ∧ s = s ∧ (↑(nbS s (Int.toNat i)) : Int) = i ∧ (0 : Int) = (0 : Int) ∧ (0 : Int) = (0 : Int) ∧ True ∧ True) ∧ (decide ((↑(bat s (Int.toNat i)) : Int) = (48 : Int)) = false → i = i ∧ (↑(nbB s (Int.toNat i)) : Int) = (10 : Int) ∧ s = s ∧ (↑(nbS s (Int.toNat i)) : Int) = i ∧ (0 : Int) = (0 : Int) ∧ (0 : Int) = (0 : Int) ∧ True ∧ True)))) ∧ ∀ (s_1 : Unit), True → (i = i ∧ (0 : Int) = (0 : Int) ∧ (↑(nbB s (Int.toNat i)) : Int) = (↑(nbB s (Int.toNat i)) : Int) ∧ s = s ∧ (↑(nbS s (Int.toNat i)) : Int) = (↑(nbS s (Int.toNat i)) : Int) ∧ (0 : Int) = (0 : Int) ∧ (0 : Int) = (0 : Int) ∧ (∃ (V : Nat), (0 : Int) = (↑V : Int) ∧ V < (18446744073709551616 : Nat) ∧ (0 : Int) ≤ (↑(nbS s (Int.toNat i)) : Int) ∧ i ≤ (↑(nbS s (Int.toNat i)) : Int) ∧ (↑(nbS s (Int.toNat i)) : Int) ≤ (↑(ByteArray.size s) : Int) ∧ dgE s (nbB s (Int.toNat i)) (Int.toNat (↑(nbS s (Int.toNat i)) : Int)) V = dgE s (nbB s (Int.toNat i)) (nbS s (Int.toNat i)) (0 : Nat) ∧ dgP s (nbB s (Int.toNat i)) (Int.toNat (↑(nbS s (Int.toNat i)) : Int)) V = nbI s (Int.toNat i)) ∧ True) ∧ ∀ (s_2 : Int × Int), (∃ (V : Nat), Prod.fst s_2 = (↑V : Int) ∧ V < (18446744073709551616 : Nat) ∧ (0 : Int) ≤ Prod.snd s_2 ∧ i ≤ Prod.snd s_2 ∧ Prod.snd s_2 ≤ (↑(ByteArray.size s) : Int) ∧ dgE s (nbB s (Int.toNat i)) (Int.toNat (Prod.snd s_2)) V = dgE s (nbB s (Int.toNat i)) (nbS s (Int.toNat i)) (0 : Nat) ∧ dgP s (nbB s (Int.toNat i)) (Int.toNat (Prod.snd s_2)) V = nbI s (Int.toNat i)) → (decide (s_2.2 < (↑(ByteArray.size s) : Int)) = true → ((0 : Int) ≤ s_2.2 ∧ s_2.2 < (↑(ByteArray.size s) : Int)) ∧ (↑(bat s (Int.toNat s_2.2)) : Int) = (↑(bat s (Int.toNat s_2.2)) : Int) ∧ ((0 : Int) ≤ (↑(bat s (Int.toNat s_2.2)) : Int) ∧ (↑(bat s (Int.toNat s_2.2)) : Int) < (256 : Int)) ∧ (decide (dvR (Int.toNat (↑(bat s (Int.toNat s_2.2)) : Int)) < (0 : Int)) = true → (0 : Int) = (0 : Int) ∧ s = s ∧ s_2.2 = s_2.2 ∧ (0 : Int) = (0 : Int) ∧ (0 : Int) = (0 : Int) ∧ ((0 : Int) ≤ s_2.2 ∧ s_2.2 ≤ (↑(ByteArray.size s) : Int) ∧ ByteArray.size s < (1000000 : Nat) ∧ (0 : Int) ≤ (0 : Int) ∧ (0 : Int) < (1000000 : Int)) ∧ (↑(bat s (Int.toNat (s_2.2 + (0 : Int)))) : Int) = (↑(bat s (Int.toNat (s_2.2 + (0 : Int)))) : Int) ∧ ((0 : Int) ≤ (↑(bat s (Int.toNat (s_2.2 + (0 : Int)))) : Int) ∧ (↑(bat s (Int.toNat (s_2.2 + (0 : Int)))) : Int) < (256 : Int)) ∧ (isLet (Int.toNat (↑(bat s (Int.toNat (s_2.2 + (0 : Int)))) : Int)) = true → (2 : Int) = (2 : Int) ∧ i = i ∧ s = s ∧ s_2.2 = s_2.2 ∧ (0 : Int) = (0 : Int) ∧ (0 : Int) = (0 : Int) ∧ True ∧ (↑(nbK (Prod.fst (nbR s (Int.toNat i))) (2 : Nat)) : Int) = (↑(0 : Nat) : Int) ∧ mkS [] = mkS [] ∧ (↑(Prod.fst (Prod.snd (nbR s (Int.toNat i)))) : Int) = (↑(0 : Nat) : Int) ∧ (↑(nbK (Prod.fst (nbR s (Int.toNat i))) (Int.toNat i)) : Int) = (↑(0 : Nat) : Int) ∧ s = s ∧ Int.ofNat (nbI s (Int.toNat i)) = s_2.2 ∧ Int.ofNat (Prod.fst (nbR s (Int.toNat i))) = (2 : Int) ∧ Int.ofNat (erN (Prod.fst (nbR s (Int.toNat i))) (Int.toNat i)) = i ∧ True) ∧ (isLet (Int.toNat (↑(bat s (Int.toNat (s_2.2 + (0 : Int)))) : Int)) = false → (↑(bat s (Int.toNat (s_2.2 + (0 : Int)))) : Int) = (↑(bat s (Int.toNat (s_2.2 + (0 : Int)))) : Int) ∧ ((0 : Int) ≤ (↑(bat s (Int.toNat (s_2.2 + (0 : Int)))) : Int) ∧ (↑(bat s (Int.toNat (s_2.2 + (0 : Int)))) : Int) < (256 : Int)) ∧ (isDig (Int.toNat (↑(bat s (Int.toNat (s_2.2 + (0 : Int)))) : Int)) = true → (2 : Int) = (2 : Int) ∧ i = i ∧ s = s ∧ s_2.2 = s_2.2 ∧ (0 : Int) = (0 : Int) ∧ (0 : Int) = (0 : Int) ∧ True ∧ (↑(nbK (Prod.fst (nbR s (Int.toNat i))) (2 : Nat)) : Int) = (↑(0 : Nat) : Int) ∧ mkS [] = mkS [] ∧ (↑(Prod.fst (Prod.snd (nbR s (Int.toNat i)))) : Int) = (↑(0 : Nat) : Int) ∧ (↑(nbK (Prod.fst (nbR s (Int.toNat i))) (Int.toNat i)) : Int) = (↑(0 : Nat) : Int) ∧ s = s ∧ Int.ofNat (nbI s (Int.toNat i)) = s_2.2 ∧ Int.ofNat (Prod.fst (nbR s (Int.toNat i))) = (2 : Int) ∧ Int.ofNat (erN (Prod.fst (nbR s (Int.toNat i))) (Int.toNat i)) = i ∧ True) ∧ (isDig (Int.toNat (↑(bat s (Int.toNat (s_2.2 + (0 : Int)))) : Int)) = false → (decide ((↑(bat s (Int.toNat (s_2.2 + (0 : Int)))) : Int) = (46 : Int)) = true → (2 : Int) = (2 : Int) ∧ i = i ∧ s = s ∧ s_2.2 = s_2.2 ∧ (0 : Int) = (0 : Int) ∧ (0 : Int) = (0 : Int) ∧ True ∧ (↑(nbK (Prod.fst (nbR s (Int.toNat i))) (2 : Nat)) : Int) = (↑(0 : Nat) : Int) ∧ mkS [] = mkS [] ∧ (↑(Prod.fst (Prod.snd (nbR s (Int.toNat i)))) : Int) = (↑(0 : Nat) : Int) ∧ (↑(nbK (Prod.fst (nbR s (Int.toNat i))) (Int.toNat i)) : Int) = (↑(0 : Nat) : Int) ∧ s = s ∧ Int.ofNat (nbI s (Int.toNat i)) = s_2.2 ∧ Int.ofNat (Prod.fst (nbR s (Int.toNat i))) = (2 : Int) ∧ Int.ofNat (erN (Prod.fst (nbR s (Int.toNat i))) (Int.toNat i)) = i ∧ True) ∧ (decide ((↑(bat s (Int.toNat (s_2.2 + (0 : Int)))) : Int) = (46 : Int)) = false → (↑(nbK (Prod.fst (nbR s (Int.toNat i))) (2 : Nat)) : Int) = (2 : Int) ∧ mkS [] = mkS [] ∧ (↑(Prod.fst (Prod.snd (nbR s (Int.toNat i)))) : Int) = s_2.1 ∧ (↑(nbK (Prod.fst (nbR s (Int.toNat i))) (Int.toNat i)) : Int) = i ∧ s = s ∧ Int.ofNat (nbI s (Int.toNat i)) = s_2.2 ∧ Int.ofNat (Prod.fst (nbR s (Int.toNat i))) = (0 : Int) ∧ Int.ofNat (erN (Prod.fst (nbR s (Int.toNat i))) (Int.toNat i)) = (0 : Int) ∧ True)))) ∧ (decide (dvR (Int.toNat (↑(bat s (Int.toNat s_2.2)) : Int)) < (0 : Int)) = false → (decide ((↑(nbB s (Int.toNat i)) : Int) ≤ IntKind.wrap IntKind.u64 (dvR (Int.toNat (↑(bat s (Int.toNat s_2.2)) : Int)))) = true → (0 : Int) = (0 : Int) ∧ s = s ∧ s_2.2 = s_2.2 ∧ (0 : Int) = (0 : Int) ∧ (0 : Int) = (0 : Int) ∧ ((0 : Int) ≤ s_2.2 ∧ s_2.2 ≤ (↑(ByteArray.size s) : Int) ∧ ByteArray.size s < (1000000 : Nat) ∧ (0 : Int) ≤ (0 : Int) ∧ (0 : Int) < (1000000 : Int)) ∧ (↑(bat s (Int.toNat (s_2.2 + (0 : Int)))) : Int) = (↑(bat s (Int.toNat (s_2.2 + (0 : Int)))) : Int) ∧ ((0 : Int) ≤ (↑(bat s (Int.toNat (s_2.2 + (0 : Int)))) : Int) ∧ (↑(bat s (Int.toNat (s_2.2 + (0 : Int)))) : Int) < (256 : Int)) ∧ (isLet (Int.toNat (↑(bat s (Int.toNat (s_2.2 + (0 : Int)))) : Int)) = true → (2 : Int) = (2 : Int) ∧ i = i ∧ s = s ∧ s_2.2 = s_2.2 ∧ (0 : Int) = (0 : Int) ∧ (0 : Int) = (0 : Int) ∧ True ∧ (↑(nbK (Prod.fst (nbR s (Int.toNat i))) (2 : Nat)) : Int) = (↑(0 : Nat) : Int) ∧ mkS [] = mkS [] ∧ (↑(Prod.fst (Prod.snd (nbR s (Int.toNat i)))) : Int) = (↑(0 : Nat) : Int) ∧ (↑(nbK (Prod.fst (nbR s (Int.toNat i))) (Int.toNat i)) : Int) = (↑(0 : Nat) : Int) ∧ s = s ∧ Int.ofNat (nbI s (Int.toNat i)) = s_2.2 ∧ Int.ofNat (Prod.fst (nbR s (Int.toNat i))) = (2 : Int) ∧ Int.ofNat (erN (Prod.fst (nbR s (Int.toNat i))) (Int.toNat i)) = i ∧ True) ∧ (isLet (Int.toNat (↑(bat s (Int.toNat (s_2.2 + (0 : Int)))) : Int)) = false → (↑(bat s (Int.toNat (s_2.2 + (0 : Int)))) : Int) = (↑(bat s (Int.toNat (s_2.2 + (0 : Int)))) : Int) ∧ ((0 : Int) ≤ (↑(bat s (Int.toNat (s_2.2 + (0 : Int)))) : Int) ∧ (↑(bat s (Int.toNat (s_2.2 + (0 : Int)))) : Int) < (256 : Int)) ∧ (isDig (Int.toNat (↑(bat s (Int.toNat (s_2.2 + (0 : Int)))) : Int)) = true → (2 : Int) = (2 : Int) ∧ i = i ∧ s = s ∧ s_2.2 = s_2.2 ∧ (0 : Int) = (0 : Int) ∧ (0 : Int) = (0 : Int) ∧ True ∧ (↑(nbK (Prod.fst (nbR s (Int.toNat i))) (2 : Nat)) : Int) = (↑(0 : Nat) : Int) ∧ mkS [] = mkS [] ∧ (↑(Prod.fst (Prod.snd (nbR s (Int.toNat i)))) : Int) = (↑(0 : Nat) : Int) ∧ (↑(nbK (Prod.fst (nbR s (Int.toNat i))) (Int.toNat i)) : Int) = (↑(0 : Nat) : Int) ∧ s = s ∧ Int.ofNat (nbI s (Int.toNat i)) = s_2.2 ∧ Int.ofNat (Prod.fst (nbR s (Int.toNat i))) = (2 : Int) ∧ Int.ofNat (erN (Prod.fst (nbR s (Int.toNat i))) (Int.toNat i)) = i ∧ True) ∧ (isDig (Int.toNat (↑(bat s (Int.toNat (s_2.2 + (0 : Int)))) : Int)) = false → (decide ((↑(bat s (Int.toNat (s_2.2 + (0 : Int)))) : Int) = (46 : Int)) = true → (2 : Int) = (2 : Int) ∧ i = i ∧ s = s ∧ s_2.2 = s_2.2 ∧ (0 : Int) = (0 : Int) ∧ (0 : Int) = (0 : Int) ∧ True ∧ (↑(nbK (Prod.fst (nbR s (Int.toNat i))) (2 : Nat)) : Int) = (↑(0 : Nat) : Int) ∧ mkS [] = mkS [] ∧ (↑(Prod.fst (Prod.snd (nbR s (Int.toNat i)))) : Int) = (↑(0 : Nat) : Int) ∧ (↑(nbK (Prod.fst (nbR s (Int.toNat i))) (Int.toNat i)) : Int) = (↑(0 : Nat) : Int) ∧ s = s ∧ Int.ofNat (nbI s (Int.toNat i)) = s_2.2 ∧ Int.ofNat (Prod.fst (nbR s (Int.toNat i))) = (2 : Int) ∧ Int.ofNat (erN (Prod.fst (nbR s (Int.toNat i))) (Int.toNat i)) = i ∧ True) ∧ (decide ((↑(bat s (Int.toNat (s_2.2 + (0 : Int)))) : Int) = (46 : Int)) = false → (↑(nbK (Prod.fst (nbR s (Int.toNat i))) (2 : Nat)) : Int) = (2 : Int) ∧ mkS [] = mkS [] ∧ (↑(Prod.fst (Prod.snd (nbR s (Int.toNat i)))) : Int) = s_2.1 ∧ (↑(nbK (Prod.fst (nbR s (Int.toNat i))) (Int.toNat i)) : Int) = i ∧ s = s ∧ Int.ofNat (nbI s (Int.toNat i)) = s_2.2 ∧ Int.ofNat (Prod.fst (nbR s (Int.toNat i))) = (0 : Int) ∧ Int.ofNat (erN (Prod.fst (nbR s (Int.toNat i))) (Int.toNat i)) = (0 : Int) ∧ True)))) ∧ (decide ((↑(nbB s (Int.toNat i)) : Int) ≤ IntKind.wrap IntKind.u64 (dvR (Int.toNat (↑(bat s (Int.toNat s_2.2)) : Int)))) = false → (↑(nbB s (Int.toNat i)) : Int) ≠ (0 : Int) ∧ (decide (IntKind.wrap IntKind.u64 (Int.tdiv (IntKind.wrap IntKind.u64 ((18446744073709551615 : Int) - IntKind.wrap IntKind.u64 (dvR (Int.toNat (↑(bat s (Int.toNat s_2.2)) : Int))))) (↑(nbB s (Int.toNat i)) : Int)) < s_2.1) = true → (3 : Int) = (3 : Int) ∧ i = i ∧ s = s ∧ s_2.2 = s_2.2 ∧ (0 : Int) = (0 : Int) ∧ (0 : Int) = (0 : Int) ∧ True ∧ (↑(nbK (Prod.fst (nbR s (Int.toNat i))) (2 : Nat)) : Int) = (↑(0 : Nat) : Int) ∧ mkS [] = mkS [] ∧ (↑(Prod.fst (Prod.snd (nbR s (Int.toNat i)))) : Int) = (↑(0 : Nat) : Int) ∧ (↑(nbK (Prod.fst (nbR s (Int.toNat i))) (Int.toNat i)) : Int) = (↑(0 : Nat) : Int) ∧ s = s ∧ Int.ofNat (nbI s (Int.toNat i)) = s_2.2 ∧ Int.ofNat (Prod.fst (nbR s (Int.toNat i))) = (3 : Int) ∧ Int.ofNat (erN (Prod.fst (nbR s (Int.toNat i))) (Int.toNat i)) = i ∧ True) ∧ (decide (IntKind.wrap IntKind.u64 (Int.tdiv (IntKind.wrap IntKind.u64 ((18446744073709551615 : Int) - IntKind.wrap IntKind.u64 (dvR (Int.toNat (↑(bat s (Int.toNat s_2.2)) : Int))))) (↑(nbB s (Int.toNat i)) : Int)) < s_2.1) = false → ((-9223372036854775808 : Int) ≤ s_2.2 + (1 : Int) ∧ s_2.2 + (1 : Int) ≤ (9223372036854775807 : Int)) ∧ i = i ∧ IntKind.wrap IntKind.u64 (IntKind.wrap IntKind.u64 (s_2.1 * (↑(nbB s (Int.toNat i)) : Int)) + IntKind.wrap IntKind.u64 (dvR (Int.toNat (↑(bat s (Int.toNat s_2.2)) : Int)))) = IntKind.wrap IntKind.u64 (IntKind.wrap IntKind.u64 (s_2.1 * (↑(nbB s (Int.toNat i)) : Int)) + IntKind.wrap IntKind.u64 (dvR (Int.toNat (↑(bat s (Int.toNat s_2.2)) : Int)))) ∧ (↑(nbB s (Int.toNat i)) : Int) = (↑(nbB s (Int.toNat i)) : Int) ∧ s = s ∧ s_2.2 + (1 : Int) = s_2.2 + (1 : Int) ∧ (0 : Int) = (0 : Int) ∧ (0 : Int) = (0 : Int) ∧ (∃ (V : Nat), IntKind.wrap IntKind.u64 (IntKind.wrap IntKind.u64 (s_2.1 * (↑(nbB s (Int.toNat i)) : Int)) + IntKind.wrap IntKind.u64 (dvR (Int.toNat (↑(bat s (Int.toNat s_2.2)) : Int)))) = (↑V : Int) ∧ V < (18446744073709551616 : Nat) ∧ (0 : Int) ≤ s_2.2 + (1 : Int) ∧ i ≤ s_2.2 + (1 : Int) ∧ s_2.2 + (1 : Int) ≤ (↑(ByteArray.size s) : Int) ∧ dgE s (nbB s (Int.toNat i)) (Int.toNat (s_2.2 + (1 : Int))) V = dgE s (nbB s (Int.toNat i)) (nbS s (Int.toNat i)) (0 : Nat) ∧ dgP s (nbB s (Int.toNat i)) (Int.toNat (s_2.2 + (1 : Int))) V = nbI s (Int.toNat i)) ∧ ByteArray.size s - Int.toNat (s_2.2 + (1 : Int)) < ByteArray.size s - Int.toNat (Prod.snd s_2) ∧ True)))) ∧ (decide (s_2.2 < (↑(ByteArray.size s) : Int)) = false → (0 : Int) = (0 : Int) ∧ s = s ∧ s_2.2 = s_2.2 ∧ (0 : Int) = (0 : Int) ∧ (0 : Int) = (0 : Int) ∧ ((0 : Int) ≤ s_2.2 ∧ s_2.2 ≤ (↑(ByteArray.size s) : Int) ∧ ByteArray.size s < (1000000 : Nat) ∧ (0 : Int) ≤ (0 : Int) ∧ (0 : Int) < (1000000 : Int)) ∧ (↑(bat s (Int.toNat (s_2.2 + (0 : Int)))) : Int) = (↑(bat s (Int.toNat (s_2.2 + (0 : Int)))) : Int) ∧ ((0 : Int) ≤ (↑(bat s (Int.toNat (s_2.2 + (0 : Int)))) : Int) ∧ (↑(bat s (Int.toNat (s_2.2 + (0 : Int)))) : Int) < (256 : Int)) ∧ (isLet (Int.toNat (↑(bat s (Int.toNat (s_2.2 + (0 : Int)))) : Int)) = true → (2 : Int) = (2 : Int) ∧ i = i ∧ s = s ∧ s_2.2 = s_2.2 ∧ (0 : Int) = (0 : Int) ∧ (0 : Int) = (0 : Int) ∧ True ∧ (↑(nbK (Prod.fst (nbR s (Int.toNat i))) (2 : Nat)) : Int) = (↑(0 : Nat) : Int) ∧ mkS [] = mkS [] ∧ (↑(Prod.fst (Prod.snd (nbR s (Int.toNat i)))) : Int) = (↑(0 : Nat) : Int) ∧ (↑(nbK (Prod.fst (nbR s (Int.toNat i))) (Int.toNat i)) : Int) = (↑(0 : Nat) : Int) ∧ s = s ∧ Int.ofNat (nbI s (Int.toNat i)) = s_2.2 ∧ Int.ofNat (Prod.fst (nbR s (Int.toNat i))) = (2 : Int) ∧ Int.ofNat (erN (Prod.fst (nbR s (Int.toNat i))) (Int.toNat i)) = i ∧ True) ∧ (isLet (Int.toNat (↑(bat s (Int.toNat (s_2.2 + (0 : Int)))) : Int)) = false → (↑(bat s (Int.toNat (s_2.2 + (0 : Int)))) : Int) = (↑(bat s (Int.toNat (s_2.2 + (0 : Int)))) : Int) ∧ ((0 : Int) ≤ (↑(bat s (Int.toNat (s_2.2 + (0 : Int)))) : Int) ∧ (↑(bat s (Int.toNat (s_2.2 + (0 : Int)))) : Int) < (256 : Int)) ∧ (isDig (Int.toNat (↑(bat s (Int.toNat (s_2.2 + (0 : Int)))) : Int)) = true → (2 : Int) = (2 : Int) ∧ i = i ∧ s = s ∧ s_2.2 = s_2.2 ∧ (0 : Int) = (0 : Int) ∧ (0 : Int) = (0 : Int) ∧ True ∧ (↑(nbK (Prod.fst (nbR s (Int.toNat i))) (2 : Nat)) : Int) = (↑(0 : Nat) : Int) ∧ mkS [] = mkS [] ∧ (↑(Prod.fst (Prod.snd (nbR s (Int.toNat i)))) : Int) = (↑(0 : Nat) : Int) ∧ (↑(nbK (Prod.fst (nbR s (Int.toNat i))) (Int.toNat i)) : Int) = (↑(0 : Nat) : Int) ∧ s = s ∧ Int.ofNat (nbI s (Int.toNat i)) = s_2.2 ∧ Int.ofNat (Prod.fst (nbR s (Int.toNat i))) = (2 : Int) ∧ Int.ofNat (erN (Prod.fst (nbR s (Int.toNat i))) (Int.toNat i)) = i ∧ True) ∧ (isDig (Int.toNat (↑(bat s (Int.toNat (s_2.2 + (0 : Int)))) : Int)) = false → (decide ((↑(bat s (Int.toNat (s_2.2 + (0 : Int)))) : Int) = (46 : Int)) = true → (2 : Int) = (2 : Int) ∧ i = i ∧ s = s ∧ s_2.2 = s_2.2 ∧ (0 : Int) = (0 : Int) ∧ (0 : Int) = (0 : Int) ∧ True ∧ (↑(nbK (Prod.fst (nbR s (Int.toNat i))) (2 : Nat)) : Int) = (↑(0 : Nat) : Int) ∧ mkS [] = mkS [] ∧ (↑(Prod.fst (Prod.snd (nbR s (Int.toNat i)))) : Int) = (↑(0 : Nat) : Int) ∧ (↑(nbK (Prod.fst (nbR s (Int.toNat i))) (Int.toNat i)) : Int) = (↑(0 : Nat) : Int) ∧ s = s ∧ Int.ofNat (nbI s (Int.toNat i)) = s_2.2 ∧ Int.ofNat (Prod.fst (nbR s (Int.toNat i))) = (2 : Int) ∧ Int.ofNat (erN (Prod.fst (nbR s (Int.toNat i))) (Int.toNat i)) = i ∧ True) ∧ (decide ((↑(bat s (Int.toNat (s_2.2 + (0 : Int)))) : Int) = (46 : Int)) = false → (↑(nbK (Prod.fst (nbR s (Int.toNat i))) (2 : Nat)) : Int) = (2 : Int) ∧ mkS [] = mkS [] ∧ (↑(Prod.fst (Prod.snd (nbR s (Int.toNat i)))) : Int) = s_2.1 ∧ (↑(nbK (Prod.fst (nbR s (Int.toNat i))) (Int.toNat i)) : Int) = i ∧ s = s ∧ Int.ofNat (nbI s (Int.toNat i)) = s_2.2 ∧ Int.ofNat (Prod.fst (nbR s (Int.toNat i))) = (0 : Int) ∧ Int.ofNat (erN (Prod.fst (nbR s (Int.toNat i))) (Int.toNat i)) = (0 : Int) ∧ True))))) := by kernel_rfl
theorem tNumberR_ok : ∀ g C, tNumberR g = some C → CtOK P g C := ctTab_ok (forall_tab starts_ok (forall_tab fail_ok (forall_tab byteR_ok (forall_tab digR_ok (forall_tab letterR_ok (forall_tab digitR_ok nil_tab))))))
theorem numberR_ok : CtOK P 35 cNumberR := by
  refine ask_ok mixed tNumberR_ok (W := wNumberR) Go.Proofs.Try.func35 (by kernel_rfl) (by decide) (by decide) (fun ⟨s, i⟩ => by kernel_rfl) fun ⟨s, i⟩ => (numberR_eq s i).mpr ?_
  rintro ⟨h1, h2, h3, h4⟩
  obtain ⟨n, rfl⟩ := Int.eq_ofNat_of_zero_le h1
  have hn : n ≤ s.size := by omega
  have hB := nbB_or s n
  have b1 := bat_lt s (n + 1)
  have b2 := bat_lt s (n + 2)
  simp only [decide_eq_true_eq, decide_eq_false_iff_not, and_true, true_and, Int.toNat_natCast, Int.add_zero, tn1, tn2, sz2, stW2 s n 48 120 (by omega) (by omega) hn, stW2 s n 48 88 (by omega) (by omega) hn]
  have d2 := dvR_of (bat s (n + 2))
  have hS : nbS s n ≤ s.size ∧ n ≤ nbS s n := by
    have h := nbO_le s n (by omega)
    unfold nbS
    split
    · rename_i g
      have : nbO s n = 2 := by
        unfold nbB at g; unfold nbO
        split at g
        · split at g
          · rename_i g1 g2; rw [if_pos g1, if_pos g2]
          · omega
        · omega
      omega
    · omega
  have e16 : bat s n = 48 → (bat s (n + 1) = 120 ∨ bat s (n + 1) = 88) → dv (bat s (n + 2)) < 16 → ((nbB s n : Nat) : Int) = 16 ∧ ((nbS s n : Nat) : Int) = (n : Int) + 2 := fun h h' h'' => by
    have e : nbB s n = 16 := by unfold nbB; rw [if_pos h, if_pos ⟨h'', h'⟩]
    have e2 : nbS s n = n + 2 := by unfold nbS; rw [if_pos e]
    omega
  have e8 : bat s n = 48 → ¬ ((bat s (n + 1) = 120 ∨ bat s (n + 1) = 88) ∧ dv (bat s (n + 2)) < 16) → ((nbB s n : Nat) : Int) = 8 ∧ ((nbS s n : Nat) : Int) = (n : Int) := fun h h' => by
    have e : nbB s n = 8 := by unfold nbB; rw [if_pos h, if_neg (fun k => h' ⟨k.2, k.1⟩)]
    have e2 : nbS s n = n := by unfold nbS; rw [if_neg (by omega)]
    omega
  have e10 : ¬ bat s n = 48 → ((nbB s n : Nat) : Int) = 10 ∧ ((nbS s n : Nat) : Int) = (n : Int) := fun h => by
    have e : nbB s n = 10 := by unfold nbB; rw [if_neg h]
    have e2 : nbS s n = n := by unfold nbS; rw [if_neg (by omega)]
    omega
  refine ⟨⟨by omega, fun a1 => ⟨by omega, by omega, fun a2 => ⟨by omega, e16 a1.1 (.inl a1.2) (d2.1.mp a2)⟩, fun a2 => ⟨by omega, fun a3 => e8 a1.1 (fun k => a2 (d2.1.mpr k.2)), fun a3 => absurd a1.1 (by omega)⟩⟩, fun a1 => ⟨by omega, fun a2 => ⟨by omega, by omega, fun a3 => ⟨by omega, e16 a2.1 (.inr a2.2) (d2.1.mp a3)⟩, fun a3 => ⟨by omega, fun a4 => e8 a2.1 (fun k => a3 (d2.1.mpr k.2)), fun a4 => absurd a2.1 (by omega)⟩⟩, fun a2 => ⟨by omega, fun a3 => e8 (by omega) (fun k => by omega), fun a3 => e10 (by omega)⟩⟩⟩, fun _ _ => ⟨⟨0, rfl, by omega, by omega, by omega, by omega, rfl, rfl⟩, ?_⟩⟩
  rintro ⟨v, j⟩ ⟨V, rfl, hV, hj, hij, hj2, inv, inP⟩
  simp only [] at hj hij hj2 inv inP
  obtain ⟨j, rfl⟩ := Int.eq_ofNat_of_zero_le hj
  simp only [Int.toNat_natCast, tn1] at inv inP ⊢
  have bj := bat_lt s j
  have dj := dvR_of (bat s j)
  have stepE := dgE_step s (nbB s n) j V (by omega)
  have stepP := dgP_step s (nbB s n) j V (by omega)
  rw [nbS_at] at inv
  have stop : ¬ dv (bat s j) < nbB s n → (nbR s n = if (isLet (bat s j) || isDig (bat s j) || (bat s j == 46)) = true then (2, 0, n) else (0, V, j)) ∧ Int.ofNat (nbI s n) = (j : Int) := fun hv => by
    rw [if_neg hv] at stepE stepP
    refine ⟨?_, by rw [← inP, stepP]; rfl⟩
    unfold nbR
    rw [← inv, stepE]
    simp only []
    rw [if_neg (by omega)]
  have bad : isLet (bat s j) = true ∨ isDig (bat s j) = true ∨ bat s j = 46 → ¬ dv (bat s j) < nbB s n → nbR s n = (2, 0, n) := fun h hv => by
    rw [(stop hv).1, if_pos (by simpa [or_assoc] using h)]
  have good : isLet (bat s j) = false → isDig (bat s j) = false → ¬ bat s j = 46 → ¬ dv (bat s j) < nbB s n → nbR s n = (0, V, j) := fun a1 a2 a3 hv => by
    rw [(stop hv).1, if_neg (by rw [a1, a2]; simpa using a3)]
  refine ⟨fun hl => ⟨by omega, by omega, fun q1 => ?xp, fun q1 => ⟨fun q2 => ?xq, fun q2 => ⟨by omega, fun q3 => ?xo, fun q3 => ⟨by omega, ?xk, ?xm⟩⟩⟩⟩, fun hl => ?xr⟩
  case xp | xq | xr =>
    have hv : ¬ dv (bat s j) < nbB s n := by
      first
      | (have : ¬ dv (bat s j) < 16 := fun h => absurd (dj.1.mpr h) (by omega)
         omega)
      | (have h16 : dv (bat s j) < 16 := dj.1.mp (by omega)
         rw [dj.2 h16, wrapU] at q2; omega)
      | (rw [bat_out (by omega)]; show ¬ 16 < nbB s n; omega)
    have hI := (stop hv).2
    refine ⟨by omega, by omega, fun a1 => ?_, fun a1 => ⟨by omega, fun a2 => ?_, fun a2 => ⟨fun a3 => ?_, fun a3 => ?_⟩⟩⟩
    · rw [bad (.inl a1) hv]; exact ⟨rfl, rfl, rfl, hI, rfl, rfl⟩
    · rw [bad (.inr (.inl a2)) hv]; exact ⟨rfl, rfl, rfl, hI, rfl, rfl⟩
    · rw [bad (.inr (.inr (by omega))) hv]; exact ⟨rfl, rfl, rfl, hI, rfl, rfl⟩
    · rw [good a1 a2 (by omega) hv]; exact ⟨rfl, rfl, rfl, hI, rfl, rfl⟩
  all_goals
    have h16 : dv (bat s j) < 16 := dj.1.mp (by omega)
    have eW : IntKind.u64.wrap (dvR (bat s j)) = (dv (bat s j) : Nat) := by rw [dj.2 h16, wrapU]; omega
    rw [eW] at q2
    have hv : dv (bat s j) < nbB s n := by omega
    have ov := nbOver V (dv (bat s j)) (nbB s n) hB hv (by omega)
    have hm : V % 18446744073709551616 = V := Nat.mod_eq_of_lt hV
    rw [hm] at ov
    rw [if_pos hv] at stepE stepP
  case xo =>
    rw [eW] at q3
    rw [decide_eq_true q3] at ov
    have hge := of_decide_eq_true ov.symm
    rw [if_pos hge] at stepP
    have hge2 := dgE_ge s (nbB s n) (by omega) (by omega) _ (j + 1) (V * nbB s n + dv (bat s j)) rfl
    have e : nbR s n = (3, 0, n) := by
      unfold nbR
      rw [← inv, stepE]
      simp only []
      rw [if_pos (by omega)]
    rw [e]
    exact ⟨rfl, rfl, rfl, by rw [← inP, stepP]; rfl, rfl, rfl⟩
  case xk =>
    rw [eW] at q3 ⊢
    rw [decide_eq_false q3] at ov
    have hlt := of_decide_eq_false ov.symm
    rw [if_neg hlt] at stepP
    have hp : j < s.size := by omega
    have st := nbStep V (dv (bat s j)) (nbB s n) hB hv
    rw [hm] at st
    refine ⟨V * nbB s n + dv (bat s j), ?_, by omega, by omega, by omega, by omega, ?_, ?_⟩
    · rw [st]; rw [Nat.mod_eq_of_lt (by omega)]
    · rw [nbS_at, ← inv, stepE]
    · rw [← inP, stepP]
  case xm => omega
end Go.Proofs.Ytjjambbdkbpdgaa.Wd
