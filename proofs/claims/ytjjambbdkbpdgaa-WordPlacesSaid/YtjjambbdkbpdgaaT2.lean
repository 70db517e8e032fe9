/-
  What the functions do: contracts, and their questions answered. No condition but what its theorems ask.
-/
import Derived.Test.YtjjambbdkbpdgaaT1
namespace Go.Proofs.Ytjjambbdkbpdgaa.Wd
open Go.Proofs.Ytjjambbdkbpdgaa.Eng Go.Proofs.Ytjjambbdkbpdgaa.Sen Go.RowKit
set_option linter.unusedVariables false
set_option linter.unusedSimpArgs false
set_option maxRecDepth 1000000
theorem tn1 (n : Nat) : ((n : Int) + 1).toNat = n + 1 := by omega
theorem tn2 (n : Nat) : ((n : Int) + 2).toNat = n + 2 := by omega
theorem tnn (n m : Nat) : ((n : Int) + (m : Nat)).toNat = n + m := by omega
theorem dgE_step (s : ByteArray) (B j v : Nat) (hB : B ≤ 16) : dgE s B j v = if dv (bat s j) < B then dgE s B (j + 1) (v * B + dv (bat s j)) else (j, v) := by
  unfold dgE
  cases h : s.size - j with
  | zero =>
    rw [bat_out (by omega), if_neg (by show ¬ (16 < B); omega)]; rfl
  | succ f => rw [dgF, show s.size - (j + 1) = f by omega]
theorem nbB_or (s : ByteArray) (n : Nat) : nbB s n = 8 ∨ nbB s n = 10 ∨ nbB s n = 16 := by
  unfold nbB; split <;> (try split) <;> simp
theorem orx : ∀ c < 256, decide (bitsP BinOp.or IntKind.u8 (c : Nat) 32 = 120) = decide (c = 120 ∨ c = 88) := by decide +kernel
theorem wrapU (x : Int) : IntKind.u64.wrap x = x % 18446744073709551616 := by
  unfold IntKind.wrap; simp [IntKind.bits, IntKind.signed]
theorem nbStep (V v B : Nat) (hB : B = 8 ∨ B = 10 ∨ B = 16) (hv : v < B) : IntKind.u64.wrap (IntKind.u64.wrap (((V % 18446744073709551616 : Nat) : Int) * (B : Nat)) + (v : Nat)) = (((V * B + v) % 18446744073709551616 : Nat) : Int) := by
  rw [wrapU, wrapU]
  rcases hB with rfl | rfl | rfl <;> omega
theorem nbOver (V v B : Nat) (hB : B = 8 ∨ B = 10 ∨ B = 16) (hv : v < B) (hV : ¬ 18446744073709551616 ≤ V) : decide (IntKind.u64.wrap (Int.tdiv (IntKind.u64.wrap (18446744073709551615 - (v : Nat))) (B : Nat)) < ((V % 18446744073709551616 : Nat) : Int)) = decide (18446744073709551616 ≤ V * B + v) := by
  rw [decide_eq_decide, wrapU, wrapU, Int.tdiv_eq_ediv_of_nonneg (by omega)]
  rcases hB with rfl | rfl | rfl <;> omega
theorem tNumber_ok : ∀ g C, tNumber g = some C → CtOK P g C := ctTab_ok (forall_tab byteAt_ok (forall_tab value_ok (forall_tab letter_ok (forall_tab digit_ok nil_tab))))
theorem number_eq (s : ByteArray) (i : Int) : askF P (tNumber) Go.Proofs.Try.f28 cNumber (wNumber) ⟨s, i⟩ = ((0 : Int) ≤ i ∧ i < (↑(ByteArray.size s) : Int) ∧ ByteArray.size s < (100000 : Nat) ∧ isDig (bat s (Int.toNat i)) = true → ((0 : Int) = (0 : Int) ∧ s = s ∧ i = i ∧ ((0 : Int) ≤ i ∧ i ≤ (↑(ByteArray.size s) : Int) ∧ ByteArray.size s < (1000000 : Nat) ∧ (0 : Int) ≤ (0 : Int) ∧ (0 : Int) < (1000000 : Int)) ∧ (decide ((↑(bat s (Int.toNat (i + (0 : Int)))) : Int) = (48 : Int)) = true → (2 : Int) = (2 : Int) ∧ s = s ∧ i = i ∧ ((0 : Int) ≤ i ∧ i ≤ (↑(ByteArray.size s) : Int) ∧ ByteArray.size s < (1000000 : Nat) ∧ (0 : Int) ≤ (2 : Int) ∧ (2 : Int) < (1000000 : Int)) ∧ (↑(bat s (Int.toNat (i + (2 : Int)))) : Int) = (↑(bat s (Int.toNat (i + (2 : Int)))) : Int) ∧ (16 : Int) = (16 : Int) ∧ (((0 : Int) ≤ (↑(bat s (Int.toNat (i + (2 : Int)))) : Int) ∧ (↑(bat s (Int.toNat (i + (2 : Int)))) : Int) < (256 : Int)) ∧ (0 : Int) ≤ (16 : Int) ∧ (16 : Int) ≤ (16 : Int)) ∧ (decide ((↑(dv (Int.toNat (↑(bat s (Int.toNat (i + (2 : Int)))) : Int))) : Int) < (16 : Int)) = true → (1 : Int) = (1 : Int) ∧ s = s ∧ i = i ∧ ((0 : Int) ≤ i ∧ i ≤ (↑(ByteArray.size s) : Int) ∧ ByteArray.size s < (1000000 : Nat) ∧ (0 : Int) ≤ (1 : Int) ∧ (1 : Int) < (1000000 : Int)) ∧ (decide (bitsP BinOp.or IntKind.u8 (↑(bat s (Int.toNat (i + (1 : Int)))) : Int) (32 : Int) = (120 : Int)) = true → (↑(nbB s (Int.toNat i)) : Int) = (16 : Int) ∧ i = i ∧ (↑(nbO s (Int.toNat i)) : Int) = (2 : Int) ∧ s = s ∧ i = i ∧ True ∧ True) ∧ (decide (bitsP BinOp.or IntKind.u8 (↑(bat s (Int.toNat (i + (1 : Int)))) : Int) (32 : Int) = (120 : Int)) = false → (↑(nbB s (Int.toNat i)) : Int) = (8 : Int) ∧ i = i ∧ (↑(nbO s (Int.toNat i)) : Int) = (1 : Int) ∧ s = s ∧ i = i ∧ True ∧ True)) ∧ (decide ((↑(dv (Int.toNat (↑(bat s (Int.toNat (i + (2 : Int)))) : Int))) : Int) < (16 : Int)) = false → (↑(nbB s (Int.toNat i)) : Int) = (8 : Int) ∧ i = i ∧ (↑(nbO s (Int.toNat i)) : Int) = (1 : Int) ∧ s = s ∧ i = i ∧ True ∧ True)) ∧ (decide ((↑(bat s (Int.toNat (i + (0 : Int)))) : Int) = (48 : Int)) = false → (↑(nbB s (Int.toNat i)) : Int) = (10 : Int) ∧ i = i ∧ (↑(nbO s (Int.toNat i)) : Int) = (0 : Int) ∧ s = s ∧ i = i ∧ True ∧ True)) ∧ ∀ (s_1 : Unit), True → (false = false ∧ (↑(nbB s (Int.toNat i)) : Int) = (↑(nbB s (Int.toNat i)) : Int) ∧ i = i ∧ (↑(nbO s (Int.toNat i)) : Int) = (↑(nbO s (Int.toNat i)) : Int) ∧ (0 : Int) = (0 : Int) ∧ s = s ∧ i = i ∧ nbInv s i (0 : Int) false (↑(nbO s (Int.toNat i)) : Int) ∧ True) ∧ ∀ (s_2 : Int × Bool × Int), nbInv s i (Prod.fst s_2) (Prod.fst s_2.2) (Prod.snd s_2.2) → s_2.2.2 = s_2.2.2 ∧ s = s ∧ i = i ∧ ((0 : Int) ≤ i ∧ i ≤ (↑(ByteArray.size s) : Int) ∧ ByteArray.size s < (1000000 : Nat) ∧ (0 : Int) ≤ s_2.2.2 ∧ s_2.2.2 < (1000000 : Int)) ∧ (↑(bat s (Int.toNat (i + s_2.2.2))) : Int) = (↑(bat s (Int.toNat (i + s_2.2.2))) : Int) ∧ (↑(nbB s (Int.toNat i)) : Int) = (↑(nbB s (Int.toNat i)) : Int) ∧ (((0 : Int) ≤ (↑(bat s (Int.toNat (i + s_2.2.2))) : Int) ∧ (↑(bat s (Int.toNat (i + s_2.2.2))) : Int) < (256 : Int)) ∧ (0 : Int) ≤ (↑(nbB s (Int.toNat i)) : Int) ∧ (↑(nbB s (Int.toNat i)) : Int) ≤ (16 : Int)) ∧ ((!decide ((↑(dv (Int.toNat (↑(bat s (Int.toNat (i + s_2.2.2))) : Int))) : Int) < (↑(nbB s (Int.toNat i)) : Int))) = true → (s_2.2.1 = true → (↑(nbK (Prod.fst (nbR s (Int.toNat i))) (2 : Nat)) : Int) = (0 : Int) ∧ mkS [] = mkS [] ∧ (↑(Prod.fst (Prod.snd (nbR s (Int.toNat i)))) : Int) = (0 : Int) ∧ (↑(nbK (Prod.fst (nbR s (Int.toNat i))) (Int.toNat i)) : Int) = (0 : Int) ∧ (↑(Prod.fst (nbR s (Int.toNat i))) : Int) = (3 : Int) ∧ s = s ∧ Int.ofNat (Prod.snd (Prod.snd (nbR s (Int.toNat i)))) = i ∧ True) ∧ (s_2.2.1 = false → s_2.2.2 = s_2.2.2 ∧ s = s ∧ i = i ∧ ((0 : Int) ≤ i ∧ i ≤ (↑(ByteArray.size s) : Int) ∧ ByteArray.size s < (1000000 : Nat) ∧ (0 : Int) ≤ s_2.2.2 ∧ s_2.2.2 < (1000000 : Int)) ∧ (↑(bat s (Int.toNat (i + s_2.2.2))) : Int) = (↑(bat s (Int.toNat (i + s_2.2.2))) : Int) ∧ ((0 : Int) ≤ (↑(bat s (Int.toNat (i + s_2.2.2))) : Int) ∧ (↑(bat s (Int.toNat (i + s_2.2.2))) : Int) < (256 : Int)) ∧ (isLet (Int.toNat (↑(bat s (Int.toNat (i + s_2.2.2))) : Int)) = true → (↑(nbK (Prod.fst (nbR s (Int.toNat i))) (2 : Nat)) : Int) = (0 : Int) ∧ mkS [] = mkS [] ∧ (↑(Prod.fst (Prod.snd (nbR s (Int.toNat i)))) : Int) = (0 : Int) ∧ (↑(nbK (Prod.fst (nbR s (Int.toNat i))) (Int.toNat i)) : Int) = (0 : Int) ∧ (↑(Prod.fst (nbR s (Int.toNat i))) : Int) = (2 : Int) ∧ s = s ∧ Int.ofNat (Prod.snd (Prod.snd (nbR s (Int.toNat i)))) = i ∧ True) ∧ (isLet (Int.toNat (↑(bat s (Int.toNat (i + s_2.2.2))) : Int)) = false → (↑(bat s (Int.toNat (i + s_2.2.2))) : Int) = (↑(bat s (Int.toNat (i + s_2.2.2))) : Int) ∧ ((0 : Int) ≤ (↑(bat s (Int.toNat (i + s_2.2.2))) : Int) ∧ (↑(bat s (Int.toNat (i + s_2.2.2))) : Int) < (256 : Int)) ∧ (isDig (Int.toNat (↑(bat s (Int.toNat (i + s_2.2.2))) : Int)) = true → (↑(nbK (Prod.fst (nbR s (Int.toNat i))) (2 : Nat)) : Int) = (0 : Int) ∧ mkS [] = mkS [] ∧ (↑(Prod.fst (Prod.snd (nbR s (Int.toNat i)))) : Int) = (0 : Int) ∧ (↑(nbK (Prod.fst (nbR s (Int.toNat i))) (Int.toNat i)) : Int) = (0 : Int) ∧ (↑(Prod.fst (nbR s (Int.toNat i))) : Int) = (2 : Int) ∧ s = s ∧ Int.ofNat (Prod.snd (Prod.snd (nbR s (Int.toNat i)))) = i ∧ True) ∧ (isDig (Int.toNat (↑(bat s (Int.toNat (i + s_2.2.2))) : Int)) = false → (decide ((↑(bat s (Int.toNat (i + s_2.2.2))) : Int) = (46 : Int)) = true → (↑(nbK (Prod.fst (nbR s (Int.toNat i))) (2 : Nat)) : Int) = (0 : Int) ∧ mkS [] = mkS [] ∧ (↑(Prod.fst (Prod.snd (nbR s (Int.toNat i)))) : Int) = (0 : Int) ∧ (↑(nbK (Prod.fst (nbR s (Int.toNat i))) (Int.toNat i)) : Int) = (0 : Int) ∧ (↑(Prod.fst (nbR s (Int.toNat i))) : Int) = (2 : Int) ∧ s = s ∧ Int.ofNat (Prod.snd (Prod.snd (nbR s (Int.toNat i)))) = i ∧ True) ∧ (decide ((↑(bat s (Int.toNat (i + s_2.2.2))) : Int) = (46 : Int)) = false → ((-9223372036854775808 : Int) ≤ i + s_2.2.2 ∧ i + s_2.2.2 ≤ (9223372036854775807 : Int)) ∧ (↑(nbK (Prod.fst (nbR s (Int.toNat i))) (2 : Nat)) : Int) = (2 : Int) ∧ mkS [] = mkS [] ∧ (↑(Prod.fst (Prod.snd (nbR s (Int.toNat i)))) : Int) = s_2.1 ∧ (↑(nbK (Prod.fst (nbR s (Int.toNat i))) (Int.toNat i)) : Int) = i ∧ (↑(Prod.fst (nbR s (Int.toNat i))) : Int) = (0 : Int) ∧ s = s ∧ Int.ofNat (Prod.snd (Prod.snd (nbR s (Int.toNat i)))) = i + s_2.2.2 ∧ True))))) ∧ ((!decide ((↑(dv (Int.toNat (↑(bat s (Int.toNat (i + s_2.2.2))) : Int))) : Int) < (↑(nbB s (Int.toNat i)) : Int))) = false → (s_2.2.1 = true → ((-9223372036854775808 : Int) ≤ s_2.2.2 + (1 : Int) ∧ s_2.2.2 + (1 : Int) ≤ (9223372036854775807 : Int)) ∧ true = true ∧ (↑(nbB s (Int.toNat i)) : Int) = (↑(nbB s (Int.toNat i)) : Int) ∧ i = i ∧ s_2.2.2 + (1 : Int) = s_2.2.2 + (1 : Int) ∧ IntKind.wrap IntKind.u64 (IntKind.wrap IntKind.u64 (s_2.1 * (↑(nbB s (Int.toNat i)) : Int)) + (↑(dv (Int.toNat (↑(bat s (Int.toNat (i + s_2.2.2))) : Int))) : Int)) = IntKind.wrap IntKind.u64 (IntKind.wrap IntKind.u64 (s_2.1 * (↑(nbB s (Int.toNat i)) : Int)) + (↑(dv (Int.toNat (↑(bat s (Int.toNat (i + s_2.2.2))) : Int))) : Int)) ∧ s = s ∧ i = i ∧ nbInv s i (IntKind.wrap IntKind.u64 (IntKind.wrap IntKind.u64 (s_2.1 * (↑(nbB s (Int.toNat i)) : Int)) + (↑(dv (Int.toNat (↑(bat s (Int.toNat (i + s_2.2.2))) : Int))) : Int))) true (s_2.2.2 + (1 : Int)) ∧ ByteArray.size s - Int.toNat (i + (s_2.2.2 + (1 : Int))) < ByteArray.size s - Int.toNat (i + Prod.snd s_2.2) ∧ True) ∧ (s_2.2.1 = false → (↑(nbB s (Int.toNat i)) : Int) ≠ (0 : Int) ∧ ((-9223372036854775808 : Int) ≤ s_2.2.2 + (1 : Int) ∧ s_2.2.2 + (1 : Int) ≤ (9223372036854775807 : Int)) ∧ decide (IntKind.wrap IntKind.u64 (Int.tdiv (IntKind.wrap IntKind.u64 ((18446744073709551615 : Int) - (↑(dv (Int.toNat (↑(bat s (Int.toNat (i + s_2.2.2))) : Int))) : Int))) (↑(nbB s (Int.toNat i)) : Int)) < s_2.1) = decide (IntKind.wrap IntKind.u64 (Int.tdiv (IntKind.wrap IntKind.u64 ((18446744073709551615 : Int) - (↑(dv (Int.toNat (↑(bat s (Int.toNat (i + s_2.2.2))) : Int))) : Int))) (↑(nbB s (Int.toNat i)) : Int)) < s_2.1) ∧ (↑(nbB s (Int.toNat i)) : Int) = (↑(nbB s (Int.toNat i)) : Int) ∧ i = i ∧ s_2.2.2 + (1 : Int) = s_2.2.2 + (1 : Int) ∧ IntKind.wrap IntKind.u64 (IntKind.wrap IntKind.u64 (s_2.1 * (↑(nbB s (Int.toNat i)) : Int)) + (↑(dv (Int.toNat (↑(bat s (Int.toNat (i + s_2.2.2))) : Int))) : Int)) = IntKind.wrap IntKind.u64 (IntKind.wrap IntKind.u64 (s_2.1 * (↑(nbB s (Int.toNat i)) : Int)) + (↑(dv (Int.toNat (↑(bat s (Int.toNat (i + s_2.2.2))) : Int))) : Int)) ∧ s = s ∧ i = i ∧ nbInv s i (IntKind.wrap IntKind.u64 (IntKind.wrap IntKind.u64 (s_2.1 * (↑(nbB s (Int.toNat i)) : Int)) + (↑(dv (Int.toNat (↑(bat s (Int.toNat (i + s_2.2.2))) : Int))) : Int))) (decide (IntKind.wrap IntKind.u64 (Int.tdiv (IntKind.wrap IntKind.u64 ((18446744073709551615 : Int) - (↑(dv (Int.toNat (↑(bat s (Int.toNat (i + s_2.2.2))) : Int))) : Int))) (↑(nbB s (Int.toNat i)) : Int)) < s_2.1)) (s_2.2.2 + (1 : Int)) ∧ ByteArray.size s - Int.toNat (i + (s_2.2.2 + (1 : Int))) < ByteArray.size s - Int.toNat (i + Prod.snd s_2.2) ∧ True))) := by kernel_rfl
theorem number_ok : CtOK P 28 cNumber := by
  refine ask_ok mixed tNumber_ok (W := wNumber) Go.Proofs.Try.func28 (by kernel_rfl) (by decide) (by decide) (fun ⟨s, i⟩ => by kernel_rfl) fun ⟨s, i⟩ => (number_eq s i).mpr ?_
  rintro ⟨h1, h2, h3, h4⟩
  obtain ⟨n, rfl⟩ := Int.eq_ofNat_of_zero_le h1
  have hB := nbB_or s n
  have b1 := bat_lt s (n + 1)
  have b2 := bat_lt s (n + 2)
  simp only [decide_eq_true_eq, decide_eq_false_iff_not, and_true, true_and, Int.toNat_natCast, Int.add_zero, tn1, tn2, orx _ b1]
  refine ⟨⟨by omega, fun a1 => ⟨by omega, by omega, fun a2 => ⟨by omega, fun a3 => ?_, fun a3 => ?_⟩, fun a2 => ?_⟩, fun a1 => ?_⟩, fun _ _ => ⟨?_, ?_⟩⟩
  · rw [show nbB s n = 16 by unfold nbB; rw [if_pos (by omega), if_pos ⟨by omega, by omega⟩], show nbO s n = 2 by unfold nbO; rw [if_pos (by omega), if_pos ⟨by omega, by omega⟩]]
    exact ⟨rfl, rfl⟩
  · rw [show nbB s n = 8 by unfold nbB; rw [if_pos (by omega), if_neg (by omega)], show nbO s n = 1 by unfold nbO; rw [if_pos (by omega), if_neg (by omega)]]
    exact ⟨rfl, rfl⟩
  · rw [show nbB s n = 8 by unfold nbB; rw [if_pos (by omega), if_neg (by omega)], show nbO s n = 1 by unfold nbO; rw [if_pos (by omega), if_neg (by omega)]]
    exact ⟨rfl, rfl⟩
  · rw [show nbB s n = 10 by unfold nbB; rw [if_neg (by omega)], show nbO s n = 0 by unfold nbO; rw [if_neg (by omega)]]
    exact ⟨rfl, rfl⟩
  · refine ⟨0, rfl, rfl, by omega, ?_, by rw [tnn, Int.toNat_natCast]⟩
    unfold nbO
    split
    · rename_i g
      split
      · rename_i g2
        have := bat_pos (s := s) (k := n + 1) (by omega)
        have : n + 2 < s.size := by
          rcases Nat.lt_or_ge (n + 2) s.size with h | h
          · exact h
          · rw [bat_out h] at g2; exact absurd g2.1 (by decide)
        omega
      · omega
    · omega
  · rintro ⟨m, o, j⟩ ⟨V, rfl, rfl, hj, hj2, inv⟩
    obtain ⟨j, rfl⟩ := Int.eq_ofNat_of_zero_le hj
    have bj := bat_lt s (n + j)
    simp only [tnn, Int.toNat_natCast] at inv ⊢
    have step := dgE_step s (nbB s n) (n + j) V (by omega)
    have stop : ¬ dv (bat s (n + j)) < nbB s n → nbR s n = if 18446744073709551616 ≤ V then (3, 0, n) else if (isLet (bat s (n + j)) || isDig (bat s (n + j)) || (bat s (n + j) == 46)) = true then (2, 0, n) else (0, V, n + j) := fun hv => by
      rw [if_neg hv] at step
      unfold nbR
      rw [← inv, step]
    simp only [Bool.not_eq_true', Bool.not_eq_false', decide_eq_true_eq, decide_eq_false_iff_not] at *
    have bad : isLet (bat s (n + j)) = true ∨ isDig (bat s (n + j)) = true ∨ bat s (n + j) = 46 → ¬ dv (bat s (n + j)) < nbB s n → ¬ 18446744073709551616 ≤ V → nbR s n = (2, 0, n) := fun h hv hV => by
      rw [stop hv, if_neg hV, if_pos (by simpa [or_assoc] using h)]
    have cont : dv (bat s (n + j)) < nbB s n → ∀ o, o = decide (18446744073709551616 ≤ V * nbB s n + dv (bat s (n + j))) → nbInv s (n : Nat) (IntKind.u64.wrap (IntKind.u64.wrap (((V % 18446744073709551616 : Nat) : Int) * (nbB s n : Nat)) + (dv (bat s (n + j)) : Nat))) o ((j : Int) + 1) ∧ s.size - ((n : Int) + ((j : Int) + 1)).toNat < s.size - (n + j) := fun hv o ho => by
      have hp : n + j < s.size := by
        rcases Nat.lt_or_ge (n + j) s.size with h | h
        · exact h
        · rw [bat_out h] at hv
          have : dv 0 = 16 := rfl
          omega
      rw [if_pos hv] at step
      refine ⟨⟨V * nbB s n + dv (bat s (n + j)), nbStep _ _ _ hB hv, ho, by omega, by omega, ?_⟩, by omega⟩
      rw [show ((n : Int) + ((j : Int) + 1)).toNat = n + j + 1 by omega, Int.toNat_natCast, ← step, inv]
    refine ⟨by omega, by omega, fun hv => ⟨fun hV => ?_, fun hV => ⟨by omega, by omega, fun a1 => ?_, fun a1 => ⟨by omega, fun a2 => ?_, fun a2 => ⟨fun a3 => ?_, fun a3 => ?_⟩⟩⟩⟩, fun hv => ⟨fun hV => ?_, fun hV => ?_⟩⟩
    · rw [stop (by omega), if_pos hV]; exact ⟨rfl, rfl, rfl, rfl, rfl⟩
    · rw [bad (.inl a1) (by omega) hV]; exact ⟨rfl, rfl, rfl, rfl, rfl⟩
    · rw [bad (.inr (.inl a2)) (by omega) hV]; exact ⟨rfl, rfl, rfl, rfl, rfl⟩
    · rw [bad (.inr (.inr (by omega))) (by omega) hV]; exact ⟨rfl, rfl, rfl, rfl, rfl⟩
    · rw [stop (by omega), if_neg hV, if_neg (by rw [a1, a2]; simpa using by omega)]
      exact ⟨by omega, rfl, by simp only []; omega, rfl, rfl, show ((n + j : Nat) : Int) = _ by omega⟩
    · obtain ⟨c1, c2⟩ := cont (by omega) true (by
        symm; rw [decide_eq_true_eq]
        rcases hB with h | h | h <;> rw [h] <;> omega)
      exact ⟨by omega, c1, c2⟩
    · obtain ⟨c1, c2⟩ := cont (by omega) _ (nbOver V _ _ hB (by omega) hV)
      exact ⟨by omega, by omega, c1, c2⟩
theorem txF_more (s : ByteArray) (q : Nat) : ∀ (f g j : Nat) (acc : List Nat), s.size + 1 - j ≤ f → s.size + 1 - j ≤ g → txF s q f j acc = txF s q g j acc
  | 0, 0, j, acc, h, hi => rfl
  | 0, g + 1, j, acc, h, hi => by rw [txF, txF, if_neg (by omega)]
  | f + 1, 0, j, acc, h, hi => by rw [txF, txF, if_neg (by omega)]
  | f + 1, g + 1, j, acc, h1, h2 => by
    rw [txF, txF]
    split
    · split
      · rfl
      · split
        · rfl
        · split
          · cases esc (bat s (j + 1)) with
            | some c => exact txF_more s q f g _ _ (by omega) (by omega)
            | none => rfl
          · exact txF_more s q f g _ _ (by omega) (by omega)
    · rfl
theorem txE_step (s : ByteArray) (q j : Nat) (acc : List Nat) : txE s q j acc = if j < s.size then
      if bat s j = q then some (acc, j + 1) else if bat s j = 10 then none else if bat s j = 92 then
        match esc (bat s (j + 1)) with
        | some c => txE s q (j + 2) (acc ++ [c])
        | none => none
      else txE s q (j + 1) (acc ++ [bat s j])
    else none := by
  unfold txE
  by_cases h : j < s.size
  · obtain ⟨f, hf⟩ : ∃ f, s.size + 1 - j = f + 1 := ⟨s.size - j, by omega⟩
    rw [hf, txF, if_pos h, if_pos h]
    split
    · rfl
    · split
      · rfl
      · split
        · cases esc (bat s (j + 1)) with
          | some c => exact txF_more s q _ _ _ _ (by omega) (by omega)
          | none => rfl
        · exact txF_more s q _ _ _ _ (by omega) (by omega)
  · rw [if_neg h]
    generalize s.size + 1 - j = f
    cases f with
    | zero => rfl
    | succ f => rw [txF, if_neg h]
theorem bs_app (l : List Nat) (c : Nat) (hc : c < 256) : bcells (bs l) ++ [Value.int .u8 (c : Nat)] = bcells (bs (l ++ [c])) := by
  unfold bcells bs
  simp only [List.map_append, List.map_cons, List.map_nil, List.map_map]
  congr 1
  simp; omega
theorem bs_size (l : List Nat) : (bs l).size = l.length := by
  unfold bs; simp [ByteArray.size]
theorem bcells_inj {a b : ByteArray} (h : bcells a = bcells b) : a = b := by
  unfold bcells at h
  apply ByteArray.ext; apply Array.toList_inj.mp
  refine List.map_inj_right (f := fun b : UInt8 => Value.int .u8 (b.toNat : Nat)) (fun x y e => ?_) |>.mp h
  injection e with _ e
  exact UInt8.toNat_inj.mp (by omega)
theorem esc_lt (c : Nat) (h : c < 256) : (esc c).getD 0 < 256 := by
  unfold esc; split
  · exact h
  · split <;> simp
theorem tText_ok : ∀ g C, tText g = some C → CtOK P g C := ctTab_ok (forall_tab byteAt_ok (forall_tab valid_ok (forall_tab escaped_ok nil_tab)))
theorem text_eq (s : ByteArray) (i q : Int) : askF P (tText) Go.Proofs.Try.f29 cText (wText) ⟨s, i, q⟩ = ((0 : Int) ≤ i ∧ i < (↑(ByteArray.size s) : Int) ∧ ByteArray.size s < (100000 : Nat) ∧ (q = (34 : Int) ∨ q = (39 : Int)) → (q = q ∧ (1 : Int) = (1 : Int) ∧ (0 : Nat) = (0 : Nat) ∧ s = s ∧ i = i ∧ txInv s i q [] (1 : Int) ∧ True) ∧ ∀ (s_1 : List Value × Int), txInv s i q (Prod.fst s_1) (Prod.snd s_1) → ((-9223372036854775808 : Int) ≤ i + s_1.2 ∧ i + s_1.2 ≤ (9223372036854775807 : Int)) ∧ (decide (i + s_1.2 < (↑(ByteArray.size s) : Int)) = true → s_1.2 = s_1.2 ∧ s = s ∧ i = i ∧ ((0 : Int) ≤ i ∧ i ≤ (↑(ByteArray.size s) : Int) ∧ ByteArray.size s < (1000000 : Nat) ∧ (0 : Int) ≤ s_1.2 ∧ s_1.2 < (1000000 : Int)) ∧ (decide ((↑(bat s (Int.toNat (i + s_1.2))) : Int) = q) = true → ∃ (s_2 : ByteArray), ByteArray.size s_2 = List.length s_1.1 ∧ subL s_1.1 (0 : Nat) (bcells s_2) ∧ s_2 = s_2 ∧ ByteArray.size s_2 < (1000000 : Nat) ∧ ((!vld s_2) = true → (↑(nbK (Prod.fst (txR s (Int.toNat q) (Int.toNat i))) (3 : Nat)) : Int) = (0 : Int) ∧ Prod.fst (Prod.snd (txR s (Int.toNat q) (Int.toNat i))) = mkS [] ∧ (↑(0 : Nat) : Int) = (0 : Int) ∧ (↑(nbK (Prod.fst (txR s (Int.toNat q) (Int.toNat i))) (Int.toNat i)) : Int) = (0 : Int) ∧ (↑(Prod.fst (txR s (Int.toNat q) (Int.toNat i))) : Int) = (2 : Int) ∧ s = s ∧ (↑(Prod.snd (Prod.snd (txR s (Int.toNat q) (Int.toNat i)))) : Int) = i ∧ True) ∧ ((!vld s_2) = false → ∃ (s_3 : ByteArray), ByteArray.size s_3 = List.length s_1.1 ∧ subL s_1.1 (0 : Nat) (bcells s_3) ∧ ((-9223372036854775808 : Int) ≤ s_1.2 + (1 : Int) ∧ s_1.2 + (1 : Int) ≤ (9223372036854775807 : Int)) ∧ ((-9223372036854775808 : Int) ≤ i + (s_1.2 + (1 : Int)) ∧ i + (s_1.2 + (1 : Int)) ≤ (9223372036854775807 : Int)) ∧ (↑(nbK (Prod.fst (txR s (Int.toNat q) (Int.toNat i))) (3 : Nat)) : Int) = (3 : Int) ∧ Prod.fst (Prod.snd (txR s (Int.toNat q) (Int.toNat i))) = s_3 ∧ (↑(0 : Nat) : Int) = (0 : Int) ∧ (↑(nbK (Prod.fst (txR s (Int.toNat q) (Int.toNat i))) (Int.toNat i)) : Int) = i ∧ (↑(Prod.fst (txR s (Int.toNat q) (Int.toNat i))) : Int) = (0 : Int) ∧ s = s ∧ (↑(Prod.snd (Prod.snd (txR s (Int.toNat q) (Int.toNat i)))) : Int) = i + (s_1.2 + (1 : Int)) ∧ True)) ∧ (decide ((↑(bat s (Int.toNat (i + s_1.2))) : Int) = q) = false → (decide ((↑(bat s (Int.toNat (i + s_1.2))) : Int) = (10 : Int)) = true → (↑(nbK (Prod.fst (txR s (Int.toNat q) (Int.toNat i))) (3 : Nat)) : Int) = (0 : Int) ∧ Prod.fst (Prod.snd (txR s (Int.toNat q) (Int.toNat i))) = mkS [] ∧ (↑(0 : Nat) : Int) = (0 : Int) ∧ (↑(nbK (Prod.fst (txR s (Int.toNat q) (Int.toNat i))) (Int.toNat i)) : Int) = (0 : Int) ∧ (↑(Prod.fst (txR s (Int.toNat q) (Int.toNat i))) : Int) = (2 : Int) ∧ s = s ∧ (↑(Prod.snd (Prod.snd (txR s (Int.toNat q) (Int.toNat i)))) : Int) = i ∧ True) ∧ (decide ((↑(bat s (Int.toNat (i + s_1.2))) : Int) = (10 : Int)) = false → (decide ((↑(bat s (Int.toNat (i + s_1.2))) : Int) = (92 : Int)) = true → ((-9223372036854775808 : Int) ≤ s_1.2 + (1 : Int) ∧ s_1.2 + (1 : Int) ≤ (9223372036854775807 : Int)) ∧ s_1.2 + (1 : Int) = s_1.2 + (1 : Int) ∧ s = s ∧ i = i ∧ ((0 : Int) ≤ i ∧ i ≤ (↑(ByteArray.size s) : Int) ∧ ByteArray.size s < (1000000 : Nat) ∧ (0 : Int) ≤ s_1.2 + (1 : Int) ∧ s_1.2 + (1 : Int) < (1000000 : Int)) ∧ (↑(bat s (Int.toNat (i + (s_1.2 + (1 : Int))))) : Int) = (↑(bat s (Int.toNat (i + (s_1.2 + (1 : Int))))) : Int) ∧ ((0 : Int) ≤ (↑(bat s (Int.toNat (i + (s_1.2 + (1 : Int))))) : Int) ∧ (↑(bat s (Int.toNat (i + (s_1.2 + (1 : Int))))) : Int) < (256 : Int)) ∧ ((!Option.isSome (esc (Int.toNat (↑(bat s (Int.toNat (i + (s_1.2 + (1 : Int))))) : Int)))) = true → (↑(nbK (Prod.fst (txR s (Int.toNat q) (Int.toNat i))) (3 : Nat)) : Int) = (0 : Int) ∧ Prod.fst (Prod.snd (txR s (Int.toNat q) (Int.toNat i))) = mkS [] ∧ (↑(0 : Nat) : Int) = (0 : Int) ∧ (↑(nbK (Prod.fst (txR s (Int.toNat q) (Int.toNat i))) (Int.toNat i)) : Int) = (0 : Int) ∧ (↑(Prod.fst (txR s (Int.toNat q) (Int.toNat i))) : Int) = (2 : Int) ∧ s = s ∧ (↑(Prod.snd (Prod.snd (txR s (Int.toNat q) (Int.toNat i)))) : Int) = i ∧ True) ∧ ((!Option.isSome (esc (Int.toNat (↑(bat s (Int.toNat (i + (s_1.2 + (1 : Int))))) : Int)))) = false → List.length s_1.1 = List.length s_1.1 * (1 : Nat) ∧ (List.length s_1.1 + (1 : Nat)) * (1 : Nat) ≤ (140737488355328 : Nat) ∧ ((-9223372036854775808 : Int) ≤ s_1.2 + (1 : Int) + (1 : Int) ∧ s_1.2 + (1 : Int) + (1 : Int) ≤ (9223372036854775807 : Int)) ∧ q = q ∧ s_1.2 + (1 : Int) + (1 : Int) = s_1.2 + (1 : Int) + (1 : Int) ∧ List.length (s_1.1 ++ [Value.int IntKind.u8 (↑(Option.getD (esc (Int.toNat (↑(bat s (Int.toNat (i + (s_1.2 + (1 : Int))))) : Int))) (0 : Nat)) : Int)]) = List.length s_1.1 + (1 : Nat) ∧ s = s ∧ i = i ∧ s_1.1 ++ [Value.int IntKind.u8 (↑(Option.getD (esc (Int.toNat (↑(bat s (Int.toNat (i + (s_1.2 + (1 : Int))))) : Int))) (0 : Nat)) : Int)] = s_1.1 ++ [Value.int IntKind.u8 (↑(Option.getD (esc (Int.toNat (↑(bat s (Int.toNat (i + (s_1.2 + (1 : Int))))) : Int))) (0 : Nat)) : Int)] ∧ txInv s i q (s_1.1 ++ [Value.int IntKind.u8 (↑(Option.getD (esc (Int.toNat (↑(bat s (Int.toNat (i + (s_1.2 + (1 : Int))))) : Int))) (0 : Nat)) : Int)]) (s_1.2 + (1 : Int) + (1 : Int)) ∧ ByteArray.size s + (1 : Nat) - Int.toNat (i + (s_1.2 + (1 : Int) + (1 : Int))) < ByteArray.size s + (1 : Nat) - Int.toNat (i + Prod.snd s_1) ∧ True)) ∧ (decide ((↑(bat s (Int.toNat (i + s_1.2))) : Int) = (92 : Int)) = false → List.length s_1.1 = List.length s_1.1 * (1 : Nat) ∧ (List.length s_1.1 + (1 : Nat)) * (1 : Nat) ≤ (140737488355328 : Nat) ∧ ((-9223372036854775808 : Int) ≤ s_1.2 + (1 : Int) ∧ s_1.2 + (1 : Int) ≤ (9223372036854775807 : Int)) ∧ q = q ∧ s_1.2 + (1 : Int) = s_1.2 + (1 : Int) ∧ List.length (s_1.1 ++ [Value.int IntKind.u8 (↑(bat s (Int.toNat (i + s_1.2))) : Int)]) = List.length s_1.1 + (1 : Nat) ∧ s = s ∧ i = i ∧ s_1.1 ++ [Value.int IntKind.u8 (↑(bat s (Int.toNat (i + s_1.2))) : Int)] = s_1.1 ++ [Value.int IntKind.u8 (↑(bat s (Int.toNat (i + s_1.2))) : Int)] ∧ txInv s i q (s_1.1 ++ [Value.int IntKind.u8 (↑(bat s (Int.toNat (i + s_1.2))) : Int)]) (s_1.2 + (1 : Int)) ∧ ByteArray.size s + (1 : Nat) - Int.toNat (i + (s_1.2 + (1 : Int))) < ByteArray.size s + (1 : Nat) - Int.toNat (i + Prod.snd s_1) ∧ True)))) ∧ (decide (i + s_1.2 < (↑(ByteArray.size s) : Int)) = false → (↑(nbK (Prod.fst (txR s (Int.toNat q) (Int.toNat i))) (3 : Nat)) : Int) = (0 : Int) ∧ Prod.fst (Prod.snd (txR s (Int.toNat q) (Int.toNat i))) = mkS [] ∧ (↑(0 : Nat) : Int) = (0 : Int) ∧ (↑(nbK (Prod.fst (txR s (Int.toNat q) (Int.toNat i))) (Int.toNat i)) : Int) = (0 : Int) ∧ (↑(Prod.fst (txR s (Int.toNat q) (Int.toNat i))) : Int) = (2 : Int) ∧ s = s ∧ (↑(Prod.snd (Prod.snd (txR s (Int.toNat q) (Int.toNat i)))) : Int) = i ∧ True)) := by kernel_rfl
theorem text_ok : CtOK P 29 cText := by
  refine ask_ok mixed tText_ok (W := wText) Go.Proofs.Try.func29 (by kernel_rfl) (by decide) (by decide) (fun ⟨s, i, q⟩ => by kernel_rfl) fun ⟨s, i, q⟩ => (text_eq s i q).mpr ?_
  rintro ⟨h1, h2, h3, h4⟩
  obtain ⟨n, rfl⟩ := Int.eq_ofNat_of_zero_le h1
  obtain ⟨q, rfl⟩ := Int.eq_ofNat_of_zero_le (show 0 ≤ q by omega)
  simp only [decide_eq_true_eq, decide_eq_false_iff_not, and_true, true_and, Int.toNat_natCast, Int.add_zero, tn1, tn2]
  refine ⟨⟨[], rfl, by simp, by omega, by omega, by simp, by rw [tn1, Int.toNat_natCast, Int.toNat_natCast]⟩, ?_⟩
  rintro ⟨vs, j⟩ ⟨l, rfl, hl, hj, hj2, hlen, inv⟩
  obtain ⟨j, rfl⟩ := Int.eq_ofNat_of_zero_le (show 0 ≤ j by omega)
  have bj := bat_lt s (n + j)
  have bj1 := bat_lt s (n + j + 1)
  have hz := bs_size l
  simp only [tnn, Int.toNat_natCast, bcells_len, hz, show ((n : Int) + ((j : Int) + 1)).toNat = n + j + 1 by omega] at inv hlen ⊢
  have step := txE_step s q (n + j) l
  rw [inv] at step
  have none_ : txE s q (n + 1) [] = none → txR s q n = (2, mkS [], n) := fun h => by unfold txR; rw [h]
  simp only [Bool.not_eq_true', Bool.not_eq_false', decide_eq_true_eq, decide_eq_false_iff_not] at *
  have sub : subL (bcells (bs l)) 0 (bcells (bs l)) := fun a v h => by rw [Nat.zero_add]; exact h
  have no : txE s q (n + 1) [] = none → ((nbK (txR s q n).1 3 : Nat) : Int) = 0 ∧ (txR s q n).2.1 = mkS [] ∧ ((0 : Nat) : Int) = 0 ∧ ((nbK (txR s q n).1 n : Nat) : Int) = 0 ∧ (((txR s q n).1 : Nat) : Int) = 2 ∧ (((txR s q n).2.2 : Nat) : Int) = n := fun h => by
    rw [none_ h]; exact ⟨rfl, rfl, rfl, rfl, rfl, rfl⟩
  refine ⟨by omega, fun a0 => ⟨by omega, fun a1 => ⟨bs l, hz, sub, by omega, fun a2 => ?_, fun a2 => ⟨bs l, hz, sub, by omega, by omega, ?_⟩⟩, fun a1 => ⟨fun a2 => no ?_, fun a2 => ⟨fun a3 => ⟨by omega, by omega, by omega, fun a4 => no ?_, fun a4 => ?_⟩, fun a3 => ?_⟩⟩⟩, fun a0 => no ?_⟩
  · rw [if_pos (by omega), if_pos (by omega)] at step
    have e : txR s q n = (2, mkS [], n) := by unfold txR; rw [step]; simp only []; rw [if_neg (by rw [a2]; simp)]
    rw [e]; exact ⟨rfl, rfl, rfl, rfl, rfl, rfl⟩
  · rw [if_pos (by omega), if_pos (by omega)] at step
    have e : txR s q n = (0, bs l, n + j + 1) := by unfold txR; rw [step]; simp only []; rw [if_pos a2]
    rw [e]; exact ⟨rfl, rfl, rfl, rfl, rfl, show ((n + j + 1 : Nat) : Int) = _ by omega⟩
  · rw [step, if_pos (by omega), if_neg (by omega), if_pos (by omega)]
  · rw [step, if_pos (by omega), if_neg (by omega), if_neg (by omega), if_pos (by omega)]
    rw [Option.isSome_eq_false_iff, Option.isNone_iff_eq_none] at a4
    rw [a4]
  · rw [if_pos (by omega), if_neg (by omega), if_neg (by omega), if_pos (by omega)] at step
    obtain ⟨c, hc⟩ := Option.isSome_iff_exists.mp a4
    have hlt := esc_lt _ bj1
    have hp : n + j + 1 < s.size := bat_pos fun e => by rw [e] at hc; cases hc
    rw [hc] at step hlt ⊢
    simp only [Option.getD_some] at step hlt ⊢
    rw [bs_app _ _ hlt, bcells_len, bs_size]
    refine ⟨by omega, by omega, by omega, by simp, ⟨l ++ [c], rfl, ?_, by omega, by omega, by simp; omega, ?_⟩, by omega⟩
    · intro x hx
      rcases List.mem_append.mp hx with h | h
      · exact hl x h
      · rw [List.mem_singleton.mp h]; exact hlt
    · rw [show ((n : Int) + ((j : Int) + 1 + 1)).toNat = n + j + 2 by omega, Int.toNat_natCast, Int.toNat_natCast, step]
  · rw [if_pos (by omega), if_neg (by omega), if_neg (by omega), if_neg (by omega)] at step
    rw [bs_app _ _ bj, bcells_len, bs_size]
    refine ⟨by omega, by omega, by omega, by simp, ⟨l ++ [bat s (n + j)], rfl, ?_, by omega, by omega, by simp; omega, ?_⟩, by omega⟩
    · intro x hx
      rcases List.mem_append.mp hx with h | h
      · exact hl x h
      · rw [List.mem_singleton.mp h]; exact bj
    · rw [show ((n : Int) + ((j : Int) + 1)).toNat = n + j + 1 by omega, Int.toNat_natCast, Int.toNat_natCast, step]
  · rw [step, if_neg (by omega)]
theorem word_eq (s : ByteArray) (i : Int) : askF P (tWord) Go.Proofs.Try.f16 cWord (fun _ => {}) ⟨s, i⟩ = ((0 : Int) ≤ i ∧ i ≤ (↑(ByteArray.size s) : Int) ∧ ByteArray.size s < (100000 : Nat) → (decide (i = (↑(ByteArray.size s) : Int)) = true → (↑(Prod.fst (Prod.fst (Prod.snd (wdR s (Int.toNat i))))) : Int) = (5 : Int) ∧ Prod.fst (Prod.snd (Prod.fst (Prod.snd (wdR s (Int.toNat i))))) = mkS [] ∧ (↑(Prod.fst (Prod.snd (Prod.snd (Prod.fst (Prod.snd (wdR s (Int.toNat i))))))) : Int) = (0 : Int) ∧ (↑(Prod.snd (Prod.snd (Prod.snd (Prod.fst (Prod.snd (wdR s (Int.toNat i))))))) : Int) = i ∧ (↑(Prod.fst (wdR s (Int.toNat i))) : Int) = (0 : Int) ∧ s = s ∧ Int.ofNat (Prod.snd (Prod.snd (wdR s (Int.toNat i)))) = i ∧ True) ∧ (decide (i = (↑(ByteArray.size s) : Int)) = false → (0 : Int) = (0 : Int) ∧ s = s ∧ i = i ∧ ((0 : Int) ≤ i ∧ i ≤ (↑(ByteArray.size s) : Int) ∧ ByteArray.size s < (1000000 : Nat) ∧ (0 : Int) ≤ (0 : Int) ∧ (0 : Int) < (1000000 : Int)) ∧ (↑(bat s (Int.toNat (i + (0 : Int)))) : Int) = (↑(bat s (Int.toNat (i + (0 : Int)))) : Int) ∧ ((0 : Int) ≤ (↑(bat s (Int.toNat (i + (0 : Int)))) : Int) ∧ (↑(bat s (Int.toNat (i + (0 : Int)))) : Int) < (256 : Int)) ∧ (isLet (Int.toNat (↑(bat s (Int.toNat (i + (0 : Int)))) : Int)) = true → s = s ∧ i = i ∧ ((0 : Int) ≤ i ∧ i < (↑(ByteArray.size s) : Int) ∧ ByteArray.size s < (100000 : Nat)) ∧ (↑(Prod.fst (Prod.fst (Prod.snd (wdR s (Int.toNat i))))) : Int) = (↑(1 : Nat) : Int) ∧ Prod.fst (Prod.snd (Prod.fst (Prod.snd (wdR s (Int.toNat i))))) = ByteArray.extract s (Int.toNat i) (nmE s (Int.toNat i + (1 : Nat))) ∧ (↑(Prod.fst (Prod.snd (Prod.snd (Prod.fst (Prod.snd (wdR s (Int.toNat i))))))) : Int) = (↑(0 : Nat) : Int) ∧ (↑(Prod.snd (Prod.snd (Prod.snd (Prod.fst (Prod.snd (wdR s (Int.toNat i))))))) : Int) = (↑(Int.toNat i) : Int) ∧ (↑(Prod.fst (wdR s (Int.toNat i))) : Int) = (0 : Int) ∧ s = s ∧ Int.ofNat (Prod.snd (Prod.snd (wdR s (Int.toNat i)))) = Int.ofNat (nmE s (Int.toNat i + (1 : Nat))) ∧ True) ∧ (isLet (Int.toNat (↑(bat s (Int.toNat (i + (0 : Int)))) : Int)) = false → (decide ((↑(bat s (Int.toNat (i + (0 : Int)))) : Int) = (46 : Int)) = true → (1 : Int) = (1 : Int) ∧ s = s ∧ i = i ∧ ((0 : Int) ≤ i ∧ i ≤ (↑(ByteArray.size s) : Int) ∧ ByteArray.size s < (1000000 : Nat) ∧ (0 : Int) ≤ (1 : Int) ∧ (1 : Int) < (1000000 : Int)) ∧ (↑(bat s (Int.toNat (i + (1 : Int)))) : Int) = (↑(bat s (Int.toNat (i + (1 : Int)))) : Int) ∧ ((0 : Int) ≤ (↑(bat s (Int.toNat (i + (1 : Int)))) : Int) ∧ (↑(bat s (Int.toNat (i + (1 : Int)))) : Int) < (256 : Int)) ∧ (isLet (Int.toNat (↑(bat s (Int.toNat (i + (1 : Int)))) : Int)) = true → s = s ∧ i = i ∧ ((0 : Int) ≤ i ∧ i < (↑(ByteArray.size s) : Int) ∧ ByteArray.size s < (100000 : Nat)) ∧ (↑(Prod.fst (Prod.fst (Prod.snd (wdR s (Int.toNat i))))) : Int) = (↑(1 : Nat) : Int) ∧ Prod.fst (Prod.snd (Prod.fst (Prod.snd (wdR s (Int.toNat i))))) = ByteArray.extract s (Int.toNat i) (nmE s (Int.toNat i + (1 : Nat))) ∧ (↑(Prod.fst (Prod.snd (Prod.snd (Prod.fst (Prod.snd (wdR s (Int.toNat i))))))) : Int) = (↑(0 : Nat) : Int) ∧ (↑(Prod.snd (Prod.snd (Prod.snd (Prod.fst (Prod.snd (wdR s (Int.toNat i))))))) : Int) = (↑(Int.toNat i) : Int) ∧ (↑(Prod.fst (wdR s (Int.toNat i))) : Int) = (0 : Int) ∧ s = s ∧ Int.ofNat (Prod.snd (Prod.snd (wdR s (Int.toNat i)))) = Int.ofNat (nmE s (Int.toNat i + (1 : Nat))) ∧ True) ∧ (isLet (Int.toNat (↑(bat s (Int.toNat (i + (1 : Int)))) : Int)) = false → (↑(bat s (Int.toNat (i + (0 : Int)))) : Int) = (↑(bat s (Int.toNat (i + (0 : Int)))) : Int) ∧ ((0 : Int) ≤ (↑(bat s (Int.toNat (i + (0 : Int)))) : Int) ∧ (↑(bat s (Int.toNat (i + (0 : Int)))) : Int) < (256 : Int)) ∧ (isDig (Int.toNat (↑(bat s (Int.toNat (i + (0 : Int)))) : Int)) = true → s = s ∧ i = i ∧ ((0 : Int) ≤ i ∧ i < (↑(ByteArray.size s) : Int) ∧ ByteArray.size s < (100000 : Nat) ∧ isDig (bat s (Int.toNat i)) = true) ∧ (↑(Prod.fst (Prod.fst (Prod.snd (wdR s (Int.toNat i))))) : Int) = (↑(nbK (Prod.fst (nbR s (Int.toNat i))) (2 : Nat)) : Int) ∧ Prod.fst (Prod.snd (Prod.fst (Prod.snd (wdR s (Int.toNat i))))) = mkS [] ∧ (↑(Prod.fst (Prod.snd (Prod.snd (Prod.fst (Prod.snd (wdR s (Int.toNat i))))))) : Int) = (↑(Prod.fst (Prod.snd (nbR s (Int.toNat i)))) : Int) ∧ (↑(Prod.snd (Prod.snd (Prod.snd (Prod.fst (Prod.snd (wdR s (Int.toNat i))))))) : Int) = (↑(nbK (Prod.fst (nbR s (Int.toNat i))) (Int.toNat i)) : Int) ∧ (↑(Prod.fst (wdR s (Int.toNat i))) : Int) = (↑(Prod.fst (nbR s (Int.toNat i))) : Int) ∧ s = s ∧ Int.ofNat (Prod.snd (Prod.snd (wdR s (Int.toNat i)))) = Int.ofNat (Prod.snd (Prod.snd (nbR s (Int.toNat i)))) ∧ True) ∧ (isDig (Int.toNat (↑(bat s (Int.toNat (i + (0 : Int)))) : Int)) = false → (decide ((↑(bat s (Int.toNat (i + (0 : Int)))) : Int) = (34 : Int)) = true → (↑(bat s (Int.toNat (i + (0 : Int)))) : Int) = (↑(bat s (Int.toNat (i + (0 : Int)))) : Int) ∧ s = s ∧ i = i ∧ ((0 : Int) ≤ i ∧ i < (↑(ByteArray.size s) : Int) ∧ ByteArray.size s < (100000 : Nat) ∧ ((↑(bat s (Int.toNat (i + (0 : Int)))) : Int) = (34 : Int) ∨ (↑(bat s (Int.toNat (i + (0 : Int)))) : Int) = (39 : Int))) ∧ (↑(Prod.fst (Prod.fst (Prod.snd (wdR s (Int.toNat i))))) : Int) = (↑(nbK (Prod.fst (txR s (Int.toNat (↑(bat s (Int.toNat (i + (0 : Int)))) : Int)) (Int.toNat i))) (3 : Nat)) : Int) ∧ Prod.fst (Prod.snd (Prod.fst (Prod.snd (wdR s (Int.toNat i))))) = Prod.fst (Prod.snd (txR s (Int.toNat (↑(bat s (Int.toNat (i + (0 : Int)))) : Int)) (Int.toNat i))) ∧ (↑(Prod.fst (Prod.snd (Prod.snd (Prod.fst (Prod.snd (wdR s (Int.toNat i))))))) : Int) = (↑(0 : Nat) : Int) ∧ (↑(Prod.snd (Prod.snd (Prod.snd (Prod.fst (Prod.snd (wdR s (Int.toNat i))))))) : Int) = (↑(nbK (Prod.fst (txR s (Int.toNat (↑(bat s (Int.toNat (i + (0 : Int)))) : Int)) (Int.toNat i))) (Int.toNat i)) : Int) ∧ (↑(Prod.fst (wdR s (Int.toNat i))) : Int) = (↑(Prod.fst (txR s (Int.toNat (↑(bat s (Int.toNat (i + (0 : Int)))) : Int)) (Int.toNat i))) : Int) ∧ s = s ∧ Int.ofNat (Prod.snd (Prod.snd (wdR s (Int.toNat i)))) = (↑(Prod.snd (Prod.snd (txR s (Int.toNat (↑(bat s (Int.toNat (i + (0 : Int)))) : Int)) (Int.toNat i)))) : Int) ∧ True) ∧ (decide ((↑(bat s (Int.toNat (i + (0 : Int)))) : Int) = (34 : Int)) = false → (decide ((↑(bat s (Int.toNat (i + (0 : Int)))) : Int) = (39 : Int)) = true → (↑(bat s (Int.toNat (i + (0 : Int)))) : Int) = (↑(bat s (Int.toNat (i + (0 : Int)))) : Int) ∧ s = s ∧ i = i ∧ ((0 : Int) ≤ i ∧ i < (↑(ByteArray.size s) : Int) ∧ ByteArray.size s < (100000 : Nat) ∧ ((↑(bat s (Int.toNat (i + (0 : Int)))) : Int) = (34 : Int) ∨ (↑(bat s (Int.toNat (i + (0 : Int)))) : Int) = (39 : Int))) ∧ (↑(Prod.fst (Prod.fst (Prod.snd (wdR s (Int.toNat i))))) : Int) = (↑(nbK (Prod.fst (txR s (Int.toNat (↑(bat s (Int.toNat (i + (0 : Int)))) : Int)) (Int.toNat i))) (3 : Nat)) : Int) ∧ Prod.fst (Prod.snd (Prod.fst (Prod.snd (wdR s (Int.toNat i))))) = Prod.fst (Prod.snd (txR s (Int.toNat (↑(bat s (Int.toNat (i + (0 : Int)))) : Int)) (Int.toNat i))) ∧ (↑(Prod.fst (Prod.snd (Prod.snd (Prod.fst (Prod.snd (wdR s (Int.toNat i))))))) : Int) = (↑(0 : Nat) : Int) ∧ (↑(Prod.snd (Prod.snd (Prod.snd (Prod.fst (Prod.snd (wdR s (Int.toNat i))))))) : Int) = (↑(nbK (Prod.fst (txR s (Int.toNat (↑(bat s (Int.toNat (i + (0 : Int)))) : Int)) (Int.toNat i))) (Int.toNat i)) : Int) ∧ (↑(Prod.fst (wdR s (Int.toNat i))) : Int) = (↑(Prod.fst (txR s (Int.toNat (↑(bat s (Int.toNat (i + (0 : Int)))) : Int)) (Int.toNat i))) : Int) ∧ s = s ∧ Int.ofNat (Prod.snd (Prod.snd (wdR s (Int.toNat i)))) = (↑(Prod.snd (Prod.snd (txR s (Int.toNat (↑(bat s (Int.toNat (i + (0 : Int)))) : Int)) (Int.toNat i)))) : Int) ∧ True) ∧ (decide ((↑(bat s (Int.toNat (i + (0 : Int)))) : Int) = (39 : Int)) = false → mkS [(123 : Nat), (125 : Nat), (40 : Nat), (41 : Nat), (91 : Nat), (93 : Nat), (61 : Nat), (59 : Nat), (44 : Nat), (60 : Nat), (62 : Nat), (45 : Nat)] = mkS [(123 : Nat), (125 : Nat), (40 : Nat), (41 : Nat), (91 : Nat), (93 : Nat), (61 : Nat), (59 : Nat), (44 : Nat), (60 : Nat), (62 : Nat), (45 : Nat)] ∧ (↑(bat s (Int.toNat (i + (0 : Int)))) : Int) = (↑(bat s (Int.toNat (i + (0 : Int)))) : Int) ∧ ((0 : Int) ≤ (↑(bat s (Int.toNat (i + (0 : Int)))) : Int) ∧ (↑(bat s (Int.toNat (i + (0 : Int)))) : Int) < (256 : Int)) ∧ (decide ((0 : Int) ≤ Lib.indexByte (Array.toList (ByteArray.data (mkS [(123 : Nat), (125 : Nat), (40 : Nat), (41 : Nat), (91 : Nat), (93 : Nat), (61 : Nat), (59 : Nat), (44 : Nat), (60 : Nat), (62 : Nat), (45 : Nat)]))) (UInt8.ofNat (Int.toNat (↑(bat s (Int.toNat (i + (0 : Int)))) : Int)))) = true → ((-9223372036854775808 : Int) ≤ i + (1 : Int) ∧ i + (1 : Int) ≤ (9223372036854775807 : Int)) ∧ ∃ (s_1 : ByteArray), ByteArray.size s_1 = (1 : Nat) ∧ subL [Value.int IntKind.u8 (↑(bat s (Int.toNat (i + (0 : Int)))) : Int)] (0 : Nat) (bcells s_1) ∧ ((-9223372036854775808 : Int) ≤ i + (1 : Int) - (1 : Int) ∧ i + (1 : Int) - (1 : Int) ≤ (9223372036854775807 : Int)) ∧ (↑(Prod.fst (Prod.fst (Prod.snd (wdR s (Int.toNat i))))) : Int) = (4 : Int) ∧ Prod.fst (Prod.snd (Prod.fst (Prod.snd (wdR s (Int.toNat i))))) = s_1 ∧ (↑(Prod.fst (Prod.snd (Prod.snd (Prod.fst (Prod.snd (wdR s (Int.toNat i))))))) : Int) = (0 : Int) ∧ (↑(Prod.snd (Prod.snd (Prod.snd (Prod.fst (Prod.snd (wdR s (Int.toNat i))))))) : Int) = i + (1 : Int) - (1 : Int) ∧ (↑(Prod.fst (wdR s (Int.toNat i))) : Int) = (0 : Int) ∧ s = s ∧ Int.ofNat (Prod.snd (Prod.snd (wdR s (Int.toNat i)))) = i + (1 : Int) ∧ True) ∧ (decide ((0 : Int) ≤ Lib.indexByte (Array.toList (ByteArray.data (mkS [(123 : Nat), (125 : Nat), (40 : Nat), (41 : Nat), (91 : Nat), (93 : Nat), (61 : Nat), (59 : Nat), (44 : Nat), (60 : Nat), (62 : Nat), (45 : Nat)]))) (UInt8.ofNat (Int.toNat (↑(bat s (Int.toNat (i + (0 : Int)))) : Int)))) = false → (↑(Prod.fst (Prod.fst (Prod.snd (wdR s (Int.toNat i))))) : Int) = (0 : Int) ∧ Prod.fst (Prod.snd (Prod.fst (Prod.snd (wdR s (Int.toNat i))))) = mkS [] ∧ (↑(Prod.fst (Prod.snd (Prod.snd (Prod.fst (Prod.snd (wdR s (Int.toNat i))))))) : Int) = (0 : Int) ∧ (↑(Prod.snd (Prod.snd (Prod.snd (Prod.fst (Prod.snd (wdR s (Int.toNat i))))))) : Int) = (0 : Int) ∧ (↑(Prod.fst (wdR s (Int.toNat i))) : Int) = (2 : Int) ∧ s = s ∧ Int.ofNat (Prod.snd (Prod.snd (wdR s (Int.toNat i)))) = i ∧ True)))))) ∧ (decide ((↑(bat s (Int.toNat (i + (0 : Int)))) : Int) = (46 : Int)) = false → (↑(bat s (Int.toNat (i + (0 : Int)))) : Int) = (↑(bat s (Int.toNat (i + (0 : Int)))) : Int) ∧ ((0 : Int) ≤ (↑(bat s (Int.toNat (i + (0 : Int)))) : Int) ∧ (↑(bat s (Int.toNat (i + (0 : Int)))) : Int) < (256 : Int)) ∧ (isDig (Int.toNat (↑(bat s (Int.toNat (i + (0 : Int)))) : Int)) = true → s = s ∧ i = i ∧ ((0 : Int) ≤ i ∧ i < (↑(ByteArray.size s) : Int) ∧ ByteArray.size s < (100000 : Nat) ∧ isDig (bat s (Int.toNat i)) = true) ∧ (↑(Prod.fst (Prod.fst (Prod.snd (wdR s (Int.toNat i))))) : Int) = (↑(nbK (Prod.fst (nbR s (Int.toNat i))) (2 : Nat)) : Int) ∧ Prod.fst (Prod.snd (Prod.fst (Prod.snd (wdR s (Int.toNat i))))) = mkS [] ∧ (↑(Prod.fst (Prod.snd (Prod.snd (Prod.fst (Prod.snd (wdR s (Int.toNat i))))))) : Int) = (↑(Prod.fst (Prod.snd (nbR s (Int.toNat i)))) : Int) ∧ (↑(Prod.snd (Prod.snd (Prod.snd (Prod.fst (Prod.snd (wdR s (Int.toNat i))))))) : Int) = (↑(nbK (Prod.fst (nbR s (Int.toNat i))) (Int.toNat i)) : Int) ∧ (↑(Prod.fst (wdR s (Int.toNat i))) : Int) = (↑(Prod.fst (nbR s (Int.toNat i))) : Int) ∧ s = s ∧ Int.ofNat (Prod.snd (Prod.snd (wdR s (Int.toNat i)))) = Int.ofNat (Prod.snd (Prod.snd (nbR s (Int.toNat i)))) ∧ True) ∧ (isDig (Int.toNat (↑(bat s (Int.toNat (i + (0 : Int)))) : Int)) = false → (decide ((↑(bat s (Int.toNat (i + (0 : Int)))) : Int) = (34 : Int)) = true → (↑(bat s (Int.toNat (i + (0 : Int)))) : Int) = (↑(bat s (Int.toNat (i + (0 : Int)))) : Int) ∧ s = s ∧ i = i ∧ ((0 : Int) ≤ i ∧ i < (↑(ByteArray.size s) : Int) ∧ ByteArray.size s < (100000 : Nat) ∧ ((↑(bat s (Int.toNat (i + (0 : Int)))) : Int) = (34 : Int) ∨ (↑(bat s (Int.toNat (i + (0 : Int)))) : Int) = (39 : Int))) ∧ (↑(Prod.fst (Prod.fst (Prod.snd (wdR s (Int.toNat i))))) : Int) = (↑(nbK (Prod.fst (txR s (Int.toNat (↑(bat s (Int.toNat (i + (0 : Int)))) : Int)) (Int.toNat i))) (3 : Nat)) : Int) ∧ Prod.fst (Prod.snd (Prod.fst (Prod.snd (wdR s (Int.toNat i))))) = Prod.fst (Prod.snd (txR s (Int.toNat (↑(bat s (Int.toNat (i + (0 : Int)))) : Int)) (Int.toNat i))) ∧ (↑(Prod.fst (Prod.snd (Prod.snd (Prod.fst (Prod.snd (wdR s (Int.toNat i))))))) : Int) = (↑(0 : Nat) : Int) ∧ (↑(Prod.snd (Prod.snd (Prod.snd (Prod.fst (Prod.snd (wdR s (Int.toNat i))))))) : Int) = (↑(nbK (Prod.fst (txR s (Int.toNat (↑(bat s (Int.toNat (i + (0 : Int)))) : Int)) (Int.toNat i))) (Int.toNat i)) : Int) ∧ (↑(Prod.fst (wdR s (Int.toNat i))) : Int) = (↑(Prod.fst (txR s (Int.toNat (↑(bat s (Int.toNat (i + (0 : Int)))) : Int)) (Int.toNat i))) : Int) ∧ s = s ∧ Int.ofNat (Prod.snd (Prod.snd (wdR s (Int.toNat i)))) = (↑(Prod.snd (Prod.snd (txR s (Int.toNat (↑(bat s (Int.toNat (i + (0 : Int)))) : Int)) (Int.toNat i)))) : Int) ∧ True) ∧ (decide ((↑(bat s (Int.toNat (i + (0 : Int)))) : Int) = (34 : Int)) = false → (decide ((↑(bat s (Int.toNat (i + (0 : Int)))) : Int) = (39 : Int)) = true → (↑(bat s (Int.toNat (i + (0 : Int)))) : Int) = (↑(bat s (Int.toNat (i + (0 : Int)))) : Int) ∧ s = s ∧ i = i ∧ ((0 : Int) ≤ i ∧ i < (↑(ByteArray.size s) : Int) ∧ ByteArray.size s < (100000 : Nat) ∧ ((↑(bat s (Int.toNat (i + (0 : Int)))) : Int) = (34 : Int) ∨ (↑(bat s (Int.toNat (i + (0 : Int)))) : Int) = (39 : Int))) ∧ (↑(Prod.fst (Prod.fst (Prod.snd (wdR s (Int.toNat i))))) : Int) = (↑(nbK (Prod.fst (txR s (Int.toNat (↑(bat s (Int.toNat (i + (0 : Int)))) : Int)) (Int.toNat i))) (3 : Nat)) : Int) ∧ Prod.fst (Prod.snd (Prod.fst (Prod.snd (wdR s (Int.toNat i))))) = Prod.fst (Prod.snd (txR s (Int.toNat (↑(bat s (Int.toNat (i + (0 : Int)))) : Int)) (Int.toNat i))) ∧ (↑(Prod.fst (Prod.snd (Prod.snd (Prod.fst (Prod.snd (wdR s (Int.toNat i))))))) : Int) = (↑(0 : Nat) : Int) ∧ (↑(Prod.snd (Prod.snd (Prod.snd (Prod.fst (Prod.snd (wdR s (Int.toNat i))))))) : Int) = (↑(nbK (Prod.fst (txR s (Int.toNat (↑(bat s (Int.toNat (i + (0 : Int)))) : Int)) (Int.toNat i))) (Int.toNat i)) : Int) ∧ (↑(Prod.fst (wdR s (Int.toNat i))) : Int) = (↑(Prod.fst (txR s (Int.toNat (↑(bat s (Int.toNat (i + (0 : Int)))) : Int)) (Int.toNat i))) : Int) ∧ s = s ∧ Int.ofNat (Prod.snd (Prod.snd (wdR s (Int.toNat i)))) = (↑(Prod.snd (Prod.snd (txR s (Int.toNat (↑(bat s (Int.toNat (i + (0 : Int)))) : Int)) (Int.toNat i)))) : Int) ∧ True) ∧ (decide ((↑(bat s (Int.toNat (i + (0 : Int)))) : Int) = (39 : Int)) = false → mkS [(123 : Nat), (125 : Nat), (40 : Nat), (41 : Nat), (91 : Nat), (93 : Nat), (61 : Nat), (59 : Nat), (44 : Nat), (60 : Nat), (62 : Nat), (45 : Nat)] = mkS [(123 : Nat), (125 : Nat), (40 : Nat), (41 : Nat), (91 : Nat), (93 : Nat), (61 : Nat), (59 : Nat), (44 : Nat), (60 : Nat), (62 : Nat), (45 : Nat)] ∧ (↑(bat s (Int.toNat (i + (0 : Int)))) : Int) = (↑(bat s (Int.toNat (i + (0 : Int)))) : Int) ∧ ((0 : Int) ≤ (↑(bat s (Int.toNat (i + (0 : Int)))) : Int) ∧ (↑(bat s (Int.toNat (i + (0 : Int)))) : Int) < (256 : Int)) ∧ (decide ((0 : Int) ≤ Lib.indexByte (Array.toList (ByteArray.data (mkS [(123 : Nat), (125 : Nat), (40 : Nat), (41 : Nat), (91 : Nat), (93 : Nat), (61 : Nat), (59 : Nat), (44 : Nat), (60 : Nat), (62 : Nat), (45 : Nat)]))) (UInt8.ofNat (Int.toNat (↑(bat s (Int.toNat (i + (0 : Int)))) : Int)))) = true → ((-9223372036854775808 : Int) ≤ i + (1 : Int) ∧ i + (1 : Int) ≤ (9223372036854775807 : Int)) ∧ ∃ (s_1 : ByteArray), ByteArray.size s_1 = (1 : Nat) ∧ subL [Value.int IntKind.u8 (↑(bat s (Int.toNat (i + (0 : Int)))) : Int)] (0 : Nat) (bcells s_1) ∧ ((-9223372036854775808 : Int) ≤ i + (1 : Int) - (1 : Int) ∧ i + (1 : Int) - (1 : Int) ≤ (9223372036854775807 : Int)) ∧ (↑(Prod.fst (Prod.fst (Prod.snd (wdR s (Int.toNat i))))) : Int) = (4 : Int) ∧ Prod.fst (Prod.snd (Prod.fst (Prod.snd (wdR s (Int.toNat i))))) = s_1 ∧ (↑(Prod.fst (Prod.snd (Prod.snd (Prod.fst (Prod.snd (wdR s (Int.toNat i))))))) : Int) = (0 : Int) ∧ (↑(Prod.snd (Prod.snd (Prod.snd (Prod.fst (Prod.snd (wdR s (Int.toNat i))))))) : Int) = i + (1 : Int) - (1 : Int) ∧ (↑(Prod.fst (wdR s (Int.toNat i))) : Int) = (0 : Int) ∧ s = s ∧ Int.ofNat (Prod.snd (Prod.snd (wdR s (Int.toNat i)))) = i + (1 : Int) ∧ True) ∧ (decide ((0 : Int) ≤ Lib.indexByte (Array.toList (ByteArray.data (mkS [(123 : Nat), (125 : Nat), (40 : Nat), (41 : Nat), (91 : Nat), (93 : Nat), (61 : Nat), (59 : Nat), (44 : Nat), (60 : Nat), (62 : Nat), (45 : Nat)]))) (UInt8.ofNat (Int.toNat (↑(bat s (Int.toNat (i + (0 : Int)))) : Int)))) = false → (↑(Prod.fst (Prod.fst (Prod.snd (wdR s (Int.toNat i))))) : Int) = (0 : Int) ∧ Prod.fst (Prod.snd (Prod.fst (Prod.snd (wdR s (Int.toNat i))))) = mkS [] ∧ (↑(Prod.fst (Prod.snd (Prod.snd (Prod.fst (Prod.snd (wdR s (Int.toNat i))))))) : Int) = (0 : Int) ∧ (↑(Prod.snd (Prod.snd (Prod.snd (Prod.fst (Prod.snd (wdR s (Int.toNat i))))))) : Int) = (0 : Int) ∧ (↑(Prod.fst (wdR s (Int.toNat i))) : Int) = (2 : Int) ∧ s = s ∧ Int.ofNat (Prod.snd (Prod.snd (wdR s (Int.toNat i)))) = i ∧ True)))))))) := by kernel_rfl
theorem tWord_ok : ∀ g C, tWord g = some C → CtOK P g C := ctTab_ok (forall_tab byteAt_ok (forall_tab letter_ok (forall_tab digit_ok (forall_tab name_ok (forall_tab number_ok (forall_tab text_ok (forall_tab indexByte_ok nil_tab)))))))
theorem sgs_ix : ∀ c < 256, 0 ≤ Lib.indexByte (mkS [123, 125, 40, 41, 91, 93, 61, 59, 44, 60, 62, 45]).data.toList (UInt8.ofNat c) ↔ c ∈ sgs := by decide +kernel
theorem word_ok : CtOK P 16 cWord := by
  refine ask_ok mixed tWord_ok (W := fun _ => {}) Go.Proofs.Try.func16 (by kernel_rfl) (by decide) (by decide) (fun ⟨s, i⟩ => by kernel_rfl) fun ⟨s, i⟩ => (word_eq s i).mpr ?_
  rintro ⟨h1, h2, h3⟩
  obtain ⟨n, rfl⟩ := Int.eq_ofNat_of_zero_le h1
  have b0 := bat_lt s n
  have b1 := bat_lt s (n + 1)
  simp only [decide_eq_true_eq, decide_eq_false_iff_not, and_true, true_and, Int.toNat_natCast, Int.add_zero, tn1, tn2]
  have eqs : n = s.size → wdR s n = (0, (5, mkS [], 0, n), n) := fun h => by unfold wdR; rw [if_pos h]
  have eN : ¬ n = s.size → isLet (bat s n) = true ∨ (bat s n = 46 ∧ isLet (bat s (n + 1)) = true) → wdR s n = (0, (1, s.extract n (nmE s (n + 1)), 0, n), nmE s (n + 1)) := fun h h1 => by unfold wdR; rw [if_neg h, if_pos h1]
  have eD : ¬ n = s.size → ¬ (isLet (bat s n) = true ∨ (bat s n = 46 ∧ isLet (bat s (n + 1)) = true)) → isDig (bat s n) = true → wdR s n = ((nbR s n).1, (nbK (nbR s n).1 2, mkS [], (nbR s n).2.1, nbK (nbR s n).1 n), (nbR s n).2.2) := fun h h1 h2 => by unfold wdR; rw [if_neg h, if_neg h1, if_pos h2]
  have eT : ¬ n = s.size → ¬ (isLet (bat s n) = true ∨ (bat s n = 46 ∧ isLet (bat s (n + 1)) = true)) → isDig (bat s n) = false → bat s n = 34 ∨ bat s n = 39 → wdR s n = ((txR s (bat s n) n).1, (nbK (txR s (bat s n) n).1 3, (txR s (bat s n) n).2.1, 0, nbK (txR s (bat s n) n).1 n), (txR s (bat s n) n).2.2) := fun h h1 h2 h4 => by unfold wdR; rw [if_neg h, if_neg h1, if_neg (by rw [h2]; simp), if_pos h4]
  have eS : ¬ n = s.size → ¬ (isLet (bat s n) = true ∨ (bat s n = 46 ∧ isLet (bat s (n + 1)) = true)) → isDig (bat s n) = false → ¬ (bat s n = 34 ∨ bat s n = 39) → wdR s n = if bat s n ∈ sgs then (0, (4, mkS [bat s n], 0, n), n + 1) else (2, (0, mkS [], 0, 0), n) := fun h h1 h2 h4 => by unfold wdR; rw [if_neg h, if_neg h1, if_neg (by rw [h2]; simp), if_neg h4]
  have sg := sgs_ix (bat s n) b0
  refine ⟨fun a0 => ?e, fun a0 => ⟨by omega, by omega, fun a1 => ⟨by omega, ?n1⟩, fun a1 => ⟨fun a2 => ⟨by omega, by omega, fun a3 => ⟨by omega, ?n2⟩, fun a3 => ?x⟩, fun a2 => ?y⟩⟩⟩
  case e => rw [eqs (by omega)]; exact ⟨rfl, rfl, rfl, rfl, rfl, rfl⟩
  case n1 => rw [eN (by omega) (.inl a1)]; exact ⟨rfl, rfl, rfl, rfl, rfl, rfl⟩
  case n2 => rw [eN (by omega) (.inr ⟨by omega, a3⟩)]; exact ⟨rfl, rfl, rfl, rfl, rfl, rfl⟩
  case x | y =>
    have nn : ¬ (isLet (bat s n) = true ∨ (bat s n = 46 ∧ isLet (bat s (n + 1)) = true)) := by
      rintro (h | ⟨h, h'⟩)
      · rw [a1] at h; cases h
      · first | (rw [a3] at h'; cases h') | omega
    refine ⟨by omega, fun c1 => ⟨⟨by omega, by omega, h3, c1⟩, ?_⟩, fun c1 => ⟨fun c2 => ⟨⟨by omega, by omega, h3, by omega⟩, ?_⟩, fun c2 => ⟨fun c3 => ⟨⟨by omega, by omega, h3, by omega⟩, ?_⟩, fun c3 => ⟨by omega, fun c4 => ?_, fun c4 => ?_⟩⟩⟩⟩
    · rw [eD (by omega) nn c1]; exact ⟨rfl, rfl, rfl, rfl, rfl, rfl⟩
    · rw [eT (by omega) nn c1 (by omega)]; exact ⟨rfl, rfl, rfl, rfl, rfl, rfl⟩
    · rw [eT (by omega) nn c1 (by omega)]; exact ⟨rfl, rfl, rfl, rfl, rfl, rfl⟩
    · rw [eS (by omega) nn c1 (by omega), if_pos (sg.mp c4)]
      refine ⟨by omega, mkS [bat s n], rfl, fun j v h => ?_, by omega, rfl, rfl, rfl, show ((n : Nat) : Int) = _ by omega, rfl, show ((n + 1 : Nat) : Int) = _ by omega⟩
      rw [Nat.zero_add]
      rw [show bcells (mkS [bat s n]) = [Value.int .u8 (bat s n : Nat)] from (bs_app [] _ b0).symm] at h
      exact h
    · rw [eS (by omega) nn c1 (by omega), if_neg (fun h => c4 (sg.mpr h))]
      exact ⟨rfl, rfl, rfl, rfl, rfl, rfl⟩
/-! All words of a text. -/
noncomputable abbrev Tk := Nat × ByteArray × Nat × Nat
noncomputable def tkV (x : Tk) : List Value := [.int .i64 (x.1 : Nat), .string x.2.1, .int .u64 (x.2.2.1 : Nat), .int .i64 (x.2.2.2 : Nat)]
noncomputable def tksV (l : List Tk) : List Value := l.flatMap tkV
noncomputable def lxF (s : ByteArray) : Nat → Nat → List Tk → List Tk × Nat × Nat
  | 0, _, _ => ([], 0, 0)
  | f + 1, i, acc =>
    if (spR s i).1 = false then ([], 2, (spR s i).2) else
    if (wdR s (spR s i).2).1 ≠ 0 then ([], (wdR s (spR s i).2).1, (wdR s (spR s i).2).2.2) else
    if (wdR s (spR s i).2).2.1.1 = 5 then (acc ++ [(wdR s (spR s i).2).2.1], 0, 0) else
    lxF s f (wdR s (spR s i).2).2.2 (acc ++ [(wdR s (spR s i).2).2.1])
noncomputable def lxE (s : ByteArray) (i : Nat) (acc : List Tk) : List Tk × Nat × Nat := lxF s (s.size + 1 - i) i acc
noncomputable def lxR (s : ByteArray) : List Tk × Nat × Nat := if 3000 < s.size then ([], 3, 0) else lxE s 0 []
/-- Slices that hold such words. -/
noncomputable def tkM (l : List Tk) : List SV → PF
  | [x] => ⟨true, fun p => x.2.1 = l.length ∧ sliP p x.1 x.2.1 x.2.2 (tksV l), fun _ _ h e => ⟨e.1, sliP_mono h e.2⟩⟩
  | _ => {}
noncomputable def cLex : Ct where
  σ := ByteArray
  args := fun s => [.sv (.string s)]
  h := fun _ => []
  m := 1
  pre := fun s => s.size < 100000
  mem := fun _ => hG
  find := some fun l _ => match l with
    | [a] => gs a
    | _ => none
  r := fun s => .tup [.tsl 1, .sv (.int .i64 ((lxR s).2.1 : Nat)), .sv (.int .i64 ((lxR s).2.2 : Nat))]
  h' := fun _ => []
  m' := 2
  g := fun s => some { β := Unit, ks := [1], pre := fun _ => True, mem := fun _ xs => tkM (lxR s).1 xs }
noncomputable def lxFind (t : T AV) (h : T AO) : Option (List Value × Nat × Int) := match curOf h 1 with
  | some (_, j) => match t.get 2 with
    | some (.ssl id _ n _ _) => match h.get id with
      | some (.row _ _ vs) => some (vs, n, j)
      | some (.cells _ _ _ l) => match abin.concs l with
        | some vs => some (vs, n, j)
        | none => none
      | _ => none
    | some .nsl => some ([], 0, j)
    | _ => none
  | none => none
noncomputable def lxInv (s : ByteArray) (vs : List Value) (n : Nat) (j : Int) : Prop := s.size ≤ 3000 ∧ ∃ l : List Tk, vs = tksV l ∧ n = l.length ∧ 0 ≤ j ∧ j ≤ s.size ∧ l.length ≤ j.toNat ∧ lxE s j.toNat l = lxE s 0 []
noncomputable def wLex : cLex.σ → WayF := fun s => {
  ann := fun _ _ _ => some { σ := List Value × Nat × Int, pre := fun ⟨vs, n, j⟩ => lxInv s vs n j, find := some lxFind, t := fun ⟨vs, n, j⟩ => [(2, .ssl 2 0 n 4 3)], h := fun ⟨vs, n, j⟩ => [(2, .row 37 0 vs), (1, .cells 46 (some 0) false [.sv (.string s), .sv (.int .i64 j)])], more := 2, μ := fun ⟨vs, n, j⟩ => s.size - j.toNat, keep := [0, 5] }
  pubE := [2] }
noncomputable def tLex : Nat → Option Ct := ctTab [(15, cSpace), (16, cWord)]
theorem spR_le (s : ByteArray) : ∀ (f i : Nat), i ≤ s.size → s.size - i = f → i ≤ (spR s i).2 ∧ (spR s i).2 ≤ s.size := fun f => by
  induction f using Nat.strongRecOn with
  | ind f ih =>
    intro i hi hf
    rw [spR_step s i hi]
    split
    · rename_i h
      have := isSp_pos h
      have := ih (s.size - (i + 1)) (by omega) (i + 1) (by omega) rfl
      omega
    · split
      · rename_i h
        have := eol_gt s i h
        have := ih (s.size - eol s i) (by omega) (eol s i) (by omega) rfl
        omega
      · split
        · cases hc : cl s (i + 2) with
          | none => simp only []; omega
          | some k =>
            have := cl_le s _ _ _ rfl hc
            have := ih (s.size - (k + 2)) (by omega) (k + 2) (by omega) rfl
            simp only []; omega
        · simp only []; omega
theorem nmE_le (s : ByteArray) : ∀ (f j : Nat), j ≤ s.size → s.size - j = f → j ≤ nmE s j ∧ nmE s j ≤ s.size
  | 0, j, h, hf => by rw [nmE, hf, nmF]; omega
  | f + 1, j, h, hf => by
    rw [nmE_step s j h]
    split
    · have := nmE_le s f (j + 1) (by omega) (by omega)
      omega
    · omega
theorem dgE_le (s : ByteArray) (B : Nat) (hB : B ≤ 16) : ∀ (f j v : Nat), j ≤ s.size → s.size - j = f → j ≤ (dgE s B j v).1 ∧ (dgE s B j v).1 ≤ s.size
  | 0, j, v, h, hf => by rw [dgE, hf, dgF]; simp only []; omega
  | f + 1, j, v, h, hf => by
    rw [dgE_step s B j v hB]
    split
    · have := dgE_le s B hB f (j + 1) (v * B + dv (bat s j)) (by omega) (by omega)
      omega
    · simp only []; omega
theorem txE_le (s : ByteArray) (q : Nat) : ∀ (f j : Nat) (acc : List Nat) (l : List Nat) (to : Nat), s.size + 1 - j = f → txE s q j acc = some (l, to) → j < to ∧ to ≤ s.size := fun f => by
  induction f using Nat.strongRecOn with
  | ind f ih =>
    intro j acc l to hf h
    rw [txE_step] at h
    split at h
    · split at h
      · cases h; omega
      · split at h
        · cases h
        · split at h
          · cases he : esc (bat s (j + 1)) with
            | none => rw [he] at h; cases h
            | some c =>
              rw [he] at h
              have := ih _ (by omega) (j + 2) _ l to rfl h
              omega
          · have := ih _ (by omega) (j + 1) _ l to rfl h
            omega
    · cases h
theorem nbO_le (s : ByteArray) (n : Nat) (hn : n < s.size) : n + nbO s n ≤ s.size := by
  unfold nbO
  split
  · split
    · rename_i g2
      have : n + 2 < s.size := by
        rcases Nat.lt_or_ge (n + 2) s.size with h | h
        · exact h
        · rw [bat_out h] at g2; exact absurd g2.1 (by decide)
      omega
    · omega
  · omega
theorem dig_dv : ∀ c < 256, isDig c = true → dv c < 10 := by decide +kernel
theorem nbR_le (s : ByteArray) (i : Nat) (hi : i < s.size) (hd : isDig (bat s i) = true) : (nbR s i).2.2 ≤ s.size ∧ ((nbR s i).1 = 0 → i < (nbR s i).2.2) := by
  have hB := nbB_or s i
  have hle := dgE_le s (nbB s i) (by omega) _ (i + nbO s i) 0 (nbO_le s i hi) rfl
  have hgt : i < (dgE s (nbB s i) (i + nbO s i) 0).1 := by
    by_cases h48 : bat s i = 48
    · have : 1 ≤ nbO s i := by unfold nbO; rw [if_pos h48]; split <;> omega
      omega
    · have e0 : nbO s i = 0 := by unfold nbO; rw [if_neg h48]
      have eB : nbB s i = 10 := by unfold nbB; rw [if_neg h48]
      rw [e0, eB, Nat.add_zero, dgE_step s 10 i 0 (by omega), if_pos (dig_dv _ (bat_lt s i) hd)]
      have := dgE_le s 10 (by omega) _ (i + 1) (0 * 10 + dv (bat s i)) (by omega) rfl
      omega
  unfold nbR
  simp only []
  split
  · exact ⟨by simp only []; omega, fun h => by simp at h⟩
  · split
    · exact ⟨by simp only []; omega, fun h => by simp at h⟩
    · exact ⟨by simp only []; omega, fun _ => hgt⟩
theorem txR_le (s : ByteArray) (q i : Nat) (hi : i < s.size) : (txR s q i).2.2 ≤ s.size ∧ ((txR s q i).1 = 0 → i < (txR s q i).2.2) := by
  unfold txR
  cases h : txE s q (i + 1) [] with
  | none => exact ⟨by simp only []; omega, fun h => by simp at h⟩
  | some x =>
    obtain ⟨l, to⟩ := x
    have := txE_le s q _ _ _ _ _ rfl h
    simp only []
    split
    · exact ⟨by simp only []; omega, fun _ => by simp only []; omega⟩
    · exact ⟨by simp only []; omega, fun h => by simp at h⟩
theorem wdR_le (s : ByteArray) (i : Nat) (hi : i ≤ s.size) : (wdR s i).2.2 ≤ s.size ∧ ((wdR s i).1 = 0 → (wdR s i).2.1.1 ≠ 5 → i < (wdR s i).2.2) := by
  unfold wdR
  split
  · exact ⟨hi, fun _ h => absurd rfl h⟩
  · rename_i h0
    split
    · have := nmE_le s _ (i + 1) (by omega) rfl
      exact ⟨this.2, fun _ _ => by simp only []; omega⟩
    · split
      · rename_i hd
        have := nbR_le s i (by omega) hd
        exact ⟨this.1, fun h _ => this.2 h⟩
      · split
        · have := txR_le s (bat s i) i (by omega)
          exact ⟨this.1, fun h _ => this.2 h⟩
        · split
          · exact ⟨by simp only []; omega, fun _ _ => by simp only []; omega⟩
          · exact ⟨hi, fun h => by simp at h⟩
theorem lxF_more (s : ByteArray) : ∀ (f g i : Nat) (acc : List Tk), s.size + 1 - i ≤ f → s.size + 1 - i ≤ g → i ≤ s.size → lxF s f i acc = lxF s g i acc
  | 0, _, i, _, h, _, hi => by omega
  | _ + 1, 0, i, _, _, h, hi => by omega
  | f + 1, g + 1, i, acc, h1, h2, hi => by
    have a := spR_le s _ i hi rfl
    have b := wdR_le s (spR s i).2 a.2
    rw [lxF, lxF]
    split
    · rfl
    · split
      · rfl
      · split
        · rfl
        · rename_i q1 q2
          have := b.2 (by simpa using q1) q2
          exact lxF_more s f g _ _ (by omega) (by omega) b.1
theorem lxE_step (s : ByteArray) (i : Nat) (acc : List Tk) (hi : i ≤ s.size) : lxE s i acc =
    if (spR s i).1 = false then ([], 2, (spR s i).2) else
    if (wdR s (spR s i).2).1 ≠ 0 then ([], (wdR s (spR s i).2).1, (wdR s (spR s i).2).2.2) else
    if (wdR s (spR s i).2).2.1.1 = 5 then (acc ++ [(wdR s (spR s i).2).2.1], 0, 0) else
    lxE s (wdR s (spR s i).2).2.2 (acc ++ [(wdR s (spR s i).2).2.1]) := by
  have a := spR_le s _ i hi rfl
  have b := wdR_le s (spR s i).2 a.2
  unfold lxE
  obtain ⟨f, hf⟩ : ∃ f, s.size + 1 - i = f + 1 := ⟨s.size - i, by omega⟩
  rw [hf, lxF]
  split
  · rfl
  · split
    · rfl
    · split
      · rfl
      · rename_i q1 q2
        have := b.2 (by simpa using q1) q2
        exact lxF_more s _ _ _ _ (by omega) (by omega) b.1
theorem tksV_app (l : List Tk) (x : Tk) : tksV l ++ tkV x = tksV (l ++ [x]) := by
  unfold tksV; simp
theorem tksV_len (l : List Tk) : (tksV l).length = l.length * 4 := by
  unfold tksV
  induction l with
  | nil => rfl
  | cons a l ih => rw [List.flatMap_cons, List.length_append, ih]; simp [tkV]; omega
theorem Pl_none : Pl noA := fun x h => by cases h
theorem Pl_some {x : Addr} (h : x.spot = none) : Pl (some x) := fun y e => by cases e; exact h
theorem tLex_ok : ∀ g C, tLex g = some C → CtOK P g C := ctTab_ok (forall_tab space_ok (forall_tab word_ok nil_tab))
theorem lex_eq (s : ByteArray) : askF P (tLex) Go.Proofs.Try.f10 cLex (wLex) s = (ByteArray.size s < (100000 : Nat) → (∃ (p : Nat → Option Obj), True ∧ ∃ (m : Int), cellP p (Addr.mk (0 : Nat) (0 : Nat) none) = some (Value.int IntKind.i64 m)) → (decide ((3000 : Int) < (↑(ByteArray.size s) : Int)) = true → ∃ (b : Unit), noA = noA ∧ (0 : Nat) = (0 : Nat) ∧ (0 : Nat) = (0 : Nat) ∧ (↑(Prod.fst (Prod.snd (lxR s))) : Int) = (3 : Int) ∧ (↑(Prod.snd (Prod.snd (lxR s))) : Int) = (0 : Int) ∧ Pl noA ∧ True ∧ (∀ (p : Nat → Option Obj), (True ∧ ∃ (m : Int), cellP p (Addr.mk (0 : Nat) (0 : Nat) none) = some (Value.int IntKind.i64 m)) → (0 : Nat) = List.length (Prod.fst (lxR s)) ∧ sliP p noA (0 : Nat) (0 : Nat) (tksV (Prod.fst (lxR s)))) ∧ True) ∧ (decide ((3000 : Int) < (↑(ByteArray.size s) : Int)) = false → (s = s ∧ (0 : Nat) = (0 : Nat) ∧ s = s ∧ (0 : Int) = (0 : Int) ∧ (∀ (p : Nat → Option Obj), (True ∧ ∃ (m : Int), cellP p (Addr.mk (0 : Nat) (0 : Nat) none) = some (Value.int IntKind.i64 m)) → True ∧ ∃ (m : Int), cellP p (Addr.mk (0 : Nat) (0 : Nat) none) = some (Value.int IntKind.i64 m)) ∧ lxInv s [] (0 : Nat) (0 : Int) ∧ True) ∧ ∀ (s_1 : List Value × Nat × Int), lxInv s (Prod.fst s_1) (Prod.fst s_1.2) (Prod.snd s_1.2) → s = s ∧ s_1.2.2 = s_1.2.2 ∧ ((0 : Int) ≤ s_1.2.2 ∧ s_1.2.2 ≤ (↑(ByteArray.size s) : Int) ∧ ByteArray.size s < (100000 : Nat)) ∧ (∀ (p : Nat → Option Obj), (True ∧ ∃ (m : Int), cellP p (Addr.mk (0 : Nat) (0 : Nat) none) = some (Value.int IntKind.i64 m)) → ∃ (m : Int), cellP p (Addr.mk (0 : Nat) (0 : Nat) none) = some (Value.int IntKind.i64 m)) ∧ ((!Prod.fst (spR s (Int.toNat s_1.2.2))) = true → ∃ (b : Unit), noA = noA ∧ (0 : Nat) = (0 : Nat) ∧ (0 : Nat) = (0 : Nat) ∧ (↑(Prod.fst (Prod.snd (lxR s))) : Int) = (2 : Int) ∧ (↑(Prod.snd (Prod.snd (lxR s))) : Int) = Int.ofNat (Prod.snd (spR s (Int.toNat s_1.2.2))) ∧ Pl noA ∧ True ∧ (∀ (p : Nat → Option Obj), (True ∧ ∃ (m : Int), cellP p (Addr.mk (0 : Nat) (0 : Nat) none) = some (Value.int IntKind.i64 m)) → (0 : Nat) = List.length (Prod.fst (lxR s)) ∧ sliP p noA (0 : Nat) (0 : Nat) (tksV (Prod.fst (lxR s)))) ∧ True) ∧ ((!Prod.fst (spR s (Int.toNat s_1.2.2))) = false → s = s ∧ Int.ofNat (Prod.snd (spR s (Int.toNat s_1.2.2))) = Int.ofNat (Prod.snd (spR s (Int.toNat s_1.2.2))) ∧ ((0 : Int) ≤ Int.ofNat (Prod.snd (spR s (Int.toNat s_1.2.2))) ∧ Int.ofNat (Prod.snd (spR s (Int.toNat s_1.2.2))) ≤ (↑(ByteArray.size s) : Int) ∧ ByteArray.size s < (100000 : Nat)) ∧ ((!decide ((↑(Prod.fst (wdR s (Int.toNat (Int.ofNat (Prod.snd (spR s (Int.toNat s_1.2.2))))))) : Int) = (0 : Int))) = true → ∃ (b : Unit), noA = noA ∧ (0 : Nat) = (0 : Nat) ∧ (0 : Nat) = (0 : Nat) ∧ (↑(Prod.fst (Prod.snd (lxR s))) : Int) = (↑(Prod.fst (wdR s (Int.toNat (Int.ofNat (Prod.snd (spR s (Int.toNat s_1.2.2))))))) : Int) ∧ (↑(Prod.snd (Prod.snd (lxR s))) : Int) = Int.ofNat (Prod.snd (Prod.snd (wdR s (Int.toNat (Int.ofNat (Prod.snd (spR s (Int.toNat s_1.2.2)))))))) ∧ Pl noA ∧ True ∧ (∀ (p : Nat → Option Obj), (True ∧ ∃ (m : Int), cellP p (Addr.mk (0 : Nat) (0 : Nat) none) = some (Value.int IntKind.i64 m)) → (0 : Nat) = List.length (Prod.fst (lxR s)) ∧ sliP p noA (0 : Nat) (0 : Nat) (tksV (Prod.fst (lxR s)))) ∧ True) ∧ ((!decide ((↑(Prod.fst (wdR s (Int.toNat (Int.ofNat (Prod.snd (spR s (Int.toNat s_1.2.2))))))) : Int) = (0 : Int))) = false → List.length s_1.1 = s_1.2.1 * (4 : Nat) ∧ (s_1.2.1 + (1 : Nat)) * (40 : Nat) ≤ (140737488355328 : Nat) ∧ (decide ((↑(Prod.fst (Prod.fst (Prod.snd (wdR s (Int.toNat (Int.ofNat (Prod.snd (spR s (Int.toNat s_1.2.2))))))))) : Int) = (5 : Int)) = true → ∀ (b s_2 u : Nat) (a : Option Addr) (n c : Nat), (∃ (p : Nat → Option Obj), (True ∧ ∃ (m : Int), cellP p (Addr.mk (0 : Nat) (0 : Nat) none) = some (Value.int IntKind.i64 m)) ∧ s_1.2.1 + (1 : Nat) ≤ c ∧ rowP p a (List.take ((s_1.2.1 + (1 : Nat)) * (4 : Nat)) (s_1.1 ++ [Value.int IntKind.i64 (↑(Prod.fst (Prod.fst (Prod.snd (wdR s (Int.toNat (Int.ofNat (Prod.snd (spR s (Int.toNat s_1.2.2))))))))) : Int), Value.string (Prod.fst (Prod.snd (Prod.fst (Prod.snd (wdR s (Int.toNat (Int.ofNat (Prod.snd (spR s (Int.toNat s_1.2.2)))))))))), Value.int IntKind.u64 (↑(Prod.fst (Prod.snd (Prod.snd (Prod.fst (Prod.snd (wdR s (Int.toNat (Int.ofNat (Prod.snd (spR s (Int.toNat s_1.2.2))))))))))) : Int), Value.int IntKind.i64 (↑(Prod.snd (Prod.snd (Prod.snd (Prod.fst (Prod.snd (wdR s (Int.toNat (Int.ofNat (Prod.snd (spR s (Int.toNat s_1.2.2))))))))))) : Int)]))) → ∃ (b : Unit), a = a ∧ s_1.2.1 + (1 : Nat) = s_1.2.1 + (1 : Nat) ∧ c = c ∧ (↑(Prod.fst (Prod.snd (lxR s))) : Int) = (0 : Int) ∧ (↑(Prod.snd (Prod.snd (lxR s))) : Int) = (0 : Int) ∧ Pl a ∧ True ∧ (∀ (p : Nat → Option Obj), (True ∧ ∃ (m : Int), cellP p (Addr.mk (0 : Nat) (0 : Nat) none) = some (Value.int IntKind.i64 m)) ∧ s_1.2.1 + (1 : Nat) ≤ c ∧ rowP p a (List.take ((s_1.2.1 + (1 : Nat)) * (4 : Nat)) (s_1.1 ++ [Value.int IntKind.i64 (↑(Prod.fst (Prod.fst (Prod.snd (wdR s (Int.toNat (Int.ofNat (Prod.snd (spR s (Int.toNat s_1.2.2))))))))) : Int), Value.string (Prod.fst (Prod.snd (Prod.fst (Prod.snd (wdR s (Int.toNat (Int.ofNat (Prod.snd (spR s (Int.toNat s_1.2.2)))))))))), Value.int IntKind.u64 (↑(Prod.fst (Prod.snd (Prod.snd (Prod.fst (Prod.snd (wdR s (Int.toNat (Int.ofNat (Prod.snd (spR s (Int.toNat s_1.2.2))))))))))) : Int), Value.int IntKind.i64 (↑(Prod.snd (Prod.snd (Prod.snd (Prod.fst (Prod.snd (wdR s (Int.toNat (Int.ofNat (Prod.snd (spR s (Int.toNat s_1.2.2))))))))))) : Int)])) → s_1.2.1 + (1 : Nat) = List.length (Prod.fst (lxR s)) ∧ sliP p a (s_1.2.1 + (1 : Nat)) c (tksV (Prod.fst (lxR s)))) ∧ True) ∧ (decide ((↑(Prod.fst (Prod.fst (Prod.snd (wdR s (Int.toNat (Int.ofNat (Prod.snd (spR s (Int.toNat s_1.2.2))))))))) : Int) = (5 : Int)) = false → s = s ∧ s_1.2.1 + (1 : Nat) = s_1.2.1 + (1 : Nat) ∧ s = s ∧ Int.ofNat (Prod.snd (Prod.snd (wdR s (Int.toNat (Int.ofNat (Prod.snd (spR s (Int.toNat s_1.2.2)))))))) = Int.ofNat (Prod.snd (Prod.snd (wdR s (Int.toNat (Int.ofNat (Prod.snd (spR s (Int.toNat s_1.2.2)))))))) ∧ s_1.1 ++ [Value.int IntKind.i64 (↑(Prod.fst (Prod.fst (Prod.snd (wdR s (Int.toNat (Int.ofNat (Prod.snd (spR s (Int.toNat s_1.2.2))))))))) : Int), Value.string (Prod.fst (Prod.snd (Prod.fst (Prod.snd (wdR s (Int.toNat (Int.ofNat (Prod.snd (spR s (Int.toNat s_1.2.2)))))))))), Value.int IntKind.u64 (↑(Prod.fst (Prod.snd (Prod.snd (Prod.fst (Prod.snd (wdR s (Int.toNat (Int.ofNat (Prod.snd (spR s (Int.toNat s_1.2.2))))))))))) : Int), Value.int IntKind.i64 (↑(Prod.snd (Prod.snd (Prod.snd (Prod.fst (Prod.snd (wdR s (Int.toNat (Int.ofNat (Prod.snd (spR s (Int.toNat s_1.2.2))))))))))) : Int)] = s_1.1 ++ [Value.int IntKind.i64 (↑(Prod.fst (Prod.fst (Prod.snd (wdR s (Int.toNat (Int.ofNat (Prod.snd (spR s (Int.toNat s_1.2.2))))))))) : Int), Value.string (Prod.fst (Prod.snd (Prod.fst (Prod.snd (wdR s (Int.toNat (Int.ofNat (Prod.snd (spR s (Int.toNat s_1.2.2)))))))))), Value.int IntKind.u64 (↑(Prod.fst (Prod.snd (Prod.snd (Prod.fst (Prod.snd (wdR s (Int.toNat (Int.ofNat (Prod.snd (spR s (Int.toNat s_1.2.2))))))))))) : Int), Value.int IntKind.i64 (↑(Prod.snd (Prod.snd (Prod.snd (Prod.fst (Prod.snd (wdR s (Int.toNat (Int.ofNat (Prod.snd (spR s (Int.toNat s_1.2.2))))))))))) : Int)] ∧ (∀ (p : Nat → Option Obj), (True ∧ ∃ (m : Int), cellP p (Addr.mk (0 : Nat) (0 : Nat) none) = some (Value.int IntKind.i64 m)) → True ∧ ∃ (m : Int), cellP p (Addr.mk (0 : Nat) (0 : Nat) none) = some (Value.int IntKind.i64 m)) ∧ lxInv s (s_1.1 ++ [Value.int IntKind.i64 (↑(Prod.fst (Prod.fst (Prod.snd (wdR s (Int.toNat (Int.ofNat (Prod.snd (spR s (Int.toNat s_1.2.2))))))))) : Int), Value.string (Prod.fst (Prod.snd (Prod.fst (Prod.snd (wdR s (Int.toNat (Int.ofNat (Prod.snd (spR s (Int.toNat s_1.2.2)))))))))), Value.int IntKind.u64 (↑(Prod.fst (Prod.snd (Prod.snd (Prod.fst (Prod.snd (wdR s (Int.toNat (Int.ofNat (Prod.snd (spR s (Int.toNat s_1.2.2))))))))))) : Int), Value.int IntKind.i64 (↑(Prod.snd (Prod.snd (Prod.snd (Prod.fst (Prod.snd (wdR s (Int.toNat (Int.ofNat (Prod.snd (spR s (Int.toNat s_1.2.2))))))))))) : Int)]) (s_1.2.1 + (1 : Nat)) (Int.ofNat (Prod.snd (Prod.snd (wdR s (Int.toNat (Int.ofNat (Prod.snd (spR s (Int.toNat s_1.2.2))))))))) ∧ ByteArray.size s - Int.toNat (Int.ofNat (Prod.snd (Prod.snd (wdR s (Int.toNat (Int.ofNat (Prod.snd (spR s (Int.toNat s_1.2.2))))))))) < ByteArray.size s - Int.toNat (Prod.snd s_1.2) ∧ True))))) := by kernel_rfl
theorem lex_ok : CtOK P 10 cLex := by
  refine ask_ok mixed tLex_ok (W := wLex) Go.Proofs.Try.func10 (by kernel_rfl) (by decide) (by decide) (fun s => by kernel_rfl) fun (s : ByteArray) => (lex_eq s).mpr ?_
  intro h3 hp
  simp only [decide_eq_true_eq, decide_eq_false_iff_not, and_true, true_and, Int.toNat_natCast, Int.add_zero]
  refine ⟨fun a0 => ⟨(), ?_⟩, fun a0 => ⟨⟨fun p h => h, ?_⟩, ?_⟩⟩
  · have e : lxR s = ([], 3, 0) := by unfold lxR; rw [if_pos (by omega)]
    rw [e]
    exact ⟨rfl, rfl, Pl_none, fun p _ => ⟨rfl, Nat.le_refl _, .inl rfl⟩⟩
  · exact ⟨by omega, [], rfl, rfl, by omega, by omega, by simp, rfl⟩
  rintro ⟨vs, n, j⟩ ⟨hs, l, rfl, rfl, hj, hj2, hlen, inv⟩
  simp only [] at hj hj2 hlen inv
  obtain ⟨j, rfl⟩ := Int.eq_ofNat_of_zero_le hj
  have hj3 : j ≤ s.size := by omega
  have a := spR_le s _ j hj3 rfl
  have b := wdR_le s (spR s j).2 a.2
  have step := lxE_step s j l hj3
  have lx : lxR s = lxE s 0 [] := by unfold lxR; rw [if_neg (by omega)]
  simp only [Int.toNat_natCast] at inv hlen ⊢
  rw [inv, ← lx] at step
  simp only [Bool.not_eq_true', Bool.not_eq_false', decide_eq_true_eq, decide_eq_false_iff_not] at *
  have tn0 : (Int.ofNat (spR s j).2).toNat = (spR s j).2 := Int.toNat_natCast _
  have tn3 : (Int.ofNat (wdR s (spR s j).2).2.2).toNat = (wdR s (spR s j).2).2.2 := Int.toNat_natCast _
  rw [tn0, tn3]
  have ap := tksV_app l (wdR s (spR s j).2).2.1
  unfold tkV at ap
  rw [ap]
  have alen := tksV_len (l ++ [(wdR s (spR s j).2).2.1])
  rw [List.take_of_length_le (by rw [alen]; simp)]
  refine ⟨by omega, fun p h => h, fun c1 => ⟨(), ?_⟩, fun c1 => ⟨⟨show (0 : Int) ≤ ((spR s j).2 : Nat) by omega, show ((spR s j).2 : Int) ≤ _ by omega, h3⟩, fun c2 => ⟨(), ?_⟩, fun c2 => ⟨tksV_len l, by omega, fun c3 b s_2 u q n c hq => ⟨(), ?_⟩, fun c3 => ⟨fun p h => h, ?_, ?_⟩⟩⟩⟩
  · rw [if_pos c1] at step
    rw [step]
    exact ⟨rfl, rfl, Pl_none, fun p _ => ⟨rfl, Nat.le_refl _, .inl rfl⟩⟩
  · rw [if_neg (by rw [c1]; simp), if_pos (by omega)] at step
    rw [step]
    exact ⟨rfl, rfl, Pl_none, fun p _ => ⟨rfl, Nat.le_refl _, .inl rfl⟩⟩
  · rw [if_neg (by rw [c1]; simp), if_neg (by omega), if_pos (by omega)] at step
    rw [step]
    obtain ⟨p, hp1, hp2, hp3⟩ := hq
    refine ⟨rfl, rfl, ?_, fun p h => ⟨by simp, h.2.1, h.2.2⟩⟩
    rcases hp3 with h | ⟨x, rfl, h, _⟩
    · have := congrArg List.length h
      rw [alen] at this; simp at this
    · exact Pl_some h
  · rw [if_neg (by rw [c1]; simp), if_neg (by omega), if_neg (by omega)] at step
    have := b.2 (by omega) (by omega)
    refine ⟨hs, _, rfl, by simp, show (0 : Int) ≤ ((wdR s (spR s j).2).2.2 : Nat) by omega, show ((wdR s (spR s j).2).2.2 : Int) ≤ _ by omega, ?_, ?_⟩
    · rw [tn3]; simp; omega
    · rw [tn3, ← step, lx]
  · have := b.2 (by omega) (by omega)
    omega
/-! The document's own words: the same, read in another way. -/
noncomputable def lx (s : ByteArray) (i e a : Int) : List (Nat × AO) := [(1, .cells 51 (some 0) false [.sv (.string s), .sv (.int .i64 i), .sv (.int .i64 e), .sv (.int .i64 a)])]
noncomputable def lxOf (h : T AO) (id : Nat) : Option (ByteArray × Int × Int × Int) := match h.get id with
  | some (.cells _ _ _ [a, b, c, d]) => match gs a with
    | some s => match gi b with
      | some (_, i) => match gi c with
        | some (_, e) => match gi d with
          | some (_, f) => some (s, i, e, f)
          | none => none
        | none => none
      | none => none
    | none => none
  | _ => none
/-- A method of the lexer, while there is no error. -/
noncomputable def ctLx (pre : ByteArray → Int → Prop) (r : ByteArray → Int → AV) (to e a : ByteArray → Int → Int) : Ct where
  σ := ByteArray × Int
  args := fun ⟨s, i⟩ => [.ptr 1 0]
  h := fun ⟨s, i⟩ => lx s i 0 0
  m := 2
  pre := fun ⟨s, i⟩ => pre s i
  find := some fun l h => match l with
    | [.ptr id _] => match lxOf h id with
      | some (s, i, _, _) => some (s, i)
      | none => none
    | _ => none
  r := fun ⟨s, i⟩ => r s i
  h' := fun ⟨s, i⟩ => lx s (to s i) (e s i) (a s i)
  m' := 2
  g := fun _ => none
noncomputable def stW (s : ByteArray) (i : Nat) (t : ByteArray) : Bool := decide (i + t.size ≤ s.size) && decide (s.extract i (i + t.size) = t)
noncomputable def cStarts : Ct where
  σ := ByteArray × Int × ByteArray
  args := fun ⟨s, i, t⟩ => [.ptr 1 0, .sv (.string t)]
  h := fun ⟨s, i, t⟩ => lx s i 0 0
  m := 2
  pre := fun ⟨s, i, t⟩ => 0 ≤ i ∧ i ≤ s.size ∧ s.size < 100000 ∧ t.size < 1000
  find := some fun l h => match l with
    | [.ptr id _, a] => match lxOf h id with
      | some (s, i, _, _) => match gs a with
        | some t => some (s, i, t)
        | none => none
      | none => none
    | _ => none
  r := fun ⟨s, i, t⟩ => .sv (.bool (stW s i.toNat t))
  h' := fun ⟨s, i, t⟩ => lx s i 0 0
  m' := 2
  g := fun _ => none
noncomputable def cFail : Ct where
  σ := ByteArray × Int × Int × Int
  args := fun ⟨s, i, e, a⟩ => [.ptr 1 0, .sv (.int .i64 e), .sv (.int .i64 a)]
  h := fun ⟨s, i, e, a⟩ => lx s i 0 0
  m := 2
  find := some fun l h => match l with
    | [.ptr id _, x, y] => match lxOf h id with
      | some (s, i, _, _) => match gi x with
        | some (_, e) => match gi y with
          | some (_, a) => some (s, i, e, a)
          | none => none
        | none => none
      | none => none
    | _ => none
  r := fun ⟨s, i, e, a⟩ => tokA 0 (mkS []) 0 0
  h' := fun ⟨s, i, e, a⟩ => lx s i e a
  m' := 2
  g := fun _ => none
noncomputable def cByte : Ct where
  σ := ByteArray × Int × Int
  args := fun ⟨s, i, d⟩ => [.ptr 1 0, .sv (.int .i64 d)]
  h := fun ⟨s, i, d⟩ => lx s i 0 0
  m := 2
  pre := fun ⟨s, i, d⟩ => 0 ≤ i ∧ i ≤ s.size ∧ s.size < 1000000 ∧ 0 ≤ d ∧ d < 1000000
  find := some fun l h => match l with
    | [.ptr id _, a] => match gi a with
      | some (_, d) => match lxOf h id with
        | some (s, i, _, _) => some (s, i, d)
        | none => none
      | none => none
    | _ => none
  r := fun ⟨s, i, d⟩ => .sv (.int .u8 (bat s (i + d).toNat : Nat))
  h' := fun ⟨s, i, d⟩ => lx s i 0 0
  m' := 2
  g := fun _ => none
noncomputable def dvR (c : Nat) : Int := if dv c < 16 then dv c else -1
noncomputable def cDigitR : Ct := ctS Int (fun c => [.int .u8 c]) f1i (fun c => 0 ≤ c ∧ c < 256) (fun _ => {}) fun c => .sv (.int .i64 (dvR c.toNat))
/-- Code points. -/
noncomputable def ptV (s : ByteArray) : Nat := if frt s = 0 then 0 else (vlF s (frt s)).getD 0
noncomputable def cPoint : Ct := ctS ByteArray (fun s => [.string s]) f1s (fun s => s.size < 1000000) (fun _ => {}) fun s => .tup [.sv (.int .u32 (ptV s : Nat)), .sv (.int .i64 (frt s : Nat))]
noncomputable def leN (n : Nat) : Nat := if n = 2 then 128 else if n = 3 then 2048 else 65536
noncomputable def wPoint : cPoint.σ → WayF := fun s => {
  ann := fun _ _ _ => some { σ := Int × Int, pre := fun ⟨v, i⟩ => 1 ≤ i ∧ i ≤ ldN (bat s 0) ∧ ∃ q : Nat, v = q ∧ vlF s i.toNat = some q, find := some fun t _ => match slI t 6 with | some v => (match slI t 8 with | some i => some (v, i) | none => none) | none => none, t := fun ⟨v, i⟩ => [(6, .sv (.int .u32 v)), (8, .sv (.int .i64 i))], h := fun _ => [], more := 0, μ := fun ⟨v, i⟩ => 5 - i.toNat, keep := [0, 5, 7] }
  cut := fun r _ _ => match r with
    | 14 => some { σ := Unit, pre := fun _ => 0 < s.size ∧ 2 ≤ ldN (bat s 0), find := some fun _ _ => some (), t := fun _ => [(5, .sv (.int .i64 (ldN (bat s 0) : Nat))), (6, .sv (.int .u32 (ldV (bat s 0) : Nat))), (7, .sv (.int .u32 (leN (ldN (bat s 0)) : Nat)))], h := fun _ => [], more := 0, μ := fun _ => 0, keep := [0] }
    | _ => none }
noncomputable def wValidR : cValid.σ → WayF := fun s => { ann := fun _ _ _ => some { σ := ByteArray, pre := fun t => t.size ≤ s.size ∧ vld t = vld s, find := some fun t _ => slS t 0, t := fun u => [(0, .sv (.string u))], h := fun _ => [], more := 0, μ := fun u => u.size, keep := [] } }
/-- A loop over the lexer's place. -/
noncomputable def atLx (s : ByteArray) (pre : Int → Prop) (keep : List Nat) : LT := { σ := Int, pre := pre, find := some fun _ h => match lxOf h 1 with | some (_, j, _, _) => some j | none => none, t := fun _ => [], h := fun j => lx s j 0 0, more := 0, μ := fun j => s.size - j.toNat, keep := keep }
noncomputable def spI (s : ByteArray) (i : Nat) : Nat := if (spR s i).1 = true then (spR s i).2 else s.size
noncomputable def spN (s : ByteArray) (i k : Nat) : Nat := if (spR s i).1 = true then 0 else k
noncomputable def cSpaceR : Ct := ctLx (fun s i => 0 ≤ i ∧ i ≤ s.size ∧ s.size < 100000) (fun s i => .tup []) (fun s i => (spI s i.toNat : Nat)) (fun s i => (spN s i.toNat 2 : Nat)) fun s i => (spN s i.toNat (spR s i.toNat).2 : Nat)
noncomputable def wSpaceR : cSpaceR.σ → WayF := fun ⟨s, i⟩ => { ann := fun b _ h => match b with
  | 0 => some (atLx s (fun j => 0 ≤ j ∧ j ≤ s.size ∧ spR s j.toNat = spR s i.toNat) [0])
  | 3 => match lxOf h 1 with
    | some (_, j, _, _) => some (atLx s (fun k => j ≤ k ∧ k ≤ s.size ∧ eol s k.toNat = eol s j.toNat) [0])
    | none => none
  | _ => match lxOf h 1 with
    | some (_, j, _, _) => some (atLx s (fun k => j ≤ k ∧ k ≤ s.size ∧ cl s k.toNat = cl s j.toNat) [0, 3])
    | none => none }
noncomputable def tSpaceR : Nat → Option Ct := ctTab [(30, cStarts), (31, cFail)]
/-- Digits, as far as the number holds them. -/
noncomputable def dgG (s : ByteArray) (B : Nat) : Nat → Nat → Nat → Nat
  | 0, j, v => j
  | f + 1, j, v => if dv (bat s j) < B then if 18446744073709551616 ≤ v * B + dv (bat s j) then j else dgG s B f (j + 1) (v * B + dv (bat s j)) else j
noncomputable def dgP (s : ByteArray) (B j v : Nat) : Nat := dgG s B (s.size - j) j v
noncomputable def nbS (s : ByteArray) (i : Nat) : Nat := if nbB s i = 16 then i + 2 else i
noncomputable def nbI (s : ByteArray) (i : Nat) : Nat := dgP s (nbB s i) (nbS s i) 0
noncomputable def erN (e k : Nat) : Nat := if e = 0 then 0 else k
noncomputable def cNumberR : Ct := ctLx (fun s i => 0 ≤ i ∧ i < s.size ∧ s.size < 100000 ∧ isDig (bat s i.toNat) = true) (fun s i => tokA (nbK (nbR s i.toNat).1 2) (mkS []) (nbR s i.toNat).2.1 (nbK (nbR s i.toNat).1 i.toNat)) (fun s i => (nbI s i.toNat : Nat)) (fun s i => ((nbR s i.toNat).1 : Nat)) fun s i => (erN (nbR s i.toNat).1 i.toNat : Nat)
noncomputable def wNumberR : cNumberR.σ → WayF := fun ⟨s, i⟩ => {
  ann := fun _ _ _ => some { σ := Int × Int, pre := fun ⟨n, j⟩ => ∃ V : Nat, n = V ∧ V < 18446744073709551616 ∧ 0 ≤ j ∧ i ≤ j ∧ j ≤ s.size ∧ dgE s (nbB s i.toNat) j.toNat V = dgE s (nbB s i.toNat) (nbS s i.toNat) 0 ∧ dgP s (nbB s i.toNat) j.toNat V = nbI s i.toNat, find := some fun t h => match slI t 5 with | some n => (match lxOf h 1 with | some (_, j, _, _) => some (n, j) | none => none) | none => none, t := fun ⟨n, j⟩ => [(5, .sv (.int .u64 n))], h := fun ⟨n, j⟩ => lx s j 0 0, more := 0, μ := fun ⟨n, j⟩ => s.size - j.toNat, keep := [0, 2, 3, 4] }
  cut := fun r _ _ => match r with
    | 8 => some { σ := Unit, find := some fun _ _ => some (), t := fun _ => [(4, .sv (.int .u64 (nbB s i.toNat : Nat)))], h := fun _ => lx s (nbS s i.toNat : Nat) 0 0, more := 0, μ := fun _ => 0, keep := [0, 2, 3] }
    | _ => none }
noncomputable def tNumberR : Nat → Option Ct := ctTab [(30, cStarts), (31, cFail), (33, cByte), (48, cDigitR), (32, cLetter), (34, cDigit)]
/-- Where a text's reading ends. -/
noncomputable def txG (s : ByteArray) (q : Nat) : Nat → Nat → Nat
  | 0, j => j
  | f + 1, j => if j < s.size then
      if bat s j = q then j + 1 else if bat s j = 10 then j else if bat s j = 92 then
        match esc (bat s (j + 1)) with
        | some _ => txG s q f (j + 2)
        | none => j + 1
      else txG s q f (j + 1)
    else j
noncomputable def txP (s : ByteArray) (q j : Nat) : Nat := txG s q (s.size + 1 - j) j
noncomputable def cTextR : Ct := ctLx (fun s i => 0 ≤ i ∧ i < s.size ∧ s.size < 100000 ∧ (bat s i.toNat = 34 ∨ bat s i.toNat = 39)) (fun s i => tokA (nbK (txR s (bat s i.toNat) i.toNat).1 3) (txR s (bat s i.toNat) i.toNat).2.1 0 (nbK (txR s (bat s i.toNat) i.toNat).1 i.toNat)) (fun s i => (txP s (bat s i.toNat) (i.toNat + 1) : Nat)) (fun s i => ((txR s (bat s i.toNat) i.toNat).1 : Nat)) fun s i => (erN (txR s (bat s i.toNat) i.toNat).1 i.toNat : Nat)
noncomputable def wTextR : cTextR.σ → WayF := fun ⟨s, i⟩ => { ann := fun _ _ _ => some { σ := ByteArray × Int, pre := fun ⟨o, j⟩ => ∃ l : List Nat, o = bs l ∧ (∀ c ∈ l, c < 256) ∧ i + 1 ≤ j ∧ j ≤ s.size ∧ l.length ≤ j.toNat ∧ txE s (bat s i.toNat) j.toNat l = txE s (bat s i.toNat) (i.toNat + 1) [] ∧ txP s (bat s i.toNat) j.toNat = txP s (bat s i.toNat) (i.toNat + 1), find := some fun t h => match slS t 5 with | some o => (match lxOf h 1 with | some (_, j, _, _) => some (o, j) | none => none) | none => none, t := fun ⟨o, j⟩ => [(5, .sv (.string o))], h := fun ⟨o, j⟩ => lx s j 0 0, more := 0, μ := fun ⟨o, j⟩ => s.size - j.toNat, keep := [0, 2, 3, 4] } }
noncomputable def tTextR : Nat → Option Ct := ctTab [(31, cFail), (33, cByte), (49, cValid)]
/-- Where a word's reading ends. -/
noncomputable def wdI (s : ByteArray) (i : Nat) : Nat :=
  if i = s.size then i else
  if isLet (bat s i) = true ∨ (bat s i = 46 ∧ isLet (bat s (i + 1)) = true) then nmE s (i + 1) else
  if isDig (bat s i) = true then nbI s i else
  if bat s i = 34 ∨ bat s i = 39 then txP s (bat s i) (i + 1) else
  if bat s i ∈ sgs then i + 1 else i
noncomputable def cWordR : Ct := ctLx (fun s i => 0 ≤ i ∧ i ≤ s.size ∧ s.size < 100000) (fun s i => tkA (wdR s i.toNat).2.1) (fun s i => (wdI s i.toNat : Nat)) (fun s i => ((wdR s i.toNat).1 : Nat)) fun s i => (erN (wdR s i.toNat).1 i.toNat : Nat)
noncomputable def wWordR : cWordR.σ → WayF := fun ⟨s, i⟩ => { ann := fun b _ _ => match b with
  | 1 => some (atLx s (fun j => i + 1 ≤ j ∧ j ≤ s.size ∧ nmE s j.toNat = nmE s (i.toNat + 1)) [0, 2, 3])
  | _ => some { σ := Int, pre := fun k => 0 ≤ k ∧ k ≤ 12 ∧ ∀ m, m < k.toNat → sgs[m]? ≠ some (bat s i.toNat), find := some fun t _ => slI t 5, t := fun k => [(5, .sv (.int .i64 k))], h := fun _ => [], more := 0, μ := fun k => 12 - k.toNat, keep := [0, 2, 3, 4] } }
noncomputable def tWordR : Nat → Option Ct := ctTab [(31, cFail), (33, cByte), (32, cLetter), (34, cDigit), (35, cNumberR), (36, cTextR)]
noncomputable def cLexR : Ct := { cLex with mem := fun _ => {} }
noncomputable def lxFindR (t : T AV) (h : T AO) : Option (List Value × Nat × Int) := match lxOf h 1 with
  | some (_, j, _, _) => match t.get 6 with
    | some (.ssl id _ n _ _) => match h.get id with
      | some (.row _ _ vs) => some (vs, n, j)
      | some (.cells _ _ _ l) => match abin.concs l with
        | some vs => some (vs, n, j)
        | none => none
      | _ => none
    | some .nsl => some ([], 0, j)
    | _ => none
  | none => none
noncomputable def wLexR : cLexR.σ → WayF := fun (s : ByteArray) => {
  ann := fun _ _ _ => some { σ := List Value × Nat × Int, pre := fun ⟨vs, n, j⟩ => lxInv s vs n j, find := some lxFindR, t := fun ⟨vs, n, j⟩ => [(6, .ssl 2 0 n 4 3)], h := fun ⟨vs, n, j⟩ => [(2, .row 37 0 vs), (1, .cells 51 (some 0) false [.sv (.string s), .sv (.int .i64 j), .sv (.int .i64 0), .sv (.int .i64 0)])], more := 2, μ := fun ⟨vs, n, j⟩ => s.size - j.toNat, keep := [0, 5] }
  pubE := [2] }
noncomputable def tLexR : Nat → Option Ct := ctTab [(17, cSpaceR), (18, cWordR)]
end Go.Proofs.Ytjjambbdkbpdgaa.Wd
