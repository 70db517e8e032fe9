/-
  What the functions do: contracts, and their questions answered. No condition but what its theorems ask.
-/
import Derived.Test.YtcmgjpafiobkpaaT1
namespace Go.Proofs.Ytcmgjpafiobkpaa.Wd
open Go.Proofs.Ytcmgjpafiobkpaa.Eng Go.Proofs.Ytcmgjpafiobkpaa.Sen Go.RowKit
set_option linter.unusedVariables false
set_option linter.unusedSimpArgs false
set_option maxRecDepth 1000000
theorem valA_eq (b : BlS) : askF P (ctTab [(27, cBlocks)]) Go.Proofs.Try.f16 cValA (fun _ => {}) b = (blPre b ∧ (1 : Int) ≤ Prod.snd (Prod.snd (Prod.snd (BlS.d b))) → (∃ (p : Nat → Option Obj), True ∧ enP (Prod.fst (BlS.d b)) p) → (decide ((↑(Prod.fst (Prod.snd (xE (Prod.fst (BlS.d b))))) : Int) ≤ (0 : Int)) = true → ∃ (b_1 : Unit), noA = noA ∧ (0 : Nat) = (0 : Nat) ∧ (0 : Nat) = (0 : Nat) ∧ blE b = (1 : Int) ∧ Prod.fst (xE (Prod.fst (BlS.d b))) = Prod.fst (xE (Prod.fst (BlS.d b))) ∧ Prod.fst (Prod.snd (xE (Prod.fst (BlS.d b)))) = Prod.fst (Prod.snd (xE (Prod.fst (BlS.d b)))) ∧ Prod.snd (Prod.snd (xE (Prod.fst (BlS.d b)))) = Prod.snd (Prod.snd (xE (Prod.fst (BlS.d b)))) ∧ Prod.fst (Prod.snd (BlS.d b)) = Prod.fst (Prod.snd (BlS.d b)) ∧ blI b = Prod.fst (Prod.snd (Prod.snd (BlS.d b))) ∧ blC b = Prod.snd (Prod.snd (Prod.snd (BlS.d b))) - (1 : Int) ∧ Pl noA ∧ True ∧ (∀ (p : Nat → Option Obj), True ∧ enP (Prod.fst (BlS.d b)) p → Pl noA ∧ (blE b = (0 : Int) → (↑(0 : Nat) : Int) = BlS.n b)) ∧ True) ∧ (decide ((↑(Prod.fst (Prod.snd (xE (Prod.fst (BlS.d b))))) : Int) ≤ (0 : Int)) = false → ((-9223372036854775808 : Int) ≤ Prod.snd (Prod.snd (Prod.snd (BlS.d b))) - (1 : Int) + (1 : Int) ∧ Prod.snd (Prod.snd (Prod.snd (BlS.d b))) - (1 : Int) + (1 : Int) ≤ (9223372036854775807 : Int)) ∧ (decide ((2000 : Int) < Prod.snd (Prod.snd (Prod.snd (BlS.d b))) - (1 : Int) + (1 : Int)) = true → ∃ (b_1 : Unit), noA = noA ∧ (0 : Nat) = (0 : Nat) ∧ (0 : Nat) = (0 : Nat) ∧ blE b = (3 : Int) ∧ Prod.fst (xE (Prod.fst (BlS.d b))) = Prod.fst (xE (Prod.fst (BlS.d b))) ∧ Prod.fst (Prod.snd (xE (Prod.fst (BlS.d b)))) = Prod.fst (Prod.snd (xE (Prod.fst (BlS.d b)))) ∧ Prod.snd (Prod.snd (xE (Prod.fst (BlS.d b)))) = Prod.snd (Prod.snd (xE (Prod.fst (BlS.d b)))) ∧ Prod.fst (Prod.snd (BlS.d b)) = Prod.fst (Prod.snd (BlS.d b)) ∧ blI b = Prod.fst (Prod.snd (Prod.snd (BlS.d b))) ∧ blC b = Prod.snd (Prod.snd (Prod.snd (BlS.d b))) - (1 : Int) + (1 : Int) ∧ Pl noA ∧ True ∧ (∀ (p : Nat → Option Obj), True ∧ enP (Prod.fst (BlS.d b)) p → Pl noA ∧ (blE b = (0 : Int) → (↑(0 : Nat) : Int) = BlS.n b)) ∧ True) ∧ (decide ((2000 : Int) < Prod.snd (Prod.snd (Prod.snd (BlS.d b))) - (1 : Int) + (1 : Int)) = false → ((0 : Int) ≤ (0 : Int) ∧ (0 : Int) < (↑(Prod.fst (Prod.snd (xE (Prod.fst (BlS.d b))))) : Int)) ∧ Prod.fst (xE (Prod.fst (BlS.d b))) ≠ noA ∧ ∃ (n : Int), ∃ (s : ByteArray), ∃ (p : Option Addr), ∃ (n_1 : Nat), ∃ (c : Nat), ∃ (n_2 : Int), ∃ (p_1 : Option Addr), ∃ (n_3 : Nat), ∃ (c_1 : Nat), ∃ (b_1 : Bool), ∃ (s_1 : ByteArray), ∃ (n_4 : Int), ∃ (p_2 : Option Addr), ∃ (n_5 : Nat), ∃ (c_2 : Nat), ∃ (p_3 : Option Addr), ∃ (n_6 : Nat), ∃ (c_3 : Nat), (∀ (p_4 : Nat → Option Obj), True ∧ enP (Prod.fst (BlS.d b)) p_4 → cellsP p_4 (adr (Prod.fst (xE (Prod.fst (BlS.d b)))) ((0 : Nat) * (10 : Nat))) [Value.int IntKind.i64 n, Value.string s, Value.slice p n_1 c, Value.int IntKind.i64 n_2, Value.slice p_1 n_3 c_1, Value.bool b_1, Value.string s_1, Value.int IntKind.i64 n_4, Value.slice p_2 n_5 c_2, Value.slice p_3 n_6 c_3]) ∧ (decide (n = (9 : Int)) = true → False) ∧ (decide (n = (9 : Int)) = false → (decide (n = (12 : Int)) = true → (decide (n = (12 : Int)) = true → ∃ (s_2 : BlS), (12 : Int) = n ∧ mkS [] = s ∧ noA = p ∧ (0 : Nat) = n_1 ∧ (0 : Nat) = c ∧ (1 : Int) = n_2 ∧ noA = p_1 ∧ (0 : Nat) = n_3 ∧ (0 : Nat) = c_1 ∧ false = b_1 ∧ mkS [] = s_1 ∧ (0 : Int) = n_4 ∧ noA = p_2 ∧ (0 : Nat) = n_5 ∧ (0 : Nat) = c_2 ∧ noA = p_3 ∧ (0 : Nat) = n_6 ∧ (0 : Nat) = c_3 ∧ Prod.fst (xE (Prod.fst (BlS.d s_2))) = Prod.fst (xE (Prod.fst (BlS.d b))) ∧ Prod.fst (Prod.snd (xE (Prod.fst (BlS.d s_2)))) = Prod.fst (Prod.snd (xE (Prod.fst (BlS.d b)))) ∧ Prod.snd (Prod.snd (xE (Prod.fst (BlS.d s_2)))) = Prod.snd (Prod.snd (xE (Prod.fst (BlS.d b)))) ∧ Prod.fst (Prod.snd (BlS.d s_2)) = Prod.fst (Prod.snd (BlS.d b)) ∧ Prod.fst (Prod.snd (Prod.snd (BlS.d s_2))) = Prod.fst (Prod.snd (Prod.snd (BlS.d b))) ∧ Prod.snd (Prod.snd (Prod.snd (BlS.d s_2))) = Prod.snd (Prod.snd (Prod.snd (BlS.d b))) - (1 : Int) + (1 : Int) ∧ blPre s_2 ∧ (∀ (p : Nat → Option Obj), True ∧ enP (Prod.fst (BlS.d b)) p → enP (Prod.fst (BlS.d s_2)) p) ∧ ∀ (b_2 : Unit), True → ∀ (a : Option Addr) (n c : Nat), (∃ (p : Nat → Option Obj), (True ∧ enP (Prod.fst (BlS.d b)) p) ∧ Pl a ∧ (blE s_2 = (0 : Int) → (↑n : Int) = BlS.n s_2)) → ∃ (b_3 : Unit), a = a ∧ n = n ∧ c = c ∧ blE b = blE s_2 ∧ Prod.fst (xE (Prod.fst (BlS.d b))) = Prod.fst (xE (Prod.fst (BlS.d s_2))) ∧ Prod.fst (Prod.snd (xE (Prod.fst (BlS.d b)))) = Prod.fst (Prod.snd (xE (Prod.fst (BlS.d s_2)))) ∧ Prod.snd (Prod.snd (xE (Prod.fst (BlS.d b)))) = Prod.snd (Prod.snd (xE (Prod.fst (BlS.d s_2)))) ∧ Prod.fst (Prod.snd (BlS.d b)) = Prod.fst (Prod.snd (BlS.d s_2)) ∧ blI b = blI s_2 ∧ blC b = blC s_2 ∧ Pl a ∧ True ∧ (∀ (p : Nat → Option Obj), (True ∧ enP (Prod.fst (BlS.d b)) p) ∧ Pl a ∧ (blE s_2 = (0 : Int) → (↑n : Int) = BlS.n s_2) → Pl a ∧ (blE b = (0 : Int) → (↑n : Int) = BlS.n b)) ∧ True) ∧ (decide (n = (12 : Int)) = false → (decide (n = (14 : Int)) = true → False) ∧ (decide (n = (14 : Int)) = false → False))) ∧ (decide (n = (12 : Int)) = false → (decide (n = (13 : Int)) = true → ∃ (s_2 : BlS), (12 : Int) = n ∧ mkS [] = s ∧ noA = p ∧ (0 : Nat) = n_1 ∧ (0 : Nat) = c ∧ (1 : Int) = n_2 ∧ noA = p_1 ∧ (0 : Nat) = n_3 ∧ (0 : Nat) = c_1 ∧ false = b_1 ∧ mkS [] = s_1 ∧ (0 : Int) = n_4 ∧ noA = p_2 ∧ (0 : Nat) = n_5 ∧ (0 : Nat) = c_2 ∧ noA = p_3 ∧ (0 : Nat) = n_6 ∧ (0 : Nat) = c_3 ∧ Prod.fst (xE (Prod.fst (BlS.d s_2))) = Prod.fst (xE (Prod.fst (BlS.d b))) ∧ Prod.fst (Prod.snd (xE (Prod.fst (BlS.d s_2)))) = Prod.fst (Prod.snd (xE (Prod.fst (BlS.d b)))) ∧ Prod.snd (Prod.snd (xE (Prod.fst (BlS.d s_2)))) = Prod.snd (Prod.snd (xE (Prod.fst (BlS.d b)))) ∧ Prod.fst (Prod.snd (BlS.d s_2)) = Prod.fst (Prod.snd (BlS.d b)) ∧ Prod.fst (Prod.snd (Prod.snd (BlS.d s_2))) = Prod.fst (Prod.snd (Prod.snd (BlS.d b))) ∧ Prod.snd (Prod.snd (Prod.snd (BlS.d s_2))) = Prod.snd (Prod.snd (Prod.snd (BlS.d b))) - (1 : Int) + (1 : Int) ∧ blPre s_2 ∧ (∀ (p : Nat → Option Obj), True ∧ enP (Prod.fst (BlS.d b)) p → enP (Prod.fst (BlS.d s_2)) p) ∧ ∀ (b_2 : Unit), True → ∀ (a : Option Addr) (n c : Nat), (∃ (p : Nat → Option Obj), (True ∧ enP (Prod.fst (BlS.d b)) p) ∧ Pl a ∧ (blE s_2 = (0 : Int) → (↑n : Int) = BlS.n s_2)) → ∃ (b_3 : Unit), a = a ∧ n = n ∧ c = c ∧ blE b = blE s_2 ∧ Prod.fst (xE (Prod.fst (BlS.d b))) = Prod.fst (xE (Prod.fst (BlS.d s_2))) ∧ Prod.fst (Prod.snd (xE (Prod.fst (BlS.d b)))) = Prod.fst (Prod.snd (xE (Prod.fst (BlS.d s_2)))) ∧ Prod.snd (Prod.snd (xE (Prod.fst (BlS.d b)))) = Prod.snd (Prod.snd (xE (Prod.fst (BlS.d s_2)))) ∧ Prod.fst (Prod.snd (BlS.d b)) = Prod.fst (Prod.snd (BlS.d s_2)) ∧ blI b = blI s_2 ∧ blC b = blC s_2 ∧ Pl a ∧ True ∧ (∀ (p : Nat → Option Obj), (True ∧ enP (Prod.fst (BlS.d b)) p) ∧ Pl a ∧ (blE s_2 = (0 : Int) → (↑n : Int) = BlS.n s_2) → Pl a ∧ (blE b = (0 : Int) → (↑n : Int) = BlS.n b)) ∧ True) ∧ (decide (n = (13 : Int)) = false → (decide (n = (14 : Int)) = true → False) ∧ (decide (n = (14 : Int)) = false → False))))))) := by kernel_rfl
theorem decA_eq (b : BlS) : askF P (ctTab [(16, cValA)]) Go.Proofs.Try.f8 cDecA (fun _ => {}) b = (blPre b ∧ Prod.snd (Prod.snd (Prod.snd (BlS.d b))) = (1 : Int) ∧ Prod.fst (Prod.snd (Prod.snd (BlS.d b))) = (0 : Int) → (∃ (p : Nat → Option Obj), True ∧ enP (Prod.fst (BlS.d b)) p) → ∃ (s : ByteArray), ByteArray.size s = ByteArray.size (Prod.fst (Prod.snd (BlS.d b))) ∧ subL (bcells (Prod.fst (Prod.snd (BlS.d b)))) (0 : Nat) (bcells s) ∧ ∃ (s_1 : BlS), Prod.fst (xE (Prod.fst (BlS.d s_1))) = Prod.fst (xE (Prod.fst (BlS.d b))) ∧ Prod.fst (Prod.snd (xE (Prod.fst (BlS.d s_1)))) = Prod.fst (Prod.snd (xE (Prod.fst (BlS.d b)))) ∧ Prod.snd (Prod.snd (xE (Prod.fst (BlS.d s_1)))) = Prod.snd (Prod.snd (xE (Prod.fst (BlS.d b)))) ∧ Prod.fst (Prod.snd (BlS.d s_1)) = s ∧ Prod.fst (Prod.snd (Prod.snd (BlS.d s_1))) = (0 : Int) ∧ Prod.snd (Prod.snd (Prod.snd (BlS.d s_1))) - (1 : Int) = (0 : Int) ∧ (blPre s_1 ∧ (1 : Int) ≤ Prod.snd (Prod.snd (Prod.snd (BlS.d s_1)))) ∧ (∀ (p : Nat → Option Obj), True ∧ enP (Prod.fst (BlS.d b)) p → enP (Prod.fst (BlS.d s_1)) p) ∧ ∀ (b_1 : Unit), True → ∀ (a : Option Addr) (n c : Nat), (∃ (p : Nat → Option Obj), (True ∧ enP (Prod.fst (BlS.d b)) p) ∧ Pl a ∧ (blE s_1 = (0 : Int) → (↑n : Int) = BlS.n s_1)) → ((!decide (blE s_1 = (0 : Int))) = true → ∃ (b_2 : Unit), noA = noA ∧ (0 : Nat) = (0 : Nat) ∧ (0 : Nat) = (0 : Nat) ∧ (if blE b = (0 : Int) then blI b else (0 : Int)) = (0 : Int) ∧ blE b = blE s_1 ∧ bcells (Prod.fst (Prod.snd (BlS.d b))) = bcells (Prod.fst (Prod.snd (BlS.d b))) ∧ Pl noA ∧ True ∧ (∀ (p : Nat → Option Obj), (True ∧ enP (Prod.fst (BlS.d b)) p) ∧ Pl a ∧ (blE s_1 = (0 : Int) → (↑n : Int) = BlS.n s_1) → Pl noA ∧ (blE b = (0 : Int) → (↑(0 : Nat) : Int) = BlS.n b)) ∧ True) ∧ ((!decide (blE s_1 = (0 : Int))) = false → AV.sv (Value.int IntKind.i64 (blI s_1)) = AV.sv (Value.int IntKind.i64 (blI s_1)) ∧ ∃ (b_2 : Unit), a = a ∧ n = n ∧ c = c ∧ (if blE b = (0 : Int) then blI b else (0 : Int)) = blI s_1 ∧ blE b = (0 : Int) ∧ bcells (Prod.fst (Prod.snd (BlS.d b))) = bcells (Prod.fst (Prod.snd (BlS.d b))) ∧ Pl a ∧ True ∧ (∀ (p : Nat → Option Obj), (True ∧ enP (Prod.fst (BlS.d b)) p) ∧ Pl a ∧ (blE s_1 = (0 : Int) → (↑n : Int) = BlS.n s_1) → Pl a ∧ (blE b = (0 : Int) → (↑n : Int) = BlS.n b)) ∧ True)) := by kernel_rfl
theorem recC_eq (n : Nat) (E : Env) (s : ByteArray) (i c t d : Int) : askF P (ctTab [(16, cValC.below muC n)]) Go.Proofs.Try.f26 (cRecC.below muC (n + 1)) (wRecC) ⟨⟨E, s, i, c⟩, t, d⟩ = (muC ((E, s, i, c), t, d) < n + (1 : Nat) ∧ rcPre ((E, s, i, c), t, d) → (∃ (p : Nat → Option Obj), True ∧ enP E p) → (decide ((0 : Int) < (↑(1 : Nat) : Int)) = true → ((0 : Int) ≤ (0 : Int) ∧ (0 : Int) < (↑(1 : Nat) : Int)) ∧ Prod.fst (Prod.snd E) ≠ noA ∧ ∃ (s_1 : ByteArray), ∃ (p : Option Addr), ∃ (n_1 : Nat), ∃ (c_1 : Nat), ∃ (n_2 : Int), ∃ (b : Bool), ∃ (n_3 : Int), ∃ (n_4 : Int), ∃ (s_2 : ByteArray), ∃ (p_1 : Option Addr), ∃ (n_5 : Nat), ∃ (c_2 : Nat), ∃ (p_2 : Option Addr), ∃ (n_6 : Nat), ∃ (c_3 : Nat), (∀ (p_3 : Nat → Option Obj), True ∧ enP E p_3 → cellsP p_3 (adr (Prod.fst (Prod.snd E)) ((0 : Nat) * (9 : Nat))) [Value.string s_1, Value.slice p n_1 c_1, Value.int IntKind.i64 n_2, Value.bool b, Value.int IntKind.i64 n_3, Value.int IntKind.i64 n_4, Value.string s_2, Value.slice p_1 n_5 c_2, Value.slice p_2 n_6 c_3]) ∧ ((-9223372036854775808 : Int) ≤ d + (1 : Int) ∧ d + (1 : Int) ≤ (9223372036854775807 : Int)) ∧ ∃ (s_3 : VcS), s_3.2.1 = n_2 ∧ s_3.2.2 = d + (1 : Int) ∧ Prod.fst (xE s_3.1.1) = Prod.fst (xE E) ∧ Prod.fst (Prod.snd (xE s_3.1.1)) = Prod.fst (Prod.snd (xE E)) ∧ Prod.snd (Prod.snd (xE s_3.1.1)) = Prod.snd (Prod.snd (xE E)) ∧ s_3.1.2.1 = s ∧ s_3.1.2.2.1 = i ∧ s_3.1.2.2.2 = c ∧ (muC s_3 < n ∧ vcPre s_3) ∧ (∀ (p : Nat → Option Obj), True ∧ enP E p → enP s_3.1.1 p) ∧ ∀ (b : Unit), True → ∀ (a : Option Addr) (n_7 c_4 : Nat), (∃ (p : Nat → Option Obj), (True ∧ enP E p) ∧ Pl a) → ((!decide (Prod.fst (dcF s_3.1.2.1 (Int.toNat ((21 : Int) - s_3.2.2)) s_3.2.1 (Int.toNat s_3.1.2.2.1) s_3.1.2.2.2) = (0 : Int))) = true → ∃ (b : Unit), noA = noA ∧ (0 : Nat) = (0 : Nat) ∧ (0 : Nat) = (0 : Nat) ∧ Prod.fst (dcF s (Int.toNat ((20 : Int) - d)) (3 : Int) (Int.toNat i) c) = Prod.fst (dcF s_3.1.2.1 (Int.toNat ((21 : Int) - s_3.2.2)) s_3.2.1 (Int.toNat s_3.1.2.2.1) s_3.1.2.2.2) ∧ Prod.fst (xE E) = Prod.fst (xE s_3.1.1) ∧ Prod.fst (Prod.snd (xE E)) = Prod.fst (Prod.snd (xE s_3.1.1)) ∧ Prod.snd (Prod.snd (xE E)) = Prod.snd (Prod.snd (xE s_3.1.1)) ∧ s = s_3.1.2.1 ∧ (↑(Prod.fst (Prod.snd (dcF s (Int.toNat ((20 : Int) - d)) (3 : Int) (Int.toNat i) c))) : Int) = (↑(Prod.fst (Prod.snd (dcF s_3.1.2.1 (Int.toNat ((21 : Int) - s_3.2.2)) s_3.2.1 (Int.toNat s_3.1.2.2.1) s_3.1.2.2.2))) : Int) ∧ Prod.snd (Prod.snd (dcF s (Int.toNat ((20 : Int) - d)) (3 : Int) (Int.toNat i) c)) = Prod.snd (Prod.snd (dcF s_3.1.2.1 (Int.toNat ((21 : Int) - s_3.2.2)) s_3.2.1 (Int.toNat s_3.1.2.2.1) s_3.1.2.2.2)) ∧ Pl noA ∧ True ∧ (∀ (p : Nat → Option Obj), (True ∧ enP E p) ∧ Pl a → Pl noA) ∧ True) ∧ ((!decide (Prod.fst (dcF s_3.1.2.1 (Int.toNat ((21 : Int) - s_3.2.2)) s_3.2.1 (Int.toNat s_3.1.2.2.1) s_3.1.2.2.2) = (0 : Int))) = false → ((0 : Nat) + (1 : Nat)) * (80 : Nat) ≤ (140737488355328 : Nat) ∧ (decide (Int.add (0 : Int) (1 : Int) < (↑(1 : Nat) : Int)) = true → ((0 : Int) ≤ Int.add (0 : Int) (1 : Int) ∧ Int.add (0 : Int) (1 : Int) < (↑(1 : Nat) : Int)) ∧ Prod.fst (Prod.snd E) ≠ noA ∧ ∃ (s_4 : ByteArray), ∃ (p : Option Addr), ∃ (n_8 : Nat), ∃ (c_5 : Nat), ∃ (n_9 : Int), ∃ (b : Bool), ∃ (n_10 : Int), ∃ (n_11 : Int), ∃ (s_5 : ByteArray), ∃ (p_3 : Option Addr), ∃ (n_12 : Nat), ∃ (c_6 : Nat), ∃ (p_4 : Option Addr), ∃ (n_13 : Nat), ∃ (c_7 : Nat), (∀ (p_5 : Nat → Option Obj), (True ∧ enP E p_5) ∧ Pl a → cellsP p_5 (adr (Prod.fst (Prod.snd E)) (Int.toNat (Int.add (0 : Int) (1 : Int)) * (9 : Nat))) [Value.string s_4, Value.slice p n_8 c_5, Value.int IntKind.i64 n_9, Value.bool b, Value.int IntKind.i64 n_10, Value.int IntKind.i64 n_11, Value.string s_5, Value.slice p_3 n_12 c_6, Value.slice p_4 n_13 c_7]) ∧ ((-9223372036854775808 : Int) ≤ d + (1 : Int) ∧ d + (1 : Int) ≤ (9223372036854775807 : Int)) ∧ ∃ (s_6 : VcS), s_6.2.1 = n_9 ∧ s_6.2.2 = d + (1 : Int) ∧ Prod.fst (xE s_6.1.1) = Prod.fst (xE s_3.1.1) ∧ Prod.fst (Prod.snd (xE s_6.1.1)) = Prod.fst (Prod.snd (xE s_3.1.1)) ∧ Prod.snd (Prod.snd (xE s_6.1.1)) = Prod.snd (Prod.snd (xE s_3.1.1)) ∧ s_6.1.2.1 = s_3.1.2.1 ∧ s_6.1.2.2.1 = (↑(Prod.fst (Prod.snd (dcF s_3.1.2.1 (Int.toNat ((21 : Int) - s_3.2.2)) s_3.2.1 (Int.toNat s_3.1.2.2.1) s_3.1.2.2.2))) : Int) ∧ s_6.1.2.2.2 = Prod.snd (Prod.snd (dcF s_3.1.2.1 (Int.toNat ((21 : Int) - s_3.2.2)) s_3.2.1 (Int.toNat s_3.1.2.2.1) s_3.1.2.2.2)) ∧ (muC s_6 < n ∧ vcPre s_6) ∧ (∀ (p : Nat → Option Obj), (True ∧ enP E p) ∧ Pl a → enP s_6.1.1 p) ∧ ∀ (b : Unit), True → ∀ (a_5 : Option Addr) (n c_8 : Nat), (∃ (p : Nat → Option Obj), ((True ∧ enP E p) ∧ Pl a) ∧ Pl a_5) → ((!decide (Prod.fst (dcF s_6.1.2.1 (Int.toNat ((21 : Int) - s_6.2.2)) s_6.2.1 (Int.toNat s_6.1.2.2.1) s_6.1.2.2.2) = (0 : Int))) = true → ∃ (b : Unit), noA = noA ∧ (0 : Nat) = (0 : Nat) ∧ (0 : Nat) = (0 : Nat) ∧ Prod.fst (dcF s (Int.toNat ((20 : Int) - d)) (3 : Int) (Int.toNat i) c) = Prod.fst (dcF s_6.1.2.1 (Int.toNat ((21 : Int) - s_6.2.2)) s_6.2.1 (Int.toNat s_6.1.2.2.1) s_6.1.2.2.2) ∧ Prod.fst (xE E) = Prod.fst (xE s_6.1.1) ∧ Prod.fst (Prod.snd (xE E)) = Prod.fst (Prod.snd (xE s_6.1.1)) ∧ Prod.snd (Prod.snd (xE E)) = Prod.snd (Prod.snd (xE s_6.1.1)) ∧ s = s_6.1.2.1 ∧ (↑(Prod.fst (Prod.snd (dcF s (Int.toNat ((20 : Int) - d)) (3 : Int) (Int.toNat i) c))) : Int) = (↑(Prod.fst (Prod.snd (dcF s_6.1.2.1 (Int.toNat ((21 : Int) - s_6.2.2)) s_6.2.1 (Int.toNat s_6.1.2.2.1) s_6.1.2.2.2))) : Int) ∧ Prod.snd (Prod.snd (dcF s (Int.toNat ((20 : Int) - d)) (3 : Int) (Int.toNat i) c)) = Prod.snd (Prod.snd (dcF s_6.1.2.1 (Int.toNat ((21 : Int) - s_6.2.2)) s_6.2.1 (Int.toNat s_6.1.2.2.1) s_6.1.2.2.2)) ∧ Pl noA ∧ True ∧ (∀ (p : Nat → Option Obj), ((True ∧ enP E p) ∧ Pl a) ∧ Pl a_5 → Pl noA) ∧ True) ∧ ((!decide (Prod.fst (dcF s_6.1.2.1 (Int.toNat ((21 : Int) - s_6.2.2)) s_6.2.1 (Int.toNat s_6.1.2.2.1) s_6.1.2.2.2) = (0 : Int))) = false → List.length ([] ++ [Value.int IntKind.u64 (0 : Int), Value.string (mkS []), Value.slice a n_7 c_4, Value.slice noA (0 : Nat) (0 : Nat), Value.int IntKind.i64 (dcB s_3.1.2.1 (Int.toNat ((21 : Int) - s_3.2.2)) s_3.2.1 (Int.toNat s_3.1.2.2.1) s_3.1.2.2.2)]) = ((0 : Nat) + (1 : Nat)) * (5 : Nat) ∧ ((0 : Nat) + (1 : Nat) + (1 : Nat)) * (80 : Nat) ≤ (140737488355328 : Nat) ∧ False)) ∧ (decide (Int.add (0 : Int) (1 : Int) < (↑(1 : Nat) : Int)) = false → ∀ (b s_4 u : Nat) (a_4 : Option Addr) (n c_5 : Nat), (∃ (p : Nat → Option Obj), ((True ∧ enP E p) ∧ Pl a) ∧ (0 : Nat) + (1 : Nat) ≤ c_5 ∧ rowP p a_4 (List.take (((0 : Nat) + (1 : Nat)) * (5 : Nat)) ([] ++ [Value.int IntKind.u64 (0 : Int), Value.string (mkS []), Value.slice a n_7 c_4, Value.slice noA (0 : Nat) (0 : Nat), Value.int IntKind.i64 (dcB s_3.1.2.1 (Int.toNat ((21 : Int) - s_3.2.2)) s_3.2.1 (Int.toNat s_3.1.2.2.1) s_3.1.2.2.2)]))) → ∃ (b : Unit), a_4 = a_4 ∧ (0 : Nat) + (1 : Nat) = (0 : Nat) + (1 : Nat) ∧ c_5 = c_5 ∧ Prod.fst (dcF s (Int.toNat ((20 : Int) - d)) (3 : Int) (Int.toNat i) c) = (0 : Int) ∧ Prod.fst (xE E) = Prod.fst (xE s_3.1.1) ∧ Prod.fst (Prod.snd (xE E)) = Prod.fst (Prod.snd (xE s_3.1.1)) ∧ Prod.snd (Prod.snd (xE E)) = Prod.snd (Prod.snd (xE s_3.1.1)) ∧ s = s_3.1.2.1 ∧ (↑(Prod.fst (Prod.snd (dcF s (Int.toNat ((20 : Int) - d)) (3 : Int) (Int.toNat i) c))) : Int) = (↑(Prod.fst (Prod.snd (dcF s_3.1.2.1 (Int.toNat ((21 : Int) - s_3.2.2)) s_3.2.1 (Int.toNat s_3.1.2.2.1) s_3.1.2.2.2))) : Int) ∧ Prod.snd (Prod.snd (dcF s (Int.toNat ((20 : Int) - d)) (3 : Int) (Int.toNat i) c)) = Prod.snd (Prod.snd (dcF s_3.1.2.1 (Int.toNat ((21 : Int) - s_3.2.2)) s_3.2.1 (Int.toNat s_3.1.2.2.1) s_3.1.2.2.2)) ∧ Pl a_4 ∧ True ∧ (∀ (p : Nat → Option Obj), ((True ∧ enP E p) ∧ Pl a) ∧ (0 : Nat) + (1 : Nat) ≤ c_5 ∧ rowP p a_4 (List.take (((0 : Nat) + (1 : Nat)) * (5 : Nat)) ([] ++ [Value.int IntKind.u64 (0 : Int), Value.string (mkS []), Value.slice a n_7 c_4, Value.slice noA (0 : Nat) (0 : Nat), Value.int IntKind.i64 (dcB s_3.1.2.1 (Int.toNat ((21 : Int) - s_3.2.2)) s_3.2.1 (Int.toNat s_3.1.2.2.1) s_3.1.2.2.2)])) → Pl a_4) ∧ True))) ∧ (decide ((0 : Int) < (↑(1 : Nat) : Int)) = false → ∃ (b : Unit), noA = noA ∧ (0 : Nat) = (0 : Nat) ∧ (0 : Nat) = (0 : Nat) ∧ Prod.fst (dcF s (Int.toNat ((20 : Int) - d)) (3 : Int) (Int.toNat i) c) = (0 : Int) ∧ Prod.fst (xE E) = Prod.fst (xE E) ∧ Prod.fst (Prod.snd (xE E)) = Prod.fst (Prod.snd (xE E)) ∧ Prod.snd (Prod.snd (xE E)) = Prod.snd (Prod.snd (xE E)) ∧ s = s ∧ (↑(Prod.fst (Prod.snd (dcF s (Int.toNat ((20 : Int) - d)) (3 : Int) (Int.toNat i) c))) : Int) = i ∧ Prod.snd (Prod.snd (dcF s (Int.toNat ((20 : Int) - d)) (3 : Int) (Int.toNat i) c)) = c ∧ Pl noA ∧ True ∧ (∀ (p : Nat → Option Obj), True ∧ enP E p → Pl noA) ∧ True)) := by kernel_rfl
theorem uniC_eq (n : Nat) (E : Env) (s : ByteArray) (i c t d : Int) : askF P (ctTab [(51, cChoice), (16, cValC.below muC n)]) Go.Proofs.Try.f28 (cUniC.below muC (n + 1)) (wUniC) ⟨⟨E, s, i, c⟩, t, d⟩ = (muC ((E, s, i, c), t, d) < n + (1 : Nat) ∧ rcPre ((E, s, i, c), t, d) → (∃ (p : Nat → Option Obj), True ∧ enP E p) → ∃ (s_1 : Int × DcS), s_1.1 = (↑(2 : Nat) : Int) ∧ Prod.fst s_1.2.1 = Prod.fst (xE E) ∧ Prod.fst (Prod.snd s_1.2.1) = Prod.fst (Prod.snd (xE E)) ∧ Prod.snd (Prod.snd s_1.2.1) = Prod.snd (Prod.snd (xE E)) ∧ s_1.2.2.1 = s ∧ s_1.2.2.2.1 = i ∧ s_1.2.2.2.2 = c ∧ dcPre (Prod.snd s_1) ∧ ((!decide ((↑(chE s_1.2.2.1 (Int.toNat s_1.2.2.2.1) s_1.1) : Int) = (0 : Int))) = true → ∃ (b : Unit), noA = noA ∧ (0 : Nat) = (0 : Nat) ∧ (0 : Nat) = (0 : Nat) ∧ (if Prod.fst (unF s (Int.toNat ((20 : Int) - d)) (Int.toNat i) c) = (0 : Int) then Prod.fst (lgR s (Int.toNat i)) else (0 : Int)) = (0 : Int) ∧ Prod.fst (unF s (Int.toNat ((20 : Int) - d)) (Int.toNat i) c) = (↑(chE s_1.2.2.1 (Int.toNat s_1.2.2.2.1) s_1.1) : Int) ∧ Prod.fst (xE E) = Prod.fst s_1.2.1 ∧ Prod.fst (Prod.snd (xE E)) = Prod.fst (Prod.snd s_1.2.1) ∧ Prod.snd (Prod.snd (xE E)) = Prod.snd (Prod.snd s_1.2.1) ∧ s = s_1.2.2.1 ∧ (↑(Prod.fst (Prod.snd (unF s (Int.toNat ((20 : Int) - d)) (Int.toNat i) c))) : Int) = (↑(Prod.snd (Prod.snd (lgR s_1.2.2.1 (Int.toNat s_1.2.2.2.1)))) : Int) ∧ Prod.snd (Prod.snd (unF s (Int.toNat ((20 : Int) - d)) (Int.toNat i) c)) = s_1.2.2.2.2 ∧ Pl noA ∧ True ∧ (∀ (p : Nat → Option Obj), True ∧ enP E p → Pl noA) ∧ True) ∧ ((!decide ((↑(chE s_1.2.2.1 (Int.toNat s_1.2.2.2.1) s_1.1) : Int) = (0 : Int))) = false → ((0 : Int) ≤ Prod.fst (lgR s_1.2.2.1 (Int.toNat s_1.2.2.2.1)) ∧ Prod.fst (lgR s_1.2.2.1 (Int.toNat s_1.2.2.2.1)) < (↑(2 : Nat) : Int)) ∧ Prod.snd (Prod.snd E) ≠ noA ∧ ∃ (n_1 : Int), (∀ (p : Nat → Option Obj), True ∧ enP E p → cellsP p (adr (Prod.snd (Prod.snd E)) (Int.toNat (Prod.fst (lgR s_1.2.2.1 (Int.toNat s_1.2.2.2.1))) * (1 : Nat))) [Value.int IntKind.i64 n_1]) ∧ ((-9223372036854775808 : Int) ≤ d + (1 : Int) ∧ d + (1 : Int) ≤ (9223372036854775807 : Int)) ∧ ∃ (s_2 : VcS), s_2.2.1 = n_1 ∧ s_2.2.2 = d + (1 : Int) ∧ Prod.fst (xE s_2.1.1) = Prod.fst s_1.2.1 ∧ Prod.fst (Prod.snd (xE s_2.1.1)) = Prod.fst (Prod.snd s_1.2.1) ∧ Prod.snd (Prod.snd (xE s_2.1.1)) = Prod.snd (Prod.snd s_1.2.1) ∧ s_2.1.2.1 = s_1.2.2.1 ∧ s_2.1.2.2.1 = (↑(Prod.snd (Prod.snd (lgR s_1.2.2.1 (Int.toNat s_1.2.2.2.1)))) : Int) ∧ s_2.1.2.2.2 = s_1.2.2.2.2 ∧ (muC s_2 < n ∧ vcPre s_2) ∧ (∀ (p : Nat → Option Obj), True ∧ enP E p → enP s_2.1.1 p) ∧ ∀ (b : Unit), True → ∀ (a : Option Addr) (n c_1 : Nat), (∃ (p : Nat → Option Obj), (True ∧ enP E p) ∧ Pl a) → ((!decide (Prod.fst (dcF s_2.1.2.1 (Int.toNat ((21 : Int) - s_2.2.2)) s_2.2.1 (Int.toNat s_2.1.2.2.1) s_2.1.2.2.2) = (0 : Int))) = true → ∃ (b : Unit), noA = noA ∧ (0 : Nat) = (0 : Nat) ∧ (0 : Nat) = (0 : Nat) ∧ (if Prod.fst (unF s (Int.toNat ((20 : Int) - d)) (Int.toNat i) c) = (0 : Int) then Prod.fst (lgR s (Int.toNat i)) else (0 : Int)) = (0 : Int) ∧ Prod.fst (unF s (Int.toNat ((20 : Int) - d)) (Int.toNat i) c) = Prod.fst (dcF s_2.1.2.1 (Int.toNat ((21 : Int) - s_2.2.2)) s_2.2.1 (Int.toNat s_2.1.2.2.1) s_2.1.2.2.2) ∧ Prod.fst (xE E) = Prod.fst (xE s_2.1.1) ∧ Prod.fst (Prod.snd (xE E)) = Prod.fst (Prod.snd (xE s_2.1.1)) ∧ Prod.snd (Prod.snd (xE E)) = Prod.snd (Prod.snd (xE s_2.1.1)) ∧ s = s_2.1.2.1 ∧ (↑(Prod.fst (Prod.snd (unF s (Int.toNat ((20 : Int) - d)) (Int.toNat i) c))) : Int) = (↑(Prod.fst (Prod.snd (dcF s_2.1.2.1 (Int.toNat ((21 : Int) - s_2.2.2)) s_2.2.1 (Int.toNat s_2.1.2.2.1) s_2.1.2.2.2))) : Int) ∧ Prod.snd (Prod.snd (unF s (Int.toNat ((20 : Int) - d)) (Int.toNat i) c)) = Prod.snd (Prod.snd (dcF s_2.1.2.1 (Int.toNat ((21 : Int) - s_2.2.2)) s_2.2.1 (Int.toNat s_2.1.2.2.1) s_2.1.2.2.2)) ∧ Pl noA ∧ True ∧ (∀ (p : Nat → Option Obj), (True ∧ enP E p) ∧ Pl a → Pl noA) ∧ True) ∧ ((!decide (Prod.fst (dcF s_2.1.2.1 (Int.toNat ((21 : Int) - s_2.2.2)) s_2.2.1 (Int.toNat s_2.1.2.2.1) s_2.1.2.2.2) = (0 : Int))) = false → ∀ (b s_3 u : Nat), (∃ (p : Nat → Option Obj), ((True ∧ enP E p) ∧ Pl a) ∧ cellsP p (Addr.mk b s_3 none) [Value.int IntKind.u64 (0 : Int), Value.string (mkS []), Value.slice a n c_1, Value.slice noA (0 : Nat) (0 : Nat), Value.int IntKind.i64 (dcB s_2.1.2.1 (Int.toNat ((21 : Int) - s_2.2.2)) s_2.2.1 (Int.toNat s_2.1.2.2.1) s_2.1.2.2.2)]) → ∃ (b_1 : Unit), some (Addr.mk b (s_3 + (0 : Nat)) none) = some (Addr.mk b (s_3 + (0 : Nat)) none) ∧ (1 : Nat) = (1 : Nat) ∧ (1 : Nat) = (1 : Nat) ∧ (if Prod.fst (unF s (Int.toNat ((20 : Int) - d)) (Int.toNat i) c) = (0 : Int) then Prod.fst (lgR s (Int.toNat i)) else (0 : Int)) = Prod.fst (lgR s_1.2.2.1 (Int.toNat s_1.2.2.2.1)) ∧ Prod.fst (unF s (Int.toNat ((20 : Int) - d)) (Int.toNat i) c) = (0 : Int) ∧ Prod.fst (xE E) = Prod.fst (xE s_2.1.1) ∧ Prod.fst (Prod.snd (xE E)) = Prod.fst (Prod.snd (xE s_2.1.1)) ∧ Prod.snd (Prod.snd (xE E)) = Prod.snd (Prod.snd (xE s_2.1.1)) ∧ s = s_2.1.2.1 ∧ (↑(Prod.fst (Prod.snd (unF s (Int.toNat ((20 : Int) - d)) (Int.toNat i) c))) : Int) = (↑(Prod.fst (Prod.snd (dcF s_2.1.2.1 (Int.toNat ((21 : Int) - s_2.2.2)) s_2.2.1 (Int.toNat s_2.1.2.2.1) s_2.1.2.2.2))) : Int) ∧ Prod.snd (Prod.snd (unF s (Int.toNat ((20 : Int) - d)) (Int.toNat i) c)) = Prod.snd (Prod.snd (dcF s_2.1.2.1 (Int.toNat ((21 : Int) - s_2.2.2)) s_2.2.1 (Int.toNat s_2.1.2.2.1) s_2.1.2.2.2)) ∧ Pl (some (Addr.mk b (s_3 + (0 : Nat)) none)) ∧ True ∧ (∀ (p : Nat → Option Obj), (((True ∧ enP E p) ∧ Pl a) ∧ ∀ (j : Nat) (v : Value), [Value.int IntKind.u64 (0 : Int), Value.string (mkS []), Value.slice a n c_1, Value.slice noA (0 : Nat) (0 : Nat), Value.int IntKind.i64 (dcB s_2.1.2.1 (Int.toNat ((21 : Int) - s_2.2.2)) s_2.2.1 (Int.toNat s_2.1.2.2.1) s_2.1.2.2.2)][j]? = some v → cellP p (Addr.add (Addr.mk b s_3 none) j) = some v) → Pl (some (Addr.mk b (s_3 + (0 : Nat)) none))) ∧ True))) := by kernel_rfl
theorem valC_eq (n : Nat) (E : Env) (s : ByteArray) (i c t d : Int) : askF P (ctTab [(26, cRecC.below muC (n + 1)), (28, cUniC.below muC (n + 1)), (29, cPlainN)]) Go.Proofs.Try.f16 (cValC.below muC (n + 1)) (fun _ => {}) ⟨⟨E, s, i, c⟩, t, d⟩ = (muC ((E, s, i, c), t, d) < n + (1 : Nat) ∧ vcPre ((E, s, i, c), t, d) → (∃ (p : Nat → Option Obj), True ∧ enP E p) → (decide (t < (0 : Int)) = true → ∃ (b : Unit), noA = noA ∧ (0 : Nat) = (0 : Nat) ∧ (0 : Nat) = (0 : Nat) ∧ dcB s (Int.toNat ((21 : Int) - d)) t (Int.toNat i) c = (0 : Int) ∧ Prod.fst (dcF s (Int.toNat ((21 : Int) - d)) t (Int.toNat i) c) = (1 : Int) ∧ Prod.fst (xE E) = Prod.fst (xE E) ∧ Prod.fst (Prod.snd (xE E)) = Prod.fst (Prod.snd (xE E)) ∧ Prod.snd (Prod.snd (xE E)) = Prod.snd (Prod.snd (xE E)) ∧ s = s ∧ (↑(Prod.fst (Prod.snd (dcF s (Int.toNat ((21 : Int) - d)) t (Int.toNat i) c))) : Int) = i ∧ Prod.snd (Prod.snd (dcF s (Int.toNat ((21 : Int) - d)) t (Int.toNat i) c)) = c ∧ Pl noA ∧ True ∧ (∀ (p : Nat → Option Obj), True ∧ enP E p → Pl noA) ∧ True) ∧ (decide (t < (0 : Int)) = false → (decide ((↑(Prod.fst (Prod.snd (xE E))) : Int) ≤ t) = true → ∃ (b : Unit), noA = noA ∧ (0 : Nat) = (0 : Nat) ∧ (0 : Nat) = (0 : Nat) ∧ dcB s (Int.toNat ((21 : Int) - d)) t (Int.toNat i) c = (0 : Int) ∧ Prod.fst (dcF s (Int.toNat ((21 : Int) - d)) t (Int.toNat i) c) = (1 : Int) ∧ Prod.fst (xE E) = Prod.fst (xE E) ∧ Prod.fst (Prod.snd (xE E)) = Prod.fst (Prod.snd (xE E)) ∧ Prod.snd (Prod.snd (xE E)) = Prod.snd (Prod.snd (xE E)) ∧ s = s ∧ (↑(Prod.fst (Prod.snd (dcF s (Int.toNat ((21 : Int) - d)) t (Int.toNat i) c))) : Int) = i ∧ Prod.snd (Prod.snd (dcF s (Int.toNat ((21 : Int) - d)) t (Int.toNat i) c)) = c ∧ Pl noA ∧ True ∧ (∀ (p : Nat → Option Obj), True ∧ enP E p → Pl noA) ∧ True) ∧ (decide ((↑(Prod.fst (Prod.snd (xE E))) : Int) ≤ t) = false → ((-9223372036854775808 : Int) ≤ c + (1 : Int) ∧ c + (1 : Int) ≤ (9223372036854775807 : Int)) ∧ (decide ((20 : Int) < d) = true → ∃ (b : Unit), noA = noA ∧ (0 : Nat) = (0 : Nat) ∧ (0 : Nat) = (0 : Nat) ∧ dcB s (Int.toNat ((21 : Int) - d)) t (Int.toNat i) c = (0 : Int) ∧ Prod.fst (dcF s (Int.toNat ((21 : Int) - d)) t (Int.toNat i) c) = (3 : Int) ∧ Prod.fst (xE E) = Prod.fst (xE E) ∧ Prod.fst (Prod.snd (xE E)) = Prod.fst (Prod.snd (xE E)) ∧ Prod.snd (Prod.snd (xE E)) = Prod.snd (Prod.snd (xE E)) ∧ s = s ∧ (↑(Prod.fst (Prod.snd (dcF s (Int.toNat ((21 : Int) - d)) t (Int.toNat i) c))) : Int) = i ∧ Prod.snd (Prod.snd (dcF s (Int.toNat ((21 : Int) - d)) t (Int.toNat i) c)) = c + (1 : Int) ∧ Pl noA ∧ True ∧ (∀ (p : Nat → Option Obj), True ∧ enP E p → Pl noA) ∧ True) ∧ (decide ((20 : Int) < d) = false → (decide ((2000 : Int) < c + (1 : Int)) = true → ∃ (b : Unit), noA = noA ∧ (0 : Nat) = (0 : Nat) ∧ (0 : Nat) = (0 : Nat) ∧ dcB s (Int.toNat ((21 : Int) - d)) t (Int.toNat i) c = (0 : Int) ∧ Prod.fst (dcF s (Int.toNat ((21 : Int) - d)) t (Int.toNat i) c) = (3 : Int) ∧ Prod.fst (xE E) = Prod.fst (xE E) ∧ Prod.fst (Prod.snd (xE E)) = Prod.fst (Prod.snd (xE E)) ∧ Prod.snd (Prod.snd (xE E)) = Prod.snd (Prod.snd (xE E)) ∧ s = s ∧ (↑(Prod.fst (Prod.snd (dcF s (Int.toNat ((21 : Int) - d)) t (Int.toNat i) c))) : Int) = i ∧ Prod.snd (Prod.snd (dcF s (Int.toNat ((21 : Int) - d)) t (Int.toNat i) c)) = c + (1 : Int) ∧ Pl noA ∧ True ∧ (∀ (p : Nat → Option Obj), True ∧ enP E p → Pl noA) ∧ True) ∧ (decide ((2000 : Int) < c + (1 : Int)) = false → ((0 : Int) ≤ t ∧ t < (↑(Prod.fst (Prod.snd (xE E))) : Int)) ∧ Prod.fst (xE E) ≠ noA ∧ ∃ (n_1 : Int), ∃ (s_1 : ByteArray), ∃ (p : Option Addr), ∃ (n_2 : Nat), ∃ (c_1 : Nat), ∃ (n_3 : Int), ∃ (p_1 : Option Addr), ∃ (n_4 : Nat), ∃ (c_2 : Nat), ∃ (b : Bool), ∃ (s_2 : ByteArray), ∃ (n_5 : Int), ∃ (p_2 : Option Addr), ∃ (n_6 : Nat), ∃ (c_3 : Nat), ∃ (p_3 : Option Addr), ∃ (n_7 : Nat), ∃ (c_4 : Nat), (∀ (p_4 : Nat → Option Obj), True ∧ enP E p_4 → cellsP p_4 (adr (Prod.fst (xE E)) (Int.toNat t * (10 : Nat))) [Value.int IntKind.i64 n_1, Value.string s_1, Value.slice p n_2 c_1, Value.int IntKind.i64 n_3, Value.slice p_1 n_4 c_2, Value.bool b, Value.string s_2, Value.int IntKind.i64 n_5, Value.slice p_2 n_6 c_3, Value.slice p_3 n_7 c_4]) ∧ (decide (n_1 = (9 : Int)) = true → ∃ (s_3 : VcS), (9 : Int) = n_1 ∧ mkS [(82 : Nat)] = s_1 ∧ noA = p ∧ (0 : Nat) = n_2 ∧ (0 : Nat) = c_1 ∧ (0 : Int) = n_3 ∧ noA = p_1 ∧ (0 : Nat) = n_4 ∧ (0 : Nat) = c_2 ∧ false = b ∧ mkS [] = s_2 ∧ (0 : Int) = n_5 ∧ Prod.fst (Prod.snd s_3.1.1) = p_2 ∧ (1 : Nat) = n_6 ∧ (1 : Nat) = c_3 ∧ noA = p_3 ∧ (0 : Nat) = n_7 ∧ (0 : Nat) = c_4 ∧ s_3.2.2 = d ∧ Prod.fst (xE s_3.1.1) = Prod.fst (xE E) ∧ Prod.fst (Prod.snd (xE s_3.1.1)) = Prod.fst (Prod.snd (xE E)) ∧ Prod.snd (Prod.snd (xE s_3.1.1)) = Prod.snd (Prod.snd (xE E)) ∧ s_3.1.2.1 = s ∧ s_3.1.2.2.1 = i ∧ s_3.1.2.2.2 = c + (1 : Int) ∧ (muC s_3 < n + (1 : Nat) ∧ rcPre s_3) ∧ (∀ (p : Nat → Option Obj), True ∧ enP E p → enP s_3.1.1 p) ∧ ∀ (b : Unit), True → ∀ (a : Option Addr) (n c_5 : Nat), (∃ (p : Nat → Option Obj), (True ∧ enP E p) ∧ Pl a) → ∃ (b : Unit), a = a ∧ n = n ∧ c_5 = c_5 ∧ dcB s (Int.toNat ((21 : Int) - d)) t (Int.toNat i) c = (0 : Int) ∧ Prod.fst (dcF s (Int.toNat ((21 : Int) - d)) t (Int.toNat i) c) = Prod.fst (dcF s_3.1.2.1 (Int.toNat ((20 : Int) - s_3.2.2)) (3 : Int) (Int.toNat s_3.1.2.2.1) s_3.1.2.2.2) ∧ Prod.fst (xE E) = Prod.fst (xE s_3.1.1) ∧ Prod.fst (Prod.snd (xE E)) = Prod.fst (Prod.snd (xE s_3.1.1)) ∧ Prod.snd (Prod.snd (xE E)) = Prod.snd (Prod.snd (xE s_3.1.1)) ∧ s = s_3.1.2.1 ∧ (↑(Prod.fst (Prod.snd (dcF s (Int.toNat ((21 : Int) - d)) t (Int.toNat i) c))) : Int) = (↑(Prod.fst (Prod.snd (dcF s_3.1.2.1 (Int.toNat ((20 : Int) - s_3.2.2)) (3 : Int) (Int.toNat s_3.1.2.2.1) s_3.1.2.2.2))) : Int) ∧ Prod.snd (Prod.snd (dcF s (Int.toNat ((21 : Int) - d)) t (Int.toNat i) c)) = Prod.snd (Prod.snd (dcF s_3.1.2.1 (Int.toNat ((20 : Int) - s_3.2.2)) (3 : Int) (Int.toNat s_3.1.2.2.1) s_3.1.2.2.2)) ∧ Pl a ∧ True ∧ (∀ (p : Nat → Option Obj), (True ∧ enP E p) ∧ Pl a → Pl a) ∧ True) ∧ (decide (n_1 = (9 : Int)) = false → (decide (n_1 = (12 : Int)) = true → (decide (n_1 = (12 : Int)) = true → False) ∧ (decide (n_1 = (12 : Int)) = false → (decide (n_1 = (14 : Int)) = true → ∃ (s_3 : VcS), (14 : Int) = n_1 ∧ mkS [] = s_1 ∧ noA = p ∧ (0 : Nat) = n_2 ∧ (0 : Nat) = c_1 ∧ (0 : Int) = n_3 ∧ noA = p_1 ∧ (0 : Nat) = n_4 ∧ (0 : Nat) = c_2 ∧ false = b ∧ mkS [] = s_2 ∧ (0 : Int) = n_5 ∧ noA = p_2 ∧ (0 : Nat) = n_6 ∧ (0 : Nat) = c_3 ∧ Prod.snd (Prod.snd s_3.1.1) = p_3 ∧ (2 : Nat) = n_7 ∧ (2 : Nat) = c_4 ∧ s_3.2.2 = d ∧ Prod.fst (xE s_3.1.1) = Prod.fst (xE E) ∧ Prod.fst (Prod.snd (xE s_3.1.1)) = Prod.fst (Prod.snd (xE E)) ∧ Prod.snd (Prod.snd (xE s_3.1.1)) = Prod.snd (Prod.snd (xE E)) ∧ s_3.1.2.1 = s ∧ s_3.1.2.2.1 = i ∧ s_3.1.2.2.2 = c + (1 : Int) ∧ (muC s_3 < n + (1 : Nat) ∧ rcPre s_3) ∧ (∀ (p : Nat → Option Obj), True ∧ enP E p → enP s_3.1.1 p) ∧ ∀ (b : Unit), True → ∀ (a : Option Addr) (n c_5 : Nat), (∃ (p : Nat → Option Obj), (True ∧ enP E p) ∧ Pl a) → ∃ (b : Unit), a = a ∧ n = n ∧ c_5 = c_5 ∧ (dcB s (Int.toNat ((21 : Int) - d)) t (Int.toNat i) c = if Prod.fst (unF s_3.1.2.1 (Int.toNat ((20 : Int) - s_3.2.2)) (Int.toNat s_3.1.2.2.1) s_3.1.2.2.2) = (0 : Int) then Prod.fst (lgR s_3.1.2.1 (Int.toNat s_3.1.2.2.1)) else (0 : Int)) ∧ Prod.fst (dcF s (Int.toNat ((21 : Int) - d)) t (Int.toNat i) c) = Prod.fst (unF s_3.1.2.1 (Int.toNat ((20 : Int) - s_3.2.2)) (Int.toNat s_3.1.2.2.1) s_3.1.2.2.2) ∧ Prod.fst (xE E) = Prod.fst (xE s_3.1.1) ∧ Prod.fst (Prod.snd (xE E)) = Prod.fst (Prod.snd (xE s_3.1.1)) ∧ Prod.snd (Prod.snd (xE E)) = Prod.snd (Prod.snd (xE s_3.1.1)) ∧ s = s_3.1.2.1 ∧ (↑(Prod.fst (Prod.snd (dcF s (Int.toNat ((21 : Int) - d)) t (Int.toNat i) c))) : Int) = (↑(Prod.fst (Prod.snd (unF s_3.1.2.1 (Int.toNat ((20 : Int) - s_3.2.2)) (Int.toNat s_3.1.2.2.1) s_3.1.2.2.2))) : Int) ∧ Prod.snd (Prod.snd (dcF s (Int.toNat ((21 : Int) - d)) t (Int.toNat i) c)) = Prod.snd (Prod.snd (unF s_3.1.2.1 (Int.toNat ((20 : Int) - s_3.2.2)) (Int.toNat s_3.1.2.2.1) s_3.1.2.2.2)) ∧ Pl a ∧ True ∧ (∀ (p : Nat → Option Obj), (True ∧ enP E p) ∧ Pl a → Pl a) ∧ True) ∧ (decide (n_1 = (14 : Int)) = false → ∃ (s_3 : EdS), (1 : Int) = n_1 ∧ mkS [] = s_1 ∧ noA = p ∧ (0 : Nat) = n_2 ∧ (0 : Nat) = c_1 ∧ (0 : Int) = n_3 ∧ noA = p_1 ∧ (0 : Nat) = n_4 ∧ (0 : Nat) = c_2 ∧ false = b ∧ mkS [] = s_2 ∧ (0 : Int) = n_5 ∧ noA = p_2 ∧ (0 : Nat) = n_6 ∧ (0 : Nat) = c_3 ∧ noA = p_3 ∧ (0 : Nat) = n_7 ∧ (0 : Nat) = c_4 ∧ Prod.fst (xE s_3.1) = Prod.fst (xE E) ∧ Prod.fst (Prod.snd (xE s_3.1)) = Prod.fst (Prod.snd (xE E)) ∧ Prod.snd (Prod.snd (xE s_3.1)) = Prod.snd (Prod.snd (xE E)) ∧ s_3.2.1 = s ∧ s_3.2.2.1 = i ∧ s_3.2.2.2 = c + (1 : Int) ∧ True ∧ ∃ (b : Unit), noA = noA ∧ (0 : Nat) = (0 : Nat) ∧ (0 : Nat) = (0 : Nat) ∧ dcB s (Int.toNat ((21 : Int) - d)) t (Int.toNat i) c = (0 : Int) ∧ Prod.fst (dcF s (Int.toNat ((21 : Int) - d)) t (Int.toNat i) c) = (0 : Int) ∧ Prod.fst (xE E) = Prod.fst (xE s_3.1) ∧ Prod.fst (Prod.snd (xE E)) = Prod.fst (Prod.snd (xE s_3.1)) ∧ Prod.snd (Prod.snd (xE E)) = Prod.snd (Prod.snd (xE s_3.1)) ∧ s = s_3.2.1 ∧ (↑(Prod.fst (Prod.snd (dcF s (Int.toNat ((21 : Int) - d)) t (Int.toNat i) c))) : Int) = s_3.2.2.1 ∧ Prod.snd (Prod.snd (dcF s (Int.toNat ((21 : Int) - d)) t (Int.toNat i) c)) = s_3.2.2.2 ∧ Pl noA ∧ True ∧ (∀ (p : Nat → Option Obj), True ∧ enP E p → Pl noA) ∧ True))) ∧ (decide (n_1 = (12 : Int)) = false → (decide (n_1 = (13 : Int)) = true → False) ∧ (decide (n_1 = (13 : Int)) = false → (decide (n_1 = (14 : Int)) = true → ∃ (s_3 : VcS), (14 : Int) = n_1 ∧ mkS [] = s_1 ∧ noA = p ∧ (0 : Nat) = n_2 ∧ (0 : Nat) = c_1 ∧ (0 : Int) = n_3 ∧ noA = p_1 ∧ (0 : Nat) = n_4 ∧ (0 : Nat) = c_2 ∧ false = b ∧ mkS [] = s_2 ∧ (0 : Int) = n_5 ∧ noA = p_2 ∧ (0 : Nat) = n_6 ∧ (0 : Nat) = c_3 ∧ Prod.snd (Prod.snd s_3.1.1) = p_3 ∧ (2 : Nat) = n_7 ∧ (2 : Nat) = c_4 ∧ s_3.2.2 = d ∧ Prod.fst (xE s_3.1.1) = Prod.fst (xE E) ∧ Prod.fst (Prod.snd (xE s_3.1.1)) = Prod.fst (Prod.snd (xE E)) ∧ Prod.snd (Prod.snd (xE s_3.1.1)) = Prod.snd (Prod.snd (xE E)) ∧ s_3.1.2.1 = s ∧ s_3.1.2.2.1 = i ∧ s_3.1.2.2.2 = c + (1 : Int) ∧ (muC s_3 < n + (1 : Nat) ∧ rcPre s_3) ∧ (∀ (p : Nat → Option Obj), True ∧ enP E p → enP s_3.1.1 p) ∧ ∀ (b : Unit), True → ∀ (a : Option Addr) (n c_5 : Nat), (∃ (p : Nat → Option Obj), (True ∧ enP E p) ∧ Pl a) → ∃ (b : Unit), a = a ∧ n = n ∧ c_5 = c_5 ∧ (dcB s (Int.toNat ((21 : Int) - d)) t (Int.toNat i) c = if Prod.fst (unF s_3.1.2.1 (Int.toNat ((20 : Int) - s_3.2.2)) (Int.toNat s_3.1.2.2.1) s_3.1.2.2.2) = (0 : Int) then Prod.fst (lgR s_3.1.2.1 (Int.toNat s_3.1.2.2.1)) else (0 : Int)) ∧ Prod.fst (dcF s (Int.toNat ((21 : Int) - d)) t (Int.toNat i) c) = Prod.fst (unF s_3.1.2.1 (Int.toNat ((20 : Int) - s_3.2.2)) (Int.toNat s_3.1.2.2.1) s_3.1.2.2.2) ∧ Prod.fst (xE E) = Prod.fst (xE s_3.1.1) ∧ Prod.fst (Prod.snd (xE E)) = Prod.fst (Prod.snd (xE s_3.1.1)) ∧ Prod.snd (Prod.snd (xE E)) = Prod.snd (Prod.snd (xE s_3.1.1)) ∧ s = s_3.1.2.1 ∧ (↑(Prod.fst (Prod.snd (dcF s (Int.toNat ((21 : Int) - d)) t (Int.toNat i) c))) : Int) = (↑(Prod.fst (Prod.snd (unF s_3.1.2.1 (Int.toNat ((20 : Int) - s_3.2.2)) (Int.toNat s_3.1.2.2.1) s_3.1.2.2.2))) : Int) ∧ Prod.snd (Prod.snd (dcF s (Int.toNat ((21 : Int) - d)) t (Int.toNat i) c)) = Prod.snd (Prod.snd (unF s_3.1.2.1 (Int.toNat ((20 : Int) - s_3.2.2)) (Int.toNat s_3.1.2.2.1) s_3.1.2.2.2)) ∧ Pl a ∧ True ∧ (∀ (p : Nat → Option Obj), (True ∧ enP E p) ∧ Pl a → Pl a) ∧ True) ∧ (decide (n_1 = (14 : Int)) = false → ∃ (s_3 : EdS), (1 : Int) = n_1 ∧ mkS [] = s_1 ∧ noA = p ∧ (0 : Nat) = n_2 ∧ (0 : Nat) = c_1 ∧ (0 : Int) = n_3 ∧ noA = p_1 ∧ (0 : Nat) = n_4 ∧ (0 : Nat) = c_2 ∧ false = b ∧ mkS [] = s_2 ∧ (0 : Int) = n_5 ∧ noA = p_2 ∧ (0 : Nat) = n_6 ∧ (0 : Nat) = c_3 ∧ noA = p_3 ∧ (0 : Nat) = n_7 ∧ (0 : Nat) = c_4 ∧ Prod.fst (xE s_3.1) = Prod.fst (xE E) ∧ Prod.fst (Prod.snd (xE s_3.1)) = Prod.fst (Prod.snd (xE E)) ∧ Prod.snd (Prod.snd (xE s_3.1)) = Prod.snd (Prod.snd (xE E)) ∧ s_3.2.1 = s ∧ s_3.2.2.1 = i ∧ s_3.2.2.2 = c + (1 : Int) ∧ True ∧ ∃ (b : Unit), noA = noA ∧ (0 : Nat) = (0 : Nat) ∧ (0 : Nat) = (0 : Nat) ∧ dcB s (Int.toNat ((21 : Int) - d)) t (Int.toNat i) c = (0 : Int) ∧ Prod.fst (dcF s (Int.toNat ((21 : Int) - d)) t (Int.toNat i) c) = (0 : Int) ∧ Prod.fst (xE E) = Prod.fst (xE s_3.1) ∧ Prod.fst (Prod.snd (xE E)) = Prod.fst (Prod.snd (xE s_3.1)) ∧ Prod.snd (Prod.snd (xE E)) = Prod.snd (Prod.snd (xE s_3.1)) ∧ s = s_3.2.1 ∧ (↑(Prod.fst (Prod.snd (dcF s (Int.toNat ((21 : Int) - d)) t (Int.toNat i) c))) : Int) = s_3.2.2.1 ∧ Prod.snd (Prod.snd (dcF s (Int.toNat ((21 : Int) - d)) t (Int.toNat i) c)) = s_3.2.2.2 ∧ Pl noA ∧ True ∧ (∀ (p : Nat → Option Obj), True ∧ enP E p → Pl noA) ∧ True))))))))) := by kernel_rfl
theorem decC_eq (E : Env) (s : ByteArray) : askF P (ctTab [(16, cValC)]) Go.Proofs.Try.f8 cDecC (fun _ => {}) ⟨E, s⟩ = (ByteArray.size s < (100000 : Nat) → (∃ (p : Nat → Option Obj), True ∧ enP E p) → ∃ (s_1 : ByteArray), ByteArray.size s_1 = ByteArray.size s ∧ subL (bcells s) (0 : Nat) (bcells s_1) ∧ ∃ (s_2 : VcS), s_2.2.1 = (2 : Int) ∧ s_2.2.2 = (1 : Int) ∧ Prod.fst (xE s_2.1.1) = Prod.fst (xE E) ∧ Prod.fst (Prod.snd (xE s_2.1.1)) = Prod.fst (Prod.snd (xE E)) ∧ Prod.snd (Prod.snd (xE s_2.1.1)) = Prod.snd (Prod.snd (xE E)) ∧ s_2.1.2.1 = s_1 ∧ s_2.1.2.2.1 = (0 : Int) ∧ s_2.1.2.2.2 = (0 : Int) ∧ vcPre s_2 ∧ (∀ (p : Nat → Option Obj), True ∧ enP E p → enP s_2.1.1 p) ∧ ∀ (b : Unit), True → ∀ (a : Option Addr) (n c : Nat), (∃ (p : Nat → Option Obj), (True ∧ enP E p) ∧ Pl a) → ((!decide (Prod.fst (dcF s_2.1.2.1 (Int.toNat ((21 : Int) - s_2.2.2)) s_2.2.1 (Int.toNat s_2.1.2.2.1) s_2.1.2.2.2) = (0 : Int))) = true → ∃ (b : Unit), noA = noA ∧ (0 : Nat) = (0 : Nat) ∧ (0 : Nat) = (0 : Nat) ∧ (if Prod.fst (dcF s (20 : Nat) (2 : Int) (0 : Nat) (0 : Int)) = (0 : Int) then (↑(Prod.fst (Prod.snd (dcF s (20 : Nat) (2 : Int) (0 : Nat) (0 : Int)))) : Int) else (0 : Int)) = (0 : Int) ∧ Prod.fst (dcF s (20 : Nat) (2 : Int) (0 : Nat) (0 : Int)) = Prod.fst (dcF s_2.1.2.1 (Int.toNat ((21 : Int) - s_2.2.2)) s_2.2.1 (Int.toNat s_2.1.2.2.1) s_2.1.2.2.2) ∧ bcells s = bcells s ∧ Pl noA ∧ True ∧ (∀ (p : Nat → Option Obj), (True ∧ enP E p) ∧ Pl a → Pl noA ∧ (Prod.fst (dcF s (20 : Nat) (2 : Int) (0 : Nat) (0 : Int)) ≠ (0 : Int) → (0 : Nat) = (0 : Nat))) ∧ True) ∧ ((!decide (Prod.fst (dcF s_2.1.2.1 (Int.toNat ((21 : Int) - s_2.2.2)) s_2.2.1 (Int.toNat s_2.1.2.2.1) s_2.1.2.2.2) = (0 : Int))) = false → AV.sv (Value.int IntKind.i64 (↑(Prod.fst (Prod.snd (dcF s_2.1.2.1 (Int.toNat ((21 : Int) - s_2.2.2)) s_2.2.1 (Int.toNat s_2.1.2.2.1) s_2.1.2.2.2))) : Int)) = AV.sv (Value.int IntKind.i64 (↑(Prod.fst (Prod.snd (dcF s_2.1.2.1 (Int.toNat ((21 : Int) - s_2.2.2)) s_2.2.1 (Int.toNat s_2.1.2.2.1) s_2.1.2.2.2))) : Int)) ∧ ∃ (b : Unit), a = a ∧ n = n ∧ c = c ∧ (0 : Int) = dcB s_2.1.2.1 (Int.toNat ((21 : Int) - s_2.2.2)) s_2.2.1 (Int.toNat s_2.1.2.2.1) s_2.1.2.2.2 ∧ (if Prod.fst (dcF s (20 : Nat) (2 : Int) (0 : Nat) (0 : Int)) = (0 : Int) then (↑(Prod.fst (Prod.snd (dcF s (20 : Nat) (2 : Int) (0 : Nat) (0 : Int)))) : Int) else (0 : Int)) = (↑(Prod.fst (Prod.snd (dcF s_2.1.2.1 (Int.toNat ((21 : Int) - s_2.2.2)) s_2.2.1 (Int.toNat s_2.1.2.2.1) s_2.1.2.2.2))) : Int) ∧ Prod.fst (dcF s (20 : Nat) (2 : Int) (0 : Nat) (0 : Int)) = (0 : Int) ∧ bcells s = bcells s ∧ Pl a ∧ True ∧ (∀ (p : Nat → Option Obj), (True ∧ enP E p) ∧ Pl a → Pl a ∧ (Prod.fst (dcF s (20 : Nat) (2 : Int) (0 : Nat) (0 : Int)) ≠ (0 : Int) → n = (0 : Nat))) ∧ True)) := by kernel_rfl
theorem valA_ok : CtOK P 16 cValA := by
  refine ask_ok mixed (ctTab_ok (forall_tab blocks_ok nil_tab)) (W := fun _ => {}) Go.Proofs.Try.func16 (by kernel_rfl) (by decide) (by decide) (fun s => by kernel_rfl) fun (b : BlS) => (valA_eq b).mpr ?_
  simp only [decide_eq_true_eq, decide_eq_false_iff_not, Bool.not_eq_true', Bool.not_eq_false', true_and, and_true, eq_self, xE]
  rintro ⟨hb, hc1⟩ ⟨p, hp⟩
  have hc2 : b.d.2.2.2 ≤ 2000 := hb.2.2.1
  have ec : b.d.2.2.2 - 1 + 1 = b.d.2.2.2 := by omega
  rw [ec]
  refine ⟨fun h => by simp at h, fun _ => ⟨by omega, fun h => by omega, fun _ => ⟨by omega, (typ_cells hp 0 (by decide)).1, 12, mkS [], none, 0, 0, 1, none, 0, 0, false, mkS [], 0, none, 0, 0, none, 0, 0, fun q hq => (typ_cells hq 0 (by decide)).2, fun h => by omega, fun _ => ⟨fun _ => ⟨fun _ => ⟨b, ?_⟩, fun h => by omega⟩, fun h => by omega⟩⟩⟩⟩
  simp only [true_and, eq_self, and_true]
  exact ⟨hb, fun q hq => hq, fun _ _ a n c ⟨q, hq, ha, hn⟩ => ⟨(), ha, fun r hr => ⟨hr.2.1, hr.2.2⟩⟩⟩
theorem bytes_same {s t : ByteArray} (h1 : t.size = s.size) (h2 : subL (bcells s) 0 (bcells t)) : t = s := by
  apply ByteArray.ext
  apply Array.ext
  · exact h1
  · intro i h3 h4
    have e1 := bcells_get (s := t) (i := i) h3
    have e2 := bcells_get (s := s) (i := i) h4
    have := h2 i _ e1
    rw [Nat.zero_add, e2] at this
    simp only [Option.some.injEq, Value.int.injEq, true_and] at this
    exact (UInt8.toNat_inj.mp (by exact_mod_cast this)).symm
theorem decA_ok : CtOK P 8 cDecA := by
  refine ask_ok mixed (ctTab_ok (forall_tab valA_ok nil_tab)) (W := fun _ => {}) Go.Proofs.Try.func8 (by kernel_rfl) (by decide) (by decide) (fun s => by kernel_rfl) fun (b : BlS) => (decA_eq b).mpr ?_
  simp only [decide_eq_true_eq, decide_eq_false_iff_not, Bool.not_eq_true', Bool.not_eq_false', true_and, and_true, eq_self, xE]
  rintro ⟨hb, hc1, hi⟩ ⟨p, hp⟩
  refine ⟨b.d.2.1, rfl, fun j v h => by rw [Nat.zero_add]; exact h, b, rfl, rfl, hi, by omega, ⟨hb, by omega⟩, fun q hq => hq, fun _ _ a n c ⟨q, hq, ha, hn⟩ => ⟨fun h => ⟨(), ?_, rfl, Pl_none, fun r hr => ⟨Pl_none, fun h2 => absurd h2 h⟩⟩, fun h => ⟨(), ?_, h, ha, fun r hr => hr.2⟩⟩⟩
  · rw [if_neg h]
  · rw [if_pos h]
theorem fld_cells {E : Env} {p : Pub} (h : enP E p) : E.2.1 ≠ noA ∧ cellsP p (adr E.2.1 (0 * 9)) fld3 := by
  rcases h.2.1.2 with h | ⟨x, hx, h1, h2⟩
  · exact absurd h.1 (by intro e; exact absurd (congrArg List.length e) (by decide))
  · rw [hx]
    refine ⟨by simp, fun j v hj => ?_⟩
    show cellP p ((x.add (0 * 9)).add j) = some v
    rw [add4 x h1, Nat.zero_mul, Nat.zero_add]
    exact h2 _ v hj
theorem brn_cells {E : Env} {p : Pub} (h : enP E p) (k : Nat) (hk : k < 2) : E.2.2 ≠ noA ∧ cellsP p (adr E.2.2 (k * 1)) [.int .i64 ((k : Int) + 1)] := by
  rcases h.2.2.2 with h | ⟨x, hx, h1, h2⟩
  · exact absurd h.1 (by intro e; exact absurd (congrArg List.length e) (by decide))
  · rw [hx]
    refine ⟨by simp, fun j v hj => ?_⟩
    show cellP p ((x.add (k * 1)).add j) = some v
    rw [add4 x h1, Nat.mul_one]
    refine h2 _ v ?_
    match k, hk, j with
    | 0, _, 0 => exact hj
    | 1, _, 0 => exact hj
    | 0, _, j + 1 => simp at hj
    | 1, _, j + 1 => simp at hj
theorem recC_ok (n : Nat) (hv : CtOK P 16 (cValC.below muC n)) : CtOK P 26 (cRecC.below muC (n + 1)) := by
  refine ask_ok mixed (ctTab_ok (forall_tab hv nil_tab)) (W := wRecC) Go.Proofs.Try.func26 (by kernel_rfl) (show 1 ≤ 2 by decide) (show 2 ≤ 3 by decide) (fun s => by kernel_rfl) fun ⟨⟨E, s, (i : Int), (c : Int)⟩, (t : Int), (d : Int)⟩ => (recC_eq n E s i c t d).mpr ?_
  simp only [decide_eq_true_eq, decide_eq_false_iff_not, Bool.not_eq_true', Bool.not_eq_false', true_and, and_true, eq_self, xE]
  rintro ⟨hmu, hdc, hc0, hc1, hd0, hd1⟩ ⟨p, hp⟩
  have hmu : (21 - d).toNat < n + 1 := hmu
  refine ⟨fun _ => ⟨by omega, (fld_cells hp).1, mkS [97], none, 0, 0, 3, false, 0, 0, mkS [], none, 0, 0, none, 0, 0, fun q hq => (fld_cells hq).2, by omega, ⟨⟨E, s, i, c⟩, 3, d + 1⟩, ?_⟩, fun h => by omega⟩
  simp only [true_and, and_true, eq_self]
  rw [show (21 - (d + 1)).toNat = (20 - d).toNat by omega]
  refine ⟨⟨by show (21 - (d + 1)).toNat < n; omega, hdc, hc0, hc1, by omega, by omega, by omega, by omega⟩, fun q hq => hq, fun _ _ a m q ⟨pp, hpp, ha⟩ => ⟨fun h => ⟨(), rfl, rfl, rfl, Pl_none, fun _ _ => Pl_none⟩, fun h => ?_⟩⟩
  exact ⟨by omega, fun h => absurd h (by decide), fun _ b s4 u a4 n5 c5 ⟨_, _, _, hr⟩ => ⟨(), h, rfl, rfl, Sen.rowP_Pl hr, fun _ hq => Sen.rowP_Pl hq.2.2⟩⟩
theorem uniC_ok (n : Nat) (hv : CtOK P 16 (cValC.below muC n)) : CtOK P 28 (cUniC.below muC (n + 1)) := by
  refine ask_ok mixed (ctTab_ok (forall_tab choice_ok (forall_tab hv nil_tab))) (W := wUniC) Go.Proofs.Try.func28 (by kernel_rfl) (show 1 ≤ 2 by decide) (show 2 ≤ 3 by decide) (fun s => by kernel_rfl) fun ⟨⟨E, s, (i : Int), (c : Int)⟩, (t : Int), (d : Int)⟩ => (uniC_eq n E s i c t d).mpr ?_
  simp only [decide_eq_true_eq, decide_eq_false_iff_not, Bool.not_eq_true', Bool.not_eq_false', true_and, and_true, eq_self, xE]
  rintro ⟨hmu, hdc, hc0, hc1, hd0, hd1⟩ ⟨p, hp⟩
  have hmu : (21 - d).toNat < n + 1 := hmu
  obtain ⟨hi0, hi1, hs⟩ := hdc
  obtain ⟨f1, f2, f3, f4, f5, f6⟩ := lg_facts s i.toNat (by omega)
  refine ⟨⟨2, (E.1, 4, 4), s, i, c⟩, ?_⟩
  simp only [true_and, and_true, eq_self]
  refine ⟨rfl, ⟨hi0, hi1, hs⟩, fun h => ?_, fun h => ?_⟩
  · have e : unF s (20 - d).toNat i.toNat c = (((chE s i.toNat 2 : Nat) : Int), (lgR s i.toNat).2.2, c) := by
      unfold unF; rw [if_pos (by intro h0; exact h (by rw [h0]; rfl))]
    rw [e]
    exact ⟨(), if_neg h, rfl, rfl, rfl, Pl_none, fun _ _ => Pl_none⟩
  · have h0 : chE s i.toNat 2 = 0 := by omega
    have e : unF s (20 - d).toNat i.toNat c = dcF s (20 - d).toNat ((lgR s i.toNat).1 + 1) (lgR s i.toNat).2.2 c := by
      unfold unF; rw [if_neg (by rw [h0]; simp)]
    rw [e]
    have hr : 0 ≤ (lgR s i.toNat).1 ∧ (lgR s i.toNat).1 < 2 := by
      unfold chE at h0
      split at h0
      · cases h0
      · rename_i hh
        rw [h0] at hh
        omega
    obtain ⟨k, hk⟩ := Int.eq_ofNat_of_zero_le hr.1
    rw [hk] at hr ⊢
    refine ⟨hr, (brn_cells hp k (by omega)).1, (k : Int) + 1, fun q hq => (brn_cells hq k (by omega)).2, by omega, ⟨⟨E, s, (lgR s i.toNat).2.2, c⟩, (k : Int) + 1, d + 1⟩, ?_⟩
    simp only [true_and, and_true, eq_self, Int.toNat_natCast]
    rw [show (21 - (d + 1)).toNat = (20 - d).toNat by omega]
    refine ⟨⟨by show (21 - (d + 1)).toNat < n; omega, ⟨by omega, by omega, hs⟩, hc0, hc1, by omega, by omega, by omega, by omega⟩, fun q hq => hq, fun _ _ a m q ⟨pp, hpp, ha⟩ => ⟨fun h => ⟨(), if_neg h, rfl, rfl, rfl, Pl_none, fun _ _ => Pl_none⟩, fun h => ?_⟩⟩
    intro b s3 u3 _
    exact ⟨(), if_pos h, h, rfl, rfl, Pl_some rfl, fun _ _ => Pl_some rfl⟩
theorem dcF_much {s : ByteArray} {D : Nat} {t : Int} {i : Nat} {c : Int} (h : 2000 < c + 1) : dcF s D t i c = (3, i, c + 1) := by
  cases D <;> rw [dcF]
  rw [if_pos h]
theorem dcF_some {s : ByteArray} {D : Nat} {t : Int} {i : Nat} {c : Int} (h : ¬ 2000 < c + 1) : dcF s (D + 1) t i c = if t = 1 then (0, i, c + 1) else if t = 2 then dcF s D 3 i (c + 1) else unF s D i (c + 1) := by
  rw [dcF, if_neg h]; rfl
theorem valC_ok (n : Nat) (hr : CtOK P 26 (cRecC.below muC (n + 1))) (hu : CtOK P 28 (cUniC.below muC (n + 1))) : CtOK P 16 (cValC.below muC (n + 1)) := by
  refine ask_ok mixed (ctTab_ok (forall_tab hr (forall_tab hu (forall_tab plainN_ok nil_tab)))) (W := fun _ => {}) Go.Proofs.Try.func16 (by kernel_rfl) (show 1 ≤ 2 by decide) (show 2 ≤ 3 by decide) (fun s => by kernel_rfl) fun ⟨⟨E, s, (i : Int), (c : Int)⟩, (t : Int), (d : Int)⟩ => (valC_eq n E s i c t d).mpr ?_
  simp only [decide_eq_true_eq, decide_eq_false_iff_not, Bool.not_eq_true', Bool.not_eq_false', true_and, and_true, eq_self, xE]
  rintro ⟨hmu, hdc, hc0, hc1, hd0, hd1, ht0, ht1⟩ ⟨p, hp⟩
  have hmu : (21 - d).toNat < n + 1 := hmu
  obtain ⟨hi0, hi1, hs⟩ := hdc
  have er : (dcF s (21 - d).toNat t i.toNat c).1 ≠ 0 → dcB s (21 - d).toNat t i.toNat c = 0 := fun h => by unfold dcB; rw [if_neg (fun g => h g.2)]
  refine ⟨fun h => by omega, fun _ => ⟨fun h => absurd (show (4 : Int) ≤ t from of_decide_eq_true h) (by omega), fun _ => ⟨by omega, fun h => ?_, fun h => ⟨fun h2 => ?_, fun h2 => ?_⟩⟩⟩⟩
  · have e : dcF s (21 - d).toNat t i.toNat c = (3, i.toNat, c + 1) := by rw [show (21 - d).toNat = 0 by omega, dcF]
    refine ⟨(), er (by rw [e]; simp), by rw [e], by rw [e]; show (i.toNat : Int) = i; omega, by rw [e], Pl_none, fun _ _ => Pl_none⟩
  · have e : dcF s (21 - d).toNat t i.toNat c = (3, i.toNat, c + 1) := dcF_much h2
    refine ⟨(), er (by rw [e]; simp), by rw [e], by rw [e]; show (i.toNat : Int) = i; omega, by rw [e], Pl_none, fun _ _ => Pl_none⟩
  · have e := dcF_some (s := s) (D := (20 - d).toNat) (t := t) (i := i.toNat) h2
    rw [show (20 - d).toNat + 1 = (21 - d).toNat by omega] at e
    have tc : t = 1 ∨ t = 2 ∨ t = 3 := by omega
    rcases tc with rfl | rfl | rfl
    · rw [if_pos rfl] at e
      refine ⟨by omega, (typ_cells hp 1 (by decide)).1, 1, mkS [], none, 0, 0, 0, none, 0, 0, false, mkS [], 0, none, 0, 0, none, 0, 0, fun q hq => (typ_cells hq 1 (by decide)).2, fun h => by omega, fun _ => ⟨fun h => by omega, fun _ => ⟨fun h => by omega, fun _ => ⟨fun h => by omega, fun _ => ⟨⟨E, s, i, c + 1⟩, ?_⟩⟩⟩⟩⟩
      simp only [true_and, and_true, eq_self]
      refine ⟨(), by unfold dcB; rw [if_neg (by omega)], by rw [e], by rw [e]; show (i.toNat : Int) = i; omega, by rw [e], Pl_none, fun _ _ => Pl_none⟩
    · rw [if_neg (by decide), if_pos rfl] at e
      refine ⟨by omega, (typ_cells hp 2 (by decide)).1, 9, mkS [82], none, 0, 0, 0, none, 0, 0, false, mkS [], 0, E.2.1, 1, 1, none, 0, 0, fun q hq => (typ_cells hq 2 (by decide)).2, fun _ => ⟨⟨⟨E, s, i, c + 1⟩, 2, d⟩, ?_⟩, fun h => by omega⟩
      simp only [true_and, and_true, eq_self]
      refine ⟨⟨by show (21 - d).toNat < n + 1; omega, ⟨hi0, hi1, hs⟩, by omega, by omega, hd0, by omega⟩, fun q hq => hq, fun _ _ a m q ⟨pp, hpp, ha⟩ => ⟨(), by unfold dcB; rw [if_neg (by omega)], by rw [e], by rw [e], by rw [e], ha, fun _ hq => hq.2⟩⟩
    · rw [if_neg (by decide), if_neg (by decide)] at e
      refine ⟨by omega, (typ_cells hp 3 (by decide)).1, 14, mkS [], none, 0, 0, 0, none, 0, 0, false, mkS [], 0, none, 0, 0, E.2.2, 2, 2, fun q hq => (typ_cells hq 3 (by decide)).2, fun h => by omega, fun _ => ⟨fun h => by omega, fun _ => ⟨fun h => by omega, fun _ => ⟨fun _ => ⟨⟨⟨E, s, i, c + 1⟩, 3, d⟩, ?_⟩, fun h => by omega⟩⟩⟩⟩
      simp only [true_and, and_true, eq_self]
      refine ⟨⟨by show (21 - d).toNat < n + 1; omega, ⟨hi0, hi1, hs⟩, by omega, by omega, hd0, by omega⟩, fun q hq => hq, fun _ _ a m q ⟨pp, hpp, ha⟩ => ⟨(), ?_, by rw [e], by rw [e], by rw [e], ha, fun _ hq => hq.2⟩⟩
      unfold dcB
      rw [e]
      simp only [true_and]
theorem valC_all : ∀ n, CtOK P 16 (cValC.below muC n)
  | 0 => Ct.below_zero (by decide) (by decide) (Sen.enters_of Go.Proofs.Try.func16 (by kernel_rfl)) fun s => ⟨rfl, rfl⟩
  | n + 1 => valC_ok n (recC_ok n (valC_all n)) (uniC_ok n (valC_all n))
theorem valC_fin : CtOK P 16 cValC := Ct.of_below valC_all
theorem decC_ok : CtOK P 8 cDecC := by
  refine ask_ok mixed (ctTab_ok (forall_tab valC_fin nil_tab)) (W := fun _ => {}) Go.Proofs.Try.func8 (by kernel_rfl) (by decide) (by decide) (fun s => by kernel_rfl) fun ⟨E, s⟩ => (decC_eq E s).mpr ?_
  simp only [decide_eq_true_eq, decide_eq_false_iff_not, Bool.not_eq_true', Bool.not_eq_false', true_and, and_true, eq_self, xE]
  rintro hs ⟨p, hp⟩
  refine ⟨s, rfl, fun j v h => by rw [Nat.zero_add]; exact h, ⟨⟨E, s, 0, 0⟩, 2, 1⟩, ?_⟩
  simp only [true_and, and_true, eq_self]
  refine ⟨⟨⟨by omega, by show (0 : Int) ≤ s.size; omega, hs⟩, by omega, by omega, by omega, by omega, by omega, by omega⟩, fun q hq => hq, fun _ _ a n c ⟨q, hq, ha⟩ => ⟨fun h => ⟨(), if_neg h, rfl, Pl_none, fun r hr => ⟨Pl_none, fun _ => trivial⟩⟩, fun h => ⟨(), ?_, if_pos h, h, ha, fun r hr => ⟨hr.2, fun h2 => absurd h h2⟩⟩⟩⟩
  unfold dcB
  rw [if_neg (by omega)]
open Go.Proofs.Ytcmgjpafiobkpaa.Rv
theorem ofNat_lt8 {n : Nat} (h : n < 256) : (UInt8.ofNat n).toNat = n := by rw [UInt8.toNat_ofNat']; omega
/-- What is written is read, whatever stands behind. -/
theorem vdec_enc8 (rest : List UInt8) : ∀ (v i acc : Nat), i ≤ 9 → v * 2 ^ (7 * i) < 18446744073709551616 → vdec (venc v ++ rest) i acc = some (acc + v * 2 ^ (7 * i), i + (venc v).length) := by
  intro v
  induction v using Nat.strongRecOn with
  | _ v ih =>
    intro i acc hi hv
    have nine : i = 9 → v ≤ 1 := fun h => by
      subst h
      have : (2 : Nat) ^ (7 * 9) = 9223372036854775808 := by decide
      rw [this] at hv; omega
    by_cases hlt : v < 128
    · rw [venc_lt hlt, List.cons_append, vdec, ofNat_lt8 (by omega), if_neg (by omega), if_neg (by omega), if_pos hlt, Nat.mod_eq_of_lt hlt]
      rfl
    · have hc : (UInt8.ofNat (v % 128 + 128)).toNat = v % 128 + 128 := ofNat_lt8 (by omega)
      have hm : (v % 128 + 128) % 128 = v % 128 := by omega
      rw [venc_ge (by omega), List.cons_append, vdec, hc, hm, if_neg (by omega), if_neg (by omega), if_neg (by omega)]
      have hv2 : v / 128 * 2 ^ (7 * (i + 1)) ≤ v * 2 ^ (7 * i) := by
        rw [pow7, ← Nat.mul_assoc]; exact Nat.mul_le_mul_right _ (by omega)
      rw [ih (v / 128) (by omega) (i + 1) _ (by omega) (by omega)]
      simp only [List.length_cons, Option.some.injEq, Prod.mk.injEq]
      refine ⟨?_, by omega⟩
      rw [pow7, Nat.add_assoc]
      congr 1
      rw [← Nat.mul_assoc, ← Nat.add_mul]
      congr 1; omega
/-- A long, as it is written. -/
noncomputable abbrev lg (n : Int) : ByteArray := ⟨(venc (zg n)).toArray⟩
noncomputable def vl (n : Int) : Nat := (venc (zg n)).length
theorem lg_size (n : Int) : (lg n).size = vl n := by show (venc (zg n)).toArray.size = _; rw [List.size_toArray]; rfl
/-- It is read where it stands. -/
theorem lg_read {s : ByteArray} {i : Nat} {n : Int} {r : List UInt8} (h1 : -9223372036854775808 ≤ n) (h2 : n < 9223372036854775808) (h : s.data.toList.drop i = venc (zg n) ++ r) : lgR s i = (n, 0, i + vl n) := by
  have e := vdec_enc8 r (zg n) 0 0 (by omega) (by have := zg_lt h1 h2; omega)
  rw [Nat.mul_zero, Nat.pow_zero, Nat.mul_one, Nat.zero_add, Nat.zero_add] at e
  unfold lgR vval vlen verr
  rw [h, e]
  show (unz (zg n), _, _) = _
  rw [unz_zg]; rfl
theorem vl_ten {n : Int} (h1 : -9223372036854775808 ≤ n) (h2 : n < 9223372036854775808) : vl n ≤ 10 := venc_ten _ (zg_lt h1 h2)
theorem vl_0 : vl 0 = 1 := by unfold vl zg; rw [if_pos (by omega), venc_lt (by decide)]; rfl
theorem lg_0 : lg 0 = ⟨#[0]⟩ := by show ByteArray.mk (venc (zg 0)).toArray = _; rw [show zg 0 = 0 from rfl, venc_lt (by decide)]; rfl
theorem lg_1 : lg 1 = ⟨#[2]⟩ := by show ByteArray.mk (venc (zg 1)).toArray = _; rw [show zg 1 = 2 from rfl, venc_lt (by decide)]; rfl
theorem app_list (a b : ByteArray) : (a ++ b).data.toList = a.data.toList ++ b.data.toList := by rw [ByteArray.data_append, Array.toList_append]
/-! An array of so many nulls. -/
noncomputable def bsA (k : Int) : ByteArray := if 0 < k then lg k ++ lg 0 else lg k
noncomputable def bsB (k : Int) : ByteArray := if 0 < k then lg (-k) ++ lg 0 ++ lg 0 else lg (-k)
theorem hd_pos {s : ByteArray} {i j : Nat} {n : Int} (h : lgR s i = (n, 0, j)) (hn : 0 ≤ n) : hdR s i = (n, -1, 0, j) := by
  unfold hdR
  rw [h, if_pos (.inr hn)]; rfl
theorem hd_neg {s : ByteArray} {i j l : Nat} {n : Int} (h : lgR s i = (n, 0, j)) (hn : n < 0) (hn2 : -9223372036854775808 < n) (h2 : lgR s j = (0, 0, l)) (hl : l < 1000000) : hdR s i = (-n, (l : Int), 0, l) := by
  unfold hdR
  rw [h, if_neg (show ¬ ((0 : Nat) ≠ 0 ∨ 0 ≤ n) by omega), if_neg (show ¬ n = -9223372036854775808 by omega)]
  simp only
  rw [h2]
  simp only [ne_eq, not_true_eq_false, if_false, Int.lt_irrefl]
  rw [if_neg (show ¬ (9223372036854775807 - (l : Int) < 0) by omega)]
  simp
theorem bl_A {E : Env} {k : Int} (h0 : 0 ≤ k) (h1 : k < 4294967296) : blPre ⟨⟨E, bsA k, 0, 1⟩, k, -1, vl k, vl k + 1⟩ ∧ (bsA k).size = if 0 < k then vl k + 1 else vl k := by
  have t := vl_ten (n := k) (by omega) (by omega)
  have hs : (bsA k).size = if 0 < k then vl k + 1 else vl k := by
    unfold bsA
    split
    · rw [ByteArray.size_append, lg_size, lg_size, vl_0]
    · rw [lg_size]
  have hz : 0 < k → (bsA k).data.toList = venc (zg k) ++ venc (zg 0) := fun h => by
    unfold bsA; rw [if_pos h, app_list]
  have r1 : lgR (bsA k) 0 = (k, 0, 0 + vl k) := by
    by_cases h : 0 < k
    · exact lg_read (by omega) (by omega) (by rw [hz h]; rfl)
    · refine lg_read (r := []) (by omega) (by omega) ?_
      unfold bsA; rw [if_neg h, List.append_nil]; rfl
  rw [Nat.zero_add] at r1
  refine ⟨⟨⟨Int.le_refl _, ?_, ?_⟩, by simp, by simp, h0, ?_, ?_, .inl rfl, hd_pos r1 h0, fun hk => ⟨?_, -1, ?_⟩⟩, hs⟩
  · show (0 : Int) ≤ ((bsA k).size : Int); omega
  · show (bsA k).size < 100000; rw [hs]; split <;> omega
  · show k < _; omega
  · show vl k ≤ (bsA k).size; rw [hs]; split <;> omega
  · show vl k + 1 ≤ (bsA k).size; rw [hs, if_pos hk]; exact Nat.le_refl _
  · have r2 : lgR (bsA k) (vl k) = (0, 0, vl k + vl 0) := lg_read (r := []) (by omega) (by omega) (by
      rw [hz hk, List.append_nil]
      exact List.drop_left' rfl)
    rw [vl_0] at r2
    exact hd_pos r2 (by omega)
theorem bl_B {E : Env} {k : Int} (h0 : 0 ≤ k) (h1 : k < 4294967296) : blPre ⟨⟨E, bsB k, 0, 1⟩, k, if 0 < k then ((vl (-k) + 1 : Nat) : Int) else -1, if 0 < k then vl (-k) + 1 else vl (-k), vl (-k) + 2⟩ := by
  have t := vl_ten (n := -k) (by omega) (by omega)
  have hs : (bsB k).size = if 0 < k then vl (-k) + 2 else vl (-k) := by
    unfold bsB
    split
    · rw [ByteArray.size_append, ByteArray.size_append, lg_size, lg_size, vl_0]
    · rw [lg_size]
  by_cases h : 0 < k
  · have hz : (bsB k).data.toList = venc (zg (-k)) ++ (venc (zg 0) ++ venc (zg 0)) := by
      unfold bsB; rw [if_pos h, app_list, app_list, List.append_assoc]
    have e0 : venc (zg 0) = [0] := by rw [show zg 0 = 0 from rfl, venc_lt (by decide)]; rfl
    have r1 : lgR (bsB k) 0 = (-k, 0, 0 + vl (-k)) := lg_read (by omega) (by omega) (by rw [hz]; rfl)
    rw [Nat.zero_add] at r1
    have r2 : lgR (bsB k) (vl (-k)) = (0, 0, vl (-k) + vl 0) := lg_read (by omega) (by omega) (by
      rw [hz]; exact List.drop_left' rfl)
    rw [vl_0] at r2
    have r3 : lgR (bsB k) (vl (-k) + 1) = (0, 0, vl (-k) + 1 + vl 0) := lg_read (r := []) (by omega) (by omega) (by
      rw [hz, e0, ← List.append_assoc, List.append_nil]
      exact List.drop_left' (by simp [vl]))
    rw [vl_0] at r3
    rw [if_pos h, if_pos h]
    rw [if_pos h] at hs
    refine ⟨⟨Int.le_refl _, ?_, ?_⟩, by simp, by simp, h0, ?_, ?_, .inr rfl, ?_, fun hk => ⟨?_, -1, ?_⟩⟩
    · show (0 : Int) ≤ ((bsB k).size : Int); omega
    · show (bsB k).size < 100000; omega
    · show k < _; omega
    · show vl (-k) + 1 ≤ (bsB k).size; omega
    · have := hd_neg r1 (by omega) (by omega) r2 (by omega)
      rw [Int.neg_neg] at this
      exact this
    · show vl (-k) + 2 ≤ (bsB k).size; omega
    · exact hd_pos r3 (by omega)
  · have hk : k = 0 := by omega
    subst hk
    rw [if_neg h] at hs
    rw [if_neg h, if_neg h]
    have r1 : lgR (bsB 0) 0 = (0, 0, 0 + vl (-0)) := lg_read (r := []) (by omega) (by omega) (by
      unfold bsB; rw [if_neg h, List.append_nil]; rfl)
    rw [Nat.zero_add] at r1
    refine ⟨⟨Int.le_refl _, ?_, ?_⟩, by simp, by simp, h0, ?_, ?_, .inl rfl, hd_pos r1 (by omega), fun hk => absurd hk h⟩
    · show (0 : Int) ≤ ((bsB 0).size : Int); omega
    · show (bsB 0).size < 100000; omega
    · show (0 : Int) < _; omega
    · show vl (-0) ≤ (bsB 0).size; omega
/-! Records within unions. -/
noncomputable def rp (i : Nat) : ByteArray := ⟨(List.replicate i (2 : UInt8)).toArray⟩
theorem rp_snoc (i : Nat) : rp i ++ lg 1 = rp (i + 1) := by
  apply ByteArray.ext
  rw [ByteArray.data_append, lg_1]
  show (List.replicate i (2 : UInt8)).toArray ++ #[2] = (List.replicate (i + 1) (2 : UInt8)).toArray
  rw [List.replicate_succ', List.append_toArray]
theorem rp_zero : rp 0 = mkS [] := rfl
theorem rp_list (k : Nat) : (rp k ++ lg 0).data.toList = List.replicate k 2 ++ [0] := by
  rw [app_list, lg_0]; rfl
theorem rp_at {k j : Nat} (h : j ≤ k) : lgR (rp k ++ lg 0) j = (if j < k then 1 else 0, 0, j + 1) := by
  have e : (rp k ++ lg 0).data.toList.drop j = List.replicate (k - j) 2 ++ [0] := by
    rw [rp_list, List.drop_append_of_le_length (by simpa using h), List.drop_replicate]
  split
  · obtain ⟨m, hm⟩ : ∃ m, k - j = m + 1 := ⟨k - j - 1, by omega⟩
    rw [hm, List.replicate_succ] at e
    have := lg_read (n := 1) (r := List.replicate m 2 ++ [0]) (by omega) (by omega) (by rw [e, show zg 1 = 2 from rfl, venc_lt (by decide)]; rfl)
    rw [this, vl, show zg 1 = 2 from rfl, venc_lt (by decide)]; rfl
  · rw [show k - j = 0 by omega] at e
    have := lg_read (n := 0) (r := []) (by omega) (by omega) (by rw [e, show zg 0 = 0 from rfl, venc_lt (by decide)]; rfl)
    rw [this, vl_0]
theorem ch_ok {k j : Nat} (h : j ≤ k) : chE (rp k ++ lg 0) j 2 = 0 := by
  unfold chE
  rw [rp_at h]
  simp only
  split <;> simp
theorem chain {k : Nat} (hk : k < 30) : ∀ (m j D : Nat) (c : Int), m + j = k → 0 ≤ c → c + 2 * m ≤ 100 → (dcF (rp k ++ lg 0) D 2 j c).1 = if 2 * m + 3 ≤ D then 0 else 3
  | m, j, 0, c, hm, hc, hl => by rw [dcF]; rw [if_neg (by omega)]
  | m, j, 1, c, hm, hc, hl => by
    rw [dcF, if_neg (by omega), if_neg (by decide), if_pos rfl, dcF, if_neg (by omega)]
  | 0, j, D + 2, c, hm, hc, hl => by
    rw [dcF, if_neg (by omega), if_neg (by decide), if_pos rfl, dcF, if_neg (by omega), if_neg (by decide), if_neg (by decide), ch_ok (by omega), if_neg (by decide), rp_at (by omega), if_neg (by omega)]
    cases D with
    | zero => rw [dcF]; rfl
    | succ D => rw [dcF, if_neg (by omega), if_pos (by rfl), if_pos (by omega)]
  | m + 1, j, D + 2, c, hm, hc, hl => by
    rw [dcF, if_neg (by omega), if_neg (by decide), if_pos rfl, dcF, if_neg (by omega), if_neg (by decide), if_neg (by decide), ch_ok (by omega), if_neg (by decide), rp_at (by omega), if_pos (by omega)]
    show (dcF (rp k ++ lg 0) D 2 (j + 1) (c + 1 + 1)).1 = _
    rw [chain hk m (j + 1) D (c + 1 + 1) (by omega) (by omega) (by omega)]
    by_cases g : 2 * m + 3 ≤ D
    · rw [if_pos g, if_pos (by omega)]
    · rw [if_neg g, if_neg (by omega)]
/-! The law. -/
theorem nums : noNum P = true := by decide +kernel
noncomputable def call0 : CallF := callN P noExt (fun call n => regD P call noExt n) 1000000 .e 30
theorem begun_run : yes (call0 6 [] .e 0) = true := by decide +kernel
theorem begun_ok : CtOK P 6 cYes :=
  closed_ct (Sen.enters_of Go.Proofs.Try.func6 (by kernel_rfl)) fun w => by
    obtain ⟨h, nx, e⟩ := yes_ok begun_run
    exact closed mixed noExt_ok (noNum_ok nums) e w
noncomputable def isA (l : List AV) : Bool := match l with
  | [_, .int _ k, _] => match k with
    | .ofNat 0 => true
    | _ => false
  | _ => false
noncomputable def cDec : Ct := cDecA.or cDecC isA
theorem dec_ok : CtOK P 8 cDec := Ct.or_ok decA_ok decC_ok rfl rfl
noncomputable def lawK (n how : Int) : Int := if 0 < how % 4 then n % 3000 else n
noncomputable def cLaw21 : Ct where
  σ := Int × Int
  args := fun ⟨n, how⟩ => [.sv (.int .u32 n), .sv (.int .u8 how)]
  h := fun _ => []
  m := 1
  pre := fun ⟨n, how⟩ => 0 ≤ n ∧ n < 4294967296 ∧ 0 ≤ how ∧ how < 256
  r := fun _ => .sv (.bool true)
  h' := fun _ => []
  m' := 1
  g := fun _ => none
noncomputable def wLaw21 : cLaw21.σ → WayF := fun ⟨n, how⟩ => {
  ann := fun _ t _ => match slI t 6 with
    | some k => some { σ := Nat, pre := fun i => (i : Int) ≤ k, t := fun i => [(15, .sv (.string (rp i))), (16, .sv (.int .i64 (i : Int)))], h := fun _ => [], more := 1, μ := fun i => (k - i).toNat, keep := [5, 6] }
    | none => none
  cut := fun i t _ => match i with
    | 7 => some { σ := Int, pre := fun k => k = lawK n how, t := fun k => [(6, .sv (.int .i64 k))], h := fun _ => [], more := 0, μ := fun _ => 0, keep := [1, 5] }
    | 12 => match slI t 6 with
      | some k => some { σ := Unit, t := fun _ => [(7, .sv (.string (bsA k)))], h := fun _ => [], more := 4, μ := fun _ => 0, keep := [1, 5, 6] }
      | none => none
    | 20 => match slI t 6 with
      | some k => some { σ := Unit, t := fun _ => [(11, .sv (.string (bsB k)))], h := fun _ => [], more := 6, μ := fun _ => 0, keep := [1, 5, 6] }
      | none => none
    | _ => none
  pub := fun i k => match i, k with
    | 3, 4 => [25]
    | 3, 6 => [27]
    | 3, 8 => [29]
    | _, _ => [] }
end Go.Proofs.Ytcmgjpafiobkpaa.Wd
