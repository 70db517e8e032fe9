/-
  Pure functions of bytes, run at every byte by the machine: is it a letter, is it a digit, which digit. No condition.
-/
import Derived.Test.YthbedbjccmhcoaaEng9b
import Derived.Test.YthbedbjccmhcoaaProg
namespace Go.Proofs.Ythbedbjccmhcoaa
open Go.RowKit
namespace Wb
open Eng
set_option linter.unusedVariables false
set_option maxRecDepth 1000000
set_option maxHeartbeats 0
theorem mixed : Try.prog.follows .mixedOrders = true := by decide +kernel
theorem nums : noNum Try.prog = true := by decide +kernel
noncomputable def exts : ExtF := extT []
theorem exts_ok : ExtOK Try.prog exts := extT_ok fun f k h => by simp at h
noncomputable def idw : CallF → CallF := fun c => c
noncomputable def run : CallF := callH Try.prog exts .e idw 20
/-- A run from nothing, of plain arguments, to a plain answer. -/
theorem closed_plain {call : CallF} (hc : CallOK .e Try.prog call) {f : Nat} {args : List AV} {vs : List Value} {r : AV} {u : Value} {h : T AO} {nx : Nat} (hb : hasB Try.prog f = true) (e : call f args .e 1 = some (r, h, nx)) (w : World)
    (hv : VRs (numsI []) args vs) (hr : ∀ I z, VR I r z → z = u) :
    Calls Try.prog f ⟨vs⟩ w fun e w' => e = .returned u ∧ Below w.heap.size w w' := by
  obtain ⟨_, _, k⟩ := hc.enter hb e
  refine (k (fun s b => match s with | true => b < w.heap.size | false => False) (numsI []) w vs hv ⟨fun id o b t h1 h2 => (by rw [T.get_e] at h1; cases h1), (fun id id' o o' b t t' h1 => (by rw [T.get_e] at h1; cases h1)), fun id o b t h1 h2 h3 => (by rw [T.get_e] at h1; cases h1)⟩ (fun b h => h) (fun n a h => (by rw [T.get_e] at h; cases h)) (fun b h => h.elim) (fun i h1 _ => ?_)).mono fun e' w' hh => ?_
  · cases hI : numsI [] i with
    | none => rfl
    | some x => exact absurd (numsI_low hI) (by simp; omega)
  · obtain ⟨z, I', rfl, h1, h2⟩ := hh
    rw [hr _ _ h1]
    exact ⟨rfl, h2.same.os, h2.same.tape, h2.same.output, h2.size, fun k hk => h2.fr k hk⟩
def letB (b : Nat) : Bool := b == 95 || (65 ≤ b && b ≤ 90) || (97 ≤ b && b ≤ 122)
def digB (b : Nat) : Bool := 48 ≤ b && b ≤ 57
/-- The digit that a byte is. -/
def vl (b : Nat) : Nat := if 48 ≤ b && b ≤ 57 then b - 48 else if 65 ≤ b && b ≤ 70 then b - 55 else if 97 ≤ b && b ≤ 102 then b - 87 else 16
def isB (b : Bool) : Option (AV × T AO × Nat) → Bool
  | some (.bool c, _, _) => c == b
  | _ => false
theorem isB_ok {b : Bool} : ∀ {r : Option (AV × T AO × Nat)}, isB b r = true → ∃ h nx, r = some (.bool b, h, nx)
  | some (.bool c, h, nx), e => by
    have : c = b := by simpa [isB] using e
    subst this; exact ⟨h, nx, rfl⟩
def isV (n : Nat) (b : Bool) : Option (AV × T AO × Nat) → Bool
  | some (.tup [.int .u64 m, .bool c], _, _) => m == (n : Int) && c == b
  | _ => false
theorem isV_ok {n : Nat} {b : Bool} {r : Option (AV × T AO × Nat)} (e : isV n b r = true) : ∃ h nx, r = some (.tup [.int .u64 (n : Int), .bool b], h, nx) := by
  unfold isV at e
  split at e
  · simp only [Bool.and_eq_true, beq_iff_eq] at e
    obtain ⟨rfl, rfl⟩ := e
    exact ⟨_, _, rfl⟩
  · cases e
theorem run_ok : CallOK .e Try.prog run := callH_ok mixed exts_ok (noNum_ok nums) idw (fun _ h => h) 20
theorem let_run : (List.range 256).all (fun b => isB (letB b) (run 25 [.int .u8 (b : Int)] .e 1)) = true := by decide +kernel
theorem dig_run : (List.range 256).all (fun b => isB (digB b) (run 27 [.int .u8 (b : Int)] .e 1)) = true := by decide +kernel
theorem val_run8 : (List.range 256).all (fun b => isV (vl b) (decide (vl b < 8)) (run 45 [.int .u8 (b : Int), .int .u64 8] .e 1)) = true := by decide +kernel
theorem val_run10 : (List.range 256).all (fun b => isV (vl b) (decide (vl b < 10)) (run 45 [.int .u8 (b : Int), .int .u64 10] .e 1)) = true := by decide +kernel
theorem val_run16 : (List.range 256).all (fun b => isV (vl b) (decide (vl b < 16)) (run 45 [.int .u8 (b : Int), .int .u64 16] .e 1)) = true := by decide +kernel
theorem letter_any (b : Nat) (hb : b < 256) (w : World) : Calls Try.prog 25 #[.int .u8 (b : Int)] w fun e w' => e = .returned (.bool (letB b)) ∧ Below w.heap.size w w' := by
  obtain ⟨h, nx, e⟩ := isB_ok (List.all_eq_true.1 let_run b (by simpa using hb))
  exact closed_plain run_ok (by kernel_rfl) e w (.cons (.int _ _) .nil) (fun I z hz => by cases hz; rfl)
theorem digit_any (b : Nat) (hb : b < 256) (w : World) : Calls Try.prog 27 #[.int .u8 (b : Int)] w fun e w' => e = .returned (.bool (digB b)) ∧ Below w.heap.size w w' := by
  obtain ⟨h, nx, e⟩ := isB_ok (List.all_eq_true.1 dig_run b (by simpa using hb))
  exact closed_plain run_ok (by kernel_rfl) e w (.cons (.int _ _) .nil) (fun I z hz => by cases hz; rfl)
theorem value_any (b B : Nat) (hb : b < 256) (hB : B = 8 ∨ B = 10 ∨ B = 16) (w : World) : Calls Try.prog 45 #[.int .u8 (b : Int), .int .u64 (B : Int)] w fun e w' => e = .returned (.tuple #[.int .u64 (vl b : Nat), .bool (decide (vl b < B))]) ∧ Below w.heap.size w w' := by
  rcases hB with rfl | rfl | rfl
  · obtain ⟨h, nx, e⟩ := isV_ok (List.all_eq_true.1 val_run8 b (by simpa using hb))
    exact closed_plain run_ok (by kernel_rfl) e w (.cons (.int _ _) (.cons (.int _ _) .nil)) (fun I z hz => by cases hz with | tup h => cases h with | cons a t => cases a; cases t with | cons a t => cases a; cases t; rfl)
  · obtain ⟨h, nx, e⟩ := isV_ok (List.all_eq_true.1 val_run10 b (by simpa using hb))
    exact closed_plain run_ok (by kernel_rfl) e w (.cons (.int _ _) (.cons (.int _ _) .nil)) (fun I z hz => by cases hz with | tup h => cases h with | cons a t => cases a; cases t with | cons a t => cases a; cases t; rfl)
  · obtain ⟨h, nx, e⟩ := isV_ok (List.all_eq_true.1 val_run16 b (by simpa using hb))
    exact closed_plain run_ok (by kernel_rfl) e w (.cons (.int _ _) (.cons (.int _ _) .nil)) (fun I z hz => by cases hz with | tup h => cases h with | cons a t => cases a; cases t with | cons a t => cases a; cases t; rfl)
end Wb
end Go.Proofs.Ythbedbjccmhcoaa
