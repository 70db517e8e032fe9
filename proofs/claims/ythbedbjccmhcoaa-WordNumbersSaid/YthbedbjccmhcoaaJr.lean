/-
  A reader over a text, in a block of its own, and worlds that part in that block alone. No condition.
-/
import Derived.Test.YthbedbjccmhcoaaJl
namespace Go.Proofs.Ythbedbjccmhcoaa
open Go.ChangeShapes Go.WideShapes Go.ChangeAt Go.RowKit
namespace Jn
set_option linter.unusedVariables false
set_option linter.unusedSimpArgs false
/-- All that was there stands as it was, but for one block. -/
structure Bex (b : Nat) (w w' : World) : Prop where
  os : w'.os = w.os
  tape : w'.tape = w.tape
  output : w'.output = w.output
  size : w.heap.size ≤ w'.heap.size
  block : ∀ k, k < w.heap.size → k ≠ b → w'.heap[k]? = w.heap[k]?
theorem Bex.refl (b : Nat) (w : World) : Bex b w w := ⟨rfl, rfl, rfl, Nat.le_refl _, fun _ _ _ => rfl⟩
theorem Bex.trans {b : Nat} {x y z : World} (h : Bex b x y) (k : Bex b y z) : Bex b x z :=
  ⟨k.os.trans h.os, k.tape.trans h.tape, k.output.trans h.output, Nat.le_trans h.size k.size, fun i hi hb => (k.block i (Nat.lt_of_lt_of_le hi h.size) hb).trans (h.block i hi hb)⟩
theorem Bex.set (b : Nat) (w : World) (o : Nat) (u : Value) : Bex b w (w.setCell ⟨b, o, none⟩ u) :=
  ⟨rfl, rfl, rfl, by simp, fun k _ hk => Below.heap_setCell w ⟨b, o, none⟩ u k hk⟩
theorem Bex.of_below {b : Nat} {w w' : World} (h : Below w.heap.size w w') : Bex b w w' := ⟨h.os, h.tape, h.output, h.size, fun k hk _ => h.block k hk⟩
theorem Bex.below {b B : Nat} {w w' : World} (h : Bex b w w') (hB : B ≤ b) (hw : B ≤ w.heap.size) : Below B w w' := ⟨h.os, h.tape, h.output, h.size, fun k hk => h.block k (by omega) (by omega)⟩
/-- The reader: its text, and where it stands. -/
structure Rd (w : World) (b : Nat) (s : ByteArray) (i : Nat) : Prop where
  txt : w.cell? ⟨b, 0, none⟩ = some (.string s)
  pos : w.cell? ⟨b, 1, none⟩ = some (.int .i64 (i : Int))
  frz : w.frozen? ⟨b, 1, none⟩ = false
  lt : b < w.heap.size
theorem Rd.set {w : World} {b : Nat} {s : ByteArray} {i : Nat} (h : Rd w b s i) (j : Nat) : Rd (w.setCell ⟨b, 1, none⟩ (.int .i64 (j : Int))) b s j := by
  refine ⟨?_, ?_, ?_, by simpa using h.lt⟩
  · rw [World.cell?_setCell_other (w := w) (a := ⟨b, 1, none⟩) (b := ⟨b, 0, none⟩) _ (by intro x; injection x with _ x; cases x), h.txt]
  · rw [World.cell?_setCell_same' _ _ _ (by rw [h.pos]; rfl)]
  · rw [World.frozen?_setCell]; exact h.frz
theorem Rd.old {w w' : World} {b : Nat} {s : ByteArray} {i : Nat} (h : Rd w b s i) (hb : Below w.heap.size w w') : Rd w' b s i :=
  ⟨(hb.cell (p := ⟨b, 0, none⟩) h.lt).trans h.txt, (hb.cell (p := ⟨b, 1, none⟩) h.lt).trans h.pos, (hb.frozen (p := ⟨b, 1, none⟩) h.lt).trans h.frz, Nat.lt_of_lt_of_le h.lt hb.size⟩
/-- Is a byte space? -/
def isSp (c : UInt8) : Bool := c == 9 || c == 10 || c == 13 || c == 32
/-- How many spaces stand in front. -/
def sp : List UInt8 → Nat
  | [] => 0
  | c :: l => if isSp c then sp l + 1 else 0
theorem sp_le : ∀ l : List UInt8, sp l ≤ l.length
  | [] => Nat.le_refl _
  | c :: l => by simp only [sp]; have := sp_le l; split <;> simp <;> omega
theorem sp_drop : ∀ (l : List UInt8) (k : Nat), k ≤ sp l → sp (l.drop k) = sp l - k
  | [], k, h => by simp [sp]
  | c :: l, 0, h => rfl
  | c :: l, k + 1, h => by
    simp only [sp] at h ⊢
    split at h
    · rename_i hc
      rw [if_pos hc, List.drop_succ_cons, sp_drop l k (by omega)]; omega
    · omega
end Jn
end Go.Proofs.Ythbedbjccmhcoaa
