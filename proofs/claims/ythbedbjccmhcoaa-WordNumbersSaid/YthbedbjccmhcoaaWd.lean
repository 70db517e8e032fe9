/-
  The cursor's number: its contract, where digits of the base stand, then a space. No condition but that the number is one of 64 bits and the text is short.
-/
import Derived.Test.YthbedbjccmhcoaaWc
namespace Go.Proofs.Ythbedbjccmhcoaa
open Go.ChangeShapes Go.WideShapes Go.ChangeAt Go.RowKit
namespace Jn
set_option linter.unusedVariables false
set_option linter.unusedSimpArgs false
/-- A word in memory. -/
structure Tok (w : World) (g : Nat) (k : Int) (t : ByteArray) (n c : Int) : Prop where
  c0 : w.cell? ⟨g, 0, none⟩ = some (.int .i64 k)
  c1 : w.cell? ⟨g, 1, none⟩ = some (.string t)
  c2 : w.cell? ⟨g, 2, none⟩ = some (.int .u64 n)
  c3 : w.cell? ⟨g, 3, none⟩ = some (.int .i64 c)
  f0 : w.frozen? ⟨g, 0, none⟩ = false
  f1 : w.frozen? ⟨g, 1, none⟩ = false
  f2 : w.frozen? ⟨g, 2, none⟩ = false
  f3 : w.frozen? ⟨g, 3, none⟩ = false
theorem Tok.new (w : World) (k : Int) (t : ByteArray) (n c : Int) (e : TypeId) : Tok (w.alloc (.cells #[.int .i64 k, .string t, .int .u64 n, .int .i64 c] e)) w.heap.size k t n c := by
  have hp : (w.alloc (.cells #[.int .i64 k, .string t, .int .u64 n, .int .i64 c] e)).heap[w.heap.size]? = some (.cells #[.int .i64 k, .string t, .int .u64 n, .int .i64 c] e (0, 0)) := by
    show (w.heap.push _)[w.heap.size]? = _
    simp
  constructor <;> first | (simp only [World.cell?, hp]; rfl) | (simp only [World.frozen?, hp]; simp)
theorem Tok.bex {w w' : World} {g b : Nat} {k : Int} {t : ByteArray} {n c : Int} (h : Tok w g k t n c) (hb : Bex b w w') (hg : g ≠ b) (hl : g < w.heap.size) : Tok w' g k t n c := by
  have e : w'.heap[g]? = w.heap[g]? := hb.block g hl hg
  have ec : ∀ o, w'.cell? ⟨g, o, none⟩ = w.cell? ⟨g, o, none⟩ := fun o => World.cell?_of_block (w := w) e
  have ef : ∀ o, w'.frozen? ⟨g, o, none⟩ = w.frozen? ⟨g, o, none⟩ := fun o => World.frozen?_of_block (w := w) e
  exact ⟨(ec 0).trans h.c0, (ec 1).trans h.c1, (ec 2).trans h.c2, (ec 3).trans h.c3, (ef 0).trans h.f0, (ef 1).trans h.f1, (ef 2).trans h.f2, (ef 3).trans h.f3⟩
theorem setc {w : World} {g o : Nat} {v : Value} (h : w.cell? ⟨g, o, none⟩ = some v) (o' : Nat) (u : Value) : (w.setCell ⟨g, o', none⟩ u).cell? ⟨g, o, none⟩ = some (if o = o' then u else v) := by
  by_cases e : o = o'
  · subst e
    rw [if_pos rfl, World.cell?_setCell_same' _ _ _ (by rw [h]; rfl)]
  · rw [if_neg e, World.cell?_setCell_other (w := w) (a := ⟨g, o', none⟩) (b := ⟨g, o, none⟩) _ (by intro x; injection x with _ x; exact e x.symm), h]
theorem Tok.own4 {w : World} {g : Nat} {k : Int} {t : ByteArray} {n c : Int} (h : Tok w g k t n c) (k' : Int) (t' : ByteArray) (n' c' : Int) : (w.setCell ⟨g, 0, none⟩ (.int .i64 k')).cell? ⟨g, 0, none⟩ = some (.int .i64 k') ∧ ((w.setCell ⟨g, 0, none⟩ (.int .i64 k')).setCell ⟨g, 1, none⟩ (.string t')).cell? ⟨g, 1, none⟩ = some (.string t') ∧ (((w.setCell ⟨g, 0, none⟩ (.int .i64 k')).setCell ⟨g, 1, none⟩ (.string t')).setCell ⟨g, 2, none⟩ (.int .u64 n')).cell? ⟨g, 2, none⟩ = some (.int .u64 n') ∧ ((((w.setCell ⟨g, 0, none⟩ (.int .i64 k')).setCell ⟨g, 1, none⟩ (.string t')).setCell ⟨g, 2, none⟩ (.int .u64 n')).setCell ⟨g, 3, none⟩ (.int .i64 c')).cell? ⟨g, 3, none⟩ = some (.int .i64 c') :=
  ⟨setc h.c0 0 _, setc (setc h.c1 0 _) 1 _, setc (setc (setc h.c2 0 _) 1 _) 2 _, setc (setc (setc (setc h.c3 0 _) 1 _) 2 _) 3 _⟩
/-- The number that digits in front are. -/
def nv (s : ByteArray) (B j : Nat) : Nat → Nat
  | 0 => 0
  | m + 1 => nv s B j m * B + vlb s (j + m)
where vlb (s : ByteArray) (j : Nat) : Nat := Wb.vl (bt s j)
theorem nv_le (s : ByteArray) (B j : Nat) (hB : 1 ≤ B) : ∀ (d m : Nat), nv s B j m ≤ nv s B j (m + d)
  | 0, m => Nat.le_refl _
  | d + 1, m => by
    have := nv_le s B j hB d m
    rw [show m + (d + 1) = m + d + 1 by omega]
    simp only [nv]
    have h2 : nv s B j (m + d) ≤ nv s B j (m + d) * B := Nat.le_mul_of_pos_right _ hB
    omega
abbrev tok (k n c : Int) : Value := .agg #[.int .i64 k, .string ⟨#[]⟩, .int .u64 n, .int .i64 c]
end Jn
end Go.Proofs.Ythbedbjccmhcoaa
