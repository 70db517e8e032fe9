/-
  Rows of records that a call made itself. No condition.
-/
import Derived.Test.YtfcpicejifolmaaRs
namespace Go.Proofs.Ytfcpicejifolmaa
open Go.ChangeShapes Go.WideShapes Go.ChangeAt Go.RowKit
namespace Rv
set_option linter.unusedVariables false
set_option linter.unusedSimpArgs false
def rcells (r : Rc) : List Value := [.int .i64 (r.num : Int), .int .i64 (r.wire : Int), .int .u64 (r.n : Int), .string (bin r.s), .string (bin r.raw)]
def rvals (l : List Rc) : List Value := l.flatMap rcells
theorem rvals_len : ∀ (l : List Rc), (rvals l).length = l.length * 5
  | [] => rfl
  | r :: l => by
    have := rvals_len l
    simp only [rvals, List.flatMap_cons, List.length_append, List.length_cons] at *
    simp only [rcells, List.length_cons, List.length_nil]
    omega
theorem rvals_snoc (l : List Rc) (r : Rc) : rvals (l ++ [r]) = rvals l ++ rcells r := by
  simp [rvals, List.flatMap_append]
theorem rvals_get : ∀ (l : List Rc) (i j : Nat) (r : Rc), l[i]? = some r → j < 5 → (rvals l)[i * 5 + j]? = (rcells r)[j]?
  | [], i, j, r, h, hj => by simp at h
  | x :: l, 0, j, r, h, hj => by
    simp at h; subst h
    simp only [rvals, List.flatMap_cons, Nat.zero_mul, Nat.zero_add]
    rw [List.getElem?_append_left (by simp only [rcells, List.length_cons, List.length_nil]; omega)]
  | x :: l, i + 1, j, r, h, hj => by
    have := rvals_get l i j r (by simpa using h) hj
    simp only [rvals, List.flatMap_cons] at *
    rw [List.getElem?_append_right (by simp only [rcells, List.length_cons, List.length_nil]; omega)]
    simp only [rcells, List.length_cons, List.length_nil] at *
    rw [← this]
    congr 1; omega
def RRow (W : World) (base e : Nat) (v : Value) (l : List Rc) : Prop := W.ownsRow base e 5 v l.length (rvals l)
theorem RRow.nil (W : World) (base e : Nat) : RRow W base e (.slice none 0 0) [] := World.ownsRow_nil _ _ _ _
theorem RRow.snoc {W : World} {base e : Nat} {v : Value} {l : List Rc} {r : Rc} (h : W.ownsRow base e 5 v (l.length + 1) (rvals l ++ rcells r)) : RRow W base e v (l ++ [r]) := by
  unfold RRow
  rw [rvals_snoc, List.length_append]
  exact h
theorem RRow.len {W : World} {base e : Nat} {v : Value} {l : List Rc} (h : RRow W base e v l) : (v = .slice none 0 0 ∧ l = []) ∨ ∃ g cap, v = .slice (some ⟨g, 0, none⟩) l.length cap ∧ base ≤ g ∧ g < W.heap.size := by
  rcases h.2 with ⟨h1, h2⟩ | ⟨g, cap, cur, h1, h2, h3, _⟩
  · exact .inl ⟨h1, List.length_eq_zero_iff.1 h2⟩
  · exact .inr ⟨g, cap, h1, h2, (Array.getElem?_eq_some_iff.1 h3).1⟩
theorem RRow.cell {W : World} {base e g n cap : Nat} {l : List Rc} (h : RRow W base e (.slice (some ⟨g, 0, none⟩) n cap) l) (i j : Nat) {r : Rc} {u : Value} (hi : l[i]? = some r) (hj : (rcells r)[j]? = some u) : W.cell? ⟨g, i * 5 + j, none⟩ = some u := by
  have hj5 : j < 5 := by have := (List.getElem?_eq_some_iff.1 hj).1; simpa [rcells] using this
  have := World.ownsRow.cells h (g := g) rfl (i * 5 + j) u (by rw [rvals_get l i j r hi hj5, hj])
  rw [Addr.add_lit, Nat.zero_add] at this
  exact this
theorem RRow.marks {W : World} {base e g n cap : Nat} {l : List Rc} (h : RRow W base e (.slice (some ⟨g, 0, none⟩) n cap) l) (o : Nat) : W.frozen? ⟨g, o, none⟩ = false := by
  rcases h.2 with ⟨h1, h2⟩ | ⟨g', cap', cur, h1, h2, h3, _⟩
  · cases h1
  · cases h1
    simp [World.frozen?, h3]
theorem RRow.stays {W W' : World} {base e : Nat} {v : Value} {l : List Rc} (h : RRow W base e v l) (hb : ∀ k, v.ownBlock = some k → W'.heap[k]? = W.heap[k]?) : RRow W' base e v l := by
  refine ⟨h.1, ?_⟩
  rcases h.2 with h1 | ⟨g, cap, cur, h1, h2, h3, h4⟩
  · exact .inl h1
  · exact .inr ⟨g, cap, cur, h1, h2, by rw [hb g (by rw [h1]; rfl)]; exact h3, h4⟩
theorem RRow.old {W W' : World} {base e : Nat} {v : Value} {l : List Rc} (h : RRow W base e v l) {B : Nat} (hb : Below B W W') (hB : W.heap.size ≤ B) : RRow W' base e v l :=
  h.stays fun k hk => hb.block k (by have := (World.ownsRow.lt h k hk).2; omega)
theorem RRow.mono {W : World} {base base' e : Nat} {v : Value} {l : List Rc} (h : RRow W base e v l) (hb : base' ≤ base) : RRow W base' e v l := by
  refine ⟨h.1, ?_⟩
  rcases h.2 with h1 | ⟨g, cap, cur, h1, h2, h3⟩
  · exact .inl h1
  · exact .inr ⟨g, cap, cur, h1, by omega, h3⟩
end Rv
end Go.Proofs.Ytfcpicejifolmaa
