/-
  Rows of words that a call made itself; Lex of a number, a space and a semicolon: its contract. No condition but that the text is short.
-/
import Derived.Test.YthbedbjccmhcoaaWi
import Derived.Handy
namespace Go.Proofs.Ythbedbjccmhcoaa
open Go.ChangeShapes Go.WideShapes Go.ChangeAt Go.RowKit
namespace Jn
set_option linter.unusedVariables false
set_option linter.unusedSimpArgs false
structure Tk where
  k : Nat
  t : List UInt8
  n : Nat
  c : Nat
def tcells (r : Tk) : List Value := [.int .i64 (r.k : Int), .string (bin r.t), .int .u64 (r.n : Int), .int .i64 (r.c : Int)]
def tvals (l : List Tk) : List Value := l.flatMap tcells
theorem tvals_snoc (l : List Tk) (r : Tk) : tvals (l ++ [r]) = tvals l ++ tcells r := by simp [tvals, List.flatMap_append]
def TRow (W : World) (base e : Nat) (v : Value) (l : List Tk) : Prop := W.ownsRow base e 4 v l.length (tvals l)
theorem TRow.nil (W : World) (base e : Nat) : TRow W base e (.slice none 0 0) [] := World.ownsRow_nil _ _ _ _
theorem TRow.snoc {W : World} {base e : Nat} {v : Value} {l : List Tk} {r : Tk} (h : W.ownsRow base e 4 v (l.length + 1) (tvals l ++ tcells r)) : TRow W base e v (l ++ [r]) := by
  unfold TRow
  rw [tvals_snoc, List.length_append]
  exact h
theorem TRow.stays {W W' : World} {base e : Nat} {v : Value} {l : List Tk} (h : TRow W base e v l) (hb : ∀ k, v.ownBlock = some k → W'.heap[k]? = W.heap[k]?) : TRow W' base e v l := by
  refine ⟨h.1, ?_⟩
  rcases h.2 with h1 | ⟨g, cap, cur, h1, h2, h3, h4⟩
  · exact .inl h1
  · exact .inr ⟨g, cap, cur, h1, h2, by rw [hb g (by rw [h1]; rfl)]; exact h3, h4⟩
theorem TRow.bex {W W' : World} {b base e : Nat} {v : Value} {l : List Tk} (h : TRow W base e v l) (hb : Bex b W W') (hB : b < base) : TRow W' base e v l :=
  h.stays fun k hk => hb.block k (World.ownsRow.lt h k hk).2 (by have := (World.ownsRow.lt h k hk).1; omega)
theorem tk_src (W : World) (a b c d : Value) (e : TypeId) : ∀ (j : Nat) u, [a, b, c, d][j]? = some u → (W.alloc (.cells #[a, b, c, d] e)).cell? ((⟨W.heap.size, 0, none⟩ : Addr).add j) = some u := by
  intro j u hj
  rw [Addr.add_lit, Nat.zero_add]
  have hp : (W.alloc (.cells #[a, b, c, d] e)).heap[W.heap.size]? = some (.cells #[a, b, c, d] e (0, 0)) := by
    show (W.heap.push _)[W.heap.size]? = _
    simp
  simp only [World.cell?, hp, Option.isSome_none, Bool.false_eq_true, if_false, List.getElem?_toArray]
  exact hj
theorem tk_src2 (W : World) (o : Obj) (r : Tk) (e : TypeId) : ∀ (j : Nat) u, (tcells r)[j]? = some u → ((W.alloc o).alloc (.cells ⟨tcells r⟩ e)).cell? ((⟨W.heap.size + 1, 0, none⟩ : Addr).add j) = some u := by
  intro j u hj
  have h := tk_src (W.alloc o) _ _ _ _ e j u hj
  rw [show (W.alloc o).heap.size = W.heap.size + 1 by simp] at h
  exact h
theorem tk_mid (W : World) (r : Tk) (e : TypeId) (o : Obj) (j : Nat) {u : Value} (hj : (tcells r)[j]? = some u) : ((W.alloc (.cells ⟨tcells r⟩ e)).alloc o).cell? ⟨W.heap.size, j, none⟩ = some u := by
  have hp : ((W.alloc (.cells ⟨tcells r⟩ e)).alloc o).heap[W.heap.size]? = some (.cells ⟨tcells r⟩ e (0, 0)) := by
    show ((W.heap.push _).push _)[W.heap.size]? = _
    rw [Array.getElem?_push, if_neg (by simp), Array.getElem?_push, if_pos rfl]
  simp only [World.cell?, hp, Option.isSome_none, Bool.false_eq_true, if_false, List.getElem?_toArray]
  exact hj
theorem tcells_one (r : Tk) : ∀ u ∈ tcells r, u.oneCell' = true := by
  intro u hu
  simp only [tcells, List.mem_cons, List.not_mem_nil, or_false] at hu
  rcases hu with rfl | rfl | rfl | rfl <;> rfl
theorem info_tok : (Try.prog.info? 37).map (fun i => (i.zero, i.size, i.bytes)) = some (some (.agg #[.int .i64 0, .string ⟨#[]⟩, .int .u64 0, .int .i64 0]), 4, 40) := by kernel_rfl
/-- The three words, and where the cursor stands. -/
def tk3 (n q : Nat) : Nat → Tk
  | 0 => ⟨2, [], n, 0⟩
  | 1 => ⟨4, [59], 0, q + 1⟩
  | _ => ⟨5, [], 0, q + 2⟩
def ps3 (q : Nat) : Nat → Nat
  | 0 => 0
  | 1 => q
  | _ => q + 2
def sp3 : Nat → Nat
  | 1 => 1
  | _ => 0
abbrev tkV (r : Tk) : Value := .agg #[.int .i64 (r.k : Int), .string (bin r.t), .int .u64 (r.n : Int), .int .i64 (r.c : Int)]
theorem phase (s : ByteArray) (n q : Nat) (hs : s.size = q + 2) (hq : q ≤ 2000) (h1 : bt s q = 32) (h2 : bt s (q + 1) = 59) (h3 : 48 ≤ bt s 0) (h4 : bt s 0 ≤ 57) (N : NumAt s 0 q n) (m : Nat) (hm : m < 3) :
    (∀ (W : World) (b : Nat), Rd W b s (ps3 q m) → Calls Try.prog 15 #[.pointer (some ⟨b, 0, none⟩)] W fun e w' => e = .returned (.bool true) ∧ Rd w' b s (ps3 q m + sp3 m) ∧ Bex b W w') ∧
    (∀ (W : World) (b : Nat), Rd W b s (ps3 q m + sp3 m) → Calls Try.prog 16 #[.pointer (some ⟨b, 0, none⟩)] W fun e w' => e = .returned (.tuple #[tkV (tk3 n q m), .int .i64 0]) ∧ Rd w' b s (ps3 q (m + 1)) ∧ Bex b W w') := by
  match m, hm with
  | 0, _ =>
    refine ⟨fun W b hW => space_any s 0 0 b W hW (by omega) (fun m hm => by omega) (.inr ⟨by omega, h3⟩), fun W b hW => ?_⟩
    exact word_num s 0 q n b W hW (by omega) (by omega) h3 h4 N
  | 1, _ =>
    refine ⟨fun W b hW => space_any s q 1 b W hW (by omega) (fun m hm => by rw [show q + m = q by omega]; exact h1) (.inr ⟨by omega, by rw [h2]; decide⟩), fun W b hW => ?_⟩
    exact word_sign s (q + 1) b W hW (by omega) (by omega) h2
  | 2, _ =>
    refine ⟨fun W b hW => space_any s (q + 2) 0 b W hW (by omega) (fun m hm => by omega) (.inl (by omega)), fun W b hW => ?_⟩
    have := word_end s b W (by rw [hs]; exact hW) (by omega)
    rw [hs] at this
    exact this
end Jn
end Go.Proofs.Ythbedbjccmhcoaa
