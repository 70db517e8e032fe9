/-
  Rows of bytes that a call made itself, marked behind their end or not: a byte behind them. No condition but what the laws ask.
-/
import Derived.Test.YtfcpicejifolmaaRl
namespace Go.Proofs.Ytfcpicejifolmaa
open Go.ChangeShapes Go.WideShapes Go.ChangeAt Go.RowKit
namespace Rv
set_option linter.unusedVariables false
set_option linter.unusedSimpArgs false
/-- A slice of bytes of the call's own. -/
def BRow (W : World) (base e : Nat) (v : Value) (l : List UInt8) : Prop :=
  ∃ g cap cells fr, v = .slice (some ⟨g, 0, none⟩) l.length cap ∧ base ≤ g ∧ W.heap[g]? = some (.cells ⟨vals l ++ cells⟩ e fr) ∧ l.length + cells.length = cap ∧ ∀ o, o < cap → ¬ (fr.1 ≤ o ∧ o < fr.2)
theorem BRow.lt {W : World} {base e : Nat} {v : Value} {l : List UInt8} (h : BRow W base e v l) : ∀ k, v.ownBlock = some k → base ≤ k ∧ k < W.heap.size := by
  obtain ⟨g, cap, cells, fr, rfl, hb, hg, _⟩ := h
  intro k hk
  simp [Value.ownBlock] at hk; subst hk
  exact ⟨hb, (Array.getElem?_eq_some_iff.1 hg).1⟩
theorem BRow.alloc {W : World} {base e : Nat} {v : Value} {l : List UInt8} (h : BRow W base e v l) (o : Obj) : BRow (W.alloc o) base e v l := by
  obtain ⟨g, cap, cells, fr, h1, hb, hg, h2⟩ := h
  refine ⟨g, cap, cells, fr, h1, hb, ?_, h2⟩
  show (W.heap.push o)[g]? = _
  rw [Array.getElem?_push, if_neg (by have := (Array.getElem?_eq_some_iff.1 hg).1; omega)]; exact hg
theorem BRow.drew {W : World} {base e : Nat} {v : Value} {l : List UInt8} (h : BRow W base e v l) : BRow W.drew base e v l := h
theorem BRow.out {W : World} {base e : Nat} {v : Value} {l : List UInt8} (h : BRow W base e v l) : ∃ g cap, v = .slice (some ⟨g, 0, none⟩) l.length cap ∧ base ≤ g ∧ (∀ (i : Nat) (c : UInt8), l[i]? = some c → W.cell? ⟨g, i, none⟩ = some (.int .u8 (c.toNat : Int)) ∧ W.frozen? ⟨g, i, none⟩ = false) ∧ Lib.Bytes W g 0 (bin l) := by
  obtain ⟨g, cap, cells, fr, h1, hb, hg, h2, h3⟩ := h
  have key : ∀ (i : Nat) (c : UInt8), l[i]? = some c → W.cell? ⟨g, i, none⟩ = some (.int .u8 (c.toNat : Int)) ∧ W.frozen? ⟨g, i, none⟩ = false := by
    intro i c hi
    have hil := (List.getElem?_eq_some_iff.1 hi).1
    constructor
    · simp only [World.cell?, hg]
      have : (vals l)[i]? = some (.int .u8 (c.toNat : Int)) := by simp [vals, hi]
      simp only [Option.isSome_none, Bool.false_eq_true, if_false, List.getElem?_toArray]
      rw [List.getElem?_append_left (by rw [vals_len]; exact hil), this]
    · simp only [World.frozen?, hg]
      have := h3 i (by omega)
      simp only [Bool.and_eq_false_iff, decide_eq_false_iff_not]
      omega
  refine ⟨g, cap, h1, hb, key, fun i hi => ?_⟩
  rw [bin_size] at hi
  rw [Nat.zero_add, (key i l[i] (List.getElem?_eq_getElem hi)).1]
  have : (bin l)[i]'(by rw [bin_size]; exact hi) = l[i] := by
    show l.toArray[i]'(by simpa using hi) = l[i]
    simp
  rw [this]
theorem BRow.set {W : World} {base e g cap : Nat} {l : List UInt8} (h : BRow W base e (.slice (some ⟨g, 0, none⟩) l.length cap) l) (k : Nat) (c : UInt8) (hk : k < l.length) : BRow (W.setCell ⟨g, k, none⟩ (.int .u8 (c.toNat : Int))) base e (.slice (some ⟨g, 0, none⟩) l.length cap) (l.set k c) := by
  obtain ⟨g', cap', cells, fr, h1, hb, hg, h2, h3⟩ := h
  cases h1
  refine ⟨g, cap, cells, fr, by rw [List.length_set], hb, ?_, by rw [List.length_set]; exact h2, h3⟩
  simp only [World.setCell, Array.getElem?_modify, if_true, hg, Option.map_some]
  have : vals (l.set k c) = (vals l).set k (.int .u8 (c.toNat : Int)) := by simp [vals, List.map_set]
  simp only [Option.isSome_none, Bool.false_eq_true, if_false, List.setIfInBounds_toArray]
  rw [this, List.set_append_left _ _ (by rw [vals_len]; exact hk)]
theorem bytes_row (w : World) (e : TypeId) (l : List UInt8) {base : Nat} (hb : base ≤ w.heap.size) : BRow (Lib.bytesWorld w e (bin l)) base e (.slice (some ⟨w.heap.size, 0, none⟩) l.length (grownCap w l.length 0 e)) l := by
  have hc : Lib.bytesCells w e (bin l) = ⟨vals l ++ List.replicate (grownCap w l.length 0 e - l.length) (.int .u8 0)⟩ := by
    apply Array.toList_inj.1
    simp only [Lib.bytesCells, bin_size]
    simp [bin, vals]
  have hge := Eng.grownCap_ge w l.length 0 e
  have hsz : (Lib.bytesCells w e (bin l)).size = grownCap w l.length 0 e := by
    rw [hc]; simp [vals_len]; omega
  refine ⟨w.heap.size, grownCap w l.length 0 e, List.replicate (grownCap w l.length 0 e - l.length) (.int .u8 0), ((Lib.bytesCells w e (bin l)).size, (Lib.bytesCells w e (bin l)).size + 1), rfl, hb, ?_, by simp; omega, ?_⟩
  · rw [Eng.bytesWorld_heap, Array.getElem?_push, if_pos rfl, ← hc]
  · intro o ho; rw [hsz]; omega
/-- A byte behind the row. -/
theorem run_append_row {P : Program} {W : World} {base t e : Nat} {i : TypeInfo} (ht : P.underlying t = some (.slice e)) (hi : P.info? e = some i) (hz : i.zero = some (.int .u8 0)) (hsize : i.size = 1) (hby : i.bytes = 1)
    {v : Value} {l : List UInt8} (hrow : BRow W base e v l) (hlen : l.length ≤ 1000) (hbase : base ≤ W.heap.size) (ty : TypeId) (c : UInt8) (ad : Addr) (cap : Nat) (hx : W.cell? ad = some (.int .u8 (c.toNat : Int))) :
    ∃ v' w', (Builtin.append_ #[t, t] ty #[v, .slice (some ad) 1 cap]).run P W = .ok v' w' ∧ BRow w' base e v' (l ++ [c]) ∧ W.grownBy w' v.ownBlock := by
  have hnz : Eng.noZeros P [t, t] = true := by simp only [Eng.noZeros, ht]
  have hlenOf : ∀ w : World, (Builtin.lenOf (.slice (some ad) 1 cap)).run P w = .ok 1 w := fun w => rfl
  have hfirst : ∀ w' : World, w'.heap = W.heap → (Builtin.firstCells i.size 1 (.slice (some ad) 1 cap)).run P w' = .ok ⟨[.int .u8 (c.toNat : Int)]⟩ w' := fun w' hw => by
    rw [hsize]
    show (loadCells ad 1).run P w' = _
    have := run_loadCells_list (P := P) w' ad [.int .u8 (c.toNat : Int)] fun j u hj => by
      cases j with
      | zero =>
        simp at hj; subst hj
        rw [show ad.add 0 = ad from by simp [Addr.add]]
        rw [← hx]; exact World.cell?_of_block (by rw [hw])
      | succ j => simp at hj
    exact this
  obtain ⟨g, cp, cells, fr, rfl, hb, hg, h2, h3⟩ := hrow
  have hgs := (Array.getElem?_eq_some_iff.1 hg).1
  by_cases hroom : l.length + 1 ≤ cp
  · have hr := Eng.append_room (P := P) (w := W) (ty := ty) (base := some ⟨g, 0, none⟩) (sLen := l.length) (sCap := cp) ht hnz hi (hlenOf W) (hfirst W rfl) hroom
    simp only [hsize, Nat.mul_one, Eng.add_none, Nat.zero_add] at hr
    obtain ⟨w', k1, k2, k3, k4, k5⟩ := Eng.store_cells (P := P) (b := g) (o := l.length) (e := e) (fr := fr) [.int .u8 (c.toNat : Int)] 0 (vals l ++ cells) W hg (by simp [vals_len]; omega) (fun j a1 a2 => h3 j (by simp at a2; omega)) (one_int _ _)
    rw [k1] at hr
    refine ⟨_, w', hr, ⟨g, cp, cells.drop 1, fr, by simp, hb, ?_, by simp; omega, h3⟩, ⟨k5.os, k5.tape, k5.output, by omega, fun k hk hne => k3 k fun e1 => hne (by rw [e1]; rfl)⟩⟩
    rw [k2, Nat.add_zero, Eng.spl_eq _ _ _ (by simp [vals_len]; omega)]
    congr 3
    have hv : (vals l).length = l.length := vals_len l
    rw [← hv, List.take_left, List.drop_append]
    simp [vals]
  · have ho : ∀ w' : World, w'.heap = W.heap → (Builtin.firstCells i.size l.length (.slice (some ⟨g, 0, none⟩) l.length cp)).run P w' = .ok ⟨vals l⟩ w' := fun w' hw => by
      rw [hsize]
      show (loadCells ⟨g, 0, none⟩ (l.length * 1)).run P w' = _
      have := Eng.load_cells (P := P) (w := w') (b := g) (o := 0) (c := ⟨vals l ++ cells⟩) (e := e) (fr := fr) (by rw [hw]; exact hg) (vals l) (fun j u hj => by
        simp only [List.getElem?_toArray, Nat.zero_add]
        rw [List.getElem?_append_left (List.getElem?_eq_some_iff.1 hj).1]; exact hj)
      rw [vals_len, ← Nat.mul_one l.length] at this
      exact this
    have hr := Eng.append_grow (P := P) (w := W) (ty := ty) (base := some ⟨g, 0, none⟩) (sLen := l.length) (sCap := cp) (n := 1) (us := [.int .u8 (c.toNat : Int)]) (os := vals l) ht hnz hi hz (hlenOf W) hfirst ho hroom (by omega) (by rw [hby]; omega)
    have hcap := Eng.grownCap_ge W (l.length + 1) cp e
    have hzs : (Builtin.zeroCells (Value.int .u8 0).cells (grownCap W (l.length + 1) cp e - (l.length + 1))).toList.length = grownCap W (l.length + 1) cp e - (l.length + 1) := by
      rw [Array.length_toList, size_zeroCells]; show _ * 1 = _; omega
    refine ⟨_, _, hr, ⟨W.heap.size, grownCap W (l.length + 1) cp e, (Builtin.zeroCells (Value.int .u8 0).cells (grownCap W (l.length + 1) cp e - (l.length + 1))).toList, (0, 0), by simp, hbase, ?_, by simp only [List.length_append, List.length_cons, List.length_nil, hzs]; omega, fun o _ => by simp⟩, ⟨rfl, rfl, rfl, ?_, fun k hk _ => ?_⟩⟩
    · show (W.heap.push _)[W.heap.size]? = _
      rw [Array.getElem?_push, if_pos rfl]
      congr 2
      apply Array.toList_inj.1
      simp [vals]
    · show _ ≤ (W.heap.push _).size
      simp
    · show (W.heap.push _)[k]? = _
      rw [Array.getElem?_push, if_neg (by omega)]
theorem wpList_append_row {P : Program} {w : World} {ops : Array Oper} {rest : List Oper} {o : Oper} {a : Act} {Q : Exit → Act → World → Prop} (hgd : o.guard = none) (s x : Operand) (t : TypeId)
    (ho : o.op = .call { callee := .builtin .append, args := #[s, x], argTypes := #[t, t] })
    (base e : Nat) (i : TypeInfo) (ht : P.underlying t = some (.slice e)) (hi : P.info? e = some i) (hz : i.zero = some (.int .u8 0)) (hsize : i.size = 1) (hby : i.bytes = 1)
    (v : Value) (l : List UInt8) (hs : a.eval s = v) (hrow : BRow w base e v l) (hlen : l.length ≤ 1000) (hbase : base ≤ w.heap.size) (c : UInt8) (ad : Addr) (cap : Nat) (hx : a.eval x = .slice (some ad) 1 cap) (hc : w.cell? ad = some (.int .u8 (c.toNat : Int)))
    (h : ∀ v' w', BRow w' base e v' (l ++ [c]) → w.grownBy w' v.ownBlock → wpList P ops Q rest (a.put o.dst v') w') : wpList P ops Q (o :: rest) a w :=
  wpList_plain hgd fun _ hK => by
    obtain ⟨v', w', hr, h2, h3⟩ := run_append_row (P := P) (t := t) ht hi hz hsize hby hrow hlen hbase o.type c ad cap hc
    unfold Oper.wp execOp
    simp only [ho, resolve, invoke, builtin, Sem.run_bind, Sem.run_pure, Result.andThen_ok, List.map_toArray, List.map_cons, List.map_nil, hs, hx, hr]
    exact hK _ _ (h v' w' h2 h3)
end Rv
end Go.Proofs.Ytfcpicejifolmaa
