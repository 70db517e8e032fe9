/-
  Rows of bytes that a call made itself: bytes behind them, a byte turned, their text. No condition but what the laws ask.
-/
import Derived.Test.YthbedbjccmhcoaaRows
import Derived.Test.YthbedbjccmhcoaaEng3
import Derived.WalkKit
import Derived.ProofKit
import Derived.OpenShut
import Derived.ShutString
import Derived.WalkLawsBesides
import Derived.WalkSpells
import Derived.Outline
import Derived.Laws.BitsAllLaws
import Derived.Laws.Bits64
import Derived.Lib.Hide
import Derived.Lib.SlBytesRow
import Derived.Laws.AppendOwn
namespace Go.Proofs.Ythbedbjccmhcoaa
open Go.ChangeShapes Go.WideShapes Go.ChangeAt Go.RowKit
namespace Mem
set_option linter.unusedVariables false
set_option linter.unusedSimpArgs false
theorem ret_int {k : IntKind} {a b : Int} (h : a = b) : Ending.returned (.int k a) = .returned (.int k b) := by rw [h]
theorem ret_bool {a b : Bool} (h : a = b) : Ending.returned (.bool a) = .returned (.bool b) := by rw [h]
theorem info8 : (Try.prog.info? 5).map (fun i => (i.zero, i.size, i.bytes)) = some (some (.int .u8 0), 1, 1) := by kernel_rfl
theorem info_parts {i : Option TypeInfo} {z : Option Value} {n b : Nat} (h : i.map (fun i => (i.zero, i.size, i.bytes)) = some (z, n, b)) : ∃ i0, i = some i0 ∧ i0.zero = z ∧ i0.size = n ∧ i0.bytes = b := by
  cases i with
  | none => cases h
  | some i0 => simp at h; exact ⟨i0, rfl, h.1, h.2.1, h.2.2⟩
def vals (l : List UInt8) : List Value := l.map fun b => .int .u8 (b.toNat : Int)
theorem vals_len (l : List UInt8) : (vals l).length = l.length := by simp [vals]
theorem vals_append (l m : List UInt8) : vals (l ++ m) = vals l ++ vals m := by simp [vals]
theorem vals_one (l : List UInt8) : ∀ u ∈ vals l, u.oneCell' = true := by
  intro u hu
  obtain ⟨b, _, rfl⟩ := List.mem_map.1 hu
  rfl
def bin (l : List UInt8) : ByteArray := ⟨l.toArray⟩
theorem bin_size (l : List UInt8) : (bin l).size = l.length := by simp [bin, ByteArray.size]
theorem bin_list (l : List UInt8) : (bin l).data.toList = l := by simp [bin]
theorem bin_of (s : ByteArray) : bin s.data.toList = s := by
  apply ByteArray.ext; simp [bin]
theorem ofNat_lt {n : Nat} (h : n < 256) : (UInt8.ofNat n).toNat = n := by rw [UInt8.toNat_ofNat']; omega
theorem one_src (W : World) (x : Value) (e : TypeId) : (W.alloc (.cells #[x] e)).cell? ⟨W.heap.size, 0, none⟩ = some x := by
  have hp : (W.alloc (.cells #[x] e)).heap[W.heap.size]? = some (.cells #[x] e (0, 0)) := by
    show (W.heap.push _)[W.heap.size]? = _
    simp
  simp only [World.cell?, hp]; rfl
/-- What the cells of a literal row are. -/
theorem lit_src (W : World) (xs : List Value) (e : TypeId) (j : Nat) (u : Value) (hj : xs[j]? = some u) : (W.alloc (.cells ⟨xs⟩ e)).cell? ⟨W.heap.size, j, none⟩ = some u := by
  have hp : (W.alloc (.cells ⟨xs⟩ e)).heap[W.heap.size]? = some (.cells ⟨xs⟩ e (0, 0)) := by
    show (W.heap.push _)[W.heap.size]? = _
    simp
  simp only [World.cell?, hp, Option.isSome_none, Bool.false_eq_true, if_false, List.getElem?_toArray]
  exact hj
/-- Bytes that lie at the head of a block. -/
def Holds (W : World) (g : Nat) (l : List UInt8) : Prop :=
  (∀ (j : Nat) (c : UInt8), l[j]? = some c → W.cell? ⟨g, j, none⟩ = some (.int .u8 (c.toNat : Int)) ∧ W.frozen? ⟨g, j, none⟩ = false) ∧ g < W.heap.size
theorem Holds.bytes {W : World} {g : Nat} {l : List UInt8} (h : Holds W g l) : Lib.Bytes W g 0 (bin l) := fun i hi => by
  rw [bin_size] at hi
  rw [Nat.zero_add, (h.1 i l[i] (List.getElem?_eq_getElem hi)).1]
  have : (bin l)[i]'(by rw [bin_size]; exact hi) = l[i] := by
    show l.toArray[i]'(by simpa using hi) = l[i]
    simp
  rw [this]
theorem Holds.old {W W' : World} {g : Nat} {l : List UInt8} (h : Holds W g l) {B : Nat} (hb : Below B W W') (hg : g < B) : Holds W' g l :=
  ⟨fun j c hj => ⟨(hb.cell (p := ⟨g, j, none⟩) hg).trans (h.1 j c hj).1, (hb.frozen (p := ⟨g, j, none⟩) hg).trans (h.1 j c hj).2⟩, Nat.lt_of_lt_of_le h.2 hb.size⟩
theorem Holds.set {W : World} {g : Nat} {l : List UInt8} (h : Holds W g l) (k : Nat) (c : UInt8) (hk : k < l.length) : Holds (W.setCell ⟨g, k, none⟩ (.int .u8 (c.toNat : Int))) g (l.set k c) := by
  refine ⟨fun j d hj => ?_, by simpa using h.2⟩
  rw [World.frozen?_setCell]
  by_cases e : k = j
  · subst e
    rw [List.getElem?_set_self hk] at hj
    cases hj
    refine ⟨?_, (h.1 k _ (List.getElem?_eq_getElem hk)).2⟩
    rw [World.cell?_setCell_same' _ _ _ (by rw [(h.1 k _ (List.getElem?_eq_getElem hk)).1]; rfl)]
  · rw [List.getElem?_set_ne e] at hj
    refine ⟨?_, (h.1 j d hj).2⟩
    rw [World.cell?_setCell_other (w := W) (a := ⟨g, k, none⟩) (b := ⟨g, j, none⟩) _ (by intro x; exact e (by injection x)), (h.1 j d hj).1]
theorem Holds.lit (W : World) (l : List UInt8) (e : TypeId) : Holds (W.alloc (.cells ⟨vals l⟩ e)) W.heap.size l := by
  refine ⟨fun j c hj => ⟨lit_src W _ e j _ (by simp [vals, hj]), ?_⟩, ?_⟩
  · have hp : (W.alloc (.cells ⟨vals l⟩ e)).heap[W.heap.size]? = some (.cells ⟨vals l⟩ e (0, 0)) := by
      show (W.heap.push _)[W.heap.size]? = _
      simp
    simp only [World.frozen?, hp]; simp
  · show _ < (W.heap.push _).size
    simp
/-- A slice of bytes of the call's own, nil or not. -/
def BRow (W : World) (base e : Nat) (v : Value) (l : List UInt8) : Prop :=
  (v = .slice none 0 0 ∧ l = []) ∨ ∃ g cap cells fr, v = .slice (some ⟨g, 0, none⟩) l.length cap ∧ base ≤ g ∧ W.heap[g]? = some (.cells ⟨vals l ++ cells⟩ e fr) ∧ l.length + cells.length = cap ∧ ∀ o, o < cap → ¬ (fr.1 ≤ o ∧ o < fr.2)
theorem BRow.nil (W : World) (base e : Nat) : BRow W base e (.slice none 0 0) [] := .inl ⟨rfl, rfl⟩
theorem BRow.lt {W : World} {base e : Nat} {v : Value} {l : List UInt8} (h : BRow W base e v l) : ∀ k, v.ownBlock = some k → base ≤ k ∧ k < W.heap.size := by
  rcases h with ⟨rfl, _⟩ | ⟨g, cap, cells, fr, rfl, hb, hg, _⟩
  · intro k hk; cases hk
  · intro k hk
    simp [Value.ownBlock] at hk; subst hk
    exact ⟨hb, (Array.getElem?_eq_some_iff.1 hg).1⟩
/-- A row stays where its block does. -/
theorem BRow.stays {W W' : World} {base e : Nat} {v : Value} {l : List UInt8} (h : BRow W base e v l) (hb : ∀ k, v.ownBlock = some k → W'.heap[k]? = W.heap[k]?) : BRow W' base e v l := by
  rcases h with h | ⟨g, cap, cells, fr, h1, hbg, hg, h2⟩
  · exact .inl h
  · refine .inr ⟨g, cap, cells, fr, h1, hbg, ?_, h2⟩
    rw [hb g (by rw [h1]; rfl)]; exact hg
theorem BRow.alloc {W : World} {base e : Nat} {v : Value} {l : List UInt8} (h : BRow W base e v l) (o : Obj) : BRow (W.alloc o) base e v l :=
  h.stays fun k hk => by
    show (W.heap.push o)[k]? = _
    rw [Array.getElem?_push, if_neg (by have := (h.lt k hk).2; omega)]
theorem BRow.drew {W : World} {base e : Nat} {v : Value} {l : List UInt8} (h : BRow W base e v l) : BRow W.drew base e v l := h
theorem BRow.old {W W' : World} {base e : Nat} {v : Value} {l : List UInt8} (h : BRow W base e v l) {B : Nat} (hb : Below B W W') (hB : W.heap.size ≤ B) : BRow W' base e v l :=
  h.stays fun k hk => hb.block k (by have := (h.lt k hk).2; omega)
theorem BRow.out {W : World} {base e g n cap : Nat} {l : List UInt8} (h : BRow W base e (.slice (some ⟨g, 0, none⟩) n cap) l) : n = l.length ∧ base ≤ g ∧ Holds W g l := by
  rcases h with ⟨h, _⟩ | ⟨g', cap', cells, fr, h1, hb, hg, h2, h3⟩
  · cases h
  · cases h1
    refine ⟨rfl, hb, fun i c hi => ?_, (Array.getElem?_eq_some_iff.1 hg).1⟩
    have hil := (List.getElem?_eq_some_iff.1 hi).1
    constructor
    · simp only [World.cell?, hg]
      have : (vals l)[i]? = some (.int .u8 (c.toNat : Int)) := by simp [vals, hi]
      simp only [Option.isSome_none, Bool.false_eq_true, if_false, List.getElem?_toArray]
      rw [List.getElem?_append_left (by rw [vals_len]; exact hil), this]
    · simp only [World.frozen?, hg]
      have := h3 i (by omega)
      simp only [Bool.and_eq_false_iff, decide_eq_false_iff_not]
      omega
/-- A row that holds a byte has a block. -/
theorem BRow.blk {W : World} {base e : Nat} {v : Value} {l : List UInt8} (h : BRow W base e v l) (hl : l ≠ []) : ∃ g cap, v = .slice (some ⟨g, 0, none⟩) l.length cap := by
  rcases h with ⟨_, h⟩ | ⟨g, cap, cells, fr, h1, _⟩
  · exact absurd h hl
  · exact ⟨g, cap, h1⟩
theorem BRow.set {W : World} {base e g n cap : Nat} {l : List UInt8} (h : BRow W base e (.slice (some ⟨g, 0, none⟩) n cap) l) (k : Nat) (c : UInt8) (hk : k < l.length) : BRow (W.setCell ⟨g, k, none⟩ (.int .u8 (c.toNat : Int))) base e (.slice (some ⟨g, 0, none⟩) n cap) (l.set k c) := by
  rcases h with ⟨h, _⟩ | ⟨g', cap', cells, fr, h1, hb, hg, h2, h3⟩
  · cases h
  · cases h1
    refine .inr ⟨g, cap, cells, fr, by rw [List.length_set], hb, ?_, by rw [List.length_set]; exact h2, h3⟩
    simp only [World.setCell, Array.getElem?_modify, if_true, hg, Option.map_some]
    have : vals (l.set k c) = (vals l).set k (.int .u8 (c.toNat : Int)) := by simp [vals, List.map_set]
    simp only [Option.isSome_none, Bool.false_eq_true, if_false, List.setIfInBounds_toArray]
    rw [this, List.set_append_left _ _ (by rw [vals_len]; exact hk)]
theorem bytes_row (w : World) (e : TypeId) (l : List UInt8) {base : Nat} (hb : base ≤ w.heap.size) : BRow (Lib.bytesWorld w e (bin l)) base e (.slice (some ⟨w.heap.size, 0, none⟩) l.length (grownCap w l.length 0 e)) l := by
  have hc : Lib.bytesCells w e (bin l) = ⟨vals l ++ List.replicate (grownCap w l.length 0 e - l.length) (.int .u8 0)⟩ := by
    apply Array.toList_inj.1
    simp only [Lib.bytesCells, bin_size]
    simp [bin, vals]
  have hge := Eng.grownCap_ge w l.length 0 e
  have hsz : (Lib.bytesCells w e (bin l)).size = grownCap w l.length 0 e := by
    rw [hc]; simp [vals_len]; omega
  refine .inr ⟨w.heap.size, grownCap w l.length 0 e, List.replicate (grownCap w l.length 0 e - l.length) (.int .u8 0), ((Lib.bytesCells w e (bin l)).size, (Lib.bytesCells w e (bin l)).size + 1), rfl, hb, ?_, by simp; omega, ?_⟩
  · rw [Eng.bytesWorld_heap, Array.getElem?_push, if_pos rfl, ← hc]
  · intro o ho; rw [hsz]; omega
theorem bytes_below (w : World) (e : TypeId) (s : ByteArray) {B : Nat} (hB : B ≤ w.heap.size) : Below B w (Lib.bytesWorld w e s) :=
  ⟨rfl, rfl, rfl, by rw [Lib.bytesWorld_size]; omega, fun k hk => Lib.bytesWorld_at_old w e s k (by omega)⟩
/-- What is put behind a row: bytes of a slice, of a text. -/
structure Src (P : Program) (W : World) (t1 : TypeId) (x : Value) (cs : List UInt8) : Prop where
  len : ∀ w : World, (Builtin.lenOf x).run P w = .ok cs.length w
  cells : ∀ w : World, w.heap = W.heap → (Builtin.firstCells 1 cs.length x).run P w = .ok ⟨vals cs⟩ w
  ty : (∃ e, P.underlying t1 = some (.slice e)) ∨ P.underlying t1 = some .string
theorem Src.slice {P : Program} {W : World} {t1 e : TypeId} (ht : P.underlying t1 = some (.slice e)) {g cap : Nat} {cs : List UInt8} (h : ∀ (j : Nat) (c : UInt8), cs[j]? = some c → W.cell? ⟨g, j, none⟩ = some (.int .u8 (c.toNat : Int))) : Src P W t1 (.slice (some ⟨g, 0, none⟩) cs.length cap) cs :=
  ⟨fun w => rfl, fun w hw => by
    show (loadCells ⟨g, 0, none⟩ (cs.length * 1)).run P w = _
    have := run_loadCells_list (P := P) w ⟨g, 0, none⟩ (vals cs) fun j u hj => by
      simp only [vals, List.getElem?_map] at hj
      cases hc : cs[j]? with
      | none => rw [hc] at hj; cases hj
      | some c =>
        rw [hc] at hj; cases hj
        rw [Eng.add_none, Nat.zero_add]
        exact (World.cell?_of_block (w := W) (by rw [hw])).trans (h j c hc)
    rw [vals_len, ← Nat.mul_one cs.length] at this
    exact this, .inl ⟨e, ht⟩⟩
theorem Src.text {P : Program} {W : World} {t1 : TypeId} (ht : P.underlying t1 = some .string) (cs : List UInt8) : Src P W t1 (.string (bin cs)) cs :=
  ⟨fun w => by simp [Builtin.lenOf, bin_size], fun w hw => by
    simp only [Builtin.firstCells, Sem.run_pure]
    congr 1
    have hb : (bin cs).extract 0 cs.length = bin cs := by
      rw [← bin_size cs]; exact ByteArray.extract_zero_size
    rw [hb]
    apply Array.toList_inj.1
    simp [bin, vals], .inr ht⟩
/-- Bytes behind a row. -/
theorem run_append_row {P : Program} {W : World} {base t t1 e : Nat} {i : TypeInfo} (ht : P.underlying t = some (.slice e)) (hi : P.info? e = some i) (hz : i.zero = some (.int .u8 0)) (hsize : i.size = 1) (hby : i.bytes = 1)
    {v : Value} {l : List UInt8} (hrow : BRow W base e v l) {x : Value} {cs : List UInt8} (hx : Src P W t1 x cs) (hlen : l.length + cs.length ≤ 140737488355328) (hbase : base ≤ W.heap.size) (ty : TypeId) :
    ∃ v' w', (Builtin.append_ #[t, t1] ty #[v, x]).run P W = .ok v' w' ∧ BRow w' base e v' (l ++ cs) ∧ W.grownBy w' v.ownBlock := by
  have hnz : Eng.noZeros P [t, t1] = true := by
    simp only [Eng.noZeros]
    rcases hx.ty with ⟨e', h⟩ | h <;> rw [h]
  have hfirst : ∀ w' : World, w'.heap = W.heap → (Builtin.firstCells i.size cs.length x).run P w' = .ok ⟨vals cs⟩ w' := fun w' hw => by rw [hsize]; exact hx.cells w' hw
  -- a new row
  have grow : ∀ (bs : Option Addr) (cp : Nat), (∀ w' : World, w'.heap = W.heap → (Builtin.firstCells i.size l.length (.slice bs l.length cp)).run P w' = .ok ⟨vals l⟩ w') → ¬ l.length + cs.length ≤ cp → ∃ v' w', (Builtin.append_ #[t, t1] ty #[.slice bs l.length cp, x]).run P W = .ok v' w' ∧ BRow w' base e v' (l ++ cs) ∧ ∀ r, W.grownBy w' r := by
    intro bs cp ho hroom
    have hr := Eng.append_grow (P := P) (w := W) (ty := ty) (base := bs) (sLen := l.length) (sCap := cp) (n := cs.length) (us := vals cs) (os := vals l) ht hnz hi hz (hx.len W) hfirst ho hroom (by omega) (by rw [hby]; omega)
    have hcap := Eng.grownCap_ge W (l.length + cs.length) cp e
    have hzs : (Builtin.zeroCells (Value.int .u8 0).cells (grownCap W (l.length + cs.length) cp e - (l.length + cs.length))).toList.length = grownCap W (l.length + cs.length) cp e - (l.length + cs.length) := by
      rw [Array.length_toList, size_zeroCells]; show _ * 1 = _; omega
    refine ⟨_, _, hr, .inr ⟨W.heap.size, grownCap W (l.length + cs.length) cp e, (Builtin.zeroCells (Value.int .u8 0).cells (grownCap W (l.length + cs.length) cp e - (l.length + cs.length))).toList, (0, 0), by simp, hbase, ?_, by simp only [List.length_append, hzs]; omega, fun o _ => by simp⟩, fun r => ⟨rfl, rfl, rfl, ?_, fun k hk _ => ?_⟩⟩
    · show (W.heap.push _)[W.heap.size]? = _
      rw [Array.getElem?_push, if_pos rfl]
      congr 2
      apply Array.toList_inj.1
      simp [vals]
    · show _ ≤ (W.heap.push _).size
      simp
    · show (W.heap.push _)[k]? = _
      rw [Array.getElem?_push, if_neg (by omega)]
  rcases hrow with ⟨rfl, rfl⟩ | ⟨g, cp, cells, fr, rfl, hb, hg, h2, h3⟩
  · by_cases hn : cs = []
    · subst hn
      have hr := Eng.append_room (P := P) (w := W) (ty := ty) (base := none) (sLen := 0) (sCap := 0) ht hnz hi (hx.len W) (hfirst W rfl) (Nat.le_refl _)
      exact ⟨_, _, hr, .inl ⟨rfl, rfl⟩, rfl, rfl, rfl, Nat.le_refl _, fun _ _ _ => rfl⟩
    · have hpos : 0 < cs.length := List.length_pos_iff.2 hn
      obtain ⟨v', w', k1, k2, k3⟩ := grow none 0 (fun w' hw => rfl) (by simp; omega)
      exact ⟨v', w', k1, k2, k3 _⟩
  · have hgs := (Array.getElem?_eq_some_iff.1 hg).1
    by_cases hroom : l.length + cs.length ≤ cp
    · have hr := Eng.append_room (P := P) (w := W) (ty := ty) (base := some ⟨g, 0, none⟩) (sLen := l.length) (sCap := cp) ht hnz hi (hx.len W) (hfirst W rfl) hroom
      simp only [hsize, Nat.mul_one, Eng.add_none, Nat.zero_add] at hr
      obtain ⟨w', k1, k2, k3, k4, k5⟩ := Eng.store_cells (P := P) (b := g) (o := l.length) (e := e) (fr := fr) (vals cs) 0 (vals l ++ cells) W hg (by simp [vals_len]; omega) (fun j a1 a2 => h3 j (by rw [vals_len] at a2; omega)) (vals_one cs)
      rw [k1] at hr
      refine ⟨_, w', hr, .inr ⟨g, cp, cells.drop cs.length, fr, by simp, hb, ?_, by simp; omega, h3⟩, ⟨k5.os, k5.tape, k5.output, by omega, fun k hk hne => k3 k fun e1 => hne (by rw [e1]; rfl)⟩⟩
      rw [k2, Nat.add_zero, Eng.spl_eq _ _ _ (by simp [vals_len]; omega)]
      congr 3
      have hv : (vals l).length = l.length := vals_len l
      rw [← hv, List.take_left, List.drop_append]
      simp [vals_append, vals_len]
    · obtain ⟨v', w', k1, k2, k3⟩ := grow (some ⟨g, 0, none⟩) cp (fun w' hw => by
        rw [hsize]
        show (loadCells ⟨g, 0, none⟩ (l.length * 1)).run P w' = _
        have := Eng.load_cells (P := P) (w := w') (b := g) (o := 0) (c := ⟨vals l ++ cells⟩) (e := e) (fr := fr) (by rw [hw]; exact hg) (vals l) (fun j u hj => by
          simp only [List.getElem?_toArray, Nat.zero_add]
          rw [List.getElem?_append_left (List.getElem?_eq_some_iff.1 hj).1]; exact hj)
        rw [vals_len, ← Nat.mul_one l.length] at this
        exact this) hroom
      exact ⟨v', w', k1, k2, k3 _⟩
theorem wp_append_row {P : Program} {w : World} {o : Oper} {a : Act} {K : Act → World → Prop} {Q : Exit → Act → World → Prop} (s x : Operand) (t t1 : TypeId)
    (ho : o.op = .call { callee := .builtin .append, args := #[s, x], argTypes := #[t, t1] })
    (base e : Nat) (i : TypeInfo) (ht : P.underlying t = some (.slice e)) (hi : P.info? e = some i) (hz : i.zero = some (.int .u8 0)) (hsize : i.size = 1) (hby : i.bytes = 1)
    (v : Value) (l : List UInt8) (hs : a.eval s = v) (hrow : BRow w base e v l) (cs : List UInt8) (u : Value) (hx : a.eval x = u) (hsrc : Src P w t1 u cs) (hlen : l.length + cs.length ≤ 140737488355328) (hbase : base ≤ w.heap.size)
    (h : ∀ v' w', BRow w' base e v' (l ++ cs) → w.grownBy w' v.ownBlock → K (a.put o.dst v') w') : o.wp P a w K Q := by
  obtain ⟨v', w', hr, h2, h3⟩ := run_append_row (P := P) (t := t) ht hi hz hsize hby hrow hsrc hlen hbase o.type
  unfold Oper.wp execOp
  simp only [ho, resolve, invoke, builtin, Sem.run_bind, Sem.run_pure, Result.andThen_ok, List.map_toArray, List.map_cons, List.map_nil, hs, hx, hr]
  exact h v' w' h2 h3
theorem wpList_append_row {P : Program} {w : World} {ops : Array Oper} {rest : List Oper} {o : Oper} {a : Act} {Q : Exit → Act → World → Prop} (hgd : o.guard = none) (s x : Operand) (t t1 : TypeId)
    (ho : o.op = .call { callee := .builtin .append, args := #[s, x], argTypes := #[t, t1] })
    (base e : Nat) (i : TypeInfo) (ht : P.underlying t = some (.slice e)) (hi : P.info? e = some i) (hz : i.zero = some (.int .u8 0)) (hsize : i.size = 1) (hby : i.bytes = 1)
    (v : Value) (l : List UInt8) (hs : a.eval s = v) (hrow : BRow w base e v l) (cs : List UInt8) (u : Value) (hx : a.eval x = u) (hsrc : Src P w t1 u cs) (hlen : l.length + cs.length ≤ 140737488355328) (hbase : base ≤ w.heap.size)
    (h : ∀ v' w', BRow w' base e v' (l ++ cs) → w.grownBy w' v.ownBlock → wpList P ops Q rest (a.put o.dst v') w') : wpList P ops Q (o :: rest) a w :=
  wpList_plain hgd fun _ hK => wp_append_row s x t t1 ho base e i ht hi hz hsize hby v l hs hrow cs u hx hsrc hlen hbase fun v' w' h2 h3 => hK _ _ (h v' w' h2 h3)
theorem step_append_row {P : Program} {ops : Array Oper} {o : Oper} {a : Act} {w : World} {K : Act → World → Prop} {Q : Exit → Act → World → Prop} {E : Prop} (hg : o.guard = none) (s x : Operand) (t t1 : TypeId)
    (ho : o.op = .call { callee := .builtin .append, args := #[s, x], argTypes := #[t, t1] })
    (base e : Nat) (i : TypeInfo) (ht : P.underlying t = some (.slice e)) (hi : P.info? e = some i) (hz : i.zero = some (.int .u8 0)) (hsize : i.size = 1) (hby : i.bytes = 1)
    (v : Value) (l : List UInt8) (hs : a.eval s = v) (hrow : BRow w base e v l) (cs : List UInt8) (u : Value) (hx : a.eval x = u) (hsrc : Src P w t1 u cs) (hlen : l.length + cs.length ≤ 140737488355328) (hbase : base ≤ w.heap.size)
    (h : ∀ v' w', BRow w' base e v' (l ++ cs) → w.grownBy w' v.ownBlock → K (a.put o.dst v') w') :
    if Region.wanted o (yielded ops a.tmps) = true then Oper.wp P o a w K Q else E := by
  have hw : Region.wanted o (yielded ops a.tmps) = true := by simp [Region.wanted, hg]
  rw [if_pos hw]
  exact wp_append_row s x t t1 ho base e i ht hi hz hsize hby v l hs hrow cs u hx hsrc hlen hbase h
/-- A row's text. -/
theorem row_text {P : Program} {W : World} {base e : Nat} {s d el : TypeId} (hs : P.underlying s = some (.slice el)) (hel : P.underlying el = some (.int .u8)) (hd : P.underlying d = some .string) {v : Value} {l : List UInt8} (h : BRow W base e v l) :
    (convert s d v).run P W = .ok (.string (bin l)) W := by
  rcases h with ⟨rfl, rfl⟩ | ⟨g, cap, cells, fr, rfl, h2⟩
  · simp [convert, run_underlying hs, run_underlying hd, run_underlying hel, Result.andThen, Conv.bytesToString]; rfl
  · have hh : BRow W base e (.slice (some ⟨g, 0, none⟩) l.length cap) l := .inr ⟨g, cap, cells, fr, rfl, h2⟩
    have := Lib.run_convert_whole (P := P) W s el d hs hel hd g 0 (bin l) hh.out.2.2.bytes cap
    rw [bin_size] at this; exact this
/-- A row with room, and nothing in it. -/
theorem made_row (W : World) (e : TypeId) (cap : Nat) {base : Nat} (hb : base ≤ W.heap.size) : BRow (W.alloc (.cells ⟨List.replicate cap (.int .u8 0)⟩ e)) base e (.slice (some ⟨W.heap.size, 0, none⟩) 0 cap) [] := by
  refine .inr ⟨W.heap.size, cap, List.replicate cap (.int .u8 0), (0, 0), rfl, hb, ?_, by simp, fun o _ => by simp⟩
  show (W.heap.push _)[W.heap.size]? = _
  simp [vals]
/-- What a row of the call's own is, if it is one of the library's. -/
theorem row_of_own {W : World} {base e : Nat} {v : Value} {l : List UInt8} (h : W.ownsRow base e 1 v l.length (vals l)) : BRow W base e v l := by
  rcases h.2 with ⟨h1, h2⟩ | ⟨g, cap, cur, h1, h2, h3, h4, h5, h6, h7⟩
  · exact .inl ⟨h1, List.length_eq_zero_iff.1 h2⟩
  · refine .inr ⟨g, cap, cur.toList.drop l.length, (0, 0), h1, h2, ?_, by simp; omega, fun o _ => by simp⟩
    rw [h3]
    congr 2
    apply Array.toList_inj.1
    rw [Nat.mul_one] at h7
    show cur.toList = _
    rw [← h7, List.take_append_drop]
end Mem
end Go.Proofs.Ythbedbjccmhcoaa
