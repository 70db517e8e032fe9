/-
  rec.Split: its contract. No condition but that a text is short.
-/
import Derived.Test.YtfcpicejifolmaaRz
namespace Go.Proofs.Ytfcpicejifolmaa
open Go.ChangeShapes Go.WideShapes Go.ChangeAt Go.RowKit
namespace Rv
set_option linter.unusedVariables false
set_option linter.unusedSimpArgs false
theorem info30 : (Try.prog.info? 30).map (fun i => (i.zero, i.size, i.bytes)) = some (some (.agg #[.int .i64 0, .int .i64 0, .int .u64 0, .string ⟨#[]⟩, .string ⟨#[]⟩]), 5, 56) := by kernel_rfl
/-- What Split leaves: rows of records of its own. -/
def Rows (l : List Rc) (base : Nat) (w : World) (e : Ending) (w' : World) : Prop := ∃ v, e = .returned (.tuple #[v, .int .i64 0]) ∧ RRow w' base 30 v l ∧ Below base w w'
theorem oend_is {l : List UInt8} {r : Rc} (h : rfirst l = some r) : oend l = .returned (.tuple #[.agg #[.int .i64 (r.num : Int), .int .i64 (r.wire : Int), .int .u64 (r.n : Int), .string (bin r.s), .string (bin r.raw)], .int .i64 0]) := by
  unfold oend; rw [h]; rfl
theorem oend_no {l : List UInt8} (h : rfirst l = none) : oend l = .returned (.tuple #[.agg #[.int .i64 0, .int .i64 0, .int .u64 0, .string (bin []), .string (bin [])], .int .i64 2]) := by
  unfold oend; rw [h]; rfl
theorem rc_src (W : World) (a b c d f : Value) (e : TypeId) : ∀ (j : Nat) u, [a, b, c, d, f][j]? = some u → (W.alloc (.cells #[a, b, c, d, f] e)).cell? ((⟨W.heap.size, 0, none⟩ : Addr).add j) = some u := by
  intro j u hj
  rw [Addr.add_lit, Nat.zero_add]
  have hp : (W.alloc (.cells #[a, b, c, d, f] e)).heap[W.heap.size]? = some (.cells #[a, b, c, d, f] e (0, 0)) := by
    show (W.heap.push _)[W.heap.size]? = _
    simp
  simp only [World.cell?, hp, Option.isSome_none, Bool.false_eq_true, if_false, List.getElem?_toArray]
  exact hj
theorem rc_src2 (W : World) (o : Obj) (r : Rc) (e : TypeId) : ∀ (j : Nat) u, (rcells r)[j]? = some u → ((W.alloc o).alloc (.cells ⟨rcells r⟩ e)).cell? ((⟨W.heap.size + 1, 0, none⟩ : Addr).add j) = some u := by
  intro j u hj
  have h := rc_src (W.alloc o) _ _ _ _ _ e j u hj
  rw [show (W.alloc o).heap.size = W.heap.size + 1 by simp] at h
  exact h
theorem rc_mid (W : World) (r : Rc) (e : TypeId) (o : Obj) (j : Nat) {u : Value} (hj : (rcells r)[j]? = some u) : ((W.alloc (.cells ⟨rcells r⟩ e)).alloc o).cell? ⟨W.heap.size, j, none⟩ = some u := by
  have hp : ((W.alloc (.cells ⟨rcells r⟩ e)).alloc o).heap[W.heap.size]? = some (.cells ⟨rcells r⟩ e (0, 0)) := by
    show ((W.heap.push _).push _)[W.heap.size]? = _
    rw [Array.getElem?_push, if_neg (by simp), Array.getElem?_push, if_pos rfl]
  simp only [World.cell?, hp, Option.isSome_none, Bool.false_eq_true, if_false, List.getElem?_toArray]
  exact hj
theorem rcells_one (r : Rc) : ∀ u ∈ rcells r, u.oneCell' = true := by
  intro u hu
  simp only [rcells, List.mem_cons, List.not_mem_nil, or_false] at hu
  rcases hu with rfl | rfl | rfl | rfl | rfl <;> rfl
/-- What is left to be split. -/
structure Left (S : List UInt8) (t : ByteArray) (p : List Rc) : Prop where
  len : p.length + t.size ≤ S.length
  eq : rsplit S = (rsplit t.data.toList).map (p ++ ·)
theorem Left.start (s : ByteArray) : Left s.data.toList s [] := ⟨by simp, by simp⟩
theorem Left.none {S : List UInt8} {t : ByteArray} {p : List Rc} (h : Left S t p) (h0 : 0 < t.size) (hn : rfirst t.data.toList = none) : rsplit S = none := by
  rw [h.eq, rsplit_none (by simpa using h0) hn]; rfl
theorem Left.next {S : List UInt8} {t : ByteArray} {p : List Rc} {r : Rc} (h : Left S t p) (h0 : 0 < t.size) (hr : rfirst t.data.toList = some r) : Left S (t.extract r.raw.length t.size) (p ++ [r]) := by
  have hb := rfirst_bd hr
  have hl : t.data.toList.length = t.size := by simp
  have hle := h.len
  refine ⟨by rw [List.length_append, ByteArray.size_extract]; simp; omega, ?_⟩
  rw [h.eq, rsplit_some (by omega) hr, rest_at, Option.map_map]
  congr 1
  funext x; simp
theorem Left.done {S : List UInt8} {t : ByteArray} {p : List Rc} (h : Left S t p) (h0 : t.size = 0) : rsplit S = some p := by
  have : t.data.toList = [] := List.length_eq_zero_iff.1 (by simpa using h0)
  rw [h.eq, this, rsplit_nil]; simp
set_option maxHeartbeats 4000000 in
set_option maxRecDepth 100000 in
theorem split_any (s : ByteArray) (w : World) (hs : s.size ≤ 1000) :
    Calls Try.prog 20 #[.string s] w fun e w' => match rsplit s.data.toList with
      | none => e = .returned (.tuple #[.slice none 0 0, .int .i64 2]) ∧ Below w.heap.size w w'
      | some l => Rows l w.heap.size w e w' := by
  obtain ⟨i0, hi, hz0, hz1, hz2⟩ := info_parts info30
  obtain ⟨S, hS⟩ : ∃ S, S = s.data.toList := ⟨_, rfl⟩
  have HL0 := Lib.hid (Left.start s)
  rw [← hS] at HL0 ⊢
  have hSl : S.length ≤ 1000 := by rw [hS]; simpa using hs
  have HSl := Lib.hid hSl
  obtain ⟨Q, hQ⟩ : ∃ Q : Ending → World → Prop, Q = fun e w' => match rsplit S with
      | none => e = .returned (.tuple #[.slice none 0 0, .int .i64 2]) ∧ Below w.heap.size w w'
      | some l => Rows l w.heap.size w e w' := ⟨_, rfl⟩
  have QN : Hid (rsplit S = none → ∀ w', Below w.heap.size w w' → Q (.returned (.tuple #[.slice none 0 0, .int .i64 2])) w') := fun h w' hb => by rw [hQ]; simp only [h]; first | exact ⟨rfl, hb⟩ | exact ⟨trivial, hb⟩
  have QS : Hid (∀ p v w', rsplit S = some p → RRow w' w.heap.size 30 v p → Below w.heap.size w w' → Q (.returned (.tuple #[v, .int .i64 0])) w') := fun p v w' h hr hb => by rw [hQ]; simp only [h]; exact ⟨v, rfl, hr, hb⟩
  rw [← hQ]
  clear hQ hS hSl
  go_enter Try.func20, Try.ntmps20
  go_wp2_with fail
  go_loopw [0, 4] (fun x b wr => ∃ (t : ByteArray) (p : List Rc), x = .string t ∧ Left S t p ∧ RRow wr w.heap.size 30 b p ∧ Below w.heap.size w wr) (fun x _ _ => match x with | .string t => t.size | _ => 0)
  case atStart => exact ⟨s, [], rfl, HL0.out, RRow.nil _ _ _, Below.refl _ _⟩
  case round =>
    obtain ⟨t, p, rfl, hl, hr, hb⟩ := hrel
    have hlen := hl.len
    have hsl := HSl.out
    have ht : t.size ≤ 1000 := by omega
    have hp : p.length ≤ 1000 := by omega
    have HL := Lib.hid hl
    have HR := Lib.hid hr
    have HB := Lib.hid hb
    have HW := Lib.hid hb.size
    clear hl hr hb hlen hsl
    by_cases h0 : 0 < t.size
    · have cF := Lib.hid (fun W => first_any t W (by omega))
      cases hf : rfirst t.data.toList with
      | none =>
        rw [oend_no hf] at cF
        have HN := Lib.hid (HL.out.none h0 hf)
        clear hf
        go_wp2_with (go_at_call 36; ((with_reducible refine (cF.out _).mono ?_); rintro e w2 ⟨rfl, hb2⟩))
        have h1 := HB.out.trans (hb2.mono HW.out)
        first
          | exact QN.out HN.out _ h1
          | exact QN.out HN.out _ (h1.alloc h1.size _)
      | some r =>
        rw [oend_is hf] at cF
        have HN := Lib.hid (HL.out.next h0 hf)
        have hbd := rfirst_bd hf
        obtain ⟨k1, k2, k3, k4, k5, k6, k7⟩ := hbd
        have hrl : (bin r.raw).size = r.raw.length := bin_size _
        have hl : t.data.toList.length = t.size := by simp
        have k6' : r.raw.length ≤ t.size := by omega
        clear hf k7 k3 hl k6
        go_wp2_with (first | (at_builtin; refine wpList_append_own _ rfl _ _ 31 rfl w.heap.size 30 i0 _ 5 56 Try.underlying31 hi hz0 hz1 hz2 rfl (by decide) _ p.length (rvals p) rfl (((HR.out.old hb2 (Nat.le_refl _)).alloc _).alloc _) ⟨w2.heap.size + 1, 0, none⟩ 1 1 (rcells r) rfl rfl (rc_src2 w2 _ r _) (rcells_one r) (by unfold maxLen; omega) (by omega) (by have h1 := HW.out; have h2 := hb2.size; simp; omega) ?_) | (go_at_call 36; ((with_reducible refine (cF.out _).mono ?_); rintro e w2 ⟨rfl, hb2⟩)))
        intro v' w3 hown hgr _
        have h1 := HB.out.trans (hb2.mono HW.out)
        have HR2 := Lib.hid (RRow.snoc hown)
        have HB2 := Lib.hid (((h1.alloc h1.size _).alloc (by have := h1.size; simp; omega) _).grown hgr (by have := h1.size; simp; omega) (fun k hk => (World.ownsRow.lt HR.out k hk).1))
        have hc4 : w3.cell? ⟨w2.heap.size, 4, none⟩ = some (.string (bin r.raw)) := World.grownBy.cell hgr (rc_mid w2 r _ _ 4 rfl) (fun e => by have h3 := (World.ownsRow.lt HR.out w2.heap.size e.symm).2; have h4 := hb2.size; omega)
        clear hown hgr h1 hb2
        go_wp2_with fail
        go_roundw
        case rel => exact ⟨t.extract r.raw.length t.size, p ++ [r], rfl, HN.out, HR2.out, HB2.out⟩
        case measure => simp only [ByteArray.size_extract]; omega
    · have h0' : t.size = 0 := by omega
      have HD := Lib.hid (HL.out.done h0')
      clear h0
      go_wp2_with fail
      exact QS.out p _ _ HD.out HR.out HB.out
end Rv
end Go.Proofs.Ytfcpicejifolmaa
