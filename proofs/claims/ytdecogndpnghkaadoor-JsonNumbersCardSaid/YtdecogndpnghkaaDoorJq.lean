/-
  The reader's tree where a number stands, or what begins no word; the document's Print of a number: contracts. No condition but that a text is short.
-/
import Derived.Test.YtdecogndpnghkaaDoorJn
import Derived.Test.YtdecogndpnghkaaDoorJw
namespace Go.Proofs.YtdecogndpnghkaaDoor
open Go.ChangeShapes Go.WideShapes Go.ChangeAt Go.RowKit
namespace Jn
set_option linter.unusedVariables false
set_option linter.unusedSimpArgs false
/-- A node that is a whole number, or nothing. -/
abbrev node (k v : Int) : Value := .agg #[.int .i64 k, .int .i64 v, .string ⟨#[]⟩, .slice none 0 0, .slice none 0 0]
set_option maxHeartbeats 2000000 in
set_option maxRecDepth 100000 in
theorem print_any (v : Int) (h1 : -9223372036854775808 ≤ v) (h2 : v ≤ 9223372036854775807) (w : World) :
    Calls Tryd.prog 14 #[node 3 v] w fun e w' => e = .returned (.string (bin (tens v))) ∧ Below w.heap.size w w' := by
  have cT := Lib.hid (fun W => tens_any v h1 h2 W)
  go_enter Tryd.func14, Tryd.ntmps14
  go_wp2_with (go_at_call 26; (with_reducible refine (cT.out _).mono ?_); rintro e w2 ⟨rfl, hb2⟩)
  go_ret
  exact ⟨rfl, ((Below.refl _ _).alloc (Nat.le_refl _) _).trans (hb2.mono (by simp))⟩
/-- Five cells of a block. -/
structure Fiv (w : World) (g : Nat) (a : Int) (c : Int) : Prop where
  c0 : w.cell? ⟨g, 0, none⟩ = some (.int .i64 a)
  c1 : w.cell? ⟨g, 1, none⟩ = some (.int .i64 c)
  c2 : w.cell? ⟨g, 2, none⟩ = some (.string ⟨#[]⟩)
  c3 : w.cell? ⟨g, 3, none⟩ = some (.slice none 0 0)
  c4 : w.cell? ⟨g, 4, none⟩ = some (.slice none 0 0)
  f0 : w.frozen? ⟨g, 0, none⟩ = false
  f1 : w.frozen? ⟨g, 1, none⟩ = false
  f2 : w.frozen? ⟨g, 2, none⟩ = false
  f3 : w.frozen? ⟨g, 3, none⟩ = false
  f4 : w.frozen? ⟨g, 4, none⟩ = false
theorem Fiv.new (w : World) (a c : Int) (e : TypeId) : Fiv (w.alloc (.cells #[.int .i64 a, .int .i64 c, .string ⟨#[]⟩, .slice none 0 0, .slice none 0 0] e)) w.heap.size a c := by
  have hp : (w.alloc (.cells #[.int .i64 a, .int .i64 c, .string ⟨#[]⟩, .slice none 0 0, .slice none 0 0] e)).heap[w.heap.size]? = some (.cells #[.int .i64 a, .int .i64 c, .string ⟨#[]⟩, .slice none 0 0, .slice none 0 0] e (0, 0)) := by
    show (w.heap.push _)[w.heap.size]? = _
    simp
  constructor <;> first | (simp only [World.cell?, hp]; rfl) | (simp only [World.frozen?, hp]; simp)
theorem Fiv.bex {w w' : World} {g b : Nat} {a c : Int} (h : Fiv w g a c) (hb : Bex b w w') (hg : g ≠ b) (hl : g < w.heap.size) : Fiv w' g a c := by
  have e : w'.heap[g]? = w.heap[g]? := hb.block g hl hg
  have ec : ∀ o, w'.cell? ⟨g, o, none⟩ = w.cell? ⟨g, o, none⟩ := fun o => World.cell?_of_block (w := w) e
  have ef : ∀ o, w'.frozen? ⟨g, o, none⟩ = w.frozen? ⟨g, o, none⟩ := fun o => World.frozen?_of_block (w := w) e
  exact ⟨(ec 0).trans h.c0, (ec 1).trans h.c1, (ec 2).trans h.c2, (ec 3).trans h.c3, (ec 4).trans h.c4, (ef 0).trans h.f0, (ef 1).trans h.f1, (ef 2).trans h.f2, (ef 3).trans h.f3, (ef 4).trans h.f4⟩
theorem setc {w : World} {g o : Nat} {v : Value} (h : w.cell? ⟨g, o, none⟩ = some v) (o' : Nat) (u : Value) : (w.setCell ⟨g, o', none⟩ u).cell? ⟨g, o, none⟩ = some (if o = o' then u else v) := by
  by_cases e : o = o'
  · subst e
    rw [if_pos rfl, World.cell?_setCell_same' _ _ _ (by rw [h]; rfl)]
  · rw [if_neg e, World.cell?_setCell_other (w := w) (a := ⟨g, o', none⟩) (b := ⟨g, o, none⟩) _ (by intro x; injection x with _ x; exact e x.symm), h]
theorem Fiv.set5 {w : World} {g : Nat} {a c : Int} (h : Fiv w g a c) (a' c' : Int) : Fiv (((((w.setCell ⟨g, 0, none⟩ (.int .i64 a')).setCell ⟨g, 1, none⟩ (.int .i64 c')).setCell ⟨g, 2, none⟩ (.string ⟨#[]⟩)).setCell ⟨g, 3, none⟩ (.slice none 0 0)).setCell ⟨g, 4, none⟩ (.slice none 0 0)) g a' c' := by
  refine ⟨?_, ?_, ?_, ?_, ?_, ?_, ?_, ?_, ?_, ?_⟩
  · exact setc (setc (setc (setc (setc h.c0 0 _) 1 _) 2 _) 3 _) 4 _
  · exact setc (setc (setc (setc (setc h.c1 0 _) 1 _) 2 _) 3 _) 4 _
  · exact setc (setc (setc (setc (setc h.c2 0 _) 1 _) 2 _) 3 _) 4 _
  · exact setc (setc (setc (setc (setc h.c3 0 _) 1 _) 2 _) 3 _) 4 _
  · exact setc (setc (setc (setc (setc h.c4 0 _) 1 _) 2 _) 3 _) 4 _
  · simp only [World.frozen?_setCell]; exact h.f0
  · simp only [World.frozen?_setCell]; exact h.f1
  · simp only [World.frozen?_setCell]; exact h.f2
  · simp only [World.frozen?_setCell]; exact h.f3
  · simp only [World.frozen?_setCell]; exact h.f4
theorem Fiv.own5 {w : World} {g : Nat} {a c : Int} (h : Fiv w g a c) (a' c' : Int) : (w.setCell ⟨g, 0, none⟩ (.int .i64 a')).cell? ⟨g, 0, none⟩ = some (.int .i64 a') ∧ ((w.setCell ⟨g, 0, none⟩ (.int .i64 a')).setCell ⟨g, 1, none⟩ (.int .i64 c')).cell? ⟨g, 1, none⟩ = some (.int .i64 c') ∧ (((w.setCell ⟨g, 0, none⟩ (.int .i64 a')).setCell ⟨g, 1, none⟩ (.int .i64 c')).setCell ⟨g, 2, none⟩ (.string ⟨#[]⟩)).cell? ⟨g, 2, none⟩ = some (.string ⟨#[]⟩) ∧ ((((w.setCell ⟨g, 0, none⟩ (.int .i64 a')).setCell ⟨g, 1, none⟩ (.int .i64 c')).setCell ⟨g, 2, none⟩ (.string ⟨#[]⟩)).setCell ⟨g, 3, none⟩ (.slice none 0 0)).cell? ⟨g, 3, none⟩ = some (.slice none 0 0) ∧ (((((w.setCell ⟨g, 0, none⟩ (.int .i64 a')).setCell ⟨g, 1, none⟩ (.int .i64 c')).setCell ⟨g, 2, none⟩ (.string ⟨#[]⟩)).setCell ⟨g, 3, none⟩ (.slice none 0 0)).setCell ⟨g, 4, none⟩ (.slice none 0 0)).cell? ⟨g, 4, none⟩ = some (.slice none 0 0) :=
  ⟨setc h.c0 0 _, setc (setc h.c1 0 _) 1 _, setc (setc (setc h.c2 0 _) 1 _) 2 _, setc (setc (setc (setc h.c3 0 _) 1 _) 2 _) 3 _, setc (setc (setc (setc (setc h.c4 0 _) 1 _) 2 _) 3 _) 4 _⟩
theorem Rd.off {w : World} {b : Nat} {s : ByteArray} {i : Nat} (h : Rd w b s i) {g : Nat} (hg : g ≠ b) (o : Nat) (u : Value) : Rd (w.setCell ⟨g, o, none⟩ u) b s i := by
  have e : (w.setCell ⟨g, o, none⟩ u).heap[b]? = w.heap[b]? := Below.heap_setCell w ⟨g, o, none⟩ u b (fun x => hg x.symm)
  have ec : ∀ o', (w.setCell ⟨g, o, none⟩ u).cell? ⟨b, o', none⟩ = w.cell? ⟨b, o', none⟩ := fun o' => World.cell?_of_block (w := w) e
  have ef : ∀ o', (w.setCell ⟨g, o, none⟩ u).frozen? ⟨b, o', none⟩ = w.frozen? ⟨b, o', none⟩ := fun o' => World.frozen?_of_block (w := w) e
  exact ⟨(ec 0).trans h.txt, (ec 1).trans h.pos, (ef 1).trans h.frz, by simpa using h.lt⟩
theorem Bex.off {b : Nat} {w W : World} (h : Bex b w W) {g : Nat} (hg : w.heap.size ≤ g) (o : Nat) (u : Value) : Bex b w (W.setCell ⟨g, o, none⟩ u) :=
  ⟨h.os, h.tape, h.output, by have := h.size; simpa using this, fun k hk hb => (Below.heap_setCell W ⟨g, o, none⟩ u k (by show k ≠ g; omega)).trans (h.block k hk hb)⟩
theorem Bex.alloc {b : Nat} {w : World} (o : Obj) : Bex b w (w.alloc o) := Bex.of_below ((Below.refl _ _).alloc (Nat.le_refl _) _)
theorem pk_at {s : ByteArray} {i : Nat} (hi : i < s.size) (h : isSp s[i] = false) : sp (s.data.toList.drop i) = 0 ∧ pk (s.data.toList.drop i) = s[i].toNat := by
  have h0 : sp (s.data.toList.drop i) = 0 := by rw [drop_at hi]; exact sp_stop h
  refine ⟨h0, ?_⟩
  unfold pk
  rw [h0, List.drop_zero, drop_at hi]
set_option maxHeartbeats 4000000 in
set_option maxRecDepth 100000 in
theorem tree_num (s : ByteArray) (i j k b : Nat) (d : Int) (w : World) (h : Rd w b s i) (hi : i < s.size) (hs : s.size ≤ 10000000)
    (hj : (s[i].toNat = 45 ∧ j = i + 1) ∨ (s[i].toNat ≠ 45 ∧ j = i)) (hk : k = j + dr (s.data.toList.drop j)) (hd : s[i].toNat = 45 ∨ (48 ≤ s[i].toNat ∧ s[i].toNat ≤ 57)) (z v : Int)
    (hz : (j + 1 < k ∧ s.data.toList[j]? = some 48 ∧ v = 0 ∧ z = 2) ∨ (¬ (j + 1 < k ∧ s.data.toList[j]? = some 48) ∧ Lib.parseIntB 64 (s.extract i k).data.toList = .ok v ∧ z = 0)) :
    Calls Tryd.prog 16 #[.pointer (some ⟨b, 0, none⟩), .int .i64 d] w fun e w' => e = .returned (.tuple #[node 3 v, .int .i64 z]) ∧ Rd w' b s k ∧ Bex b w w' := by
  have hsp : isSp s[i] = false := by rw [isSp_nat]; simp; omega
  obtain ⟨p1, p2⟩ := pk_at hi hsp
  have cP := Lib.hid (fun W (hW : Rd W b s i) => peek_any s i b W hW (by omega) hs)
  rw [p1, p2, Nat.add_zero] at cP
  have cN := Lib.hid (fun W (hW : Rd W b s i) => number_any s i j k b W hW hi hs hj hk z v hz)
  have H1 := Lib.hid (h.old ((Below.refl _ _).alloc (Nat.le_refl _) (.cells #[.int .i64 0, .int .i64 0, .string ⟨#[]⟩, .slice none 0 0, .slice none 0 0] 26)))
  have F1 := Lib.hid (Fiv.new w 0 0 26)
  have hlt := h.lt
  have hb8 : s[i].toNat < 256 := s[i].toNat_lt
  clear hsp p1 p2 hj hk hz h
  rcases hd with hx | ⟨hx1, hx2⟩
  · have e0 : ((s[i].toNat : Int) == 91) = false := by rw [beq_eq_false_iff_ne]; omega
    have e1 : ((s[i].toNat : Int) == 123) = false := by rw [beq_eq_false_iff_ne]; omega
    have e2 : ((s[i].toNat : Int) == 34) = false := by rw [beq_eq_false_iff_ne]; omega
    have e3 : ((s[i].toNat : Int) == 45) = true := by rw [beq_iff_eq]; omega
    clear hx
    go_enter Tryd.func16, Tryd.ntmps16
    go_wp2_with (first | (go_at_call 17; (with_reducible refine (cP.out _ H1.out).mono ?_); rintro e w2 ⟨rfl, hr2, hb2⟩) | (go_at_call 33; (with_reducible refine (cN.out _ hr2).mono ?_); rintro e w3 ⟨rfl, hr3, hb3⟩; have FX := F1.out.bex (hb2.trans hb3) (by omega) (by simp); obtain ⟨x0, x1, x2, x3, x4⟩ := FX.own5 3 v; obtain ⟨f0, f1, f2, f3, f4, f5, f6, f7, f8, f9⟩ := FX))
    refine bodyPost_ret (v := .tuple #[node 3 v, .int .i64 z]) (by simp [results, Tryd.results16, go_sem, x0, x1, x2, x3, x4]) rfl ?_
    exact ⟨rfl, ((((hr3.off (by omega) _ _).off (by omega) _ _).off (by omega) _ _).off (by omega) _ _).off (by omega) _ _, ((((((Bex.alloc _).trans (hb2.trans hb3)).off (Nat.le_refl _) _ _).off (Nat.le_refl _) _ _).off (Nat.le_refl _) _ _).off (Nat.le_refl _) _ _).off (Nat.le_refl _) _ _⟩
  · have e0 : ((s[i].toNat : Int) == 91) = false := by rw [beq_eq_false_iff_ne]; omega
    have e1 : ((s[i].toNat : Int) == 123) = false := by rw [beq_eq_false_iff_ne]; omega
    have e2 : ((s[i].toNat : Int) == 34) = false := by rw [beq_eq_false_iff_ne]; omega
    have e3 : ((s[i].toNat : Int) == 45) = false := by rw [beq_eq_false_iff_ne]; omega
    have e4 : ((48 : Int) ≤ (s[i].toNat : Int)) = True := eq_true (by omega)
    have e5 : ((s[i].toNat : Int) ≤ 57) = True := eq_true (by omega)
    go_enter Tryd.func16, Tryd.ntmps16
    go_wp2_with (first | (go_at_call 17; (with_reducible refine (cP.out _ H1.out).mono ?_); rintro e w2 ⟨rfl, hr2, hb2⟩) | (go_at_call 33; (with_reducible refine (cN.out _ hr2).mono ?_); rintro e w3 ⟨rfl, hr3, hb3⟩; have FX := F1.out.bex (hb2.trans hb3) (by omega) (by simp); obtain ⟨x0, x1, x2, x3, x4⟩ := FX.own5 3 v; obtain ⟨f0, f1, f2, f3, f4, f5, f6, f7, f8, f9⟩ := FX))
    refine bodyPost_ret (v := .tuple #[node 3 v, .int .i64 z]) (by simp [results, Tryd.results16, go_sem, x0, x1, x2, x3, x4]) rfl ?_
    exact ⟨rfl, ((((hr3.off (by omega) _ _).off (by omega) _ _).off (by omega) _ _).off (by omega) _ _).off (by omega) _ _, ((((((Bex.alloc _).trans (hb2.trans hb3)).off (Nat.le_refl _) _ _).off (Nat.le_refl _) _ _).off (Nat.le_refl _) _ _).off (Nat.le_refl _) _ _).off (Nat.le_refl _) _ _⟩
end Jn
end Go.Proofs.YtdecogndpnghkaaDoor
