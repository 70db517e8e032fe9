/-
  json.Parse where a number stands, or what begins no word: its contract. No condition but that the text is short.
-/
import Derived.Test.YtdecogndpnghkaaDoorJq
namespace Go.Proofs.YtdecogndpnghkaaDoor
open Go.ChangeShapes Go.WideShapes Go.ChangeAt Go.RowKit
namespace Jn
set_option linter.unusedVariables false
set_option linter.unusedSimpArgs false
theorem no_word {s : ByteArray} {i : Nat} (hi : i < s.size) {c : UInt8} {p : List UInt8} (h : s[i].toNat ≠ c.toNat) : Lib.hasPrefix (s.extract i s.size).data.toList (c :: p) = false := by
  have : (s.extract i s.size).data.toList = s[i] :: s.data.toList.drop (i + 1) := by
    rw [ByteArray.data_extract, Array.toList_extract, List.extract_eq_take_drop, ← drop_at hi]
    rw [List.take_of_length_le (by simp)]
  rw [this]
  show ((c == s[i]) && p.isPrefixOf _) = false
  rw [beq_eq_false_iff_ne.2 (fun e => h (by rw [e])), Bool.false_and]
set_option maxHeartbeats 4000000 in
set_option maxRecDepth 100000 in
theorem tree_no (s : ByteArray) (i b : Nat) (d : Int) (w : World) (h : Rd w b s i) (hi : i < s.size) (hs : s.size ≤ 10000000) (hx : s[i].toNat = 43) :
    Calls Tryd.prog 16 #[.pointer (some ⟨b, 0, none⟩), .int .i64 d] w fun e w' => e = .returned (.tuple #[node 0 0, .int .i64 2]) ∧ Rd w' b s i ∧ Bex b w w' := by
  have hsp : isSp s[i] = false := by rw [isSp_nat]; simp; omega
  obtain ⟨p1, p2⟩ := pk_at hi hsp
  have cP := Lib.hid (fun W (hW : Rd W b s i) => peek_any s i b W hW (by omega) hs)
  rw [p1, p2, Nat.add_zero] at cP
  have cA := Lib.hid (fun W (hW : Rd W b s i) => word_no s ⟨#[110, 117, 108, 108]⟩ i b W hW (by omega) hs (no_word (c := 110) hi (by rw [hx]; decide)))
  have cB := Lib.hid (fun W (hW : Rd W b s i) => word_no s ⟨#[116, 114, 117, 101]⟩ i b W hW (by omega) hs (no_word (c := 116) hi (by rw [hx]; decide)))
  have cC := Lib.hid (fun W (hW : Rd W b s i) => word_no s ⟨#[102, 97, 108, 115, 101]⟩ i b W hW (by omega) hs (no_word (c := 102) hi (by rw [hx]; decide)))
  have H1 := Lib.hid (h.old ((Below.refl _ _).alloc (Nat.le_refl _) (.cells #[.int .i64 0, .int .i64 0, .string ⟨#[]⟩, .slice none 0 0, .slice none 0 0] 26)))
  have F1 := Lib.hid (Fiv.new w 0 0 26)
  have hlt := h.lt
  have e0 : ((s[i].toNat : Int) == 91) = false := by rw [beq_eq_false_iff_ne]; omega
  have e1 : ((s[i].toNat : Int) == 123) = false := by rw [beq_eq_false_iff_ne]; omega
  have e2 : ((s[i].toNat : Int) == 34) = false := by rw [beq_eq_false_iff_ne]; omega
  have e3 : ((s[i].toNat : Int) == 45) = false := by rw [beq_eq_false_iff_ne]; omega
  have e4 : ((48 : Int) ≤ (s[i].toNat : Int)) = False := eq_false (by omega)
  clear hsp p1 p2 h hx
  go_enter Tryd.func16, Tryd.ntmps16
  go_wp2_with (first
    | (go_at_call 17; (with_reducible refine (cP.out _ H1.out).mono ?_); rintro e w2 ⟨rfl, hr2, hb2⟩)
    | (go_at_call_of 34 (Value.string ⟨#[110, 117, 108, 108]⟩); (with_reducible refine (cA.out _ hr2).mono ?_); rintro e w3 ⟨rfl, hr3, hb3⟩)
    | (go_at_call_of 34 (Value.string ⟨#[116, 114, 117, 101]⟩); (with_reducible refine (cB.out _ hr3).mono ?_); rintro e w4 ⟨rfl, hr4, hb4⟩)
    | (go_at_call_of 34 (Value.string ⟨#[102, 97, 108, 115, 101]⟩); (with_reducible refine (cC.out _ hr4).mono ?_); rintro e w5 ⟨rfl, hr5, hb5⟩; have FX := F1.out.bex (hb2.trans (hb3.trans (hb4.trans hb5))) (by omega) (by simp); obtain ⟨x0, x1, x2, x3, x4⟩ := FX.own5 0 0; obtain ⟨f0, f1, f2, f3, f4, f5, f6, f7, f8, f9⟩ := FX))
  refine bodyPost_ret (v := .tuple #[node 0 0, .int .i64 2]) (by simp [results, Tryd.results16, go_sem, x0, x1, x2, x3, x4]) rfl ?_
  exact ⟨rfl, ((((hr5.off (by omega) _ _).off (by omega) _ _).off (by omega) _ _).off (by omega) _ _).off (by omega) _ _, ((((((Bex.alloc _).trans (hb2.trans (hb3.trans (hb4.trans hb5)))).off (Nat.le_refl _) _ _).off (Nat.le_refl _) _ _).off (Nat.le_refl _) _ _).off (Nat.le_refl _) _ _).off (Nat.le_refl _) _ _⟩
theorem Rd.new (w : World) (s : ByteArray) (e : TypeId) : Rd (w.alloc (.cells #[.string s, .int .i64 0] e)) w.heap.size s 0 := by
  have hp : (w.alloc (.cells #[.string s, .int .i64 0] e)).heap[w.heap.size]? = some (.cells #[.string s, .int .i64 0] e (0, 0)) := by
    show (w.heap.push _)[w.heap.size]? = _
    simp
  refine ⟨?_, ?_, ?_, by simp⟩
  · simp only [World.cell?, hp]; rfl
  · simp only [World.cell?, hp]; rfl
  · simp only [World.frozen?, hp]; simp
/-- What the tree tells of a text, wherever the reader lies. -/
def TreeOf (s : ByteArray) (q : Nat) (kd v z : Int) : Prop := ∀ (W : World) (b : Nat), Rd W b s 0 → Calls Tryd.prog 16 #[.pointer (some ⟨b, 0, none⟩), .int .i64 1] W fun e w' => e = .returned (.tuple #[node kd v, .int .i64 z]) ∧ Rd w' b s q ∧ Bex b W w'
set_option maxHeartbeats 4000000 in
set_option maxRecDepth 100000 in
theorem parse_bad (s : ByteArray) (hs : s.size ≤ 10000) (q : Nat) (kd v : Int) (T : TreeOf s q kd v 2) (w : World) :
    Calls Tryd.prog 8 #[.string s] w fun e w' => e = .returned (.tuple #[node 0 0, .int .i64 2]) ∧ Below w.heap.size w w' := by
  have cT := Lib.hid (show ∀ (W : World) (b : Nat), Rd W b s 0 → Calls Tryd.prog 16 #[.pointer (some ⟨b, 0, none⟩), .int .i64 1] W fun e w' => e = .returned (.tuple #[node kd v, .int .i64 2]) ∧ Rd w' b s q ∧ Bex b W w' from T)
  have F1 := Lib.hid ((Fiv.new w 0 0 26).bex (b := w.heap.size + 1) (Bex.alloc (.cells #[.string s, .int .i64 0] 42)) (by omega) (by simp))
  have R1 := Lib.hid (Rd.new (w.alloc (.cells #[.int .i64 0, .int .i64 0, .string ⟨#[]⟩, .slice none 0 0, .slice none 0 0] 26)) s 42)
  rw [show (w.alloc (.cells #[.int .i64 0, .int .i64 0, .string ⟨#[]⟩, .slice none 0 0, .slice none 0 0] 26)).heap.size = w.heap.size + 1 by simp] at R1
  have hn : ¬ ((s.size : Int) > 10000) := by omega
  clear T
  go_enter Tryd.func8, Tryd.ntmps8
  go_wp2_with (go_at_call 16; (with_reducible refine (cT.out _ _ R1.out).mono ?_); rintro e w2 ⟨rfl, hr2, hb2⟩; have FX := ((F1.out.bex hb2 (by omega) (by simp; omega)).bex (b := w.heap.size + 1) (Bex.alloc (.cells #[.int .i64 kd, .int .i64 v, .string ⟨#[]⟩, .slice none 0 0, .slice none 0 0] 26)) (by omega) (by have := hb2.size; simp at this; omega)); obtain ⟨x0, x1, x2, x3, x4⟩ := FX.own5 0 0; obtain ⟨f0, f1, f2, f3, f4, f5, f6, f7, f8, f9⟩ := FX)
  have BA : Below w.heap.size w w2 := (((Below.refl _ _).alloc (Nat.le_refl _) _).alloc (by simp) _).trans (hb2.below (by omega) (by simp; omega))
  refine bodyPost_ret (v := .tuple #[node 0 0, .int .i64 2]) (by simp [results, Tryd.results8, go_sem, x0, x1, x2, x3, x4]) rfl ?_
  exact ⟨rfl, (((((BA.alloc BA.size _).setCell (Nat.le_refl _) _).setCell (Nat.le_refl _) _).setCell (Nat.le_refl _) _).setCell (Nat.le_refl _) _).setCell (Nat.le_refl _) _⟩
set_option maxHeartbeats 4000000 in
set_option maxRecDepth 100000 in
theorem parse_more (s : ByteArray) (hs : s.size ≤ 10000) (q : Nat) (kd v : Int) (hq : q ≤ s.size) (T : TreeOf s q kd v 0) (hc : q + sp (s.data.toList.drop q) < s.size) (w : World) :
    Calls Tryd.prog 8 #[.string s] w fun e w' => e = .returned (.tuple #[node 0 0, .int .i64 2]) ∧ Below w.heap.size w w' := by
  have cT := Lib.hid (show ∀ (W : World) (b : Nat), Rd W b s 0 → Calls Tryd.prog 16 #[.pointer (some ⟨b, 0, none⟩), .int .i64 1] W fun e w' => e = .returned (.tuple #[node kd v, .int .i64 0]) ∧ Rd w' b s q ∧ Bex b W w' from T)
  have F1 := Lib.hid ((Fiv.new w 0 0 26).bex (b := w.heap.size + 1) (Bex.alloc (.cells #[.string s, .int .i64 0] 42)) (by omega) (by simp))
  have R1 := Lib.hid (Rd.new (w.alloc (.cells #[.int .i64 0, .int .i64 0, .string ⟨#[]⟩, .slice none 0 0, .slice none 0 0] 26)) s 42)
  rw [show (w.alloc (.cells #[.int .i64 0, .int .i64 0, .string ⟨#[]⟩, .slice none 0 0, .slice none 0 0] 26)).heap.size = w.heap.size + 1 by simp] at R1
  have hn : ¬ ((s.size : Int) > 10000) := by omega
  have cP := Lib.hid (fun W b (hW : Rd W b s q) => peek_any s q b W hW hq (by omega))
  obtain ⟨K, hK⟩ : ∃ K, K = q + sp (s.data.toList.drop q) := ⟨_, rfl⟩
  rw [← hK] at cP hc
  have hl : (K : Int) < (s.size : Int) := by omega
  clear T hK
  go_enter Tryd.func8, Tryd.ntmps8
  go_wp2_with (first | (go_at_call 16; (with_reducible refine (cT.out _ _ R1.out).mono ?_); rintro e w2 ⟨rfl, hr2, hb2⟩; have R2 := hr2.old ((Below.refl _ _).alloc (Nat.le_refl _) (.cells #[.int .i64 kd, .int .i64 v, .string ⟨#[]⟩, .slice none 0 0, .slice none 0 0] 26))) | (go_at_call 17; (with_reducible refine (cP.out _ _ R2).mono ?_); rintro e w3 ⟨rfl, hr3, hb3⟩; have hsz := hb2.size; have FX := ((F1.out.bex hb2 (by omega) (by simp; omega)).bex (b := w.heap.size + 1) (Bex.alloc (.cells #[.int .i64 kd, .int .i64 v, .string ⟨#[]⟩, .slice none 0 0, .slice none 0 0] 26)) (by omega) (by have := hb2.size; simp at this; omega)).bex hb3 (by omega) (by simp at hsz ⊢; omega); have FY := (Fiv.new w2 kd v 26).bex hb3 (by simp at hsz; omega) (by simp); obtain ⟨y0, y1, y2, y3, y4, _, _, _, _, _⟩ := FY; obtain ⟨x0, x1, x2, x3, x4⟩ := FX.own5 0 0; obtain ⟨f0, f1, f2, f3, f4, f5, f6, f7, f8, f9⟩ := FX; obtain ⟨r0, r1, r2, r3⟩ := hr3))
  have BA : Below w.heap.size w w2 := (((Below.refl _ _).alloc (Nat.le_refl _) _).alloc (by simp) _).trans (hb2.below (by omega) (by simp; omega))
  refine bodyPost_ret (v := .tuple #[node 0 0, .int .i64 2]) (by simp [results, Tryd.results8, go_sem, x0, x1, x2, x3, x4]) rfl ?_
  exact ⟨rfl, ((((((BA.alloc BA.size _).trans (hb3.below (by omega) (by have := BA.size; simp; omega))).setCell (Nat.le_refl _) _).setCell (Nat.le_refl _) _).setCell (Nat.le_refl _) _).setCell (Nat.le_refl _) _).setCell (Nat.le_refl _) _⟩
set_option maxHeartbeats 4000000 in
set_option maxRecDepth 100000 in
theorem parse_ok (s : ByteArray) (hs : s.size ≤ 10000) (q : Nat) (kd v : Int) (hq : q ≤ s.size) (T : TreeOf s q kd v 0) (hc : q + sp (s.data.toList.drop q) = s.size) (w : World) :
    Calls Tryd.prog 8 #[.string s] w fun e w' => e = .returned (.tuple #[node kd v, .int .i64 0]) ∧ Below w.heap.size w w' := by
  have cT := Lib.hid (show ∀ (W : World) (b : Nat), Rd W b s 0 → Calls Tryd.prog 16 #[.pointer (some ⟨b, 0, none⟩), .int .i64 1] W fun e w' => e = .returned (.tuple #[node kd v, .int .i64 0]) ∧ Rd w' b s q ∧ Bex b W w' from T)
  have F1 := Lib.hid ((Fiv.new w 0 0 26).bex (b := w.heap.size + 1) (Bex.alloc (.cells #[.string s, .int .i64 0] 42)) (by omega) (by simp))
  have R1 := Lib.hid (Rd.new (w.alloc (.cells #[.int .i64 0, .int .i64 0, .string ⟨#[]⟩, .slice none 0 0, .slice none 0 0] 26)) s 42)
  rw [show (w.alloc (.cells #[.int .i64 0, .int .i64 0, .string ⟨#[]⟩, .slice none 0 0, .slice none 0 0] 26)).heap.size = w.heap.size + 1 by simp] at R1
  have hn : ¬ ((s.size : Int) > 10000) := by omega
  have cP := Lib.hid (fun W b (hW : Rd W b s q) => peek_any s q b W hW hq (by omega))
  obtain ⟨K, hK⟩ : ∃ K, K = q + sp (s.data.toList.drop q) := ⟨_, rfl⟩
  rw [← hK] at cP hc
  have hl : ¬ ((K : Int) < (s.size : Int)) := by omega
  clear T hK
  go_enter Tryd.func8, Tryd.ntmps8
  go_wp2_with (first | (go_at_call 16; (with_reducible refine (cT.out _ _ R1.out).mono ?_); rintro e w2 ⟨rfl, hr2, hb2⟩; have R2 := hr2.old ((Below.refl _ _).alloc (Nat.le_refl _) (.cells #[.int .i64 kd, .int .i64 v, .string ⟨#[]⟩, .slice none 0 0, .slice none 0 0] 26))) | (go_at_call 17; (with_reducible refine (cP.out _ _ R2).mono ?_); rintro e w3 ⟨rfl, hr3, hb3⟩; have hsz := hb2.size; have FX := ((F1.out.bex hb2 (by omega) (by simp; omega)).bex (b := w.heap.size + 1) (Bex.alloc (.cells #[.int .i64 kd, .int .i64 v, .string ⟨#[]⟩, .slice none 0 0, .slice none 0 0] 26)) (by omega) (by have := hb2.size; simp at this; omega)).bex hb3 (by omega) (by simp at hsz ⊢; omega); have FY := (Fiv.new w2 kd v 26).bex hb3 (by simp at hsz; omega) (by simp); obtain ⟨y0, y1, y2, y3, y4, _, _, _, _, _⟩ := FY; obtain ⟨x0, x1, x2, x3, x4⟩ := FX.own5 kd v; obtain ⟨f0, f1, f2, f3, f4, f5, f6, f7, f8, f9⟩ := FX; obtain ⟨r0, r1, r2, r3⟩ := hr3))
  have BA : Below w.heap.size w w2 := (((Below.refl _ _).alloc (Nat.le_refl _) _).alloc (by simp) _).trans (hb2.below (by omega) (by simp; omega))
  refine bodyPost_ret (v := .tuple #[node kd v, .int .i64 0]) (by simp [results, Tryd.results8, go_sem, x0, x1, x2, x3, x4]) rfl ?_
  exact ⟨rfl, ((((((BA.alloc BA.size _).trans (hb3.below (by omega) (by have := BA.size; simp; omega))).setCell (Nat.le_refl _) _).setCell (Nat.le_refl _) _).setCell (Nat.le_refl _) _).setCell (Nat.le_refl _) _).setCell (Nat.le_refl _) _⟩
end Jn
end Go.Proofs.YtdecogndpnghkaaDoor
