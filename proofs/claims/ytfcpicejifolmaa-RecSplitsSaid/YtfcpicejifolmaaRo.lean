/-
  RecJoins: pieces. No condition but that texts are short.
-/
import Derived.Test.YtfcpicejifolmaaRh
import Derived.Test.YtfcpicejifolmaaRa
namespace Go.Proofs.Ytfcpicejifolmaa
open Go.ChangeShapes Go.WideShapes Go.ChangeAt Go.RowKit
namespace Rv
set_option linter.unusedVariables false
set_option linter.unusedSimpArgs false
/-- Where a row stands: nowhere, or in a block of its own. -/
def Seat (base : Nat) (w : World) (pa : Option Addr) (n ca : Nat) : Prop := (pa = none ∧ n = 0 ∧ ca = 0) ∨ ∃ g, pa = some ⟨g, 0, none⟩ ∧ base ≤ g ∧ g < w.heap.size
theorem RRow.form {w : World} {base e : Nat} {v : Value} {l : List Rc} (h : RRow w base e v l) : ∃ pa ca, v = .slice pa l.length ca ∧ Seat base w pa l.length ca := by
  rcases h.len with ⟨rfl, rfl⟩ | ⟨g, cap, rfl, h1, h2⟩
  · exact ⟨none, 0, rfl, .inl ⟨rfl, rfl, rfl⟩⟩
  · exact ⟨_, cap, rfl, .inr ⟨g, rfl, h1, h2⟩⟩
theorem Seat.old {base : Nat} {w w' : World} {pa : Option Addr} {n ca : Nat} (h : Seat base w pa n ca) (hb : w.heap.size ≤ w'.heap.size) : Seat base w' pa n ca := by
  rcases h with h | ⟨g, h1, h2, h3⟩
  · exact .inl h
  · exact .inr ⟨g, h1, h2, by omega⟩
theorem cat_app (a b : List Rc) : cat (a ++ b) = cat a ++ cat b := by simp [cat]
theorem cat_take_le (l : List Rc) (k : Nat) : (cat (l.take k)).length ≤ (cat l).length := by
  have h : cat l = cat (l.take k) ++ cat (l.drop k) := by rw [← cat_app, List.take_append_drop]
  rw [h, List.length_append]; omega
theorem raw_le {l : List Rc} {r : Rc} (h : r ∈ l) : r.raw.length ≤ (cat l).length := by
  obtain ⟨a, b, rfl⟩ := List.append_of_mem h
  rw [cat_app]
  simp [cat]; omega
theorem join_any (l : List Rc) (base : Nat) (pa : Option Addr) (ca : Nat) (w : World) (hr : RRow w base 30 (.slice pa l.length ca) l) (hf : Seat base w pa l.length ca) (hl : l.length ≤ 1000) (hc : (cat l).length ≤ 5000) :
    Calls Try.prog 25 #[.slice pa l.length ca] w fun e w' => e = .returned (.string (bin (cat l))) ∧ Below w.heap.size w w' := by
  rcases hf with ⟨rfl, h0, rfl⟩ | ⟨g, rfl, _, hg⟩
  · have : l = [] := List.length_eq_zero_iff.1 h0
    subst this
    exact join_nil w
  · exact join_some l base g ca w hr hg hl hc (fun k => Nat.le_trans (cat_take_le l k) hc)
theorem split_ok (s : ByteArray) (p : List Rc) (w : World) (hs : s.size ≤ 1000) (h : rsplit s.data.toList = some p) :
    Calls Try.prog 20 #[.string s] w fun e w' => ∃ pa ca, e = .returned (.tuple #[.slice pa p.length ca, .int .i64 0]) ∧ RRow w' w.heap.size 30 (.slice pa p.length ca) p ∧ Seat w.heap.size w' pa p.length ca ∧ Below w.heap.size w w' := by
  have c := split_any s w hs
  rw [h] at c
  refine c.mono ?_
  rintro e w' ⟨v, rfl, hr, hb⟩
  obtain ⟨pa, ca, rfl, hf⟩ := hr.form
  exact ⟨pa, ca, rfl, hr, hf, hb⟩
theorem split_no (s : ByteArray) (w : World) (hs : s.size ≤ 1000) (h : rsplit s.data.toList = none) :
    Calls Try.prog 20 #[.string s] w fun e w' => e = .returned (.tuple #[.slice none 0 0, .int .i64 2]) ∧ Below w.heap.size w w' := by
  have c := split_any s w hs
  rw [h] at c
  exact c
/-- A record's cells at a place. -/
def Fat (W : World) (g o : Nat) (r : Rc) : Prop := ∀ j u, (rcells r)[j]? = some u → W.cell? ⟨g, o + j, none⟩ = some u
theorem Fat.old {W W' : World} {g o B : Nat} {r : Rc} (h : Fat W g o r) (hb : Below B W W') (hg : g < B) : Fat W' g o r :=
  fun j u hj => (hb.cell (p := ⟨g, o + j, none⟩) hg).trans (h j u hj)
theorem RRow.fat {W : World} {base e g n cap : Nat} {l : List Rc} (h : RRow W base e (.slice (some ⟨g, 0, none⟩) n cap) l) (i : Nat) {r : Rc} (hi : l[i]? = some r) : Fat W g (i * 5) r :=
  fun j u hj => h.cell i j hi hj
theorem Fat.five {W : World} {g o : Nat} {r : Rc} (h : Fat W g o r) : W.cell? ⟨g, o, none⟩ = some (.int .i64 (r.num : Int)) ∧ W.cell? ⟨g, o + 1, none⟩ = some (.int .i64 (r.wire : Int)) ∧ W.cell? ⟨g, o + 2, none⟩ = some (.int .u64 (r.n : Int)) ∧ W.cell? ⟨g, o + 3, none⟩ = some (.string (bin r.s)) ∧ W.cell? ⟨g, o + 4, none⟩ = some (.string (bin r.raw)) :=
  ⟨h 0 _ rfl, h 1 _ rfl, h 2 _ rfl, h 3 _ rfl, h 4 _ rfl⟩
set_option maxHeartbeats 1000000 in
theorem joins_long (s t : ByteArray) (w : World) (hs : s.size ≤ 9223372036854775807) (ht : t.size ≤ 9223372036854775807) (hl : 100 < s.size ∨ 100 < t.size) :
    Calls Try.prog 5 #[.string s, .string t] w fun e w' => e = .returned (.bool true) ∧ Below w.heap.size w w' := by
  by_cases h1 : 100 < s.size
  · go_enter Try.func5, Try.ntmps5
    go_wp2_with (go_at_call 15; refine (Rf.begun1 _).mono ?_; rintro e w1 ⟨rfl, hb1⟩)
    go_ret
    exact ⟨rfl, hb1⟩
  · have h2 : 100 < t.size := by omega
    go_enter Try.func5, Try.ntmps5
    go_wp2_with (go_at_call 15; refine (Rf.begun1 _).mono ?_; rintro e w1 ⟨rfl, hb1⟩)
    go_ret
    exact ⟨rfl, hb1⟩
set_option maxHeartbeats 2000000 in
theorem joins_nn (s t : ByteArray) (w : World) (hs : s.size ≤ 100) (ht : t.size ≤ 100) (es : rsplit s.data.toList = none) (et : rsplit t.data.toList = none) :
    Calls Try.prog 5 #[.string s, .string t] w fun e w' => e = .returned (.bool true) ∧ Below w.heap.size w w' := by
  have cS := Lib.hid (fun W => split_no s W (by omega) es)
  have cT := Lib.hid (fun W => split_no t W (by omega) et)
  go_enter Try.func5, Try.ntmps5
  go_wp2_with (first | (go_at_call 15; refine (Rf.begun1 _).mono ?_; rintro e w1 ⟨rfl, hb1⟩) | (go_at_call 20; (with_reducible refine (cS.out _).mono ?_); rintro e w2 ⟨rfl, hb2⟩) | (go_at_call 20; (with_reducible refine (cT.out _).mono ?_); rintro e w3 ⟨rfl, hb3⟩))
  go_ret
  have e1 := hb1.size
  have e2 := hb2.size
  exact ⟨rfl, (hb1.trans (hb2.mono e1)).trans (hb3.mono (by omega))⟩
set_option maxHeartbeats 2000000 in
theorem joins_ny (s t : ByteArray) (w : World) (q : List Rc) (hs : s.size ≤ 100) (ht : t.size ≤ 100) (es : rsplit s.data.toList = none) (et : rsplit t.data.toList = some q) :
    Calls Try.prog 5 #[.string s, .string t] w fun e w' => e = .returned (.bool true) ∧ Below w.heap.size w w' := by
  have cS := Lib.hid (fun W => split_no s W (by omega) es)
  have cT := Lib.hid (fun W => split_ok t q W (by omega) et)
  go_enter Try.func5, Try.ntmps5
  go_wp2_with (first | (go_at_call 15; refine (Rf.begun1 _).mono ?_; rintro e w1 ⟨rfl, hb1⟩) | (go_at_call 20; (with_reducible refine (cS.out _).mono ?_); rintro e w2 ⟨rfl, hb2⟩) | (go_at_call 20; (with_reducible refine (cT.out _).mono ?_); rintro e w3 ⟨pa, ca, rfl, hr3, hf3, hb3⟩))
  go_ret
  have e1 := hb1.size
  have e2 := hb2.size
  exact ⟨rfl, (hb1.trans (hb2.mono e1)).trans (hb3.mono (by omega))⟩
set_option maxHeartbeats 2000000 in
theorem joins_yn (s t : ByteArray) (w : World) (p : List Rc) (hs : s.size ≤ 100) (ht : t.size ≤ 100) (es : rsplit s.data.toList = some p) (et : rsplit t.data.toList = none) :
    Calls Try.prog 5 #[.string s, .string t] w fun e w' => e = .returned (.bool true) ∧ Below w.heap.size w w' := by
  have cS := Lib.hid (fun W => split_ok s p W (by omega) es)
  have cT := Lib.hid (fun W => split_no t W (by omega) et)
  go_enter Try.func5, Try.ntmps5
  go_wp2_with (first | (go_at_call 15; refine (Rf.begun1 _).mono ?_; rintro e w1 ⟨rfl, hb1⟩) | (go_at_call 20; (with_reducible refine (cS.out _).mono ?_); rintro e w2 ⟨pa, ca, rfl, hr2, hf2, hb2⟩) | (go_at_call 20; (with_reducible refine (cT.out _).mono ?_); rintro e w3 ⟨rfl, hb3⟩))
  go_ret
  have e1 := hb1.size
  have e2 := hb2.size
  exact ⟨rfl, (hb1.trans (hb2.mono e1)).trans (hb3.mono (by omega))⟩
end Rv
end Go.Proofs.Ytfcpicejifolmaa
