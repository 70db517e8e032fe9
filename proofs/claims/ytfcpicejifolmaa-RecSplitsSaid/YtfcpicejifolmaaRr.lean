/-
  RecSplits, whole. No condition.
-/
import Derived.Test.YtfcpicejifolmaaRc
import Derived.Test.YtfcpicejifolmaaRd
import Derived.Test.YtfcpicejifolmaaRf
namespace Go.Proofs.Ytfcpicejifolmaa
open Go.ChangeShapes Go.WideShapes Go.ChangeAt Go.RowKit
namespace Rv
set_option linter.unusedVariables false
set_option linter.unusedSimpArgs false
/-- What both tell: how much, and why not. -/
def spl (l : List UInt8) : List Rc × Int := match rsplit l with
  | some p => (p, 0)
  | none => ([], 2)
theorem spl_cat (l : List UInt8) : (cat (spl l).1).length ≤ l.length ∧ (spl l).1.length ≤ l.length := by
  unfold spl
  split
  · rename_i p hp
    obtain ⟨h1, _, h3, _⟩ := rsplit_all _ _ p (Nat.le_refl _) hp
    simp only
    rw [h1]; exact ⟨Nat.le_refl _, h3⟩
  · exact ⟨Nat.zero_le _, Nat.zero_le _⟩
def Both (l : List Rc) (er : Int) (w : World) (e : Ending) (w' : World) : Prop := ∃ pa ca, e = .returned (.tuple #[.slice pa l.length ca, .int .i64 er]) ∧ RRow w' w.heap.size 30 (.slice pa l.length ca) l ∧ Seat w.heap.size w' pa l.length ca ∧ Below w.heap.size w w'
theorem both_of {s : ByteArray} {w : World} {e : Ending} {w' : World} (h : match rsplit s.data.toList with
      | none => e = .returned (.tuple #[.slice none 0 0, .int .i64 2]) ∧ Below w.heap.size w w'
      | some l => Rows l w.heap.size w e w') : Both (spl s.data.toList).1 (spl s.data.toList).2 w e w' := by
  unfold spl
  split at h
  · rename_i hn
    obtain ⟨rfl, hb⟩ := h
    rw [hn]
    exact ⟨none, 0, rfl, RRow.nil _ _ _, .inl ⟨rfl, rfl, rfl⟩, hb⟩
  · rename_i l hl
    obtain ⟨v, rfl, hr, hb⟩ := h
    rw [hl]
    obtain ⟨pa, ca, rfl, hf⟩ := hr.form
    exact ⟨pa, ca, rfl, hr, hf, hb⟩
theorem five_box (W : World) (a b c d f : Value) (e : TypeId) : Five (W.alloc (.cells #[a, b, c, d, f] e)) W.heap.size a b c d f := by
  have h : ∀ j u, [a, b, c, d, f][j]? = some u → (W.alloc (.cells #[a, b, c, d, f] e)).cell? ⟨W.heap.size, j, none⟩ = some u := fun j u hj => by
    have := rc_src W a b c d f e j u hj
    rw [Addr.add_lit, Nat.zero_add] at this; exact this
  exact ⟨h 0 _ rfl, h 1 _ rfl, h 2 _ rfl, h 3 _ rfl, h 4 _ rfl⟩
set_option maxHeartbeats 1000000 in
theorem splits_long (s : ByteArray) (num wire n : Int) (x raw : ByteArray) (w : World) (hs : s.size ≤ 9223372036854775807) (hx : x.size ≤ 9223372036854775807) (hl : 200 < s.size ∨ 50 < x.size) :
    Calls Try.prog 4 #[.string s, .agg #[.int .i64 num, .int .i64 wire, .int .u64 n, .string x, .string raw]] w fun e w' => e = .returned (.bool true) ∧ Below w.heap.size w w' := by
  have HC : Hid (∀ W, Below (w.alloc (.cells #[.int .i64 num, .int .i64 wire, .int .u64 n, .string x, .string raw] 30)).heap.size (w.alloc (.cells #[.int .i64 num, .int .i64 wire, .int .u64 n, .string x, .string raw] 30)) W → W.cell? ⟨w.heap.size, 3, none⟩ = some (.string x)) := fun W h => ((five_box w _ _ _ _ _ _).old h (by simp)).2.2.2.1
  by_cases h1 : 200 < s.size
  · go_enter Try.func4, Try.ntmps4
    go_wp2_with (go_at_call 15; refine (Rf.begun1 _).mono ?_; rintro e w1 ⟨rfl, hb1⟩; have hc := HC.out w1 hb1)
    go_ret
    exact ⟨rfl, ((Below.refl w.heap.size w).alloc (Nat.le_refl _) _).trans (hb1.mono (by simp))⟩
  · have h2 : 50 < x.size := by omega
    go_enter Try.func4, Try.ntmps4
    go_wp2_with (go_at_call 15; refine (Rf.begun1 _).mono ?_; rintro e w1 ⟨rfl, hb1⟩; have hc := HC.out w1 hb1)
    go_ret
    exact ⟨rfl, ((Below.refl w.heap.size w).alloc (Nat.le_refl _) _).trans (hb1.mono (by simp))⟩
set_option maxHeartbeats 4000000 in
set_option maxRecDepth 100000 in
theorem splits_law (s : ByteArray) (num wire : Int) (n : Nat) (x raw : ByteArray) (w : World) (hs : s.size ≤ 200) (hx : x.size ≤ 50) (hn : n < 18446744073709551616) (b1 : -9223372036854775808 ≤ num) (b2 : num ≤ 9223372036854775807) (b3 : -9223372036854775808 ≤ wire) (b4 : wire ≤ 9223372036854775807) :
    Calls Try.prog 4 #[.string s, .agg #[.int .i64 num, .int .i64 wire, .int .u64 (n : Int), .string x, .string raw]] w fun e w' => e = .returned (.bool true) ∧ Below w.heap.size w w' := by
  have cS := Lib.hid (fun W => (split_any s W (by omega)).mono fun e w' h => both_of h)
  have cD := Lib.hid (fun W => (splitd_any s W (by omega)).mono fun e w' h => both_of h)
  have hlen := spl_cat s.data.toList
  have hsl : s.data.toList.length = s.size := by simp
  rw [hsl] at hlen
  obtain ⟨l, hl⟩ : ∃ l, l = (spl s.data.toList).1 := ⟨_, rfl⟩
  obtain ⟨er, her⟩ : ∃ er, er = (spl s.data.toList).2 := ⟨_, rfl⟩
  rw [← hl, ← her] at cS cD
  rw [← hl] at hlen
  obtain ⟨hl1, hl2⟩ := hlen
  obtain ⟨T, hT⟩ : ∃ T, T = bin (putB num wire n x.data.toList) := ⟨_, rfl⟩
  obtain ⟨J, hJ⟩ : ∃ J, J = bin (cat l) := ⟨_, rfl⟩
  have cP := Lib.hid (fun W => putrc_any num wire n x raw W hn (by omega) b1 b2 b3 b4)
  have cQ := Lib.hid (fun W => putdc_any num wire n x raw W hn (by omega) b1 b2 b3 b4)
  rw [← hT] at cP cQ
  have cM := Lib.hid (fun base base' pa pb ca cb W hr hf hr' hf' => same_any l base base' pa pb ca cb W hr hf hr' hf' (by omega))
  have cJ := Lib.hid (fun base pa ca W hr hf => join_any l base pa ca W hr hf (by omega) (by omega))
  have cK := Lib.hid (fun base pa ca W hr hf => joind_any l base pa ca W hr hf (by omega) (by omega))
  rw [← hJ] at cJ cK
  have hni : (n : Int) ≤ 18446744073709551615 := by omega
  have HC : Hid (∀ W, Below (w.alloc (.cells #[.int .i64 num, .int .i64 wire, .int .u64 (n : Int), .string x, .string raw] 30)).heap.size (w.alloc (.cells #[.int .i64 num, .int .i64 wire, .int .u64 (n : Int), .string x, .string raw] 30)) W → Five W w.heap.size (.int .i64 num) (.int .i64 wire) (.int .u64 (n : Int)) (.string x) (.string raw)) := fun W h => (five_box w _ _ _ _ _ _).old h (by simp)
  clear hl her hT hJ hsl
  go_enter Try.func4, Try.ntmps4
  go_wp2_with (first | (go_at_call 15; refine (Rf.begun1 _).mono ?_; rintro e w1 ⟨rfl, hb1⟩; have hc3 := (HC.out w1 hb1).2.2.2.1) | (go_at_call 20; (with_reducible refine (cS.out _).mono ?_); rintro e w2 ⟨pa, ca, rfl, hr2, hf2, hb2⟩) | (go_at_call 21; (with_reducible refine (cD.out _).mono ?_); rintro e w3 ⟨pb, cb, rfl, hr3, hf3, hb3⟩))
  have e1 := hb1.size
  have e2 := hb2.size
  have e3 := hb3.size
  have ra := hr2.old hb3 (Nat.le_refl _)
  have sa := hf2.old (w' := w3) (by omega)
  have RA := Lib.hid ra
  have SA := Lib.hid sa
  have RB := Lib.hid hr3
  have SB := Lib.hid hf3
  have B3 : Below (w.alloc (.cells #[.int .i64 num, .int .i64 wire, .int .u64 (n : Int), .string x, .string raw] 30)).heap.size (w.alloc (.cells #[.int .i64 num, .int .i64 wire, .int .u64 (n : Int), .string x, .string raw] 30)) w3 := (hb1.trans (hb2.mono (by omega))).trans (hb3.mono (by omega))
  have HF : Hid (∀ W, Below w3.heap.size w3 W → Five W w.heap.size (.int .i64 num) (.int .i64 wire) (.int .u64 (n : Int)) (.string x) (.string raw)) := fun W h => HC.out W (B3.trans (h.mono (by omega)))
  have HB3 := Lib.hid B3
  clear hr2 hf2 hr3 hf3 ra sa B3 hb1 hb2 hb3 e1 e2 e3 hc3
  refine wp_region_noPanic ?_
  refine wp_region_held_drew (S := fun W => Below w3.heap.size w3 W) (by kernel_rfl) (Below.refl _ _).drew (fun hS => ?_)
  refine wpAnyH_take (i := 0) (v := .int .i64 er) rfl (by kernel_rfl) (by kernel_rfl) (by kernel_rfl) (fun _ _ _ h => False.elim h) (Or.inl ⟨by kernel_rfl, fun w' hw' => by (try go_simp); (try first | with_reducible rfl | decide | omega)⟩) hS ?_
  try simp only [Act.put, List.getElem_toArray, List.getElem_cons_zero, List.getElem_cons_succ, List.setIfInBounds_toArray, List.set_cons_zero, List.set_cons_succ]
  refine wpAnyH_take (i := 1) (v := .int .i64 er) rfl (by kernel_rfl) (by kernel_rfl) (by kernel_rfl) (fun _ _ _ h => False.elim h) (Or.inl ⟨by kernel_rfl, fun w' hw' => by (try go_simp); (try first | with_reducible rfl | decide | omega)⟩) hS ?_
  try simp only [Act.put, List.getElem_toArray, List.getElem_cons_zero, List.getElem_cons_succ, List.setIfInBounds_toArray, List.set_cons_zero, List.set_cons_succ]
  refine wpAnyH_take (i := 2) (v := .bool true) rfl (by kernel_rfl) (by kernel_rfl) (by kernel_rfl) (fun _ _ _ h => False.elim h) (Or.inl ⟨by kernel_rfl, fun w' hw' => by (try go_simp); (try first | with_reducible rfl | decide | omega)⟩) hS ?_
  try simp only [Act.put, List.getElem_toArray, List.getElem_cons_zero, List.getElem_cons_succ, List.setIfInBounds_toArray, List.set_cons_zero, List.set_cons_succ]
  refine wpAnyH_take (i := 3) (v := .bool true) rfl (by kernel_rfl) (by kernel_rfl) (by kernel_rfl) (fun _ _ _ h => False.elim h) (Or.inl ⟨by kernel_rfl, fun w' hw' => by (try go_simp); (try first | with_reducible rfl | decide | omega)⟩) hS ?_
  try simp only [Act.put, List.getElem_toArray, List.getElem_cons_zero, List.getElem_cons_succ, List.setIfInBounds_toArray, List.set_cons_zero, List.set_cons_succ]
  refine wpAnyH_take (i := 4) (v := .slice pa l.length ca) rfl (by kernel_rfl) (by kernel_rfl) (by kernel_rfl) (fun _ _ _ h => False.elim h) (Or.inl ⟨by kernel_rfl, fun w' hw' => by (try go_simp); (try first | with_reducible rfl | decide | omega)⟩) hS ?_
  try simp only [Act.put, List.getElem_toArray, List.getElem_cons_zero, List.getElem_cons_succ, List.setIfInBounds_toArray, List.set_cons_zero, List.set_cons_succ]
  refine wpAnyH_take (i := 5) (v := .slice pb l.length cb) rfl (by kernel_rfl) (by kernel_rfl) (by kernel_rfl) (fun _ _ _ h => False.elim h) (Or.inl ⟨by kernel_rfl, fun w' hw' => by (try go_simp); (try first | with_reducible rfl | decide | omega)⟩) hS ?_
  try simp only [Act.put, List.getElem_toArray, List.getElem_cons_zero, List.getElem_cons_succ, List.setIfInBounds_toArray, List.set_cons_zero, List.set_cons_succ]
  refine wpAnyH_ready (rs := [6]) (by kernel_rfl) (by simp) ?_
  refine AllReadyH.cons rfl (fun K hK => ?_) AllReadyH.nil
  go_simp
  go_at_call 22
  refine (cM.out _ _ _ _ _ _ _ (RA.out.old hS (Nat.le_refl _)) (SA.out.old hS.size) (RB.out.old hS (Nat.le_refl _)) (SB.out.old hS.size)).mono ?_
  rintro e w5 ⟨rfl, hb5⟩
  go_wp2_with fail
  refine hK.out _ _ (hS.trans (hb5.mono hS.size)) (fun hS => ?_)
  clear hK K
  try simp only [Act.put, List.getElem_toArray, List.getElem_cons_zero, List.getElem_cons_succ, List.setIfInBounds_toArray, List.set_cons_zero, List.set_cons_succ]
  refine wpAnyH_take (i := 7) (v := .bool true) rfl (by kernel_rfl) (by kernel_rfl) (by kernel_rfl) (fun _ _ _ h => False.elim h) (Or.inl ⟨by kernel_rfl, fun w' hw' => by (try go_simp); (try first | with_reducible rfl | decide | omega)⟩) hS ?_
  try simp only [Act.put, List.getElem_toArray, List.getElem_cons_zero, List.getElem_cons_succ, List.setIfInBounds_toArray, List.set_cons_zero, List.set_cons_succ]
  refine wpAnyH_take (i := 8) (v := .bool true) rfl (by kernel_rfl) (by kernel_rfl) (by kernel_rfl) (fun _ _ _ h => False.elim h) (Or.inl ⟨by kernel_rfl, fun w' hw' => by (try go_simp); (try first | with_reducible rfl | decide | omega)⟩) hS ?_
  try simp only [Act.put, List.getElem_toArray, List.getElem_cons_zero, List.getElem_cons_succ, List.setIfInBounds_toArray, List.set_cons_zero, List.set_cons_succ]
  refine wpAnyH_take (i := 9) (v := .agg #[.int .i64 num, .int .i64 wire, .int .u64 (n : Int), .string x, .string raw]) rfl (by kernel_rfl) (by kernel_rfl) (by kernel_rfl) (fun _ _ _ h => False.elim h) (Or.inl ⟨by kernel_rfl, fun w' hw' => by obtain ⟨q0, q1, q2, q3, q4⟩ := HF.out w' hw'; (try go_simp); (try first | with_reducible rfl | decide | omega)⟩) hS ?_
  try simp only [Act.put, List.getElem_toArray, List.getElem_cons_zero, List.getElem_cons_succ, List.setIfInBounds_toArray, List.set_cons_zero, List.set_cons_succ]
  refine wpAnyH_take (i := 11) (v := .agg #[.int .i64 num, .int .i64 wire, .int .u64 (n : Int), .string x, .string raw]) rfl (by kernel_rfl) (by kernel_rfl) (by kernel_rfl) (fun _ _ _ h => False.elim h) (Or.inl ⟨by kernel_rfl, fun w' hw' => by obtain ⟨q0, q1, q2, q3, q4⟩ := HF.out w' hw'; (try go_simp); (try first | with_reducible rfl | decide | omega)⟩) hS ?_
  try simp only [Act.put, List.getElem_toArray, List.getElem_cons_zero, List.getElem_cons_succ, List.setIfInBounds_toArray, List.set_cons_zero, List.set_cons_succ]
  refine wpAnyH_ready (rs := [10]) (by kernel_rfl) (by simp) ?_
  refine AllReadyH.cons rfl (fun K hK => ?_) AllReadyH.nil
  go_simp
  go_at_call 23
  refine (cP.out _).mono ?_
  rintro e w5 ⟨rfl, hb5⟩
  go_wp2_with fail
  refine hK.out _ _ (hS.trans (hb5.mono hS.size)) (fun hS => ?_)
  clear hK K
  try simp only [Act.put, List.getElem_toArray, List.getElem_cons_zero, List.getElem_cons_succ, List.setIfInBounds_toArray, List.set_cons_zero, List.set_cons_succ]
  refine wpAnyH_ready (rs := [12]) (by kernel_rfl) (by simp) ?_
  refine AllReadyH.cons rfl (fun K hK => ?_) AllReadyH.nil
  go_simp
  go_at_call 24
  refine (cQ.out _).mono ?_
  rintro e w5 ⟨rfl, hb5⟩
  go_wp2_with fail
  refine hK.out _ _ (hS.trans (hb5.mono hS.size)) (fun hS => ?_)
  clear hK K
  try simp only [Act.put, List.getElem_toArray, List.getElem_cons_zero, List.getElem_cons_succ, List.setIfInBounds_toArray, List.set_cons_zero, List.set_cons_succ]
  refine wpAnyH_take (i := 13) (v := .bool true) rfl (by kernel_rfl) (by kernel_rfl) (by kernel_rfl) (fun _ _ _ h => False.elim h) (Or.inl ⟨by kernel_rfl, fun w' hw' => by (try go_simp); (try first | with_reducible rfl | decide | omega)⟩) hS ?_
  try simp only [Act.put, List.getElem_toArray, List.getElem_cons_zero, List.getElem_cons_succ, List.setIfInBounds_toArray, List.set_cons_zero, List.set_cons_succ]
  refine wpAnyH_take (i := 14) (v := .bool true) rfl (by kernel_rfl) (by kernel_rfl) (by kernel_rfl) (fun _ _ _ h => False.elim h) (Or.inl ⟨by kernel_rfl, fun w' hw' => by (try go_simp); (try first | with_reducible rfl | decide | omega)⟩) hS ?_
  try simp only [Act.put, List.getElem_toArray, List.getElem_cons_zero, List.getElem_cons_succ, List.setIfInBounds_toArray, List.set_cons_zero, List.set_cons_succ]
  refine wpAnyH_take (i := 15) (v := .bool true) rfl (by kernel_rfl) (by kernel_rfl) (by kernel_rfl) (fun _ _ _ h => False.elim h) (Or.inl ⟨by kernel_rfl, fun w' hw' => by (try go_simp); (try first | with_reducible rfl | decide | omega)⟩) hS ?_
  try simp only [Act.put, List.getElem_toArray, List.getElem_cons_zero, List.getElem_cons_succ, List.setIfInBounds_toArray, List.set_cons_zero, List.set_cons_succ]
  refine wpAnyH_take (i := 16) (v := .slice pb l.length cb) rfl (by kernel_rfl) (by kernel_rfl) (by kernel_rfl) (fun _ _ _ h => False.elim h) (Or.inl ⟨by kernel_rfl, fun w' hw' => by (try go_simp); (try first | with_reducible rfl | decide | omega)⟩) hS ?_
  try simp only [Act.put, List.getElem_toArray, List.getElem_cons_zero, List.getElem_cons_succ, List.setIfInBounds_toArray, List.set_cons_zero, List.set_cons_succ]
  refine wpAnyH_take (i := 18) (v := .slice pb l.length cb) rfl (by kernel_rfl) (by kernel_rfl) (by kernel_rfl) (fun _ _ _ h => False.elim h) (Or.inl ⟨by kernel_rfl, fun w' hw' => by (try go_simp); (try first | with_reducible rfl | decide | omega)⟩) hS ?_
  try simp only [Act.put, List.getElem_toArray, List.getElem_cons_zero, List.getElem_cons_succ, List.setIfInBounds_toArray, List.set_cons_zero, List.set_cons_succ]
  refine wpAnyH_ready (rs := [17]) (by kernel_rfl) (by simp) ?_
  refine AllReadyH.cons rfl (fun K hK => ?_) AllReadyH.nil
  go_simp
  go_at_call 25
  refine (cJ.out _ _ _ _ (RB.out.old hS (Nat.le_refl _)) (SB.out.old hS.size)).mono ?_
  rintro e w5 ⟨rfl, hb5⟩
  go_wp2_with fail
  refine hK.out _ _ (hS.trans (hb5.mono hS.size)) (fun hS => ?_)
  clear hK K
  try simp only [Act.put, List.getElem_toArray, List.getElem_cons_zero, List.getElem_cons_succ, List.setIfInBounds_toArray, List.set_cons_zero, List.set_cons_succ]
  refine wpAnyH_ready (rs := [19]) (by kernel_rfl) (by simp) ?_
  refine AllReadyH.cons rfl (fun K hK => ?_) AllReadyH.nil
  go_simp
  go_at_call 26
  refine (cK.out _ _ _ _ (RB.out.old hS (Nat.le_refl _)) (SB.out.old hS.size)).mono ?_
  rintro e w5 ⟨rfl, hb5⟩
  go_wp2_with fail
  refine hK.out _ _ (hS.trans (hb5.mono hS.size)) (fun hS => ?_)
  clear hK K
  try simp only [Act.put, List.getElem_toArray, List.getElem_cons_zero, List.getElem_cons_succ, List.setIfInBounds_toArray, List.set_cons_zero, List.set_cons_succ]
  refine wpAnyH_take (i := 20) (v := .bool true) rfl (by kernel_rfl) (by kernel_rfl) (by kernel_rfl) (fun _ _ _ h => False.elim h) (Or.inl ⟨by kernel_rfl, fun w' hw' => by (try go_simp); (try first | with_reducible rfl | decide | omega)⟩) hS ?_
  try simp only [Act.put, List.getElem_toArray, List.getElem_cons_zero, List.getElem_cons_succ, List.setIfInBounds_toArray, List.set_cons_zero, List.set_cons_succ]
  refine wpAnyH_take (i := 21) (v := .bool true) rfl (by kernel_rfl) (by kernel_rfl) (by kernel_rfl) (fun _ _ _ h => False.elim h) (Or.inl ⟨by kernel_rfl, fun w' hw' => by (try go_simp); (try first | with_reducible rfl | decide | omega)⟩) hS ?_
  try simp only [Act.put, List.getElem_toArray, List.getElem_cons_zero, List.getElem_cons_succ, List.setIfInBounds_toArray, List.set_cons_zero, List.set_cons_succ]
  refine wpAnyH_take (i := 22) (v := .bool true) rfl (by kernel_rfl) (by kernel_rfl) (by kernel_rfl) (fun _ _ _ h => False.elim h) (Or.inl ⟨by kernel_rfl, fun w' hw' => by (try go_simp); (try first | with_reducible rfl | decide | omega)⟩) hS ?_
  try simp only [Act.put, List.getElem_toArray, List.getElem_cons_zero, List.getElem_cons_succ, List.setIfInBounds_toArray, List.set_cons_zero, List.set_cons_succ]
  refine wpAnyH_done (by kernel_rfl) ?_ _
  refine NoPanic.normal ?_
  have hF := ((Below.refl w.heap.size w).alloc (Nat.le_refl _) _).trans ((HB3.out.mono (by simp)).trans (hS.mono (by have := HB3.out.size; simp at this; omega)))
  clear HF HB3
  go_wp2
  go_ret
  exact ⟨rfl, hF⟩
theorem splits_law_wf (s : ByteArray) (num wire n : Int) (x raw : ByteArray) (w : World) (hs : s.size ≤ maxLen) (h0 : (Lit.int .i64 num).wf = true) (h1 : (Lit.int .i64 wire).wf = true) (h2 : (Lit.int .u64 n).wf = true) (hx : x.size ≤ maxLen) :
    Calls Try.prog 4 #[.string s, .agg #[.int .i64 num, .int .i64 wire, .int .u64 n, .string x, .string raw]] w fun e w' => e = .returned (.bool true) ∧ Below w.heap.size w w' := by
  unfold maxLen at hs hx
  by_cases hl : 200 < s.size ∨ 50 < x.size
  · exact splits_long s num wire n x raw w (by omega) (by omega) hl
  · have b0 : -9223372036854775808 ≤ num ∧ num ≤ 9223372036854775807 := by simp [Lit.wf, IntKind.min, IntKind.max, IntKind.signed, IntKind.bits] at h0; omega
    have b1 : -9223372036854775808 ≤ wire ∧ wire ≤ 9223372036854775807 := by simp [Lit.wf, IntKind.min, IntKind.max, IntKind.signed, IntKind.bits] at h1; omega
    have b2 := u64_lt h2
    obtain ⟨n, rfl⟩ := Int.eq_ofNat_of_zero_le b2.1
    exact splits_law s num wire n x raw w (by omega) (by omega) (by omega) b0.1 b0.2 b1.1 b1.2
end Rv
end Go.Proofs.Ytfcpicejifolmaa
