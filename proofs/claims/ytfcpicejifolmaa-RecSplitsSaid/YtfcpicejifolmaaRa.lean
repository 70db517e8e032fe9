/-
  RecBack: what is written is split as it was, and is no longer than it came. No condition.
-/
import Derived.Test.YtfcpicejifolmaaRb
import Derived.Handy
namespace Go.Proofs.Ytfcpicejifolmaa
open Go.ChangeShapes Go.WideShapes Go.ChangeAt Go.RowKit
namespace Rv
set_option linter.unusedVariables false
set_option linter.unusedSimpArgs false
theorem bin_id (s : ByteArray) : bin s.data.toList = s := (bin_of s rfl).symm
theorem back_split {x W n : Nat} {S T : ByteArray} (h0 : 1 ≤ x) (h1 : x ≤ 536870911) (hw : W = 0 ∨ W = 1 ∨ W = 2 ∨ W = 5) (hn : n < 18446744073709551616) (h4 : W = 5 → n < 4294967296) (hs : S.size ≤ 5000) (e1 : W = 2 → n = 0) (e2 : W ≠ 2 → S.data.toList = []) (hT : T = bin (rput x W n S.data.toList)) :
    rsplit T.data.toList = some [⟨x, W, n, S.data.toList, T.data.toList⟩] := by
  have hl : S.data.toList.length = S.size := by simp
  have := rsplit_rput h0 h1 hw hn h4 (s := S.data.toList) (by omega)
  rw [hT]
  show rsplit (rput x W n S.data.toList) = some [⟨x, W, n, S.data.toList, rput x W n S.data.toList⟩]
  rw [this]
  unfold rback
  by_cases h2 : W = 2
  · rw [if_pos h2, if_pos h2, e1 h2]
  · rw [if_neg h2, if_neg h2, e2 h2]
theorem back_cells {w : World} {base e g k cap x W n : Nat} {S T : ByteArray} (h : RRow w base e (.slice (some ⟨g, 0, none⟩) k cap) [⟨x, W, n, S.data.toList, T.data.toList⟩]) :
    w.cell? ⟨g, 0, none⟩ = some (.int .i64 (x : Int)) ∧ w.cell? ⟨g, 1, none⟩ = some (.int .i64 (W : Int)) ∧ w.cell? ⟨g, 2, none⟩ = some (.int .u64 (n : Int)) ∧ w.cell? ⟨g, 3, none⟩ = some (.string S) ∧ w.cell? ⟨g, 4, none⟩ = some (.string T) := by
  refine ⟨h.cell 0 0 rfl rfl, h.cell 0 1 rfl rfl, h.cell 0 2 rfl rfl, ?_, ?_⟩
  · have := h.cell 0 3 rfl rfl
    simp only [bin_id] at this; exact this
  · have := h.cell 0 4 rfl rfl
    simp only [bin_id] at this; exact this
theorem rc_src3 (W : World) (o : Obj) (a b c d f : Value) (e : TypeId) (j : Nat) (u : Value) (hj : [a, b, c, d, f][j]? = some u) : ((W.alloc o).alloc (.cells #[a, b, c, d, f] e)).cell? ⟨W.heap.size + 1, j, none⟩ = some u := by
  have h := rc_src (W.alloc o) a b c d f e j u hj
  rw [Addr.add_lit, Nat.zero_add, show (W.alloc o).heap.size = W.heap.size + 1 by simp] at h
  exact h
/-- The five cells of a record. -/
def Five (W : World) (g : Nat) (a b c d f : Value) : Prop := W.cell? ⟨g, 0, none⟩ = some a ∧ W.cell? ⟨g, 1, none⟩ = some b ∧ W.cell? ⟨g, 2, none⟩ = some c ∧ W.cell? ⟨g, 3, none⟩ = some d ∧ W.cell? ⟨g, 4, none⟩ = some f
theorem Five.old {W W' : World} {g B : Nat} {a b c d f : Value} (h : Five W g a b c d f) (hb : Below B W W') (hg : g < B) : Five W' g a b c d f :=
  ⟨(hb.cell (p := ⟨g, 0, none⟩) hg).trans h.1, (hb.cell (p := ⟨g, 1, none⟩) hg).trans h.2.1, (hb.cell (p := ⟨g, 2, none⟩) hg).trans h.2.2.1, (hb.cell (p := ⟨g, 3, none⟩) hg).trans h.2.2.2.1, (hb.cell (p := ⟨g, 4, none⟩) hg).trans h.2.2.2.2⟩
theorem Five.set4 {W : World} {g : Nat} {a b c d f v : Value} (h : Five W g a b c d f) : Five (W.setCell ⟨g, 4, none⟩ v) g a b c d v := by
  have ne : ∀ j, j ≠ 4 → (⟨g, 4, none⟩ : Addr) ≠ ⟨g, j, none⟩ := fun j hj e => hj (by injection e with _ e _; exact e.symm)
  refine ⟨?_, ?_, ?_, ?_, ?_⟩
  · rw [World.cell?_setCell_other (w := W) (a := ⟨g, 4, none⟩) (b := ⟨g, 0, none⟩) _ (ne 0 (by decide))]; exact h.1
  · rw [World.cell?_setCell_other (w := W) (a := ⟨g, 4, none⟩) (b := ⟨g, 1, none⟩) _ (ne 1 (by decide))]; exact h.2.1
  · rw [World.cell?_setCell_other (w := W) (a := ⟨g, 4, none⟩) (b := ⟨g, 2, none⟩) _ (ne 2 (by decide))]; exact h.2.2.1
  · rw [World.cell?_setCell_other (w := W) (a := ⟨g, 4, none⟩) (b := ⟨g, 3, none⟩) _ (ne 3 (by decide))]; exact h.2.2.2.1
  · rw [World.cell?_setCell_same' _ _ _ (by rw [h.2.2.2.2]; rfl)]
theorem Five.far {W : World} {g k o : Nat} {a b c d f v : Value} (h : Five W g a b c d f) (hk : k ≠ g) : Five (W.setCell ⟨k, o, none⟩ v) g a b c d f := by
  have ne : ∀ j, (⟨k, o, none⟩ : Addr) ≠ ⟨g, j, none⟩ := fun j e => hk (by injection e)
  refine ⟨?_, ?_, ?_, ?_, ?_⟩
  · rw [World.cell?_setCell_other (w := W) (a := ⟨k, o, none⟩) (b := ⟨g, 0, none⟩) _ (ne 0)]; exact h.1
  · rw [World.cell?_setCell_other (w := W) (a := ⟨k, o, none⟩) (b := ⟨g, 1, none⟩) _ (ne 1)]; exact h.2.1
  · rw [World.cell?_setCell_other (w := W) (a := ⟨k, o, none⟩) (b := ⟨g, 2, none⟩) _ (ne 2)]; exact h.2.2.1
  · rw [World.cell?_setCell_other (w := W) (a := ⟨k, o, none⟩) (b := ⟨g, 3, none⟩) _ (ne 3)]; exact h.2.2.2.1
  · rw [World.cell?_setCell_other (w := W) (a := ⟨k, o, none⟩) (b := ⟨g, 4, none⟩) _ (ne 4)]; exact h.2.2.2.2
theorem five_src (W : World) (o : Obj) (a b c d f : Value) (e : TypeId) : Five ((W.alloc o).alloc (.cells #[a, b, c, d, f] e)) (W.heap.size + 1) a b c d f :=
  ⟨rc_src3 W o a b c d f e 0 _ rfl, rc_src3 W o a b c d f e 1 _ rfl, rc_src3 W o a b c d f e 2 _ rfl, rc_src3 W o a b c d f e 3 _ rfl, rc_src3 W o a b c d f e 4 _ rfl⟩
theorem back_blk {w : World} {base e : Nat} {v : Value} {r : Rc} (h : RRow w base e v [r]) : ∃ g cap, v = .slice (some ⟨g, 0, none⟩) 1 cap ∧ base ≤ g ∧ g < w.heap.size := by
  rcases h.len with ⟨_, h⟩ | ⟨g, cap, h1, h2, h3⟩
  · cases h
  · exact ⟨g, cap, h1, h2, h3⟩
set_option maxHeartbeats 4000000 in
set_option maxRecDepth 100000 in
theorem back_0 (u w8 n : Nat) (s : ByteArray) (w : World) (hu : u < 4294967296) (h8 : w8 < 256) (hq : w8 % 4 = 0) (hn : n < 18446744073709551616) (hs : s.size ≤ 100) :
    Calls Try.prog 6 #[.int .u32 (u : Int), .int .u8 (w8 : Int), .int .u64 (n : Int), .string s] w fun e w' => e = .returned (.bool true) ∧ Below w.heap.size w w' := by
  have hq' : (w8 : Int) % 4 = 0 := by omega
  obtain ⟨x, hx⟩ : ∃ x, x = 1 + u % 536870911 := ⟨_, rfl⟩
  have hx' : 1 + (u : Int) % 536870911 = (x : Int) := by omega
  have x1 : 1 ≤ x := by omega
  have x2 : x ≤ 536870911 := by omega
  obtain ⟨N, hN⟩ : ∃ N, N = n := ⟨_, rfl⟩
  have hN' : (n : Int) = (N : Int) := by omega
  obtain ⟨S, hS⟩ : ∃ S, S = (ByteArray.mk #[]) := ⟨_, rfl⟩
  obtain ⟨T, hT⟩ : ∃ T, T = bin (rput x 0 N S.data.toList) := ⟨_, rfl⟩
  have hSs : S.size ≤ 100 := by rw [hS]; first | exact hs | decide
  have hSl : S.data.toList.length = S.size := by simp
  have hTs : T.size ≤ 200 := by
    have h3 := venc_ten (x * 8 + 0) (by omega)
    have h4 := venc_ten N (by omega)
    have h5 := venc_ten S.data.toList.length (by omega)
    rw [hT, bin_size]
    simp only [rput0, List.length_append, leB_len]
    omega
  have hP : putB (x : Int) (0 : Nat) N S.data.toList = rput x 0 N S.data.toList := putB_ok x1 x2 (by decide)
  have cP := Lib.hid (fun W => putrc_any x (0 : Nat) N S ⟨#[]⟩ W (by omega) (by omega) (by omega) (by omega) (by omega) (by omega))
  rw [hP, ← hT, show ((0 : Nat) : Int) = 0 from rfl] at cP
  have cS := Lib.hid (fun W => split_any T W (by omega))
  rw [back_split (W := 0) x1 x2 (by decide) (n := N) (S := S) (by omega) (by omega) (by omega) (fun h => by cases h) (fun _ => by rw [hS]) hT] at cS
  have hni : (n : Int) ≤ 18446744073709551615 := by omega
  have HX := Lib.hid hx
  have HNN := Lib.hid hN
  have HT := Lib.hid hT
  have HS := Lib.hid hS
  subst hS
  clear hN'; subst hN
  clear hx hT hP hSl hq
  go_enter Try.func6, Try.ntmps6
  go_wp2_with (first | (go_at_call 15; refine (Rf.begun1 _).mono ?_; rintro e w1 ⟨rfl, hb1⟩) | (go_at_call 23; ((with_reducible refine (cP.out _).mono ?_); rintro e w2 ⟨rfl, hb2⟩; obtain ⟨hcP, hfP⟩ := bcell hb2)) | (go_at_call 20; ((with_reducible refine (cS.out _).mono ?_); rintro e w3 ⟨v, rfl, hr, hb3⟩; obtain ⟨g, cap, rfl, hg1, hg2⟩ := back_blk hr; obtain ⟨k0, k1, k2, k3, k4⟩ := back_cells (x := x) (W := 0) (n := N) (S := (ByteArray.mk #[])) (T := T) hr; have km := hr.marks 4; clear hr)))
  have hw2 := hb2.size
  have hw3 := hb3.size
  simp only [World.alloc, Array.size_push] at hw2
  have F0 : Five w3 g (.int .i64 (x : Int)) (.int .i64 0) (.int .u64 (N : Int)) (.string (ByteArray.mk #[])) (.string T) := ⟨k0, k1, k2, k3, k4⟩
  have F1 := F0.set4 (v := .string (ByteArray.mk #[]))
  have G0 := (((five_src w1 (.cells #[.int .i64 0, .int .i64 1, .int .i64 2, .int .i64 5] 3) (.int .i64 (x : Int)) (.int .i64 0) (.int .u64 (N : Int)) (.string (ByteArray.mk #[])) (.string (ByteArray.mk #[])) 30).old hb2 (by simp)).old hb3 (by omega)).far (k := g) (o := 4) (v := .string (ByteArray.mk #[])) (by omega)
  have HF : Hid (∀ W, Below w3.heap.size (w3.setCell ⟨g, 4, none⟩ (.string (ByteArray.mk #[]))) W → Five W g (.int .i64 (x : Int)) (.int .i64 0) (.int .u64 (N : Int)) (.string (ByteArray.mk #[])) (.string (ByteArray.mk #[]))) := fun W h => F1.old h hg2
  have HG : Hid (∀ W, Below w3.heap.size (w3.setCell ⟨g, 4, none⟩ (.string (ByteArray.mk #[]))) W → Five W (w1.heap.size + 1) (.int .i64 (x : Int)) (.int .i64 0) (.int .u64 (N : Int)) (.string (ByteArray.mk #[])) (.string (ByteArray.mk #[]))) := fun W h => G0.old h (by omega)
  have hbw : Below w.heap.size w (w3.setCell ⟨g, 4, none⟩ (.string (ByteArray.mk #[]))) := by
    have e1 := hb1.size
    have e2 : Below w.heap.size w w2 := ((hb1.alloc hb1.size _).alloc (by simp; omega) _).trans (hb2.mono (by simp; omega))
    exact (e2.trans (hb3.mono e2.size)).setCell (by have := e2.size; show w.heap.size ≤ g; omega) _
  have HBW := Lib.hid hbw
  clear k0 k1 k2 k3 k4 km F0 F1 G0 hb1 hb2 hb3 hcP hfP hw2 hw3 hbw
  refine wp_region_noPanic ?_
  refine wp_region_held_drew (S := fun W => Below w3.heap.size (w3.setCell ⟨g, 4, none⟩ (.string (ByteArray.mk #[]))) W) (by kernel_rfl) (Below.refl _ _).drew (fun hS => ?_)
  refine wpAnyH_take (i := 0) (v := .slice (some ⟨g, 0, none⟩) 1 cap) rfl (by kernel_rfl) (by kernel_rfl) (by kernel_rfl) (fun _ _ _ h => False.elim h) (Or.inl ⟨by kernel_rfl, fun w' hw' => by (try go_simp); (try first | with_reducible rfl | decide | omega)⟩) hS ?_
  try simp only [Act.put, List.getElem_toArray, List.getElem_cons_zero, List.getElem_cons_succ, List.setIfInBounds_toArray, List.set_cons_zero, List.set_cons_succ]
  refine wpAnyH_take (i := 1) (v := .pointer (some ⟨g, 0, none⟩)) rfl (by kernel_rfl) (by kernel_rfl) (by kernel_rfl) (fun _ _ _ h => False.elim h) (Or.inl ⟨by kernel_rfl, fun w' hw' => by (try go_simp); (try first | with_reducible rfl | decide | omega)⟩) hS ?_
  try simp only [Act.put, List.getElem_toArray, List.getElem_cons_zero, List.getElem_cons_succ, List.setIfInBounds_toArray, List.set_cons_zero, List.set_cons_succ]
  refine wpAnyH_take (i := 2) (v := .agg #[.int .i64 (x : Int), .int .i64 0, .int .u64 (N : Int), .string (ByteArray.mk #[]), .string (ByteArray.mk #[])]) rfl (by kernel_rfl) (by kernel_rfl) (by kernel_rfl) (fun _ _ _ h => False.elim h) (Or.inl ⟨by kernel_rfl, fun w' hw' => by obtain ⟨q0, q1, q2, q3, q4⟩ := HF.out w' hw'; (try go_simp); (try first | with_reducible rfl | decide | omega)⟩) hS ?_
  try simp only [Act.put, List.getElem_toArray, List.getElem_cons_zero, List.getElem_cons_succ, List.setIfInBounds_toArray, List.set_cons_zero, List.set_cons_succ]
  refine wpAnyH_take (i := 3) (v := .agg #[.int .i64 (x : Int), .int .i64 0, .int .u64 (N : Int), .string (ByteArray.mk #[]), .string (ByteArray.mk #[])]) rfl (by kernel_rfl) (by kernel_rfl) (by kernel_rfl) (fun _ _ _ h => False.elim h) (Or.inl ⟨by kernel_rfl, fun w' hw' => by obtain ⟨q0, q1, q2, q3, q4⟩ := HG.out w' hw'; (try go_simp); (try first | with_reducible rfl | decide | omega)⟩) hS ?_
  try simp only [Act.put, List.getElem_toArray, List.getElem_cons_zero, List.getElem_cons_succ, List.setIfInBounds_toArray, List.set_cons_zero, List.set_cons_succ]
  refine wpAnyH_take (i := 4) (v := .bool true) rfl (by kernel_rfl) (by kernel_rfl) (by kernel_rfl) (fun _ _ _ h => False.elim h) (Or.inl ⟨by kernel_rfl, fun w' hw' => by (try go_simp); (try first | with_reducible rfl | decide | omega)⟩) hS ?_
  try simp only [Act.put, List.getElem_toArray, List.getElem_cons_zero, List.getElem_cons_succ, List.setIfInBounds_toArray, List.set_cons_zero, List.set_cons_succ]
  refine wpAnyH_take (i := 5) (v := .bool true) rfl (by kernel_rfl) (by kernel_rfl) (by kernel_rfl) (fun _ _ _ h => False.elim h) (Or.inl ⟨by kernel_rfl, fun w' hw' => by (try go_simp); (try first | with_reducible rfl | decide | omega)⟩) hS ?_
  try simp only [Act.put, List.getElem_toArray, List.getElem_cons_zero, List.getElem_cons_succ, List.setIfInBounds_toArray, List.set_cons_zero, List.set_cons_succ]
  refine wpAnyH_take (i := 6) (v := .slice (some ⟨g, 0, none⟩) 1 cap) rfl (by kernel_rfl) (by kernel_rfl) (by kernel_rfl) (fun _ _ _ h => False.elim h) (Or.inl ⟨by kernel_rfl, fun w' hw' => by (try go_simp); (try first | with_reducible rfl | decide | omega)⟩) hS ?_
  try simp only [Act.put, List.getElem_toArray, List.getElem_cons_zero, List.getElem_cons_succ, List.setIfInBounds_toArray, List.set_cons_zero, List.set_cons_succ]
  refine wpAnyH_take (i := 7) (v := .pointer (some ⟨g, 0, none⟩)) rfl (by kernel_rfl) (by kernel_rfl) (by kernel_rfl) (fun _ _ _ h => False.elim h) (Or.inl ⟨by kernel_rfl, fun w' hw' => by (try go_simp); (try first | with_reducible rfl | decide | omega)⟩) hS ?_
  try simp only [Act.put, List.getElem_toArray, List.getElem_cons_zero, List.getElem_cons_succ, List.setIfInBounds_toArray, List.set_cons_zero, List.set_cons_succ]
  refine wpAnyH_take (i := 8) (v := .agg #[.int .i64 (x : Int), .int .i64 0, .int .u64 (N : Int), .string (ByteArray.mk #[]), .string (ByteArray.mk #[])]) rfl (by kernel_rfl) (by kernel_rfl) (by kernel_rfl) (fun _ _ _ h => False.elim h) (Or.inl ⟨by kernel_rfl, fun w' hw' => by obtain ⟨q0, q1, q2, q3, q4⟩ := HF.out w' hw'; (try go_simp); (try first | with_reducible rfl | decide | omega)⟩) hS ?_
  try simp only [Act.put, List.getElem_toArray, List.getElem_cons_zero, List.getElem_cons_succ, List.setIfInBounds_toArray, List.set_cons_zero, List.set_cons_succ]
  refine wpAnyH_take (i := 10) (v := .string T) rfl (by kernel_rfl) (by kernel_rfl) (by kernel_rfl) (fun _ _ _ h => False.elim h) (Or.inl ⟨by kernel_rfl, fun w' hw' => by (try go_simp); (try first | with_reducible rfl | decide | omega)⟩) hS ?_
  try simp only [Act.put, List.getElem_toArray, List.getElem_cons_zero, List.getElem_cons_succ, List.setIfInBounds_toArray, List.set_cons_zero, List.set_cons_succ]
  refine wpAnyH_ready (rs := [9]) (by kernel_rfl) (by simp) ?_
  refine AllReadyH.cons rfl (fun K hK => ?_) AllReadyH.nil
  go_simp
  go_at_call 23
  refine (cP.out _).mono ?_
  rintro e w5 ⟨rfl, hb5⟩
  go_wp2_with fail
  refine hK.out _ _ (hS.trans (hb5.mono (by first | (simp; done) | (have := hS.size; simp at this; omega)))) (fun hS => ?_)
  clear hK K
  try simp only [Act.put, List.getElem_toArray, List.getElem_cons_zero, List.getElem_cons_succ, List.setIfInBounds_toArray, List.set_cons_zero, List.set_cons_succ]
  refine wpAnyH_take (i := 11) (v := .bool true) rfl (by kernel_rfl) (by kernel_rfl) (by kernel_rfl) (fun _ _ _ h => False.elim h) (Or.inl ⟨by kernel_rfl, fun w' hw' => by (try go_simp); (try first | with_reducible rfl | decide | omega)⟩) hS ?_
  try simp only [Act.put, List.getElem_toArray, List.getElem_cons_zero, List.getElem_cons_succ, List.setIfInBounds_toArray, List.set_cons_zero, List.set_cons_succ]
  refine wpAnyH_take (i := 12) (v := .bool true) rfl (by kernel_rfl) (by kernel_rfl) (by kernel_rfl) (fun _ _ _ h => False.elim h) (Or.inl ⟨by kernel_rfl, fun w' hw' => by (try go_simp); (try first | with_reducible rfl | decide | omega)⟩) hS ?_
  try simp only [Act.put, List.getElem_toArray, List.getElem_cons_zero, List.getElem_cons_succ, List.setIfInBounds_toArray, List.set_cons_zero, List.set_cons_succ]
  refine wpAnyH_take (i := 13) (v := .bool true) rfl (by kernel_rfl) (by kernel_rfl) (by kernel_rfl) (fun _ _ _ h => False.elim h) (Or.inl ⟨by kernel_rfl, fun w' hw' => by (try go_simp); (try first | with_reducible rfl | decide | omega)⟩) hS ?_
  try simp only [Act.put, List.getElem_toArray, List.getElem_cons_zero, List.getElem_cons_succ, List.setIfInBounds_toArray, List.set_cons_zero, List.set_cons_succ]
  refine wpAnyH_done (by kernel_rfl) ?_ _
  refine NoPanic.normal ?_
  have hF := HBW.out.trans (hS.mono (by have := HBW.out.size; simp at this; omega))
  clear HF HG HBW
  go_wp2
  go_ret
  exact ⟨by first | kernel_rfl | (simp; done) | trace_state, hF⟩
set_option maxHeartbeats 4000000 in
set_option maxRecDepth 100000 in
theorem back_1 (u w8 n : Nat) (s : ByteArray) (w : World) (hu : u < 4294967296) (h8 : w8 < 256) (hq : w8 % 4 = 1) (hn : n < 18446744073709551616) (hs : s.size ≤ 100) :
    Calls Try.prog 6 #[.int .u32 (u : Int), .int .u8 (w8 : Int), .int .u64 (n : Int), .string s] w fun e w' => e = .returned (.bool true) ∧ Below w.heap.size w w' := by
  have hq' : (w8 : Int) % 4 = 1 := by omega
  obtain ⟨x, hx⟩ : ∃ x, x = 1 + u % 536870911 := ⟨_, rfl⟩
  have hx' : 1 + (u : Int) % 536870911 = (x : Int) := by omega
  have x1 : 1 ≤ x := by omega
  have x2 : x ≤ 536870911 := by omega
  obtain ⟨N, hN⟩ : ∃ N, N = n := ⟨_, rfl⟩
  have hN' : (n : Int) = (N : Int) := by omega
  obtain ⟨S, hS⟩ : ∃ S, S = (ByteArray.mk #[]) := ⟨_, rfl⟩
  obtain ⟨T, hT⟩ : ∃ T, T = bin (rput x 1 N S.data.toList) := ⟨_, rfl⟩
  have hSs : S.size ≤ 100 := by rw [hS]; first | exact hs | decide
  have hSl : S.data.toList.length = S.size := by simp
  have hTs : T.size ≤ 200 := by
    have h3 := venc_ten (x * 8 + 1) (by omega)
    have h4 := venc_ten N (by omega)
    have h5 := venc_ten S.data.toList.length (by omega)
    rw [hT, bin_size]
    simp only [rput1, List.length_append, leB_len]
    omega
  have hP : putB (x : Int) (1 : Nat) N S.data.toList = rput x 1 N S.data.toList := putB_ok x1 x2 (by decide)
  have cP := Lib.hid (fun W => putrc_any x (1 : Nat) N S ⟨#[]⟩ W (by omega) (by omega) (by omega) (by omega) (by omega) (by omega))
  rw [hP, ← hT, show ((1 : Nat) : Int) = 1 from rfl] at cP
  have cS := Lib.hid (fun W => split_any T W (by omega))
  rw [back_split (W := 1) x1 x2 (by decide) (n := N) (S := S) (by omega) (by omega) (by omega) (fun h => by cases h) (fun _ => by rw [hS]) hT] at cS
  have hni : (n : Int) ≤ 18446744073709551615 := by omega
  have HX := Lib.hid hx
  have HNN := Lib.hid hN
  have HT := Lib.hid hT
  have HS := Lib.hid hS
  subst hS
  clear hN'; subst hN
  clear hx hT hP hSl hq
  go_enter Try.func6, Try.ntmps6
  go_wp2_with (first | (go_at_call 15; refine (Rf.begun1 _).mono ?_; rintro e w1 ⟨rfl, hb1⟩) | (go_at_call 23; ((with_reducible refine (cP.out _).mono ?_); rintro e w2 ⟨rfl, hb2⟩; obtain ⟨hcP, hfP⟩ := bcell hb2)) | (go_at_call 20; ((with_reducible refine (cS.out _).mono ?_); rintro e w3 ⟨v, rfl, hr, hb3⟩; obtain ⟨g, cap, rfl, hg1, hg2⟩ := back_blk hr; obtain ⟨k0, k1, k2, k3, k4⟩ := back_cells (x := x) (W := 1) (n := N) (S := (ByteArray.mk #[])) (T := T) hr; have km := hr.marks 4; clear hr)))
  have hw2 := hb2.size
  have hw3 := hb3.size
  simp only [World.alloc, Array.size_push] at hw2
  have F0 : Five w3 g (.int .i64 (x : Int)) (.int .i64 1) (.int .u64 (N : Int)) (.string (ByteArray.mk #[])) (.string T) := ⟨k0, k1, k2, k3, k4⟩
  have F1 := F0.set4 (v := .string (ByteArray.mk #[]))
  have G0 := (((five_src w1 (.cells #[.int .i64 0, .int .i64 1, .int .i64 2, .int .i64 5] 3) (.int .i64 (x : Int)) (.int .i64 1) (.int .u64 (N : Int)) (.string (ByteArray.mk #[])) (.string (ByteArray.mk #[])) 30).old hb2 (by simp)).old hb3 (by omega)).far (k := g) (o := 4) (v := .string (ByteArray.mk #[])) (by omega)
  have HF : Hid (∀ W, Below w3.heap.size (w3.setCell ⟨g, 4, none⟩ (.string (ByteArray.mk #[]))) W → Five W g (.int .i64 (x : Int)) (.int .i64 1) (.int .u64 (N : Int)) (.string (ByteArray.mk #[])) (.string (ByteArray.mk #[]))) := fun W h => F1.old h hg2
  have HG : Hid (∀ W, Below w3.heap.size (w3.setCell ⟨g, 4, none⟩ (.string (ByteArray.mk #[]))) W → Five W (w1.heap.size + 1) (.int .i64 (x : Int)) (.int .i64 1) (.int .u64 (N : Int)) (.string (ByteArray.mk #[])) (.string (ByteArray.mk #[]))) := fun W h => G0.old h (by omega)
  have hbw : Below w.heap.size w (w3.setCell ⟨g, 4, none⟩ (.string (ByteArray.mk #[]))) := by
    have e1 := hb1.size
    have e2 : Below w.heap.size w w2 := ((hb1.alloc hb1.size _).alloc (by simp; omega) _).trans (hb2.mono (by simp; omega))
    exact (e2.trans (hb3.mono e2.size)).setCell (by have := e2.size; show w.heap.size ≤ g; omega) _
  have HBW := Lib.hid hbw
  clear k0 k1 k2 k3 k4 km F0 F1 G0 hb1 hb2 hb3 hcP hfP hw2 hw3 hbw
  refine wp_region_noPanic ?_
  refine wp_region_held_drew (S := fun W => Below w3.heap.size (w3.setCell ⟨g, 4, none⟩ (.string (ByteArray.mk #[]))) W) (by kernel_rfl) (Below.refl _ _).drew (fun hS => ?_)
  refine wpAnyH_take (i := 0) (v := .slice (some ⟨g, 0, none⟩) 1 cap) rfl (by kernel_rfl) (by kernel_rfl) (by kernel_rfl) (fun _ _ _ h => False.elim h) (Or.inl ⟨by kernel_rfl, fun w' hw' => by (try go_simp); (try first | with_reducible rfl | decide | omega)⟩) hS ?_
  try simp only [Act.put, List.getElem_toArray, List.getElem_cons_zero, List.getElem_cons_succ, List.setIfInBounds_toArray, List.set_cons_zero, List.set_cons_succ]
  refine wpAnyH_take (i := 1) (v := .pointer (some ⟨g, 0, none⟩)) rfl (by kernel_rfl) (by kernel_rfl) (by kernel_rfl) (fun _ _ _ h => False.elim h) (Or.inl ⟨by kernel_rfl, fun w' hw' => by (try go_simp); (try first | with_reducible rfl | decide | omega)⟩) hS ?_
  try simp only [Act.put, List.getElem_toArray, List.getElem_cons_zero, List.getElem_cons_succ, List.setIfInBounds_toArray, List.set_cons_zero, List.set_cons_succ]
  refine wpAnyH_take (i := 2) (v := .agg #[.int .i64 (x : Int), .int .i64 1, .int .u64 (N : Int), .string (ByteArray.mk #[]), .string (ByteArray.mk #[])]) rfl (by kernel_rfl) (by kernel_rfl) (by kernel_rfl) (fun _ _ _ h => False.elim h) (Or.inl ⟨by kernel_rfl, fun w' hw' => by obtain ⟨q0, q1, q2, q3, q4⟩ := HF.out w' hw'; (try go_simp); (try first | with_reducible rfl | decide | omega)⟩) hS ?_
  try simp only [Act.put, List.getElem_toArray, List.getElem_cons_zero, List.getElem_cons_succ, List.setIfInBounds_toArray, List.set_cons_zero, List.set_cons_succ]
  refine wpAnyH_take (i := 3) (v := .agg #[.int .i64 (x : Int), .int .i64 1, .int .u64 (N : Int), .string (ByteArray.mk #[]), .string (ByteArray.mk #[])]) rfl (by kernel_rfl) (by kernel_rfl) (by kernel_rfl) (fun _ _ _ h => False.elim h) (Or.inl ⟨by kernel_rfl, fun w' hw' => by obtain ⟨q0, q1, q2, q3, q4⟩ := HG.out w' hw'; (try go_simp); (try first | with_reducible rfl | decide | omega)⟩) hS ?_
  try simp only [Act.put, List.getElem_toArray, List.getElem_cons_zero, List.getElem_cons_succ, List.setIfInBounds_toArray, List.set_cons_zero, List.set_cons_succ]
  refine wpAnyH_take (i := 4) (v := .bool true) rfl (by kernel_rfl) (by kernel_rfl) (by kernel_rfl) (fun _ _ _ h => False.elim h) (Or.inl ⟨by kernel_rfl, fun w' hw' => by (try go_simp); (try first | with_reducible rfl | decide | omega)⟩) hS ?_
  try simp only [Act.put, List.getElem_toArray, List.getElem_cons_zero, List.getElem_cons_succ, List.setIfInBounds_toArray, List.set_cons_zero, List.set_cons_succ]
  refine wpAnyH_take (i := 5) (v := .bool true) rfl (by kernel_rfl) (by kernel_rfl) (by kernel_rfl) (fun _ _ _ h => False.elim h) (Or.inl ⟨by kernel_rfl, fun w' hw' => by (try go_simp); (try first | with_reducible rfl | decide | omega)⟩) hS ?_
  try simp only [Act.put, List.getElem_toArray, List.getElem_cons_zero, List.getElem_cons_succ, List.setIfInBounds_toArray, List.set_cons_zero, List.set_cons_succ]
  refine wpAnyH_take (i := 6) (v := .slice (some ⟨g, 0, none⟩) 1 cap) rfl (by kernel_rfl) (by kernel_rfl) (by kernel_rfl) (fun _ _ _ h => False.elim h) (Or.inl ⟨by kernel_rfl, fun w' hw' => by (try go_simp); (try first | with_reducible rfl | decide | omega)⟩) hS ?_
  try simp only [Act.put, List.getElem_toArray, List.getElem_cons_zero, List.getElem_cons_succ, List.setIfInBounds_toArray, List.set_cons_zero, List.set_cons_succ]
  refine wpAnyH_take (i := 7) (v := .pointer (some ⟨g, 0, none⟩)) rfl (by kernel_rfl) (by kernel_rfl) (by kernel_rfl) (fun _ _ _ h => False.elim h) (Or.inl ⟨by kernel_rfl, fun w' hw' => by (try go_simp); (try first | with_reducible rfl | decide | omega)⟩) hS ?_
  try simp only [Act.put, List.getElem_toArray, List.getElem_cons_zero, List.getElem_cons_succ, List.setIfInBounds_toArray, List.set_cons_zero, List.set_cons_succ]
  refine wpAnyH_take (i := 8) (v := .agg #[.int .i64 (x : Int), .int .i64 1, .int .u64 (N : Int), .string (ByteArray.mk #[]), .string (ByteArray.mk #[])]) rfl (by kernel_rfl) (by kernel_rfl) (by kernel_rfl) (fun _ _ _ h => False.elim h) (Or.inl ⟨by kernel_rfl, fun w' hw' => by obtain ⟨q0, q1, q2, q3, q4⟩ := HF.out w' hw'; (try go_simp); (try first | with_reducible rfl | decide | omega)⟩) hS ?_
  try simp only [Act.put, List.getElem_toArray, List.getElem_cons_zero, List.getElem_cons_succ, List.setIfInBounds_toArray, List.set_cons_zero, List.set_cons_succ]
  refine wpAnyH_take (i := 10) (v := .string T) rfl (by kernel_rfl) (by kernel_rfl) (by kernel_rfl) (fun _ _ _ h => False.elim h) (Or.inl ⟨by kernel_rfl, fun w' hw' => by (try go_simp); (try first | with_reducible rfl | decide | omega)⟩) hS ?_
  try simp only [Act.put, List.getElem_toArray, List.getElem_cons_zero, List.getElem_cons_succ, List.setIfInBounds_toArray, List.set_cons_zero, List.set_cons_succ]
  refine wpAnyH_ready (rs := [9]) (by kernel_rfl) (by simp) ?_
  refine AllReadyH.cons rfl (fun K hK => ?_) AllReadyH.nil
  go_simp
  go_at_call 23
  refine (cP.out _).mono ?_
  rintro e w5 ⟨rfl, hb5⟩
  go_wp2_with fail
  refine hK.out _ _ (hS.trans (hb5.mono (by first | (simp; done) | (have := hS.size; simp at this; omega)))) (fun hS => ?_)
  clear hK K
  try simp only [Act.put, List.getElem_toArray, List.getElem_cons_zero, List.getElem_cons_succ, List.setIfInBounds_toArray, List.set_cons_zero, List.set_cons_succ]
  refine wpAnyH_take (i := 11) (v := .bool true) rfl (by kernel_rfl) (by kernel_rfl) (by kernel_rfl) (fun _ _ _ h => False.elim h) (Or.inl ⟨by kernel_rfl, fun w' hw' => by (try go_simp); (try first | with_reducible rfl | decide | omega)⟩) hS ?_
  try simp only [Act.put, List.getElem_toArray, List.getElem_cons_zero, List.getElem_cons_succ, List.setIfInBounds_toArray, List.set_cons_zero, List.set_cons_succ]
  refine wpAnyH_take (i := 12) (v := .bool true) rfl (by kernel_rfl) (by kernel_rfl) (by kernel_rfl) (fun _ _ _ h => False.elim h) (Or.inl ⟨by kernel_rfl, fun w' hw' => by (try go_simp); (try first | with_reducible rfl | decide | omega)⟩) hS ?_
  try simp only [Act.put, List.getElem_toArray, List.getElem_cons_zero, List.getElem_cons_succ, List.setIfInBounds_toArray, List.set_cons_zero, List.set_cons_succ]
  refine wpAnyH_take (i := 13) (v := .bool true) rfl (by kernel_rfl) (by kernel_rfl) (by kernel_rfl) (fun _ _ _ h => False.elim h) (Or.inl ⟨by kernel_rfl, fun w' hw' => by (try go_simp); (try first | with_reducible rfl | decide | omega)⟩) hS ?_
  try simp only [Act.put, List.getElem_toArray, List.getElem_cons_zero, List.getElem_cons_succ, List.setIfInBounds_toArray, List.set_cons_zero, List.set_cons_succ]
  refine wpAnyH_done (by kernel_rfl) ?_ _
  refine NoPanic.normal ?_
  have hF := HBW.out.trans (hS.mono (by have := HBW.out.size; simp at this; omega))
  clear HF HG HBW
  go_wp2
  go_ret
  exact ⟨by first | kernel_rfl | (simp; done) | trace_state, hF⟩
set_option maxHeartbeats 4000000 in
set_option maxRecDepth 100000 in
theorem back_2 (u w8 n : Nat) (s : ByteArray) (w : World) (hu : u < 4294967296) (h8 : w8 < 256) (hq : w8 % 4 = 2) (hn : n < 18446744073709551616) (hs : s.size ≤ 100) :
    Calls Try.prog 6 #[.int .u32 (u : Int), .int .u8 (w8 : Int), .int .u64 (n : Int), .string s] w fun e w' => e = .returned (.bool true) ∧ Below w.heap.size w w' := by
  have hq' : (w8 : Int) % 4 = 2 := by omega
  obtain ⟨x, hx⟩ : ∃ x, x = 1 + u % 536870911 := ⟨_, rfl⟩
  have hx' : 1 + (u : Int) % 536870911 = (x : Int) := by omega
  have x1 : 1 ≤ x := by omega
  have x2 : x ≤ 536870911 := by omega
  obtain ⟨N, hN⟩ : ∃ N, N = 0 := ⟨_, rfl⟩
  have hN' : 0 = (N : Int) := by omega
  obtain ⟨S, hS⟩ : ∃ S, S = s := ⟨_, rfl⟩
  obtain ⟨T, hT⟩ : ∃ T, T = bin (rput x 2 N S.data.toList) := ⟨_, rfl⟩
  have hSs : S.size ≤ 100 := by rw [hS]; first | exact hs | decide
  have hSl : S.data.toList.length = S.size := by simp
  have hTs : T.size ≤ 200 := by
    have h3 := venc_ten (x * 8 + 2) (by omega)
    have h4 := venc_ten N (by omega)
    have h5 := venc_ten S.data.toList.length (by omega)
    rw [hT, bin_size]
    simp only [rput2, List.length_append, leB_len]
    omega
  have hP : putB (x : Int) (2 : Nat) N S.data.toList = rput x 2 N S.data.toList := putB_ok x1 x2 (by decide)
  have cP := Lib.hid (fun W => putrc_any x (2 : Nat) N S ⟨#[]⟩ W (by omega) (by omega) (by omega) (by omega) (by omega) (by omega))
  rw [hP, ← hT, show ((2 : Nat) : Int) = 2 from rfl] at cP
  have cS := Lib.hid (fun W => split_any T W (by omega))
  rw [back_split (W := 2) x1 x2 (by decide) (n := N) (S := S) (by omega) (by omega) (by omega) (fun _ => by omega) (fun h => absurd rfl h) hT] at cS
  have hni : (n : Int) ≤ 18446744073709551615 := by omega
  have HX := Lib.hid hx
  have HNN := Lib.hid hN
  have HT := Lib.hid hT
  have HS := Lib.hid hS
  subst hS
  clear hN'; subst hN; rw [show ((0 : Nat) : Int) = 0 from rfl] at cP
  clear hx hT hP hSl hq
  go_enter Try.func6, Try.ntmps6
  go_wp2_with (first | (go_at_call 15; refine (Rf.begun1 _).mono ?_; rintro e w1 ⟨rfl, hb1⟩) | (go_at_call 23; ((with_reducible refine (cP.out _).mono ?_); rintro e w2 ⟨rfl, hb2⟩; obtain ⟨hcP, hfP⟩ := bcell hb2)) | (go_at_call 20; ((with_reducible refine (cS.out _).mono ?_); rintro e w3 ⟨v, rfl, hr, hb3⟩; obtain ⟨g, cap, rfl, hg1, hg2⟩ := back_blk hr; obtain ⟨k0, k1, k2, k3, k4⟩ := back_cells (x := x) (W := 2) (n := 0) (S := S) (T := T) hr; have km := hr.marks 4; clear hr)))
  have hw2 := hb2.size
  have hw3 := hb3.size
  simp only [World.alloc, Array.size_push] at hw2
  have F0 : Five w3 g (.int .i64 (x : Int)) (.int .i64 2) (.int .u64 0) (.string S) (.string T) := ⟨k0, k1, k2, k3, k4⟩
  have F1 := F0.set4 (v := .string (ByteArray.mk #[]))
  have G0 := (((five_src w1 (.cells #[.int .i64 0, .int .i64 1, .int .i64 2, .int .i64 5] 3) (.int .i64 (x : Int)) (.int .i64 2) (.int .u64 0) (.string S) (.string (ByteArray.mk #[])) 30).old hb2 (by simp)).old hb3 (by omega)).far (k := g) (o := 4) (v := .string (ByteArray.mk #[])) (by omega)
  have HF : Hid (∀ W, Below w3.heap.size (w3.setCell ⟨g, 4, none⟩ (.string (ByteArray.mk #[]))) W → Five W g (.int .i64 (x : Int)) (.int .i64 2) (.int .u64 0) (.string S) (.string (ByteArray.mk #[]))) := fun W h => F1.old h hg2
  have HG : Hid (∀ W, Below w3.heap.size (w3.setCell ⟨g, 4, none⟩ (.string (ByteArray.mk #[]))) W → Five W (w1.heap.size + 1) (.int .i64 (x : Int)) (.int .i64 2) (.int .u64 0) (.string S) (.string (ByteArray.mk #[]))) := fun W h => G0.old h (by omega)
  have hbw : Below w.heap.size w (w3.setCell ⟨g, 4, none⟩ (.string (ByteArray.mk #[]))) := by
    have e1 := hb1.size
    have e2 : Below w.heap.size w w2 := ((hb1.alloc hb1.size _).alloc (by simp; omega) _).trans (hb2.mono (by simp; omega))
    exact (e2.trans (hb3.mono e2.size)).setCell (by have := e2.size; show w.heap.size ≤ g; omega) _
  have HBW := Lib.hid hbw
  clear k0 k1 k2 k3 k4 km F0 F1 G0 hb1 hb2 hb3 hcP hfP hw2 hw3 hbw
  refine wp_region_noPanic ?_
  refine wp_region_held_drew (S := fun W => Below w3.heap.size (w3.setCell ⟨g, 4, none⟩ (.string (ByteArray.mk #[]))) W) (by kernel_rfl) (Below.refl _ _).drew (fun hS => ?_)
  refine wpAnyH_take (i := 0) (v := .slice (some ⟨g, 0, none⟩) 1 cap) rfl (by kernel_rfl) (by kernel_rfl) (by kernel_rfl) (fun _ _ _ h => False.elim h) (Or.inl ⟨by kernel_rfl, fun w' hw' => by (try go_simp); (try first | with_reducible rfl | decide | omega)⟩) hS ?_
  try simp only [Act.put, List.getElem_toArray, List.getElem_cons_zero, List.getElem_cons_succ, List.setIfInBounds_toArray, List.set_cons_zero, List.set_cons_succ]
  refine wpAnyH_take (i := 1) (v := .pointer (some ⟨g, 0, none⟩)) rfl (by kernel_rfl) (by kernel_rfl) (by kernel_rfl) (fun _ _ _ h => False.elim h) (Or.inl ⟨by kernel_rfl, fun w' hw' => by (try go_simp); (try first | with_reducible rfl | decide | omega)⟩) hS ?_
  try simp only [Act.put, List.getElem_toArray, List.getElem_cons_zero, List.getElem_cons_succ, List.setIfInBounds_toArray, List.set_cons_zero, List.set_cons_succ]
  refine wpAnyH_take (i := 2) (v := .agg #[.int .i64 (x : Int), .int .i64 2, .int .u64 0, .string S, .string (ByteArray.mk #[])]) rfl (by kernel_rfl) (by kernel_rfl) (by kernel_rfl) (fun _ _ _ h => False.elim h) (Or.inl ⟨by kernel_rfl, fun w' hw' => by obtain ⟨q0, q1, q2, q3, q4⟩ := HF.out w' hw'; (try go_simp); (try first | with_reducible rfl | decide | omega)⟩) hS ?_
  try simp only [Act.put, List.getElem_toArray, List.getElem_cons_zero, List.getElem_cons_succ, List.setIfInBounds_toArray, List.set_cons_zero, List.set_cons_succ]
  refine wpAnyH_take (i := 3) (v := .agg #[.int .i64 (x : Int), .int .i64 2, .int .u64 0, .string S, .string (ByteArray.mk #[])]) rfl (by kernel_rfl) (by kernel_rfl) (by kernel_rfl) (fun _ _ _ h => False.elim h) (Or.inl ⟨by kernel_rfl, fun w' hw' => by obtain ⟨q0, q1, q2, q3, q4⟩ := HG.out w' hw'; (try go_simp); (try first | with_reducible rfl | decide | omega)⟩) hS ?_
  try simp only [Act.put, List.getElem_toArray, List.getElem_cons_zero, List.getElem_cons_succ, List.setIfInBounds_toArray, List.set_cons_zero, List.set_cons_succ]
  refine wpAnyH_take (i := 4) (v := .bool true) rfl (by kernel_rfl) (by kernel_rfl) (by kernel_rfl) (fun _ _ _ h => False.elim h) (Or.inl ⟨by kernel_rfl, fun w' hw' => by (try go_simp); (try first | with_reducible rfl | decide | omega)⟩) hS ?_
  try simp only [Act.put, List.getElem_toArray, List.getElem_cons_zero, List.getElem_cons_succ, List.setIfInBounds_toArray, List.set_cons_zero, List.set_cons_succ]
  refine wpAnyH_take (i := 5) (v := .bool true) rfl (by kernel_rfl) (by kernel_rfl) (by kernel_rfl) (fun _ _ _ h => False.elim h) (Or.inl ⟨by kernel_rfl, fun w' hw' => by (try go_simp); (try first | with_reducible rfl | decide | omega)⟩) hS ?_
  try simp only [Act.put, List.getElem_toArray, List.getElem_cons_zero, List.getElem_cons_succ, List.setIfInBounds_toArray, List.set_cons_zero, List.set_cons_succ]
  refine wpAnyH_take (i := 6) (v := .slice (some ⟨g, 0, none⟩) 1 cap) rfl (by kernel_rfl) (by kernel_rfl) (by kernel_rfl) (fun _ _ _ h => False.elim h) (Or.inl ⟨by kernel_rfl, fun w' hw' => by (try go_simp); (try first | with_reducible rfl | decide | omega)⟩) hS ?_
  try simp only [Act.put, List.getElem_toArray, List.getElem_cons_zero, List.getElem_cons_succ, List.setIfInBounds_toArray, List.set_cons_zero, List.set_cons_succ]
  refine wpAnyH_take (i := 7) (v := .pointer (some ⟨g, 0, none⟩)) rfl (by kernel_rfl) (by kernel_rfl) (by kernel_rfl) (fun _ _ _ h => False.elim h) (Or.inl ⟨by kernel_rfl, fun w' hw' => by (try go_simp); (try first | with_reducible rfl | decide | omega)⟩) hS ?_
  try simp only [Act.put, List.getElem_toArray, List.getElem_cons_zero, List.getElem_cons_succ, List.setIfInBounds_toArray, List.set_cons_zero, List.set_cons_succ]
  refine wpAnyH_take (i := 8) (v := .agg #[.int .i64 (x : Int), .int .i64 2, .int .u64 0, .string S, .string (ByteArray.mk #[])]) rfl (by kernel_rfl) (by kernel_rfl) (by kernel_rfl) (fun _ _ _ h => False.elim h) (Or.inl ⟨by kernel_rfl, fun w' hw' => by obtain ⟨q0, q1, q2, q3, q4⟩ := HF.out w' hw'; (try go_simp); (try first | with_reducible rfl | decide | omega)⟩) hS ?_
  try simp only [Act.put, List.getElem_toArray, List.getElem_cons_zero, List.getElem_cons_succ, List.setIfInBounds_toArray, List.set_cons_zero, List.set_cons_succ]
  refine wpAnyH_take (i := 10) (v := .string T) rfl (by kernel_rfl) (by kernel_rfl) (by kernel_rfl) (fun _ _ _ h => False.elim h) (Or.inl ⟨by kernel_rfl, fun w' hw' => by (try go_simp); (try first | with_reducible rfl | decide | omega)⟩) hS ?_
  try simp only [Act.put, List.getElem_toArray, List.getElem_cons_zero, List.getElem_cons_succ, List.setIfInBounds_toArray, List.set_cons_zero, List.set_cons_succ]
  refine wpAnyH_ready (rs := [9]) (by kernel_rfl) (by simp) ?_
  refine AllReadyH.cons rfl (fun K hK => ?_) AllReadyH.nil
  go_simp
  go_at_call 23
  refine (cP.out _).mono ?_
  rintro e w5 ⟨rfl, hb5⟩
  go_wp2_with fail
  refine hK.out _ _ (hS.trans (hb5.mono (by first | (simp; done) | (have := hS.size; simp at this; omega)))) (fun hS => ?_)
  clear hK K
  try simp only [Act.put, List.getElem_toArray, List.getElem_cons_zero, List.getElem_cons_succ, List.setIfInBounds_toArray, List.set_cons_zero, List.set_cons_succ]
  refine wpAnyH_take (i := 11) (v := .bool true) rfl (by kernel_rfl) (by kernel_rfl) (by kernel_rfl) (fun _ _ _ h => False.elim h) (Or.inl ⟨by kernel_rfl, fun w' hw' => by (try go_simp); (try first | with_reducible rfl | decide | omega)⟩) hS ?_
  try simp only [Act.put, List.getElem_toArray, List.getElem_cons_zero, List.getElem_cons_succ, List.setIfInBounds_toArray, List.set_cons_zero, List.set_cons_succ]
  refine wpAnyH_take (i := 12) (v := .bool true) rfl (by kernel_rfl) (by kernel_rfl) (by kernel_rfl) (fun _ _ _ h => False.elim h) (Or.inl ⟨by kernel_rfl, fun w' hw' => by (try go_simp); (try first | with_reducible rfl | decide | omega)⟩) hS ?_
  try simp only [Act.put, List.getElem_toArray, List.getElem_cons_zero, List.getElem_cons_succ, List.setIfInBounds_toArray, List.set_cons_zero, List.set_cons_succ]
  refine wpAnyH_take (i := 13) (v := .bool true) rfl (by kernel_rfl) (by kernel_rfl) (by kernel_rfl) (fun _ _ _ h => False.elim h) (Or.inl ⟨by kernel_rfl, fun w' hw' => by (try go_simp); (try first | with_reducible rfl | decide | omega)⟩) hS ?_
  try simp only [Act.put, List.getElem_toArray, List.getElem_cons_zero, List.getElem_cons_succ, List.setIfInBounds_toArray, List.set_cons_zero, List.set_cons_succ]
  refine wpAnyH_done (by kernel_rfl) ?_ _
  refine NoPanic.normal ?_
  have hF := HBW.out.trans (hS.mono (by have := HBW.out.size; simp at this; omega))
  clear HF HG HBW
  go_wp2
  go_ret
  exact ⟨by first | kernel_rfl | (simp; done) | trace_state, hF⟩
set_option maxHeartbeats 4000000 in
set_option maxRecDepth 100000 in
theorem back_5 (u w8 n : Nat) (s : ByteArray) (w : World) (hu : u < 4294967296) (h8 : w8 < 256) (hq : w8 % 4 = 3) (hn : n < 18446744073709551616) (hs : s.size ≤ 100) :
    Calls Try.prog 6 #[.int .u32 (u : Int), .int .u8 (w8 : Int), .int .u64 (n : Int), .string s] w fun e w' => e = .returned (.bool true) ∧ Below w.heap.size w w' := by
  have hq' : (w8 : Int) % 4 = 3 := by omega
  obtain ⟨x, hx⟩ : ∃ x, x = 1 + u % 536870911 := ⟨_, rfl⟩
  have hx' : 1 + (u : Int) % 536870911 = (x : Int) := by omega
  have x1 : 1 ≤ x := by omega
  have x2 : x ≤ 536870911 := by omega
  obtain ⟨N, hN⟩ : ∃ N, N = n % 4294967296 := ⟨_, rfl⟩
  have hN' : (n : Int) % 4294967296 = (N : Int) := by omega
  obtain ⟨S, hS⟩ : ∃ S, S = (ByteArray.mk #[]) := ⟨_, rfl⟩
  obtain ⟨T, hT⟩ : ∃ T, T = bin (rput x 5 N S.data.toList) := ⟨_, rfl⟩
  have hSs : S.size ≤ 100 := by rw [hS]; first | exact hs | decide
  have hSl : S.data.toList.length = S.size := by simp
  have hTs : T.size ≤ 200 := by
    have h3 := venc_ten (x * 8 + 5) (by omega)
    have h4 := venc_ten N (by omega)
    have h5 := venc_ten S.data.toList.length (by omega)
    rw [hT, bin_size]
    simp only [rput5, List.length_append, leB_len]
    omega
  have hP : putB (x : Int) (5 : Nat) N S.data.toList = rput x 5 N S.data.toList := putB_ok x1 x2 (by decide)
  have cP := Lib.hid (fun W => putrc_any x (5 : Nat) N S ⟨#[]⟩ W (by omega) (by omega) (by omega) (by omega) (by omega) (by omega))
  rw [hP, ← hT, show ((5 : Nat) : Int) = 5 from rfl] at cP
  have cS := Lib.hid (fun W => split_any T W (by omega))
  rw [back_split (W := 5) x1 x2 (by decide) (n := N) (S := S) (by omega) (by omega) (by omega) (fun h => by cases h) (fun _ => by rw [hS]) hT] at cS
  have hni : (n : Int) ≤ 18446744073709551615 := by omega
  have HX := Lib.hid hx
  have HNN := Lib.hid hN
  have HT := Lib.hid hT
  have HS := Lib.hid hS
  subst hS
  clear hN
  clear hx hT hP hSl hq
  go_enter Try.func6, Try.ntmps6
  go_wp2_with (first | (go_at_call 15; refine (Rf.begun1 _).mono ?_; rintro e w1 ⟨rfl, hb1⟩) | (go_at_call 23; ((with_reducible refine (cP.out _).mono ?_); rintro e w2 ⟨rfl, hb2⟩; obtain ⟨hcP, hfP⟩ := bcell hb2)) | (go_at_call 20; ((with_reducible refine (cS.out _).mono ?_); rintro e w3 ⟨v, rfl, hr, hb3⟩; obtain ⟨g, cap, rfl, hg1, hg2⟩ := back_blk hr; obtain ⟨k0, k1, k2, k3, k4⟩ := back_cells (x := x) (W := 5) (n := N) (S := (ByteArray.mk #[])) (T := T) hr; have km := hr.marks 4; clear hr)))
  have hw2 := hb2.size
  have hw3 := hb3.size
  simp only [World.alloc, Array.size_push] at hw2
  have F0 : Five w3 g (.int .i64 (x : Int)) (.int .i64 5) (.int .u64 (N : Int)) (.string (ByteArray.mk #[])) (.string T) := ⟨k0, k1, k2, k3, k4⟩
  have F1 := F0.set4 (v := .string (ByteArray.mk #[]))
  have G0 := (((five_src w1 (.cells #[.int .i64 0, .int .i64 1, .int .i64 2, .int .i64 5] 3) (.int .i64 (x : Int)) (.int .i64 5) (.int .u64 (N : Int)) (.string (ByteArray.mk #[])) (.string (ByteArray.mk #[])) 30).old hb2 (by simp)).old hb3 (by omega)).far (k := g) (o := 4) (v := .string (ByteArray.mk #[])) (by omega)
  have HF : Hid (∀ W, Below w3.heap.size (w3.setCell ⟨g, 4, none⟩ (.string (ByteArray.mk #[]))) W → Five W g (.int .i64 (x : Int)) (.int .i64 5) (.int .u64 (N : Int)) (.string (ByteArray.mk #[])) (.string (ByteArray.mk #[]))) := fun W h => F1.old h hg2
  have HG : Hid (∀ W, Below w3.heap.size (w3.setCell ⟨g, 4, none⟩ (.string (ByteArray.mk #[]))) W → Five W (w1.heap.size + 1) (.int .i64 (x : Int)) (.int .i64 5) (.int .u64 (N : Int)) (.string (ByteArray.mk #[])) (.string (ByteArray.mk #[]))) := fun W h => G0.old h (by omega)
  have hbw : Below w.heap.size w (w3.setCell ⟨g, 4, none⟩ (.string (ByteArray.mk #[]))) := by
    have e1 := hb1.size
    have e2 : Below w.heap.size w w2 := ((hb1.alloc hb1.size _).alloc (by simp; omega) _).trans (hb2.mono (by simp; omega))
    exact (e2.trans (hb3.mono e2.size)).setCell (by have := e2.size; show w.heap.size ≤ g; omega) _
  have HBW := Lib.hid hbw
  clear k0 k1 k2 k3 k4 km F0 F1 G0 hb1 hb2 hb3 hcP hfP hw2 hw3 hbw
  refine wp_region_noPanic ?_
  refine wp_region_held_drew (S := fun W => Below w3.heap.size (w3.setCell ⟨g, 4, none⟩ (.string (ByteArray.mk #[]))) W) (by kernel_rfl) (Below.refl _ _).drew (fun hS => ?_)
  refine wpAnyH_take (i := 0) (v := .slice (some ⟨g, 0, none⟩) 1 cap) rfl (by kernel_rfl) (by kernel_rfl) (by kernel_rfl) (fun _ _ _ h => False.elim h) (Or.inl ⟨by kernel_rfl, fun w' hw' => by (try go_simp); (try first | with_reducible rfl | decide | omega)⟩) hS ?_
  try simp only [Act.put, List.getElem_toArray, List.getElem_cons_zero, List.getElem_cons_succ, List.setIfInBounds_toArray, List.set_cons_zero, List.set_cons_succ]
  refine wpAnyH_take (i := 1) (v := .pointer (some ⟨g, 0, none⟩)) rfl (by kernel_rfl) (by kernel_rfl) (by kernel_rfl) (fun _ _ _ h => False.elim h) (Or.inl ⟨by kernel_rfl, fun w' hw' => by (try go_simp); (try first | with_reducible rfl | decide | omega)⟩) hS ?_
  try simp only [Act.put, List.getElem_toArray, List.getElem_cons_zero, List.getElem_cons_succ, List.setIfInBounds_toArray, List.set_cons_zero, List.set_cons_succ]
  refine wpAnyH_take (i := 2) (v := .agg #[.int .i64 (x : Int), .int .i64 5, .int .u64 (N : Int), .string (ByteArray.mk #[]), .string (ByteArray.mk #[])]) rfl (by kernel_rfl) (by kernel_rfl) (by kernel_rfl) (fun _ _ _ h => False.elim h) (Or.inl ⟨by kernel_rfl, fun w' hw' => by obtain ⟨q0, q1, q2, q3, q4⟩ := HF.out w' hw'; (try go_simp); (try first | with_reducible rfl | decide | omega)⟩) hS ?_
  try simp only [Act.put, List.getElem_toArray, List.getElem_cons_zero, List.getElem_cons_succ, List.setIfInBounds_toArray, List.set_cons_zero, List.set_cons_succ]
  refine wpAnyH_take (i := 3) (v := .agg #[.int .i64 (x : Int), .int .i64 5, .int .u64 (N : Int), .string (ByteArray.mk #[]), .string (ByteArray.mk #[])]) rfl (by kernel_rfl) (by kernel_rfl) (by kernel_rfl) (fun _ _ _ h => False.elim h) (Or.inl ⟨by kernel_rfl, fun w' hw' => by obtain ⟨q0, q1, q2, q3, q4⟩ := HG.out w' hw'; (try go_simp); (try first | with_reducible rfl | decide | omega)⟩) hS ?_
  try simp only [Act.put, List.getElem_toArray, List.getElem_cons_zero, List.getElem_cons_succ, List.setIfInBounds_toArray, List.set_cons_zero, List.set_cons_succ]
  refine wpAnyH_take (i := 4) (v := .bool true) rfl (by kernel_rfl) (by kernel_rfl) (by kernel_rfl) (fun _ _ _ h => False.elim h) (Or.inl ⟨by kernel_rfl, fun w' hw' => by (try go_simp); (try first | with_reducible rfl | decide | omega)⟩) hS ?_
  try simp only [Act.put, List.getElem_toArray, List.getElem_cons_zero, List.getElem_cons_succ, List.setIfInBounds_toArray, List.set_cons_zero, List.set_cons_succ]
  refine wpAnyH_take (i := 5) (v := .bool true) rfl (by kernel_rfl) (by kernel_rfl) (by kernel_rfl) (fun _ _ _ h => False.elim h) (Or.inl ⟨by kernel_rfl, fun w' hw' => by (try go_simp); (try first | with_reducible rfl | decide | omega)⟩) hS ?_
  try simp only [Act.put, List.getElem_toArray, List.getElem_cons_zero, List.getElem_cons_succ, List.setIfInBounds_toArray, List.set_cons_zero, List.set_cons_succ]
  refine wpAnyH_take (i := 6) (v := .slice (some ⟨g, 0, none⟩) 1 cap) rfl (by kernel_rfl) (by kernel_rfl) (by kernel_rfl) (fun _ _ _ h => False.elim h) (Or.inl ⟨by kernel_rfl, fun w' hw' => by (try go_simp); (try first | with_reducible rfl | decide | omega)⟩) hS ?_
  try simp only [Act.put, List.getElem_toArray, List.getElem_cons_zero, List.getElem_cons_succ, List.setIfInBounds_toArray, List.set_cons_zero, List.set_cons_succ]
  refine wpAnyH_take (i := 7) (v := .pointer (some ⟨g, 0, none⟩)) rfl (by kernel_rfl) (by kernel_rfl) (by kernel_rfl) (fun _ _ _ h => False.elim h) (Or.inl ⟨by kernel_rfl, fun w' hw' => by (try go_simp); (try first | with_reducible rfl | decide | omega)⟩) hS ?_
  try simp only [Act.put, List.getElem_toArray, List.getElem_cons_zero, List.getElem_cons_succ, List.setIfInBounds_toArray, List.set_cons_zero, List.set_cons_succ]
  refine wpAnyH_take (i := 8) (v := .agg #[.int .i64 (x : Int), .int .i64 5, .int .u64 (N : Int), .string (ByteArray.mk #[]), .string (ByteArray.mk #[])]) rfl (by kernel_rfl) (by kernel_rfl) (by kernel_rfl) (fun _ _ _ h => False.elim h) (Or.inl ⟨by kernel_rfl, fun w' hw' => by obtain ⟨q0, q1, q2, q3, q4⟩ := HF.out w' hw'; (try go_simp); (try first | with_reducible rfl | decide | omega)⟩) hS ?_
  try simp only [Act.put, List.getElem_toArray, List.getElem_cons_zero, List.getElem_cons_succ, List.setIfInBounds_toArray, List.set_cons_zero, List.set_cons_succ]
  refine wpAnyH_take (i := 10) (v := .string T) rfl (by kernel_rfl) (by kernel_rfl) (by kernel_rfl) (fun _ _ _ h => False.elim h) (Or.inl ⟨by kernel_rfl, fun w' hw' => by (try go_simp); (try first | with_reducible rfl | decide | omega)⟩) hS ?_
  try simp only [Act.put, List.getElem_toArray, List.getElem_cons_zero, List.getElem_cons_succ, List.setIfInBounds_toArray, List.set_cons_zero, List.set_cons_succ]
  refine wpAnyH_ready (rs := [9]) (by kernel_rfl) (by simp) ?_
  refine AllReadyH.cons rfl (fun K hK => ?_) AllReadyH.nil
  go_simp
  go_at_call 23
  refine (cP.out _).mono ?_
  rintro e w5 ⟨rfl, hb5⟩
  go_wp2_with fail
  refine hK.out _ _ (hS.trans (hb5.mono (by first | (simp; done) | (have := hS.size; simp at this; omega)))) (fun hS => ?_)
  clear hK K
  try simp only [Act.put, List.getElem_toArray, List.getElem_cons_zero, List.getElem_cons_succ, List.setIfInBounds_toArray, List.set_cons_zero, List.set_cons_succ]
  refine wpAnyH_take (i := 11) (v := .bool true) rfl (by kernel_rfl) (by kernel_rfl) (by kernel_rfl) (fun _ _ _ h => False.elim h) (Or.inl ⟨by kernel_rfl, fun w' hw' => by (try go_simp); (try first | with_reducible rfl | decide | omega)⟩) hS ?_
  try simp only [Act.put, List.getElem_toArray, List.getElem_cons_zero, List.getElem_cons_succ, List.setIfInBounds_toArray, List.set_cons_zero, List.set_cons_succ]
  refine wpAnyH_take (i := 12) (v := .bool true) rfl (by kernel_rfl) (by kernel_rfl) (by kernel_rfl) (fun _ _ _ h => False.elim h) (Or.inl ⟨by kernel_rfl, fun w' hw' => by (try go_simp); (try first | with_reducible rfl | decide | omega)⟩) hS ?_
  try simp only [Act.put, List.getElem_toArray, List.getElem_cons_zero, List.getElem_cons_succ, List.setIfInBounds_toArray, List.set_cons_zero, List.set_cons_succ]
  refine wpAnyH_take (i := 13) (v := .bool true) rfl (by kernel_rfl) (by kernel_rfl) (by kernel_rfl) (fun _ _ _ h => False.elim h) (Or.inl ⟨by kernel_rfl, fun w' hw' => by (try go_simp); (try first | with_reducible rfl | decide | omega)⟩) hS ?_
  try simp only [Act.put, List.getElem_toArray, List.getElem_cons_zero, List.getElem_cons_succ, List.setIfInBounds_toArray, List.set_cons_zero, List.set_cons_succ]
  refine wpAnyH_done (by kernel_rfl) ?_ _
  refine NoPanic.normal ?_
  have hF := HBW.out.trans (hS.mono (by have := HBW.out.size; simp at this; omega))
  clear HF HG HBW
  go_wp2
  go_ret
  exact ⟨by first | kernel_rfl | (simp; done) | trace_state, hF⟩
end Rv
end Go.Proofs.Ytfcpicejifolmaa
