/-
  Lex of a number, a space and a semicolon: its contract. No condition but that the text is short.
-/
import Derived.Test.YthbedbjccmhcoaaWj
namespace Go.Proofs.Ythbedbjccmhcoaa
open Go.ChangeShapes Go.WideShapes Go.ChangeAt Go.RowKit
open Mem (info_parts)
namespace Jn
set_option linter.unusedVariables false
set_option linter.unusedSimpArgs false
theorem Rd.new (w : World) (s : ByteArray) (e : TypeId) : Rd (w.alloc (.cells #[.string s, .int .i64 0] e)) w.heap.size s 0 := by
  have hp : (w.alloc (.cells #[.string s, .int .i64 0] e)).heap[w.heap.size]? = some (.cells #[.string s, .int .i64 0] e (0, 0)) := by
    show (w.heap.push _)[w.heap.size]? = _
    simp
  refine ⟨?_, ?_, ?_, by simp⟩
  · simp only [World.cell?, hp]; rfl
  · simp only [World.cell?, hp]; rfl
  · simp only [World.frozen?, hp]; simp
theorem Rd.blk {w w' : World} {b : Nat} {s : ByteArray} {i : Nat} (h : Rd w b s i) (e : w'.heap[b]? = w.heap[b]?) (hl : b < w'.heap.size) : Rd w' b s i :=
  ⟨(World.cell?_of_block (w := w) e).trans h.txt, (World.cell?_of_block (w := w) e).trans h.pos, (World.frozen?_of_block (w := w) e).trans h.frz, hl⟩
theorem Below.of_grown {B : Nat} {w W W' : World} {v : Value} (h : Below B w W) (hg : W.grownBy W' v.ownBlock) (hB : B ≤ W.heap.size) (hv : ∀ k, v.ownBlock = some k → B ≤ k) : Below B w W' := h.grown hg hB hv
set_option maxHeartbeats 4000000 in
set_option maxRecDepth 100000 in
theorem lex_three (s : ByteArray) (n q : Nat) (hs : s.size = q + 2) (hq : q ≤ 2000) (h1 : bt s q = 32) (h2 : bt s (q + 1) = 59) (h3 : 48 ≤ bt s 0) (h4 : bt s 0 ≤ 57) (N : NumAt s 0 q n) (hq1 : 1 ≤ q) (w : World) :
    Calls Try.prog 10 #[.string s] w fun e w' => ∃ v, e = .returned (.tuple #[v, .int .i64 0, .int .i64 0]) ∧ TRow w' (w.heap.size + 1) 37 v [tk3 n q 0, tk3 n q 1, tk3 n q 2] ∧ Below w.heap.size w w' := by
  obtain ⟨i0, hi, hz0, hz1, hz2⟩ := info_parts info_tok
  have PH := Lib.hid (phase s n q hs hq h1 h2 h3 h4 N)
  have R1 := Lib.hid (Rd.new w s 46)
  have hn : ¬ ((s.size : Int) > 3000) := by omega
  have PS := Lib.hid (show ∀ m, m ≤ 2 → ps3 q m ≤ s.size ∧ (m < 2 → ps3 q m < ps3 q (m + 1)) ∧ (m = 2 → ps3 q m = s.size) from fun m hm => by
    rcases m with _ | _ | _ | m
    · exact ⟨by simp [ps3], fun _ => by simp [ps3]; omega, fun h => by omega⟩
    · exact ⟨by simp [ps3]; omega, fun _ => by simp [ps3], fun h => by omega⟩
    · exact ⟨by simp [ps3]; omega, fun h => by omega, fun _ => by simp [ps3]; omega⟩
    · omega)
  clear N h1 h2 h3 h4 hs hq hq1
  go_enter Try.func10, Try.ntmps10
  go_wp2_with fail
  go_loopw [2] (fun v wr => ∃ m : Nat, m ≤ 2 ∧ Rd wr w.heap.size s (ps3 q m) ∧ TRow wr (w.heap.size + 1) 37 v (([tk3 n q 0, tk3 n q 1, tk3 n q 2] : List Tk).take m) ∧ Below w.heap.size w wr) (fun v wr => s.size + 1 - posOf wr w.heap.size)
  case atStart => exact ⟨0, by omega, R1.out, TRow.nil _ _ _, (Below.refl _ _).alloc (Nat.le_refl _) _⟩
  case round =>
    obtain ⟨m, hm, hr, ht, hb⟩ := hrel
    obtain ⟨P1, P2⟩ := PH.out m (by omega)
    have cS := Lib.hid (P1)
    have cW := Lib.hid (P2)
    have HR := Lib.hid hr
    have HT := Lib.hid ht
    have HB := Lib.hid hb
    have HW := Lib.hid hb.size
    obtain ⟨r, hrr⟩ : ∃ r, r = tk3 n q m := ⟨_, rfl⟩
    obtain ⟨L, hL⟩ : ∃ L, L = ([tk3 n q 0, tk3 n q 1, tk3 n q 2] : List Tk).take m := ⟨_, rfl⟩
    have HL := Lib.hid (show L ++ [r] = ([tk3 n q 0, tk3 n q 1, tk3 n q 2] : List Tk).take (m + 1) by
      rw [hL, hrr]
      rcases m with _ | _ | _ | m
      · rfl
      · rfl
      · rfl
      · omega)
    rw [← hrr] at cW
    rw [← hL] at HT
    have hLl : L.length ≤ 2 := by rw [hL]; simp; omega
    have HK := Lib.hid (show (m = 2 → r.k = 5) ∧ (m < 2 → r.k ≠ 5) by
      rw [hrr]
      rcases m with _ | _ | _ | m
      · exact ⟨fun h => by omega, fun _ => by show (_ : Nat) ≠ 5; simp [tk3]⟩
      · exact ⟨fun h => by omega, fun _ => by show (_ : Nat) ≠ 5; simp [tk3]⟩
      · exact ⟨fun _ => rfl, fun h => by omega⟩
      · omega)
    clear P1 P2 hr ht hb hrr hL
    go_wp2_with (first
      | (at_builtin; refine wpList_append_own _ rfl _ _ 23 rfl (w.heap.size + 1) 37 i0 _ 4 40 Try.underlying23 hi hz0 hz1 hz2 rfl (by decide) _ L.length (tvals L) rfl HT4 ⟨w3.heap.size + 1, 0, none⟩ 1 1 (tcells r) rfl rfl (tk_src2 w3 _ r _) (tcells_one r) (by unfold maxLen; omega) (by omega) (by have h1 := HW.out; have h2 := hb2.size; have h3 := hb3.size; simp; omega) ?_)
      | (go_at_call 15; ((with_reducible refine (cS.out _ _ HR.out).mono ?_); rintro e w2 ⟨rfl, hr2, hb2⟩))
      | (go_at_call 16; ((with_reducible refine (cW.out _ _ hr2).mono ?_); rintro e w3 ⟨rfl, hr3, hb3⟩; have HT4 := (((HT.out.bex (hb2.trans hb3) (by omega)).bex (Bex.alloc (b := w.heap.size) (.cells ⟨tcells r⟩ 37)) (by omega)).bex (Bex.alloc (b := w.heap.size) (.cells ⟨tcells r⟩ 37)) (by omega)))))
    intro v' w4 hown hgr _
    have s2 := hb2.size
    have s3 := hb3.size
    have HB3 := HB.out.trans ((hb2.trans hb3).below (Nat.le_refl _) HW.out)
    have hB3 := HB3.size
    have HB4 := Lib.hid (((HB3.alloc hB3 (.cells ⟨tcells r⟩ 37)).alloc (by simp; omega) (.cells ⟨tcells r⟩ 37)).grown hgr (by simp; omega) (fun k hk => by have := (World.ownsRow.lt HT4 k hk).1; omega))
    have hb0 := hr3.lt
    have G4 := (Below.refl (w.heap.size + 1) ((w3.alloc (.cells ⟨tcells r⟩ 37)).alloc (.cells ⟨tcells r⟩ 37))).grown hgr (by simp; omega) (fun k hk => (World.ownsRow.lt HT4 k hk).1)
    have HR4 := Lib.hid (((hr3.old ((Below.refl _ _).alloc (Nat.le_refl _) (.cells ⟨tcells r⟩ 37))).old ((Below.refl _ _).alloc (Nat.le_refl _) (.cells ⟨tcells r⟩ 37))).blk (G4.block _ (by omega)) (by have := G4.size; simp at this; omega))
    have HT5 := Lib.hid (TRow.snoc hown)
    rw [HL.out] at HT5
    have hc0 : w4.cell? ⟨w3.heap.size, 0, none⟩ = some (.int .i64 (r.k : Int)) := World.grownBy.cell hgr (tk_mid w3 r _ _ 0 rfl) (fun e => by have h3 := (World.ownsRow.lt HT.out w3.heap.size e.symm).2; omega)
    clear hown hgr HB3 hB3 G4 HT4 s2 s3 hb2 hb3
    by_cases h5 : m = 2
    · have e5 : ((r.k : Int) == 5) = true := by rw [beq_iff_eq]; have := HK.out.1 h5; omega
      subst h5
      go_wp2
      go_ret3
      exact ⟨v', rfl, HT5.out, HB4.out⟩
    · have e5 : ((r.k : Int) == 5) = false := by rw [beq_eq_false_iff_ne]; have := HK.out.2 (by omega); omega
      have PQ := Lib.hid ((PS.out m hm).2.1 (by omega))
      have PR := Lib.hid ((PS.out (m + 1) (by omega)).1)
      have hm1 : m + 1 ≤ 2 := by omega
      clear h5
      go_wp2_with fail
      go_roundw
      case rel => exact ⟨m + 1, hm1, HR4.out, HT5.out, HB4.out⟩
      case measure => rw [HR4.out.posOf, HR.out.posOf]; have := PQ.out; have := PR.out; omega
end Jn
end Go.Proofs.Ythbedbjccmhcoaa
