/-
  rec.Put: its contract. No condition but that a text is short.
-/
import Derived.Test.YtfcpicejifolmaaRu
import Derived.Deep.RegionHeld3
import Derived.Deep.QuietTactic
import Derived.BigQuiet
import Derived.IntWalk
namespace Go.Proofs.Ytfcpicejifolmaa
open Go.ChangeShapes Go.WideShapes Go.ChangeAt Go.RowKit
namespace Rv
set_option linter.unusedVariables false
set_option linter.unusedSimpArgs false
theorem or8 (x w : Nat) (hw : w < 8) (hx : x * 8 + w < 18446744073709551616) : bits .or .u64 ((x : Int) * 8) (w : Int) = ((x * 8 + w : Nat) : Int) := by
  have e1 : (x : Int) * 8 = ((x * 8 : Nat) : Int) := by omega
  rw [e1, u64_or_nat _ _ (by omega) (by omega)]
  congr 1
  have h := Nat.two_pow_add_eq_or_of_lt (i := 3) (b := w) (by omega) x
  rw [show 2 ^ 3 * x = x * 8 by omega] at h
  exact h.symm
theorem bcell {W w1 : World} (hb : Below W.heap.size W w1) : (∀ b o, b < W.heap.size → w1.cell? ⟨b, o, none⟩ = W.cell? ⟨b, o, none⟩) ∧ (∀ b o, b < W.heap.size → w1.frozen? ⟨b, o, none⟩ = W.frozen? ⟨b, o, none⟩) :=
  ⟨fun b o h => hb.cell (p := ⟨b, o, none⟩) h, fun b o h => hb.frozen (p := ⟨b, o, none⟩) h⟩
theorem bin_join (p q : List UInt8) : bin p ++ bin q = bin (p ++ q) := by
  apply ByteArray.ext; simp [bin]
theorem venc_small (v : Nat) (h : v < 18446744073709551616) : (bin (venc v)).size ≤ 10 := by rw [bin_size]; exact venc_ten v h
/-- What Put says. -/
def putB (num wire : Int) (n : Nat) (s : List UInt8) : List UInt8 :=
  if num < 1 ∨ 536870911 < num then [] else if wire = 0 ∨ wire = 1 ∨ wire = 2 ∨ wire = 5 then rput num.toNat wire.toNat n s else []
theorem putB_num {num wire : Int} {n : Nat} {s : List UInt8} (h : num < 1 ∨ 536870911 < num) : putB num wire n s = [] := by unfold putB; rw [if_pos h]
theorem putB_no {num wire : Int} {n : Nat} {s : List UInt8} (h0 : wire ≠ 0) (h1 : wire ≠ 1) (h2 : wire ≠ 2) (h5 : wire ≠ 5) : putB num wire n s = [] := by
  unfold putB; split
  · rfl
  · rw [if_neg]; rintro (h | h | h | h) <;> contradiction
theorem putB_ok {x w n : Nat} {s : List UInt8} (h1 : 1 ≤ x) (h2 : x ≤ 536870911) (hw : w = 0 ∨ w = 1 ∨ w = 2 ∨ w = 5) : putB (x : Int) (w : Int) n s = rput x w n s := by
  unfold putB; rw [if_neg (by omega), if_pos (by omega)]; simp
theorem rput0 (x n : Nat) (s : List UInt8) : rput x 0 n s = venc (x * 8 + 0) ++ venc n := rfl
theorem rput1 (x n : Nat) (s : List UInt8) : rput x 1 n s = venc (x * 8 + 1) ++ leB n 8 := rfl
theorem rput5 (x n : Nat) (s : List UInt8) : rput x 5 n s = venc (x * 8 + 5) ++ leB n 4 := rfl
theorem rput2 (x n : Nat) (s : List UInt8) : rput x 2 n s = venc (x * 8 + 2) ++ (venc s.length ++ s) := rfl
set_option maxHeartbeats 4000000 in
set_option maxRecDepth 100000 in
theorem putrc_any (num wire : Int) (n : Nat) (s raw : ByteArray) (w : World) (hn : n < 18446744073709551616) (hs : s.size ≤ 5000) (b1 : -9223372036854775808 ≤ num) (b2 : num ≤ 9223372036854775807) (b3 : -9223372036854775808 ≤ wire) (b4 : wire ≤ 9223372036854775807) :
    Calls Try.prog 23 #[.agg #[.int .i64 num, .int .i64 wire, .int .u64 (n : Int), .string s, .string raw]] w fun e w' => e = .returned (.string (bin (putB num wire n s.data.toList))) ∧ Below w.heap.size w w' := by
  by_cases hnum : num < 1 ∨ 536870911 < num
  · rw [putB_num hnum]
    by_cases h1 : num < 1
    · clear hnum
      go_enter Try.func23, Try.ntmps23
      go_wp2
      go_ret
      exact ⟨rfl, by go_grown⟩
    · have h2 : 536870911 < num := by omega
      clear hnum
      go_enter Try.func23, Try.ntmps23
      go_wp2
      go_ret
      exact ⟨rfl, by go_grown⟩
  · obtain ⟨x, rfl⟩ := Int.eq_ofNat_of_zero_le (show 0 ≤ num by omega)
    have x1 : 1 ≤ x := by omega
    have x2 : x ≤ 536870911 := by omega
    have hvi : (n : Int) ≤ 18446744073709551615 := by omega
    have x1' : ¬ (x : Int) < 1 := by omega
    have x2' : ¬ 536870911 < (x : Int) := by omega
    clear hnum b1 b2
    by_cases hw : wire = 0 ∨ wire = 1 ∨ wire = 2 ∨ wire = 5
    · obtain ⟨z, rfl⟩ := Int.eq_ofNat_of_zero_le (show 0 ≤ wire by omega)
      have hz : z = 0 ∨ z = 1 ∨ z = 2 ∨ z = 5 := by omega
      rw [putB_ok x1 x2 hz]
      clear hw b3 b4
      rcases hz with rfl | rfl | rfl | rfl
      · have cT := Lib.hid (fun W => put_any (x * 8 + 0) W (by omega))
        have cB := Lib.hid (fun W => put_any n W hn)
        have ho := or8 x 0 (by omega) (by omega)
        rw [show ((0 : Nat) : Int) = 0 from rfl] at ho
        obtain ⟨T, hT⟩ : ∃ T, T = ByteArray.mk (venc (x * 8 + 0)).toArray := ⟨_, rfl⟩
        obtain ⟨B, hB⟩ : ∃ B, B = ByteArray.mk (venc n).toArray := ⟨_, rfl⟩
        have hTs : T.size ≤ 10 := by rw [hT]; exact venc_small (x * 8 + 0) (by omega)
        have hBs : B.size ≤ 10 := by rw [hB]; exact venc_small _ (by omega)
        rw [← hT, ← ho] at cT
        rw [← hB] at cB
        have HT := Lib.hid hT
        have HB := Lib.hid hB
        clear ho hT hB
        go_enter Try.func23, Try.ntmps23
        go_wp2_with (first | (go_at_call 18; ((with_reducible refine (cB.out _).mono ?_); rintro e w2 ⟨rfl, hb2⟩; obtain ⟨hc2, hf2⟩ := bcell hb2)) | (go_at_call 18; ((with_reducible refine (cT.out _).mono ?_); rintro e w3 ⟨rfl, hb3⟩)))
        go_ret
        exact ⟨by rw [HT.out, HB.out, rput0]; exact congrArg (fun z => Ending.returned (.string z)) (bin_join _ _), (((Below.refl w.heap.size w).alloc (Nat.le_refl _) _).trans (hb2.mono (by simp))).trans (hb3.mono (by have := hb2.size; simp at this; omega))⟩
      · have cT := Lib.hid (fun W => put_any (x * 8 + 1) W (by omega))
        have cB := Lib.hid (fun W => putfixed_any n 8 W (by omega) (by omega) hn)
        have ho := or8 x 1 (by omega) (by omega)
        rw [show ((1 : Nat) : Int) = 1 from rfl] at ho
        obtain ⟨T, hT⟩ : ∃ T, T = ByteArray.mk (venc (x * 8 + 1)).toArray := ⟨_, rfl⟩
        obtain ⟨B, hB⟩ : ∃ B, B = bin (leB n 8) := ⟨_, rfl⟩
        have hTs : T.size ≤ 10 := by rw [hT]; exact venc_small (x * 8 + 1) (by omega)
        have hBs : B.size ≤ 10 := by rw [hB]; rw [bin_size, leB_len]; omega
        rw [← hT, ← ho] at cT
        rw [← hB, show ((8 : Nat) : Int) = 8 from rfl] at cB
        have HT := Lib.hid hT
        have HB := Lib.hid hB
        clear ho hT hB
        go_enter Try.func23, Try.ntmps23
        go_wp2_with (first | (go_at_call 38; ((with_reducible refine (cB.out _).mono ?_); rintro e w2 ⟨rfl, hb2⟩; obtain ⟨hc2, hf2⟩ := bcell hb2)) | (go_at_call 18; ((with_reducible refine (cT.out _).mono ?_); rintro e w3 ⟨rfl, hb3⟩)))
        go_ret
        exact ⟨by rw [HT.out, HB.out, rput1]; exact congrArg (fun z => Ending.returned (.string z)) (bin_join _ _), (((Below.refl w.heap.size w).alloc (Nat.le_refl _) _).trans (hb2.mono (by simp))).trans (hb3.mono (by have := hb2.size; simp at this; omega))⟩
      · have cT := Lib.hid (fun W => put_any (x * 8 + 2) W (by omega))
        have cB := Lib.hid (fun W => put_any s.size W (by omega))
        have ho := or8 x 2 (by omega) (by omega)
        rw [show ((2 : Nat) : Int) = 2 from rfl] at ho
        obtain ⟨T, hT⟩ : ∃ T, T = ByteArray.mk (venc (x * 8 + 2)).toArray := ⟨_, rfl⟩
        obtain ⟨B, hB⟩ : ∃ B, B = ByteArray.mk (venc s.size).toArray := ⟨_, rfl⟩
        have hTs : T.size ≤ 10 := by rw [hT]; exact venc_small (x * 8 + 2) (by omega)
        have hBs : B.size ≤ 10 := by rw [hB]; exact venc_small _ (by omega)
        rw [← hT, ← ho] at cT
        rw [← hB] at cB
        have HT := Lib.hid hT
        have HB := Lib.hid hB
        clear ho hT hB
        go_enter Try.func23, Try.ntmps23
        have hC : (w.alloc (.cells #[.int .i64 (x : Int), .int .i64 2, .int .u64 (n : Int), .string s, .string raw] 30)).cell? ⟨w.heap.size, 3, none⟩ = some (.string s) := by
          have := rc_src w (.int .i64 (x : Int)) (.int .i64 2) (.int .u64 (n : Int)) (.string s) (.string raw) 30 3 (.string s) rfl
          rw [Addr.add_lit, Nat.zero_add] at this; exact this
        have HC : Hid (∀ W, Below (w.alloc (.cells #[.int .i64 (x : Int), .int .i64 2, .int .u64 (n : Int), .string s, .string raw] 30)).heap.size (w.alloc (.cells #[.int .i64 (x : Int), .int .i64 2, .int .u64 (n : Int), .string s, .string raw] 30)) W → W.cell? ⟨w.heap.size, 3, none⟩ = some (.string s)) := fun W h => (h.cell (p := ⟨w.heap.size, 3, none⟩) (by simp)).trans hC
        clear hC
        go_wp2_with fail
        refine wp_region_noPanic ?_
        refine wp_region_held_drew (S := fun W => Below (w.alloc (.cells #[.int .i64 (x : Int), .int .i64 2, .int .u64 (n : Int), .string s, .string raw] 30)).heap.size (w.alloc (.cells #[.int .i64 (x : Int), .int .i64 2, .int .u64 (n : Int), .string s, .string raw] 30)) W) (by kernel_rfl) (Below.refl _ _).drew (fun hS => ?_)
        refine wpAnyH_take (i := 0) (v := .pointer (some ⟨w.heap.size, 3, none⟩)) rfl (by kernel_rfl) (by kernel_rfl) (by kernel_rfl) (fun _ _ _ h => False.elim h) (Or.inl ⟨by kernel_rfl, fun w' hw' => by (try go_simp); (try first | with_reducible rfl | decide | exact wrap64n _ (by omega) | omega)⟩) hS ?_
        try simp only [Act.put, List.getElem_toArray, List.getElem_cons_zero, List.getElem_cons_succ, List.setIfInBounds_toArray, List.set_cons_zero, List.set_cons_succ]
        refine wpAnyH_take (i := 1) (v := .string s) rfl (by kernel_rfl) (by kernel_rfl) (by kernel_rfl) (fun _ _ _ h => False.elim h) (Or.inl ⟨by kernel_rfl, fun w' hw' => by have hcell := HC.out w' hw'; (try go_simp); (try first | with_reducible rfl | decide | exact wrap64n _ (by omega) | omega)⟩) hS ?_
        try simp only [Act.put, List.getElem_toArray, List.getElem_cons_zero, List.getElem_cons_succ, List.setIfInBounds_toArray, List.set_cons_zero, List.set_cons_succ]
        refine wpAnyH_take (i := 2) (v := .int .i64 (s.size : Int)) rfl (by kernel_rfl) (by kernel_rfl) (by kernel_rfl) (fun _ _ _ h => False.elim h) (Or.inl ⟨by kernel_rfl, fun w' hw' => by (try go_simp); (try first | with_reducible rfl | decide | exact wrap64n _ (by omega) | omega)⟩) hS ?_
        try simp only [Act.put, List.getElem_toArray, List.getElem_cons_zero, List.getElem_cons_succ, List.setIfInBounds_toArray, List.set_cons_zero, List.set_cons_succ]
        refine wpAnyH_take (i := 3) (v := .int .u64 (s.size : Int)) rfl (by kernel_rfl) (by kernel_rfl) (by kernel_rfl) (fun _ _ _ h => False.elim h) (Or.inl ⟨by kernel_rfl, fun w' hw' => by (try go_simp); (try first | with_reducible rfl | decide | exact wrap64n _ (by omega) | omega)⟩) hS ?_
        try simp only [Act.put, List.getElem_toArray, List.getElem_cons_zero, List.getElem_cons_succ, List.setIfInBounds_toArray, List.set_cons_zero, List.set_cons_succ]
        refine wpAnyH_take (i := 5) (v := .pointer (some ⟨w.heap.size, 3, none⟩)) rfl (by kernel_rfl) (by kernel_rfl) (by kernel_rfl) (fun _ _ _ h => False.elim h) (Or.inl ⟨by kernel_rfl, fun w' hw' => by (try go_simp); (try first | with_reducible rfl | decide | exact wrap64n _ (by omega) | omega)⟩) hS ?_
        try simp only [Act.put, List.getElem_toArray, List.getElem_cons_zero, List.getElem_cons_succ, List.setIfInBounds_toArray, List.set_cons_zero, List.set_cons_succ]
        refine wpAnyH_take (i := 6) (v := .string s) rfl (by kernel_rfl) (by kernel_rfl) (by kernel_rfl) (fun _ _ _ h => False.elim h) (Or.inl ⟨by kernel_rfl, fun w' hw' => by have hcell := HC.out w' hw'; (try go_simp); (try first | with_reducible rfl | decide | exact wrap64n _ (by omega) | omega)⟩) hS ?_
        try simp only [Act.put, List.getElem_toArray, List.getElem_cons_zero, List.getElem_cons_succ, List.setIfInBounds_toArray, List.set_cons_zero, List.set_cons_succ]
        refine wpAnyH_ready (rs := [4]) (by kernel_rfl) (by simp) ?_
        refine AllReadyH.cons rfl (fun K hK => ?_) AllReadyH.nil
        go_simp
        go_at_call 18
        refine (cB.out _).mono ?_
        rintro e w5 ⟨rfl, hb5⟩
        go_wp2_with fail
        refine hK.out _ _ (hS.trans (hb5.mono hS.size)) (fun hS => ?_)
        clear hK K
        try simp only [Act.put, List.getElem_toArray, List.getElem_cons_zero, List.getElem_cons_succ, List.setIfInBounds_toArray, List.set_cons_zero, List.set_cons_succ]
        refine wpAnyH_take (i := 7) (v := .string (B ++ s)) rfl (by kernel_rfl) (by kernel_rfl) (by kernel_rfl) (fun _ _ _ h => False.elim h) (Or.inl ⟨by kernel_rfl, fun w' hw' => by (try go_simp); (try first | with_reducible rfl | decide | exact wrap64n _ (by omega) | omega)⟩) hS ?_
        try simp only [Act.put, List.getElem_toArray, List.getElem_cons_zero, List.getElem_cons_succ, List.setIfInBounds_toArray, List.set_cons_zero, List.set_cons_succ]
        refine wpAnyH_take (i := 8) (v := .string (B ++ s)) rfl (by kernel_rfl) (by kernel_rfl) (by kernel_rfl) (fun _ _ _ h => False.elim h) (Or.inl ⟨by kernel_rfl, fun w' hw' => by (try go_simp); (try first | with_reducible rfl | decide | exact wrap64n _ (by omega) | omega)⟩) hS ?_
        try simp only [Act.put, List.getElem_toArray, List.getElem_cons_zero, List.getElem_cons_succ, List.setIfInBounds_toArray, List.set_cons_zero, List.set_cons_succ]
        refine wpAnyH_done (by kernel_rfl) ?_ _
        refine NoPanic.normal ?_
        obtain ⟨hc2, hf2⟩ := bcell hS
        have hbs : (B ++ s).size ≤ 6000 := by rw [ByteArray.size_append]; omega
        go_wp2_with (go_at_call 18; ((with_reducible refine (cT.out _).mono ?_); rintro e w3 ⟨rfl, hb3⟩))
        go_ret
        have hsl : s.data.toList.length = s.size := by simp
        have hfin : T ++ (B ++ s) = bin (rput x 2 n s.data.toList) := by
          rw [HT.out, HB.out, rput2, hsl]
          apply ByteArray.ext; simp [bin]
        exact ⟨by rw [← hfin]; rfl, (((Below.refl w.heap.size w).alloc (Nat.le_refl _) _).trans (hS.mono (by simp))).trans (hb3.mono (by have := hS.size; simp at this; omega))⟩
      · have cT := Lib.hid (fun W => put_any (x * 8 + 5) W (by omega))
        have cB := Lib.hid (fun W => putfixed_any n 4 W (by omega) (by omega) hn)
        have ho := or8 x 5 (by omega) (by omega)
        rw [show ((5 : Nat) : Int) = 5 from rfl] at ho
        obtain ⟨T, hT⟩ : ∃ T, T = ByteArray.mk (venc (x * 8 + 5)).toArray := ⟨_, rfl⟩
        obtain ⟨B, hB⟩ : ∃ B, B = bin (leB n 4) := ⟨_, rfl⟩
        have hTs : T.size ≤ 10 := by rw [hT]; exact venc_small (x * 8 + 5) (by omega)
        have hBs : B.size ≤ 10 := by rw [hB]; rw [bin_size, leB_len]; omega
        rw [← hT, ← ho] at cT
        rw [← hB, show ((4 : Nat) : Int) = 4 from rfl] at cB
        have HT := Lib.hid hT
        have HB := Lib.hid hB
        clear ho hT hB
        go_enter Try.func23, Try.ntmps23
        go_wp2_with (first | (go_at_call 38; ((with_reducible refine (cB.out _).mono ?_); rintro e w2 ⟨rfl, hb2⟩; obtain ⟨hc2, hf2⟩ := bcell hb2)) | (go_at_call 18; ((with_reducible refine (cT.out _).mono ?_); rintro e w3 ⟨rfl, hb3⟩)))
        go_ret
        exact ⟨by rw [HT.out, HB.out, rput5]; exact congrArg (fun z => Ending.returned (.string z)) (bin_join _ _), (((Below.refl w.heap.size w).alloc (Nat.le_refl _) _).trans (hb2.mono (by simp))).trans (hb3.mono (by have := hb2.size; simp at this; omega))⟩
    · have w0 : wire ≠ 0 := fun h => hw (.inl h)
      have w1 : wire ≠ 1 := fun h => hw (.inr (.inl h))
      have w2 : wire ≠ 2 := fun h => hw (.inr (.inr (.inl h)))
      have w5 : wire ≠ 5 := fun h => hw (.inr (.inr (.inr h)))
      rw [putB_no w0 w1 w2 w5]
      have e0 : (wire == 0) = false := by rw [beq_eq_false_iff_ne]; exact w0
      have e1 : (wire == 1) = false := by rw [beq_eq_false_iff_ne]; exact w1
      have e2 : (wire == 2) = false := by rw [beq_eq_false_iff_ne]; exact w2
      have e5 : (wire == 5) = false := by rw [beq_eq_false_iff_ne]; exact w5
      clear hw w0 w1 w2 w5
      go_enter Try.func23, Try.ntmps23
      go_wp2
      go_ret
      exact ⟨rfl, by go_grown⟩
end Rv
end Go.Proofs.Ytfcpicejifolmaa
