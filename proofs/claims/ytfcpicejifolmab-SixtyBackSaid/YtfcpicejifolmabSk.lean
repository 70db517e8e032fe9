/-
  SixtyBack: bytes come back, and a text that is taken is the one that they have. No condition.
-/
import Derived.Test.YtfcpicejifolmabSt
import Derived.Deep.RegionHeld3
namespace Go.Proofs.Ytfcpicejifolmab
open Go.ChangeShapes Go.WideShapes Go.ChangeAt Go.RowKit
namespace Six
open Mem
set_option linter.unusedVariables false
set_option linter.unusedSimpArgs false
theorem tolist_ne {a b : ByteArray} (h : a ≠ b) : ¬ a.toList = b.toList := fun e => h (bytes_inj (by rw [ByteArray.toList_eq, ByteArray.toList_eq] at e; exact e))
set_option maxHeartbeats 1000000 in
set_option maxRecDepth 20000 in
theorem back_long (s : ByteArray) (a1 a2 : Int) (w : World) (hl : 60 < s.size) (hm : s.size ≤ 9223372036854775807) :
    Calls Try.prog 4 #[.string s, .int .u8 a1, .int .u8 a2] w fun e w' => e = .returned (.bool true) ∧ Below w.heap.size w w' := by
  have hl' : 60 < (s.size : Int) := by omega
  go_enter Try.func4, Try.ntmps4
  go_wp2_with (go_at_call 6; refine (begun_any _).mono ?_; rintro e w1 ⟨rfl, hb1⟩)
  go_ret
  exact ⟨rfl, hb1⟩
set_option maxHeartbeats 1000000 in
set_option maxRecDepth 20000 in
theorem back_nil (s : ByteArray) (a1 a2 : Int) (w : World) (hl : s.size = 0) :
    Calls Try.prog 4 #[.string s, .int .u8 a1, .int .u8 a2] w fun e w' => e = .returned (.bool true) ∧ Below w.heap.size w w' := by
  have h0 : s = bin [] := by
    apply bytes_inj
    rw [bin_list]
    exact List.length_eq_zero_iff.1 (by rw [Array.length_toList]; exact hl)
  subst h0
  have c1 := Lib.hid (fun W => put_any (bin []) W (by simp [bin_size]))
  have e1 : (bin []).data.toList = [] := bin_list []
  have e2 : bin (enc (bin []).data.toList) = bin [] := by rw [e1, enc]
  rw [e2] at c1
  have c2 := Lib.hid (fun W => take_any (bin []) W (by simp [bin_size]))
  rw [e1, tend_some (show dec [] = some [] by simp [dec])] at c2
  have hz : (bin []).size = 0 := by simp [bin_size]
  go_enter Try.func4, Try.ntmps4
  go_wp2_with (first | (go_at_call 6; refine (begun_any _).mono ?_; rintro e w1 ⟨rfl, hb1⟩) | (go_at_call 9; ((with_reducible refine (c1.out _).mono ?_); rintro e w2 ⟨rfl, hb2⟩)) | (go_at_call 7; ((with_reducible refine (c2.out _).mono ?_); rintro e w3 ⟨rfl, hb3⟩)))
  go_ret
  exact ⟨rfl, hb1.trans ((hb2.trans (hb3.mono hb2.size)).mono hb1.size)⟩
theorem turned (w3 : World) (l : List UInt8) (n : Nat) (to : UInt8) (hn : n < l.length) {base : Nat} (hb : base ≤ w3.heap.size) :
    (∃ u, (Lib.bytesWorld w3 5 (bin l)).cell? ⟨w3.heap.size, n, none⟩ = some u) ∧ (Lib.bytesWorld w3 5 (bin l)).frozen? ⟨w3.heap.size, n, none⟩ = false ∧
    BRow ((Lib.bytesWorld w3 5 (bin l)).setCell ⟨w3.heap.size, n, none⟩ (.int .u8 (to.toNat : Int))) base 5 (.slice (some ⟨w3.heap.size, 0, none⟩) l.length (grownCap w3 l.length 0 5)) (l.set n to) ∧
    Below base w3 ((Lib.bytesWorld w3 5 (bin l)).setCell ⟨w3.heap.size, n, none⟩ (.int .u8 (to.toNat : Int))) := by
  have hr := bytes_row w3 5 l hb
  obtain ⟨_, _, hh⟩ := hr.out
  obtain ⟨h1, h2⟩ := hh.1 n l[n] (by simp [hn])
  exact ⟨⟨_, h1⟩, h2, hr.set n to hn, (bytes_below w3 5 (bin l) hb).setCell hb _⟩
set_option maxHeartbeats 2000000 in
set_option maxRecDepth 20000 in
theorem back_law (s : ByteArray) (at' n L : Nat) (to : UInt8) (w : World) (hs : s.size ≤ 60) (h1 : 1 ≤ s.size) (hL : (s.size + 2) / 3 * 4 = L) (hn : (at' : Int) % (L : Int) = (n : Int)) (hnl : n < L) (hat : at' ≤ 255) :
    Calls Try.prog 4 #[.string s, .int .u8 at', .int .u8 (to.toNat : Int)] w fun e w' => e = .returned (.bool true) ∧ Below w.heap.size w w' := by
  obtain ⟨l, hl⟩ : ∃ l, l = enc s.data.toList := ⟨_, rfl⟩
  have hll : l.length = L := by rw [hl, ← hL, ← enc_size, bin_size]
  obtain ⟨t, ht⟩ : ∃ t, t = bin l := ⟨_, rfl⟩
  have hts : t.size = L := by rw [ht, bin_size, hll]
  have hL4 : 4 ≤ L ∧ L ≤ 80 := by omega
  have c1 := Lib.hid (fun W => put_any s W (by omega))
  rw [← hl, ← ht] at c1
  have c2 := Lib.hid (fun W => take_any t W (by omega))
  have hdec : dec t.data.toList = some s.data.toList := by rw [ht, bin_list, hl, dec_enc]
  rw [tend_some hdec, bin_of] at c2
  obtain ⟨X, hX⟩ : ∃ X, X = bin (l.set n to) := ⟨_, rfl⟩
  have hXs : X.size = L := by rw [hX, bin_size, List.length_set, hll]
  have c3 := Lib.hid (fun W => take_any X W (by omega))
  have hXl : X.data.toList = l.set n to := by rw [hX, bin_list]
  have hLL : ((s.size : Int) + 2) / 3 * 4 = (L : Int) := by omega
  have HTS := Lib.hid hts
  have HL4 := Lib.hid hL4
  have HX := Lib.hid hX
  have HT := Lib.hid ht
  have HLL := Lib.hid hll
  have HNL := Lib.hid hnl
  have hLz : ((L : Int) == 0) = false := by rw [beq_eq_false_iff_ne]; omega
  clear hdec
  have hnl' : (n : Int) < (L : Int) := by omega
  have hXT : X.toList = X.data.toList := ByteArray.toList_eq X
  cases hd : dec (l.set n to) with
  | none =>
    rw [hXl, tend_none hd] at c3
    clear hd hXl hL4 hll ht hX hl hL hXT
    go_enter Try.func4, Try.ntmps4
    go_wp2_with (first | (go_at_call 6; refine (begun_any _).mono ?_; rintro e w1 ⟨rfl, hb1⟩) | (go_at_call 9; ((with_reducible refine (c1.out _).mono ?_); rintro e w2 ⟨rfl, hb2⟩)) | (go_at_call 7; ((with_reducible refine (c2.out _).mono ?_); rintro e w3 ⟨rfl, hb3⟩; have cvA := Lib.run_convert_string_bytes (P := Try.prog) w3 9 28 5 t Try.underlying9 Try.underlying28 Try.underlying5; rw [HTS.out] at cvA; have hbb := hb1.trans ((hb2.trans (hb3.mono hb2.size)).mono hb1.size); obtain ⟨⟨u, hc⟩, hf, hr, hbw⟩ := turned w3 l n to (by rw [HLL.out]; exact HNL.out) (base := w.heap.size) hbb.size; rw [← HT.out, HLL.out] at hr; rw [← HT.out] at hc hf hbw; have cvB := row_text (P := Try.prog) Try.underlying28 Try.underlying5 Try.underlying9 hr; rw [← HX.out] at cvB; have HR := Lib.hid hr; have HBW := Lib.hid (hbb.trans hbw); clear hr hbw hbb hb1 hb2 hb3)) | (go_at_call 7; ((with_reducible refine (c3.out _).mono ?_); rintro e w4 ⟨rfl, hb4⟩)))
    go_ret
    exact ⟨ret_bool (by rw [ByteArray.toList_eq, bin_list]; rfl), HBW.out.trans (hb4.mono HBW.out.size)⟩
  | some c =>
    rw [hXl, tend_some hd] at c3
    have hce := enc_dec _ _ hd
    have hcl : (bin c).size ≤ 60 := by
      have h1 := congrArg List.length hce
      rw [enc_len, List.length_set, hll] at h1
      rw [bin_size]; omega
    have c4 := Lib.hid (fun W => put_any (bin c) W (by omega))
    rw [bin_list, hce, ← hX] at c4
    obtain ⟨C, hC⟩ : ∃ C, C = bin c := ⟨_, rfl⟩
    rw [← hC] at c3 c4
    have key : C = s ↔ X = t := by
      constructor
      · intro h
        have : c = s.data.toList := by rw [← h, hC, bin_list]
        rw [hX, ← hce, this, ← hl, ← ht]
      · intro h
        have h2 : l.set n to = l := by rw [← hXl, h, ht, bin_list]
        rw [h2, hl, dec_enc] at hd
        have := Option.some.inj hd
        rw [hC, ← this, bin_of]
    by_cases hCs : C = s
    · have hXt := key.1 hCs
      have hn1 : C.toList = s.toList := by rw [hCs]
      have hn2 : X.toList = t.toList := by rw [hXt]
      clear hd hXl hL4 hll ht hX hl hL hXT key hce hcl hC hCs hXt
      go_enter Try.func4, Try.ntmps4
      go_wp2_with (first | (go_at_call 6; refine (begun_any _).mono ?_; rintro e w1 ⟨rfl, hb1⟩) | (go_at_call 9; ((with_reducible refine (c1.out _).mono ?_); rintro e w2 ⟨rfl, hb2⟩)) | (go_at_call 7; ((with_reducible refine (c2.out _).mono ?_); rintro e w3 ⟨rfl, hb3⟩; have cvA := Lib.run_convert_string_bytes (P := Try.prog) w3 9 28 5 t Try.underlying9 Try.underlying28 Try.underlying5; rw [HTS.out] at cvA; have hbb := hb1.trans ((hb2.trans (hb3.mono hb2.size)).mono hb1.size); obtain ⟨⟨u, hc⟩, hf, hr, hbw⟩ := turned w3 l n to (by rw [HLL.out]; exact HNL.out) (base := w.heap.size) hbb.size; rw [← HT.out, HLL.out] at hr; rw [← HT.out] at hc hf hbw; have cvB := row_text (P := Try.prog) Try.underlying28 Try.underlying5 Try.underlying9 hr; rw [← HX.out] at cvB; have HR := Lib.hid hr; have HBW := Lib.hid (hbb.trans hbw); clear hr hbw hbb hb1 hb2 hb3)) | (go_at_call 7; ((with_reducible refine (c3.out _).mono ?_); rintro e w4 ⟨rfl, hb4⟩)))
      have HR4 := Lib.hid (HR.out.old hb4 (Nat.le_refl _))
      have CVS := Lib.hid (fun (W : World) (h : Below w4.heap.size w4 W) => row_text (P := Try.prog) Try.underlying28 Try.underlying5 Try.underlying9 (HR4.out.old h (Nat.le_refl _)))
      rw [← HX.out] at CVS
      have HB4 := Lib.hid (HBW.out.trans (hb4.mono HBW.out.size))
      clear hb4 cvA cvB hc hf
      refine wp_region_noPanic ?_
      refine wp_region_held_drew (S := fun W => Below w4.heap.size w4 W) (by kernel_rfl) (Below.refl _ _).drew (fun hS => ?_)
      refine wpAnyH_take (i := 0) (v := .string C) rfl (by kernel_rfl) (by kernel_rfl) (by kernel_rfl) (fun _ _ _ h => False.elim h) (Or.inl ⟨by kernel_rfl, fun w' hw' => by (try go_simp); (try first | with_reducible rfl | decide)⟩) hS ?_
      try simp only [Act.put, List.getElem_toArray, List.getElem_cons_zero, List.getElem_cons_succ, List.setIfInBounds_toArray, List.set_cons_zero, List.set_cons_succ]
      refine wpAnyH_take (i := 2) (v := .slice (some ⟨w3.heap.size, 0, none⟩) L (grownCap w3 L 0 5)) rfl (by kernel_rfl) (by kernel_rfl) (by kernel_rfl) (fun _ _ _ h => False.elim h) (Or.inl ⟨by kernel_rfl, fun w' hw' => by (try go_simp); (try first | with_reducible rfl | decide)⟩) hS ?_
      try simp only [Act.put, List.getElem_toArray, List.getElem_cons_zero, List.getElem_cons_succ, List.setIfInBounds_toArray, List.set_cons_zero, List.set_cons_succ]
      refine wpAnyH_take (i := 3) (v := .string X) rfl (by kernel_rfl) (by kernel_rfl) (by kernel_rfl) (fun _ _ _ h => False.elim h) (Or.inl ⟨by kernel_rfl, fun w' hw' => by have hcv := CVS.out w' hw'; (try go_simp); (try first | with_reducible rfl | decide)⟩) hS ?_
      try simp only [Act.put, List.getElem_toArray, List.getElem_cons_zero, List.getElem_cons_succ, List.setIfInBounds_toArray, List.set_cons_zero, List.set_cons_succ]
      refine wpAnyH_ready (rs := [1]) (by kernel_rfl) (by simp) ?_
      refine AllReadyH.cons rfl (fun K hK => ?_) AllReadyH.nil
      go_simp
      go_at_call 9
      refine (c4.out _).mono ?_
      rintro e w5 ⟨rfl, hb5⟩
      go_wp2_with fail
      refine hK.out _ _ (hS.trans (hb5.mono hS.size)) (fun hS => ?_)
      clear hK K
      try simp only [Act.put, List.getElem_toArray, List.getElem_cons_zero, List.getElem_cons_succ, List.setIfInBounds_toArray, List.set_cons_zero, List.set_cons_succ]
      refine wpAnyH_take (i := 4) (v := .bool true) rfl (by kernel_rfl) (by kernel_rfl) (by kernel_rfl) (fun _ _ _ h => False.elim h) (Or.inl ⟨by kernel_rfl, fun w' hw' => by (try go_simp); (try first | with_reducible rfl | decide)⟩) hS ?_
      try simp only [Act.put, List.getElem_toArray, List.getElem_cons_zero, List.getElem_cons_succ, List.setIfInBounds_toArray, List.set_cons_zero, List.set_cons_succ]
      refine wpAnyH_take (i := 5) (v := .bool true) rfl (by kernel_rfl) (by kernel_rfl) (by kernel_rfl) (fun _ _ _ h => False.elim h) (Or.inl ⟨by kernel_rfl, fun w' hw' => by (try go_simp); (try first | with_reducible rfl | decide)⟩) hS ?_
      try simp only [Act.put, List.getElem_toArray, List.getElem_cons_zero, List.getElem_cons_succ, List.setIfInBounds_toArray, List.set_cons_zero, List.set_cons_succ]
      refine wpAnyH_take (i := 6) (v := .string C) rfl (by kernel_rfl) (by kernel_rfl) (by kernel_rfl) (fun _ _ _ h => False.elim h) (Or.inl ⟨by kernel_rfl, fun w' hw' => by (try go_simp); (try first | with_reducible rfl | decide)⟩) hS ?_
      try simp only [Act.put, List.getElem_toArray, List.getElem_cons_zero, List.getElem_cons_succ, List.setIfInBounds_toArray, List.set_cons_zero, List.set_cons_succ]
      refine wpAnyH_take (i := 7) (v := .string s) rfl (by kernel_rfl) (by kernel_rfl) (by kernel_rfl) (fun _ _ _ h => False.elim h) (Or.inl ⟨by kernel_rfl, fun w' hw' => by (try go_simp); (try first | with_reducible rfl | decide)⟩) hS ?_
      try simp only [Act.put, List.getElem_toArray, List.getElem_cons_zero, List.getElem_cons_succ, List.setIfInBounds_toArray, List.set_cons_zero, List.set_cons_succ]
      refine wpAnyH_take (i := 8) (v := .bool true) rfl (by kernel_rfl) (by kernel_rfl) (by kernel_rfl) (fun _ _ _ h => False.elim h) (Or.inl ⟨by kernel_rfl, fun w' hw' => by (try go_simp); (try first | with_reducible rfl | decide)⟩) hS ?_
      try simp only [Act.put, List.getElem_toArray, List.getElem_cons_zero, List.getElem_cons_succ, List.setIfInBounds_toArray, List.set_cons_zero, List.set_cons_succ]
      refine wpAnyH_take (i := 9) (v := .slice (some ⟨w3.heap.size, 0, none⟩) L (grownCap w3 L 0 5)) rfl (by kernel_rfl) (by kernel_rfl) (by kernel_rfl) (fun _ _ _ h => False.elim h) (Or.inl ⟨by kernel_rfl, fun w' hw' => by (try go_simp); (try first | with_reducible rfl | decide)⟩) hS ?_
      try simp only [Act.put, List.getElem_toArray, List.getElem_cons_zero, List.getElem_cons_succ, List.setIfInBounds_toArray, List.set_cons_zero, List.set_cons_succ]
      refine wpAnyH_take (i := 10) (v := .string X) rfl (by kernel_rfl) (by kernel_rfl) (by kernel_rfl) (fun _ _ _ h => False.elim h) (Or.inl ⟨by kernel_rfl, fun w' hw' => by have hcv := CVS.out w' hw'; (try go_simp); (try first | with_reducible rfl | decide)⟩) hS ?_
      try simp only [Act.put, List.getElem_toArray, List.getElem_cons_zero, List.getElem_cons_succ, List.setIfInBounds_toArray, List.set_cons_zero, List.set_cons_succ]
      refine wpAnyH_take (i := 11) (v := .string t) rfl (by kernel_rfl) (by kernel_rfl) (by kernel_rfl) (fun _ _ _ h => False.elim h) (Or.inl ⟨by kernel_rfl, fun w' hw' => by (try go_simp); (try first | with_reducible rfl | decide)⟩) hS ?_
      try simp only [Act.put, List.getElem_toArray, List.getElem_cons_zero, List.getElem_cons_succ, List.setIfInBounds_toArray, List.set_cons_zero, List.set_cons_succ]
      refine wpAnyH_take (i := 12) (v := .bool true) rfl (by kernel_rfl) (by kernel_rfl) (by kernel_rfl) (fun _ _ _ h => False.elim h) (Or.inl ⟨by kernel_rfl, fun w' hw' => by (try go_simp); (try first | with_reducible rfl | decide)⟩) hS ?_
      try simp only [Act.put, List.getElem_toArray, List.getElem_cons_zero, List.getElem_cons_succ, List.setIfInBounds_toArray, List.set_cons_zero, List.set_cons_succ]
      refine wpAnyH_take (i := 13) (v := .bool true) rfl (by kernel_rfl) (by kernel_rfl) (by kernel_rfl) (fun _ _ _ h => False.elim h) (Or.inl ⟨by kernel_rfl, fun w' hw' => by (try go_simp); (try first | with_reducible rfl | decide)⟩) hS ?_
      try simp only [Act.put, List.getElem_toArray, List.getElem_cons_zero, List.getElem_cons_succ, List.setIfInBounds_toArray, List.set_cons_zero, List.set_cons_succ]
      refine wpAnyH_take (i := 14) (v := .bool true) rfl (by kernel_rfl) (by kernel_rfl) (by kernel_rfl) (fun _ _ _ h => False.elim h) (Or.inl ⟨by kernel_rfl, fun w' hw' => by (try go_simp); (try first | with_reducible rfl | decide)⟩) hS ?_
      try simp only [Act.put, List.getElem_toArray, List.getElem_cons_zero, List.getElem_cons_succ, List.setIfInBounds_toArray, List.set_cons_zero, List.set_cons_succ]
      refine wpAnyH_take (i := 15) (v := .bool true) rfl (by kernel_rfl) (by kernel_rfl) (by kernel_rfl) (fun _ _ _ h => False.elim h) (Or.inl ⟨by kernel_rfl, fun w' hw' => by (try go_simp); (try first | with_reducible rfl | decide)⟩) hS ?_
      try simp only [Act.put, List.getElem_toArray, List.getElem_cons_zero, List.getElem_cons_succ, List.setIfInBounds_toArray, List.set_cons_zero, List.set_cons_succ]
      refine wpAnyH_done (by kernel_rfl) ?_ _
      refine NoPanic.normal ?_
      have hF := HB4.out.trans (hS.mono HB4.out.size)
      clear HB4 CVS HR4 HR HBW
      go_wp2
      go_ret
      exact ⟨by first | kernel_rfl | (simp; done) | trace_state, hF⟩
    · have hXt : ¬ X = t := fun h => hCs (key.2 h)
      have hn1 := tolist_ne hCs
      have hn2 := tolist_ne hXt
      clear hd hXl hL4 hll ht hX hl hL hXT key hce hcl hC hCs hXt
      go_enter Try.func4, Try.ntmps4
      go_wp2_with (first | (go_at_call 6; refine (begun_any _).mono ?_; rintro e w1 ⟨rfl, hb1⟩) | (go_at_call 9; ((with_reducible refine (c1.out _).mono ?_); rintro e w2 ⟨rfl, hb2⟩)) | (go_at_call 7; ((with_reducible refine (c2.out _).mono ?_); rintro e w3 ⟨rfl, hb3⟩; have cvA := Lib.run_convert_string_bytes (P := Try.prog) w3 9 28 5 t Try.underlying9 Try.underlying28 Try.underlying5; rw [HTS.out] at cvA; have hbb := hb1.trans ((hb2.trans (hb3.mono hb2.size)).mono hb1.size); obtain ⟨⟨u, hc⟩, hf, hr, hbw⟩ := turned w3 l n to (by rw [HLL.out]; exact HNL.out) (base := w.heap.size) hbb.size; rw [← HT.out, HLL.out] at hr; rw [← HT.out] at hc hf hbw; have cvB := row_text (P := Try.prog) Try.underlying28 Try.underlying5 Try.underlying9 hr; rw [← HX.out] at cvB; have HR := Lib.hid hr; have HBW := Lib.hid (hbb.trans hbw); clear hr hbw hbb hb1 hb2 hb3)) | (go_at_call 7; ((with_reducible refine (c3.out _).mono ?_); rintro e w4 ⟨rfl, hb4⟩)))
      have HR4 := Lib.hid (HR.out.old hb4 (Nat.le_refl _))
      have CVS := Lib.hid (fun (W : World) (h : Below w4.heap.size w4 W) => row_text (P := Try.prog) Try.underlying28 Try.underlying5 Try.underlying9 (HR4.out.old h (Nat.le_refl _)))
      rw [← HX.out] at CVS
      have HB4 := Lib.hid (HBW.out.trans (hb4.mono HBW.out.size))
      clear hb4 cvA cvB hc hf
      refine wp_region_noPanic ?_
      refine wp_region_held_drew (S := fun W => Below w4.heap.size w4 W) (by kernel_rfl) (Below.refl _ _).drew (fun hS => ?_)
      refine wpAnyH_take (i := 0) (v := .string C) rfl (by kernel_rfl) (by kernel_rfl) (by kernel_rfl) (fun _ _ _ h => False.elim h) (Or.inl ⟨by kernel_rfl, fun w' hw' => by (try go_simp); (try first | with_reducible rfl | decide)⟩) hS ?_
      try simp only [Act.put, List.getElem_toArray, List.getElem_cons_zero, List.getElem_cons_succ, List.setIfInBounds_toArray, List.set_cons_zero, List.set_cons_succ]
      refine wpAnyH_take (i := 2) (v := .slice (some ⟨w3.heap.size, 0, none⟩) L (grownCap w3 L 0 5)) rfl (by kernel_rfl) (by kernel_rfl) (by kernel_rfl) (fun _ _ _ h => False.elim h) (Or.inl ⟨by kernel_rfl, fun w' hw' => by (try go_simp); (try first | with_reducible rfl | decide)⟩) hS ?_
      try simp only [Act.put, List.getElem_toArray, List.getElem_cons_zero, List.getElem_cons_succ, List.setIfInBounds_toArray, List.set_cons_zero, List.set_cons_succ]
      refine wpAnyH_take (i := 3) (v := .string X) rfl (by kernel_rfl) (by kernel_rfl) (by kernel_rfl) (fun _ _ _ h => False.elim h) (Or.inl ⟨by kernel_rfl, fun w' hw' => by have hcv := CVS.out w' hw'; (try go_simp); (try first | with_reducible rfl | decide)⟩) hS ?_
      try simp only [Act.put, List.getElem_toArray, List.getElem_cons_zero, List.getElem_cons_succ, List.setIfInBounds_toArray, List.set_cons_zero, List.set_cons_succ]
      refine wpAnyH_ready (rs := [1]) (by kernel_rfl) (by simp) ?_
      refine AllReadyH.cons rfl (fun K hK => ?_) AllReadyH.nil
      go_simp
      go_at_call 9
      refine (c4.out _).mono ?_
      rintro e w5 ⟨rfl, hb5⟩
      go_wp2_with fail
      refine hK.out _ _ (hS.trans (hb5.mono hS.size)) (fun hS => ?_)
      clear hK K
      try simp only [Act.put, List.getElem_toArray, List.getElem_cons_zero, List.getElem_cons_succ, List.setIfInBounds_toArray, List.set_cons_zero, List.set_cons_succ]
      refine wpAnyH_take (i := 4) (v := .bool true) rfl (by kernel_rfl) (by kernel_rfl) (by kernel_rfl) (fun _ _ _ h => False.elim h) (Or.inl ⟨by kernel_rfl, fun w' hw' => by (try go_simp); (try first | with_reducible rfl | decide)⟩) hS ?_
      try simp only [Act.put, List.getElem_toArray, List.getElem_cons_zero, List.getElem_cons_succ, List.setIfInBounds_toArray, List.set_cons_zero, List.set_cons_succ]
      refine wpAnyH_take (i := 5) (v := .bool true) rfl (by kernel_rfl) (by kernel_rfl) (by kernel_rfl) (fun _ _ _ h => False.elim h) (Or.inl ⟨by kernel_rfl, fun w' hw' => by (try go_simp); (try first | with_reducible rfl | decide)⟩) hS ?_
      try simp only [Act.put, List.getElem_toArray, List.getElem_cons_zero, List.getElem_cons_succ, List.setIfInBounds_toArray, List.set_cons_zero, List.set_cons_succ]
      refine wpAnyH_take (i := 6) (v := .string C) rfl (by kernel_rfl) (by kernel_rfl) (by kernel_rfl) (fun _ _ _ h => False.elim h) (Or.inl ⟨by kernel_rfl, fun w' hw' => by (try go_simp); (try first | with_reducible rfl | decide)⟩) hS ?_
      try simp only [Act.put, List.getElem_toArray, List.getElem_cons_zero, List.getElem_cons_succ, List.setIfInBounds_toArray, List.set_cons_zero, List.set_cons_succ]
      refine wpAnyH_take (i := 7) (v := .string s) rfl (by kernel_rfl) (by kernel_rfl) (by kernel_rfl) (fun _ _ _ h => False.elim h) (Or.inl ⟨by kernel_rfl, fun w' hw' => by (try go_simp); (try first | with_reducible rfl | decide)⟩) hS ?_
      try simp only [Act.put, List.getElem_toArray, List.getElem_cons_zero, List.getElem_cons_succ, List.setIfInBounds_toArray, List.set_cons_zero, List.set_cons_succ]
      refine wpAnyH_take (i := 8) (v := .bool false) rfl (by kernel_rfl) (by kernel_rfl) (by kernel_rfl) (fun _ _ _ h => False.elim h) (Or.inl ⟨by kernel_rfl, fun w' hw' => by (try go_simp); (try first | with_reducible rfl | decide)⟩) hS ?_
      try simp only [Act.put, List.getElem_toArray, List.getElem_cons_zero, List.getElem_cons_succ, List.setIfInBounds_toArray, List.set_cons_zero, List.set_cons_succ]
      refine wpAnyH_take (i := 9) (v := .slice (some ⟨w3.heap.size, 0, none⟩) L (grownCap w3 L 0 5)) rfl (by kernel_rfl) (by kernel_rfl) (by kernel_rfl) (fun _ _ _ h => False.elim h) (Or.inl ⟨by kernel_rfl, fun w' hw' => by (try go_simp); (try first | with_reducible rfl | decide)⟩) hS ?_
      try simp only [Act.put, List.getElem_toArray, List.getElem_cons_zero, List.getElem_cons_succ, List.setIfInBounds_toArray, List.set_cons_zero, List.set_cons_succ]
      refine wpAnyH_take (i := 10) (v := .string X) rfl (by kernel_rfl) (by kernel_rfl) (by kernel_rfl) (fun _ _ _ h => False.elim h) (Or.inl ⟨by kernel_rfl, fun w' hw' => by have hcv := CVS.out w' hw'; (try go_simp); (try first | with_reducible rfl | decide)⟩) hS ?_
      try simp only [Act.put, List.getElem_toArray, List.getElem_cons_zero, List.getElem_cons_succ, List.setIfInBounds_toArray, List.set_cons_zero, List.set_cons_succ]
      refine wpAnyH_take (i := 11) (v := .string t) rfl (by kernel_rfl) (by kernel_rfl) (by kernel_rfl) (fun _ _ _ h => False.elim h) (Or.inl ⟨by kernel_rfl, fun w' hw' => by (try go_simp); (try first | with_reducible rfl | decide)⟩) hS ?_
      try simp only [Act.put, List.getElem_toArray, List.getElem_cons_zero, List.getElem_cons_succ, List.setIfInBounds_toArray, List.set_cons_zero, List.set_cons_succ]
      refine wpAnyH_take (i := 12) (v := .bool false) rfl (by kernel_rfl) (by kernel_rfl) (by kernel_rfl) (fun _ _ _ h => False.elim h) (Or.inl ⟨by kernel_rfl, fun w' hw' => by (try go_simp); (try first | with_reducible rfl | decide)⟩) hS ?_
      try simp only [Act.put, List.getElem_toArray, List.getElem_cons_zero, List.getElem_cons_succ, List.setIfInBounds_toArray, List.set_cons_zero, List.set_cons_succ]
      refine wpAnyH_take (i := 13) (v := .bool true) rfl (by kernel_rfl) (by kernel_rfl) (by kernel_rfl) (fun _ _ _ h => False.elim h) (Or.inl ⟨by kernel_rfl, fun w' hw' => by (try go_simp); (try first | with_reducible rfl | decide)⟩) hS ?_
      try simp only [Act.put, List.getElem_toArray, List.getElem_cons_zero, List.getElem_cons_succ, List.setIfInBounds_toArray, List.set_cons_zero, List.set_cons_succ]
      refine wpAnyH_take (i := 14) (v := .bool true) rfl (by kernel_rfl) (by kernel_rfl) (by kernel_rfl) (fun _ _ _ h => False.elim h) (Or.inl ⟨by kernel_rfl, fun w' hw' => by (try go_simp); (try first | with_reducible rfl | decide)⟩) hS ?_
      try simp only [Act.put, List.getElem_toArray, List.getElem_cons_zero, List.getElem_cons_succ, List.setIfInBounds_toArray, List.set_cons_zero, List.set_cons_succ]
      refine wpAnyH_take (i := 15) (v := .bool true) rfl (by kernel_rfl) (by kernel_rfl) (by kernel_rfl) (fun _ _ _ h => False.elim h) (Or.inl ⟨by kernel_rfl, fun w' hw' => by (try go_simp); (try first | with_reducible rfl | decide)⟩) hS ?_
      try simp only [Act.put, List.getElem_toArray, List.getElem_cons_zero, List.getElem_cons_succ, List.setIfInBounds_toArray, List.set_cons_zero, List.set_cons_succ]
      refine wpAnyH_done (by kernel_rfl) ?_ _
      refine NoPanic.normal ?_
      have hF := HB4.out.trans (hS.mono HB4.out.size)
      clear HB4 CVS HR4 HR HBW
      go_wp2
      go_ret
      exact ⟨by first | kernel_rfl | (simp; done) | trace_state, hF⟩
theorem back_law_wf (s : ByteArray) (a1 a2 : Int) (w : World) (hs : s.size ≤ maxLen) (h1 : (Lit.int .u8 a1).wf = true) (h2 : (Lit.int .u8 a2).wf = true) :
    Calls Try.prog 4 #[.string s, .int .u8 a1, .int .u8 a2] w fun e w' => e = .returned (.bool true) ∧ Below w.heap.size w w' := by
  unfold maxLen at hs
  by_cases hl : 60 < s.size
  · exact back_long s a1 a2 w hl (by omega)
  · by_cases h0 : s.size = 0
    · exact back_nil s a1 a2 w h0
    · have b1 : 0 ≤ a1 ∧ a1 < 256 := by simp [Lit.wf, IntKind.min, IntKind.max, IntKind.signed, IntKind.bits] at h1; omega
      have b2 : 0 ≤ a2 ∧ a2 < 256 := by simp [Lit.wf, IntKind.min, IntKind.max, IntKind.signed, IntKind.bits] at h2; omega
      obtain ⟨at', rfl⟩ := Int.eq_ofNat_of_zero_le b1.1
      obtain ⟨t, rfl⟩ := Int.eq_ofNat_of_zero_le b2.1
      have ht : (t : Int) = ((UInt8.ofNat t).toNat : Int) := by rw [UInt8.toNat_ofNat', Nat.mod_eq_of_lt (by omega)]
      obtain ⟨L, hL⟩ : ∃ L, (s.size + 2) / 3 * 4 = L := ⟨_, rfl⟩
      obtain ⟨n, hn⟩ : ∃ n, n = at' % L := ⟨_, rfl⟩
      have hnl : n < L := by rw [hn]; exact Nat.mod_lt _ (by omega)
      have nn : (at' : Int) % (L : Int) = (n : Int) := by rw [hn]; rfl
      rw [ht]
      exact back_law s at' n L (UInt8.ofNat t) w (by omega) (by omega) hL nn hnl (by omega)
end Six
end Go.Proofs.Ytfcpicejifolmab
