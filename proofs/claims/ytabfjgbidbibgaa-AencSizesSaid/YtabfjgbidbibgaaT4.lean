/-
  What the functions do: contracts, and their questions answered. No condition but what its theorems ask.
-/
import Derived.Test.YtabfjgbidbibgaaT3
import Derived.Laws.Cover4
import Derived.Laws.IdiomStrings
namespace Go.Proofs.Ytabfjgbidbibgaa.Wd
open Go.Proofs.Ytabfjgbidbibgaa.Eng Go.Proofs.Ytabfjgbidbibgaa.Sen Go.RowKit
set_option linter.unusedVariables false
set_option linter.unusedSimpArgs false
set_option maxRecDepth 1000000
theorem enc_size {S : List AT} {t : Int} {v : PV} {B : ByteArray} (h : (PV.enc S t v B).1 = true) : (PV.enc S t v B).2.size ≤ 5000 := by
  obtain ⟨n, s, l, ks, b⟩ := v
  rw [PV.enc] at h ⊢
  cases hs : S[t.toNat]? with
  | none => rw [hs] at h; simp at h
  | some a =>
    rw [hs] at h
    simp only [Bool.and_eq_true, decide_eq_true_eq] at h ⊢
    exact h.2
theorem encL_step {S : List AT} {f : Nat → Int} {ks : List ByteArray} {l : List PV} {j : Nat} {B : ByteArray} (h : j < l.length) : PV.encL S f ks j (l.drop j) B = if (PV.enc S (f j) l[j] (B ++ keyB ks j)).1 = true then PV.encL S f ks (j + 1) (l.drop (j + 1)) (PV.enc S (f j) l[j] (B ++ keyB ks j)).2 else (false, (PV.enc S (f j) l[j] (B ++ keyB ks j)).2) := by
  rw [List.drop_eq_getElem_cons h, PV.encL]
theorem encL_end {S : List AT} {f : Nat → Int} {ks : List ByteArray} {l : List PV} {j : Nat} {B : ByteArray} (h : l.length ≤ j) : PV.encL S f ks j (l.drop j) B = (true, B) := by
  rw [List.drop_of_length_le h, PV.encL]
theorem wts_at : ∀ {l : List PV} {i : Nat} (h : i < l.length), l[i].wt ≤ PV.wts l
  | v :: l, 0, h => by rw [PV.wts]; show v.wt ≤ _; omega
  | v :: l, i + 1, h => by
    have h' : i < l.length := by simpa using h
    have := wts_at h'
    rw [PV.wts]
    show l[i].wt ≤ _
    omega
theorem kzs_at : ∀ {l : List ByteArray} {i : Nat} (h : i < l.length), l[i].size + 10 ≤ kzs l
  | v :: l, 0, h => by rw [kzs]; show v.size + 10 ≤ _; omega
  | v :: l, i + 1, h => by
    have h' : i < l.length := by simpa using h
    have := kzs_at h'
    rw [kzs]
    show l[i].size + 10 ≤ _
    omega
theorem wts_len : ∀ l : List PV, 30 * l.length ≤ PV.wts l
  | [] => by simp
  | .mk n s l' ks b :: l => by have := wts_len l; rw [PV.wts, PV.wt, List.length_cons]; omega
theorem GV.wt_eq (v : GV) : v.pv.wt = 30 + v.s.size + kzs v.ks + PV.wts (GV.pvs v.l) := by rw [GV.pv_eq, PV.wt]
theorem GV.wt_at {v : GV} {i : Nat} (hi : i < v.l.length) : 30 + kzs v.ks + v.l[i].pv.wt ≤ v.pv.wt := by
  have := wts_at (l := GV.pvs v.l) (i := i) (by rw [GV.pvs_len]; exact hi)
  rw [pvs_at hi] at this
  have e := GV.wt_eq v
  omega
theorem GV.wt_len (v : GV) : 30 * v.l.length ≤ v.pv.wt := by
  have := wts_len (GV.pvs v.l)
  rw [GV.pvs_len] at this
  rw [GV.wt_eq]
  omega
theorem size_child {v : GV} {j : Nat} (hj : j < v.l.length) : SizeOf.sizeOf v.l[j] < SizeOf.sizeOf v := by
  have h1 := size_at hj
  have : SizeOf.sizeOf v.l < SizeOf.sizeOf v := by cases v; simp [GV.l]; omega
  omega
theorem fit_at {S : List AT} {f : Nat → Int} {v : GV} {j : Nat} (hj : j < v.l.length) (h : PV.fitL S f j ((GV.pvs v.l).drop j) = true) : PV.fits S (f j) v.l[j].pv = true ∧ PV.fitL S f (j + 1) ((GV.pvs v.l).drop (j + 1)) = true := by
  have hd := fitL_drop (S := S) (f := f) (l := GV.pvs v.l) (j := j) (by rw [GV.pvs_len]; exact hj)
  rw [pvs_at hj] at hd
  rw [hd, Bool.and_eq_true] at h
  exact h
theorem enc_at {S : List AT} {f : Nat → Int} {ks : List ByteArray} {v : GV} {j : Nat} {B : ByteArray} (hj : j < v.l.length) : PV.encL S f ks j ((GV.pvs v.l).drop j) B = if (PV.enc S (f j) v.l[j].pv (B ++ keyB ks j)).1 = true then PV.encL S f ks (j + 1) ((GV.pvs v.l).drop (j + 1)) (PV.enc S (f j) v.l[j].pv (B ++ keyB ks j)).2 else (false, (PV.enc S (f j) v.l[j].pv (B ++ keyB ks j)).2) := by
  have := encL_step (S := S) (f := f) (ks := ks) (l := GV.pvs v.l) (j := j) (B := B) (by rw [GV.pvs_len]; exact hj)
  rw [pvs_at hj] at this
  exact this
theorem keyB_nil (j : Nat) : keyB [] j = mkS [] := by simp [keyB]
theorem recordW_ok (n : Nat) (hv0 : CtOK P 43 (cValueW.below muVw n)) : CtOK P 61 (cRecordW.below muPw (n + 1)) := by
  refine ask_ok mixed (ctTab_ok (forall_tab hv0 nil_tab)) (W := wRecordW) Go.Proofs.Try.func61 (by kernel_rfl) (show 1 ≤ 4 by decide) (show 4 ≤ 6 by decide) (fun s => by kernel_rfl) fun ⟨S, (x : SV), B, a, v⟩ => (recordW_eq n S x B a v).mpr ?_
  rintro ⟨hmu, hS, hv, ⟨hB, hw⟩, hk, hl, hks, hfit⟩ ⟨p, _, hx, ha, hvo⟩
  have hmu : SizeOf.sizeOf v < n + 1 := hmu
  have xl := GV.x_len hvo
  have fl : a.f.2.1 = a.fs.length := ha.2.2.1.1
  have wl := GV.wt_len v
  simp only [decide_eq_true_eq, decide_eq_false_iff_not, Bool.not_eq_true', Bool.not_eq_false', true_and, and_true, eq_self, imp_self, implies_true, Int.toNat_natCast, xl, fl]
  refine ⟨⟨⟨0, B⟩, rfl, rfl, rfl, by show 0 ≤ _; omega, .inr (Nat.le_refl _), hfit, rfl⟩, ?_⟩
  rintro ⟨j, C⟩ ⟨hj, hC, hf, he⟩
  simp only at *
  refine ⟨fun hlt => ?_, fun hge => ?_⟩
  · have hjf : j < a.fs.length := by omega
    have hjl : j < v.l.length := by omega
    have hty : tyOf a v.b j = a.fs[j].ty := by unfold tyOf; rw [if_pos hk, List.getElem?_eq_getElem hjf]
    have hd := fit_at hjl hf
    have hs := enc_at (S := S) (f := tyOf a v.b) (ks := v.ks) (B := C) hjl
    rw [hks, keyB_nil, ae_app_nil, ← hks] at hs
    rw [hty] at hd hs
    refine ⟨by omega, (fld_at ha hjf).1, a.fs[j].nm, a.fs[j].al.1, a.fs[j].al.2.1, a.fs[j].al.2.2, a.fs[j].ty, a.fs[j].hd, a.fs[j].df.k, a.fs[j].df.n, a.fs[j].df.s, a.fs[j].df.y.1, a.fs[j].df.y.2.1, a.fs[j].df.y.2.2, a.fs[j].df.x.1, a.fs[j].df.x.2.1, a.fs[j].df.x.2.2, fun q hq => (fld_at hq.2.1 hjf).2, by omega, (GV.cells_at hvo hjl).1, v.l[j].n, v.l[j].s, v.l[j].x.1, v.l[j].x.2.1, v.l[j].x.2.2, v.l[j].y.1, v.l[j].y.2.1, v.l[j].y.2.2, v.l[j].b, fun q hq => (GV.cells_at hq.2.2 hjl).2, ⟨S, x, C, a.fs[j].ty, v.l[j]⟩, ?_⟩
    simp only [true_and, eq_self]
    have := size_child hjl
    have := GV.wt_at hjl
    refine ⟨⟨by show SizeOf.sizeOf v.l[j] < n; omega, hS, GV.sm_at hv hjl, ⟨by show C.size + v.l[j].pv.wt < _; omega, by show v.l[j].pv.wt < _; omega⟩, hd.1⟩, fun q hq => ⟨hq.1, GV.ok_at hq.2.2 hjl⟩, fun hb => ?_, fun hb => ?_⟩
    · rw [← he, hs, if_neg (by rw [hb]; decide)]
      exact ⟨rfl, rfl, rfl⟩
    · have hz := enc_size hb
      refine ⟨⟨by omega, by omega⟩, ⟨j + 1, (PV.enc S a.fs[j].ty v.l[j].pv C).2⟩, by show ((j + 1 : Nat) : Int) = _; omega, rfl, rfl, ⟨by show j + 1 ≤ _; omega, .inl hz, hd.2, ?_⟩, by show _ - (j + 1) < _; omega⟩
      rw [← he, hs, if_pos hb]
  · rw [← he, encL_end (by rw [GV.pvs_len]; omega)]
    exact ⟨rfl, rfl, rfl⟩
theorem keyB_at {ks : List ByteArray} {j : Nat} (h : j < ks.length) : keyB ks j = vz (ks[j].size : Nat) ++ ks[j] := by
  unfold keyB; rw [List.getElem?_eq_getElem h]
theorem blockW_ok (n : Nat) (hv0 : CtOK P 43 (cValueW.below muVw n)) : CtOK P 62 (cBlockW.below muPw (n + 1)) := by
  refine ask_ok mixed (ctTab_ok (forall_tab longW_ok (forall_tab textW_ok (forall_tab hv0 nil_tab)))) (W := wBlockW) Go.Proofs.Try.func62 (by kernel_rfl) (show 1 ≤ 4 by decide) (show 4 ≤ 6 by decide) (fun s => by kernel_rfl) fun ⟨S, (x : SV), B, a, v⟩ => (blockW_eq n S x B a v).mpr ?_
  rintro ⟨hmu, hS, hv, ⟨hB, hw⟩, hk, hfit⟩ ⟨p, _, hx, ha, hvo⟩
  have hmu : SizeOf.sizeOf v < n + 1 := hmu
  have xl := GV.x_len hvo
  have yl := GV.y_len hvo
  have wl := GV.wt_len v
  have kl : v.ks.length = 0 ∨ v.ks.length = v.l.length := hk.elim (fun h => .inl (by rw [h.2]; rfl)) (fun h => .inr h.2)
  simp only [decide_eq_true_eq, decide_eq_false_iff_not, Bool.not_eq_true', Bool.not_eq_false', true_and, and_true, eq_self, imp_self, implies_true, Int.toNat_natCast, exists_const, xl, yl]
  have hz0 := vz_size (v.l.length : Int) (by omega) (by omega)
  have hblz : (blB v.l.length B).size ≤ B.size + 10 := by
    unfold blB
    split
    · rw [ae_size]; omega
    · omega
  refine ⟨⟨fun hlt => ⟨⟨x, B, v.l.length⟩, ?_⟩, fun hge => ?_⟩, ?_⟩
  · unfold blB
    rw [if_pos (by omega)]
    refine ⟨rfl, rfl, rfl, rfl, rfl, rfl, ⟨?_, ?_, ?_⟩, rfl, rfl, rfl, rfl, rfl⟩
    · show B.size < _; omega
    · show -9223372036854775808 ≤ (v.l.length : Int); omega
    · show (v.l.length : Int) < _; omega
  · unfold blB
    rw [if_neg (by omega)]
    exact ⟨rfl, rfl⟩
  rintro _ _
  refine ⟨⟨⟨0, blB v.l.length B⟩, rfl, rfl, rfl, by show 0 ≤ _; omega, .inr hblz, hfit, rfl⟩, ?_⟩
  rintro ⟨j, C⟩ ⟨hj, hC, hf, he⟩
  simp only at *
  refine ⟨fun hlt => ?_, fun hge => ?_⟩
  · have hjl : j < v.l.length := by omega
    have hty : tyOf a v.b j = a.it := by
      unfold tyOf
      rw [if_neg (by omega), if_neg (by omega)]
    have hd := fit_at hjl hf
    have hs := enc_at (S := S) (f := tyOf a v.b) (ks := v.ks) (B := C) hjl
    rw [hty] at hd hs
    have hsz := size_child hjl
    have hwt := GV.wt_at hjl
    have hfail : ∀ D, D = C ++ keyB v.ks j → (PV.enc S a.it v.l[j].pv D).1 = false → enB S a v B = (false, (PV.enc S a.it v.l[j].pv D).2) := fun D hD hb => by
      subst hD
      unfold enB
      rw [← he, hs, if_neg (show ¬ (PV.enc S a.it v.l[j].pv (C ++ keyB v.ks j)).1 = true by rw [hb]; decide)]
      rfl
    have hgo : ∀ D, D = C ++ keyB v.ks j → (PV.enc S a.it v.l[j].pv D).1 = true → PV.encL S (tyOf a v.b) v.ks (j + 1) ((GV.pvs v.l).drop (j + 1)) (PV.enc S a.it v.l[j].pv D).2 = PV.encL S (tyOf a v.b) v.ks 0 (GV.pvs v.l) (blB v.l.length B) := fun D hD hb => by
      subst hD
      rw [← he, hs, if_pos hb]
    refine ⟨by omega, (GV.cells_at hvo hjl).1, v.l[j].n, v.l[j].s, v.l[j].x.1, v.l[j].x.2.1, v.l[j].x.2.2, v.l[j].y.1, v.l[j].y.2.1, v.l[j].y.2.2, v.l[j].b, fun q hq => (GV.cells_at hq.2.2 hjl).2, fun h13 => ?_, fun h13 => ?_⟩
    · have hjk : j < v.ks.length := by omega
      have hkz := kzs_at hjk
      have hvz := vz_size (v.ks[j].size : Int) (by omega) (by omega)
      have hD : C ++ vz (v.ks[j].size : Nat) ++ v.ks[j] = C ++ keyB v.ks j := by rw [keyB_at hjk, ByteArray.append_assoc]
      have hDz : (C ++ vz (v.ks[j].size : Nat) ++ v.ks[j]).size = C.size + (vz (v.ks[j].size : Nat)).size + v.ks[j].size := by rw [ae_size, ae_size]
      have hy := fun q (hq : GV.ok v q) => tx_at (show slP txV v.y v.ks q by rw [GV.ok_eq] at hq; exact hq.2.1) hjk
      refine ⟨by omega, (hy p hvo).1, v.ks[j], fun q hq => (hy q hq.2.2).2, ⟨x, C, v.ks[j]⟩, ?_⟩
      simp only [true_and, eq_self]
      refine ⟨⟨by show C.size < _; omega, by show v.ks[j].size < _; omega⟩, ⟨S, x, C ++ vz (v.ks[j].size : Nat) ++ v.ks[j], a.it, v.l[j]⟩, ?_⟩
      simp only [true_and, eq_self]
      refine ⟨⟨by show SizeOf.sizeOf v.l[j] < n; omega, hS, GV.sm_at hv hjl, ⟨by show (C ++ vz (v.ks[j].size : Nat) ++ v.ks[j]).size + v.l[j].pv.wt < _; omega, by show v.l[j].pv.wt < _; omega⟩, hd.1⟩, fun q hq => ⟨hq.1, GV.ok_at hq.2.2 hjl⟩, fun hb => ?_, fun hb => ?_⟩
      · rw [hfail _ hD hb]
        exact ⟨rfl, rfl, rfl⟩
      · have hz := enc_size hb
        refine ⟨⟨by omega, by omega⟩, ⟨j + 1, (PV.enc S a.it v.l[j].pv (C ++ vz (v.ks[j].size : Nat) ++ v.ks[j])).2⟩, by show ((j + 1 : Nat) : Int) = _; omega, rfl, rfl, ⟨by show j + 1 ≤ _; omega, .inl hz, hd.2, hgo _ hD hb⟩, by show _ - (j + 1) < _; omega⟩
    · have hks : v.ks = [] := by
        rcases hk with h | h
        · exact h.2
        · exact absurd h.1 h13
      have hD : C = C ++ keyB v.ks j := by rw [hks, keyB_nil, ae_app_nil]
      refine ⟨⟨S, x, C, a.it, v.l[j]⟩, ?_⟩
      simp only [true_and, eq_self]
      refine ⟨⟨by show SizeOf.sizeOf v.l[j] < n; omega, hS, GV.sm_at hv hjl, ⟨by show C.size + v.l[j].pv.wt < _; omega, by show v.l[j].pv.wt < _; omega⟩, hd.1⟩, fun q hq => ⟨hq.1, GV.ok_at hq.2.2 hjl⟩, fun hb => ?_, fun hb => ?_⟩
      · rw [hfail _ hD hb]
        exact ⟨rfl, rfl, rfl⟩
      · have hz := enc_size hb
        refine ⟨⟨by omega, by omega⟩, ⟨j + 1, (PV.enc S a.it v.l[j].pv C).2⟩, by show ((j + 1 : Nat) : Int) = _; omega, rfl, rfl, ⟨by show j + 1 ≤ _; omega, .inl hz, hd.2, hgo _ hD hb⟩, by show _ - (j + 1) < _; omega⟩
  · rw [encL_end (by rw [GV.pvs_len]; omega)] at he
    have hen : enB S a v B = (true, C ++ vz 0) := by
      unfold enB
      rw [← he]; rfl
    refine ⟨⟨x, C, 0⟩, rfl, rfl, rfl, rfl, rfl, rfl, ⟨by show C.size < _; omega, by show (-9223372036854775808 : Int) ≤ 0; omega, by show (0 : Int) < _; omega⟩, ?_⟩
    rw [hen]
    exact ⟨rfl, rfl, rfl, rfl, rfl, rfl⟩
theorem okP_facts {a : AT} {n : Nat} {ks : List ByteArray} {b : Int} (h : okP a n ks b = true) : (a.k ≠ 13 → ks = []) ∧ (a.k = 9 → n = a.fs.length) ∧ (a.k = 14 → 0 ≤ b ∧ b < a.brs.length ∧ n = 1) ∧ (a.k = 13 → n = ks.length) := by
  unfold okP at h
  split at h
  · cases h
  rename_i h0
  refine ⟨fun hk => List.length_eq_zero_iff.1 (by omega), fun hk => ?_, fun hk => ?_, fun hk => ?_⟩
  · rw [if_pos hk] at h; simpa using h
  · rw [if_neg (by omega), if_pos hk] at h; simpa using h
  · rw [if_neg (by omega), if_neg (by omega), if_pos hk, Bool.and_eq_true] at h; simpa using h.1
theorem fits_q {S : List AT} {t : Int} {a : AT} {v : GV} (hs : S[t.toNat]? = some a) (h : PV.fits S t v.pv = true) (hq : isQ a.k = true) : okP a v.l.length v.ks v.b = true ∧ PV.fitL S (tyOf a v.b) 0 (GV.pvs v.l) = true := by
  rw [GV.pv_eq, PV.fits, GV.pvs_len] at h
  split at h
  · cases h
  rw [hs] at h
  have hq2 := hq
  unfold isQ at hq2
  rw [decide_eq_true_eq] at hq2
  have hn : isN a.k = false := by unfold isN; exact decide_eq_false (by omega)
  have ht : isT a.k = false := by unfold isT; exact decide_eq_false (by omega)
  simp only [hn, ht, hq, if_true, Bool.false_eq_true, if_false, Bool.and_eq_true] at h
  exact ⟨h.1.1.1, h.1.1.2⟩
theorem fits_rng {S : List AT} {t : Int} {v : PV} (h : PV.fits S t v = true) : 0 ≤ t ∧ t < S.length := by
  obtain ⟨n, s, l, ks, b⟩ := v
  rw [PV.fits] at h
  split at h
  · cases h
  · omega
theorem wrap_i64_rng (n : Int) : -9223372036854775808 ≤ IntKind.wrap .i64 n ∧ IntKind.wrap .i64 n < 9223372036854775808 := by
  simp [IntKind.wrap, IntKind.bits, IntKind.signed]
  omega
/-- What is written of a value of a type, its limit aside. -/
noncomputable def encB (S : List AT) (a : AT) (v : GV) (B : ByteArray) : Bool × ByteArray :=
  if a.k = 2 then (true, B ++ fxB v.n 1) else
  if a.k = 3 ∨ a.k = 4 ∨ a.k = 10 then (true, B ++ vz (IntKind.wrap .i64 v.n)) else
  if a.k = 5 then (true, B ++ fxB v.n 4) else
  if a.k = 6 then (true, B ++ fxB v.n 8) else
  if a.k = 7 ∨ a.k = 8 then (true, B ++ vz v.s.size ++ v.s) else
  if a.k = 11 then (true, B ++ v.s) else
  if a.k = 14 then PV.encL S (tyOf a v.b) v.ks 0 (GV.pvs v.l) (B ++ vz v.b) else
  if a.k = 9 then PV.encL S (tyOf a v.b) v.ks 0 (GV.pvs v.l) B else
  if a.k = 12 ∨ a.k = 13 then enB S a v B else (true, B)
theorem enc_eq {S : List AT} {t : Int} {a : AT} {v : GV} {B : ByteArray} (hs : S[t.toNat]? = some a) : PV.enc S t v.pv B = ((encB S a v B).1 && decide ((encB S a v B).2.size ≤ 5000), (encB S a v B).2) := by
  rw [GV.pv_eq, PV.enc, hs, GV.pvs_len]
  rfl
theorem enc_fin {S : List AT} {t : Int} {a : AT} {v : GV} {B : ByteArray} (hs : S[t.toNat]? = some a) {r : Bool × ByteArray} (h : encB S a v B = r) : (r.1 = true → (PV.enc S t v.pv B).1 = decide ((r.2.size : Int) ≤ 5000)) ∧ (r.1 = false → (PV.enc S t v.pv B).1 = false) ∧ (PV.enc S t v.pv B).2 = r.2 := by
  rw [enc_eq hs, h]
  refine ⟨fun h => ?_, fun h => ?_, rfl⟩
  · rw [h, Bool.true_and]; exact dec_iff (by omega)
  · rw [h, Bool.false_and]
theorem valueW_ok (n : Nat) (hv0 : CtOK P 43 (cValueW.below muVw n)) (hr0 : CtOK P 61 (cRecordW.below muPw (n + 1))) (hb0 : CtOK P 62 (cBlockW.below muPw (n + 1))) : CtOK P 43 (cValueW.below muVw (n + 1)) := by
  refine ask_ok mixed (ctTab_ok (forall_tab longW_ok (forall_tab fixedW_ok (forall_tab textW_ok (forall_tab hr0 (forall_tab hb0 (forall_tab hv0 nil_tab))))))) (W := wValueW) Go.Proofs.Try.func43 (by kernel_rfl) (show 1 ≤ 4 by decide) (show 4 ≤ 6 by decide) (fun s => by kernel_rfl) fun ⟨S, (x : SV), B, (t : Int), v⟩ => (valueW_eq n S x B t v).mpr ?_
  rintro ⟨hmu, hS, hv, ⟨hB, hw⟩, hfit⟩ ⟨p, _, hx, hvo⟩
  have hmu : SizeOf.sizeOf v < n + 1 := hmu
  have xs : x.2.1 = S.length := hx.1.1
  have xl := GV.x_len hvo
  have wl := GV.wt_eq v
  have hvs := hv
  rw [GV.sm_eq] at hvs
  obtain ⟨hn, hss, vl, kl, ksz, _⟩ := hvs
  obtain ⟨t0, t1⟩ := fits_rng hfit
  simp only [decide_eq_true_eq, decide_eq_false_iff_not, Bool.not_eq_true', Bool.not_eq_false', true_and, and_true, eq_self, imp_self, implies_true, Int.toNat_natCast, exists_const]
  obtain ⟨j, rfl⟩ := Int.eq_ofNat_of_zero_le t0
  have hj : j < S.length := by omega
  have hsj : S[((j : Nat) : Int).toNat]? = some S[j] := by rw [Int.toNat_natCast, List.getElem?_eq_getElem hj]
  have hat := fun q (hq : schP S x q ∧ v.ok q) => typ_at hq.1 hj
  have hao := fun q (hq : schP S x q ∧ v.ok q) => hq.1.2 S[j] (List.getElem_mem hj)
  refine ⟨⟨by omega, by omega⟩, (hat p ⟨hx, hvo⟩).1, S[j].k, S[j].nm, S[j].al.1, S[j].al.2.1, S[j].al.2.2, S[j].it, S[j].sy.1, S[j].sy.2.1, S[j].sy.2.2, S[j].hd, S[j].df, S[j].sz, S[j].f.1, S[j].f.2.1, S[j].f.2.2, S[j].br.1, S[j].br.2.1, S[j].br.2.2, fun q hq => (hat q hq).2, ?_⟩
  have hsm := hS.2 S[j] (List.getElem_mem hj)
  have hao2 := fun q (hq : schP S x q ∧ v.ok q) => hao q hq
  have hqq := fits_q (v := v) hsj hfit
  have ef := fun (r : Bool × ByteArray) (h : encB S S[j] v B = r) => enc_fin (t := ((j : Nat) : Int)) (v := v) (B := B) hsj h
  have bl : S[j].br.2.1 = S[j].brs.length := (hao p ⟨hx, hvo⟩).2.2.2.1.1
  generalize S[j] = a at *
  generalize PV.enc S (j : Int) v.pv B = R at *
  refine ⟨fun h2 => ?_, fun h2 => ⟨⟨fun h => by unfold isLk; exact dec_iff (by omega), fun h3 => ⟨fun h => by unfold isLk; exact dec_iff (by omega), fun h4 => by unfold isLk; exact dec_iff (by omega)⟩⟩, ?_⟩⟩
  · obtain ⟨e1, _, e2⟩ := ef _ (by unfold encB; rw [if_pos h2])
    refine ⟨⟨x, B, v.n, 1⟩, rfl, rfl, rfl, rfl, rfl, rfl, rfl, ⟨by show B.size < _; omega, by show (0 : Int) ≤ 1; omega, by show (1 : Int) ≤ 8; omega, hn.1, hn.2⟩, e1 rfl, rfl, rfl, rfl, by rw [e2]; rfl, by rw [e2]; rfl⟩
  intro _ _
  refine ⟨fun hL => ?_, fun hL => ?_⟩
  · have hL2 := hL
    unfold isLk at hL2
    rw [decide_eq_true_eq] at hL2
    obtain ⟨e1, _, e2⟩ := ef _ (by unfold encB; rw [if_neg h2, if_pos hL2])
    have hw64 := wrap_i64_rng v.n
    refine ⟨⟨x, B, IntKind.wrap .i64 v.n⟩, rfl, rfl, rfl, rfl, rfl, rfl, ⟨by show B.size < _; omega, hw64.1, hw64.2⟩, e1 rfl, rfl, rfl, rfl, by rw [e2], by rw [e2]⟩
  have hL2 := hL
  unfold isLk at hL2
  rw [decide_eq_false_iff_not] at hL2
  refine ⟨fun h5 => ?_, fun h5 => ⟨fun h6 => ?_, fun h6 => ⟨⟨fun h => by unfold isBk; exact dec_iff (by omega), fun h => by unfold isBk; exact dec_iff (by omega)⟩, ?_⟩⟩⟩
  · obtain ⟨e1, _, e2⟩ := ef _ (by unfold encB; rw [if_neg h2, if_neg hL2, if_pos h5])
    refine ⟨⟨x, B, v.n, 4⟩, rfl, rfl, rfl, rfl, rfl, rfl, rfl, ⟨by show B.size < _; omega, by show (0 : Int) ≤ 4; omega, by show (4 : Int) ≤ 8; omega, hn.1, hn.2⟩, e1 rfl, rfl, rfl, rfl, by rw [e2]; rfl, by rw [e2]; rfl⟩
  · obtain ⟨e1, _, e2⟩ := ef _ (by unfold encB; rw [if_neg h2, if_neg hL2, if_neg h5, if_pos h6])
    refine ⟨⟨x, B, v.n, 8⟩, rfl, rfl, rfl, rfl, rfl, rfl, rfl, ⟨by show B.size < _; omega, by show (0 : Int) ≤ 8; omega, by show (8 : Int) ≤ 8; omega, hn.1, hn.2⟩, e1 rfl, rfl, rfl, rfl, by rw [e2]; rfl, by rw [e2]; rfl⟩
  intro _ _
  refine ⟨fun hb => ?_, fun hb => ?_⟩
  · have hb2 := hb
    unfold isBk at hb2
    rw [decide_eq_true_eq] at hb2
    obtain ⟨e1, _, e2⟩ := ef _ (by unfold encB; rw [if_neg h2, if_neg hL2, if_neg h5, if_neg h6, if_pos hb2])
    refine ⟨⟨x, B, v.s⟩, rfl, rfl, rfl, rfl, rfl, rfl, ⟨by show B.size < _; omega, by show v.s.size < _; omega⟩, e1 rfl, rfl, rfl, rfl, by rw [e2], by rw [e2]⟩
  have hb2 := hb
  unfold isBk at hb2
  rw [decide_eq_false_iff_not] at hb2
  refine ⟨fun h11 => ?_, fun h11 => ⟨fun h14 => ?_, fun h14 => ⟨fun h9 => ?_, fun h9 => ⟨⟨fun h => by unfold isAk; exact dec_iff (by omega), fun h => by unfold isAk; exact dec_iff (by omega)⟩, ?_⟩⟩⟩⟩
  · obtain ⟨e1, _, e2⟩ := ef _ (by unfold encB; rw [if_neg h2, if_neg hL2, if_neg h5, if_neg h6, if_neg hb2, if_pos h11])
    refine ⟨ae_len B, by omega, ?_, by rw [e2, ae_size], by rw [e2, ae_app]⟩
    rw [e1 rfl, ae_size]
  · obtain ⟨ho, hfl⟩ := hqq (by unfold isQ; exact decide_eq_true (by omega))
    obtain ⟨o1, o2, o3, o4⟩ := okP_facts ho
    obtain ⟨b0, b1, l1⟩ := o3 h14
    have hks := o1 (by omega)
    have h0 : 0 < v.l.length := by omega
    obtain ⟨b, hb⟩ := Int.eq_ofNat_of_zero_le b0
    have hbl : b < a.brs.length := by omega
    have hty : tyOf a v.b 0 = a.brs[b] := by
      unfold tyOf
      rw [if_neg (by omega), if_pos h14, hb, Int.toNat_natCast, List.getD_eq_getElem?_getD, List.getElem?_eq_getElem hbl]; rfl
    have hd := fit_at (S := S) (f := tyOf a v.b) (j := 0) h0 (by rw [List.drop_zero]; exact hfl)
    rw [hty] at hd
    have hsz := size_child h0
    have hwt := GV.wt_at h0
    have hvz := vz_size v.b (by omega) (by omega)
    have hs := enc_at (S := S) (f := tyOf a v.b) (ks := v.ks) (B := B ++ vz v.b) h0
    have hend : ∀ C, PV.encL S (tyOf a v.b) v.ks (0 + 1) ((GV.pvs v.l).drop (0 + 1)) C = (true, C) := fun C => encL_end (by rw [GV.pvs_len]; omega)
    rw [hend, hks, keyB_nil, ae_app_nil, ← hks, hty, List.drop_zero] at hs
    have hen : encB S a v B = ((PV.enc S a.brs[b] v.l[0].pv (B ++ vz v.b)).1, (PV.enc S a.brs[b] v.l[0].pv (B ++ vz v.b)).2) := by
      unfold encB
      rw [if_neg h2, if_neg hL2, if_neg h5, if_neg h6, if_neg hb2, if_neg h11, if_pos h14, hs]
      split
      · rename_i hh; rw [hh]
      · rename_i hh; rw [Bool.not_eq_true] at hh; rw [hh]
    obtain ⟨e1, e3, e2⟩ := ef _ hen
    refine ⟨⟨x, B, v.b⟩, rfl, rfl, rfl, rfl, rfl, rfl, ⟨by show B.size < _; omega, by show _ ≤ v.b; omega, by show v.b < _; omega⟩, ⟨b0, by omega⟩, ?_⟩
    rw [show v.b.toNat = b by omega]
    have hba := fun q (hq : schP S x q ∧ v.ok q) => brn_at (hao2 q hq) hbl
    refine ⟨(hba p ⟨hx, hvo⟩).1, a.brs[b], fun q hq => (hba q hq).2, ⟨by omega, by omega⟩, (GV.cells_at hvo h0).1, v.l[0].n, v.l[0].s, v.l[0].x.1, v.l[0].x.2.1, v.l[0].x.2.2, v.l[0].y.1, v.l[0].y.2.1, v.l[0].y.2.2, v.l[0].b, fun q hq => (GV.cells_at hq.2 h0).2, ⟨S, x, B ++ vz v.b, a.brs[b], v.l[0]⟩, ?_⟩
    simp only [true_and, eq_self]
    refine ⟨⟨by show SizeOf.sizeOf v.l[0] < n; omega, hS, GV.sm_at hv h0, ⟨by show (B ++ vz v.b).size + v.l[0].pv.wt < _; rw [ae_size]; omega, by show v.l[0].pv.wt < _; omega⟩, hd.1⟩, fun q hq => ⟨hq.1, GV.ok_at hq.2 h0⟩, fun hb => ⟨e1 hb, by rw [e2], by rw [e2]⟩, fun hb => ⟨e3 hb, by rw [e2], by rw [e2]⟩⟩
  · obtain ⟨ho, hfl⟩ := hqq (by unfold isQ; exact decide_eq_true (by omega))
    obtain ⟨o1, o2, o3, o4⟩ := okP_facts ho
    obtain ⟨e1, e3, e2⟩ := ef _ (by unfold encB; rw [if_neg h2, if_neg hL2, if_neg h5, if_neg h6, if_neg hb2, if_neg h11, if_neg h14, if_pos h9])
    refine ⟨⟨S, x, B, a, v⟩, ?_⟩
    simp only [true_and, eq_self]
    exact ⟨⟨hmu, hS, hv, ⟨hB, hw⟩, h9, o2 h9, o1 (by omega), hfl⟩, fun q hq => ⟨hq.1, hao2 q hq, hq.2⟩, fun hb => ⟨e1 hb, by rw [e2], by rw [e2]⟩, fun hb => ⟨e3 hb, by rw [e2], by rw [e2]⟩⟩
  intro _ _
  refine ⟨fun hA => ?_, fun hA => ?_⟩
  · have hA2 := hA
    unfold isAk at hA2
    rw [decide_eq_true_eq] at hA2
    obtain ⟨ho, hfl⟩ := hqq (by unfold isQ; exact decide_eq_true (by omega))
    obtain ⟨o1, o2, o3, o4⟩ := okP_facts ho
    obtain ⟨e1, e3, e2⟩ := ef _ (by unfold encB; rw [if_neg h2, if_neg hL2, if_neg h5, if_neg h6, if_neg hb2, if_neg h11, if_neg h14, if_neg h9, if_pos hA2])
    refine ⟨⟨S, x, B, a, v⟩, ?_⟩
    simp only [true_and, eq_self]
    refine ⟨⟨hmu, hS, hv, ⟨hB, hw⟩, ?_, hfl⟩, fun q hq => ⟨hq.1, hao2 q hq, hq.2⟩, fun hb => ⟨e1 hb, by rw [e2], by rw [e2]⟩, fun hb => ⟨e3 hb, by rw [e2], by rw [e2]⟩⟩
    exact hA2.elim (fun h => .inl ⟨h, o1 (by omega)⟩) (fun h => .inr ⟨h, (o4 h).symm⟩)
  · have hA2 := hA
    unfold isAk at hA2
    rw [decide_eq_false_iff_not] at hA2
    obtain ⟨e1, _, e2⟩ := ef _ (by unfold encB; rw [if_neg h2, if_neg hL2, if_neg h5, if_neg h6, if_neg hb2, if_neg h11, if_neg h14, if_neg h9, if_neg hA2])
    exact ⟨e1 rfl, by rw [e2], by rw [e2]⟩
theorem enc_all : ∀ n, CtOK P 43 (cValueW.below muVw n)
  | 0 => Ct.below_zero (by decide) (by decide) (Sen.enters_of Go.Proofs.Try.func43 (by kernel_rfl)) fun s => ⟨rfl, rfl⟩
  | n + 1 => valueW_ok n (enc_all n) (recordW_ok n (enc_all n)) (blockW_ok n (enc_all n))
theorem valueW_fin : CtOK P 43 cValueW := Ct.of_below enc_all
theorem encode_ok : CtOK P 23 cEncode := by
  refine ask_ok mixed (ctTab_ok (forall_tab fits_fin (forall_tab valueW_fin nil_tab))) (W := wEncode) Go.Proofs.Try.func23 (by kernel_rfl) (by decide) (by decide) (fun s => by kernel_rfl) fun ⟨S, (x : SV), (t : Int), v⟩ => (encode_eq S x t v).mpr ?_
  rintro ⟨hS, hv, hw⟩ ⟨p, _, hx, hvo⟩
  have xs : x.2.1 = S.length := hx.1.1
  have nil : ∀ q, sliP q noA 0 0 (bcells (mkS [])) := fun q => ⟨Nat.le_refl _, .inl ⟨rfl, Pl_none⟩⟩
  simp only [decide_eq_true_eq, decide_eq_false_iff_not, Bool.not_eq_true', Bool.not_eq_false', true_and, and_true, eq_self, imp_self, implies_true, Int.toNat_natCast, exists_const]
  have r1 : (t < 0 ∨ S.length ≤ t) → encR S t v.pv = (1, mkS []) := fun h => by unfold encR; rw [if_pos h]
  refine ⟨fun h => ?_, fun h => ⟨fun h2 => ?_, fun h2 => ⟨⟨S, x, t, v⟩, ?_⟩⟩⟩
  · rw [r1 (.inl h)]; exact ⟨rfl, Pl_none, fun q _ => ⟨rfl, nil q⟩⟩
  · rw [r1 (.inr (by omega))]; exact ⟨rfl, Pl_none, fun q _ => ⟨rfl, nil q⟩⟩
  simp only [true_and, eq_self]
  have hr : ¬ (t < 0 ∨ S.length ≤ t) := by omega
  refine ⟨⟨hS, hv⟩, fun q hq => hq, fun hb => ?_, fun hb => ⟨⟨S, x, mkS [], t, v⟩, ?_⟩⟩
  · have : encR S t v.pv = (7, mkS []) := by unfold encR; rw [if_neg hr, if_pos hb]
    rw [this]; exact ⟨rfl, Pl_none, fun q _ => ⟨rfl, nil q⟩⟩
  have hr2 : encR S t v.pv = if (PV.enc S t v.pv (mkS [])).1 = true then (0, (PV.enc S t v.pv (mkS [])).2) else (3, mkS []) := by unfold encR; rw [if_neg hr, if_neg (by rw [hb]; decide)]
  simp only [true_and, eq_self]
  refine ⟨rfl, ⟨hS, hv, ⟨by show 0 + v.pv.wt < _; omega, hw⟩, hb⟩, fun q hq => hq, fun he => ?_, fun he => ?_⟩
  · rw [hr2, if_neg (by rw [he]; decide)]; exact ⟨rfl, Pl_none, fun q _ => ⟨rfl, nil q⟩⟩
  · rintro b s u a n c ⟨q, hq, hc, hrow⟩
    rw [hr2, if_pos he]
    refine ⟨rfl, rowP_Pl hrow, fun r hr => ⟨rfl, ?_⟩⟩
    have := hr.2.2
    rw [Nat.mul_one, ← bcells_len, List.take_length] at this
    exact ⟨hr.2.1, this⟩
namespace Gr
/-! A text's runes make the text again if, and only if, it is valid: over plain lists. -/
noncomputable def bin (l : List UInt8) : ByteArray := ⟨l.toArray⟩
theorem ofNat_lt {n : Nat} (h : n < 256) : (UInt8.ofNat n).toNat = n := by rw [UInt8.toNat_ofNat']; omega
noncomputable def isPt (r : Nat) : Bool := decide (r ≤ 1114111) && !(decide (r / 2048 = 27))
noncomputable def glen (r : Nat) : Nat := if r < 128 then 1 else if r < 2048 then 2 else if r < 65536 then 3 else 4
noncomputable def tailB (r : Nat) : UInt8 := UInt8.ofNat (128 + r % 64)
/-- A code point's bytes. -/
noncomputable def gbytes (r : Nat) : List UInt8 :=
  if r < 128 then [UInt8.ofNat r] else if r < 2048 then [UInt8.ofNat (192 + r / 64), tailB r] else if r < 65536 then [UInt8.ofNat (224 + r / 4096), tailB (r / 64), tailB r]
  else [UInt8.ofNat (240 + r / 262144), tailB (r / 4096), tailB (r / 64), tailB r]
/-- How many bytes a first byte asks for, and its bits. -/
noncomputable def lead (c : Nat) : Nat × Nat := if c < 128 then (1, c) else if c / 32 = 6 then (2, c % 32) else if c / 16 = 14 then (3, c % 16) else if c / 8 = 30 then (4, c % 8) else (0, 0)
/-- The bits of those that follow. -/
noncomputable def follow : List UInt8 → Nat → Option Nat
  | [], r => some r
  | c :: l, r => if c.toNat / 64 = 2 then follow l (r * 64 + c.toNat % 64) else none
noncomputable def front (l : List UInt8) : Nat := match l with
  | [] => 0
  | c :: _ => if l.length < (lead c.toNat).1 then 0 else match follow ((l.take (lead c.toNat).1).drop 1) (lead c.toNat).2 with
    | none => 0
    | some r => if (lead c.toNat).1 = 0 ∨ isPt r = false ∨ glen r ≠ (lead c.toNat).1 then 0 else (lead c.toNat).1
theorem front_le (l : List UInt8) : front l ≤ l.length := by
  unfold front
  split
  · omega
  · split
    · omega
    · rename_i h
      split
      · omega
      · split <;> omega
noncomputable def valid (l : List UInt8) : Bool := if h : l = [] then true else if h2 : front l = 0 then false else valid (l.drop (front l))
termination_by l.length
decreasing_by
  have : 0 < l.length := List.length_pos_iff.2 h
  rw [List.length_drop]; omega
theorem tail_val (x : Nat) : (tailB x).toNat = 128 + x % 64 := ofNat_lt (by omega)
theorem follow_tail (x q : Nat) (l : List UInt8) : follow (tailB x :: l) q = follow l (q * 64 + x % 64) := by
  rw [follow, tail_val, if_pos (by omega)]
  congr 1; omega
theorem front_of {a : UInt8} {rest : List UInt8} {n q r : Nat} (hl : lead a.toNat = (n, q)) (hn : n = rest.length + 1) (hf : follow rest q = some r) (hp : isPt r = true) (hg : glen r = n) : front (a :: rest) = n := by
  unfold front
  simp only [hl, List.length_cons]
  rw [if_neg (by omega), hn, List.take_succ_cons, List.take_length, List.drop_one, List.tail_cons, hf]
  simp only
  rw [if_neg (by rw [hp, hg, hn]; simp)]
theorem encode_pt (r : Nat) (hp : isPt r = true) : Utf8.encode (r : Int) = bin (gbytes r) := by
  have hv : Utf8.valid (r : Int) = true := by
    unfold isPt at hp; simp at hp
    unfold Utf8.valid; simp; omega
  unfold Utf8.encode gbytes
  simp only [hv, if_true, Int.toNat_natCast]
  by_cases h1 : r < 128
  · rw [if_pos h1, if_pos h1]; rfl
  · rw [if_neg h1, if_neg h1]
    by_cases h2 : r < 2048
    · rw [if_pos h2, if_pos h2]; rfl
    · rw [if_neg h2, if_neg h2]
      by_cases h3 : r < 65536
      · rw [if_pos h3, if_pos h3]; rfl
      · rw [if_neg h3, if_neg h3]; rfl
theorem at_drop (s : ByteArray) (k : Nat) (h : k < s.size) : s.data.toList.drop k = s[k] :: s.data.toList.drop (k + 1) := by
  rw [List.drop_eq_getElem_cons (by simpa using h)]; rfl
theorem valid_nil : valid [] = true := by rw [valid]; rfl
theorem valid_bad {l : List UInt8} (h : 0 < l.length) (hf : front l = 0) : valid l = false := by
  rw [valid, dif_neg (by intro e; rw [e] at h; simp at h), dif_pos hf]
theorem valid_next {l : List UInt8} (h : 0 < l.length) (hf : front l ≠ 0) : valid l = valid (l.drop (front l)) := by
  rw [valid, dif_neg (by intro e; rw [e] at h; simp at h), dif_neg hf]
theorem rest_at (s : ByteArray) (n : Nat) : (s.extract n s.size).data.toList = s.data.toList.drop n := by
  rw [ByteArray.data_extract, Array.toList_extract, List.extract_eq_take_drop]
  rw [List.take_of_length_le (by simp)]
noncomputable def gd (l : List UInt8) (k : Nat) : Nat := (l.getD k 0).toNat
noncomputable def cn (l : List UInt8) (k : Nat) : Bool := decide (k < l.length) && gd l k / 64 == 2
noncomputable def decL (l : List UInt8) : Nat × Nat :=
  if gd l 0 < 128 then (gd l 0, 1)
  else if gd l 0 / 32 == 6 && cn l 1 then (if gd l 0 % 32 * 64 + gd l 1 % 64 ≥ 128 then (gd l 0 % 32 * 64 + gd l 1 % 64, 2) else (65533, 1))
  else if gd l 0 / 16 == 14 && cn l 1 && cn l 2 then (if gd l 0 % 16 * 4096 + gd l 1 % 64 * 64 + gd l 2 % 64 ≥ 2048 && Utf8.valid (gd l 0 % 16 * 4096 + gd l 1 % 64 * 64 + gd l 2 % 64 : Nat) then (gd l 0 % 16 * 4096 + gd l 1 % 64 * 64 + gd l 2 % 64, 3) else (65533, 1))
  else if gd l 0 / 8 == 30 && cn l 1 && cn l 2 && cn l 3 then (if gd l 0 % 8 * 262144 + gd l 1 % 64 * 4096 + gd l 2 % 64 * 64 + gd l 3 % 64 ≥ 65536 && Utf8.valid (gd l 0 % 8 * 262144 + gd l 1 % 64 * 4096 + gd l 2 % 64 * 64 + gd l 3 % 64 : Nat) then (gd l 0 % 8 * 262144 + gd l 1 % 64 * 4096 + gd l 2 % 64 * 64 + gd l 3 % 64, 4) else (65533, 1))
  else (65533, 1)
theorem get_gd (s : ByteArray) (i k : Nat) : (s.get! (i + k)).toNat = gd (s.data.toList.drop i) k := by
  unfold gd
  congr 1
  rw [List.getD_eq_getElem?_getD, List.getElem?_drop]
  show s.data[i + k]! = _
  rw [Array.getElem!_eq_getD, Array.getD_eq_getD_getElem?, Array.getElem?_toList]
  rfl
theorem decode_L (s : ByteArray) (i : Nat) : Utf8.decode s i = decL (s.data.toList.drop i) := by
  have hc : ∀ k, (decide (i + k < s.size) && gd (s.data.toList.drop i) k / 64 == 2) = cn (s.data.toList.drop i) k := by
    intro k
    unfold cn
    congr 1
    rw [List.length_drop, Array.length_toList]
    show decide (i + k < s.data.size) = _
    congr 1
    apply propext; omega
  unfold Utf8.decode decL
  simp only [get_gd]
  simp only [hc]
  rfl
theorem pt_valid (r : Nat) : Utf8.valid (r : Int) = isPt r := by
  unfold Utf8.valid isPt
  by_cases h1 : r ≤ 1114111 <;> by_cases h2 : r / 2048 = 27 <;> simp [h1, h2] <;> omega
theorem ofN (c : UInt8) (n : Nat) (h : n = c.toNat) : UInt8.ofNat n = c := by subst h; simp
theorem front_3 (a b c d : UInt8) (t : List UInt8) : True := trivial
theorem front_cons (a : UInt8) (t : List UInt8) : front (a :: t) = if t.length + 1 < (lead a.toNat).1 then 0 else match follow (((a :: t).take (lead a.toNat).1).drop 1) (lead a.toNat).2 with
    | none => 0
    | some r => if (lead a.toNat).1 = 0 ∨ isPt r = false ∨ glen r ≠ (lead a.toNat).1 then 0 else (lead a.toNat).1 := by
  show (if (a :: t).length < _ then _ else _) = _
  rw [List.length_cons]
/-- What stands at a text's front, as the language has it. -/
noncomputable def Same (l : List UInt8) : Prop := (front l = 0 ∧ decL l = (65533, 1)) ∨ ∃ r, decL l = (r, front l) ∧ isPt r = true ∧ front l ≠ 0 ∧ l.take (front l) = gbytes r
theorem same_one (a : UInt8) (t : List UInt8) (h : a.toNat < 128) : Same (a :: t) := by
  have hl : lead a.toNat = (1, a.toNat) := by unfold lead; rw [if_pos h]
  have hp : isPt a.toNat = true := by unfold isPt; simp; omega
  have hg : glen a.toNat = 1 := by unfold glen; rw [if_pos h]
  have hf : front (a :: t) = 1 := by
    rw [front_cons, hl]
    simp [follow, hp, hg]
  refine .inr ⟨a.toNat, ?_, hp, by rw [hf]; decide, ?_⟩
  · rw [hf]; unfold decL; rw [if_pos (by exact h)]; rfl
  · rw [hf]; unfold gbytes; rw [if_pos h, ofN a _ rfl]; rfl
theorem same_zero (a : UInt8) (t : List UInt8) (h : ¬ a.toNat < 128) (h2 : ¬ a.toNat / 32 = 6) (h3 : ¬ a.toNat / 16 = 14) (h4 : ¬ a.toNat / 8 = 30) : Same (a :: t) := by
  have hl : lead a.toNat = (0, 0) := by unfold lead; rw [if_neg h, if_neg h2, if_neg h3, if_neg h4]
  have hf : front (a :: t) = 0 := by
    rw [front_cons, hl]
    simp [follow]
  have g0 : gd (a :: t) 0 = a.toNat := rfl
  refine .inl ⟨hf, ?_⟩
  unfold decL; rw [g0, if_neg h, if_neg (by simp [h2]), if_neg (by simp [h3]), if_neg (by simp [h4])]
theorem same_two (a : UInt8) (t : List UInt8) (h2 : a.toNat / 32 = 6) : Same (a :: t) := by
  have hl : lead a.toNat = (2, a.toNat % 32) := by unfold lead; rw [if_neg (by omega), if_pos h2]
  have g0 : gd (a :: t) 0 = a.toNat := rfl
  match t with
  | [] =>
    refine .inl ⟨by rw [front_cons, hl]; rfl, ?_⟩
    have c1 : cn [a] 1 = false := rfl
    unfold decL; rw [g0, if_neg (by omega), c1, if_neg (by simp), if_neg (by simp), if_neg (by simp)]
  | b :: t =>
    have g1 : gd (a :: b :: t) 1 = b.toNat := rfl
    have c1 : cn (a :: b :: t) 1 = (b.toNat / 64 == 2) := by unfold cn; rw [g1]; simp
    have hf : front (a :: b :: t) = match follow [b] (a.toNat % 32) with
      | none => 0
      | some r => if 2 = 0 ∨ isPt r = false ∨ glen r ≠ 2 then 0 else 2 := by
      rw [front_cons, hl, if_neg (by simp)]; rfl
    have hb := b.toNat_lt
    by_cases hb2 : b.toNat / 64 = 2
    · rw [show follow [b] (a.toNat % 32) = some (a.toNat % 32 * 64 + b.toNat % 64) by simp [follow, hb2]] at hf
      dsimp only at hf
      have hp : isPt (a.toNat % 32 * 64 + b.toNat % 64) = true := by unfold isPt; simp; omega
      by_cases hr : a.toNat % 32 * 64 + b.toNat % 64 ≥ 128
      · have hg : glen (a.toNat % 32 * 64 + b.toNat % 64) = 2 := by unfold glen; rw [if_neg (by omega), if_pos (by omega)]
        rw [if_neg (by simp [hp, hg])] at hf
        refine .inr ⟨a.toNat % 32 * 64 + b.toNat % 64, ?_, hp, by rw [hf]; decide, ?_⟩
        · rw [hf]; unfold decL; rw [g0, g1, if_neg (by omega), c1, if_pos (by simp [h2, hb2]), if_pos hr]
        · rw [hf]; unfold gbytes tailB
          rw [if_neg (by omega), if_pos (by omega), ofN a _ (by omega), ofN b _ (by omega)]; rfl
      · have hg : glen (a.toNat % 32 * 64 + b.toNat % 64) = 1 := by unfold glen; rw [if_pos (by omega)]
        rw [if_pos (by simp [hg])] at hf
        refine .inl ⟨hf, ?_⟩
        unfold decL; rw [g0, g1, if_neg (by omega), c1, if_pos (by simp [h2, hb2]), if_neg hr]
    · rw [show follow [b] (a.toNat % 32) = none by simp [follow, hb2]] at hf
      refine .inl ⟨hf, ?_⟩
      unfold decL; rw [g0, if_neg (by omega), c1, if_neg (by simp [hb2]), if_neg (by simp [hb2]), if_neg (by simp [hb2])]
theorem same_three (a : UInt8) (t : List UInt8) (h3 : a.toNat / 16 = 14) : Same (a :: t) := by
  have hl : lead a.toNat = (3, a.toNat % 16) := by unfold lead; rw [if_neg (by omega), if_neg (by omega), if_pos h3]
  have g0 : gd (a :: t) 0 = a.toNat := rfl
  have no : ∀ x : Bool, (cn (a :: t) 1 && cn (a :: t) 2) = false → decL (a :: t) = (65533, 1) := by
    intro _ hx
    unfold decL; rw [g0, if_neg (by omega), if_neg (by simp; omega), if_neg (by rw [Bool.and_assoc, hx]; simp), if_neg (by simp; omega)]
  match t with
  | [] => exact .inl ⟨by rw [front_cons, hl]; rfl, no true rfl⟩
  | [b] => exact .inl ⟨by rw [front_cons, hl]; rfl, no true (by unfold cn; simp)⟩
  | b :: c :: t =>
    have g1 : gd (a :: b :: c :: t) 1 = b.toNat := rfl
    have g2 : gd (a :: b :: c :: t) 2 = c.toNat := rfl
    have c1 : cn (a :: b :: c :: t) 1 = (b.toNat / 64 == 2) := by unfold cn; rw [g1]; simp
    have c2 : cn (a :: b :: c :: t) 2 = (c.toNat / 64 == 2) := by unfold cn; rw [g2]; simp
    have hf : front (a :: b :: c :: t) = match follow [b, c] (a.toNat % 16) with
      | none => 0
      | some r => if 3 = 0 ∨ isPt r = false ∨ glen r ≠ 3 then 0 else 3 := by
      rw [front_cons, hl, if_neg (by simp)]; rfl
    have hb := b.toNat_lt
    have hc := c.toNat_lt
    by_cases hbc : b.toNat / 64 = 2 ∧ c.toNat / 64 = 2
    · obtain ⟨hb2, hc2⟩ := hbc
      rw [show follow [b, c] (a.toNat % 16) = some ((a.toNat % 16 * 64 + b.toNat % 64) * 64 + c.toNat % 64) by simp [follow, hb2, hc2], show (a.toNat % 16 * 64 + b.toNat % 64) * 64 + c.toNat % 64 = a.toNat % 16 * 4096 + b.toNat % 64 * 64 + c.toNat % 64 by omega] at hf
      dsimp only at hf
      obtain ⟨r, hr⟩ : ∃ r, r = a.toNat % 16 * 4096 + b.toNat % 64 * 64 + c.toNat % 64 := ⟨_, rfl⟩
      have hd : decL (a :: b :: c :: t) = if r ≥ 2048 && isPt r then (r, 3) else (65533, 1) := by
        unfold decL; rw [g0, g1, g2, if_neg (by omega), if_neg (by simp; omega), c1, c2, if_pos (by simp [h3, hb2, hc2]), ← hr, pt_valid]
      rw [← hr] at hf
      have hr16 : r < 65536 := by omega
      by_cases h : r ≥ 2048 ∧ isPt r = true
      · have hg : glen r = 3 := by unfold glen; rw [if_neg (by omega), if_neg (by omega), if_pos hr16]
        rw [if_neg (by simp [h.2, hg])] at hf
        rw [if_pos (by simp [h])] at hd
        refine .inr ⟨r, by rw [hf, hd], h.2, by rw [hf]; decide, ?_⟩
        rw [hf]; unfold gbytes tailB
        rw [if_neg (by omega), if_neg (by omega), if_pos hr16, ofN a _ (by omega), ofN b _ (by omega), ofN c _ (by omega)]; rfl
      · rw [if_neg (by simpa using h)] at hd
        refine .inl ⟨?_, hd⟩
        rw [hf, if_pos]
        by_cases h2 : r ≥ 2048
        · right; left
          cases hp : isPt r with
          | false => rfl
          | true => exact absurd ⟨h2, hp⟩ h
        · right; right; unfold glen; repeat' split
          all_goals omega
    · have hx : follow [b, c] (a.toNat % 16) = none := by
        unfold follow
        split
        · rename_i hb2
          unfold follow
          rw [if_neg (fun hc2 => hbc ⟨hb2, hc2⟩)]
        · rfl
      rw [hx] at hf
      refine .inl ⟨hf, no true ?_⟩
      rw [c1, c2]
      cases hq : (b.toNat / 64 == 2 && c.toNat / 64 == 2) with
      | false => rfl
      | true => exact absurd (by simpa using hq) hbc
theorem same_four (a : UInt8) (t : List UInt8) (h4 : a.toNat / 8 = 30) : Same (a :: t) := by
  have hl : lead a.toNat = (4, a.toNat % 8) := by unfold lead; rw [if_neg (by omega), if_neg (by omega), if_neg (by omega), if_pos h4]
  have g0 : gd (a :: t) 0 = a.toNat := rfl
  have no : ∀ x : Bool, (cn (a :: t) 1 && cn (a :: t) 2 && cn (a :: t) 3) = false → decL (a :: t) = (65533, 1) := by
    intro _ hx
    unfold decL; rw [g0, if_neg (by omega), if_neg (by simp; omega), if_neg (by simp; omega), if_neg (by rw [Bool.and_assoc, Bool.and_assoc, ← Bool.and_assoc (cn (a :: t) 1), hx]; simp)]
  match t with
  | [] => exact .inl ⟨by rw [front_cons, hl]; rfl, no true rfl⟩
  | [b] => exact .inl ⟨by rw [front_cons, hl]; rfl, no true (by unfold cn; simp)⟩
  | [b, c] => exact .inl ⟨by rw [front_cons, hl]; rfl, no true (by unfold cn; simp)⟩
  | b :: c :: d :: t =>
    have g1 : gd (a :: b :: c :: d :: t) 1 = b.toNat := rfl
    have g2 : gd (a :: b :: c :: d :: t) 2 = c.toNat := rfl
    have g3 : gd (a :: b :: c :: d :: t) 3 = d.toNat := rfl
    have c1 : cn (a :: b :: c :: d :: t) 1 = (b.toNat / 64 == 2) := by unfold cn; rw [g1]; simp
    have c2 : cn (a :: b :: c :: d :: t) 2 = (c.toNat / 64 == 2) := by unfold cn; rw [g2]; simp
    have c3 : cn (a :: b :: c :: d :: t) 3 = (d.toNat / 64 == 2) := by unfold cn; rw [g3]; simp
    have hf : front (a :: b :: c :: d :: t) = match follow [b, c, d] (a.toNat % 8) with
      | none => 0
      | some r => if 4 = 0 ∨ isPt r = false ∨ glen r ≠ 4 then 0 else 4 := by
      rw [front_cons, hl, if_neg (by simp)]; rfl
    have hb := b.toNat_lt
    have hc := c.toNat_lt
    have hd := d.toNat_lt
    by_cases hbc : b.toNat / 64 = 2 ∧ c.toNat / 64 = 2 ∧ d.toNat / 64 = 2
    · obtain ⟨hb2, hc2, hd2⟩ := hbc
      rw [show follow [b, c, d] (a.toNat % 8) = some (((a.toNat % 8 * 64 + b.toNat % 64) * 64 + c.toNat % 64) * 64 + d.toNat % 64) by simp [follow, hb2, hc2, hd2], show ((a.toNat % 8 * 64 + b.toNat % 64) * 64 + c.toNat % 64) * 64 + d.toNat % 64 = a.toNat % 8 * 262144 + b.toNat % 64 * 4096 + c.toNat % 64 * 64 + d.toNat % 64 by omega] at hf
      dsimp only at hf
      obtain ⟨r, hr⟩ : ∃ r, r = a.toNat % 8 * 262144 + b.toNat % 64 * 4096 + c.toNat % 64 * 64 + d.toNat % 64 := ⟨_, rfl⟩
      have hdd : decL (a :: b :: c :: d :: t) = if r ≥ 65536 && isPt r then (r, 4) else (65533, 1) := by
        unfold decL; rw [g0, g1, g2, g3, if_neg (by omega), if_neg (by simp; omega), if_neg (by simp; omega), c1, c2, c3, if_pos (by simp [h4, hb2, hc2, hd2]), ← hr, pt_valid]
      rw [← hr] at hf
      by_cases h : r ≥ 65536 ∧ isPt r = true
      · have hg : glen r = 4 := by unfold glen; rw [if_neg (by omega), if_neg (by omega), if_neg (by omega)]
        rw [if_neg (by simp [h.2, hg])] at hf
        rw [if_pos (by simp [h])] at hdd
        refine .inr ⟨r, by rw [hf, hdd], h.2, by rw [hf]; decide, ?_⟩
        rw [hf]; unfold gbytes tailB
        rw [if_neg (by omega), if_neg (by omega), if_neg (by omega), ofN a _ (by omega), ofN b _ (by omega), ofN c _ (by omega), ofN d _ (by omega)]; rfl
      · rw [if_neg (by simpa using h)] at hdd
        refine .inl ⟨?_, hdd⟩
        rw [hf, if_pos]
        by_cases h2 : r ≥ 65536
        · right; left
          cases hp : isPt r with
          | false => rfl
          | true => exact absurd ⟨h2, hp⟩ h
        · right; right; unfold glen; repeat' split
          all_goals omega
    · have hx : follow [b, c, d] (a.toNat % 8) = none := by
        unfold follow
        split
        · rename_i hb2
          unfold follow
          split
          · rename_i hc2
            unfold follow
            rw [if_neg (fun hd2 => hbc ⟨hb2, hc2, hd2⟩)]
          · rfl
        · rfl
      rw [hx] at hf
      refine .inl ⟨hf, no true ?_⟩
      rw [c1, c2, c3]
      cases hq : (b.toNat / 64 == 2 && c.toNat / 64 == 2 && d.toNat / 64 == 2) with
      | false => rfl
      | true => exact absurd (by simpa [and_assoc] using hq) hbc
theorem same_any (a : UInt8) (t : List UInt8) : Same (a :: t) := by
  by_cases h1 : a.toNat < 128
  · exact same_one a t h1
  · by_cases h2 : a.toNat / 32 = 6
    · exact same_two a t h2
    · by_cases h3 : a.toNat / 16 = 14
      · exact same_three a t h3
      · by_cases h4 : a.toNat / 8 = 30
        · exact same_four a t h4
        · exact same_zero a t h1 h2 h3 h4
noncomputable def bl (b : ByteArray) : List UInt8 := b.data.toList
theorem bl_bin (a : List UInt8) : bl (bin a) = a := by unfold bl; simp [bin]
theorem bl_app (a b : ByteArray) : bl (a ++ b) = bl a ++ bl b := by unfold bl; rw [ByteArray.data_append, Array.toList_append]
theorem bl_inj {a b : ByteArray} (h : bl a = bl b) : a = b := by unfold bl at h; exact ByteArray.ext (Array.toList_inj.1 h)
noncomputable def encL (n : Nat) : List UInt8 := bl (Utf8.encode (n : Int))
noncomputable def rv (n : Nat) : Value := .int .i32 (n : Int)
theorem encL_pt (r : Nat) (hp : isPt r = true) : encL r = gbytes r := by
  unfold encL
  rw [encode_pt r hp, bl_bin]
theorem front_i3 (l X : List UInt8) (a b c : UInt8) (q r : Nat) (hl : lead a.toNat = (3, q)) (hf : follow [b, c] q = some r) (hp : isPt r = true) (hg : glen r = 3) : front (a :: b :: c :: X) = 3 := by
  rw [front_cons, hl]
  dsimp only
  rw [if_neg (by simp), show List.drop 1 (List.take 3 (a :: b :: c :: X)) = [b, c] from rfl, hf]
  dsimp only
  rw [hp, hg]
  simp
theorem front_bad (X : List UInt8) : front (gbytes 65533 ++ X) = 3 := by
  rw [show gbytes 65533 = [239, 191, 189] by decide +kernel]
  exact front_i3 [] X 239 191 189 15 65533 (by decide +kernel) (by decide +kernel) (by decide +kernel) (by decide +kernel)
theorem runes_out (s : ByteArray) : ∀ (bound i : Nat) (acc : Array Value), s.size ≤ i + bound →
    ∃ ns : List Nat, (Conv.runesFrom s bound i acc).toList = acc.toList ++ ns.map rv ∧ (ns.flatMap encL = s.data.toList.drop i ↔ valid (s.data.toList.drop i) = true)
  | 0, i, acc, h => by
    refine ⟨[], by simp [Conv.runesFrom], ?_⟩
    rw [List.drop_of_length_le (by rw [Array.length_toList]; exact h), valid_nil]
    simp
  | bound + 1, i, acc, h => by
    by_cases hi : i < s.size
    · obtain ⟨a, t, hat⟩ : ∃ a t, s.data.toList.drop i = a :: t := ⟨_, _, at_drop s i hi⟩
      have hstep : Conv.runesFrom s (bound + 1) i acc = Conv.runesFrom s bound (i + (decL (a :: t)).2) (acc.push (rv (decL (a :: t)).1)) := by
        rw [Conv.runesFrom, if_pos hi, decode_L, hat]; rfl
      rw [hstep]
      rcases same_any a t with ⟨hf, hd⟩ | ⟨r, hd, hp, hf, htk⟩
      · obtain ⟨ns, h1, h2⟩ := runes_out s bound (i + 1) (acc.push (rv 65533)) (by omega)
        refine ⟨65533 :: ns, by rw [hd, h1]; simp, ?_⟩
        have hv : valid (a :: t) = false := valid_bad (by simp) hf
        rw [hat, hv, List.flatMap_cons, encL_pt 65533 (by decide)]
        refine ⟨fun he => ?_, fun he => absurd he (by decide)⟩
        rw [← he, front_bad] at hf
        exact absurd hf (by decide)
      · have hlen : front (a :: t) ≤ (a :: t).length := front_le _
        obtain ⟨ns, h1, h2⟩ := runes_out s bound (i + front (a :: t)) (acc.push (rv r)) (by omega)
        refine ⟨r :: ns, by rw [hd, h1]; simp, ?_⟩
        have hdr : s.data.toList.drop (i + front (a :: t)) = (a :: t).drop (front (a :: t)) := by rw [← hat, List.drop_drop]
        rw [hdr] at h2
        rw [hat, valid_next (by simp) hf, ← h2, List.flatMap_cons, encL_pt r hp, ← htk]
        constructor
        · intro he
          have := he.trans (List.take_append_drop (front (a :: t)) (a :: t)).symm
          exact List.append_cancel_left this
        · intro he
          rw [he, List.take_append_drop]
    · refine ⟨[], by rw [Conv.runesFrom, if_neg hi]; simp, ?_⟩
      rw [List.drop_of_length_le (by rw [Array.length_toList]; exact Nat.not_lt.1 hi), valid_nil]
      simp
theorem fold_enc (ns : List Nat) : ∀ b : ByteArray, bl ((ns.map (fun n : Nat => (n : Int))).foldl (fun r n => r ++ Utf8.encode n) b) = bl b ++ ns.flatMap encL := by
  induction ns with
  | nil => intro b; simp
  | cons n ns ih =>
    intro b
    rw [List.map_cons, List.foldl_cons, ih, List.flatMap_cons, bl_app, List.append_assoc]
    unfold encL
    exact rfl
/-- A text's runes, in a row: as many, and their bytes. -/
theorem runes_all (s : ByteArray) : ∃ ns : List Nat, Conv.runesFrom s s.size 0 #[] = (ns.map rv).toArray ∧ (Conv.runesFrom s s.size 0 #[]).size = ns.length ∧ (runesBytes (ns.map (fun n : Nat => (n : Int))) = s ↔ valid s.data.toList = true) := by
  obtain ⟨ns, h1, h2⟩ := runes_out s s.size 0 #[] (by omega)
  rw [List.drop_zero] at h2
  have h3 : Conv.runesFrom s s.size 0 #[] = (ns.map rv).toArray := by
    apply Array.toList_inj.1; rw [h1]; simp
  refine ⟨ns, h3, by rw [h3]; simp, ?_⟩
  rw [← h2]
  have h4 := fold_enc ns ByteArray.empty
  rw [show bl ByteArray.empty = [] from rfl, List.nil_append] at h4
  unfold runesBytes
  constructor
  · intro h; rw [h] at h4; exact h4.symm
  · intro h
    rw [h] at h4
    exact bl_inj h4
end Gr
/-! Which texts are valid: the two ways to tell it. -/
theorem lead_ld (c : Nat) : Gr.lead c = (ldN c, ldV c) := by
  unfold Gr.lead ldN ldV
  by_cases h1 : c < 128
  · simp only [if_pos h1]
  simp only [if_neg h1]
  by_cases h2 : c / 32 = 6
  · have p2 : 192 ≤ c ∧ c < 224 := by omega
    simp only [if_pos h2, if_pos p2]; congr 1; omega
  have p2 : ¬ (192 ≤ c ∧ c < 224) := by omega
  simp only [if_neg h2, if_neg p2]
  by_cases h3 : c / 16 = 14
  · have p3 : 224 ≤ c ∧ c < 240 := by omega
    simp only [if_pos h3, if_pos p3]; congr 1; omega
  have p3 : ¬ (224 ≤ c ∧ c < 240) := by omega
  simp only [if_neg h3, if_neg p3]
  by_cases h4 : c / 8 = 30
  · have p4 : 240 ≤ c ∧ c < 248 := by omega
    simp only [if_pos h4, if_pos p4]; congr 1; omega
  have p4 : ¬ (240 ≤ c ∧ c < 248) := by omega
  simp only [if_neg h4, if_neg p4]
theorem isC_pt (r : Nat) : isC r = Gr.isPt r := by
  unfold isC Gr.isPt
  congr 2
  rw [← Bool.decide_and]
  exact dec_iff (by omega)
theorem follow_snoc : ∀ (m : List UInt8) (c : UInt8) (r : Nat), Gr.follow (m ++ [c]) r = match Gr.follow m r with
    | some q => if c.toNat / 64 = 2 then some (q * 64 + c.toNat % 64) else none
    | none => none
  | [], c, r => rfl
  | a :: m, c, r => by
    rw [List.cons_append, Gr.follow, Gr.follow]
    split
    · exact follow_snoc m c _
    · rfl
theorem vlF_follow (s : ByteArray) : ∀ k, k + 1 ≤ s.size → vlF s (k + 1) = Gr.follow ((s.data.toList.take (k + 1)).drop 1) (ldV (bat s 0))
  | 0, h => by
    rw [vlF]
    have : (s.data.toList.take (0 + 1)).drop 1 = [] := List.length_eq_zero_iff.1 (by rw [List.length_drop, List.length_take]; omega)
    rw [this]; rfl
  | k + 1, h => by
    have hk : k + 1 < s.data.toList.length := by rw [Array.length_toList]; exact h
    have e : (s.data.toList.take (k + 1 + 1)).drop 1 = (s.data.toList.take (k + 1)).drop 1 ++ [s.data.toList[k + 1]] := by
      rw [List.take_succ_eq_append_getElem hk, List.drop_append_of_le_length (by rw [List.length_take]; omega)]
    rw [e, follow_snoc, vlF, vlF_follow s k (by omega)]
    have hb : bat s (k + 1) = (s.data.toList[k + 1]).toNat := by rw [bat_in (by omega)]; rfl
    rw [hb]
    have hlt := (s.data.toList[k + 1]).toNat_lt
    cases Gr.follow ((s.data.toList.take (k + 1)).drop 1) (ldV (bat s 0)) with
    | none => rfl
    | some r =>
      simp only
      by_cases hc : (s.data.toList[k + 1]).toNat / 64 = 2
      · rw [if_pos hc, if_pos (by unfold ctC; rw [Bool.and_eq_true, decide_eq_true_eq, decide_eq_true_eq]; omega)]
        congr 1; omega
      · rw [if_neg hc, if_neg (by unfold ctC; rw [Bool.and_eq_true, decide_eq_true_eq, decide_eq_true_eq]; omega)]
theorem frt_front (s : ByteArray) (h : 0 < s.size) : frt s = Gr.front s.data.toList := by
  have h0 : s.data.toList = s[0] :: s.data.toList.drop 1 := by
    have := Gr.at_drop s 0 h
    rw [List.drop_zero] at this
    exact this
  have hb : bat s 0 = (s[0]).toNat := bat_in h
  have hl : s.data.toList.length = s.size := Array.length_toList
  unfold frt
  have hf : Gr.front s.data.toList = if s.data.toList.length < (Gr.lead (s[0]).toNat).1 then 0 else match Gr.follow ((s.data.toList.take (Gr.lead (s[0]).toNat).1).drop 1) (Gr.lead (s[0]).toNat).2 with
    | none => 0
    | some r => if (Gr.lead (s[0]).toNat).1 = 0 ∨ Gr.isPt r = false ∨ Gr.glen r ≠ (Gr.lead (s[0]).toNat).1 then 0 else (Gr.lead (s[0]).toNat).1 := by
    conv => lhs; rw [h0, Gr.front]
    rw [← h0]
    all_goals (generalize Gr.follow ((s.data.toList.take (Gr.lead (s[0]).toNat).1).drop 1) (Gr.lead (s[0]).toNat).2 = o; cases o <;> rfl)
  rw [hf, hl, lead_ld, ← hb]
  by_cases h1 : s.size < ldN (bat s 0)
  · rw [if_pos h1, if_pos h1]
  rw [if_neg h1, if_neg h1]
  by_cases h2 : ldN (bat s 0) = 0
  · rw [h2]
    simp
    split <;> rfl
  · obtain ⟨k, hk⟩ : ∃ k, ldN (bat s 0) = k + 1 := ⟨ldN (bat s 0) - 1, by omega⟩
    rw [hk, vlF_follow s k (by omega)]
    cases Gr.follow ((s.data.toList.take (k + 1)).drop 1) (ldV (bat s 0)) with
    | none => rfl
    | some r => simp only [isC_pt]; rfl
theorem vldF_valid : ∀ (f : Nat) (s : ByteArray), s.size ≤ f → vldF f s = Gr.valid s.data.toList
  | 0, s, h => by
    have : s.data.toList = [] := List.length_eq_zero_iff.1 (by rw [Array.length_toList]; show s.size = 0; omega)
    rw [this, Gr.valid_nil]; rfl
  | f + 1, s, h => by
    rw [vldF]
    by_cases h0 : s.size = 0
    · rw [if_pos h0]
      have : s.data.toList = [] := List.length_eq_zero_iff.1 (by rw [Array.length_toList]; exact h0)
      rw [this, Gr.valid_nil]
    rw [if_neg h0, frt_front s (by omega)]
    have hl : 0 < s.data.toList.length := by rw [Array.length_toList]; show 0 < s.size; omega
    by_cases h1 : Gr.front s.data.toList = 0
    · rw [if_pos h1, Gr.valid_bad hl h1]
    rw [if_neg h1, Gr.valid_next hl h1, vldF_valid f _ (by rw [ByteArray.size_extract]; omega), Gr.rest_at]
theorem vld_valid (s : ByteArray) : vld s = Gr.valid s.data.toList := vldF_valid _ s (Nat.le_refl _)
/-- Runes back to a text: if it is the text again, then it is valid. -/
theorem runes_vld (s : ByteArray) : ∃ ns : List Int, rnL s = ns.map (fun i => Value.int .i32 i) ∧ (runesBytes ns = s → vld s = true) := by
  obtain ⟨ns, h1, h2, h3⟩ := Gr.runes_all s
  refine ⟨ns.map fun n : Nat => (n : Int), ?_, fun h => ?_⟩
  · unfold rnL
    rw [h1, List.map_map]
    rfl
  · rw [vld_valid]; exact h3.1 h
/-! The law: how many bytes. -/
noncomputable def cBegun22 : Ct where
  σ := Unit
  args := fun _ => []
  h := fun _ => []
  m := 1
  r := fun _ => .bool true
  h' := fun _ => []
  m' := 1
  g := fun _ => none
noncomputable def wBegun22 : cBegun22.σ → WayF := fun _ => { pub := fun i k => match i, k with
  | 2, 2 => [10]
  | _, _ => [] }
/-- A long's value. -/
noncomputable def nGV (n : Int) : GV := .mk (n % 18446744073709551616) (mkS []) (none, 0, 0) [] (none, 0, 0) [] 0
noncomputable def cLaw22 : Ct where
  σ := Int × ByteArray × Int
  args := fun ⟨n, s, m⟩ => [.sv (.int .i64 n), .sv (.string s), .sv (.int .u8 m)]
  h := fun _ => []
  m := 1
  pre := fun ⟨n, s, m⟩ => -9223372036854775808 ≤ n ∧ n < 9223372036854775808 ∧ s.size < 9223372036854775808 ∧ 0 ≤ m ∧ m < 256
  r := fun _ => .sv (.bool true)
  h' := fun _ => []
  m' := 1
  g := fun _ => none
/-- The bounds at a size, and that none of the sizes before has room. -/
noncomputable def szInv (n : Int) (k lo hi : Int) : Prop := 1 ≤ k ∧ k ≤ 10 ∧ (k < 10 → lo = -64 * 128 ^ (k - 1).toNat ∧ hi = 64 * 128 ^ (k - 1).toNat - 1) ∧ ∀ j : Nat, 1 ≤ j → (j : Int) < k → n < -64 * 128 ^ (j - 1) ∨ 64 * 128 ^ (j - 1) - 1 < n
noncomputable def wLaw22 : cLaw22.σ → WayF := fun ⟨n, s, m⟩ => {
  ann := fun id t _ => match id with
    | 0 => some { σ := Int × Int × Int, pre := fun ⟨k, lo, hi⟩ => szInv n k lo hi, t := fun ⟨k, lo, hi⟩ => [(8, .sv (.int .i64 k)), (9, .sv (.int .i64 lo)), (10, .sv (.int .i64 hi))], h := fun _ => [], more := 0, μ := fun ⟨k, lo, hi⟩ => (10 - k).toNat, keep := [0, 1, 2, 6, 7] }
    | _ => some { σ := Nat, pre := fun i => (i : Int) ≤ m, t := fun i => [(13, .sv (.int .i64 (i : Int)))], h := fun i => [(7, .row 27 0 (rowsV GV.cells (List.replicate i (nGV n)))), (6, .cells 27 (some 0) false [.int .u64 0, .str [], .ssl 7 0 i 5 8, .nsl, .int .i64 0])], more := 2, μ := fun i => m.toNat - i, keep := [0, 1, 2, 6, 7, 8, 11, 12] }
  cut := fun i _ _ => match i with
    | 11 => some { σ := Unit, t := fun _ => [(8, .sv (.int .i64 ((vz n).size : Nat)))], h := fun _ => [], more := 0, μ := fun _ => 0, keep := [0, 1, 2, 6, 7] }
    | _ => none
  pub := fun i k => match i, k with
    | 17, 2 => [75]
    | 19, 2 => [89]
    | _, _ => [] }
theorem begun22_eq (u : Unit) : askF P (ctTab [(23, cEncode)]) Go.Proofs.Try.f22 cBegun22 (wBegun22) u = (True → ∀ (b s u : Nat), (∃ (p : Nat → Option Obj), True ∧ cellsP p (Addr.mk b s none) [Value.int IntKind.i64 (4 : Int), Value.string (mkS []), Value.slice noA (0 : Nat) (0 : Nat), Value.int IntKind.i64 (0 : Int), Value.slice noA (0 : Nat) (0 : Nat), Value.bool false, Value.string (mkS []), Value.int IntKind.i64 (0 : Int), Value.slice noA (0 : Nat) (0 : Nat), Value.slice noA (0 : Nat) (0 : Nat)]) → ∃ (s_1 : FtS), Prod.fst s_1.2.1 = some (Addr.mk b (s + (0 : Nat)) none) ∧ Prod.fst (Prod.snd s_1.2.1) = (1 : Nat) ∧ Prod.snd (Prod.snd s_1.2.1) = (1 : Nat) ∧ s_1.2.2.1 = (0 : Int) ∧ GV.n s_1.2.2.2 = (18446744073709551615 : Int) ∧ GV.s s_1.2.2.2 = mkS [] ∧ Prod.fst (GV.x s_1.2.2.2) = noA ∧ Prod.fst (Prod.snd (GV.x s_1.2.2.2)) = (0 : Nat) ∧ Prod.snd (Prod.snd (GV.x s_1.2.2.2)) = (0 : Nat) ∧ Prod.fst (GV.y s_1.2.2.2) = noA ∧ Prod.fst (Prod.snd (GV.y s_1.2.2.2)) = (0 : Nat) ∧ Prod.snd (Prod.snd (GV.y s_1.2.2.2)) = (0 : Nat) ∧ GV.b s_1.2.2.2 = (0 : Int) ∧ (small (Prod.fst s_1) ∧ PV.sm (GV.pv (Prod.snd s_1.2.2)) ∧ PV.wt (GV.pv (Prod.snd s_1.2.2)) < (900000000 : Nat)) ∧ (∀ (p : Nat → Option Obj), (True ∧ ∀ (j : Nat) (v : Value), [Value.int IntKind.i64 (4 : Int), Value.string (mkS []), Value.slice noA (0 : Nat) (0 : Nat), Value.int IntKind.i64 (0 : Int), Value.slice noA (0 : Nat) (0 : Nat), Value.bool false, Value.string (mkS []), Value.int IntKind.i64 (0 : Int), Value.slice noA (0 : Nat) (0 : Nat), Value.slice noA (0 : Nat) (0 : Nat)][j]? = some v → cellP p (Addr.add (Addr.mk b s none) j) = some v) → schP s_1.1 s_1.2.1 p ∧ GV.ok s_1.2.2.2 p) ∧ ∀ (b_1 : Unit), True → ∀ (a : Option Addr) (n c : Nat), (∃ (p : Nat → Option Obj), (True ∧ ∀ (j : Nat) (v : Value), [Value.int IntKind.i64 (4 : Int), Value.string (mkS []), Value.slice noA (0 : Nat) (0 : Nat), Value.int IntKind.i64 (0 : Int), Value.slice noA (0 : Nat) (0 : Nat), Value.bool false, Value.string (mkS []), Value.int IntKind.i64 (0 : Int), Value.slice noA (0 : Nat) (0 : Nat), Value.slice noA (0 : Nat) (0 : Nat)][j]? = some v → cellP p (Addr.add (Addr.mk b s none) j) = some v) ∧ n = ByteArray.size (Prod.snd (encR s_1.1 s_1.2.2.1 (GV.pv s_1.2.2.2))) ∧ sliP p a n c (bcells (Prod.snd (encR s_1.1 s_1.2.2.1 (GV.pv s_1.2.2.2))))) → ∃ (s_2 : FtS), Prod.fst s_2.2.1 = some (Addr.mk b (s + (0 : Nat)) none) ∧ Prod.fst (Prod.snd s_2.2.1) = (1 : Nat) ∧ Prod.snd (Prod.snd s_2.2.1) = (1 : Nat) ∧ s_2.2.2.1 = (1 : Int) ∧ GV.n s_2.2.2.2 = (0 : Int) ∧ GV.s s_2.2.2.2 = mkS [] ∧ Prod.fst (GV.x s_2.2.2.2) = noA ∧ Prod.fst (Prod.snd (GV.x s_2.2.2.2)) = (0 : Nat) ∧ Prod.snd (Prod.snd (GV.x s_2.2.2.2)) = (0 : Nat) ∧ Prod.fst (GV.y s_2.2.2.2) = noA ∧ Prod.fst (Prod.snd (GV.y s_2.2.2.2)) = (0 : Nat) ∧ Prod.snd (Prod.snd (GV.y s_2.2.2.2)) = (0 : Nat) ∧ GV.b s_2.2.2.2 = (0 : Int) ∧ (small (Prod.fst s_2) ∧ PV.sm (GV.pv (Prod.snd s_2.2.2)) ∧ PV.wt (GV.pv (Prod.snd s_2.2.2)) < (900000000 : Nat)) ∧ (∀ (p : Nat → Option Obj), (True ∧ ∀ (j : Nat) (v : Value), [Value.int IntKind.i64 (4 : Int), Value.string (mkS []), Value.slice noA (0 : Nat) (0 : Nat), Value.int IntKind.i64 (0 : Int), Value.slice noA (0 : Nat) (0 : Nat), Value.bool false, Value.string (mkS []), Value.int IntKind.i64 (0 : Int), Value.slice noA (0 : Nat) (0 : Nat), Value.slice noA (0 : Nat) (0 : Nat)][j]? = some v → cellP p (Addr.add (Addr.mk b s none) j) = some v) ∧ n = ByteArray.size (Prod.snd (encR s_1.1 s_1.2.2.1 (GV.pv s_1.2.2.2))) ∧ sliP p a n c (bcells (Prod.snd (encR s_1.1 s_1.2.2.1 (GV.pv s_1.2.2.2)))) → schP s_2.1 s_2.2.1 p ∧ GV.ok s_2.2.2.2 p) ∧ ∀ (b_2 : Unit), True → ∀ (a_3 : Option Addr) (n_1 c_1 : Nat), (∃ (p : Nat → Option Obj), ((True ∧ ∀ (j : Nat) (v : Value), [Value.int IntKind.i64 (4 : Int), Value.string (mkS []), Value.slice noA (0 : Nat) (0 : Nat), Value.int IntKind.i64 (0 : Int), Value.slice noA (0 : Nat) (0 : Nat), Value.bool false, Value.string (mkS []), Value.int IntKind.i64 (0 : Int), Value.slice noA (0 : Nat) (0 : Nat), Value.slice noA (0 : Nat) (0 : Nat)][j]? = some v → cellP p (Addr.add (Addr.mk b s none) j) = some v) ∧ n = ByteArray.size (Prod.snd (encR s_1.1 s_1.2.2.1 (GV.pv s_1.2.2.2))) ∧ sliP p a n c (bcells (Prod.snd (encR s_1.1 s_1.2.2.1 (GV.pv s_1.2.2.2))))) ∧ n_1 = ByteArray.size (Prod.snd (encR s_2.1 s_2.2.2.1 (GV.pv s_2.2.2.2))) ∧ sliP p a_3 n_1 c_1 (bcells (Prod.snd (encR s_2.1 s_2.2.2.1 (GV.pv s_2.2.2.2))))) → (decide (Prod.fst (encR s_1.1 s_1.2.2.1 (GV.pv s_1.2.2.2)) = (0 : Int)) = true → ∃ (s_3 : ByteArray), ByteArray.size s_3 = n ∧ (∀ (p : Nat → Option Obj), ((True ∧ ∀ (j : Nat) (v : Value), [Value.int IntKind.i64 (4 : Int), Value.string (mkS []), Value.slice noA (0 : Nat) (0 : Nat), Value.int IntKind.i64 (0 : Int), Value.slice noA (0 : Nat) (0 : Nat), Value.bool false, Value.string (mkS []), Value.int IntKind.i64 (0 : Int), Value.slice noA (0 : Nat) (0 : Nat), Value.slice noA (0 : Nat) (0 : Nat)][j]? = some v → cellP p (Addr.add (Addr.mk b s none) j) = some v) ∧ n = ByteArray.size (Prod.snd (encR s_1.1 s_1.2.2.1 (GV.pv s_1.2.2.2))) ∧ sliP p a n c (bcells (Prod.snd (encR s_1.1 s_1.2.2.1 (GV.pv s_1.2.2.2))))) ∧ n_1 = ByteArray.size (Prod.snd (encR s_2.1 s_2.2.2.1 (GV.pv s_2.2.2.2))) ∧ sliP p a_3 n_1 c_1 (bcells (Prod.snd (encR s_2.1 s_2.2.2.1 (GV.pv s_2.2.2.2)))) → rowP p a (bcells s_3)) ∧ (decide (s_3 = mkS [(1 : Nat)]) = true → true = decide (Prod.fst (encR s_2.1 s_2.2.2.1 (GV.pv s_2.2.2.2)) = (1 : Int)) ∧ True) ∧ (decide (s_3 = mkS [(1 : Nat)]) = false → False)) ∧ (decide (Prod.fst (encR s_1.1 s_1.2.2.1 (GV.pv s_1.2.2.2)) = (0 : Int)) = false → False)) := by kernel_rfl
theorem law22_eq (n : Int) (s : ByteArray) (m : Int) : askF P (ctTab [(22, cBegun22), (23, cEncode)]) Go.Proofs.Try.f7 cLaw22 (wLaw22) ⟨n, s, m⟩ = ((-9223372036854775808 : Int) ≤ n ∧ n < (9223372036854775808 : Int) ∧ ByteArray.size s < (9223372036854775808 : Nat) ∧ (0 : Int) ≤ m ∧ m < (256 : Int) → ∃ (s_1 : Unit), True ∧ (decide ((100 : Int) < (↑(ByteArray.size s) : Int)) = true → true = true ∧ True) ∧ (decide ((100 : Int) < (↑(ByteArray.size s) : Int)) = false → ByteArray.size s < (1000000000 : Nat) ∧ ∃ (ns : List Int), List.length ns = List.length (Conv.runesFrom s (ByteArray.size s) (0 : Nat) #[]).1 ∧ subL (Conv.runesFrom s (ByteArray.size s) (0 : Nat) #[]).1 (0 : Nat) (List.map (fun (i : Int) => Value.int IntKind.i32 i) ns) ∧ ((!decide (runesBytes ns = s)) = true → true = true ∧ True) ∧ ((!decide (runesBytes ns = s)) = false → ((∃ (s_2 : Int × Int × Int), n = n ∧ s = s ∧ s_2.2.1 = (-64 : Int) ∧ m = m ∧ s_2.1 = (1 : Int) ∧ s_2.2.2 = (63 : Int) ∧ szInv n (Prod.fst s_2) (Prod.fst s_2.2) (Prod.snd s_2.2) ∧ True) ∧ ∀ (s_2 : Int × Int × Int), szInv n (Prod.fst s_2) (Prod.fst s_2.2) (Prod.snd s_2.2) → (decide (s_2.1 < (10 : Int)) = true → (decide (n < s_2.2.1) = true → ∃ (v : Int), v = IntKind.wrap IntKind.i64 (s_2.2.1 * (128 : Int)) ∧ ∃ (v_1 : Int), v_1 = IntKind.wrap IntKind.i64 (s_2.2.2 * (128 : Int)) ∧ ((-9223372036854775808 : Int) ≤ v_1 + (127 : Int) ∧ v_1 + (127 : Int) ≤ (9223372036854775807 : Int)) ∧ ((-9223372036854775808 : Int) ≤ s_2.1 + (1 : Int) ∧ s_2.1 + (1 : Int) ≤ (9223372036854775807 : Int)) ∧ ∃ (s_3 : Int × Int × Int), n = n ∧ s = s ∧ s_3.2.1 = v ∧ m = m ∧ s_3.1 = s_2.1 + (1 : Int) ∧ s_3.2.2 = v_1 + (127 : Int) ∧ szInv n (Prod.fst s_3) (Prod.fst s_3.2) (Prod.snd s_3.2) ∧ Int.toNat ((10 : Int) - Prod.fst s_3) < Int.toNat ((10 : Int) - Prod.fst s_2) ∧ True) ∧ (decide (n < s_2.2.1) = false → (decide (s_2.2.2 < n) = true → ∃ (v : Int), v = IntKind.wrap IntKind.i64 (s_2.2.1 * (128 : Int)) ∧ ∃ (v_1 : Int), v_1 = IntKind.wrap IntKind.i64 (s_2.2.2 * (128 : Int)) ∧ ((-9223372036854775808 : Int) ≤ v_1 + (127 : Int) ∧ v_1 + (127 : Int) ≤ (9223372036854775807 : Int)) ∧ ((-9223372036854775808 : Int) ≤ s_2.1 + (1 : Int) ∧ s_2.1 + (1 : Int) ≤ (9223372036854775807 : Int)) ∧ ∃ (s_3 : Int × Int × Int), n = n ∧ s = s ∧ s_3.2.1 = v ∧ m = m ∧ s_3.1 = s_2.1 + (1 : Int) ∧ s_3.2.2 = v_1 + (127 : Int) ∧ szInv n (Prod.fst s_3) (Prod.fst s_3.2) (Prod.snd s_3.2) ∧ Int.toNat ((10 : Int) - Prod.fst s_3) < Int.toNat ((10 : Int) - Prod.fst s_2) ∧ True) ∧ (decide (s_2.2.2 < n) = false → ∃ (s_3 : Unit), n = n ∧ s = s ∧ m = m ∧ (↑(ByteArray.size (vz n)) : Int) = s_2.1 ∧ True ∧ True))) ∧ (decide (s_2.1 < (10 : Int)) = false → ∃ (s_3 : Unit), n = n ∧ s = s ∧ m = m ∧ (↑(ByteArray.size (vz n)) : Int) = s_2.1 ∧ True ∧ True)) ∧ ∀ (s_2 : Unit), True → (∃ (s_3 : Nat), n = n ∧ s = s ∧ (↑s_3 : Int) = (0 : Int) ∧ m = m ∧ (↑(ByteArray.size (vz n)) : Int) = (↑(ByteArray.size (vz n)) : Int) ∧ IntKind.wrap IntKind.u64 n = IntKind.wrap IntKind.u64 n ∧ s_3 = (0 : Nat) ∧ (↑s_3 : Int) ≤ m ∧ True) ∧ ∀ (s_3 : Nat), (↑s_3 : Int) ≤ m → ((-9223372036854775808 : Int) ≤ m ∧ m ≤ (9223372036854775807 : Int)) ∧ (decide ((↑s_3 : Int) < m) = true → List.length (rowsV GV.cells (List.replicate s_3 (nGV n))) = s_3 * (5 : Nat) ∧ (s_3 + (1 : Nat)) * (80 : Nat) ≤ (140737488355328 : Nat) ∧ ((-9223372036854775808 : Int) ≤ (↑s_3 : Int) + (1 : Int) ∧ (↑s_3 : Int) + (1 : Int) ≤ (9223372036854775807 : Int)) ∧ ∃ (s_4 : Nat), n = n ∧ s = s ∧ (↑s_4 : Int) = (↑s_3 : Int) + (1 : Int) ∧ m = m ∧ (↑(ByteArray.size (vz n)) : Int) = (↑(ByteArray.size (vz n)) : Int) ∧ rowsV GV.cells (List.replicate s_4 (nGV n)) = rowsV GV.cells (List.replicate s_3 (nGV n)) ++ [Value.int IntKind.u64 (IntKind.wrap IntKind.u64 n), Value.string (mkS []), Value.slice noA (0 : Nat) (0 : Nat), Value.slice noA (0 : Nat) (0 : Nat), Value.int IntKind.i64 (0 : Int)] ∧ IntKind.wrap IntKind.u64 n = IntKind.wrap IntKind.u64 n ∧ s_4 = s_3 + (1 : Nat) ∧ (↑s_4 : Int) ≤ m ∧ Int.toNat m - s_4 < Int.toNat m - s_3 ∧ True) ∧ (decide ((↑s_3 : Int) < m) = false → ∀ (b s_4 u : Nat), (∃ (p : Nat → Option Obj), True ∧ cellsP p (Addr.mk b s_4 none) [Value.int IntKind.i64 (4 : Int), Value.string (mkS []), Value.slice noA (0 : Nat) (0 : Nat), Value.int IntKind.i64 (0 : Int), Value.slice noA (0 : Nat) (0 : Nat), Value.bool false, Value.string (mkS []), Value.int IntKind.i64 (0 : Int), Value.slice noA (0 : Nat) (0 : Nat), Value.slice noA (0 : Nat) (0 : Nat), Value.int IntKind.i64 (8 : Int), Value.string (mkS []), Value.slice noA (0 : Nat) (0 : Nat), Value.int IntKind.i64 (0 : Int), Value.slice noA (0 : Nat) (0 : Nat), Value.bool false, Value.string (mkS []), Value.int IntKind.i64 (0 : Int), Value.slice noA (0 : Nat) (0 : Nat), Value.slice noA (0 : Nat) (0 : Nat), Value.int IntKind.i64 (12 : Int), Value.string (mkS []), Value.slice noA (0 : Nat) (0 : Nat), Value.int IntKind.i64 (0 : Int), Value.slice noA (0 : Nat) (0 : Nat), Value.bool false, Value.string (mkS []), Value.int IntKind.i64 (0 : Int), Value.slice noA (0 : Nat) (0 : Nat), Value.slice noA (0 : Nat) (0 : Nat)]) → ∃ (s_5 : FtS), Prod.fst s_5.2.1 = some (Addr.mk b (s_4 + (0 : Nat)) none) ∧ Prod.fst (Prod.snd s_5.2.1) = (3 : Nat) ∧ Prod.snd (Prod.snd s_5.2.1) = (3 : Nat) ∧ s_5.2.2.1 = (0 : Int) ∧ GV.n s_5.2.2.2 = IntKind.wrap IntKind.u64 n ∧ GV.s s_5.2.2.2 = mkS [] ∧ Prod.fst (GV.x s_5.2.2.2) = noA ∧ Prod.fst (Prod.snd (GV.x s_5.2.2.2)) = (0 : Nat) ∧ Prod.snd (Prod.snd (GV.x s_5.2.2.2)) = (0 : Nat) ∧ Prod.fst (GV.y s_5.2.2.2) = noA ∧ Prod.fst (Prod.snd (GV.y s_5.2.2.2)) = (0 : Nat) ∧ Prod.snd (Prod.snd (GV.y s_5.2.2.2)) = (0 : Nat) ∧ GV.b s_5.2.2.2 = (0 : Int) ∧ (small (Prod.fst s_5) ∧ PV.sm (GV.pv (Prod.snd s_5.2.2)) ∧ PV.wt (GV.pv (Prod.snd s_5.2.2)) < (900000000 : Nat)) ∧ (∀ (p : Nat → Option Obj), (True ∧ ∀ (j : Nat) (v : Value), [Value.int IntKind.i64 (4 : Int), Value.string (mkS []), Value.slice noA (0 : Nat) (0 : Nat), Value.int IntKind.i64 (0 : Int), Value.slice noA (0 : Nat) (0 : Nat), Value.bool false, Value.string (mkS []), Value.int IntKind.i64 (0 : Int), Value.slice noA (0 : Nat) (0 : Nat), Value.slice noA (0 : Nat) (0 : Nat), Value.int IntKind.i64 (8 : Int), Value.string (mkS []), Value.slice noA (0 : Nat) (0 : Nat), Value.int IntKind.i64 (0 : Int), Value.slice noA (0 : Nat) (0 : Nat), Value.bool false, Value.string (mkS []), Value.int IntKind.i64 (0 : Int), Value.slice noA (0 : Nat) (0 : Nat), Value.slice noA (0 : Nat) (0 : Nat), Value.int IntKind.i64 (12 : Int), Value.string (mkS []), Value.slice noA (0 : Nat) (0 : Nat), Value.int IntKind.i64 (0 : Int), Value.slice noA (0 : Nat) (0 : Nat), Value.bool false, Value.string (mkS []), Value.int IntKind.i64 (0 : Int), Value.slice noA (0 : Nat) (0 : Nat), Value.slice noA (0 : Nat) (0 : Nat)][j]? = some v → cellP p (Addr.add (Addr.mk b s_4 none) j) = some v) → schP s_5.1 s_5.2.1 p ∧ GV.ok s_5.2.2.2 p) ∧ ∀ (b_1 : Unit), True → ∀ (a : Option Addr) (n_1 c : Nat), (∃ (p : Nat → Option Obj), (True ∧ ∀ (j : Nat) (v : Value), [Value.int IntKind.i64 (4 : Int), Value.string (mkS []), Value.slice noA (0 : Nat) (0 : Nat), Value.int IntKind.i64 (0 : Int), Value.slice noA (0 : Nat) (0 : Nat), Value.bool false, Value.string (mkS []), Value.int IntKind.i64 (0 : Int), Value.slice noA (0 : Nat) (0 : Nat), Value.slice noA (0 : Nat) (0 : Nat), Value.int IntKind.i64 (8 : Int), Value.string (mkS []), Value.slice noA (0 : Nat) (0 : Nat), Value.int IntKind.i64 (0 : Int), Value.slice noA (0 : Nat) (0 : Nat), Value.bool false, Value.string (mkS []), Value.int IntKind.i64 (0 : Int), Value.slice noA (0 : Nat) (0 : Nat), Value.slice noA (0 : Nat) (0 : Nat), Value.int IntKind.i64 (12 : Int), Value.string (mkS []), Value.slice noA (0 : Nat) (0 : Nat), Value.int IntKind.i64 (0 : Int), Value.slice noA (0 : Nat) (0 : Nat), Value.bool false, Value.string (mkS []), Value.int IntKind.i64 (0 : Int), Value.slice noA (0 : Nat) (0 : Nat), Value.slice noA (0 : Nat) (0 : Nat)][j]? = some v → cellP p (Addr.add (Addr.mk b s_4 none) j) = some v) ∧ n_1 = ByteArray.size (Prod.snd (encR s_5.1 s_5.2.2.1 (GV.pv s_5.2.2.2))) ∧ sliP p a n_1 c (bcells (Prod.snd (encR s_5.1 s_5.2.2.1 (GV.pv s_5.2.2.2))))) → ∃ (s_6 : FtS), Prod.fst s_6.2.1 = some (Addr.mk b (s_4 + (0 : Nat)) none) ∧ Prod.fst (Prod.snd s_6.2.1) = (3 : Nat) ∧ Prod.snd (Prod.snd s_6.2.1) = (3 : Nat) ∧ s_6.2.2.1 = (1 : Int) ∧ GV.n s_6.2.2.2 = (0 : Int) ∧ GV.s s_6.2.2.2 = s ∧ Prod.fst (GV.x s_6.2.2.2) = noA ∧ Prod.fst (Prod.snd (GV.x s_6.2.2.2)) = (0 : Nat) ∧ Prod.snd (Prod.snd (GV.x s_6.2.2.2)) = (0 : Nat) ∧ Prod.fst (GV.y s_6.2.2.2) = noA ∧ Prod.fst (Prod.snd (GV.y s_6.2.2.2)) = (0 : Nat) ∧ Prod.snd (Prod.snd (GV.y s_6.2.2.2)) = (0 : Nat) ∧ GV.b s_6.2.2.2 = (0 : Int) ∧ (small (Prod.fst s_6) ∧ PV.sm (GV.pv (Prod.snd s_6.2.2)) ∧ PV.wt (GV.pv (Prod.snd s_6.2.2)) < (900000000 : Nat)) ∧ (∀ (p : Nat → Option Obj), (True ∧ ∀ (j : Nat) (v : Value), [Value.int IntKind.i64 (4 : Int), Value.string (mkS []), Value.slice noA (0 : Nat) (0 : Nat), Value.int IntKind.i64 (0 : Int), Value.slice noA (0 : Nat) (0 : Nat), Value.bool false, Value.string (mkS []), Value.int IntKind.i64 (0 : Int), Value.slice noA (0 : Nat) (0 : Nat), Value.slice noA (0 : Nat) (0 : Nat), Value.int IntKind.i64 (8 : Int), Value.string (mkS []), Value.slice noA (0 : Nat) (0 : Nat), Value.int IntKind.i64 (0 : Int), Value.slice noA (0 : Nat) (0 : Nat), Value.bool false, Value.string (mkS []), Value.int IntKind.i64 (0 : Int), Value.slice noA (0 : Nat) (0 : Nat), Value.slice noA (0 : Nat) (0 : Nat), Value.int IntKind.i64 (12 : Int), Value.string (mkS []), Value.slice noA (0 : Nat) (0 : Nat), Value.int IntKind.i64 (0 : Int), Value.slice noA (0 : Nat) (0 : Nat), Value.bool false, Value.string (mkS []), Value.int IntKind.i64 (0 : Int), Value.slice noA (0 : Nat) (0 : Nat), Value.slice noA (0 : Nat) (0 : Nat)][j]? = some v → cellP p (Addr.add (Addr.mk b s_4 none) j) = some v) ∧ n_1 = ByteArray.size (Prod.snd (encR s_5.1 s_5.2.2.1 (GV.pv s_5.2.2.2))) ∧ sliP p a n_1 c (bcells (Prod.snd (encR s_5.1 s_5.2.2.1 (GV.pv s_5.2.2.2)))) → schP s_6.1 s_6.2.1 p ∧ GV.ok s_6.2.2.2 p) ∧ ∀ (b_2 : Unit), True → ∀ (a_3 : Option Addr) (n_2 c_1 : Nat), (∃ (p : Nat → Option Obj), ((True ∧ ∀ (j : Nat) (v : Value), [Value.int IntKind.i64 (4 : Int), Value.string (mkS []), Value.slice noA (0 : Nat) (0 : Nat), Value.int IntKind.i64 (0 : Int), Value.slice noA (0 : Nat) (0 : Nat), Value.bool false, Value.string (mkS []), Value.int IntKind.i64 (0 : Int), Value.slice noA (0 : Nat) (0 : Nat), Value.slice noA (0 : Nat) (0 : Nat), Value.int IntKind.i64 (8 : Int), Value.string (mkS []), Value.slice noA (0 : Nat) (0 : Nat), Value.int IntKind.i64 (0 : Int), Value.slice noA (0 : Nat) (0 : Nat), Value.bool false, Value.string (mkS []), Value.int IntKind.i64 (0 : Int), Value.slice noA (0 : Nat) (0 : Nat), Value.slice noA (0 : Nat) (0 : Nat), Value.int IntKind.i64 (12 : Int), Value.string (mkS []), Value.slice noA (0 : Nat) (0 : Nat), Value.int IntKind.i64 (0 : Int), Value.slice noA (0 : Nat) (0 : Nat), Value.bool false, Value.string (mkS []), Value.int IntKind.i64 (0 : Int), Value.slice noA (0 : Nat) (0 : Nat), Value.slice noA (0 : Nat) (0 : Nat)][j]? = some v → cellP p (Addr.add (Addr.mk b s_4 none) j) = some v) ∧ n_1 = ByteArray.size (Prod.snd (encR s_5.1 s_5.2.2.1 (GV.pv s_5.2.2.2))) ∧ sliP p a n_1 c (bcells (Prod.snd (encR s_5.1 s_5.2.2.1 (GV.pv s_5.2.2.2))))) ∧ n_2 = ByteArray.size (Prod.snd (encR s_6.1 s_6.2.2.1 (GV.pv s_6.2.2.2))) ∧ sliP p a_3 n_2 c_1 (bcells (Prod.snd (encR s_6.1 s_6.2.2.1 (GV.pv s_6.2.2.2))))) → ∀ (b_3 s_7 u : Nat) (a_5 : Option Addr) (n_3 c_2 : Nat), (∃ (p : Nat → Option Obj), (((True ∧ ∀ (j : Nat) (v : Value), [Value.int IntKind.i64 (4 : Int), Value.string (mkS []), Value.slice noA (0 : Nat) (0 : Nat), Value.int IntKind.i64 (0 : Int), Value.slice noA (0 : Nat) (0 : Nat), Value.bool false, Value.string (mkS []), Value.int IntKind.i64 (0 : Int), Value.slice noA (0 : Nat) (0 : Nat), Value.slice noA (0 : Nat) (0 : Nat), Value.int IntKind.i64 (8 : Int), Value.string (mkS []), Value.slice noA (0 : Nat) (0 : Nat), Value.int IntKind.i64 (0 : Int), Value.slice noA (0 : Nat) (0 : Nat), Value.bool false, Value.string (mkS []), Value.int IntKind.i64 (0 : Int), Value.slice noA (0 : Nat) (0 : Nat), Value.slice noA (0 : Nat) (0 : Nat), Value.int IntKind.i64 (12 : Int), Value.string (mkS []), Value.slice noA (0 : Nat) (0 : Nat), Value.int IntKind.i64 (0 : Int), Value.slice noA (0 : Nat) (0 : Nat), Value.bool false, Value.string (mkS []), Value.int IntKind.i64 (0 : Int), Value.slice noA (0 : Nat) (0 : Nat), Value.slice noA (0 : Nat) (0 : Nat)][j]? = some v → cellP p (Addr.add (Addr.mk b s_4 none) j) = some v) ∧ n_1 = ByteArray.size (Prod.snd (encR s_5.1 s_5.2.2.1 (GV.pv s_5.2.2.2))) ∧ sliP p a n_1 c (bcells (Prod.snd (encR s_5.1 s_5.2.2.1 (GV.pv s_5.2.2.2))))) ∧ n_2 = ByteArray.size (Prod.snd (encR s_6.1 s_6.2.2.1 (GV.pv s_6.2.2.2))) ∧ sliP p a_3 n_2 c_1 (bcells (Prod.snd (encR s_6.1 s_6.2.2.1 (GV.pv s_6.2.2.2))))) ∧ s_3 ≤ c_2 ∧ rowP p a_5 (List.take (s_3 * (5 : Nat)) (rowsV GV.cells (List.replicate s_3 (nGV n))))) → ∃ (s_8 : FtS), Prod.fst s_8.2.1 = some (Addr.mk b (s_4 + (0 : Nat)) none) ∧ Prod.fst (Prod.snd s_8.2.1) = (3 : Nat) ∧ Prod.snd (Prod.snd s_8.2.1) = (3 : Nat) ∧ s_8.2.2.1 = (2 : Int) ∧ GV.n s_8.2.2.2 = (0 : Int) ∧ GV.s s_8.2.2.2 = mkS [] ∧ Prod.fst (GV.x s_8.2.2.2) = a_5 ∧ Prod.fst (Prod.snd (GV.x s_8.2.2.2)) = s_3 ∧ Prod.snd (Prod.snd (GV.x s_8.2.2.2)) = c_2 ∧ Prod.fst (GV.y s_8.2.2.2) = noA ∧ Prod.fst (Prod.snd (GV.y s_8.2.2.2)) = (0 : Nat) ∧ Prod.snd (Prod.snd (GV.y s_8.2.2.2)) = (0 : Nat) ∧ GV.b s_8.2.2.2 = (0 : Int) ∧ (small (Prod.fst s_8) ∧ PV.sm (GV.pv (Prod.snd s_8.2.2)) ∧ PV.wt (GV.pv (Prod.snd s_8.2.2)) < (900000000 : Nat)) ∧ (∀ (p : Nat → Option Obj), (((True ∧ ∀ (j : Nat) (v : Value), [Value.int IntKind.i64 (4 : Int), Value.string (mkS []), Value.slice noA (0 : Nat) (0 : Nat), Value.int IntKind.i64 (0 : Int), Value.slice noA (0 : Nat) (0 : Nat), Value.bool false, Value.string (mkS []), Value.int IntKind.i64 (0 : Int), Value.slice noA (0 : Nat) (0 : Nat), Value.slice noA (0 : Nat) (0 : Nat), Value.int IntKind.i64 (8 : Int), Value.string (mkS []), Value.slice noA (0 : Nat) (0 : Nat), Value.int IntKind.i64 (0 : Int), Value.slice noA (0 : Nat) (0 : Nat), Value.bool false, Value.string (mkS []), Value.int IntKind.i64 (0 : Int), Value.slice noA (0 : Nat) (0 : Nat), Value.slice noA (0 : Nat) (0 : Nat), Value.int IntKind.i64 (12 : Int), Value.string (mkS []), Value.slice noA (0 : Nat) (0 : Nat), Value.int IntKind.i64 (0 : Int), Value.slice noA (0 : Nat) (0 : Nat), Value.bool false, Value.string (mkS []), Value.int IntKind.i64 (0 : Int), Value.slice noA (0 : Nat) (0 : Nat), Value.slice noA (0 : Nat) (0 : Nat)][j]? = some v → cellP p (Addr.add (Addr.mk b s_4 none) j) = some v) ∧ n_1 = ByteArray.size (Prod.snd (encR s_5.1 s_5.2.2.1 (GV.pv s_5.2.2.2))) ∧ sliP p a n_1 c (bcells (Prod.snd (encR s_5.1 s_5.2.2.1 (GV.pv s_5.2.2.2))))) ∧ n_2 = ByteArray.size (Prod.snd (encR s_6.1 s_6.2.2.1 (GV.pv s_6.2.2.2))) ∧ sliP p a_3 n_2 c_1 (bcells (Prod.snd (encR s_6.1 s_6.2.2.1 (GV.pv s_6.2.2.2))))) ∧ s_3 ≤ c_2 ∧ rowP p a_5 (List.take (s_3 * (5 : Nat)) (rowsV GV.cells (List.replicate s_3 (nGV n)))) → schP s_8.1 s_8.2.1 p ∧ GV.ok s_8.2.2.2 p) ∧ ∀ (b_4 : Unit), True → ∀ (a_8 : Option Addr) (n_4 c_3 : Nat), (∃ (p : Nat → Option Obj), ((((True ∧ ∀ (j : Nat) (v : Value), [Value.int IntKind.i64 (4 : Int), Value.string (mkS []), Value.slice noA (0 : Nat) (0 : Nat), Value.int IntKind.i64 (0 : Int), Value.slice noA (0 : Nat) (0 : Nat), Value.bool false, Value.string (mkS []), Value.int IntKind.i64 (0 : Int), Value.slice noA (0 : Nat) (0 : Nat), Value.slice noA (0 : Nat) (0 : Nat), Value.int IntKind.i64 (8 : Int), Value.string (mkS []), Value.slice noA (0 : Nat) (0 : Nat), Value.int IntKind.i64 (0 : Int), Value.slice noA (0 : Nat) (0 : Nat), Value.bool false, Value.string (mkS []), Value.int IntKind.i64 (0 : Int), Value.slice noA (0 : Nat) (0 : Nat), Value.slice noA (0 : Nat) (0 : Nat), Value.int IntKind.i64 (12 : Int), Value.string (mkS []), Value.slice noA (0 : Nat) (0 : Nat), Value.int IntKind.i64 (0 : Int), Value.slice noA (0 : Nat) (0 : Nat), Value.bool false, Value.string (mkS []), Value.int IntKind.i64 (0 : Int), Value.slice noA (0 : Nat) (0 : Nat), Value.slice noA (0 : Nat) (0 : Nat)][j]? = some v → cellP p (Addr.add (Addr.mk b s_4 none) j) = some v) ∧ n_1 = ByteArray.size (Prod.snd (encR s_5.1 s_5.2.2.1 (GV.pv s_5.2.2.2))) ∧ sliP p a n_1 c (bcells (Prod.snd (encR s_5.1 s_5.2.2.1 (GV.pv s_5.2.2.2))))) ∧ n_2 = ByteArray.size (Prod.snd (encR s_6.1 s_6.2.2.1 (GV.pv s_6.2.2.2))) ∧ sliP p a_3 n_2 c_1 (bcells (Prod.snd (encR s_6.1 s_6.2.2.1 (GV.pv s_6.2.2.2))))) ∧ s_3 ≤ c_2 ∧ rowP p a_5 (List.take (s_3 * (5 : Nat)) (rowsV GV.cells (List.replicate s_3 (nGV n))))) ∧ n_4 = ByteArray.size (Prod.snd (encR s_8.1 s_8.2.2.1 (GV.pv s_8.2.2.2))) ∧ sliP p a_8 n_4 c_3 (bcells (Prod.snd (encR s_8.1 s_8.2.2.1 (GV.pv s_8.2.2.2))))) → (decide ((64 : Int) ≤ (↑(ByteArray.size s) : Int)) = true → ((-9223372036854775808 : Int) ≤ m ∧ m ≤ (9223372036854775807 : Int)) ∧ ∃ (v : Int), v = IntKind.wrap IntKind.i64 (m * (↑(ByteArray.size (vz n)) : Int)) ∧ ((-9223372036854775808 : Int) ≤ (1 : Int) + v ∧ (1 : Int) + v ≤ (9223372036854775807 : Int)) ∧ (decide ((0 : Int) < m) = true → ((-9223372036854775808 : Int) ≤ (1 : Int) + v + (1 : Int) ∧ (1 : Int) + v + (1 : Int) ≤ (9223372036854775807 : Int)) ∧ (decide ((64 : Int) ≤ m) = true → ((-9223372036854775808 : Int) ≤ (1 : Int) + v + (1 : Int) + (1 : Int) ∧ (1 : Int) + v + (1 : Int) + (1 : Int) ≤ (9223372036854775807 : Int)) ∧ (decide (Prod.fst (encR s_5.1 s_5.2.2.1 (GV.pv s_5.2.2.2)) = (0 : Int)) = true → (decide ((↑n_1 : Int) = (↑(ByteArray.size (vz n)) : Int)) = true → (decide (Prod.fst (encR s_6.1 s_6.2.2.1 (GV.pv s_6.2.2.2)) = (0 : Int)) = true → ((-9223372036854775808 : Int) ≤ (2 : Int) + (↑(ByteArray.size s) : Int) ∧ (2 : Int) + (↑(ByteArray.size s) : Int) ≤ (9223372036854775807 : Int)) ∧ (decide ((↑n_2 : Int) = (2 : Int) + (↑(ByteArray.size s) : Int)) = true → (decide (Prod.fst (encR s_8.1 s_8.2.2.1 (GV.pv s_8.2.2.2)) = (0 : Int)) = true → true = decide ((↑n_4 : Int) = (1 : Int) + v + (1 : Int) + (1 : Int)) ∧ True) ∧ (decide (Prod.fst (encR s_8.1 s_8.2.2.1 (GV.pv s_8.2.2.2)) = (0 : Int)) = false → true = false ∧ True)) ∧ (decide ((↑n_2 : Int) = (2 : Int) + (↑(ByteArray.size s) : Int)) = false → true = false ∧ True)) ∧ (decide (Prod.fst (encR s_6.1 s_6.2.2.1 (GV.pv s_6.2.2.2)) = (0 : Int)) = false → true = false ∧ True)) ∧ (decide ((↑n_1 : Int) = (↑(ByteArray.size (vz n)) : Int)) = false → true = false ∧ True)) ∧ (decide (Prod.fst (encR s_5.1 s_5.2.2.1 (GV.pv s_5.2.2.2)) = (0 : Int)) = false → true = false ∧ True)) ∧ (decide ((64 : Int) ≤ m) = false → (decide (Prod.fst (encR s_5.1 s_5.2.2.1 (GV.pv s_5.2.2.2)) = (0 : Int)) = true → (decide ((↑n_1 : Int) = (↑(ByteArray.size (vz n)) : Int)) = true → (decide (Prod.fst (encR s_6.1 s_6.2.2.1 (GV.pv s_6.2.2.2)) = (0 : Int)) = true → ((-9223372036854775808 : Int) ≤ (2 : Int) + (↑(ByteArray.size s) : Int) ∧ (2 : Int) + (↑(ByteArray.size s) : Int) ≤ (9223372036854775807 : Int)) ∧ (decide ((↑n_2 : Int) = (2 : Int) + (↑(ByteArray.size s) : Int)) = true → (decide (Prod.fst (encR s_8.1 s_8.2.2.1 (GV.pv s_8.2.2.2)) = (0 : Int)) = true → true = decide ((↑n_4 : Int) = (1 : Int) + v + (1 : Int)) ∧ True) ∧ (decide (Prod.fst (encR s_8.1 s_8.2.2.1 (GV.pv s_8.2.2.2)) = (0 : Int)) = false → true = false ∧ True)) ∧ (decide ((↑n_2 : Int) = (2 : Int) + (↑(ByteArray.size s) : Int)) = false → true = false ∧ True)) ∧ (decide (Prod.fst (encR s_6.1 s_6.2.2.1 (GV.pv s_6.2.2.2)) = (0 : Int)) = false → true = false ∧ True)) ∧ (decide ((↑n_1 : Int) = (↑(ByteArray.size (vz n)) : Int)) = false → true = false ∧ True)) ∧ (decide (Prod.fst (encR s_5.1 s_5.2.2.1 (GV.pv s_5.2.2.2)) = (0 : Int)) = false → true = false ∧ True))) ∧ (decide ((0 : Int) < m) = false → (decide ((64 : Int) ≤ m) = true → ((-9223372036854775808 : Int) ≤ (1 : Int) + v + (1 : Int) ∧ (1 : Int) + v + (1 : Int) ≤ (9223372036854775807 : Int)) ∧ (decide (Prod.fst (encR s_5.1 s_5.2.2.1 (GV.pv s_5.2.2.2)) = (0 : Int)) = true → (decide ((↑n_1 : Int) = (↑(ByteArray.size (vz n)) : Int)) = true → (decide (Prod.fst (encR s_6.1 s_6.2.2.1 (GV.pv s_6.2.2.2)) = (0 : Int)) = true → ((-9223372036854775808 : Int) ≤ (2 : Int) + (↑(ByteArray.size s) : Int) ∧ (2 : Int) + (↑(ByteArray.size s) : Int) ≤ (9223372036854775807 : Int)) ∧ (decide ((↑n_2 : Int) = (2 : Int) + (↑(ByteArray.size s) : Int)) = true → (decide (Prod.fst (encR s_8.1 s_8.2.2.1 (GV.pv s_8.2.2.2)) = (0 : Int)) = true → true = decide ((↑n_4 : Int) = (1 : Int) + v + (1 : Int)) ∧ True) ∧ (decide (Prod.fst (encR s_8.1 s_8.2.2.1 (GV.pv s_8.2.2.2)) = (0 : Int)) = false → true = false ∧ True)) ∧ (decide ((↑n_2 : Int) = (2 : Int) + (↑(ByteArray.size s) : Int)) = false → true = false ∧ True)) ∧ (decide (Prod.fst (encR s_6.1 s_6.2.2.1 (GV.pv s_6.2.2.2)) = (0 : Int)) = false → true = false ∧ True)) ∧ (decide ((↑n_1 : Int) = (↑(ByteArray.size (vz n)) : Int)) = false → true = false ∧ True)) ∧ (decide (Prod.fst (encR s_5.1 s_5.2.2.1 (GV.pv s_5.2.2.2)) = (0 : Int)) = false → true = false ∧ True)) ∧ (decide ((64 : Int) ≤ m) = false → (decide (Prod.fst (encR s_5.1 s_5.2.2.1 (GV.pv s_5.2.2.2)) = (0 : Int)) = true → (decide ((↑n_1 : Int) = (↑(ByteArray.size (vz n)) : Int)) = true → (decide (Prod.fst (encR s_6.1 s_6.2.2.1 (GV.pv s_6.2.2.2)) = (0 : Int)) = true → ((-9223372036854775808 : Int) ≤ (2 : Int) + (↑(ByteArray.size s) : Int) ∧ (2 : Int) + (↑(ByteArray.size s) : Int) ≤ (9223372036854775807 : Int)) ∧ (decide ((↑n_2 : Int) = (2 : Int) + (↑(ByteArray.size s) : Int)) = true → (decide (Prod.fst (encR s_8.1 s_8.2.2.1 (GV.pv s_8.2.2.2)) = (0 : Int)) = true → true = decide ((↑n_4 : Int) = (1 : Int) + v) ∧ True) ∧ (decide (Prod.fst (encR s_8.1 s_8.2.2.1 (GV.pv s_8.2.2.2)) = (0 : Int)) = false → true = false ∧ True)) ∧ (decide ((↑n_2 : Int) = (2 : Int) + (↑(ByteArray.size s) : Int)) = false → true = false ∧ True)) ∧ (decide (Prod.fst (encR s_6.1 s_6.2.2.1 (GV.pv s_6.2.2.2)) = (0 : Int)) = false → true = false ∧ True)) ∧ (decide ((↑n_1 : Int) = (↑(ByteArray.size (vz n)) : Int)) = false → true = false ∧ True)) ∧ (decide (Prod.fst (encR s_5.1 s_5.2.2.1 (GV.pv s_5.2.2.2)) = (0 : Int)) = false → true = false ∧ True)))) ∧ (decide ((64 : Int) ≤ (↑(ByteArray.size s) : Int)) = false → ((-9223372036854775808 : Int) ≤ m ∧ m ≤ (9223372036854775807 : Int)) ∧ ∃ (v : Int), v = IntKind.wrap IntKind.i64 (m * (↑(ByteArray.size (vz n)) : Int)) ∧ ((-9223372036854775808 : Int) ≤ (1 : Int) + v ∧ (1 : Int) + v ≤ (9223372036854775807 : Int)) ∧ (decide ((0 : Int) < m) = true → ((-9223372036854775808 : Int) ≤ (1 : Int) + v + (1 : Int) ∧ (1 : Int) + v + (1 : Int) ≤ (9223372036854775807 : Int)) ∧ (decide ((64 : Int) ≤ m) = true → ((-9223372036854775808 : Int) ≤ (1 : Int) + v + (1 : Int) + (1 : Int) ∧ (1 : Int) + v + (1 : Int) + (1 : Int) ≤ (9223372036854775807 : Int)) ∧ (decide (Prod.fst (encR s_5.1 s_5.2.2.1 (GV.pv s_5.2.2.2)) = (0 : Int)) = true → (decide ((↑n_1 : Int) = (↑(ByteArray.size (vz n)) : Int)) = true → (decide (Prod.fst (encR s_6.1 s_6.2.2.1 (GV.pv s_6.2.2.2)) = (0 : Int)) = true → ((-9223372036854775808 : Int) ≤ (1 : Int) + (↑(ByteArray.size s) : Int) ∧ (1 : Int) + (↑(ByteArray.size s) : Int) ≤ (9223372036854775807 : Int)) ∧ (decide ((↑n_2 : Int) = (1 : Int) + (↑(ByteArray.size s) : Int)) = true → (decide (Prod.fst (encR s_8.1 s_8.2.2.1 (GV.pv s_8.2.2.2)) = (0 : Int)) = true → true = decide ((↑n_4 : Int) = (1 : Int) + v + (1 : Int) + (1 : Int)) ∧ True) ∧ (decide (Prod.fst (encR s_8.1 s_8.2.2.1 (GV.pv s_8.2.2.2)) = (0 : Int)) = false → true = false ∧ True)) ∧ (decide ((↑n_2 : Int) = (1 : Int) + (↑(ByteArray.size s) : Int)) = false → true = false ∧ True)) ∧ (decide (Prod.fst (encR s_6.1 s_6.2.2.1 (GV.pv s_6.2.2.2)) = (0 : Int)) = false → true = false ∧ True)) ∧ (decide ((↑n_1 : Int) = (↑(ByteArray.size (vz n)) : Int)) = false → true = false ∧ True)) ∧ (decide (Prod.fst (encR s_5.1 s_5.2.2.1 (GV.pv s_5.2.2.2)) = (0 : Int)) = false → true = false ∧ True)) ∧ (decide ((64 : Int) ≤ m) = false → (decide (Prod.fst (encR s_5.1 s_5.2.2.1 (GV.pv s_5.2.2.2)) = (0 : Int)) = true → (decide ((↑n_1 : Int) = (↑(ByteArray.size (vz n)) : Int)) = true → (decide (Prod.fst (encR s_6.1 s_6.2.2.1 (GV.pv s_6.2.2.2)) = (0 : Int)) = true → ((-9223372036854775808 : Int) ≤ (1 : Int) + (↑(ByteArray.size s) : Int) ∧ (1 : Int) + (↑(ByteArray.size s) : Int) ≤ (9223372036854775807 : Int)) ∧ (decide ((↑n_2 : Int) = (1 : Int) + (↑(ByteArray.size s) : Int)) = true → (decide (Prod.fst (encR s_8.1 s_8.2.2.1 (GV.pv s_8.2.2.2)) = (0 : Int)) = true → true = decide ((↑n_4 : Int) = (1 : Int) + v + (1 : Int)) ∧ True) ∧ (decide (Prod.fst (encR s_8.1 s_8.2.2.1 (GV.pv s_8.2.2.2)) = (0 : Int)) = false → true = false ∧ True)) ∧ (decide ((↑n_2 : Int) = (1 : Int) + (↑(ByteArray.size s) : Int)) = false → true = false ∧ True)) ∧ (decide (Prod.fst (encR s_6.1 s_6.2.2.1 (GV.pv s_6.2.2.2)) = (0 : Int)) = false → true = false ∧ True)) ∧ (decide ((↑n_1 : Int) = (↑(ByteArray.size (vz n)) : Int)) = false → true = false ∧ True)) ∧ (decide (Prod.fst (encR s_5.1 s_5.2.2.1 (GV.pv s_5.2.2.2)) = (0 : Int)) = false → true = false ∧ True))) ∧ (decide ((0 : Int) < m) = false → (decide ((64 : Int) ≤ m) = true → ((-9223372036854775808 : Int) ≤ (1 : Int) + v + (1 : Int) ∧ (1 : Int) + v + (1 : Int) ≤ (9223372036854775807 : Int)) ∧ (decide (Prod.fst (encR s_5.1 s_5.2.2.1 (GV.pv s_5.2.2.2)) = (0 : Int)) = true → (decide ((↑n_1 : Int) = (↑(ByteArray.size (vz n)) : Int)) = true → (decide (Prod.fst (encR s_6.1 s_6.2.2.1 (GV.pv s_6.2.2.2)) = (0 : Int)) = true → ((-9223372036854775808 : Int) ≤ (1 : Int) + (↑(ByteArray.size s) : Int) ∧ (1 : Int) + (↑(ByteArray.size s) : Int) ≤ (9223372036854775807 : Int)) ∧ (decide ((↑n_2 : Int) = (1 : Int) + (↑(ByteArray.size s) : Int)) = true → (decide (Prod.fst (encR s_8.1 s_8.2.2.1 (GV.pv s_8.2.2.2)) = (0 : Int)) = true → true = decide ((↑n_4 : Int) = (1 : Int) + v + (1 : Int)) ∧ True) ∧ (decide (Prod.fst (encR s_8.1 s_8.2.2.1 (GV.pv s_8.2.2.2)) = (0 : Int)) = false → true = false ∧ True)) ∧ (decide ((↑n_2 : Int) = (1 : Int) + (↑(ByteArray.size s) : Int)) = false → true = false ∧ True)) ∧ (decide (Prod.fst (encR s_6.1 s_6.2.2.1 (GV.pv s_6.2.2.2)) = (0 : Int)) = false → true = false ∧ True)) ∧ (decide ((↑n_1 : Int) = (↑(ByteArray.size (vz n)) : Int)) = false → true = false ∧ True)) ∧ (decide (Prod.fst (encR s_5.1 s_5.2.2.1 (GV.pv s_5.2.2.2)) = (0 : Int)) = false → true = false ∧ True)) ∧ (decide ((64 : Int) ≤ m) = false → (decide (Prod.fst (encR s_5.1 s_5.2.2.1 (GV.pv s_5.2.2.2)) = (0 : Int)) = true → (decide ((↑n_1 : Int) = (↑(ByteArray.size (vz n)) : Int)) = true → (decide (Prod.fst (encR s_6.1 s_6.2.2.1 (GV.pv s_6.2.2.2)) = (0 : Int)) = true → ((-9223372036854775808 : Int) ≤ (1 : Int) + (↑(ByteArray.size s) : Int) ∧ (1 : Int) + (↑(ByteArray.size s) : Int) ≤ (9223372036854775807 : Int)) ∧ (decide ((↑n_2 : Int) = (1 : Int) + (↑(ByteArray.size s) : Int)) = true → (decide (Prod.fst (encR s_8.1 s_8.2.2.1 (GV.pv s_8.2.2.2)) = (0 : Int)) = true → true = decide ((↑n_4 : Int) = (1 : Int) + v) ∧ True) ∧ (decide (Prod.fst (encR s_8.1 s_8.2.2.1 (GV.pv s_8.2.2.2)) = (0 : Int)) = false → true = false ∧ True)) ∧ (decide ((↑n_2 : Int) = (1 : Int) + (↑(ByteArray.size s) : Int)) = false → true = false ∧ True)) ∧ (decide (Prod.fst (encR s_6.1 s_6.2.2.1 (GV.pv s_6.2.2.2)) = (0 : Int)) = false → true = false ∧ True)) ∧ (decide ((↑n_1 : Int) = (↑(ByteArray.size (vz n)) : Int)) = false → true = false ∧ True)) ∧ (decide (Prod.fst (encR s_5.1 s_5.2.2.1 (GV.pv s_5.2.2.2)) = (0 : Int)) = false → true = false ∧ True)))))))) := by kernel_rfl
open Go.Proofs.Ytabfjgbidbibgaa.Rv in
theorem venc_least : ∀ (j v : Nat), 128 ^ j ≤ v → j + 1 ≤ (venc v).length
  | 0, v, h => venc_pos v
  | j + 1, v, h => by
    have hv : 128 ≤ v := Nat.le_trans (by rw [Nat.pow_succ]; have := Nat.pow_pos (n := j) (show 0 < 128 by decide); omega) h
    rw [venc_ge hv]
    have := venc_least j (v / 128) (by rw [Nat.le_div_iff_mul_le (by decide), ← Nat.pow_succ]; exact h)
    simp; omega
theorem vz_len (n : Int) : (vz n).size = (Go.Proofs.Ytabfjgbidbibgaa.Rv.venc (zg n)).length := by simp [vz, ByteArray.size]
theorem zg_fit (n : Int) (k : Nat) : (-64 * (128 : Int) ^ k ≤ n ∧ n ≤ 64 * (128 : Int) ^ k - 1) ↔ zg n < 128 ^ (k + 1) := by
  have e : ((128 ^ k : Nat) : Int) = (128 : Int) ^ k := by norm_cast
  rw [← e, Nat.pow_succ]
  generalize 128 ^ k = q
  unfold zg
  split <;> omega
/-- A size that is the least with room. -/
theorem vz_is (n : Int) (h1 : -9223372036854775808 ≤ n) (h2 : n < 9223372036854775808) (k lo hi : Int) (h : szInv n k lo hi) (hk : ¬ (k < 10 ∧ (n < lo ∨ hi < n))) : (vz n).size = k := by
  obtain ⟨k1, k10, hb, hno⟩ := h
  obtain ⟨j, rfl⟩ : ∃ j : Nat, k = j + 1 := ⟨(k - 1).toNat, by omega⟩
  have ej : ((j : Int) + 1 - 1).toNat = j := by omega
  rw [ej] at hb
  rw [vz_len]
  have lower : j + 1 ≤ (Go.Proofs.Ytabfjgbidbibgaa.Rv.venc (zg n)).length := by
    cases j with
    | zero => exact Go.Proofs.Ytabfjgbidbibgaa.Rv.venc_pos _
    | succ i =>
      refine venc_least (i + 1) _ ?_
      have := hno (i + 1) (by omega) (by omega)
      rw [show i + 1 - 1 = i by omega] at this
      have hz := zg_fit n i
      by_cases hlt : zg n < 128 ^ (i + 1)
      · have := hz.2 hlt; omega
      · omega
  have upper : (Go.Proofs.Ytabfjgbidbibgaa.Rv.venc (zg n)).length ≤ j + 1 := by
    by_cases h10 : j + 1 = 10
    · rw [h10]; exact Go.Proofs.Ytabfjgbidbibgaa.Rv.venc_ten _ (zg_lt h1 h2)
    · obtain ⟨b1, b2⟩ := hb (by omega)
      refine Go.Proofs.Ytabfjgbidbibgaa.Rv.venc_len j _ ((zg_fit n j).1 ?_)
      omega
  omega
theorem vz_small (m : Nat) (h : m < 64) : (vz (m : Int)).size = 1 := by
  have a := (zg_fit (m : Int) 0).1 (by rw [show (128 : Int) ^ 0 = 1 from rfl]; omega)
  rw [vz_len]
  have := Go.Proofs.Ytabfjgbidbibgaa.Rv.venc_len 0 _ a
  have := Go.Proofs.Ytabfjgbidbibgaa.Rv.venc_pos (zg (m : Int))
  omega
theorem vz_two (m : Nat) (h0 : 64 ≤ m) (h : m < 8192) : (vz (m : Int)).size = 2 := by
  have a := (zg_fit (m : Int) 1).1 (by rw [show (128 : Int) ^ 1 = 128 from rfl]; omega)
  have b : ¬ zg (m : Int) < 128 ^ (0 + 1) := fun hh => by
    have := (zg_fit (m : Int) 0).2 hh
    rw [show (128 : Int) ^ 0 = 1 from rfl] at this
    omega
  rw [vz_len]
  have := Go.Proofs.Ytabfjgbidbibgaa.Rv.venc_len 1 _ a
  have := venc_least 1 (zg (m : Int)) (by rw [Nat.pow_succ] at b ⊢; omega)
  omega
/-! Three types. -/
noncomputable def tyK (k it : Int) : AT := ⟨k, mkS [], (none, 0, 0), [], it, (none, 0, 0), [], false, mkS [], 0, (none, 0, 0), [], (none, 0, 0), []⟩
noncomputable def S22 : List AT := [tyK 4 0, tyK 8 0, tyK 12 0]
noncomputable def S21 : List AT := [tyK 4 0]
theorem tyK_ok (k it : Int) (p : Pub) : (tyK k it).ok p := ⟨slP_nil, slP_nil, slP_nil, slP_nil, fun f hf => absurd hf (by simp [tyK])⟩
theorem small22 : small S22 := ⟨by decide, fun e he => by simp [S22] at he; rcases he with rfl | rfl | rfl <;> decide⟩
theorem small21 : small S21 := ⟨by decide, fun e he => by simp [S21] at he; rcases he with rfl; decide⟩
theorem sch22 {p : Pub} {b s : Nat} (h : cellsP p ⟨b, s, none⟩ (rowsV AT.cells S22)) : schP S22 (some ⟨b, s + 0, none⟩, 3, 3) p :=
  ⟨⟨rfl, Nat.le_refl _, .inr ⟨_, rfl, rfl, h⟩⟩, fun e he => by simp [S22] at he; rcases he with rfl | rfl | rfl <;> exact tyK_ok _ _ _⟩
theorem sch21 {p : Pub} {b s : Nat} (h : cellsP p ⟨b, s, none⟩ (rowsV AT.cells S21)) : schP S21 (some ⟨b, s + 0, none⟩, 1, 1) p :=
  ⟨⟨rfl, Nat.le_refl _, .inr ⟨_, rfl, rfl, h⟩⟩, fun e he => by simp [S21] at he; rcases he with rfl; exact tyK_ok _ _ _⟩
/-! The three values. -/
noncomputable def sGV (s : ByteArray) : GV := .mk 0 s (none, 0, 0) [] (none, 0, 0) [] 0
noncomputable def lGV (n : Int) (i : Nat) (x : SV) : GV := .mk 0 (mkS []) x (List.replicate i (nGV n)) (none, 0, 0) [] 0
theorem nGV_ok (n : Int) (p : Pub) : (nGV n).ok p := by
  unfold nGV GV.ok GV.oks; exact ⟨slP_nil, slP_nil, trivial⟩
theorem sGV_ok (s : ByteArray) (p : Pub) : (sGV s).ok p := by
  unfold sGV GV.ok GV.oks; exact ⟨slP_nil, slP_nil, trivial⟩
theorem oks_rep (n : Int) (p : Pub) : ∀ i, GV.oks (List.replicate i (nGV n)) p
  | 0 => by unfold GV.oks; trivial
  | i + 1 => by rw [List.replicate_succ]; unfold GV.oks; exact ⟨nGV_ok n p, oks_rep n p i⟩
theorem lGV_ok {n : Int} {i : Nat} {x : SV} {p : Pub} (h : slP GV.cells x (List.replicate i (nGV n)) p) : (lGV n i x).ok p := by
  unfold lGV GV.ok; exact ⟨h, slP_nil, oks_rep n p i⟩
noncomputable def nPV (n : Int) : PV := .mk (n % 18446744073709551616) (mkS []) [] [] 0
theorem nGV_pv (n : Int) : (nGV n).pv = nPV n := by unfold nGV; rw [GV.pv, GV.pvs]; rfl
theorem pvs_rep (n : Int) : ∀ i, GV.pvs (List.replicate i (nGV n)) = List.replicate i (nPV n)
  | 0 => by rw [List.replicate_zero, GV.pvs]; rfl
  | i + 1 => by rw [List.replicate_succ, GV.pvs, pvs_rep n i, nGV_pv]; rfl
theorem lGV_pv (n : Int) (i : Nat) (x : SV) : (lGV n i x).pv = .mk 0 (mkS []) (List.replicate i (nPV n)) [] 0 := by unfold lGV; rw [GV.pv, pvs_rep]
theorem sGV_pv (s : ByteArray) : (sGV s).pv = .mk 0 s [] [] 0 := by unfold sGV; rw [GV.pv, GV.pvs]
theorem nPV_sm (n : Int) : (nPV n).sm := by
  unfold nPV PV.sm PV.sms
  exact ⟨⟨by omega, by omega⟩, by decide, by decide, by decide, fun k h => by simp at h, trivial⟩
theorem sms_rep (n : Int) : ∀ i, PV.sms (List.replicate i (nPV n))
  | 0 => by unfold PV.sms; trivial
  | i + 1 => by rw [List.replicate_succ]; unfold PV.sms; exact ⟨nPV_sm n, sms_rep n i⟩
theorem nPV_wt (n : Int) : (nPV n).wt = 30 := by unfold nPV; rw [PV.wt, PV.wts]; rfl
theorem wts_rep (n : Int) : ∀ i, PV.wts (List.replicate i (nPV n)) = 30 * i
  | 0 => by rw [List.replicate_zero, PV.wts]
  | i + 1 => by rw [List.replicate_succ, PV.wts, wts_rep n i, nPV_wt]; omega
theorem fit_n (S : List AT) (n t : Int) (h0 : 0 ≤ t) (h1 : t < S.length) (hs : S[t.toNat]? = some (tyK 4 0)) : PV.fits S t (nPV n) = true := by
  unfold nPV
  rw [PV.fits, if_neg (by omega), hs]
  rfl
theorem wrap_mod (n : Int) (h1 : -9223372036854775808 ≤ n) (h2 : n < 9223372036854775808) : IntKind.wrap .i64 (n % 18446744073709551616) = n := wrap_i64u n h1 h2
theorem enc_n (S : List AT) (n t : Int) (B : ByteArray) (h1 : -9223372036854775808 ≤ n) (h2 : n < 9223372036854775808) (hs : S[t.toNat]? = some (tyK 4 0)) : PV.enc S t (nPV n) B = (decide ((B ++ vz n).size ≤ 5000), B ++ vz n) := by
  unfold nPV
  rw [PV.enc, hs]
  simp only [tyK]
  rw [if_neg (by decide), if_pos (by decide), wrap_mod n h1 h2]
  simp only [Bool.true_and]
theorem lo_step : ∀ j : Nat, j < 9 → IntKind.wrap .i64 (-64 * (128 : Int) ^ j * 128) = (if j = 8 then 0 else -64 * (128 : Int) ^ (j + 1)) := by decide +kernel
theorem hi_step : ∀ j : Nat, j < 9 → IntKind.wrap .i64 ((64 * (128 : Int) ^ j - 1) * 128) = (if j = 8 then -128 else 64 * (128 : Int) ^ (j + 1) - 128) := by decide +kernel
theorem hi_rng : ∀ j : Nat, j < 8 → 64 * (128 : Int) ^ (j + 1) ≤ 4611686018427387904 ∧ 0 ≤ 64 * (128 : Int) ^ (j + 1) := by decide +kernel
theorem sz_step {n k lo hi : Int} (h : szInv n k lo hi) (hk : k < 10) (hn : n < lo ∨ hi < n) : szInv n (k + 1) (IntKind.wrap .i64 (lo * 128)) (IntKind.wrap .i64 (hi * 128) + 127) ∧ -9223372036854775808 ≤ IntKind.wrap .i64 (hi * 128) + 127 ∧ IntKind.wrap .i64 (hi * 128) + 127 ≤ 9223372036854775807 := by
  obtain ⟨k1, k10, hb, hno⟩ := h
  obtain ⟨e1, e2⟩ := hb hk
  obtain ⟨j, rfl⟩ : ∃ j : Nat, k = j + 1 := ⟨(k - 1).toNat, by omega⟩
  have ej : ((j : Int) + 1 - 1).toNat = j := by omega
  have ej2 : ((j : Int) + 1 + 1 - 1).toNat = j + 1 := by omega
  rw [ej] at e1 e2
  subst e1 e2
  have l1 := lo_step j (by omega)
  have l2 := hi_step j (by omega)
  rw [l1, l2]
  refine ⟨⟨by omega, by omega, fun h => ?_, fun i hi1 hi2 => ?_⟩, ?_⟩
  · rw [ej2, if_neg (by omega), if_neg (by omega)]; exact ⟨rfl, by omega⟩
  · by_cases hj : (i : Int) < j + 1
    · exact hno i hi1 hj
    · obtain rfl : i = j + 1 := by omega
      rw [show j + 1 - 1 = j by omega]; exact hn
  · by_cases h8 : j = 8
    · rw [if_pos h8]; omega
    · rw [if_neg h8]; have := hi_rng j (by omega); omega
theorem sz_first (n : Int) : szInv n 1 (-64) 63 := ⟨by omega, by omega, fun _ => ⟨by decide, by decide⟩, fun j h1 h2 => by omega⟩
theorem encR_n (n : Int) (h1 : -9223372036854775808 ≤ n) (h2 : n < 9223372036854775808) (S : List AT) (hs : S[0]? = some (tyK 4 0)) (hl : 0 < S.length) : encR S 0 (nPV n) = (0, mkS [] ++ vz n) := by
  have hz := vz_size n h1 h2
  unfold encR
  rw [if_neg (by omega), if_neg (by rw [fit_n S n 0 (by omega) (by omega) hs]; decide), enc_n S n 0 (mkS []) h1 h2 hs, decide_eq_true (by rw [ae_size]; show 0 + _ ≤ _; omega)]
  rfl
theorem encR_s (s : ByteArray) (hv : vld s = true) (hs : s.size ≤ 100) : encR S22 1 (.mk 0 s [] [] 0) = (0, mkS [] ++ vz s.size ++ s) := by
  have hz := vz_size (s.size : Int) (by omega) (by omega)
  have hf : PV.fits S22 1 (.mk 0 s [] [] 0) = true := by
    rw [PV.fits, if_neg (by decide)]
    show (if isN 8 = true then _ else if isT 8 = true then okT (tyK 8 0) s && decide ((0 : Int) = 0) && noPt 0 0 0 else _) = true
    rw [if_neg (by decide), if_pos (by decide)]
    unfold okT
    rw [if_pos (by rfl), hv]; rfl
  have he : PV.enc S22 1 (.mk 0 s [] [] 0) (mkS []) = (decide ((mkS [] ++ vz s.size ++ s).size ≤ 5000), mkS [] ++ vz s.size ++ s) := by
    have hb : encB S22 (tyK 8 0) (sGV s) (mkS []) = (true, mkS [] ++ vz s.size ++ s) := by
      unfold encB
      rw [if_neg (by decide), if_neg (by decide), if_neg (by decide), if_neg (by decide), if_pos (by decide)]
      rfl
    rw [← sGV_pv s, enc_eq (a := tyK 8 0) rfl, hb]
    simp only [Bool.true_and]
  unfold encR
  rw [if_neg (by decide), if_neg (by rw [hf]; decide), he, decide_eq_true (by rw [ae_size, ae_size]; show 0 + _ + _ ≤ _; omega)]
  rfl
theorem encL_rep (S : List AT) (n : Int) (h1 : -9223372036854775808 ≤ n) (h2 : n < 9223372036854775808) (hs : S[(0 : Int).toNat]? = some (tyK 4 0)) : ∀ (m i : Nat) (B : ByteArray), B.size + m * (vz n).size ≤ 5000 → (PV.encL S (fun _ => 0) [] i (List.replicate m (nPV n)) B).1 = true ∧ (PV.encL S (fun _ => 0) [] i (List.replicate m (nPV n)) B).2.size = B.size + m * (vz n).size
  | 0, i, B, h => by rw [List.replicate_zero, PV.encL]; exact ⟨rfl, by simp⟩
  | m + 1, i, B, h => by
    have hm : (m + 1) * (vz n).size = m * (vz n).size + (vz n).size := Nat.succ_mul _ _
    rw [List.replicate_succ, PV.encL, keyB_nil, ae_app_nil, enc_n S n 0 B h1 h2 hs, decide_eq_true (by rw [ae_size]; omega)]
    simp only [if_true]
    obtain ⟨a, b⟩ := encL_rep S n h1 h2 hs m (i + 1) (B ++ vz n) (by rw [ae_size]; omega)
    exact ⟨a, by rw [b, ae_size]; omega⟩
theorem fitL_rep (S : List AT) (n : Int) (hl : 0 < S.length) (hs : S[(0 : Int).toNat]? = some (tyK 4 0)) : ∀ (m i : Nat), PV.fitL S (fun _ => 0) i (List.replicate m (nPV n)) = true
  | 0, i => by rw [List.replicate_zero, PV.fitL]
  | m + 1, i => by rw [List.replicate_succ, PV.fitL, fit_n S n 0 (by omega) (by omega) hs, fitL_rep S n hl hs m (i + 1)]; rfl
theorem ty12 : tyOf (tyK 12 0) 0 = fun _ => 0 := by
  funext i; unfold tyOf; rw [if_neg (by decide), if_neg (by decide)]; rfl
theorem encR_l (n : Int) (h1 : -9223372036854775808 ≤ n) (h2 : n < 9223372036854775808) (m : Nat) (hm : m < 256) : ∃ X, encR S22 2 (.mk 0 (mkS []) (List.replicate m (nPV n)) [] 0) = (0, X) ∧ X.size = (if 0 < m then (vz (m : Nat)).size else 0) + m * (vz n).size + 1 := by
  have hz := vz_size n h1 h2
  have hzm := vz_size (m : Int) (by omega) (by omega)
  have hmz : m * (vz n).size ≤ 2550 := Nat.le_trans (Nat.mul_le_mul_left _ hz) (by omega)
  have hf : PV.fits S22 2 (.mk 0 (mkS []) (List.replicate m (nPV n)) [] 0) = true := by
    rw [PV.fits, if_neg (by decide)]
    show (if isN 12 = true then _ else if isT 12 = true then _ else if isQ 12 = true then okP (tyK 12 0) (List.replicate m (nPV n)).length [] 0 && PV.fitL S22 (tyOf (tyK 12 0) 0) 0 (List.replicate m (nPV n)) && decide ((0 : Int) = 0) && decide ((mkS []).size = 0) else _) = true
    rw [if_neg (by decide), if_neg (by decide), if_pos (by decide), ty12, fitL_rep S22 n (by decide) rfl]
    rfl
  obtain ⟨a, b⟩ := encL_rep S22 n h1 h2 rfl m 0 (if 0 < m then mkS [] ++ vz (m : Nat) else mkS []) (by
    split
    · rw [ae_size]; show 0 + _ + _ ≤ _; omega
    · show 0 + _ ≤ _; omega)
  generalize hq : PV.encL S22 (fun _ => 0) [] 0 (List.replicate m (nPV n)) (if 0 < m then mkS [] ++ vz (m : Nat) else mkS []) = q at a b
  have he : PV.enc S22 2 (.mk 0 (mkS []) (List.replicate m (nPV n)) [] 0) (mkS []) = (decide ((q.2 ++ vz 0).size ≤ 5000), q.2 ++ vz 0) := by
    have hl : (lGV n m (none, 0, 0)).l = List.replicate m (nGV n) := rfl
    have hb : encB S22 (tyK 12 0) (lGV n m (none, 0, 0)) (mkS []) = (true, q.2 ++ vz 0) := by
      unfold encB
      rw [if_neg (by decide), if_neg (by decide), if_neg (by decide), if_neg (by decide), if_neg (by decide), if_neg (by decide), if_neg (by decide), if_neg (by decide), if_pos (by decide)]
      unfold enB
      rw [hl, pvs_rep, List.length_replicate]
      have hb2 : blB m (mkS []) = if 0 < m then mkS [] ++ vz (m : Nat) else mkS [] := rfl
      have ht : tyOf (tyK 12 0) (lGV n m (none, 0, 0)).b = fun _ => 0 := ty12
      have hk : (lGV n m (none, 0, 0)).ks = [] := rfl
      rw [hb2, ht, hk, hq]
      simp only [a, if_true]
    rw [← lGV_pv n m (none, 0, 0), enc_eq (a := tyK 12 0) rfl, hb]
    simp only [Bool.true_and]
  have hz0 : (vz 0).size = 1 := vz_small 0 (by decide)
  have hbz : q.2.size = (if 0 < m then (vz (m : Nat)).size else 0) + m * (vz n).size := by
    rw [b]
    split
    · rw [ae_size]; show 0 + _ + _ = _; omega
    · rfl
  refine ⟨q.2 ++ vz 0, ?_, by rw [ae_size, hbz, hz0]⟩
  unfold encR
  rw [if_neg (by decide), if_neg (by rw [hf]; decide), he, decide_eq_true (by rw [ae_size, hbz, hz0]; split <;> omega)]
  rfl
end Go.Proofs.Ytabfjgbidbibgaa.Wd
