/-
  What the functions do: contracts, and their questions answered. No condition but what its theorems ask.
-/
import Derived.Test.YtabfjgbidbibgaaT4
namespace Go.Proofs.Ytabfjgbidbibgaa.Wd
open Go.Proofs.Ytabfjgbidbibgaa.Eng Go.Proofs.Ytabfjgbidbibgaa.Sen Go.RowKit
set_option linter.unusedVariables false
set_option linter.unusedSimpArgs false
set_option maxRecDepth 1000000
theorem sPV_sm (s : ByteArray) (h : s.size < 1000) : (sGV s).pv.sm := by
  rw [sGV_pv]; unfold PV.sm PV.sms
  exact ⟨⟨by omega, by omega⟩, by omega, by decide, by decide, fun k h => by simp at h, trivial⟩
theorem sPV_wt (s : ByteArray) (h : s.size < 1000) : (sGV s).pv.wt < 900000000 := by
  rw [sGV_pv, PV.wt, kzs, PV.wts]; omega
theorem lPV_sm (n : Int) (i : Nat) (x : SV) (h : i < 1000) : (lGV n i x).pv.sm := by
  rw [lGV_pv]; unfold PV.sm
  exact ⟨⟨by omega, by omega⟩, by decide, by rw [List.length_replicate]; omega, by decide, fun k h => by simp at h, sms_rep n i⟩
theorem lPV_wt (n : Int) (i : Nat) (x : SV) (h : i < 1000) : (lGV n i x).pv.wt < 900000000 := by
  rw [lGV_pv, PV.wt, kzs, wts_rep]; show 30 + 0 + 0 + 30 * i < _; omega
theorem nPV_sm' (n : Int) : (nGV n).pv.sm := by rw [nGV_pv]; exact nPV_sm n
theorem nPV_wt' (n : Int) : (nGV n).pv.wt < 900000000 := by rw [nGV_pv, nPV_wt]; decide
theorem vz_m1 : mkS [] ++ vz (-1) = mkS [1] := by
  have : vz (-1) = mkS [1] := by
    unfold vz
    rw [show zg (-1) = 1 from rfl, Go.Proofs.Ytabfjgbidbibgaa.Rv.venc_lt (by decide)]
    rfl
  rw [this]; rfl
theorem begun22_ok : CtOK P 22 cBegun22 := by
  refine ask_ok mixed (ctTab_ok (forall_tab encode_ok nil_tab)) (W := wBegun22) Go.Proofs.Try.func22 (by kernel_rfl) (by decide) (by decide) (fun s => by kernel_rfl) fun (u : Unit) => (begun22_eq u).mpr ?_
  intro _ b s u _
  have E1 : encR S21 0 (nGV (-1)).pv = (0, mkS [1]) := by rw [nGV_pv, encR_n (-1) (by decide) (by decide) S21 rfl (by decide), vz_m1]
  have E2 : encR S21 1 (sGV (mkS [])).pv = (1, mkS []) := by unfold encR; rw [if_pos (by decide)]
  simp only [decide_eq_true_eq, decide_eq_false_iff_not, Bool.not_eq_true', Bool.not_eq_false', true_and, and_true, eq_self, imp_self, implies_true, exists_const]
  refine ⟨⟨S21, (some ⟨b, s + 0, none⟩, 1, 1), 0, nGV (-1)⟩, rfl, rfl, rfl, rfl, rfl, rfl, rfl, rfl, rfl, rfl, rfl, rfl, rfl, ⟨small21, nPV_sm' _, nPV_wt' _⟩, fun p h => ⟨sch21 h, nGV_ok _ p⟩, ?_⟩
  intro _ _ a n c _
  refine ⟨⟨S21, (some ⟨b, s + 0, none⟩, 1, 1), 1, sGV (mkS [])⟩, rfl, rfl, rfl, rfl, rfl, rfl, rfl, rfl, rfl, rfl, rfl, rfl, rfl, ⟨small21, sPV_sm _ (by decide), sPV_wt _ (by decide)⟩, fun p h => ⟨sch21 h.1, sGV_ok _ p⟩, ?_⟩
  rintro _ _ a3 n1 c1 ⟨p, hp⟩
  rw [E1, E2] at hp
  simp only [E1, E2]
  refine ⟨fun _ => ⟨mkS [1], hp.1.2.1.symm, fun q hq => ?_, fun _ => rfl, fun h => h rfl⟩, fun h => h trivial⟩
  exact hq.1.2.2.2
theorem law22_ok : CtOK P 7 cLaw22 := by
  refine ask_ok mixed (ctTab_ok (forall_tab begun22_ok (forall_tab encode_ok nil_tab))) (W := wLaw22) Go.Proofs.Try.func7 (by kernel_rfl) (by decide) (by decide) (fun s => by kernel_rfl) fun ⟨(n : Int), s, (m : Int)⟩ => (law22_eq n s m).mpr ?_
  rintro ⟨h1, h2, hs, hm0, hm1⟩
  obtain ⟨ns, hns, hv⟩ := runes_vld s
  refine ⟨(), trivial, ?_⟩
  simp only [decide_eq_true_eq, decide_eq_false_iff_not, Bool.not_eq_true', Bool.not_eq_false', true_and, and_true, eq_self, imp_self, implies_true, exists_const]
  refine fun hsz => ⟨by omega, ns, ?_, ?_, fun hr => ⟨⟨⟨⟨1, -64, 63⟩, rfl, rfl, rfl, sz_first n⟩, ?_⟩, ?_⟩⟩
  · show ns.length = (rnL s).length
    rw [hns, List.length_map]
  · show subL (rnL s) 0 _
    rw [hns]; exact fun j v h => by rw [Nat.zero_add]; exact h
  · rintro ⟨k, lo, hi⟩ hI
    simp only at *
    have hk1 : 1 ≤ k := hI.1
    have step : k < 10 → (n < lo ∨ hi < n) → _ := fun hk hn => sz_step hI hk hn
    have fin : ¬ (k < 10 ∧ (n < lo ∨ hi < n)) → ((vz n).size : Int) = k := fun h => vz_is n h1 h2 k lo hi hI h
    refine ⟨fun hk => ⟨fun hn => ?_, fun hn => ⟨fun hn2 => ?_, fun hn2 => fin (by omega)⟩⟩, fun hk => fin (by omega)⟩
    · obtain ⟨q1, q2⟩ := step hk (.inl hn)
      exact ⟨_, rfl, _, rfl, q2, ⟨by omega, by omega⟩, ⟨k + 1, _, _⟩, rfl, rfl, rfl, q1, by show (10 - (k + 1)).toNat < _; omega⟩
    · obtain ⟨q1, q2⟩ := step hk (.inr hn2)
      exact ⟨_, rfl, _, rfl, q2, ⟨by omega, by omega⟩, ⟨k + 1, _, _⟩, rfl, rfl, rfl, q1, by show (10 - (k + 1)).toNat < _; omega⟩
  · intro _ _
    have hvs := hv hr
    refine ⟨⟨0, rfl, rfl, by omega⟩, ?_⟩
    rintro i hi
    refine ⟨⟨by omega, by omega⟩, fun hlt => ⟨?_, by omega, ⟨by omega, by omega⟩, i + 1, by omega, ?_, rfl, by omega, by omega⟩, fun hge => ?_⟩
    · rw [rows_len gv_len, List.length_replicate]
    · rw [List.replicate_succ', rows_app, wrap_u64]; rfl
    · obtain rfl : m = (i : Int) := by omega
      have hi256 : i < 256 := by omega
      have E1 : encR S22 0 (nGV n).pv = (0, mkS [] ++ vz n) := by rw [nGV_pv, encR_n n h1 h2 S22 rfl (by decide)]
      have E2 : encR S22 1 (sGV s).pv = (0, mkS [] ++ vz s.size ++ s) := by rw [sGV_pv, encR_s s hvs (by omega)]
      obtain ⟨X, E3', hX⟩ := encR_l n h1 h2 i hi256
      have E3 : ∀ x, encR S22 2 (lGV n i x).pv = (0, X) := fun x => by rw [lGV_pv, E3']
      intro b s4 u _
      refine ⟨⟨S22, (some ⟨b, s4 + 0, none⟩, 3, 3), 0, nGV n⟩, rfl, rfl, rfl, rfl, (wrap_u64 n).symm, rfl, rfl, rfl, rfl, rfl, rfl, rfl, rfl, ⟨small22, nPV_sm' _, nPV_wt' _⟩, fun p h => ⟨sch22 h, nGV_ok _ p⟩, ?_⟩
      intro _ _ a n1 c _
      refine ⟨⟨S22, (some ⟨b, s4 + 0, none⟩, 3, 3), 1, sGV s⟩, rfl, rfl, rfl, rfl, rfl, rfl, rfl, rfl, rfl, rfl, rfl, rfl, rfl, ⟨small22, sPV_sm _ (by omega), sPV_wt _ (by omega)⟩, fun p h => ⟨sch22 h.1, sGV_ok _ p⟩, ?_⟩
      intro _ _ a3 n2 c1 _ b3 s7 u3 a5 n3 c2 _
      refine ⟨⟨S22, (some ⟨b, s4 + 0, none⟩, 3, 3), 2, lGV n i (a5, i, c2)⟩, rfl, rfl, rfl, rfl, rfl, rfl, rfl, rfl, rfl, rfl, rfl, rfl, rfl, ⟨small22, lPV_sm _ _ _ (by omega), lPV_wt _ _ _ (by omega)⟩, fun p h => ⟨sch22 h.1.1.1, lGV_ok ⟨by rw [List.length_replicate], h.2.1, ?_⟩⟩, ?_⟩
      · have h22 := h.2.2
        rw [List.take_of_length_le (by rw [rows_len gv_len, List.length_replicate]; exact Nat.le_refl _)] at h22
        exact h22
      rintro _ _ a8 n4 c3 ⟨p, hp⟩
      simp only [E1, E2, E3] at hp ⊢
      have g1 := hp.1.1.1.2.1
      have g2 := hp.1.1.2.1
      have g4 := hp.2.1
      clear hp
      have hz := vz_size n h1 h2
      have hw : IntKind.wrap .i64 ((i : Int) * ((vz n).size : Int)) = ((i * (vz n).size : Nat) : Int) := by
        have : i * (vz n).size ≤ 2550 := Nat.le_trans (Nat.mul_le_mul_left _ hz) (by omega)
        rw [← Int.natCast_mul, wrap64 _ (by omega) (by omega)]
      have hq : i * (vz n).size ≤ 2550 := Nat.le_trans (Nat.mul_le_mul_left _ hz) (by omega)
      rw [ae_size] at g1
      rw [ae_size, ae_size] at g2
      have z0 : (mkS []).size = 0 := rfl
      rw [hX] at g4
      have hs1 : (s.size < 64 → (vz (s.size : Int)).size = 1) ∧ (64 ≤ s.size → (vz (s.size : Int)).size = 2) := ⟨fun h => vz_small _ h, fun h => vz_two _ h (by omega)⟩
      have hi1 : (i < 64 → (vz (i : Int)).size = 1) ∧ (64 ≤ i → (vz (i : Int)).size = 2) := ⟨fun h => vz_small _ h, fun h => vz_two _ h (by omega)⟩
      have g5 : (i = 0 → n4 = i * (vz n).size + 1) ∧ (0 < i ∧ i < 64 → n4 = i * (vz n).size + 2) ∧ (64 ≤ i → n4 = i * (vz n).size + 3) := by
        rw [g4]
        refine ⟨fun h => ?_, fun h => ?_, fun h => ?_⟩
        · rw [if_neg (by omega)]; omega
        · rw [if_pos (by omega), hi1.1 h.2]; omega
        · rw [if_pos (by omega), hi1.2 h]; omega
      clear g4 hX E1 E2 E3 E3' hi1 hns hv hr hvs
      generalize i * (vz n).size = q at *
      refine ⟨fun h64 => ⟨⟨by omega, by omega⟩, _, rfl, ?_⟩, fun h64 => ⟨⟨by omega, by omega⟩, _, rfl, ?_⟩⟩ <;> rw [hw]
      all_goals repeat' (first | intro _ | apply And.intro)
      all_goals first | omega | (exfalso; omega) | exact (decide_eq_true (by omega)).symm | skip
theorem law_of {f : Nat} {C : Ct} (h : CtOK P f C) (s : C.σ) (vs : List Value) (ha : C.args s = vs.map .sv) (hh : C.h s = []) (r : Value) (hr : C.r s = .sv r) (w : World) (hp : C.pre s) (hm : (C.mem s).ok (PubF (fun _ b => b < w.heap.size) w)) :
    Calls P f ⟨vs⟩ w fun e w' => e = .returned r ∧ Below w.heap.size w w' := by
  obtain ⟨h1, h2, _, h4⟩ := h
  obtain ⟨h0, h1', e1, e2, h5⟩ := h4 s
  rw [hh] at e1
  cases e1
  refine (h5 (fun _ b => b < w.heap.size) (fun i => if i = 0 then some (0, 0, 0) else none) w vs (by rw [ha]; exact VRs.svs vs) ⟨fun id o b t h => ?_, fun id id' o o' b t t' h => ?_, fun id o b t h => ?_⟩ (fun _ h => h) (fun _ h => h) hp hm (fun i hi => if_neg (by omega)) (if_pos rfl)).mono fun e w' he => ?_
  · rw [T.get_e] at h; cases h
  · rw [T.get_e] at h; cases h
  · rw [T.get_e] at h; cases h
  obtain ⟨z, I', rfl, hz, hg, _⟩ := he
  rw [hr] at hz
  cases hz
  exact ⟨rfl, ⟨hg.same.1, hg.same.2, hg.same.3, hg.size, fun k hk => hg.fr k hk⟩⟩
theorem lit_i64 {a : Int} (h : (Lit.int .i64 a).wf = true) : -9223372036854775808 ≤ a ∧ a < 9223372036854775808 := by
  simp only [Lit.wf, Bool.and_eq_true, decide_eq_true_eq] at h
  have h1 : IntKind.min .i64 = -9223372036854775808 := by decide
  have h2 : IntKind.max .i64 = 9223372036854775807 := by decide
  omega
theorem lit_u8 {a : Int} (h : (Lit.int .u8 a).wf = true) : 0 ≤ a ∧ a < 256 := by
  simp only [Lit.wf, Bool.and_eq_true, decide_eq_true_eq] at h
  have h1 : IntKind.min .u8 = 0 := by decide
  have h2 : IntKind.max .u8 = 255 := by decide
  omega
theorem sizes_law_wf (n : Int) (s : ByteArray) (m : Int) (w : World) (h0 : (Lit.int .i64 n).wf = true) (h1 : s.size ≤ maxLen) (h2 : (Lit.int .u8 m).wf = true) : Calls P 7 #[.int .i64 n, .string s, .int .u8 m] w fun e w' => e = .returned (.bool true) ∧ Below w.heap.size w w' :=
  law_of law22_ok ⟨n, s, m⟩ [.int .i64 n, .string s, .int .u8 m] rfl rfl (.bool true) rfl w ⟨(lit_i64 h0).1, (lit_i64 h0).2, by unfold maxLen at h1; omega, (lit_u8 h2).1, (lit_u8 h2).2⟩ trivial
end Go.Proofs.Ytabfjgbidbibgaa.Wd
