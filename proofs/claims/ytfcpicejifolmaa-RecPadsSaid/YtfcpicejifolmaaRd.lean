/-
  RecPads: a number with groups of noughts behind. No condition.
-/
import Derived.Test.YtfcpicejifolmaaRk
namespace Go.Proofs.Ytfcpicejifolmaa
open Go.ChangeShapes Go.WideShapes Go.ChangeAt Go.RowKit
namespace Rv
set_option linter.unusedVariables false
/-- The number's bytes, each with another behind it. -/
def vhi (v : Nat) : List UInt8 :=
  if h : v < 128 then [UInt8.ofNat (v + 128)] else UInt8.ofNat (v % 128 + 128) :: vhi (v / 128)
termination_by v
decreasing_by omega
theorem vhi_lt {v : Nat} (h : v < 128) : vhi v = [UInt8.ofNat (v + 128)] := by rw [vhi, dif_pos h]
theorem vhi_ge {v : Nat} (h : 128 ≤ v) : vhi v = UInt8.ofNat (v % 128 + 128) :: vhi (v / 128) := by rw [vhi, dif_neg (by omega)]
theorem vhi_len : ∀ v, (vhi v).length = (venc v).length := by
  intro v
  induction v using Nat.strongRecOn with
  | _ v ih =>
    by_cases h : v < 128
    · rw [vhi_lt h, venc_lt h]; rfl
    · rw [vhi_ge (by omega), venc_ge (by omega), List.length_cons, List.length_cons, ih _ (by omega)]
theorem or128b (c : UInt8) : bits .or .u8 (c.toNat : Int) 128 = ((UInt8.ofNat (c.toNat % 128 + 128)).toNat : Int) := by
  have := or128 c.toNat
  rw [show ((c.toNat : Nat) : Int) % 256 = (c.toNat : Int) by have := c.toNat_lt; omega] at this
  exact this
def up (c : UInt8) : UInt8 := UInt8.ofNat (c.toNat % 128 + 128)
/-- A number is its last byte and what stands ahead. -/
theorem venc_split : ∀ v, ∃ q c, venc v = q ++ [c] ∧ vhi v = q ++ [up c] := by
  intro v
  induction v using Nat.strongRecOn with
  | _ v ih =>
    by_cases h : v < 128
    · refine ⟨[], UInt8.ofNat v, venc_lt h, ?_⟩
      rw [vhi_lt h]
      unfold up
      rw [ofNat_lt (by omega), Nat.mod_eq_of_lt h]
      rfl
    · obtain ⟨q, c, h1, h2⟩ := ih (v / 128) (by omega)
      exact ⟨UInt8.ofNat (v % 128 + 128) :: q, c, by rw [venc_ge (by omega), h1]; rfl, by rw [vhi_ge (by omega), h2]; rfl⟩
/-- The row behind j rounds: what stands ahead of its last byte, and that. -/
def Pad (v j : Nat) (q : List UInt8) (c : UInt8) : Prop := (j = 0 ∧ q ++ [c] = venc v ∧ q ++ [up c] = vhi v) ∨ (∃ m, j = m + 1 ∧ q = vhi v ++ List.replicate m 128 ∧ c = 0)
theorem Pad.start (v : Nat) : ∃ q c, Pad v 0 q c := by
  obtain ⟨q, c, h1, h2⟩ := venc_split v
  exact ⟨q, c, .inl ⟨rfl, h1.symm, h2.symm⟩⟩
theorem Pad.next {v j : Nat} {q : List UInt8} {c : UInt8} (h : Pad v j q c) : Pad v (j + 1) (q ++ [up c]) 0 := by
  rcases h with ⟨rfl, h1, h2⟩ | ⟨m, rfl, rfl, rfl⟩
  · exact .inr ⟨0, rfl, by rw [h2]; simp, rfl⟩
  · exact .inr ⟨m + 1, rfl, by rw [List.replicate_succ', ← List.append_assoc]; rfl, rfl⟩
theorem Pad.len {v j : Nat} {q : List UInt8} {c : UInt8} (h : Pad v j q c) : (q ++ [c]).length = (venc v).length + j := by
  rcases h with ⟨rfl, h1, h2⟩ | ⟨m, rfl, rfl, rfl⟩
  · rw [h1]; rfl
  · simp [vhi_len]
    try omega
theorem vdec_hi (rest : List UInt8) : ∀ (v i acc : Nat), i ≤ 9 → v * 2 ^ (7 * i) < 18446744073709551616 → vdec (vhi v ++ rest) i acc = vdec rest (i + (venc v).length) (acc + v * 2 ^ (7 * i)) := by
  intro v
  induction v using Nat.strongRecOn with
  | _ v ih =>
    intro i acc hi hv
    have nine : i = 9 → v ≤ 1 := fun h => by
      subst h
      have : (2 : Nat) ^ (7 * 9) = 9223372036854775808 := by decide
      rw [this] at hv; omega
    by_cases hlt : v < 128
    · have hm : (v + 128) % 128 = v := by omega
      rw [vhi_lt hlt, venc_lt hlt, List.cons_append, vdec, ofNat_lt (by omega), hm, if_neg (by omega), if_neg (by omega), if_neg (by omega)]
      rfl
    · have hc : (UInt8.ofNat (v % 128 + 128)).toNat = v % 128 + 128 := ofNat_lt (by omega)
      have hm : (v % 128 + 128) % 128 = v % 128 := by omega
      rw [vhi_ge (by omega), venc_ge (by omega), List.cons_append, vdec, hc, hm, if_neg (by omega), if_neg (by omega), if_neg (by omega)]
      have hv2 : v / 128 * 2 ^ (7 * (i + 1)) ≤ v * 2 ^ (7 * i) := by
        rw [pow7, ← Nat.mul_assoc]; exact Nat.mul_le_mul_right _ (by omega)
      rw [ih (v / 128) (by omega) (i + 1) _ (by omega) (by omega)]
      congr 1
      · simp; omega
      · rw [pow7, Nat.add_assoc]
        congr 1
        rw [← Nat.mul_assoc, ← Nat.add_mul]
        congr 1; omega
theorem vdec_noughts : ∀ (m i acc : Nat), vdec (List.replicate m 128 ++ [0]) i acc = if i + m < 10 then some (acc, i + m + 1) else none
  | 0, i, acc => by
    by_cases h : i < 10
    · rw [if_pos (by omega)]
      simp only [List.replicate_zero, List.nil_append, vdec]
      rw [if_neg (by omega), if_neg (by simp), if_pos (by decide)]
      simp
    · rw [if_neg (by omega)]; exact vdec_ten _ _ _ (by omega)
  | m + 1, i, acc => by
    by_cases h : i < 10
    · rw [List.replicate_succ, List.cons_append, vdec, if_neg (by omega), if_neg (by simp), if_neg (by decide), vdec_noughts m]
      have : (128 : UInt8).toNat % 128 * 2 ^ (7 * i) = 0 := by
        rw [show (128 : UInt8).toNat % 128 = 0 from rfl, Nat.zero_mul]
      rw [this, Nat.add_zero]
      by_cases h2 : i + 1 + m < 10
      · rw [if_pos h2, if_pos (by omega)]; congr 2; omega
      · rw [if_neg h2, if_neg (by omega)]
    · rw [if_neg (by omega)]; exact vdec_ten _ _ _ (by omega)
theorem Pad.dec {v j : Nat} {q : List UInt8} {c : UInt8} (hv : v < 18446744073709551616) (h : Pad v j q c) : vdec (q ++ [c]) 0 0 = if (venc v).length + j ≤ 10 then some (v, (venc v).length + j) else none := by
  rcases h with ⟨rfl, h1, h2⟩ | ⟨m, rfl, rfl, rfl⟩
  · rw [h1]
    have := vdec_enc [] v 0 0 (by omega) (by simpa using hv)
    rw [List.append_nil] at this
    rw [this, if_pos (by have := venc_ten v hv; omega)]; simp
  · have := vdec_hi (List.replicate m 128 ++ [0]) v 0 0 (by omega) (by simpa using hv)
    rw [List.append_assoc, this, vdec_noughts]
    simp only [Nat.zero_add, Nat.mul_zero, Nat.pow_zero, Nat.mul_one]
    by_cases h2 : (venc v).length + m < 10
    · rw [if_pos h2, if_pos (by omega)]; rfl
    · rw [if_neg h2, if_neg (by omega)]
theorem row_text {P : Program} {W : World} {base e g cap : Nat} {s d el : TypeId} (hs : P.underlying s = some (.slice el)) (hel : P.underlying el = some (.int .u8)) (hd : P.underlying d = some .string) {l : List UInt8} (h : BRow W base e (.slice (some ⟨g, 0, none⟩) l.length cap) l) :
    (convert s d (.slice (some ⟨g, 0, none⟩) l.length cap)).run P W = .ok (.string (bin l)) W := by
  obtain ⟨g', cap', h1, _, _, hB⟩ := h.out
  cases h1
  have := Lib.run_convert_whole (P := P) W s el d hs hel hd g 0 (bin l) hB cap
  rw [bin_size] at this; exact this
theorem or128b' (c : UInt8) : bits .or .u8 (c.toNat : Int) 128 = ((up c).toNat : Int) := or128b c
theorem bytes_below (w : World) (e : TypeId) (s : ByteArray) {B : Nat} (hB : B ≤ w.heap.size) : Below B w (Lib.bytesWorld w e s) := by
  refine ⟨rfl, rfl, rfl, by rw [Lib.bytesWorld_size]; omega, fun k hk => Lib.bytesWorld_at_old w e s k (by omega)⟩
theorem set_last (q : List UInt8) (c x : UInt8) : (q ++ [c]).set q.length x = q ++ [x] := by
  rw [List.set_append_right _ _ (Nat.le_refl _), Nat.sub_self]; rfl
set_option maxHeartbeats 1000000 in
set_option maxRecDepth 20000 in
theorem pads_law (v n : Nat) (w : World) (hv : v < 18446744073709551616) (hn : n < 256) :
    Calls Try.prog 9 #[.int .u64 v, .int .u8 n] w fun e w' => e = .returned (.bool true) ∧ Below w.heap.size w w' := by
  obtain ⟨i0, hi, hz0, hz1, hz2⟩ := info_parts info8
  obtain ⟨W, hW⟩ : ∃ W, W = bin (venc v) := ⟨_, rfl⟩
  obtain ⟨L, hL⟩ : ∃ L, L = (venc v).length := ⟨_, rfl⟩
  have hL1 : 1 ≤ L := by rw [hL]; exact venc_pos v
  have hL2 : L ≤ 10 := by rw [hL]; exact venc_ten v hv
  have hWs : W.size = L := by rw [hW, bin_size, hL]
  have cP := Lib.hid (fun w1 => put_any v w1 hv)
  rw [show (ByteArray.mk (venc v).toArray) = W from hW.symm] at cP
  have HL := Lib.hid hL
  have HV := Lib.hid hv
  have HW := Lib.hid hW
  have hn2 : (n : Int) < 256 := by omega
  have hL0 : ((L : Int) == 0) = false := by rw [beq_eq_false_iff_ne]; omega
  clear hv hL hW
  go_enter Try.func9, Try.ntmps9
  go_wp2_with (first | (go_at_call 15; refine (Rf.begun1 _).mono ?_; rintro e w1 ⟨rfl, hb1⟩) | (go_at_call 18; refine (cP.out _).mono ?_; rintro e w2 ⟨rfl, hb2⟩; have cvA := Lib.run_convert_string_bytes (P := Try.prog) w2 9 44 5 W Try.underlying9 Try.underlying44 Try.underlying5))
  obtain ⟨q0, c0, hp0⟩ := Pad.start v
  have hrow0 : BRow (Lib.bytesWorld w2 5 W) w.heap.size 5 (.slice (some ⟨w2.heap.size, 0, none⟩) L (grownCap w2 L 0 5)) (q0 ++ [c0]) := by
    have h1 := bytes_row w2 5 (venc v) (base := w.heap.size) (Nat.le_trans hb1.size hb2.size)
    rw [← HL.out] at h1
    have h2 : bin (venc v) = W := HW.out.symm
    rw [h2] at h1
    rcases hp0 with ⟨_, h3, _⟩ | ⟨m, h3, _⟩
    · rw [h3]; exact h1
    · omega
  have hbel0 : Below w.heap.size w (Lib.bytesWorld w2 5 W) := (hb1.trans (hb2.mono hb1.size)).trans (bytes_below w2 5 W (Nat.le_trans hb1.size hb2.size))
  have HR0 := Lib.hid hrow0
  have HB0 := Lib.hid hbel0
  have HP0 := Lib.hid hp0
  clear hrow0 hbel0 hp0 cvA hWs
  go_loopw [6, 8] (fun b i wr => ∃ (j : Nat) (q : List UInt8) (c : UInt8), i = .int .i64 j ∧ j ≤ n % 12 ∧ Pad v j q c ∧ BRow wr w.heap.size 5 b (q ++ [c]) ∧ Below w.heap.size w wr) (fun _ i _ => 12 - (intOf i).toNat)
  case atStart => exact ⟨0, q0, c0, rfl, Nat.zero_le _, HP0.out, HR0.out, HB0.out⟩
  case round =>
    obtain ⟨j, q, c, rfl, hj, hp, hr, hb⟩ := hrel
    have hlen := hp.len
    rw [← HL.out] at hlen
    have hql : q.length + 1 = L + j := by simpa using hlen
    obtain ⟨g, cap, hbv, hbg, hcell, _⟩ := hr.out
    have el : (q ++ [c]).length = q.length + 1 := by simp
    rw [el] at hbv
    subst hbv
    obtain ⟨hc, hf⟩ := hcell q.length c (by simp)
    have HP := Lib.hid hp
    have HB := Lib.hid hb
    have hws := hb.size
    clear hlen hcell HR0 HB0 HP0
    by_cases hlt : j < n % 12
    · have hd : (j : Int) < (n : Int) % 12 := by omega
      have hs2 := BRow.set (k := q.length) (c := up c) (by rw [el]; exact hr) (by simp)
      rw [set_last, el, ← or128b'] at hs2
      have HR := Lib.hid hs2
      have hqb : q.length ≤ 30 := by omega
      have HJ : Hid (j + 1 ≤ n % 12) := hlt
      clear hp hb hr hs2 hql el hj hlt
      go_wp2_with (at_builtin; refine wpList_append_row rfl _ _ 44 rfl w.heap.size 5 i0 Try.underlying44 hi hz0 hz1 hz2 _ (q ++ [up c]) rfl (HR.out.alloc _) (by simp; omega) (by simp; omega) 0 ⟨wr.heap.size, 0, none⟩ 1 rfl (by have := one_src (wr.setCell ⟨g, q.length, none⟩ (.int .u8 (bits .or .u8 (c.toNat : Int) 128))) (.int .u8 0) 5 0 _ rfl; simpa [Addr.add] using this) ?_)
      intro v' w' hrow' hgrow
      have HR3 := Lib.hid hrow'
      have HB3 := Lib.hid (((HB.out.setCell hbg _).alloc (by simp; omega) _).grown hgrow (by simp; omega) (fun k hk => by simp [Value.ownBlock] at hk; omega))
      clear hrow' hgrow
      go_wp2
      go_roundw
      case rel => exact ⟨j + 1, q ++ [up c], 0, by go_num, HJ.out, HP.out.next, by rw [List.append_assoc]; exact HR3.out, HB3.out⟩
      case measure => simp [intOf]; omega
    · have hd : (n : Int) % 12 ≤ (j : Int) := by omega
      obtain ⟨S, hS⟩ : ∃ S, S = bin (q ++ [c]) := ⟨_, rfl⟩
      have cvB := row_text (P := Try.prog) (W := wr) Try.underlying44 Try.underlying5 Try.underlying9 (g := g) (cap := cap) (by rw [el]; exact hr)
      rw [el, ← hS] at cvB
      have hSl : S.data.toList = q ++ [c] := by rw [hS]; simp [bin]
      have hdec := hp.dec HV.out
      rw [← hSl, ← HL.out, ← hql] at hdec
      have cV := fun w1 => varint_any S w1 (by rw [hS, bin_size, el]; unfold maxLen; omega)
      have hq30 : q.length ≤ 30 := by omega
      clear hp hb hr hS hSl el hj hlt
      by_cases h10 : q.length + 1 ≤ 10
      · rw [if_pos h10] at hdec
        rw [vend_some hdec] at cV
        have CV := Lib.hid cV
        clear cV hdec hql
        go_wp2_with (go_at_call 16; ((with_reducible refine (CV.out _).mono ?_); rintro e w' ⟨rfl, rfl⟩))
        go_ret
        exact ⟨by simp, HB.out⟩
      · rw [if_neg h10] at hdec
        rw [vend_none hdec] at cV
        have CV := Lib.hid cV
        clear cV hdec hql
        go_wp2_with (go_at_call 16; ((with_reducible refine (CV.out _).mono ?_); rintro e w' ⟨rfl, rfl⟩))
        go_ret
        exact ⟨by simp, HB.out⟩
theorem u8_lt {a : Int} (h : (Lit.int .u8 a).wf = true) : 0 ≤ a ∧ a < 256 := by
  simp [Lit.wf, IntKind.min, IntKind.max, IntKind.signed, IntKind.bits] at h; omega
theorem pads_law_wf (a0 a1 : Int) (w : World) (h0 : (Lit.int .u64 a0).wf = true) (h1 : (Lit.int .u8 a1).wf = true) :
    Calls Try.prog 9 #[.int .u64 a0, .int .u8 a1] w fun e w' => e = .returned (.bool true) ∧ Below w.heap.size w w' := by
  have hb := u64_lt h0
  have hb1 := u8_lt h1
  obtain ⟨n, rfl⟩ := Int.eq_ofNat_of_zero_le hb.1
  obtain ⟨m, rfl⟩ := Int.eq_ofNat_of_zero_le hb1.1
  exact pads_law n m w (by omega) (by omega)
end Rv
end Go.Proofs.Ytfcpicejifolmaa
