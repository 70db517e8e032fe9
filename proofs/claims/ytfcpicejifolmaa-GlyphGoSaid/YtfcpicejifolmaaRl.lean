/-
  RecLengths: how many bytes a number has. No condition.
-/
import Derived.Test.YtfcpicejifolmaaRn
namespace Go.Proofs.Ytfcpicejifolmaa
open Go.ChangeShapes Go.WideShapes Go.ChangeAt Go.RowKit
namespace Rv
set_option linter.unusedVariables false
theorem ofNat_lt {n : Nat} (h : n < 256) : (UInt8.ofNat n).toNat = n := by rw [UInt8.toNat_ofNat']; omega
theorem pow7_pos (i : Nat) : 0 < 2 ^ (7 * i) := Nat.two_pow_pos _
/-- What is written is read, whatever stands behind. -/
theorem vdec_enc (rest : List UInt8) : ∀ (v i acc : Nat), i ≤ 9 → v * 2 ^ (7 * i) < 18446744073709551616 → vdec (venc v ++ rest) i acc = some (acc + v * 2 ^ (7 * i), i + (venc v).length) := by
  intro v
  induction v using Nat.strongRecOn with
  | _ v ih =>
    intro i acc hi hv
    have nine : i = 9 → v ≤ 1 := fun h => by
      subst h
      have : (2 : Nat) ^ (7 * 9) = 9223372036854775808 := by decide
      rw [this] at hv; omega
    by_cases hlt : v < 128
    · rw [venc_lt hlt, List.cons_append, vdec, ofNat_lt (by omega), if_neg (by omega), if_neg (by omega), if_pos hlt, Nat.mod_eq_of_lt hlt]
      rfl
    · have hc : (UInt8.ofNat (v % 128 + 128)).toNat = v % 128 + 128 := ofNat_lt (by omega)
      have hm : (v % 128 + 128) % 128 = v % 128 := by omega
      rw [venc_ge (by omega), List.cons_append, vdec, hc, hm, if_neg (by omega), if_neg (by omega), if_neg (by omega)]
      have hv2 : v / 128 * 2 ^ (7 * (i + 1)) ≤ v * 2 ^ (7 * i) := by
        rw [pow7, ← Nat.mul_assoc]; exact Nat.mul_le_mul_right _ (by omega)
      rw [ih (v / 128) (by omega) (i + 1) _ (by omega) (by omega)]
      simp only [List.length_cons, Option.some.injEq, Prod.mk.injEq]
      refine ⟨?_, by omega⟩
      rw [pow7, Nat.add_assoc]
      congr 1
      rw [← Nat.mul_assoc, ← Nat.add_mul]
      congr 1; omega
theorem vdec_high : ∀ (l : List UInt8) (i acc : Nat), (∀ c ∈ l, 128 ≤ c.toNat) → vdec l i acc = none
  | [], i, acc, h => rfl
  | c :: r, i, acc, h => by
    have hc := h c (by simp)
    rw [vdec]
    split
    · rfl
    · split
      · rfl
      · rw [if_neg (by omega)]
        exact vdec_high r _ _ fun x hx => h x (by simp [hx])
theorem venc_high : ∀ (v : Nat), ∀ c ∈ (venc v).dropLast, 128 ≤ c.toNat := by
  intro v
  induction v using Nat.strongRecOn with
  | _ v ih =>
    intro c hc
    by_cases hlt : v < 128
    · rw [venc_lt hlt] at hc; simp at hc
    · rw [venc_ge (by omega), List.dropLast_cons_of_ne_nil (fun e => by have := venc_pos (v / 128); rw [e] at this; simp at this)] at hc
      rcases List.mem_cons.1 hc with rfl | hc
      · rw [ofNat_lt (by omega)]; omega
      · exact ih _ (by omega) c hc
def bin (l : List UInt8) : ByteArray := ⟨l.toArray⟩
theorem bin_size (l : List UInt8) : (bin l).size = l.length := by simp [bin, ByteArray.size]
theorem bin_cut (l : List UInt8) (h : 1 ≤ l.length) : ((bin l).extract 0 (l.length - 1)).data.toList = l.dropLast := by
  simp [bin, List.dropLast_eq_take]
theorem bin_more (l : List UInt8) (m : ByteArray) : (bin l ++ m).data.toList = l ++ m.data.toList := by
  simp [bin]
set_option maxHeartbeats 1000000 in
set_option maxRecDepth 20000 in
theorem lengths_law (v : Nat) (m : ByteArray) (w : World) (hs : m.size ≤ maxLen) (hv : v < 18446744073709551616) :
    Calls Try.prog 7 #[.int .u64 v, .string m] w fun e w' => e = .returned (.bool true) ∧ Below w.heap.size w w' := by
  have hs' := hs
  unfold maxLen at hs
  by_cases hl : m.size ≤ 20
  · obtain ⟨W, hW⟩ : ∃ W, W = bin (venc v) := ⟨_, rfl⟩
    obtain ⟨L, hL⟩ : ∃ L, L = (venc v).length := ⟨_, rfl⟩
    have hL1 : 1 ≤ L := by rw [hL]; exact venc_pos v
    have hL2 : L ≤ 10 := by rw [hL]; exact venc_ten v hv
    have hWs : W.size = L := by rw [hW, bin_size, hL]
    have cP := Lib.hid (fun w1 => put_any v w1 hv)
    rw [show (ByteArray.mk (venc v).toArray) = W from hW.symm] at cP
    have cV := Lib.hid (fun w1 => varint_any (W ++ m) w1 (by rw [ByteArray.size_append, hWs]; unfold maxLen; omega))
    rw [show vend (W ++ m).data.toList = .returned (.tuple #[.int .u64 (v : Int), .int .i64 (L : Int), .int .i64 0]) from by
      have := vdec_enc m.data.toList v 0 0 (by omega) (by simpa using hv)
      rw [hW, bin_more, hL]
      refine vend_some ?_
      simpa using this] at cV
    have cN := Lib.hid (fun w1 => varint_any (W.extract 0 (L - 1)) w1 (by rw [ByteArray.size_extract, hWs]; unfold maxLen; omega))
    rw [show vend (W.extract 0 (L - 1)).data.toList = .returned (.tuple #[.int .u64 0, .int .i64 0, .int .i64 2]) from by
      rw [hW, hL, bin_cut _ (venc_pos v)]
      exact vend_none (vdec_high _ _ _ (venc_high v))] at cN
    have HL := Lib.hid hL
    have HV := Lib.hid hv
    clear hv hL hW
    go_enter Try.func7, Try.ntmps7
    go_wp2_with (first | (go_at_call 15; refine (Rf.begun1 _).mono ?_; rintro e w1 ⟨rfl, hb1⟩) | (go_at_call 18; refine (cP.out _).mono ?_; rintro e w2 ⟨rfl, hb2⟩))
    go_loop [6, 7] (fun n x => ∃ j y : Nat, n = .int .i64 j ∧ x = .int .u64 y ∧ y < 18446744073709551616 ∧ j + (venc y).length = L + 1) (fun _ x => (intOf x).toNat)
    case atStart => exact ⟨1, v, rfl, rfl, HV.out, by rw [HL.out]; omega⟩
    case round =>
      obtain ⟨j, y, rfl, rfl, hy, he⟩ := hrel
      have hyp := venc_pos y
      have hj : j ≤ 10 := by omega
      have hyi : (y : Int) ≤ 18446744073709551615 := by omega
      by_cases hlt : 128 ≤ y
      · have hd : decide ((128 : Int) ≤ (y : Int)) = true := by simp; omega
        have HN : Hid (y / 128 < 18446744073709551616 ∧ j + 1 + (venc (y / 128)).length = L + 1) := by
          refine ⟨by omega, ?_⟩
          rw [venc_ge hlt, List.length_cons] at he; omega
        clear he hyp hy
        go_wp2
        go_round
        case rel => exact ⟨j + 1, y / 128, by go_num, by go_num, HN.out.1, HN.out.2⟩
        case measure => simp [intOf]; omega
      · have hd : decide ((128 : Int) ≤ (y : Int)) = false := by simp; omega
        have hjL : j = L := by rw [venc_lt (by omega)] at he; simp at he; omega
        subst hjL
        clear he hyp hy HL
        go_wp2_with (first | (go_at_call 16; ((with_reducible refine (cV.out _).mono ?_); rintro e w' ⟨rfl, rfl⟩)) | (go_at_call 16; ((with_reducible refine (cN.out _).mono ?_); rintro e w' ⟨rfl, rfl⟩)))
        go_ret
        exact ⟨rfl, hb1.trans (hb2.mono hb1.size)⟩
  · go_enter Try.func7, Try.ntmps7
    go_wp2_with (go_at_call 15; refine (Rf.begun1 _).mono ?_; rintro e w1 ⟨rfl, hb1⟩)
    go_ret
    exact ⟨rfl, hb1⟩
theorem lengths_law_wf (a0 : Int) (m : ByteArray) (w : World) (h : (Lit.int .u64 a0).wf = true) (hs : m.size ≤ maxLen) :
    Calls Try.prog 7 #[.int .u64 a0, .string m] w fun e w' => e = .returned (.bool true) ∧ Below w.heap.size w w' := by
  have hb := u64_lt h
  obtain ⟨n, rfl⟩ := Int.eq_ofNat_of_zero_le hb.1
  exact lengths_law n m w hs (by omega)
end Rv
end Go.Proofs.Ytfcpicejifolmaa
