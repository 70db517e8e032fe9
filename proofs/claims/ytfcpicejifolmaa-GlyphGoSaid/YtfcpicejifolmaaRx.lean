/-
  rec's numbers of so many bytes, and its texts; the document's: contracts. No condition but that a text is short.
-/
import Derived.Test.YtfcpicejifolmaaRw
import Derived.IntWalk
namespace Go.Proofs.Ytfcpicejifolmaa
open Go.ChangeShapes Go.WideShapes Go.ChangeAt Go.RowKit
namespace Rv
set_option linter.unusedVariables false
set_option linter.unusedSimpArgs false
/-- What fixed tells. -/
def fend (l : List UInt8) (k : Nat) : Ending := match rfix l k with
  | some (v, n) => .returned (.tuple #[.int .u64 (v : Int), .int .i64 (n : Int), .int .i64 0])
  | none => .returned (.tuple #[.int .u64 0, .int .i64 0, .int .i64 2])
theorem fend_none {l : List UInt8} {k : Nat} (h : l.length < k) : fend l k = .returned (.tuple #[.int .u64 0, .int .i64 0, .int .i64 2]) := by
  unfold fend rfix; rw [if_pos h]
theorem fend_some {l : List UInt8} {k : Nat} (h : ¬ l.length < k) : fend l k = .returned (.tuple #[.int .u64 (leN (l.take k) : Nat), .int .i64 (k : Int), .int .i64 0]) := by
  unfold fend rfix; rw [if_neg h]
theorem pow256 (j : Nat) : (256 : Nat) ^ j = 2 ^ (8 * j) := by rw [Nat.pow_mul]
theorem byte_lt {c acc j : Nat} (hj : j < 8) (hc : c < 256) (ha : acc < 256 ^ j) : acc + c * 256 ^ j < 18446744073709551616 := by
  rcases (show j = 0 ∨ j = 1 ∨ j = 2 ∨ j = 3 ∨ j = 4 ∨ j = 5 ∨ j = 6 ∨ j = 7 by omega) with rfl | rfl | rfl | rfl | rfl | rfl | rfl | rfl <;> simp only [Nat.reducePow] at * <;> omega
theorem or_byte {c acc j : Nat} (hj : j < 8) (hc : c < 256) (ha : acc < 256 ^ j) : bits .or .u64 (acc : Int) (IntKind.u64.wrap ((c : Int) * 2 ^ (8 * j))) = ((acc + c * 256 ^ j : Nat) : Int) := by
  have h1 := byte_lt hj hc ha
  rw [pow256] at h1 ha ⊢
  have e1 : (c : Int) * 2 ^ (8 * j) = ((c * 2 ^ (8 * j) : Nat) : Int) := by simp
  rw [e1, wrap64n _ (by omega), u64_or_nat _ _ (by omega) (by omega)]
  congr 1
  rw [Nat.or_comm, Nat.mul_comm, ← Nat.two_pow_add_eq_or_of_lt ha, Nat.add_comm]
theorem take_at (s : ByteArray) (j : Nat) (h : j < s.size) : s.data.toList.take (j + 1) = s.data.toList.take j ++ [s[j]] := by
  rw [List.take_succ_eq_append_getElem (by simpa using h)]; rfl
theorem len_at (s : ByteArray) (j : Nat) (h : j ≤ s.size) : (s.data.toList.take j).length = j := by
  rw [List.length_take]; simp; omega
theorem leN_at (s : ByteArray) (j : Nat) (h : j < s.size) : leN (s.data.toList.take (j + 1)) = leN (s.data.toList.take j) + s[j].toNat * 256 ^ j := by
  rw [take_at s j h, leN_snoc, len_at s j (by omega)]
theorem leN_at_lt (s : ByteArray) (j : Nat) (h : j ≤ s.size) : leN (s.data.toList.take j) < 256 ^ j := by
  have := leN_lt (s.data.toList.take j)
  rw [len_at s j h] at this; exact this
theorem lt64_of {a j : Nat} (hj : j ≤ 8) (h : a < 256 ^ j) : a < 18446744073709551616 := by
  have h3 : 256 ^ j ≤ 256 ^ 8 := Nat.pow_le_pow_right (by decide) hj
  have h4 : (256 : Nat) ^ 8 = 18446744073709551616 := by decide
  omega
set_option maxHeartbeats 1000000 in
set_option maxRecDepth 20000 in
theorem fixed_any (s : ByteArray) (k : Nat) (w : World) (hk : k ≤ 8) (hs : s.size ≤ 5000) :
    Calls Try.prog 52 #[.string s, .int .i64 (k : Int)] w fun e w' => e = fend s.data.toList k ∧ w = w' := by
  have hl : s.data.toList.length = s.size := by simp
  by_cases hlt : s.size < k
  · have HE := Lib.hid (fend_none (l := s.data.toList) (k := k) (by omega))
    clear hl
    go_enter Try.func52, Try.ntmps52
    go_wp2
    exact bodyPost_ret (v := .tuple #[.int .u64 0, .int .i64 0, .int .i64 2]) (by simp [results, Try.results52, go_sem]) rfl ⟨HE.out.symm, rfl⟩
  · have HE := Lib.hid (fend_some (l := s.data.toList) (k := k) (by omega))
    clear hl
    go_enter Try.func52, Try.ntmps52
    go_wp2
    go_loop [7, 14] (fun v i => ∃ j acc : Nat, j ≤ k ∧ i = .int .i64 j ∧ v = .int .u64 acc ∧ acc = leN (s.data.toList.take j)) (fun _ i => k - (intOf i).toNat)
    case atStart => exact ⟨0, 0, Nat.zero_le _, rfl, rfl, by simp [leN]⟩
    case round =>
      obtain ⟨j, acc, hj, rfl, rfl, ha⟩ := hrel
      by_cases hjk : j < k
      · have hjs : j < s.size := by omega
        have hcb : s[j].toNat < 256 := s[j].toNat_lt
        have hal := leN_at_lt s j (by omega)
        rw [← ha] at hal
        have HO := Lib.hid (or_byte (j := j) (by omega) hcb hal)
        have HN := Lib.hid (leN_at s j hjs)
        have hacc := lt64_of (j := j) (by omega) hal
        have HA := Lib.hid ha
        clear ha hal
        go_wp2
        go_round
        case rel => exact ⟨j + 1, _, hjk, by go_num, congrArg _ HO.out, by rw [HN.out, HA.out]⟩
        case measure => simp [intOf]; omega
      · obtain rfl : j = k := by omega
        have HA := Lib.hid ha
        clear ha
        go_wp2
        exact bodyPost_ret (v := .tuple #[.int .u64 (acc : Int), .int .i64 (j : Int), .int .i64 0]) (by simp [results, Try.results52, go_sem]) rfl ⟨by rw [HE.out, HA.out], rfl⟩
/-- What text tells. -/
def xend (l : List UInt8) : Ending := match rtext l with
  | some (t, n) => .returned (.tuple #[.string (bin t), .int .i64 (n : Int), .int .i64 0])
  | none => .returned (.tuple #[.string (bin []), .int .i64 0, .int .i64 2])
theorem xend_none {l : List UInt8} (h : rtext l = none) : xend l = .returned (.tuple #[.string (bin []), .int .i64 0, .int .i64 2]) := by
  unfold xend; rw [h]
theorem xend_some {l t : List UInt8} {n : Nat} (h : rtext l = some (t, n)) : xend l = .returned (.tuple #[.string (bin t), .int .i64 (n : Int), .int .i64 0]) := by
  unfold xend; rw [h]
theorem cut_at (s : ByteArray) (i j : Nat) : (s.extract i j).data.toList = (s.data.toList.take j).drop i := by
  rw [ByteArray.data_extract, Array.toList_extract, List.extract_eq_take_drop, List.drop_take]
theorem bin_of (s : ByteArray) {l : List UInt8} (h : s.data.toList = l) : s = bin l := by
  apply ByteArray.ext; rw [← Array.toList_inj, h]; simp [bin]
set_option maxHeartbeats 1000000 in
set_option maxRecDepth 20000 in
theorem text_any (s : ByteArray) (w : World) (hs : s.size ≤ 5000) :
    Calls Try.prog 53 #[.string s] w fun e w' => e = xend s.data.toList ∧ w = w' := by
  have hl : s.data.toList.length = s.size := by simp
  have cV := Lib.hid (fun W => varint_any s W (by unfold maxLen; omega))
  cases hv : vdec s.data.toList 0 0 with
  | none =>
    rw [vend_none hv] at cV
    have HE := Lib.hid (xend_none (l := s.data.toList) (by unfold rtext; rw [hv]))
    clear hv hl
    go_enter Try.func53, Try.ntmps53
    go_wp2_with (go_at_call 16; ((with_reducible refine (cV.out _).mono ?_); rintro e w' ⟨rfl, rfl⟩))
    exact bodyPost_ret (v := .tuple #[.string (bin []), .int .i64 0, .int .i64 2]) (by simp [results, Try.results53, go_sem]; rfl) rfl ⟨HE.out.symm, rfl⟩
  | some x =>
    obtain ⟨v, n⟩ := x
    rw [vend_some hv] at cV
    have hb := vdec_bd0 hv
    rw [hl] at hb
    obtain ⟨h1, h2, h3, h4⟩ := hb
    have h5 : (v : Int) ≤ 18446744073709551615 := by omega
    by_cases hg : s.size - n < v
    · have HE := Lib.hid (xend_none (l := s.data.toList) (by unfold rtext; rw [hv]; simp only [hl, if_pos hg]))
      have hd : decide ((s.size : Int) - (n : Int) < (v : Int)) = true := by simp; omega
      clear hv hl
      go_enter Try.func53, Try.ntmps53
      go_wp2_with (go_at_call 16; ((with_reducible refine (cV.out _).mono ?_); rintro e w' ⟨rfl, rfl⟩))
      exact bodyPost_ret (v := .tuple #[.string (bin []), .int .i64 0, .int .i64 2]) (by simp [results, Try.results53, go_sem]; rfl) rfl ⟨HE.out.symm, rfl⟩
    · have hx : (s.extract n (n + v)).data.toList = (s.data.toList.drop n).take v := by
        rw [cut_at, List.drop_take, show n + v - n = v by omega]
      have HE := Lib.hid (xend_some (l := s.data.toList) (t := (s.data.toList.drop n).take v) (n := n + v) (by unfold rtext; rw [hv]; simp only [hl, if_neg hg]))
      have HX := Lib.hid (bin_of _ hx)
      have hd : decide ((s.size : Int) - (n : Int) < (v : Int)) = false := by simp; omega
      have hle : (n : Int) + (v : Int) ≤ (s.size : Int) := by omega
      clear hv hl hx
      go_enter Try.func53, Try.ntmps53
      go_wp2_with (go_at_call 16; ((with_reducible refine (cV.out _).mono ?_); rintro e w' ⟨rfl, rfl⟩))
      refine bodyPost_ret (v := .tuple #[.string (s.extract n (n + v)), .int .i64 ((n : Int) + (v : Int)), .int .i64 0]) (by simp [results, Try.results53, go_sem]; try omega) rfl ⟨by rw [HE.out, HX.out]; rfl, rfl⟩
end Rv
end Go.Proofs.Ytfcpicejifolmaa
