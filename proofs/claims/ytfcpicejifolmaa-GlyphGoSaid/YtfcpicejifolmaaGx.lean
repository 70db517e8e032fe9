/-
  glyph.Valid, ended, escaped: contracts. No condition but that a text is short.
-/
import Derived.Test.YtfcpicejifolmaaGv
namespace Go.Proofs.Ytfcpicejifolmaa
open Go.ChangeShapes Go.WideShapes Go.ChangeAt Go.RowKit
namespace Gl
open Mem
set_option linter.unusedVariables false
set_option linter.unusedSimpArgs false
theorem valid_nil : valid [] = true := by rw [valid]; rfl
theorem valid_bad {l : List UInt8} (h : 0 < l.length) (hf : front l = 0) : valid l = false := by
  rw [valid, dif_neg (by intro e; rw [e] at h; simp at h), dif_pos hf]
theorem valid_next {l : List UInt8} (h : 0 < l.length) (hf : front l ≠ 0) : valid l = valid (l.drop (front l)) := by
  rw [valid, dif_neg (by intro e; rw [e] at h; simp at h), dif_neg hf]
theorem rest_at (s : ByteArray) (n : Nat) : (s.extract n s.size).data.toList = s.data.toList.drop n := by
  rw [ByteArray.data_extract, Array.toList_extract, List.extract_eq_take_drop]
  rw [List.take_of_length_le (by simp)]
set_option maxHeartbeats 2000000 in
set_option maxRecDepth 100000 in
theorem Valid_any (s : ByteArray) (w : World) (hs : s.size ≤ 1000) :
    Calls Try.prog 30 #[.string s] w fun e w' => e = .returned (.bool (valid s.data.toList)) ∧ w = w' := by
  go_enter Try.func30, Try.ntmps30
  go_wp2
  go_loop [0] (fun x => ∃ t : ByteArray, x = .string t ∧ t.size ≤ 1000 ∧ valid s.data.toList = valid t.data.toList) (fun x => match x with | .string t => t.size | _ => 0)
  case atStart => exact ⟨s, rfl, hs, rfl⟩
  case round =>
    obtain ⟨t, rfl, ht, hv⟩ := hrel
    have hl : t.data.toList.length = t.size := by simp
    have HV := Lib.hid hv
    clear hv
    by_cases h0 : 0 < t.size
    · have cF := Lib.hid (fun W => front_any t W h0 ht)
      have hle := front_le t.data.toList
      rw [hl] at hle
      by_cases hf : front t.data.toList = 0
      · rw [hf] at cF
        have HE := Lib.hid (HV.out.trans (valid_bad (by omega) hf))
        clear hf hl hle
        go_wp2_with (go_at_call 45; ((with_reducible refine (cF.out _).mono ?_); rintro e w' ⟨rfl, rfl⟩))
        go_ret
        exact ⟨by rw [HE.out]; rfl, rfl⟩
      · have hn := valid_next (l := t.data.toList) (by omega) hf
        obtain ⟨f, hff⟩ : ∃ f, f = front t.data.toList := ⟨_, rfl⟩
        rw [← hff] at cF hle hf hn
        rw [← rest_at] at hn
        have HN := Lib.hid (HV.out.trans hn)
        have hb : ((f : Int) == 0) = false := by rw [beq_eq_false_iff_ne]; omega
        clear hff hl hn
        go_wp2_with (go_at_call 45; ((with_reducible refine (cF.out _).mono ?_); rintro e w' ⟨rfl, rfl⟩))
        go_round
        case rel => exact ⟨t.extract f t.size, rfl, by rw [ByteArray.size_extract]; omega, HN.out⟩
        case measure => simp only [ByteArray.size_extract]; omega
    · have ht0 : t.data.toList = [] := List.length_eq_zero_iff.1 (by omega)
      have hvt : valid t.data.toList = true := by rw [ht0]; exact valid_nil
      have HE := Lib.hid (HV.out.trans hvt)
      clear ht0 hl hvt
      go_wp2
      go_ret
      exact ⟨by rw [HE.out]; rfl, rfl⟩
theorem ended_yes (s : ByteArray) (n : Int) (w : World) (hs : s.size ≤ 1000) (hv : valid s.data.toList = true) :
    Calls Try.prog 42 #[.string s, .int .i64 n] w fun e w' => e = .returned (.tuple #[.string s, .int .i64 n, .int .i64 0]) ∧ w = w' := by
  have cV := Lib.hid (fun W => Valid_any s W hs)
  rw [hv] at cV
  clear hv
  go_enter Try.func42, Try.ntmps42
  go_wp2_with (go_at_call 30; ((with_reducible refine (cV.out _).mono ?_); rintro e w' ⟨rfl, rfl⟩))
  go_returns
  exact ⟨rfl, rfl⟩
theorem ended_no (s : ByteArray) (n : Int) (w : World) (hs : s.size ≤ 1000) (hv : valid s.data.toList = false) :
    Calls Try.prog 42 #[.string s, .int .i64 n] w fun e w' => e = .returned (.tuple #[.string (bin []), .int .i64 0, .int .i64 2]) ∧ w = w' := by
  have cV := Lib.hid (fun W => Valid_any s W hs)
  rw [hv] at cV
  clear hv
  go_enter Try.func42, Try.ntmps42
  go_wp2_with (go_at_call 30; ((with_reducible refine (cV.out _).mono ?_); rintro e w' ⟨rfl, rfl⟩))
  go_returns
  exact ⟨rfl, rfl⟩
theorem hexs_lt : ∀ (l : List UInt8) (u v : Nat), hexs l u = some v → v < (u + 1) * 16 ^ l.length
  | [], u, v, h => by cases h; simp
  | c :: l, u, v, h => by
    rw [hexs] at h
    cases hd : hexv c.toNat with
    | none => rw [hd] at h; cases h
    | some d =>
      rw [hd] at h
      have h1 := hexs_lt l (u * 16 + d) v h
      have h2 := hexv_lt hd
      have h3 : (u * 16 + d + 1) * 16 ^ l.length ≤ ((u + 1) * 16) * 16 ^ l.length := Nat.mul_le_mul_right _ (by omega)
      rw [List.length_cons, Nat.pow_succ, Nat.mul_comm (16 ^ l.length) 16, ← Nat.mul_assoc]
      omega
theorem gunit_bd {l : List UInt8} {u : Nat} (h : gunit l = some u) : 6 ≤ l.length ∧ u < 65536 := by
  unfold gunit at h
  split at h
  · split at h
    · have := hexs_lt _ _ _ h
      refine ⟨by simp, ?_⟩
      simpa using this
    · cases h
  · cases h
theorem and10 (a : Nat) (h : a < 4294967296) : bits .and .u32 (a : Int) 1023 = ((a % 1024 : Nat) : Int) := by
  have := u32_and_nat a 1023 h (by decide)
  rw [show a &&& 1023 = a % 1024 from Nat.and_two_pow_sub_one_eq_mod _ 10] at this
  exact this
def eend (l : List UInt8) : Ending := match esc l with
  | some (p, k) => .returned (.tuple #[.string (bin p), .int .i64 (k : Int)])
  | none => .returned (.tuple #[.string (bin []), .int .i64 0])
theorem eend_none {l : List UInt8} (h : esc l = none) : eend l = .returned (.tuple #[.string (bin []), .int .i64 0]) := by unfold eend; rw [h]
theorem eend_some {l : List UInt8} {p : List UInt8} {k : Nat} (h : esc l = some (p, k)) : eend l = .returned (.tuple #[.string (bin p), .int .i64 (k : Int)]) := by unfold eend; rw [h]
theorem esc_short (s : ByteArray) (h : s.size < 2) : esc s.data.toList = none := by
  have hl : s.data.toList.length = s.size := by simp
  unfold esc
  split
  · rename_i e; rw [e] at hl; simp only [List.length_cons] at hl; omega
  · rfl
theorem esc_long (s : ByteArray) (h : 2 ≤ s.size) : esc s.data.toList = if (s[1]'(by omega)).toNat ≠ 117 then (byteOf (s[1]'(by omega)).toNat).map fun c => ([UInt8.ofNat c], 2) else match gunit s.data.toList with
    | none => none
    | some hi => if isPt hi then some (gput hi, 6) else match gunit (s.data.toList.drop 6) with
      | none => none
      | some lo => if hi / 1024 = 54 ∧ lo / 1024 = 55 then some (gput (65536 + hi % 1024 * 1024 + lo % 1024), 12) else none := by
  obtain ⟨⟨l⟩⟩ := s
  change 2 ≤ l.length at h
  match l, h with
  | a :: b :: r, _ => rfl
end Gl
end Go.Proofs.Ytfcpicejifolmaa
