/-
  The document's numbers of so many bytes: contracts. No condition but that a text is short.
-/
import Derived.Test.YtfcpicejifolmaaRq
import Derived.Handy
namespace Go.Proofs.Ytfcpicejifolmaa
open Go.ChangeShapes Go.WideShapes Go.ChangeAt Go.RowKit
namespace Rv
set_option linter.unusedVariables false
set_option linter.unusedSimpArgs false
theorem leN_drop (s : ByteArray) (m : Nat) (h : m < s.size) : leN (s.data.toList.drop m) = s[m].toNat + 256 * leN (s.data.toList.drop (m + 1)) := by
  rw [drop_at s m h, leN]
theorem leN_drop_lt (s : ByteArray) (m : Nat) (h8 : s.size ≤ 8) (h1 : 1 ≤ m) : leN (s.data.toList.drop m) ≤ 72057594037927935 := by
  have h := leN_lt (s.data.toList.drop m)
  have hl : (s.data.toList.drop m).length ≤ 7 := by rw [List.length_drop]; simp; omega
  have h3 : 256 ^ (s.data.toList.drop m).length ≤ 256 ^ 7 := Nat.pow_le_pow_right (by decide) hl
  have h4 : (256 : Nat) ^ 7 = 72057594037927936 := by decide
  omega
set_option maxHeartbeats 1000000 in
set_option maxRecDepth 20000 in
theorem low_any (s : ByteArray) (w : World) (hs : s.size ≤ 8) :
    Calls Try.prog 37 #[.string s] w fun e w' => e = .returned (.int .u64 (leN s.data.toList : Nat)) ∧ w = w' := by
  go_enter Try.func37, Try.ntmps37
  go_wp2
  go_loop [3, 4] (fun v i => ∃ m acc : Nat, m ≤ s.size ∧ i = .int .i64 ((m : Int) - 1) ∧ v = .int .u64 (acc : Int) ∧ acc = leN (s.data.toList.drop m)) (fun _ i => (intOf i + 1).toNat)
  case atStart => exact ⟨s.size, 0, Nat.le_refl _, rfl, rfl, by rw [List.drop_of_length_le (by simp)]; rfl⟩
  case round =>
    obtain ⟨m, acc, hm, rfl, rfl, ha⟩ := hrel
    by_cases h0 : 0 < m
    · obtain ⟨j, rfl⟩ : ∃ j, m = j + 1 := ⟨m - 1, by omega⟩
      have hj : j < s.size := by omega
      have hb := leN_drop_lt s (j + 1) hs (by omega)
      rw [← ha] at hb
      have hcb : s[j].toNat < 256 := s[j].toNat_lt
      have HN := Lib.hid (leN_drop s j hj)
      have HA := Lib.hid ha
      clear ha
      rw [show ((j + 1 : Nat) : Int) - 1 = (j : Int) by omega]
      go_wp2
      go_round
      case rel => exact ⟨j, acc * 256 + s[j].toNat, by omega, by go_num, by go_num, by rw [HN.out, HA.out]; omega⟩
      case measure => simp [intOf]; try omega
    · obtain rfl : m = 0 := by omega
      have HA := Lib.hid ha
      clear ha
      go_wp2
      go_ret
      exact ⟨by rw [HA.out]; rfl, rfl⟩
theorem one_bin {P : Program} (W : World) {s d el e : TypeId} (hs : P.underlying s = some (.slice el)) (hel : P.underlying el = some (.int .u8)) (hd : P.underlying d = some .string) (c : UInt8) {x : Int} (hx : x = (c.toNat : Int)) :
    (convert s d (.slice (some ⟨W.heap.size, 0, none⟩) 1 1)).run P (W.alloc (.cells #[.int .u8 x] e)) = .ok (.string (bin [c])) (W.alloc (.cells #[.int .u8 x] e)) := by
  subst hx
  exact Lib.run_convert_whole (P := P) (W.alloc (.cells #[.int .u8 (c.toNat : Int)] e)) s el d hs hel hd W.heap.size 0 (bin [c]) (Mem.Holds.lit W [c] e).bytes 1
theorem bin_snoc (p : List UInt8) (c : UInt8) : bin p ++ bin [c] = bin (p ++ [c]) := by
  apply ByteArray.ext; simp [bin]
set_option maxHeartbeats 1000000 in
set_option maxRecDepth 20000 in
theorem low_put (v k : Nat) (w : World) (hk : k ≤ 8) (hv : v < 18446744073709551616) :
    Calls Try.prog 39 #[.int .u64 (v : Int), .int .i64 (k : Int)] w fun e w' => e = .returned (.string (bin (leB v k))) ∧ Below w.heap.size w w' := by
  have hvi : (v : Int) ≤ 18446744073709551615 := by omega
  have HV := Lib.hid hv
  clear hv
  go_enter Try.func39, Try.ntmps39
  go_wp2_with fail
  go_loopw [0, 5, 6] (fun x o i W => ∃ j y : Nat, i = .int .i64 j ∧ j ≤ k ∧ x = .int .u64 (y : Int) ∧ y = v / 256 ^ j ∧ o = .string (bin (leB v j)) ∧ Below w.heap.size w W) (fun _ _ i _ => k - (intOf i).toNat)
  case atStart => exact ⟨0, v, rfl, Nat.zero_le _, rfl, by simp, rfl, Below.refl _ _⟩
  case round =>
    obtain ⟨j, y, rfl, hj, rfl, hy, rfl, hb⟩ := hrel
    have hyl : y ≤ 18446744073709551615 := by rw [hy]; exact Nat.le_trans (Nat.div_le_self _ _) (by have := HV.out; omega)
    have HB := Lib.hid hb
    have HW := Lib.hid hb.size
    have hsz : (bin (leB v j)).size ≤ 8 := by rw [bin_size, leB_len]; omega
    clear hb
    by_cases hjk : j < k
    · obtain ⟨c, hc⟩ : ∃ c, c = UInt8.ofNat (y % 256) := ⟨_, rfl⟩
      have hx : (y : Int) % 256 = (c.toNat : Int) := by rw [hc, ofNat_lt (by omega)]; omega
      have cv := one_bin (P := Try.prog) wr Try.underlying44 Try.underlying5 Try.underlying9 c (e := 5) hx
      have hs1 : (bin [c]).size ≤ 1 := by rw [bin_size]; simp
      have HN : Hid (leB v (j + 1) = leB v j ++ [c]) := by rw [leB_snoc, hc, hy]; exact rfl
      have HY : Hid (y / 256 = v / 256 ^ (j + 1)) := by rw [hy, Nat.div_div_eq_div_mul, Nat.pow_succ]; exact rfl
      clear hc hx hy
      go_wp2
      go_roundw
      case rel => exact ⟨j + 1, y / 256, by go_num, hjk, by go_num, HY.out, by rw [HN.out, ← bin_snoc], HB.out.alloc HW.out _⟩
      case measure => simp [intOf]; omega
    · obtain rfl : j = k := by omega
      clear hy
      go_wp2
      go_ret
      exact ⟨rfl, HB.out⟩
end Rv
end Go.Proofs.Ytfcpicejifolmaa
