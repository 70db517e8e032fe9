/-
  Package cast: how many bits a number has.
-/
import Derived.Test.YtojpknhajifkbaaCastC
namespace Go.Proofs.Ytojpknhajifkbaa
open Go.ChangeShapes Go.WideShapes Go.ChangeAt Go.RowKit
namespace Cast
set_option linter.unusedVariables false

def bitLen (n : Nat) : Nat := if n = 0 then 0 else Nat.log2 n + 1
theorem bitLen_of (n k : Nat) (h1 : 2 ^ k ≤ n) (h2 : n < 2 ^ (k + 1)) : bitLen n = k + 1 := by
  have h0 : n ≠ 0 := by have := Nat.two_pow_pos k; omega
  unfold bitLen
  rw [if_neg h0, (Nat.log2_eq_iff h0).2 ⟨h1, h2⟩]
theorem bitLen_ge (n : Nat) (h : n ≠ 0) : 2 ^ (bitLen n - 1) ≤ n ∧ n < 2 ^ bitLen n ∧ 1 ≤ bitLen n := by
  unfold bitLen
  rw [if_neg h]
  exact ⟨Nat.log2_self_le h, Nat.lt_log2_self, by omega⟩
theorem bitLen_div (x c : Nat) (h : x / 2 ^ c ≠ 0) : bitLen x = c + bitLen (x / 2 ^ c) := by
  obtain ⟨h1, h2, h3⟩ := bitLen_ge _ h
  have hp := Nat.two_pow_pos c
  have e1 : 2 ^ (bitLen (x / 2 ^ c) - 1) * 2 ^ c ≤ x := (Nat.le_div_iff_mul_le hp).1 h1
  have e2 : x < 2 ^ bitLen (x / 2 ^ c) * 2 ^ c := (Nat.div_lt_iff_lt_mul hp).1 h2
  rw [← Nat.pow_add] at e1 e2
  have := bitLen_of x (bitLen (x / 2 ^ c) - 1 + c) e1 (by rw [show bitLen (x / 2 ^ c) - 1 + c + 1 = bitLen (x / 2 ^ c) + c by omega]; exact e2)
  omega
theorem tab (T : ByteArray) (hT : T.data.toList.map UInt8.toNat = (List.range 256).map bitLen) (i : Nat) (h : i < T.size) (h2 : i < 256) : T[i].toNat = bitLen i := by
  have e := congrArg (fun l => l[i]?) hT
  have h' : i < T.data.size := h
  have e1 : (T.data.toList.map UInt8.toNat)[i]? = some (T.data[i].toNat) := by
    rw [List.getElem?_map, Array.getElem?_toList, Array.getElem?_eq_getElem h']; rfl
  have e2 : ((List.range 256).map bitLen)[i]? = some (bitLen i) := by simp [h2]
  have e3 := e1.symm.trans (Eq.trans e e2)
  exact Option.some.inj e3
theorem bitLen_small (i : Nat) (h : i < 256) : bitLen i ≤ 8 := by
  by_cases h0 : i = 0
  · subst h0; decide
  · obtain ⟨h1, _, _⟩ := bitLen_ge i h0
    rcases Nat.lt_or_ge 8 (bitLen i) with h9 | h9
    · have : 2 ^ 8 ≤ 2 ^ (bitLen i - 1) := Nat.pow_le_pow_right (by decide) (by omega)
      omega
    · exact h9
theorem end0 (T : ByteArray) (hT : T.data.toList.map UInt8.toNat = (List.range 256).map bitLen) (i : Nat) (h : i < T.size) (h2 : i < 256) (L : Nat) (hL : L = bitLen i) :
    Ending.returned (.int .i64 (wrap64 (wrap64 (T[i].toNat : Int)))) = .returned (.int .i64 (L : Int)) := by
  have := bitLen_small i h2
  rw [tab T hT i h h2, hL]
  exact ret_int (by unfold wrap64; omega)
theorem endc (T : ByteArray) (hT : T.data.toList.map UInt8.toNat = (List.range 256).map bitLen) (i : Nat) (h : i < T.size) (h2 : i < 256) (c : Nat) (hc : c ≤ 56) (L : Nat) (hL : L = c + bitLen i) :
    Ending.returned (.int .i64 (wrap64 ((c : Int) + wrap64 (T[i].toNat : Int)))) = .returned (.int .i64 (L : Int)) := by
  have := bitLen_small i h2
  rw [tab T hT i h h2, hL]
  exact ret_int (by unfold wrap64; omega)
set_option maxRecDepth 100000 in
set_option maxHeartbeats 4000000 in
theorem len_000 (x : Int) (w : World) (h0 : 0 ≤ x) (h1 : x < 4294967296) (h2 : x < 65536) (h3 : x < 256) (L : Nat) (hL : L = 0 + bitLen (x).toNat) : Calls Try.prog 23 #[.int .u64 x] w fun e w' => e = .returned (.int .i64 (L : Int)) ∧ w = w' := by
  have HL := Lib.hid hL; clear hL
  have hlt : (x).toNat < 256 := by omega
  have HT := Lib.hid hlt; clear hlt
  go_enter Try.func23, Try.ntmps23
  go_wp2
  go_ret
  exact ⟨end0 _ (by decide +kernel) _ _ HT.out L (by have := HL.out; omega), rfl⟩
set_option maxRecDepth 100000 in
set_option maxHeartbeats 4000000 in
theorem len_001 (x : Int) (w : World) (h0 : 0 ≤ x) (h1 : x < 4294967296) (h2 : x < 65536) (h3 : 256 ≤ x) (h4 : x / 256 < 256) (L : Nat) (hL : L = 8 + bitLen (x / 256).toNat) : Calls Try.prog 23 #[.int .u64 x] w fun e w' => e = .returned (.int .i64 (L : Int)) ∧ w = w' := by
  have HL := Lib.hid hL; clear hL
  have hlt : (x / 256).toNat < 256 := by omega
  have HT := Lib.hid hlt; clear hlt
  go_enter Try.func23, Try.ntmps23
  go_wp2
  go_ret
  exact ⟨endc _ (by decide +kernel) _ _ HT.out 8 (by decide) L HL.out, rfl⟩
set_option maxRecDepth 100000 in
set_option maxHeartbeats 4000000 in
theorem len_010 (x : Int) (w : World) (h0 : 0 ≤ x) (h1 : x < 4294967296) (h2 : 65536 ≤ x) (h3 : x / 65536 < 256) (L : Nat) (hL : L = 16 + bitLen (x / 65536).toNat) : Calls Try.prog 23 #[.int .u64 x] w fun e w' => e = .returned (.int .i64 (L : Int)) ∧ w = w' := by
  have HL := Lib.hid hL; clear hL
  have hlt : (x / 65536).toNat < 256 := by omega
  have HT := Lib.hid hlt; clear hlt
  go_enter Try.func23, Try.ntmps23
  go_wp2
  go_ret
  exact ⟨endc _ (by decide +kernel) _ _ HT.out 16 (by decide) L HL.out, rfl⟩
set_option maxRecDepth 100000 in
set_option maxHeartbeats 4000000 in
theorem len_011 (x : Int) (w : World) (h0 : 0 ≤ x) (h1 : x < 4294967296) (h2 : 65536 ≤ x) (h3 : 256 ≤ x / 65536) (h4 : x / 65536 / 256 < 256) (L : Nat) (hL : L = 24 + bitLen (x / 65536 / 256).toNat) : Calls Try.prog 23 #[.int .u64 x] w fun e w' => e = .returned (.int .i64 (L : Int)) ∧ w = w' := by
  have HL := Lib.hid hL; clear hL
  have hlt : (x / 65536 / 256).toNat < 256 := by omega
  have HT := Lib.hid hlt; clear hlt
  go_enter Try.func23, Try.ntmps23
  go_wp2
  go_ret
  exact ⟨endc _ (by decide +kernel) _ _ HT.out 24 (by decide) L HL.out, rfl⟩
set_option maxRecDepth 100000 in
set_option maxHeartbeats 4000000 in
theorem len_100 (x : Int) (w : World) (h0 : 0 ≤ x) (h1 : 4294967296 ≤ x) (h2 : x / 4294967296 < 65536) (h3 : x / 4294967296 < 256) (L : Nat) (hL : L = 32 + bitLen (x / 4294967296).toNat) : Calls Try.prog 23 #[.int .u64 x] w fun e w' => e = .returned (.int .i64 (L : Int)) ∧ w = w' := by
  have HL := Lib.hid hL; clear hL
  have hlt : (x / 4294967296).toNat < 256 := by omega
  have HT := Lib.hid hlt; clear hlt
  go_enter Try.func23, Try.ntmps23
  go_wp2
  go_ret
  exact ⟨endc _ (by decide +kernel) _ _ HT.out 32 (by decide) L HL.out, rfl⟩
set_option maxRecDepth 100000 in
set_option maxHeartbeats 4000000 in
theorem len_101 (x : Int) (w : World) (h0 : 0 ≤ x) (h1 : 4294967296 ≤ x) (h2 : x / 4294967296 < 65536) (h3 : 256 ≤ x / 4294967296) (h4 : x / 4294967296 / 256 < 256) (L : Nat) (hL : L = 40 + bitLen (x / 4294967296 / 256).toNat) : Calls Try.prog 23 #[.int .u64 x] w fun e w' => e = .returned (.int .i64 (L : Int)) ∧ w = w' := by
  have HL := Lib.hid hL; clear hL
  have hlt : (x / 4294967296 / 256).toNat < 256 := by omega
  have HT := Lib.hid hlt; clear hlt
  go_enter Try.func23, Try.ntmps23
  go_wp2
  go_ret
  exact ⟨endc _ (by decide +kernel) _ _ HT.out 40 (by decide) L HL.out, rfl⟩
set_option maxRecDepth 100000 in
set_option maxHeartbeats 4000000 in
theorem len_110 (x : Int) (w : World) (h0 : 0 ≤ x) (h1 : 4294967296 ≤ x) (h2 : 65536 ≤ x / 4294967296) (h3 : x / 4294967296 / 65536 < 256) (L : Nat) (hL : L = 48 + bitLen (x / 4294967296 / 65536).toNat) : Calls Try.prog 23 #[.int .u64 x] w fun e w' => e = .returned (.int .i64 (L : Int)) ∧ w = w' := by
  have HL := Lib.hid hL; clear hL
  have hlt : (x / 4294967296 / 65536).toNat < 256 := by omega
  have HT := Lib.hid hlt; clear hlt
  go_enter Try.func23, Try.ntmps23
  go_wp2
  go_ret
  exact ⟨endc _ (by decide +kernel) _ _ HT.out 48 (by decide) L HL.out, rfl⟩
set_option maxRecDepth 100000 in
set_option maxHeartbeats 4000000 in
theorem len_111 (x : Int) (w : World) (h0 : 0 ≤ x) (h1 : 4294967296 ≤ x) (h2 : 65536 ≤ x / 4294967296) (h3 : 256 ≤ x / 4294967296 / 65536) (h4 : x / 4294967296 / 65536 / 256 < 256) (L : Nat) (hL : L = 56 + bitLen (x / 4294967296 / 65536 / 256).toNat) : Calls Try.prog 23 #[.int .u64 x] w fun e w' => e = .returned (.int .i64 (L : Int)) ∧ w = w' := by
  have HL := Lib.hid hL; clear hL
  have hlt : (x / 4294967296 / 65536 / 256).toNat < 256 := by omega
  have HT := Lib.hid hlt; clear hlt
  go_enter Try.func23, Try.ntmps23
  go_wp2
  go_ret
  exact ⟨endc _ (by decide +kernel) _ _ HT.out 56 (by decide) L HL.out, rfl⟩
theorem len_any (x : Nat) (w : World) (hx : x < 18446744073709551616) : Calls Try.prog 23 #[.int .u64 (x : Int)] w fun e w' => e = .returned (.int .i64 (bitLen x : Nat)) ∧ w = w' := by
  have q1 : x / 4294967296 ≠ 0 → bitLen x = 32 + bitLen (x / 4294967296) := bitLen_div x 32
  have q2 : ∀ y, y / 65536 ≠ 0 → bitLen y = 16 + bitLen (y / 65536) := fun y => bitLen_div y 16
  have q3 : ∀ y, y / 256 ≠ 0 → bitLen y = 8 + bitLen (y / 256) := fun y => bitLen_div y 8
  by_cases a : x < 4294967296
  · by_cases b : x < 65536
    · by_cases c : x < 256
      · exact len_000 x w (by omega) (by omega) (by omega) (by omega) _ (by simp)
      · exact len_001 x w (by omega) (by omega) (by omega) (by omega) (by omega) _ (by rw [q3 x (by omega)]; rfl)
    · have e := q2 x (by omega)
      by_cases c : x / 65536 < 256
      · exact len_010 x w (by omega) (by omega) (by omega) (by omega) _ (by rw [e]; rfl)
      · exact len_011 x w (by omega) (by omega) (by omega) (by omega) (by omega) _ (by rw [e, q3 (x / 65536) (by omega), ← Nat.add_assoc]; rfl)
  · have f := q1 (by omega)
    by_cases b : x / 4294967296 < 65536
    · by_cases c : x / 4294967296 < 256
      · exact len_100 x w (by omega) (by omega) (by omega) (by omega) _ (by rw [f]; rfl)
      · exact len_101 x w (by omega) (by omega) (by omega) (by omega) (by omega) _ (by rw [f, q3 (x / 4294967296) (by omega), ← Nat.add_assoc]; rfl)
    · have e := q2 (x / 4294967296) (by omega)
      by_cases c : x / 4294967296 / 65536 < 256
      · exact len_110 x w (by omega) (by omega) (by omega) (by omega) _ (by rw [f, e, ← Nat.add_assoc]; rfl)
      · exact len_111 x w (by omega) (by omega) (by omega) (by omega) (by omega) _ (by rw [f, e, q3 (x / 4294967296 / 65536) (by omega), ← Nat.add_assoc, ← Nat.add_assoc]; rfl)
end Cast
end Go.Proofs.Ytojpknhajifkbaa
