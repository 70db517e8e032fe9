/-
  Texts with a whole number in front: what Parse tells of them. No condition but that the number is one of 64 bits.
-/
import Derived.Test.YtdecogndpnghkaaDoorJx
namespace Go.Proofs.YtdecogndpnghkaaDoor
open Go.ChangeShapes Go.WideShapes Go.ChangeAt Go.RowKit
namespace Jn
set_option linter.unusedVariables false
set_option linter.unusedSimpArgs false
theorem bin_at (l : List UInt8) (i : Nat) (h : i < (bin l).size) (c : UInt8) (hc : l[i]? = some c) : (bin l)[i] = c := by
  have h2 : i < l.length := by rw [bin_size] at h; exact h
  rw [List.getElem?_eq_getElem h2] at hc
  cases hc
  show (l.toArray)[i]'(by simpa using h2) = l[i]
  simp
theorem bin_app (a c : List UInt8) : bin a ++ bin c = bin (a ++ c) := by
  apply ByteArray.ext; simp [bin]
theorem bin_ext (l : List UInt8) (k : Nat) : ((bin l).extract 0 k).data.toList = l.take k := by
  rw [ByteArray.data_extract, Array.toList_extract, List.extract_eq_take_drop, bin_list]
  simp
theorem dec_big {n : Nat} (h : 1 < (dec n).length) : ∃ c r, dec n = c :: r ∧ c.toNat ≠ 48 := by
  refine dec_head ?_
  cases n with
  | zero => rw [dec_lt (by omega)] at h; simp at h
  | succ n => omega
theorem tens_len {v : Int} (h1 : -9223372036854775808 ≤ v) (h2 : v ≤ 9223372036854775807) : (tens v).length ≤ 21 := by
  unfold tens
  have := dec_len20 (n := v.natAbs) (by omega)
  split <;> simp <;> omega
/-- A number, and what is none behind it. -/
theorem tree_of_tens (v : Int) (h1 : -9223372036854775808 ≤ v) (h2 : v ≤ 9223372036854775807) (R : List UInt8) (hR : dr R = 0) (hl : R.length ≤ 100) : TreeOf (bin (tens v ++ R)) (tens v).length 3 v 0 := by
  intro W b hRd
  have hlen := tens_len h1 h2
  have hs : (bin (tens v ++ R)).size ≤ 10000000 := by rw [bin_size, List.length_append]; omega
  have hp := parse_tens v h1 h2
  have hx : Lib.parseIntB 64 ((bin (tens v ++ R)).extract 0 (tens v).length).data.toList = .ok v := by
    rw [bin_ext, List.take_left']
    · exact hp
    · rfl
  by_cases hneg : v < 0
  · have ht : tens v = 45 :: dec v.natAbs := by unfold tens; rw [if_pos hneg]
    have h0 : 0 < (bin (tens v ++ R)).size := by rw [bin_size, ht]; simp
    have hc : (bin (tens v ++ R))[0] = 45 := bin_at _ 0 h0 45 (by rw [ht]; rfl)
    have hdr : (tens v).length = 1 + dr ((bin (tens v ++ R)).data.toList.drop 1) := by
      rw [bin_list, ht, List.cons_append, List.drop_succ_cons, List.drop_zero, dr_append (dec_digits _), hR]
      simp; omega
    refine tree_num (bin (tens v ++ R)) 0 1 (tens v).length b 1 W hRd h0 hs (.inl ⟨by rw [hc]; rfl, rfl⟩) hdr (.inl (by rw [hc]; rfl)) 0 v (.inr ⟨fun ⟨g1, g2⟩ => ?_, hx, rfl⟩)
    rw [bin_list, ht] at g2
    have g3 : 1 < (dec v.natAbs).length := by rw [ht] at g1; simp at g1; omega
    obtain ⟨c, r, e1, e2⟩ := dec_big g3
    rw [e1] at g2
    simp at g2
    exact e2 (by rw [g2]; rfl)
  · have ht : tens v = dec v.natAbs := by unfold tens; rw [if_neg hneg]
    obtain ⟨c, r, hcr⟩ : ∃ c r, dec v.natAbs = c :: r := by
      cases hd : dec v.natAbs with
      | nil => exact absurd hd (dec_ne _)
      | cons c r => exact ⟨c, r, rfl⟩
    have hdig := dec_digits v.natAbs c (by rw [hcr]; simp)
    unfold isD at hdig
    simp only [Bool.and_eq_true, decide_eq_true_eq] at hdig
    have h0 : 0 < (bin (tens v ++ R)).size := by rw [bin_size, ht, hcr]; simp
    have hc : (bin (tens v ++ R))[0] = c := bin_at _ 0 h0 c (by rw [ht, hcr]; rfl)
    have hdr : (tens v).length = 0 + dr ((bin (tens v ++ R)).data.toList.drop 0) := by
      rw [bin_list, ht, List.drop_zero, dr_append (dec_digits _), hR]
      omega
    refine tree_num (bin (tens v ++ R)) 0 0 (tens v).length b 1 W hRd h0 hs (.inr ⟨by rw [hc]; omega, rfl⟩) hdr (.inr (by rw [hc]; exact hdig)) 0 v (.inr ⟨fun ⟨g1, g2⟩ => ?_, hx, rfl⟩)
    rw [bin_list, ht] at g2
    have g3 : 1 < (dec v.natAbs).length := by rw [ht] at g1; omega
    obtain ⟨c, r, e1, e2⟩ := dec_big g3
    rw [e1] at g2
    simp at g2
    exact e2 (by rw [g2]; rfl)
/-- A nought ahead of a number. -/
theorem tree_of_nought (n : Nat) (hn : n < 18446744073709551616) : TreeOf (bin (48 :: dec n)) ((dec n).length + 1) 3 0 2 := by
  intro W b hRd
  have hlen := dec_len20 hn
  have hs : (bin (48 :: dec n)).size ≤ 10000000 := by rw [bin_size]; simp; omega
  have h0 : 0 < (bin (48 :: dec n)).size := by rw [bin_size]; simp
  have hc : (bin (48 :: dec n))[0] = 48 := bin_at _ 0 h0 48 rfl
  have hd1 : 0 < (dec n).length := List.length_pos_iff.2 (dec_ne n)
  have hdr : (dec n).length + 1 = 0 + dr ((bin (48 :: dec n)).data.toList.drop 0) := by
    rw [bin_list, List.drop_zero]
    have : dr (48 :: dec n) = dr (dec n ++ []) + 1 := by rw [List.append_nil]; rfl
    rw [this, dr_append (dec_digits _)]
    simp [dr]
  refine tree_num (bin (48 :: dec n)) 0 0 ((dec n).length + 1) b 1 W hRd h0 hs (.inr ⟨by rw [hc]; decide, rfl⟩) hdr (.inr (by rw [hc]; decide)) 2 0 (.inl ⟨by omega, by rw [bin_list]; rfl, rfl, rfl⟩)
/-- A plus ahead of it. -/
theorem tree_of_plus (l : List UInt8) (hl : l.length ≤ 100) : TreeOf (bin (43 :: l)) 0 0 0 2 := by
  intro W b hRd
  have h0 : 0 < (bin (43 :: l)).size := by rw [bin_size]; simp
  have hc : (bin (43 :: l))[0] = 43 := bin_at _ 0 h0 43 rfl
  exact tree_no (bin (43 :: l)) 0 b 1 W hRd h0 (by rw [bin_size]; simp; omega) (by rw [hc]; rfl)
theorem parse_tens_ok (v : Int) (h1 : -9223372036854775808 ≤ v) (h2 : v ≤ 9223372036854775807) (w : World) :
    Calls Tryd.prog 8 #[.string (bin (tens v))] w fun e w' => e = .returned (.tuple #[node 3 v, .int .i64 0]) ∧ Below w.heap.size w w' := by
  have hlen := tens_len h1 h2
  have T := tree_of_tens v h1 h2 [] rfl (by simp)
  rw [List.append_nil] at T
  refine parse_ok (bin (tens v)) (by rw [bin_size]; omega) (tens v).length 3 v (by rw [bin_size]; omega) T ?_ w
  rw [bin_list, List.drop_eq_nil_of_le (Nat.le_refl _), bin_size]; rfl
theorem parse_tens_more (v : Int) (h1 : -9223372036854775808 ≤ v) (h2 : v ≤ 9223372036854775807) (R : List UInt8) (hR : dr R = 0) (hl : R.length ≤ 100) (hsp : sp R < R.length) (w : World) :
    Calls Tryd.prog 8 #[.string (bin (tens v) ++ bin R)] w fun e w' => e = .returned (.tuple #[node 0 0, .int .i64 2]) ∧ Below w.heap.size w w' := by
  have hlen := tens_len h1 h2
  rw [bin_app]
  refine parse_more (bin (tens v ++ R)) (by rw [bin_size, List.length_append]; omega) (tens v).length 3 v (by rw [bin_size, List.length_append]; omega) (tree_of_tens v h1 h2 R hR hl) ?_ w
  rw [bin_list, List.drop_left', bin_size, List.length_append]
  · omega
  · rfl
theorem parse_nought (n : Nat) (hn : n < 18446744073709551616) (w : World) :
    Calls Tryd.prog 8 #[.string (bin [48] ++ bin (dec n))] w fun e w' => e = .returned (.tuple #[node 0 0, .int .i64 2]) ∧ Below w.heap.size w w' := by
  have hlen := dec_len20 hn
  rw [bin_app]
  exact parse_bad (bin (48 :: dec n)) (by rw [bin_size]; simp; omega) _ _ _ (tree_of_nought n hn) w
theorem parse_plus (l : List UInt8) (hl : l.length ≤ 100) (w : World) :
    Calls Tryd.prog 8 #[.string (bin [43] ++ bin l)] w fun e w' => e = .returned (.tuple #[node 0 0, .int .i64 2]) ∧ Below w.heap.size w w' := by
  rw [bin_app]
  exact parse_bad (bin (43 :: l)) (by rw [bin_size]; simp; omega) _ _ _ (tree_of_plus l hl) w
end Jn
end Go.Proofs.YtdecogndpnghkaaDoor
