/-
  SixtyJoins: texts of lots of three bytes stand one behind the other. No condition.
-/
import Derived.Test.YtfcpicejifolmabSb
namespace Go.Proofs.Ytfcpicejifolmab
open Go.ChangeShapes Go.WideShapes Go.ChangeAt Go.RowKit
namespace Six
open Mem
set_option linter.unusedVariables false
theorem enc_append : ∀ (n : Nat) (x y : List UInt8), x.length = 3 * n → enc (x ++ y) = enc x ++ enc y
  | 0, x, y, h => by
    have : x = [] := List.length_eq_zero_iff.1 (by omega)
    subst this; simp [enc]
  | n + 1, a :: b :: c :: r, y, h => by
    simp only [List.length_cons] at h
    rw [List.cons_append, List.cons_append, List.cons_append, enc, enc, enc_append n r y (by omega), List.append_assoc]
  | n + 1, [], y, h => by simp at h
  | n + 1, [a], y, h => by simp at h; omega
  | n + 1, [a, b], y, h => by simp at h; omega
theorem joins (a b : ByteArray) (k : Nat) (hk : k = a.size / 3 * 3) : bin (enc (a.extract 0 k ++ b).data.toList) = bin (enc (a.extract 0 k).data.toList) ++ bin (enc b.data.toList) := by
  have h1 : (a.extract 0 k ++ b).data.toList = (a.extract 0 k).data.toList ++ b.data.toList := by simp
  have h2 : (a.extract 0 k).data.toList.length = 3 * (a.size / 3) := by
    have : (a.extract 0 k).size = k := by rw [ByteArray.size_extract]; omega
    have h3 : (a.extract 0 k).data.toList.length = (a.extract 0 k).size := by rw [Array.length_toList]; rfl
    omega
  rw [h1, enc_append _ _ _ h2]
  apply ByteArray.ext
  simp [bin]
theorem enc_size (s : ByteArray) : (bin (enc s.data.toList)).size = (s.size + 2) / 3 * 4 := by
  rw [bin_size, enc_len]
  have : s.data.toList.length = s.size := by simp
  rw [this]
set_option maxHeartbeats 1000000 in
set_option maxRecDepth 20000 in
theorem joins_law (a b : ByteArray) (w : World) (ha : a.size ≤ maxLen) (hb : b.size ≤ maxLen) :
    Calls Try.prog 5 #[.string a, .string b] w fun e w' => e = .returned (.bool true) ∧ Below w.heap.size w w' := by
  unfold maxLen at ha hb
  have no : ¬ (a.size ≤ 60 ∧ b.size ≤ 60) → Calls Try.prog 5 #[.string a, .string b] w fun e w' => e = .returned (.bool true) ∧ Below w.heap.size w w' := fun hl => by
    by_cases hl1 : a.size ≤ 60
    · have hl2 : 60 < b.size := by omega
      clear hl
      go_enter Try.func5, Try.ntmps5
      go_wp2_with (go_at_call 6; refine (begun_any _).mono ?_; rintro e w1 ⟨rfl, hb1⟩)
      go_ret
      exact ⟨rfl, hb1⟩
    · have hl2 : 60 < a.size := by omega
      clear hl hl1
      go_enter Try.func5, Try.ntmps5
      go_wp2_with (go_at_call 6; refine (begun_any _).mono ?_; rintro e w1 ⟨rfl, hb1⟩)
      go_ret
      exact ⟨rfl, hb1⟩
  by_cases hl : a.size ≤ 60 ∧ b.size ≤ 60
  · obtain ⟨hl1, hl2⟩ := hl
    clear no
    obtain ⟨k, hk⟩ : ∃ k, k = a.size / 3 * 3 := ⟨_, rfl⟩
    have J := Lib.hid (joins a b k hk)
    obtain ⟨X, hX⟩ : ∃ X, X = a.extract 0 k := ⟨_, rfl⟩
    have hXs : X.size ≤ 60 := by rw [hX, ByteArray.size_extract]; omega
    rw [← hX] at J
    have s1 : (bin (enc X.data.toList)).size ≤ 200 := by rw [enc_size]; omega
    have s2 : (bin (enc b.data.toList)).size ≤ 200 := by rw [enc_size]; omega
    have c1 := Lib.hid (fun W => put_any (X ++ b) W (by rw [ByteArray.size_append]; omega))
    have c2 := Lib.hid (fun W => put_any X W (by omega))
    have c3 := Lib.hid (fun W => put_any b W (by omega))
    rw [J.out] at c1
    have hX' : a.extract 0 (a.size / 3 * 3) = X := by rw [hX, hk]
    clear hX hk
    go_enter Try.func5, Try.ntmps5
    go_wp2_with (go_at_call 6; refine (begun_any _).mono ?_; rintro e w1 ⟨rfl, hb1⟩)
    go_wp2_with (first | (go_at_call 9; ((with_reducible refine (c1.out _).mono ?_); rintro e w2 ⟨rfl, hb2⟩)) | (go_at_call 9; ((with_reducible refine (c2.out _).mono ?_); rintro e w3 ⟨rfl, hb3⟩)) | (go_at_call 9; ((with_reducible refine (c3.out _).mono ?_); rintro e w4 ⟨rfl, hb4⟩)))
    go_ret
    exact ⟨rfl, hb1.trans ((hb2.trans ((hb3.trans (hb4.mono hb3.size)).mono hb2.size)).mono hb1.size)⟩
  · exact no hl
end Six
end Go.Proofs.Ytfcpicejifolmab
