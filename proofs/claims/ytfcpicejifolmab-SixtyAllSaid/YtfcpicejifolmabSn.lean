/-
  The document's texts of sixty-four signs: contracts. No condition but that a text is short.
-/
import Derived.Test.YtfcpicejifolmabSr
import Derived.Test.YtfcpicejifolmabSt
namespace Go.Proofs.Ytfcpicejifolmab
open Go.ChangeShapes Go.WideShapes Go.ChangeAt Go.RowKit
namespace Six
open Mem
set_option linter.unusedVariables false
set_option linter.unusedSimpArgs false
theorem one_text {P : Program} (W : World) {s d el e : TypeId} (hs : P.underlying s = some (.slice el)) (hel : P.underlying el = some (.int .u8)) (hd : P.underlying d = some .string) (c : UInt8) {x : Int} (hx : x = (c.toNat : Int)) :
    (convert s d (.slice (some ⟨W.heap.size, 0, none⟩) 1 1)).run P (W.alloc (.cells #[.int .u8 x] e)) = .ok (.string (bin [c])) (W.alloc (.cells #[.int .u8 x] e)) := by
  subst hx
  have := Lib.run_convert_whole (P := P) (W.alloc (.cells #[.int .u8 (c.toNat : Int)] e)) s el d hs hel hd W.heap.size 0 (bin [c]) (Holds.lit W [c] e).bytes 1
  exact this
theorem bin_snoc (p : List UInt8) (c : UInt8) : bin p ++ bin [c] = bin (p ++ [c]) := by
  apply ByteArray.ext; simp [bin]
theorem bin_app (p q : List UInt8) : bin p ++ bin q = bin (p ++ q) := by
  apply ByteArray.ext; simp [bin]
/-- Which of the first k signs. -/
def seek (c k : Nat) : Int := match val c with
  | some x => if x < k then (x : Int) else -1
  | none => -1
theorem seek_zero (c : Nat) : seek c 0 = -1 := by
  unfold seek; split <;> rfl
theorem seek_some {c d : Nat} (h : val c = some d) : seek c 64 = (d : Int) := by
  have := val_lt h
  unfold seek; rw [h]; simp only; rw [if_pos this]
theorem seek_none {c : Nat} (h : val c = none) : seek c 64 = -1 := by
  unfold seek; rw [h]
theorem seek_hit {c k : Nat} (h : val c = some k) : seek c (k + 1) = (k : Int) := by
  unfold seek; rw [h]; simp only; rw [if_pos (by omega)]
theorem seek_miss {c k : Nat} (h : val c ≠ some k) : seek c (k + 1) = seek c k := by
  unfold seek
  split
  · rename_i x hx
    have : x ≠ k := fun e => h (by rw [hx, e])
    by_cases h1 : x < k
    · rw [if_pos (by omega), if_pos h1]
    · rw [if_neg (by omega), if_neg h1]
  · rfl
theorem seek_lo (c k : Nat) : -1 ≤ seek c k ∧ seek c k < 64 := by
  unfold seek
  split
  · rename_i x hx
    have := val_lt hx
    split <;> omega
  · omega
/-- Three bytes, of which the first k are there. -/
def pad (a b c : UInt8) (k : Nat) : List UInt8 := [if 0 < k then a else 0, if 1 < k then b else 0, if 2 < k then c else 0]
theorem pad_len (a b c : UInt8) (k : Nat) : (pad a b c k).length = 3 := rfl
theorem pad_set (a b c : UInt8) (k : Nat) (x : UInt8) (hk : k < 3) (hx : x = if k = 0 then a else if k = 1 then b else c) : (pad a b c k).set k x = pad a b c (k + 1) := by
  subst hx
  rcases (show k = 0 ∨ k = 1 ∨ k = 2 by omega) with rfl | rfl | rfl <;> rfl
/-- The first byte, the second, the third of a text; a nought where there is none. -/
def nth (t : ByteArray) (i : Nat) : UInt8 := t.data.toList[i]?.getD 0
theorem nth_in {t : ByteArray} {i : Nat} (h : i < t.size) : nth t i = t[i] := by
  unfold nth
  have h1 : t.data.toList[i]? = some t[i] := List.getElem?_eq_getElem (by simpa using h)
  rw [h1]; rfl
theorem nth_out {t : ByteArray} {i : Nat} (h : t.size ≤ i) : nth t i = 0 := by
  unfold nth
  rw [List.getElem?_eq_none (by simpa using h)]; rfl
def vof (t : ByteArray) : Nat := (nth t 0).toNat * 65536 + (nth t 1).toNat * 256 + (nth t 2).toNat
theorem vof_lt (t : ByteArray) : vof t < 16777216 := by
  have h0 := (nth t 0).toNat_lt
  have h1 := (nth t 1).toNat_lt
  have h2 := (nth t 2).toNat_lt
  unfold vof; omega
theorem enc_step (t : ByteArray) (N : Nat) (h0 : 0 < t.size) (hN : N = min 3 t.size) : enc t.data.toList = fours (vof t) (N + 1) ++ enc (t.extract N t.size).data.toList := by
  subst hN
  have nil : ∀ k, t.size ≤ k → enc (t.extract k t.size).data.toList = [] := fun k hk => by
    have : (t.extract k t.size).data.toList = [] := by simp; omega
    rw [this, enc]
  by_cases h3 : 3 ≤ t.size
  · rw [enc3 t (by omega) (by omega) (by omega), show min 3 t.size = 3 by omega]
    unfold vof
    rw [nth_in (by omega), nth_in (by omega), nth_in (by omega)]
  · by_cases h2 : t.size = 2
    · rw [enc2 t h2, show min 3 t.size = 2 by omega, nil 2 (by omega), List.append_nil]
      unfold vof
      rw [nth_in (by omega), nth_in (by omega), nth_out (i := 2) (by omega)]
      simp
    · have h1 : t.size = 1 := by omega
      rw [enc1 t h1, show min 3 t.size = 1 by omega, nil 1 (by omega), List.append_nil]
      unfold vof
      rw [nth_in (by omega), nth_out (i := 1) (by omega), nth_out (i := 2) (by omega)]
      simp
theorem fours_next (V n k : Nat) (hk : k < 4) : (fours V n).take (k + 1) = (fours V n).take k ++ [if k < n then sign (V / 2 ^ (18 - 6 * k) % 64) else 61] := by
  have hl := fours_len V n
  rw [List.take_succ_eq_append_getElem (by omega)]
  congr 2
  have := fours_get V n k hk
  rw [List.getElem?_eq_getElem (by omega)] at this
  exact Option.some.inj this
theorem shift_sign (V k : Nat) (hk : k < 4) (hV : V < 16777216) : V * 64 ^ k / 262144 % 64 = V / 2 ^ (18 - 6 * k) % 64 := by
  rcases (show k = 0 ∨ k = 1 ∨ k = 2 ∨ k = 3 by omega) with rfl | rfl | rfl | rfl <;> simp only [Nat.reduceMul, Nat.reduceSub, Nat.reducePow] <;> omega
theorem pow64 (V k : Nat) (hk : k ≤ 4) (hV : V < 16777216) : V * 64 ^ k ≤ 281474976710656 := by
  rcases (show k = 0 ∨ k = 1 ∨ k = 2 ∨ k = 3 ∨ k = 4 by omega) with rfl | rfl | rfl | rfl | rfl <;> simp only [Nat.reducePow] <;> omega
theorem pad_full {t : ByteArray} {N : Nat} (h : N = 3 ∨ N = t.size) (h3 : N ≤ 3) : pad (nth t 0) (nth t 1) (nth t 2) N = [nth t 0, nth t 1, nth t 2] := by
  have key : ∀ i, i < 3 → (if i < N then nth t i else 0) = nth t i := fun i hi => by
    by_cases h1 : i < N
    · rw [if_pos h1]
    · rw [if_neg h1, nth_out (by omega)]
  unfold pad
  rw [key 0 (by omega), key 1 (by omega), key 2 (by omega)]
theorem pad_next {t : ByteArray} {N k : Nat} (hk : k < N) (h3 : N ≤ 3) (hkt : k < t.size) : (pad (nth t 0) (nth t 1) (nth t 2) k).set k t[k] = pad (nth t 0) (nth t 1) (nth t 2) (k + 1) := by
  refine pad_set _ _ _ _ _ (by omega) ?_
  rw [← nth_in hkt]
  rcases (show k = 0 ∨ k = 1 ∨ k = 2 by omega) with rfl | rfl | rfl <;> rfl
theorem ext_sign (d : Nat) (hd : d < 64) : (ByteArray.mk #[65, 66, 67, 68, 69, 70, 71, 72, 73, 74, 75, 76, 77, 78, 79, 80, 81, 82, 83, 84, 85, 86, 87, 88, 89, 90, 97, 98, 99, 100, 101, 102, 103, 104, 105, 106, 107, 108, 109, 110, 111, 112, 113, 114, 115, 116, 117, 118, 119, 120, 121, 122, 48, 49, 50, 51, 52, 53, 54, 55, 56, 57, 43, 47]).extract d (d + 1) = bin [sign d] := by
  have : ∀ d : Fin 64, (ByteArray.mk #[65, 66, 67, 68, 69, 70, 71, 72, 73, 74, 75, 76, 77, 78, 79, 80, 81, 82, 83, 84, 85, 86, 87, 88, 89, 90, 97, 98, 99, 100, 101, 102, 103, 104, 105, 106, 107, 108, 109, 110, 111, 112, 113, 114, 115, 116, 117, 118, 119, 120, 121, 122, 48, 49, 50, 51, 52, 53, 54, 55, 56, 57, 43, 47]).extract d.1 (d.1 + 1) = bin [sign d.1] := by decide +kernel
  exact this ⟨d, hd⟩
theorem next_mul (V k n : Nat) (h : k ≤ n) : V * 64 ^ min k (n + 1) * 64 = V * 64 ^ min (k + 1) (n + 1) := by
  rw [show min k (n + 1) = k by omega, show min (k + 1) (n + 1) = k + 1 by omega, Nat.pow_succ, Nat.mul_assoc]
set_option maxHeartbeats 2000000 in
set_option maxRecDepth 100000 in
theorem sixty_any (s : ByteArray) (w : World) (hs : s.size ≤ 200) :
    Calls Try.prog 10 #[.string s] w fun e w' => e = .returned (.string (bin (enc s.data.toList))) ∧ Below w.heap.size w w' := by
  go_enter Try.func10, Try.ntmps10
  go_wp2_with fail
  go_loopw [0, 3] (fun x o wr => ∃ (t : ByteArray) (p : List UInt8), x = .string t ∧ t.size ≤ 200 ∧ p.length + (t.size + 2) / 3 * 4 ≤ 400 ∧ o = .string (bin p) ∧ p ++ enc t.data.toList = enc s.data.toList ∧ Below w.heap.size w wr) (fun x _ _ => match x with | .string t => t.size | _ => 0)
  case atStart => exact ⟨s, [], rfl, hs, by simp; omega, rfl, rfl, Below.refl _ _⟩
  case round =>
    obtain ⟨t, p, rfl, ht, hp, rfl, he, hb⟩ := hrel
    have HB := Lib.hid hb
    have HE := Lib.hid he
    have HWr := Lib.hid hb.size
    clear hb he
    by_cases h0 : 0 < t.size
    · obtain ⟨N, hN⟩ : ∃ N, N = min 3 t.size := ⟨_, rfl⟩
      have hN3 : N ≤ 3 := by omega
      have hNt : N ≤ t.size := by omega
      have hN1 : 1 ≤ N := by omega
      have hNe : N = 3 ∨ N = t.size := by omega
      have ES := Lib.hid (enc_step t N h0 hN)
      have HL := Lib.hid (Holds.lit wr [0, 0, 0] 36)
      have HB1 := Lib.hid (HB.out.alloc HWr.out (.cells #[.int .u8 0, .int .u8 0, .int .u8 0] 36))
      clear hN
      go_wp2_with fail
      go_loopw [5] (fun n W => ∃ k : Nat, n = .int .i64 k ∧ k ≤ N ∧ Holds W wr.heap.size (pad (nth t 0) (nth t 1) (nth t 2) k) ∧ Below w.heap.size w W) (fun n _ => N - (intOf n).toNat)
      case atStart => exact ⟨0, rfl, Nat.zero_le _, HL.out, HB1.out⟩
      case round =>
        obtain ⟨k, rfl, hk, ho, hb⟩ := hrel
        have HB2 := Lib.hid hb
        clear hb
        by_cases hlt : k < N
        · have hk3 : k < 3 := by omega
          have hkt : k < t.size := by omega
          have HO := Lib.hid ho
          obtain ⟨hc, hf⟩ := ho.1 k _ (List.getElem?_eq_getElem (by rw [pad_len]; exact hk3))
          obtain ⟨x, hx⟩ : ∃ x, x = ((pad (nth t 0) (nth t 1) (nth t 2) k)[k]'(by rw [pad_len]; exact hk3)).toNat := ⟨_, rfl⟩
          rw [← hx] at hc
          clear hx ho
          go_wp2
          go_roundw
          case rel => exact ⟨k + 1, by go_num, hlt, by rw [← pad_next hlt hN3 hkt]; exact HO.out.set k t[k] (by rw [pad_len]; exact hk3), HB2.out.setCell HWr.out _⟩
          case measure => simp [intOf]; omega
        · obtain rfl : k = N := by omega
          rw [pad_full hNe hN3] at ho
          obtain ⟨hc0, hf0⟩ := ho.1 0 _ rfl
          obtain ⟨hc1, hf1⟩ := ho.1 1 _ rfl
          obtain ⟨hc2, hf2⟩ := ho.1 2 _ rfl
          have V0 := Lib.hid (vof_lt t)
          obtain ⟨x0, hx0⟩ : ∃ x, x = (nth t 0).toNat := ⟨_, rfl⟩
          obtain ⟨x1, hx1⟩ : ∃ x, x = (nth t 1).toNat := ⟨_, rfl⟩
          obtain ⟨x2, hx2⟩ : ∃ x, x = (nth t 2).toNat := ⟨_, rfl⟩
          have b0 : x0 < 256 := by rw [hx0]; exact (nth t 0).toNat_lt
          have b1 : x1 < 256 := by rw [hx1]; exact (nth t 1).toNat_lt
          have b2 : x2 < 256 := by rw [hx2]; exact (nth t 2).toNat_lt
          have HV := Lib.hid (show vof t = x0 * 65536 + x1 * 256 + x2 by rw [hx0, hx1, hx2]; rfl)
          rw [← hx0] at hc0
          rw [← hx1] at hc1
          rw [← hx2] at hc2
          clear hx0 hx1 hx2 ho hlt
          go_wp2_with fail
          all_goals
            have hV0 : vof t < 16777216 := V0.out
            go_loop [3, 6, 7] (fun o v i => ∃ j y : Nat, i = .int .i64 j ∧ j ≤ 4 ∧ v = .int .i64 (y : Int) ∧ y = vof t * 64 ^ min j (k + 1) ∧ o = .string (bin (p ++ (fours (vof t) (k + 1)).take j))) (fun _ _ i => 4 - (intOf i).toNat)
            case atStart => exact ⟨0, vof t, rfl, by omega, by rw [HV.out]; rfl, by simp, by simp⟩
            case round =>
              obtain ⟨j, y, rfl, hj, rfl, hy, rfl⟩ := hrel
              have hyl : y ≤ 281474976710656 := by rw [hy]; exact pow64 _ _ (by omega) hV0
              by_cases hj4 : j < 4
              · have FN := Lib.hid (fours_next (vof t) (k + 1) j hj4)
                have HY := Lib.hid hy
                have hsz : (bin (p ++ (fours (vof t) (k + 1)).take j)).size ≤ 500 := by rw [bin_size, List.length_append, List.length_take, fours_len]; omega
                by_cases hjk : k < j
                · clear hy
                  go_wp2
                  all_goals
                    go_round
                    case rel => exact ⟨j + 1, y, by go_num, by omega, rfl, by rw [HY.out, show min j (k + 1) = min (j + 1) (k + 1) by omega], by rw [FN.out, if_neg (by omega), ← List.append_assoc, ← bin_snoc]; rfl⟩
                    case measure => simp [intOf]; omega
                · have hd : y / 262144 % 64 = vof t / 2 ^ (18 - 6 * j) % 64 := by rw [hy, show min j (k + 1) = j by omega]; exact shift_sign _ _ hj4 hV0
                  have NM := Lib.hid (next_mul (vof t) j k (by omega))
                  have HD := Lib.hid hd
                  clear hy hd
                  go_wp2
                  go_round
                  case rel => exact ⟨j + 1, y * 64, by go_num, by omega, by go_num, by rw [HY.out, NM.out], by rw [FN.out, if_pos (by omega), ← List.append_assoc, ← bin_snoc, ← HD.out, ← ext_sign (y / 262144 % 64) (Nat.mod_lt _ (by decide))]⟩
                  case measure => simp [intOf]; omega
              · obtain rfl : j = 4 := by omega
                clear hy
                have hk : (k : Int) ≤ (t.size : Int) := by omega
                go_wp2
                go_roundw
                case rel => exact ⟨t.extract k t.size, p ++ fours (vof t) (k + 1), rfl, by rw [ByteArray.size_extract]; omega, by rw [List.length_append, fours_len, ByteArray.size_extract]; omega, by rw [List.take_of_length_le (by rw [fours_len]; omega)], by rw [List.append_assoc, ← ES.out]; exact HE.out, HB2.out⟩
                case measure => simp only [ByteArray.size_extract]; omega
    · have h0' : t.size = 0 := by omega
      have EN := Lib.hid (enc0 t h0')
      go_wp2
      go_ret
      exact ⟨by rw [← HE.out, EN.out, List.append_nil]; rfl, HB.out⟩
end Six
end Go.Proofs.Ytfcpicejifolmab
