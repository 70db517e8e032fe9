/-
  Package sixty over plain numbers: the signs, and the contracts of its small functions.
-/
import Derived.Test.YtfcpicejifolmabMem
import Derived.Test.YtfcpicejifolmabEng5
namespace Go.Proofs.Ytfcpicejifolmab
open Go.ChangeShapes Go.WideShapes Go.ChangeAt Go.RowKit
namespace Six
open Mem
set_option linter.unusedVariables false
set_option linter.unusedSimpArgs false

section
open Eng
set_option maxRecDepth 1000000
set_option maxHeartbeats 0
theorem mixed : Try.prog.follows .mixedOrders = true := by decide +kernel
theorem nums : noNum Try.prog = true := by decide +kernel
noncomputable def call0 : CallF := callN Try.prog noExt (fun call n => regD Try.prog call noExt n) 1000000 .e 30
theorem begun_run : yes (call0 6 [] .e 0) = true := by decide +kernel
theorem begun_any (w : World) : Calls Try.prog 6 #[] w fun e w' => e = .returned (.bool true) ∧ Below w.heap.size w w' := by
  obtain ⟨h, nx, e⟩ := yes_ok begun_run
  exact closed mixed noExt_ok (noNum_ok nums) e w
end
/-- The sign's six bits. -/
def val (c : Nat) : Option Nat :=
  if 65 ≤ c ∧ c ≤ 90 then some (c - 65) else if 97 ≤ c ∧ c ≤ 122 then some (c - 97 + 26) else if 48 ≤ c ∧ c ≤ 57 then some (c - 48 + 52) else if c = 43 then some 62 else if c = 47 then some 63 else none
theorem vr (c : Nat) (d : Option Nat) (z : Int) (b : Bool) (h : val c = d) (hz : z = (d.getD 0 : Nat)) (hb : b = d.isSome) : Ending.returned (.tuple #[.int .u32 z, .bool b]) = .returned (.tuple #[.int .u32 (((val c).getD 0 : Nat) : Int), .bool (val c).isSome]) := by
  subst hz hb h; rfl
theorem val1 (c : Nat) (h1 : 65 ≤ c) (h2 : c ≤ 90) : val c = some (c - 65) := by unfold val; rw [if_pos ⟨h1, h2⟩]
theorem val2 (c : Nat) (h1 : 97 ≤ c) (h2 : c ≤ 122) : val c = some (c - 97 + 26) := by unfold val; rw [if_neg (by omega), if_pos ⟨h1, h2⟩]
theorem val3 (c : Nat) (h1 : 48 ≤ c) (h2 : c ≤ 57) : val c = some (c - 48 + 52) := by unfold val; rw [if_neg (by omega), if_neg (by omega), if_pos ⟨h1, h2⟩]
theorem val0 (c : Nat) (h1 : ¬ (65 ≤ c ∧ c ≤ 90)) (h2 : ¬ (97 ≤ c ∧ c ≤ 122)) (h3 : ¬ (48 ≤ c ∧ c ≤ 57)) (h4 : c ≠ 43) (h5 : c ≠ 47) : val c = none := by
  unfold val; rw [if_neg h1, if_neg h2, if_neg h3, if_neg h4, if_neg h5]
set_option maxHeartbeats 1000000 in
theorem value_any (c : Nat) (w : World) (hc : c < 256) :
    Calls Try.prog 11 #[.int .u8 (c : Int)] w fun e w' => e = .returned (.tuple #[.int .u32 (((val c).getD 0 : Nat) : Int), .bool (val c).isSome]) ∧ w = w' := by
  go_enter Try.func11, Try.ntmps11
  go_wp2
  all_goals (go_ret2; refine ⟨?_, rfl⟩)
  all_goals (try simp only [decide_eq_true_eq, decide_eq_false_iff_not, beq_iff_eq, beq_eq_false_iff_ne] at *)
  all_goals first
    | exact vr c _ _ _ (val1 c (by omega) (by omega)) (by simp only [Option.getD_some]; omega) rfl
    | exact vr c _ _ _ (val2 c (by omega) (by omega)) (by simp only [Option.getD_some]; omega) rfl
    | exact vr c _ _ _ (val3 c (by omega) (by omega)) (by simp only [Option.getD_some]; omega) rfl
    | (obtain rfl : c = 43 := by omega
       rfl)
    | (obtain rfl : c = 47 := by omega
       rfl)
    | exact vr c _ _ _ (val0 c (by omega) (by omega) (by omega) (by omega) (by omega)) rfl rfl
def threes (v n : Nat) : List UInt8 := [UInt8.ofNat (v / 65536), UInt8.ofNat (v / 256), UInt8.ofNat v].take n
def three (v n : Nat) : ByteArray := bin (threes v n)
theorem threes_len (v n : Nat) (hn : n ≤ 3) : (threes v n).length = n := by simp [threes]; omega
theorem three_size (v n : Nat) (hn : n ≤ 3) : (three v n).size = n := by rw [three, bin_size, threes_len v n hn]
theorem three_cells (v n : Nat) (w : World) (hn : n ≤ 3) (e : TypeId) : Lib.Bytes (w.alloc (.cells #[.int .u8 ((v : Int) / 65536 % 256), .int .u8 ((v : Int) / 256 % 256), .int .u8 ((v : Int) % 256)] e)) w.heap.size 0 (three v n) := by
  have ch (x : Nat) : ((UInt8.ofNat x).toNat : Int) = (x : Int) % 256 := by rw [UInt8.toNat_ofNat']; omega
  have e0 : #[Value.int .u8 ((v : Int) / 65536 % 256), .int .u8 ((v : Int) / 256 % 256), .int .u8 ((v : Int) % 256)] = (⟨vals [UInt8.ofNat (v / 65536), UInt8.ofNat (v / 256), UInt8.ofNat v]⟩ : Array Value) := by
    simp only [vals, List.map_cons, List.map_nil, ch]; rfl
  rw [e0]
  have h := Holds.lit w [UInt8.ofNat (v / 65536), UInt8.ofNat (v / 256), UInt8.ofNat v] e
  have h2 : Holds (w.alloc (.cells ⟨vals [UInt8.ofNat (v / 65536), UInt8.ofNat (v / 256), UInt8.ofNat v]⟩ e)) w.heap.size (threes v n) :=
    ⟨fun j c hj => h.1 j c (by
      unfold threes at hj
      rw [List.getElem?_take] at hj
      split at hj
      · exact hj
      · cases hj), h.2⟩
  exact h2.bytes
set_option maxHeartbeats 1000000 in
theorem bytes_any (v n : Nat) (w : World) (hv : v < 4294967296) (hn : n ≤ 3) :
    Calls Try.prog 12 #[.int .u32 (v : Int), .int .i64 (n : Int)] w fun e w' => e = .returned (.string (three v n)) ∧ Below w.heap.size w w' := by
  have k := Lib.run_convert_whole (P := Try.prog) _ 28 5 9 Try.underlying28 Try.underlying5 Try.underlying9 w.heap.size 0 (three v n) (three_cells v n w hn 5) 3
  rw [three_size v n hn] at k
  have hb : Below w.heap.size w (w.alloc (.cells #[.int .u8 ((v : Int) / 65536 % 256), .int .u8 ((v : Int) / 256 % 256), .int .u8 ((v : Int) % 256)] 5)) := (Below.refl _ _).alloc (Nat.le_refl _) _
  have HB := Lib.hid hb
  clear hb
  go_enter Try.func12, Try.ntmps12
  go_wp2
  go_ret
  exact ⟨rfl, HB.out⟩
def sign (d : Nat) : UInt8 := if d < 26 then UInt8.ofNat (65 + d) else if d < 52 then UInt8.ofNat (71 + d) else if d < 62 then UInt8.ofNat (d - 4) else if d = 62 then 43 else 47
def signsB : ByteArray := ByteArray.mk #[65, 66, 67, 68, 69, 70, 71, 72, 73, 74, 75, 76, 77, 78, 79, 80, 81, 82, 83, 84, 85, 86, 87, 88, 89, 90, 97, 98, 99, 100, 101, 102, 103, 104, 105, 106, 107, 108, 109, 110, 111, 112, 113, 114, 115, 116, 117, 118, 119, 120, 121, 122, 48, 49, 50, 51, 52, 53, 54, 55, 56, 57, 43, 47]
theorem sign_at : ∀ d : Fin 64, signsB.data.toList[d.1]? = some (sign d.1) := by decide
def fours (v k : Nat) : List UInt8 := (List.range 4).map fun i => if i < k then sign (v / 2 ^ (18 - 6 * i) % 64) else 61
theorem fours_len (v k : Nat) : (fours v k).length = 4 := by simp [fours]
theorem fours_get (v k i : Nat) (h : i < 4) : (fours v k)[i]? = some (if i < k then sign (v / 2 ^ (18 - 6 * i) % 64) else 61) := by simp [fours, h]
theorem fours_set (v k : Nat) (h : k < 4) : (fours v k).set k (sign (v / 2 ^ (18 - 6 * k) % 64)) = fours v (k + 1) := by
  apply List.ext_getElem?
  intro i
  by_cases hi : i < 4
  · rw [List.getElem?_set, fours_get _ _ _ hi]
    by_cases e : k = i
    · subst e
      rw [if_pos rfl, if_pos (by rw [fours_len]; exact h), fours_get _ _ _ hi, if_pos (by omega)]
    · rw [if_neg e, fours_get _ _ _ hi]
      by_cases e2 : i < k
      · rw [if_pos e2, if_pos (by omega)]
      · rw [if_neg e2, if_neg (by omega)]
  · rw [List.getElem?_eq_none (by rw [List.length_set, fours_len]; omega), List.getElem?_eq_none (by rw [fours_len]; omega)]
theorem six_bits (v k : Nat) (hv : v < 4294967296) : bits .and .u32 ((v : Int) / 2 ^ k) 63 = ((v / 2 ^ k % 64 : Nat) : Int) := by
  have h1 : (v : Int) / 2 ^ k = ((v / 2 ^ k : Nat) : Int) := by simp
  have h2 : v / 2 ^ k < 4294967296 := Nat.lt_of_le_of_lt (Nat.div_le_self _ _) hv
  have h3 := u32_and_nat (v / 2 ^ k) 63 h2 (by decide)
  have h4 : v / 2 ^ k &&& 63 = v / 2 ^ k % 64 := Nat.and_two_pow_sub_one_eq_mod _ 6
  rw [h1]
  refine Eq.trans h3 ?_
  rw [h4]
theorem pick (v k : Nat) (hv : v < 4294967296) (g : (bits .and .u32 ((v : Int) / 2 ^ k) 63).toNat < (ByteArray.mk #[65, 66, 67, 68, 69, 70, 71, 72, 73, 74, 75, 76, 77, 78, 79, 80, 81, 82, 83, 84, 85, 86, 87, 88, 89, 90, 97, 98, 99, 100, 101, 102, 103, 104, 105, 106, 107, 108, 109, 110, 111, 112, 113, 114, 115, 116, 117, 118, 119, 120, 121, 122, 48, 49, 50, 51, 52, 53, 54, 55, 56, 57, 43, 47]).size) :
    (ByteArray.mk #[65, 66, 67, 68, 69, 70, 71, 72, 73, 74, 75, 76, 77, 78, 79, 80, 81, 82, 83, 84, 85, 86, 87, 88, 89, 90, 97, 98, 99, 100, 101, 102, 103, 104, 105, 106, 107, 108, 109, 110, 111, 112, 113, 114, 115, 116, 117, 118, 119, 120, 121, 122, 48, 49, 50, 51, 52, 53, 54, 55, 56, 57, 43, 47])[(bits .and .u32 ((v : Int) / 2 ^ k) 63).toNat] = sign (v / 2 ^ k % 64) := by
  have h := six_bits v k hv
  have h2 : (bits .and .u32 ((v : Int) / 2 ^ k) 63).toNat = v / 2 ^ k % 64 := by rw [h]; rfl
  have h3 := sign_at ⟨v / 2 ^ k % 64, Nat.mod_lt _ (by decide)⟩
  have h4 : signsB.data.toList[(bits .and .u32 ((v : Int) / 2 ^ k) 63).toNat]? = some (sign (v / 2 ^ k % 64)) := by rw [h2]; exact h3
  have h5 : (bits .and .u32 ((v : Int) / 2 ^ k) 63).toNat < signsB.data.toList.length := g
  rw [List.getElem?_eq_getElem h5] at h4
  exact Option.some.inj h4
theorem four_next {wr : World} {g v k : Nat} (hv : v < 4294967296) (hk : k < 4) (h : Holds wr g (fours v k)) (gg : (bits .and .u32 ((v : Int) / 2 ^ (18 - 6 * k)) 63).toNat < (ByteArray.mk #[65, 66, 67, 68, 69, 70, 71, 72, 73, 74, 75, 76, 77, 78, 79, 80, 81, 82, 83, 84, 85, 86, 87, 88, 89, 90, 97, 98, 99, 100, 101, 102, 103, 104, 105, 106, 107, 108, 109, 110, 111, 112, 113, 114, 115, 116, 117, 118, 119, 120, 121, 122, 48, 49, 50, 51, 52, 53, 54, 55, 56, 57, 43, 47]).size) :
    Holds (wr.setCell ⟨g, k, none⟩ (.int .u8 (((ByteArray.mk #[65, 66, 67, 68, 69, 70, 71, 72, 73, 74, 75, 76, 77, 78, 79, 80, 81, 82, 83, 84, 85, 86, 87, 88, 89, 90, 97, 98, 99, 100, 101, 102, 103, 104, 105, 106, 107, 108, 109, 110, 111, 112, 113, 114, 115, 116, 117, 118, 119, 120, 121, 122, 48, 49, 50, 51, 52, 53, 54, 55, 56, 57, 43, 47])[(bits .and .u32 ((v : Int) / 2 ^ (18 - 6 * k)) 63).toNat]).toNat : Int))) g (fours v (k + 1)) := by
  rw [pick v _ hv gg, ← fours_set v k hk]
  exact h.set k _ (by rw [fours_len]; exact hk)
theorem four_start (v : Nat) (w : World) (e : TypeId) : Holds (w.alloc (.cells #[.int .u8 61, .int .u8 61, .int .u8 61, .int .u8 61] e)) w.heap.size (fours v 0) :=
  Holds.lit w (fours v 0) e
set_option maxHeartbeats 1000000 in
theorem four_any (v n : Nat) (w : World) (hv : v < 4294967296) (hn : n ≤ 4) :
    Calls Try.prog 13 #[.int .u32 (v : Int), .int .i64 (n : Int)] w fun e w' => e = .returned (.slice (some ⟨w.heap.size, 0, none⟩) 4 4) ∧ Holds w' w.heap.size (fours v n) ∧ Below w.heap.size w w' := by
  have HS := Lib.hid (four_start v w 5)
  have hb : Below w.heap.size w (w.alloc (.cells #[.int .u8 61, .int .u8 61, .int .u8 61, .int .u8 61] 5)) := (Below.refl _ _).alloc (Nat.le_refl _) _
  have HB := Lib.hid hb
  clear hb
  go_enter Try.func13, Try.ntmps13
  go_wp2_with fail
  go_loopw [9] (fun i wr => ∃ k : Nat, k ≤ n ∧ i = .int .i64 k ∧ Holds wr w.heap.size (fours v k) ∧ Below w.heap.size w wr) (fun i _ => n - (intOf i).toNat)
  case atStart => exact ⟨0, Nat.zero_le _, rfl, HS.out, HB.out⟩
  case round =>
    obtain ⟨k, hk, rfl, ho, hb⟩ := hrel
    have HO := Lib.hid ho
    have HW := Lib.hid hb
    clear ho hb
    by_cases hlt : k < n
    · have hk4 : k < 4 := by omega
      obtain ⟨hc, hf⟩ := HO.out.1 k _ (List.getElem?_eq_getElem (by rw [fours_len]; exact hk4))
      obtain ⟨x, hx⟩ : ∃ x, x = ((fours v k)[k]'(by rw [fours_len]; exact hk4)).toNat := ⟨_, rfl⟩
      rw [← hx] at hc
      clear hx
      have hn := six_bits v (18 - 6 * k) hv
      have hidx : 0 ≤ bits .and .u32 ((v : Int) / 2 ^ (18 - 6 * k)) 63 := by rw [hn]; omega
      have hidy : bits .and .u32 ((v : Int) / 2 ^ (18 - 6 * k)) 63 < 64 := by rw [hn]; omega
      clear hn
      go_wp2
      go_roundw
      case rel => exact ⟨k + 1, by omega, by go_num, four_next hv hk4 HO.out _, HW.out.setCell (Nat.le_refl _) _⟩
      case measure => simp [intOf]; omega
    · obtain rfl : k = n := by omega
      go_wp2
      go_ret
      exact ⟨rfl, HO.out, HW.out⟩
end Six
end Go.Proofs.Ytfcpicejifolmab
