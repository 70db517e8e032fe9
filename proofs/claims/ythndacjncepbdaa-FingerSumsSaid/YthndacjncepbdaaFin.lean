/-
  Package finger over plain numbers: what finger.Of computes, and its contract. No condition but that a string fits in memory.
-/
import Derived.Test.YthndacjncepbdaaRows
import Derived.WalkKit
import Derived.ProofKit
import Derived.OpenShut
import Derived.ShutString
import Derived.WalkLawsBesides
import Derived.WalkSpells
import Derived.Outline
import Derived.Laws.BitsAllLaws
import Derived.Lib.Hide
import Derived.Lib.SlBytesRow
namespace Go.Proofs.Ythndacjncepbdaa
open Go.ChangeShapes Go.WideShapes Go.ChangeAt Go.RowKit
namespace Fin
theorem ret_int {k : IntKind} {a b : Int} (h : a = b) : Ending.returned (.int k a) = .returned (.int k b) := by rw [h]

def E : Nat := 13933329357911598997
def fstep (v : Nat) : Nat := if v % 2 = 1 then (v / 2) ^^^ E else v / 2
def fiter : Nat → Nat → Nat
  | 0, v => v
  | n + 1, v => fstep (fiter n v)
def fbyte (v : Nat) (c : UInt8) : Nat := fiter 8 (v ^^^ c.toNat)
def finger (l : List UInt8) : Nat := l.foldl fbyte E
theorem fstep_lt (v : Nat) (h : v < 18446744073709551616) : fstep v < 18446744073709551616 := by
  unfold fstep; split
  · exact Nat.xor_lt_two_pow (n := 64) (by omega) (by decide)
  · omega
theorem fiter_lt (n v : Nat) (h : v < 18446744073709551616) : fiter n v < 18446744073709551616 := by
  induction n with
  | zero => exact h
  | succ n ih => exact fstep_lt _ ih
theorem fbyte_lt (v : Nat) (c : UInt8) (h : v < 18446744073709551616) : fbyte v c < 18446744073709551616 :=
  fiter_lt _ _ (Nat.xor_lt_two_pow (n := 64) h (by have := c.toNat_lt; omega))
theorem foldl_lt (l : List UInt8) : ∀ v, v < 18446744073709551616 → l.foldl fbyte v < 18446744073709551616 := by
  induction l with
  | nil => intro v h; exact h
  | cons c l ih => intro v h; exact ih _ (fbyte_lt v c h)
theorem finger_lt (l : List UInt8) : finger l < 18446744073709551616 := foldl_lt l _ (by decide)
theorem take_snoc (s : ByteArray) (k : Nat) (h : k < s.size) : s.data.toList.take (k + 1) = s.data.toList.take k ++ [s[k]] := by
  rw [List.take_succ_eq_append_getElem (by simpa using h)]; rfl
theorem finger_snoc (l : List UInt8) (c : UInt8) : finger (l ++ [c]) = fbyte (finger l) c := by
  simp [finger]
theorem and_one (v : Nat) (h : v < 18446744073709551616) : bits .and .u64 (v : Int) 1 = ((v % 2 : Nat) : Int) := by
  have := u64_and_nat v 1 h (by decide)
  rw [Nat.and_one_is_mod] at this
  exact this
theorem step_odd (v : Nat) (h : v < 18446744073709551616) (ho : (bits .and .u64 (v : Int) 1 == 1) = true) : Value.int .u64 (bits .xor .u64 ((v : Int) / 2) 13933329357911598997) = .int .u64 (fstep v : Nat) := by
  rw [and_one v h] at ho
  have h1 : v % 2 = 1 := by have := beq_iff_eq.1 ho; omega
  have := u64_xor_nat (v / 2) E (by omega) (by decide)
  unfold fstep
  rw [if_pos h1, ← this]
  rfl
theorem step_even (v : Nat) (h : v < 18446744073709551616) (ho : (bits .and .u64 (v : Int) 1 == 1) = false) : Value.int .u64 ((v : Int) / 2) = .int .u64 (fstep v : Nat) := by
  rw [and_one v h] at ho
  have h1 : ¬ v % 2 = 1 := by have := beq_eq_false_iff_ne.1 ho; omega
  unfold fstep
  rw [if_neg h1]
  congr 1

set_option maxHeartbeats 400000 in
theorem of_any (s : ByteArray) (w : World) (hs : s.size ≤ maxLen) :
    Calls Try.prog 16 #[.string s] w fun e w' => e = .returned (.int .u64 (finger s.data.toList)) ∧ w = w' := by
  unfold maxLen at hs
  go_enter Try.func16, Try.ntmps16
  go_wp2
  go_loop [3, 8] (fun v i => ∃ k : Nat, k ≤ s.size ∧ i = .int .i64 k ∧ v = .int .u64 (finger (s.data.toList.take k))) (fun _ i => s.size - (intOf i).toNat)
  case atStart => exact ⟨0, Nat.zero_le _, rfl, rfl⟩
  case round =>
    obtain ⟨k, hk, rfl, rfl⟩ := hrel
    by_cases hlt : k < s.size
    · have hb : (s[k].toNat : Int) < 256 := by have := s[k].toNat_lt; omega
      have hb0 : 0 ≤ (s[k].toNat : Int) := by omega
      have HN : Hid (fbyte (finger (s.data.toList.take k)) s[k] = finger (s.data.toList.take (k + 1))) := by
        rw [take_snoc s k hlt, finger_snoc]; rfl
      go_wp2
      rw [u64_xor_nat _ _ (finger_lt _) (by omega)]
      clear hb hb0
      obtain ⟨y, hy⟩ : ∃ y, y = finger (s.data.toList.take k) ^^^ s[k].toNat := ⟨_, rfl⟩
      have hyl : y < 18446744073709551616 := by
        rw [hy]; exact Nat.xor_lt_two_pow (n := 64) (finger_lt _) (by have := s[k].toNat_lt; omega)
      have HL := Lib.hid hyl; clear hyl
      rw [← hy]
      have HY : Hid (fbyte (finger (s.data.toList.take k)) s[k] = fiter 8 y) := by rw [hy]; rfl
      clear hy
      go_loop [3, 17] (fun v i => ∃ j : Nat, j ≤ 8 ∧ i = .int .i64 j ∧ v = .int .u64 (fiter j y)) (fun _ i => 8 - (intOf i).toNat)
      case atStart => exact ⟨0, Nat.zero_le _, rfl, rfl⟩
      case round =>
        obtain ⟨j, hj, rfl, rfl⟩ := hrel
        by_cases hlt : j < 8
        · go_wp2
          · have ho : (bits .and .u64 ((fiter j y : Nat) : Int) 1 == 1) = true := by assumption
            go_round
            case rel => exact ⟨j + 1, by omega, by go_num, step_odd _ (fiter_lt _ _ HL.out) ho⟩
            case measure => simp [intOf]; omega
          · have ho : (bits .and .u64 ((fiter j y : Nat) : Int) 1 == 1) = false := by assumption
            go_round
            case rel => exact ⟨j + 1, by omega, by go_num, step_even _ (fiter_lt _ _ HL.out) ho⟩
            case measure => simp [intOf]; omega
        · obtain rfl : j = 8 := by omega
          go_wp2
          go_round
          case rel => exact ⟨k + 1, by omega, by go_num, by rw [← HN.out, HY.out]⟩
          case measure => simp [intOf]; omega
    · obtain rfl : k = s.size := by omega
      go_wp2
      go_ret
      exact ⟨ret_int (congrArg (fun l => ((finger l : Nat) : Int)) (List.take_of_length_le (by simp))), rfl⟩

theorem info8 : (Try.prog.info? 5).map (fun i => (i.zero, i.size, i.bytes)) = some (some (.int .u8 0), 1, 1) := by kernel_rfl
def hexd (d : Nat) : UInt8 := if d < 10 then UInt8.ofNat (48 + d) else UInt8.ofNat (87 + d)
def hexs (v : Nat) : List UInt8 := (List.range 16).map fun i => hexd (v / 16 ^ (15 - i) % 16)
def row (v k : Nat) : List Value := (List.range 16).map fun i => if i < k then .int .u8 ((hexd (v / 16 ^ (15 - i) % 16)).toNat : Int) else .int .u8 0

theorem row_get (v k i : Nat) (h : i < 16) : (row v k)[i]? = some (if i < k then .int .u8 ((hexd (v / 16 ^ (15 - i) % 16)).toNat : Int) else .int .u8 0) := by
  simp [row, h]
theorem row_set (v k : Nat) (h : k < 16) : (row v k).set k (.int .u8 ((hexd (v / 16 ^ (15 - k) % 16)).toNat : Int)) = row v (k + 1) := by
  apply List.ext_getElem?
  intro i
  by_cases hi : i < 16
  · rw [List.getElem?_set, row_get _ _ _ hi]
    by_cases e : k = i
    · subst e
      rw [if_pos rfl, if_pos (by simp [row, h]), row_get _ _ _ hi, if_pos (by omega)]
    · rw [if_neg e, row_get _ _ _ hi]
      by_cases e2 : i < k
      · rw [if_pos e2, if_pos (by omega)]
      · rw [if_neg e2, if_neg (by omega)]
  · rw [List.getElem?_eq_none (by simp [row]; omega), List.getElem?_eq_none (by simp [row]; omega)]
theorem nibble (v k : Nat) (hv : v < 18446744073709551616) (hk : k < 16) : bits .and .u64 ((v : Int) / 2 ^ (60 - 4 * k)) 15 = ((v / 16 ^ (15 - k) % 16 : Nat) : Int) := by
  have h1 : (v : Int) / 2 ^ (60 - 4 * k) = ((v / 2 ^ (60 - 4 * k) : Nat) : Int) := by simp
  have h2 : v / 2 ^ (60 - 4 * k) < 18446744073709551616 := Nat.lt_of_le_of_lt (Nat.div_le_self _ _) hv
  have h3 := u64_and_nat (v / 2 ^ (60 - 4 * k)) 15 h2 (by decide)
  have h4 : v / 2 ^ (60 - 4 * k) &&& 15 = v / 2 ^ (60 - 4 * k) % 16 := Nat.and_two_pow_sub_one_eq_mod _ 4
  have h5 : 2 ^ (60 - 4 * k) = 16 ^ (15 - k) := by
    rw [show 60 - 4 * k = 4 * (15 - k) by omega, Nat.pow_mul]
  rw [h1]
  refine Eq.trans h3 ?_
  rw [h4, h5]
theorem digit_at (d : Nat) (h : d < 16) (g : d < (ByteArray.mk #[48, 49, 50, 51, 52, 53, 54, 55, 56, 57, 97, 98, 99, 100, 101, 102]).size) : (ByteArray.mk #[48, 49, 50, 51, 52, 53, 54, 55, 56, 57, 97, 98, 99, 100, 101, 102])[d] = hexd d := by
  rcases (show d = 0 ∨ d = 1 ∨ d = 2 ∨ d = 3 ∨ d = 4 ∨ d = 5 ∨ d = 6 ∨ d = 7 ∨ d = 8 ∨ d = 9 ∨ d = 10 ∨ d = 11 ∨ d = 12 ∨ d = 13 ∨ d = 14 ∨ d = 15 by omega) with rfl | rfl | rfl | rfl | rfl | rfl | rfl | rfl | rfl | rfl | rfl | rfl | rfl | rfl | rfl | rfl <;> rfl
theorem digit_val (v k : Nat) (hv : v < 18446744073709551616) (hk : k < 16) (g : (bits .and .u64 ((v : Int) / 2 ^ (60 - 4 * k)) 15).toNat < (ByteArray.mk #[48, 49, 50, 51, 52, 53, 54, 55, 56, 57, 97, 98, 99, 100, 101, 102]).size) :
    ((ByteArray.mk #[48, 49, 50, 51, 52, 53, 54, 55, 56, 57, 97, 98, 99, 100, 101, 102])[(bits .and .u64 ((v : Int) / 2 ^ (60 - 4 * k)) 15).toNat]) = hexd (v / 16 ^ (15 - k) % 16) := by
  have h := nibble v k hv hk
  have h2 : (bits .and .u64 ((v : Int) / 2 ^ (60 - 4 * k)) 15).toNat = v / 16 ^ (15 - k) % 16 := by rw [h]; rfl
  rw [← digit_at _ (Nat.mod_lt _ (by decide)) (by rw [← h2]; exact g)]
  congr 1
theorem next_row {wr : World} {B e : Nat} {v k : Nat} (hv : v < 18446744073709551616) (hk : k < 16) (ho : wr.ownsRow B e 1 (.slice (some ⟨B, 0, none⟩) 16 16) 16 (row v k)) (g : (bits .and .u64 ((v : Int) / 2 ^ (60 - 4 * k)) 15).toNat < (ByteArray.mk #[48, 49, 50, 51, 52, 53, 54, 55, 56, 57, 97, 98, 99, 100, 101, 102]).size) :
    (wr.setCell ⟨B, k, none⟩ (.int .u8 (((ByteArray.mk #[48, 49, 50, 51, 52, 53, 54, 55, 56, 57, 97, 98, 99, 100, 101, 102])[(bits .and .u64 ((v : Int) / 2 ^ (60 - 4 * k)) 15).toNat]).toNat : Int))).ownsRow B e 1 (.slice (some ⟨B, 0, none⟩) 16 16) 16 (row v (k + 1)) := by
  rw [digit_val v k hv hk g, ← row_set v k hk]
  exact (ho.stored k _).1
theorem hexs_size (v : Nat) : (ByteArray.mk (hexs v).toArray).size = 16 := by simp [ByteArray.size, hexs]
theorem hex_bytes {wr : World} {B e : Nat} {v : Nat} (ho : wr.ownsRow B e 1 (.slice (some ⟨B, 0, none⟩) 16 16) 16 (row v 16)) : Lib.Bytes wr B 0 ⟨(hexs v).toArray⟩ := by
  intro i hi
  have hi16 : i < 16 := by rw [hexs_size] at hi; exact hi
  have := ho.cellAt i (by omega)
  rw [Nat.zero_add, this, row_get _ _ _ hi16, if_pos hi16]
  have : (ByteArray.mk (hexs v).toArray)[i] = hexd (v / 16 ^ (15 - i) % 16) := by
    show (hexs v).toArray[i]'(by simpa [ByteArray.size] using hi) = _
    simp [hexs]
  exact congrArg (fun b : UInt8 => some (Value.int .u8 (b.toNat : Int))) this.symm
set_option maxHeartbeats 1000000 in
theorem text_any (v : Nat) (w : World) (hv : v < 18446744073709551616) :
    Calls Try.prog 18 #[.int .u64 v] w fun e w' => e = .returned (.string ⟨(hexs v).toArray⟩) ∧ Below w.heap.size w w' := by
  obtain ⟨i0, hi, hz0, hz1, hz2⟩ := info_parts info8
  have HV := Lib.hid hv; clear hv
  go_enter Try.func18, Try.ntmps18
  go_wp2_with (at_make; refine wpList_make_full _ rfl _ _ 28 rfl w.heap.size 5 i0 (.int .u8 0) 1 Try.underlying28 hi hz0 hz1 .i64 .i64 16 16 16 rfl rfl rfl rfl (by rw [hz2]; omega) (by unfold maxLen; omega) (Nat.le_refl _) ?_)
  intro w1 hown hgr
  have hbel : Below w.heap.size w w1 := (Below.refl _ _).grown hgr (Nat.le_refl _) (by intro k h; cases h)
  have hown0 : w1.ownsRow w.heap.size 5 1 (.slice (some ⟨w.heap.size, 0, none⟩) 16 16) 16 (row v 0) := by
    have e : row v 0 = (madeCells (Value.int .u8 0).cells (16 * 1)).toList := by
      rw [show (Value.int .u8 0).cells = #[Value.int .u8 0] from rfl, toList_madeCells_one]; rfl
    rw [e]; exact hown
  clear hown hgr hi hz0 hz1 hz2
  go_wp2
  go_loopw [8] (fun i wr => ∃ k : Nat, k ≤ 16 ∧ i = .int .i64 k ∧ wr.ownsRow w.heap.size 5 1 (.slice (some ⟨w.heap.size, 0, none⟩) 16 16) 16 (row v k) ∧ Below w.heap.size w wr) (fun i _ => 16 - (intOf i).toNat)
  case atStart => exact ⟨0, by omega, rfl, hown0, hbel⟩
  case round =>
    obtain ⟨k, hk, rfl, ho, hb⟩ := hrel
    clear hown0 hbel
    by_cases hlt : k < 16
    · have hc := ho.cellAt k (by omega)
      have hf := ho.frozenAt k
      obtain ⟨old, hold⟩ : ∃ old, (row v k)[k]? = some old := ⟨_, row_get v k k hlt⟩
      rw [hold] at hc
      clear hold
      have hn := nibble v k HV.out hlt
      have hidx : 0 ≤ bits .and .u64 ((v : Int) / 2 ^ (60 - 4 * k)) 15 := by rw [hn]; omega
      have hidy : bits .and .u64 ((v : Int) / 2 ^ (60 - 4 * k)) 15 < 16 := by rw [hn]; omega
      clear hn
      go_wp2
      go_roundw
      case rel => exact ⟨k + 1, by omega, by go_num, next_row HV.out hlt ho _, hb.setCell (Nat.le_refl _) _⟩
      case measure => simp [intOf]; omega
    · obtain rfl : k = 16 := by omega
      have hcv : (convert 28 9 (.slice (some ⟨w.heap.size, 0, none⟩) 16 16)).run Try.prog wr = .ok (.string ⟨(hexs v).toArray⟩) wr := by
        have := Lib.run_convert_whole (P := Try.prog) wr 28 5 9 Try.underlying28 Try.underlying5 Try.underlying9 w.heap.size 0 ⟨(hexs v).toArray⟩ (hex_bytes ho) 16
        rw [hexs_size v] at this
        exact this
      clear hk hlt
      go_wp2
      go_ret
      exact ⟨rfl, hb⟩
end Fin
end Go.Proofs.Ythndacjncepbdaa
