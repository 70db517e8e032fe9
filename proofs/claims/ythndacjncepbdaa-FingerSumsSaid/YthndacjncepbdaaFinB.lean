/-
  The test 'begun' ahead of each law of package finger, and the law that a fingerprint is told by sixteen digits.
-/
import Derived.Test.YthndacjncepbdaaFin
import Derived.IntWalk
namespace Go.Proofs.Ythndacjncepbdaa
open Go.ChangeShapes Go.WideShapes Go.ChangeAt Go.RowKit
namespace Fin

theorem of_empty (w : World) : Calls Try.prog 16 #[.string { data := #[] }] w fun e w' => e = .returned (.int .u64 13933329357911598997) ∧ w = w' :=
  of_any { data := #[] } w (by decide)
theorem hexs_E : hexs 13933329357911598997 = [99, 49, 53, 100, 50, 49, 51, 97, 97, 52, 100, 55, 97, 55, 57, 53] := by decide +kernel
theorem text_E (w : World) : Calls Try.prog 18 #[.int .u64 13933329357911598997] w fun e w' => e = .returned (.string { data := #[99, 49, 53, 100, 50, 49, 51, 97, 97, 52, 100, 55, 97, 55, 57, 53] }) ∧ Below w.heap.size w w' := by
  have h := text_any 13933329357911598997 w (by decide)
  rw [hexs_E] at h
  exact h

theorem begun_any (w : World) : Calls Try.prog 15 #[] w fun e w' => e = .returned (.bool true) ∧ Below w.heap.size w w' := by
  go_enter Try.func15, Try.ntmps15
  go_wp2_with (first | (go_at_call 16; refine (of_empty _).mono ?_; rintro e w' ⟨rfl, rfl⟩) | (go_at_call 18; refine (text_E _).mono ?_; rintro e w' ⟨rfl, hb⟩))
  go_ret
  exact ⟨rfl, hb⟩

/-- The sixteen digits, one by one. -/
def IsHex (v : Nat) (T : ByteArray) : Prop := T.size = 16 ∧ ∀ i (h : i < T.size), T[i] = hexd (v / 16 ^ (15 - i) % 16)
theorem text_abs (v : Nat) (w : World) (hv : v < 18446744073709551616) :
    Calls Try.prog 18 #[.int .u64 v] w fun e w' => ∃ T, e = .returned (.string T) ∧ IsHex v T ∧ Below w.heap.size w w' :=
  (text_any v w hv).mono fun e w' ⟨he, hb⟩ => ⟨_, he, ⟨hexs_size v, fun i h => by
    show (hexs v).toArray[i]'(by simpa [ByteArray.size] using h) = _
    simp [hexs]⟩, hb⟩

theorem hex_step (v k d : Nat) (hv : v < 18446744073709551616) (hk : k < 16) (hd : d = v / 16 ^ (15 - k) % 16) (z : Int) (hz : z = d) :
    Value.int .u64 (bits .or .u64 (IntKind.u64.wrap ((v : Int) / 16 ^ (16 - k) * 16)) z) = .int .u64 (v / 16 ^ (16 - (k + 1)) : Nat) := by
  have h1 : (v : Int) / 16 ^ (16 - k) = ((v / 16 ^ (16 - k) : Nat) : Int) := by simp
  have h2 : v / 16 ^ (16 - k) = v / 16 ^ (15 - k) / 16 := by
    rw [Nat.div_div_eq_div_mul, show 16 - k = (15 - k) + 1 by omega, Nat.pow_succ]
  have h3 : v / 16 ^ (15 - k) ≤ v := Nat.div_le_self _ _
  obtain ⟨y, hy⟩ : ∃ y, y = v / 16 ^ (15 - k) := ⟨_, rfl⟩
  rw [← hy] at h2 h3 hd
  rw [h1, h2, hz, show 16 - (k + 1) = 15 - k by omega, ← hy]
  have h4 : IntKind.u64.wrap (((y / 16 : Nat) : Int) * 16) = ((16 * (y / 16) : Nat) : Int) := by
    rw [IntWalk.u64_in _ (by omega)]; omega
  rw [h4, u64_or_nat _ _ (by omega) (by omega)]
  have h5 : 16 * (y / 16) + d = 16 * (y / 16) ||| d := Nat.two_pow_add_eq_or_of_lt (i := 4) (by omega) (y / 16)
  rw [← h5, hd]
  congr 2
  omega
set_option maxHeartbeats 1000000 in
theorem texts_law (v : Nat) (w : World) (hv : v < 18446744073709551616) :
    Calls Try.prog 9 #[.int .u64 v] w fun e w' => e = .returned (.bool true) ∧ Below w.heap.size w w' := by
  have HV := Lib.hid hv; clear hv
  go_enter Try.func9, Try.ntmps9
  go_wp2_with (go_at_call 15; refine (begun_any _).mono ?_; rintro e w1 ⟨rfl, hb1⟩)
  go_wp2_with fail
  refine (text_abs v _ HV.out).mono ?_
  rintro e w2 ⟨T, rfl, hH, hb2⟩
  have hsz := hH.1
  have hne : ((T.size : Int) != 16) = false := by rw [hsz]; rfl
  have HH := Lib.hid hH; clear hH
  have HS := Lib.hid hsz; clear hsz
  have hbel := hb1.trans (hb2.mono hb1.size)
  clear hb1 hb2
  go_wp2
  go_loop [4, 5] (fun x i => ∃ k : Nat, k ≤ 16 ∧ i = .int .i64 k ∧ x = .int .u64 (v / 16 ^ (16 - k) : Nat)) (fun _ i => 16 - (intOf i).toNat)
  case atStart => exact ⟨0, by omega, rfl, by rw [Nat.div_eq_of_lt (show v < 16 ^ (16 - 0) from HV.out)]; rfl⟩
  case round =>
    obtain ⟨k, hk, rfl, rfl⟩ := hrel
    by_cases hlt : k < 16
    · have hlT : k < T.size := by rw [HS.out]; exact hlt
      have hT := HH.out.2 k hlT
      obtain ⟨d, hd⟩ : ∃ d, d = v / 16 ^ (15 - k) % 16 := ⟨_, rfl⟩
      rw [← hd] at hT
      have hd16 : d < 16 := by rw [hd]; exact Nat.mod_lt _ (by decide)
      have HD := Lib.hid hd; clear hd
      by_cases hd10 : d < 10
      · have hc : (T[k]'hlT).toNat = 48 + d := by rw [hT, hexd, if_pos hd10]; simp; omega
        clear hT
        go_wp2
        go_round
        case rel => exact ⟨k + 1, by omega, by go_num, hex_step v k d HV.out hlt HD.out _ (by omega)⟩
        case measure => simp [intOf]; omega
      · have hc : (T[k]'hlT).toNat = 87 + d := by rw [hT, hexd, if_neg hd10]; simp; omega
        clear hT
        go_wp2
        go_round
        case rel => exact ⟨k + 1, by omega, by go_num, hex_step v k d HV.out hlt HD.out _ (by omega)⟩
        case measure => simp [intOf]; omega
    · obtain rfl : k = 16 := by omega
      go_wp2
      go_ret
      exact ⟨by simp, hbel⟩
theorem u64_lt {a : Int} (h : (Lit.int .u64 a).wf = true) : 0 ≤ a ∧ a < 18446744073709551616 := by
  have := bounds_u64 h; omega
theorem texts_law_wf (a0 : Int) (w : World) (h : (Lit.int .u64 a0).wf = true) :
    Calls Try.prog 9 #[.int .u64 a0] w fun e w' => e = .returned (.bool true) ∧ Below w.heap.size w w' := by
  have hb := u64_lt h
  obtain ⟨n, rfl⟩ := Int.eq_ofNat_of_zero_le hb.1
  exact texts_law n w (by omega)
end Fin
end Go.Proofs.Ythndacjncepbdaa
