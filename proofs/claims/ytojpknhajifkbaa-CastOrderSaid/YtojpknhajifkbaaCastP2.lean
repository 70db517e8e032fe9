/-
  The law CastOrder: greater numbers, the first one the greater.
-/
import Derived.Test.YtojpknhajifkbaaCastP
import Derived.Deep.QuietTactic
import Derived.BigQuiet
import Derived.WalkSmall
namespace Go.Proofs.Ytojpknhajifkbaa
open Go.ChangeShapes Go.WideShapes Go.ChangeAt Go.RowKit
namespace Cast
set_option linter.unusedVariables false

set_option maxRecDepth 100000 in
set_option maxHeartbeats 2000000 in
theorem order_l1 (a b x y n k P Q R S d : Nat) (w : World) (hA : (a : Int) / 2 = (y : Int)) (hB : (b : Int) / 2 = (x : Int)) (ha : (a : Int) ≤ 18446744073709551615) (hb : (b : Int) ≤ 18446744073709551615) (hxy : x < y) (hy : (y : Int) ≤ 9223372036854775807) (hn : n = bitLen y) (hn2 : n = k + 53) (hk : 1 ≤ k) (hk2 : k ≤ 10)
    (hP : ((D (x : Int) : Nat) : Int) = P) (hQ : ((D (y : Int) : Nat) : Int) = Q) (hR : ((Fl (x : Int) : Nat) : Int) = R) (hS : ((Fl (y : Int) : Nat) : Int) = S) (hPQ : P ≤ Q) (hRS : R ≤ S) (hql : (Q : Int) ≤ 9223372036854775807) (L : Nat) (hL : y / 2 ^ k * 2 ^ k = L) (hLy : L ≤ y) (hd : ((D (L : Int) : Nat) : Int) = d) (hdl : (d : Int) ≤ 9223372036854775806) (hc1 : (y : Int) - (L : Int) < wrap64 (2 ^ (k - 1)) → (Q : Int) = (d : Int)) (hc2 : wrap64 (2 ^ (k - 1)) < (y : Int) - (L : Int) → (Q : Int) = (d : Int) + 1) (hc3 : wrap64 (2 ^ (k - 1)) ≤ (y : Int) - (L : Int) → (y : Int) - (L : Int) ≤ wrap64 (2 ^ (k - 1)) → (Q : Int) = (d : Int) + (d : Int) % 2) :
    Calls Try.prog 7 #[.int .u64 (a : Int), .int .u64 (b : Int)] w fun e w' => e = .returned (.bool true) ∧ ∃ q, w' = w.drewN q := by
  have HD := Lib.hid hd
  have HY1 : -9223372036854775808 ≤ (y : Int) := by omega
  have HY2 := hy
  have C1 := Lib.hid hc1
  have C2 := Lib.hid hc2
  have C3 := Lib.hid hc3
  clear hc1 hc2 hc3
  have HL : Hid (wrap64 ((y : Int) / 2 ^ k * 2 ^ k) = (L : Int)) := by
    show wrap64 ((y : Int) / 2 ^ k * 2 ^ k) = (L : Int)
    rw [show (y : Int) / 2 ^ k * 2 ^ k = ((y / 2 ^ k * 2 ^ k : Nat) : Int) by simp, hL]
    unfold wrap64; omega
  have hLb : (L : Int) ≤ 9223372036854775807 := by omega
  clear hd hL
  have HP := Lib.hid hP
  have HQ := Lib.hid hQ
  have HR := Lib.hid hR
  have HS := Lib.hid hS
  have HN := Lib.hid hn
  have HNk := Lib.hid hn2
  have hnb : 53 < (n : Int) := by omega
  have hnb2 : (n : Int) ≤ 63 := by omega
  have hx0 : (x : Int) ≤ 9223372036854775807 := by omega
  clear hP hQ hR hS hn hn2
  go_enter Try.func7, Try.ntmps7
  go_wp2_with fail
  refine (begun_any _).mono ?_; rintro e w' ⟨rfl, rfl⟩
  go_wp2_with fail
  refine (dbl_val (x : Int) P _ (by omega) (by omega) HP.out).mono ?_; rintro e w' ⟨rfl, rfl⟩
  go_wp2_with fail
  refine (dbl_val (y : Int) Q _ (by omega) (by omega) HQ.out).mono ?_; rintro e w' ⟨rfl, rfl⟩
  go_wp2_with fail
  refine (flt_val (x : Int) R _ (by omega) (by omega) HR.out).mono ?_; rintro e w' ⟨rfl, rfl⟩
  go_wp2_with fail
  refine (flt_val (y : Int) S _ (by omega) (by omega) HS.out).mono ?_; rintro e w' ⟨rfl, rfl⟩
  go_wp2_with fail
  go_loop [7] (fun i => ∃ e : Nat, e ≤ n ∧ i = .int .i64 e) (fun i => n - (intOf i).toNat)
  case atStart => exact ⟨0, Nat.zero_le _, rfl⟩
  case round =>
    obtain ⟨e, he, rfl⟩ := hrel
    by_cases hlt : e < n
    · have hs := shr_pos y n e HN.out hlt
      go_wp2_with fail
      go_round
      case rel => exact ⟨e + 1, by omega, by go_num⟩
      case measure => simp [intOf]; omega
    · obtain rfl : e = n := by omega
      have hs := shr_nil y e HN.out
      go_wp2_with fail
      rw [show e - 53 = k by have := HNk.out; omega, show (e : Int) - 53 = (k : Int) by have := HNk.out; omega, HL.out]
      go_quiet ((go_at_call 10; exact Calls.quiet_of_same ((dbl_val (L : Int) d _ (by omega) (by omega) HD.out).mono fun _ _ h => ⟨h.1, h.2.symm⟩)))
      go_wp2_with fail
      · have HH := Lib.hid (C1.out (by assumption))
        refine (dbl_val (y : Int) Q _ HY1 HY2 HQ.out).mono ?_; rintro e w' ⟨rfl, rfl⟩
        go_wp2_with fail
        go_ret
        exact ⟨ret_bool (beq_iff_eq.2 HH.out), _, rfl⟩
      · have HH := Lib.hid (C2.out (by assumption))
        refine (dbl_val (y : Int) Q _ HY1 HY2 HQ.out).mono ?_; rintro e w' ⟨rfl, rfl⟩
        go_wp2_with fail
        go_ret
        exact ⟨ret_bool (beq_iff_eq.2 HH.out), _, rfl⟩
      · have HH := Lib.hid (C3.out (by assumption) (by assumption))
        refine (dbl_val (y : Int) Q _ HY1 HY2 HQ.out).mono ?_; rintro e w' ⟨rfl, rfl⟩
        go_wp2_with fail
        go_ret
        exact ⟨ret_bool (beq_iff_eq.2 HH.out), _, rfl⟩
end Cast
end Go.Proofs.Ytojpknhajifkbaa
