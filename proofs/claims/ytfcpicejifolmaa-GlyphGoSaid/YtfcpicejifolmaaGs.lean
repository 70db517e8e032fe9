/-
  glyph's small functions: contracts. No condition.
-/
import Derived.Test.YtfcpicejifolmaaGm
import Derived.Test.YtfcpicejifolmaaRp
import Derived.Handy
namespace Go.Proofs.Ytfcpicejifolmaa
open Go.ChangeShapes Go.WideShapes Go.ChangeAt Go.RowKit
namespace Gl
set_option linter.unusedVariables false
set_option linter.unusedSimpArgs false
theorem and8 (c k : Nat) (hc : c < 256) (hk : 2 ^ k - 1 < 256) : bits .and .u8 (c : Int) ((2 ^ k - 1 : Nat) : Int) = ((c % 2 ^ k : Nat) : Int) := by
  rw [u8_and_nat c _ hc hk, Nat.and_two_pow_sub_one_eq_mod]
theorem or8d (a b k : Nat) (ha : a < 256) (hb : b < 2 ^ k) (hk : 2 ^ k ≤ 256) (hd : a % 2 ^ k = 0) : bits .or .u8 (a : Int) (b : Int) = ((a + b : Nat) : Int) := by
  rw [u8_or_nat a b ha (by omega)]
  congr 1
  have h := Nat.two_pow_add_eq_or_of_lt (i := k) (b := b) hb (a / 2 ^ k)
  have e : 2 ^ k * (a / 2 ^ k) = a := by have := Nat.div_add_mod a (2 ^ k); omega
  rw [e] at h
  exact h.symm
set_option maxHeartbeats 1000000 in
set_option maxRecDepth 100000 in
theorem is_any (r : Nat) (hr : r < 4294967296) (w : World) :
    Calls Try.prog 49 #[.int .u32 (r : Int)] w fun e w' => e = .returned (.bool (isPt r)) ∧ w = w' := by
  by_cases h1 : r ≤ 1114111
  · have hd1 : decide ((r : Int) ≤ 1114111) = true := by simp; omega
    by_cases h2 : r / 2048 = 27
    · have HE : (isPt r = false) := by unfold isPt; rw [h2]; simp
      have h3 : (r : Int) / 2048 = 27 := by omega
      clear h1 h2
      rw [HE]; clear HE
      go_enter Try.func49, Try.ntmps49
      go_wp2
      go_ret
      exact ⟨rfl, rfl⟩
    · have HE : (isPt r = true) := by unfold isPt; simp [h1, h2]
      have h3 : ((r : Int) / 2048 == 27) = false := by rw [beq_eq_false_iff_ne]; omega
      have h4 : ¬ (r : Int) / 2048 = 27 := by omega
      clear h1 h2
      rw [HE]; clear HE
      go_enter Try.func49, Try.ntmps49
      go_wp2
      go_ret
      exact ⟨by simp [bne, h3], rfl⟩
  · have HE : (isPt r = false) := by unfold isPt; simp [h1]
    have hd1 : decide ((r : Int) ≤ 1114111) = false := by simp; omega
    clear h1
    rw [HE]; clear HE
    go_enter Try.func49, Try.ntmps49
    go_wp2
    go_ret
    exact ⟨rfl, rfl⟩
set_option maxHeartbeats 1000000 in
set_option maxRecDepth 100000 in
theorem length_any (r : Nat) (hr : r < 4294967296) (w : World) :
    Calls Try.prog 50 #[.int .u32 (r : Int)] w fun e w' => e = .returned (.int .i64 (glen r : Nat)) ∧ w = w' := by
  by_cases h1 : r < 128
  · have HE : (glen r = 1) := by unfold glen; rw [if_pos h1]
    rw [HE]; clear HE
    go_enter Try.func50, Try.ntmps50
    go_wp2
    go_ret
    exact ⟨rfl, rfl⟩
  · by_cases h2 : r < 2048
    · have HE : (glen r = 2) := by unfold glen; rw [if_neg h1, if_pos h2]
      rw [HE]; clear HE
      go_enter Try.func50, Try.ntmps50
      go_wp2
      go_ret
      exact ⟨rfl, rfl⟩
    · by_cases h3 : r < 65536
      · have HE : (glen r = 3) := by unfold glen; rw [if_neg h1, if_neg h2, if_pos h3]
        have l1 : decide ((r : Int) < 128) = false := by simp; omega
        have l2 : decide ((r : Int) < 2048) = false := by simp; omega
        have l3 : decide ((r : Int) < 65536) = true := by simp; omega
        clear h1 h2 h3
        rw [HE]; clear HE
        go_enter Try.func50, Try.ntmps50
        go_wp2
        go_ret
        exact ⟨rfl, rfl⟩
      · have HE : (glen r = 4) := by unfold glen; rw [if_neg h1, if_neg h2, if_neg h3]
        have l1 : decide ((r : Int) < 128) = false := by simp; omega
        have l2 : decide ((r : Int) < 2048) = false := by simp; omega
        have l3 : decide ((r : Int) < 65536) = false := by simp; omega
        clear h1 h2 h3
        rw [HE]; clear HE
        go_enter Try.func50, Try.ntmps50
        go_wp2
        go_ret
        exact ⟨rfl, rfl⟩
set_option maxHeartbeats 1000000 in
set_option maxRecDepth 100000 in
theorem tail_any (r : Nat) (hr : r < 4294967296) (w : World) :
    Calls Try.prog 51 #[.int .u32 (r : Int)] w fun e w' => e = .returned (.int .u8 ((tailB r).toNat : Nat)) ∧ w = w' := by
  have ha : bits .and .u8 ((r : Int) % 256) 63 = ((r % 64 : Nat) : Int) := by
    have := and8 (r % 256) 6 (by omega) (by decide)
    rw [show r % 256 % 2 ^ 6 = r % 64 by omega] at this
    rw [← this]; congr 1
  have hb := or8d 128 (r % 64) 6 (by decide) (by omega) (by decide) (by decide)
  have HT : Hid ((tailB r).toNat = 128 + r % 64) := by unfold tailB; rw [UInt8.toNat_ofNat']; show _ = _; omega
  rw [show ((128 : Nat) : Int) = 128 from rfl] at hb
  go_enter Try.func51, Try.ntmps51
  go_wp2
  go_ret
  exact ⟨by rw [HT.out]; exact congrArg (fun z => Ending.returned (.int .u8 z)) (by first | exact hb | (rw [ha]; exact hb) | (simp; done) | omega), rfl⟩
set_option maxHeartbeats 1000000 in
set_option maxRecDepth 100000 in
theorem lead_any (c : Nat) (hc : c < 256) (w : World) :
    Calls Try.prog 58 #[.int .u8 (c : Int)] w fun e w' => e = .returned (.tuple #[.int .i64 ((lead c).1 : Nat), .int .u32 ((lead c).2 : Nat)]) ∧ w = w' := by
  by_cases h1 : c < 128
  · have HE : (lead c = (1, c)) := by unfold lead; rw [if_pos h1]
    rw [HE]; clear HE
    go_enter Try.func58, Try.ntmps58
    go_wp2
    go_returns
    exact ⟨by first | rfl | (simp; done), rfl⟩
  · have n2 : ¬ (c : Int) < 128 := by omega
    by_cases h2 : c / 32 = 6
    · have HE : (lead c = (2, c % 32)) := by unfold lead; rw [if_neg h1, if_pos h2]
      have g2 : (c : Int) / 32 = 6 := by omega
      have ga := and8 c 5 hc (by decide)
      rw [show ((2 ^ 5 - 1 : Nat) : Int) = 31 from rfl, show (2 : Nat) ^ 5 = 32 from rfl] at ga
      have gb : c % 32 < 32 := Nat.mod_lt _ (by decide)
      obtain ⟨m, hm⟩ : ∃ m, m = c % 32 := ⟨_, rfl⟩
      rw [← hm] at ga gb HE
      clear hm h2
      rw [HE]; clear HE
      go_enter Try.func58, Try.ntmps58
      go_wp2
      go_returns
      exact ⟨by first | rfl | (simp; done), rfl⟩
    · have q2 : ((c : Int) / 32 == 6) = false := by rw [beq_eq_false_iff_ne]; omega
      have r2 : ¬ (c : Int) / 32 = 6 := by omega
      rcases (trivial : True) with _
      · have n3 : ¬ (c : Int) < 128 := by omega
        by_cases h3 : c / 16 = 14
        · have HE : (lead c = (3, c % 16)) := by unfold lead; rw [if_neg h1, if_neg h2, if_pos h3]
          have g3 : (c : Int) / 16 = 14 := by omega
          have ga := and8 c 4 hc (by decide)
          rw [show ((2 ^ 4 - 1 : Nat) : Int) = 15 from rfl, show (2 : Nat) ^ 4 = 16 from rfl] at ga
          have gb : c % 16 < 16 := Nat.mod_lt _ (by decide)
          obtain ⟨m, hm⟩ : ∃ m, m = c % 16 := ⟨_, rfl⟩
          rw [← hm] at ga gb HE
          clear hm h3
          rw [HE]; clear HE
          go_enter Try.func58, Try.ntmps58
          go_wp2
          go_returns
          exact ⟨by first | rfl | (simp; done), rfl⟩
        · have q3 : ((c : Int) / 16 == 14) = false := by rw [beq_eq_false_iff_ne]; omega
          have r3 : ¬ (c : Int) / 16 = 14 := by omega
          rcases (trivial : True) with _
          · have n4 : ¬ (c : Int) < 128 := by omega
            by_cases h4 : c / 8 = 30
            · have HE : (lead c = (4, c % 8)) := by unfold lead; rw [if_neg h1, if_neg h2, if_neg h3, if_pos h4]
              have g4 : (c : Int) / 8 = 30 := by omega
              have ga := and8 c 3 hc (by decide)
              rw [show ((2 ^ 3 - 1 : Nat) : Int) = 7 from rfl, show (2 : Nat) ^ 3 = 8 from rfl] at ga
              have gb : c % 8 < 8 := Nat.mod_lt _ (by decide)
              obtain ⟨m, hm⟩ : ∃ m, m = c % 8 := ⟨_, rfl⟩
              rw [← hm] at ga gb HE
              clear hm h4
              rw [HE]; clear HE
              go_enter Try.func58, Try.ntmps58
              go_wp2
              go_returns
              exact ⟨by first | rfl | (simp; done), rfl⟩
            · have q4 : ((c : Int) / 8 == 30) = false := by rw [beq_eq_false_iff_ne]; omega
              have r4 : ¬ (c : Int) / 8 = 30 := by omega
              have HE : (lead c = (0, 0)) := by unfold lead; rw [if_neg h1, if_neg h2, if_neg h3, if_neg h4]
              rw [HE]; clear HE
              go_enter Try.func58, Try.ntmps58
              go_wp2
              go_returns
              exact ⟨by first | rfl | (simp; done), rfl⟩
set_option maxHeartbeats 1000000 in
set_option maxRecDepth 100000 in
theorem digit_any (c : Nat) (hc : c < 256) (w : World) :
    Calls Try.prog 60 #[.int .u8 (c : Int)] w fun e w' => e = (match hexv c with | some d => .returned (.tuple #[.int .u32 (d : Int), .bool true]) | none => .returned (.tuple #[.int .u32 0, .bool false])) ∧ w = w' := by
  have key : ∀ x, hexv c = x → Calls Try.prog 60 #[.int .u8 (c : Int)] w fun e w' => e = (match x with | some d => .returned (.tuple #[.int .u32 (d : Int), .bool true]) | none => .returned (.tuple #[.int .u32 0, .bool false])) ∧ w = w' := by
    intro x hx
    by_cases h1 : 48 ≤ c ∧ c ≤ 57
    · have : x = some (c - 48) := by rw [← hx]; unfold hexv; rw [if_pos h1]
      subst this
      obtain ⟨d, rfl⟩ : ∃ d, c = 48 + d := ⟨c - 48, by omega⟩
      have hd9 : d ≤ 9 := by omega
      have e1 : 48 + d - 48 = d := by omega
      rw [e1]
      clear hx e1 h1
      go_enter Try.func60, Try.ntmps60
      go_wp2
      go_returns
      exact ⟨by first | rfl | (simp; done) | (simp; omega), rfl⟩
    · by_cases h2 : 97 ≤ c ∧ c ≤ 102
      · have : x = some (c - 97 + 10) := by rw [← hx]; unfold hexv; rw [if_neg h1, if_pos h2]
        subst this
        obtain ⟨d, rfl⟩ : ∃ d, c = 97 + d := ⟨c - 97, by omega⟩
        have hd9 : d ≤ 5 := by omega
        have e1 : 97 + d - 97 + 10 = d + 10 := by omega
        rw [e1]
        clear hx e1 h1 h2
        go_enter Try.func60, Try.ntmps60
        go_wp2
        go_returns
        exact ⟨by first | rfl | (simp; done) | (simp; omega), rfl⟩
      · by_cases h3 : 65 ≤ c ∧ c ≤ 70
        · have : x = some (c - 65 + 10) := by rw [← hx]; unfold hexv; rw [if_neg h1, if_neg h2, if_pos h3]
          subst this
          obtain ⟨d, rfl⟩ : ∃ d, c = 65 + d := ⟨c - 65, by omega⟩
          have hd9 : d ≤ 5 := by omega
          have e1 : 65 + d - 65 + 10 = d + 10 := by omega
          rw [e1]
          clear hx e1 h1 h2 h3
          go_enter Try.func60, Try.ntmps60
          go_wp2
          go_returns
          exact ⟨by first | rfl | (simp; done) | (simp; omega), rfl⟩
        · have : x = none := by rw [← hx]; unfold hexv; rw [if_neg h1, if_neg h2, if_neg h3]
          subst this
          clear hx
          have h1' : c < 48 ∨ 57 < c := by omega
          have h2' : c < 97 ∨ 102 < c := by omega
          have h3' : c < 65 ∨ 70 < c := by omega
          clear h1 h2 h3
          rcases h1' with h1 | h1
          · have a1 : ¬ (48 : Int) ≤ (c : Int) := by omega
            have a2 : ¬ (97 : Int) ≤ (c : Int) := by omega
            have a3 : ¬ (65 : Int) ≤ (c : Int) := by omega
            clear h2' h3'
            go_enter Try.func60, Try.ntmps60
            go_wp2
            go_returns
            exact ⟨rfl, rfl⟩
          · have a1 : (48 : Int) ≤ (c : Int) := by omega
            have a1' : ¬ (c : Int) ≤ 57 := by omega
            rcases h3' with h3 | h3
            · have a2 : ¬ (97 : Int) ≤ (c : Int) := by omega
              have a3 : ¬ (65 : Int) ≤ (c : Int) := by omega
              clear h2'
              go_enter Try.func60, Try.ntmps60
              go_wp2
              go_returns
              exact ⟨rfl, rfl⟩
            · have a3 : (65 : Int) ≤ (c : Int) := by omega
              have a3' : ¬ (c : Int) ≤ 70 := by omega
              rcases h2' with h2 | h2
              · have a2 : ¬ (97 : Int) ≤ (c : Int) := by omega
                go_enter Try.func60, Try.ntmps60
                go_wp2
                go_returns
                exact ⟨rfl, rfl⟩
              · have a2 : (97 : Int) ≤ (c : Int) := by omega
                have a2' : ¬ (c : Int) ≤ 102 := by omega
                go_enter Try.func60, Try.ntmps60
                go_wp2
                go_returns
                exact ⟨rfl, rfl⟩
  exact key _ rfl
set_option maxHeartbeats 1000000 in
set_option maxRecDepth 100000 in
theorem byteOf_any (c : Nat) (hc : c < 256) (w : World) :
    Calls Try.prog 55 #[.int .u8 (c : Int)] w fun e w' => e = (match byteOf c with | some d => .returned (.tuple #[.int .u8 (d : Int), .bool true]) | none => .returned (.tuple #[.int .u8 0, .bool false])) ∧ w = w' := by
  by_cases h : c = 34 ∨ c = 92 ∨ c = 47 ∨ c = 98 ∨ c = 102 ∨ c = 110 ∨ c = 114 ∨ c = 116
  · rcases h with rfl | rfl | rfl | rfl | rfl | rfl | rfl | rfl
    · rw [show byteOf 34 = some 34 from rfl]
      simp only []
      rw [show ((34 : Nat) : Int) = 34 from rfl]
      go_enter Try.func55, Try.ntmps55
      go_wp2
      go_returns
      exact ⟨by first | rfl | (simp; done), rfl⟩
    · rw [show byteOf 92 = some 92 from rfl]
      simp only []
      rw [show ((92 : Nat) : Int) = 92 from rfl]
      go_enter Try.func55, Try.ntmps55
      go_wp2
      go_returns
      exact ⟨by first | rfl | (simp; done), rfl⟩
    · rw [show byteOf 47 = some 47 from rfl]
      simp only []
      rw [show ((47 : Nat) : Int) = 47 from rfl]
      go_enter Try.func55, Try.ntmps55
      go_wp2
      go_returns
      exact ⟨by first | rfl | (simp; done), rfl⟩
    · rw [show byteOf 98 = some 8 from rfl]
      simp only []
      rw [show ((98 : Nat) : Int) = 98 from rfl]
      go_enter Try.func55, Try.ntmps55
      go_wp2
      go_returns
      exact ⟨by first | rfl | (simp; done), rfl⟩
    · rw [show byteOf 102 = some 12 from rfl]
      simp only []
      rw [show ((102 : Nat) : Int) = 102 from rfl]
      go_enter Try.func55, Try.ntmps55
      go_wp2
      go_returns
      exact ⟨by first | rfl | (simp; done), rfl⟩
    · rw [show byteOf 110 = some 10 from rfl]
      simp only []
      rw [show ((110 : Nat) : Int) = 110 from rfl]
      go_enter Try.func55, Try.ntmps55
      go_wp2
      go_returns
      exact ⟨by first | rfl | (simp; done), rfl⟩
    · rw [show byteOf 114 = some 13 from rfl]
      simp only []
      rw [show ((114 : Nat) : Int) = 114 from rfl]
      go_enter Try.func55, Try.ntmps55
      go_wp2
      go_returns
      exact ⟨by first | rfl | (simp; done), rfl⟩
    · rw [show byteOf 116 = some 9 from rfl]
      simp only []
      rw [show ((116 : Nat) : Int) = 116 from rfl]
      go_enter Try.func55, Try.ntmps55
      go_wp2
      go_returns
      exact ⟨by first | rfl | (simp; done), rfl⟩
  · have : byteOf c = none := by unfold byteOf; repeat (rw [if_neg (by omega)])
    rw [this]
    have e34 : ((c : Int) == 34) = false := by rw [beq_eq_false_iff_ne]; omega
    have e92 : ((c : Int) == 92) = false := by rw [beq_eq_false_iff_ne]; omega
    have e47 : ((c : Int) == 47) = false := by rw [beq_eq_false_iff_ne]; omega
    have e98 : ((c : Int) == 98) = false := by rw [beq_eq_false_iff_ne]; omega
    have e102 : ((c : Int) == 102) = false := by rw [beq_eq_false_iff_ne]; omega
    have e110 : ((c : Int) == 110) = false := by rw [beq_eq_false_iff_ne]; omega
    have e114 : ((c : Int) == 114) = false := by rw [beq_eq_false_iff_ne]; omega
    have e116 : ((c : Int) == 116) = false := by rw [beq_eq_false_iff_ne]; omega
    clear this h
    go_enter Try.func55, Try.ntmps55
    go_wp2
    go_returns
    exact ⟨rfl, rfl⟩
end Gl
end Go.Proofs.Ytfcpicejifolmaa
