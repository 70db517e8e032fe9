/-
  sixty.Take: its contract. No condition but that a text is short.
-/
import Derived.Test.YtfcpicejifolmabSm
import Derived.Deep.QuietTactic
import Derived.BigQuiet
import Derived.IntWalk
import Derived.Deep.RegionHeld3
namespace Go.Proofs.Ytfcpicejifolmab
open Go.ChangeShapes Go.WideShapes Go.ChangeAt Go.RowKit
namespace Six
open Mem
set_option linter.unusedVariables false
set_option linter.unusedSimpArgs false
/-- What Take tells. -/
def tend (l : List UInt8) : Ending := match dec l with
  | some c => .returned (.tuple #[.string (bin c), .int .i64 0])
  | none => .returned (.tuple #[.string (bin []), .int .i64 2])
theorem tend_none {l : List UInt8} (h : dec l = none) : tend l = .returned (.tuple #[.string (bin []), .int .i64 2]) := by
  unfold tend; rw [h]
theorem tend_some {l c : List UInt8} (h : dec l = some c) : tend l = .returned (.tuple #[.string (bin c), .int .i64 0]) := by
  unfold tend; rw [h]
theorem dec_four_len : ∀ (l : List UInt8), l.length % 4 ≠ 0 → dec l = none
  | [], h => by simp at h
  | [a], _ => rfl
  | [a, b], _ => rfl
  | [a, b, c], _ => rfl
  | a :: b :: c :: d :: r, h => by
    simp only [dec]
    split
    · rfl
    · split
      · rfl
      · rw [dec_four_len r (by simp at h; omega)]; rfl
/-- The bits that have been read. -/
structure Bits (T : List UInt8) (m k B : Nat) : Prop where
  le : k ≤ 4
  lt : B < 16777216
  div : B % 2 ^ (24 - 6 * k) = 0
  eq : scanAt T m k B = scanAt T m 0 0
theorem Bits.start (T : List UInt8) (m : Nat) : Bits T m 0 0 := ⟨by omega, by omega, by simp, rfl⟩
theorem Bits.fill {T : List UInt8} {m k B : Nat} (h : Bits T m k B) (hk : k < 4) (hm : m + k < T.length) (hc : T[m + k].toNat = 61) : scanAt T m 0 0 = some (B, k) := by
  rw [← h.eq, scanAt_step T m k B hk hm, if_pos hc]
theorem Bits.bad {T : List UInt8} {m k B : Nat} (h : Bits T m k B) (hk : k < 4) (hm : m + k < T.length) (hc : T[m + k].toNat ≠ 61) (hv : val T[m + k].toNat = none) : scanAt T m 0 0 = none := by
  rw [← h.eq, scanAt_step T m k B hk hm, if_neg hc, hv]
theorem Bits.bd {k B d : Nat} (hk : k < 4) (hB : B < 16777216) (hm : B % 2 ^ (24 - 6 * k) = 0) (hd : d < 64) : B + d * 2 ^ (18 - 6 * k) < 16777216 ∧ (B + d * 2 ^ (18 - 6 * k)) % 2 ^ (24 - 6 * (k + 1)) = 0 := by
  rcases (show k = 0 ∨ k = 1 ∨ k = 2 ∨ k = 3 by omega) with rfl | rfl | rfl | rfl <;> simp only [Nat.reduceMul, Nat.reduceSub, Nat.reducePow, Nat.reduceAdd] at * <;> omega
theorem Bits.next {T : List UInt8} {m k B d : Nat} (h : Bits T m k B) (hk : k < 4) (hm : m + k < T.length) (hc : T[m + k].toNat ≠ 61) (hv : val T[m + k].toNat = some d) : Bits T m (k + 1) (B + d * 2 ^ (18 - 6 * k)) := by
  have hb := Bits.bd hk h.lt h.div (val_lt hv)
  refine ⟨by omega, hb.1, hb.2, ?_⟩
  rw [← h.eq, scanAt_step T m k B hk hm, if_neg hc, hv]
theorem Bits.full {T : List UInt8} {m B : Nat} (h : Bits T m 4 B) : scanAt T m 0 0 = some (B, 4) := by rw [← h.eq, scanAt_end]
/-- What 'bits |= v << (18 - 6 * n)' comes to. -/
theorem or_sign {k B d : Nat} (hk : k < 4) (hB : B < 16777216) (hm : B % 2 ^ (24 - 6 * k) = 0) (hd : d < 64) : bits .or .u32 (B : Int) (IntKind.u32.wrap ((d : Int) * 2 ^ (18 - 6 * k))) = ((B + d * 2 ^ (18 - 6 * k) : Nat) : Int) := by
  have hp : d * 2 ^ (18 - 6 * k) < 16777216 := by
    rcases (show k = 0 ∨ k = 1 ∨ k = 2 ∨ k = 3 by omega) with rfl | rfl | rfl | rfl <;> simp only [Nat.reduceMul, Nat.reduceSub, Nat.reducePow] <;> omega
  have h1 : (d : Int) * 2 ^ (18 - 6 * k) = ((d * 2 ^ (18 - 6 * k) : Nat) : Int) := by simp
  have h2 : IntKind.u32.wrap ((d * 2 ^ (18 - 6 * k) : Nat) : Int) = ((d * 2 ^ (18 - 6 * k) : Nat) : Int) := by
    generalize d * 2 ^ (18 - 6 * k) = z at hp
    rw [IntKind.wrap_u32']; omega
  rw [h1, h2, u32_or_nat _ _ (by omega) (by omega)]
  congr 1
  have h3 : B = B / 2 ^ (24 - 6 * k) * 2 ^ (24 - 6 * k) := by have := Nat.div_add_mod B (2 ^ (24 - 6 * k)); rw [hm, Nat.add_zero, Nat.mul_comm] at this; exact this.symm
  rw [h3]
  refine or_add _ _ _ ?_
  rcases (show k = 0 ∨ k = 1 ∨ k = 2 ∨ k = 3 by omega) with rfl | rfl | rfl | rfl <;> simp only [Nat.reduceMul, Nat.reduceSub, Nat.reducePow] <;> omega
theorem below_drewN {B : Nat} {w W : World} (h : Below B w W) (m : Nat) : Below B w (W.drewN m) := ⟨h.1, h.2, h.3, h.4, h.5⟩
theorem or_sign' {k B d : Nat} (hk : k < 4) (hB : B < 16777216) (hm : B % 2 ^ (24 - 6 * k) = 0) (hd : d < 64) : bits .or .u32 (B : Int) ((d : Int) * 2 ^ (18 - 6 * k) % 4294967296) = ((B + d * 2 ^ (18 - 6 * k) : Nat) : Int) := by
  rw [← IntKind.wrap_u32']; exact or_sign hk hB hm hd
theorem ext_bin (t : ByteArray) (m : Nat) : (t.extract m (m + 4)).data.toList = (t.data.toList.drop m).take 4 := by
  rw [ByteArray.data_extract, Array.toList_extract, List.extract_eq_take_drop]
  simp
set_option maxHeartbeats 2000000 in
set_option maxRecDepth 200000 in
theorem take_any (t : ByteArray) (w : World) (ht : t.size ≤ 200) :
    Calls Try.prog 7 #[.string t] w fun e w' => e = tend t.data.toList ∧ Below w.heap.size w w' := by
  obtain ⟨i0, hi, hz0, hz1, hz2⟩ := info_parts info8
  obtain ⟨T, hT⟩ : ∃ T, T = t.data.toList := ⟨_, rfl⟩
  have hTl : T.length = t.size := by rw [hT]; simp
  by_cases h4 : t.size % 4 = 0
  · have h4' : ((t.size : Int) % 4 != 0) = false := by
      have : ((t.size : Int) % 4 == 0) = true := by rw [beq_iff_eq]; omega
      rw [bne, this]; rfl
    have HT := Lib.hid hT
    have HTl := Lib.hid hTl
    have HN := Lib.hid h4
    rw [← HT.out]
    clear hT hTl
    go_enter Try.func7, Try.ntmps7
    go_wp2_with fail
    go_loopw [4, 5] (fun b i wr => ∃ (m : Nat) (p : List UInt8), i = .int .i64 m ∧ m % 4 = 0 ∧ m ≤ t.size ∧ p.length ≤ m ∧ BRow wr w.heap.size 5 b p ∧ dec T = (dec (T.drop m)).map (p ++ ·) ∧ Below w.heap.size w wr) (fun _ i _ => t.size - (intOf i).toNat)
    case atStart => exact ⟨0, [], rfl, rfl, Nat.zero_le _, Nat.zero_le _, BRow.nil _ _ _, by simp, Below.refl _ _⟩
    case round =>
      obtain ⟨m, p, rfl, hm4, hm, hp, ho, he, hb⟩ := hrel
      have HO := Lib.hid ho
      have HB := Lib.hid hb
      have HE := Lib.hid he
      have hw := hb.size
      have HWr := Lib.hid hw
      clear ho hb he hw
      by_cases hlt : m < t.size
      · have hm44 : m + 4 ≤ t.size := by have := HN.out; omega
        have HD := Lib.hid (dec_drop T m (by rw [HTl.out]; omega))
        clear h4'
        go_wp2_with fail
        go_loop [6, 7] (fun x n => ∃ k B : Nat, x = .int .u32 (B : Int) ∧ n = .int .i64 k ∧ Bits T m k B) (fun _ n => 4 - (intOf n).toNat)
        case atStart => exact ⟨0, 0, rfl, rfl, Bits.start T m⟩
        case round =>
          obtain ⟨k, B, rfl, rfl, hbits⟩ := hrel
          have hk4 := hbits.le
          have HBits := Lib.hid hbits
          clear hbits
          by_cases hk : k < 4
          · have hmk : m + k < t.size := by omega
            have hmk' : m + k < T.length := by rw [HTl.out]; omega
            have hTc : T[m + k]'hmk' = t[m + k]'hmk := by
              have h1 : T[m + k]? = some (t[m + k]'hmk) := by
                have h2 : t.data.toList[m + k]? = some (t[m + k]'hmk) := List.getElem?_eq_getElem (by simpa using hmk)
                rw [HT.out]; exact h2
              rw [List.getElem?_eq_getElem hmk'] at h1; exact Option.some.inj h1
            have hidx : (m : Int) + (k : Int) < (t.size : Int) := by omega
            by_cases hc : t[m + k].toNat = 61
            · have HS := Lib.hid (HBits.out.fill hk hmk' (by rw [hTc]; exact hc))
              have hc1 : ((t[m + k].toNat : Int) == 61) = true := by rw [beq_iff_eq]; omega
              have hc2 : ((t[m + k].toNat : Int) != 61) = false := by rw [bne, hc1]; rfl
              clear hTc hc
              go_wp2_with fail
              have hsum : IntKind.i64.wrap ((m : Int) + 4) = (m : Int) + 4 := IntWalk.i64_in _ (by omega)
              have hle := HS.out
              by_cases h2 : k < 2
              · have hd : decide ((k : Int) < 2) = true := by simp; omega
                have HZ := Lib.hid (show dec T = none by rw [HE.out, HD.out, HS.out]; simp only [if_pos (Or.inl h2)]; rfl)
                clear hle
                go_quiet (fail)
                go_wp2
                go_ret2
                exact ⟨(tend_none HZ.out).symm, below_drewN HB.out _⟩
              · have hd : decide ((k : Int) < 2) = false := by simp; omega
                have hd4 : decide ((k : Int) < 4) = true := by simp; omega
                by_cases hmore : m + 4 < t.size
                · have hd5 : decide ((m : Int) + 4 < (t.size : Int)) = true := by simp; omega
                  have HZ := Lib.hid (show dec T = none by rw [HE.out, HD.out, HS.out]; simp only [if_pos (Or.inr (Or.inl ⟨hk, by rw [HTl.out]; exact hmore⟩) : k < 2 ∨ (k < 4 ∧ m + 4 < T.length) ∨ enc (threes B (k - 1)) ≠ (T.drop m).take 4)]; rfl)
                  clear hle
                  go_quiet (fail)
                  go_wp2
                  go_ret2
                  exact ⟨(tend_none HZ.out).symm, below_drewN HB.out _⟩
                · have hd5 : decide ((m : Int) + 4 < (t.size : Int)) = false := by simp; omega
                  clear hle
                  have HN2 : Hid (scanAt T m 0 0 = some (B, k)) := HS.out
                  obtain ⟨S1, hS1⟩ : ∃ S1, S1 = bin (enc (three B (k - 1)).data.toList) := ⟨_, rfl⟩
                  obtain ⟨S2, hS2⟩ : ∃ S2, S2 = t.extract m (m + 4) := ⟨_, rfl⟩
                  have cB := Lib.hid (fun W => bytes_any B (k - 1) W (by have := HBits.out.lt; omega) (by omega))
                  rw [show (((k - 1 : Nat)) : Int) = (k : Int) - 1 by omega] at cB
                  have hk1 : IntKind.i64.wrap ((k : Int) - 1) = (k : Int) - 1 := IntWalk.i64_in _ (by omega)
                  have cP := Lib.hid (fun W => put_any (three B (k - 1)) W (by rw [three_size _ _ (by omega)]; omega))
                  rw [← hS1] at cP
                  have hS2' : t.extract m ((m : Int) + 4).toNat = S2 := by rw [show ((m : Int) + 4).toNat = m + 4 by omega]; exact hS2.symm
                  have hi4 : (m : Int) + 4 ≤ (t.size : Int) := by omega
                  have hm0 : (0 : Int) ≤ (m : Int) := by omega
                  have hm1 : (m : Int) ≤ (m : Int) + 4 := by omega
                  have HE1 := Lib.hid hS1
                  have HE2 := Lib.hid hS2
                  clear hS1 hS2 HN2
                  by_cases heq : S1 = S2
                  · have hne : decide (S1 = S2) = true := by simp [heq]
                    refine wp_region_noPanic ?_
                    refine wp_region_held_drew (S := fun W => Below wr.heap.size wr W) (by kernel_rfl) (Below.refl _ _).drew (fun hS => ?_)
                    refine wpAnyH_take (i := 0) (v := .int .i64 (k : Int)) rfl (by kernel_rfl) (by kernel_rfl) (by kernel_rfl) (fun _ _ _ h => False.elim h) (Or.inl ⟨by kernel_rfl, fun w' hw' => by (try go_simp); (try first | with_reducible rfl | exact hsum | exact hS2' | exact hk1 | decide)⟩) hS ?_
                    try simp only [Act.put, List.setIfInBounds_toArray, List.set_cons_zero, List.set_cons_succ]
                    refine wpAnyH_take (i := 1) (v := .bool false) rfl (by kernel_rfl) (by kernel_rfl) (by kernel_rfl) (fun _ _ _ h => False.elim h) (Or.inl ⟨by kernel_rfl, fun w' hw' => by (try go_simp); (try first | with_reducible rfl | exact hsum | exact hS2' | exact hk1 | decide)⟩) hS ?_
                    try simp only [Act.put, List.setIfInBounds_toArray, List.set_cons_zero, List.set_cons_succ]
                    refine wpAnyH_take (i := 2) (v := .bool false) rfl (by kernel_rfl) (by kernel_rfl) (by kernel_rfl) (fun _ _ _ h => False.elim h) (Or.inl ⟨by kernel_rfl, fun w' hw' => by (try go_simp); (try first | with_reducible rfl | exact hsum | exact hS2' | exact hk1 | decide)⟩) hS ?_
                    try simp only [Act.put, List.setIfInBounds_toArray, List.set_cons_zero, List.set_cons_succ]
                    refine wpAnyH_take (i := 3) (v := .int .i64 (k : Int)) rfl (by kernel_rfl) (by kernel_rfl) (by kernel_rfl) (fun _ _ _ h => False.elim h) (Or.inl ⟨by kernel_rfl, fun w' hw' => by (try go_simp); (try first | with_reducible rfl | exact hsum | exact hS2' | exact hk1 | decide)⟩) hS ?_
                    try simp only [Act.put, List.setIfInBounds_toArray, List.set_cons_zero, List.set_cons_succ]
                    refine wpAnyH_take (i := 4) (v := .bool true) rfl (by kernel_rfl) (by kernel_rfl) (by kernel_rfl) (fun _ _ _ h => False.elim h) (Or.inl ⟨by kernel_rfl, fun w' hw' => by (try go_simp); (try first | with_reducible rfl | exact hsum | exact hS2' | exact hk1 | decide)⟩) hS ?_
                    try simp only [Act.put, List.setIfInBounds_toArray, List.set_cons_zero, List.set_cons_succ]
                    refine wpAnyH_take (i := 5) (v := .bool true) rfl (by kernel_rfl) (by kernel_rfl) (by kernel_rfl) (fun _ _ _ h => False.elim h) (Or.inl ⟨by kernel_rfl, fun w' hw' => by (try go_simp); (try first | with_reducible rfl | exact hsum | exact hS2' | exact hk1 | decide)⟩) hS ?_
                    try simp only [Act.put, List.setIfInBounds_toArray, List.set_cons_zero, List.set_cons_succ]
                    refine wpAnyH_take (i := 6) (v := .int .i64 m) rfl (by kernel_rfl) (by kernel_rfl) (by kernel_rfl) (fun _ _ _ h => False.elim h) (Or.inl ⟨by kernel_rfl, fun w' hw' => by (try go_simp); (try first | with_reducible rfl | exact hsum | exact hS2' | exact hk1 | decide)⟩) hS ?_
                    try simp only [Act.put, List.setIfInBounds_toArray, List.set_cons_zero, List.set_cons_succ]
                    refine wpAnyH_take (i := 7) (v := .int .i64 ((m : Int) + 4)) rfl (by kernel_rfl) (by kernel_rfl) (by kernel_rfl) (fun _ _ _ h => False.elim h) (Or.inl ⟨by kernel_rfl, fun w' hw' => by (try go_simp); (try first | with_reducible rfl | exact hsum | exact hS2' | exact hk1 | decide)⟩) hS ?_
                    try simp only [Act.put, List.setIfInBounds_toArray, List.set_cons_zero, List.set_cons_succ]
                    refine wpAnyH_take (i := 8) (v := .string t) rfl (by kernel_rfl) (by kernel_rfl) (by kernel_rfl) (fun _ _ _ h => False.elim h) (Or.inl ⟨by kernel_rfl, fun w' hw' => by (try go_simp); (try first | with_reducible rfl | exact hsum | exact hS2' | exact hk1 | decide)⟩) hS ?_
                    try simp only [Act.put, List.setIfInBounds_toArray, List.set_cons_zero, List.set_cons_succ]
                    refine wpAnyH_take (i := 9) (v := .int .i64 t.size) rfl (by kernel_rfl) (by kernel_rfl) (by kernel_rfl) (fun _ _ _ h => False.elim h) (Or.inl ⟨by kernel_rfl, fun w' hw' => by (try go_simp); (try first | with_reducible rfl | exact hsum | exact hS2' | exact hk1 | decide)⟩) hS ?_
                    try simp only [Act.put, List.setIfInBounds_toArray, List.set_cons_zero, List.set_cons_succ]
                    refine wpAnyH_take (i := 10) (v := .bool false) rfl (by kernel_rfl) (by kernel_rfl) (by kernel_rfl) (fun _ _ _ h => False.elim h) (Or.inl ⟨by kernel_rfl, fun w' hw' => by (try go_simp); (try first | with_reducible rfl | exact hsum | exact hS2' | exact hk1 | decide)⟩) hS ?_
                    try simp only [Act.put, List.setIfInBounds_toArray, List.set_cons_zero, List.set_cons_succ]
                    refine wpAnyH_take (i := 11) (v := .bool false) rfl (by kernel_rfl) (by kernel_rfl) (by kernel_rfl) (fun _ _ _ h => False.elim h) (Or.inl ⟨by kernel_rfl, fun w' hw' => by (try go_simp); (try first | with_reducible rfl | exact hsum | exact hS2' | exact hk1 | decide)⟩) hS ?_
                    try simp only [Act.put, List.setIfInBounds_toArray, List.set_cons_zero, List.set_cons_succ]
                    refine wpAnyH_take (i := 12) (v := .bool false) rfl (by kernel_rfl) (by kernel_rfl) (by kernel_rfl) (fun _ _ _ h => False.elim h) (Or.inl ⟨by kernel_rfl, fun w' hw' => by (try go_simp); (try first | with_reducible rfl | exact hsum | exact hS2' | exact hk1 | decide)⟩) hS ?_
                    try simp only [Act.put, List.setIfInBounds_toArray, List.set_cons_zero, List.set_cons_succ]
                    refine wpAnyH_take (i := 13) (v := .bool false) rfl (by kernel_rfl) (by kernel_rfl) (by kernel_rfl) (fun _ _ _ h => False.elim h) (Or.inl ⟨by kernel_rfl, fun w' hw' => by (try go_simp); (try first | with_reducible rfl | exact hsum | exact hS2' | exact hk1 | decide)⟩) hS ?_
                    try simp only [Act.put, List.setIfInBounds_toArray, List.set_cons_zero, List.set_cons_succ]
                    refine wpAnyH_take (i := 14) (v := .int .u32 B) rfl (by kernel_rfl) (by kernel_rfl) (by kernel_rfl) (fun _ _ _ h => False.elim h) (Or.inl ⟨by kernel_rfl, fun w' hw' => by (try go_simp); (try first | with_reducible rfl | exact hsum | exact hS2' | exact hk1 | decide)⟩) hS ?_
                    try simp only [Act.put, List.setIfInBounds_toArray, List.set_cons_zero, List.set_cons_succ]
                    refine wpAnyH_take (i := 15) (v := .int .i64 (k : Int)) rfl (by kernel_rfl) (by kernel_rfl) (by kernel_rfl) (fun _ _ _ h => False.elim h) (Or.inl ⟨by kernel_rfl, fun w' hw' => by (try go_simp); (try first | with_reducible rfl | exact hsum | exact hS2' | exact hk1 | decide)⟩) hS ?_
                    try simp only [Act.put, List.setIfInBounds_toArray, List.set_cons_zero, List.set_cons_succ]
                    refine wpAnyH_take (i := 16) (v := .int .i64 ((k : Int) - 1)) rfl (by kernel_rfl) (by kernel_rfl) (by kernel_rfl) (fun _ _ _ h => False.elim h) (Or.inl ⟨by kernel_rfl, fun w' hw' => by (try go_simp); (try first | with_reducible rfl | exact hsum | exact hS2' | exact hk1 | decide)⟩) hS ?_
                    try simp only [Act.put, List.setIfInBounds_toArray, List.set_cons_zero, List.set_cons_succ]
                    refine wpAnyH_take (i := 19) (v := .string t) rfl (by kernel_rfl) (by kernel_rfl) (by kernel_rfl) (fun _ _ _ h => False.elim h) (Or.inl ⟨by kernel_rfl, fun w' hw' => by (try go_simp); (try first | with_reducible rfl | exact hsum | exact hS2' | exact hk1 | decide)⟩) hS ?_
                    try simp only [Act.put, List.setIfInBounds_toArray, List.set_cons_zero, List.set_cons_succ]
                    refine wpAnyH_take (i := 20) (v := .int .i64 m) rfl (by kernel_rfl) (by kernel_rfl) (by kernel_rfl) (fun _ _ _ h => False.elim h) (Or.inl ⟨by kernel_rfl, fun w' hw' => by (try go_simp); (try first | with_reducible rfl | exact hsum | exact hS2' | exact hk1 | decide)⟩) hS ?_
                    try simp only [Act.put, List.setIfInBounds_toArray, List.set_cons_zero, List.set_cons_succ]
                    refine wpAnyH_take (i := 21) (v := .int .i64 m) rfl (by kernel_rfl) (by kernel_rfl) (by kernel_rfl) (fun _ _ _ h => False.elim h) (Or.inl ⟨by kernel_rfl, fun w' hw' => by (try go_simp); (try first | with_reducible rfl | exact hsum | exact hS2' | exact hk1 | decide)⟩) hS ?_
                    try simp only [Act.put, List.setIfInBounds_toArray, List.set_cons_zero, List.set_cons_succ]
                    refine wpAnyH_take (i := 22) (v := .int .i64 ((m : Int) + 4)) rfl (by kernel_rfl) (by kernel_rfl) (by kernel_rfl) (fun _ _ _ h => False.elim h) (Or.inl ⟨by kernel_rfl, fun w' hw' => by (try go_simp); (try first | with_reducible rfl | exact hsum | exact hS2' | exact hk1 | decide)⟩) hS ?_
                    try simp only [Act.put, List.setIfInBounds_toArray, List.set_cons_zero, List.set_cons_succ]
                    refine wpAnyH_take (i := 23) (v := .string S2) rfl (by kernel_rfl) (by kernel_rfl) (by kernel_rfl) (fun _ _ _ h => False.elim h) (Or.inl ⟨by kernel_rfl, fun w' hw' => by (try go_simp); (try first | with_reducible rfl | exact hsum | exact hS2' | exact hk1 | decide)⟩) hS ?_
                    try simp only [Act.put, List.setIfInBounds_toArray, List.set_cons_zero, List.set_cons_succ]
                    refine wpAnyH_ready (rs := [17]) (by kernel_rfl) (by simp) ?_
                    refine AllReadyH.cons rfl (fun K hK => ?_) AllReadyH.nil
                    go_simp
                    go_at_call 12
                    refine (cB.out _).mono ?_
                    rintro e w2 ⟨rfl, hw2⟩
                    go_wp2_with fail
                    refine hK.out _ _ (hS.trans (hw2.mono hS.size)) (fun hS => ?_)
                    clear hK K
                    try simp only [Act.put, List.setIfInBounds_toArray, List.set_cons_zero, List.set_cons_succ]
                    refine wpAnyH_ready (rs := [18]) (by kernel_rfl) (by simp) ?_
                    refine AllReadyH.cons rfl (fun K hK => ?_) AllReadyH.nil
                    go_simp
                    go_at_call 9
                    refine (cP.out _).mono ?_
                    rintro e w3 ⟨rfl, hw3⟩
                    go_wp2_with fail
                    refine hK.out _ _ (hS.trans (hw3.mono hS.size)) (fun hS => ?_)
                    clear hK K
                    try simp only [Act.put, List.setIfInBounds_toArray, List.set_cons_zero, List.set_cons_succ]
                    refine wpAnyH_take (i := 24) (v := .bool false) rfl (by kernel_rfl) (by kernel_rfl) (by kernel_rfl) (fun _ _ _ h => False.elim h) (Or.inl ⟨by kernel_rfl, fun w' hw' => by (try go_simp); (try first | with_reducible rfl | exact hsum | exact hS2' | exact hk1 | decide)⟩) hS ?_
                    try simp only [Act.put, List.setIfInBounds_toArray, List.set_cons_zero, List.set_cons_succ]
                    refine wpAnyH_take (i := 25) (v := .bool false) rfl (by kernel_rfl) (by kernel_rfl) (by kernel_rfl) (fun _ _ _ h => False.elim h) (Or.inl ⟨by kernel_rfl, fun w' hw' => by (try go_simp); (try first | with_reducible rfl | exact hsum | exact hS2' | exact hk1 | decide)⟩) hS ?_
                    try simp only [Act.put, List.setIfInBounds_toArray, List.set_cons_zero, List.set_cons_succ]
                    refine wpAnyH_done (by kernel_rfl) ?_ _
                    refine NoPanic.normal ?_
                    have hx : enc (threes B (k - 1)) = List.take 4 (List.drop m T) := by
                      have e1 : S1.data.toList = enc (threes B (k - 1)) := by rw [HE1.out, bin_list]; simp [three, bin_list]
                      have e2 : S2.data.toList = List.take 4 (List.drop m T) := by rw [HE2.out, ext_bin, ← HT.out]
                      exact e1.symm.trans ((congrArg (fun b => b.data.toList) heq).trans e2)
                    have HZ := Lib.hid (show dec T = (dec (T.drop (m + 4))).map ((p ++ threes B (k - 1)) ++ ·) by
                      rw [HE.out, HD.out, HS.out]
                      have hn : ¬ (k < 2 ∨ k < 4 ∧ m + 4 < T.length ∨ enc (threes B (k - 1)) ≠ List.take 4 (List.drop m T)) := by
                        rintro (h | h | h)
                        · omega
                        · have := HTl.out; omega
                        · exact h hx
                      simp only [if_neg hn, Option.map_map]
                      congr 1
                      funext x
                      simp [List.append_assoc])
                    have HS3 := Lib.hid hS
                    clear hx hS hw3 hw2
                    go_wp2_with (first | (refine wpList_append_row rfl _ _ 28 9 rfl w.heap.size 5 i0 Try.underlying28 hi hz0 hz1 hz2 _ p rfl (HO.out.old (HS3.out.trans (hB4.mono HS3.out.size)) (Nat.le_refl _)) (threes B (k - 1)) _ rfl (Src.text Try.underlying9 _) (by rw [threes_len _ _ (by omega)]; omega) (Nat.le_trans HWr.out (Nat.le_trans HS3.out.size hB4.size)) ?_; intro v' w' hown' hgrow') | (go_at_call 12; refine (cB.out _).mono ?_; rintro e w4 ⟨rfl, hB4⟩))
                    have HB2 := (HB.out.trans ((HS3.out.trans (hB4.mono HS3.out.size)).mono HWr.out)).grown hgrow' (Nat.le_trans HWr.out (Nat.le_trans HS3.out.size hB4.size)) (fun k hk => (HO.out.lt k hk).1)
                    refine ⟨⟨m + 4, p ++ threes B (k - 1), by go_num, by omega, hm44, by rw [List.length_append, threes_len _ _ (by omega)]; omega, hown', HZ.out, HB2⟩, ?_⟩
                    simp [intOf]; omega
                  · have hnl : ¬ S1.toList = S2.toList := fun h => heq (bytes_inj (by rw [ByteArray.toList_eq, ByteArray.toList_eq] at h; exact h))
                    refine wp_region_noPanic ?_
                    refine wp_region_held_drew (S := fun W => Below wr.heap.size wr W) (by kernel_rfl) (Below.refl _ _).drew (fun hS => ?_)
                    refine wpAnyH_take (i := 0) (v := .int .i64 (k : Int)) rfl (by kernel_rfl) (by kernel_rfl) (by kernel_rfl) (fun _ _ _ h => False.elim h) (Or.inl ⟨by kernel_rfl, fun w' hw' => by (try go_simp); (try first | with_reducible rfl | exact hsum | exact hS2' | exact hk1 | decide)⟩) hS ?_
                    try simp only [Act.put, List.setIfInBounds_toArray, List.set_cons_zero, List.set_cons_succ]
                    refine wpAnyH_take (i := 1) (v := .bool false) rfl (by kernel_rfl) (by kernel_rfl) (by kernel_rfl) (fun _ _ _ h => False.elim h) (Or.inl ⟨by kernel_rfl, fun w' hw' => by (try go_simp); (try first | with_reducible rfl | exact hsum | exact hS2' | exact hk1 | decide)⟩) hS ?_
                    try simp only [Act.put, List.setIfInBounds_toArray, List.set_cons_zero, List.set_cons_succ]
                    refine wpAnyH_take (i := 2) (v := .bool false) rfl (by kernel_rfl) (by kernel_rfl) (by kernel_rfl) (fun _ _ _ h => False.elim h) (Or.inl ⟨by kernel_rfl, fun w' hw' => by (try go_simp); (try first | with_reducible rfl | exact hsum | exact hS2' | exact hk1 | decide)⟩) hS ?_
                    try simp only [Act.put, List.setIfInBounds_toArray, List.set_cons_zero, List.set_cons_succ]
                    refine wpAnyH_take (i := 3) (v := .int .i64 (k : Int)) rfl (by kernel_rfl) (by kernel_rfl) (by kernel_rfl) (fun _ _ _ h => False.elim h) (Or.inl ⟨by kernel_rfl, fun w' hw' => by (try go_simp); (try first | with_reducible rfl | exact hsum | exact hS2' | exact hk1 | decide)⟩) hS ?_
                    try simp only [Act.put, List.setIfInBounds_toArray, List.set_cons_zero, List.set_cons_succ]
                    refine wpAnyH_take (i := 4) (v := .bool true) rfl (by kernel_rfl) (by kernel_rfl) (by kernel_rfl) (fun _ _ _ h => False.elim h) (Or.inl ⟨by kernel_rfl, fun w' hw' => by (try go_simp); (try first | with_reducible rfl | exact hsum | exact hS2' | exact hk1 | decide)⟩) hS ?_
                    try simp only [Act.put, List.setIfInBounds_toArray, List.set_cons_zero, List.set_cons_succ]
                    refine wpAnyH_take (i := 5) (v := .bool true) rfl (by kernel_rfl) (by kernel_rfl) (by kernel_rfl) (fun _ _ _ h => False.elim h) (Or.inl ⟨by kernel_rfl, fun w' hw' => by (try go_simp); (try first | with_reducible rfl | exact hsum | exact hS2' | exact hk1 | decide)⟩) hS ?_
                    try simp only [Act.put, List.setIfInBounds_toArray, List.set_cons_zero, List.set_cons_succ]
                    refine wpAnyH_take (i := 6) (v := .int .i64 m) rfl (by kernel_rfl) (by kernel_rfl) (by kernel_rfl) (fun _ _ _ h => False.elim h) (Or.inl ⟨by kernel_rfl, fun w' hw' => by (try go_simp); (try first | with_reducible rfl | exact hsum | exact hS2' | exact hk1 | decide)⟩) hS ?_
                    try simp only [Act.put, List.setIfInBounds_toArray, List.set_cons_zero, List.set_cons_succ]
                    refine wpAnyH_take (i := 7) (v := .int .i64 ((m : Int) + 4)) rfl (by kernel_rfl) (by kernel_rfl) (by kernel_rfl) (fun _ _ _ h => False.elim h) (Or.inl ⟨by kernel_rfl, fun w' hw' => by (try go_simp); (try first | with_reducible rfl | exact hsum | exact hS2' | exact hk1 | decide)⟩) hS ?_
                    try simp only [Act.put, List.setIfInBounds_toArray, List.set_cons_zero, List.set_cons_succ]
                    refine wpAnyH_take (i := 8) (v := .string t) rfl (by kernel_rfl) (by kernel_rfl) (by kernel_rfl) (fun _ _ _ h => False.elim h) (Or.inl ⟨by kernel_rfl, fun w' hw' => by (try go_simp); (try first | with_reducible rfl | exact hsum | exact hS2' | exact hk1 | decide)⟩) hS ?_
                    try simp only [Act.put, List.setIfInBounds_toArray, List.set_cons_zero, List.set_cons_succ]
                    refine wpAnyH_take (i := 9) (v := .int .i64 t.size) rfl (by kernel_rfl) (by kernel_rfl) (by kernel_rfl) (fun _ _ _ h => False.elim h) (Or.inl ⟨by kernel_rfl, fun w' hw' => by (try go_simp); (try first | with_reducible rfl | exact hsum | exact hS2' | exact hk1 | decide)⟩) hS ?_
                    try simp only [Act.put, List.setIfInBounds_toArray, List.set_cons_zero, List.set_cons_succ]
                    refine wpAnyH_take (i := 10) (v := .bool false) rfl (by kernel_rfl) (by kernel_rfl) (by kernel_rfl) (fun _ _ _ h => False.elim h) (Or.inl ⟨by kernel_rfl, fun w' hw' => by (try go_simp); (try first | with_reducible rfl | exact hsum | exact hS2' | exact hk1 | decide)⟩) hS ?_
                    try simp only [Act.put, List.setIfInBounds_toArray, List.set_cons_zero, List.set_cons_succ]
                    refine wpAnyH_take (i := 11) (v := .bool false) rfl (by kernel_rfl) (by kernel_rfl) (by kernel_rfl) (fun _ _ _ h => False.elim h) (Or.inl ⟨by kernel_rfl, fun w' hw' => by (try go_simp); (try first | with_reducible rfl | exact hsum | exact hS2' | exact hk1 | decide)⟩) hS ?_
                    try simp only [Act.put, List.setIfInBounds_toArray, List.set_cons_zero, List.set_cons_succ]
                    refine wpAnyH_take (i := 12) (v := .bool false) rfl (by kernel_rfl) (by kernel_rfl) (by kernel_rfl) (fun _ _ _ h => False.elim h) (Or.inl ⟨by kernel_rfl, fun w' hw' => by (try go_simp); (try first | with_reducible rfl | exact hsum | exact hS2' | exact hk1 | decide)⟩) hS ?_
                    try simp only [Act.put, List.setIfInBounds_toArray, List.set_cons_zero, List.set_cons_succ]
                    refine wpAnyH_take (i := 13) (v := .bool false) rfl (by kernel_rfl) (by kernel_rfl) (by kernel_rfl) (fun _ _ _ h => False.elim h) (Or.inl ⟨by kernel_rfl, fun w' hw' => by (try go_simp); (try first | with_reducible rfl | exact hsum | exact hS2' | exact hk1 | decide)⟩) hS ?_
                    try simp only [Act.put, List.setIfInBounds_toArray, List.set_cons_zero, List.set_cons_succ]
                    refine wpAnyH_take (i := 14) (v := .int .u32 B) rfl (by kernel_rfl) (by kernel_rfl) (by kernel_rfl) (fun _ _ _ h => False.elim h) (Or.inl ⟨by kernel_rfl, fun w' hw' => by (try go_simp); (try first | with_reducible rfl | exact hsum | exact hS2' | exact hk1 | decide)⟩) hS ?_
                    try simp only [Act.put, List.setIfInBounds_toArray, List.set_cons_zero, List.set_cons_succ]
                    refine wpAnyH_take (i := 15) (v := .int .i64 (k : Int)) rfl (by kernel_rfl) (by kernel_rfl) (by kernel_rfl) (fun _ _ _ h => False.elim h) (Or.inl ⟨by kernel_rfl, fun w' hw' => by (try go_simp); (try first | with_reducible rfl | exact hsum | exact hS2' | exact hk1 | decide)⟩) hS ?_
                    try simp only [Act.put, List.setIfInBounds_toArray, List.set_cons_zero, List.set_cons_succ]
                    refine wpAnyH_take (i := 16) (v := .int .i64 ((k : Int) - 1)) rfl (by kernel_rfl) (by kernel_rfl) (by kernel_rfl) (fun _ _ _ h => False.elim h) (Or.inl ⟨by kernel_rfl, fun w' hw' => by (try go_simp); (try first | with_reducible rfl | exact hsum | exact hS2' | exact hk1 | decide)⟩) hS ?_
                    try simp only [Act.put, List.setIfInBounds_toArray, List.set_cons_zero, List.set_cons_succ]
                    refine wpAnyH_take (i := 19) (v := .string t) rfl (by kernel_rfl) (by kernel_rfl) (by kernel_rfl) (fun _ _ _ h => False.elim h) (Or.inl ⟨by kernel_rfl, fun w' hw' => by (try go_simp); (try first | with_reducible rfl | exact hsum | exact hS2' | exact hk1 | decide)⟩) hS ?_
                    try simp only [Act.put, List.setIfInBounds_toArray, List.set_cons_zero, List.set_cons_succ]
                    refine wpAnyH_take (i := 20) (v := .int .i64 m) rfl (by kernel_rfl) (by kernel_rfl) (by kernel_rfl) (fun _ _ _ h => False.elim h) (Or.inl ⟨by kernel_rfl, fun w' hw' => by (try go_simp); (try first | with_reducible rfl | exact hsum | exact hS2' | exact hk1 | decide)⟩) hS ?_
                    try simp only [Act.put, List.setIfInBounds_toArray, List.set_cons_zero, List.set_cons_succ]
                    refine wpAnyH_take (i := 21) (v := .int .i64 m) rfl (by kernel_rfl) (by kernel_rfl) (by kernel_rfl) (fun _ _ _ h => False.elim h) (Or.inl ⟨by kernel_rfl, fun w' hw' => by (try go_simp); (try first | with_reducible rfl | exact hsum | exact hS2' | exact hk1 | decide)⟩) hS ?_
                    try simp only [Act.put, List.setIfInBounds_toArray, List.set_cons_zero, List.set_cons_succ]
                    refine wpAnyH_take (i := 22) (v := .int .i64 ((m : Int) + 4)) rfl (by kernel_rfl) (by kernel_rfl) (by kernel_rfl) (fun _ _ _ h => False.elim h) (Or.inl ⟨by kernel_rfl, fun w' hw' => by (try go_simp); (try first | with_reducible rfl | exact hsum | exact hS2' | exact hk1 | decide)⟩) hS ?_
                    try simp only [Act.put, List.setIfInBounds_toArray, List.set_cons_zero, List.set_cons_succ]
                    refine wpAnyH_take (i := 23) (v := .string S2) rfl (by kernel_rfl) (by kernel_rfl) (by kernel_rfl) (fun _ _ _ h => False.elim h) (Or.inl ⟨by kernel_rfl, fun w' hw' => by (try go_simp); (try first | with_reducible rfl | exact hsum | exact hS2' | exact hk1 | decide)⟩) hS ?_
                    try simp only [Act.put, List.setIfInBounds_toArray, List.set_cons_zero, List.set_cons_succ]
                    refine wpAnyH_ready (rs := [17]) (by kernel_rfl) (by simp) ?_
                    refine AllReadyH.cons rfl (fun K hK => ?_) AllReadyH.nil
                    go_simp
                    go_at_call 12
                    refine (cB.out _).mono ?_
                    rintro e w2 ⟨rfl, hw2⟩
                    go_wp2_with fail
                    refine hK.out _ _ (hS.trans (hw2.mono hS.size)) (fun hS => ?_)
                    clear hK K
                    try simp only [Act.put, List.setIfInBounds_toArray, List.set_cons_zero, List.set_cons_succ]
                    refine wpAnyH_ready (rs := [18]) (by kernel_rfl) (by simp) ?_
                    refine AllReadyH.cons rfl (fun K hK => ?_) AllReadyH.nil
                    go_simp
                    go_at_call 9
                    refine (cP.out _).mono ?_
                    rintro e w3 ⟨rfl, hw3⟩
                    go_wp2_with fail
                    refine hK.out _ _ (hS.trans (hw3.mono hS.size)) (fun hS => ?_)
                    clear hK K
                    try simp only [Act.put, List.setIfInBounds_toArray, List.set_cons_zero, List.set_cons_succ]
                    refine wpAnyH_take (i := 24) (v := .bool true) rfl (by kernel_rfl) (by kernel_rfl) (by kernel_rfl) (fun _ _ _ h => False.elim h) (Or.inl ⟨by kernel_rfl, fun w' hw' => by (try go_simp); (try first | with_reducible rfl | exact hsum | exact hS2' | exact hk1 | decide)⟩) hS ?_
                    try simp only [Act.put, List.setIfInBounds_toArray, List.set_cons_zero, List.set_cons_succ]
                    refine wpAnyH_take (i := 25) (v := .bool true) rfl (by kernel_rfl) (by kernel_rfl) (by kernel_rfl) (fun _ _ _ h => False.elim h) (Or.inl ⟨by kernel_rfl, fun w' hw' => by (try go_simp); (try first | with_reducible rfl | exact hsum | exact hS2' | exact hk1 | decide)⟩) hS ?_
                    try simp only [Act.put, List.setIfInBounds_toArray, List.set_cons_zero, List.set_cons_succ]
                    refine wpAnyH_done (by kernel_rfl) ?_ _
                    refine NoPanic.normal ?_
                    have HZ : dec T = none := by
                      rw [HE.out, HD.out, HS.out]
                      have hx : enc (threes B (k - 1)) ≠ List.take 4 (List.drop m T) := fun hx => heq (bytes_inj (by rw [HE1.out, HE2.out, ext_bin, ← HT.out, ← hx, bin_list]; simp [three, bin_list]))
                      simp only [if_pos (Or.inr (Or.inr hx))]; rfl
                    have hB3 := HB.out.trans (hS.mono HWr.out)
                    go_wp2
                    go_ret2
                    exact ⟨(tend_none HZ).symm, hB3⟩
            · have hc1 : ((t[m + k].toNat : Int) == 61) = false := by rw [beq_eq_false_iff_ne]; omega
              have hc2 : ((t[m + k].toNat : Int) != 61) = true := by rw [bne, hc1]; rfl
              have hcb := t[m + k].toNat_lt
              cases hv : val t[m + k].toNat with
              | none =>
                have HS := Lib.hid (HBits.out.bad hk hmk' (by rw [hTc]; exact hc) (by rw [hTc]; exact hv))
                have cV := Lib.hid (fun W => value_any t[m + k].toNat W hcb)
                rw [hv] at cV
                clear hTc hc hv hcb
                go_wp2_with (go_at_call 11; ((with_reducible refine (cV.out _).mono ?_); rintro e w' ⟨rfl, rfl⟩))
                have HZ : dec T = none := by rw [HE.out, HD.out, HS.out]; rfl
                go_ret2
                exact ⟨(tend_none HZ).symm, HB.out⟩
              | some d =>
                have HS := Lib.hid (HBits.out.next hk hmk' (by rw [hTc]; exact hc) (by rw [hTc]; exact hv))
                have hd := val_lt hv
                have HO2 := Lib.hid (or_sign' hk HBits.out.lt HBits.out.div hd)
                have cV := Lib.hid (fun W => value_any t[m + k].toNat W hcb)
                rw [hv] at cV
                clear hTc hc hv hcb
                go_wp2_with (go_at_call 11; ((with_reducible refine (cV.out _).mono ?_); rintro e w' ⟨rfl, rfl⟩))
                go_round
                case rel => exact ⟨k + 1, B + d * 2 ^ (18 - 6 * k), congrArg _ HO2.out, by go_num, HS.out⟩
                case measure => simp [intOf]; omega
          · obtain rfl : k = 4 := by omega
            have HS := Lib.hid HBits.out.full
            go_wp2_with fail
            have HN2 : Hid (scanAt T m 0 0 = some (B, 4)) := HS.out
            obtain ⟨S1, hS1⟩ : ∃ S1, S1 = bin (enc (three B 3).data.toList) := ⟨_, rfl⟩
            obtain ⟨S2, hS2⟩ : ∃ S2, S2 = t.extract m (m + 4) := ⟨_, rfl⟩
            have cB := Lib.hid (fun W => bytes_any B 3 W (by have := HBits.out.lt; omega) (by omega))
            have cP := Lib.hid (fun W => put_any (three B 3) W (by rw [three_size _ _ (by omega)]; omega))
            rw [← hS1] at cP
            have hsum : IntKind.i64.wrap ((m : Int) + 4) = (m : Int) + 4 := IntWalk.i64_in _ (by omega)
            have hk1 : IntKind.i64.wrap 3 = 3 := by decide
            have hS2' : t.extract m ((m : Int) + 4).toNat = S2 := by rw [show ((m : Int) + 4).toNat = m + 4 by omega]; exact hS2.symm
            have hi4 : (m : Int) + 4 ≤ (t.size : Int) := by omega
            have hm0 : (0 : Int) ≤ (m : Int) := by omega
            have hm1 : (m : Int) ≤ (m : Int) + 4 := by omega
            have HE1 := Lib.hid hS1
            have HE2 := Lib.hid hS2
            clear hS1 hS2 HN2
            by_cases heq : S1 = S2
            · have hne : decide (S1 = S2) = true := by simp [heq]
              refine wp_region_noPanic ?_
              refine wp_region_held_drew (S := fun W => Below wr.heap.size wr W) (by kernel_rfl) (Below.refl _ _).drew (fun hS => ?_)
              refine wpAnyH_take (i := 0) (v := .int .i64 4) rfl (by kernel_rfl) (by kernel_rfl) (by kernel_rfl) (fun _ _ _ h => False.elim h) (Or.inl ⟨by kernel_rfl, fun w' hw' => by (try go_simp); (try first | with_reducible rfl | exact hsum | exact hS2' | exact hk1 | decide)⟩) hS ?_
              try simp only [Act.put, List.setIfInBounds_toArray, List.set_cons_zero, List.set_cons_succ]
              refine wpAnyH_take (i := 1) (v := .bool false) rfl (by kernel_rfl) (by kernel_rfl) (by kernel_rfl) (fun _ _ _ h => False.elim h) (Or.inl ⟨by kernel_rfl, fun w' hw' => by (try go_simp); (try first | with_reducible rfl | exact hsum | exact hS2' | exact hk1 | decide)⟩) hS ?_
              try simp only [Act.put, List.setIfInBounds_toArray, List.set_cons_zero, List.set_cons_succ]
              refine wpAnyH_take (i := 2) (v := .bool false) rfl (by kernel_rfl) (by kernel_rfl) (by kernel_rfl) (fun _ _ _ h => False.elim h) (Or.inl ⟨by kernel_rfl, fun w' hw' => by (try go_simp); (try first | with_reducible rfl | exact hsum | exact hS2' | exact hk1 | decide)⟩) hS ?_
              try simp only [Act.put, List.setIfInBounds_toArray, List.set_cons_zero, List.set_cons_succ]
              refine wpAnyH_take (i := 3) (v := .int .i64 4) rfl (by kernel_rfl) (by kernel_rfl) (by kernel_rfl) (fun _ _ _ h => False.elim h) (Or.inl ⟨by kernel_rfl, fun w' hw' => by (try go_simp); (try first | with_reducible rfl | exact hsum | exact hS2' | exact hk1 | decide)⟩) hS ?_
              try simp only [Act.put, List.setIfInBounds_toArray, List.set_cons_zero, List.set_cons_succ]
              refine wpAnyH_take (i := 4) (v := .bool false) rfl (by kernel_rfl) (by kernel_rfl) (by kernel_rfl) (fun _ _ _ h => False.elim h) (Or.inl ⟨by kernel_rfl, fun w' hw' => by (try go_simp); (try first | with_reducible rfl | exact hsum | exact hS2' | exact hk1 | decide)⟩) hS ?_
              try simp only [Act.put, List.setIfInBounds_toArray, List.set_cons_zero, List.set_cons_succ]
              refine wpAnyH_take (i := 5) (v := .bool false) rfl (by kernel_rfl) (by kernel_rfl) (by kernel_rfl) (fun _ _ _ h => False.elim h) (Or.inl ⟨by kernel_rfl, fun w' hw' => by (try go_simp); (try first | with_reducible rfl | exact hsum | exact hS2' | exact hk1 | decide)⟩) hS ?_
              try simp only [Act.put, List.setIfInBounds_toArray, List.set_cons_zero, List.set_cons_succ]
              refine wpAnyH_take (i := 6) (v := undef) rfl (by kernel_rfl) (by kernel_rfl) (by kernel_rfl) (fun _ _ _ h => False.elim h) (Or.inr ⟨by kernel_rfl, rfl⟩) hS ?_
              try simp only [Act.put, List.setIfInBounds_toArray, List.set_cons_zero, List.set_cons_succ]
              refine wpAnyH_take (i := 7) (v := undef) rfl (by kernel_rfl) (by kernel_rfl) (by kernel_rfl) (fun _ _ _ h => False.elim h) (Or.inr ⟨by kernel_rfl, rfl⟩) hS ?_
              try simp only [Act.put, List.setIfInBounds_toArray, List.set_cons_zero, List.set_cons_succ]
              refine wpAnyH_take (i := 8) (v := undef) rfl (by kernel_rfl) (by kernel_rfl) (by kernel_rfl) (fun _ _ _ h => False.elim h) (Or.inr ⟨by kernel_rfl, rfl⟩) hS ?_
              try simp only [Act.put, List.setIfInBounds_toArray, List.set_cons_zero, List.set_cons_succ]
              refine wpAnyH_take (i := 9) (v := undef) rfl (by kernel_rfl) (by kernel_rfl) (by kernel_rfl) (fun _ _ _ h => False.elim h) (Or.inr ⟨by kernel_rfl, rfl⟩) hS ?_
              try simp only [Act.put, List.setIfInBounds_toArray, List.set_cons_zero, List.set_cons_succ]
              refine wpAnyH_take (i := 10) (v := undef) rfl (by kernel_rfl) (by kernel_rfl) (by kernel_rfl) (fun _ _ _ h => False.elim h) (Or.inr ⟨by kernel_rfl, rfl⟩) hS ?_
              try simp only [Act.put, List.setIfInBounds_toArray, List.set_cons_zero, List.set_cons_succ]
              refine wpAnyH_take (i := 11) (v := .bool false) rfl (by kernel_rfl) (by kernel_rfl) (by kernel_rfl) (fun _ _ _ h => False.elim h) (Or.inl ⟨by kernel_rfl, fun w' hw' => by (try go_simp); (try first | with_reducible rfl | exact hsum | exact hS2' | exact hk1 | decide)⟩) hS ?_
              try simp only [Act.put, List.setIfInBounds_toArray, List.set_cons_zero, List.set_cons_succ]
              refine wpAnyH_take (i := 12) (v := .bool false) rfl (by kernel_rfl) (by kernel_rfl) (by kernel_rfl) (fun _ _ _ h => False.elim h) (Or.inl ⟨by kernel_rfl, fun w' hw' => by (try go_simp); (try first | with_reducible rfl | exact hsum | exact hS2' | exact hk1 | decide)⟩) hS ?_
              try simp only [Act.put, List.setIfInBounds_toArray, List.set_cons_zero, List.set_cons_succ]
              refine wpAnyH_take (i := 13) (v := .bool false) rfl (by kernel_rfl) (by kernel_rfl) (by kernel_rfl) (fun _ _ _ h => False.elim h) (Or.inl ⟨by kernel_rfl, fun w' hw' => by (try go_simp); (try first | with_reducible rfl | exact hsum | exact hS2' | exact hk1 | decide)⟩) hS ?_
              try simp only [Act.put, List.setIfInBounds_toArray, List.set_cons_zero, List.set_cons_succ]
              refine wpAnyH_take (i := 14) (v := .int .u32 B) rfl (by kernel_rfl) (by kernel_rfl) (by kernel_rfl) (fun _ _ _ h => False.elim h) (Or.inl ⟨by kernel_rfl, fun w' hw' => by (try go_simp); (try first | with_reducible rfl | exact hsum | exact hS2' | exact hk1 | decide)⟩) hS ?_
              try simp only [Act.put, List.setIfInBounds_toArray, List.set_cons_zero, List.set_cons_succ]
              refine wpAnyH_take (i := 15) (v := .int .i64 4) rfl (by kernel_rfl) (by kernel_rfl) (by kernel_rfl) (fun _ _ _ h => False.elim h) (Or.inl ⟨by kernel_rfl, fun w' hw' => by (try go_simp); (try first | with_reducible rfl | exact hsum | exact hS2' | exact hk1 | decide)⟩) hS ?_
              try simp only [Act.put, List.setIfInBounds_toArray, List.set_cons_zero, List.set_cons_succ]
              refine wpAnyH_take (i := 16) (v := .int .i64 3) rfl (by kernel_rfl) (by kernel_rfl) (by kernel_rfl) (fun _ _ _ h => False.elim h) (Or.inl ⟨by kernel_rfl, fun w' hw' => by (try go_simp); (try first | with_reducible rfl | exact hsum | exact hS2' | exact hk1 | decide)⟩) hS ?_
              try simp only [Act.put, List.setIfInBounds_toArray, List.set_cons_zero, List.set_cons_succ]
              refine wpAnyH_take (i := 19) (v := .string t) rfl (by kernel_rfl) (by kernel_rfl) (by kernel_rfl) (fun _ _ _ h => False.elim h) (Or.inl ⟨by kernel_rfl, fun w' hw' => by (try go_simp); (try first | with_reducible rfl | exact hsum | exact hS2' | exact hk1 | decide)⟩) hS ?_
              try simp only [Act.put, List.setIfInBounds_toArray, List.set_cons_zero, List.set_cons_succ]
              refine wpAnyH_take (i := 20) (v := .int .i64 m) rfl (by kernel_rfl) (by kernel_rfl) (by kernel_rfl) (fun _ _ _ h => False.elim h) (Or.inl ⟨by kernel_rfl, fun w' hw' => by (try go_simp); (try first | with_reducible rfl | exact hsum | exact hS2' | exact hk1 | decide)⟩) hS ?_
              try simp only [Act.put, List.setIfInBounds_toArray, List.set_cons_zero, List.set_cons_succ]
              refine wpAnyH_take (i := 21) (v := .int .i64 m) rfl (by kernel_rfl) (by kernel_rfl) (by kernel_rfl) (fun _ _ _ h => False.elim h) (Or.inl ⟨by kernel_rfl, fun w' hw' => by (try go_simp); (try first | with_reducible rfl | exact hsum | exact hS2' | exact hk1 | decide)⟩) hS ?_
              try simp only [Act.put, List.setIfInBounds_toArray, List.set_cons_zero, List.set_cons_succ]
              refine wpAnyH_take (i := 22) (v := .int .i64 ((m : Int) + 4)) rfl (by kernel_rfl) (by kernel_rfl) (by kernel_rfl) (fun _ _ _ h => False.elim h) (Or.inl ⟨by kernel_rfl, fun w' hw' => by (try go_simp); (try first | with_reducible rfl | exact hsum | exact hS2' | exact hk1 | decide)⟩) hS ?_
              try simp only [Act.put, List.setIfInBounds_toArray, List.set_cons_zero, List.set_cons_succ]
              refine wpAnyH_take (i := 23) (v := .string S2) rfl (by kernel_rfl) (by kernel_rfl) (by kernel_rfl) (fun _ _ _ h => False.elim h) (Or.inl ⟨by kernel_rfl, fun w' hw' => by (try go_simp); (try first | with_reducible rfl | exact hsum | exact hS2' | exact hk1 | decide)⟩) hS ?_
              try simp only [Act.put, List.setIfInBounds_toArray, List.set_cons_zero, List.set_cons_succ]
              refine wpAnyH_ready (rs := [17]) (by kernel_rfl) (by simp) ?_
              refine AllReadyH.cons rfl (fun K hK => ?_) AllReadyH.nil
              go_simp
              go_at_call 12
              refine (cB.out _).mono ?_
              rintro e w2 ⟨rfl, hw2⟩
              go_wp2_with fail
              refine hK.out _ _ (hS.trans (hw2.mono hS.size)) (fun hS => ?_)
              clear hK K
              try simp only [Act.put, List.setIfInBounds_toArray, List.set_cons_zero, List.set_cons_succ]
              refine wpAnyH_ready (rs := [18]) (by kernel_rfl) (by simp) ?_
              refine AllReadyH.cons rfl (fun K hK => ?_) AllReadyH.nil
              go_simp
              go_at_call 9
              refine (cP.out _).mono ?_
              rintro e w3 ⟨rfl, hw3⟩
              go_wp2_with fail
              refine hK.out _ _ (hS.trans (hw3.mono hS.size)) (fun hS => ?_)
              clear hK K
              try simp only [Act.put, List.setIfInBounds_toArray, List.set_cons_zero, List.set_cons_succ]
              refine wpAnyH_take (i := 24) (v := .bool false) rfl (by kernel_rfl) (by kernel_rfl) (by kernel_rfl) (fun _ _ _ h => False.elim h) (Or.inl ⟨by kernel_rfl, fun w' hw' => by (try go_simp); (try first | with_reducible rfl | exact hsum | exact hS2' | exact hk1 | decide)⟩) hS ?_
              try simp only [Act.put, List.setIfInBounds_toArray, List.set_cons_zero, List.set_cons_succ]
              refine wpAnyH_take (i := 25) (v := .bool false) rfl (by kernel_rfl) (by kernel_rfl) (by kernel_rfl) (fun _ _ _ h => False.elim h) (Or.inl ⟨by kernel_rfl, fun w' hw' => by (try go_simp); (try first | with_reducible rfl | exact hsum | exact hS2' | exact hk1 | decide)⟩) hS ?_
              try simp only [Act.put, List.setIfInBounds_toArray, List.set_cons_zero, List.set_cons_succ]
              refine wpAnyH_done (by kernel_rfl) ?_ _
              refine NoPanic.normal ?_
              have hx : enc (threes B 3) = List.take 4 (List.drop m T) := by
                have e1 : S1.data.toList = enc (threes B 3) := by rw [HE1.out, bin_list]; simp [three, bin_list]
                have e2 : S2.data.toList = List.take 4 (List.drop m T) := by rw [HE2.out, ext_bin, ← HT.out]
                exact e1.symm.trans ((congrArg (fun b => b.data.toList) heq).trans e2)
              have HZ := Lib.hid (show dec T = (dec (T.drop (m + 4))).map ((p ++ threes B 3) ++ ·) by
                rw [HE.out, HD.out, HS.out]
                have hn : ¬ (4 < 2 ∨ 4 < 4 ∧ m + 4 < T.length ∨ enc (threes B 3) ≠ List.take 4 (List.drop m T)) := by
                  rintro (h | h | h)
                  · omega
                  · have := HTl.out; omega
                  · exact h hx
                simp only [if_neg hn, Option.map_map]
                congr 1
                funext x
                simp [List.append_assoc])
              have HS3 := Lib.hid hS
              clear hx hS hw3 hw2
              go_wp2_with (first | (refine wpList_append_row rfl _ _ 28 9 rfl w.heap.size 5 i0 Try.underlying28 hi hz0 hz1 hz2 _ p rfl (HO.out.old (HS3.out.trans (hB4.mono HS3.out.size)) (Nat.le_refl _)) (threes B 3) _ rfl (Src.text Try.underlying9 _) (by rw [threes_len _ _ (by omega)]; omega) (Nat.le_trans HWr.out (Nat.le_trans HS3.out.size hB4.size)) ?_; intro v' w' hown' hgrow') | (go_at_call 12; refine (cB.out _).mono ?_; rintro e w4 ⟨rfl, hB4⟩))
              have HB2 := (HB.out.trans ((HS3.out.trans (hB4.mono HS3.out.size)).mono HWr.out)).grown hgrow' (Nat.le_trans HWr.out (Nat.le_trans HS3.out.size hB4.size)) (fun k hk => (HO.out.lt k hk).1)
              refine ⟨⟨m + 4, p ++ threes B 3, by go_num, by omega, hm44, by rw [List.length_append, threes_len _ _ (by omega)]; omega, hown', HZ.out, HB2⟩, ?_⟩
              simp [intOf]; omega
            · have hnl : ¬ S1.toList = S2.toList := fun h => heq (bytes_inj (by rw [ByteArray.toList_eq, ByteArray.toList_eq] at h; exact h))
              refine wp_region_noPanic ?_
              refine wp_region_held_drew (S := fun W => Below wr.heap.size wr W) (by kernel_rfl) (Below.refl _ _).drew (fun hS => ?_)
              refine wpAnyH_take (i := 0) (v := .int .i64 4) rfl (by kernel_rfl) (by kernel_rfl) (by kernel_rfl) (fun _ _ _ h => False.elim h) (Or.inl ⟨by kernel_rfl, fun w' hw' => by (try go_simp); (try first | with_reducible rfl | exact hsum | exact hS2' | exact hk1 | decide)⟩) hS ?_
              try simp only [Act.put, List.setIfInBounds_toArray, List.set_cons_zero, List.set_cons_succ]
              refine wpAnyH_take (i := 1) (v := .bool false) rfl (by kernel_rfl) (by kernel_rfl) (by kernel_rfl) (fun _ _ _ h => False.elim h) (Or.inl ⟨by kernel_rfl, fun w' hw' => by (try go_simp); (try first | with_reducible rfl | exact hsum | exact hS2' | exact hk1 | decide)⟩) hS ?_
              try simp only [Act.put, List.setIfInBounds_toArray, List.set_cons_zero, List.set_cons_succ]
              refine wpAnyH_take (i := 2) (v := .bool false) rfl (by kernel_rfl) (by kernel_rfl) (by kernel_rfl) (fun _ _ _ h => False.elim h) (Or.inl ⟨by kernel_rfl, fun w' hw' => by (try go_simp); (try first | with_reducible rfl | exact hsum | exact hS2' | exact hk1 | decide)⟩) hS ?_
              try simp only [Act.put, List.setIfInBounds_toArray, List.set_cons_zero, List.set_cons_succ]
              refine wpAnyH_take (i := 3) (v := .int .i64 4) rfl (by kernel_rfl) (by kernel_rfl) (by kernel_rfl) (fun _ _ _ h => False.elim h) (Or.inl ⟨by kernel_rfl, fun w' hw' => by (try go_simp); (try first | with_reducible rfl | exact hsum | exact hS2' | exact hk1 | decide)⟩) hS ?_
              try simp only [Act.put, List.setIfInBounds_toArray, List.set_cons_zero, List.set_cons_succ]
              refine wpAnyH_take (i := 4) (v := .bool false) rfl (by kernel_rfl) (by kernel_rfl) (by kernel_rfl) (fun _ _ _ h => False.elim h) (Or.inl ⟨by kernel_rfl, fun w' hw' => by (try go_simp); (try first | with_reducible rfl | exact hsum | exact hS2' | exact hk1 | decide)⟩) hS ?_
              try simp only [Act.put, List.setIfInBounds_toArray, List.set_cons_zero, List.set_cons_succ]
              refine wpAnyH_take (i := 5) (v := .bool false) rfl (by kernel_rfl) (by kernel_rfl) (by kernel_rfl) (fun _ _ _ h => False.elim h) (Or.inl ⟨by kernel_rfl, fun w' hw' => by (try go_simp); (try first | with_reducible rfl | exact hsum | exact hS2' | exact hk1 | decide)⟩) hS ?_
              try simp only [Act.put, List.setIfInBounds_toArray, List.set_cons_zero, List.set_cons_succ]
              refine wpAnyH_take (i := 6) (v := undef) rfl (by kernel_rfl) (by kernel_rfl) (by kernel_rfl) (fun _ _ _ h => False.elim h) (Or.inr ⟨by kernel_rfl, rfl⟩) hS ?_
              try simp only [Act.put, List.setIfInBounds_toArray, List.set_cons_zero, List.set_cons_succ]
              refine wpAnyH_take (i := 7) (v := undef) rfl (by kernel_rfl) (by kernel_rfl) (by kernel_rfl) (fun _ _ _ h => False.elim h) (Or.inr ⟨by kernel_rfl, rfl⟩) hS ?_
              try simp only [Act.put, List.setIfInBounds_toArray, List.set_cons_zero, List.set_cons_succ]
              refine wpAnyH_take (i := 8) (v := undef) rfl (by kernel_rfl) (by kernel_rfl) (by kernel_rfl) (fun _ _ _ h => False.elim h) (Or.inr ⟨by kernel_rfl, rfl⟩) hS ?_
              try simp only [Act.put, List.setIfInBounds_toArray, List.set_cons_zero, List.set_cons_succ]
              refine wpAnyH_take (i := 9) (v := undef) rfl (by kernel_rfl) (by kernel_rfl) (by kernel_rfl) (fun _ _ _ h => False.elim h) (Or.inr ⟨by kernel_rfl, rfl⟩) hS ?_
              try simp only [Act.put, List.setIfInBounds_toArray, List.set_cons_zero, List.set_cons_succ]
              refine wpAnyH_take (i := 10) (v := undef) rfl (by kernel_rfl) (by kernel_rfl) (by kernel_rfl) (fun _ _ _ h => False.elim h) (Or.inr ⟨by kernel_rfl, rfl⟩) hS ?_
              try simp only [Act.put, List.setIfInBounds_toArray, List.set_cons_zero, List.set_cons_succ]
              refine wpAnyH_take (i := 11) (v := .bool false) rfl (by kernel_rfl) (by kernel_rfl) (by kernel_rfl) (fun _ _ _ h => False.elim h) (Or.inl ⟨by kernel_rfl, fun w' hw' => by (try go_simp); (try first | with_reducible rfl | exact hsum | exact hS2' | exact hk1 | decide)⟩) hS ?_
              try simp only [Act.put, List.setIfInBounds_toArray, List.set_cons_zero, List.set_cons_succ]
              refine wpAnyH_take (i := 12) (v := .bool false) rfl (by kernel_rfl) (by kernel_rfl) (by kernel_rfl) (fun _ _ _ h => False.elim h) (Or.inl ⟨by kernel_rfl, fun w' hw' => by (try go_simp); (try first | with_reducible rfl | exact hsum | exact hS2' | exact hk1 | decide)⟩) hS ?_
              try simp only [Act.put, List.setIfInBounds_toArray, List.set_cons_zero, List.set_cons_succ]
              refine wpAnyH_take (i := 13) (v := .bool false) rfl (by kernel_rfl) (by kernel_rfl) (by kernel_rfl) (fun _ _ _ h => False.elim h) (Or.inl ⟨by kernel_rfl, fun w' hw' => by (try go_simp); (try first | with_reducible rfl | exact hsum | exact hS2' | exact hk1 | decide)⟩) hS ?_
              try simp only [Act.put, List.setIfInBounds_toArray, List.set_cons_zero, List.set_cons_succ]
              refine wpAnyH_take (i := 14) (v := .int .u32 B) rfl (by kernel_rfl) (by kernel_rfl) (by kernel_rfl) (fun _ _ _ h => False.elim h) (Or.inl ⟨by kernel_rfl, fun w' hw' => by (try go_simp); (try first | with_reducible rfl | exact hsum | exact hS2' | exact hk1 | decide)⟩) hS ?_
              try simp only [Act.put, List.setIfInBounds_toArray, List.set_cons_zero, List.set_cons_succ]
              refine wpAnyH_take (i := 15) (v := .int .i64 4) rfl (by kernel_rfl) (by kernel_rfl) (by kernel_rfl) (fun _ _ _ h => False.elim h) (Or.inl ⟨by kernel_rfl, fun w' hw' => by (try go_simp); (try first | with_reducible rfl | exact hsum | exact hS2' | exact hk1 | decide)⟩) hS ?_
              try simp only [Act.put, List.setIfInBounds_toArray, List.set_cons_zero, List.set_cons_succ]
              refine wpAnyH_take (i := 16) (v := .int .i64 3) rfl (by kernel_rfl) (by kernel_rfl) (by kernel_rfl) (fun _ _ _ h => False.elim h) (Or.inl ⟨by kernel_rfl, fun w' hw' => by (try go_simp); (try first | with_reducible rfl | exact hsum | exact hS2' | exact hk1 | decide)⟩) hS ?_
              try simp only [Act.put, List.setIfInBounds_toArray, List.set_cons_zero, List.set_cons_succ]
              refine wpAnyH_take (i := 19) (v := .string t) rfl (by kernel_rfl) (by kernel_rfl) (by kernel_rfl) (fun _ _ _ h => False.elim h) (Or.inl ⟨by kernel_rfl, fun w' hw' => by (try go_simp); (try first | with_reducible rfl | exact hsum | exact hS2' | exact hk1 | decide)⟩) hS ?_
              try simp only [Act.put, List.setIfInBounds_toArray, List.set_cons_zero, List.set_cons_succ]
              refine wpAnyH_take (i := 20) (v := .int .i64 m) rfl (by kernel_rfl) (by kernel_rfl) (by kernel_rfl) (fun _ _ _ h => False.elim h) (Or.inl ⟨by kernel_rfl, fun w' hw' => by (try go_simp); (try first | with_reducible rfl | exact hsum | exact hS2' | exact hk1 | decide)⟩) hS ?_
              try simp only [Act.put, List.setIfInBounds_toArray, List.set_cons_zero, List.set_cons_succ]
              refine wpAnyH_take (i := 21) (v := .int .i64 m) rfl (by kernel_rfl) (by kernel_rfl) (by kernel_rfl) (fun _ _ _ h => False.elim h) (Or.inl ⟨by kernel_rfl, fun w' hw' => by (try go_simp); (try first | with_reducible rfl | exact hsum | exact hS2' | exact hk1 | decide)⟩) hS ?_
              try simp only [Act.put, List.setIfInBounds_toArray, List.set_cons_zero, List.set_cons_succ]
              refine wpAnyH_take (i := 22) (v := .int .i64 ((m : Int) + 4)) rfl (by kernel_rfl) (by kernel_rfl) (by kernel_rfl) (fun _ _ _ h => False.elim h) (Or.inl ⟨by kernel_rfl, fun w' hw' => by (try go_simp); (try first | with_reducible rfl | exact hsum | exact hS2' | exact hk1 | decide)⟩) hS ?_
              try simp only [Act.put, List.setIfInBounds_toArray, List.set_cons_zero, List.set_cons_succ]
              refine wpAnyH_take (i := 23) (v := .string S2) rfl (by kernel_rfl) (by kernel_rfl) (by kernel_rfl) (fun _ _ _ h => False.elim h) (Or.inl ⟨by kernel_rfl, fun w' hw' => by (try go_simp); (try first | with_reducible rfl | exact hsum | exact hS2' | exact hk1 | decide)⟩) hS ?_
              try simp only [Act.put, List.setIfInBounds_toArray, List.set_cons_zero, List.set_cons_succ]
              refine wpAnyH_ready (rs := [17]) (by kernel_rfl) (by simp) ?_
              refine AllReadyH.cons rfl (fun K hK => ?_) AllReadyH.nil
              go_simp
              go_at_call 12
              refine (cB.out _).mono ?_
              rintro e w2 ⟨rfl, hw2⟩
              go_wp2_with fail
              refine hK.out _ _ (hS.trans (hw2.mono hS.size)) (fun hS => ?_)
              clear hK K
              try simp only [Act.put, List.setIfInBounds_toArray, List.set_cons_zero, List.set_cons_succ]
              refine wpAnyH_ready (rs := [18]) (by kernel_rfl) (by simp) ?_
              refine AllReadyH.cons rfl (fun K hK => ?_) AllReadyH.nil
              go_simp
              go_at_call 9
              refine (cP.out _).mono ?_
              rintro e w3 ⟨rfl, hw3⟩
              go_wp2_with fail
              refine hK.out _ _ (hS.trans (hw3.mono hS.size)) (fun hS => ?_)
              clear hK K
              try simp only [Act.put, List.setIfInBounds_toArray, List.set_cons_zero, List.set_cons_succ]
              refine wpAnyH_take (i := 24) (v := .bool true) rfl (by kernel_rfl) (by kernel_rfl) (by kernel_rfl) (fun _ _ _ h => False.elim h) (Or.inl ⟨by kernel_rfl, fun w' hw' => by (try go_simp); (try first | with_reducible rfl | exact hsum | exact hS2' | exact hk1 | decide)⟩) hS ?_
              try simp only [Act.put, List.setIfInBounds_toArray, List.set_cons_zero, List.set_cons_succ]
              refine wpAnyH_take (i := 25) (v := .bool true) rfl (by kernel_rfl) (by kernel_rfl) (by kernel_rfl) (fun _ _ _ h => False.elim h) (Or.inl ⟨by kernel_rfl, fun w' hw' => by (try go_simp); (try first | with_reducible rfl | exact hsum | exact hS2' | exact hk1 | decide)⟩) hS ?_
              try simp only [Act.put, List.setIfInBounds_toArray, List.set_cons_zero, List.set_cons_succ]
              refine wpAnyH_done (by kernel_rfl) ?_ _
              refine NoPanic.normal ?_
              have HZ : dec T = none := by
                rw [HE.out, HD.out, HS.out]
                have hx : enc (threes B 3) ≠ List.take 4 (List.drop m T) := fun hx => heq (bytes_inj (by rw [HE1.out, HE2.out, ext_bin, ← HT.out, ← hx, bin_list]; simp [three, bin_list]))
                simp only [if_pos (Or.inr (Or.inr hx))]; rfl
              have hB3 := HB.out.trans (hS.mono HWr.out)
              go_wp2
              go_ret2
              exact ⟨(tend_none HZ).symm, hB3⟩
      · obtain rfl : m = t.size := by omega
        have HZ := Lib.hid (show dec T = some p by rw [HE.out, List.drop_of_length_le (by rw [HTl.out]; exact Nat.le_refl _)]; simp [dec])
        have cv := row_text (P := Try.prog) Try.underlying28 Try.underlying5 Try.underlying9 HO.out
        clear hlt
        go_wp2
        go_ret2
        exact ⟨(tend_some HZ.out).symm, HB.out⟩
  · have h4' : ((t.size : Int) % 4 == 0) = false := by rw [beq_eq_false_iff_ne]; omega
    have HZ := Lib.hid (tend_none (dec_four_len T (by rw [hTl]; exact h4)))
    rw [← hT]
    clear hT hTl h4
    go_enter Try.func7, Try.ntmps7
    go_wp2
    go_ret2
    exact ⟨HZ.out.symm, Below.refl _ _⟩
end Six
end Go.Proofs.Ytfcpicejifolmab
