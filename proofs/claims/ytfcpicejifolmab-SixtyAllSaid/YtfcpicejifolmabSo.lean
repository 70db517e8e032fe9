/-
  The document's reading of texts of sixty-four signs: its contract. No condition but that a text is short.
-/
import Derived.Test.YtfcpicejifolmabSn
import Derived.Handy
namespace Go.Proofs.Ytfcpicejifolmab
open Go.ChangeShapes Go.WideShapes Go.ChangeAt Go.RowKit
namespace Six
open Mem
set_option linter.unusedVariables false
set_option linter.unusedSimpArgs false
theorem ba_inj {a b : ByteArray} (h : a.data.toList = b.data.toList) : a = b := by
  apply ByteArray.ext; exact Array.toList_inj.1 h
theorem tolist_no {a b : ByteArray} (h : a ≠ b) : ¬ a.toList = b.toList := fun e => h (ba_inj (by rw [ByteArray.toList_eq, ByteArray.toList_eq] at e; exact e))
theorem list_at {t : ByteArray} {T : List UInt8} (hT : T = t.data.toList) {i : Nat} (h : i < t.size) (h2 : i < T.length) : T[i] = t[i] := by
  subst hT; rfl
theorem lit_at (k : Nat) (h : k < 64) (h2 : k < (ByteArray.mk #[65, 66, 67, 68, 69, 70, 71, 72, 73, 74, 75, 76, 77, 78, 79, 80, 81, 82, 83, 84, 85, 86, 87, 88, 89, 90, 97, 98, 99, 100, 101, 102, 103, 104, 105, 106, 107, 108, 109, 110, 111, 112, 113, 114, 115, 116, 117, 118, 119, 120, 121, 122, 48, 49, 50, 51, 52, 53, 54, 55, 56, 57, 43, 47]).size) : (ByteArray.mk #[65, 66, 67, 68, 69, 70, 71, 72, 73, 74, 75, 76, 77, 78, 79, 80, 81, 82, 83, 84, 85, 86, 87, 88, 89, 90, 97, 98, 99, 100, 101, 102, 103, 104, 105, 106, 107, 108, 109, 110, 111, 112, 113, 114, 115, 116, 117, 118, 119, 120, 121, 122, 48, 49, 50, 51, 52, 53, 54, 55, 56, 57, 43, 47])[k] = sign k := by
  have : ∀ k : Fin 64, (ByteArray.mk #[65, 66, 67, 68, 69, 70, 71, 72, 73, 74, 75, 76, 77, 78, 79, 80, 81, 82, 83, 84, 85, 86, 87, 88, 89, 90, 97, 98, 99, 100, 101, 102, 103, 104, 105, 106, 107, 108, 109, 110, 111, 112, 113, 114, 115, 116, 117, 118, 119, 120, 121, 122, 48, 49, 50, 51, 52, 53, 54, 55, 56, 57, 43, 47])[k.1]'(by have := k.2; exact this) = sign k.1 := by decide +kernel
  exact this ⟨k, h⟩
theorem sign_eq {c d : Nat} (hc : c < 256) (hd : d < 64) : (sign d).toNat = c ↔ val c = some d := sign_val ⟨c, hc⟩ ⟨d, hd⟩
theorem pow_b (b : Nat) (h : b = 2 ∨ b = 4 ∨ b = 6) : (2 : Nat) ^ (b - 2) = 1 ∨ (2 : Nat) ^ (b - 2) = 4 ∨ (2 : Nat) ^ (b - 2) = 16 := by
  rcases h with rfl | rfl | rfl <;> simp
set_option maxHeartbeats 4000000 in
set_option maxRecDepth 100000 in
theorem rtake_any (t : ByteArray) (w : World) (ht : t.size ≤ 200) :
    Calls Try.prog 8 #[.string t] w fun e w' => e = tend t.data.toList ∧ Below w.heap.size w w' := by
  obtain ⟨T, hT⟩ : ∃ T, T = t.data.toList := ⟨_, rfl⟩
  have hTl : T.length = t.size := by rw [hT]; simp
  have HT := Lib.hid hT
  have HTl := Lib.hid hTl
  have TS := Lib.hid (Tail.start T)
  rw [hTl] at TS
  rw [← HT.out]
  clear hT hTl
  go_enter Try.func8, Try.ntmps8
  go_wp2_with fail
  go_loop [7] (fun x => ∃ m : Nat, x = .int .i64 m ∧ m ≤ t.size ∧ Tail T m) (fun x => (intOf x).toNat)
  case atStart => exact ⟨t.size, rfl, Nat.le_refl _, TS.out⟩
  case round =>
    obtain ⟨m, rfl, hm, htl⟩ := hrel
    have HL := Lib.hid htl
    clear htl
    by_cases hgo : ∃ (h0 : 0 < m) (h1 : m - 1 < t.size), t[m - 1].toNat = 61
    · obtain ⟨h0, h1, hc⟩ := hgo
      obtain ⟨j, rfl⟩ : ∃ j, m = j + 1 := ⟨m - 1, by omega⟩
      simp only [Nat.add_sub_cancel] at h1 hc
      have hc1 : ((t[j].toNat : Int) == 61) = true := by rw [beq_iff_eq]; omega
      have HN := Lib.hid (HL.out.next (by omega) (by rw [HTl.out]; exact h1) (by simp only [Nat.add_sub_cancel]; rw [list_at HT.out h1]; exact hc))
      clear hc
      go_wp2
      go_round
      case rel => exact ⟨j, by go_num, by omega, HN.out⟩
      case measure => simp [intOf]; try omega
    · have HM : Hid (∀ (h0 : 0 < m) (hl : m - 1 < T.length), T[m - 1].toNat ≠ 61) := fun h0 hl hc => hgo ⟨h0, by rw [← HTl.out]; exact hl, by rw [← list_at HT.out (by rw [← HTl.out]; exact hl) hl]; exact hc⟩
      have hcase : m = 0 ∨ ∃ j, ∃ (h : j < t.size), m = j + 1 ∧ t[j].toNat ≠ 61 := by
        by_cases h0 : m = 0
        · exact .inl h0
        · exact .inr ⟨m - 1, by omega, by omega, fun hc => hgo ⟨by omega, by omega, hc⟩⟩
      clear hgo
      obtain ⟨S, hS⟩ : ∃ S, S = T.take m := ⟨_, rfl⟩
      have hSl : S.length = m := by rw [hS, List.length_take, HTl.out]; omega
      have hSat : ∀ (i : Nat) (h1 : i < m) (h2 : i < t.size) (h3 : i < S.length), S[i] = t[i] := fun i h1 h2 h3 => by
        simp only [hS, List.getElem_take]; exact list_at HT.out h2 (by rw [HTl.out]; exact h2)
      have HNo := Lib.hid (fun (h : sdec S 0 0 = none) => tail_none HL.out HM.out (by rw [← hS]; exact h))
      have HYes := Lib.hid (fun (p : List UInt8) (h : sdec S 0 0 = some p) (hn : enc p ≠ T) => tail_some HL.out HM.out (by rw [← hS]; exact h) hn)
      have HSl := Lib.hid hSl
      have HSat := Lib.hid hSat
      clear hS hSl hSat HL HM
      have hgoal : (m = 0 ∨ ∃ j, ∃ (h : j < t.size), m = j + 1 ∧ ((t[j].toNat : Int) == 61) = false) := by
        rcases hcase with h | ⟨j, hj, h1, hc⟩
        · exact .inl h
        · exact .inr ⟨j, hj, h1, by rw [beq_eq_false_iff_ne]; omega⟩
      clear hcase
      rcases hgoal with h0 | ⟨j, hj, rfl, hc1⟩
      · have hd0 : ¬ 0 < m := by omega
        clear h0
        go_wp2_with fail
        clear hd0
        go_loopw [4, 5, 6, 8] (fun b v o i W => ∃ (k y c : Nat) (p : List UInt8), i = .int .i64 k ∧ k ≤ m ∧ b = .int .i64 (c : Int) ∧ v = .int .i64 (y : Int) ∧ o = .string (bin p) ∧ Stream S k y c p ∧ Below w.heap.size w W) (fun _ _ _ i _ => m - (intOf i).toNat)
        case atStart => exact ⟨0, 0, 0, [], rfl, Nat.zero_le _, rfl, rfl, rfl, Stream.start S, Below.refl _ _⟩
        case round =>
          obtain ⟨k, y, c, p, rfl, hk, rfl, rfl, rfl, hst, hb⟩ := hrel
          have hy := hst.v64
          have hpl := hst.len
          have hcb := hst.bd
          have HS := Lib.hid hst
          have HB := Lib.hid hb
          have HWr := Lib.hid hb.size
          have hsz : (bin p).size ≤ 300 := by rw [bin_size]; omega
          clear hst hb
          by_cases hkm : k < m
          · have hkt : k < t.size := by omega
            have hks : k < S.length := by rw [HSl.out]; exact hkm
            have hat := Lib.hid (HSat.out k hkm hkt hks)
            have hct : t[k].toNat < 256 := t[k].toNat_lt
            go_wp2_with fail
            go_loopw [9, 10] (fun d i W => ∃ q : Nat, i = .int .i64 q ∧ q ≤ 64 ∧ d = .int .i64 (seek t[k].toNat q) ∧ Below w.heap.size w W) (fun _ i _ => 64 - (intOf i).toNat)
            case atStart => exact ⟨0, rfl, by omega, by rw [seek_zero], HB.out⟩
            case round =>
              obtain ⟨q, rfl, hq, rfl, hbq⟩ := hrel
              have HBq := Lib.hid hbq
              have HWq := Lib.hid hbq.size
              clear hbq
              by_cases hq64 : q < 64
              · have hq64' : q < (ByteArray.mk #[65, 66, 67, 68, 69, 70, 71, 72, 73, 74, 75, 76, 77, 78, 79, 80, 81, 82, 83, 84, 85, 86, 87, 88, 89, 90, 97, 98, 99, 100, 101, 102, 103, 104, 105, 106, 107, 108, 109, 110, 111, 112, 113, 114, 115, 116, 117, 118, 119, 120, 121, 122, 48, 49, 50, 51, 52, 53, 54, 55, 56, 57, 43, 47]).size := hq64
                by_cases hm : val t[k].toNat = some q
                · have HH := Lib.hid (seek_hit hm)
                  have he : (((ByteArray.mk #[65, 66, 67, 68, 69, 70, 71, 72, 73, 74, 75, 76, 77, 78, 79, 80, 81, 82, 83, 84, 85, 86, 87, 88, 89, 90, 97, 98, 99, 100, 101, 102, 103, 104, 105, 106, 107, 108, 109, 110, 111, 112, 113, 114, 115, 116, 117, 118, 119, 120, 121, 122, 48, 49, 50, 51, 52, 53, 54, 55, 56, 57, 43, 47])[q].toNat : Int) == (t[k].toNat : Int)) = true := by
                    rw [lit_at q hq64, (sign_eq hct hq64).2 hm]; exact beq_self_eq_true _
                  clear hm
                  go_wp2_with fail
                  go_quiet (fail)
                  go_wp2
                  go_roundw
                  case rel => exact ⟨q + 1, by go_num, by omega, by rw [HH.out], below_drewN HBq.out _⟩
                  case measure => simp [intOf]; omega
                · have HH := Lib.hid (seek_miss hm)
                  have he : (((ByteArray.mk #[65, 66, 67, 68, 69, 70, 71, 72, 73, 74, 75, 76, 77, 78, 79, 80, 81, 82, 83, 84, 85, 86, 87, 88, 89, 90, 97, 98, 99, 100, 101, 102, 103, 104, 105, 106, 107, 108, 109, 110, 111, 112, 113, 114, 115, 116, 117, 118, 119, 120, 121, 122, 48, 49, 50, 51, 52, 53, 54, 55, 56, 57, 43, 47])[q].toNat : Int) == (t[k].toNat : Int)) = false := by
                    rw [beq_eq_false_iff_ne, lit_at q hq64]
                    intro h
                    exact hm ((sign_eq hct hq64).1 (by omega))
                  clear hm
                  go_wp2_with fail
                  go_quiet (fail)
                  go_wp2
                  go_roundw
                  case rel => exact ⟨q + 1, by go_num, by omega, by rw [HH.out], below_drewN HBq.out _⟩
                  case measure => simp [intOf]; omega
              · obtain rfl : q = 64 := by omega
                clear hq64 hq
                cases hv : val t[k].toNat with
                | none =>
                  rw [seek_none hv]
                  have HZ := Lib.hid (tend_none (HNo.out (HS.out.bad hks (by rw [hat.out]; exact hv))))
                  clear hv
                  go_wp2
                  go_ret2
                  exact ⟨HZ.out.symm, HBq.out⟩
                | some d =>
                  rw [seek_some hv]
                  have hd := val_lt hv
                  have hpc := Lib.hid hv
                  rw [← hat.out] at hpc
                  clear hv
                  rcases hcb with rfl | rfl | rfl | rfl
                  · have HN := Lib.hid (HS.out.keep hks hpc.out (by omega)).2
                    go_wp2
                    go_roundw
                    case rel => exact ⟨k + 1, _, _, p, by go_num, by omega, rfl, rfl, rfl, HN.out, HBq.out⟩
                    case measure => simp [intOf]; omega
                  · obtain ⟨z, hz⟩ : ∃ z, z = UInt8.ofNat ((y * 64 + d) / 2 ^ (2 - 2)) := ⟨_, rfl⟩
                    have HN := Lib.hid (HS.out.put hks hpc.out (by omega))
                    rw [← hz] at HN
                    have hx : ((y : Int) * 64 + (d : Int)) % 256 = (z.toNat : Int) := by rw [hz, UInt8.toNat_ofNat']; simp only [Nat.reduceSub, Nat.reducePow]; omega
                    have cv := one_text (P := Try.prog) wr Try.underlying28 Try.underlying5 Try.underlying9 z (e := 5) hx
                    have hs1 : (bin [z]).size ≤ 1 := by rw [bin_size]; simp
                    clear hpc hz hx
                    go_wp2
                    go_roundw
                    case rel => exact ⟨k + 1, (y * 64 + d) % 1, 0, p ++ [z], by go_num, by omega, rfl, by go_num, by rw [bin_snoc], HN.out, HBq.out.alloc HWq.out _⟩
                    case measure => simp [intOf]; omega
                  · obtain ⟨z, hz⟩ : ∃ z, z = UInt8.ofNat ((y * 64 + d) / 2 ^ (4 - 2)) := ⟨_, rfl⟩
                    have HN := Lib.hid (HS.out.put hks hpc.out (by omega))
                    rw [← hz] at HN
                    have hx : ((y : Int) * 64 + (d : Int)) / 4 % 256 = (z.toNat : Int) := by rw [hz, UInt8.toNat_ofNat']; simp only [Nat.reduceSub, Nat.reducePow]; omega
                    have cv := one_text (P := Try.prog) wr Try.underlying28 Try.underlying5 Try.underlying9 z (e := 5) hx
                    have hs1 : (bin [z]).size ≤ 1 := by rw [bin_size]; simp
                    clear hpc hz hx
                    go_wp2
                    go_roundw
                    case rel => exact ⟨k + 1, (y * 64 + d) % 4, 2, p ++ [z], by go_num, by omega, rfl, by go_num, by rw [bin_snoc], HN.out, HBq.out.alloc HWq.out _⟩
                    case measure => simp [intOf]; omega
                  · obtain ⟨z, hz⟩ : ∃ z, z = UInt8.ofNat ((y * 64 + d) / 2 ^ (6 - 2)) := ⟨_, rfl⟩
                    have HN := Lib.hid (HS.out.put hks hpc.out (by omega))
                    rw [← hz] at HN
                    have hx : ((y : Int) * 64 + (d : Int)) / 16 = (z.toNat : Int) := by rw [hz, UInt8.toNat_ofNat']; simp only [Nat.reduceSub, Nat.reducePow]; omega
                    have cv := one_text (P := Try.prog) wr Try.underlying28 Try.underlying5 Try.underlying9 z (e := 5) hx
                    have hs1 : (bin [z]).size ≤ 1 := by rw [bin_size]; simp
                    clear hpc hz hx
                    go_wp2
                    go_roundw
                    case rel => exact ⟨k + 1, (y * 64 + d) % 16, 4, p ++ [z], by go_num, by omega, rfl, by go_num, by rw [bin_snoc], HN.out, HBq.out.alloc HWq.out _⟩
                    case measure => simp [intOf]; omega
          · obtain rfl : k = m := by omega
            have SD := Lib.hid (HS.out.done HSl.out.symm)
            have c6 := Lib.hid (fun W => sixty_any (bin p) W (by rw [bin_size]; omega))
            rw [bin_list] at c6
            by_cases hen : enc p = T
            · have het : bin (enc p) = t := by rw [hen, HT.out]; exact bin_of t
              have HE := Lib.hid (tend_some (dec_iff.2 hen))
              rw [het] at c6
              clear hen het
              go_wp2_with (go_at_call 10; ((with_reducible refine (c6.out _).mono ?_); rintro e w2 ⟨rfl, hb2⟩))
              go_ret2
              exact ⟨HE.out.symm, HB.out.trans (hb2.mono HWr.out)⟩
            · have het : ¬ bin (enc p) = t := fun h => hen (by rw [HT.out, ← h, bin_list])
              have HE := Lib.hid (tend_none (HYes.out p SD.out hen))
              have hn1 : (!(bin (enc p)).toList == t.toList) = true := by simp [tolist_no het]
              clear hen het
              go_wp2_with (go_at_call 10; ((with_reducible refine (c6.out _).mono ?_); rintro e w2 ⟨rfl, hb2⟩))
              go_ret2
              exact ⟨HE.out.symm, HB.out.trans (hb2.mono HWr.out)⟩
      · go_wp2_with fail
        rw [show ((j : Int) + 1) = ((j + 1 : Nat) : Int) by omega]
        obtain ⟨m, hm'⟩ : ∃ m, m = j + 1 := ⟨_, rfl⟩
        rw [← hm'] at HSl HSat hm ⊢
        clear hm' hc1
        go_loopw [4, 5, 6, 8] (fun b v o i W => ∃ (k y c : Nat) (p : List UInt8), i = .int .i64 k ∧ k ≤ m ∧ b = .int .i64 (c : Int) ∧ v = .int .i64 (y : Int) ∧ o = .string (bin p) ∧ Stream S k y c p ∧ Below w.heap.size w W) (fun _ _ _ i _ => m - (intOf i).toNat)
        case atStart => exact ⟨0, 0, 0, [], rfl, Nat.zero_le _, rfl, rfl, rfl, Stream.start S, Below.refl _ _⟩
        case round =>
          obtain ⟨k, y, c, p, rfl, hk, rfl, rfl, rfl, hst, hb⟩ := hrel
          have hy := hst.v64
          have hpl := hst.len
          have hcb := hst.bd
          have HS := Lib.hid hst
          have HB := Lib.hid hb
          have HWr := Lib.hid hb.size
          have hsz : (bin p).size ≤ 300 := by rw [bin_size]; omega
          clear hst hb
          by_cases hkm : k < m
          · have hkt : k < t.size := by omega
            have hks : k < S.length := by rw [HSl.out]; exact hkm
            have hat := Lib.hid (HSat.out k hkm hkt hks)
            have hct : t[k].toNat < 256 := t[k].toNat_lt
            go_wp2_with fail
            go_loopw [9, 10] (fun d i W => ∃ q : Nat, i = .int .i64 q ∧ q ≤ 64 ∧ d = .int .i64 (seek t[k].toNat q) ∧ Below w.heap.size w W) (fun _ i _ => 64 - (intOf i).toNat)
            case atStart => exact ⟨0, rfl, by omega, by rw [seek_zero], HB.out⟩
            case round =>
              obtain ⟨q, rfl, hq, rfl, hbq⟩ := hrel
              have HBq := Lib.hid hbq
              have HWq := Lib.hid hbq.size
              clear hbq
              by_cases hq64 : q < 64
              · have hq64' : q < (ByteArray.mk #[65, 66, 67, 68, 69, 70, 71, 72, 73, 74, 75, 76, 77, 78, 79, 80, 81, 82, 83, 84, 85, 86, 87, 88, 89, 90, 97, 98, 99, 100, 101, 102, 103, 104, 105, 106, 107, 108, 109, 110, 111, 112, 113, 114, 115, 116, 117, 118, 119, 120, 121, 122, 48, 49, 50, 51, 52, 53, 54, 55, 56, 57, 43, 47]).size := hq64
                by_cases hm : val t[k].toNat = some q
                · have HH := Lib.hid (seek_hit hm)
                  have he : (((ByteArray.mk #[65, 66, 67, 68, 69, 70, 71, 72, 73, 74, 75, 76, 77, 78, 79, 80, 81, 82, 83, 84, 85, 86, 87, 88, 89, 90, 97, 98, 99, 100, 101, 102, 103, 104, 105, 106, 107, 108, 109, 110, 111, 112, 113, 114, 115, 116, 117, 118, 119, 120, 121, 122, 48, 49, 50, 51, 52, 53, 54, 55, 56, 57, 43, 47])[q].toNat : Int) == (t[k].toNat : Int)) = true := by
                    rw [lit_at q hq64, (sign_eq hct hq64).2 hm]; exact beq_self_eq_true _
                  clear hm
                  go_wp2_with fail
                  go_quiet (fail)
                  go_wp2
                  go_roundw
                  case rel => exact ⟨q + 1, by go_num, by omega, by rw [HH.out], below_drewN HBq.out _⟩
                  case measure => simp [intOf]; omega
                · have HH := Lib.hid (seek_miss hm)
                  have he : (((ByteArray.mk #[65, 66, 67, 68, 69, 70, 71, 72, 73, 74, 75, 76, 77, 78, 79, 80, 81, 82, 83, 84, 85, 86, 87, 88, 89, 90, 97, 98, 99, 100, 101, 102, 103, 104, 105, 106, 107, 108, 109, 110, 111, 112, 113, 114, 115, 116, 117, 118, 119, 120, 121, 122, 48, 49, 50, 51, 52, 53, 54, 55, 56, 57, 43, 47])[q].toNat : Int) == (t[k].toNat : Int)) = false := by
                    rw [beq_eq_false_iff_ne, lit_at q hq64]
                    intro h
                    exact hm ((sign_eq hct hq64).1 (by omega))
                  clear hm
                  go_wp2_with fail
                  go_quiet (fail)
                  go_wp2
                  go_roundw
                  case rel => exact ⟨q + 1, by go_num, by omega, by rw [HH.out], below_drewN HBq.out _⟩
                  case measure => simp [intOf]; omega
              · obtain rfl : q = 64 := by omega
                clear hq64 hq
                cases hv : val t[k].toNat with
                | none =>
                  rw [seek_none hv]
                  have HZ := Lib.hid (tend_none (HNo.out (HS.out.bad hks (by rw [hat.out]; exact hv))))
                  clear hv
                  go_wp2
                  go_ret2
                  exact ⟨HZ.out.symm, HBq.out⟩
                | some d =>
                  rw [seek_some hv]
                  have hd := val_lt hv
                  have hpc := Lib.hid hv
                  rw [← hat.out] at hpc
                  clear hv
                  rcases hcb with rfl | rfl | rfl | rfl
                  · have HN := Lib.hid (HS.out.keep hks hpc.out (by omega)).2
                    go_wp2
                    go_roundw
                    case rel => exact ⟨k + 1, _, _, p, by go_num, by omega, rfl, rfl, rfl, HN.out, HBq.out⟩
                    case measure => simp [intOf]; omega
                  · obtain ⟨z, hz⟩ : ∃ z, z = UInt8.ofNat ((y * 64 + d) / 2 ^ (2 - 2)) := ⟨_, rfl⟩
                    have HN := Lib.hid (HS.out.put hks hpc.out (by omega))
                    rw [← hz] at HN
                    have hx : ((y : Int) * 64 + (d : Int)) % 256 = (z.toNat : Int) := by rw [hz, UInt8.toNat_ofNat']; simp only [Nat.reduceSub, Nat.reducePow]; omega
                    have cv := one_text (P := Try.prog) wr Try.underlying28 Try.underlying5 Try.underlying9 z (e := 5) hx
                    have hs1 : (bin [z]).size ≤ 1 := by rw [bin_size]; simp
                    clear hpc hz hx
                    go_wp2
                    go_roundw
                    case rel => exact ⟨k + 1, (y * 64 + d) % 1, 0, p ++ [z], by go_num, by omega, rfl, by go_num, by rw [bin_snoc], HN.out, HBq.out.alloc HWq.out _⟩
                    case measure => simp [intOf]; omega
                  · obtain ⟨z, hz⟩ : ∃ z, z = UInt8.ofNat ((y * 64 + d) / 2 ^ (4 - 2)) := ⟨_, rfl⟩
                    have HN := Lib.hid (HS.out.put hks hpc.out (by omega))
                    rw [← hz] at HN
                    have hx : ((y : Int) * 64 + (d : Int)) / 4 % 256 = (z.toNat : Int) := by rw [hz, UInt8.toNat_ofNat']; simp only [Nat.reduceSub, Nat.reducePow]; omega
                    have cv := one_text (P := Try.prog) wr Try.underlying28 Try.underlying5 Try.underlying9 z (e := 5) hx
                    have hs1 : (bin [z]).size ≤ 1 := by rw [bin_size]; simp
                    clear hpc hz hx
                    go_wp2
                    go_roundw
                    case rel => exact ⟨k + 1, (y * 64 + d) % 4, 2, p ++ [z], by go_num, by omega, rfl, by go_num, by rw [bin_snoc], HN.out, HBq.out.alloc HWq.out _⟩
                    case measure => simp [intOf]; omega
                  · obtain ⟨z, hz⟩ : ∃ z, z = UInt8.ofNat ((y * 64 + d) / 2 ^ (6 - 2)) := ⟨_, rfl⟩
                    have HN := Lib.hid (HS.out.put hks hpc.out (by omega))
                    rw [← hz] at HN
                    have hx : ((y : Int) * 64 + (d : Int)) / 16 = (z.toNat : Int) := by rw [hz, UInt8.toNat_ofNat']; simp only [Nat.reduceSub, Nat.reducePow]; omega
                    have cv := one_text (P := Try.prog) wr Try.underlying28 Try.underlying5 Try.underlying9 z (e := 5) hx
                    have hs1 : (bin [z]).size ≤ 1 := by rw [bin_size]; simp
                    clear hpc hz hx
                    go_wp2
                    go_roundw
                    case rel => exact ⟨k + 1, (y * 64 + d) % 16, 4, p ++ [z], by go_num, by omega, rfl, by go_num, by rw [bin_snoc], HN.out, HBq.out.alloc HWq.out _⟩
                    case measure => simp [intOf]; omega
          · obtain rfl : k = m := by omega
            have SD := Lib.hid (HS.out.done HSl.out.symm)
            have c6 := Lib.hid (fun W => sixty_any (bin p) W (by rw [bin_size]; omega))
            rw [bin_list] at c6
            by_cases hen : enc p = T
            · have het : bin (enc p) = t := by rw [hen, HT.out]; exact bin_of t
              have HE := Lib.hid (tend_some (dec_iff.2 hen))
              rw [het] at c6
              clear hen het
              go_wp2_with (go_at_call 10; ((with_reducible refine (c6.out _).mono ?_); rintro e w2 ⟨rfl, hb2⟩))
              go_ret2
              exact ⟨HE.out.symm, HB.out.trans (hb2.mono HWr.out)⟩
            · have het : ¬ bin (enc p) = t := fun h => hen (by rw [HT.out, ← h, bin_list])
              have HE := Lib.hid (tend_none (HYes.out p SD.out hen))
              have hn1 : (!(bin (enc p)).toList == t.toList) = true := by simp [tolist_no het]
              clear hen het
              go_wp2_with (go_at_call 10; ((with_reducible refine (c6.out _).mono ?_); rintro e w2 ⟨rfl, hb2⟩))
              go_ret2
              exact ⟨HE.out.symm, HB.out.trans (hb2.mono HWr.out)⟩
end Six
end Go.Proofs.Ytfcpicejifolmab
