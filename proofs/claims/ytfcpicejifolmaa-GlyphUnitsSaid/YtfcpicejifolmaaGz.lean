/-
  GlyphUnits, whole. No condition.
-/
import Derived.Test.YtfcpicejifolmaaGa
import Derived.Test.YtfcpicejifolmaaRf
namespace Go.Proofs.Ytfcpicejifolmaa
open Go.ChangeShapes Go.WideShapes Go.ChangeAt Go.RowKit
namespace Gl
open Mem
set_option linter.unusedVariables false
set_option linter.unusedSimpArgs false
def digL (d : Nat) : UInt8 := ([48, 49, 50, 51, 52, 53, 54, 55, 56, 57, 97, 98, 99, 100, 101, 102] : List UInt8).getD d 0
def digU (d : Nat) : UInt8 := ([48, 49, 50, 51, 52, 53, 54, 55, 56, 57, 65, 66, 67, 68, 69, 70] : List UInt8).getD d 0
theorem digL_ok : Digs digL := fun d hd => by
  have : ∀ d : Fin 16, hexv (digL d.1).toNat = some d.1 := by decide +kernel
  exact this ⟨d, hd⟩
theorem digU_ok : Digs digU := fun d hd => by
  have : ∀ d : Fin 16, hexv (digU d.1).toNat = some d.1 := by decide +kernel
  exact this ⟨d, hd⟩
theorem ext_L (d : Nat) (hd : d < 16) : (ByteArray.mk #[48, 49, 50, 51, 52, 53, 54, 55, 56, 57, 97, 98, 99, 100, 101, 102]).extract d (d + 1) = bin [digL d] := by
  have : ∀ d : Fin 16, (ByteArray.mk #[48, 49, 50, 51, 52, 53, 54, 55, 56, 57, 97, 98, 99, 100, 101, 102]).extract d.1 (d.1 + 1) = bin [digL d.1] := by decide +kernel
  exact this ⟨d, hd⟩
theorem ext_U (d : Nat) (hd : d < 16) : (ByteArray.mk #[48, 49, 50, 51, 52, 53, 54, 55, 56, 57, 65, 66, 67, 68, 69, 70]).extract d (d + 1) = bin [digU d] := by
  have : ∀ d : Fin 16, (ByteArray.mk #[48, 49, 50, 51, 52, 53, 54, 55, 56, 57, 65, 66, 67, 68, 69, 70]).extract d.1 (d.1 + 1) = bin [digU d.1] := by decide +kernel
  exact this ⟨d, hd⟩
theorem bin_app (a b : List UInt8) : bin a ++ bin b = bin (a ++ b) := by
  apply ByteArray.ext; simp [bin]
theorem and15 (u k : Nat) (h : u < 65536) : bits .and .u32 ((u / k : Nat) : Int) 15 = ((u / k % 16 : Nat) : Int) := by
  have hk : u / k < 4294967296 := Nat.lt_of_le_of_lt (Nat.div_le_self _ _) (by omega)
  have := u32_and_nat (u / k) 15 hk (by decide)
  rw [show (u / k) &&& 15 = u / k % 16 from Nat.and_two_pow_sub_one_eq_mod _ 4] at this
  exact this
theorem told_take {f : Nat → UInt8} {U : List Nat} {i u : Nat} (h : U[i]? = some u) : (U.take (i + 1)).flatMap (unitB f) = (U.take i).flatMap (unitB f) ++ unitB f u := by
  obtain ⟨h1, h2⟩ := List.getElem?_eq_some_iff.1 h
  rw [List.take_succ_eq_append_getElem h1, h2]; simp
theorem flat_len (f : Nat → UInt8) : ∀ U : List Nat, (U.flatMap (unitB f)).length = U.length * 6
  | [] => rfl
  | u :: U => by
    rw [List.flatMap_cons, List.length_append, flat_len f U]
    show 6 + _ = _
    rw [List.length_cons]; omega
set_option maxHeartbeats 4000000 in
set_option maxRecDepth 1000000 in
theorem units_AL (n : Nat) (hn : n < 4294967296) (hr0 : 55296 ≤ n % 1114112) (hr1 : n % 1114112 ≤ 57343) (w : World) :
    Calls Try.prog 13 #[.int .u32 (n : Int), .bool false] w fun e w' => e = .returned (.bool true) ∧ Below w.heap.size w w' := by
  have hp : isPt 65533 = true := by decide
  obtain ⟨q, hq⟩ : ∃ q, q = n % 1114112 := ⟨_, rfl⟩
  have hq' : (n : Int) % 1114112 = (q : Int) := by omega
  have q1 : (55296 : Int) ≤ (q : Int) := by omega
  have q2 : (q : Int) ≤ 57343 := by omega
  clear hq hr0 hr1
  have henc := encode_pt 65533 hp
  rw [show ((65533 : Nat) : Int) = 65533 from rfl] at henc
  obtain ⟨u, hu⟩ : ∃ u, u = 65533 := ⟨_, rfl⟩
  have huU : units 65533 = [u] := by unfold units; rw [if_pos (by decide), hu]
  have hu6 : u < 65536 := by omega
  have huI : (65533 : Int) = (u : Int) := by omega
  rw [huI] at henc
  have hbi : decide ((65535 : Int) < (u : Int)) = false := by simp; omega
  have hu9 : (u : Int) ≤ 100000 := by omega
  obtain ⟨U, hU⟩ : ∃ U, U = units 65533 := ⟨_, rfl⟩
  have hUl : U.length = 1 := by rw [hU, huU]; rfl
  have hUb : ∀ (i z : Nat), U[i]? = some z → z < 65536 := by
    intro i z h
    rw [hU, huU] at h
    match i, h with
    | 0, h => cases h; exact hu6
  have HUB := Lib.hid hUb
  have htold : told digL 65533 = U.flatMap (unitB digL) := by rw [hU]; rfl
  have hTl : (bin (34 :: U.flatMap (unitB digL))).size = U.length * 6 + 1 := by rw [Mem.bin_size, List.length_cons, flat_len]
  have hun := unq_told digL_ok 65533 hp
  rw [htold, flat_len, hUl] at hun
  have cQ := Lib.hid (fun W => Unquote_any (bin (34 :: U.flatMap (unitB digL)) ++ ⟨#[34]⟩) W (by rw [ByteArray.size_append, hTl, hUl]; show _ + 1 ≤ _; omega))
  rw [qend_some (l := (bin (34 :: U.flatMap (unitB digL)) ++ ⟨#[34]⟩).data.toList) (by rw [ByteArray.data_append, Array.toList_append, Mem.bin_list]; exact hun)] at cQ
  have HUL : Hid (U.length = 1) := hUl
  have HU : Hid (U = [u]) := hU.trans huU
  rw [hUl] at hTl
  obtain ⟨T, hT⟩ : ∃ T, T = bin (34 :: U.flatMap (unitB digL)) := ⟨_, rfl⟩
  rw [← hT] at cQ hTl
  have HT := Lib.hid hT
  clear hun htold hUb hU hUl huU hT hu hu6 hp
  go_enter Try.func13, Try.ntmps13
  go_wp2_with (go_at_call 27; refine (Rf.begun3 _).mono ?_; rintro e w1 ⟨rfl, hb1⟩)
  have hsz1 := hb1.size
  have HC : Hid (∀ (i z : Nat), U[i]? = some z → ((w1.alloc (.cells #[.int .u32 (u : Int)] 39))).cell? ⟨w1.heap.size, i, none⟩ = some (.int .u32 (z : Int))) := by
    intro i z h
    rw [HU.out] at h
    exact Mem.lit_src w1 [.int .u32 (u : Int)] 39 i (.int .u32 (z : Int)) (by
      match i, h with
      | 0, h => cases h; rfl)
  have HB1 := Lib.hid (show Below w.heap.size w (w1.alloc (.cells #[.int .u32 (u : Int)] 39)) from hb1.alloc hb1.size _)
  generalize hWg : (w1.alloc (.cells #[.int .u32 (u : Int)] 39)) = W0 at HC HB1 ⊢
  clear hWg hb1 hsz1
  go_loop [8, 9] (fun o x => ∃ i : Nat, x = .int .i64 i ∧ i ≤ 1 ∧ o = .string (bin (34 :: (U.take i).flatMap (unitB digL)))) (fun _ x => 1 - (intOf x).toNat)
  case atStart => exact ⟨0, rfl, by omega, rfl⟩
  case round =>
    obtain ⟨i, rfl, hi, rfl⟩ := hrel
    by_cases hlt : i < 1
    · obtain ⟨z, hz⟩ : ∃ z, U[i]? = some z := ⟨_, List.getElem?_eq_getElem (by rw [HUL.out]; exact hlt)⟩
      have hc := HC.out i z hz
      have HZ := Lib.hid (HUB.out i z hz)
      have hzI : (z : Int) ≤ 100000 := by have := HZ.out; omega
      have HTK := Lib.hid (told_take (f := digL) hz)
      obtain ⟨p, hp⟩ : ∃ p, p = 34 :: (U.take i).flatMap (unitB digL) := ⟨_, rfl⟩
      have hpl : p.length ≤ 20 := by rw [hp, List.length_cons, flat_len, List.length_take]; omega
      have hps : (bin p).size ≤ 20 := by rw [Mem.bin_size]; exact hpl
      have HP := Lib.hid hp
      rw [← hp]
      clear hp hz
      go_wp2
      go_loop [8, 10] (fun o x => ∃ (j : Nat) (K : Int), j ≤ 4 ∧ x = .int .i64 K ∧ K = 12 - 4 * (j : Int) ∧ o = .string (bin (p ++ (92 :: 117 :: (dig4 digL z).take j)))) (fun _ x => (intOf x + 4).toNat)
      case atStart => exact ⟨0, 12, by omega, rfl, by omega, by rw [← bin_app]; rfl⟩
      case round =>
        obtain ⟨j, K, hj, rfl, hK, rfl⟩ := hrel
        have hos : (bin (p ++ (92 :: 117 :: (dig4 digL z).take j))).size ≤ 30 := by
          rw [Mem.bin_size, List.length_append, List.length_cons, List.length_cons, List.length_take]
          have : (dig4 digL z).length = 4 := rfl
          omega
        obtain ⟨o, ho⟩ : ∃ o, o = bin (p ++ (92 :: 117 :: (dig4 digL z).take j)) := ⟨_, rfl⟩
        have HO := Lib.hid ho
        rw [← ho] at hos ⊢
        clear ho
        rcases (show j = 0 ∨ j = 1 ∨ j = 2 ∨ j = 3 ∨ j = 4 by omega) with rfl | rfl | rfl | rfl | rfl
        · obtain rfl : K = 12 := by omega
          clear hK
          have ha := and15 z 4096 HZ.out
          obtain ⟨d, hd⟩ : ∃ d, d = z / 4096 % 16 := ⟨_, rfl⟩
          rw [← hd] at ha
          rw [show ((z / 4096 : Nat) : Int) = (z : Int) / 4096 by omega] at ha
          have hd6 : d < 16 := by omega
          have HX := Lib.hid (ext_L d hd6)
          have HD := Lib.hid hd
          clear hd
          go_wp2
          go_round
          case rel => exact ⟨1, 8, by omega, by first | rfl | go_num, by omega, by
            rw [HO.out, HX.out, bin_app, List.append_assoc, HD.out]
            rfl⟩
          case measure => simp [intOf]; try omega
        · obtain rfl : K = 8 := by omega
          clear hK
          have ha := and15 z 256 HZ.out
          obtain ⟨d, hd⟩ : ∃ d, d = z / 256 % 16 := ⟨_, rfl⟩
          rw [← hd] at ha
          rw [show ((z / 256 : Nat) : Int) = (z : Int) / 256 by omega] at ha
          have hd6 : d < 16 := by omega
          have HX := Lib.hid (ext_L d hd6)
          have HD := Lib.hid hd
          clear hd
          go_wp2
          go_round
          case rel => exact ⟨2, 4, by omega, by first | rfl | go_num, by omega, by
            rw [HO.out, HX.out, bin_app, List.append_assoc, HD.out]
            rfl⟩
          case measure => simp [intOf]; try omega
        · obtain rfl : K = 4 := by omega
          clear hK
          have ha := and15 z 16 HZ.out
          obtain ⟨d, hd⟩ : ∃ d, d = z / 16 % 16 := ⟨_, rfl⟩
          rw [← hd] at ha
          rw [show ((z / 16 : Nat) : Int) = (z : Int) / 16 by omega] at ha
          have hd6 : d < 16 := by omega
          have HX := Lib.hid (ext_L d hd6)
          have HD := Lib.hid hd
          clear hd
          go_wp2
          go_round
          case rel => exact ⟨3, 0, by omega, by first | rfl | go_num, by omega, by
            rw [HO.out, HX.out, bin_app, List.append_assoc, HD.out]
            rfl⟩
          case measure => simp [intOf]; try omega
        · obtain rfl : K = 0 := by omega
          clear hK
          have ha := and15 z 1 HZ.out
          obtain ⟨d, hd⟩ : ∃ d, d = z / 1 % 16 := ⟨_, rfl⟩
          rw [← hd] at ha
          rw [show ((z / 1 : Nat) : Int) = (z : Int) by omega] at ha
          have hd6 : d < 16 := by omega
          have HX := Lib.hid (ext_L d hd6)
          have HD := Lib.hid hd
          clear hd
          go_wp2
          go_round
          case rel => exact ⟨4, -4, by omega, by first | rfl | go_num, by omega, by
            rw [HO.out, HX.out, bin_app, List.append_assoc, HD.out]; simp only [Nat.div_one]
            rfl⟩
          case measure => simp [intOf]; try omega
        · obtain rfl : K = -4 := by omega
          clear hK
          go_wp2
          go_round
          case rel => exact ⟨i + 1, by go_num, by omega, by
            rw [HO.out, HTK.out, HP.out]
            rfl⟩
          case measure => simp [intOf]; omega
    · obtain rfl : i = 1 := by omega
      rw [List.take_of_length_le (by rw [HUL.out]; omega), ← HT.out]
      go_wp2_with (go_at_call 28; (with_reducible refine (cQ.out _).mono ?_); rintro e w2 ⟨rfl, hb2⟩)
      go_ret
      exact ⟨by first | kernel_rfl | rfl | (simp; done), HB1.out.trans (hb2.mono HB1.out.size)⟩
set_option maxHeartbeats 4000000 in
set_option maxRecDepth 1000000 in
theorem units_AU (n : Nat) (hn : n < 4294967296) (hr0 : 55296 ≤ n % 1114112) (hr1 : n % 1114112 ≤ 57343) (w : World) :
    Calls Try.prog 13 #[.int .u32 (n : Int), .bool true] w fun e w' => e = .returned (.bool true) ∧ Below w.heap.size w w' := by
  have hp : isPt 65533 = true := by decide
  obtain ⟨q, hq⟩ : ∃ q, q = n % 1114112 := ⟨_, rfl⟩
  have hq' : (n : Int) % 1114112 = (q : Int) := by omega
  have q1 : (55296 : Int) ≤ (q : Int) := by omega
  have q2 : (q : Int) ≤ 57343 := by omega
  clear hq hr0 hr1
  have henc := encode_pt 65533 hp
  rw [show ((65533 : Nat) : Int) = 65533 from rfl] at henc
  obtain ⟨u, hu⟩ : ∃ u, u = 65533 := ⟨_, rfl⟩
  have huU : units 65533 = [u] := by unfold units; rw [if_pos (by decide), hu]
  have hu6 : u < 65536 := by omega
  have huI : (65533 : Int) = (u : Int) := by omega
  rw [huI] at henc
  have hbi : decide ((65535 : Int) < (u : Int)) = false := by simp; omega
  have hu9 : (u : Int) ≤ 100000 := by omega
  obtain ⟨U, hU⟩ : ∃ U, U = units 65533 := ⟨_, rfl⟩
  have hUl : U.length = 1 := by rw [hU, huU]; rfl
  have hUb : ∀ (i z : Nat), U[i]? = some z → z < 65536 := by
    intro i z h
    rw [hU, huU] at h
    match i, h with
    | 0, h => cases h; exact hu6
  have HUB := Lib.hid hUb
  have htold : told digU 65533 = U.flatMap (unitB digU) := by rw [hU]; rfl
  have hTl : (bin (34 :: U.flatMap (unitB digU))).size = U.length * 6 + 1 := by rw [Mem.bin_size, List.length_cons, flat_len]
  have hun := unq_told digU_ok 65533 hp
  rw [htold, flat_len, hUl] at hun
  have cQ := Lib.hid (fun W => Unquote_any (bin (34 :: U.flatMap (unitB digU)) ++ ⟨#[34]⟩) W (by rw [ByteArray.size_append, hTl, hUl]; show _ + 1 ≤ _; omega))
  rw [qend_some (l := (bin (34 :: U.flatMap (unitB digU)) ++ ⟨#[34]⟩).data.toList) (by rw [ByteArray.data_append, Array.toList_append, Mem.bin_list]; exact hun)] at cQ
  have HUL : Hid (U.length = 1) := hUl
  have HU : Hid (U = [u]) := hU.trans huU
  rw [hUl] at hTl
  obtain ⟨T, hT⟩ : ∃ T, T = bin (34 :: U.flatMap (unitB digU)) := ⟨_, rfl⟩
  rw [← hT] at cQ hTl
  have HT := Lib.hid hT
  clear hun htold hUb hU hUl huU hT hu hu6 hp
  go_enter Try.func13, Try.ntmps13
  go_wp2_with (go_at_call 27; refine (Rf.begun3 _).mono ?_; rintro e w1 ⟨rfl, hb1⟩)
  have hsz1 := hb1.size
  have HC : Hid (∀ (i z : Nat), U[i]? = some z → ((w1.alloc (.cells #[.int .u32 (u : Int)] 39))).cell? ⟨w1.heap.size, i, none⟩ = some (.int .u32 (z : Int))) := by
    intro i z h
    rw [HU.out] at h
    exact Mem.lit_src w1 [.int .u32 (u : Int)] 39 i (.int .u32 (z : Int)) (by
      match i, h with
      | 0, h => cases h; rfl)
  have HB1 := Lib.hid (show Below w.heap.size w (w1.alloc (.cells #[.int .u32 (u : Int)] 39)) from hb1.alloc hb1.size _)
  generalize hWg : (w1.alloc (.cells #[.int .u32 (u : Int)] 39)) = W0 at HC HB1 ⊢
  clear hWg hb1 hsz1
  go_loop [8, 9] (fun o x => ∃ i : Nat, x = .int .i64 i ∧ i ≤ 1 ∧ o = .string (bin (34 :: (U.take i).flatMap (unitB digU)))) (fun _ x => 1 - (intOf x).toNat)
  case atStart => exact ⟨0, rfl, by omega, rfl⟩
  case round =>
    obtain ⟨i, rfl, hi, rfl⟩ := hrel
    by_cases hlt : i < 1
    · obtain ⟨z, hz⟩ : ∃ z, U[i]? = some z := ⟨_, List.getElem?_eq_getElem (by rw [HUL.out]; exact hlt)⟩
      have hc := HC.out i z hz
      have HZ := Lib.hid (HUB.out i z hz)
      have hzI : (z : Int) ≤ 100000 := by have := HZ.out; omega
      have HTK := Lib.hid (told_take (f := digU) hz)
      obtain ⟨p, hp⟩ : ∃ p, p = 34 :: (U.take i).flatMap (unitB digU) := ⟨_, rfl⟩
      have hpl : p.length ≤ 20 := by rw [hp, List.length_cons, flat_len, List.length_take]; omega
      have hps : (bin p).size ≤ 20 := by rw [Mem.bin_size]; exact hpl
      have HP := Lib.hid hp
      rw [← hp]
      clear hp hz
      go_wp2
      go_loop [8, 10] (fun o x => ∃ (j : Nat) (K : Int), j ≤ 4 ∧ x = .int .i64 K ∧ K = 12 - 4 * (j : Int) ∧ o = .string (bin (p ++ (92 :: 117 :: (dig4 digU z).take j)))) (fun _ x => (intOf x + 4).toNat)
      case atStart => exact ⟨0, 12, by omega, rfl, by omega, by rw [← bin_app]; rfl⟩
      case round =>
        obtain ⟨j, K, hj, rfl, hK, rfl⟩ := hrel
        have hos : (bin (p ++ (92 :: 117 :: (dig4 digU z).take j))).size ≤ 30 := by
          rw [Mem.bin_size, List.length_append, List.length_cons, List.length_cons, List.length_take]
          have : (dig4 digU z).length = 4 := rfl
          omega
        obtain ⟨o, ho⟩ : ∃ o, o = bin (p ++ (92 :: 117 :: (dig4 digU z).take j)) := ⟨_, rfl⟩
        have HO := Lib.hid ho
        rw [← ho] at hos ⊢
        clear ho
        rcases (show j = 0 ∨ j = 1 ∨ j = 2 ∨ j = 3 ∨ j = 4 by omega) with rfl | rfl | rfl | rfl | rfl
        · obtain rfl : K = 12 := by omega
          clear hK
          have ha := and15 z 4096 HZ.out
          obtain ⟨d, hd⟩ : ∃ d, d = z / 4096 % 16 := ⟨_, rfl⟩
          rw [← hd] at ha
          rw [show ((z / 4096 : Nat) : Int) = (z : Int) / 4096 by omega] at ha
          have hd6 : d < 16 := by omega
          have HX := Lib.hid (ext_U d hd6)
          have HD := Lib.hid hd
          clear hd
          go_wp2
          go_round
          case rel => exact ⟨1, 8, by omega, by first | rfl | go_num, by omega, by
            rw [HO.out, HX.out, bin_app, List.append_assoc, HD.out]
            rfl⟩
          case measure => simp [intOf]; try omega
        · obtain rfl : K = 8 := by omega
          clear hK
          have ha := and15 z 256 HZ.out
          obtain ⟨d, hd⟩ : ∃ d, d = z / 256 % 16 := ⟨_, rfl⟩
          rw [← hd] at ha
          rw [show ((z / 256 : Nat) : Int) = (z : Int) / 256 by omega] at ha
          have hd6 : d < 16 := by omega
          have HX := Lib.hid (ext_U d hd6)
          have HD := Lib.hid hd
          clear hd
          go_wp2
          go_round
          case rel => exact ⟨2, 4, by omega, by first | rfl | go_num, by omega, by
            rw [HO.out, HX.out, bin_app, List.append_assoc, HD.out]
            rfl⟩
          case measure => simp [intOf]; try omega
        · obtain rfl : K = 4 := by omega
          clear hK
          have ha := and15 z 16 HZ.out
          obtain ⟨d, hd⟩ : ∃ d, d = z / 16 % 16 := ⟨_, rfl⟩
          rw [← hd] at ha
          rw [show ((z / 16 : Nat) : Int) = (z : Int) / 16 by omega] at ha
          have hd6 : d < 16 := by omega
          have HX := Lib.hid (ext_U d hd6)
          have HD := Lib.hid hd
          clear hd
          go_wp2
          go_round
          case rel => exact ⟨3, 0, by omega, by first | rfl | go_num, by omega, by
            rw [HO.out, HX.out, bin_app, List.append_assoc, HD.out]
            rfl⟩
          case measure => simp [intOf]; try omega
        · obtain rfl : K = 0 := by omega
          clear hK
          have ha := and15 z 1 HZ.out
          obtain ⟨d, hd⟩ : ∃ d, d = z / 1 % 16 := ⟨_, rfl⟩
          rw [← hd] at ha
          rw [show ((z / 1 : Nat) : Int) = (z : Int) by omega] at ha
          have hd6 : d < 16 := by omega
          have HX := Lib.hid (ext_U d hd6)
          have HD := Lib.hid hd
          clear hd
          go_wp2
          go_round
          case rel => exact ⟨4, -4, by omega, by first | rfl | go_num, by omega, by
            rw [HO.out, HX.out, bin_app, List.append_assoc, HD.out]; simp only [Nat.div_one]
            rfl⟩
          case measure => simp [intOf]; try omega
        · obtain rfl : K = -4 := by omega
          clear hK
          go_wp2
          go_round
          case rel => exact ⟨i + 1, by go_num, by omega, by
            rw [HO.out, HTK.out, HP.out]
            rfl⟩
          case measure => simp [intOf]; omega
    · obtain rfl : i = 1 := by omega
      rw [List.take_of_length_le (by rw [HUL.out]; omega), ← HT.out]
      go_wp2_with (go_at_call 28; (with_reducible refine (cQ.out _).mono ?_); rintro e w2 ⟨rfl, hb2⟩)
      go_ret
      exact ⟨by first | kernel_rfl | rfl | (simp; done), HB1.out.trans (hb2.mono HB1.out.size)⟩
set_option maxHeartbeats 4000000 in
set_option maxRecDepth 1000000 in
theorem units_BL (n : Nat) (hn : n < 4294967296) (r : Nat) (hr : n % 1114112 = r) (hp : isPt r = true) (hs : r < 55296 ∨ 57343 < r) (hb : r < 65536) (w : World) :
    Calls Try.prog 13 #[.int .u32 (n : Int), .bool false] w fun e w' => e = .returned (.bool true) ∧ Below w.heap.size w w' := by
  have hq' : (n : Int) % 1114112 = (r : Int) := by omega
  have r17 : (r : Int) ≤ 1114111 := by omega
  have henc := encode_pt r hp
  have huU : units r = [r] := by unfold units; rw [if_pos hb]
  have hu6 := hb
  have hbi : decide ((65535 : Int) < (r : Int)) = false := by simp; omega
  obtain ⟨U, hU⟩ : ∃ U, U = units r := ⟨_, rfl⟩
  have hUl : U.length = 1 := by rw [hU, huU]; rfl
  have hUb : ∀ (i z : Nat), U[i]? = some z → z < 65536 := by
    intro i z h
    rw [hU, huU] at h
    match i, h with
    | 0, h => cases h; exact hu6
  have HUB := Lib.hid hUb
  have htold : told digL r = U.flatMap (unitB digL) := by rw [hU]; rfl
  have hTl : (bin (34 :: U.flatMap (unitB digL))).size = U.length * 6 + 1 := by rw [Mem.bin_size, List.length_cons, flat_len]
  have hun := unq_told digL_ok r hp
  rw [htold, flat_len, hUl] at hun
  have cQ := Lib.hid (fun W => Unquote_any (bin (34 :: U.flatMap (unitB digL)) ++ ⟨#[34]⟩) W (by rw [ByteArray.size_append, hTl, hUl]; show _ + 1 ≤ _; omega))
  rw [qend_some (l := (bin (34 :: U.flatMap (unitB digL)) ++ ⟨#[34]⟩).data.toList) (by rw [ByteArray.data_append, Array.toList_append, Mem.bin_list]; exact hun)] at cQ
  have HUL : Hid (U.length = 1) := hUl
  have HU : Hid (U = [r]) := hU.trans huU
  rw [hUl] at hTl
  obtain ⟨T, hT⟩ : ∃ T, T = bin (34 :: U.flatMap (unitB digL)) := ⟨_, rfl⟩
  rw [← hT] at cQ hTl
  have HT := Lib.hid hT
  clear hun htold hUb hU hUl huU hT hb hr hu6 hp
  have hse : decide ((55296 : Int) ≤ (r : Int)) = false ∨ (decide ((55296 : Int) ≤ (r : Int)) = true ∧ decide ((r : Int) ≤ 57343) = false) := by
    rcases hs with h | h
    · left; simp; omega
    · right; exact ⟨by simp; omega, by simp; omega⟩
  clear hs
  rcases hse with hse | ⟨hse, hsf⟩
  all_goals (
    go_enter Try.func13, Try.ntmps13
    go_wp2_with (go_at_call 27; refine (Rf.begun3 _).mono ?_; rintro e w1 ⟨rfl, hb1⟩)
    have hsz1 := hb1.size
    have HC : Hid (∀ (i z : Nat), U[i]? = some z → ((w1.alloc (.cells #[.int .u32 (r : Int)] 39))).cell? ⟨w1.heap.size, i, none⟩ = some (.int .u32 (z : Int))) := by
      intro i z h
      rw [HU.out] at h
      exact Mem.lit_src w1 [.int .u32 (r : Int)] 39 i (.int .u32 (z : Int)) (by
        match i, h with
        | 0, h => cases h; rfl)
    have HB1 := Lib.hid (show Below w.heap.size w (w1.alloc (.cells #[.int .u32 (r : Int)] 39)) from hb1.alloc hb1.size _)
    generalize hWg : (w1.alloc (.cells #[.int .u32 (r : Int)] 39)) = W0 at HC HB1 ⊢
    clear hWg hb1 hsz1
    go_loop [8, 9] (fun o x => ∃ i : Nat, x = .int .i64 i ∧ i ≤ 1 ∧ o = .string (bin (34 :: (U.take i).flatMap (unitB digL)))) (fun _ x => 1 - (intOf x).toNat)
    case atStart => exact ⟨0, rfl, by omega, rfl⟩
    case round =>
      obtain ⟨i, rfl, hi, rfl⟩ := hrel
      by_cases hlt : i < 1
      · obtain ⟨z, hz⟩ : ∃ z, U[i]? = some z := ⟨_, List.getElem?_eq_getElem (by rw [HUL.out]; exact hlt)⟩
        have hc := HC.out i z hz
        have HZ := Lib.hid (HUB.out i z hz)
        have hzI : (z : Int) ≤ 100000 := by have := HZ.out; omega
        have HTK := Lib.hid (told_take (f := digL) hz)
        obtain ⟨p, hp⟩ : ∃ p, p = 34 :: (U.take i).flatMap (unitB digL) := ⟨_, rfl⟩
        have hpl : p.length ≤ 20 := by rw [hp, List.length_cons, flat_len, List.length_take]; omega
        have hps : (bin p).size ≤ 20 := by rw [Mem.bin_size]; exact hpl
        have HP := Lib.hid hp
        rw [← hp]
        clear hp hz
        go_wp2
        go_loop [8, 10] (fun o x => ∃ (j : Nat) (K : Int), j ≤ 4 ∧ x = .int .i64 K ∧ K = 12 - 4 * (j : Int) ∧ o = .string (bin (p ++ (92 :: 117 :: (dig4 digL z).take j)))) (fun _ x => (intOf x + 4).toNat)
        case atStart => exact ⟨0, 12, by omega, rfl, by omega, by rw [← bin_app]; rfl⟩
        case round =>
          obtain ⟨j, K, hj, rfl, hK, rfl⟩ := hrel
          have hos : (bin (p ++ (92 :: 117 :: (dig4 digL z).take j))).size ≤ 30 := by
            rw [Mem.bin_size, List.length_append, List.length_cons, List.length_cons, List.length_take]
            have : (dig4 digL z).length = 4 := rfl
            omega
          obtain ⟨o, ho⟩ : ∃ o, o = bin (p ++ (92 :: 117 :: (dig4 digL z).take j)) := ⟨_, rfl⟩
          have HO := Lib.hid ho
          rw [← ho] at hos ⊢
          clear ho
          rcases (show j = 0 ∨ j = 1 ∨ j = 2 ∨ j = 3 ∨ j = 4 by omega) with rfl | rfl | rfl | rfl | rfl
          · obtain rfl : K = 12 := by omega
            clear hK
            have ha := and15 z 4096 HZ.out
            obtain ⟨d, hd⟩ : ∃ d, d = z / 4096 % 16 := ⟨_, rfl⟩
            rw [← hd] at ha
            rw [show ((z / 4096 : Nat) : Int) = (z : Int) / 4096 by omega] at ha
            have hd6 : d < 16 := by omega
            have HX := Lib.hid (ext_L d hd6)
            have HD := Lib.hid hd
            clear hd
            go_wp2
            go_round
            case rel => exact ⟨1, 8, by omega, by first | rfl | go_num, by omega, by
              rw [HO.out, HX.out, bin_app, List.append_assoc, HD.out]
              rfl⟩
            case measure => simp [intOf]; try omega
          · obtain rfl : K = 8 := by omega
            clear hK
            have ha := and15 z 256 HZ.out
            obtain ⟨d, hd⟩ : ∃ d, d = z / 256 % 16 := ⟨_, rfl⟩
            rw [← hd] at ha
            rw [show ((z / 256 : Nat) : Int) = (z : Int) / 256 by omega] at ha
            have hd6 : d < 16 := by omega
            have HX := Lib.hid (ext_L d hd6)
            have HD := Lib.hid hd
            clear hd
            go_wp2
            go_round
            case rel => exact ⟨2, 4, by omega, by first | rfl | go_num, by omega, by
              rw [HO.out, HX.out, bin_app, List.append_assoc, HD.out]
              rfl⟩
            case measure => simp [intOf]; try omega
          · obtain rfl : K = 4 := by omega
            clear hK
            have ha := and15 z 16 HZ.out
            obtain ⟨d, hd⟩ : ∃ d, d = z / 16 % 16 := ⟨_, rfl⟩
            rw [← hd] at ha
            rw [show ((z / 16 : Nat) : Int) = (z : Int) / 16 by omega] at ha
            have hd6 : d < 16 := by omega
            have HX := Lib.hid (ext_L d hd6)
            have HD := Lib.hid hd
            clear hd
            go_wp2
            go_round
            case rel => exact ⟨3, 0, by omega, by first | rfl | go_num, by omega, by
              rw [HO.out, HX.out, bin_app, List.append_assoc, HD.out]
              rfl⟩
            case measure => simp [intOf]; try omega
          · obtain rfl : K = 0 := by omega
            clear hK
            have ha := and15 z 1 HZ.out
            obtain ⟨d, hd⟩ : ∃ d, d = z / 1 % 16 := ⟨_, rfl⟩
            rw [← hd] at ha
            rw [show ((z / 1 : Nat) : Int) = (z : Int) by omega] at ha
            have hd6 : d < 16 := by omega
            have HX := Lib.hid (ext_L d hd6)
            have HD := Lib.hid hd
            clear hd
            go_wp2
            go_round
            case rel => exact ⟨4, -4, by omega, by first | rfl | go_num, by omega, by
              rw [HO.out, HX.out, bin_app, List.append_assoc, HD.out]; simp only [Nat.div_one]
              rfl⟩
            case measure => simp [intOf]; try omega
          · obtain rfl : K = -4 := by omega
            clear hK
            go_wp2
            go_round
            case rel => exact ⟨i + 1, by go_num, by omega, by
              rw [HO.out, HTK.out, HP.out]
              rfl⟩
            case measure => simp [intOf]; omega
      · obtain rfl : i = 1 := by omega
        rw [List.take_of_length_le (by rw [HUL.out]; omega), ← HT.out]
        go_wp2_with (go_at_call 28; (with_reducible refine (cQ.out _).mono ?_); rintro e w2 ⟨rfl, hb2⟩)
        go_ret
        exact ⟨by first | kernel_rfl | rfl | (simp; done), HB1.out.trans (hb2.mono HB1.out.size)⟩
  )
set_option maxHeartbeats 4000000 in
set_option maxRecDepth 1000000 in
theorem units_BU (n : Nat) (hn : n < 4294967296) (r : Nat) (hr : n % 1114112 = r) (hp : isPt r = true) (hs : r < 55296 ∨ 57343 < r) (hb : r < 65536) (w : World) :
    Calls Try.prog 13 #[.int .u32 (n : Int), .bool true] w fun e w' => e = .returned (.bool true) ∧ Below w.heap.size w w' := by
  have hq' : (n : Int) % 1114112 = (r : Int) := by omega
  have r17 : (r : Int) ≤ 1114111 := by omega
  have henc := encode_pt r hp
  have huU : units r = [r] := by unfold units; rw [if_pos hb]
  have hu6 := hb
  have hbi : decide ((65535 : Int) < (r : Int)) = false := by simp; omega
  obtain ⟨U, hU⟩ : ∃ U, U = units r := ⟨_, rfl⟩
  have hUl : U.length = 1 := by rw [hU, huU]; rfl
  have hUb : ∀ (i z : Nat), U[i]? = some z → z < 65536 := by
    intro i z h
    rw [hU, huU] at h
    match i, h with
    | 0, h => cases h; exact hu6
  have HUB := Lib.hid hUb
  have htold : told digU r = U.flatMap (unitB digU) := by rw [hU]; rfl
  have hTl : (bin (34 :: U.flatMap (unitB digU))).size = U.length * 6 + 1 := by rw [Mem.bin_size, List.length_cons, flat_len]
  have hun := unq_told digU_ok r hp
  rw [htold, flat_len, hUl] at hun
  have cQ := Lib.hid (fun W => Unquote_any (bin (34 :: U.flatMap (unitB digU)) ++ ⟨#[34]⟩) W (by rw [ByteArray.size_append, hTl, hUl]; show _ + 1 ≤ _; omega))
  rw [qend_some (l := (bin (34 :: U.flatMap (unitB digU)) ++ ⟨#[34]⟩).data.toList) (by rw [ByteArray.data_append, Array.toList_append, Mem.bin_list]; exact hun)] at cQ
  have HUL : Hid (U.length = 1) := hUl
  have HU : Hid (U = [r]) := hU.trans huU
  rw [hUl] at hTl
  obtain ⟨T, hT⟩ : ∃ T, T = bin (34 :: U.flatMap (unitB digU)) := ⟨_, rfl⟩
  rw [← hT] at cQ hTl
  have HT := Lib.hid hT
  clear hun htold hUb hU hUl huU hT hb hr hu6 hp
  have hse : decide ((55296 : Int) ≤ (r : Int)) = false ∨ (decide ((55296 : Int) ≤ (r : Int)) = true ∧ decide ((r : Int) ≤ 57343) = false) := by
    rcases hs with h | h
    · left; simp; omega
    · right; exact ⟨by simp; omega, by simp; omega⟩
  clear hs
  rcases hse with hse | ⟨hse, hsf⟩
  all_goals (
    go_enter Try.func13, Try.ntmps13
    go_wp2_with (go_at_call 27; refine (Rf.begun3 _).mono ?_; rintro e w1 ⟨rfl, hb1⟩)
    have hsz1 := hb1.size
    have HC : Hid (∀ (i z : Nat), U[i]? = some z → ((w1.alloc (.cells #[.int .u32 (r : Int)] 39))).cell? ⟨w1.heap.size, i, none⟩ = some (.int .u32 (z : Int))) := by
      intro i z h
      rw [HU.out] at h
      exact Mem.lit_src w1 [.int .u32 (r : Int)] 39 i (.int .u32 (z : Int)) (by
        match i, h with
        | 0, h => cases h; rfl)
    have HB1 := Lib.hid (show Below w.heap.size w (w1.alloc (.cells #[.int .u32 (r : Int)] 39)) from hb1.alloc hb1.size _)
    generalize hWg : (w1.alloc (.cells #[.int .u32 (r : Int)] 39)) = W0 at HC HB1 ⊢
    clear hWg hb1 hsz1
    go_loop [8, 9] (fun o x => ∃ i : Nat, x = .int .i64 i ∧ i ≤ 1 ∧ o = .string (bin (34 :: (U.take i).flatMap (unitB digU)))) (fun _ x => 1 - (intOf x).toNat)
    case atStart => exact ⟨0, rfl, by omega, rfl⟩
    case round =>
      obtain ⟨i, rfl, hi, rfl⟩ := hrel
      by_cases hlt : i < 1
      · obtain ⟨z, hz⟩ : ∃ z, U[i]? = some z := ⟨_, List.getElem?_eq_getElem (by rw [HUL.out]; exact hlt)⟩
        have hc := HC.out i z hz
        have HZ := Lib.hid (HUB.out i z hz)
        have hzI : (z : Int) ≤ 100000 := by have := HZ.out; omega
        have HTK := Lib.hid (told_take (f := digU) hz)
        obtain ⟨p, hp⟩ : ∃ p, p = 34 :: (U.take i).flatMap (unitB digU) := ⟨_, rfl⟩
        have hpl : p.length ≤ 20 := by rw [hp, List.length_cons, flat_len, List.length_take]; omega
        have hps : (bin p).size ≤ 20 := by rw [Mem.bin_size]; exact hpl
        have HP := Lib.hid hp
        rw [← hp]
        clear hp hz
        go_wp2
        go_loop [8, 10] (fun o x => ∃ (j : Nat) (K : Int), j ≤ 4 ∧ x = .int .i64 K ∧ K = 12 - 4 * (j : Int) ∧ o = .string (bin (p ++ (92 :: 117 :: (dig4 digU z).take j)))) (fun _ x => (intOf x + 4).toNat)
        case atStart => exact ⟨0, 12, by omega, rfl, by omega, by rw [← bin_app]; rfl⟩
        case round =>
          obtain ⟨j, K, hj, rfl, hK, rfl⟩ := hrel
          have hos : (bin (p ++ (92 :: 117 :: (dig4 digU z).take j))).size ≤ 30 := by
            rw [Mem.bin_size, List.length_append, List.length_cons, List.length_cons, List.length_take]
            have : (dig4 digU z).length = 4 := rfl
            omega
          obtain ⟨o, ho⟩ : ∃ o, o = bin (p ++ (92 :: 117 :: (dig4 digU z).take j)) := ⟨_, rfl⟩
          have HO := Lib.hid ho
          rw [← ho] at hos ⊢
          clear ho
          rcases (show j = 0 ∨ j = 1 ∨ j = 2 ∨ j = 3 ∨ j = 4 by omega) with rfl | rfl | rfl | rfl | rfl
          · obtain rfl : K = 12 := by omega
            clear hK
            have ha := and15 z 4096 HZ.out
            obtain ⟨d, hd⟩ : ∃ d, d = z / 4096 % 16 := ⟨_, rfl⟩
            rw [← hd] at ha
            rw [show ((z / 4096 : Nat) : Int) = (z : Int) / 4096 by omega] at ha
            have hd6 : d < 16 := by omega
            have HX := Lib.hid (ext_U d hd6)
            have HD := Lib.hid hd
            clear hd
            go_wp2
            go_round
            case rel => exact ⟨1, 8, by omega, by first | rfl | go_num, by omega, by
              rw [HO.out, HX.out, bin_app, List.append_assoc, HD.out]
              rfl⟩
            case measure => simp [intOf]; try omega
          · obtain rfl : K = 8 := by omega
            clear hK
            have ha := and15 z 256 HZ.out
            obtain ⟨d, hd⟩ : ∃ d, d = z / 256 % 16 := ⟨_, rfl⟩
            rw [← hd] at ha
            rw [show ((z / 256 : Nat) : Int) = (z : Int) / 256 by omega] at ha
            have hd6 : d < 16 := by omega
            have HX := Lib.hid (ext_U d hd6)
            have HD := Lib.hid hd
            clear hd
            go_wp2
            go_round
            case rel => exact ⟨2, 4, by omega, by first | rfl | go_num, by omega, by
              rw [HO.out, HX.out, bin_app, List.append_assoc, HD.out]
              rfl⟩
            case measure => simp [intOf]; try omega
          · obtain rfl : K = 4 := by omega
            clear hK
            have ha := and15 z 16 HZ.out
            obtain ⟨d, hd⟩ : ∃ d, d = z / 16 % 16 := ⟨_, rfl⟩
            rw [← hd] at ha
            rw [show ((z / 16 : Nat) : Int) = (z : Int) / 16 by omega] at ha
            have hd6 : d < 16 := by omega
            have HX := Lib.hid (ext_U d hd6)
            have HD := Lib.hid hd
            clear hd
            go_wp2
            go_round
            case rel => exact ⟨3, 0, by omega, by first | rfl | go_num, by omega, by
              rw [HO.out, HX.out, bin_app, List.append_assoc, HD.out]
              rfl⟩
            case measure => simp [intOf]; try omega
          · obtain rfl : K = 0 := by omega
            clear hK
            have ha := and15 z 1 HZ.out
            obtain ⟨d, hd⟩ : ∃ d, d = z / 1 % 16 := ⟨_, rfl⟩
            rw [← hd] at ha
            rw [show ((z / 1 : Nat) : Int) = (z : Int) by omega] at ha
            have hd6 : d < 16 := by omega
            have HX := Lib.hid (ext_U d hd6)
            have HD := Lib.hid hd
            clear hd
            go_wp2
            go_round
            case rel => exact ⟨4, -4, by omega, by first | rfl | go_num, by omega, by
              rw [HO.out, HX.out, bin_app, List.append_assoc, HD.out]; simp only [Nat.div_one]
              rfl⟩
            case measure => simp [intOf]; try omega
          · obtain rfl : K = -4 := by omega
            clear hK
            go_wp2
            go_round
            case rel => exact ⟨i + 1, by go_num, by omega, by
              rw [HO.out, HTK.out, HP.out]
              rfl⟩
            case measure => simp [intOf]; omega
      · obtain rfl : i = 1 := by omega
        rw [List.take_of_length_le (by rw [HUL.out]; omega), ← HT.out]
        go_wp2_with (go_at_call 28; (with_reducible refine (cQ.out _).mono ?_); rintro e w2 ⟨rfl, hb2⟩)
        go_ret
        exact ⟨by first | kernel_rfl | rfl | (simp; done), HB1.out.trans (hb2.mono HB1.out.size)⟩
  )
set_option maxHeartbeats 4000000 in
set_option maxRecDepth 1000000 in
theorem units_CL (n : Nat) (hn : n < 4294967296) (r : Nat) (hr : n % 1114112 = r) (hp : isPt r = true) (hb : ¬ r < 65536) (w : World) :
    Calls Try.prog 13 #[.int .u32 (n : Int), .bool false] w fun e w' => e = .returned (.bool true) ∧ Below w.heap.size w w' := by
  have hq' : (n : Int) % 1114112 = (r : Int) := by omega
  have r17 : (r : Int) ≤ 1114111 := by omega
  have henc := encode_pt r hp
  obtain ⟨x, hx⟩ : ∃ x, x = (r - 65536) / 1024 := ⟨_, rfl⟩
  obtain ⟨y, hy⟩ : ∃ y, y = (r - 65536) % 1024 := ⟨_, rfl⟩
  have huU : units r = [55296 + x, 56320 + y] := by unfold units; rw [if_neg hb, hx, hy]
  have hx4 : x < 1024 := by omega
  have hy4 : y < 1024 := by omega
  obtain ⟨u, hu⟩ : ∃ u, u = 55296 + x := ⟨_, rfl⟩
  obtain ⟨v, hv⟩ : ∃ v, v = 56320 + y := ⟨_, rfl⟩
  rw [← hu, ← hv] at huU
  have hu6 : u < 65536 := by omega
  have hv6 : v < 65536 := by omega
  have huI : 55296 + (x : Int) = (u : Int) := by omega
  have hvI : 56320 + (y : Int) = (v : Int) := by omega
  have hbi : decide ((65535 : Int) < (r : Int)) = true := by simp; omega
  obtain ⟨sv, hsv⟩ : ∃ sv, sv = r - 65536 := ⟨_, rfl⟩
  have hsr : (r : Int) - 65536 = (sv : Int) := by omega
  have hs9 : (sv : Int) ≤ 1048575 := by omega
  have hxq : (sv : Int) / 1024 = (x : Int) := by omega
  have hyq : (sv : Int) % 1024 = (y : Int) := by omega
  obtain ⟨U, hU⟩ : ∃ U, U = units r := ⟨_, rfl⟩
  have hUl : U.length = 2 := by rw [hU, huU]; rfl
  have hUb : ∀ (i z : Nat), U[i]? = some z → z < 65536 := by
    intro i z h
    rw [hU, huU] at h
    match i, h with
    | 0, h => cases h; exact hu6
    | 1, h => cases h; exact hv6
  have HUB := Lib.hid hUb
  have htold : told digL r = U.flatMap (unitB digL) := by rw [hU]; rfl
  have hTl : (bin (34 :: U.flatMap (unitB digL))).size = U.length * 6 + 1 := by rw [Mem.bin_size, List.length_cons, flat_len]
  have hun := unq_told digL_ok r hp
  rw [htold, flat_len, hUl] at hun
  have cQ := Lib.hid (fun W => Unquote_any (bin (34 :: U.flatMap (unitB digL)) ++ ⟨#[34]⟩) W (by rw [ByteArray.size_append, hTl, hUl]; show _ + 1 ≤ _; omega))
  rw [qend_some (l := (bin (34 :: U.flatMap (unitB digL)) ++ ⟨#[34]⟩).data.toList) (by rw [ByteArray.data_append, Array.toList_append, Mem.bin_list]; exact hun)] at cQ
  have HUL : Hid (U.length = 2) := hUl
  have HU : Hid (U = [u, v]) := hU.trans huU
  rw [hUl] at hTl
  obtain ⟨T, hT⟩ : ∃ T, T = bin (34 :: U.flatMap (unitB digL)) := ⟨_, rfl⟩
  rw [← hT] at cQ hTl
  have HT := Lib.hid hT
  clear hun htold hUb hU hUl huU hT hu hv hx hy hb hr hv6 hsv hu6 hp
  have r15 : (55296 : Int) ≤ (r : Int) := by omega
  have r16 : ¬ (r : Int) ≤ 57343 := by omega
  go_enter Try.func13, Try.ntmps13
  go_wp2_with (go_at_call 27; refine (Rf.begun3 _).mono ?_; rintro e w1 ⟨rfl, hb1⟩)
  have hsz1 := hb1.size
  have HC : Hid (∀ (i z : Nat), U[i]? = some z → (((w1.alloc (.cells #[.int .u32 (r : Int)] 39)).alloc (.cells #[.int .u32 (u : Int), .int .u32 (v : Int)] 39))).cell? ⟨w1.heap.size + 1, i, none⟩ = some (.int .u32 (z : Int))) := by
    intro i z h
    rw [HU.out] at h
    have hl := Mem.lit_src (w1.alloc (.cells #[.int .u32 (r : Int)] 39)) [.int .u32 (u : Int), .int .u32 (v : Int)] 39 i (.int .u32 (z : Int)) (by
      match i, h with
      | 0, h => cases h; rfl
      | 1, h => cases h; rfl)
    rw [show (w1.alloc (.cells #[.int .u32 (r : Int)] 39)).heap.size = w1.heap.size + 1 by simp] at hl
    exact hl
  have HB1 := Lib.hid (show Below w.heap.size w ((w1.alloc (.cells #[.int .u32 (r : Int)] 39)).alloc (.cells #[.int .u32 (u : Int), .int .u32 (v : Int)] 39)) from (hb1.alloc hb1.size _).alloc (by simp; omega) _)
  generalize hWg : ((w1.alloc (.cells #[.int .u32 (r : Int)] 39)).alloc (.cells #[.int .u32 (u : Int), .int .u32 (v : Int)] 39)) = W0 at HC HB1 ⊢
  clear hWg hb1 hsz1
  go_loop [8, 9] (fun o x => ∃ i : Nat, x = .int .i64 i ∧ i ≤ 2 ∧ o = .string (bin (34 :: (U.take i).flatMap (unitB digL)))) (fun _ x => 2 - (intOf x).toNat)
  case atStart => exact ⟨0, rfl, by omega, rfl⟩
  case round =>
    obtain ⟨i, rfl, hi, rfl⟩ := hrel
    by_cases hlt : i < 2
    · obtain ⟨z, hz⟩ : ∃ z, U[i]? = some z := ⟨_, List.getElem?_eq_getElem (by rw [HUL.out]; exact hlt)⟩
      have hc := HC.out i z hz
      have HZ := Lib.hid (HUB.out i z hz)
      have hzI : (z : Int) ≤ 100000 := by have := HZ.out; omega
      have HTK := Lib.hid (told_take (f := digL) hz)
      obtain ⟨p, hp⟩ : ∃ p, p = 34 :: (U.take i).flatMap (unitB digL) := ⟨_, rfl⟩
      have hpl : p.length ≤ 20 := by rw [hp, List.length_cons, flat_len, List.length_take]; omega
      have hps : (bin p).size ≤ 20 := by rw [Mem.bin_size]; exact hpl
      have HP := Lib.hid hp
      rw [← hp]
      clear hp hz
      go_wp2
      go_loop [8, 10] (fun o x => ∃ (j : Nat) (K : Int), j ≤ 4 ∧ x = .int .i64 K ∧ K = 12 - 4 * (j : Int) ∧ o = .string (bin (p ++ (92 :: 117 :: (dig4 digL z).take j)))) (fun _ x => (intOf x + 4).toNat)
      case atStart => exact ⟨0, 12, by omega, rfl, by omega, by rw [← bin_app]; rfl⟩
      case round =>
        obtain ⟨j, K, hj, rfl, hK, rfl⟩ := hrel
        have hos : (bin (p ++ (92 :: 117 :: (dig4 digL z).take j))).size ≤ 30 := by
          rw [Mem.bin_size, List.length_append, List.length_cons, List.length_cons, List.length_take]
          have : (dig4 digL z).length = 4 := rfl
          omega
        obtain ⟨o, ho⟩ : ∃ o, o = bin (p ++ (92 :: 117 :: (dig4 digL z).take j)) := ⟨_, rfl⟩
        have HO := Lib.hid ho
        rw [← ho] at hos ⊢
        clear ho
        rcases (show j = 0 ∨ j = 1 ∨ j = 2 ∨ j = 3 ∨ j = 4 by omega) with rfl | rfl | rfl | rfl | rfl
        · obtain rfl : K = 12 := by omega
          clear hK
          have ha := and15 z 4096 HZ.out
          obtain ⟨d, hd⟩ : ∃ d, d = z / 4096 % 16 := ⟨_, rfl⟩
          rw [← hd] at ha
          rw [show ((z / 4096 : Nat) : Int) = (z : Int) / 4096 by omega] at ha
          have hd6 : d < 16 := by omega
          have HX := Lib.hid (ext_L d hd6)
          have HD := Lib.hid hd
          clear hd
          go_wp2
          go_round
          case rel => exact ⟨1, 8, by omega, by first | rfl | go_num, by omega, by
            rw [HO.out, HX.out, bin_app, List.append_assoc, HD.out]
            rfl⟩
          case measure => simp [intOf]; try omega
        · obtain rfl : K = 8 := by omega
          clear hK
          have ha := and15 z 256 HZ.out
          obtain ⟨d, hd⟩ : ∃ d, d = z / 256 % 16 := ⟨_, rfl⟩
          rw [← hd] at ha
          rw [show ((z / 256 : Nat) : Int) = (z : Int) / 256 by omega] at ha
          have hd6 : d < 16 := by omega
          have HX := Lib.hid (ext_L d hd6)
          have HD := Lib.hid hd
          clear hd
          go_wp2
          go_round
          case rel => exact ⟨2, 4, by omega, by first | rfl | go_num, by omega, by
            rw [HO.out, HX.out, bin_app, List.append_assoc, HD.out]
            rfl⟩
          case measure => simp [intOf]; try omega
        · obtain rfl : K = 4 := by omega
          clear hK
          have ha := and15 z 16 HZ.out
          obtain ⟨d, hd⟩ : ∃ d, d = z / 16 % 16 := ⟨_, rfl⟩
          rw [← hd] at ha
          rw [show ((z / 16 : Nat) : Int) = (z : Int) / 16 by omega] at ha
          have hd6 : d < 16 := by omega
          have HX := Lib.hid (ext_L d hd6)
          have HD := Lib.hid hd
          clear hd
          go_wp2
          go_round
          case rel => exact ⟨3, 0, by omega, by first | rfl | go_num, by omega, by
            rw [HO.out, HX.out, bin_app, List.append_assoc, HD.out]
            rfl⟩
          case measure => simp [intOf]; try omega
        · obtain rfl : K = 0 := by omega
          clear hK
          have ha := and15 z 1 HZ.out
          obtain ⟨d, hd⟩ : ∃ d, d = z / 1 % 16 := ⟨_, rfl⟩
          rw [← hd] at ha
          rw [show ((z / 1 : Nat) : Int) = (z : Int) by omega] at ha
          have hd6 : d < 16 := by omega
          have HX := Lib.hid (ext_L d hd6)
          have HD := Lib.hid hd
          clear hd
          go_wp2
          go_round
          case rel => exact ⟨4, -4, by omega, by first | rfl | go_num, by omega, by
            rw [HO.out, HX.out, bin_app, List.append_assoc, HD.out]; simp only [Nat.div_one]
            rfl⟩
          case measure => simp [intOf]; try omega
        · obtain rfl : K = -4 := by omega
          clear hK
          go_wp2
          go_round
          case rel => exact ⟨i + 1, by go_num, by omega, by
            rw [HO.out, HTK.out, HP.out]
            rfl⟩
          case measure => simp [intOf]; omega
    · obtain rfl : i = 2 := by omega
      rw [List.take_of_length_le (by rw [HUL.out]; omega), ← HT.out]
      go_wp2_with (go_at_call 28; (with_reducible refine (cQ.out _).mono ?_); rintro e w2 ⟨rfl, hb2⟩)
      go_ret
      exact ⟨by first | kernel_rfl | rfl | (simp; done), HB1.out.trans (hb2.mono HB1.out.size)⟩
set_option maxHeartbeats 4000000 in
set_option maxRecDepth 1000000 in
theorem units_CU (n : Nat) (hn : n < 4294967296) (r : Nat) (hr : n % 1114112 = r) (hp : isPt r = true) (hb : ¬ r < 65536) (w : World) :
    Calls Try.prog 13 #[.int .u32 (n : Int), .bool true] w fun e w' => e = .returned (.bool true) ∧ Below w.heap.size w w' := by
  have hq' : (n : Int) % 1114112 = (r : Int) := by omega
  have r17 : (r : Int) ≤ 1114111 := by omega
  have henc := encode_pt r hp
  obtain ⟨x, hx⟩ : ∃ x, x = (r - 65536) / 1024 := ⟨_, rfl⟩
  obtain ⟨y, hy⟩ : ∃ y, y = (r - 65536) % 1024 := ⟨_, rfl⟩
  have huU : units r = [55296 + x, 56320 + y] := by unfold units; rw [if_neg hb, hx, hy]
  have hx4 : x < 1024 := by omega
  have hy4 : y < 1024 := by omega
  obtain ⟨u, hu⟩ : ∃ u, u = 55296 + x := ⟨_, rfl⟩
  obtain ⟨v, hv⟩ : ∃ v, v = 56320 + y := ⟨_, rfl⟩
  rw [← hu, ← hv] at huU
  have hu6 : u < 65536 := by omega
  have hv6 : v < 65536 := by omega
  have huI : 55296 + (x : Int) = (u : Int) := by omega
  have hvI : 56320 + (y : Int) = (v : Int) := by omega
  have hbi : decide ((65535 : Int) < (r : Int)) = true := by simp; omega
  obtain ⟨sv, hsv⟩ : ∃ sv, sv = r - 65536 := ⟨_, rfl⟩
  have hsr : (r : Int) - 65536 = (sv : Int) := by omega
  have hs9 : (sv : Int) ≤ 1048575 := by omega
  have hxq : (sv : Int) / 1024 = (x : Int) := by omega
  have hyq : (sv : Int) % 1024 = (y : Int) := by omega
  obtain ⟨U, hU⟩ : ∃ U, U = units r := ⟨_, rfl⟩
  have hUl : U.length = 2 := by rw [hU, huU]; rfl
  have hUb : ∀ (i z : Nat), U[i]? = some z → z < 65536 := by
    intro i z h
    rw [hU, huU] at h
    match i, h with
    | 0, h => cases h; exact hu6
    | 1, h => cases h; exact hv6
  have HUB := Lib.hid hUb
  have htold : told digU r = U.flatMap (unitB digU) := by rw [hU]; rfl
  have hTl : (bin (34 :: U.flatMap (unitB digU))).size = U.length * 6 + 1 := by rw [Mem.bin_size, List.length_cons, flat_len]
  have hun := unq_told digU_ok r hp
  rw [htold, flat_len, hUl] at hun
  have cQ := Lib.hid (fun W => Unquote_any (bin (34 :: U.flatMap (unitB digU)) ++ ⟨#[34]⟩) W (by rw [ByteArray.size_append, hTl, hUl]; show _ + 1 ≤ _; omega))
  rw [qend_some (l := (bin (34 :: U.flatMap (unitB digU)) ++ ⟨#[34]⟩).data.toList) (by rw [ByteArray.data_append, Array.toList_append, Mem.bin_list]; exact hun)] at cQ
  have HUL : Hid (U.length = 2) := hUl
  have HU : Hid (U = [u, v]) := hU.trans huU
  rw [hUl] at hTl
  obtain ⟨T, hT⟩ : ∃ T, T = bin (34 :: U.flatMap (unitB digU)) := ⟨_, rfl⟩
  rw [← hT] at cQ hTl
  have HT := Lib.hid hT
  clear hun htold hUb hU hUl huU hT hu hv hx hy hb hr hv6 hsv hu6 hp
  have r15 : (55296 : Int) ≤ (r : Int) := by omega
  have r16 : ¬ (r : Int) ≤ 57343 := by omega
  go_enter Try.func13, Try.ntmps13
  go_wp2_with (go_at_call 27; refine (Rf.begun3 _).mono ?_; rintro e w1 ⟨rfl, hb1⟩)
  have hsz1 := hb1.size
  have HC : Hid (∀ (i z : Nat), U[i]? = some z → (((w1.alloc (.cells #[.int .u32 (r : Int)] 39)).alloc (.cells #[.int .u32 (u : Int), .int .u32 (v : Int)] 39))).cell? ⟨w1.heap.size + 1, i, none⟩ = some (.int .u32 (z : Int))) := by
    intro i z h
    rw [HU.out] at h
    have hl := Mem.lit_src (w1.alloc (.cells #[.int .u32 (r : Int)] 39)) [.int .u32 (u : Int), .int .u32 (v : Int)] 39 i (.int .u32 (z : Int)) (by
      match i, h with
      | 0, h => cases h; rfl
      | 1, h => cases h; rfl)
    rw [show (w1.alloc (.cells #[.int .u32 (r : Int)] 39)).heap.size = w1.heap.size + 1 by simp] at hl
    exact hl
  have HB1 := Lib.hid (show Below w.heap.size w ((w1.alloc (.cells #[.int .u32 (r : Int)] 39)).alloc (.cells #[.int .u32 (u : Int), .int .u32 (v : Int)] 39)) from (hb1.alloc hb1.size _).alloc (by simp; omega) _)
  generalize hWg : ((w1.alloc (.cells #[.int .u32 (r : Int)] 39)).alloc (.cells #[.int .u32 (u : Int), .int .u32 (v : Int)] 39)) = W0 at HC HB1 ⊢
  clear hWg hb1 hsz1
  go_loop [8, 9] (fun o x => ∃ i : Nat, x = .int .i64 i ∧ i ≤ 2 ∧ o = .string (bin (34 :: (U.take i).flatMap (unitB digU)))) (fun _ x => 2 - (intOf x).toNat)
  case atStart => exact ⟨0, rfl, by omega, rfl⟩
  case round =>
    obtain ⟨i, rfl, hi, rfl⟩ := hrel
    by_cases hlt : i < 2
    · obtain ⟨z, hz⟩ : ∃ z, U[i]? = some z := ⟨_, List.getElem?_eq_getElem (by rw [HUL.out]; exact hlt)⟩
      have hc := HC.out i z hz
      have HZ := Lib.hid (HUB.out i z hz)
      have hzI : (z : Int) ≤ 100000 := by have := HZ.out; omega
      have HTK := Lib.hid (told_take (f := digU) hz)
      obtain ⟨p, hp⟩ : ∃ p, p = 34 :: (U.take i).flatMap (unitB digU) := ⟨_, rfl⟩
      have hpl : p.length ≤ 20 := by rw [hp, List.length_cons, flat_len, List.length_take]; omega
      have hps : (bin p).size ≤ 20 := by rw [Mem.bin_size]; exact hpl
      have HP := Lib.hid hp
      rw [← hp]
      clear hp hz
      go_wp2
      go_loop [8, 10] (fun o x => ∃ (j : Nat) (K : Int), j ≤ 4 ∧ x = .int .i64 K ∧ K = 12 - 4 * (j : Int) ∧ o = .string (bin (p ++ (92 :: 117 :: (dig4 digU z).take j)))) (fun _ x => (intOf x + 4).toNat)
      case atStart => exact ⟨0, 12, by omega, rfl, by omega, by rw [← bin_app]; rfl⟩
      case round =>
        obtain ⟨j, K, hj, rfl, hK, rfl⟩ := hrel
        have hos : (bin (p ++ (92 :: 117 :: (dig4 digU z).take j))).size ≤ 30 := by
          rw [Mem.bin_size, List.length_append, List.length_cons, List.length_cons, List.length_take]
          have : (dig4 digU z).length = 4 := rfl
          omega
        obtain ⟨o, ho⟩ : ∃ o, o = bin (p ++ (92 :: 117 :: (dig4 digU z).take j)) := ⟨_, rfl⟩
        have HO := Lib.hid ho
        rw [← ho] at hos ⊢
        clear ho
        rcases (show j = 0 ∨ j = 1 ∨ j = 2 ∨ j = 3 ∨ j = 4 by omega) with rfl | rfl | rfl | rfl | rfl
        · obtain rfl : K = 12 := by omega
          clear hK
          have ha := and15 z 4096 HZ.out
          obtain ⟨d, hd⟩ : ∃ d, d = z / 4096 % 16 := ⟨_, rfl⟩
          rw [← hd] at ha
          rw [show ((z / 4096 : Nat) : Int) = (z : Int) / 4096 by omega] at ha
          have hd6 : d < 16 := by omega
          have HX := Lib.hid (ext_U d hd6)
          have HD := Lib.hid hd
          clear hd
          go_wp2
          go_round
          case rel => exact ⟨1, 8, by omega, by first | rfl | go_num, by omega, by
            rw [HO.out, HX.out, bin_app, List.append_assoc, HD.out]
            rfl⟩
          case measure => simp [intOf]; try omega
        · obtain rfl : K = 8 := by omega
          clear hK
          have ha := and15 z 256 HZ.out
          obtain ⟨d, hd⟩ : ∃ d, d = z / 256 % 16 := ⟨_, rfl⟩
          rw [← hd] at ha
          rw [show ((z / 256 : Nat) : Int) = (z : Int) / 256 by omega] at ha
          have hd6 : d < 16 := by omega
          have HX := Lib.hid (ext_U d hd6)
          have HD := Lib.hid hd
          clear hd
          go_wp2
          go_round
          case rel => exact ⟨2, 4, by omega, by first | rfl | go_num, by omega, by
            rw [HO.out, HX.out, bin_app, List.append_assoc, HD.out]
            rfl⟩
          case measure => simp [intOf]; try omega
        · obtain rfl : K = 4 := by omega
          clear hK
          have ha := and15 z 16 HZ.out
          obtain ⟨d, hd⟩ : ∃ d, d = z / 16 % 16 := ⟨_, rfl⟩
          rw [← hd] at ha
          rw [show ((z / 16 : Nat) : Int) = (z : Int) / 16 by omega] at ha
          have hd6 : d < 16 := by omega
          have HX := Lib.hid (ext_U d hd6)
          have HD := Lib.hid hd
          clear hd
          go_wp2
          go_round
          case rel => exact ⟨3, 0, by omega, by first | rfl | go_num, by omega, by
            rw [HO.out, HX.out, bin_app, List.append_assoc, HD.out]
            rfl⟩
          case measure => simp [intOf]; try omega
        · obtain rfl : K = 0 := by omega
          clear hK
          have ha := and15 z 1 HZ.out
          obtain ⟨d, hd⟩ : ∃ d, d = z / 1 % 16 := ⟨_, rfl⟩
          rw [← hd] at ha
          rw [show ((z / 1 : Nat) : Int) = (z : Int) by omega] at ha
          have hd6 : d < 16 := by omega
          have HX := Lib.hid (ext_U d hd6)
          have HD := Lib.hid hd
          clear hd
          go_wp2
          go_round
          case rel => exact ⟨4, -4, by omega, by first | rfl | go_num, by omega, by
            rw [HO.out, HX.out, bin_app, List.append_assoc, HD.out]; simp only [Nat.div_one]
            rfl⟩
          case measure => simp [intOf]; try omega
        · obtain rfl : K = -4 := by omega
          clear hK
          go_wp2
          go_round
          case rel => exact ⟨i + 1, by go_num, by omega, by
            rw [HO.out, HTK.out, HP.out]
            rfl⟩
          case measure => simp [intOf]; omega
    · obtain rfl : i = 2 := by omega
      rw [List.take_of_length_le (by rw [HUL.out]; omega), ← HT.out]
      go_wp2_with (go_at_call 28; (with_reducible refine (cQ.out _).mono ?_); rintro e w2 ⟨rfl, hb2⟩)
      go_ret
      exact ⟨by first | kernel_rfl | rfl | (simp; done), HB1.out.trans (hb2.mono HB1.out.size)⟩
theorem units_law_wf (n : Int) (up : Bool) (w : World) (h0 : (Lit.int .u32 n).wf = true) :
    Calls Try.prog 13 #[.int .u32 n, .bool up] w fun e w' => e = .returned (.bool true) ∧ Below w.heap.size w w' := by
  have b0 : 0 ≤ n ∧ n < 4294967296 := by simp [Lit.wf, IntKind.min, IntKind.max, IntKind.signed, IntKind.bits] at h0; omega
  obtain ⟨n, rfl⟩ := Int.eq_ofNat_of_zero_le b0.1
  have hn : n < 4294967296 := by omega
  by_cases hs : 55296 ≤ n % 1114112 ∧ n % 1114112 ≤ 57343
  · cases up
    · exact units_AL n hn hs.1 hs.2 w
    · exact units_AU n hn hs.1 hs.2 w
  · have hp : isPt (n % 1114112) = true := by
      unfold isPt
      have h1 : n % 1114112 ≤ 1114111 := by omega
      have h2 : ¬ n % 1114112 / 2048 = 27 := by omega
      simp [h1, h2]
    by_cases hb : n % 1114112 < 65536
    · cases up
      · exact units_BL n hn _ rfl hp (by omega) hb w
      · exact units_BU n hn _ rfl hp (by omega) hb w
    · cases up
      · exact units_CL n hn _ rfl hp hb w
      · exact units_CU n hn _ rfl hp hb w
end Gl
end Go.Proofs.Ytfcpicejifolmaa
