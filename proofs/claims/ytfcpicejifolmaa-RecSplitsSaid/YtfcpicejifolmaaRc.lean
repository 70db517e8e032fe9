/-
  The document's Split: its contract. No condition but that a text is short.
-/
import Derived.Test.YtfcpicejifolmaaRk
import Derived.Test.YtfcpicejifolmaaRt
namespace Go.Proofs.Ytfcpicejifolmaa
open Go.ChangeShapes Go.WideShapes Go.ChangeAt Go.RowKit
namespace Rv
set_option linter.unusedVariables false
set_option linter.unusedSimpArgs false
theorem Left.next' {S : List UInt8} {t : ByteArray} {p : List Rc} {x z v K : Nat} {xs : List UInt8} (h : Left S t p) (h0 : 0 < t.size) (hK : K ≤ t.size) (hr : rfirst t.data.toList = some ⟨x, z, v, xs, t.data.toList.take K⟩) : Left S (t.extract K t.size) (p ++ [⟨x, z, v, xs, t.data.toList.take K⟩]) := by
  have := h.next h0 hr
  have hl : (t.data.toList.take K).length = K := by rw [List.length_take]; simp; omega
  simp only [hl] at this
  exact this
theorem cut_mid (t : ByteArray) (n k : Nat) : (t.extract n (n + k)).data.toList = (t.data.toList.drop n).take k := by
  rw [cut_at, List.drop_take, show n + k - n = k by omega]
set_option maxHeartbeats 8000000 in
set_option maxRecDepth 100000 in
theorem splitd_any (s : ByteArray) (w : World) (hs : s.size ≤ 1000) :
    Calls Try.prog 21 #[.string s] w fun e w' => match rsplit s.data.toList with
      | none => e = .returned (.tuple #[.slice none 0 0, .int .i64 2]) ∧ Below w.heap.size w w'
      | some l => Rows l w.heap.size w e w' := by
  obtain ⟨i0, hi, hz0, hz1, hz2⟩ := info_parts info30
  obtain ⟨S, hS⟩ : ∃ S, S = s.data.toList := ⟨_, rfl⟩
  have HL0 := Lib.hid (Left.start s)
  rw [← hS] at HL0 ⊢
  have hSl : S.length ≤ 1000 := by rw [hS]; simpa using hs
  have HSl := Lib.hid hSl
  obtain ⟨Q, hQ⟩ : ∃ Q : Ending → World → Prop, Q = fun e w' => match rsplit S with
      | none => e = .returned (.tuple #[.slice none 0 0, .int .i64 2]) ∧ Below w.heap.size w w'
      | some l => Rows l w.heap.size w e w' := ⟨_, rfl⟩
  have QN : Hid (rsplit S = none → ∀ w', Below w.heap.size w w' → Q (.returned (.tuple #[.slice none 0 0, .int .i64 2])) w') := fun h w' hb => by rw [hQ]; simp only [h]; first | exact ⟨rfl, hb⟩ | exact ⟨trivial, hb⟩
  have QS : Hid (∀ p v w', rsplit S = some p → RRow w' w.heap.size 30 v p → Below w.heap.size w w' → Q (.returned (.tuple #[v, .int .i64 0])) w') := fun p v w' h hr hb => by rw [hQ]; simp only [h]; exact ⟨v, rfl, hr, hb⟩
  rw [← hQ]
  clear hQ hS hSl
  go_enter Try.func21, Try.ntmps21
  go_wp2_with fail
  go_loopw [0, 4] (fun x b wr => ∃ (t : ByteArray) (p : List Rc), x = .string t ∧ Left S t p ∧ RRow wr w.heap.size 30 b p ∧ Below w.heap.size w wr) (fun x _ _ => match x with | .string t => t.size | _ => 0)
  case atStart => exact ⟨s, [], rfl, HL0.out, RRow.nil _ _ _, Below.refl _ _⟩
  case round =>
    obtain ⟨t, p, rfl, hl, hr, hb⟩ := hrel
    have hlen := hl.len
    have hsl := HSl.out
    have ht : t.size ≤ 1000 := by omega
    have hp : p.length ≤ 1000 := by omega
    have HL := Lib.hid hl
    have HR := Lib.hid hr
    have HB := Lib.hid hb
    have HW := Lib.hid hb.size
    clear hl hr hb hlen hsl
    by_cases h0 : 0 < t.size
    · have hl : t.data.toList.length = t.size := by simp
      have cV := Lib.hid (fun W => rvarint_any t W (by unfold maxLen; omega))
      cases hv : vdec t.data.toList 0 0 with
      | none =>
        rw [vend_none hv] at cV
        have HN := Lib.hid (HL.out.none h0 (rf_tag hv))
        clear hv hl
        go_wp2_with (go_at_call 17; ((with_reducible refine (cV.out _).mono ?_); rintro e w' ⟨rfl, rfl⟩))
        first
          | exact QN.out HN.out _ HB.out
          | exact QN.out HN.out _ (HB.out.alloc HW.out _)
      | some x =>
        obtain ⟨tv, n⟩ := x
        rw [vend_some hv] at cV
        have hb := vdec_bd0 hv
        rw [hl] at hb
        obtain ⟨h1, h2, h3, h4⟩ := hb
        have h5 : (tv : Int) ≤ 18446744073709551615 := by omega
        obtain ⟨x, hx⟩ : ∃ x, x = tv / 8 := ⟨_, rfl⟩
        have hq : (tv : Int) / 8 = (x : Int) := by omega
        by_cases hn : tv / 8 < 1 ∨ 536870911 < tv / 8
        · have HN := Lib.hid (HL.out.none h0 (rf_num hv hn))
          clear hv hl
          by_cases hn1 : x < 1
          · have hn1' : (x : Int) < 1 := by omega
            clear hn hx
            go_wp2_with (go_at_call 17; ((with_reducible refine (cV.out _).mono ?_); rintro e w' ⟨rfl, rfl⟩))
            first
              | exact QN.out HN.out _ HB.out
              | exact QN.out HN.out _ (HB.out.alloc HW.out _)
          · have hn2 : ¬ (x : Int) < 1 := by omega
            have hn3 : 536870911 < (x : Int) := by omega
            clear hn hx
            go_wp2_with (go_at_call 17; ((with_reducible refine (cV.out _).mono ?_); rintro e w' ⟨rfl, rfl⟩))
            first
              | exact QN.out HN.out _ HB.out
              | exact QN.out HN.out _ (HB.out.alloc HW.out _)
        · have x1 : 1 ≤ x := by omega
          have x2 : x ≤ 536870911 := by omega
          have x3 : ¬ (x : Int) < 1 := by omega
          have x4 : ¬ 536870911 < (x : Int) := by omega
          have hrl : (t.data.toList.drop n).length = t.size - n := by rw [List.length_drop, hl]
          obtain ⟨R0, hRe⟩ : ∃ R0, R0 = t.extract n t.size := ⟨_, rfl⟩
          have hR := rest_at t n
          rw [← hRe] at hR
          have hRs : R0.size = t.size - n := by rw [hRe, ByteArray.size_extract]; omega
          have hR' : t.extract n t.size = R0 := hRe.symm
          clear hRe
          have hw4 : tv % 8 = 0 ∨ tv % 8 = 1 ∨ tv % 8 = 2 ∨ tv % 8 = 5 ∨ (tv % 8 ≠ 0 ∧ tv % 8 ≠ 1 ∧ tv % 8 ≠ 5 ∧ tv % 8 ≠ 2) := by omega
          rcases hw4 with hw | hw | hw | hw | ⟨z0, z1, z5, z2⟩
          · have hw : tv % 8 = 0 := hw
            have hm : (tv : Int) % 8 = 0 := by omega
            have cB := Lib.hid (fun W => rvarint_any R0 W (by unfold maxLen; omega))
            have HRL := Lib.hid hR
            cases hb : vdec (t.data.toList.drop n) 0 0 with
            | none =>
              rw [vend_none (by rw [hR]; exact hb)] at cB
              have HN := Lib.hid (HL.out.none h0 (rf_none hv (by rw [hw, rb0, hb]; rfl)))
              clear hv hl hb hrl hn hw hR hx HRL
              go_wp2_with (first | (go_at_call 17; ((with_reducible refine (cV.out _).mono ?_); rintro e w' ⟨rfl, rfl⟩)) | (go_at_call 17; ((with_reducible refine (cB.out _).mono ?_); rintro e w' ⟨rfl, rfl⟩)))
              first
                | exact QN.out HN.out _ HB.out
                | exact QN.out HN.out _ (HB.out.alloc HW.out _)
            | some y =>
              obtain ⟨v, m⟩ := y
              rw [vend_some (by rw [hR]; exact hb)] at cB
              have hbd := vdec_bd0 hb
              rw [hrl] at hbd
              obtain ⟨g1, g2, g3, g4⟩ := hbd
              have hf : rfirst t.data.toList = some ⟨x, 0, v, [], t.data.toList.take (n + m)⟩ := by rw [hx]; exact (rf_some hv hn (by rw [hw, rb0, hb]; rfl)).trans (by rw [hw])
              have HN := Lib.hid (HL.out.next' (K := n + m) h0 (by omega) hf)
              obtain ⟨R, hRR⟩ : ∃ R, R = t.data.toList.take (n + m) := ⟨_, rfl⟩
              have hraw := front_at t (n + m)
              rw [← hRR] at hraw HN
              obtain ⟨r, hr⟩ : ∃ r : Rc, r = ⟨x, 0, v, [], R⟩ := ⟨_, rfl⟩
              rw [← hr] at HN
              have HC : Hid (∀ o j u, (rcells r)[j]? = some u → ((wr.alloc (.cells #[.int .i64 (x : Int), .int .i64 0, .int .u64 (v : Int), .string ⟨#[]⟩, .string (bin R)] 30)).alloc (.cells #[.int .i64 (x : Int), .int .i64 0, .int .u64 (v : Int), .string ⟨#[]⟩, .string (bin R)] o)).cell? ((⟨wr.heap.size + 1, 0, none⟩ : Addr).add j) = some u) := fun o => by rw [hr]; exact rc_src2 wr _ ⟨x, 0, v, [], R⟩ o
              have g5 : (n : Int) + (m : Int) ≤ (t.size : Int) := by omega
              have g6 : (v : Int) ≤ 18446744073709551615 := by omega
              clear hv hl hb hrl hn hw hR hx HRL hf hRR hr
              go_wp2_with (first | (at_builtin; refine wpList_append_own _ rfl _ _ 31 rfl w.heap.size 30 i0 _ 5 56 Try.underlying31 hi hz0 hz1 hz2 rfl (by decide) _ p.length (rvals p) rfl ((HR.out.alloc _).alloc _) ⟨wr.heap.size + 1, 0, none⟩ 1 1 (rcells r) rfl rfl (HC.out _) (rcells_one r) (by unfold maxLen; omega) (by omega) (by have h1 := HW.out; simp; omega) ?_) | (go_at_call 17; ((with_reducible refine (cV.out _).mono ?_); rintro e w' ⟨rfl, rfl⟩)) | (go_at_call 17; ((with_reducible refine (cB.out _).mono ?_); rintro e w' ⟨rfl, rfl⟩)))
              intro v' w3 hown hgr _
              have HR2 := Lib.hid (RRow.snoc hown)
              have HB2 := Lib.hid (((HB.out.alloc HW.out _).alloc (by have := HW.out; simp; omega) _).grown hgr (by have := HW.out; simp; omega) (fun k hk => (World.ownsRow.lt HR.out k hk).1))
              clear hown hgr
              go_wp2_with fail
              go_roundw
              case rel => exact ⟨t.extract (n + m) t.size, p ++ [r], rfl, HN.out, HR2.out, HB2.out⟩
              case measure => simp only [ByteArray.size_extract]; omega
          · have hw : tv % 8 = 1 := hw
            have hm : (tv : Int) % 8 = 1 := by omega
            by_cases hg : (t.data.toList.drop n).length < 8
            · have HN := Lib.hid (HL.out.none h0 (rf_none hv (by rw [hw, rb1, rfix, if_pos hg]; rfl)))
              rw [hrl] at hg
              have hd : (t.size : Int) - (n : Int) < 8 := by omega
              clear hv hl hrl hn hw hR hx
              go_wp2_with (go_at_call 17; ((with_reducible refine (cV.out _).mono ?_); rintro e w' ⟨rfl, rfl⟩))
              first
                | exact QN.out HN.out _ HB.out
                | exact QN.out HN.out _ (HB.out.alloc HW.out _)
            · obtain ⟨Y, hY⟩ : ∃ Y, Y = t.extract n (n + 8) := ⟨_, rfl⟩
              obtain ⟨v, hvv⟩ : ∃ v, v = leN ((t.data.toList.drop n).take 8) := ⟨_, rfl⟩
              have hYs : Y.size ≤ 8 := by rw [hY, ByteArray.size_extract]; omega
              have hYl : Y.data.toList = (t.data.toList.drop n).take 8 := by rw [hY]; exact cut_mid t n 8
              have cB := Lib.hid (fun W => low_any Y W hYs)
              rw [hYl, ← hvv] at cB
              have hY' : t.extract n (n + 8) = Y := hY.symm
              have g4 : v < 18446744073709551616 := by
                have h6 := leN_lt ((t.data.toList.drop n).take 8)
                rw [← hvv, show ((t.data.toList.drop n).take 8).length = 8 by rw [List.length_take]; omega] at h6
                exact Nat.lt_of_lt_of_le h6 (by decide)
              have hf : rfirst t.data.toList = some ⟨x, 1, leN ((t.data.toList.drop n).take 8), [], t.data.toList.take (n + 8)⟩ := by rw [hx]; exact (rf_some hv hn (by rw [hw, rb1, rfix, if_neg hg]; rfl)).trans (by rw [hw])
              have HN := Lib.hid (HL.out.next' (K := n + 8) h0 (by omega) hf)
              obtain ⟨R, hRR⟩ : ∃ R, R = t.data.toList.take (n + 8) := ⟨_, rfl⟩
              have hraw := front_at t (n + 8)
              rw [← hRR] at hraw HN
              rw [← hvv] at HN
              obtain ⟨r, hr⟩ : ∃ r : Rc, r = ⟨x, 1, v, [], R⟩ := ⟨_, rfl⟩
              rw [← hr] at HN
              have HC : Hid (∀ o j u, (rcells r)[j]? = some u → ((wr.alloc (.cells #[.int .i64 (x : Int), .int .i64 1, .int .u64 (v : Int), .string ⟨#[]⟩, .string (bin R)] 30)).alloc (.cells #[.int .i64 (x : Int), .int .i64 1, .int .u64 (v : Int), .string ⟨#[]⟩, .string (bin R)] o)).cell? ((⟨wr.heap.size + 1, 0, none⟩ : Addr).add j) = some u) := fun o => by rw [hr]; exact rc_src2 wr _ ⟨x, 1, v, [], R⟩ o
              rw [hrl] at hg
              have hd : ¬ (t.size : Int) - (n : Int) < 8 := by omega
              have g5 : (n : Int) + 8 ≤ (t.size : Int) := by omega
              have g6 : (v : Int) ≤ 18446744073709551615 := by omega
              clear hv hl hrl hn hw hR hx hf hRR hr hY hYl hvv hg
              go_wp2_with (first | (at_builtin; refine wpList_append_own _ rfl _ _ 31 rfl w.heap.size 30 i0 _ 5 56 Try.underlying31 hi hz0 hz1 hz2 rfl (by decide) _ p.length (rvals p) rfl ((HR.out.alloc _).alloc _) ⟨wr.heap.size + 1, 0, none⟩ 1 1 (rcells r) rfl rfl (HC.out _) (rcells_one r) (by unfold maxLen; omega) (by omega) (by have h1 := HW.out; simp; omega) ?_) | (go_at_call 17; ((with_reducible refine (cV.out _).mono ?_); rintro e w' ⟨rfl, rfl⟩)) | (go_at_call 37; ((with_reducible refine (cB.out _).mono ?_); rintro e w' ⟨rfl, rfl⟩)))
              intro v' w3 hown hgr _
              have HR2 := Lib.hid (RRow.snoc hown)
              have HB2 := Lib.hid (((HB.out.alloc HW.out _).alloc (by have := HW.out; simp; omega) _).grown hgr (by have := HW.out; simp; omega) (fun k hk => (World.ownsRow.lt HR.out k hk).1))
              clear hown hgr
              go_wp2_with fail
              go_roundw
              case rel => exact ⟨t.extract (n + 8) t.size, p ++ [r], rfl, HN.out, HR2.out, HB2.out⟩
              case measure => simp only [ByteArray.size_extract]; omega
          · have hw : tv % 8 = 2 := hw
            have hm : (tv : Int) % 8 = 2 := by omega
            have cB := Lib.hid (fun W => rvarint_any R0 W (by unfold maxLen; omega))
            have HRL := Lib.hid hR
            cases hb : vdec (t.data.toList.drop n) 0 0 with
            | none =>
              rw [vend_none (by rw [hR]; exact hb)] at cB
              have HN := Lib.hid (HL.out.none h0 (rf_none hv (by rw [hw, rb2, rtext, hb]; rfl)))
              clear hv hl hb hrl hn hw hR hx HRL
              go_wp2_with (first | (go_at_call 17; ((with_reducible refine (cV.out _).mono ?_); rintro e w' ⟨rfl, rfl⟩)) | (go_at_call 17; ((with_reducible refine (cB.out _).mono ?_); rintro e w' ⟨rfl, rfl⟩)))
              first
                | exact QN.out HN.out _ HB.out
                | exact QN.out HN.out _ (HB.out.alloc HW.out _)
            | some y =>
              obtain ⟨v, m⟩ := y
              rw [vend_some (by rw [hR]; exact hb)] at cB
              have hbd := vdec_bd0 hb
              rw [hrl] at hbd
              obtain ⟨g1, g2, g3, g4⟩ := hbd
              by_cases hg : t.size - n - m < v
              · have HN := Lib.hid (HL.out.none h0 (rf_none hv (by rw [hw, rb2, rtext, hb]; simp only [hrl, if_pos hg]; rfl)))
                have hd : decide ((t.size : Int) - (n : Int) - (m : Int) < (v : Int)) = true := by simp; omega
                have g6 : (v : Int) ≤ 18446744073709551615 := by omega
                clear hv hl hb hrl hn hw hR hx HRL
                go_wp2_with (first | (go_at_call 17; ((with_reducible refine (cV.out _).mono ?_); rintro e w' ⟨rfl, rfl⟩)) | (go_at_call 17; ((with_reducible refine (cB.out _).mono ?_); rintro e w' ⟨rfl, rfl⟩)))
                first
                  | exact QN.out HN.out _ HB.out
                  | exact QN.out HN.out _ (HB.out.alloc HW.out _)
              · have hd : decide ((t.size : Int) - (n : Int) - (m : Int) < (v : Int)) = false := by simp; omega
                have hf : rfirst t.data.toList = some ⟨x, 2, 0, ((t.data.toList.drop n).drop m).take v, t.data.toList.take (n + m + v)⟩ := by rw [hx]; exact (rf_some hv hn (by rw [hw, rb2, rtext, hb]; simp only [hrl, if_neg hg]; rfl)).trans (by rw [hw, Nat.add_assoc])
                have HN := Lib.hid (HL.out.next' (K := n + m + v) h0 (by omega) hf)
                obtain ⟨R, hRR⟩ : ∃ R, R = t.data.toList.take (n + m + v) := ⟨_, rfl⟩
                have hraw := front_at t (n + m + v)
                rw [← hRR] at hraw HN
                obtain ⟨X, hX⟩ : ∃ X, X = ((t.data.toList.drop n).drop m).take v := ⟨_, rfl⟩
                have hxs : t.extract (n + m) (n + m + v) = bin X := bin_of _ (by rw [cut_mid, hX, List.drop_drop])
                rw [← hX] at HN
                obtain ⟨r, hr⟩ : ∃ r : Rc, r = ⟨x, 2, 0, X, R⟩ := ⟨_, rfl⟩
                rw [← hr] at HN
                have HC : Hid (∀ o j u, (rcells r)[j]? = some u → ((wr.alloc (.cells #[.int .i64 (x : Int), .int .i64 2, .int .u64 0, .string (bin X), .string (bin R)] 30)).alloc (.cells #[.int .i64 (x : Int), .int .i64 2, .int .u64 0, .string (bin X), .string (bin R)] o)).cell? ((⟨wr.heap.size + 1, 0, none⟩ : Addr).add j) = some u) := fun o => by rw [hr]; exact rc_src2 wr _ ⟨x, 2, 0, X, R⟩ o
                have g5 : (n : Int) + (m : Int) + (v : Int) ≤ (t.size : Int) := by omega
                have g6 : (v : Int) ≤ 1000 := by omega
                clear hv hl hb hrl hn hw hR hx HRL hf hRR hr hX hg
                go_wp2_with (first | (at_builtin; refine wpList_append_own _ rfl _ _ 31 rfl w.heap.size 30 i0 _ 5 56 Try.underlying31 hi hz0 hz1 hz2 rfl (by decide) _ p.length (rvals p) rfl ((HR.out.alloc _).alloc _) ⟨wr.heap.size + 1, 0, none⟩ 1 1 (rcells r) rfl rfl (HC.out _) (rcells_one r) (by unfold maxLen; omega) (by omega) (by have h1 := HW.out; simp; omega) ?_) | (go_at_call 17; ((with_reducible refine (cV.out _).mono ?_); rintro e w' ⟨rfl, rfl⟩)) | (go_at_call 17; ((with_reducible refine (cB.out _).mono ?_); rintro e w' ⟨rfl, rfl⟩)))
                intro v' w3 hown hgr _
                have HR2 := Lib.hid (RRow.snoc hown)
                have HB2 := Lib.hid (((HB.out.alloc HW.out _).alloc (by have := HW.out; simp; omega) _).grown hgr (by have := HW.out; simp; omega) (fun k hk => (World.ownsRow.lt HR.out k hk).1))
                clear hown hgr
                go_wp2_with fail
                go_roundw
                case rel => exact ⟨t.extract (n + m + v) t.size, p ++ [r], rfl, HN.out, HR2.out, HB2.out⟩
                case measure => simp only [ByteArray.size_extract]; omega
          · have hw : tv % 8 = 5 := hw
            have hm : (tv : Int) % 8 = 5 := by omega
            by_cases hg : (t.data.toList.drop n).length < 4
            · have HN := Lib.hid (HL.out.none h0 (rf_none hv (by rw [hw, rb5, rfix, if_pos hg]; rfl)))
              rw [hrl] at hg
              have hd : (t.size : Int) - (n : Int) < 4 := by omega
              clear hv hl hrl hn hw hR hx
              go_wp2_with (go_at_call 17; ((with_reducible refine (cV.out _).mono ?_); rintro e w' ⟨rfl, rfl⟩))
              first
                | exact QN.out HN.out _ HB.out
                | exact QN.out HN.out _ (HB.out.alloc HW.out _)
            · obtain ⟨Y, hY⟩ : ∃ Y, Y = t.extract n (n + 4) := ⟨_, rfl⟩
              obtain ⟨v, hvv⟩ : ∃ v, v = leN ((t.data.toList.drop n).take 4) := ⟨_, rfl⟩
              have hYs : Y.size ≤ 8 := by rw [hY, ByteArray.size_extract]; omega
              have hYl : Y.data.toList = (t.data.toList.drop n).take 4 := by rw [hY]; exact cut_mid t n 4
              have cB := Lib.hid (fun W => low_any Y W hYs)
              rw [hYl, ← hvv] at cB
              have hY' : t.extract n (n + 4) = Y := hY.symm
              have g4 : v < 18446744073709551616 := by
                have h6 := leN_lt ((t.data.toList.drop n).take 4)
                rw [← hvv, show ((t.data.toList.drop n).take 4).length = 4 by rw [List.length_take]; omega] at h6
                exact Nat.lt_of_lt_of_le h6 (by decide)
              have hf : rfirst t.data.toList = some ⟨x, 5, leN ((t.data.toList.drop n).take 4), [], t.data.toList.take (n + 4)⟩ := by rw [hx]; exact (rf_some hv hn (by rw [hw, rb5, rfix, if_neg hg]; rfl)).trans (by rw [hw])
              have HN := Lib.hid (HL.out.next' (K := n + 4) h0 (by omega) hf)
              obtain ⟨R, hRR⟩ : ∃ R, R = t.data.toList.take (n + 4) := ⟨_, rfl⟩
              have hraw := front_at t (n + 4)
              rw [← hRR] at hraw HN
              rw [← hvv] at HN
              obtain ⟨r, hr⟩ : ∃ r : Rc, r = ⟨x, 5, v, [], R⟩ := ⟨_, rfl⟩
              rw [← hr] at HN
              have HC : Hid (∀ o j u, (rcells r)[j]? = some u → ((wr.alloc (.cells #[.int .i64 (x : Int), .int .i64 5, .int .u64 (v : Int), .string ⟨#[]⟩, .string (bin R)] 30)).alloc (.cells #[.int .i64 (x : Int), .int .i64 5, .int .u64 (v : Int), .string ⟨#[]⟩, .string (bin R)] o)).cell? ((⟨wr.heap.size + 1, 0, none⟩ : Addr).add j) = some u) := fun o => by rw [hr]; exact rc_src2 wr _ ⟨x, 5, v, [], R⟩ o
              rw [hrl] at hg
              have hd : ¬ (t.size : Int) - (n : Int) < 4 := by omega
              have g5 : (n : Int) + 4 ≤ (t.size : Int) := by omega
              have g6 : (v : Int) ≤ 18446744073709551615 := by omega
              clear hv hl hrl hn hw hR hx hf hRR hr hY hYl hvv hg
              go_wp2_with (first | (at_builtin; refine wpList_append_own _ rfl _ _ 31 rfl w.heap.size 30 i0 _ 5 56 Try.underlying31 hi hz0 hz1 hz2 rfl (by decide) _ p.length (rvals p) rfl ((HR.out.alloc _).alloc _) ⟨wr.heap.size + 1, 0, none⟩ 1 1 (rcells r) rfl rfl (HC.out _) (rcells_one r) (by unfold maxLen; omega) (by omega) (by have h1 := HW.out; simp; omega) ?_) | (go_at_call 17; ((with_reducible refine (cV.out _).mono ?_); rintro e w' ⟨rfl, rfl⟩)) | (go_at_call 37; ((with_reducible refine (cB.out _).mono ?_); rintro e w' ⟨rfl, rfl⟩)))
              intro v' w3 hown hgr _
              have HR2 := Lib.hid (RRow.snoc hown)
              have HB2 := Lib.hid (((HB.out.alloc HW.out _).alloc (by have := HW.out; simp; omega) _).grown hgr (by have := HW.out; simp; omega) (fun k hk => (World.ownsRow.lt HR.out k hk).1))
              clear hown hgr
              go_wp2_with fail
              go_roundw
              case rel => exact ⟨t.extract (n + 4) t.size, p ++ [r], rfl, HN.out, HR2.out, HB2.out⟩
              case measure => simp only [ByteArray.size_extract]; omega
          · have HN := Lib.hid (HL.out.none h0 (rf_none hv (rbo z0 z1 z5 z2 _)))
            obtain ⟨z, hz⟩ : ∃ z, z = tv % 8 := ⟨_, rfl⟩
            have hm : (tv : Int) % 8 = (z : Int) := by omega
            have z8 : z < 8 := by omega
            have e0 : ((z : Int) == 0) = false := by rw [beq_eq_false_iff_ne]; omega
            have e1 : ((z : Int) == 1) = false := by rw [beq_eq_false_iff_ne]; omega
            have e2 : ((z : Int) == 2) = false := by rw [beq_eq_false_iff_ne]; omega
            have e5 : ((z : Int) == 5) = false := by rw [beq_eq_false_iff_ne]; omega
            clear hv hl hrl hn hR hx z0 z1 z2 z5 hz
            go_wp2_with (go_at_call 17; ((with_reducible refine (cV.out _).mono ?_); rintro e w' ⟨rfl, rfl⟩))
            first
              | exact QN.out HN.out _ HB.out
              | exact QN.out HN.out _ (HB.out.alloc HW.out _)
    · have h0' : t.size = 0 := by omega
      have HD := Lib.hid (HL.out.done h0')
      clear h0
      go_wp2_with fail
      exact QS.out p _ _ HD.out HR.out HB.out
end Rv
end Go.Proofs.Ytfcpicejifolmaa
