/-
  The document's escape: its contract. No condition but that a text is short.
-/
import Derived.Test.YtfcpicejifolmaaGd
import Derived.Test.YtfcpicejifolmaaGe
import Derived.Test.YtfcpicejifolmaaGq
namespace Go.Proofs.Ytfcpicejifolmaa
open Go.ChangeShapes Go.WideShapes Go.ChangeAt Go.RowKit
namespace Gl
open Mem
set_option linter.unusedVariables false
set_option linter.unusedSimpArgs false
theorem go_drewN {B : Nat} {w W : World} (h : Below B w W) (m : Nat) : Below B w (W.drewN m) := ⟨h.1, h.2, h.3, h.4, h.5⟩
theorem from_found (k : Nat) (h : k < (ByteArray.mk #[34, 92, 47, 98, 102, 110, 114, 116]).size) : ∃ c, byteOf ((ByteArray.mk #[34, 92, 47, 98, 102, 110, 114, 116])[k]'h).toNat = some c ∧ (ByteArray.mk #[34, 92, 47, 8, 12, 10, 13, 9]).extract k (k + 1) = bin [UInt8.ofNat c] := by
  have : ∀ k : Fin 8, ∃ c, byteOf ((ByteArray.mk #[34, 92, 47, 98, 102, 110, 114, 116])[k.1]'(k.2)).toNat = some c ∧ (ByteArray.mk #[34, 92, 47, 8, 12, 10, 13, 9]).extract k.1 (k.1 + 1) = bin [UInt8.ofNat c] := by
    have : ∀ k : Fin 8, byteOf ((ByteArray.mk #[34, 92, 47, 98, 102, 110, 114, 116])[k.1]'(k.2)).toNat = some (((ByteArray.mk #[34, 92, 47, 8, 12, 10, 13, 9])[k.1]'(k.2)).toNat) ∧ (ByteArray.mk #[34, 92, 47, 8, 12, 10, 13, 9]).extract k.1 (k.1 + 1) = bin [UInt8.ofNat ((ByteArray.mk #[34, 92, 47, 8, 12, 10, 13, 9])[k.1]'(k.2)).toNat] := by decide +kernel
    exact fun k => ⟨_, this k⟩
  exact this ⟨k, h⟩
/-- None of the first k letters is a. -/
def NoL (a k : Nat) : Prop := ∀ j, j < k → ([34, 92, 47, 98, 102, 110, 114, 116] : List Nat).getD j 0 ≠ a
theorem NoL.nil (a : Nat) : NoL a 0 := fun j h => absurd h (by omega)
theorem NoL.next {a k : Nat} (h : NoL a k) (hk : k < (ByteArray.mk #[34, 92, 47, 98, 102, 110, 114, 116]).size) (hn : ((ByteArray.mk #[34, 92, 47, 98, 102, 110, 114, 116])[k]'hk).toNat ≠ a) : NoL a (k + 1) := by
  have hg : ∀ k : Fin 8, ([34, 92, 47, 98, 102, 110, 114, 116] : List Nat).getD k.1 0 = ((ByteArray.mk #[34, 92, 47, 98, 102, 110, 114, 116])[k.1]'(k.2)).toNat := by decide +kernel
  intro j hj
  by_cases e : j = k
  · subst e
    rw [hg ⟨j, hk⟩]; exact hn
  · exact h j (by omega)
theorem NoL.none {a : Nat} (h : NoL a 8) : byteOf a = none := by
  have h0 := h 0 (by decide); have h1 := h 1 (by decide); have h2 := h 2 (by decide); have h3 := h 3 (by decide)
  have h4 := h 4 (by decide); have h5 := h 5 (by decide); have h6 := h 6 (by decide); have h7 := h 7 (by decide)
  simp only [List.getD_cons_zero, List.getD_cons_succ] at h0 h1 h2 h3 h4 h5 h6 h7
  unfold byteOf
  rw [if_neg (by omega), if_neg (by omega), if_neg (by omega), if_neg (by omega), if_neg (by omega), if_neg (by omega)]
theorem gunit_not (s : ByteArray) (h : 1 < s.size) (hn : (s[1]'h).toNat ≠ 117) : gunit s.data.toList = none := by
  by_cases h6 : s.size < 6
  · exact gunit_short s h6
  · rw [gunit_long s (by omega), if_neg (by rintro ⟨_, e⟩; exact hn e)]
/-- What is told behind the letters. -/
def eunit (s : ByteArray) : Option (List UInt8 × Nat) := match gunit s.data.toList with
  | none => none
  | some hi => if isPt hi then some (gput hi, 6) else match gunit (s.data.toList.drop 6) with
    | none => none
    | some lo => if hi / 1024 = 54 ∧ lo / 1024 = 55 then some (gput (65536 + hi % 1024 * 1024 + lo % 1024), 12) else none
theorem esc_two (s : ByteArray) (h : 1 < s.size) : esc s.data.toList = if (byteOf (s[1]'h).toNat).isSome then (byteOf (s[1]'h).toNat).map (fun c => ([UInt8.ofNat c], 2)) else eunit s := by
  rw [esc_long s (by omega)]
  by_cases hn : (s[1]'h).toNat = 117
  · rw [if_neg (by omega), hn]; exact rfl
  · rw [if_pos hn]
    cases hb : byteOf (s[1]'h).toNat with
    | some c => exact rfl
    | none =>
      unfold eunit
      rw [gunit_not s h hn]; exact rfl
/-- What escape answers, told by its cases. -/
inductive EU (s : ByteArray) : Prop
  | no (hg : gunit s.data.toList = none) (h : eunit s = none)
  | pt (hi : Nat) (hg : gunit s.data.toList = some hi) (hl : 6 ≤ s.size) (hb : hi < 65536) (hp : hi < 55296 ∨ 57343 < hi) (h : eunit s = some (gput hi, 6))
  | low (hi : Nat) (hg : gunit s.data.toList = some hi) (hb : 56320 ≤ hi) (hb2 : hi ≤ 57343) (h : eunit s = none)
  | alone (x : Nat) (hg : gunit s.data.toList = some (55296 + x)) (hl : 6 ≤ s.size) (hb : x < 1024) (hg2 : gunit (s.data.toList.drop 6) = none) (h : eunit s = none)
  | bad (x lo : Nat) (hg : gunit s.data.toList = some (55296 + x)) (hl : 6 ≤ s.size) (hb : x < 1024) (hg2 : gunit (s.data.toList.drop 6) = some lo) (hlo : lo < 56320 ∨ 57343 < lo) (hlb : lo < 65536) (h : eunit s = none)
  | two (x y : Nat) (hg : gunit s.data.toList = some (55296 + x)) (hl : 6 ≤ s.size) (hb : x < 1024) (hg2 : gunit (s.data.toList.drop 6) = some (56320 + y)) (hy : y < 1024) (h : eunit s = some (gput (65536 + x * 1024 + y), 12))
theorem eu (s : ByteArray) : EU s := by
  have hsl : s.data.toList.length = s.size := by simp
  cases hg : gunit s.data.toList with
  | none => exact .no hg (by unfold eunit; rw [hg])
  | some hi =>
    obtain ⟨hl6, hi6⟩ := gunit_bd hg
    rw [hsl] at hl6
    cases hp : isPt hi with
    | true =>
      refine .pt hi hg hl6 hi6 ?_ (by unfold eunit; rw [hg]; simp only [hp]; rfl)
      unfold isPt at hp; simp at hp; omega
    | false =>
      have hr : 55296 ≤ hi ∧ hi ≤ 57343 := by unfold isPt at hp; simp at hp; omega
      by_cases hlo : 56320 ≤ hi
      · refine .low hi hg hlo hr.2 ?_
        unfold eunit; rw [hg]; simp only [hp]
        cases hg2 : gunit (s.data.toList.drop 6) with
        | none => simp
        | some lo => simp; omega
      · obtain ⟨x, rfl⟩ : ∃ x, hi = 55296 + x := ⟨hi - 55296, by omega⟩
        have hx : x < 1024 := by omega
        cases hg2 : gunit (s.data.toList.drop 6) with
        | none => exact .alone x hg hl6 hx hg2 (by unfold eunit; rw [hg]; simp only [hp, hg2]; simp)
        | some lo =>
          obtain ⟨_, lo6⟩ := gunit_bd hg2
          by_cases hk : lo < 56320 ∨ 57343 < lo
          · refine .bad x lo hg hl6 hx hg2 hk lo6 ?_
            unfold eunit; rw [hg]; simp only [hp, hg2]; simp; omega
          · obtain ⟨y, rfl⟩ : ∃ y, lo = 56320 + y := ⟨lo - 56320, by omega⟩
            have hy : y < 1024 := by omega
            refine .two x y hg hl6 hx hg2 hy ?_
            unfold eunit; rw [hg]; simp only [hp, hg2]
            rw [if_neg (by decide), if_pos ⟨by omega, by omega⟩, show (55296 + x) % 1024 = x by omega, show (56320 + y) % 1024 = y by omega]
set_option maxHeartbeats 2000000 in
set_option maxRecDepth 1000000 in
theorem escape_short (s : ByteArray) (w : World) (h2 : s.size < 2) :
    Calls Try.prog 44 #[.string s] w fun e w' => e = eend s.data.toList ∧ Below w.heap.size w w' := by
  have BR : Hid (Below w.heap.size w w) := Below.refl _ _
  have HE := Lib.hid (eend_none (esc_short s h2))
  go_enter Try.func44, Try.ntmps44
  go_wp2
  go_returns
  exact ⟨HE.out.symm, BR.out⟩
set_option maxHeartbeats 4000000 in
set_option maxRecDepth 1000000 in
theorem escape_long (s : ByteArray) (w : World) (h2 : 2 ≤ s.size) (hs : s.size ≤ 1000) :
    Calls Try.prog 44 #[.string s] w fun e w' => e = eend s.data.toList ∧ Below w.heap.size w w' := by
  have hs1 : 1 < s.size := by omega
  have he := Lib.hid (esc_two s hs1)
  obtain ⟨a, ha⟩ : ∃ a, a = (s[1]'hs1).toNat := ⟨_, rfl⟩
  have ha8 : a < 256 := by rw [ha]; exact (s[1]'hs1).toNat_lt
  have ha' : (s[1]'hs1).toNat = a := ha.symm
  have HA := Lib.hid ha'
  clear ha
  go_enter Try.func44, Try.ntmps44
  go_wp2_with fail
  go_loopw [6] (fun i W => ∃ k : Nat, i = .int .i64 k ∧ k ≤ 8 ∧ NoL a k ∧ Below w.heap.size w W) (fun i _ => 8 - (intOf i).toNat)
  case atStart => exact ⟨0, rfl, Nat.zero_le _, NoL.nil a, Below.refl _ _⟩
  case round =>
    obtain ⟨k, rfl, hk, hno, hb⟩ := hrel
    have HB := Lib.hid hb
    have HW := Lib.hid hb.size
    have HO := Lib.hid hno
    clear hb hno
    by_cases hlt : k < 8
    · have hks : k < (ByteArray.mk #[34, 92, 47, 98, 102, 110, 114, 116]).size := hlt
      obtain ⟨b, hb⟩ : ∃ b, b = ((ByteArray.mk #[34, 92, 47, 98, 102, 110, 114, 116])[k]'hks).toNat := ⟨_, rfl⟩
      have hb' := hb.symm
      by_cases hab : b = a
      · subst hab
        obtain ⟨c, h1, h3⟩ := from_found k hks
        rw [hb'] at h1
        have HX := Lib.hid h3
        have HE : Hid (eend s.data.toList = .returned (.tuple #[.string (bin [UInt8.ofNat c]), .int .i64 2])) := by
          have h4 := he.out
          rw [HA.out, h1] at h4
          exact eend_some h4
        clear hb h1 h3
        go_wp2_with fail
        go_quiet (fail)
        go_wp2_with fail
        go_returns
        exact ⟨by rw [HE.out, HX.out]; exact rfl, go_drewN HB.out _⟩
      · have hN := Lib.hid (HO.out.next hks (by rw [hb']; exact hab))
        have bb : ((b : Int) == (a : Int)) = false := by rw [beq_eq_false_iff_ne]; omega
        clear hb hab
        go_wp2_with fail
        go_quiet (fail)
        go_wp2_with fail
        go_roundw
        case rel => exact ⟨k + 1, by go_num, hlt, hN.out, go_drewN HB.out _⟩
        case measure => simp [intOf]; omega
    · obtain rfl : k = 8 := by omega
      have hnb := HO.out.none
      have hes : Hid (esc s.data.toList = eunit s) := by
        have h4 := he.out
        rw [HA.out, hnb] at h4
        exact h4
      clear hnb hk hlt
      have cU := Lib.hid (fun W => dunit_any s W hs)
      obtain ⟨R, hR⟩ : ∃ R, R = s.extract 6 s.size := ⟨_, rfl⟩
      have hRl := rest_at s 6
      rw [← hR] at hRl
      have hRs : R.size ≤ 1000 := by rw [hR, ByteArray.size_extract]; omega
      have hR' : s.extract 6 s.size = R := hR.symm
      have cW := Lib.hid (fun W => dunit_any R W hRs)
      clear hR
      rcases eu s with ⟨hg, h⟩ | ⟨hi, hg, hl, hb, hp, h⟩ | ⟨hi, hg, hb, hb2, h⟩ | ⟨x, hg, hl, hb, hg2, h⟩ | ⟨x, lo, hg, hl, hb, hg2, hlo, hlb, h⟩ | ⟨x, y, hg, hl, hb, hg2, hy, h⟩
      · rw [uend_none hg] at cU
        have HE := Lib.hid (eend_none (hes.out.trans h))
        clear hg h hRl
        go_wp2_with (go_at_call 57; ((with_reducible refine (cU.out _).mono ?_); rintro e w' ⟨rfl, rfl⟩))
        go_returns
        exact ⟨HE.out.symm, HB.out⟩
      · rw [uend_some hg] at cU
        have HE := Lib.hid (eend_some (hes.out.trans h))
        have cP := Lib.hid (fun W => DGlyph_any hi W (by omega))
        clear hg h hRl
        rcases hp with hp | hp
        · go_wp2_with (first | (go_at_call 57; ((with_reducible refine (cU.out _).mono ?_); rintro e w' ⟨rfl, rfl⟩)) | (go_at_call 35; ((with_reducible refine (cP.out _).mono ?_); rintro e w2 ⟨rfl, hb2⟩)))
          go_returns
          exact ⟨HE.out.symm, HB.out.trans (hb2.mono HW.out)⟩
        · go_wp2_with (first | (go_at_call 57; ((with_reducible refine (cU.out _).mono ?_); rintro e w' ⟨rfl, rfl⟩)) | (go_at_call 35; ((with_reducible refine (cP.out _).mono ?_); rintro e w2 ⟨rfl, hb2⟩)))
          go_returns
          exact ⟨HE.out.symm, HB.out.trans (hb2.mono HW.out)⟩
      · rw [uend_some hg] at cU
        have HE := Lib.hid (eend_none (hes.out.trans h))
        clear hg h hRl
        go_wp2_with (go_at_call 57; ((with_reducible refine (cU.out _).mono ?_); rintro e w' ⟨rfl, rfl⟩))
        go_returns
        exact ⟨HE.out.symm, HB.out⟩
      · rw [uend_some hg, show ((55296 + x : Nat) : Int) = 55296 + (x : Int) by omega] at cU
        rw [uend_none (by rw [hRl]; exact hg2)] at cW
        have HE := Lib.hid (eend_none (hes.out.trans h))
        clear hg hg2 h hRl
        go_wp2_with (first | (go_at_call 57; ((with_reducible refine (cU.out _).mono ?_); rintro e w' ⟨rfl, rfl⟩)) | (go_at_call 57; ((with_reducible refine (cW.out _).mono ?_); rintro e w' ⟨rfl, rfl⟩)))
        go_returns
        exact ⟨HE.out.symm, HB.out⟩
      · rw [uend_some hg, show ((55296 + x : Nat) : Int) = 55296 + (x : Int) by omega] at cU
        rw [uend_some (by rw [hRl]; exact hg2)] at cW
        have HE := Lib.hid (eend_none (hes.out.trans h))
        clear hg hg2 h hRl
        rcases hlo with hlo | hlo
        · go_wp2_with (first | (go_at_call 57; ((with_reducible refine (cU.out _).mono ?_); rintro e w' ⟨rfl, rfl⟩)) | (go_at_call 57; ((with_reducible refine (cW.out _).mono ?_); rintro e w' ⟨rfl, rfl⟩)))
          go_returns
          exact ⟨HE.out.symm, HB.out⟩
        · go_wp2_with (first | (go_at_call 57; ((with_reducible refine (cU.out _).mono ?_); rintro e w' ⟨rfl, rfl⟩)) | (go_at_call 57; ((with_reducible refine (cW.out _).mono ?_); rintro e w' ⟨rfl, rfl⟩)))
          go_returns
          exact ⟨HE.out.symm, HB.out⟩
      · rw [uend_some hg, show ((55296 + x : Nat) : Int) = 55296 + (x : Int) by omega] at cU
        rw [uend_some (by rw [hRl]; exact hg2), show ((56320 + y : Nat) : Int) = 56320 + (y : Int) by omega] at cW
        have HE := Lib.hid (eend_some (hes.out.trans h))
        have cP : Hid (∀ (z : Int) (W : World), z = ((65536 + x * 1024 + y : Nat) : Int) → Calls Try.prog 35 #[.int .u32 z] W fun e w' => e = .returned (.string (bin (gput (65536 + x * 1024 + y)))) ∧ Below W.heap.size W w') := fun z W hz => by rw [hz]; exact DGlyph_any _ W (by omega)
        clear hg hg2 h hRl
        go_wp2_with (first | (go_at_call 57; ((with_reducible refine (cU.out _).mono ?_); rintro e w' ⟨rfl, rfl⟩)) | (go_at_call 57; ((with_reducible refine (cW.out _).mono ?_); rintro e w' ⟨rfl, rfl⟩)) | (go_at_call 35; ((with_reducible refine (cP.out _ _ (by omega)).mono ?_); rintro e w2 ⟨rfl, hb2⟩)))
        go_returns
        exact ⟨HE.out.symm, HB.out.trans (hb2.mono HW.out)⟩
theorem escape_any (s : ByteArray) (w : World) (hs : s.size ≤ 1000) :
    Calls Try.prog 44 #[.string s] w fun e w' => e = eend s.data.toList ∧ Below w.heap.size w w' := by
  by_cases h : s.size < 2
  · exact escape_short s w h
  · exact escape_long s w (by omega) hs
end Gl
end Go.Proofs.Ytfcpicejifolmaa
