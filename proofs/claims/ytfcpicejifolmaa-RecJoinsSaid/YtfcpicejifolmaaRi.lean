/-
  RecJoins, whole. No condition.
-/
import Derived.Test.YtfcpicejifolmaaRo
import Derived.Deep.QuietTactic
import Derived.BigQuiet
namespace Go.Proofs.Ytfcpicejifolmaa
open Go.ChangeShapes Go.WideShapes Go.ChangeAt Go.RowKit
namespace Rv
set_option linter.unusedVariables false
set_option linter.unusedSimpArgs false
theorem split_one (r : Rc) (w : World) (hs : r.raw.length ≤ 200) (h : rsplit r.raw = some [r]) :
    Calls Try.prog 20 #[.string (bin r.raw)] w fun e w' => ∃ g cap, e = .returned (.tuple #[.slice (some ⟨g, 0, none⟩) 1 cap, .int .i64 0]) ∧ Fat w' g 0 r ∧ g < w'.heap.size ∧ Below w.heap.size w w' := by
  refine (split_ok (bin r.raw) [r] w (by rw [bin_size]; omega) h).mono ?_
  rintro e w' ⟨pa, ca, rfl, hr, hf, hb⟩
  rcases hf with ⟨_, h0, _⟩ | ⟨g, rfl, h1, h2⟩
  · cases h0
  · exact ⟨g, ca, rfl, by simpa using hr.fat 0 rfl, h2, hb⟩
theorem fat_new (W : World) (r : Rc) (e : TypeId) : Fat (W.alloc (.cells #[.int .i64 (r.num : Int), .int .i64 (r.wire : Int), .int .u64 (r.n : Int), .string (bin r.s), .string (bin r.raw)] e)) W.heap.size 0 r := fun j u hj => by
  have h := rc_src W _ _ _ _ _ e j u hj
  rw [Addr.add_lit] at h
  exact h
set_option maxHeartbeats 4000000 in
set_option maxRecDepth 100000 in
theorem joins_yy (s t : ByteArray) (w : World) (p q : List Rc) (hs : s.size ≤ 100) (ht : t.size ≤ 100) (ep : rsplit s.data.toList = some p) (eq : rsplit t.data.toList = some q) :
    Calls Try.prog 5 #[.string s, .string t] w fun e w' => e = .returned (.bool true) ∧ Below w.heap.size w w' := by
  obtain ⟨p1, p2, p3, p4⟩ := rsplit_all _ _ p (Nat.le_refl _) ep
  obtain ⟨q1, q2, q3, q4⟩ := rsplit_all _ _ q (Nat.le_refl _) eq
  have hsl : s.data.toList.length = s.size := by simp
  have htl : t.data.toList.length = t.size := by simp
  have eu : rsplit (s ++ t).data.toList = some (p ++ q) := by
    have := p4 _ _ eq
    simpa using this
  have hsz : (s ++ t).size ≤ 200 := by rw [ByteArray.size_append]; omega
  obtain ⟨n, hn⟩ : ∃ n, n = (p ++ q).length := ⟨_, rfl⟩
  have hnl : n = p.length + q.length := by rw [hn, List.length_append]
  have cS := Lib.hid (fun W => split_ok s p W (by omega) ep)
  have cT := Lib.hid (fun W => split_ok t q W (by omega) eq)
  have cU := Lib.hid (fun W => split_ok (s ++ t) (p ++ q) W (by omega) eu)
  rw [← hn] at cU
  have cJ := Lib.hid (fun base pa ca W hr hf => join_any p base pa ca W hr hf (by omega) (by rw [p1]; omega))
  rw [p1, bin_id] at cJ
  have hone : ∀ r ∈ p ++ q, rsplit r.raw = some [r] := fun r hr => (List.mem_append.1 hr).elim (p2 r) (q2 r)
  have hraw : ∀ r ∈ p ++ q, r.raw.length ≤ 200 := fun r hr => by
    have := raw_le hr
    rw [cat_app, List.length_append, p1, q1] at this; omega
  have HO := Lib.hid hone
  have HW := Lib.hid hraw
  clear hone hraw p1 p2 p4 q1 q2 q4 eu ep eq
  go_enter Try.func5, Try.ntmps5
  go_wp2_with (first | (go_at_call 15; refine (Rf.begun1 _).mono ?_; rintro e w1 ⟨rfl, hb1⟩) | (go_at_call 20; (with_reducible refine (cS.out _).mono ?_); rintro e w2 ⟨pa, ca, rfl, hr2, hf2, hb2⟩) | (go_at_call 20; (with_reducible refine (cT.out _).mono ?_); rintro e w3 ⟨pb, cb, rfl, hr3, hf3, hb3⟩) | (go_at_call 20; (with_reducible refine (cU.out _).mono ?_); rintro e w4 ⟨pc, cc, rfl, hr4, hf4, hb4⟩) | (go_at_call 25; (refine (cJ.out _ _ _ _ ((hr2.old hb3 (Nat.le_refl _)).old hb4 (Nat.le_refl _)) (hf2.old (Nat.le_trans hb3.size hb4.size))).mono ?_); rintro e w5 ⟨rfl, hb5⟩))
  have e1 := hb1.size
  have e2 := hb2.size
  have e3 := hb3.size
  have e4 := hb4.size
  have e5 := hb5.size
  have ra := ((hr2.old hb3 (Nat.le_refl _)).old hb4 (Nat.le_refl _)).old hb5 (Nat.le_refl _)
  have rb := (hr3.old hb4 (Nat.le_refl _)).old hb5 (Nat.le_refl _)
  have rc := hr4.old hb5 (Nat.le_refl _)
  have sa := hf2.old (w' := w5) (by omega)
  have sb := hf3.old (w' := w5) (by omega)
  have sc := hf4.old (w' := w5) (by omega)
  have B5 := Lib.hid ((((hb1.trans (hb2.mono e1)).trans (hb3.mono (by omega))).trans (hb4.mono (by omega))).trans (hb5.mono (by omega)))
  have RA := Lib.hid ra
  have RB := Lib.hid rb
  have RC := Lib.hid rc
  have SA := Lib.hid sa
  have SB := Lib.hid sb
  have SC := Lib.hid sc
  have E5 := Lib.hid (show w.heap.size ≤ w5.heap.size by omega)
  clear hr2 hr3 hr4 hf2 hf3 hf4 hb1 hb2 hb3 hb4 hb5 e1 e2 e3 e4 e5 ra rb rc sa sb sc
  go_loopw [11] (fun x W => ∃ k : Nat, x = .int .i64 k ∧ k ≤ p.length + q.length ∧ Below w5.heap.size w5 W) (fun x _ => p.length + q.length - (intOf x).toNat)
  case atStart => exact ⟨0, rfl, Nat.zero_le _, Below.refl _ _⟩
  case round =>
    obtain ⟨k, rfl, hk, hb⟩ := hrel
    have HB := Lib.hid hb
    have HS := Lib.hid hb.size
    clear hb
    by_cases hlt : k < p.length
    · obtain ⟨r, hrk⟩ : ∃ r, p[k]? = some r := ⟨_, List.getElem?_eq_getElem hlt⟩
      have hck : (p ++ q)[k]? = some r := by rw [List.getElem?_append_left hlt]; exact hrk
      obtain ⟨_, h0, _⟩ | ⟨ga, rfl, _, ha⟩ := SA.out
      · omega
      obtain ⟨_, h0, _⟩ | ⟨gc, rfl, _, hc⟩ := SC.out
      · omega
      have hmem : r ∈ p ++ q := List.mem_of_getElem? hck
      have cO := Lib.hid (fun W => split_one r W (HW.out r hmem) (HO.out r hmem))
      have hb0 := HB.out.alloc HS.out (.cells #[.int .i64 0, .int .i64 0, .int .u64 0, .string ⟨#[]⟩, .string ⟨#[]⟩] 30)
      obtain ⟨a0, a1, a2, a3, a4⟩ := ((RA.out.fat k hrk).old hb0 ha).five
      have hbn := HB.out.alloc HS.out (.cells #[.int .i64 (r.num : Int), .int .i64 (r.wire : Int), .int .u64 (r.n : Int), .string (bin r.s), .string (bin r.raw)] 30)
      have FC := Lib.hid ((RC.out.fat k hck).old hbn hc)
      have FT := Lib.hid (fat_new wr r 30)
      have BN := Lib.hid hbn
      obtain ⟨c0, c1, c2, c3, c4⟩ := FC.out.five
      clear hrk hck hmem hb0 hbn
      go_wp2_with (go_at_call 20; (with_reducible refine (cO.out _).mono ?_); rintro e w6 ⟨g, cap, rfl, hf6, hg6, hb6⟩)
      obtain ⟨d0, d1, d2, d3, d4⟩ := hf6.five
      obtain ⟨x0, x1, x2, x3, x4⟩ := (FC.out.old hb6 (by have := HS.out; simp; omega)).five
      obtain ⟨y0, y1, y2, y3, y4⟩ := (FT.out.old hb6 (by simp)).five
      have BE := Lib.hid (BN.out.trans (hb6.mono (by have := HS.out; simp; omega)))
      clear a0 a1 a2 a3 a4 c0 c1 c2 c3 c4 hb6 hf6 FC FT BN
      go_quiet (fail)
      go_wp2
      go_roundw
      case rel => exact ⟨k + 1, by go_num, by omega, below_drewN BE.out _⟩
      case measure => simp [intOf]; omega
    · by_cases hlt2 : k < p.length + q.length
      · obtain ⟨j, hkj⟩ : ∃ j, k = p.length + j := ⟨k - p.length, by omega⟩
        obtain ⟨r, hrk⟩ : ∃ r, q[j]? = some r := ⟨_, List.getElem?_eq_getElem (by omega)⟩
        have hck : (p ++ q)[k]? = some r := by rw [hkj, List.getElem?_append_right (by omega), Nat.add_sub_cancel_left]; exact hrk
        obtain ⟨_, h0, _⟩ | ⟨gb, rfl, _, hb⟩ := SB.out
        · omega
        obtain ⟨_, h0, _⟩ | ⟨gc, rfl, _, hc⟩ := SC.out
        · omega
        have HI : (k : Int) - (p.length : Int) = (j : Int) := by omega
        have hjq : j < q.length := by omega
        clear hkj
        have hmem : r ∈ p ++ q := List.mem_of_getElem? hck
        have cO := Lib.hid (fun W => split_one r W (HW.out r hmem) (HO.out r hmem))
        have hb0 := HB.out.alloc HS.out (.cells #[.int .i64 0, .int .i64 0, .int .u64 0, .string ⟨#[]⟩, .string ⟨#[]⟩] 30)
        obtain ⟨a0, a1, a2, a3, a4⟩ := ((RB.out.fat j hrk).old hb0 hb).five
        have hbn := HB.out.alloc HS.out (.cells #[.int .i64 (r.num : Int), .int .i64 (r.wire : Int), .int .u64 (r.n : Int), .string (bin r.s), .string (bin r.raw)] 30)
        have FC := Lib.hid ((RC.out.fat k hck).old hbn hc)
        have FT := Lib.hid (fat_new wr r 30)
        have BN := Lib.hid hbn
        obtain ⟨c0, c1, c2, c3, c4⟩ := FC.out.five
        clear hrk hck hmem hb0 hbn
        go_wp2_with (go_at_call 20; (with_reducible refine (cO.out _).mono ?_); rintro e w6 ⟨g, cap, rfl, hf6, hg6, hb6⟩)
        obtain ⟨d0, d1, d2, d3, d4⟩ := hf6.five
        obtain ⟨x0, x1, x2, x3, x4⟩ := (FC.out.old hb6 (by have := HS.out; simp; omega)).five
        obtain ⟨y0, y1, y2, y3, y4⟩ := (FT.out.old hb6 (by simp)).five
        have BE := Lib.hid (BN.out.trans (hb6.mono (by have := HS.out; simp; omega)))
        clear a0 a1 a2 a3 a4 c0 c1 c2 c3 c4 hb6 hf6 FC FT BN
        go_quiet (fail)
        go_wp2
        go_roundw
        case rel => exact ⟨k + 1, by go_num, by omega, below_drewN BE.out _⟩
        case measure => simp [intOf]; omega
      · obtain rfl : k = p.length + q.length := by omega
        go_wp2
        go_ret
        exact ⟨rfl, B5.out.trans (HB.out.mono E5.out)⟩
theorem joins_law_wf (s t : ByteArray) (w : World) (hs : s.size ≤ maxLen) (ht : t.size ≤ maxLen) :
    Calls Try.prog 5 #[.string s, .string t] w fun e w' => e = .returned (.bool true) ∧ Below w.heap.size w w' := by
  unfold maxLen at hs ht
  by_cases hl : 100 < s.size ∨ 100 < t.size
  · exact joins_long s t w (by omega) (by omega) hl
  · cases ep : rsplit s.data.toList with
    | none =>
      cases eq : rsplit t.data.toList with
      | none => exact joins_nn s t w (by omega) (by omega) ep eq
      | some q => exact joins_ny s t w q (by omega) (by omega) ep eq
    | some p =>
      cases eq : rsplit t.data.toList with
      | none => exact joins_yn s t w p (by omega) (by omega) ep eq
      | some q => exact joins_yy s t w p q (by omega) (by omega) ep eq
end Rv
end Go.Proofs.Ytfcpicejifolmaa
