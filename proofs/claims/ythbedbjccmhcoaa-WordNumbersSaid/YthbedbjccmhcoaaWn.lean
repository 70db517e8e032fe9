/-
  The law of numbers in words, called: it returns true, what lay there stands. No condition.
-/
import Derived.Test.YthbedbjccmhcoaaWm
import Derived.OpenShut
namespace Go.Proofs.Ythbedbjccmhcoaa
open Go.ChangeShapes Go.WideShapes Go.ChangeAt Go.RowKit
namespace Wb
open Eng
set_option maxRecDepth 1000000
set_option maxHeartbeats 0
theorem idx_fact : ExtFact Try.prog 51 Extern.BytealgIndexByte.indexByte :=
  ⟨_, Try.func51, by kernel_rfl, by kernel_rfl, by kernel_rfl, by kernel_rfl⟩
noncomputable def exts2 : ExtF := extT [(51, .idx)]
theorem exts2_ok : ExtOK Try.prog exts2 := extT_ok fun f k h => by
  simp only [List.mem_cons, List.not_mem_nil, or_false, Prod.mk.injEq] at h
  obtain ⟨rfl, rfl⟩ := h
  exact idx_fact
noncomputable def run2 : CallF := callH Try.prog exts2 .e idw 60
theorem run2_ok : CallOK .e Try.prog run2 := callH_ok mixed exts2_ok (noNum_ok nums) idw (fun _ h => h) 60
theorem beg_run : isB true (run2 9 [] .e 1) = true := by decide +kernel
theorem begun_any (w : World) : Calls Try.prog 9 #[] w fun e w' => e = .returned (.bool true) ∧ Below w.heap.size w w' := by
  obtain ⟨h, nx, e⟩ := isB_ok beg_run
  exact closed_plain run2_ok (by kernel_rfl) e w .nil (fun I z hz => by cases hz; rfl)
end Wb
namespace Jn
set_option linter.unusedVariables false
set_option linter.unusedSimpArgs false
structure Two (W : World) (g : Nat) : Prop where
  a0 : W.cell? ⟨g, 0, none⟩ = some (.int .u64 10)
  a1 : W.cell? ⟨g, 1, none⟩ = some (.int .u64 16)
  a2 : W.cell? ⟨g, 2, none⟩ = some (.int .u64 8)
  b0 : W.cell? ⟨g + 1, 0, none⟩ = some (.string ⟨#[]⟩)
  b1 : W.cell? ⟨g + 1, 1, none⟩ = some (.string ⟨#[48, 120]⟩)
  b2 : W.cell? ⟨g + 1, 2, none⟩ = some (.string ⟨#[48]⟩)
  hl : g + 1 < W.heap.size
theorem Two.old {W W' : World} {g : Nat} (h : Two W g) (hb : Below W.heap.size W W') : Two W' g := by
  have e : ∀ o, W'.cell? ⟨g, o, none⟩ = W.cell? ⟨g, o, none⟩ := fun o => hb.cell (p := ⟨g, o, none⟩) (by have := h.hl; show g < W.heap.size; omega)
  have f : ∀ o, W'.cell? ⟨g + 1, o, none⟩ = W.cell? ⟨g + 1, o, none⟩ := fun o => hb.cell (p := ⟨g + 1, o, none⟩) h.hl
  exact ⟨(e 0).trans h.a0, (e 1).trans h.a1, (e 2).trans h.a2, (f 0).trans h.b0, (f 1).trans h.b1, (f 2).trans h.b2, Nat.lt_of_lt_of_le h.hl hb.size⟩
theorem Two.new (w : World) (e f : TypeId) : Two ((w.alloc (.cells #[.int .u64 10, .int .u64 16, .int .u64 8] e)).alloc (.cells #[.string ⟨#[]⟩, .string ⟨#[48, 120]⟩, .string ⟨#[48]⟩] f)) w.heap.size := by
  have hp : ((w.alloc (.cells #[.int .u64 10, .int .u64 16, .int .u64 8] e)).alloc (.cells #[.string ⟨#[]⟩, .string ⟨#[48, 120]⟩, .string ⟨#[48]⟩] f)).heap[w.heap.size]? = some (.cells #[.int .u64 10, .int .u64 16, .int .u64 8] e (0, 0)) := by
    show ((w.heap.push _).push _)[w.heap.size]? = _
    rw [Array.getElem?_push, if_neg (by simp), Array.getElem?_push, if_pos rfl]
  have hq : ((w.alloc (.cells #[.int .u64 10, .int .u64 16, .int .u64 8] e)).alloc (.cells #[.string ⟨#[]⟩, .string ⟨#[48, 120]⟩, .string ⟨#[48]⟩] f)).heap[w.heap.size + 1]? = some (.cells #[.string ⟨#[]⟩, .string ⟨#[48, 120]⟩, .string ⟨#[48]⟩] f (0, 0)) := by
    show ((w.heap.push _).push _)[w.heap.size + 1]? = _
    rw [Array.getElem?_push, if_pos (by simp)]
  constructor <;> first | (simp only [World.cell?, hp]; rfl) | (simp only [World.cell?, hq]; rfl) | (simp)
theorem bin_app (a c : List UInt8) : bin a ++ bin c = bin (a ++ c) := by
  apply ByteArray.ext; simp [bin]
theorem hex_cut : ∀ d : Nat, d < 16 → (ByteArray.mk #[48, 49, 50, 51, 52, 53, 54, 55, 56, 57, 97, 98, 99, 100, 101, 102]).extract d (d + 1) = bin [ch d] := by
  intro d hd
  have : d = 0 ∨ d = 1 ∨ d = 2 ∨ d = 3 ∨ d = 4 ∨ d = 5 ∨ d = 6 ∨ d = 7 ∨ d = 8 ∨ d = 9 ∨ d = 10 ∨ d = 11 ∨ d = 12 ∨ d = 13 ∨ d = 14 ∨ d = 15 := by omega
  rcases this with rfl | rfl | rfl | rfl | rfl | rfl | rfl | rfl | rfl | rfl | rfl | rfl | rfl | rfl | rfl | rfl <;> rfl
theorem TRow.three {W : World} {base e : Nat} {v : Value} {a b c : Tk} (h : TRow W base e v [a, b, c]) : ∃ g cap, v = .slice (some ⟨g, 0, none⟩) 3 cap ∧ W.cell? ⟨g, 0, none⟩ = some (.int .i64 (a.k : Int)) ∧ W.cell? ⟨g, 1, none⟩ = some (.string (bin a.t)) ∧ W.cell? ⟨g, 2, none⟩ = some (.int .u64 (a.n : Int)) := by
  rcases h.2 with ⟨h1, h2⟩ | ⟨g, cap, cur, h1, h2, h3, _⟩
  · cases h2
  · refine ⟨g, cap, h1, ?_, ?_, ?_⟩
    · have := World.ownsRow.cells h (g := g) (by rw [h1]; rfl) 0 _ rfl
      rw [Addr.add_lit, Nat.zero_add] at this; exact this
    · have := World.ownsRow.cells h (g := g) (by rw [h1]; rfl) 1 _ rfl
      rw [Addr.add_lit, Nat.zero_add] at this; exact this
    · have := World.ownsRow.cells h (g := g) (by rw [h1]; rfl) 2 _ rfl
      rw [Addr.add_lit, Nat.zero_add] at this; exact this
set_option maxHeartbeats 8000000 in
set_option maxRecDepth 100000 in
theorem numbers_law (v : Nat) (hv : v < 18446744073709551616) (w : World) :
    Calls Try.prog 6 #[.int .u64 (v : Int)] w fun e w' => e = .returned (.bool true) ∧ Below w.heap.size w w' := by
  have cB := Lib.hid (Wb.begun_any w)
  have cX := Lib.hid (fun W => lex10 v hv W)
  have cY := Lib.hid (fun W => lex16 v hv W)
  have cZ := Lib.hid (fun W => lex8 v hv W)
  unfold Lexes at cX cY cZ
  have HX := Lib.hid hv
  go_enter Try.func6, Try.ntmps6
  go_wp2_with (go_at_call 9; (with_reducible refine (cB.out).mono ?_); rintro e w2 ⟨rfl, hb2⟩)
  have T0 := Lib.hid (Two.new w2 35 9)
  have B0 := Lib.hid ((hb2.alloc hb2.size (.cells #[.int .u64 10, .int .u64 16, .int .u64 8] 35)).alloc (by have := hb2.size; simp; omega) (.cells #[.string ⟨#[]⟩, .string ⟨#[48, 120]⟩, .string ⟨#[48]⟩] 9))
  clear hb2
  go_loopw [5] (fun x wr => ∃ i : Int, (i = 3 ∨ i = 0 ∨ i = 1 ∨ i = 2) ∧ x = .int .i64 i ∧ Two wr w2.heap.size ∧ Below w.heap.size w wr) (fun x wr => 3 - (intOf x).toNat)
  case atStart => exact ⟨0, by omega, rfl, T0.out, B0.out⟩
  case round =>
    obtain ⟨i, hc, rfl, ht, hb⟩ := hrel
    have HT := Lib.hid ht
    have HB := Lib.hid hb
    obtain ⟨a0, a1, a2, b0, b1, b2, hl⟩ := ht
    clear hb hl hv
    rcases hc with rfl | rfl | rfl | rfl
    · go_wp2
      go_ret
      exact ⟨rfl, HB.out⟩
    · go_wp2_with fail
      go_loopw [6, 7] (fun t x W => ∃ (m : Nat) (l : List UInt8), t = .string (bin l) ∧ x = .int .u64 (m : Int) ∧ m < 18446744073709551616 ∧ dgs 10 v = dgs 10 m ++ l ∧ Two W w2.heap.size ∧ Below w.heap.size w W) (fun _ x _ => (intOf x).toNat)
      case atStart => exact ⟨v, [], rfl, rfl, HX.out, by simp, HT.out, HB.out⟩
      case round =>
        obtain ⟨m, l, rfl, rfl, hm, hd, ht2, hb2⟩ := hrel
        have HD := Lib.hid hd
        have HT2 := Lib.hid ht2
        have HB2 := Lib.hid hb2
        have hll : l.length ≤ 22 := by have := dgs_len64 (B := 10) (by decide) HX.out; rw [hd, List.length_append] at this; omega
        have hls : (bin l).size ≤ 22 := by rw [bin_size]; exact hll
        clear hd hb2 a0 a1 a2 b0 b1 b2
        obtain ⟨a0, a1, a2, b0, b1, b2, hl⟩ := ht2
        obtain ⟨d, hdd⟩ : ∃ d, d = m % 10 := ⟨_, rfl⟩
        have hmi : ((m : Int) % 10) = (d : Int) := by omega
        have hd16 : d < 16 := by omega
        have hdi : (d : Int) ≤ 15 := by omega
        have hdk : (d : Int) + 1 ≤ 16 := by omega
        have hcut := hex_cut d hd16
        have hc1 : (bin [ch d]).size = 1 := rfl
        have hsum : ((bin [ch d]).size : Int) + ((bin l).size : Int) ≤ 23 := by omega
        have hsz : ((bin [ch d] ++ bin l).size : Int) ≤ 23 := by rw [ByteArray.size_append]; omega
        clear hl
        by_cases h0 : m / 10 = 0
        · have hz : ((m : Int) / 10) = 0 := by omega
          have HE := Lib.hid (show dgs 10 v = ch d :: l by rw [HD.out, dgs_lt (by omega), hdd, Nat.mod_eq_of_lt (by omega)]; rfl)
          have cL := Lib.hid (show ∀ W, Calls Try.prog 10 #[.string (⟨#[]⟩ ++ (bin [ch d] ++ bin l) ++ ⟨#[32, 59]⟩)] W fun e w' => ∃ r q, e = .returned (.tuple #[r, .int .i64 0, .int .i64 0]) ∧ TRow w' (W.heap.size + 1) 37 r [tk3 v q 0, tk3 v q 1, tk3 v q 2] ∧ Below W.heap.size W w' from fun W => by
            have := cX.out W
            rw [HE.out] at this
            rw [show (ByteArray.mk #[] ++ (bin [ch d] ++ bin l) ++ ByteArray.mk #[32, 59]) = txt [] (ch d :: l) by
              show bin [] ++ (bin [ch d] ++ bin l) ++ bin [32, 59] = _
              rw [bin_app, bin_app, bin_app]; rfl]
            exact this.mono fun e w' ⟨r, h1, h2, h3⟩ => ⟨r, _, h1, h2, h3⟩)
          clear h0 hm hdd
          go_wp2_with (go_at_call 10; (with_reducible refine (cL.out _).mono ?_); rintro e w5 ⟨r, q, rfl, hrow, hb5⟩; obtain ⟨g, cap, rfl, k0, k1, k2⟩ := hrow.three; (have y0 : w5.cell? ⟨g, 0, none⟩ = some (.int .i64 2) := k0); (have y1 : w5.cell? ⟨g, 1, none⟩ = some (.string ⟨#[]⟩) := k1); (have y2 : w5.cell? ⟨g, 2, none⟩ = some (.int .u64 (v : Int)) := k2); clear k0 k1 k2 hrow)
          go_roundw
          case rel => exact ⟨1, by omega, rfl, HT2.out.old hb5, HB2.out.trans (hb5.mono HB2.out.size)⟩
          case measure => simp [intOf]
        · have hz : ¬ ((m : Int) / 10) = 0 := by omega
          have hz' : (((m : Int) / 10) == 0) = false := by rw [beq_eq_false_iff_ne]; omega
          have HE := Lib.hid (show dgs 10 v = dgs 10 (m / 10) ++ (ch d :: l) by rw [HD.out, dgs_ge (by decide) (by omega), hdd]; simp)
          have HU := Lib.hid (show bin [ch d] ++ bin l = bin (ch d :: l) by rw [bin_app]; rfl)
          have hq : m / 10 < 18446744073709551616 := by omega
          have hlt : m / 10 < m := Nat.div_lt_self (by omega) (by decide)
          clear h0 hm hdd
          go_wp2
          go_roundw
          case rel => exact ⟨m / 10, ch d :: l, by rw [HU.out], by go_num, hq, HE.out, HT2.out, HB2.out⟩
          case measure => simp [intOf]; omega
    · go_wp2_with fail
      go_loopw [6, 7] (fun t x W => ∃ (m : Nat) (l : List UInt8), t = .string (bin l) ∧ x = .int .u64 (m : Int) ∧ m < 18446744073709551616 ∧ dgs 16 v = dgs 16 m ++ l ∧ Two W w2.heap.size ∧ Below w.heap.size w W) (fun _ x _ => (intOf x).toNat)
      case atStart => exact ⟨v, [], rfl, rfl, HX.out, by simp, HT.out, HB.out⟩
      case round =>
        obtain ⟨m, l, rfl, rfl, hm, hd, ht2, hb2⟩ := hrel
        have HD := Lib.hid hd
        have HT2 := Lib.hid ht2
        have HB2 := Lib.hid hb2
        have hll : l.length ≤ 22 := by have := dgs_len64 (B := 16) (by decide) HX.out; rw [hd, List.length_append] at this; omega
        have hls : (bin l).size ≤ 22 := by rw [bin_size]; exact hll
        clear hd hb2 a0 a1 a2 b0 b1 b2
        obtain ⟨a0, a1, a2, b0, b1, b2, hl⟩ := ht2
        obtain ⟨d, hdd⟩ : ∃ d, d = m % 16 := ⟨_, rfl⟩
        have hmi : ((m : Int) % 16) = (d : Int) := by omega
        have hd16 : d < 16 := by omega
        have hdi : (d : Int) ≤ 15 := by omega
        have hdk : (d : Int) + 1 ≤ 16 := by omega
        have hcut := hex_cut d hd16
        have hc1 : (bin [ch d]).size = 1 := rfl
        have hsum : ((bin [ch d]).size : Int) + ((bin l).size : Int) ≤ 23 := by omega
        have hsz : ((bin [ch d] ++ bin l).size : Int) ≤ 23 := by rw [ByteArray.size_append]; omega
        clear hl
        by_cases h0 : m / 16 = 0
        · have hz : ((m : Int) / 16) = 0 := by omega
          have HE := Lib.hid (show dgs 16 v = ch d :: l by rw [HD.out, dgs_lt (by omega), hdd, Nat.mod_eq_of_lt (by omega)]; rfl)
          have cL := Lib.hid (show ∀ W, Calls Try.prog 10 #[.string (⟨#[48, 120]⟩ ++ (bin [ch d] ++ bin l) ++ ⟨#[32, 59]⟩)] W fun e w' => ∃ r q, e = .returned (.tuple #[r, .int .i64 0, .int .i64 0]) ∧ TRow w' (W.heap.size + 1) 37 r [tk3 v q 0, tk3 v q 1, tk3 v q 2] ∧ Below W.heap.size W w' from fun W => by
            have := cY.out W
            rw [HE.out] at this
            rw [show (ByteArray.mk #[48, 120] ++ (bin [ch d] ++ bin l) ++ ByteArray.mk #[32, 59]) = txt [48, 120] (ch d :: l) by
              show bin [48, 120] ++ (bin [ch d] ++ bin l) ++ bin [32, 59] = _
              rw [bin_app, bin_app, bin_app]; rfl]
            exact this.mono fun e w' ⟨r, h1, h2, h3⟩ => ⟨r, _, h1, h2, h3⟩)
          clear h0 hm hdd
          go_wp2_with (go_at_call 10; (with_reducible refine (cL.out _).mono ?_); rintro e w5 ⟨r, q, rfl, hrow, hb5⟩; obtain ⟨g, cap, rfl, k0, k1, k2⟩ := hrow.three; (have y0 : w5.cell? ⟨g, 0, none⟩ = some (.int .i64 2) := k0); (have y1 : w5.cell? ⟨g, 1, none⟩ = some (.string ⟨#[]⟩) := k1); (have y2 : w5.cell? ⟨g, 2, none⟩ = some (.int .u64 (v : Int)) := k2); clear k0 k1 k2 hrow)
          go_roundw
          case rel => exact ⟨2, by omega, rfl, HT2.out.old hb5, HB2.out.trans (hb5.mono HB2.out.size)⟩
          case measure => simp [intOf]
        · have hz : ¬ ((m : Int) / 16) = 0 := by omega
          have hz' : (((m : Int) / 16) == 0) = false := by rw [beq_eq_false_iff_ne]; omega
          have HE := Lib.hid (show dgs 16 v = dgs 16 (m / 16) ++ (ch d :: l) by rw [HD.out, dgs_ge (by decide) (by omega), hdd]; simp)
          have HU := Lib.hid (show bin [ch d] ++ bin l = bin (ch d :: l) by rw [bin_app]; rfl)
          have hq : m / 16 < 18446744073709551616 := by omega
          have hlt : m / 16 < m := Nat.div_lt_self (by omega) (by decide)
          clear h0 hm hdd
          go_wp2
          go_roundw
          case rel => exact ⟨m / 16, ch d :: l, by rw [HU.out], by go_num, hq, HE.out, HT2.out, HB2.out⟩
          case measure => simp [intOf]; omega
    · go_wp2_with fail
      go_loopw [6, 7] (fun t x W => ∃ (m : Nat) (l : List UInt8), t = .string (bin l) ∧ x = .int .u64 (m : Int) ∧ m < 18446744073709551616 ∧ dgs 8 v = dgs 8 m ++ l ∧ Two W w2.heap.size ∧ Below w.heap.size w W) (fun _ x _ => (intOf x).toNat)
      case atStart => exact ⟨v, [], rfl, rfl, HX.out, by simp, HT.out, HB.out⟩
      case round =>
        obtain ⟨m, l, rfl, rfl, hm, hd, ht2, hb2⟩ := hrel
        have HD := Lib.hid hd
        have HT2 := Lib.hid ht2
        have HB2 := Lib.hid hb2
        have hll : l.length ≤ 22 := by have := dgs_len64 (B := 8) (by decide) HX.out; rw [hd, List.length_append] at this; omega
        have hls : (bin l).size ≤ 22 := by rw [bin_size]; exact hll
        clear hd hb2 a0 a1 a2 b0 b1 b2
        obtain ⟨a0, a1, a2, b0, b1, b2, hl⟩ := ht2
        obtain ⟨d, hdd⟩ : ∃ d, d = m % 8 := ⟨_, rfl⟩
        have hmi : ((m : Int) % 8) = (d : Int) := by omega
        have hd16 : d < 16 := by omega
        have hdi : (d : Int) ≤ 15 := by omega
        have hdk : (d : Int) + 1 ≤ 16 := by omega
        have hcut := hex_cut d hd16
        have hc1 : (bin [ch d]).size = 1 := rfl
        have hsum : ((bin [ch d]).size : Int) + ((bin l).size : Int) ≤ 23 := by omega
        have hsz : ((bin [ch d] ++ bin l).size : Int) ≤ 23 := by rw [ByteArray.size_append]; omega
        clear hl
        by_cases h0 : m / 8 = 0
        · have hz : ((m : Int) / 8) = 0 := by omega
          have HE := Lib.hid (show dgs 8 v = ch d :: l by rw [HD.out, dgs_lt (by omega), hdd, Nat.mod_eq_of_lt (by omega)]; rfl)
          have cL := Lib.hid (show ∀ W, Calls Try.prog 10 #[.string (⟨#[48]⟩ ++ (bin [ch d] ++ bin l) ++ ⟨#[32, 59]⟩)] W fun e w' => ∃ r q, e = .returned (.tuple #[r, .int .i64 0, .int .i64 0]) ∧ TRow w' (W.heap.size + 1) 37 r [tk3 v q 0, tk3 v q 1, tk3 v q 2] ∧ Below W.heap.size W w' from fun W => by
            have := cZ.out W
            rw [HE.out] at this
            rw [show (ByteArray.mk #[48] ++ (bin [ch d] ++ bin l) ++ ByteArray.mk #[32, 59]) = txt [48] (ch d :: l) by
              show bin [48] ++ (bin [ch d] ++ bin l) ++ bin [32, 59] = _
              rw [bin_app, bin_app, bin_app]; rfl]
            exact this.mono fun e w' ⟨r, h1, h2, h3⟩ => ⟨r, _, h1, h2, h3⟩)
          clear h0 hm hdd
          go_wp2_with (go_at_call 10; (with_reducible refine (cL.out _).mono ?_); rintro e w5 ⟨r, q, rfl, hrow, hb5⟩; obtain ⟨g, cap, rfl, k0, k1, k2⟩ := hrow.three; (have y0 : w5.cell? ⟨g, 0, none⟩ = some (.int .i64 2) := k0); (have y1 : w5.cell? ⟨g, 1, none⟩ = some (.string ⟨#[]⟩) := k1); (have y2 : w5.cell? ⟨g, 2, none⟩ = some (.int .u64 (v : Int)) := k2); clear k0 k1 k2 hrow)
          go_roundw
          case rel => exact ⟨3, by omega, rfl, HT2.out.old hb5, HB2.out.trans (hb5.mono HB2.out.size)⟩
          case measure => simp [intOf]
        · have hz : ¬ ((m : Int) / 8) = 0 := by omega
          have hz' : (((m : Int) / 8) == 0) = false := by rw [beq_eq_false_iff_ne]; omega
          have HE := Lib.hid (show dgs 8 v = dgs 8 (m / 8) ++ (ch d :: l) by rw [HD.out, dgs_ge (by decide) (by omega), hdd]; simp)
          have HU := Lib.hid (show bin [ch d] ++ bin l = bin (ch d :: l) by rw [bin_app]; rfl)
          have hq : m / 8 < 18446744073709551616 := by omega
          have hlt : m / 8 < m := Nat.div_lt_self (by omega) (by decide)
          clear h0 hm hdd
          go_wp2
          go_roundw
          case rel => exact ⟨m / 8, ch d :: l, by rw [HU.out], by go_num, hq, HE.out, HT2.out, HB2.out⟩
          case measure => simp [intOf]; omega
theorem numbers_law_wf (a0 : Int) (w : World) (w0 : (Lit.int .u64 a0).wf = true) :
    Calls Try.prog 6 #[.int .u64 a0] w fun e w' => e = .returned (.bool true) ∧ Below w.heap.size w w' := by
  have hb := bounds_u64 w0
  obtain ⟨n, rfl⟩ : ∃ n : Nat, a0 = (n : Int) := ⟨a0.toNat, by omega⟩
  exact numbers_law n (by omega) w
end Jn
end Go.Proofs.Ythbedbjccmhcoaa
