/-
  The law FingerOne: a bit that is turned turns the fingerprint, and so does a byte that is changed.
-/
import Derived.Test.YthndacjncepbdaaFinR
import Derived.Lib.ConvBytes
import Derived.RegionTactic
import Derived.ChangeAlike
namespace Go.Proofs.Ythndacjncepbdaa
open Go.ChangeShapes Go.WideShapes Go.ChangeAt Go.RowKit
namespace Fin
set_option linter.unusedVariables false

/-- A row of bytes at the head of a block. -/
def Holds (W : World) (g : Nat) (l : List UInt8) : Prop :=
  (∀ j (h : j < l.length), W.cell? ⟨g, j, none⟩ = some (.int .u8 (l[j].toNat : Int))) ∧ (∀ j, j < l.length → W.frozen? ⟨g, j, none⟩ = false) ∧ g < W.heap.size
theorem holds_bytes (w : World) (e : TypeId) (s : ByteArray) : Holds (Lib.bytesWorld w e s) w.heap.size s.data.toList := by
  refine ⟨fun j h => ?_, fun j h => ?_, by rw [Lib.bytesWorld_size]; omega⟩
  · have hj : j < s.size := by simpa using h
    rw [Lib.bytesWorld_cell w e s j hj]
    have e1 : s.data.toList.getD j 0 = s.data.toList[j] := by rw [List.getD, List.getElem?_eq_getElem h]; rfl
    rw [e1]
  · have hj : j < s.size := by simpa using h
    have hs : s.size ≤ (Lib.bytesCells w e s).size := by
      show s.size ≤ ((s.data.map fun b : UInt8 => Value.int .u8 (b.toNat : Int)) ++ Array.replicate (grownCap w s.size 0 e - s.size) (Value.int .u8 0)).size
      rw [Array.size_append, Array.size_map]; exact Nat.le_add_right _ _
    simp only [World.frozen?, Lib.bytesWorld_at_new]
    simp
    omega
theorem below_bytes (w : World) (e : TypeId) (s : ByteArray) : Below w.heap.size w (Lib.bytesWorld w e s) :=
  ⟨rfl, rfl, rfl, by rw [Lib.bytesWorld_size]; omega, fun k hk => Lib.bytesWorld_at_old w e s k hk⟩
theorem Holds.old {W W' : World} {g : Nat} {l : List UInt8} (h : Holds W g l) {B : Nat} (hb : Below B W W') (hg : g < B) : Holds W' g l :=
  ⟨fun j hj => (hb.cell (p := ⟨g, j, none⟩) hg).trans (h.1 j hj), fun j hj => (hb.frozen (p := ⟨g, j, none⟩) hg).trans (h.2.1 j hj), Nat.lt_of_lt_of_le h.2.2 hb.size⟩
theorem Holds.set {W : World} {g : Nat} {l : List UInt8} (h : Holds W g l) (k : Nat) (c : UInt8) (hk : k < l.length) : Holds (W.setCell ⟨g, k, none⟩ (.int .u8 (c.toNat : Int))) g (l.set k c) := by
  refine ⟨fun j hj => ?_, fun j hj => ?_, by simpa using h.2.2⟩
  · have hj' : j < l.length := by simpa using hj
    by_cases e : k = j
    · subst e
      rw [World.cell?_setCell_same' _ _ _ (by rw [h.1 k hk]; rfl), List.getElem_set_self]
    · rw [World.cell?_setCell_other (w := W) (a := ⟨g, k, none⟩) (b := ⟨g, j, none⟩) _ (by intro x; exact e (by injection x)), h.1 j hj', List.getElem_set_ne e]
  · have hj' : j < l.length := by simpa using hj
    rw [World.frozen?_setCell]
    exact h.2.1 j hj'
theorem Holds.bytes {W : World} {g : Nat} {l : List UInt8} (h : Holds W g l) : Lib.Bytes W g 0 ⟨l.toArray⟩ := by
  intro i hi
  have hi' : i < l.length := by simpa [ByteArray.size] using hi
  rw [Nat.zero_add, h.1 i hi']
  rfl

theorem xor_r (a b c : Nat) (h : a ^^^ c = b ^^^ c) : a = b := by
  have h' := congrArg (fun x => x ^^^ c) h
  simp only [Nat.xor_assoc, Nat.xor_self, Nat.xor_zero] at h'
  exact h'
theorem xor_l (a b c : Nat) (h : c ^^^ a = c ^^^ b) : a = b := xor_r a b c (by rw [Nat.xor_comm a, Nat.xor_comm b]; exact h)
theorem ret_bool {a b : Bool} (h : a = b) : Ending.returned (.bool a) = .returned (.bool b) := by rw [h]
theorem half_bit (v : Nat) (h : v < 18446744073709551616) : (v / 2).testBit 63 = false := Nat.testBit_lt_two_pow (by omega)
theorem E_bit : E.testBit 63 = true := by decide
theorem fstep_bit (v : Nat) (h : v < 18446744073709551616) : (fstep v).testBit 63 = decide (v % 2 = 1) := by
  unfold fstep
  by_cases ho : v % 2 = 1
  · rw [if_pos ho, Nat.testBit_xor, half_bit v h, E_bit]; simp [ho]
  · rw [if_neg ho, half_bit v h]; simp [ho]
theorem fstep_inj (v u : Nat) (h : v < 18446744073709551616) (g : u < 18446744073709551616) (e : fstep v = fstep u) : v = u := by
  have b := congrArg (fun x => Nat.testBit x 63) e
  simp only [fstep_bit v h, fstep_bit u g] at b
  have hp : (v % 2 = 1) ↔ (u % 2 = 1) := by
    constructor
    · intro x; rw [decide_eq_true x] at b; exact of_decide_eq_true b.symm
    · intro x; rw [decide_eq_true x] at b; exact of_decide_eq_true b
  unfold fstep at e
  by_cases ho : v % 2 = 1
  · rw [if_pos ho, if_pos (hp.1 ho)] at e
    have := xor_r _ _ _ e
    have := hp.1 ho
    omega
  · have ho2 : ¬ u % 2 = 1 := fun x => ho (hp.2 x)
    rw [if_neg ho, if_neg ho2] at e
    omega
theorem fiter_inj (n v u : Nat) (h : v < 18446744073709551616) (g : u < 18446744073709551616) (e : fiter n v = fiter n u) : v = u := by
  induction n with
  | zero => exact e
  | succ n ih => exact ih (fstep_inj _ _ (fiter_lt n v h) (fiter_lt n u g) e)
theorem xor_lt (v : Nat) (c : UInt8) (h : v < 18446744073709551616) : v ^^^ c.toNat < 18446744073709551616 :=
  Nat.xor_lt_two_pow (n := 64) h (by have := c.toNat_lt; omega)
theorem fold_inj (l : List UInt8) : ∀ v u : Nat, v < 18446744073709551616 → u < 18446744073709551616 → l.foldl fbyte v = l.foldl fbyte u → v = u := by
  induction l with
  | nil => intro v u _ _ e; exact e
  | cons c l ih =>
    intro v u h g e
    have := ih _ _ (fbyte_lt v c h) (fbyte_lt u c g) e
    exact xor_r _ _ _ (fiter_inj 8 _ _ (xor_lt v c h) (xor_lt u c g) this)
theorem finger_set (l : List UInt8) (q : Nat) (c : UInt8) (hq : q < l.length) (e : finger (l.set q c) = finger l) : c = l[q] := by
  have e1 : l.set q c = l.take q ++ c :: l.drop (q + 1) := by rw [List.set_eq_take_append_cons_drop, if_pos hq]
  have e2 : l = l.take q ++ l[q] :: l.drop (q + 1) := by rw [← List.drop_eq_getElem_cons hq, List.take_append_drop]
  have e3 : finger l = finger (l.take q ++ l[q] :: l.drop (q + 1)) := congrArg finger e2
  rw [e1, e3] at e
  unfold finger at e
  rw [List.foldl_append, List.foldl_append, List.foldl_cons, List.foldl_cons] at e
  have hS := foldl_lt (l.take q) E (by decide)
  have h1 := fold_inj (l.drop (q + 1)) _ _ (fbyte_lt _ c hS) (fbyte_lt _ l[q] hS) e
  have h2 := fiter_inj 8 _ _ (xor_lt _ c hS) (xor_lt _ l[q] hS) h1
  have h3 := xor_l _ _ _ h2
  exact UInt8.toNat_inj.1 h3
theorem flip_bit (x k : Nat) (hx : x < 256) : ∃ c : UInt8, bits .xor .u8 (x : Int) (2 ^ (k % 8) % 256) = (c.toNat : Int) ∧ c.toNat ≠ x := by
  have hp : (2 : Int) ^ (k % 8) % 256 = ((2 ^ (k % 8) : Nat) : Int) := by
    rcases (show k % 8 = 0 ∨ k % 8 = 1 ∨ k % 8 = 2 ∨ k % 8 = 3 ∨ k % 8 = 4 ∨ k % 8 = 5 ∨ k % 8 = 6 ∨ k % 8 = 7 by omega) with h | h | h | h | h | h | h | h <;> rw [h] <;> rfl
  have hl : 2 ^ (k % 8) < 256 := by
    have : 2 ^ (k % 8) ≤ 2 ^ 7 := Nat.pow_le_pow_right (by decide) (by omega)
    omega
  have hxl : x ^^^ 2 ^ (k % 8) < 256 := Nat.xor_lt_two_pow (n := 8) hx hl
  refine ⟨UInt8.ofNat (x ^^^ 2 ^ (k % 8)), ?_, ?_⟩
  · rw [hp, u8_xor_nat x _ hx hl, UInt8.toNat_ofNat', Nat.mod_eq_of_lt hxl]
  · rw [UInt8.toNat_ofNat', Nat.mod_eq_of_lt hxl]
    intro e
    have : 2 ^ (k % 8) = 0 := by
      have h := congrArg (fun y => x ^^^ y) e
      simp only [← Nat.xor_assoc, Nat.xor_self, Nat.zero_xor] at h
      exact h
    have := Nat.two_pow_pos (k % 8)
    omega

set_option maxHeartbeats 4000000 in
theorem one_law (s : ByteArray) (bit k n q at' : Nat) (to : UInt8) (w : World) (h1 : 1 ≤ s.size) (h100 : s.size ≤ 100) (hk : (bit : Int) % (8 * (s.size : Int)) = (k : Int)) (hq : k / 8 = q) (hkl : q < s.size) (hk800 : k ≤ 800) (hbit : bit ≤ 65535) (hn : (at' : Int) % (s.size : Int) = (n : Int)) (hnl : n < s.size) (hat : at' ≤ 255) :
    Calls Try.prog 7 #[.string s, .int .u16 (bit : Int), .int .u8 (at' : Int), .int .u8 (to.toNat : Int)] w fun e w' => e = .returned (.bool true) ∧ Below w.heap.size w w' := by
  have hz : ((s.size : Int) == 0) = false := by rw [beq_eq_false_iff_ne]; omega
  have HK := Lib.hid hk
  have HN := Lib.hid hn
  have HQ := Lib.hid hq
  obtain ⟨l, hl⟩ : ∃ l, l = s.data.toList := ⟨_, rfl⟩
  have hlen : l.length = s.size := by rw [hl]; simp
  have HL := Lib.hid hl
  have HLen := Lib.hid hlen
  clear hk hn hq hl hlen
  go_enter Try.func7, Try.ntmps7
  go_wp2_with fail
  refine (begun_any _).mono ?_; rintro e w1 ⟨rfl, hb1⟩
  have HB1 := Lib.hid hb1
  clear hb1
  have kc := Lib.run_convert_string_bytes (P := Try.prog) w1 9 28 5 s Try.underlying9 Try.underlying28 Try.underlying5
  obtain ⟨W2, hW2⟩ : ∃ W2, W2 = Lib.bytesWorld w1 5 s := ⟨_, rfl⟩
  rw [← hW2] at kc
  have H2 : Hid (Holds W2 w1.heap.size l) := by show Holds _ _ _; rw [hW2, HL.out]; exact holds_bytes _ _ _
  have B2 : Hid (Below w1.heap.size w1 W2) := by show Below _ _ _; rw [hW2]; exact below_bytes _ _ _
  clear hW2
  go_wp2_with fail
  clear kc
  rw [HK.out]
  have ql : q < l.length := by rw [HLen.out]; exact hkl
  have hc := H2.out.1 q ql
  have hf := H2.out.2.1 q ql
  obtain ⟨x, hx⟩ : ∃ x, x = (l[q]'ql).toNat := ⟨_, rfl⟩
  rw [← hx] at hc
  have hx8 : x < 256 := by rw [hx]; exact UInt8.toNat_lt _
  obtain ⟨c, hy, hcx⟩ := flip_bit x k hx8
  have HY := Lib.hid hy
  have HC : Hid (finger (l.set q c) ≠ finger l) := fun e => hcx (by rw [finger_set l q c ql e, hx])
  clear hx hy hcx
  have i1 : (k : Int) / 8 = (q : Int) := by have := HQ.out; omega
  have i2 : (q : Int) < (s.size : Int) := by omega
  have QL := Lib.hid ql
  clear ql
  go_region
  rw [HY.out]
  clear hc hf i1 i2
  obtain ⟨W3, hW3⟩ : ∃ W3, W3 = (W2.setCell ⟨w1.heap.size, q, none⟩ (.int .u8 (c.toNat : Int))).drew := ⟨_, rfl⟩
  rw [← hW3]
  have H3 : Hid (Holds W3 w1.heap.size (l.set q c)) := by show Holds _ _ _; rw [hW3]; exact H2.out.set q c QL.out
  have B3 : Hid (Below w1.heap.size w1 W3) := by show Below _ _ _; rw [hW3]; exact (B2.out.setCell (Nat.le_refl _) _).drew
  clear hW3
  have kc := Lib.run_convert_string_bytes (P := Try.prog) W3 9 28 5 s Try.underlying9 Try.underlying28 Try.underlying5
  obtain ⟨W4, hW4⟩ : ∃ W4, W4 = Lib.bytesWorld W3 5 s := ⟨_, rfl⟩
  rw [← hW4] at kc
  have H4 : Hid (Holds W4 W3.heap.size l) := by show Holds _ _ _; rw [hW4, HL.out]; exact holds_bytes _ _ _
  have B4 : Hid (Below W3.heap.size W3 W4) := by show Below _ _ _; rw [hW4]; exact below_bytes _ _ _
  clear hW4
  have nl : n < l.length := by rw [HLen.out]; exact hnl
  have H5 : Hid (Holds (W4.setCell ⟨W3.heap.size, n, none⟩ (.int .u8 (to.toNat : Int))) W3.heap.size (l.set n to)) := H4.out.set n to nl
  have B5 : Hid (Below W3.heap.size W4 (W4.setCell ⟨W3.heap.size, n, none⟩ (.int .u8 (to.toNat : Int)))) := by
    show Below _ _ _
    exact (Below.refl _ _).setCell (p := ⟨W3.heap.size, n, none⟩) (Nat.le_refl _) _
  have H6 : Hid (Holds (W4.setCell ⟨W3.heap.size, n, none⟩ (.int .u8 (to.toNat : Int))) w1.heap.size (l.set q c)) := H3.out.old (B4.out.trans B5.out) H3.out.2.2
  obtain ⟨S1, hS1⟩ : ∃ S1 : ByteArray, S1 = ⟨(l.set q c).toArray⟩ := ⟨_, rfl⟩
  obtain ⟨S2, hS2⟩ : ∃ S2 : ByteArray, S2 = ⟨(l.set n to).toArray⟩ := ⟨_, rfl⟩
  have z1 : S1.size = s.size := by
    rw [hS1]; show (l.set q c).toArray.size = _
    rw [List.size_toArray, List.length_set, HLen.out]
  have z2 : S2.size = s.size := by
    rw [hS2]; show (l.set n to).toArray.size = _
    rw [List.size_toArray, List.length_set, HLen.out]
  have k1 := Lib.run_convert_whole (P := Try.prog) (W4.setCell ⟨W3.heap.size, n, none⟩ (.int .u8 (to.toNat : Int))) 28 5 9 Try.underlying28 Try.underlying5 Try.underlying9 w1.heap.size 0 S1 (by rw [hS1]; exact H6.out.bytes) (grownCap w1 s.size 0 5)
  have k2 := Lib.run_convert_whole (P := Try.prog) (W4.setCell ⟨W3.heap.size, n, none⟩ (.int .u8 (to.toNat : Int))) 28 5 9 Try.underlying28 Try.underlying5 Try.underlying9 W3.heap.size 0 S2 (by rw [hS2]; exact H5.out.bytes) (grownCap W3 s.size 0 5)
  rw [z1] at k1
  rw [z2] at k2
  obtain ⟨A, hA⟩ : ∃ A, A = finger S1.data.toList := ⟨_, rfl⟩
  obtain ⟨B, hB⟩ : ∃ B, B = finger s.data.toList := ⟨_, rfl⟩
  obtain ⟨C, hC⟩ : ∃ C, C = finger S2.data.toList := ⟨_, rfl⟩
  have eA : A = finger (l.set q c) := by rw [hA, hS1]
  have eB : B = finger l := by rw [hB, HL.out]
  have eC : C = finger (l.set n to) := by rw [hC, hS2]
  have hAB : ((A : Int) != (B : Int)) = true := by
    rw [bne_iff_ne]; intro e; exact HC.out (by rw [← eA, ← eB]; exact Int.ofNat.inj e)
  have cA := Lib.hid (show ∀ w, Calls Try.prog 16 #[.string S1] w fun e w' => e = .returned (.int .u64 (A : Int)) ∧ w = w' from fun w => by rw [hA]; exact of_any S1 w (by unfold maxLen; omega))
  have cB := Lib.hid (show ∀ w, Calls Try.prog 16 #[.string s] w fun e w' => e = .returned (.int .u64 (B : Int)) ∧ w = w' from fun w => by rw [hB]; exact of_any s w (by unfold maxLen; omega))
  have cC := Lib.hid (show ∀ w, Calls Try.prog 16 #[.string S2] w fun e w' => e = .returned (.int .u64 (C : Int)) ∧ w = w' from fun w => by rw [hC]; exact of_any S2 w (by unfold maxLen; omega))
  have hc := H4.out.1 n nl
  have hf := H4.out.2.1 n nl
  obtain ⟨y, hy⟩ : ∃ y, y = (l[n]'nl).toNat := ⟨_, rfl⟩
  rw [← hy] at hc
  have hCB : Hid (((C : Int) == (B : Int)) = ((y : Int) == (to.toNat : Int))) := by
    show ((C : Int) == (B : Int)) = ((y : Int) == (to.toNat : Int))
    rw [Bool.eq_iff_iff, beq_iff_eq, beq_iff_eq]
    constructor
    · intro e
      have e1 : finger (l.set n to) = finger l := by rw [← eC, ← eB]; exact Int.ofNat.inj e
      have := finger_set l n to nl e1
      rw [hy, this]
    · intro e
      have e1 : to = l[n]'nl := by
        apply UInt8.toNat_inj.1
        rw [← hy]; exact (Int.ofNat.inj e).symm
      rw [eC, eB, e1, List.set_getElem_self]
  have hn0 := HN.out
  have hni : (n : Int) < (s.size : Int) := by omega
  have BF : Hid (Below w.heap.size w (W4.setCell ⟨W3.heap.size, n, none⟩ (.int .u8 (to.toNat : Int)))) :=
    HB1.out.trans ((B3.out.trans ((B4.out.trans B5.out).mono B3.out.size)).mono HB1.out.size)
  clear hy nl hS1 hS2 z1 z2 hA hB hC eA eB eC
  go_wp2_with fail
  refine (cA.out _).mono ?_; rintro e w' ⟨rfl, rfl⟩
  go_wp2_with fail
  refine (cB.out _).mono ?_; rintro e w' ⟨rfl, rfl⟩
  go_wp2_with fail
  refine (cC.out _).mono ?_; rintro e w' ⟨rfl, rfl⟩
  go_wp2_with fail
  refine (cB.out _).mono ?_; rintro e w' ⟨rfl, rfl⟩
  go_wp2_with fail
  go_ret
  exact ⟨ret_bool (by rw [hCB.out]; simp), BF.out⟩
theorem one_skip (s : ByteArray) (bit at' to : Int) (w : World) (hs : s.size ≤ 9223372036854775807) (h : s.size = 0 ∨ 100 < s.size) :
    Calls Try.prog 7 #[.string s, .int .u16 bit, .int .u8 at', .int .u8 to] w fun e w' => e = .returned (.bool true) ∧ Below w.heap.size w w' := by
  rcases h with h | h
  · have hz : ((s.size : Int) == 0) = true := by rw [h]; rfl
    have hl : (s.size : Int) ≤ 0 := by omega
    clear h
    go_enter Try.func7, Try.ntmps7
    go_wp2_with fail
    refine (begun_any _).mono ?_; rintro e w1 ⟨rfl, hb1⟩
    go_wp2_with fail
    go_ret
    exact ⟨rfl, hb1⟩
  · have hl : 100 < (s.size : Int) := by omega
    clear h
    go_enter Try.func7, Try.ntmps7
    go_wp2_with fail
    refine (begun_any _).mono ?_; rintro e w1 ⟨rfl, hb1⟩
    go_wp2_with fail
    go_ret
    exact ⟨rfl, hb1⟩
theorem one_law_wf (s : ByteArray) (a1 a2 a3 : Int) (w : World) (w0 : s.size ≤ maxLen) (w1 : (Lit.int .u16 a1).wf = true) (w2 : (Lit.int .u8 a2).wf = true) (w3 : (Lit.int .u8 a3).wf = true) :
    Calls Try.prog 7 #[.string s, .int .u16 a1, .int .u8 a2, .int .u8 a3] w fun e w' => e = .returned (.bool true) ∧ Below w.heap.size w w' := by
  unfold maxLen at w0
  by_cases h : s.size = 0 ∨ 100 < s.size
  · exact one_skip s a1 a2 a3 w (by omega) h
  · have b1 := bounds_u16 w1
    have b2 := bounds_u8 w2
    have b3 := bounds_u8 w3
    obtain ⟨bit, rfl⟩ := Int.eq_ofNat_of_zero_le b1.1
    obtain ⟨at', rfl⟩ := Int.eq_ofNat_of_zero_le b2.1
    obtain ⟨t, rfl⟩ := Int.eq_ofNat_of_zero_le b3.1
    have ht : (t : Int) = ((UInt8.ofNat t).toNat : Int) := by
      rw [UInt8.toNat_ofNat', Nat.mod_eq_of_lt (by omega)]
    have hs : 1 ≤ s.size ∧ s.size ≤ 100 := by omega
    obtain ⟨k, hk⟩ : ∃ k, k = bit % (8 * s.size) := ⟨_, rfl⟩
    obtain ⟨n, hn⟩ : ∃ n, n = at' % s.size := ⟨_, rfl⟩
    have hk1 : k < 8 * s.size := by rw [hk]; exact Nat.mod_lt _ (by omega)
    have hn1 : n < s.size := by rw [hn]; exact Nat.mod_lt _ (by omega)
    have kk : (bit : Int) % (8 * (s.size : Int)) = (k : Int) := by rw [hk]; rfl
    have nn : (at' : Int) % (s.size : Int) = (n : Int) := by rw [hn]; rfl
    rw [ht]
    exact one_law s bit k n (k / 8) at' (UInt8.ofNat t) w hs.1 hs.2 kk rfl (by omega) (by omega) (by omega) nn hn1 (by omega)
end Fin
end Go.Proofs.Ythndacjncepbdaa
