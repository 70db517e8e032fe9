/-
  The law FingerSums: what two texts tell together.
-/
import Derived.Test.YthndacjncepbdaaFinO
import Derived.Deep.QuietTactic
namespace Go.Proofs.Ythndacjncepbdaa
open Go.ChangeShapes Go.WideShapes Go.ChangeAt Go.RowKit
namespace Fin
set_option linter.unusedVariables false

theorem half_xor (x y : Nat) : (x ^^^ y) / 2 = x / 2 ^^^ y / 2 := by
  have := Nat.shiftRight_xor_distrib (a := x) (b := y) (i := 1)
  simpa [Nat.shiftRight_succ] using this
theorem odd_xor (x y : Nat) : (x ^^^ y) % 2 = 1 ↔ ¬ (x % 2 = 1 ↔ y % 2 = 1) := Nat.xor_mod_two_eq_one
theorem fstep_eq (v : Nat) : fstep v = v / 2 ^^^ (if v % 2 = 1 then E else 0) := by
  unfold fstep; split
  · rfl
  · rw [Nat.xor_zero]
theorem fstep_xor (x y : Nat) : fstep (x ^^^ y) = fstep x ^^^ fstep y := by
  rw [fstep_eq, fstep_eq x, fstep_eq y, half_xor]
  have h := odd_xor x y
  by_cases hx : x % 2 = 1 <;> by_cases hy : y % 2 = 1
  · have : ¬ (x ^^^ y) % 2 = 1 := by rw [h]; simp [hx, hy]
    rw [if_neg this, if_pos hx, if_pos hy, Nat.xor_zero, Nat.xor_assoc, Nat.xor_comm E, Nat.xor_assoc, Nat.xor_self, Nat.xor_zero]
  · have : (x ^^^ y) % 2 = 1 := by rw [h]; simp [hx, hy]
    rw [if_pos this, if_pos hx, if_neg hy, Nat.xor_zero, Nat.xor_assoc, Nat.xor_assoc, Nat.xor_comm E]
  · have : (x ^^^ y) % 2 = 1 := by rw [h]; simp [hx, hy]
    rw [if_pos this, if_neg hx, if_pos hy, Nat.xor_zero, Nat.xor_assoc]
  · have : ¬ (x ^^^ y) % 2 = 1 := by rw [h]; simp [hx, hy]
    rw [if_neg this, if_neg hx, if_neg hy, Nat.xor_zero, Nat.xor_zero, Nat.xor_zero]
theorem fiter_xor (n x y : Nat) : fiter n (x ^^^ y) = fiter n x ^^^ fiter n y := by
  induction n with
  | zero => rfl
  | succ n ih => show fstep (fiter n (x ^^^ y)) = _; rw [ih, fstep_xor]; rfl
theorem xor_swap (a b c d : Nat) : (a ^^^ b) ^^^ (c ^^^ d) = (a ^^^ c) ^^^ (b ^^^ d) := by
  rw [Nat.xor_assoc, ← Nat.xor_assoc b, Nat.xor_comm b c, Nat.xor_assoc c, ← Nat.xor_assoc]
theorem fold_sums (f g : List UInt8) : ∀ (s t u v : Nat), f.length = g.length → s ^^^ t = u ^^^ v →
    f.foldl fbyte s ^^^ g.foldl fbyte t = (List.zipWith (fun x y => UInt8.ofNat (x.toNat ^^^ y.toNat)) f g).foldl fbyte u ^^^ (List.replicate f.length (0 : UInt8)).foldl fbyte v := by
  induction f generalizing g with
  | nil => intro s t u v hl h; cases g with
    | nil => exact h
    | cons _ _ => simp at hl
  | cons x f ih => intro s t u v hl h; cases g with
    | nil => simp at hl
    | cons y g =>
      have hl' : f.length = g.length := by simpa using hl
      refine ih g (fbyte s x) (fbyte t y) _ _ hl' ?_
      have hx : (UInt8.ofNat (x.toNat ^^^ y.toNat)).toNat = x.toNat ^^^ y.toNat := by
        rw [UInt8.toNat_ofNat', Nat.mod_eq_of_lt (Nat.xor_lt_two_pow (n := 8) x.toNat_lt y.toNat_lt)]
      unfold fbyte
      rw [← fiter_xor, ← fiter_xor, hx, xor_swap, h, show (0 : UInt8).toNat = 0 from rfl, Nat.xor_zero]
      congr 1
      rw [Nat.xor_assoc, Nat.xor_comm v, ← Nat.xor_assoc]
theorem finger_sums (f g : List UInt8) (h : f.length = g.length) :
    finger f ^^^ finger g = finger (List.zipWith (fun x y => UInt8.ofNat (x.toNat ^^^ y.toNat)) f g) ^^^ finger (List.replicate f.length 0) :=
  fold_sums f g E E E E h rfl

/-- The row under way: the first k bytes are told. -/
def Row (W : World) (g n k : Nat) (a b : ByteArray) : Prop :=
  ∃ X : List UInt8, Holds W g X ∧ X.length = n ∧ ∀ i (h1 : i < a.size) (h2 : i < b.size), i < k → X[i]? = some (UInt8.ofNat (a[i].toNat ^^^ b[i].toNat))
theorem holds_made {W : World} {base e g n : Nat} (h : W.ownsRow base e 1 (.slice (some ⟨g, 0, none⟩) n n) n (madeCells (Value.int .u8 0).cells (n * 1)).toList) (hg : g < W.heap.size) : Holds W g (List.replicate n 0) := by
  have e0 : (madeCells (Value.int .u8 0).cells (n * 1)).toList = List.replicate n (.int .u8 0) := by
    rw [show (Value.int .u8 0).cells = #[Value.int .u8 0] from rfl, toList_madeCells_one]; simp
  rw [e0] at h
  refine ⟨fun j hj => ?_, fun j hj => ?_, hg⟩
  · have hj' : j < n := by simpa using hj
    have := h.cellAt j (by omega)
    rw [this, List.getElem?_replicate, if_pos hj', List.getElem_replicate]; rfl
  · exact h.frozenAt j
theorem Holds.apart {W : World} {g h : Nat} {l : List UInt8} (x : Holds W g l) (hn : h ≠ g) (k : Nat) (v : Value) : Holds (W.setCell ⟨h, k, none⟩ v) g l :=
  ⟨fun j hj => by rw [World.cell?_setCell_other (w := W) (a := ⟨h, k, none⟩) (b := ⟨g, j, none⟩) _ (by intro e; exact hn (by injection e))]; exact x.1 j hj, fun j hj => by rw [World.frozen?_setCell]; exact x.2.1 j hj, by simpa using x.2.2⟩
theorem Row.next {W : World} {g n k : Nat} {a b : ByteArray} (h : Row W g n k a b) (hk : k < n) (h1 : k < a.size) (h2 : k < b.size) : Row (W.setCell ⟨g, k, none⟩ (.int .u8 (bits .xor .u8 (a[k].toNat : Int) (b[k].toNat : Int)))) g n (k + 1) a b := by
  obtain ⟨X, hX, hl, he⟩ := h
  have hx : bits .xor .u8 (a[k].toNat : Int) (b[k].toNat : Int) = ((UInt8.ofNat (a[k].toNat ^^^ b[k].toNat)).toNat : Int) := by
    rw [u8_xor_nat _ _ a[k].toNat_lt b[k].toNat_lt, UInt8.toNat_ofNat', Nat.mod_eq_of_lt (Nat.xor_lt_two_pow (n := 8) a[k].toNat_lt b[k].toNat_lt)]
  rw [hx]
  refine ⟨_, hX.set k _ (by omega), by simpa using hl, fun i i1 i2 i3 => ?_⟩
  by_cases e : k = i
  · subst e
    rw [List.getElem?_set_self (by omega)]
  · rw [List.getElem?_set_ne e]
    exact he i i1 i2 (by omega)
theorem Row.full {W : World} {g n : Nat} {a b : ByteArray} (h : Row W g n n a b) (h1 : n ≤ a.size) (h2 : n ≤ b.size) : Holds W g (List.zipWith (fun x y => UInt8.ofNat (x.toNat ^^^ y.toNat)) (a.data.toList.take n) (b.data.toList.take n)) := by
  obtain ⟨X, hX, hl, he⟩ := h
  have e : X = List.zipWith (fun x y => UInt8.ofNat (x.toNat ^^^ y.toNat)) (a.data.toList.take n) (b.data.toList.take n) := by
    apply List.ext_getElem?
    intro i
    by_cases hi : i < n
    · have i1 : i < a.size := by omega
      have i2 : i < b.size := by omega
      rw [he i i1 i2 hi, List.getElem?_zipWith, List.getElem?_take, List.getElem?_take, if_pos hi, if_pos hi, List.getElem?_eq_getElem (by simpa using i1), List.getElem?_eq_getElem (by simpa using i2)]
      rfl
    · rw [List.getElem?_eq_none (by omega), List.getElem?_eq_none]
      simp; omega
  rw [← e]; exact hX
theorem Row.cell {W : World} {g n k : Nat} {a b : ByteArray} (h : Row W g n k a b) (j : Nat) (hj : j < n) : (∃ x : UInt8, W.cell? ⟨g, j, none⟩ = some (.int .u8 (x.toNat : Int))) ∧ W.frozen? ⟨g, j, none⟩ = false := by
  obtain ⟨X, hX, hl, he⟩ := h
  exact ⟨⟨_, hX.1 j (by omega)⟩, hX.2.1 j (by omega)⟩
def Makes (n : Nat) (M : World → World) : Prop := ∀ W : World, Holds (M W) W.heap.size (List.replicate n 0) ∧ Below W.heap.size W (M W)
theorem makes (n : Nat) (z : Int) (hz : z = n) (hn : n ≤ 40) : ∃ M : World → World, (∀ W : World, (Instr.makeSlice 28 (.int .i64 z) (.int .i64 z)).run Try.prog W = .ok (.slice (some ⟨W.heap.size, 0, none⟩) n n) (M W)) ∧ Makes n M := by
  subst hz
  obtain ⟨i0, hi, hz0, hz1, hz2⟩ := info_parts info8
  have h := fun W : World => run_make_full (P := Try.prog) W W.heap.size 28 5 i0 (.int .u8 0) 1 Try.underlying28 hi hz0 hz1 .i64 .i64 n (by rw [hz2]; omega) (by unfold maxLen; omega) (Nat.le_refl _)
  refine ⟨fun W => Classical.choose (h W), fun W => (Classical.choose_spec (h W)).1, fun W => ?_⟩
  have g := Classical.choose_spec (h W)
  have hbel : Below W.heap.size W (Classical.choose (h W)) := (Below.refl _ _).grown g.2.2 (Nat.le_refl _) (by intro k h; cases h)
  refine ⟨holds_made g.2.1 ?_, hbel⟩
  show W.heap.size < (Classical.choose (h W)).heap.size
  have hb : (i0.bytes : Int) * (n : Int) ≤ 281474976710656 := by rw [hz2]; omega
  have hr := run_make (P := Try.prog) W 28 5 i0 (.int .u8 0) Try.underlying28 hi hz0 .i64 .i64 n n (by omega) (by omega) hb (by omega)
  have he := g.1.symm.trans hr
  injection he with _ he2
  rw [he2]
  show W.heap.size < (W.heap.push _).size
  simp

theorem two_made {n : Nat} {M : World → World} {w w1 : World} (HM : Makes n M) (hb : Below w.heap.size w w1) : Holds (M (M w1.drew)) w1.heap.size (List.replicate n 0) ∧ Holds (M (M w1.drew)) (M w1.drew).heap.size (List.replicate n 0) ∧ Below w.heap.size w (M (M w1.drew)) ∧ w1.heap.size < (M w1.drew).heap.size ∧ w.heap.size ≤ w1.heap.size := by
  have A := HM w1.drew
  have B := HM (M w1.drew)
  exact ⟨A.1.old B.2 A.1.2.2, B.1, hb.drew.trans ((A.2.trans (B.2.mono A.2.size)).mono hb.size), A.1.2.2, hb.size⟩
theorem Row.start {W : World} {g n : Nat} {a b : ByteArray} (h : Holds W g (List.replicate n 0)) : Row W g n 0 a b :=
  ⟨_, h, by simp, fun i _ _ h => absurd h (Nat.not_lt_zero i)⟩
def zipped (a b : ByteArray) (n : Nat) : ByteArray := ⟨(List.zipWith (fun x y => UInt8.ofNat (x.toNat ^^^ y.toNat)) (a.data.toList.take n) (b.data.toList.take n)).toArray⟩
def zeros (n : Nat) : ByteArray := ⟨(List.replicate n (0 : UInt8)).toArray⟩
theorem zipped_size (a b : ByteArray) (n : Nat) (h1 : n ≤ a.size) (h2 : n ≤ b.size) : (zipped a b n).size = n := by
  show (List.toArray _).size = n
  rw [List.size_toArray, List.length_zipWith, List.length_take, List.length_take]
  have : a.data.toList.length = a.size := by simp
  have : b.data.toList.length = b.size := by simp
  omega
theorem zeros_size (n : Nat) : (zeros n).size = n := by
  show (List.toArray _).size = n
  simp
theorem cut_list (a : ByteArray) (n : Nat) : (a.extract 0 n).data.toList = a.data.toList.take n := by simp
theorem sums_nat (a b : ByteArray) (n : Nat) (h1 : n ≤ a.size) (h2 : n ≤ b.size) :
    bits .xor .u64 ((finger (a.extract 0 n).data.toList : Nat) : Int) ((finger (b.extract 0 n).data.toList : Nat) : Int) = bits .xor .u64 ((finger (zipped a b n).data.toList : Nat) : Int) ((finger (zeros n).data.toList : Nat) : Int) := by
  rw [u64_xor_nat _ _ (finger_lt _) (finger_lt _), u64_xor_nat _ _ (finger_lt _) (finger_lt _), cut_list, cut_list]
  have e1 : (a.data.toList.take n).length = n := by simp; omega
  have e2 : (b.data.toList.take n).length = n := by simp; omega
  have := finger_sums (a.data.toList.take n) (b.data.toList.take n) (by rw [e1, e2])
  rw [e1] at this
  exact congrArg Int.ofNat this
theorem Holds.drewN {W : World} {g : Nat} {l : List UInt8} (h : Holds W g l) (m : Nat) : Holds (W.drewN m) g l := h
theorem below_drewN {B : Nat} {w W : World} (h : Below B w W) (m : Nat) : Below B w (W.drewN m) := ⟨h.1, h.2, h.3, h.4, h.5⟩
theorem of_q (s : ByteArray) (w : World) (hs : s.size ≤ maxLen) : Calls Try.prog 16 #[.string s] w fun e w' => e = .returned (.int .u64 (finger s.data.toList)) ∧ w' = w :=
  (of_any s w hs).mono fun _ _ ⟨h1, h2⟩ => ⟨h1, h2.symm⟩
theorem Holds.str {W : World} {g : Nat} {l : List UInt8} {n : Nat} (h : Holds W g l) (T : ByteArray) (hT : T = ⟨l.toArray⟩) (hn : T.size = n) : (convert 28 9 (.slice (some ⟨g, 0, none⟩) n n)).run Try.prog W = .ok (.string T) W := by
  subst hn
  exact Lib.run_convert_whole (P := Try.prog) W 28 5 9 Try.underlying28 Try.underlying5 Try.underlying9 g 0 T (by rw [hT]; exact h.bytes) T.size

set_option maxHeartbeats 1000000 in
theorem sums_a (a b : ByteArray) (w : World) (ha : a.size ≤ 9223372036854775807) (hb : b.size ≤ 9223372036854775807) (hx : a.size ≤ b.size) (hx40 : a.size ≤ 40) :
    Calls Try.prog 8 #[.string a, .string b] w fun e w' => e = .returned (.bool true) ∧ Below w.heap.size w w' := by
  obtain ⟨M, hM, hMM⟩ := makes a.size (a.size : Int) rfl (by omega)
  have HM := Lib.hid hMM
  clear hMM
  have HNA : Hid (a.size ≤ a.size) := Lib.hid (by omega)
  have HNB : Hid (a.size ≤ b.size) := Lib.hid (by omega)
  go_enter Try.func8, Try.ntmps8
  go_wp2_with fail
  refine (begun_any _).mono ?_; rintro e w1 ⟨rfl, hb1⟩
  have HB1 := Lib.hid hb1
  clear hb1
  go_wp2_with fail
  go_region
  · obtain ⟨h1, h2, h3, h4, h5⟩ := two_made HM.out HB1.out
    obtain ⟨W3, hW3⟩ : ∃ W, W = M (M w1.drew) := ⟨_, rfl⟩
    rw [← hW3] at h1 h2 h3 ⊢
    obtain ⟨GB, hg2⟩ : ∃ g, g = (M w1.drew).heap.size := ⟨_, rfl⟩
    rw [← hg2] at h2 h4 ⊢
    obtain ⟨GA, hg1⟩ : ∃ g, g = w1.heap.size := ⟨_, rfl⟩
    rw [← hg1] at h1 h4 h5 ⊢
    clear hg1 hg2 hW3 hM
    have HA := Lib.hid h1
    have HB := Lib.hid h2
    have HC := Lib.hid h3
    have HD := Lib.hid h4
    have HE := Lib.hid h5
    clear h1 h2 h3 h4 h5
    go_wp2
    go_loopw [8] (fun i wr => ∃ k : Nat, k ≤ a.size ∧ i = .int .i64 k ∧ Row wr GA a.size k a b ∧ Holds wr GB (List.replicate a.size 0) ∧ Below w.heap.size w wr) (fun i _ => a.size - (intOf i).toNat)
    case atStart => exact ⟨0, Nat.zero_le _, rfl, Row.start HA.out, HB.out, HC.out⟩
    case round =>
      obtain ⟨k, hk, rfl, hr, hn, hb'⟩ := hrel
      have HR := Lib.hid hr
      have HN := Lib.hid hn
      have HBW := Lib.hid hb'
      clear hr hn hb'
      by_cases hlt : k < a.size
      · obtain ⟨⟨x, hc⟩, hf⟩ := HR.out.cell k hlt
        have ka : k < a.size := by omega
        have kb : k < b.size := by omega
        go_wp2_with fail
        go_region
        go_wp2
        go_roundw
        case rel => exact ⟨k + 1, by omega, by go_num, HR.out.next hlt ka kb, HN.out.apart (by have := HD.out; omega) _ _, (HBW.out.setCell (p := ⟨GA, k, none⟩) (by have := HD.out; have := HE.out; show w.heap.size ≤ GA; omega) _).drew⟩
        case measure => simp [intOf]; omega
      · obtain rfl : k = a.size := by omega
        have F1 := HR.out.full HNA.out HNB.out
        have k1 := fun m => (F1.drewN m).str (zipped a b a.size) rfl (zipped_size a b a.size HNA.out HNB.out)
        have k2 := fun m => (HN.out.drewN m).str (zeros a.size) rfl (zeros_size a.size)
        clear F1
        have z1 := zipped_size a b a.size HNA.out HNB.out
        have z2 := zeros_size a.size
        have s1 : (a).size ≤ maxLen := by (try simp only [ByteArray.size_extract]); unfold maxLen; omega
        have s2 : (b.extract 0 a.size).size ≤ maxLen := by (try simp only [ByteArray.size_extract]); unfold maxLen; omega
        have hs := sums_nat a b a.size HNA.out HNB.out
        have e0 : a.extract 0 a.size = a := by simp
        rw [e0] at hs
        clear e0
        obtain ⟨FA, hFA⟩ : ∃ v : Int, v = ((finger (a).data.toList : Nat) : Int) := ⟨_, rfl⟩
        obtain ⟨FB, hFB⟩ : ∃ v : Int, v = ((finger (b.extract 0 a.size).data.toList : Nat) : Int) := ⟨_, rfl⟩
        obtain ⟨FC, hFC⟩ : ∃ v : Int, v = ((finger (zipped a b a.size).data.toList : Nat) : Int) := ⟨_, rfl⟩
        obtain ⟨FD, hFD⟩ : ∃ v : Int, v = ((finger (zeros a.size).data.toList : Nat) : Int) := ⟨_, rfl⟩
        rw [← hFA, ← hFB, ← hFC, ← hFD] at hs
        have HS := Lib.hid hs
        have CA := Lib.hid (show ∀ w, Calls Try.prog 16 #[.string (a)] w fun e w' => e = .returned (.int .u64 FA) ∧ w' = w from fun w => by rw [hFA]; exact of_q _ w s1)
        have CB := Lib.hid (show ∀ w, Calls Try.prog 16 #[.string (b.extract 0 a.size)] w fun e w' => e = .returned (.int .u64 FB) ∧ w' = w from fun w => by rw [hFB]; exact of_q _ w s2)
        have CC := Lib.hid (show ∀ w, Calls Try.prog 16 #[.string (zipped a b a.size)] w fun e w' => e = .returned (.int .u64 FC) ∧ w' = w from fun w => by rw [hFC]; exact of_q _ w (by rw [z1]; unfold maxLen; omega))
        have CD := Lib.hid (show ∀ w, Calls Try.prog 16 #[.string (zeros a.size)] w fun e w' => e = .returned (.int .u64 FD) ∧ w' = w from fun w => by rw [hFD]; exact of_q _ w (by rw [z2]; unfold maxLen; omega))
        obtain ⟨T1, hT1⟩ : ∃ T, T = zipped a b a.size := ⟨_, rfl⟩
        obtain ⟨T2, hT2⟩ : ∃ T, T = zeros a.size := ⟨_, rfl⟩
        rw [← hT1] at k1 CC
        rw [← hT2] at k2 CD
        clear hs hFA hFB hFC hFD hT1 hT2
        clear s1 s2 hlt hk z1 z2
        have i1 := HNA.out
        have i2 := HNB.out
        have i3 : (a.size : Int) ≤ (a.size : Int) := by omega
        have i4 : (a.size : Int) ≤ (b.size : Int) := by omega
        go_wp2_with fail
        go_quiet (first | (go_at_call 16; with_reducible refine Calls.quiet_of_same (CA.out _)) | (go_at_call 16; with_reducible refine Calls.quiet_of_same (CB.out _)) | (go_at_call 16; with_reducible refine Calls.quiet_of_same (CC.out _)) | (go_at_call 16; with_reducible refine Calls.quiet_of_same (CD.out _)))
        go_wp2
        go_ret
        exact ⟨ret_bool (by rw [HS.out]; simp), below_drewN HBW.out nq⟩
  · obtain ⟨h1, h2, h3, h4, h5⟩ := two_made HM.out HB1.out
    obtain ⟨W3, hW3⟩ : ∃ W, W = M (M w1.drew) := ⟨_, rfl⟩
    rw [← hW3] at h1 h2 h3 ⊢
    obtain ⟨GB, hg2⟩ : ∃ g, g = (M w1.drew).heap.size := ⟨_, rfl⟩
    rw [← hg2] at h2 h4 ⊢
    obtain ⟨GA, hg1⟩ : ∃ g, g = w1.heap.size := ⟨_, rfl⟩
    rw [← hg1] at h1 h4 h5 ⊢
    clear hg1 hg2 hW3 hM
    have HA := Lib.hid h1
    have HB := Lib.hid h2
    have HC := Lib.hid h3
    have HD := Lib.hid h4
    have HE := Lib.hid h5
    clear h1 h2 h3 h4 h5
    go_wp2
    go_loopw [8] (fun i wr => ∃ k : Nat, k ≤ a.size ∧ i = .int .i64 k ∧ Row wr GB a.size k a b ∧ Holds wr GA (List.replicate a.size 0) ∧ Below w.heap.size w wr) (fun i _ => a.size - (intOf i).toNat)
    case atStart => exact ⟨0, Nat.zero_le _, rfl, Row.start HB.out, HA.out, HC.out⟩
    case round =>
      obtain ⟨k, hk, rfl, hr, hn, hb'⟩ := hrel
      have HR := Lib.hid hr
      have HN := Lib.hid hn
      have HBW := Lib.hid hb'
      clear hr hn hb'
      by_cases hlt : k < a.size
      · obtain ⟨⟨x, hc⟩, hf⟩ := HR.out.cell k hlt
        have ka : k < a.size := by omega
        have kb : k < b.size := by omega
        go_wp2_with fail
        go_region
        go_wp2
        go_roundw
        case rel => exact ⟨k + 1, by omega, by go_num, HR.out.next hlt ka kb, HN.out.apart (by have := HD.out; omega) _ _, (HBW.out.setCell (p := ⟨GB, k, none⟩) (by have := HD.out; have := HE.out; show w.heap.size ≤ GB; omega) _).drew⟩
        case measure => simp [intOf]; omega
      · obtain rfl : k = a.size := by omega
        have F1 := HR.out.full HNA.out HNB.out
        have k1 := fun m => (F1.drewN m).str (zipped a b a.size) rfl (zipped_size a b a.size HNA.out HNB.out)
        have k2 := fun m => (HN.out.drewN m).str (zeros a.size) rfl (zeros_size a.size)
        clear F1
        have z1 := zipped_size a b a.size HNA.out HNB.out
        have z2 := zeros_size a.size
        have s1 : (a).size ≤ maxLen := by (try simp only [ByteArray.size_extract]); unfold maxLen; omega
        have s2 : (b.extract 0 a.size).size ≤ maxLen := by (try simp only [ByteArray.size_extract]); unfold maxLen; omega
        have hs := sums_nat a b a.size HNA.out HNB.out
        have e0 : a.extract 0 a.size = a := by simp
        rw [e0] at hs
        clear e0
        obtain ⟨FA, hFA⟩ : ∃ v : Int, v = ((finger (a).data.toList : Nat) : Int) := ⟨_, rfl⟩
        obtain ⟨FB, hFB⟩ : ∃ v : Int, v = ((finger (b.extract 0 a.size).data.toList : Nat) : Int) := ⟨_, rfl⟩
        obtain ⟨FC, hFC⟩ : ∃ v : Int, v = ((finger (zipped a b a.size).data.toList : Nat) : Int) := ⟨_, rfl⟩
        obtain ⟨FD, hFD⟩ : ∃ v : Int, v = ((finger (zeros a.size).data.toList : Nat) : Int) := ⟨_, rfl⟩
        rw [← hFA, ← hFB, ← hFC, ← hFD] at hs
        have HS := Lib.hid hs
        have CA := Lib.hid (show ∀ w, Calls Try.prog 16 #[.string (a)] w fun e w' => e = .returned (.int .u64 FA) ∧ w' = w from fun w => by rw [hFA]; exact of_q _ w s1)
        have CB := Lib.hid (show ∀ w, Calls Try.prog 16 #[.string (b.extract 0 a.size)] w fun e w' => e = .returned (.int .u64 FB) ∧ w' = w from fun w => by rw [hFB]; exact of_q _ w s2)
        have CC := Lib.hid (show ∀ w, Calls Try.prog 16 #[.string (zipped a b a.size)] w fun e w' => e = .returned (.int .u64 FC) ∧ w' = w from fun w => by rw [hFC]; exact of_q _ w (by rw [z1]; unfold maxLen; omega))
        have CD := Lib.hid (show ∀ w, Calls Try.prog 16 #[.string (zeros a.size)] w fun e w' => e = .returned (.int .u64 FD) ∧ w' = w from fun w => by rw [hFD]; exact of_q _ w (by rw [z2]; unfold maxLen; omega))
        obtain ⟨T1, hT1⟩ : ∃ T, T = zipped a b a.size := ⟨_, rfl⟩
        obtain ⟨T2, hT2⟩ : ∃ T, T = zeros a.size := ⟨_, rfl⟩
        rw [← hT1] at k1 CC
        rw [← hT2] at k2 CD
        clear hs hFA hFB hFC hFD hT1 hT2
        clear s1 s2 hlt hk z1 z2
        have i1 := HNA.out
        have i2 := HNB.out
        have i3 : (a.size : Int) ≤ (a.size : Int) := by omega
        have i4 : (a.size : Int) ≤ (b.size : Int) := by omega
        go_wp2_with fail
        go_quiet (first | (go_at_call 16; with_reducible refine Calls.quiet_of_same (CA.out _)) | (go_at_call 16; with_reducible refine Calls.quiet_of_same (CB.out _)) | (go_at_call 16; with_reducible refine Calls.quiet_of_same (CC.out _)) | (go_at_call 16; with_reducible refine Calls.quiet_of_same (CD.out _)))
        go_wp2
        go_ret
        exact ⟨ret_bool (by rw [HS.out]; simp), below_drewN HBW.out nq⟩
set_option maxHeartbeats 1000000 in
theorem sums_b (a b : ByteArray) (w : World) (ha : a.size ≤ 9223372036854775807) (hb : b.size ≤ 9223372036854775807) (hx : b.size < a.size) (hx40 : b.size ≤ 40) :
    Calls Try.prog 8 #[.string a, .string b] w fun e w' => e = .returned (.bool true) ∧ Below w.heap.size w w' := by
  obtain ⟨M, hM, hMM⟩ := makes b.size (b.size : Int) rfl (by omega)
  have HM := Lib.hid hMM
  clear hMM
  have HNA : Hid (b.size ≤ a.size) := Lib.hid (by omega)
  have HNB : Hid (b.size ≤ b.size) := Lib.hid (by omega)
  go_enter Try.func8, Try.ntmps8
  go_wp2_with fail
  refine (begun_any _).mono ?_; rintro e w1 ⟨rfl, hb1⟩
  have HB1 := Lib.hid hb1
  clear hb1
  go_wp2_with fail
  go_region
  · obtain ⟨h1, h2, h3, h4, h5⟩ := two_made HM.out HB1.out
    obtain ⟨W3, hW3⟩ : ∃ W, W = M (M w1.drew) := ⟨_, rfl⟩
    rw [← hW3] at h1 h2 h3 ⊢
    obtain ⟨GB, hg2⟩ : ∃ g, g = (M w1.drew).heap.size := ⟨_, rfl⟩
    rw [← hg2] at h2 h4 ⊢
    obtain ⟨GA, hg1⟩ : ∃ g, g = w1.heap.size := ⟨_, rfl⟩
    rw [← hg1] at h1 h4 h5 ⊢
    clear hg1 hg2 hW3 hM
    have HA := Lib.hid h1
    have HB := Lib.hid h2
    have HC := Lib.hid h3
    have HD := Lib.hid h4
    have HE := Lib.hid h5
    clear h1 h2 h3 h4 h5
    go_wp2
    go_loopw [8] (fun i wr => ∃ k : Nat, k ≤ b.size ∧ i = .int .i64 k ∧ Row wr GA b.size k a b ∧ Holds wr GB (List.replicate b.size 0) ∧ Below w.heap.size w wr) (fun i _ => b.size - (intOf i).toNat)
    case atStart => exact ⟨0, Nat.zero_le _, rfl, Row.start HA.out, HB.out, HC.out⟩
    case round =>
      obtain ⟨k, hk, rfl, hr, hn, hb'⟩ := hrel
      have HR := Lib.hid hr
      have HN := Lib.hid hn
      have HBW := Lib.hid hb'
      clear hr hn hb'
      by_cases hlt : k < b.size
      · obtain ⟨⟨x, hc⟩, hf⟩ := HR.out.cell k hlt
        have ka : k < a.size := by omega
        have kb : k < b.size := by omega
        go_wp2_with fail
        go_region
        go_wp2
        go_roundw
        case rel => exact ⟨k + 1, by omega, by go_num, HR.out.next hlt ka kb, HN.out.apart (by have := HD.out; omega) _ _, (HBW.out.setCell (p := ⟨GA, k, none⟩) (by have := HD.out; have := HE.out; show w.heap.size ≤ GA; omega) _).drew⟩
        case measure => simp [intOf]; omega
      · obtain rfl : k = b.size := by omega
        have F1 := HR.out.full HNA.out HNB.out
        have k1 := fun m => (F1.drewN m).str (zipped a b b.size) rfl (zipped_size a b b.size HNA.out HNB.out)
        have k2 := fun m => (HN.out.drewN m).str (zeros b.size) rfl (zeros_size b.size)
        clear F1
        have z1 := zipped_size a b b.size HNA.out HNB.out
        have z2 := zeros_size b.size
        have s1 : (a.extract 0 b.size).size ≤ maxLen := by (try simp only [ByteArray.size_extract]); unfold maxLen; omega
        have s2 : (b).size ≤ maxLen := by (try simp only [ByteArray.size_extract]); unfold maxLen; omega
        have hs := sums_nat a b b.size HNA.out HNB.out
        have e0 : b.extract 0 b.size = b := by simp
        rw [e0] at hs
        clear e0
        obtain ⟨FA, hFA⟩ : ∃ v : Int, v = ((finger (a.extract 0 b.size).data.toList : Nat) : Int) := ⟨_, rfl⟩
        obtain ⟨FB, hFB⟩ : ∃ v : Int, v = ((finger (b).data.toList : Nat) : Int) := ⟨_, rfl⟩
        obtain ⟨FC, hFC⟩ : ∃ v : Int, v = ((finger (zipped a b b.size).data.toList : Nat) : Int) := ⟨_, rfl⟩
        obtain ⟨FD, hFD⟩ : ∃ v : Int, v = ((finger (zeros b.size).data.toList : Nat) : Int) := ⟨_, rfl⟩
        rw [← hFA, ← hFB, ← hFC, ← hFD] at hs
        have HS := Lib.hid hs
        have CA := Lib.hid (show ∀ w, Calls Try.prog 16 #[.string (a.extract 0 b.size)] w fun e w' => e = .returned (.int .u64 FA) ∧ w' = w from fun w => by rw [hFA]; exact of_q _ w s1)
        have CB := Lib.hid (show ∀ w, Calls Try.prog 16 #[.string (b)] w fun e w' => e = .returned (.int .u64 FB) ∧ w' = w from fun w => by rw [hFB]; exact of_q _ w s2)
        have CC := Lib.hid (show ∀ w, Calls Try.prog 16 #[.string (zipped a b b.size)] w fun e w' => e = .returned (.int .u64 FC) ∧ w' = w from fun w => by rw [hFC]; exact of_q _ w (by rw [z1]; unfold maxLen; omega))
        have CD := Lib.hid (show ∀ w, Calls Try.prog 16 #[.string (zeros b.size)] w fun e w' => e = .returned (.int .u64 FD) ∧ w' = w from fun w => by rw [hFD]; exact of_q _ w (by rw [z2]; unfold maxLen; omega))
        obtain ⟨T1, hT1⟩ : ∃ T, T = zipped a b b.size := ⟨_, rfl⟩
        obtain ⟨T2, hT2⟩ : ∃ T, T = zeros b.size := ⟨_, rfl⟩
        rw [← hT1] at k1 CC
        rw [← hT2] at k2 CD
        clear hs hFA hFB hFC hFD hT1 hT2
        clear s1 s2 hlt hk z1 z2
        have i1 := HNA.out
        have i2 := HNB.out
        have i3 : (b.size : Int) ≤ (a.size : Int) := by omega
        have i4 : (b.size : Int) ≤ (b.size : Int) := by omega
        go_wp2_with fail
        go_quiet (first | (go_at_call 16; with_reducible refine Calls.quiet_of_same (CA.out _)) | (go_at_call 16; with_reducible refine Calls.quiet_of_same (CB.out _)) | (go_at_call 16; with_reducible refine Calls.quiet_of_same (CC.out _)) | (go_at_call 16; with_reducible refine Calls.quiet_of_same (CD.out _)))
        go_wp2
        go_ret
        exact ⟨ret_bool (by rw [HS.out]; simp), below_drewN HBW.out nq⟩
  · obtain ⟨h1, h2, h3, h4, h5⟩ := two_made HM.out HB1.out
    obtain ⟨W3, hW3⟩ : ∃ W, W = M (M w1.drew) := ⟨_, rfl⟩
    rw [← hW3] at h1 h2 h3 ⊢
    obtain ⟨GB, hg2⟩ : ∃ g, g = (M w1.drew).heap.size := ⟨_, rfl⟩
    rw [← hg2] at h2 h4 ⊢
    obtain ⟨GA, hg1⟩ : ∃ g, g = w1.heap.size := ⟨_, rfl⟩
    rw [← hg1] at h1 h4 h5 ⊢
    clear hg1 hg2 hW3 hM
    have HA := Lib.hid h1
    have HB := Lib.hid h2
    have HC := Lib.hid h3
    have HD := Lib.hid h4
    have HE := Lib.hid h5
    clear h1 h2 h3 h4 h5
    go_wp2
    go_loopw [8] (fun i wr => ∃ k : Nat, k ≤ b.size ∧ i = .int .i64 k ∧ Row wr GB b.size k a b ∧ Holds wr GA (List.replicate b.size 0) ∧ Below w.heap.size w wr) (fun i _ => b.size - (intOf i).toNat)
    case atStart => exact ⟨0, Nat.zero_le _, rfl, Row.start HB.out, HA.out, HC.out⟩
    case round =>
      obtain ⟨k, hk, rfl, hr, hn, hb'⟩ := hrel
      have HR := Lib.hid hr
      have HN := Lib.hid hn
      have HBW := Lib.hid hb'
      clear hr hn hb'
      by_cases hlt : k < b.size
      · obtain ⟨⟨x, hc⟩, hf⟩ := HR.out.cell k hlt
        have ka : k < a.size := by omega
        have kb : k < b.size := by omega
        go_wp2_with fail
        go_region
        go_wp2
        go_roundw
        case rel => exact ⟨k + 1, by omega, by go_num, HR.out.next hlt ka kb, HN.out.apart (by have := HD.out; omega) _ _, (HBW.out.setCell (p := ⟨GB, k, none⟩) (by have := HD.out; have := HE.out; show w.heap.size ≤ GB; omega) _).drew⟩
        case measure => simp [intOf]; omega
      · obtain rfl : k = b.size := by omega
        have F1 := HR.out.full HNA.out HNB.out
        have k1 := fun m => (F1.drewN m).str (zipped a b b.size) rfl (zipped_size a b b.size HNA.out HNB.out)
        have k2 := fun m => (HN.out.drewN m).str (zeros b.size) rfl (zeros_size b.size)
        clear F1
        have z1 := zipped_size a b b.size HNA.out HNB.out
        have z2 := zeros_size b.size
        have s1 : (a.extract 0 b.size).size ≤ maxLen := by (try simp only [ByteArray.size_extract]); unfold maxLen; omega
        have s2 : (b).size ≤ maxLen := by (try simp only [ByteArray.size_extract]); unfold maxLen; omega
        have hs := sums_nat a b b.size HNA.out HNB.out
        have e0 : b.extract 0 b.size = b := by simp
        rw [e0] at hs
        clear e0
        obtain ⟨FA, hFA⟩ : ∃ v : Int, v = ((finger (a.extract 0 b.size).data.toList : Nat) : Int) := ⟨_, rfl⟩
        obtain ⟨FB, hFB⟩ : ∃ v : Int, v = ((finger (b).data.toList : Nat) : Int) := ⟨_, rfl⟩
        obtain ⟨FC, hFC⟩ : ∃ v : Int, v = ((finger (zipped a b b.size).data.toList : Nat) : Int) := ⟨_, rfl⟩
        obtain ⟨FD, hFD⟩ : ∃ v : Int, v = ((finger (zeros b.size).data.toList : Nat) : Int) := ⟨_, rfl⟩
        rw [← hFA, ← hFB, ← hFC, ← hFD] at hs
        have HS := Lib.hid hs
        have CA := Lib.hid (show ∀ w, Calls Try.prog 16 #[.string (a.extract 0 b.size)] w fun e w' => e = .returned (.int .u64 FA) ∧ w' = w from fun w => by rw [hFA]; exact of_q _ w s1)
        have CB := Lib.hid (show ∀ w, Calls Try.prog 16 #[.string (b)] w fun e w' => e = .returned (.int .u64 FB) ∧ w' = w from fun w => by rw [hFB]; exact of_q _ w s2)
        have CC := Lib.hid (show ∀ w, Calls Try.prog 16 #[.string (zipped a b b.size)] w fun e w' => e = .returned (.int .u64 FC) ∧ w' = w from fun w => by rw [hFC]; exact of_q _ w (by rw [z1]; unfold maxLen; omega))
        have CD := Lib.hid (show ∀ w, Calls Try.prog 16 #[.string (zeros b.size)] w fun e w' => e = .returned (.int .u64 FD) ∧ w' = w from fun w => by rw [hFD]; exact of_q _ w (by rw [z2]; unfold maxLen; omega))
        obtain ⟨T1, hT1⟩ : ∃ T, T = zipped a b b.size := ⟨_, rfl⟩
        obtain ⟨T2, hT2⟩ : ∃ T, T = zeros b.size := ⟨_, rfl⟩
        rw [← hT1] at k1 CC
        rw [← hT2] at k2 CD
        clear hs hFA hFB hFC hFD hT1 hT2
        clear s1 s2 hlt hk z1 z2
        have i1 := HNA.out
        have i2 := HNB.out
        have i3 : (b.size : Int) ≤ (a.size : Int) := by omega
        have i4 : (b.size : Int) ≤ (b.size : Int) := by omega
        go_wp2_with fail
        go_quiet (first | (go_at_call 16; with_reducible refine Calls.quiet_of_same (CA.out _)) | (go_at_call 16; with_reducible refine Calls.quiet_of_same (CB.out _)) | (go_at_call 16; with_reducible refine Calls.quiet_of_same (CC.out _)) | (go_at_call 16; with_reducible refine Calls.quiet_of_same (CD.out _)))
        go_wp2
        go_ret
        exact ⟨ret_bool (by rw [HS.out]; simp), below_drewN HBW.out nq⟩
set_option maxHeartbeats 1000000 in
theorem sums_c (a b : ByteArray) (w : World) (ha : a.size ≤ 9223372036854775807) (hb : b.size ≤ 9223372036854775807) (hx : 40 < a.size) (hx40 : 40 < b.size) :
    Calls Try.prog 8 #[.string a, .string b] w fun e w' => e = .returned (.bool true) ∧ Below w.heap.size w w' := by
  obtain ⟨M, hM, hMM⟩ := makes 40 40 rfl (by omega)
  have HM := Lib.hid hMM
  clear hMM
  have HNA : Hid (40 ≤ a.size) := Lib.hid (by omega)
  have HNB : Hid (40 ≤ b.size) := Lib.hid (by omega)
  go_enter Try.func8, Try.ntmps8
  go_wp2_with fail
  refine (begun_any _).mono ?_; rintro e w1 ⟨rfl, hb1⟩
  have HB1 := Lib.hid hb1
  clear hb1
  go_wp2_with fail
  go_region
  · obtain ⟨h1, h2, h3, h4, h5⟩ := two_made HM.out HB1.out
    obtain ⟨W3, hW3⟩ : ∃ W, W = M (M w1.drew) := ⟨_, rfl⟩
    rw [← hW3] at h1 h2 h3 ⊢
    obtain ⟨GB, hg2⟩ : ∃ g, g = (M w1.drew).heap.size := ⟨_, rfl⟩
    rw [← hg2] at h2 h4 ⊢
    obtain ⟨GA, hg1⟩ : ∃ g, g = w1.heap.size := ⟨_, rfl⟩
    rw [← hg1] at h1 h4 h5 ⊢
    clear hg1 hg2 hW3 hM
    have HA := Lib.hid h1
    have HB := Lib.hid h2
    have HC := Lib.hid h3
    have HD := Lib.hid h4
    have HE := Lib.hid h5
    clear h1 h2 h3 h4 h5
    go_wp2
    go_loopw [8] (fun i wr => ∃ k : Nat, k ≤ 40 ∧ i = .int .i64 k ∧ Row wr GA 40 k a b ∧ Holds wr GB (List.replicate 40 0) ∧ Below w.heap.size w wr) (fun i _ => 40 - (intOf i).toNat)
    case atStart => exact ⟨0, Nat.zero_le _, rfl, Row.start HA.out, HB.out, HC.out⟩
    case round =>
      obtain ⟨k, hk, rfl, hr, hn, hb'⟩ := hrel
      have HR := Lib.hid hr
      have HN := Lib.hid hn
      have HBW := Lib.hid hb'
      clear hr hn hb'
      by_cases hlt : k < 40
      · obtain ⟨⟨x, hc⟩, hf⟩ := HR.out.cell k hlt
        have ka : k < a.size := by omega
        have kb : k < b.size := by omega
        go_wp2_with fail
        go_region
        go_wp2
        go_roundw
        case rel => exact ⟨k + 1, by omega, by go_num, HR.out.next hlt ka kb, HN.out.apart (by have := HD.out; omega) _ _, (HBW.out.setCell (p := ⟨GA, k, none⟩) (by have := HD.out; have := HE.out; show w.heap.size ≤ GA; omega) _).drew⟩
        case measure => simp [intOf]; omega
      · obtain rfl : k = 40 := by omega
        have F1 := HR.out.full HNA.out HNB.out
        have k1 := fun m => (F1.drewN m).str (zipped a b 40) rfl (zipped_size a b 40 HNA.out HNB.out)
        have k2 := fun m => (HN.out.drewN m).str (zeros 40) rfl (zeros_size 40)
        clear F1
        have z1 := zipped_size a b 40 HNA.out HNB.out
        have z2 := zeros_size 40
        have s1 : (a.extract 0 40).size ≤ maxLen := by (try simp only [ByteArray.size_extract]); unfold maxLen; omega
        have s2 : (b.extract 0 40).size ≤ maxLen := by (try simp only [ByteArray.size_extract]); unfold maxLen; omega
        have hs := sums_nat a b 40 HNA.out HNB.out
        obtain ⟨FA, hFA⟩ : ∃ v : Int, v = ((finger (a.extract 0 40).data.toList : Nat) : Int) := ⟨_, rfl⟩
        obtain ⟨FB, hFB⟩ : ∃ v : Int, v = ((finger (b.extract 0 40).data.toList : Nat) : Int) := ⟨_, rfl⟩
        obtain ⟨FC, hFC⟩ : ∃ v : Int, v = ((finger (zipped a b 40).data.toList : Nat) : Int) := ⟨_, rfl⟩
        obtain ⟨FD, hFD⟩ : ∃ v : Int, v = ((finger (zeros 40).data.toList : Nat) : Int) := ⟨_, rfl⟩
        rw [← hFA, ← hFB, ← hFC, ← hFD] at hs
        have HS := Lib.hid hs
        have CA := Lib.hid (show ∀ w, Calls Try.prog 16 #[.string (a.extract 0 40)] w fun e w' => e = .returned (.int .u64 FA) ∧ w' = w from fun w => by rw [hFA]; exact of_q _ w s1)
        have CB := Lib.hid (show ∀ w, Calls Try.prog 16 #[.string (b.extract 0 40)] w fun e w' => e = .returned (.int .u64 FB) ∧ w' = w from fun w => by rw [hFB]; exact of_q _ w s2)
        have CC := Lib.hid (show ∀ w, Calls Try.prog 16 #[.string (zipped a b 40)] w fun e w' => e = .returned (.int .u64 FC) ∧ w' = w from fun w => by rw [hFC]; exact of_q _ w (by rw [z1]; unfold maxLen; omega))
        have CD := Lib.hid (show ∀ w, Calls Try.prog 16 #[.string (zeros 40)] w fun e w' => e = .returned (.int .u64 FD) ∧ w' = w from fun w => by rw [hFD]; exact of_q _ w (by rw [z2]; unfold maxLen; omega))
        obtain ⟨T1, hT1⟩ : ∃ T, T = zipped a b 40 := ⟨_, rfl⟩
        obtain ⟨T2, hT2⟩ : ∃ T, T = zeros 40 := ⟨_, rfl⟩
        rw [← hT1] at k1 CC
        rw [← hT2] at k2 CD
        clear hs hFA hFB hFC hFD hT1 hT2
        clear s1 s2 hlt hk z1 z2
        have i1 := HNA.out
        have i2 := HNB.out
        have i3 : (40 : Int) ≤ (a.size : Int) := by omega
        have i4 : (40 : Int) ≤ (b.size : Int) := by omega
        go_wp2_with fail
        go_quiet (first | (go_at_call 16; with_reducible refine Calls.quiet_of_same (CA.out _)) | (go_at_call 16; with_reducible refine Calls.quiet_of_same (CB.out _)) | (go_at_call 16; with_reducible refine Calls.quiet_of_same (CC.out _)) | (go_at_call 16; with_reducible refine Calls.quiet_of_same (CD.out _)))
        go_wp2
        go_ret
        exact ⟨ret_bool (by rw [HS.out]; simp), below_drewN HBW.out nq⟩
  · obtain ⟨h1, h2, h3, h4, h5⟩ := two_made HM.out HB1.out
    obtain ⟨W3, hW3⟩ : ∃ W, W = M (M w1.drew) := ⟨_, rfl⟩
    rw [← hW3] at h1 h2 h3 ⊢
    obtain ⟨GB, hg2⟩ : ∃ g, g = (M w1.drew).heap.size := ⟨_, rfl⟩
    rw [← hg2] at h2 h4 ⊢
    obtain ⟨GA, hg1⟩ : ∃ g, g = w1.heap.size := ⟨_, rfl⟩
    rw [← hg1] at h1 h4 h5 ⊢
    clear hg1 hg2 hW3 hM
    have HA := Lib.hid h1
    have HB := Lib.hid h2
    have HC := Lib.hid h3
    have HD := Lib.hid h4
    have HE := Lib.hid h5
    clear h1 h2 h3 h4 h5
    go_wp2
    go_loopw [8] (fun i wr => ∃ k : Nat, k ≤ 40 ∧ i = .int .i64 k ∧ Row wr GB 40 k a b ∧ Holds wr GA (List.replicate 40 0) ∧ Below w.heap.size w wr) (fun i _ => 40 - (intOf i).toNat)
    case atStart => exact ⟨0, Nat.zero_le _, rfl, Row.start HB.out, HA.out, HC.out⟩
    case round =>
      obtain ⟨k, hk, rfl, hr, hn, hb'⟩ := hrel
      have HR := Lib.hid hr
      have HN := Lib.hid hn
      have HBW := Lib.hid hb'
      clear hr hn hb'
      by_cases hlt : k < 40
      · obtain ⟨⟨x, hc⟩, hf⟩ := HR.out.cell k hlt
        have ka : k < a.size := by omega
        have kb : k < b.size := by omega
        go_wp2_with fail
        go_region
        go_wp2
        go_roundw
        case rel => exact ⟨k + 1, by omega, by go_num, HR.out.next hlt ka kb, HN.out.apart (by have := HD.out; omega) _ _, (HBW.out.setCell (p := ⟨GB, k, none⟩) (by have := HD.out; have := HE.out; show w.heap.size ≤ GB; omega) _).drew⟩
        case measure => simp [intOf]; omega
      · obtain rfl : k = 40 := by omega
        have F1 := HR.out.full HNA.out HNB.out
        have k1 := fun m => (F1.drewN m).str (zipped a b 40) rfl (zipped_size a b 40 HNA.out HNB.out)
        have k2 := fun m => (HN.out.drewN m).str (zeros 40) rfl (zeros_size 40)
        clear F1
        have z1 := zipped_size a b 40 HNA.out HNB.out
        have z2 := zeros_size 40
        have s1 : (a.extract 0 40).size ≤ maxLen := by (try simp only [ByteArray.size_extract]); unfold maxLen; omega
        have s2 : (b.extract 0 40).size ≤ maxLen := by (try simp only [ByteArray.size_extract]); unfold maxLen; omega
        have hs := sums_nat a b 40 HNA.out HNB.out
        obtain ⟨FA, hFA⟩ : ∃ v : Int, v = ((finger (a.extract 0 40).data.toList : Nat) : Int) := ⟨_, rfl⟩
        obtain ⟨FB, hFB⟩ : ∃ v : Int, v = ((finger (b.extract 0 40).data.toList : Nat) : Int) := ⟨_, rfl⟩
        obtain ⟨FC, hFC⟩ : ∃ v : Int, v = ((finger (zipped a b 40).data.toList : Nat) : Int) := ⟨_, rfl⟩
        obtain ⟨FD, hFD⟩ : ∃ v : Int, v = ((finger (zeros 40).data.toList : Nat) : Int) := ⟨_, rfl⟩
        rw [← hFA, ← hFB, ← hFC, ← hFD] at hs
        have HS := Lib.hid hs
        have CA := Lib.hid (show ∀ w, Calls Try.prog 16 #[.string (a.extract 0 40)] w fun e w' => e = .returned (.int .u64 FA) ∧ w' = w from fun w => by rw [hFA]; exact of_q _ w s1)
        have CB := Lib.hid (show ∀ w, Calls Try.prog 16 #[.string (b.extract 0 40)] w fun e w' => e = .returned (.int .u64 FB) ∧ w' = w from fun w => by rw [hFB]; exact of_q _ w s2)
        have CC := Lib.hid (show ∀ w, Calls Try.prog 16 #[.string (zipped a b 40)] w fun e w' => e = .returned (.int .u64 FC) ∧ w' = w from fun w => by rw [hFC]; exact of_q _ w (by rw [z1]; unfold maxLen; omega))
        have CD := Lib.hid (show ∀ w, Calls Try.prog 16 #[.string (zeros 40)] w fun e w' => e = .returned (.int .u64 FD) ∧ w' = w from fun w => by rw [hFD]; exact of_q _ w (by rw [z2]; unfold maxLen; omega))
        obtain ⟨T1, hT1⟩ : ∃ T, T = zipped a b 40 := ⟨_, rfl⟩
        obtain ⟨T2, hT2⟩ : ∃ T, T = zeros 40 := ⟨_, rfl⟩
        rw [← hT1] at k1 CC
        rw [← hT2] at k2 CD
        clear hs hFA hFB hFC hFD hT1 hT2
        clear s1 s2 hlt hk z1 z2
        have i1 := HNA.out
        have i2 := HNB.out
        have i3 : (40 : Int) ≤ (a.size : Int) := by omega
        have i4 : (40 : Int) ≤ (b.size : Int) := by omega
        go_wp2_with fail
        go_quiet (first | (go_at_call 16; with_reducible refine Calls.quiet_of_same (CA.out _)) | (go_at_call 16; with_reducible refine Calls.quiet_of_same (CB.out _)) | (go_at_call 16; with_reducible refine Calls.quiet_of_same (CC.out _)) | (go_at_call 16; with_reducible refine Calls.quiet_of_same (CD.out _)))
        go_wp2
        go_ret
        exact ⟨ret_bool (by rw [HS.out]; simp), below_drewN HBW.out nq⟩
theorem sums_law_wf (a b : ByteArray) (w : World) (w0 : a.size ≤ maxLen) (w1 : b.size ≤ maxLen) :
    Calls Try.prog 8 #[.string a, .string b] w fun e w' => e = .returned (.bool true) ∧ Below w.heap.size w w' := by
  unfold maxLen at w0 w1
  by_cases h : a.size ≤ b.size ∧ a.size ≤ 40
  · exact sums_a a b w (by omega) (by omega) h.1 h.2
  · by_cases g : b.size < a.size ∧ b.size ≤ 40
    · exact sums_b a b w (by omega) (by omega) g.1 g.2
    · exact sums_c a b w (by omega) (by omega) (by omega) (by omega)
end Fin
end Go.Proofs.Ythndacjncepbdaa
