/-
  The cursor over a text: its byteAt and left: contracts. No condition but that the text is short.
-/
import Derived.Test.YthbedbjccmhcoaaJr
import Derived.Test.YthbedbjccmhcoaaSh
import Derived.Test.YthbedbjccmhcoaaWb
import Derived.Deep.QuietTactic
import Derived.Deep.RegionHeld3
import Derived.Handy
namespace Go.Proofs.Ythbedbjccmhcoaa
open Go.ChangeShapes Go.WideShapes Go.ChangeAt Go.RowKit
namespace Jn
set_option linter.unusedVariables false
set_option linter.unusedSimpArgs false
theorem Rd.drewN {w : World} {b : Nat} {s : ByteArray} {i : Nat} (h : Rd w b s i) (m : Nat) : Rd (w.drewN m) b s i := ⟨h.txt, h.pos, h.frz, h.lt⟩
theorem Bex.drewN {b : Nat} {x w : World} (h : Bex b x w) (m : Nat) : Bex b x (w.drewN m) := ⟨h.os, h.tape, h.output, h.size, h.block⟩
theorem Rd.step {w : World} {b : Nat} {s : ByteArray} {j : Nat} (h : Rd w b s j) : Rd (w.setCell ⟨b, 1, none⟩ (.int .i64 ((j : Int) + 1))) b s (j + 1) := by
  have := h.set (j + 1)
  rw [show ((j + 1 : Nat) : Int) = (j : Int) + 1 by omega] at this
  exact this
/-- Where the reader stands. -/
def posOf (w : World) (b : Nat) : Nat := match w.cell? ⟨b, 1, none⟩ with | some (.int _ q) => q.toNat | _ => 0
theorem Rd.posOf {w : World} {b : Nat} {s : ByteArray} {i : Nat} (h : Rd w b s i) : Jn.posOf w b = i := by unfold Jn.posOf; rw [h.pos]; simp
theorem drop_at {s : ByteArray} {j : Nat} (h : j < s.size) : s.data.toList.drop j = s[j] :: s.data.toList.drop (j + 1) := by
  have hl : j < s.data.toList.length := by simpa using h
  rw [List.drop_eq_getElem_cons hl]
  rfl
theorem Rd.off {w : World} {b : Nat} {s : ByteArray} {i : Nat} (h : Rd w b s i) {g : Nat} (hg : g ≠ b) (o : Nat) (u : Value) : Rd (w.setCell ⟨g, o, none⟩ u) b s i := by
  have e : (w.setCell ⟨g, o, none⟩ u).heap[b]? = w.heap[b]? := Below.heap_setCell w ⟨g, o, none⟩ u b (fun x => hg x.symm)
  have ec : ∀ o', (w.setCell ⟨g, o, none⟩ u).cell? ⟨b, o', none⟩ = w.cell? ⟨b, o', none⟩ := fun o' => World.cell?_of_block (w := w) e
  have ef : ∀ o', (w.setCell ⟨g, o, none⟩ u).frozen? ⟨b, o', none⟩ = w.frozen? ⟨b, o', none⟩ := fun o' => World.frozen?_of_block (w := w) e
  exact ⟨(ec 0).trans h.txt, (ec 1).trans h.pos, (ef 1).trans h.frz, by simpa using h.lt⟩
theorem Bex.off {b : Nat} {w W : World} (h : Bex b w W) {g : Nat} (hg : w.heap.size ≤ g) (o : Nat) (u : Value) : Bex b w (W.setCell ⟨g, o, none⟩ u) :=
  ⟨h.os, h.tape, h.output, by have := h.size; simpa using this, fun k hk hb => (Below.heap_setCell W ⟨g, o, none⟩ u k (by show k ≠ g; omega)).trans (h.block k hk hb)⟩
theorem Bex.alloc {b : Nat} {w : World} (o : Obj) : Bex b w (w.alloc o) := Bex.of_below ((Below.refl _ _).alloc (Nat.le_refl _) _)
/-- The byte at a place; nought behind the end. -/
def bt (s : ByteArray) (j : Nat) : Nat := if h : j < s.size then s[j].toNat else 0
theorem bt_lt (s : ByteArray) (j : Nat) : bt s j < 256 := by unfold bt; split; exact s[j].toNat_lt; omega
set_option maxHeartbeats 2000000 in
set_option maxRecDepth 100000 in
theorem byteAt_any (s : ByteArray) (i k b : Nat) (w : World) (h : Rd w b s i) (hi : i ≤ s.size) (hs : s.size ≤ 10000000) (hk : k ≤ 10000000) :
    Calls Try.prog 20 #[.pointer (some ⟨b, 0, none⟩), .int .i64 (k : Int)] w fun e w' => e = .returned (.int .u8 (bt s (i + k) : Nat)) ∧ Rd w' b s i ∧ Bex b w w' := by
  have H0 := Lib.hid h
  obtain ⟨r1, r2, r3, r4⟩ := h
  obtain ⟨j, hj⟩ : ∃ j, j = i + k := ⟨_, rfl⟩
  have hwr : IntKind.i64.wrap ((i : Int) + (k : Int)) = (j : Int) := by rw [IntWalk.i64_in _ (by omega)]; omega
  rw [← hj]
  clear hj
  by_cases hl : j < s.size
  · have hli : (j : Int) < (s.size : Int) := by omega
    have hb : bt s j = s[j].toNat := by unfold bt; rw [dif_pos hl]
    rw [hb]
    clear hb
    go_enter Try.func20, Try.ntmps20
    go_wp2_with fail
    go_quiet (fail)
    go_wp2_with fail
    go_quiet (fail)
    go_wp2
    go_ret
    exact ⟨rfl, (H0.out.drewN _).drewN _, ((Bex.refl b w).drewN _).drewN _⟩
  · have hli : ¬ (j : Int) < (s.size : Int) := by omega
    have hb : bt s j = 0 := by unfold bt; rw [dif_neg hl]
    rw [hb]
    clear hb hl
    go_enter Try.func20, Try.ntmps20
    go_wp2_with fail
    go_quiet (fail)
    go_wp2
    go_ret
    exact ⟨rfl, H0.out.drewN _, (Bex.refl b w).drewN _⟩
set_option maxHeartbeats 2000000 in
set_option maxRecDepth 100000 in
theorem left_any (s : ByteArray) (i b : Nat) (w : World) (h : Rd w b s i) (hi : i ≤ s.size) (hs : s.size ≤ 10000000) :
    Calls Try.prog 22 #[.pointer (some ⟨b, 0, none⟩)] w fun e w' => e = .returned (.string (s.extract i s.size)) ∧ Rd w' b s i ∧ Bex b w w' := by
  have H0 := Lib.hid h
  obtain ⟨r1, r2, r3, r4⟩ := h
  have b1 : (0 : Int) ≤ (i : Int) := by omega
  have b2 : (i : Int) ≤ (s.size : Int) := by omega
  go_enter Try.func22, Try.ntmps22
  go_wp2_with fail
  go_quiet (fail)
  go_wp2
  go_ret
  exact ⟨rfl, H0.out.drewN _, (Bex.refl b w).drewN _⟩
end Jn
end Go.Proofs.Ythbedbjccmhcoaa
