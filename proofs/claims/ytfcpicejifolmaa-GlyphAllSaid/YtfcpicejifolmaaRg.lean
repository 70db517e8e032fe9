/-
  rec.Join: its contract. No condition but that the texts are short.
-/
import Derived.Test.YtfcpicejifolmaaRj
import Derived.Handy
namespace Go.Proofs.Ytfcpicejifolmaa
open Go.ChangeShapes Go.WideShapes Go.ChangeAt Go.RowKit
namespace Rv
set_option linter.unusedVariables false
set_option linter.unusedSimpArgs false
def cat (l : List Rc) : List UInt8 := l.flatMap fun r => r.raw
theorem cat_take (l : List Rc) (k : Nat) (r : Rc) (h : l[k]? = some r) : cat (l.take (k + 1)) = cat (l.take k) ++ r.raw := by
  have hk := (List.getElem?_eq_some_iff.1 h)
  obtain ⟨h1, h2⟩ := hk
  rw [List.take_succ_eq_append_getElem h1, h2]
  simp [cat]
theorem bc_str (s : List UInt8) : Lib.strCells (bin s) = Lib.byteCells s := by
  simp [Lib.strCells, Lib.byteCells, bin]
theorem bc_app (a b : List UInt8) : Lib.byteCells (a ++ b) = Lib.byteCells a ++ Lib.byteCells b := by simp [Lib.byteCells]
theorem bc_len (a : List UInt8) : (Lib.byteCells a).length = a.length := by simp [Lib.byteCells]
theorem isb_alloc {T e B b : Nat} {bs : List Value} {w : World} (h : Lib.IsBuilder T e B b bs w) (o : Obj) : Lib.IsBuilder T e B b bs (w.alloc o) := by
  have key : ∀ p, Lib.BuilderAt T e B b p bs w → Lib.BuilderAt T e B b p bs (w.alloc o) := fun p h => by
    have hlt := h.lt
    obtain ⟨hB, v, hbk, hown, hne⟩ := h
    exact ⟨hB, v, by rw [Lib.alloc_old _ _ _ hlt]; exact hbk, hown.alloc o, hne⟩
  rcases h with h | h
  · exact .inl (key _ h)
  · exact .inr (key _ h)
set_option maxHeartbeats 2000000 in
set_option maxRecDepth 100000 in
theorem join_nil (w : World) :
    Calls Try.prog 25 #[.slice none 0 0] w fun e w' => e = .returned (.string (bin [])) ∧ Below w.heap.size w w' := by
  have HB := Lib.hid (Lib.fresh_isBuilder 63 5 w)
  have cS := Lib.hid (fun W (h : Lib.IsBuilder 63 5 w.heap.size w.heap.size (Lib.byteCells []) W) (hB : w.heap.size ≤ W.heap.size) => bstring_any w.heap.size w.heap.size [] W h hB)
  go_enter Try.func25, Try.ntmps25
  go_wp2_with fail
  go_loopw [8] (fun x W => x = .int .i64 0 ∧ Lib.IsBuilder 63 5 w.heap.size w.heap.size (Lib.byteCells []) W ∧ Below w.heap.size w W) (fun _ _ => 0)
  case atStart => exact ⟨rfl, HB.out, (Below.refl _ _).alloc (Nat.le_refl _) _⟩
  case round =>
    obtain ⟨rfl, hi, hb⟩ := hrel
    have HI := Lib.hid hi
    have HL := Lib.hid hb
    clear hi hb
    go_wp2_with (go_at_call 41; refine (cS.out _ HI.out HL.out.size).mono ?_; rintro e w2 ⟨rfl, hb2⟩)
    go_ret
    exact ⟨rfl, HL.out.trans hb2⟩
set_option maxHeartbeats 2000000 in
set_option maxRecDepth 100000 in
theorem join_some (l : List Rc) (base g cap : Nat) (w : World) (hr : RRow w base 30 (.slice (some ⟨g, 0, none⟩) l.length cap) l) (hg : g < w.heap.size) (hl : l.length ≤ 1000) (hc : (cat l).length ≤ 5000) (hk : ∀ k, (cat (l.take k)).length ≤ 5000) :
    Calls Try.prog 25 #[.slice (some ⟨g, 0, none⟩) l.length cap] w fun e w' => e = .returned (.string (bin (cat l))) ∧ Below w.heap.size w w' := by
  have HB := Lib.hid (Lib.fresh_isBuilder 63 5 w)
  have HR := Lib.hid hr
  have HK := Lib.hid hk
  clear hr hk hc
  go_enter Try.func25, Try.ntmps25
  go_wp2_with fail
  go_loopw [8] (fun x W => ∃ k : Nat, x = .int .i64 k ∧ k ≤ l.length ∧ Lib.IsBuilder 63 5 w.heap.size w.heap.size (Lib.byteCells (cat (l.take k))) W ∧ Below w.heap.size w W) (fun x _ => l.length - (intOf x).toNat)
  case atStart => exact ⟨0, rfl, Nat.zero_le _, HB.out, (Below.refl _ _).alloc (Nat.le_refl _) _⟩
  case round =>
    obtain ⟨k, rfl, hk, hi, hb⟩ := hrel
    have HI := Lib.hid hi
    have HL := Lib.hid hb
    have HS := Lib.hid hb.size
    clear hi hb
    by_cases hlt : k < l.length
    · obtain ⟨r, hrk⟩ : ∃ r, l[k]? = some r := ⟨_, List.getElem?_eq_getElem hlt⟩
      have hold : ∀ j u, (rcells r)[j]? = some u → wr.cell? ⟨g, k * 5 + j, none⟩ = some u := fun j u hj => (HL.out.cell (p := ⟨g, k * 5 + j, none⟩) hg).trans (HR.out.cell k j hrk hj)
      have q0 := hold 0 _ rfl
      rw [Nat.add_zero] at q0
      have q1 := hold 1 _ rfl
      have q2 := hold 2 _ rfl
      have q3 := hold 3 _ rfl
      have q4 := hold 4 _ rfl
      have HN := Lib.hid (cat_take l k r hrk)
      have HRK := Lib.hid hrk
      clear hold hrk
      have hcl := HK.out k
      have cW := Lib.hid (fun W (h : Lib.IsBuilder 63 5 w.heap.size w.heap.size (Lib.byteCells (cat (l.take k))) W) (hB : w.heap.size ≤ W.heap.size) => wstr_any w.heap.size w.heap.size _ (bin r.raw) W h (by have h2 := HK.out (k + 1); rw [HN.out, List.length_append] at h2; rw [bc_len, bin_size]; omega) hB)
      go_wp2_with (go_at_call 40; refine (cW.out _ (isb_alloc HI.out _) (by have := HS.out; simp; omega)).mono ?_; rintro e w2 ⟨rfl, hat, hb2⟩)
      have HA := Lib.hid hat
      have HB2 := Lib.hid ((HL.out.alloc HS.out _).trans hb2)
      clear hat hb2
      go_roundw
      case rel => exact ⟨k + 1, by go_num, hlt, by rw [HN.out, bc_app, ← bc_str]; exact Or.inr HA.out, HB2.out⟩
      case measure => simp [intOf]; omega
    · obtain rfl : k = l.length := by omega
      have cS := Lib.hid (fun W (h : Lib.IsBuilder 63 5 w.heap.size w.heap.size (Lib.byteCells (cat (l.take l.length))) W) (hB : w.heap.size ≤ W.heap.size) => bstring_any w.heap.size w.heap.size (cat (l.take l.length)) W h hB)
      rw [List.take_length] at cS HI
      go_wp2_with (go_at_call 41; refine (cS.out _ HI.out HS.out).mono ?_; rintro e w2 ⟨rfl, hb2⟩)
      go_ret
      exact ⟨rfl, HL.out.trans hb2⟩
end Rv
end Go.Proofs.Ytfcpicejifolmaa
