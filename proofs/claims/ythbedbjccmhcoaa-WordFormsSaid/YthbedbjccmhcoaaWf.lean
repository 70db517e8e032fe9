/-
  What the machine asks of the program of layer 7, beside a variable that holds some integer. No condition.
-/
import Derived.Test.YthbedbjccmhcoaaWx
namespace Go.Proofs.Ythbedbjccmhcoaa
open Go.RowKit
namespace Wf
open Eng
set_option linter.unusedVariables false
set_option maxRecDepth 1000000
set_option maxHeartbeats 0
theorem mixed : Try.prog.follows .mixedOrders = true := by decide +kernel
theorem nums : noNum Try.prog = true := by decide +kernel
theorem idx_fact : ExtFact Try.prog 51 Extern.BytealgIndexByte.indexByte :=
  ⟨_, Try.func51, by kernel_rfl, by kernel_rfl, by kernel_rfl, by kernel_rfl⟩
noncomputable def exts : ExtF := extT [(51, .idx)]
theorem exts_ok : ExtOK Try.prog exts := extT_ok fun f k h => by
  simp only [List.mem_cons, List.not_mem_nil, or_false, Prod.mk.injEq] at h
  obtain ⟨rfl, rfl⟩ := h
  exact idx_fact
/-- The variable: some integer. -/
noncomputable def gw0 : AO := .cells 0 none true [.anyi .i64]
noncomputable def h0 : T AO := .n .e (some gw0) .e
noncomputable abbrev gl : T AV := Wx.gl
def Laid (w : World) : Prop := ∃ m e fr, w.heap[0]? = some (.cells #[.int .i64 m] e fr)
noncomputable def I0 : In := fun id => if id = 0 then some (0, 0, 1) else none
theorem h0_get (id : Nat) (o : AO) (h : h0.get id = some o) : id = 0 ∧ o = gw0 := by
  have hp : T.putS 64 0 (some gw0) (.e : T AO) = some h0 := by kernel_rfl
  rw [T.get_eq, T.get_putS _ _ _ _ _ hp id] at h
  split at h
  · rename_i e; cases h; exact ⟨e, rfl⟩
  · rw [← T.get_eq, T.get_e] at h; cases h
theorem laid_args {call : CallF} (hc : CallOK gl Try.prog call) {f : Nat} {b : Bool} {h : T AO} {nx : Nat} (hb : hasB Try.prog f = true) (e : call f [] h0 1 = some (.bool b, h, nx)) (w : World) (hw : Laid w) :
    Calls Try.prog f #[] w fun e w' => e = .returned (.bool b) ∧ Below w.heap.size w w' := by
  obtain ⟨m, e0, fr, hw⟩ := hw
  have hI : ∀ id b t, I0 id = some (b, t) → id = 0 ∧ b = 0 ∧ t = (0, 1) := fun id b t h => by
    unfold I0 at h
    split at h
    · rename_i e; cases h; exact ⟨e, rfl, rfl⟩
    · cases h
  refine closed_args hc hb e w I0 .nil (fun id o b t h1 h2 => ?_) (fun id id' o o' b t t' h1 h2 h3 h4 => by rw [(hI _ _ _ h3).1, (hI _ _ _ h4).1]) (fun id x h => ?_) (Wx.gl_ok (by unfold I0; rw [if_pos rfl]))
  · obtain ⟨rfl, rfl⟩ := h0_get _ _ h1
    obtain ⟨_, rfl, rfl⟩ := hI _ _ _ h2
    refine ⟨rfl, _, hw, ?_⟩
    have := OR.cells (I := I0) (t := (0, 1)) (elem := 0) (elem' := e0) (fz := none) (g := true) (pre := []) (vs := [.int .i64 m]) (rest := []) (fr := fr) (.cons (.anyi (k := .i64) (n := m)) .nil) (fun h => by cases h) rfl rfl (fun f hf => by cases hf) (.inr ⟨rfl, rfl⟩)
    exact this
  · obtain ⟨b, t⟩ := x
    have := (hI _ _ _ h).1
    omega
theorem law_of {call : CallF} (hc : CallOK gl Try.prog call) {f : Nat} {b : Bool} {h : T AO} {nx : Nat} (hb : hasB Try.prog f = true) (e : call f [] h0 1 = some (.bool b, h, nx)) (w : World) (hw : Laid w) :
    Calls Try.prog f #[] w fun e w' => e = .returned (.bool b) ∧ Below w.heap.size w w' := laid_args hc hb e w hw
/-- What the form says of every world. -/
theorem laid_of {w : World} (h : w.ShapedOpen Try.prog) : Laid w :=
  Wx.int_laid (t := 3) (zero := #[.int .i64 0]) (k := .i64) h (by decide +kernel) (by kernel_rfl) (by rfl) (by kernel_rfl) (by kernel_rfl) Try.underlying3
end Wf
end Go.Proofs.Ythbedbjccmhcoaa
