/-
  What the machine asks of the program beside the two errors that strconv has laid. No condition.
-/
import Derived.Test.YtldhaghgonkknaaDoorProg
import Derived.Test.YtldhaghgonkknaaDoorEng9
namespace Go.Proofs.YtldhaghgonkknaaDoor
open Go.RowKit
namespace Js
open Old
set_option linter.unusedVariables false
set_option maxRecDepth 1000000
set_option maxHeartbeats 0
theorem mixed : Tryd.prog.follows .mixedOrders = true := by decide +kernel
theorem nums : noNum Tryd.prog = true := by decide +kernel
theorem same_fact : ExtFact Tryd.prog 67 Extern.AbiNoEscape.same :=
  ⟨_, Tryd.func67, by kernel_rfl, by kernel_rfl, by kernel_rfl, by kernel_rfl⟩
noncomputable def exts : ExtF := extT [(67, .same)]
theorem exts_ok : ExtOK Tryd.prog exts := extT_ok fun f k h => by
  simp only [List.mem_cons, List.not_mem_nil, or_false, Prod.mk.injEq] at h
  obtain ⟨rfl, rfl⟩ := h
  exact same_fact
/-- The two errors: some values of an interface type. -/
noncomputable def gw1 : AO := .cells 0 none true [.ifo]
noncomputable def gw2 : AO := .cells 0 none true [.ifo]
noncomputable def h1 : T AO := (.n (.n .e (some gw1) .e) none .e)
noncomputable def h0 : T AO := (.n (.n .e (some gw1) .e) none (.n .e (some gw2) .e))
noncomputable def g1 : T AV := (.n (.n .e none (.n (.n (.n (.n (.n .e none (.n (.n (.n .e none (.n (.n (.n (.n (.n .e none (.n (.n .e none (.n .e none (.n .e none (.n .e (some (.ptr (nat_lit 1) (nat_lit 0))) .e)))) none .e)) none .e) none .e) none .e) none .e)) none .e) none .e)) none .e) none .e) none .e) none .e)) none .e)
noncomputable def gl : T AV := (.n (.n .e none (.n (.n (.n (.n (.n .e none (.n (.n (.n .e none (.n (.n (.n (.n (.n .e none (.n (.n .e none (.n .e none (.n .e none (.n .e (some (.ptr (nat_lit 1) (nat_lit 0))) .e)))) none .e)) none .e) none .e) none .e) none .e)) none .e) none .e)) none .e) none .e) none .e) none .e)) none (.n .e none (.n (.n (.n (.n (.n .e none (.n (.n (.n .e none (.n (.n (.n (.n (.n .e none (.n (.n .e none (.n .e none (.n .e none (.n .e (some (.ptr (nat_lit 2) (nat_lit 0))) .e)))) none .e)) none .e) none .e) none .e) none .e)) none .e) none .e)) none .e) none .e) none .e) none .e)))
theorem g1_put : T.putS 64 1000001 (some (.ptr 1 0)) (.e : T AV) = some g1 := by kernel_rfl
theorem g2_put : T.putS 64 1000002 (some (.ptr 2 0)) g1 = some gl := by kernel_rfl
theorem h1_put : T.putS 64 1 (some gw1) (.e : T AO) = some h1 := by kernel_rfl
theorem h2_put : T.putS 64 2 (some gw2) h1 = some h0 := by kernel_rfl
/-- Where the two lie. -/
def Laid (w : World) : Prop := (∃ t v e fr, w.heap[1]? = some (.cells #[.iface t v] e fr)) ∧ ∃ t v e fr, w.heap[2]? = some (.cells #[.iface t v] e fr)
noncomputable def I0 : In := fun id => if id = 1 then some (1, 0, 1) else if id = 2 then some (2, 0, 1) else none
theorem I0_get {id b : Nat} {t : Nat × Nat} (h : I0 id = some (b, t)) : (id = 1 ∨ id = 2) ∧ b = id ∧ t = (0, 1) := by
  unfold I0 at h
  split at h
  · rename_i e; cases h; exact ⟨.inl e, e.symm, rfl⟩
  · split at h
    · rename_i e; cases h; exact ⟨.inr e, e.symm, rfl⟩
    · cases h
theorem h0_get (id : Nat) (o : AO) (h : h0.get id = some o) : (id = 1 ∨ id = 2) ∧ o = .cells 0 none true [.ifo] := by
  rw [T.get_eq, T.get_putS _ _ _ _ _ h2_put id] at h
  split at h
  · rename_i e; cases h; exact ⟨.inr e, rfl⟩
  · rw [T.get_putS _ _ _ _ _ h1_put id] at h
    split at h
    · rename_i e; cases h; exact ⟨.inl e, rfl⟩
    · rw [← T.get_eq, T.get_e] at h; cases h
theorem gl_ok {I : In} (h1 : I 1 = some (1, 0, 1)) (h2 : I 2 = some (2, 0, 1)) : GOK gl I := fun n a hn => by
  rw [T.get_eq, T.get_putS _ _ _ _ _ g2_put n] at hn
  split at hn
  · rename_i e
    cases hn
    subst e
    have e1 : 1000002 - gBase = 2 := by simp [gBase]
    rw [e1]
    exact ⟨by unfold gBase; omega, .ptr' h2 rfl⟩
  · rw [T.get_putS _ _ _ _ _ g1_put n] at hn
    split at hn
    · rename_i e
      cases hn
      subst e
      have e1 : 1000001 - gBase = 1 := by simp [gBase]
      rw [e1]
      exact ⟨by unfold gBase; omega, .ptr' h1 rfl⟩
    · rw [← T.get_eq, T.get_e] at hn; cases hn
theorem law_of {call : CallF} (hc : CallOK gl Tryd.prog call) {f : Nat} {b : Bool} {h : T AO} {nx : Nat} (hb : hasB Tryd.prog f = true) (e : call f [] h0 3 = some (.bool b, h, nx)) (w : World) (hw : Laid w) :
    Calls Tryd.prog f #[] w fun e w' => e = .returned (.bool b) ∧ Below w.heap.size w w' := by
  obtain ⟨⟨t1, v1, e1, fr1, hw1⟩, t2, v2, e2, fr2, hw2⟩ := hw
  have one : ∀ (t : TypeId) (v : Value) (e : TypeId) (fr : Nat × Nat), OR I0 (0, 1) (.cells 0 none true [.ifo]) (.cells #[.iface t v] e fr) := fun t v e fr => by
    have := OR.cells (I := I0) (t := (0, 1)) (elem := 0) (elem' := e) (fz := none) (g := true) (pre := []) (vs := [.iface t v]) (rest := []) (fr := fr) (.cons .ifo .nil) (fun h => by cases h) rfl rfl (fun f hf => by cases hf) (.inr ⟨rfl, rfl⟩)
    exact this
  refine closed_laid hc hb e w I0 (fun id o b t h1 h2 => ?_) (fun id id' o o' b t t' h1 h2 h3 h4 => by rw [← (I0_get h3).2.1, ← (I0_get h4).2.1]) (fun id b t h => ?_) (gl_ok (by unfold I0; rw [if_pos rfl]) (by unfold I0; rw [if_neg (by decide), if_pos rfl]))
  · obtain ⟨_, rfl⟩ := h0_get _ _ h1
    obtain ⟨hid, rfl, rfl⟩ := I0_get h2
    refine ⟨rfl, ?_⟩
    rcases hid with rfl | rfl
    · exact ⟨_, hw1, one _ _ _ _⟩
    · exact ⟨_, hw2, one _ _ _ _⟩
  · obtain ⟨hid, rfl, rfl⟩ := I0_get h
    rcases hid with rfl | rfl
    · exact ⟨by decide, (Array.getElem?_eq_some_iff.1 hw1).1⟩
    · exact ⟨by decide, (Array.getElem?_eq_some_iff.1 hw2).1⟩
noncomputable def idw : CallF → CallF := fun c => callS [] c
theorem begun_run : yes (callG Tryd.prog exts gl idw 100 5 [] h0 3) = true := by decide +kernel
/-- begun of layer 6, wherever the two errors lie. -/
theorem begun6 (w : World) (hw : Laid w) : Calls Tryd.prog 5 #[] w fun e w' => e = .returned (.bool true) ∧ Below w.heap.size w w' := by
  obtain ⟨h, nx, e⟩ := yes_ok begun_run
  exact law_of (callF_ok mixed exts_ok (noNum_ok nums) idw (fun _ h => callS_ok h _ (fun _ h => by cases h)) 100) (by kernel_rfl) e w hw
end Js
end Go.Proofs.YtldhaghgonkknaaDoor
