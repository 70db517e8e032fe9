/-
  What the machine asks of the program beside the kinds' words that avsc has laid. No condition.
-/
import Derived.Test.YtgbddkgjdeflkaaDoorProg
import Derived.Test.YtgbddkgjdeflkaaDoorEng9b
namespace Go.Proofs.YtgbddkgjdeflkaaDoor
open Go.RowKit
namespace Cn
open Eng
set_option linter.unusedVariables false
set_option maxRecDepth 1000000
set_option maxHeartbeats 0
theorem mixed : Tryd.prog.follows .mixedOrders = true := by decide +kernel
theorem nums : noNum Tryd.prog = true := by decide +kernel
theorem same_fact : ExtFact Tryd.prog 69 Extern.AbiNoEscape.same :=
  ⟨_, Tryd.func69, by kernel_rfl, by kernel_rfl, by kernel_rfl, by kernel_rfl⟩
noncomputable def exts : ExtF := extT [(69, .same)]
theorem exts_ok : ExtOK Tryd.prog exts := extT_ok fun f k h => by
  simp only [List.mem_cons, List.not_mem_nil, or_false, Prod.mk.injEq] at h
  obtain ⟨rfl, rfl⟩ := h
  exact same_fact
/-- The words, as the machine has them, and as the model has. -/
noncomputable def gw0 : AO := .cells 0 none true [.str [nat_lit 110, nat_lit 117, nat_lit 108, nat_lit 108], .str [nat_lit 98, nat_lit 111, nat_lit 111, nat_lit 108, nat_lit 101, nat_lit 97, nat_lit 110], .str [nat_lit 105, nat_lit 110, nat_lit 116], .str [nat_lit 108, nat_lit 111, nat_lit 110, nat_lit 103], .str [nat_lit 102, nat_lit 108, nat_lit 111, nat_lit 97, nat_lit 116], .str [nat_lit 100, nat_lit 111, nat_lit 117, nat_lit 98, nat_lit 108, nat_lit 101], .str [nat_lit 98, nat_lit 121, nat_lit 116, nat_lit 101, nat_lit 115], .str [nat_lit 115, nat_lit 116, nat_lit 114, nat_lit 105, nat_lit 110, nat_lit 103], .str [nat_lit 114, nat_lit 101, nat_lit 99, nat_lit 111, nat_lit 114, nat_lit 100], .str [nat_lit 101, nat_lit 110, nat_lit 117, nat_lit 109], .str [nat_lit 102, nat_lit 105, nat_lit 120, nat_lit 101, nat_lit 100], .str [nat_lit 97, nat_lit 114, nat_lit 114, nat_lit 97, nat_lit 121], .str [nat_lit 109, nat_lit 97, nat_lit 112], .str [nat_lit 117, nat_lit 110, nat_lit 105, nat_lit 111, nat_lit 110]]
noncomputable def words : Array Value := #[.string ⟨#[110, 117, 108, 108]⟩, .string ⟨#[98, 111, 111, 108, 101, 97, 110]⟩, .string ⟨#[105, 110, 116]⟩, .string ⟨#[108, 111, 110, 103]⟩, .string ⟨#[102, 108, 111, 97, 116]⟩, .string ⟨#[100, 111, 117, 98, 108, 101]⟩, .string ⟨#[98, 121, 116, 101, 115]⟩, .string ⟨#[115, 116, 114, 105, 110, 103]⟩, .string ⟨#[114, 101, 99, 111, 114, 100]⟩, .string ⟨#[101, 110, 117, 109]⟩, .string ⟨#[102, 105, 120, 101, 100]⟩, .string ⟨#[97, 114, 114, 97, 121]⟩, .string ⟨#[109, 97, 112]⟩, .string ⟨#[117, 110, 105, 111, 110]⟩]
noncomputable def h0 : T AO := .n .e (some gw0) .e
noncomputable def gl : T AV := (.n .e none (.n (.n (.n (.n (.n (.n .e none (.n (.n (.n .e none (.n (.n (.n (.n (.n .e none (.n (.n .e none (.n .e none (.n .e none (.n .e (some (.ptr (nat_lit 0) (nat_lit 0))) .e)))) none .e)) none .e) none .e) none .e) none .e)) none .e) none .e)) none .e) none .e) none .e) none .e) none .e))
theorem gl_put : T.putS 64 1000000 (some (.ptr 0 0)) (.e : T AV) = some gl := by kernel_rfl
/-- Where the words lie. -/
def Laid (w : World) : Prop := ∃ e fr, w.heap[0]? = some (.cells words e fr)
noncomputable def I0 : In := fun id => if id = 0 then some (0, 0, 14) else none
theorem h0_get (id : Nat) (o : AO) (h : h0.get id = some o) : id = 0 ∧ o = gw0 := by
  have hp : T.putS 64 0 (some gw0) (.e : T AO) = some h0 := by kernel_rfl
  rw [T.get_eq, T.get_putS _ _ _ _ _ hp id] at h
  split at h
  · rename_i e; cases h; exact ⟨e, rfl⟩
  · rw [← T.get_eq, T.get_e] at h; cases h
theorem words_rel (I : In) : VRs I [.str [nat_lit 110, nat_lit 117, nat_lit 108, nat_lit 108], .str [nat_lit 98, nat_lit 111, nat_lit 111, nat_lit 108, nat_lit 101, nat_lit 97, nat_lit 110], .str [nat_lit 105, nat_lit 110, nat_lit 116], .str [nat_lit 108, nat_lit 111, nat_lit 110, nat_lit 103], .str [nat_lit 102, nat_lit 108, nat_lit 111, nat_lit 97, nat_lit 116], .str [nat_lit 100, nat_lit 111, nat_lit 117, nat_lit 98, nat_lit 108, nat_lit 101], .str [nat_lit 98, nat_lit 121, nat_lit 116, nat_lit 101, nat_lit 115], .str [nat_lit 115, nat_lit 116, nat_lit 114, nat_lit 105, nat_lit 110, nat_lit 103], .str [nat_lit 114, nat_lit 101, nat_lit 99, nat_lit 111, nat_lit 114, nat_lit 100], .str [nat_lit 101, nat_lit 110, nat_lit 117, nat_lit 109], .str [nat_lit 102, nat_lit 105, nat_lit 120, nat_lit 101, nat_lit 100], .str [nat_lit 97, nat_lit 114, nat_lit 114, nat_lit 97, nat_lit 121], .str [nat_lit 109, nat_lit 97, nat_lit 112], .str [nat_lit 117, nat_lit 110, nat_lit 105, nat_lit 111, nat_lit 110]] words.toList := by
  have : ofVals words.toList = some [.str [nat_lit 110, nat_lit 117, nat_lit 108, nat_lit 108], .str [nat_lit 98, nat_lit 111, nat_lit 111, nat_lit 108, nat_lit 101, nat_lit 97, nat_lit 110], .str [nat_lit 105, nat_lit 110, nat_lit 116], .str [nat_lit 108, nat_lit 111, nat_lit 110, nat_lit 103], .str [nat_lit 102, nat_lit 108, nat_lit 111, nat_lit 97, nat_lit 116], .str [nat_lit 100, nat_lit 111, nat_lit 117, nat_lit 98, nat_lit 108, nat_lit 101], .str [nat_lit 98, nat_lit 121, nat_lit 116, nat_lit 101, nat_lit 115], .str [nat_lit 115, nat_lit 116, nat_lit 114, nat_lit 105, nat_lit 110, nat_lit 103], .str [nat_lit 114, nat_lit 101, nat_lit 99, nat_lit 111, nat_lit 114, nat_lit 100], .str [nat_lit 101, nat_lit 110, nat_lit 117, nat_lit 109], .str [nat_lit 102, nat_lit 105, nat_lit 120, nat_lit 101, nat_lit 100], .str [nat_lit 97, nat_lit 114, nat_lit 114, nat_lit 97, nat_lit 121], .str [nat_lit 109, nat_lit 97, nat_lit 112], .str [nat_lit 117, nat_lit 110, nat_lit 105, nat_lit 111, nat_lit 110]] := by kernel_rfl
  exact ofVals_rel I _ _ this
theorem gl_ok {I : In} (h : I 0 = some (0, 0, 14)) : GOK gl I := fun n a hn => by
  rw [T.get_eq, T.get_putS _ _ _ _ _ gl_put n] at hn
  split at hn
  · rename_i e
    cases hn
    subst e
    have e1 : 1000000 - gBase = 0 := by simp [gBase]
    rw [e1]
    exact ⟨by unfold gBase; omega, .ptr' h rfl⟩
  · rw [← T.get_eq, T.get_e] at hn; cases hn
theorem law_of {call : CallF} (hc : CallOK gl Tryd.prog call) {f : Nat} {b : Bool} {h : T AO} {nx : Nat} (hb : hasB Tryd.prog f = true) (e : call f [] h0 1 = some (.bool b, h, nx)) (w : World) (hw : Laid w) :
    Calls Tryd.prog f #[] w fun e w' => e = .returned (.bool b) ∧ Below w.heap.size w w' := by
  obtain ⟨e0, fr, hw⟩ := hw
  have hI : ∀ id b t, I0 id = some (b, t) → id = 0 ∧ b = 0 ∧ t = (0, 14) := fun id b t h => by
    unfold I0 at h
    split at h
    · rename_i e; cases h; exact ⟨e, rfl, rfl⟩
    · cases h
  refine closed_laid hc hb e w I0 (fun id o b t h1 h2 => ?_) (fun id id' o o' b t t' h1 h2 h3 h4 => by rw [(hI _ _ _ h3).1, (hI _ _ _ h4).1]) (fun id b t h => ?_) (gl_ok (by unfold I0; rw [if_pos rfl]))
  · obtain ⟨rfl, rfl⟩ := h0_get _ _ h1
    obtain ⟨_, rfl, rfl⟩ := hI _ _ _ h2
    refine ⟨rfl, _, hw, ?_⟩
    have := OR.cells (I := I0) (t := (0, 14)) (elem := 0) (elem' := e0) (fz := none) (g := true) (pre := []) (vs := words.toList) (rest := []) (fr := fr) (words_rel I0) (fun h => by cases h) rfl rfl (fun f hf => by cases hf) (.inr ⟨rfl, rfl⟩)
    have ew : (⟨[] ++ (words.toList ++ [])⟩ : Array Value) = words := by simp
    rw [ew] at this
    exact this
  · obtain ⟨rfl, rfl, rfl⟩ := hI _ _ _ h
    exact ⟨by decide, (Array.getElem?_eq_some_iff.1 hw).1⟩
end Cn
end Go.Proofs.YtgbddkgjdeflkaaDoor
