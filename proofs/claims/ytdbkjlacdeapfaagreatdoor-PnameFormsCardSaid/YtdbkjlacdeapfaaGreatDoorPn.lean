/-
  What the machine asks of the program beside the kinds' words that pfile has laid. No condition.
-/
import Derived.Test.YtdbkjlacdeapfaaGreatDoorProg
import Derived.Test.YtdbkjlacdeapfaaGreatDoorEng9
namespace Go.Proofs.YtdbkjlacdeapfaaGreatDoor
open Go.RowKit
namespace Pn
open Eng
set_option linter.unusedVariables false
set_option maxRecDepth 1000000
set_option maxHeartbeats 0
theorem mixed : Tryz.prog.follows .mixedOrders = true := by decide +kernel
theorem nums : noNum Tryz.prog = true := by decide +kernel
theorem idx_fact : ExtFact Tryz.prog 114 Extern.BytealgIndexByte.indexByte :=
  ⟨_, Tryz.func114, by kernel_rfl, by kernel_rfl, by kernel_rfl, by kernel_rfl⟩
theorem same_fact : ExtFact Tryz.prog 76 Extern.AbiNoEscape.same :=
  ⟨_, Tryz.func76, by kernel_rfl, by kernel_rfl, by kernel_rfl, by kernel_rfl⟩
theorem mnz_fact : MnzFact Tryz.prog 77 5 :=
  ⟨_, 76, Tryz.func77, by kernel_rfl, by kernel_rfl, by kernel_rfl, by kernel_rfl, Tryz.underlying76⟩
noncomputable def exts : ExtF := extT [(76, .same), (114, .idx)]
theorem exts_ok : ExtOK Tryz.prog exts := extT_ok fun f k h => by
  simp only [List.mem_cons, List.not_mem_nil, or_false, Prod.mk.injEq] at h
  rcases h with ⟨rfl, rfl⟩ | ⟨rfl, rfl⟩
  · exact same_fact
  · exact idx_fact
/-- The words, as the machine has them, and as the model has. -/
noncomputable def gw1 : AO := .cells 0 none true [.str [nat_lit 100, nat_lit 111, nat_lit 117, nat_lit 98, nat_lit 108, nat_lit 101], .str [nat_lit 102, nat_lit 108, nat_lit 111, nat_lit 97, nat_lit 116], .str [nat_lit 105, nat_lit 110, nat_lit 116, nat_lit 51, nat_lit 50], .str [nat_lit 105, nat_lit 110, nat_lit 116, nat_lit 54, nat_lit 52], .str [nat_lit 117, nat_lit 105, nat_lit 110, nat_lit 116, nat_lit 51, nat_lit 50], .str [nat_lit 117, nat_lit 105, nat_lit 110, nat_lit 116, nat_lit 54, nat_lit 52], .str [nat_lit 115, nat_lit 105, nat_lit 110, nat_lit 116, nat_lit 51, nat_lit 50], .str [nat_lit 115, nat_lit 105, nat_lit 110, nat_lit 116, nat_lit 54, nat_lit 52], .str [nat_lit 102, nat_lit 105, nat_lit 120, nat_lit 101, nat_lit 100, nat_lit 51, nat_lit 50], .str [nat_lit 102, nat_lit 105, nat_lit 120, nat_lit 101, nat_lit 100, nat_lit 54, nat_lit 52], .str [nat_lit 115, nat_lit 102, nat_lit 105, nat_lit 120, nat_lit 101, nat_lit 100, nat_lit 51, nat_lit 50], .str [nat_lit 115, nat_lit 102, nat_lit 105, nat_lit 120, nat_lit 101, nat_lit 100, nat_lit 54, nat_lit 52], .str [nat_lit 98, nat_lit 111, nat_lit 111, nat_lit 108], .str [nat_lit 115, nat_lit 116, nat_lit 114, nat_lit 105, nat_lit 110, nat_lit 103], .str [nat_lit 98, nat_lit 121, nat_lit 116, nat_lit 101, nat_lit 115]]
noncomputable def words : Array Value := #[.string ⟨#[100, 111, 117, 98, 108, 101]⟩, .string ⟨#[102, 108, 111, 97, 116]⟩, .string ⟨#[105, 110, 116, 51, 50]⟩, .string ⟨#[105, 110, 116, 54, 52]⟩, .string ⟨#[117, 105, 110, 116, 51, 50]⟩, .string ⟨#[117, 105, 110, 116, 54, 52]⟩, .string ⟨#[115, 105, 110, 116, 51, 50]⟩, .string ⟨#[115, 105, 110, 116, 54, 52]⟩, .string ⟨#[102, 105, 120, 101, 100, 51, 50]⟩, .string ⟨#[102, 105, 120, 101, 100, 54, 52]⟩, .string ⟨#[115, 102, 105, 120, 101, 100, 51, 50]⟩, .string ⟨#[115, 102, 105, 120, 101, 100, 54, 52]⟩, .string ⟨#[98, 111, 111, 108]⟩, .string ⟨#[115, 116, 114, 105, 110, 103]⟩, .string ⟨#[98, 121, 116, 101, 115]⟩]
noncomputable def h0 : T AO := .n (.n .e (some gw1) .e) none .e
noncomputable def gl : T AV := (.n (.n .e none (.n (.n (.n (.n (.n .e none (.n (.n (.n .e none (.n (.n (.n (.n (.n .e none (.n (.n .e none (.n .e none (.n .e none (.n .e (some (.ptr (nat_lit 1) (nat_lit 0))) .e)))) none .e)) none .e) none .e) none .e) none .e)) none .e) none .e)) none .e) none .e) none .e) none .e)) none .e)
theorem gl_put : T.putS 64 1000001 (some (.ptr 1 0)) (.e : T AV) = some gl := by kernel_rfl
/-- Where the words lie. -/
def Laid (w : World) : Prop := ∃ e fr, w.heap[1]? = some (.cells words e fr)
noncomputable def I0 : In := fun id => if id = 1 then some (1, 0, 15) else none
theorem h0_get (id : Nat) (o : AO) (h : h0.get id = some o) : id = 1 ∧ o = gw1 := by
  have hp : T.putS 64 1 (some gw1) (.e : T AO) = some h0 := by kernel_rfl
  rw [T.get_eq, T.get_putS _ _ _ _ _ hp id] at h
  split at h
  · rename_i e; cases h; exact ⟨e, rfl⟩
  · rw [← T.get_eq, T.get_e] at h; cases h
theorem words_rel (I : In) : VRs I [.str [nat_lit 100, nat_lit 111, nat_lit 117, nat_lit 98, nat_lit 108, nat_lit 101], .str [nat_lit 102, nat_lit 108, nat_lit 111, nat_lit 97, nat_lit 116], .str [nat_lit 105, nat_lit 110, nat_lit 116, nat_lit 51, nat_lit 50], .str [nat_lit 105, nat_lit 110, nat_lit 116, nat_lit 54, nat_lit 52], .str [nat_lit 117, nat_lit 105, nat_lit 110, nat_lit 116, nat_lit 51, nat_lit 50], .str [nat_lit 117, nat_lit 105, nat_lit 110, nat_lit 116, nat_lit 54, nat_lit 52], .str [nat_lit 115, nat_lit 105, nat_lit 110, nat_lit 116, nat_lit 51, nat_lit 50], .str [nat_lit 115, nat_lit 105, nat_lit 110, nat_lit 116, nat_lit 54, nat_lit 52], .str [nat_lit 102, nat_lit 105, nat_lit 120, nat_lit 101, nat_lit 100, nat_lit 51, nat_lit 50], .str [nat_lit 102, nat_lit 105, nat_lit 120, nat_lit 101, nat_lit 100, nat_lit 54, nat_lit 52], .str [nat_lit 115, nat_lit 102, nat_lit 105, nat_lit 120, nat_lit 101, nat_lit 100, nat_lit 51, nat_lit 50], .str [nat_lit 115, nat_lit 102, nat_lit 105, nat_lit 120, nat_lit 101, nat_lit 100, nat_lit 54, nat_lit 52], .str [nat_lit 98, nat_lit 111, nat_lit 111, nat_lit 108], .str [nat_lit 115, nat_lit 116, nat_lit 114, nat_lit 105, nat_lit 110, nat_lit 103], .str [nat_lit 98, nat_lit 121, nat_lit 116, nat_lit 101, nat_lit 115]] words.toList := by
  have : ofVals words.toList = some [.str [nat_lit 100, nat_lit 111, nat_lit 117, nat_lit 98, nat_lit 108, nat_lit 101], .str [nat_lit 102, nat_lit 108, nat_lit 111, nat_lit 97, nat_lit 116], .str [nat_lit 105, nat_lit 110, nat_lit 116, nat_lit 51, nat_lit 50], .str [nat_lit 105, nat_lit 110, nat_lit 116, nat_lit 54, nat_lit 52], .str [nat_lit 117, nat_lit 105, nat_lit 110, nat_lit 116, nat_lit 51, nat_lit 50], .str [nat_lit 117, nat_lit 105, nat_lit 110, nat_lit 116, nat_lit 54, nat_lit 52], .str [nat_lit 115, nat_lit 105, nat_lit 110, nat_lit 116, nat_lit 51, nat_lit 50], .str [nat_lit 115, nat_lit 105, nat_lit 110, nat_lit 116, nat_lit 54, nat_lit 52], .str [nat_lit 102, nat_lit 105, nat_lit 120, nat_lit 101, nat_lit 100, nat_lit 51, nat_lit 50], .str [nat_lit 102, nat_lit 105, nat_lit 120, nat_lit 101, nat_lit 100, nat_lit 54, nat_lit 52], .str [nat_lit 115, nat_lit 102, nat_lit 105, nat_lit 120, nat_lit 101, nat_lit 100, nat_lit 51, nat_lit 50], .str [nat_lit 115, nat_lit 102, nat_lit 105, nat_lit 120, nat_lit 101, nat_lit 100, nat_lit 54, nat_lit 52], .str [nat_lit 98, nat_lit 111, nat_lit 111, nat_lit 108], .str [nat_lit 115, nat_lit 116, nat_lit 114, nat_lit 105, nat_lit 110, nat_lit 103], .str [nat_lit 98, nat_lit 121, nat_lit 116, nat_lit 101, nat_lit 115]] := by kernel_rfl
  exact ofVals_rel I _ _ this
theorem gl_ok {I : In} (h : I 1 = some (1, 0, 15)) : GOK gl I := fun n a hn => by
  rw [T.get_eq, T.get_putS _ _ _ _ _ gl_put n] at hn
  split at hn
  · rename_i e
    cases hn
    subst e
    have e1 : 1000001 - gBase = 1 := by simp [gBase]
    rw [e1]
    exact ⟨by unfold gBase; omega, .ptr' h rfl⟩
  · rw [← T.get_eq, T.get_e] at hn; cases hn
theorem law_of {call : CallF} (hc : CallOK gl Tryz.prog call) {f : Nat} {b : Bool} {h : T AO} {nx : Nat} (hb : hasB Tryz.prog f = true) (e : call f [] h0 2 = some (.bool b, h, nx)) (w : World) (hw : Laid w) :
    Calls Tryz.prog f #[] w fun e w' => e = .returned (.bool b) ∧ Below w.heap.size w w' := by
  obtain ⟨e0, fr, hw⟩ := hw
  have hI : ∀ id b t, I0 id = some (b, t) → id = 1 ∧ b = 1 ∧ t = (0, 15) := fun id b t h => by
    unfold I0 at h
    split at h
    · rename_i e; cases h; exact ⟨e, rfl, rfl⟩
    · cases h
  refine closed_laid hc hb e w I0 (fun id o b t h1 h2 => ?_) (fun id id' o o' b t t' h1 h2 h3 h4 => by rw [(hI _ _ _ h3).1, (hI _ _ _ h4).1]) (fun id b t h => ?_) (gl_ok (by unfold I0; rw [if_pos rfl]))
  · obtain ⟨rfl, rfl⟩ := h0_get _ _ h1
    obtain ⟨_, rfl, rfl⟩ := hI _ _ _ h2
    refine ⟨rfl, _, hw, ?_⟩
    have := OR.cells (I := I0) (t := (0, 15)) (elem := 0) (elem' := e0) (fz := none) (g := true) (pre := []) (vs := words.toList) (rest := []) (fr := fr) (words_rel I0) (fun h => by cases h) rfl rfl (fun f hf => by cases hf) (.inr ⟨rfl, rfl⟩)
    have ew : (⟨[] ++ (words.toList ++ [])⟩ : Array Value) = words := by simp
    rw [ew] at this
    exact this
  · obtain ⟨rfl, rfl, rfl⟩ := hI _ _ _ h
    exact ⟨by decide, (Array.getElem?_eq_some_iff.1 hw).1⟩
end Pn
end Go.Proofs.YtdbkjlacdeapfaaGreatDoor
