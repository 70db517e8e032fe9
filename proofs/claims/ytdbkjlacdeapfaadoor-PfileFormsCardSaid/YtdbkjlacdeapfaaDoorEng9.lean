/-
  A closed run beside package-level variables that are laid. No condition but what its theorem asks.
-/
import Derived.Test.YtdbkjlacdeapfaaDoorEng8
namespace Go.Proofs.YtdbkjlacdeapfaaDoor.Eng
open Go.RowKit
set_option linter.unusedVariables false
set_option linter.unusedSimpArgs false
variable {gl : T AV}
/-!
A closed run beside package-level variables that are laid.
-/
theorem closed_laid {P : Program} {gl : T AV} {call : CallF} (hc : CallOK gl P call) {f : Nat} {b : Bool} {h0 h : T AO} {nx0 nx : Nat} (e : call f [] h0 nx0 = some (.bool b, h, nx)) (w : World) (I0 : In)
    (obj : ∀ id o b t, h0.get id = some o → I0 id = some (b, t) → o.rw = false ∧ ∃ ob, w.heap[b]? = some ob ∧ OR I0 t o ob)
    (inj : ∀ id id' o o' b t t', h0.get id = some o → h0.get id' = some o' → I0 id = some (b, t) → I0 id' = some (b, t') → id = id')
    (low : ∀ id b t, I0 id = some (b, t) → id < nx0 ∧ b < w.heap.size)
    (hG : GOK gl I0) :
    Calls P f #[] w fun e w' => e = .returned (.bool b) ∧ Below w.heap.size w w' := by
  obtain ⟨_, _, k⟩ := hc f [] h0 nx0 _ _ _ e
  refine (k (fun s b => match s with | true => b < w.heap.size | false => ∃ id t, I0 id = some (b, t)) I0 w [] .nil ⟨fun id o b t h1 h2 => (obj id o b t h1 h2).2, inj, fun id o b t h1 h2 h3 => ⟨(obj id o b t h1 h2).1, id, t, h2⟩⟩ (fun b h => h) hG (fun b h => (by obtain ⟨id, t, h⟩ := h; exact (low id b t h).2)) (fun i h1 _ => ?_)).mono fun e' w' hh => ?_
  · cases hI : I0 i with
    | none => rfl
    | some x => obtain ⟨b, t⟩ := x; exact absurd (low i b t hI).1 (by omega)
  · obtain ⟨z, I', rfl, h1, h2⟩ := hh
    cases h1
    exact ⟨rfl, h2.same.os, h2.same.tape, h2.same.output, h2.size, fun k hk => h2.fr k hk⟩
/-- The machine's call, with package-level variables. -/
noncomputable def callG (P : Program) (ext : ExtF) (gl : T AV) (wrap : CallF → CallF) (d : Nat) : CallF := callF P ext (fun call n => regF P call ext n) 10000000 gl wrap d
end Go.Proofs.YtdbkjlacdeapfaaDoor.Eng
