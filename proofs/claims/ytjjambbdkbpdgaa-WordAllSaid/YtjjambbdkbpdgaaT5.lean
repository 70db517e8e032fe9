/-
  What the functions do: contracts, and their questions answered. No condition but what its theorems ask.
-/
import Derived.Test.YtjjambbdkbpdgaaT4
namespace Go.Proofs.Ytjjambbdkbpdgaa.Wd
open Go.Proofs.Ytjjambbdkbpdgaa.Eng Go.Proofs.Ytjjambbdkbpdgaa.Sen Go.RowKit
set_option linter.unusedVariables false
set_option linter.unusedSimpArgs false
set_option maxRecDepth 1000000
/-- A law's contract, in a world. -/
theorem law_of {f : Nat} {C : Ct} (h : CtOK P f C) (s : C.σ) (vs : List Value) (ha : C.args s = vs.map .sv) (hh : C.h s = []) (r : Value) (hr : C.r s = .sv r) (w : World) (hp : C.pre s) (hm : (C.mem s).ok (PubF (fun _ b => b < w.heap.size) w)) :
    Calls P f ⟨vs⟩ w fun e w' => e = .returned r ∧ Below w.heap.size w w' := by
  obtain ⟨h1, h2, _, h4⟩ := h
  obtain ⟨h0, h1', e1, e2, h5⟩ := h4 s
  rw [hh] at e1
  cases e1
  refine (h5 (fun _ b => b < w.heap.size) (fun i => if i = 0 then some (0, 0, 0) else none) w vs (by rw [ha]; exact VRs.svs vs) ⟨fun id o b t h => ?_, fun id id' o o' b t t' h => ?_, fun id o b t h => ?_⟩ (fun _ h => h) (fun _ h => h) hp hm (fun i hi => if_neg (by omega)) (if_pos rfl)).mono fun e w' he => ?_
  · rw [T.get_e] at h; cases h
  · rw [T.get_e] at h; cases h
  · rw [T.get_e] at h; cases h
  obtain ⟨z, I', rfl, hz, hg, _⟩ := he
  rw [hr] at hz
  cases hz
  exact ⟨rfl, ⟨hg.same.1, hg.same.2, hg.same.3, hg.size, fun k hk => hg.fr k hk⟩⟩
/-- The library's variable, as it lies there. -/
noncomputable def Laid (w : World) : Prop := ∃ m e fr, w.heap[0]? = some (.cells #[.int .i64 m] e fr)
theorem int_laid {P : Program} {w : World} {g : Nat} {t : TypeId} {zero : Array Value} {k : IntKind}
    (h : w.ShapedOpen P) (hg : g < P.globals.size)
    (h0 : ((begin P (fun _ _ => 0) default).world.heap[g]?).bind Obj.row? = some (zero, t)) (hz : zero.size = 1)
    (hb : P.buildable t = true) (hc : P.cellTypes P.depth t = some [t]) (hu : P.underlying t = some (.int k)) :
    ∃ m e fr, w.heap[g]? = some (.cells #[.int k m] e fr) := by
  obtain ⟨cs, hh, hs, hr⟩ := h.1 g zero t hg h0
  obtain ⟨ts, hts, _, hall⟩ := hr hb
  rw [hc] at hts
  cases hts
  have h1 : cs.size = 1 := by omega
  obtain ⟨u, hu', hok⟩ := hall 0 cs[0] (by simp [h1])
  have : u = t := by simpa using hu'.symm
  subst this
  unfold Cell.ok at hok
  rw [hu] at hok
  have hcs : cs = #[cs[0]] := by
    apply Array.ext
    · simp [h1]
    · intro i h2 h3
      have : i = 0 := by omega
      subst this; simp
  cases hv : cs[0] <;> rw [hv] at hok <;> simp at hok
  case int k' n =>
    rw [hcs, hv, hok.1] at hh
    exact ⟨n, _, _, hh⟩
theorem laid_of {w : World} (h : w.ShapedOpen P) : Laid w :=
  int_laid (t := 3) (zero := #[.int .i64 0]) (k := .i64) h (by decide +kernel) (by kernel_rfl) (by rfl) (by kernel_rfl) (by kernel_rfl) Go.Proofs.Try.underlying3
theorem hG_of {w : World} (h : Laid w) : hG.ok (PubF (fun _ b => b < w.heap.size) w) := by
  obtain ⟨m, e, fr, hw⟩ := h
  refine ⟨m, ?_⟩
  have hp : PubF (fun _ b => b < w.heap.size) w 0 = some (.cells #[.int .i64 m] e fr) := PubF_some.mpr ⟨(Array.getElem?_eq_some_iff.mp hw).1, hw⟩
  unfold cellP
  simp only [hp]; rfl
theorem all_law_wf (s : ByteArray) (w : World) (h0 : s.size ≤ maxLen) (hl : Laid w) : Calls P 3 #[.string s] w fun e w' => e = .returned (.bool true) ∧ Below w.heap.size w w' :=
  law_of all_ok s [.string s] rfl rfl (.bool true) rfl w trivial (hG_of hl)
end Go.Proofs.Ytjjambbdkbpdgaa.Wd
