/-
  strings.Index as this program has it, and the machine's calls of it. No condition.
-/
import Derived.Test.YthbedbjccmhcoaaProg
import Derived.Test.YthbedbjccmhcoaaEng9b
import Derived.Shelf.Strings.Search3
import Derived.Shelf.Vars
namespace Go.Proofs.Ythbedbjccmhcoaa
open Go.RowKit
namespace Wx
open Eng
set_option linter.unusedVariables false
set_option linter.unusedSimpArgs false
set_option maxRecDepth 1000000
/-- The library's numbers, in this program's. -/
def ren : Go.Shelf.Ren := ⟨fun | 143 => 24 | 217 => 43 | 219 => 44 | 224 => 53 | 225 => 52 | 266 => 51 | 267 => 54 | 314 => 57 | n => n, fun | 3 => 3 | 4 => 4 | 5 => 5 | 9 => 9 | 46 => 72 | 51 => 74 | 146 => 77 | n => n, fun | 1 => 0 | n => n⟩
theorem lays : Go.Proofs.Lays.n143 Try.prog ren := {
  mixed := by kernel_rfl
  f143 := Try.func24.trans (congrArg some (by kernel_rfl))
  f217 := Try.func43.trans (congrArg some (by kernel_rfl))
  f219 := Try.func44.trans (congrArg some (by kernel_rfl))
  f224 := Try.func53.trans (congrArg some (by kernel_rfl))
  f225 := Try.func52.trans (congrArg some (by kernel_rfl))
  f266 := Try.func51.trans (congrArg some (by kernel_rfl))
  f267 := Try.func54.trans (congrArg some (by kernel_rfl))
  f314 := Try.func57.trans (congrArg some (by kernel_rfl))
  t3 := Try.underlying3
  a3 := Try.isAgg3
  z3 := Try.sizeOf3
  v3 := Try.zeroValue3
  t4 := Try.underlying4
  a4 := Try.isAgg4
  z4 := Try.sizeOf4
  v4 := Try.zeroValue4
  t5 := Try.underlying5
  a5 := Try.isAgg5
  z5 := Try.sizeOf5
  v5 := Try.zeroValue5
  t9 := Try.underlying9
  a9 := Try.isAgg9
  z9 := Try.sizeOf9
  v9 := Try.zeroValue9
  t46 := Try.underlying72
  a46 := Try.isAgg72
  z46 := Try.sizeOf72
  v46 := Try.zeroValue72
  t51 := Try.underlying74
  a51 := Try.isAgg74
  z51 := Try.sizeOf74
  v51 := Try.zeroValue74
  t146 := Try.underlying77
  a146 := Try.isAgg77
  z146 := Try.sizeOf77
  v146 := Try.zeroValue77
  g1 := by kernel_rfl }
/-- It tells where the second text begins first in the first one. -/
theorem index_any (s sub : ByteArray) (m : Int) (w : World) (hs : s.size < 4294967281) (hm : w.cell? ⟨0, 0, none⟩ = some (.int .i64 m)) :
    Calls Try.prog 24 #[.string s, .string sub] w fun e w' => e = .returned (.int .i64 (Lib.index s.data.toList sub.data.toList)) ∧ w' = w :=
  Go.Proofs.Any.strings_Index lays s sub m w hs hm
/-- A variable of an integer's type holds some integer. -/
theorem int_laid {P : Program} {w : World} {g : Nat} {t : TypeId} {zero : Array Value} {k : IntKind}
    (h : w.ShapedOpen P) (hg : g < P.globals.size)
    (h0 : ((begin P (fun _ _ => 0) default).world.heap[g]?).bind Obj.row? = some (zero, t)) (hz : zero.size = 1)
    (hb : P.buildable t = true) (hc : P.cellTypes P.depth t = some [t]) (hu : P.underlying t = some (.int k)) :
    ∃ m e fr, w.heap[g]? = some (.cells #[.int k m] e fr) := by
  obtain ⟨cs, hh, hs, hr⟩ := h.1 g zero t hg h0
  obtain ⟨ts, hts, _, hall⟩ := hr hb
  rw [hc] at hts
  cases hts
  have h1 : cs.size = 1 := by omega
  obtain ⟨u, hu', hok⟩ := hall 0 cs[0] (by simp [h1])
  have : u = t := by simpa using hu'.symm
  subst this
  unfold Cell.ok at hok
  rw [hu] at hok
  have hcs : cs = #[cs[0]] := by
    apply Array.ext
    · simp [h1]
    · intro i h2 h3
      have : i = 0 := by omega
      subst this; simp
  cases hv : cs[0] <;> rw [hv] at hok <;> simp at hok
  case int k' n =>
    rw [hcs, hv, hok.1] at hh
    exact ⟨n, _, _, hh⟩
/-- The machine's call of it. -/
noncomputable def idxW (call : CallF) : CallF := fun f args h nx => match Nat.beq f 24 with
  | true => match args with
    | [.str l, .str m] => match h.get 0 with
      | some (.cells _ _ _ [.anyi .i64]) => match Nat.ble l.length 1000000 with
        | true => some (.int .i64 (Lib.index (l.map UInt8.ofNat) (m.map UInt8.ofNat)), h, nx)
        | false => none
      | _ => none
    | _ => none
  | false => call f args h nx
noncomputable def gl : T AV := (.n .e none (.n (.n (.n (.n (.n (.n .e none (.n (.n (.n .e none (.n (.n (.n (.n (.n .e none (.n (.n .e none (.n .e none (.n .e none (.n .e (some (.ptr (nat_lit 0) (nat_lit 0))) .e)))) none .e)) none .e) none .e) none .e) none .e)) none .e) none .e)) none .e) none .e) none .e) none .e) none .e))
theorem gl_put : T.putS 64 1000000 (some (.ptr 0 0)) (.e : T AV) = some gl := by kernel_rfl
theorem gl_at {n : Nat} {a : AV} (h : gl.get n = some a) : n = 1000000 ∧ a = .ptr 0 0 := by
  rw [T.get_eq, T.get_putS _ _ _ _ _ gl_put n] at h
  split at h
  · rename_i e; cases h; exact ⟨e, rfl⟩
  · rw [← T.get_eq, T.get_e] at h; cases h
theorem gl_has : gl.get 1000000 = some (.ptr 0 0) := by
  rw [T.get_eq, T.get_putS _ _ _ _ _ gl_put, if_pos rfl]
theorem gl_ok {I : In} (h : I 0 = some (0, 0, 1)) : GOK gl I := fun n a hn => by
  obtain ⟨rfl, rfl⟩ := gl_at hn
  have e1 : 1000000 - gBase = 0 := by simp [gBase]
  rw [e1]
  exact ⟨by unfold gBase; omega, .ptr' h rfl⟩
theorem idxW_ok {call : CallF} (hc : CallOK gl Try.prog call) : CallOK gl Try.prog (idxW call) := by
  intro f args h nx r h' nx' e
  cases hg : Nat.beq f 24 with
  | false => simp only [idxW, hg] at e; exact hc _ _ _ _ _ _ _ e
  | true =>
    simp only [idxW, hg] at e
    have hg := Nat.eq_of_beq_eq_true hg
    subst hg
    split at e
    · rename_i l m
      split at e
      · rename_i el fz g hh
        cases hn : Nat.ble l.length 1000000 with
        | false => simp [hn] at e
        | true =>
          simp only [hn] at e
          have hn : l.length ≤ 1000000 := Nat.le_of_ble_eq_true hn
          cases e
          refine .inl ⟨Nat.le_refl _, enters_of Try.func24 (by kernel_rfl) rfl, fun F I w vs hv hs hF hG hZ fr => ?_⟩
          cases hv with
          | cons h1 hv =>
            cases hv with
            | cons h2 hv =>
              cases hv
              cases h1; cases h2
              have hp := (hG _ _ gl_has).2
              have e1 : 1000000 - gBase = 0 := by simp [gBase]
              rw [e1] at hp
              obtain ⟨b, s, t, hI, hb, hso⟩ : ∃ b s t, I 0 = some (b, s, t) ∧ b = 0 ∧ s + 0 = 0 := by
                generalize hq : (Value.pointer (some ⟨0, 0, none⟩)) = q at hp
                cases hp with
                | ptr hI =>
                  injection hq with hq
                  injection hq with hq
                  injection hq with q1 q2 q3
                  exact ⟨_, _, _, hI, q1.symm, q2.symm⟩
              obtain ⟨ob, k1, k2⟩ := hs.obj _ _ _ _ hh hI
              have hcell : ∃ q, w.cell? ⟨0, 0, none⟩ = some (.int .i64 q) := by
                cases k2 with
                | @cells _ _ _ _ _ pre vs rest fr hvr hgg hpl hpt hff hE =>
                  cases hvr with
                  | cons hv1 hv2 =>
                    cases hv1
                    cases hv2
                    have : pre = [] := List.length_eq_zero_iff.1 (by omega)
                    subst this
                    subst hb
                    exact ⟨_, (cell_of k1 0).trans rfl⟩
              obtain ⟨q, hq⟩ := hcell
              refine (index_any (mkS l) (mkS m) q w (by rw [mkS_size]; omega) hq).mono fun e w' hh' => ?_
              obtain ⟨rfl, rfl⟩ := hh'
              refine ⟨_, I, rfl, ?_, hs.grow _⟩
              exact .int _ _
      · cases e
    · cases e
end Wx
end Go.Proofs.Ythbedbjccmhcoaa
