/-
  What the machine asks of the program; begun of layers 1 and 3, RecForms and GlyphForms by the machine. No condition.
-/
import Derived.Test.YtfcpicejifolmaaProg
import Derived.Test.YtfcpicejifolmaaEng5
namespace Go.Proofs.Ytfcpicejifolmaa
open Go.RowKit
namespace Rf
open Eng

set_option maxRecDepth 1000000
set_option maxHeartbeats 0
theorem mixed : Try.prog.follows .mixedOrders = true := by decide +kernel
theorem nums : noNum Try.prog = true := by decide +kernel
theorem same_fact : ExtFact Try.prog 59 Extern.AbiNoEscape.same :=
  ⟨_, Try.func59, by kernel_rfl, by kernel_rfl, by kernel_rfl, by kernel_rfl⟩
noncomputable def exts : ExtF := extT [(59, .same)]
theorem exts_ok : ExtOK Try.prog exts := extT_ok fun f k h => by
  simp only [List.mem_singleton, Prod.mk.injEq] at h
  obtain ⟨rfl, rfl⟩ := h
  exact same_fact
/-- The machine's call, thirty deep. -/
noncomputable def call0 : CallF := callN Try.prog exts (fun call n => regD Try.prog call exts n) 1000000 .e 30
theorem begun1_run : yes (call0 15 [] .e 0) = true := by decide +kernel
theorem begun1 (w : World) : Calls Try.prog 15 #[] w fun e w' => e = .returned (.bool true) ∧ Below w.heap.size w w' := by
  obtain ⟨h, nx, e⟩ := yes_ok begun1_run
  exact closed mixed exts_ok (noNum_ok nums) e w
theorem begun3_run : yes (call0 27 [] .e 0) = true := by decide +kernel
theorem begun3 (w : World) : Calls Try.prog 27 #[] w fun e w' => e = .returned (.bool true) ∧ Below w.heap.size w w' := by
  obtain ⟨h, nx, e⟩ := yes_ok begun3_run
  exact closed mixed exts_ok (noNum_ok nums) e w
end Rf
end Go.Proofs.Ytfcpicejifolmaa
