/-
  DERIVED. GIVEN WITH THE SEED: THE CARDS: each row of YtdbkjlacdeapfaaDoorRows.lean that lists a variable, with what it lists TIED to the program's text (the seventh form; the later family's looks); each row that meets fmt, with fmt's text TOLD by the authors' own Lean function (tested against real Go, not proved from fmt's source: count such statements apart). THE CARD IS WHAT COUNTS. Prove the row's statement (the work); the ties are given (YtdbkjlacdeapfaaDoorTie.lean); close each card by the builder's one call (the guide's Derived/Test/ToyasCard.lean, 'card_holds'). Laid BY PROGRAM, IN A SANDBOX (cutbox-door.mjs). By AI agents, Wed Nov 11 2026. No macro, syntax, notation, axiom, sorry.
-/
import Derived.Test.YtdbkjlacdeapfaaDoorRows
import GoSem.ClaimSeven
namespace Go.Proofs.YtdbkjlacdeapfaaDoor
namespace Rows

/-- THE TIED CARD OF 'procliticlaw8.PfileForms'. -/
def pfileFormsCard : Claim7 := { stood := { row := pfileFormsRow, standIns := [], harness := (true, "6473bf16c6748bd779fa974ec73befc8d2712d07566a38f7636cfc18d8f0a730"), looks := false }, kinds := [], alts := [], laidByText := true, laidKinds := [.data], laidTests := true, laidLooks := .later }
def PfileFormsCardSaid : Prop := Claim7.holds Tryd.pinned (.plain (OpenSpec.ofChange pfileFormsSpec)) pfileFormsCard

/-- THE SECOND FORM's CARD OF 'procliticlaw8.PfileForms'. -/
def pfileFormsUptoCard : Claim7 := { stood := { row := pfileFormsUptoRow, standIns := [], harness := (true, "6473bf16c6748bd779fa974ec73befc8d2712d07566a38f7636cfc18d8f0a730"), looks := false }, kinds := [], alts := [], laidByText := true, laidKinds := [.data], laidTests := true, laidLooks := .later }
def PfileFormsUptoCardSaid : Prop := Claim7.holds Tryd.pinned (.plain (OpenSpec.upto pfileFormsSpec)) pfileFormsUptoCard
end Rows
end Go.Proofs.YtdbkjlacdeapfaaDoor
