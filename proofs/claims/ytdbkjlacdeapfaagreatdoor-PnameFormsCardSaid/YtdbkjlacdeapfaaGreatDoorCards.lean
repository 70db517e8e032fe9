/-
  DERIVED. GIVEN WITH THE SEED: THE CARDS: each row of YtdbkjlacdeapfaaGreatDoorRows.lean that lists a variable, with what it lists TIED to the program's text (the seventh form; the later family's looks); each row that meets fmt, with fmt's text TOLD by the authors' own Lean function (tested against real Go, not proved from fmt's source: count such statements apart). THE CARD IS WHAT COUNTS. Prove the row's statement (the work); the ties are given (YtdbkjlacdeapfaaGreatDoorTie.lean); close each card by the builder's one call (the guide's Derived/Test/ToyasCard.lean, 'card_holds'). Laid BY PROGRAM, IN A SANDBOX (cutbox-door.mjs). By AI agents, Wed Nov 11 2026. No macro, syntax, notation, axiom, sorry.
-/
import Derived.Test.YtdbkjlacdeapfaaGreatDoorRows
import GoSem.ClaimSeven
namespace Go.Proofs.YtdbkjlacdeapfaaGreatDoor
namespace Rows

/-- THE TIED CARD OF 'procliticlaw9.PnameForms'. -/
def pnameFormsCard : Claim7 := { stood := { row := pnameFormsRow, standIns := [], harness := (true, "074997168b427fe09aa77f1b131cb5c628949ab42b5e3d3353f8da7b9d0c5e5e"), looks := false }, kinds := [], alts := [], laidByText := true, laidKinds := [.data], laidTests := true, laidLooks := .later }
def PnameFormsCardSaid : Prop := Claim7.holds Tryz.pinned (.plain (OpenSpec.ofChange pnameFormsSpec)) pnameFormsCard

/-- THE SECOND FORM's CARD OF 'procliticlaw9.PnameForms'. -/
def pnameFormsUptoCard : Claim7 := { stood := { row := pnameFormsUptoRow, standIns := [], harness := (true, "074997168b427fe09aa77f1b131cb5c628949ab42b5e3d3353f8da7b9d0c5e5e"), looks := false }, kinds := [], alts := [], laidByText := true, laidKinds := [.data], laidTests := true, laidLooks := .later }
def PnameFormsUptoCardSaid : Prop := Claim7.holds Tryz.pinned (.plain (OpenSpec.upto pnameFormsSpec)) pnameFormsUptoCard
end Rows
end Go.Proofs.YtdbkjlacdeapfaaGreatDoor
