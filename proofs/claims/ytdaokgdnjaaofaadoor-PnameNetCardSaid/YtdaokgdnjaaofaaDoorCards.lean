/-
  DERIVED. GIVEN WITH THE SEED: THE CARDS: each row of YtdaokgdnjaaofaaDoorRows.lean that lists a variable, with what it lists TIED to the program's text (the seventh form; the later family's looks); each row that meets fmt, with fmt's text TOLD by the authors' own Lean function (tested against real Go, not proved from fmt's source: count such statements apart). THE CARD IS WHAT COUNTS. Prove the row's statement (the work); the ties are given (YtdaokgdnjaaofaaDoorTie.lean); close each card by the builder's one call (the guide's Derived/Test/ToyasCard.lean, 'card_holds'). Laid BY PROGRAM, IN A SANDBOX (cutbox-door.mjs). By AI agents, Wed Nov 11 2026. No macro, syntax, notation, axiom, sorry.
-/
import Derived.Test.YtdaokgdnjaaofaaDoorRows
import GoSem.ClaimSeven
namespace Go.Proofs.YtdaokgdnjaaofaaDoor
namespace Rows

/-- THE TIED CARD OF 'procliticlaw8.PfileMost'. -/
def pfileMostCard : Claim7 := { stood := { row := pfileMostRow, standIns := [], harness := (true, "3087c48ea6315146cfa3bd9437edd48a20b5dae59d92affc52f22144aaf7f09b"), looks := false }, kinds := [], alts := [], laidByText := true, laidKinds := [.data], laidTests := true, laidLooks := .later }
def PfileMostCardSaid : Prop := Claim7.holds Tryd.pinned (.plain (OpenSpec.ofChange pfileMostSpec)) pfileMostCard

/-- THE TIED CARD OF 'procliticlaw8.PfileOrder'. -/
def pfileOrderCard : Claim7 := { stood := { row := pfileOrderRow, standIns := [], harness := (true, "3087c48ea6315146cfa3bd9437edd48a20b5dae59d92affc52f22144aaf7f09b"), looks := false }, kinds := [], alts := [], laidByText := true, laidKinds := [.data], laidTests := true, laidLooks := .later }
def PfileOrderCardSaid : Prop := Claim7.holds Tryd.pinned (.plain (OpenSpec.ofChange pfileOrderSpec)) pfileOrderCard

/-- THE TIED CARD OF 'procliticlaw9.PnameNet'. -/
def pnameNetCard : Claim7 := { stood := { row := pnameNetRow, standIns := [], harness := (true, "3087c48ea6315146cfa3bd9437edd48a20b5dae59d92affc52f22144aaf7f09b"), looks := false }, kinds := [], alts := [], laidByText := true, laidKinds := [.data], laidTests := true, laidLooks := .later }
def PnameNetCardSaid : Prop := Claim7.holds Tryd.pinned (.plain (OpenSpec.ofChange pnameNetSpec)) pnameNetCard

/-- THE SECOND FORM's CARD OF 'procliticlaw8.PfileMost'. -/
def pfileMostUptoCard : Claim7 := { stood := { row := pfileMostUptoRow, standIns := [], harness := (true, "3087c48ea6315146cfa3bd9437edd48a20b5dae59d92affc52f22144aaf7f09b"), looks := false }, kinds := [], alts := [], laidByText := true, laidKinds := [.data], laidTests := true, laidLooks := .later }
def PfileMostUptoCardSaid : Prop := Claim7.holds Tryd.pinned (.plain (OpenSpec.upto pfileMostSpec)) pfileMostUptoCard

/-- THE SECOND FORM's CARD OF 'procliticlaw8.PfileOrder'. -/
def pfileOrderUptoCard : Claim7 := { stood := { row := pfileOrderUptoRow, standIns := [], harness := (true, "3087c48ea6315146cfa3bd9437edd48a20b5dae59d92affc52f22144aaf7f09b"), looks := false }, kinds := [], alts := [], laidByText := true, laidKinds := [.data], laidTests := true, laidLooks := .later }
def PfileOrderUptoCardSaid : Prop := Claim7.holds Tryd.pinned (.plain (OpenSpec.upto pfileOrderSpec)) pfileOrderUptoCard

/-- THE SECOND FORM's CARD OF 'procliticlaw9.PnameNet'. -/
def pnameNetUptoCard : Claim7 := { stood := { row := pnameNetUptoRow, standIns := [], harness := (true, "3087c48ea6315146cfa3bd9437edd48a20b5dae59d92affc52f22144aaf7f09b"), looks := false }, kinds := [], alts := [], laidByText := true, laidKinds := [.data], laidTests := true, laidLooks := .later }
def PnameNetUptoCardSaid : Prop := Claim7.holds Tryd.pinned (.plain (OpenSpec.upto pnameNetSpec)) pnameNetUptoCard
end Rows
end Go.Proofs.YtdaokgdnjaaofaaDoor
