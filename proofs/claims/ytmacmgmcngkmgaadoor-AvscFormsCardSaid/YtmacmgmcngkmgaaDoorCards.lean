/-
  DERIVED. GIVEN WITH THE SEED: THE CARDS: each row of YtmacmgmcngkmgaaDoorRows.lean that lists a variable, with what it lists TIED to the program's text (the seventh form; the later family's looks); each row that meets fmt, with fmt's text TOLD by the authors' own Lean function (tested against real Go, not proved from fmt's source: count such statements apart). THE CARD IS WHAT COUNTS. Prove the row's statement (the work); the ties are given (YtmacmgmcngkmgaaDoorTie.lean); close each card by the builder's one call (the guide's Derived/Test/ToyasCard.lean, 'card_holds'). Laid BY PROGRAM, IN A SANDBOX (cutbox-door.mjs). By AI agents, Wed Nov 11 2026. No macro, syntax, notation, axiom, sorry.
-/
import Derived.Test.YtmacmgmcngkmgaaDoorRows
import GoSem.ClaimSeven
namespace Go.Proofs.YtmacmgmcngkmgaaDoor
namespace Rows

/-- THE TIED CARD OF 'procliticlaw6.JsonForms'. -/
def jsonFormsCard : Claim7 := { stood := { row := jsonFormsRow, standIns := [], harness := (true, "39d99cad9e63056fd481c7ef363df3b1d5d795f16f97fabd847feca9f81d2db4"), looks := true }, kinds := [], alts := [], laidByText := true, laidKinds := [.data, .data, .data, .sentinel, .sentinel], laidTests := true, laidLooks := .later }
def JsonFormsCardSaid : Prop := Claim7.holds Tryd.pinned (.plain (OpenSpec.ofChange jsonFormsSpec)) jsonFormsCard

/-- THE TIED CARD OF 'procliticlaw8.PfileForms'. -/
def pfileFormsCard : Claim7 := { stood := { row := pfileFormsRow, standIns := [], harness := (true, "39d99cad9e63056fd481c7ef363df3b1d5d795f16f97fabd847feca9f81d2db4"), looks := true }, kinds := [], alts := [], laidByText := true, laidKinds := [.data], laidTests := true, laidLooks := .later }
def PfileFormsCardSaid : Prop := Claim7.holds Tryd.pinned (.plain (OpenSpec.ofChange pfileFormsSpec)) pfileFormsCard

/-- THE TIED CARD OF 'procliticlaw11.AvscForms'. -/
def avscFormsCard : Claim7 := { stood := { row := avscFormsRow, standIns := [], harness := (true, "39d99cad9e63056fd481c7ef363df3b1d5d795f16f97fabd847feca9f81d2db4"), looks := true }, kinds := [], alts := [], laidByText := true, laidKinds := [.data, .data, .pinned], laidTests := true, laidLooks := .later }
def AvscFormsCardSaid : Prop := Claim7.holds Tryd.pinned (.plain (OpenSpec.ofChange avscFormsSpec)) avscFormsCard

/-- THE TIED CARD OF 'procliticlaw12.CanonForms'. -/
def canonFormsCard : Claim7 := { stood := { row := canonFormsRow, standIns := [], harness := (true, "39d99cad9e63056fd481c7ef363df3b1d5d795f16f97fabd847feca9f81d2db4"), looks := true }, kinds := [], alts := [], laidByText := true, laidKinds := [.data, .data, .data, .data], laidTests := true, laidLooks := .later }
def CanonFormsCardSaid : Prop := Claim7.holds Tryd.pinned (.plain (OpenSpec.ofChange canonFormsSpec)) canonFormsCard

/-- THE SECOND FORM's CARD OF 'procliticlaw6.JsonForms'. -/
def jsonFormsUptoCard : Claim7 := { stood := { row := jsonFormsUptoRow, standIns := [], harness := (true, "39d99cad9e63056fd481c7ef363df3b1d5d795f16f97fabd847feca9f81d2db4"), looks := true }, kinds := [], alts := [], laidByText := true, laidKinds := [.data, .data, .data, .sentinel, .sentinel], laidTests := true, laidLooks := .later }
def JsonFormsUptoCardSaid : Prop := Claim7.holds Tryd.pinned (.plain (OpenSpec.upto jsonFormsSpec)) jsonFormsUptoCard

/-- THE SECOND FORM's CARD OF 'procliticlaw8.PfileForms'. -/
def pfileFormsUptoCard : Claim7 := { stood := { row := pfileFormsUptoRow, standIns := [], harness := (true, "39d99cad9e63056fd481c7ef363df3b1d5d795f16f97fabd847feca9f81d2db4"), looks := true }, kinds := [], alts := [], laidByText := true, laidKinds := [.data], laidTests := true, laidLooks := .later }
def PfileFormsUptoCardSaid : Prop := Claim7.holds Tryd.pinned (.plain (OpenSpec.upto pfileFormsSpec)) pfileFormsUptoCard

/-- THE SECOND FORM's CARD OF 'procliticlaw11.AvscForms'. -/
def avscFormsUptoCard : Claim7 := { stood := { row := avscFormsUptoRow, standIns := [], harness := (true, "39d99cad9e63056fd481c7ef363df3b1d5d795f16f97fabd847feca9f81d2db4"), looks := true }, kinds := [], alts := [], laidByText := true, laidKinds := [.data, .data, .pinned], laidTests := true, laidLooks := .later }
def AvscFormsUptoCardSaid : Prop := Claim7.holds Tryd.pinned (.plain (OpenSpec.upto avscFormsSpec)) avscFormsUptoCard

/-- THE SECOND FORM's CARD OF 'procliticlaw12.CanonForms'. -/
def canonFormsUptoCard : Claim7 := { stood := { row := canonFormsUptoRow, standIns := [], harness := (true, "39d99cad9e63056fd481c7ef363df3b1d5d795f16f97fabd847feca9f81d2db4"), looks := true }, kinds := [], alts := [], laidByText := true, laidKinds := [.data, .data, .data, .data], laidTests := true, laidLooks := .later }
def CanonFormsUptoCardSaid : Prop := Claim7.holds Tryd.pinned (.plain (OpenSpec.upto canonFormsSpec)) canonFormsUptoCard
end Rows
end Go.Proofs.YtmacmgmcngkmgaaDoor
