/-
  DERIVED. GIVEN WITH THE SEED: THE CARDS: each row of YtldhaghgonkknaaDoorRows.lean that lists a variable, with what it lists TIED to the program's text (the seventh form; the later family's looks); each row that meets fmt, with fmt's text TOLD by the authors' own Lean function (tested against real Go, not proved from fmt's source: count such statements apart). THE CARD IS WHAT COUNTS. Prove the row's statement (the work); the ties are given (YtldhaghgonkknaaDoorTie.lean); close each card by the builder's one call (the guide's Derived/Test/ToyasCard.lean, 'card_holds'). Laid BY PROGRAM, IN A SANDBOX (cutbox-door.mjs). By AI agents, Wed Nov 11 2026. No macro, syntax, notation, axiom, sorry.
-/
import Derived.Test.YtldhaghgonkknaaDoorRows
import GoSem.ClaimSeven
namespace Go.Proofs.YtldhaghgonkknaaDoor
namespace Rows

/-- THE TIED CARD OF 'procliticlaw6.JsonAll'. -/
def jsonAllCard : Claim7 := { stood := { row := jsonAllRow, standIns := [], harness := (true, "20dc7fc25109237d9f1f598f1827ca8bab83a4eb6b3d76de9e02b49ee7ad34c8"), looks := true }, kinds := [], alts := [], laidByText := true, laidKinds := [.data, .data, .data, .sentinel, .sentinel], laidTests := true, laidLooks := .later }
def JsonAllCardSaid : Prop := Claim7.holds Tryd.pinned (.plain (OpenSpec.ofChange jsonAllSpec)) jsonAllCard

/-- THE TIED CARD OF 'procliticlaw6.JsonDeep'. -/
def jsonDeepCard : Claim7 := { stood := { row := jsonDeepRow, standIns := [], harness := (true, "20dc7fc25109237d9f1f598f1827ca8bab83a4eb6b3d76de9e02b49ee7ad34c8"), looks := true }, kinds := [], alts := [], laidByText := true, laidKinds := [.data, .data, .data, .sentinel, .sentinel], laidTests := true, laidLooks := .later }
def JsonDeepCardSaid : Prop := Claim7.holds Tryd.pinned (.plain (OpenSpec.ofChange jsonDeepSpec)) jsonDeepCard

/-- THE SECOND FORM's CARD OF 'procliticlaw6.JsonAll'. -/
def jsonAllUptoCard : Claim7 := { stood := { row := jsonAllUptoRow, standIns := [], harness := (true, "20dc7fc25109237d9f1f598f1827ca8bab83a4eb6b3d76de9e02b49ee7ad34c8"), looks := true }, kinds := [], alts := [], laidByText := true, laidKinds := [.data, .data, .data, .sentinel, .sentinel], laidTests := true, laidLooks := .later }
def JsonAllUptoCardSaid : Prop := Claim7.holds Tryd.pinned (.plain (OpenSpec.upto jsonAllSpec)) jsonAllUptoCard

/-- THE SECOND FORM's CARD OF 'procliticlaw6.JsonDeep'. -/
def jsonDeepUptoCard : Claim7 := { stood := { row := jsonDeepUptoRow, standIns := [], harness := (true, "20dc7fc25109237d9f1f598f1827ca8bab83a4eb6b3d76de9e02b49ee7ad34c8"), looks := true }, kinds := [], alts := [], laidByText := true, laidKinds := [.data, .data, .data, .sentinel, .sentinel], laidTests := true, laidLooks := .later }
def JsonDeepUptoCardSaid : Prop := Claim7.holds Tryd.pinned (.plain (OpenSpec.upto jsonDeepSpec)) jsonDeepUptoCard
end Rows
end Go.Proofs.YtldhaghgonkknaaDoor
