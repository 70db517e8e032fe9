/-
  NARROWER THAN 'FOR EVERY INPUT', by the rows' own cells (each row's printed sentence says how): PnameForms: laid.
  DERIVED. THE GIVEN ROWS OF THIS SEAT. 1 by the template 'for every input the law returns true; each argument reads behind the call as it read before'; 0 by the template 'total and deterministic' (their statements: YtdbkjlacdeapfaaGreatDoorTotals.lean).
  GIVEN WITH THE SEED: the statements are not yours to turn. If you find one false, say at which input.
  Laid BY PROGRAM, IN A SANDBOX (cutbox-rows.mjs): the forced cells as the released guide's own fill.sh prints them over the translation d386174256d34468… (all of the seat's roots in one cut). By AI agents, Wed Nov 11 2026. No macro, syntax, notation, axiom, sorry.
-/
import Derived.Test.YtdbkjlacdeapfaaGreatDoorChecked
import GoSem.Claim
import GoSem.ClaimJoined
import GoSem.ClaimMapViews
import Derived.JoinedTies
import Derived.KernelRfl
namespace Go.Proofs.YtdbkjlacdeapfaaGreatDoor
/- THE CELL 'sum', in the pinned program and in every row, IS THE sha256 OF THE DUMP (.gsa) THAT YtdbkjlacdeapfaaGreatDoorProg.lean LOADS. Nothing in Lean hashes anything: it is a label: what it is worth is what the hold of that sum in a sandbox is worth. -/
noncomputable def Tryz.pinned : Pinned := { name := "ytdbkjlacdeapfaagreatdoor", sum := "d386174256d3446859a1510d44f84802df203ff1a3a8e7b71115c3c613e849fe", checked := Tryz.checked }
namespace Rows
def none {H : Type} : Left H := { results := [], args := [] }

/- WHAT THE LISTED PACKAGE-LEVEL VARIABLES READ AS WHEN THE CALL BEGINS. Each datum BY PROGRAM (the guide's laid-datum.mjs) off the statement by which the dump's own 'gosem.cut.vars' lays the variable. In a bare row this is a premise. The card (YtdbkjlacdeapfaaGreatDoorCards.lean) ties it to the program's text. -/
def laid_proclitic_pfile_kindWords {H : Type} : DataW H := .agg [.lit (.string [100, 111, 117, 98, 108, 101]), .lit (.string [102, 108, 111, 97, 116]), .lit (.string [105, 110, 116, 51, 50]), .lit (.string [105, 110, 116, 54, 52]), .lit (.string [117, 105, 110, 116, 51, 50]), .lit (.string [117, 105, 110, 116, 54, 52]), .lit (.string [115, 105, 110, 116, 51, 50]), .lit (.string [115, 105, 110, 116, 54, 52]), .lit (.string [102, 105, 120, 101, 100, 51, 50]), .lit (.string [102, 105, 120, 101, 100, 54, 52]), .lit (.string [115, 102, 105, 120, 101, 100, 51, 50]), .lit (.string [115, 102, 105, 120, 101, 100, 54, 52]), .lit (.string [98, 111, 111, 108]), .lit (.string [115, 116, 114, 105, 110, 103]), .lit (.string [98, 121, 116, 101, 115])]

/-- 'procliticlaw9.PnameForms': WHATEVER THE INPUT: true; the input reads as it did. -/
def pnameFormsSpec : ChangeSpec := { name := "pnameForms", fn := fun _ => fun
  | [] => { results := [.lit (.bool true)], args := [] }
  | _ => none }
def pnameFormsRow : OpenClaim := { program := "ytdbkjlacdeapfaagreatdoor", sum := "d386174256d3446859a1510d44f84802df203ff1a3a8e7b71115c3c613e849fe", func := "proclitic/procliticlaw9.PnameForms", spec := "pnameForms", inPlace := ["internal/bytealg.IndexByteString", "internal/bytealg.IndexString", "internal/abi.NoEscape", "internal/bytealg.MakeNoZero"], unfollowed := true, recurses := true, named := ["internal/bytealg.MaxLen", "proclitic/pfile.kindWords"], apart := false, laid := [("proclitic/pfile.kindWords", laid_proclitic_pfile_kindWords)] }
def PnameFormsSaid : Prop := pnameFormsRow.holds Tryz.pinned (OpenSpec.ofChange pnameFormsSpec)

/-- ITS FALSE NEIGHBOUR: 'it returns false'. Refute it at one input. -/
def pnameFormsWrong : ChangeSpec := { name := "pnameForms", fn := fun _ => fun
  | [] => { results := [.lit (.bool false)], args := [] }
  | _ => none }
def PnameFormsWrongFalsely : Prop := pnameFormsRow.holds Tryz.pinned (OpenSpec.ofChange pnameFormsWrong)

/- THE SECOND FORM. 'bulk': how many values and letters a reading holds, each counted each time it is reached (what is shared counts as often as it is met; a slice's spare places count too). A statement '..UptoSaid' is the law's where the arguments, and the package variables that the reading takes, are together of bulk at most 1048576: NARROWER than '..Said'. Prove '..Said' where nothing that the law and all that it calls make is longer than what came in: it says more and counts as full. Else prove '..UptoSaid'. A law counts once. -/
mutual
def uptoBulk {H : Type} : DataW H → Nat
  | .lit (.string bytes) => bytes.length + 1
  | .lit _ => 1
  | .nil => 1
  | .ptr d => uptoBulk d + 1
  | .slice elems spare => uptoBulkAll elems + uptoBulkAll spare + 1
  | .agg parts => uptoBulkAll parts + 1
  | .iface _ d => uptoBulk d + 1
  | .map entries => uptoBulkEntries entries + 1
  | .held _ => 1
def uptoBulkAll {H : Type} : List (DataW H) → Nat
  | [] => 0
  | d :: r => uptoBulk d + uptoBulkAll r
def uptoBulkEntries {H : Type} : List (Lit × DataW H) → Nat
  | [] => 0
  | x :: r => uptoBulkEntry x + uptoBulkEntries r
def uptoBulkEntry {H : Type} : Lit × DataW H → Nat
  | (.string bytes, d) => bytes.length + uptoBulk d + 1
  | (_, d) => uptoBulk d + 1
 end
def uptoSmall : (H : Type) → List (DataW H) → Bool := fun _ ds => decide (uptoBulkAll ds ≤ 1048576)
def OpenSpec.upto (s : _root_.Go.ChangeSpec) : _root_.Go.OpenSpec := { _root_.Go.OpenSpec.ofChange s with cond := some uptoSmall }

/-- 'procliticlaw9.PnameForms', WHERE WHAT IT READS IS OF BULK AT MOST 1048576: true; the input reads as it did. -/
def pnameFormsUptoRow : OpenClaim := { program := "ytdbkjlacdeapfaagreatdoor", sum := "d386174256d3446859a1510d44f84802df203ff1a3a8e7b71115c3c613e849fe", func := "proclitic/procliticlaw9.PnameForms", spec := "pnameForms", inPlace := ["internal/bytealg.IndexByteString", "internal/bytealg.IndexString", "internal/abi.NoEscape", "internal/bytealg.MakeNoZero"], unfollowed := true, recurses := true, named := ["internal/bytealg.MaxLen", "proclitic/pfile.kindWords"], apart := false, laid := [("proclitic/pfile.kindWords", laid_proclitic_pfile_kindWords)], narrowed := true }
def PnameFormsUptoSaid : Prop := pnameFormsUptoRow.holds Tryz.pinned (OpenSpec.upto pnameFormsSpec)

end Rows
end Go.Proofs.YtdbkjlacdeapfaaGreatDoor
