/-
  No cell of these rows narrows 'for every input' (looked for: loops, veiled, ifaces, maps, wideKeys, modest, calm, conditions, laid).
  DERIVED. THE GIVEN ROWS OF THIS SEAT. 2 by the template 'for every input the law returns true; each argument reads behind the call as it read before'; 0 by the template 'total and deterministic' (their statements: YtbdmacfknhoddaaTotals.lean).
  GIVEN WITH THE SEED: the statements are not yours to turn. If you find one false, say at which input.
  Laid BY PROGRAM, IN A SANDBOX (cutbox-rows.mjs): the forced cells as the released guide's own fill.sh prints them over the translation e1fc814ce3f8542a… (all of the seat's roots in one cut). By AI agents, Wed Nov 11 2026. No macro, syntax, notation, axiom, sorry.
-/
import Derived.Test.YtbdmacfknhoddaaChecked
import GoSem.Claim
import GoSem.ClaimJoined
import GoSem.ClaimMapViews
import Derived.JoinedTies
import Derived.KernelRfl
namespace Go.Proofs.Ytbdmacfknhoddaa
/- THE CELL 'sum', in the pinned program and in every row, IS THE sha256 OF THE DUMP (.gsa) THAT YtbdmacfknhoddaaProg.lean LOADS. Nothing in Lean hashes anything: it is a label: what it is worth is what the hold of that sum in a sandbox is worth. -/
noncomputable def Try.pinned : Pinned := { name := "ytbdmacfknhoddaa", sum := "e1fc814ce3f8542a3c991624a94ebd1cf5b773402b245d5acbc8d213da5ee37b", checked := Try.checked }
namespace Rows
def none {H : Type} : Left H := { results := [], args := [] }

/-- 'procliticlaw20.AvalRanges': WHATEVER THE INPUT: true; the input reads as it did. -/
def avalRangesSpec : ChangeSpec := { name := "avalRanges", fn := fun _ => fun
  | [d] => { results := [.lit (.bool true)], args := [d] }
  | _ => none }
def avalRangesRow : OpenClaim := { program := "ytbdmacfknhoddaa", sum := "e1fc814ce3f8542a3c991624a94ebd1cf5b773402b245d5acbc8d213da5ee37b", func := "proclitic/procliticlaw20.AvalRanges", spec := "avalRanges", unfollowed := true, recurses := true, plainKeys := false, apart := false }
def AvalRangesSaid : Prop := avalRangesRow.holds Try.pinned (OpenSpec.ofChange avalRangesSpec)

/-- ITS FALSE NEIGHBOUR: 'it returns false'. Refute it at one input. -/
def avalRangesWrong : ChangeSpec := { name := "avalRanges", fn := fun _ => fun
  | [d] => { results := [.lit (.bool false)], args := [d] }
  | _ => none }
def AvalRangesWrongFalsely : Prop := avalRangesRow.holds Try.pinned (OpenSpec.ofChange avalRangesWrong)

/-- 'procliticlaw23.AcompForms': WHATEVER THE INPUT: true; the input reads as it did. -/
def acompFormsSpec : ChangeSpec := { name := "acompForms", fn := fun _ => fun
  | [] => { results := [.lit (.bool true)], args := [] }
  | _ => none }
def acompFormsRow : OpenClaim := { program := "ytbdmacfknhoddaa", sum := "e1fc814ce3f8542a3c991624a94ebd1cf5b773402b245d5acbc8d213da5ee37b", func := "proclitic/procliticlaw23.AcompForms", spec := "acompForms", unfollowed := true, recurses := true, plainKeys := false, apart := false }
def AcompFormsSaid : Prop := acompFormsRow.holds Try.pinned (OpenSpec.ofChange acompFormsSpec)

/-- ITS FALSE NEIGHBOUR: 'it returns false'. Refute it at one input. -/
def acompFormsWrong : ChangeSpec := { name := "acompForms", fn := fun _ => fun
  | [] => { results := [.lit (.bool false)], args := [] }
  | _ => none }
def AcompFormsWrongFalsely : Prop := acompFormsRow.holds Try.pinned (OpenSpec.ofChange acompFormsWrong)

/- THE SECOND FORM. 'bulk': how many values and letters a reading holds, each counted each time it is reached (what is shared counts as often as it is met; a slice's spare places count too). A statement '..UptoSaid' is the law's where the arguments, and the package variables that the reading takes, are together of bulk at most 1048576: NARROWER than '..Said'. Prove '..Said' where nothing that the law and all that it calls make is longer than what came in: it says more and counts as full. Else prove '..UptoSaid'. A law counts once. -/
mutual
def uptoBulk {H : Type} : DataW H → Nat
  | .lit (.string bytes) => bytes.length + 1
  | .lit _ => 1
  | .nil => 1
  | .ptr d => uptoBulk d + 1
  | .slice elems spare => uptoBulkAll elems + uptoBulkAll spare + 1
  | .agg parts => uptoBulkAll parts + 1
  | .iface _ d => uptoBulk d + 1
  | .map entries => uptoBulkEntries entries + 1
  | .held _ => 1
def uptoBulkAll {H : Type} : List (DataW H) → Nat
  | [] => 0
  | d :: r => uptoBulk d + uptoBulkAll r
def uptoBulkEntries {H : Type} : List (Lit × DataW H) → Nat
  | [] => 0
  | x :: r => uptoBulkEntry x + uptoBulkEntries r
def uptoBulkEntry {H : Type} : Lit × DataW H → Nat
  | (.string bytes, d) => bytes.length + uptoBulk d + 1
  | (_, d) => uptoBulk d + 1
 end
def uptoSmall : (H : Type) → List (DataW H) → Bool := fun _ ds => decide (uptoBulkAll ds ≤ 1048576)
def OpenSpec.upto (s : _root_.Go.ChangeSpec) : _root_.Go.OpenSpec := { _root_.Go.OpenSpec.ofChange s with cond := some uptoSmall }

/-- 'procliticlaw20.AvalRanges', WHERE WHAT IT READS IS OF BULK AT MOST 1048576: true; the input reads as it did. -/
def avalRangesUptoRow : OpenClaim := { program := "ytbdmacfknhoddaa", sum := "e1fc814ce3f8542a3c991624a94ebd1cf5b773402b245d5acbc8d213da5ee37b", func := "proclitic/procliticlaw20.AvalRanges", spec := "avalRanges", unfollowed := true, recurses := true, plainKeys := false, apart := false, narrowed := true }
def AvalRangesUptoSaid : Prop := avalRangesUptoRow.holds Try.pinned (OpenSpec.upto avalRangesSpec)

/-- 'procliticlaw23.AcompForms', WHERE WHAT IT READS IS OF BULK AT MOST 1048576: true; the input reads as it did. -/
def acompFormsUptoRow : OpenClaim := { program := "ytbdmacfknhoddaa", sum := "e1fc814ce3f8542a3c991624a94ebd1cf5b773402b245d5acbc8d213da5ee37b", func := "proclitic/procliticlaw23.AcompForms", spec := "acompForms", unfollowed := true, recurses := true, plainKeys := false, apart := false, narrowed := true }
def AcompFormsUptoSaid : Prop := acompFormsUptoRow.holds Try.pinned (OpenSpec.upto acompFormsSpec)

end Rows
end Go.Proofs.Ytbdmacfknhoddaa
