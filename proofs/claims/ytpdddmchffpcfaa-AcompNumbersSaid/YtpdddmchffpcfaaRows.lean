/-
  No cell of these rows narrows 'for every input' (looked for: loops, veiled, ifaces, maps, wideKeys, modest, calm, conditions, laid).
  DERIVED. THE GIVEN ROWS OF THIS SEAT. 2 by the template 'for every input the law returns true; each argument reads behind the call as it read before'; 0 by the template 'total and deterministic' (their statements: YtpdddmchffpcfaaTotals.lean).
  GIVEN WITH THE SEED: the statements are not yours to turn. If you find one false, say at which input.
  Laid BY PROGRAM, IN A SANDBOX (cutbox-rows.mjs): the forced cells as the released guide's own fill.sh prints them over the translation 854430b55f4ff70e… (all of the seat's roots in one cut). By AI agents, Wed Nov 11 2026. No macro, syntax, notation, axiom, sorry.
-/
import Derived.Test.YtpdddmchffpcfaaChecked
import GoSem.Claim
import GoSem.ClaimJoined
import GoSem.ClaimMapViews
import Derived.JoinedTies
import Derived.KernelRfl
namespace Go.Proofs.Ytpdddmchffpcfaa
/- THE CELL 'sum', in the pinned program and in every row, IS THE sha256 OF THE DUMP (.gsa) THAT YtpdddmchffpcfaaProg.lean LOADS. Nothing in Lean hashes anything: it is a label: what it is worth is what the hold of that sum in a sandbox is worth. -/
noncomputable def Try.pinned : Pinned := { name := "ytpdddmchffpcfaa", sum := "854430b55f4ff70e964b9839ccdcb25fee3cfa1ddc4f87aec4bef3038e467537", checked := Try.checked }
namespace Rows
def none {H : Type} : Left H := { results := [], args := [] }

/-- 'procliticlaw13.BornMade': WHATEVER THE INPUT: true; the input reads as it did. -/
def bornMadeSpec : ChangeSpec := { name := "bornMade", fn := fun _ => fun
  | [d] => { results := [.lit (.bool true)], args := [d] }
  | _ => none }
def bornMadeRow : OpenClaim := { program := "ytpdddmchffpcfaa", sum := "854430b55f4ff70e964b9839ccdcb25fee3cfa1ddc4f87aec4bef3038e467537", func := "proclitic/procliticlaw13.BornMade", spec := "bornMade", inPlace := ["internal/abi.NoEscape", "internal/bytealg.MakeNoZero"], recurses := true, plainKeys := false, apart := false }
def BornMadeSaid : Prop := bornMadeRow.holds Try.pinned (OpenSpec.ofChange bornMadeSpec)

/-- ITS FALSE NEIGHBOUR: 'it returns false'. Refute it at one input. -/
def bornMadeWrong : ChangeSpec := { name := "bornMade", fn := fun _ => fun
  | [d] => { results := [.lit (.bool false)], args := [d] }
  | _ => none }
def BornMadeWrongFalsely : Prop := bornMadeRow.holds Try.pinned (OpenSpec.ofChange bornMadeWrong)

/-- 'procliticlaw23.AcompNumbers': WHATEVER THE INPUT: true; the input reads as it did. -/
def acompNumbersSpec : ChangeSpec := { name := "acompNumbers", fn := fun _ => fun
  | [d1, d2] => { results := [.lit (.bool true)], args := [d1, d2] }
  | _ => none }
def acompNumbersRow : OpenClaim := { program := "ytpdddmchffpcfaa", sum := "854430b55f4ff70e964b9839ccdcb25fee3cfa1ddc4f87aec4bef3038e467537", func := "proclitic/procliticlaw23.AcompNumbers", spec := "acompNumbers", unfollowed := true, recurses := true, plainKeys := false, apart := false }
def AcompNumbersSaid : Prop := acompNumbersRow.holds Try.pinned (OpenSpec.ofChange acompNumbersSpec)

/-- ITS FALSE NEIGHBOUR: 'it returns false'. Refute it at one input. -/
def acompNumbersWrong : ChangeSpec := { name := "acompNumbers", fn := fun _ => fun
  | [d1, d2] => { results := [.lit (.bool false)], args := [d1, d2] }
  | _ => none }
def AcompNumbersWrongFalsely : Prop := acompNumbersRow.holds Try.pinned (OpenSpec.ofChange acompNumbersWrong)

/- THE SECOND FORM. 'bulk': how many values and letters a reading holds, each counted each time it is reached (what is shared counts as often as it is met; a slice's spare places count too). A statement '..UptoSaid' is the law's where the arguments, and the package variables that the reading takes, are together of bulk at most 1048576: NARROWER than '..Said'. Prove '..Said' where nothing that the law and all that it calls make is longer than what came in: it says more and counts as full. Else prove '..UptoSaid'. A law counts once. -/
mutual
def uptoBulk {H : Type} : DataW H → Nat
  | .lit (.string bytes) => bytes.length + 1
  | .lit _ => 1
  | .nil => 1
  | .ptr d => uptoBulk d + 1
  | .slice elems spare => uptoBulkAll elems + uptoBulkAll spare + 1
  | .agg parts => uptoBulkAll parts + 1
  | .iface _ d => uptoBulk d + 1
  | .map entries => uptoBulkEntries entries + 1
  | .held _ => 1
def uptoBulkAll {H : Type} : List (DataW H) → Nat
  | [] => 0
  | d :: r => uptoBulk d + uptoBulkAll r
def uptoBulkEntries {H : Type} : List (Lit × DataW H) → Nat
  | [] => 0
  | x :: r => uptoBulkEntry x + uptoBulkEntries r
def uptoBulkEntry {H : Type} : Lit × DataW H → Nat
  | (.string bytes, d) => bytes.length + uptoBulk d + 1
  | (_, d) => uptoBulk d + 1
 end
def uptoSmall : (H : Type) → List (DataW H) → Bool := fun _ ds => decide (uptoBulkAll ds ≤ 1048576)
def OpenSpec.upto (s : _root_.Go.ChangeSpec) : _root_.Go.OpenSpec := { _root_.Go.OpenSpec.ofChange s with cond := some uptoSmall }

/-- 'procliticlaw13.BornMade', WHERE WHAT IT READS IS OF BULK AT MOST 1048576: true; the input reads as it did. -/
def bornMadeUptoRow : OpenClaim := { program := "ytpdddmchffpcfaa", sum := "854430b55f4ff70e964b9839ccdcb25fee3cfa1ddc4f87aec4bef3038e467537", func := "proclitic/procliticlaw13.BornMade", spec := "bornMade", inPlace := ["internal/abi.NoEscape", "internal/bytealg.MakeNoZero"], recurses := true, plainKeys := false, apart := false, narrowed := true }
def BornMadeUptoSaid : Prop := bornMadeUptoRow.holds Try.pinned (OpenSpec.upto bornMadeSpec)

/-- 'procliticlaw23.AcompNumbers', WHERE WHAT IT READS IS OF BULK AT MOST 1048576: true; the input reads as it did. -/
def acompNumbersUptoRow : OpenClaim := { program := "ytpdddmchffpcfaa", sum := "854430b55f4ff70e964b9839ccdcb25fee3cfa1ddc4f87aec4bef3038e467537", func := "proclitic/procliticlaw23.AcompNumbers", spec := "acompNumbers", unfollowed := true, recurses := true, plainKeys := false, apart := false, narrowed := true }
def AcompNumbersUptoSaid : Prop := acompNumbersUptoRow.holds Try.pinned (OpenSpec.upto acompNumbersSpec)

end Rows
end Go.Proofs.Ytpdddmchffpcfaa
