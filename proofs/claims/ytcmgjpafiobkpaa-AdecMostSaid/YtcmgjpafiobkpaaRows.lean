/-
  No cell of these rows narrows 'for every input' (looked for: loops, veiled, ifaces, maps, wideKeys, modest, calm, conditions, laid).
  DERIVED. THE GIVEN ROWS OF THIS SEAT. 3 by the template 'for every input the law returns true; each argument reads behind the call as it read before'; 0 by the template 'total and deterministic' (their statements: YtcmgjpafiobkpaaTotals.lean).
  GIVEN WITH THE SEED: the statements are not yours to turn. If you find one false, say at which input.
  Laid BY PROGRAM, IN A SANDBOX (cutbox-rows.mjs): the forced cells as the released guide's own fill.sh prints them over the translation 2501531d1e02cb6c… (all of the seat's roots in one cut). By AI agents, Wed Nov 11 2026. No macro, syntax, notation, axiom, sorry.
-/
import Derived.Test.YtcmgjpafiobkpaaChecked
import GoSem.Claim
import GoSem.ClaimJoined
import GoSem.ClaimMapViews
import Derived.JoinedTies
import Derived.KernelRfl
namespace Go.Proofs.Ytcmgjpafiobkpaa
/- THE CELL 'sum', in the pinned program and in every row, IS THE sha256 OF THE DUMP (.gsa) THAT YtcmgjpafiobkpaaProg.lean LOADS. Nothing in Lean hashes anything: it is a label: what it is worth is what the hold of that sum in a sandbox is worth. -/
noncomputable def Try.pinned : Pinned := { name := "ytcmgjpafiobkpaa", sum := "2501531d1e02cb6cf408924f9970632d187f648588d6301c1f159067e46cc5a2", checked := Try.checked }
namespace Rows
def none {H : Type} : Left H := { results := [], args := [] }

/-- 'procliticlaw21.AdecMost': WHATEVER THE INPUT: true; the input reads as it did. -/
def adecMostSpec : ChangeSpec := { name := "adecMost", fn := fun _ => fun
  | [d1, d2] => { results := [.lit (.bool true)], args := [d1, d2] }
  | _ => none }
def adecMostRow : OpenClaim := { program := "ytcmgjpafiobkpaa", sum := "2501531d1e02cb6cf408924f9970632d187f648588d6301c1f159067e46cc5a2", func := "proclitic/procliticlaw21.AdecMost", spec := "adecMost", unfollowed := true, recurses := true, plainKeys := false, apart := false }
def AdecMostSaid : Prop := adecMostRow.holds Try.pinned (OpenSpec.ofChange adecMostSpec)

/-- ITS FALSE NEIGHBOUR: 'it returns false'. Refute it at one input. -/
def adecMostWrong : ChangeSpec := { name := "adecMost", fn := fun _ => fun
  | [d1, d2] => { results := [.lit (.bool false)], args := [d1, d2] }
  | _ => none }
def AdecMostWrongFalsely : Prop := adecMostRow.holds Try.pinned (OpenSpec.ofChange adecMostWrong)

/-- 'procliticlaw22.AencSizes': WHATEVER THE INPUT: true; the input reads as it did. -/
def aencSizesSpec : ChangeSpec := { name := "aencSizes", fn := fun _ => fun
  | [d1, d2, d3] => { results := [.lit (.bool true)], args := [d1, d2, d3] }
  | _ => none }
def aencSizesRow : OpenClaim := { program := "ytcmgjpafiobkpaa", sum := "2501531d1e02cb6cf408924f9970632d187f648588d6301c1f159067e46cc5a2", func := "proclitic/procliticlaw22.AencSizes", spec := "aencSizes", recurses := true, plainKeys := false, apart := false }
def AencSizesSaid : Prop := aencSizesRow.holds Try.pinned (OpenSpec.ofChange aencSizesSpec)

/-- ITS FALSE NEIGHBOUR: 'it returns false'. Refute it at one input. -/
def aencSizesWrong : ChangeSpec := { name := "aencSizes", fn := fun _ => fun
  | [d1, d2, d3] => { results := [.lit (.bool false)], args := [d1, d2, d3] }
  | _ => none }
def AencSizesWrongFalsely : Prop := aencSizesRow.holds Try.pinned (OpenSpec.ofChange aencSizesWrong)

/-- 'procliticlaw23.AcompNumbers': WHATEVER THE INPUT: true; the input reads as it did. -/
def acompNumbersSpec : ChangeSpec := { name := "acompNumbers", fn := fun _ => fun
  | [d1, d2] => { results := [.lit (.bool true)], args := [d1, d2] }
  | _ => none }
def acompNumbersRow : OpenClaim := { program := "ytcmgjpafiobkpaa", sum := "2501531d1e02cb6cf408924f9970632d187f648588d6301c1f159067e46cc5a2", func := "proclitic/procliticlaw23.AcompNumbers", spec := "acompNumbers", unfollowed := true, recurses := true, plainKeys := false, apart := false }
def AcompNumbersSaid : Prop := acompNumbersRow.holds Try.pinned (OpenSpec.ofChange acompNumbersSpec)

/-- ITS FALSE NEIGHBOUR: 'it returns false'. Refute it at one input. -/
def acompNumbersWrong : ChangeSpec := { name := "acompNumbers", fn := fun _ => fun
  | [d1, d2] => { results := [.lit (.bool false)], args := [d1, d2] }
  | _ => none }
def AcompNumbersWrongFalsely : Prop := acompNumbersRow.holds Try.pinned (OpenSpec.ofChange acompNumbersWrong)

/- THE SECOND FORM. 'bulk': how many values and letters a reading holds, each counted each time it is reached (what is shared counts as often as it is met; a slice's spare places count too). A statement '..UptoSaid' is the law's where the arguments, and the package variables that the reading takes, are together of bulk at most 1048576: NARROWER than '..Said'. Prove '..Said' where nothing that the law and all that it calls make is longer than what came in: it says more and counts as full. Else prove '..UptoSaid'. A law counts once. -/
mutual
def uptoBulk {H : Type} : DataW H → Nat
  | .lit (.string bytes) => bytes.length + 1
  | .lit _ => 1
  | .nil => 1
  | .ptr d => uptoBulk d + 1
  | .slice elems spare => uptoBulkAll elems + uptoBulkAll spare + 1
  | .agg parts => uptoBulkAll parts + 1
  | .iface _ d => uptoBulk d + 1
  | .map entries => uptoBulkEntries entries + 1
  | .held _ => 1
def uptoBulkAll {H : Type} : List (DataW H) → Nat
  | [] => 0
  | d :: r => uptoBulk d + uptoBulkAll r
def uptoBulkEntries {H : Type} : List (Lit × DataW H) → Nat
  | [] => 0
  | x :: r => uptoBulkEntry x + uptoBulkEntries r
def uptoBulkEntry {H : Type} : Lit × DataW H → Nat
  | (.string bytes, d) => bytes.length + uptoBulk d + 1
  | (_, d) => uptoBulk d + 1
 end
def uptoSmall : (H : Type) → List (DataW H) → Bool := fun _ ds => decide (uptoBulkAll ds ≤ 1048576)
def OpenSpec.upto (s : _root_.Go.ChangeSpec) : _root_.Go.OpenSpec := { _root_.Go.OpenSpec.ofChange s with cond := some uptoSmall }

/-- 'procliticlaw21.AdecMost', WHERE WHAT IT READS IS OF BULK AT MOST 1048576: true; the input reads as it did. -/
def adecMostUptoRow : OpenClaim := { program := "ytcmgjpafiobkpaa", sum := "2501531d1e02cb6cf408924f9970632d187f648588d6301c1f159067e46cc5a2", func := "proclitic/procliticlaw21.AdecMost", spec := "adecMost", unfollowed := true, recurses := true, plainKeys := false, apart := false, narrowed := true }
def AdecMostUptoSaid : Prop := adecMostUptoRow.holds Try.pinned (OpenSpec.upto adecMostSpec)

/-- 'procliticlaw22.AencSizes', WHERE WHAT IT READS IS OF BULK AT MOST 1048576: true; the input reads as it did. -/
def aencSizesUptoRow : OpenClaim := { program := "ytcmgjpafiobkpaa", sum := "2501531d1e02cb6cf408924f9970632d187f648588d6301c1f159067e46cc5a2", func := "proclitic/procliticlaw22.AencSizes", spec := "aencSizes", recurses := true, plainKeys := false, apart := false, narrowed := true }
def AencSizesUptoSaid : Prop := aencSizesUptoRow.holds Try.pinned (OpenSpec.upto aencSizesSpec)

/-- 'procliticlaw23.AcompNumbers', WHERE WHAT IT READS IS OF BULK AT MOST 1048576: true; the input reads as it did. -/
def acompNumbersUptoRow : OpenClaim := { program := "ytcmgjpafiobkpaa", sum := "2501531d1e02cb6cf408924f9970632d187f648588d6301c1f159067e46cc5a2", func := "proclitic/procliticlaw23.AcompNumbers", spec := "acompNumbers", unfollowed := true, recurses := true, plainKeys := false, apart := false, narrowed := true }
def AcompNumbersUptoSaid : Prop := acompNumbersUptoRow.holds Try.pinned (OpenSpec.upto acompNumbersSpec)

end Rows
end Go.Proofs.Ytcmgjpafiobkpaa
