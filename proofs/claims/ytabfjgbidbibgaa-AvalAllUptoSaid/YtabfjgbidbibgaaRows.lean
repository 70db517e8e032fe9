/-
  NARROWER THAN 'FOR EVERY INPUT', by the rows' own cells (each row's printed sentence says how): AvalAll: loops.
  DERIVED. THE GIVEN ROWS OF THIS SEAT. 5 by the template 'for every input the law returns true; each argument reads behind the call as it read before'; 0 by the template 'total and deterministic' (their statements: YtabfjgbidbibgaaTotals.lean).
  GIVEN WITH THE SEED: the statements are not yours to turn. If you find one false, say at which input.
  Laid BY PROGRAM, IN A SANDBOX (cutbox-rows.mjs): the forced cells as the released guide's own fill.sh prints them over the translation 06d9edce0ab16515… (all of the seat's roots in one cut). By AI agents, Wed Nov 11 2026. No macro, syntax, notation, axiom, sorry.
-/
import Derived.Test.YtabfjgbidbibgaaChecked
import GoSem.Claim
import GoSem.ClaimJoined
import GoSem.ClaimMapViews
import Derived.JoinedTies
import Derived.KernelRfl
namespace Go.Proofs.Ytabfjgbidbibgaa
/- THE CELL 'sum', in the pinned program and in every row, IS THE sha256 OF THE DUMP (.gsa) THAT YtabfjgbidbibgaaProg.lean LOADS. Nothing in Lean hashes anything: it is a label: what it is worth is what the hold of that sum in a sandbox is worth. -/
noncomputable def Try.pinned : Pinned := { name := "ytabfjgbidbibgaa", sum := "06d9edce0ab165151b35592d0a7244b0b778010390151275bbfb1f1634532d87", checked := Try.checked }
namespace Rows
def none {H : Type} : Left H := { results := [], args := [] }

/-- 'procliticlaw20.AvalAll': WHATEVER THE INPUT: true; the input reads as it did. -/
def avalAllSpec : ChangeSpec := { name := "avalAll", fn := fun _ => fun
  | [d1, d2, d3, d4] => { results := [.lit (.bool true)], args := [d1, d2, d3, d4] }
  | _ => none }
def avalAllRow : OpenClaim := { program := "ytabfjgbidbibgaa", sum := "06d9edce0ab165151b35592d0a7244b0b778010390151275bbfb1f1634532d87", func := "proclitic/procliticlaw20.AvalAll", spec := "avalAll", unfollowed := true, recurses := true, loops := true, apart := false }
def AvalAllSaid : Prop := avalAllRow.holds Try.pinned (OpenSpec.ofChange avalAllSpec)

/-- ITS FALSE NEIGHBOUR: 'it returns false'. Refute it at one input. -/
def avalAllWrong : ChangeSpec := { name := "avalAll", fn := fun _ => fun
  | [d1, d2, d3, d4] => { results := [.lit (.bool false)], args := [d1, d2, d3, d4] }
  | _ => none }
def AvalAllWrongFalsely : Prop := avalAllRow.holds Try.pinned (OpenSpec.ofChange avalAllWrong)

/-- 'procliticlaw20.AvalTurned': WHATEVER THE INPUT: true; the input reads as it did. -/
def avalTurnedSpec : ChangeSpec := { name := "avalTurned", fn := fun _ => fun
  | [d1, d2, d3, d4] => { results := [.lit (.bool true)], args := [d1, d2, d3, d4] }
  | _ => none }
def avalTurnedRow : OpenClaim := { program := "ytabfjgbidbibgaa", sum := "06d9edce0ab165151b35592d0a7244b0b778010390151275bbfb1f1634532d87", func := "proclitic/procliticlaw20.AvalTurned", spec := "avalTurned", unfollowed := true, recurses := true, apart := false }
def AvalTurnedSaid : Prop := avalTurnedRow.holds Try.pinned (OpenSpec.ofChange avalTurnedSpec)

/-- ITS FALSE NEIGHBOUR: 'it returns false'. Refute it at one input. -/
def avalTurnedWrong : ChangeSpec := { name := "avalTurned", fn := fun _ => fun
  | [d1, d2, d3, d4] => { results := [.lit (.bool false)], args := [d1, d2, d3, d4] }
  | _ => none }
def AvalTurnedWrongFalsely : Prop := avalTurnedRow.holds Try.pinned (OpenSpec.ofChange avalTurnedWrong)

/-- 'procliticlaw21.AdecIs': WHATEVER THE INPUT: true; the input reads as it did. -/
def adecIsSpec : ChangeSpec := { name := "adecIs", fn := fun _ => fun
  | [d1, d2] => { results := [.lit (.bool true)], args := [d1, d2] }
  | _ => none }
def adecIsRow : OpenClaim := { program := "ytabfjgbidbibgaa", sum := "06d9edce0ab165151b35592d0a7244b0b778010390151275bbfb1f1634532d87", func := "proclitic/procliticlaw21.AdecIs", spec := "adecIs", unfollowed := true, recurses := true, apart := false }
def AdecIsSaid : Prop := adecIsRow.holds Try.pinned (OpenSpec.ofChange adecIsSpec)

/-- ITS FALSE NEIGHBOUR: 'it returns false'. Refute it at one input. -/
def adecIsWrong : ChangeSpec := { name := "adecIs", fn := fun _ => fun
  | [d1, d2] => { results := [.lit (.bool false)], args := [d1, d2] }
  | _ => none }
def AdecIsWrongFalsely : Prop := adecIsRow.holds Try.pinned (OpenSpec.ofChange adecIsWrong)

/-- 'procliticlaw22.AencAll': WHATEVER THE INPUT: true; the input reads as it did. -/
def aencAllSpec : ChangeSpec := { name := "aencAll", fn := fun _ => fun
  | [d1, d2, d3, d4, d5] => { results := [.lit (.bool true)], args := [d1, d2, d3, d4, d5] }
  | _ => none }
def aencAllRow : OpenClaim := { program := "ytabfjgbidbibgaa", sum := "06d9edce0ab165151b35592d0a7244b0b778010390151275bbfb1f1634532d87", func := "proclitic/procliticlaw22.AencAll", spec := "aencAll", recurses := true, apart := false }
def AencAllSaid : Prop := aencAllRow.holds Try.pinned (OpenSpec.ofChange aencAllSpec)

/-- ITS FALSE NEIGHBOUR: 'it returns false'. Refute it at one input. -/
def aencAllWrong : ChangeSpec := { name := "aencAll", fn := fun _ => fun
  | [d1, d2, d3, d4, d5] => { results := [.lit (.bool false)], args := [d1, d2, d3, d4, d5] }
  | _ => none }
def AencAllWrongFalsely : Prop := aencAllRow.holds Try.pinned (OpenSpec.ofChange aencAllWrong)

/-- 'procliticlaw22.AencSizes': WHATEVER THE INPUT: true; the input reads as it did. -/
def aencSizesSpec : ChangeSpec := { name := "aencSizes", fn := fun _ => fun
  | [d1, d2, d3] => { results := [.lit (.bool true)], args := [d1, d2, d3] }
  | _ => none }
def aencSizesRow : OpenClaim := { program := "ytabfjgbidbibgaa", sum := "06d9edce0ab165151b35592d0a7244b0b778010390151275bbfb1f1634532d87", func := "proclitic/procliticlaw22.AencSizes", spec := "aencSizes", recurses := true, apart := false }
def AencSizesSaid : Prop := aencSizesRow.holds Try.pinned (OpenSpec.ofChange aencSizesSpec)

/-- ITS FALSE NEIGHBOUR: 'it returns false'. Refute it at one input. -/
def aencSizesWrong : ChangeSpec := { name := "aencSizes", fn := fun _ => fun
  | [d1, d2, d3] => { results := [.lit (.bool false)], args := [d1, d2, d3] }
  | _ => none }
def AencSizesWrongFalsely : Prop := aencSizesRow.holds Try.pinned (OpenSpec.ofChange aencSizesWrong)

/- THE SECOND FORM. 'bulk': how many values and letters a reading holds, each counted each time it is reached (what is shared counts as often as it is met; a slice's spare places count too). A statement '..UptoSaid' is the law's where the arguments, and the package variables that the reading takes, are together of bulk at most 1048576: NARROWER than '..Said'. Prove '..Said' where nothing that the law and all that it calls make is longer than what came in: it says more and counts as full. Else prove '..UptoSaid'. A law counts once. -/
mutual
def uptoBulk {H : Type} : DataW H → Nat
  | .lit (.string bytes) => bytes.length + 1
  | .lit _ => 1
  | .nil => 1
  | .ptr d => uptoBulk d + 1
  | .slice elems spare => uptoBulkAll elems + uptoBulkAll spare + 1
  | .agg parts => uptoBulkAll parts + 1
  | .iface _ d => uptoBulk d + 1
  | .map entries => uptoBulkEntries entries + 1
  | .held _ => 1
def uptoBulkAll {H : Type} : List (DataW H) → Nat
  | [] => 0
  | d :: r => uptoBulk d + uptoBulkAll r
def uptoBulkEntries {H : Type} : List (Lit × DataW H) → Nat
  | [] => 0
  | x :: r => uptoBulkEntry x + uptoBulkEntries r
def uptoBulkEntry {H : Type} : Lit × DataW H → Nat
  | (.string bytes, d) => bytes.length + uptoBulk d + 1
  | (_, d) => uptoBulk d + 1
 end
def uptoSmall : (H : Type) → List (DataW H) → Bool := fun _ ds => decide (uptoBulkAll ds ≤ 1048576)
def OpenSpec.upto (s : _root_.Go.ChangeSpec) : _root_.Go.OpenSpec := { _root_.Go.OpenSpec.ofChange s with cond := some uptoSmall }

/-- 'procliticlaw20.AvalAll', WHERE WHAT IT READS IS OF BULK AT MOST 1048576: true; the input reads as it did. -/
def avalAllUptoRow : OpenClaim := { program := "ytabfjgbidbibgaa", sum := "06d9edce0ab165151b35592d0a7244b0b778010390151275bbfb1f1634532d87", func := "proclitic/procliticlaw20.AvalAll", spec := "avalAll", unfollowed := true, recurses := true, loops := true, apart := false, narrowed := true }
def AvalAllUptoSaid : Prop := avalAllUptoRow.holds Try.pinned (OpenSpec.upto avalAllSpec)

/-- 'procliticlaw20.AvalTurned', WHERE WHAT IT READS IS OF BULK AT MOST 1048576: true; the input reads as it did. -/
def avalTurnedUptoRow : OpenClaim := { program := "ytabfjgbidbibgaa", sum := "06d9edce0ab165151b35592d0a7244b0b778010390151275bbfb1f1634532d87", func := "proclitic/procliticlaw20.AvalTurned", spec := "avalTurned", unfollowed := true, recurses := true, apart := false, narrowed := true }
def AvalTurnedUptoSaid : Prop := avalTurnedUptoRow.holds Try.pinned (OpenSpec.upto avalTurnedSpec)

/-- 'procliticlaw21.AdecIs', WHERE WHAT IT READS IS OF BULK AT MOST 1048576: true; the input reads as it did. -/
def adecIsUptoRow : OpenClaim := { program := "ytabfjgbidbibgaa", sum := "06d9edce0ab165151b35592d0a7244b0b778010390151275bbfb1f1634532d87", func := "proclitic/procliticlaw21.AdecIs", spec := "adecIs", unfollowed := true, recurses := true, apart := false, narrowed := true }
def AdecIsUptoSaid : Prop := adecIsUptoRow.holds Try.pinned (OpenSpec.upto adecIsSpec)

/-- 'procliticlaw22.AencAll', WHERE WHAT IT READS IS OF BULK AT MOST 1048576: true; the input reads as it did. -/
def aencAllUptoRow : OpenClaim := { program := "ytabfjgbidbibgaa", sum := "06d9edce0ab165151b35592d0a7244b0b778010390151275bbfb1f1634532d87", func := "proclitic/procliticlaw22.AencAll", spec := "aencAll", recurses := true, apart := false, narrowed := true }
def AencAllUptoSaid : Prop := aencAllUptoRow.holds Try.pinned (OpenSpec.upto aencAllSpec)

/-- 'procliticlaw22.AencSizes', WHERE WHAT IT READS IS OF BULK AT MOST 1048576: true; the input reads as it did. -/
def aencSizesUptoRow : OpenClaim := { program := "ytabfjgbidbibgaa", sum := "06d9edce0ab165151b35592d0a7244b0b778010390151275bbfb1f1634532d87", func := "proclitic/procliticlaw22.AencSizes", spec := "aencSizes", recurses := true, apart := false, narrowed := true }
def AencSizesUptoSaid : Prop := aencSizesUptoRow.holds Try.pinned (OpenSpec.upto aencSizesSpec)

end Rows
end Go.Proofs.Ytabfjgbidbibgaa
