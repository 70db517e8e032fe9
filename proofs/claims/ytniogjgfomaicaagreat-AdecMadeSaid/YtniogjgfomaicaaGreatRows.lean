/-
  No cell of these rows narrows 'for every input' (looked for: loops, veiled, ifaces, maps, wideKeys, modest, calm, conditions, laid).
  DERIVED. THE GIVEN ROWS OF THIS SEAT. 4 by the template 'for every input the law returns true; each argument reads behind the call as it read before'; 0 by the template 'total and deterministic' (their statements: YtniogjgfomaicaaGreatTotals.lean).
  GIVEN WITH THE SEED: the statements are not yours to turn. If you find one false, say at which input.
  Laid BY PROGRAM, IN A SANDBOX (cutbox-rows.mjs): the forced cells as the released guide's own fill.sh prints them over the translation b7ee79fddde0fa1c… (all of the seat's roots in one cut). By AI agents, Wed Nov 11 2026. No macro, syntax, notation, axiom, sorry.
-/
import Derived.Test.YtniogjgfomaicaaGreatChecked
import GoSem.Claim
import GoSem.ClaimJoined
import GoSem.ClaimMapViews
import Derived.JoinedTies
import Derived.KernelRfl
namespace Go.Proofs.YtniogjgfomaicaaGreat
/- THE CELL 'sum', in the pinned program and in every row, IS THE sha256 OF THE DUMP (.gsa) THAT YtniogjgfomaicaaGreatProg.lean LOADS. Nothing in Lean hashes anything: it is a label: what it is worth is what the hold of that sum in a sandbox is worth. -/
noncomputable def Tryz.pinned : Pinned := { name := "ytniogjgfomaicaagreat", sum := "b7ee79fddde0fa1cf2e7cf34ad107c5c1672a6b4bda9ba08fa6e42cafa194408", checked := Tryz.checked }
namespace Rows
def none {H : Type} : Left H := { results := [], args := [] }

/-- 'procliticlaw21.AdecMade': WHATEVER THE INPUT: true; the input reads as it did. -/
def adecMadeSpec : ChangeSpec := { name := "adecMade", fn := fun _ => fun
  | [d1, d2, d3, d4, d5] => { results := [.lit (.bool true)], args := [d1, d2, d3, d4, d5] }
  | _ => none }
def adecMadeRow : OpenClaim := { program := "ytniogjgfomaicaagreat", sum := "b7ee79fddde0fa1cf2e7cf34ad107c5c1672a6b4bda9ba08fa6e42cafa194408", func := "proclitic/procliticlaw21.AdecMade", spec := "adecMade", unfollowed := true, recurses := true, apart := false }
def AdecMadeSaid : Prop := adecMadeRow.holds Tryz.pinned (OpenSpec.ofChange adecMadeSpec)

/-- ITS FALSE NEIGHBOUR: 'it returns false'. Refute it at one input. -/
def adecMadeWrong : ChangeSpec := { name := "adecMade", fn := fun _ => fun
  | [d1, d2, d3, d4, d5] => { results := [.lit (.bool false)], args := [d1, d2, d3, d4, d5] }
  | _ => none }
def AdecMadeWrongFalsely : Prop := adecMadeRow.holds Tryz.pinned (OpenSpec.ofChange adecMadeWrong)

/-- 'procliticlaw21.AdecAny': WHATEVER THE INPUT: true; the input reads as it did. -/
def adecAnySpec : ChangeSpec := { name := "adecAny", fn := fun _ => fun
  | [d1, d2, d3] => { results := [.lit (.bool true)], args := [d1, d2, d3] }
  | _ => none }
def adecAnyRow : OpenClaim := { program := "ytniogjgfomaicaagreat", sum := "b7ee79fddde0fa1cf2e7cf34ad107c5c1672a6b4bda9ba08fa6e42cafa194408", func := "proclitic/procliticlaw21.AdecAny", spec := "adecAny", unfollowed := true, recurses := true, apart := false }
def AdecAnySaid : Prop := adecAnyRow.holds Tryz.pinned (OpenSpec.ofChange adecAnySpec)

/-- ITS FALSE NEIGHBOUR: 'it returns false'. Refute it at one input. -/
def adecAnyWrong : ChangeSpec := { name := "adecAny", fn := fun _ => fun
  | [d1, d2, d3] => { results := [.lit (.bool false)], args := [d1, d2, d3] }
  | _ => none }
def AdecAnyWrongFalsely : Prop := adecAnyRow.holds Tryz.pinned (OpenSpec.ofChange adecAnyWrong)

/-- 'procliticlaw21.AdecBlocks': WHATEVER THE INPUT: true; the input reads as it did. -/
def adecBlocksSpec : ChangeSpec := { name := "adecBlocks", fn := fun _ => fun
  | [d1, d2, d3, d4] => { results := [.lit (.bool true)], args := [d1, d2, d3, d4] }
  | _ => none }
def adecBlocksRow : OpenClaim := { program := "ytniogjgfomaicaagreat", sum := "b7ee79fddde0fa1cf2e7cf34ad107c5c1672a6b4bda9ba08fa6e42cafa194408", func := "proclitic/procliticlaw21.AdecBlocks", spec := "adecBlocks", unfollowed := true, recurses := true, apart := false }
def AdecBlocksSaid : Prop := adecBlocksRow.holds Tryz.pinned (OpenSpec.ofChange adecBlocksSpec)

/-- ITS FALSE NEIGHBOUR: 'it returns false'. Refute it at one input. -/
def adecBlocksWrong : ChangeSpec := { name := "adecBlocks", fn := fun _ => fun
  | [d1, d2, d3, d4] => { results := [.lit (.bool false)], args := [d1, d2, d3, d4] }
  | _ => none }
def AdecBlocksWrongFalsely : Prop := adecBlocksRow.holds Tryz.pinned (OpenSpec.ofChange adecBlocksWrong)

/-- 'procliticlaw22.AencBack': WHATEVER THE INPUT: true; the input reads as it did. -/
def aencBackSpec : ChangeSpec := { name := "aencBack", fn := fun _ => fun
  | [d1, d2, d3] => { results := [.lit (.bool true)], args := [d1, d2, d3] }
  | _ => none }
def aencBackRow : OpenClaim := { program := "ytniogjgfomaicaagreat", sum := "b7ee79fddde0fa1cf2e7cf34ad107c5c1672a6b4bda9ba08fa6e42cafa194408", func := "proclitic/procliticlaw22.AencBack", spec := "aencBack", recurses := true, apart := false }
def AencBackSaid : Prop := aencBackRow.holds Tryz.pinned (OpenSpec.ofChange aencBackSpec)

/-- ITS FALSE NEIGHBOUR: 'it returns false'. Refute it at one input. -/
def aencBackWrong : ChangeSpec := { name := "aencBack", fn := fun _ => fun
  | [d1, d2, d3] => { results := [.lit (.bool false)], args := [d1, d2, d3] }
  | _ => none }
def AencBackWrongFalsely : Prop := aencBackRow.holds Tryz.pinned (OpenSpec.ofChange aencBackWrong)

/- THE SECOND FORM. 'bulk': how many values and letters a reading holds, each counted each time it is reached (what is shared counts as often as it is met; a slice's spare places count too). A statement '..UptoSaid' is the law's where the arguments, and the package variables that the reading takes, are together of bulk at most 1048576: NARROWER than '..Said'. Prove '..Said' where nothing that the law and all that it calls make is longer than what came in: it says more and counts as full. Else prove '..UptoSaid'. A law counts once. -/
mutual
def uptoBulk {H : Type} : DataW H → Nat
  | .lit (.string bytes) => bytes.length + 1
  | .lit _ => 1
  | .nil => 1
  | .ptr d => uptoBulk d + 1
  | .slice elems spare => uptoBulkAll elems + uptoBulkAll spare + 1
  | .agg parts => uptoBulkAll parts + 1
  | .iface _ d => uptoBulk d + 1
  | .map entries => uptoBulkEntries entries + 1
  | .held _ => 1
def uptoBulkAll {H : Type} : List (DataW H) → Nat
  | [] => 0
  | d :: r => uptoBulk d + uptoBulkAll r
def uptoBulkEntries {H : Type} : List (Lit × DataW H) → Nat
  | [] => 0
  | x :: r => uptoBulkEntry x + uptoBulkEntries r
def uptoBulkEntry {H : Type} : Lit × DataW H → Nat
  | (.string bytes, d) => bytes.length + uptoBulk d + 1
  | (_, d) => uptoBulk d + 1
 end
def uptoSmall : (H : Type) → List (DataW H) → Bool := fun _ ds => decide (uptoBulkAll ds ≤ 1048576)
def OpenSpec.upto (s : _root_.Go.ChangeSpec) : _root_.Go.OpenSpec := { _root_.Go.OpenSpec.ofChange s with cond := some uptoSmall }

/-- 'procliticlaw21.AdecMade', WHERE WHAT IT READS IS OF BULK AT MOST 1048576: true; the input reads as it did. -/
def adecMadeUptoRow : OpenClaim := { program := "ytniogjgfomaicaagreat", sum := "b7ee79fddde0fa1cf2e7cf34ad107c5c1672a6b4bda9ba08fa6e42cafa194408", func := "proclitic/procliticlaw21.AdecMade", spec := "adecMade", unfollowed := true, recurses := true, apart := false, narrowed := true }
def AdecMadeUptoSaid : Prop := adecMadeUptoRow.holds Tryz.pinned (OpenSpec.upto adecMadeSpec)

/-- 'procliticlaw21.AdecAny', WHERE WHAT IT READS IS OF BULK AT MOST 1048576: true; the input reads as it did. -/
def adecAnyUptoRow : OpenClaim := { program := "ytniogjgfomaicaagreat", sum := "b7ee79fddde0fa1cf2e7cf34ad107c5c1672a6b4bda9ba08fa6e42cafa194408", func := "proclitic/procliticlaw21.AdecAny", spec := "adecAny", unfollowed := true, recurses := true, apart := false, narrowed := true }
def AdecAnyUptoSaid : Prop := adecAnyUptoRow.holds Tryz.pinned (OpenSpec.upto adecAnySpec)

/-- 'procliticlaw21.AdecBlocks', WHERE WHAT IT READS IS OF BULK AT MOST 1048576: true; the input reads as it did. -/
def adecBlocksUptoRow : OpenClaim := { program := "ytniogjgfomaicaagreat", sum := "b7ee79fddde0fa1cf2e7cf34ad107c5c1672a6b4bda9ba08fa6e42cafa194408", func := "proclitic/procliticlaw21.AdecBlocks", spec := "adecBlocks", unfollowed := true, recurses := true, apart := false, narrowed := true }
def AdecBlocksUptoSaid : Prop := adecBlocksUptoRow.holds Tryz.pinned (OpenSpec.upto adecBlocksSpec)

/-- 'procliticlaw22.AencBack', WHERE WHAT IT READS IS OF BULK AT MOST 1048576: true; the input reads as it did. -/
def aencBackUptoRow : OpenClaim := { program := "ytniogjgfomaicaagreat", sum := "b7ee79fddde0fa1cf2e7cf34ad107c5c1672a6b4bda9ba08fa6e42cafa194408", func := "proclitic/procliticlaw22.AencBack", spec := "aencBack", recurses := true, apart := false, narrowed := true }
def AencBackUptoSaid : Prop := aencBackUptoRow.holds Tryz.pinned (OpenSpec.upto aencBackSpec)

end Rows
end Go.Proofs.YtniogjgfomaicaaGreat
