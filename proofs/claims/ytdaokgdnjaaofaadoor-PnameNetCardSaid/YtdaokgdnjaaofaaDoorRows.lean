/-
  NARROWER THAN 'FOR EVERY INPUT', by the rows' own cells (each row's printed sentence says how): PfileMost: laid · PfileOrder: laid · PnameNet: laid.
  DERIVED. THE GIVEN ROWS OF THIS SEAT. 3 by the template 'for every input the law returns true; each argument reads behind the call as it read before'; 0 by the template 'total and deterministic' (their statements: YtdaokgdnjaaofaaDoorTotals.lean).
  GIVEN WITH THE SEED: the statements are not yours to turn. If you find one false, say at which input.
  Laid BY PROGRAM, IN A SANDBOX (cutbox-rows.mjs): the forced cells as the released guide's own fill.sh prints them over the translation 421eda275e883679… (all of the seat's roots in one cut). By AI agents, Wed Nov 11 2026. No macro, syntax, notation, axiom, sorry.
-/
import Derived.Test.YtdaokgdnjaaofaaDoorChecked
import GoSem.Claim
import GoSem.ClaimJoined
import GoSem.ClaimMapViews
import Derived.JoinedTies
import Derived.KernelRfl
namespace Go.Proofs.YtdaokgdnjaaofaaDoor
/- THE CELL 'sum', in the pinned program and in every row, IS THE sha256 OF THE DUMP (.gsa) THAT YtdaokgdnjaaofaaDoorProg.lean LOADS. Nothing in Lean hashes anything: it is a label: what it is worth is what the hold of that sum in a sandbox is worth. -/
noncomputable def Tryd.pinned : Pinned := { name := "ytdaokgdnjaaofaadoor", sum := "421eda275e8836797dd948bda348b0874df831ba2280416022a924dc3df9da10", checked := Tryd.checked }
namespace Rows
def none {H : Type} : Left H := { results := [], args := [] }

/- WHAT THE LISTED PACKAGE-LEVEL VARIABLES READ AS WHEN THE CALL BEGINS. Each datum BY PROGRAM (the guide's laid-datum.mjs) off the statement by which the dump's own 'gosem.cut.vars' lays the variable. In a bare row this is a premise. The card (YtdaokgdnjaaofaaDoorCards.lean) ties it to the program's text. -/
def laid_proclitic_pfile_kindWords {H : Type} : DataW H := .agg [.lit (.string [100, 111, 117, 98, 108, 101]), .lit (.string [102, 108, 111, 97, 116]), .lit (.string [105, 110, 116, 51, 50]), .lit (.string [105, 110, 116, 54, 52]), .lit (.string [117, 105, 110, 116, 51, 50]), .lit (.string [117, 105, 110, 116, 54, 52]), .lit (.string [115, 105, 110, 116, 51, 50]), .lit (.string [115, 105, 110, 116, 54, 52]), .lit (.string [102, 105, 120, 101, 100, 51, 50]), .lit (.string [102, 105, 120, 101, 100, 54, 52]), .lit (.string [115, 102, 105, 120, 101, 100, 51, 50]), .lit (.string [115, 102, 105, 120, 101, 100, 54, 52]), .lit (.string [98, 111, 111, 108]), .lit (.string [115, 116, 114, 105, 110, 103]), .lit (.string [98, 121, 116, 101, 115])]

/-- 'procliticlaw8.PfileMost': WHATEVER THE INPUT: true; the input reads as it did. -/
def pfileMostSpec : ChangeSpec := { name := "pfileMost", fn := fun _ => fun
  | [d1, d2] => { results := [.lit (.bool true)], args := [d1, d2] }
  | _ => none }
def pfileMostRow : OpenClaim := { program := "ytdaokgdnjaaofaadoor", sum := "421eda275e8836797dd948bda348b0874df831ba2280416022a924dc3df9da10", func := "proclitic/procliticlaw8.PfileMost", spec := "pfileMost", inPlace := ["internal/bytealg.IndexByteString", "internal/bytealg.IndexString"], unfollowed := true, recurses := true, named := ["internal/bytealg.MaxLen", "proclitic/pfile.kindWords"], apart := false, laid := [("proclitic/pfile.kindWords", laid_proclitic_pfile_kindWords)] }
def PfileMostSaid : Prop := pfileMostRow.holds Tryd.pinned (OpenSpec.ofChange pfileMostSpec)

/-- ITS FALSE NEIGHBOUR: 'it returns false'. Refute it at one input. -/
def pfileMostWrong : ChangeSpec := { name := "pfileMost", fn := fun _ => fun
  | [d1, d2] => { results := [.lit (.bool false)], args := [d1, d2] }
  | _ => none }
def PfileMostWrongFalsely : Prop := pfileMostRow.holds Tryd.pinned (OpenSpec.ofChange pfileMostWrong)

/-- 'procliticlaw8.PfileOrder': WHATEVER THE INPUT: true; the input reads as it did. -/
def pfileOrderSpec : ChangeSpec := { name := "pfileOrder", fn := fun _ => fun
  | [d] => { results := [.lit (.bool true)], args := [d] }
  | _ => none }
def pfileOrderRow : OpenClaim := { program := "ytdaokgdnjaaofaadoor", sum := "421eda275e8836797dd948bda348b0874df831ba2280416022a924dc3df9da10", func := "proclitic/procliticlaw8.PfileOrder", spec := "pfileOrder", inPlace := ["internal/bytealg.IndexByteString", "internal/bytealg.IndexString"], unfollowed := true, recurses := true, named := ["internal/bytealg.MaxLen", "proclitic/pfile.kindWords"], apart := false, laid := [("proclitic/pfile.kindWords", laid_proclitic_pfile_kindWords)] }
def PfileOrderSaid : Prop := pfileOrderRow.holds Tryd.pinned (OpenSpec.ofChange pfileOrderSpec)

/-- ITS FALSE NEIGHBOUR: 'it returns false'. Refute it at one input. -/
def pfileOrderWrong : ChangeSpec := { name := "pfileOrder", fn := fun _ => fun
  | [d] => { results := [.lit (.bool false)], args := [d] }
  | _ => none }
def PfileOrderWrongFalsely : Prop := pfileOrderRow.holds Tryd.pinned (OpenSpec.ofChange pfileOrderWrong)

/-- 'procliticlaw9.PnameNet': WHATEVER THE INPUT: true; the input reads as it did. -/
def pnameNetSpec : ChangeSpec := { name := "pnameNet", fn := fun _ => fun
  | [d] => { results := [.lit (.bool true)], args := [d] }
  | _ => none }
def pnameNetRow : OpenClaim := { program := "ytdaokgdnjaaofaadoor", sum := "421eda275e8836797dd948bda348b0874df831ba2280416022a924dc3df9da10", func := "proclitic/procliticlaw9.PnameNet", spec := "pnameNet", inPlace := ["internal/bytealg.IndexByteString", "internal/bytealg.IndexString", "internal/abi.NoEscape", "internal/bytealg.MakeNoZero"], unfollowed := true, recurses := true, named := ["internal/bytealg.MaxLen", "proclitic/pfile.kindWords"], apart := false, laid := [("proclitic/pfile.kindWords", laid_proclitic_pfile_kindWords)] }
def PnameNetSaid : Prop := pnameNetRow.holds Tryd.pinned (OpenSpec.ofChange pnameNetSpec)

/-- ITS FALSE NEIGHBOUR: 'it returns false'. Refute it at one input. -/
def pnameNetWrong : ChangeSpec := { name := "pnameNet", fn := fun _ => fun
  | [d] => { results := [.lit (.bool false)], args := [d] }
  | _ => none }
def PnameNetWrongFalsely : Prop := pnameNetRow.holds Tryd.pinned (OpenSpec.ofChange pnameNetWrong)

/- THE SECOND FORM. 'bulk': how many values and letters a reading holds, each counted each time it is reached (what is shared counts as often as it is met; a slice's spare places count too). A statement '..UptoSaid' is the law's where the arguments, and the package variables that the reading takes, are together of bulk at most 1048576: NARROWER than '..Said'. Prove '..Said' where nothing that the law and all that it calls make is longer than what came in: it says more and counts as full. Else prove '..UptoSaid'. A law counts once. -/
mutual
def uptoBulk {H : Type} : DataW H → Nat
  | .lit (.string bytes) => bytes.length + 1
  | .lit _ => 1
  | .nil => 1
  | .ptr d => uptoBulk d + 1
  | .slice elems spare => uptoBulkAll elems + uptoBulkAll spare + 1
  | .agg parts => uptoBulkAll parts + 1
  | .iface _ d => uptoBulk d + 1
  | .map entries => uptoBulkEntries entries + 1
  | .held _ => 1
def uptoBulkAll {H : Type} : List (DataW H) → Nat
  | [] => 0
  | d :: r => uptoBulk d + uptoBulkAll r
def uptoBulkEntries {H : Type} : List (Lit × DataW H) → Nat
  | [] => 0
  | x :: r => uptoBulkEntry x + uptoBulkEntries r
def uptoBulkEntry {H : Type} : Lit × DataW H → Nat
  | (.string bytes, d) => bytes.length + uptoBulk d + 1
  | (_, d) => uptoBulk d + 1
 end
def uptoSmall : (H : Type) → List (DataW H) → Bool := fun _ ds => decide (uptoBulkAll ds ≤ 1048576)
def OpenSpec.upto (s : _root_.Go.ChangeSpec) : _root_.Go.OpenSpec := { _root_.Go.OpenSpec.ofChange s with cond := some uptoSmall }

/-- 'procliticlaw8.PfileMost', WHERE WHAT IT READS IS OF BULK AT MOST 1048576: true; the input reads as it did. -/
def pfileMostUptoRow : OpenClaim := { program := "ytdaokgdnjaaofaadoor", sum := "421eda275e8836797dd948bda348b0874df831ba2280416022a924dc3df9da10", func := "proclitic/procliticlaw8.PfileMost", spec := "pfileMost", inPlace := ["internal/bytealg.IndexByteString", "internal/bytealg.IndexString"], unfollowed := true, recurses := true, named := ["internal/bytealg.MaxLen", "proclitic/pfile.kindWords"], apart := false, laid := [("proclitic/pfile.kindWords", laid_proclitic_pfile_kindWords)], narrowed := true }
def PfileMostUptoSaid : Prop := pfileMostUptoRow.holds Tryd.pinned (OpenSpec.upto pfileMostSpec)

/-- 'procliticlaw8.PfileOrder', WHERE WHAT IT READS IS OF BULK AT MOST 1048576: true; the input reads as it did. -/
def pfileOrderUptoRow : OpenClaim := { program := "ytdaokgdnjaaofaadoor", sum := "421eda275e8836797dd948bda348b0874df831ba2280416022a924dc3df9da10", func := "proclitic/procliticlaw8.PfileOrder", spec := "pfileOrder", inPlace := ["internal/bytealg.IndexByteString", "internal/bytealg.IndexString"], unfollowed := true, recurses := true, named := ["internal/bytealg.MaxLen", "proclitic/pfile.kindWords"], apart := false, laid := [("proclitic/pfile.kindWords", laid_proclitic_pfile_kindWords)], narrowed := true }
def PfileOrderUptoSaid : Prop := pfileOrderUptoRow.holds Tryd.pinned (OpenSpec.upto pfileOrderSpec)

/-- 'procliticlaw9.PnameNet', WHERE WHAT IT READS IS OF BULK AT MOST 1048576: true; the input reads as it did. -/
def pnameNetUptoRow : OpenClaim := { program := "ytdaokgdnjaaofaadoor", sum := "421eda275e8836797dd948bda348b0874df831ba2280416022a924dc3df9da10", func := "proclitic/procliticlaw9.PnameNet", spec := "pnameNet", inPlace := ["internal/bytealg.IndexByteString", "internal/bytealg.IndexString", "internal/abi.NoEscape", "internal/bytealg.MakeNoZero"], unfollowed := true, recurses := true, named := ["internal/bytealg.MaxLen", "proclitic/pfile.kindWords"], apart := false, laid := [("proclitic/pfile.kindWords", laid_proclitic_pfile_kindWords)], narrowed := true }
def PnameNetUptoSaid : Prop := pnameNetUptoRow.holds Tryd.pinned (OpenSpec.upto pnameNetSpec)

end Rows
end Go.Proofs.YtdaokgdnjaaofaaDoor
