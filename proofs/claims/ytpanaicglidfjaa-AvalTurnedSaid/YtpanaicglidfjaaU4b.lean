/-
  The machine with unknown values: questions reckoned out of the code. No condition but what its theorems ask.
-/
import Derived.Test.YtpanaicglidfjaaU4
namespace Go.Proofs.Ytpanaicglidfjaa.Eng
open Go.RowKit
set_option linter.defProp false
set_option linter.unusedVariables false
set_option linter.unusedSimpArgs false
variable {gl:T AV}
noncomputable section
section
variable {P:Program} {n:Nat} {ops:Array Oper} {A:List Nat} {pr:qi6} {rs:List Rc} {Tt:Nat->T AV} {H:Nat->T AO} {X:Nat->Nat}
theorem q43{f:Oper->Bool} {i:Nat} {o:Oper} (ho:ops[i]? =some o):flag f ops.toList i=f o:=by
 have:nth ops.toList i=some o:=by rw[q1x];simpa using ho
 unfold flag;rw[this]
end
end
end Go.Proofs.Ytpanaicglidfjaa.Eng
