/-
  The port: a beat comes, as the document's model tells it.
-/
import Derived.Test.YtocofjimkfffeaaSrl3
namespace Go.Proofs.Ytocofjimkfffeaa.Srl
open Go.ChangeShapes Go.WideShapes Go.RowKit Base Num Slc Rw Reg Tmr
set_option linter.unusedVariables false

end Go.Proofs.Ytocofjimkfffeaa.Srl
