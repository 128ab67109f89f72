/-
  What the tested program's question on an argument that may have a value answers: mayB.
-/
import Derived.Test.YtaflokfgbmlmaaaJArgOk
namespace Go.Proofs.Ytaflokfgbmlmaaa
open Go.RowKit
set_option linter.unusedVariables false

/-- an argument that may have a value -/
def mayB (K : Int) (S : ByteArray) (V : V3) : Bool := argB K S V && !decide (K = 3)

end Go.Proofs.Ytaflokfgbmlmaaa
