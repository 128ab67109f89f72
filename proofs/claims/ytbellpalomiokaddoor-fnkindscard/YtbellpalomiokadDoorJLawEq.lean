/-
  The contract of the laws' own comparison of values: a value is the same as itself.
-/
import Derived.Test.YtbellpalomiokadDoorJBox
import Derived.Handy
namespace Go.Proofs.YtbellpalomiokadDoor
open Go.RowKit
set_option linter.unusedVariables false

end Go.Proofs.YtbellpalomiokadDoor
