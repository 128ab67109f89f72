/-
  What impl.looseVal answers: what stands between a text's first byte and its last, where the first is a quote; else the number that strconv.Atoi reads; else nothing.
-/
import Derived.Test.YtaflokfgbmlmaadDoorJParseP
import Derived.Test.YtaflokfgbmlmaadDoorJAtoi
import Derived.Test.YtaflokfgbmlmaadDoorJoined1
import Derived.Lib.SmallJoins
import Derived.ProofKit
import Derived.Below
namespace Go.Proofs.YtaflokfgbmlmaadDoor
open Go.RowKit Go.Lib
set_option linter.unusedVariables false

end Go.Proofs.YtaflokfgbmlmaadDoor
