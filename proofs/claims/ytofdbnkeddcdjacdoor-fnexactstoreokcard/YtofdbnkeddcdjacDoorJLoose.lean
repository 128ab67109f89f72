/-
  What impl.looseVal answers: what stands between a text's first byte and its last, where the first is a quote; else the number that strconv.Atoi reads; else nothing.
-/
import Derived.Test.YtofdbnkeddcdjacDoorJParseP
import Derived.Test.YtofdbnkeddcdjacDoorJAtoi
import Derived.Test.YtofdbnkeddcdjacDoorJoined1
import Derived.Lib.SmallJoins
import Derived.ProofKit
import Derived.Below
namespace Go.Proofs.YtofdbnkeddcdjacDoor
open Go.RowKit Go.Lib
set_option linter.unusedVariables false

end Go.Proofs.YtofdbnkeddcdjacDoor
