/-
  What impl.ParseVal answers: what the loose reading answers, where that is a value whose one text is the given one; else nothing.
-/
import Derived.Test.YtaflokfgbmlmaadDoorJLoose
import Derived.Test.YtaflokfgbmlmaadDoorJoined1
import Derived.Lib.SlicesS
import Derived.ProofKit
import Derived.Below
namespace Go.Proofs.YtaflokfgbmlmaadDoor
open Go.RowKit Go.Lib
set_option linter.unusedVariables false

/-- the answer, as the call gives it -/
def ansV (b : Bool) (K N : Int) (S : ByteArray) : Value := if b then .tuple #[.agg #[.int .i64 K, .int .i64 N, .string S], .bool true] else .tuple #[.agg #[.int .i64 0, .int .i64 0, .string ⟨#[]⟩], .bool false]

end Go.Proofs.YtaflokfgbmlmaadDoor
