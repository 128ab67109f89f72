/-
  What strconv.Atoi answers: the number, or an error.
-/
import Derived.Test.YtaflokfgbmlmaadDoorJValP
import Derived.Test.YtaflokfgbmlmaadDoorShelf
import Derived.Test.YtaflokfgbmlmaadDoorJoined1
import Derived.Lib.SmallJoins
import Derived.ProofKit
import Derived.Below
namespace Go.Proofs.YtaflokfgbmlmaadDoor
open Go.RowKit Go.Lib
set_option linter.unusedVariables false

/-- the library's two errors are there -/
def Errs (w : World) : Prop := (∃ tp p, w.var? Tryd.prog "strconv.ErrSyntax" = some #[.iface tp p]) ∧ (∃ tp p, w.var? Tryd.prog "strconv.ErrRange" = some #[.iface tp p])
end Go.Proofs.YtaflokfgbmlmaadDoor
