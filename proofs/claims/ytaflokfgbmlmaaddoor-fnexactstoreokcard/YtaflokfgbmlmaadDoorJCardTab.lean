/-
  Out of a row's list of the library's variables: the table of powers of ten.
-/
import Derived.Test.YtaflokfgbmlmaadDoorJoined2
import Derived.Test.YtaflokfgbmlmaadDoorRows
import Derived.Test.YtaflokfgbmlmaadDoorCards
import Derived.Test.YtaflokfgbmlmaadDoorTie
import Derived.ProofKit
import Derived.LaidMore
import Derived.OpenShut
import Derived.ShutString
import Derived.ChangeOld
import Derived.Below
import Derived.Stop.Joined
import Derived.Stop.LaidErr
import Derived.Lib.LaidTab
import Derived.SevenTiedAt
import Derived.Lib.SmallJoins
namespace Go.Proofs.YtaflokfgbmlmaadDoor
open Go.RowKit
set_option linter.unusedVariables false
set_option maxRecDepth 100000

theorem gTb : Tryd.prog.globalNamed "internal/strconv.uint64pow10" = some 1 := by kernel_rfl
theorem gTbType : (Tryd.prog.globals[1]?).map (·.type) = some 154 := by kernel_rfl
theorem tabs_of {r : List (String × DataW Unit)} {a b : String × DataW Unit} {W : World} (h : laidMet Tryd.prog (a :: b :: ("internal/strconv.uint64pow10", Rows.laid_internal_strconv_uint64pow10) :: r) W) : Tab W :=
  Lib.tabIs_of_head (zs := Lib.pow10Tab) (rest := r) gTb gTbType Tryd.underlying154 Tryd.underlying147 (by kernel_rfl) (by kernel_rfl) h.tail.tail
end Go.Proofs.YtaflokfgbmlmaadDoor
