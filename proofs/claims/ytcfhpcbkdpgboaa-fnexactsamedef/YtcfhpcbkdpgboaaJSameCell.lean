/-
  Whether two definitions are the same: the tested program's answer.
-/
import Derived.Test.YtcfhpcbkdpgboaaJoined1
import Derived.Test.YtcfhpcbkdpgboaaJLawDef
import Derived.Test.YtcfhpcbkdpgboaaJRuleAt
import Derived.Test.YtcfhpcbkdpgboaaJoined2
namespace Go.Proofs.Ytcfhpcbkdpgboaa
open Go.RowKit
set_option linter.unusedVariables false

theorem cellS {W w' : World} {a : Addr} {v : Value} (hb : Below W.heap.size W w') (h : W.cell? a = some v) : w'.cell? a = some v := by rw [hb.cell (World.block_lt_of_cell? W _ h)]; exact h
end Go.Proofs.Ytcfhpcbkdpgboaa
