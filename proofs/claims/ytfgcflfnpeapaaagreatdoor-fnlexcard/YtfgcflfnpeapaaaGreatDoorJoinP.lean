/-
  Tokens joined, plainly.
-/
import Derived.Test.YtfgcflfnpeapaaaGreatDoorTokP
import Derived.Test.YtfgcflfnpeapaaaGreatDoorValRow
namespace Go.Proofs.YtfgcflfnpeapaaaGreatDoor
open Go.RowKit
set_option linter.unusedVariables false

/-- the bytes of a token's text -/
def V3.tok (v : V3) : List UInt8 := tokL v.K v.N v.S
/-- the first k tokens joined -/
def joinT (L : List V3) : Nat → List UInt8
  | 0 => []
  | k + 1 => (joinT L k ++ (if 0 < k then [32] else [])) ++ (vAt L k).tok
theorem joinT_first (L : List V3) : joinT L 1 = (vAt L 0).tok := by simp [joinT]
theorem joinT_next (L : List V3) {k : Nat} (h : 0 < k) : joinT L (k + 1) = (joinT L k ++ [32]) ++ (vAt L k).tok := by simp [joinT, h]
theorem joinT_le (L : List V3) : ∀ k, (joinT L k).length ≤ 23 * k
  | 0 => by simp [joinT]
  | k + 1 => by
    have ih := joinT_le L k
    have := tokL_le (vAt L k).K (vAt L k).N (vAt L k).S
    simp only [joinT, List.length_append, V3.tok]
    split <;> simp <;> omega
end Go.Proofs.YtfgcflfnpeapaaaGreatDoor
