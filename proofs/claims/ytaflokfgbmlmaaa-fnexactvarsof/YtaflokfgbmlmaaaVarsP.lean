/-
  The variables of a pattern, plainly.
-/
import Derived.Test.YtaflokfgbmlmaaaStrRow
import Derived.Test.YtaflokfgbmlmaaaArgRow
namespace Go.Proofs.Ytaflokfgbmlmaaa
open Go.RowKit
set_option linter.unusedVariables false

def varStep (l : List ByteArray) (x : A5) : List ByteArray := if x.K = 1 ∧ hasS l x.S = false then l ++ [x.S] else l
/-- each variable once, from the left -/
def varsL (L : List A5) : List ByteArray := L.foldl varStep []
theorem varsL_take {L : List A5} {k : Nat} (h : k < L.length) : varsL (L.take (k + 1)) = varStep (varsL (L.take k)) (eAt L k) := by
  unfold varsL
  rw [List.take_succ_eq_append_getElem h, List.foldl_append, eAt_in h]
  rfl
theorem varStep_yes {l : List ByteArray} {x : A5} (h1 : x.K = 1) (h2 : hasS l x.S = false) : varStep l x = l ++ [x.S] := by unfold varStep; rw [if_pos ⟨h1, h2⟩]
theorem varStep_has {l : List ByteArray} {x : A5} (h2 : hasS l x.S = true) : varStep l x = l := by unfold varStep; rw [if_neg (fun h => by rw [h2] at h; cases h.2)]
theorem varStep_no {l : List ByteArray} {x : A5} (h1 : x.K ≠ 1) : varStep l x = l := by unfold varStep; rw [if_neg (fun h => h1 h.1)]
theorem varStep_len (l : List ByteArray) (x : A5) : (varStep l x).length ≤ l.length + 1 := by unfold varStep; split <;> simp
theorem varsL_len (L : List A5) : ∀ k, k ≤ L.length → (varsL (L.take k)).length ≤ k
  | 0, _ => by simp [varsL]
  | k + 1, h => by
    rw [varsL_take (by omega)]
    have := varStep_len (varsL (L.take k)) (eAt L k)
    have := varsL_len L k (by omega)
    omega
end Go.Proofs.Ytaflokfgbmlmaaa
