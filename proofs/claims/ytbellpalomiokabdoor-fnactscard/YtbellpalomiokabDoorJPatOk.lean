/-
  What the functions on a pattern's rightness answer: patB, the tested one and the model alike.
-/
import Derived.Test.YtbellpalomiokabDoorJoined2
namespace Go.Proofs.YtbellpalomiokabDoor
open Go.RowKit
set_option linter.unusedVariables false

def patB (kd : ByteArray) (L : List A5) : Bool := nameB kd && decide (L.length ≤ 5) && L.all A5.ok
theorem allA_no {L : List A5} {k : Nat} (hk : k < L.length) (h : argB (eAt L k).K (eAt L k).S (eAt L k).V = false) : L.all A5.ok = false := by
  rw [Bool.eq_false_iff]
  intro ha
  have := List.all_eq_true.1 ha L[k] (List.getElem_mem hk)
  rw [← eAt_in hk] at this
  unfold A5.ok at this
  rw [h] at this; cases this
theorem allA_yes {L : List A5} (h : ∀ k, k < L.length → argB (eAt L k).K (eAt L k).S (eAt L k).V = true) : L.all A5.ok = true := by
  rw [List.all_eq_true]
  intro v hv
  obtain ⟨k, hk, rfl⟩ := List.getElem_of_mem hv
  rw [← eAt_in hk]; exact h k hk

end Go.Proofs.YtbellpalomiokabDoor
