/-
  What the functions on a fact's rightness answer: factB, the tested one and the model alike.
-/
import Derived.Test.YtbellpalomiokabDoorJoined1
import Derived.Test.YtbellpalomiokabDoorJoined2
namespace Go.Proofs.YtbellpalomiokabDoor
open Go.RowKit
set_option linter.unusedVariables false

def factB (kd : ByteArray) (L : List V3) : Bool := nameB kd && decide (L.length ≤ 5) && L.all V3.ok
theorem all_no {L : List V3} {k : Nat} (hk : k < L.length) (h : valB (vAt L k).K (vAt L k).N (vAt L k).S = false) : L.all V3.ok = false := by
  rw [Bool.eq_false_iff]
  intro ha
  have := List.all_eq_true.1 ha L[k] (List.getElem_mem hk)
  rw [← vAt_in hk] at this
  unfold V3.ok at this
  rw [h] at this; cases this
theorem all_yes {L : List V3} (h : ∀ k, k < L.length → valB (vAt L k).K (vAt L k).N (vAt L k).S = true) : L.all V3.ok = true := by
  rw [List.all_eq_true]
  intro v hv
  obtain ⟨k, hk, rfl⟩ := List.getElem_of_mem hv
  rw [← vAt_in hk]; exact h k hk
theorem below_gn {w w' : World} (h : w.grownBy w' none) : Below w.heap.size w w' := (Below.refl _ _).grown h (Nat.le_refl _) (fun k hk => by cases hk)

end Go.Proofs.YtbellpalomiokabDoor
