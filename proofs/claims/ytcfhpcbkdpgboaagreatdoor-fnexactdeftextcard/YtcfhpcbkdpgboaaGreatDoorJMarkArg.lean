/-
  The contracts of the laws' own marks on rows of Args.
-/
import Derived.Test.YtcfhpcbkdpgboaaGreatDoorJoined2
import Derived.Test.YtcfhpcbkdpgboaaGreatDoorJLawArg
import Derived.Deep.RegionHeld3
namespace Go.Proofs.YtcfhpcbkdpgboaaGreatDoor
open Go.RowKit
set_option linter.unusedVariables false

def markA5 (k : Nat) : A5 := ⟨(k : Int), markT (k + 1), ⟨((k + 2 : Nat) : Int), ((k + 3 : Nat) : Int), markT (k + 4)⟩⟩
def marksA5 (k n : Nat) : List A5 := (List.range n).map fun i => markA5 (k + 5 * i)
theorem marksA5_length (k n : Nat) : (marksA5 k n).length = n := by simp [marksA5]
theorem marksA5_at {k n i : Nat} (h : i < n) : eAt (marksA5 k n) i = markA5 (k + 5 * i) := by rw [eAt_in (by rw [marksA5_length]; exact h)]; simp [marksA5]

end Go.Proofs.YtcfhpcbkdpgboaaGreatDoor
