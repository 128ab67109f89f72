/-
  The contracts of the laws' own marks on rows of Conds.
-/
import Derived.Test.YtcfhpcbkdpgboaaGreatDoorJoined2
import Derived.Test.YtcfhpcbkdpgboaaGreatDoorJLawCond
import Derived.Test.YtcfhpcbkdpgboaaGreatDoorJMarkArg
import Derived.Deep.RegionHeld3
namespace Go.Proofs.YtcfhpcbkdpgboaaGreatDoor
open Go.RowKit
set_option linter.unusedVariables false

def markC11 (k : Nat) : C11 := ⟨(k : Int), ⟨((k + 1 : Nat) : Int), markT (k + 2), ⟨((k + 3 : Nat) : Int), ((k + 4 : Nat) : Int), markT (k + 5)⟩⟩, ⟨((k + 6 : Nat) : Int), markT (k + 7), ⟨((k + 8 : Nat) : Int), ((k + 9 : Nat) : Int), markT (k + 10)⟩⟩⟩
def marksC11 (k n : Nat) : List C11 := (List.range n).map fun i => markC11 (k + 11 * i)
theorem marksC11_length (k n : Nat) : (marksC11 k n).length = n := by simp [marksC11]
theorem marksC11_at {k n i : Nat} (h : i < n) : eAt (marksC11 k n) i = markC11 (k + 11 * i) := by rw [eAt_in (by rw [marksC11_length]; exact h)]; simp [marksC11]

end Go.Proofs.YtcfhpcbkdpgboaaGreatDoor
