/-
  The contracts of the laws' own marks on rows of Exprs.
-/
import Derived.Test.YtcfhpcbkdpgboaaGreatDoorJoined2
import Derived.Test.YtcfhpcbkdpgboaaGreatDoorJLawExpr
import Derived.Test.YtcfhpcbkdpgboaaGreatDoorJMarkArg
import Derived.Deep.RegionHeld3
namespace Go.Proofs.YtcfhpcbkdpgboaaGreatDoor
open Go.RowKit
set_option linter.unusedVariables false

def markX11 (k : Nat) : X11 := ⟨markT k, ⟨((k + 1 : Nat) : Int), markT (k + 2), ⟨((k + 3 : Nat) : Int), ((k + 4 : Nat) : Int), markT (k + 5)⟩⟩, ⟨((k + 6 : Nat) : Int), markT (k + 7), ⟨((k + 8 : Nat) : Int), ((k + 9 : Nat) : Int), markT (k + 10)⟩⟩⟩
def marksX11 (k n : Nat) : List X11 := (List.range n).map fun i => markX11 (k + 11 * i)
theorem marksX11_length (k n : Nat) : (marksX11 k n).length = n := by simp [marksX11]
theorem marksX11_at {k n i : Nat} (h : i < n) : eAt (marksX11 k n) i = markX11 (k + 11 * i) := by rw [eAt_in (by rw [marksX11_length]; exact h)]; simp [marksX11]

end Go.Proofs.YtcfhpcbkdpgboaaGreatDoor
