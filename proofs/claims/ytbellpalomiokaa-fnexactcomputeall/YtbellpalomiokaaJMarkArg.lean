/-
  The contracts of the laws' own marks on rows of Args.
-/
import Derived.Test.YtbellpalomiokaaJMarkF
import Derived.Test.YtbellpalomiokaaJLawArg
import Derived.Deep.RegionHeld3
namespace Go.Proofs.Ytbellpalomiokaa
open Go.RowKit
set_option linter.unusedVariables false

theorem grown_belowM {w w1 w2 : World} {g : Nat} (h : w.grownBy w1 (some g)) (hb : Below w1.heap.size w1 w2) : w.grownBy w2 (some g) :=
  ⟨hb.os.trans h.os, hb.tape.trans h.tape, hb.output.trans h.output, Nat.le_trans h.size hb.size, fun i hi hne => (hb.block i (Nat.lt_of_lt_of_le hi h.size)).trans (h.block i hi hne)⟩
def markA5 (k : Nat) : A5 := ⟨(k : Int), markT (k + 1), ⟨((k + 2 : Nat) : Int), ((k + 3 : Nat) : Int), markT (k + 4)⟩⟩
def marksA5 (k n : Nat) : List A5 := (List.range n).map fun i => markA5 (k + 5 * i)
theorem marksA5_length (k n : Nat) : (marksA5 k n).length = n := by simp [marksA5]
theorem marksA5_at {k n i : Nat} (h : i < n) : eAt (marksA5 k n) i = markA5 (k + 5 * i) := by rw [eAt_in (by rw [marksA5_length]; exact h)]; simp [marksA5]

end Go.Proofs.Ytbellpalomiokaa
