/-
  A fact that came in: its kind, and what its list of values reads as.
-/
import Derived.Test.YtbellpalomiokabValRow
import Derived.Lib.SmallJoins
import Derived.Deep.Slices
import Derived.Deep.Strs
import Derived.ProofKit
import Derived.OpenShut
import Derived.ShutString
import Derived.ChangeOld
import Derived.Below
namespace Go.Proofs.Ytbellpalomiokab
open Go.ChangeShapes Go.WideShapes Go.ChangeAt Go.RowKit Go.Joins Go.Deep
set_option linter.unusedVariables false
set_option maxRecDepth 100000

/-- a list of values that came in -/
def IsVals (w : World) (a : Option Addr) (len cap : Nat) (L : List V3) : Prop := L.length = len ∧ len ≤ maxLen ∧ RdV w a L ∧ ∀ v ∈ L, v.S.size ≤ maxLen

end Go.Proofs.Ytbellpalomiokab
