/-
  The contract of the draw of binds: some, whatever they are, with short texts.
-/
import Derived.Test.YtfgigcdfmkfkjaaJoined2
import Derived.Test.YtfgigcdfmkfkjaaJoined4
namespace Go.Proofs.Ytfgigcdfmkfkjaa
open Go.RowKit
set_option linter.unusedVariables false

/-- some binds were drawn -/
def DrawnB (w : World) (B q : Nat) (e : Ending) (w' : World) : Prop := ∃ (g c : Nat) (L : List B4), e = .returned (.slice (some ⟨g, 0, none⟩) L.length c) ∧ L.length ≤ 3 ∧ (∀ x ∈ L, x.small) ∧ w'.ownsRow w.heap.size 107 4 (.slice (some ⟨g, 0, none⟩) L.length c) L.length (rowOf B4.cs L) ∧ Cur B w' q ∧ w.grownBy w' (some q)

end Go.Proofs.Ytfgigcdfmkfkjaa
