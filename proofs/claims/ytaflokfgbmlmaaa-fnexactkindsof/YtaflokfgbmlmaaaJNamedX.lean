/-
  A name with at most five terms: what the tested program's question and the model's answer: namedX.
-/
import Derived.Test.YtaflokfgbmlmaaaJExprOk
import Derived.Test.YtaflokfgbmlmaaaJName
namespace Go.Proofs.Ytaflokfgbmlmaaa
open Go.RowKit
set_option linter.unusedVariables false

def namedX (nm : ByteArray) (L : List X11) : Bool := nameB nm && decide (L.length ≤ 5) && L.all X11.ok
theorem allX_no {L : List X11} {k : Nat} (hk : k < L.length) (h : exprB (eAt L k).Op (eAt L k).L (eAt L k).R = false) : L.all X11.ok = false := by
  rw [Bool.eq_false_iff]
  intro ha
  have := List.all_eq_true.1 ha L[k] (List.getElem_mem hk)
  rw [← eAt_in hk] at this
  unfold X11.ok at this
  rw [h] at this; cases this
theorem allX_yes {L : List X11} (h : ∀ k, k < L.length → exprB (eAt L k).Op (eAt L k).L (eAt L k).R = true) : L.all X11.ok = true := by
  rw [List.all_eq_true]
  intro v hv
  obtain ⟨k, hk, rfl⟩ := List.getElem_of_mem hv
  rw [← eAt_in hk]; exact h k hk

end Go.Proofs.Ytaflokfgbmlmaaa
