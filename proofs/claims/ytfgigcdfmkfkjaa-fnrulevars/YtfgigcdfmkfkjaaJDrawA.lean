/-
  The contract of the draw of any value, right or not.
-/
import Derived.Test.YtfgigcdfmkfkjaaJoined1
namespace Go.Proofs.Ytfgigcdfmkfkjaa
open Go.RowKit
set_option linter.unusedVariables false

theorem box_set0 {w : World} {q : Nat} {c0 c1 c2 : Value} {T : TypeId} (h : w.heap[q]? = some (.cells #[c0, c1, c2] T (0, 0))) (u : Value) :
    (w.setCell ⟨q, 0, none⟩ u).heap[q]? = some (.cells #[u, c1, c2] T (0, 0)) ∧ w.grownBy (w.setCell ⟨q, 0, none⟩ u) (some q) := by
  refine ⟨by rw [heap_setCell_same w q 0 _ T u h]; rfl, ⟨rfl, rfl, rfl, by simp [World.setCell], fun k _ hk => heap_setCell_other w ⟨q, 0, none⟩ k u (fun e => hk (by simp [e]))⟩⟩
theorem box_set1 {w : World} {q : Nat} {c0 c1 c2 : Value} {T : TypeId} (h : w.heap[q]? = some (.cells #[c0, c1, c2] T (0, 0))) (u : Value) :
    (w.setCell ⟨q, 1, none⟩ u).heap[q]? = some (.cells #[c0, u, c2] T (0, 0)) ∧ w.grownBy (w.setCell ⟨q, 1, none⟩ u) (some q) := by
  refine ⟨by rw [heap_setCell_same w q 1 _ T u h]; rfl, ⟨rfl, rfl, rfl, by simp [World.setCell], fun k _ hk => heap_setCell_other w ⟨q, 1, none⟩ k u (fun e => hk (by simp [e]))⟩⟩
theorem box_set2 {w : World} {q : Nat} {c0 c1 c2 : Value} {T : TypeId} (h : w.heap[q]? = some (.cells #[c0, c1, c2] T (0, 0))) (u : Value) :
    (w.setCell ⟨q, 2, none⟩ u).heap[q]? = some (.cells #[c0, c1, u] T (0, 0)) ∧ w.grownBy (w.setCell ⟨q, 2, none⟩ u) (some q) := by
  refine ⟨by rw [heap_setCell_same w q 2 _ T u h]; rfl, ⟨rfl, rfl, rfl, by simp [World.setCell], fun k _ hk => heap_setCell_other w ⟨q, 2, none⟩ k u (fun e => hk (by simp [e]))⟩⟩

end Go.Proofs.Ytfgigcdfmkfkjaa
