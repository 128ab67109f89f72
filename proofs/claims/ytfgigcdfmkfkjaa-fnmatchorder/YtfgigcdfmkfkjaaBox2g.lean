/-
  A block of two cells (a fact in memory), and rows of values of the calls' own, by their block.
-/
import Derived.Test.YtfgigcdfmkfkjaaValRow
namespace Go.Proofs.Ytfgigcdfmkfkjaa
open Go.RowKit
set_option linter.unusedVariables false

theorem box2_cell {w : World} {q : Nat} {c0 c1 : Value} {T : TypeId} (h : w.heap[q]? = some (.cells #[c0, c1] T (0, 0))) :
    w.cell? ⟨q, 0, none⟩ = some c0 ∧ w.cell? ⟨q, 1, none⟩ = some c1 ∧ w.frozen? ⟨q, 0, none⟩ = false ∧ w.frozen? ⟨q, 1, none⟩ = false := by
  refine ⟨?_, ?_, frozen_of_row w q 0 _ T h, frozen_of_row w q 1 _ T h⟩
  · rw [cell_of_row w q 0 _ T (0, 0) h]; rfl
  · rw [cell_of_row w q 1 _ T (0, 0) h]; rfl
theorem box2_set {w : World} {q : Nat} {c0 c1 : Value} {T : TypeId} (h : w.heap[q]? = some (.cells #[c0, c1] T (0, 0))) (a b : Value) :
    ((w.setCell ⟨q, 0, none⟩ a).setCell ⟨q, 1, none⟩ b).heap[q]? = some (.cells #[a, b] T (0, 0)) ∧
    w.grownBy ((w.setCell ⟨q, 0, none⟩ a).setCell ⟨q, 1, none⟩ b) (some q) := by
  have h1 : (w.setCell ⟨q, 0, none⟩ a).heap[q]? = some (.cells #[a, c1] T (0, 0)) := by rw [heap_setCell_same w q 0 _ T a h]; rfl
  refine ⟨by rw [heap_setCell_same _ q 1 _ T b h1]; rfl, ⟨rfl, rfl, rfl, by simp [World.setCell], fun k _ hk => ?_⟩⟩
  rw [heap_setCell_other _ ⟨q, 1, none⟩ k b (fun e => hk (by simp [e])), heap_setCell_other w ⟨q, 0, none⟩ k a (fun e => hk (by simp [e]))]
theorem box2_set1 {w : World} {q : Nat} {c0 c1 : Value} {T : TypeId} (h : w.heap[q]? = some (.cells #[c0, c1] T (0, 0))) (b : Value) :
    (w.setCell ⟨q, 1, none⟩ b).heap[q]? = some (.cells #[c0, b] T (0, 0)) ∧ w.grownBy (w.setCell ⟨q, 1, none⟩ b) (some q) := by
  refine ⟨by rw [heap_setCell_same w q 1 _ T b h]; rfl, ⟨rfl, rfl, rfl, by simp [World.setCell], fun k _ hk => heap_setCell_other w ⟨q, 1, none⟩ k b (fun e => hk (by simp [e]))⟩⟩
theorem box2_set0 {w : World} {q : Nat} {c0 c1 : Value} {T : TypeId} (h : w.heap[q]? = some (.cells #[c0, c1] T (0, 0))) (b : Value) :
    (w.setCell ⟨q, 0, none⟩ b).heap[q]? = some (.cells #[b, c1] T (0, 0)) ∧ w.grownBy (w.setCell ⟨q, 0, none⟩ b) (some q) := by
  refine ⟨by rw [heap_setCell_same w q 0 _ T b h]; rfl, ⟨rfl, rfl, rfl, by simp [World.setCell], fun k _ hk => heap_setCell_other w ⟨q, 0, none⟩ k b (fun e => hk (by simp [e]))⟩⟩
theorem box2_new (w : World) (c0 c1 : Value) (T : TypeId) : (w.alloc (.cells #[c0, c1] T)).heap[w.heap.size]? = some (.cells #[c0, c1] T (0, 0)) := by rw [heap_alloc_new]
theorem box2_post {P : Program} {f : Func} {Q : Ending → World → Prop} {x : Exit} {act : Act} {w : World} {q : Nat} {c0 c1 a b : Value} {T : TypeId} (h : w.heap[q]? = some (.cells #[c0, c1] T (0, 0)))
    (k : ∀ w2, w2.heap[q]? = some (.cells #[a, b] T (0, 0)) → w.grownBy w2 (some q) → bodyPost P f Q x act w2) :
    bodyPost P f Q x act ((w.setCell ⟨q, 0, none⟩ a).setCell ⟨q, 1, none⟩ b) :=
  k _ (box2_set h a b).1 (box2_set h a b).2
theorem box_gr {w w' : World} {R q : Nat} {o : Obj} (h : w.heap[R]? = some o) (hg : w.grownBy w' (some q)) (hne : R ≠ q) : w'.heap[R]? = some o := by
  rw [hg.block R (Array.getElem?_eq_some_iff.1 h).1 (by simp; omega)]; exact h
end Go.Proofs.Ytfgigcdfmkfkjaa
