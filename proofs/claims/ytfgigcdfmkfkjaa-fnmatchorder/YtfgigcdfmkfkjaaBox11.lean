/-
  Boxes of eleven cells, and two or three boxes side by side: their cells set, what stands.
-/
import Derived.Test.YtfgigcdfmkfkjaaBoxK
import Derived.Test.YtfgigcdfmkfkjaaKeep6
namespace Go.Proofs.Ytfgigcdfmkfkjaa
open Go.RowKit
set_option linter.unusedVariables false

theorem boxes3 (w : World) (c1 c2 c3 : Array Value) (T1 T2 T3 : TypeId) : (((w.alloc (.cells c1 T1)).alloc (.cells c2 T2)).alloc (.cells c3 T3)).heap[w.heap.size]? = some (.cells c1 T1 (0, 0)) ∧ (((w.alloc (.cells c1 T1)).alloc (.cells c2 T2)).alloc (.cells c3 T3)).heap[w.heap.size + 1]? = some (.cells c2 T2 (0, 0)) ∧ (((w.alloc (.cells c1 T1)).alloc (.cells c2 T2)).alloc (.cells c3 T3)).heap[w.heap.size + 1 + 1]? = some (.cells c3 T3 (0, 0)) ∧ Below w.heap.size w (((w.alloc (.cells c1 T1)).alloc (.cells c2 T2)).alloc (.cells c3 T3)) := by
  have b0 := below_al w (.cells c1 T1)
  have b1 := b0.alloc b0.size (.cells c2 T2)
  have b2 := b1.alloc b1.size (.cells c3 T3)
  have hA := box_old (box_old (boxk_new w c1 T1) (by simp) (.cells c2 T2)) (by simp; omega) (.cells c3 T3)
  have hR := box_old (boxk_new (w.alloc (.cells c1 T1)) c2 T2) (by simp) (.cells c3 T3)
  have hX := boxk_new ((w.alloc (.cells c1 T1)).alloc (.cells c2 T2)) c3 T3
  simp only [World.size_alloc] at hR hX
  exact ⟨hA, hR, hX, b2⟩
theorem boxes2 (w : World) (c1 c2 : Array Value) (T1 T2 : TypeId) : ((w.alloc (.cells c1 T1)).alloc (.cells c2 T2)).heap[w.heap.size]? = some (.cells c1 T1 (0, 0)) ∧ ((w.alloc (.cells c1 T1)).alloc (.cells c2 T2)).heap[w.heap.size + 1]? = some (.cells c2 T2 (0, 0)) ∧ Below w.heap.size w ((w.alloc (.cells c1 T1)).alloc (.cells c2 T2)) := by
  have b0 := below_al w (.cells c1 T1)
  have b1 := b0.alloc b0.size (.cells c2 T2)
  have hA := box_old (boxk_new w c1 T1) (by simp) (.cells c2 T2)
  have hX := boxk_new (w.alloc (.cells c1 T1)) c2 T2
  simp only [World.size_alloc] at hX
  exact ⟨hA, hX, b1⟩
theorem box11_set {w : World} {q : Nat} {c0 c1 c2 c3 c4 c5 c6 c7 c8 c9 c10 : Value} {T : TypeId} (h : w.heap[q]? = some (.cells #[c0, c1, c2, c3, c4, c5, c6, c7, c8, c9, c10] T (0, 0))) (v0 v1 v2 v3 v4 v5 v6 v7 v8 v9 v10 : Value) :
    (((((((((((w.setCell ⟨q, 0, none⟩ v0).setCell ⟨q, 1, none⟩ v1).setCell ⟨q, 2, none⟩ v2).setCell ⟨q, 3, none⟩ v3).setCell ⟨q, 4, none⟩ v4).setCell ⟨q, 5, none⟩ v5).setCell ⟨q, 6, none⟩ v6).setCell ⟨q, 7, none⟩ v7).setCell ⟨q, 8, none⟩ v8).setCell ⟨q, 9, none⟩ v9).setCell ⟨q, 10, none⟩ v10).heap[q]? = some (.cells #[v0, v1, v2, v3, v4, v5, v6, v7, v8, v9, v10] T (0, 0)) ∧ w.grownBy (((((((((((w.setCell ⟨q, 0, none⟩ v0).setCell ⟨q, 1, none⟩ v1).setCell ⟨q, 2, none⟩ v2).setCell ⟨q, 3, none⟩ v3).setCell ⟨q, 4, none⟩ v4).setCell ⟨q, 5, none⟩ v5).setCell ⟨q, 6, none⟩ v6).setCell ⟨q, 7, none⟩ v7).setCell ⟨q, 8, none⟩ v8).setCell ⟨q, 9, none⟩ v9).setCell ⟨q, 10, none⟩ v10) (some q) := by
  have g0 := (boxk_set h 0 v0).2
  have h0 : (w.setCell ⟨q, 0, none⟩ v0).heap[q]? = some (.cells #[v0, c1, c2, c3, c4, c5, c6, c7, c8, c9, c10] T (0, 0)) := (boxk_set h 0 v0).1
  have g1 := (boxk_set h0 1 v1).2
  have h1 : ((w.setCell ⟨q, 0, none⟩ v0).setCell ⟨q, 1, none⟩ v1).heap[q]? = some (.cells #[v0, v1, c2, c3, c4, c5, c6, c7, c8, c9, c10] T (0, 0)) := (boxk_set h0 1 v1).1
  have g2 := (boxk_set h1 2 v2).2
  have h2 : (((w.setCell ⟨q, 0, none⟩ v0).setCell ⟨q, 1, none⟩ v1).setCell ⟨q, 2, none⟩ v2).heap[q]? = some (.cells #[v0, v1, v2, c3, c4, c5, c6, c7, c8, c9, c10] T (0, 0)) := (boxk_set h1 2 v2).1
  have g3 := (boxk_set h2 3 v3).2
  have h3 : ((((w.setCell ⟨q, 0, none⟩ v0).setCell ⟨q, 1, none⟩ v1).setCell ⟨q, 2, none⟩ v2).setCell ⟨q, 3, none⟩ v3).heap[q]? = some (.cells #[v0, v1, v2, v3, c4, c5, c6, c7, c8, c9, c10] T (0, 0)) := (boxk_set h2 3 v3).1
  have g4 := (boxk_set h3 4 v4).2
  have h4 : (((((w.setCell ⟨q, 0, none⟩ v0).setCell ⟨q, 1, none⟩ v1).setCell ⟨q, 2, none⟩ v2).setCell ⟨q, 3, none⟩ v3).setCell ⟨q, 4, none⟩ v4).heap[q]? = some (.cells #[v0, v1, v2, v3, v4, c5, c6, c7, c8, c9, c10] T (0, 0)) := (boxk_set h3 4 v4).1
  have g5 := (boxk_set h4 5 v5).2
  have h5 : ((((((w.setCell ⟨q, 0, none⟩ v0).setCell ⟨q, 1, none⟩ v1).setCell ⟨q, 2, none⟩ v2).setCell ⟨q, 3, none⟩ v3).setCell ⟨q, 4, none⟩ v4).setCell ⟨q, 5, none⟩ v5).heap[q]? = some (.cells #[v0, v1, v2, v3, v4, v5, c6, c7, c8, c9, c10] T (0, 0)) := (boxk_set h4 5 v5).1
  have g6 := (boxk_set h5 6 v6).2
  have h6 : (((((((w.setCell ⟨q, 0, none⟩ v0).setCell ⟨q, 1, none⟩ v1).setCell ⟨q, 2, none⟩ v2).setCell ⟨q, 3, none⟩ v3).setCell ⟨q, 4, none⟩ v4).setCell ⟨q, 5, none⟩ v5).setCell ⟨q, 6, none⟩ v6).heap[q]? = some (.cells #[v0, v1, v2, v3, v4, v5, v6, c7, c8, c9, c10] T (0, 0)) := (boxk_set h5 6 v6).1
  have g7 := (boxk_set h6 7 v7).2
  have h7 : ((((((((w.setCell ⟨q, 0, none⟩ v0).setCell ⟨q, 1, none⟩ v1).setCell ⟨q, 2, none⟩ v2).setCell ⟨q, 3, none⟩ v3).setCell ⟨q, 4, none⟩ v4).setCell ⟨q, 5, none⟩ v5).setCell ⟨q, 6, none⟩ v6).setCell ⟨q, 7, none⟩ v7).heap[q]? = some (.cells #[v0, v1, v2, v3, v4, v5, v6, v7, c8, c9, c10] T (0, 0)) := (boxk_set h6 7 v7).1
  have g8 := (boxk_set h7 8 v8).2
  have h8 : (((((((((w.setCell ⟨q, 0, none⟩ v0).setCell ⟨q, 1, none⟩ v1).setCell ⟨q, 2, none⟩ v2).setCell ⟨q, 3, none⟩ v3).setCell ⟨q, 4, none⟩ v4).setCell ⟨q, 5, none⟩ v5).setCell ⟨q, 6, none⟩ v6).setCell ⟨q, 7, none⟩ v7).setCell ⟨q, 8, none⟩ v8).heap[q]? = some (.cells #[v0, v1, v2, v3, v4, v5, v6, v7, v8, c9, c10] T (0, 0)) := (boxk_set h7 8 v8).1
  have g9 := (boxk_set h8 9 v9).2
  have h9 : ((((((((((w.setCell ⟨q, 0, none⟩ v0).setCell ⟨q, 1, none⟩ v1).setCell ⟨q, 2, none⟩ v2).setCell ⟨q, 3, none⟩ v3).setCell ⟨q, 4, none⟩ v4).setCell ⟨q, 5, none⟩ v5).setCell ⟨q, 6, none⟩ v6).setCell ⟨q, 7, none⟩ v7).setCell ⟨q, 8, none⟩ v8).setCell ⟨q, 9, none⟩ v9).heap[q]? = some (.cells #[v0, v1, v2, v3, v4, v5, v6, v7, v8, v9, c10] T (0, 0)) := (boxk_set h8 9 v9).1
  have g10 := (boxk_set h9 10 v10).2
  have h10 : (((((((((((w.setCell ⟨q, 0, none⟩ v0).setCell ⟨q, 1, none⟩ v1).setCell ⟨q, 2, none⟩ v2).setCell ⟨q, 3, none⟩ v3).setCell ⟨q, 4, none⟩ v4).setCell ⟨q, 5, none⟩ v5).setCell ⟨q, 6, none⟩ v6).setCell ⟨q, 7, none⟩ v7).setCell ⟨q, 8, none⟩ v8).setCell ⟨q, 9, none⟩ v9).setCell ⟨q, 10, none⟩ v10).heap[q]? = some (.cells #[v0, v1, v2, v3, v4, v5, v6, v7, v8, v9, v10] T (0, 0)) := (boxk_set h9 10 v10).1
  exact ⟨h10, (grown_tt (grown_tt (grown_tt (grown_tt (grown_tt (grown_tt (grown_tt (grown_tt (grown_tt (grown_tt g0 g1) g2) g3) g4) g5) g6) g7) g8) g9) g10)⟩
theorem box11_setL {w : World} {q : Nat} {c0 c1 c2 c3 c4 c5 c6 c7 c8 c9 c10 : Value} {T : TypeId} (h : w.heap[q]? = some (.cells #[c0, c1, c2, c3, c4, c5, c6, c7, c8, c9, c10] T (0, 0))) (v1 v2 v3 v4 v5 : Value) :
    (((((w.setCell ⟨q, 1, none⟩ v1).setCell ⟨q, 2, none⟩ v2).setCell ⟨q, 3, none⟩ v3).setCell ⟨q, 4, none⟩ v4).setCell ⟨q, 5, none⟩ v5).heap[q]? = some (.cells #[c0, v1, v2, v3, v4, v5, c6, c7, c8, c9, c10] T (0, 0)) ∧ w.grownBy (((((w.setCell ⟨q, 1, none⟩ v1).setCell ⟨q, 2, none⟩ v2).setCell ⟨q, 3, none⟩ v3).setCell ⟨q, 4, none⟩ v4).setCell ⟨q, 5, none⟩ v5) (some q) := by
  have g1 := (boxk_set h 1 v1).2
  have h1 : (w.setCell ⟨q, 1, none⟩ v1).heap[q]? = some (.cells #[c0, v1, c2, c3, c4, c5, c6, c7, c8, c9, c10] T (0, 0)) := (boxk_set h 1 v1).1
  have g2 := (boxk_set h1 2 v2).2
  have h2 : ((w.setCell ⟨q, 1, none⟩ v1).setCell ⟨q, 2, none⟩ v2).heap[q]? = some (.cells #[c0, v1, v2, c3, c4, c5, c6, c7, c8, c9, c10] T (0, 0)) := (boxk_set h1 2 v2).1
  have g3 := (boxk_set h2 3 v3).2
  have h3 : (((w.setCell ⟨q, 1, none⟩ v1).setCell ⟨q, 2, none⟩ v2).setCell ⟨q, 3, none⟩ v3).heap[q]? = some (.cells #[c0, v1, v2, v3, c4, c5, c6, c7, c8, c9, c10] T (0, 0)) := (boxk_set h2 3 v3).1
  have g4 := (boxk_set h3 4 v4).2
  have h4 : ((((w.setCell ⟨q, 1, none⟩ v1).setCell ⟨q, 2, none⟩ v2).setCell ⟨q, 3, none⟩ v3).setCell ⟨q, 4, none⟩ v4).heap[q]? = some (.cells #[c0, v1, v2, v3, v4, c5, c6, c7, c8, c9, c10] T (0, 0)) := (boxk_set h3 4 v4).1
  have g5 := (boxk_set h4 5 v5).2
  have h5 : (((((w.setCell ⟨q, 1, none⟩ v1).setCell ⟨q, 2, none⟩ v2).setCell ⟨q, 3, none⟩ v3).setCell ⟨q, 4, none⟩ v4).setCell ⟨q, 5, none⟩ v5).heap[q]? = some (.cells #[c0, v1, v2, v3, v4, v5, c6, c7, c8, c9, c10] T (0, 0)) := (boxk_set h4 5 v5).1
  exact ⟨h5, (grown_tt (grown_tt (grown_tt (grown_tt g1 g2) g3) g4) g5)⟩
theorem box11_setR {w : World} {q : Nat} {c0 c1 c2 c3 c4 c5 c6 c7 c8 c9 c10 : Value} {T : TypeId} (h : w.heap[q]? = some (.cells #[c0, c1, c2, c3, c4, c5, c6, c7, c8, c9, c10] T (0, 0))) (v6 v7 v8 v9 v10 : Value) :
    (((((w.setCell ⟨q, 6, none⟩ v6).setCell ⟨q, 7, none⟩ v7).setCell ⟨q, 8, none⟩ v8).setCell ⟨q, 9, none⟩ v9).setCell ⟨q, 10, none⟩ v10).heap[q]? = some (.cells #[c0, c1, c2, c3, c4, c5, v6, v7, v8, v9, v10] T (0, 0)) ∧ w.grownBy (((((w.setCell ⟨q, 6, none⟩ v6).setCell ⟨q, 7, none⟩ v7).setCell ⟨q, 8, none⟩ v8).setCell ⟨q, 9, none⟩ v9).setCell ⟨q, 10, none⟩ v10) (some q) := by
  have g6 := (boxk_set h 6 v6).2
  have h6 : (w.setCell ⟨q, 6, none⟩ v6).heap[q]? = some (.cells #[c0, c1, c2, c3, c4, c5, v6, c7, c8, c9, c10] T (0, 0)) := (boxk_set h 6 v6).1
  have g7 := (boxk_set h6 7 v7).2
  have h7 : ((w.setCell ⟨q, 6, none⟩ v6).setCell ⟨q, 7, none⟩ v7).heap[q]? = some (.cells #[c0, c1, c2, c3, c4, c5, v6, v7, c8, c9, c10] T (0, 0)) := (boxk_set h6 7 v7).1
  have g8 := (boxk_set h7 8 v8).2
  have h8 : (((w.setCell ⟨q, 6, none⟩ v6).setCell ⟨q, 7, none⟩ v7).setCell ⟨q, 8, none⟩ v8).heap[q]? = some (.cells #[c0, c1, c2, c3, c4, c5, v6, v7, v8, c9, c10] T (0, 0)) := (boxk_set h7 8 v8).1
  have g9 := (boxk_set h8 9 v9).2
  have h9 : ((((w.setCell ⟨q, 6, none⟩ v6).setCell ⟨q, 7, none⟩ v7).setCell ⟨q, 8, none⟩ v8).setCell ⟨q, 9, none⟩ v9).heap[q]? = some (.cells #[c0, c1, c2, c3, c4, c5, v6, v7, v8, v9, c10] T (0, 0)) := (boxk_set h8 9 v9).1
  have g10 := (boxk_set h9 10 v10).2
  have h10 : (((((w.setCell ⟨q, 6, none⟩ v6).setCell ⟨q, 7, none⟩ v7).setCell ⟨q, 8, none⟩ v8).setCell ⟨q, 9, none⟩ v9).setCell ⟨q, 10, none⟩ v10).heap[q]? = some (.cells #[c0, c1, c2, c3, c4, c5, v6, v7, v8, v9, v10] T (0, 0)) := (boxk_set h9 10 v10).1
  exact ⟨h10, (grown_tt (grown_tt (grown_tt (grown_tt g6 g7) g8) g9) g10)⟩
theorem box11_post {P : Program} {f : Func} {Q : Ending → World → Prop} {x : Exit} {act : Act} {w : World} {q : Nat} {c0 c1 c2 c3 c4 c5 c6 c7 c8 c9 c10 v0 v1 v2 v3 v4 v5 v6 v7 v8 v9 v10 : Value} {T : TypeId} (h : w.heap[q]? = some (.cells #[c0, c1, c2, c3, c4, c5, c6, c7, c8, c9, c10] T (0, 0)))
    (k : ∀ w2, w2.heap[q]? = some (.cells #[v0, v1, v2, v3, v4, v5, v6, v7, v8, v9, v10] T (0, 0)) → w.grownBy w2 (some q) → bodyPost P f Q x act w2) : bodyPost P f Q x act (((((((((((w.setCell ⟨q, 0, none⟩ v0).setCell ⟨q, 1, none⟩ v1).setCell ⟨q, 2, none⟩ v2).setCell ⟨q, 3, none⟩ v3).setCell ⟨q, 4, none⟩ v4).setCell ⟨q, 5, none⟩ v5).setCell ⟨q, 6, none⟩ v6).setCell ⟨q, 7, none⟩ v7).setCell ⟨q, 8, none⟩ v8).setCell ⟨q, 9, none⟩ v9).setCell ⟨q, 10, none⟩ v10) :=
  k _ (box11_set h v0 v1 v2 v3 v4 v5 v6 v7 v8 v9 v10).1 (box11_set h v0 v1 v2 v3 v4 v5 v6 v7 v8 v9 v10).2
end Go.Proofs.Ytfgigcdfmkfkjaa
