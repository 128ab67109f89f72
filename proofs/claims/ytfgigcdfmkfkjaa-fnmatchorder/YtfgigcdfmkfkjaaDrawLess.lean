/-
  The contract of the draw of two values.
-/
import Derived.Test.YtfgigcdfmkfkjaaDrawA
import Derived.Deep.RegionHeld3
import Derived.RegionTactic
namespace Go.Proofs.Ytfgigcdfmkfkjaa
open Go.RowKit
set_option linter.unusedVariables false

theorem keep3g {W w' : World} {V Q : Nat} {v0 v1 v2 : Value} (hg : W.grownBy w' (some Q)) (h : W.cell? ⟨V, 0, none⟩ = some v0 ∧ W.cell? ⟨V, 1, none⟩ = some v1 ∧ W.cell? ⟨V, 2, none⟩ = some v2) (hn : V ≠ Q) :
    w'.cell? ⟨V, 0, none⟩ = some v0 ∧ w'.cell? ⟨V, 1, none⟩ = some v1 ∧ w'.cell? ⟨V, 2, none⟩ = some v2 :=
  ⟨hg.cell h.1 (by simp; exact hn), hg.cell h.2.1 (by simp; exact hn), hg.cell h.2.2 (by simp; exact hn)⟩
/-- at a return behind stores of two values: the world by what it holds -/
theorem box_post2 {P : Program} {f : Func} {Q : Ending → World → Prop} {x : Exit} {act : Act} {w : World} {qa qb : Nat} {c0 c1 c2 d0 d1 d2 a b c a' b' c' : Value} {T T' : TypeId} (h : w.heap[qa]? = some (.cells #[c0, c1, c2] T (0, 0))) (h' : w.heap[qb]? = some (.cells #[d0, d1, d2] T' (0, 0))) (hne : qa ≠ qb)
    (k : ∀ w2, w2.heap[qa]? = some (.cells #[a, b, c] T (0, 0)) → w2.heap[qb]? = some (.cells #[a', b', c'] T' (0, 0)) → (∀ B, B ≤ qa → B ≤ qb → Below B w w2) → bodyPost P f Q x act w2) :
    bodyPost P f Q x act ((((((w.setCell ⟨qa, 0, none⟩ a).setCell ⟨qa, 1, none⟩ b).setCell ⟨qa, 2, none⟩ c).setCell ⟨qb, 0, none⟩ a').setCell ⟨qb, 1, none⟩ b').setCell ⟨qb, 2, none⟩ c').drew := by
  obtain ⟨e1, g1⟩ := box_set3 h a b c
  have h2 := box_grown h' g1 (by omega)
  obtain ⟨e2, g2⟩ := box_set3 h2 a' b' c'
  have l1 := (Array.getElem?_eq_some_iff.1 h).1
  have l2 := (Array.getElem?_eq_some_iff.1 h').1
  have e3 := box_grown e1 g2 hne
  generalize ((w.setCell ⟨qa, 0, none⟩ a).setCell ⟨qa, 1, none⟩ b).setCell ⟨qa, 2, none⟩ c = X at e1 g1 h2 e2 g2 e3 ⊢
  generalize ((X.setCell ⟨qb, 0, none⟩ a').setCell ⟨qb, 1, none⟩ b').setCell ⟨qb, 2, none⟩ c' = Y at e2 g2 e3 ⊢
  refine k Y.drew e3 e2 (fun B hA hB => ?_)
  have b1 : Below B w X := (Below.refl B w).grown g1 (by omega) (fun k hk => by cases hk; exact hA)
  exact (b1.grown g2 (by have := b1.size; omega) (fun k hk => by cases hk; exact hB)).drew

/-- at a return behind stores of two values: the world by what it holds -/
theorem box_post2n {P : Program} {f : Func} {Q : Ending → World → Prop} {x : Exit} {act : Act} {w : World} {qa qb : Nat} {c0 c1 c2 d0 d1 d2 a b c a' b' c' : Value} {T T' : TypeId} (h : w.heap[qa]? = some (.cells #[c0, c1, c2] T (0, 0))) (h' : w.heap[qb]? = some (.cells #[d0, d1, d2] T' (0, 0))) (hne : qa ≠ qb)
    (k : ∀ w2, w2.heap[qa]? = some (.cells #[a, b, c] T (0, 0)) → w2.heap[qb]? = some (.cells #[a', b', c'] T' (0, 0)) → (∀ B, B ≤ qa → B ≤ qb → Below B w w2) → bodyPost P f Q x act w2) :
    bodyPost P f Q x act ((((((w.setCell ⟨qa, 0, none⟩ a).setCell ⟨qa, 1, none⟩ b).setCell ⟨qa, 2, none⟩ c).setCell ⟨qb, 0, none⟩ a').setCell ⟨qb, 1, none⟩ b').setCell ⟨qb, 2, none⟩ c') := by
  obtain ⟨e1, g1⟩ := box_set3 h a b c
  have h2 := box_grown h' g1 (by omega)
  obtain ⟨e2, g2⟩ := box_set3 h2 a' b' c'
  have l1 := (Array.getElem?_eq_some_iff.1 h).1
  have l2 := (Array.getElem?_eq_some_iff.1 h').1
  have e3 := box_grown e1 g2 hne
  generalize ((w.setCell ⟨qa, 0, none⟩ a).setCell ⟨qa, 1, none⟩ b).setCell ⟨qa, 2, none⟩ c = X at e1 g1 h2 e2 g2 e3 ⊢
  generalize ((X.setCell ⟨qb, 0, none⟩ a').setCell ⟨qb, 1, none⟩ b').setCell ⟨qb, 2, none⟩ c' = Y at e2 g2 e3 ⊢
  refine k Y e3 e2 (fun B hA hB => ?_)
  have b1 : Below B w X := (Below.refl B w).grown g1 (by omega) (fun k hk => by cases hk; exact hA)
  exact (b1.grown g2 (by have := b1.size; omega) (fun k hk => by cases hk; exact hB))

end Go.Proofs.Ytfgigcdfmkfkjaa
