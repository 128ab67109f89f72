/-
  What a store that is written into keeps: its box is no block of its rows; one item more.
-/
import Derived.Test.YtaflokfgbmlmaadDoorJCopyL
namespace Go.Proofs.YtaflokfgbmlmaadDoor
open Go.RowKit
set_option linter.unusedVariables false

/-- a block that holds a row of one type is no box of another -/
theorem row_ne_box {w : World} {base n size g cap p : Nat} {T T' : TypeId} {xs : List Value} {cs : Array Value} (h : w.ownsRow base T size (.slice (some ⟨g, 0, none⟩) n cap) n xs) (hp : w.heap[p]? = some (.cells cs T' (0, 0))) (hT : T ≠ T') : p ≠ g := by
  rintro rfl
  rcases h.2 with h2 | ⟨g', cap', cur, e, hb, hg, rest⟩
  · exact absurd h2 (by simp)
  · simp only [Value.slice.injEq, Option.some.injEq, Addr.mk.injEq] at e
    rw [← e.1.1, hp] at hg
    simp only [Option.some.injEq, Obj.cells.injEq] at hg
    exact hT hg.2.1.symm
theorem HoldsI.copied {w : World} {lo g cp : Nat} {K : List It} (h : HoldsI w lo g cp K) (x : It) : Copied w lo g (K ++ [x]) K K.length :=
  ⟨fun i hi => ⟨by rw [iAt_app_lt hi], h.vals i hi, h.lies i hi⟩, h.apart⟩
/-- as rebase, the box p is written too: no list lies in it -/
theorem Copied.rebase3 {w w' : World} {lo g g' p : Nat} {J K : List It} {k : Nat} {cs : Array Value} (h : Copied w lo g J K k) (hp : w.heap[p]? = some (.cells cs 29 (0, 0))) (hk : ∀ q, q < w.heap.size → q ≠ g → q ≠ p → w'.heap[q]? = w.heap[q]?) (hg : g' = g ∨ w.heap.size ≤ g') : Copied w' lo g' J K k := by
  refine ⟨fun i hi => ?_, h.2⟩
  obtain ⟨h1, h2, h3⟩ := h.1 i hi
  refine ⟨h1, fun hne => ?_, h3⟩
  obtain ⟨q, e, hl, hq, o⟩ := h2 hne
  have hlt := o.lt
  have hqp : p ≠ q := row_ne_box o hp (by decide)
  refine ⟨q, e, hl, by rcases hg with rfl | hg; exact hq; omega, ?_⟩
  exact ownsRow_sameB o (fun j hj => by simp only [Value.ownBlock, Option.some.injEq] at hj; rw [← hj]; exact hk q hlt hq (fun e => hqp e.symm))
end Go.Proofs.YtaflokfgbmlmaadDoor
