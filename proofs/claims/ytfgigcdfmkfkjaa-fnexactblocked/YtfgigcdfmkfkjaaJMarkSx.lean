/-
  Which blocks the marker of stores leaves alone, and how far it counts.
-/
import Derived.Test.YtfgigcdfmkfkjaaJMarkSt
namespace Go.Proofs.Ytfgigcdfmkfkjaa
open Go.RowKit
theorem HoldsI.apart_lo {w : World} {lo g cp q : Nat} {K : List It} (h : HoldsI w lo g cp K) (hq : q < lo) : Apart K g q := by
  refine ⟨by have := h.low; omega, fun i hi hne e => ?_⟩
  obtain ⟨p, e2, h2, -, -⟩ := h.vals i hi hne
  rw [e2] at e
  simp only [Option.some.injEq, Addr.mk.injEq, and_true] at e
  omega
theorem HoldsI.apart_hi {w : World} {lo g cp q : Nat} {K : List It} (h : HoldsI w lo g cp K) (hq : w.heap.size ≤ q) : Apart K g q := by
  refine ⟨by have := h.lt; omega, fun i hi hne e => ?_⟩
  obtain ⟨p, e2, -, -, o⟩ := h.vals i hi hne
  have := o.lt
  rw [e2] at e
  simp only [Option.some.injEq, Addr.mk.injEq, and_true] at e
  omega
theorem totI_sz {J K : List It} (h : K.map It.pl = J.map It.pl) : totI K K.length ≤ 3 * szSt J := by
  have e : K.map wI = J.map wI := by
    have f : wI = (fun p : P4 => 2 + 3 * p.L.length) ∘ It.pl := rfl
    rw [f, ← List.map_map, ← List.map_map, h]
  have key : ∀ L : List It, (L.map wI).sum ≤ 3 * (L.length + (L.map szI).sum) := by
    intro L
    induction L with
    | nil => simp
    | cons x r ih => simp only [List.map_cons, List.sum_cons, List.length_cons]; unfold wI szI szL at *; omega
  unfold totI szSt
  rw [List.take_length, e]
  exact key J
end Go.Proofs.Ytfgigcdfmkfkjaa
