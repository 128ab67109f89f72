/-
  A store's items, behind a write into the store's own block alone.
-/
import Derived.Test.YtaflokfgbmlmaadDoorJL4Ass
namespace Go.Proofs.YtaflokfgbmlmaadDoor
open Go.RowKit
set_option linter.unusedVariables false

theorem HoldsI.other {w w' : World} {lo g cp p : Nat} {K : List It} {cs : Array Value} (h : HoldsI w lo g cp K) (hp : w.heap[p]? = some (.cells cs 29 (0, 0))) (hk : ∀ q, q < w.heap.size → q ≠ p → w'.heap[q]? = w.heap[q]?) : HoldsI w' lo g cp K := by
  refine ⟨ownsRow_sameB h.own (fun k e => ?_), h.low, fun i hi hne => ?_, h.apart, h.lies⟩
  · have e2 : g = k := Option.some.inj e
    subst e2
    exact hk g h.lt (fun e3 => row_ne_box h.own hp (by decide) e3.symm)
  · obtain ⟨q, e, h1, h2, o⟩ := h.vals i hi hne
    have hne2 : q ≠ p := fun e3 => row_ne_box o hp (by decide) e3.symm
    refine ⟨q, e, h1, h2, ownsRow_sameB o (fun k e4 => ?_)⟩
    have e5 : q = k := Option.some.inj e4
    rw [← e5]
    exact hk q o.lt hne2
theorem HV.grown {w w' : World} {lo n vc q : Nat} {va : Option Addr} {K : List It} (h : HV w lo n va vc K) (hg : w.grownBy w' (some q)) (hq : q < lo) : HV w' lo n va vc K :=
  h.imp id (fun ⟨g, e, o⟩ => ⟨g, e, o.grown hg hq⟩)
theorem HV.weaken {w : World} {lo lo' n vc : Nat} {va : Option Addr} {K : List It} (h : HV w lo n va vc K) (hl : lo' ≤ lo) : HV w lo' n va vc K :=
  h.imp id (fun ⟨g, e, o⟩ => ⟨g, e, o.weaken hl⟩)
theorem HV.rd {w : World} {lo n vc : Nat} {va : Option Addr} {K : List It} (h : HV w lo n va vc K) : RdI w va K := by
  rcases h with ⟨-, rfl, -, -⟩ | ⟨g, rfl, o⟩
  · exact RdI.nil _ _
  · exact o.rd
end Go.Proofs.YtaflokfgbmlmaadDoor
