/-
  The contracts of the laws' own comparison of items and stores: what is plainly the same is found the same.
-/
import Derived.Test.YtlaoiagpoomldabDoorJoined1
import Derived.Test.YtlaoiagpoomldabDoorJKeepF
import Derived.Deep.RegionHeld3
namespace Go.Proofs.YtlaoiagpoomldabDoor
open Go.RowKit
set_option linter.unusedVariables false

/-- two items in memory, their lists, and all that was there at the head -/
theorem keepI {w0 W w' : World} {B : Nat} {p0 p1 p2 p3 p4 p5 : Addr} {v0 v1 v2 v3 v4 v5 : Value} {a b : Option Addr} {L M : List V3} (hb : Below W.heap.size W w')
    (h : W.cell? p0 = some v0 ∧ W.cell? p1 = some v1 ∧ W.cell? p2 = some v2 ∧ W.cell? p3 = some v3 ∧ W.cell? p4 = some v4 ∧ W.cell? p5 = some v5 ∧ Two w0 B a b L M W) :
    w'.cell? p0 = some v0 ∧ w'.cell? p1 = some v1 ∧ w'.cell? p2 = some v2 ∧ w'.cell? p3 = some v3 ∧ w'.cell? p4 = some v4 ∧ w'.cell? p5 = some v5 ∧ Two w0 B a b L M w' := by
  obtain ⟨h0, h1, h2, h3, h4, h5, h6⟩ := h
  have k : ∀ {a : Addr} {v : Value}, W.cell? a = some v → w'.cell? a = some v := fun {a v} h => by rw [hb.cell (World.block_lt_of_cell? W _ h)]; exact h
  exact ⟨k h0, k h1, k h2, k h3, k h4, k h5, h6.keep hb⟩

end Go.Proofs.YtlaoiagpoomldabDoor
