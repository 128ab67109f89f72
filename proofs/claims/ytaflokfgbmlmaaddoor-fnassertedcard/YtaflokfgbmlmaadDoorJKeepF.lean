/-
  Four cells (two facts in memory) and what two lists of values read as are kept where all that was there is.
-/
import Derived.Test.YtaflokfgbmlmaadDoorJBox2
import Derived.Test.YtaflokfgbmlmaadDoorJKeep6
namespace Go.Proofs.YtaflokfgbmlmaadDoor
open Go.RowKit
set_option linter.unusedVariables false

/-- two facts in memory, their lists, and all that was there at the head -/
def Two (w0 : World) (B : Nat) (a b : Option Addr) (L M : List V3) (W : World) : Prop := RdV W a L ∧ RdV W b M ∧ Below B w0 W ∧ B ≤ W.heap.size
theorem Two.keep {w0 W w' : World} {B : Nat} {a b : Option Addr} {L M : List V3} (h : Two w0 B a b L M W) (hb : Below W.heap.size W w') : Two w0 B a b L M w' :=
  ⟨h.1.below hb, h.2.1.below hb, h.2.2.1.trans (hb.mono h.2.2.2), Nat.le_trans h.2.2.2 hb.size⟩
theorem Two.drew {w0 W : World} {B : Nat} {a b : Option Addr} {L M : List V3} (h : Two w0 B a b L M W) : Two w0 B a b L M W.drew :=
  ⟨h.1.heap rfl, h.2.1.heap rfl, h.2.2.1.drew, h.2.2.2⟩
theorem keepF {w0 W w' : World} {B : Nat} {p0 p1 p2 p3 : Addr} {v0 v1 v2 v3 : Value} {a b : Option Addr} {L M : List V3} (hb : Below W.heap.size W w')
    (h : W.cell? p0 = some v0 ∧ W.cell? p1 = some v1 ∧ W.cell? p2 = some v2 ∧ W.cell? p3 = some v3 ∧ Two w0 B a b L M W) :
    w'.cell? p0 = some v0 ∧ w'.cell? p1 = some v1 ∧ w'.cell? p2 = some v2 ∧ w'.cell? p3 = some v3 ∧ Two w0 B a b L M w' := by
  obtain ⟨h0, h1, h2, h3, h4⟩ := h
  have k : ∀ {a : Addr} {v : Value}, W.cell? a = some v → w'.cell? a = some v := fun {a v} h => by rw [hb.cell (World.block_lt_of_cell? W _ h)]; exact h
  exact ⟨k h0, k h1, k h2, k h3, h4.keep hb⟩
theorem rdA {w0 W : World} {B : Nat} {p0 p1 p2 p3 : Addr} {v0 v1 v2 v3 : Value} {a b : Option Addr} {L M : List V3}
    (h : W.cell? p0 = some v0 ∧ W.cell? p1 = some v1 ∧ W.cell? p2 = some v2 ∧ W.cell? p3 = some v3 ∧ Two w0 B a b L M W) : RdV W a L := h.2.2.2.2.1
theorem rdB {w0 W : World} {B : Nat} {p0 p1 p2 p3 : Addr} {v0 v1 v2 v3 : Value} {a b : Option Addr} {L M : List V3}
    (h : W.cell? p0 = some v0 ∧ W.cell? p1 = some v1 ∧ W.cell? p2 = some v2 ∧ W.cell? p3 = some v3 ∧ Two w0 B a b L M W) : RdV W b M := h.2.2.2.2.2.1
end Go.Proofs.YtaflokfgbmlmaadDoor
