/-
  Six cells (two patterns in memory) and what two lists of arguments read as are kept where all that was there is.
-/
import Derived.Test.YtaflokfgbmlmaacDoorLawPat
namespace Go.Proofs.YtaflokfgbmlmaacDoor
open Go.RowKit
set_option linter.unusedVariables false

def TwoA (w0 : World) (B : Nat) (a b : Option Addr) (L : List A5) (W : World) : Prop := RdArg W a L ∧ RdArg W b L ∧ Below B w0 W ∧ B ≤ W.heap.size
theorem TwoA.keep {w0 W w' : World} {B : Nat} {a b : Option Addr} {L : List A5} (h : TwoA w0 B a b L W) (hb : Below W.heap.size W w') : TwoA w0 B a b L w' :=
  ⟨h.1.below hb, h.2.1.below hb, h.2.2.1.trans (hb.mono h.2.2.2), Nat.le_trans h.2.2.2 hb.size⟩
theorem TwoA.drew {w0 W : World} {B : Nat} {a b : Option Addr} {L : List A5} (h : TwoA w0 B a b L W) : TwoA w0 B a b L W.drew :=
  ⟨h.1.heap rfl, h.2.1.heap rfl, h.2.2.1.drew, h.2.2.2⟩
theorem keepP {w0 W w' : World} {B : Nat} {p0 p1 p2 p3 p4 p5 : Addr} {v0 v1 v2 v3 v4 v5 : Value} {a b : Option Addr} {L : List A5} (hb : Below W.heap.size W w')
    (h : W.cell? p0 = some v0 ∧ W.cell? p1 = some v1 ∧ W.cell? p2 = some v2 ∧ W.cell? p3 = some v3 ∧ W.cell? p4 = some v4 ∧ W.cell? p5 = some v5 ∧ TwoA w0 B a b L W) :
    w'.cell? p0 = some v0 ∧ w'.cell? p1 = some v1 ∧ w'.cell? p2 = some v2 ∧ w'.cell? p3 = some v3 ∧ w'.cell? p4 = some v4 ∧ w'.cell? p5 = some v5 ∧ TwoA w0 B a b L w' := by
  obtain ⟨h0, h1, h2, h3, h4, h5, h6⟩ := h
  have k : ∀ {a : Addr} {v : Value}, W.cell? a = some v → w'.cell? a = some v := fun {a v} h => by rw [hb.cell (World.block_lt_of_cell? W _ h)]; exact h
  exact ⟨k h0, k h1, k h2, k h3, k h4, k h5, h6.keep hb⟩
theorem rdPA {w0 W : World} {B : Nat} {p0 p1 p2 p3 p4 p5 : Addr} {v0 v1 v2 v3 v4 v5 : Value} {a b : Option Addr} {L : List A5}
    (h : W.cell? p0 = some v0 ∧ W.cell? p1 = some v1 ∧ W.cell? p2 = some v2 ∧ W.cell? p3 = some v3 ∧ W.cell? p4 = some v4 ∧ W.cell? p5 = some v5 ∧ TwoA w0 B a b L W) : RdArg W a L := h.2.2.2.2.2.2.1
theorem rdPB {w0 W : World} {B : Nat} {p0 p1 p2 p3 p4 p5 : Addr} {v0 v1 v2 v3 v4 v5 : Value} {a b : Option Addr} {L : List A5}
    (h : W.cell? p0 = some v0 ∧ W.cell? p1 = some v1 ∧ W.cell? p2 = some v2 ∧ W.cell? p3 = some v3 ∧ W.cell? p4 = some v4 ∧ W.cell? p5 = some v5 ∧ TwoA w0 B a b L W) : RdArg W b L := h.2.2.2.2.2.2.2.1
end Go.Proofs.YtaflokfgbmlmaacDoor
