/-
  Four cells (two definitions in memory) and what two definitions read as are kept where all that was there is.
-/
import Derived.Test.YtcfhpcbkdpgboaaJLawDef
import Derived.Deep.RegionHeld3
namespace Go.Proofs.Ytcfhpcbkdpgboaa
open Go.RowKit
set_option linter.unusedVariables false

def TwoDf (w0 : World) (B : Nat) (x y : DE) (W : World) : Prop := RdDef W x ∧ RdDef W y ∧ Below B w0 W ∧ B ≤ W.heap.size
theorem TwoDf.keep {w0 W w' : World} {B : Nat} {x y : DE} (h : TwoDf w0 B x y W) (hb : Below W.heap.size W w') : TwoDf w0 B x y w' :=
  ⟨h.1.below hb, h.2.1.below hb, h.2.2.1.trans (hb.mono h.2.2.2), Nat.le_trans h.2.2.2 hb.size⟩
theorem TwoDf.drew {w0 W : World} {B : Nat} {x y : DE} (h : TwoDf w0 B x y W) : TwoDf w0 B x y W.drew := ⟨h.1.heap rfl, h.2.1.heap rfl, h.2.2.1.drew, h.2.2.2⟩
theorem keepDf {w0 W w' : World} {B : Nat} {p0 p1 p2 p3 : Addr} {v0 v1 v2 v3 : Value} {x y : DE} (hb : Below W.heap.size W w') (h : W.cell? p0 = some v0 ∧ W.cell? p1 = some v1 ∧ W.cell? p2 = some v2 ∧ W.cell? p3 = some v3 ∧ TwoDf w0 B x y W) : w'.cell? p0 = some v0 ∧ w'.cell? p1 = some v1 ∧ w'.cell? p2 = some v2 ∧ w'.cell? p3 = some v3 ∧ TwoDf w0 B x y w' := by
  obtain ⟨h0, h1, h2, h3, h10⟩ := h
  have k : ∀ {a : Addr} {v : Value}, W.cell? a = some v → w'.cell? a = some v := fun {a v} h => by rw [hb.cell (World.block_lt_of_cell? W _ h)]; exact h
  exact ⟨k h0, k h1, k h2, k h3, h10.keep hb⟩
theorem rdDA {w0 W : World} {B : Nat} {p0 p1 p2 p3 : Addr} {v0 v1 v2 v3 : Value} {x y : DE} (h : W.cell? p0 = some v0 ∧ W.cell? p1 = some v1 ∧ W.cell? p2 = some v2 ∧ W.cell? p3 = some v3 ∧ TwoDf w0 B x y W) : RdDef W x := h.2.2.2.2.1
theorem rdDB {w0 W : World} {B : Nat} {p0 p1 p2 p3 : Addr} {v0 v1 v2 v3 : Value} {x y : DE} (h : W.cell? p0 = some v0 ∧ W.cell? p1 = some v1 ∧ W.cell? p2 = some v2 ∧ W.cell? p3 = some v3 ∧ TwoDf w0 B x y W) : RdDef W y := h.2.2.2.2.2.1
end Go.Proofs.Ytcfhpcbkdpgboaa
