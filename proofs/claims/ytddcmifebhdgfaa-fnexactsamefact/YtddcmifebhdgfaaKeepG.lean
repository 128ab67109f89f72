/-
  Eight cells (four facts in memory) and what their lists read as are kept where all that was there is.
-/
import Derived.Test.YtddcmifebhdgfaaKeepF
namespace Go.Proofs.Ytddcmifebhdgfaa
open Go.RowKit
set_option linter.unusedVariables false

def Eight (w0 : World) (B : Nat) (a b c d : Option Addr) (L M : List V3) (W : World) : Prop := Two w0 B a b L M W ∧ RdV W c L ∧ RdV W d M
theorem Eight.keep {w0 W w' : World} {B : Nat} {a b c d : Option Addr} {L M : List V3} (h : Eight w0 B a b c d L M W) (hb : Below W.heap.size W w') : Eight w0 B a b c d L M w' :=
  ⟨h.1.keep hb, h.2.1.below hb, h.2.2.below hb⟩
theorem Eight.drew {w0 W : World} {B : Nat} {a b c d : Option Addr} {L M : List V3} (h : Eight w0 B a b c d L M W) : Eight w0 B a b c d L M W.drew :=
  ⟨h.1.drew, h.2.1.heap rfl, h.2.2.heap rfl⟩
theorem keep9 {w0 W w' : World} {B : Nat} {p0 p1 p2 p3 p4 p5 p6 p7 : Addr} {v0 v1 v2 v3 v4 v5 v6 v7 : Value} {a b c d : Option Addr} {L M : List V3} (hb : Below W.heap.size W w')
    (h : W.cell? p0 = some v0 ∧ W.cell? p1 = some v1 ∧ W.cell? p2 = some v2 ∧ W.cell? p3 = some v3 ∧ W.cell? p4 = some v4 ∧ W.cell? p5 = some v5 ∧ W.cell? p6 = some v6 ∧ W.cell? p7 = some v7 ∧ Eight w0 B a b c d L M W) : w'.cell? p0 = some v0 ∧ w'.cell? p1 = some v1 ∧ w'.cell? p2 = some v2 ∧ w'.cell? p3 = some v3 ∧ w'.cell? p4 = some v4 ∧ w'.cell? p5 = some v5 ∧ w'.cell? p6 = some v6 ∧ w'.cell? p7 = some v7 ∧ Eight w0 B a b c d L M w' := by
  obtain ⟨h0, h1, h2, h3, h4, h5, h6, h7, h8⟩ := h
  have k : ∀ {a : Addr} {v : Value}, W.cell? a = some v → w'.cell? a = some v := fun {a v} h => by rw [hb.cell (World.block_lt_of_cell? W _ h)]; exact h
  exact ⟨k h0, k h1, k h2, k h3, k h4, k h5, k h6, k h7, h8.keep hb⟩
theorem rdE1 {w0 W : World} {B : Nat} {p0 p1 p2 p3 p4 p5 p6 p7 : Addr} {v0 v1 v2 v3 v4 v5 v6 v7 : Value} {a b c d : Option Addr} {L M : List V3} (h : W.cell? p0 = some v0 ∧ W.cell? p1 = some v1 ∧ W.cell? p2 = some v2 ∧ W.cell? p3 = some v3 ∧ W.cell? p4 = some v4 ∧ W.cell? p5 = some v5 ∧ W.cell? p6 = some v6 ∧ W.cell? p7 = some v7 ∧ Eight w0 B a b c d L M W) : RdV W a L := h.2.2.2.2.2.2.2.2.1.1
theorem rdE2 {w0 W : World} {B : Nat} {p0 p1 p2 p3 p4 p5 p6 p7 : Addr} {v0 v1 v2 v3 v4 v5 v6 v7 : Value} {a b c d : Option Addr} {L M : List V3} (h : W.cell? p0 = some v0 ∧ W.cell? p1 = some v1 ∧ W.cell? p2 = some v2 ∧ W.cell? p3 = some v3 ∧ W.cell? p4 = some v4 ∧ W.cell? p5 = some v5 ∧ W.cell? p6 = some v6 ∧ W.cell? p7 = some v7 ∧ Eight w0 B a b c d L M W) : RdV W b M := h.2.2.2.2.2.2.2.2.1.2.1
theorem rdE3 {w0 W : World} {B : Nat} {p0 p1 p2 p3 p4 p5 p6 p7 : Addr} {v0 v1 v2 v3 v4 v5 v6 v7 : Value} {a b c d : Option Addr} {L M : List V3} (h : W.cell? p0 = some v0 ∧ W.cell? p1 = some v1 ∧ W.cell? p2 = some v2 ∧ W.cell? p3 = some v3 ∧ W.cell? p4 = some v4 ∧ W.cell? p5 = some v5 ∧ W.cell? p6 = some v6 ∧ W.cell? p7 = some v7 ∧ Eight w0 B a b c d L M W) : RdV W c L := h.2.2.2.2.2.2.2.2.2.1
theorem rdE4 {w0 W : World} {B : Nat} {p0 p1 p2 p3 p4 p5 p6 p7 : Addr} {v0 v1 v2 v3 v4 v5 v6 v7 : Value} {a b c d : Option Addr} {L M : List V3} (h : W.cell? p0 = some v0 ∧ W.cell? p1 = some v1 ∧ W.cell? p2 = some v2 ∧ W.cell? p3 = some v3 ∧ W.cell? p4 = some v4 ∧ W.cell? p5 = some v5 ∧ W.cell? p6 = some v6 ∧ W.cell? p7 = some v7 ∧ Eight w0 B a b c d L M W) : RdV W d M := h.2.2.2.2.2.2.2.2.2.2
end Go.Proofs.Ytddcmifebhdgfaa
