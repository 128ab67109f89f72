/-
  A block of two cells (a fact in memory), and rows of values of the calls' own, by their block.
-/
import Derived.Test.YtfgigcdfmkfkjaaBox2g
namespace Go.Proofs.Ytfgigcdfmkfkjaa
open Go.RowKit
set_option linter.unusedVariables false

/-- block g holds the values L, at its head, and is written by nobody else -/
def OwnV (w : World) (g cap : Nat) (L : List V3) : Prop := w.ownsRow 0 105 3 (.slice (some ⟨g, 0, none⟩) L.length cap) L.length (cells3 L)
theorem OwnV.of {w : World} {base g cap n : Nat} {L : List V3} (h : w.ownsRow base 105 3 (.slice (some ⟨g, 0, none⟩) n cap) n (cells3 L)) : OwnV w g cap L := by
  have hn : n = L.length := by have := h.1; rw [cells3_length] at this; omega
  subst hn
  refine ⟨h.1, ?_⟩
  rcases h.2 with h2 | ⟨g, cap, cur, h1, hb, rest⟩
  · exact .inl h2
  · exact .inr ⟨g, cap, cur, h1, Nat.zero_le _, rest⟩
theorem OwnV.lt {w : World} {g cap : Nat} {L : List V3} (h : OwnV w g cap L) : g < w.heap.size := (World.ownsRow.lt h g rfl).2
theorem OwnV.later {w w' : World} {g cap : Nat} {L : List V3} (h : OwnV w g cap L) (hb : Below w.heap.size w w') : OwnV w' g cap L := by
  refine ⟨h.1, ?_⟩
  rcases h.2 with h2 | ⟨g, cap, cur, h1, hb', hh, rest⟩
  · exact .inl h2
  · exact .inr ⟨g, cap, cur, h1, hb', by rw [hb.block g (Array.getElem?_eq_some_iff.1 hh).1]; exact hh, rest⟩
theorem OwnV.grown {w w' : World} {g g' cap : Nat} {L : List V3} (h : OwnV w g cap L) (hg : w.grownBy w' (some g')) (hne : g ≠ g') : OwnV w' g cap L :=
  World.ownsRow.kept h hg (.inr (by simp [Value.ownBlock]; exact hne))
theorem OwnV.rd {w : World} {g cap : Nat} {L : List V3} (h : OwnV w g cap L) : RdV w (some ⟨g, 0, none⟩) L := by
  obtain ⟨a, c, e, hr, -⟩ := rdV_owns h
  simp only [Value.slice.injEq] at e
  rw [e.1]; exact hr
theorem OwnV.cap {w : World} {g cap : Nat} {L : List V3} (h : OwnV w g cap L) : L.length ≤ cap := by
  rcases h.2 with ⟨h1, _⟩ | ⟨g', cap', cur, h1, hb', hh, hnc, _⟩
  · simp at h1
  · simp only [Value.slice.injEq] at h1; omega
end Go.Proofs.Ytfgigcdfmkfkjaa
