/-
  A row of bytes of the calls' own, by its block: what keeps it.
-/
import Derived.Test.YtaflokfgbmlmaabBytes
namespace Go.Proofs.Ytaflokfgbmlmaab
open Go.RowKit
set_option linter.unusedVariables false

/-- block g holds the bytes bs, at its head, and is written by nobody else -/
def Own (w : World) (g cap : Nat) (bs : List UInt8) : Prop := w.ownsRow 0 5 1 (.slice (some ⟨g, 0, none⟩) bs.length cap) bs.length (vals bs)

theorem owns_zero {w : World} {base n size : Nat} {e : TypeId} {v : Value} {xs : List Value} (h : w.ownsRow base e size v n xs) : w.ownsRow 0 e size v n xs := by
  refine ⟨h.1, ?_⟩
  rcases h.2 with h2 | ⟨g, cap, cur, h1, hb, rest⟩
  · exact .inl h2
  · exact .inr ⟨g, cap, cur, h1, Nat.zero_le _, rest⟩
theorem ownsRow_base {w : World} {base base' n size : Nat} {e : TypeId} {v : Value} {xs : List Value} (h : w.ownsRow base e size v n xs) (hb : base' ≤ base) : w.ownsRow base' e size v n xs := by
  refine ⟨h.1, ?_⟩
  rcases h.2 with h2 | ⟨g, cap, cur, h1, hb', rest⟩
  · exact .inl h2
  · exact .inr ⟨g, cap, cur, h1, by omega, rest⟩
theorem Own.lt {w : World} {g cap : Nat} {bs : List UInt8} (h : Own w g cap bs) : g < w.heap.size := (World.ownsRow.lt h g rfl).2
theorem Own.below {w w' : World} {g cap B : Nat} {bs : List UInt8} (h : Own w g cap bs) (hb : Below B w w') (hg : g < B) : Own w' g cap bs := by
  refine ⟨h.1, ?_⟩
  rcases h.2 with h2 | ⟨g', cap', cur, h1, hb', hh, rest⟩
  · exact .inl h2
  · refine .inr ⟨g', cap', cur, h1, hb', ?_, rest⟩
    simp only [Value.slice.injEq, Option.some.injEq, Addr.mk.injEq, and_true, true_and] at h1
    rw [hb.block g' (by omega)]; exact hh
theorem Own.later {w w' : World} {g cap : Nat} {bs : List UInt8} (h : Own w g cap bs) (hb : Below w.heap.size w w') : Own w' g cap bs := h.below hb h.lt
theorem Own.grown {w w' : World} {g g' cap : Nat} {bs : List UInt8} (h : Own w g cap bs) (hg : w.grownBy w' (some g')) (hne : g ≠ g') : Own w' g cap bs :=
  World.ownsRow.kept h hg (.inr (by simp [Value.ownBlock]; exact hne))
theorem Own.drewN {w : World} {g cap : Nat} {bs : List UInt8} (h : Own w g cap bs) (nd : Nat) : Own (w.drewN nd) g cap bs := h
theorem Own.rd {w : World} {g cap : Nat} {bs : List UInt8} (h : Own w g cap bs) : Rd w (some ⟨g, 0, none⟩) bs := by
  obtain ⟨a, c, e, hr, -⟩ := rd_owns h
  simp only [Value.slice.injEq] at e
  rw [e.1]; exact hr
theorem Own.cap {w : World} {g cap : Nat} {bs : List UInt8} (h : Own w g cap bs) : bs.length ≤ cap := by
  rcases h.2 with ⟨h1, _⟩ | ⟨g', cap', cur, h1, hb', hh, hnc, _⟩
  · simp at h1
  · simp only [Value.slice.injEq] at h1; omega
/-- a row that was made and is not empty has a block of its own -/
theorem owns_own {w : World} {base n : Nat} {v : Value} {bs : List UInt8} (h : w.ownsRow base 5 1 v n (vals bs)) (hp : 0 < bs.length) :
    ∃ g cap, v = .slice (some ⟨g, 0, none⟩) bs.length cap ∧ base ≤ g ∧ Own w g cap bs := by
  have hn : n = bs.length := by have := h.1; rw [vals_length] at this; omega
  subst hn
  rcases h.2 with ⟨rfl, h0⟩ | ⟨g, cap, cur, rfl, hb, rest⟩
  · omega
  · exact ⟨g, cap, rfl, hb, owns_zero h⟩
theorem below_grown {w w' : World} {B g : Nat} (h : w.grownBy w' (some g)) (hB : B ≤ w.heap.size) (hg : B ≤ g) : Below B w w' :=
  (Below.refl _ _).grown h hB (fun k hk => by cases hk; exact hg)

end Go.Proofs.Ytaflokfgbmlmaab
