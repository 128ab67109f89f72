/-
  The laws' marks on a row of values that a call answered, nil or not.
-/
import Derived.Test.YtbellpalomiokaaJHeldF
namespace Go.Proofs.Ytbellpalomiokaa
open Go.RowKit
set_option linter.unusedVariables false

theorem rdRow {w : World} {base n n' c : Nat} {a : Option Addr} {L : List V3} (h : w.ownsRow base 30 3 (.slice a n c) n' (cells3 L)) : RdV w a L := by
  obtain ⟨a', c', e, hr, -⟩ := rdV_owns h
  simp only [Value.slice.injEq] at e
  rw [e.1]; exact hr
theorem markValS_nil (w : World) :
    Calls Try.prog 32 #[.slice none 0 0, .int .i64 1] w fun e w' => e = .returned (.int .i64 1) ∧ w' = w := by
  go_enter Try.func32, Try.ntmps32
  go_wp2
  go_rounds 1
  go_ret
  exact ⟨rfl, rfl⟩
theorem grown_by {w w' : World} {g : Nat} (hB : Below g w w') (h : ∀ q, q < w.heap.size → q ≠ g → w'.heap[q]? = w.heap[q]?) : w.grownBy w' (some g) :=
  ⟨hB.os, hB.tape, hB.output, hB.size, fun i hi hne => h i hi (fun e => hne (by rw [e]))⟩
theorem markRow_any (base : Nat) (v : Value) (L : List V3) (w : World) (ho : w.ownsRow base 30 3 v L.length (cells3 L)) (hn : L.length ≤ 1048580) :
    Calls Try.prog 32 #[v, .int .i64 1] w fun e w' =>
      e = .returned (.int .i64 ((1 + 3 * L.length : Nat) : Int)) ∧ w'.ownsRow base 30 3 v L.length (cells3 (marksV 1 L.length)) ∧ w.grownBy w' v.ownBlock := by
  rcases ho.2 with ⟨rfl, h0⟩ | ⟨g, cap, cur, rfl, hb, rest⟩
  · have hL : L = [] := List.eq_nil_of_length_eq_zero h0
    subst hL
    refine (markValS_nil w).mono fun e w' h => ⟨h.1, World.ownsRow_nil _ _ _ _, by rw [h.2]; exact World.grownBy.refl _ _⟩
  · refine (markValS_any g cap 1 L w (OwnV.of ho) hn (by omega)).mono fun e w' h => ⟨h.1, ?_, grown_by h.2.2.2 h.2.2.1⟩
    have := h.2.1
    refine ⟨by have := this.1; rw [marksV_length] at this; exact this, ?_⟩
    rcases this.2 with ⟨h1, _⟩ | ⟨g', cap', cur', h1, _, rest'⟩
    · simp at h1
    · rw [marksV_length] at h1 rest'
      simp only [Value.slice.injEq, Option.some.injEq, Addr.mk.injEq, and_true, true_and] at h1
      obtain ⟨rfl, rfl⟩ := h1
      exact .inr ⟨g, cap, cur', rfl, hb, rest'⟩
end Go.Proofs.Ytbellpalomiokaa
