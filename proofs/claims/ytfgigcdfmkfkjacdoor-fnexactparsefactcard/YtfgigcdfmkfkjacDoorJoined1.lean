/-
  Texts of this claim joined into one: V3, Box, ValRow, Box2g, Box2, LawVal, LawEq, Keep6, LawFact, MarkF, RowOf, RowK, BoxK, VEq, StrRow, Split, ValE, L2Num, AllB, Text, Val, TabT, ValT, ParseP, Atoi, Loose, ParseI, ParseS, Parse, VOk.
-/
import Derived.Test.YtfgigcdfmkfkjacDoorJPlain
import Derived.OpenShut
import Derived.BigQuiet
import Derived.Deep.QuietTactic
import Derived.Handy
import Derived.Deep.RegionHeld3
import Derived.Laws.IdiomStrings
import Derived.Laws.Strings
import Derived.Deep.AppendLies
import Derived.OwnWalk
import Derived.Deep.RegionWith
import Derived.Laws.StructEq
import Derived.Test.YtfgigcdfmkfkjacDoorJValP
import Derived.Lib.ItoaLen
import Derived.Test.YtfgigcdfmkfkjacDoorJWord
import Derived.Lib.AppendIntMem
import Derived.Lib.SmallJoins
import Derived.Test.YtfgigcdfmkfkjacDoorShelf
import Derived.ProofKit
import Derived.Below
import Derived.Lib.SlicesS
import Derived.Test.YtfgigcdfmkfkjacDoorJWhole
/-
  A value, plainly: its kind, number and text.
-/
namespace Go.Proofs.YtfgigcdfmkfkjacDoor
open Go.RowKit
set_option linter.unusedVariables false

structure V3 where
  K : Int
  N : Int
  S : ByteArray
instance : Inhabited V3 := ⟨⟨0, 0, ⟨#[]⟩⟩⟩
def V3.agg (v : V3) : Value := .agg #[.int .i64 v.K, .int .i64 v.N, .string v.S]
theorem V3.ext' {a b : V3} (h1 : a.K = b.K) (h2 : a.N = b.N) (h3 : a.S = b.S) : a = b := by
  cases a; cases b; simp_all
end Go.Proofs.YtfgigcdfmkfkjacDoor
/-
  A block of three cells (a value in memory): what it reads as, what a store of all three leaves.
-/
namespace Go.Proofs.YtfgigcdfmkfkjacDoor
open Go.RowKit
set_option linter.unusedVariables false

theorem box_cell {w : World} {q : Nat} {c0 c1 c2 : Value} {T : TypeId} (h : w.heap[q]? = some (.cells #[c0, c1, c2] T (0, 0))) :
    w.cell? ⟨q, 0, none⟩ = some c0 ∧ w.cell? ⟨q, 1, none⟩ = some c1 ∧ w.cell? ⟨q, 2, none⟩ = some c2 ∧ w.frozen? ⟨q, 0, none⟩ = false ∧ w.frozen? ⟨q, 1, none⟩ = false ∧ w.frozen? ⟨q, 2, none⟩ = false := by
  refine ⟨?_, ?_, ?_, frozen_of_row w q 0 _ T h, frozen_of_row w q 1 _ T h, frozen_of_row w q 2 _ T h⟩
  · rw [cell_of_row w q 0 _ T (0, 0) h]; rfl
  · rw [cell_of_row w q 1 _ T (0, 0) h]; rfl
  · rw [cell_of_row w q 2 _ T (0, 0) h]; rfl
theorem box_set3 {w : World} {q : Nat} {c0 c1 c2 : Value} {T : TypeId} (h : w.heap[q]? = some (.cells #[c0, c1, c2] T (0, 0))) (a b c : Value) :
    (((w.setCell ⟨q, 0, none⟩ a).setCell ⟨q, 1, none⟩ b).setCell ⟨q, 2, none⟩ c).heap[q]? = some (.cells #[a, b, c] T (0, 0)) ∧
    w.grownBy (((w.setCell ⟨q, 0, none⟩ a).setCell ⟨q, 1, none⟩ b).setCell ⟨q, 2, none⟩ c) (some q) := by
  have h1 : (w.setCell ⟨q, 0, none⟩ a).heap[q]? = some (.cells #[a, c1, c2] T (0, 0)) := by rw [heap_setCell_same w q 0 _ T a h]; rfl
  have h2 : ((w.setCell ⟨q, 0, none⟩ a).setCell ⟨q, 1, none⟩ b).heap[q]? = some (.cells #[a, b, c2] T (0, 0)) := by rw [heap_setCell_same _ q 1 _ T b h1]; rfl
  refine ⟨by rw [heap_setCell_same _ q 2 _ T c h2]; rfl, ⟨rfl, rfl, rfl, by simp [World.setCell], fun k _ hk => ?_⟩⟩
  rw [heap_setCell_other _ ⟨q, 2, none⟩ k c (fun e => hk (by simp [e])), heap_setCell_other _ ⟨q, 1, none⟩ k b (fun e => hk (by simp [e])), heap_setCell_other w ⟨q, 0, none⟩ k a (fun e => hk (by simp [e]))]
theorem box_new (w : World) (c0 c1 c2 : Value) (T : TypeId) : (w.alloc (.cells #[c0, c1, c2] T)).heap[w.heap.size]? = some (.cells #[c0, c1, c2] T (0, 0)) := by rw [heap_alloc_new]
theorem box_old {w : World} {q : Nat} {o : Option Obj} (h : w.heap[q]? = o) (hq : q < w.heap.size) (x : Obj) : (w.alloc x).heap[q]? = o := by
  rw [← h]
  show (w.heap.push x)[q]? = _
  rw [Array.getElem?_push, if_neg (by omega)]
theorem box_below {B q : Nat} {w w' : World} {o : Option Obj} (h : w.heap[q]? = o) (hb : Below B w w') (hq : q < B) : w'.heap[q]? = o := by rw [hb.block q hq]; exact h
/-- at a return behind a store of all three cells: the world by what it holds -/
theorem box_post {P : Program} {f : Func} {Q : Ending → World → Prop} {x : Exit} {act : Act} {w : World} {q : Nat} {c0 c1 c2 a b c : Value} {T : TypeId} (h : w.heap[q]? = some (.cells #[c0, c1, c2] T (0, 0)))
    (k : ∀ w2, w2.heap[q]? = some (.cells #[a, b, c] T (0, 0)) → w.grownBy w2 (some q) → bodyPost P f Q x act w2) :
    bodyPost P f Q x act (((w.setCell ⟨q, 0, none⟩ a).setCell ⟨q, 1, none⟩ b).setCell ⟨q, 2, none⟩ c) :=
  k _ (box_set3 h a b c).1 (box_set3 h a b c).2
theorem below_set {w0 w w2 : World} {q : Nat} (hb : Below w0.heap.size w0 w) (gr : w.grownBy w2 (some q)) (hq : w0.heap.size ≤ q) : Below w0.heap.size w0 w2 :=
  hb.grown gr hb.size (fun k hk => by cases hk; exact hq)
end Go.Proofs.YtfgigcdfmkfkjacDoor
/-
  Rows of values: what a slice of values reads as (RdV), what a call's own row of them holds (cells3).
-/
namespace Go.Proofs.YtfgigcdfmkfkjacDoor
open Go.RowKit
set_option linter.unusedVariables false

def vAt (L : List V3) (i : Nat) : V3 := L.getD i default
theorem vAt_in {L : List V3} {i : Nat} (h : i < L.length) : vAt L i = L[i] := by simp [vAt, List.getD, h]
def cells3 (L : List V3) : List Value := L.flatMap fun v => [.int .i64 v.K, .int .i64 v.N, .string v.S]
theorem cells3_length (L : List V3) : (cells3 L).length = L.length * 3 := by
  induction L with
  | nil => rfl
  | cons v r ih => simp only [cells3, List.flatMap_cons, List.length_append] at ih ⊢; rw [ih]; simp; omega
theorem cells3_append (a b : List V3) : cells3 (a ++ b) = cells3 a ++ cells3 b := by simp [cells3]
theorem cells3_get : ∀ (L : List V3) (i : Nat), i < L.length → (cells3 L)[i * 3]? = some (.int .i64 (vAt L i).K) ∧ (cells3 L)[i * 3 + 1]? = some (.int .i64 (vAt L i).N) ∧ (cells3 L)[i * 3 + 2]? = some (.string (vAt L i).S)
  | [], i, h => absurd h (Nat.not_lt_zero _)
  | v :: r, 0, h => by simp [cells3, vAt]
  | v :: r, i + 1, h => by
    have ih := cells3_get r i (by simpa using h)
    have e : cells3 (v :: r) = .int .i64 v.K :: .int .i64 v.N :: .string v.S :: cells3 r := by simp [cells3]
    have ev : vAt (v :: r) (i + 1) = vAt r i := by simp [vAt, List.getD]
    rw [e, ev, show (i + 1) * 3 = i * 3 + 3 by omega, show i * 3 + 3 + 1 = i * 3 + 1 + 3 by omega, show i * 3 + 3 + 2 = i * 3 + 2 + 3 by omega]
    exact ih

/-- what the slice at 'a' reads as -/
def RdV (w : World) (a : Option Addr) (L : List V3) : Prop :=
  ∀ i, i < L.length → ∃ b off, a = some ⟨b, off, none⟩ ∧ w.cell? ⟨b, off + i * 3, none⟩ = some (.int .i64 (vAt L i).K) ∧ w.cell? ⟨b, off + i * 3 + 1, none⟩ = some (.int .i64 (vAt L i).N) ∧ w.cell? ⟨b, off + i * 3 + 2, none⟩ = some (.string (vAt L i).S)

theorem RdV.open {w : World} {a : Option Addr} {L : List V3} (h : RdV w a L) (hp : 0 < L.length) :
    ∃ b off, a = some ⟨b, off, none⟩ ∧ b < w.heap.size ∧ ∀ i, i < L.length → w.cell? ⟨b, off + i * 3, none⟩ = some (.int .i64 (vAt L i).K) ∧ w.cell? ⟨b, off + i * 3 + 1, none⟩ = some (.int .i64 (vAt L i).N) ∧ w.cell? ⟨b, off + i * 3 + 2, none⟩ = some (.string (vAt L i).S) := by
  obtain ⟨b, off, rfl, h0, -, -⟩ := h 0 hp
  refine ⟨b, off, rfl, World.block_lt_of_cell? w _ h0, fun i hi => ?_⟩
  obtain ⟨b2, off2, e, h1⟩ := h i hi
  simp only [Option.some.injEq, Addr.mk.injEq] at e
  rw [e.1, e.2.1]; exact h1
theorem RdV.below {w w' : World} {a : Option Addr} {L : List V3} (h : RdV w a L) (hb : Below w.heap.size w w') : RdV w' a L := by
  intro i hi
  obtain ⟨b, off, e, h0, h1, h2⟩ := h i hi
  have k : ∀ {p : Addr} {v : Value}, w.cell? p = some v → w'.cell? p = some v := fun {p v} h => by rw [hb.cell (World.block_lt_of_cell? w _ h)]; exact h
  exact ⟨b, off, e, k h0, k h1, k h2⟩
theorem RdV.heap {w w' : World} {a : Option Addr} {L : List V3} (h : RdV w a L) (hb : w'.heap = w.heap) : RdV w' a L := by
  intro i hi
  obtain ⟨b, off, e, h0, h1, h2⟩ := h i hi
  have k : ∀ {p : Addr}, w'.cell? p = w.cell? p := fun {p} => by simp [World.cell?, hb]
  exact ⟨b, off, e, by rw [k]; exact h0, by rw [k]; exact h1, by rw [k]; exact h2⟩
theorem RdV.nil (w : World) (a : Option Addr) : RdV w a [] := fun i hi => absurd hi (Nat.not_lt_zero _)
/-- what a call's own row of values reads as -/
theorem rdV_owns {w : World} {base n : Nat} {T : TypeId} {v : Value} {L : List V3} (h : w.ownsRow base T 3 v n (cells3 L)) :
    ∃ a cap, v = .slice a L.length cap ∧ RdV w a L ∧ n = L.length ∧ L.length ≤ cap ∧ (a = none → L.length = 0 ∧ cap = 0) := by
  have hn : n = L.length := by have := h.1; rw [cells3_length] at this; omega
  subst hn
  rcases h.2 with ⟨rfl, h0⟩ | ⟨g, cap, cur, rfl, hb, hg, hnc, hcm, hsz, htake⟩
  · exact ⟨none, 0, by rw [h0], fun i hi => by omega, rfl, by omega, fun _ => ⟨h0, rfl⟩⟩
  · refine ⟨_, cap, rfl, fun i hi => ⟨g, 0, rfl, ?_⟩, rfl, hnc, fun hh => by cases hh⟩
    obtain ⟨g0, g1, g2⟩ := cells3_get L i hi
    have e0 := h.cellAt (i * 3) (by omega)
    have e1 := h.cellAt (i * 3 + 1) (by omega)
    have e2 := h.cellAt (i * 3 + 2) (by omega)
    rw [Nat.zero_add]
    exact ⟨by rw [e0]; exact g0, by rw [e1]; exact g1, by rw [e2]; exact g2⟩
end Go.Proofs.YtfgigcdfmkfkjacDoor
/-
  A block of two cells (a fact in memory), and rows of values of the calls' own, by their block.
-/
namespace Go.Proofs.YtfgigcdfmkfkjacDoor
open Go.RowKit
set_option linter.unusedVariables false

theorem box2_cell {w : World} {q : Nat} {c0 c1 : Value} {T : TypeId} (h : w.heap[q]? = some (.cells #[c0, c1] T (0, 0))) :
    w.cell? ⟨q, 0, none⟩ = some c0 ∧ w.cell? ⟨q, 1, none⟩ = some c1 ∧ w.frozen? ⟨q, 0, none⟩ = false ∧ w.frozen? ⟨q, 1, none⟩ = false := by
  refine ⟨?_, ?_, frozen_of_row w q 0 _ T h, frozen_of_row w q 1 _ T h⟩
  · rw [cell_of_row w q 0 _ T (0, 0) h]; rfl
  · rw [cell_of_row w q 1 _ T (0, 0) h]; rfl
theorem box2_set {w : World} {q : Nat} {c0 c1 : Value} {T : TypeId} (h : w.heap[q]? = some (.cells #[c0, c1] T (0, 0))) (a b : Value) :
    ((w.setCell ⟨q, 0, none⟩ a).setCell ⟨q, 1, none⟩ b).heap[q]? = some (.cells #[a, b] T (0, 0)) ∧
    w.grownBy ((w.setCell ⟨q, 0, none⟩ a).setCell ⟨q, 1, none⟩ b) (some q) := by
  have h1 : (w.setCell ⟨q, 0, none⟩ a).heap[q]? = some (.cells #[a, c1] T (0, 0)) := by rw [heap_setCell_same w q 0 _ T a h]; rfl
  refine ⟨by rw [heap_setCell_same _ q 1 _ T b h1]; rfl, ⟨rfl, rfl, rfl, by simp [World.setCell], fun k _ hk => ?_⟩⟩
  rw [heap_setCell_other _ ⟨q, 1, none⟩ k b (fun e => hk (by simp [e])), heap_setCell_other w ⟨q, 0, none⟩ k a (fun e => hk (by simp [e]))]
theorem box2_set1 {w : World} {q : Nat} {c0 c1 : Value} {T : TypeId} (h : w.heap[q]? = some (.cells #[c0, c1] T (0, 0))) (b : Value) :
    (w.setCell ⟨q, 1, none⟩ b).heap[q]? = some (.cells #[c0, b] T (0, 0)) ∧ w.grownBy (w.setCell ⟨q, 1, none⟩ b) (some q) := by
  refine ⟨by rw [heap_setCell_same w q 1 _ T b h]; rfl, ⟨rfl, rfl, rfl, by simp [World.setCell], fun k _ hk => heap_setCell_other w ⟨q, 1, none⟩ k b (fun e => hk (by simp [e]))⟩⟩
theorem box2_set0 {w : World} {q : Nat} {c0 c1 : Value} {T : TypeId} (h : w.heap[q]? = some (.cells #[c0, c1] T (0, 0))) (b : Value) :
    (w.setCell ⟨q, 0, none⟩ b).heap[q]? = some (.cells #[b, c1] T (0, 0)) ∧ w.grownBy (w.setCell ⟨q, 0, none⟩ b) (some q) := by
  refine ⟨by rw [heap_setCell_same w q 0 _ T b h]; rfl, ⟨rfl, rfl, rfl, by simp [World.setCell], fun k _ hk => heap_setCell_other w ⟨q, 0, none⟩ k b (fun e => hk (by simp [e]))⟩⟩
theorem box2_new (w : World) (c0 c1 : Value) (T : TypeId) : (w.alloc (.cells #[c0, c1] T)).heap[w.heap.size]? = some (.cells #[c0, c1] T (0, 0)) := by rw [heap_alloc_new]
theorem box2_post {P : Program} {f : Func} {Q : Ending → World → Prop} {x : Exit} {act : Act} {w : World} {q : Nat} {c0 c1 a b : Value} {T : TypeId} (h : w.heap[q]? = some (.cells #[c0, c1] T (0, 0)))
    (k : ∀ w2, w2.heap[q]? = some (.cells #[a, b] T (0, 0)) → w.grownBy w2 (some q) → bodyPost P f Q x act w2) :
    bodyPost P f Q x act ((w.setCell ⟨q, 0, none⟩ a).setCell ⟨q, 1, none⟩ b) :=
  k _ (box2_set h a b).1 (box2_set h a b).2
theorem box_gr {w w' : World} {R q : Nat} {o : Obj} (h : w.heap[R]? = some o) (hg : w.grownBy w' (some q)) (hne : R ≠ q) : w'.heap[R]? = some o := by
  rw [hg.block R (Array.getElem?_eq_some_iff.1 h).1 (by simp; omega)]; exact h
end Go.Proofs.YtfgigcdfmkfkjacDoor
/-
  A block of two cells (a fact in memory), and rows of values of the calls' own, by their block.
-/
namespace Go.Proofs.YtfgigcdfmkfkjacDoor
open Go.RowKit
set_option linter.unusedVariables false

/-- block g holds the values L, at its head, and is written by nobody else -/
def OwnV (w : World) (g cap : Nat) (L : List V3) : Prop := w.ownsRow 0 33 3 (.slice (some ⟨g, 0, none⟩) L.length cap) L.length (cells3 L)
theorem OwnV.of {w : World} {base g cap n : Nat} {L : List V3} (h : w.ownsRow base 33 3 (.slice (some ⟨g, 0, none⟩) n cap) n (cells3 L)) : OwnV w g cap L := by
  have hn : n = L.length := by have := h.1; rw [cells3_length] at this; omega
  subst hn
  refine ⟨h.1, ?_⟩
  rcases h.2 with h2 | ⟨g, cap, cur, h1, hb, rest⟩
  · exact .inl h2
  · exact .inr ⟨g, cap, cur, h1, Nat.zero_le _, rest⟩
theorem OwnV.lt {w : World} {g cap : Nat} {L : List V3} (h : OwnV w g cap L) : g < w.heap.size := (World.ownsRow.lt h g rfl).2
theorem OwnV.later {w w' : World} {g cap : Nat} {L : List V3} (h : OwnV w g cap L) (hb : Below w.heap.size w w') : OwnV w' g cap L := by
  refine ⟨h.1, ?_⟩
  rcases h.2 with h2 | ⟨g, cap, cur, h1, hb', hh, rest⟩
  · exact .inl h2
  · exact .inr ⟨g, cap, cur, h1, hb', by rw [hb.block g (Array.getElem?_eq_some_iff.1 hh).1]; exact hh, rest⟩
theorem OwnV.grown {w w' : World} {g g' cap : Nat} {L : List V3} (h : OwnV w g cap L) (hg : w.grownBy w' (some g')) (hne : g ≠ g') : OwnV w' g cap L :=
  World.ownsRow.kept h hg (.inr (by simp [Value.ownBlock]; exact hne))
theorem OwnV.rd {w : World} {g cap : Nat} {L : List V3} (h : OwnV w g cap L) : RdV w (some ⟨g, 0, none⟩) L := by
  obtain ⟨a, c, e, hr, -⟩ := rdV_owns h
  simp only [Value.slice.injEq] at e
  rw [e.1]; exact hr
theorem OwnV.cap {w : World} {g cap : Nat} {L : List V3} (h : OwnV w g cap L) : L.length ≤ cap := by
  rcases h.2 with ⟨h1, _⟩ | ⟨g', cap', cur, h1, hb', hh, hnc, _⟩
  · simp at h1
  · simp only [Value.slice.injEq] at h1; omega
end Go.Proofs.YtfgigcdfmkfkjacDoor
/-
  The contracts of the laws' own helpers on values: toVal copies, szVal counts the text's bytes off.
-/
namespace Go.Proofs.YtfgigcdfmkfkjacDoor
open Go.RowKit
set_option linter.unusedVariables false

end Go.Proofs.YtfgigcdfmkfkjacDoor
/-
  The contract of the laws' own comparison of values: a value is the same as itself.
-/
namespace Go.Proofs.YtfgigcdfmkfkjacDoor
open Go.RowKit
set_option linter.unusedVariables false

set_option maxHeartbeats 800000 in
theorem eqVal_same (K N : Int) (S : ByteArray) (w : World) :
    Calls Tryd.prog 29 #[.agg #[.int .i64 K, .int .i64 N, .string S], .agg #[.int .i64 K, .int .i64 N, .string S]] w fun e w' =>
      e = .returned (.bool true) ∧ Below w.heap.size w w' := by
  have k1 : (K != K) = false := by simp
  have k2 : (N != N) = false := by simp
  have k3 : (S.toList == S.toList) = true := by simp
  go_enter Tryd.func29, Tryd.ntmps29
  go_wp2
  go_ret
  exact ⟨rfl, by go_grown⟩
end Go.Proofs.YtfgigcdfmkfkjacDoor
/-
  Six cells (two values in memory) are kept where all that was there is.
-/
namespace Go.Proofs.YtfgigcdfmkfkjacDoor
open Go.RowKit
set_option linter.unusedVariables false

theorem keep6 {W w' : World} {a0 a1 a2 a3 a4 a5 : Addr} {v0 v1 v2 v3 v4 v5 : Value} (hb : Below W.heap.size W w')
    (h : W.cell? a0 = some v0 ∧ W.cell? a1 = some v1 ∧ W.cell? a2 = some v2 ∧ W.cell? a3 = some v3 ∧ W.cell? a4 = some v4 ∧ W.cell? a5 = some v5) :
    w'.cell? a0 = some v0 ∧ w'.cell? a1 = some v1 ∧ w'.cell? a2 = some v2 ∧ w'.cell? a3 = some v3 ∧ w'.cell? a4 = some v4 ∧ w'.cell? a5 = some v5 := by
  obtain ⟨h0, h1, h2, h3, h4, h5⟩ := h
  have k : ∀ {a : Addr} {v : Value}, W.cell? a = some v → w'.cell? a = some v := fun {a v} h => by rw [hb.cell (World.block_lt_of_cell? W _ h)]; exact h
  exact ⟨k h0, k h1, k h2, k h3, k h4, k h5⟩

/-- two values in memory, and all that was there at the head -/
theorem keep7 {w0 W w' : World} {B : Nat} {a0 a1 a2 a3 a4 a5 : Addr} {v0 v1 v2 v3 v4 v5 : Value} (hb : Below W.heap.size W w')
    (h : W.cell? a0 = some v0 ∧ W.cell? a1 = some v1 ∧ W.cell? a2 = some v2 ∧ W.cell? a3 = some v3 ∧ W.cell? a4 = some v4 ∧ W.cell? a5 = some v5 ∧ Below B w0 W ∧ B ≤ W.heap.size) :
    w'.cell? a0 = some v0 ∧ w'.cell? a1 = some v1 ∧ w'.cell? a2 = some v2 ∧ w'.cell? a3 = some v3 ∧ w'.cell? a4 = some v4 ∧ w'.cell? a5 = some v5 ∧ Below B w0 w' ∧ B ≤ w'.heap.size := by
  obtain ⟨h0, h1, h2, h3, h4, h5, h6, h7⟩ := h
  have k : ∀ {a : Addr} {v : Value}, W.cell? a = some v → w'.cell? a = some v := fun {a v} h => by rw [hb.cell (World.block_lt_of_cell? W _ h)]; exact h
  exact ⟨k h0, k h1, k h2, k h3, k h4, k h5, h6.trans (hb.mono h7), Nat.le_trans h7 hb.size⟩

theorem below_al (w : World) (o : Obj) : Below w.heap.size w (w.alloc o) := (Below.refl _ _).alloc (Nat.le_refl _) _
theorem below_ald (w : World) (o : Obj) : Below w.heap.size w (w.alloc o).drew := (below_al w o).drew
/-- a store of three cells into a block that was made where the two values lay -/
theorem keep7s {w0 W W1 : World} {B : Nat} {a0 a1 a2 a3 a4 a5 : Addr} {v0 v1 v2 v3 v4 v5 x y z : Value}
    (h1 : W1.cell? a0 = some v0 ∧ W1.cell? a1 = some v1 ∧ W1.cell? a2 = some v2 ∧ W1.cell? a3 = some v3 ∧ W1.cell? a4 = some v4 ∧ W1.cell? a5 = some v5 ∧ Below B w0 W1 ∧ B ≤ W1.heap.size)
    (h : W.cell? a0 = some v0 ∧ W.cell? a1 = some v1 ∧ W.cell? a2 = some v2 ∧ W.cell? a3 = some v3 ∧ W.cell? a4 = some v4 ∧ W.cell? a5 = some v5 ∧ Below B w0 W ∧ B ≤ W.heap.size)
    (hq : ∃ c0 c1 c2 T, W.heap[W1.heap.size]? = some (.cells #[c0, c1, c2] T (0, 0))) :
    (((W.setCell ⟨W1.heap.size, 0, none⟩ x).setCell ⟨W1.heap.size, 1, none⟩ y).setCell ⟨W1.heap.size, 2, none⟩ z).cell? a0 = some v0 ∧ (((W.setCell ⟨W1.heap.size, 0, none⟩ x).setCell ⟨W1.heap.size, 1, none⟩ y).setCell ⟨W1.heap.size, 2, none⟩ z).cell? a1 = some v1 ∧ (((W.setCell ⟨W1.heap.size, 0, none⟩ x).setCell ⟨W1.heap.size, 1, none⟩ y).setCell ⟨W1.heap.size, 2, none⟩ z).cell? a2 = some v2 ∧ (((W.setCell ⟨W1.heap.size, 0, none⟩ x).setCell ⟨W1.heap.size, 1, none⟩ y).setCell ⟨W1.heap.size, 2, none⟩ z).cell? a3 = some v3 ∧ (((W.setCell ⟨W1.heap.size, 0, none⟩ x).setCell ⟨W1.heap.size, 1, none⟩ y).setCell ⟨W1.heap.size, 2, none⟩ z).cell? a4 = some v4 ∧ (((W.setCell ⟨W1.heap.size, 0, none⟩ x).setCell ⟨W1.heap.size, 1, none⟩ y).setCell ⟨W1.heap.size, 2, none⟩ z).cell? a5 = some v5 ∧ Below B w0 (((W.setCell ⟨W1.heap.size, 0, none⟩ x).setCell ⟨W1.heap.size, 1, none⟩ y).setCell ⟨W1.heap.size, 2, none⟩ z) ∧ B ≤ (((W.setCell ⟨W1.heap.size, 0, none⟩ x).setCell ⟨W1.heap.size, 1, none⟩ y).setCell ⟨W1.heap.size, 2, none⟩ z).heap.size := by
  obtain ⟨c0, c1, c2, T, hq⟩ := hq
  obtain ⟨-, g⟩ := box_set3 hq x y z
  generalize ((W.setCell ⟨W1.heap.size, 0, none⟩ x).setCell ⟨W1.heap.size, 1, none⟩ y).setCell ⟨W1.heap.size, 2, none⟩ z = Y at g ⊢
  obtain ⟨p0, p1, p2, p3, p4, p5, p6, p7⟩ := h1
  obtain ⟨h0, h1, h2, h3, h4, h5, h6, h7⟩ := h
  have k : ∀ {a : Addr} {u v : Value}, W1.cell? a = some u → W.cell? a = some v → Y.cell? a = some v := fun {a u v} p h => g.cell h (by have := World.block_lt_of_cell? W1 _ p; simp; omega)
  exact ⟨k p0 h0, k p1 h1, k p2 h2, k p3 h3, k p4 h4, k p5 h5, h6.grown g h7 (fun j hj => by cases hj; exact p7), Nat.le_trans h7 g.size⟩
theorem below_dr {w u : World} (k : Below w.drew.heap.size w.drew u) : Below w.heap.size w u := (Below.refl w.heap.size w).drew.trans k
theorem below_step {w u v : World} (h : Below w.heap.size w u) (k : Below u.heap.size u v) : Below w.heap.size w v := h.trans (k.mono h.size)
theorem below_end {w u : World} (h : Below w.heap.size w u) (o : Obj) : Below w.heap.size w (u.alloc o) := h.alloc h.size o
theorem box_step {w w' : World} {R : Nat} {o : Obj} (h : w.heap[R]? = some o) (hb : Below w.heap.size w w') : w'.heap[R]? = some o := box_below h hb (Array.getElem?_eq_some_iff.1 h).1
theorem box_newd (w : World) (c0 c1 c2 : Value) (T : TypeId) : (w.alloc (.cells #[c0, c1, c2] T)).drew.heap[w.heap.size]? = some (.cells #[c0, c1, c2] T (0, 0)) := box_new w c0 c1 c2 T
end Go.Proofs.YtfgigcdfmkfkjacDoor
/-
  The contracts of the laws' own helpers on rows of values and on facts.
-/
namespace Go.Proofs.YtfgigcdfmkfkjacDoor
open Go.RowKit
set_option linter.unusedVariables false

theorem Tryd.info33 : (Tryd.prog.info? 33).map (fun i => (i.zero, i.size, i.bytes)) = some (some (.agg #[.int .i64 0, .int .i64 0, .string ⟨#[]⟩]), 3, 32) := by kernel_rfl

/-- the first k values copied, the rest still zero -/
def partV (L : List V3) (k : Nat) : List V3 := L.take k ++ List.replicate (L.length - k) ⟨0, 0, ⟨#[]⟩⟩
theorem partV_length {L : List V3} {k : Nat} (h : k ≤ L.length) : (partV L k).length = L.length := by simp [partV]; omega
theorem partV_zero (L : List V3) : partV L 0 = List.replicate L.length ⟨0, 0, ⟨#[]⟩⟩ := by simp [partV]
theorem partV_end (L : List V3) : partV L L.length = L := by simp [partV]
theorem cells3_set (L M : List V3) (v : V3) (x : V3) :
    (((cells3 (L ++ x :: M)).set (L.length * 3) (.int .i64 v.K)).set (L.length * 3 + 1) (.int .i64 v.N)).set (L.length * 3 + 2) (.string v.S) = cells3 (L ++ v :: M) := by
  have e : ∀ y : V3, cells3 (L ++ y :: M) = cells3 L ++ (.int .i64 y.K :: .int .i64 y.N :: .string y.S :: cells3 M) := fun y => by simp [cells3]
  have hl := cells3_length L
  rw [e, e, List.set_append_right _ _ (by omega), hl, Nat.sub_self, List.set_append_right _ _ (by omega), hl, List.set_append_right _ _ (by omega), hl]
  simp
theorem partV_set {L : List V3} {k : Nat} (h : k < L.length) :
    (((cells3 (partV L k)).set (k * 3) (.int .i64 (vAt L k).K)).set (k * 3 + 1) (.int .i64 (vAt L k).N)).set (k * 3 + 2) (.string (vAt L k).S) = cells3 (partV L (k + 1)) := by
  have h1 : partV L k = L.take k ++ ⟨0, 0, ⟨#[]⟩⟩ :: List.replicate (L.length - (k + 1)) ⟨0, 0, ⟨#[]⟩⟩ := by
    unfold partV; rw [show L.length - k = (L.length - (k + 1)) + 1 by omega, List.replicate_succ]
  have h2 : partV L (k + 1) = L.take k ++ vAt L k :: List.replicate (L.length - (k + 1)) ⟨0, 0, ⟨#[]⟩⟩ := by
    unfold partV; rw [List.take_succ_eq_append_getElem h, vAt_in h, List.append_assoc]; rfl
  have := cells3_set (L.take k) (List.replicate (L.length - (k + 1)) ⟨0, 0, ⟨#[]⟩⟩) (vAt L k) ⟨0, 0, ⟨#[]⟩⟩
  rw [List.length_take, Nat.min_eq_left (by omega)] at this
  rw [h1, h2]; exact this
theorem made3 (n : Nat) : (madeCells #[Value.int .i64 0, .int .i64 0, .string ⟨#[]⟩] (n * 3)).toList = cells3 (List.replicate n ⟨0, 0, ⟨#[]⟩⟩) := by
  have hl : (madeCells #[Value.int .i64 0, .int .i64 0, .string ⟨#[]⟩] (n * 3)).toList.length = n * 3 := by simp [madeCells]
  apply List.ext_getElem?
  intro j
  by_cases hj : j < n * 3
  · obtain ⟨i, r, rfl, hr⟩ : ∃ i r, j = i * 3 + r ∧ r < 3 := ⟨j / 3, j % 3, by omega, by omega⟩
    have hi : i < (List.replicate n (⟨0, 0, ⟨#[]⟩⟩ : V3)).length := by simp; omega
    obtain ⟨g0, g1, g2⟩ := cells3_get (List.replicate n ⟨0, 0, ⟨#[]⟩⟩) i hi
    have ev : vAt (List.replicate n (⟨0, 0, ⟨#[]⟩⟩ : V3)) i = ⟨0, 0, ⟨#[]⟩⟩ := by rw [vAt_in hi]; simp
    rw [ev] at g0 g1 g2
    match r, hr with
    | 0, _ => rw [Nat.add_zero, g0]; simp [madeCells, show i * 3 < n * 3 by omega]
    | 1, _ => rw [g1]; simp [madeCells, show i * 3 + 1 < n * 3 by omega, show (i * 3 + 1) % 3 = 1 by omega]
    | 2, _ => rw [g2]; simp [madeCells, show i * 3 + 2 < n * 3 by omega, show (i * 3 + 2) % 3 = 2 by omega]
  · rw [List.getElem?_eq_none (by omega), List.getElem?_eq_none (by rw [cells3_length]; simp; omega)]

theorem ownsRow_below {w w' : World} {base n size : Nat} {e : TypeId} {v : Value} {xs : List Value} (h : w.ownsRow base e size v n xs) (hb : Below w.heap.size w w') : w'.ownsRow base e size v n xs := by
  refine ⟨h.1, ?_⟩
  rcases h.2 with h2 | ⟨g, cap, cur, h1, hb', hh, rest⟩
  · exact .inl h2
  · exact .inr ⟨g, cap, cur, h1, hb', by rw [hb.block g (Array.getElem?_eq_some_iff.1 hh).1]; exact hh, rest⟩

def szL (L : List V3) : Nat := L.length + (L.map fun v => v.S.size).sum
def sumS (L : List V3) (k : Nat) : Nat := ((L.take k).map fun v => v.S.size).sum
theorem sumS_step {L : List V3} {k : Nat} (h : k < L.length) : sumS L (k + 1) = sumS L k + (vAt L k).S.size := by
  unfold sumS; rw [List.take_succ_eq_append_getElem h, vAt_in h, List.map_append, List.sum_append]; simp only [List.map_cons, List.map_nil, List.sum_cons, List.sum_nil, Nat.add_zero]
theorem sumS_end (L : List V3) : sumS L L.length = (L.map fun v => v.S.size).sum := by unfold sumS; rw [List.take_length]
theorem mem_sum : ∀ {l : List Nat} {x : Nat}, x ∈ l → x ≤ l.sum
  | y :: r, x, h => by
    rw [List.sum_cons]
    rcases List.mem_cons.1 h with rfl | h
    · omega
    · have := mem_sum h; omega
theorem szL_mem {L : List V3} {v : V3} (h : v ∈ L) : v.S.size + L.length ≤ szL L := by
  unfold szL
  have : v.S.size ≤ (L.map fun v => v.S.size).sum := mem_sum (List.mem_map.2 ⟨v, h, rfl⟩)
  omega

theorem eqVal_any (K N : Int) (S : ByteArray) (w : World) (B : Nat) (h : w.heap.size = B) :
    Calls Tryd.prog 29 #[.agg #[.int .i64 K, .int .i64 N, .string S], .agg #[.int .i64 K, .int .i64 N, .string S]] w fun e w' =>
      e = .returned (.bool true) ∧ Below B w w' := by subst h; exact eqVal_same K N S w
set_option maxRecDepth 100000 in
set_option maxHeartbeats 1600000 in
theorem eqValS_same (a b : Option Addr) (ca cb : Nat) (L : List V3) (w : World) (hr : RdV w a L) (hq : RdV w b L) (hm : L.length ≤ 1048580) :
    Calls Tryd.prog 16 #[.slice a L.length ca, .slice b L.length cb] w fun e w' =>
      e = .returned (.bool true) ∧ Below w.heap.size w w' := by
  obtain ⟨n, hN⟩ : ∃ n, n = L.length := ⟨_, rfl⟩
  rw [← hN] at hm ⊢
  have HN := hide hN
  clear hN
  have hnn : ((n : Int) != (n : Int)) = false := by simp
  go_enter Tryd.func16, Tryd.ntmps16
  go_wp2
  go_loopw [5] (fun i wr => ∃ (k : Nat), k ≤ n ∧ i = .int .i64 k ∧ Below w.heap.size w wr) (fun i _ => n - (intOf i).toNat)
  case atStart => exact ⟨0, Nat.zero_le _, rfl, Below.refl _ _⟩
  case round =>
    obtain ⟨k, hk, rfl, hbel⟩ := hrel
    by_cases hlt : k < n
    · obtain ⟨b1, o1, e1, hbw1, hc1⟩ := hr.open (by rw [← HN.out]; omega)
      obtain ⟨b2, o2, e2, hbw2, hc2⟩ := hq.open (by rw [← HN.out]; omega)
      obtain ⟨c0, c1, c2⟩ := hc1 k (by rw [← HN.out]; exact hlt)
      obtain ⟨d0, d1, d2⟩ := hc2 k (by rw [← HN.out]; exact hlt)
      clear hc1 hc2
      subst e1 e2
      rw [← hbel.cell (p := ⟨b1, o1 + k * 3, none⟩) hbw1] at c0
      rw [← hbel.cell (p := ⟨b1, o1 + k * 3 + 1, none⟩) hbw1] at c1
      rw [← hbel.cell (p := ⟨b1, o1 + k * 3 + 2, none⟩) hbw1] at c2
      rw [← hbel.cell (p := ⟨b2, o2 + k * 3, none⟩) hbw2] at d0
      rw [← hbel.cell (p := ⟨b2, o2 + k * 3 + 1, none⟩) hbw2] at d1
      rw [← hbel.cell (p := ⟨b2, o2 + k * 3 + 2, none⟩) hbw2] at d2
      generalize (vAt L k).K = K at c0 d0
      generalize (vAt L k).N = N at c1 d1
      generalize (vAt L k).S = S at c2 d2
      go_wp2_with fail
      go_region_held3 (fun w' => w'.cell? ⟨b1, o1 + k * 3, none⟩ = some (.int .i64 K) ∧ w'.cell? ⟨b1, o1 + k * 3 + 1, none⟩ = some (.int .i64 N) ∧ w'.cell? ⟨b1, o1 + k * 3 + 2, none⟩ = some (.string S) ∧ w'.cell? ⟨b2, o2 + k * 3, none⟩ = some (.int .i64 K) ∧ w'.cell? ⟨b2, o2 + k * 3 + 1, none⟩ = some (.int .i64 N) ∧ w'.cell? ⟨b2, o2 + k * 3 + 2, none⟩ = some (.string S) ∧ Below w.heap.size w w' ∧ w.heap.size ≤ w'.heap.size) (first | exact ⟨c0, c1, c2, d0, d1, d2, hbel.drew, hbel.size⟩ | exact keep7 (by assumption) (by assumption))
        (first | (go_at_call 29; refine (eqVal_same _ _ _ _).mono ?_; rintro e w2 ⟨rfl, hb⟩))
      all_goals
        obtain ⟨-, -, -, -, -, -, hB2, -⟩ : w2.cell? ⟨b1, o1 + k * 3, none⟩ = some (.int .i64 K) ∧ w2.cell? ⟨b1, o1 + k * 3 + 1, none⟩ = some (.int .i64 N) ∧ w2.cell? ⟨b1, o1 + k * 3 + 2, none⟩ = some (.string S) ∧ w2.cell? ⟨b2, o2 + k * 3, none⟩ = some (.int .i64 K) ∧ w2.cell? ⟨b2, o2 + k * 3 + 1, none⟩ = some (.int .i64 N) ∧ w2.cell? ⟨b2, o2 + k * 3 + 2, none⟩ = some (.string S) ∧ Below w.heap.size w w2 ∧ w.heap.size ≤ w2.heap.size := by assumption
        go_wp2
        go_roundw
        case rel => exact ⟨k + 1, by omega, by go_num, hB2⟩
        case measure => simp [intOf]; omega
    · go_wp2
      go_ret
      exact ⟨rfl, hbel⟩
end Go.Proofs.YtfgigcdfmkfkjacDoor
/-
  The contracts of the laws' own markers on facts: markFact writes numbers and texts into a row of values of the calls' own and touches no other block that was there.
-/
namespace Go.Proofs.YtfgigcdfmkfkjacDoor
open Go.RowKit
set_option linter.unusedVariables false

/-- the bytes of a mark's digits -/
def markL (fuel n : Nat) (r : List UInt8) : List UInt8 := match fuel with
  | 0 => r
  | f + 1 => if n = 0 then r else markL f (n / 10) (UInt8.ofNat (48 + n % 10) :: r)
def markT (k : Nat) : ByteArray := if k = 0 then ⟨#[109, 48]⟩ else ⟨#[109]⟩ ++ ⟨(markL 20 k []).toArray⟩
theorem markL_stop (n : Nat) (r : List UInt8) : ∀ f, n = 0 → markL f n r = r
  | 0, _ => rfl
  | f + 1, h => by unfold markL; rw [if_pos h]
theorem markL_step {f n : Nat} {r : List UInt8} (h : n ≠ 0) : markL (f + 1) n r = markL f (n / 10) (UInt8.ofNat (48 + n % 10) :: r) := by
  show (if n = 0 then _ else _) = _; rw [if_neg h]

theorem conv_1 (q : Nat) (c : UInt8) (d : Int) (hd : d = (c.toNat : Int)) (W : World) (h : W.cell? ⟨q, 0, none⟩ = some (.int .u8 d)) :
    (convert 63 9 (.slice (some ⟨q, 0, none⟩) 1 1)).run Tryd.prog W = .ok (.string ⟨#[c]⟩) W := by
  subst hd
  have := run_convert_bytes_back (P := Tryd.prog) W 63 9 5 ⟨q, 0, none⟩ 1 [c] Tryd.underlying63 Tryd.underlying5 Tryd.underlying9 (fun j hj => by
    obtain rfl : j = 0 := by simpa using hj
    rw [Addr.add_lit, Nat.add_zero, h]
    simp)
  simpa using this
theorem cell_1 (w : World) (c : Value) (T : TypeId) : (w.alloc (.cells #[c] T)).cell? ⟨w.heap.size, 0, none⟩ = some c := by
  rw [cell_of_row _ w.heap.size 0 _ T (0, 0) (heap_alloc_new w _)]; rfl
theorem app_1 (c : UInt8) (s : ByteArray) : ((⟨#[c]⟩ : ByteArray) ++ s).data.toList = c :: s.data.toList ∧ ((⟨#[c]⟩ : ByteArray) ++ s).size = s.size + 1 := by
  constructor
  · simp
  · rw [ByteArray.size_append]; show 1 + s.size = _; omega

set_option maxRecDepth 100000 in
set_option maxHeartbeats 1600000 in
theorem markText_any (k : Nat) (w : World) (hk : k ≤ 1000000000) :
    Calls Tryd.prog 30 #[.int .i64 (k : Int)] w fun e w' => e = .returned (.string (markT k)) ∧ Below w.heap.size w w' := by
  by_cases h0 : k = 0
  · subst h0
    go_enter Tryd.func30, Tryd.ntmps30
    go_wp2
    go_ret
    exact ⟨rfl, Below.refl _ _⟩
  · have h1 : ¬ ((k : Int) ≤ 0) := by omega
    have HT : Hid (markT k = ⟨#[109]⟩ ++ ⟨(markL 20 k []).toArray⟩) := by unfold Hid markT; rw [if_neg h0]
    go_enter Tryd.func30, Tryd.ntmps30
    go_wp2
    go_loopw [0, 3] (fun i s wr => ∃ (m f : Nat) (t : ByteArray), i = .int .i64 (m : Int) ∧ s = .string t ∧ m ≤ 1000000000 ∧ m < 10 ^ f ∧ f ≤ 20 ∧ t.size ≤ 40 - f ∧ markL f m t.data.toList = markL 20 k [] ∧ Below w.heap.size w wr) (fun i _ _ => (intOf i).toNat)
    case atStart => exact ⟨k, 20, ⟨#[]⟩, rfl, rfl, hk, by omega, Nat.le_refl _, by show (0 : Nat) ≤ 20; omega, rfl, Below.refl _ _⟩
    case round =>
      obtain ⟨m, f, t, rfl, rfl, hm, hf, hf2, hr, hl, hbel⟩ := hrel
      by_cases hlt : m = 0
      · have HL : Hid (t = ⟨(markL 20 k []).toArray⟩) := by
          have := (markL_stop m t.data.toList f hlt).symm.trans hl
          apply ByteArray.ext
          rw [← this]
        have h2 : ¬ ((0 : Int) < (m : Int)) := by omega
        clear hl
        go_wp2
        go_ret
        exact ⟨by rw [HT.out, ← HL.out]; rfl, hbel⟩
      · obtain ⟨f', rfl⟩ : ∃ f', f = f' + 1 := ⟨f - 1, by cases f with | zero => simp at hf; omega | succ f => rfl⟩
        have HL := hide ((markL_step hlt).symm.trans hl)
        have h2 : (0 : Int) < (m : Int) := by omega
        have hq : m / 10 < 10 ^ f' := by rw [Nat.pow_succ] at hf; exact Nat.div_lt_of_lt_mul (by omega)
        have HQ := hide hq
        clear hl hf hq
        obtain ⟨c, hc1, hc2⟩ : ∃ c : UInt8, 48 + (m : Int) % 10 = (c.toNat : Int) ∧ UInt8.ofNat (48 + m % 10) = c := ⟨_, by simp; omega, rfl⟩
        rw [hc2] at HL
        have hcv := conv_1 wr.heap.size c (48 + (m : Int) % 10) hc1 _ (cell_1 wr (.int .u8 (48 + (m : Int) % 10)) 5)
        obtain ⟨a1, a2⟩ := app_1 c t
        have HA := hide a1
        have HB := hide (hbel.alloc hbel.size (.cells #[.int .u8 (48 + (m : Int) % 10)] 5))
        have hts : t.size ≤ 40 := by omega
        clear hc1 hc2 a1
        go_wp2
        go_roundw
        case rel => exact ⟨m / 10, f', _, by go_num, rfl, by omega, HQ.out, by omega, by rw [a2]; omega, by rw [HA.out]; exact HL.out, HB.out⟩
        case measure => simp [intOf]; omega

theorem markText_i (x : Int) (k : Nat) (w : World) (hx : x = (k : Int)) (hk : k ≤ 1000000000) :
    Calls Tryd.prog 30 #[.int .i64 x] w fun e w' => e = .returned (.string (markT k)) ∧ Below w.heap.size w w' := by subst hx; exact markText_any k w hk
/-- the row's k-th value is marked -/
def markV (k : Nat) : V3 := ⟨(k : Int), ((k + 1 : Nat) : Int), markT (k + 2)⟩
def marksV (k n : Nat) : List V3 := (List.range n).map fun i => markV (k + 3 * i)
theorem marksV_length (k n : Nat) : (marksV k n).length = n := by simp [marksV]
theorem marksV_succ (k n : Nat) : marksV k (n + 1) = marksV k n ++ [markV (k + 3 * n)] := by simp [marksV, List.range_succ]
def partM (L : List V3) (k j : Nat) : List V3 := marksV k j ++ L.drop j
theorem partM_end {L : List V3} {k j : Nat} (h : L.length ≤ j) : partM L k j = marksV k j := by unfold partM; rw [List.drop_eq_nil_of_le h, List.append_nil]
theorem partM_length {L : List V3} {k j : Nat} (h : j ≤ L.length) : (partM L k j).length = L.length := by unfold partM; rw [List.length_append, marksV_length, List.length_drop]; omega
theorem partM_set {L : List V3} {k j : Nat} (h : j < L.length) :
    (((cells3 (partM L k j)).set (j * 3) (.int .i64 (markV (k + 3 * j)).K)).set (j * 3 + 1) (.int .i64 (markV (k + 3 * j)).N)).set (j * 3 + 2) (.string (markV (k + 3 * j)).S) = cells3 (partM L k (j + 1)) := by
  have h1 : partM L k j = marksV k j ++ L[j] :: L.drop (j + 1) := by unfold partM; rw [List.drop_eq_getElem_cons h]
  have h2 : partM L k (j + 1) = marksV k j ++ markV (k + 3 * j) :: L.drop (j + 1) := by unfold partM; rw [marksV_succ, List.append_assoc]; rfl
  have := cells3_set (marksV k j) (L.drop (j + 1)) (markV (k + 3 * j)) L[j]
  rw [marksV_length] at this
  rw [h1, h2]; exact this

set_option maxRecDepth 100000 in
set_option maxHeartbeats 1600000 in
theorem markValS_any (g cap k0 : Nat) (L : List V3) (w : World) (hown : OwnV w g cap L) (hn : L.length ≤ 1048580) (hk : k0 ≤ 33554500) :
    Calls Tryd.prog 17 #[.slice (some ⟨g, 0, none⟩) L.length cap, .int .i64 (k0 : Int)] w fun e w' =>
      e = .returned (.int .i64 ((k0 + 3 * L.length : Nat) : Int)) ∧ OwnV w' g cap (marksV k0 L.length) ∧ (∀ q, q < w.heap.size → q ≠ g → w'.heap[q]? = w.heap[q]?) ∧ Below g w w' := by
  have hg := hown.lt
  obtain ⟨n, hN⟩ : ∃ n, n = L.length := ⟨_, rfl⟩
  have hown0 : w.ownsRow 0 33 3 (.slice (some ⟨g, 0, none⟩) n cap) n (cells3 L) := by rw [hN]; exact hown
  rw [← hN] at hn ⊢
  have HN := hide hN
  have HO := hide hown0
  clear hN hown hown0
  have hfin : ∀ {W : World}, W.ownsRow 0 33 3 (.slice (some ⟨g, 0, none⟩) n cap) n (cells3 (marksV k0 n)) → OwnV W g cap (marksV k0 n) := fun h => OwnV.of h
  have HFin := hide (fun W => @hfin W)
  clear hfin
  go_enter Tryd.func17, Tryd.ntmps17
  go_wp2
  go_loopw [1, 5] (fun kk i wr => ∃ j : Nat, j ≤ n ∧ i = .int .i64 j ∧ (∃ m : Nat, m = k0 + 3 * j ∧ kk = .int .i64 (m : Int)) ∧ wr.ownsRow 0 33 3 (.slice (some ⟨g, 0, none⟩) n cap) n (cells3 (partM L k0 j)) ∧ (∀ q, q < w.heap.size → q ≠ g → wr.heap[q]? = w.heap[q]?) ∧ Below g w wr) (fun _ i _ => n - (intOf i).toNat)
  case atStart => exact ⟨0, Nat.zero_le _, rfl, ⟨k0, rfl, rfl⟩, HO.out, fun q _ _ => rfl, Below.refl _ _⟩
  case round =>
    obtain ⟨j, hj, rfl, ⟨m, hm, rfl⟩, hown, hoth, hbel⟩ := hrel
    have HM := hide hm
    have hm2 : m ≤ 40000000 := by omega
    clear hm
    have HOth := hide hoth
    clear hoth
    by_cases hlt : j < n
    · have hlen : (cells3 (partM L k0 j)).length = n * 3 := by rw [cells3_length, partM_length (by rw [← HN.out]; omega), ← HN.out]
      have hmem : ∀ i, i < 3 → ∃ u, wr.cell? ⟨g, j * 3 + i, none⟩ = some u := fun i hi => by
        rw [hown.cellAt (j * 3 + i) (by omega), List.getElem?_eq_getElem (by omega)]
        exact ⟨_, rfl⟩
      obtain ⟨u0, m0⟩ := hmem 0 (by omega)
      obtain ⟨u1, m1⟩ := hmem 1 (by omega)
      rw [Nat.add_zero] at m0
      have f0 := hown.frozenAt (j * 3)
      have f1 := hown.frozenAt (j * 3 + 1)
      clear hmem hlen
      have hs1 := hown.stored (j * 3) (.int .i64 (m : Int))
      have hs2 := hs1.1.stored (j * 3 + 1) (.int .i64 ((m : Int) + 1))
      have HS2 := hide hs2.1
      have HB2 : Hid (Below g w ((wr.setCell ⟨g, j * 3, none⟩ (.int .i64 (m : Int))).setCell ⟨g, j * 3 + 1, none⟩ (.int .i64 ((m : Int) + 1)))) := (hbel.setCell (Nat.le_refl _) _).setCell (Nat.le_refl _) _
      have HO2 : Hid (∀ q, q < w.heap.size → q ≠ g → ((wr.setCell ⟨g, j * 3, none⟩ (.int .i64 (m : Int))).setCell ⟨g, j * 3 + 1, none⟩ (.int .i64 ((m : Int) + 1))).heap[q]? = w.heap[q]?) := fun q hq hne => by
        have hq2 : q < wr.heap.size := Nat.lt_of_lt_of_le hq hbel.size
        rw [hs2.2.block q (Nat.lt_of_lt_of_le hq2 hs1.2.size) (by simp; omega), hs1.2.block q hq2 (by simp; omega)]
        exact HOth.out q hq hne
      clear hs1 hs2 hbel hown HOth
      go_wp2_with fail
      refine (markText_i ((m : Int) + 1 + 1) (m + 2) _ (by omega) (by omega)).mono ?_
      generalize (wr.setCell ⟨g, j * 3, none⟩ (.int .i64 (m : Int))).setCell ⟨g, j * 3 + 1, none⟩ (.int .i64 ((m : Int) + 1)) = w2 at HS2 HB2 HO2
      rintro e w3 ⟨rfl, hb3⟩
      have ho3 := ownsRow_below HS2.out hb3
      have B3 : Below g w w3 := HB2.out.trans (hb3.mono (Nat.le_trans (Nat.le_of_lt hg) HB2.out.size))
      have HO3 : Hid (∀ q, q < w.heap.size → q ≠ g → w3.heap[q]? = w.heap[q]?) := fun q hq hne => by
        rw [hb3.block q (Nat.lt_of_lt_of_le hq HB2.out.size)]; exact HO2.out q hq hne
      have hlen : (((cells3 (partM L k0 j)).set (j * 3) (.int .i64 (m : Int))).set (j * 3 + 1) (.int .i64 ((m : Int) + 1))).length = n * 3 := by
        rw [List.length_set, List.length_set, cells3_length, partM_length (by rw [← HN.out]; omega), ← HN.out]
      obtain ⟨u2, m2⟩ : ∃ u, w3.cell? ⟨g, j * 3 + 2, none⟩ = some u := by
        rw [ho3.cellAt (j * 3 + 2) (by omega), List.getElem?_eq_getElem (by omega)]
        exact ⟨_, rfl⟩
      have f2 := ho3.frozenAt (j * 3 + 2)
      have hs3 := ho3.stored (j * 3 + 2) (.string (markT (m + 2)))
      have hset := partM_set (L := L) (k := k0) (j := j) (by rw [← HN.out]; exact hlt)
      have e1 : (markV (k0 + 3 * j)).K = (m : Int) := by rw [← HM.out]; rfl
      have e2 : (markV (k0 + 3 * j)).N = (m : Int) + 1 := by rw [← HM.out]; show ((m + 1 : Nat) : Int) = _; omega
      have e3 : (markV (k0 + 3 * j)).S = markT (m + 2) := by rw [← HM.out]; rfl
      rw [e1, e2, e3] at hset
      have HS3 : Hid ((w3.setCell ⟨g, j * 3 + 2, none⟩ (.string (markT (m + 2)))).ownsRow 0 33 3 (.slice (some ⟨g, 0, none⟩) n cap) n (cells3 (partM L k0 (j + 1)))) := by
        have := hs3.1
        rw [hset] at this
        exact this
      have HB3 : Hid (Below g w (w3.setCell ⟨g, j * 3 + 2, none⟩ (.string (markT (m + 2))))) := B3.setCell (Nat.le_refl _) _
      have HO4 : Hid (∀ q, q < w.heap.size → q ≠ g → (w3.setCell ⟨g, j * 3 + 2, none⟩ (.string (markT (m + 2)))).heap[q]? = w.heap[q]?) := fun q hq hne => by
        rw [hs3.2.block q (Nat.lt_of_lt_of_le hq B3.size) (by simp; omega)]; exact HO3.out q hq hne
      clear hs3 hset e1 e2 e3 hlen ho3 B3 hb3 m0 m1 f0 f1
      generalize markT (m + 2) = tx at HS3 HB3 HO4 ⊢
      go_wp2
      go_roundw
      case rel => exact ⟨j + 1, by omega, by go_num, ⟨m + 3, by rw [HM.out]; omega, by go_num⟩, HS3.out, HO4.out, HB3.out⟩
      case measure => simp [intOf]; omega
    · obtain rfl : j = n := by omega
      rw [partM_end (by rw [← HN.out]; exact Nat.le_refl _)] at hown
      have HF := hide (HFin.out wr hown)
      clear hown
      go_wp2
      go_ret
      exact ⟨by rw [HM.out]; rfl, HF.out, HOth.out, hbel⟩

set_option maxRecDepth 100000 in
set_option maxHeartbeats 1600000 in
theorem markFact_any (kd : ByteArray) (g cap k0 : Nat) (L : List V3) (w : World) (hown : OwnV w g cap L) (hn : L.length ≤ 1048580) (hk : k0 ≤ 33554500) :
    Calls Tryd.prog 7 #[.agg #[.string kd, .slice (some ⟨g, 0, none⟩) L.length cap], .int .i64 (k0 : Int)] w fun e w' =>
      (∃ r : Nat, e = .returned (.int .i64 (r : Int)) ∧ r = k0 + 3 * L.length) ∧ OwnV w' g cap (marksV k0 L.length) ∧ (∀ q, q < w.heap.size → q ≠ g → w'.heap[q]? = w.heap[q]?) ∧ Below g w w' := by
  have hg := hown.lt
  have b0 := below_al w (.cells #[.string kd, .slice (some ⟨g, 0, none⟩) L.length cap] 24)
  go_enter Tryd.func7, Tryd.ntmps7
  go_wp2_with fail
  refine (markValS_any g cap k0 L _ (hown.later b0) hn hk).mono ?_
  rintro e w1 ⟨rfl, o1, h1, b1⟩
  have HO : Hid (∀ q, q < w.heap.size → q ≠ g → w1.heap[q]? = w.heap[q]?) := fun q hq hne => by
    rw [h1 q (Nat.lt_of_lt_of_le hq b0.size) hne, b0.block q hq]
  have B1 : Below g w w1 := (b0.mono (Nat.le_of_lt hg)).trans b1
  obtain ⟨r, hr⟩ : ∃ r, r = k0 + 3 * L.length := ⟨_, rfl⟩
  rw [← hr]
  have H1 := hide o1
  have HR := hide hr
  clear o1 h1 b1 b0 hr
  go_wp2
  go_ret
  exact ⟨⟨r, rfl, HR.out⟩, H1.out, HO.out, B1⟩
theorem markFact_i (kd : ByteArray) (g cap : Nat) (x : Int) (k0 : Nat) (L : List V3) (w : World) (hown : OwnV w g cap L) (hn : L.length ≤ 1048580) (hk : k0 ≤ 33554500) (hx : x = (k0 : Int)) :
    Calls Tryd.prog 7 #[.agg #[.string kd, .slice (some ⟨g, 0, none⟩) L.length cap], .int .i64 x] w fun e w' =>
      (∃ r : Nat, e = .returned (.int .i64 (r : Int)) ∧ r = k0 + 3 * L.length) ∧ OwnV w' g cap (marksV k0 L.length) ∧ (∀ q, q < w.heap.size → q ≠ g → w'.heap[q]? = w.heap[q]?) ∧ Below g w w' := by
  subst hx; exact markFact_any kd g cap k0 L w hown hn hk
end Go.Proofs.YtfgigcdfmkfkjacDoor
/-
  Rows of elements of three cells each, whatever the element: their cells, one by one, and a store of one element.
-/
namespace Go.Proofs.YtfgigcdfmkfkjacDoor
open Go.RowKit
set_option linter.unusedVariables false

def rowOf {α : Type} (f : α → List Value) (L : List α) : List Value := L.flatMap f
theorem rowOf_cons {α : Type} (f : α → List Value) (x : α) (L : List α) : rowOf f (x :: L) = f x ++ rowOf f L := by simp [rowOf]
theorem rowOf_append {α : Type} (f : α → List Value) (L M : List α) : rowOf f (L ++ M) = rowOf f L ++ rowOf f M := by simp [rowOf]
theorem rowOf_length {α : Type} {f : α → List Value} {k : Nat} (hk : ∀ x, (f x).length = k) : ∀ L : List α, (rowOf f L).length = L.length * k
  | [] => by simp [rowOf]
  | x :: r => by rw [rowOf_cons, List.length_append, hk, rowOf_length hk r, List.length_cons, Nat.succ_mul, Nat.add_comm]
theorem rowOf_get {α : Type} {f : α → List Value} {k : Nat} (hk : ∀ x, (f x).length = k) : ∀ (L : List α) (i j : Nat) (hi : i < L.length), j < k → (rowOf f L)[i * k + j]? = (f L[i])[j]?
  | [], i, j, hi, _ => absurd hi (Nat.not_lt_zero _)
  | x :: r, 0, j, hi, hj => by rw [rowOf_cons, Nat.zero_mul, Nat.zero_add, List.getElem?_append_left (by rw [hk]; exact hj)]; rfl
  | x :: r, i + 1, j, hi, hj => by
    rw [rowOf_cons, List.getElem?_append_right (by rw [hk, Nat.succ_mul]; omega), hk, show (i + 1) * k + j - k = i * k + j by rw [Nat.succ_mul]; omega]
    exact rowOf_get hk r i j (by simpa using hi) hj
theorem len3 {l : List Value} (h : l.length = 3) : ∃ a b c, l = [a, b, c] := by
  match l, h with
  | [a, b, c], _ => exact ⟨a, b, c, rfl⟩
theorem rowOf_set3 {α : Type} {f : α → List Value} (hk : ∀ x, (f x).length = 3) (x : α) (c0 c1 c2 : Value) (hx : f x = [c0, c1, c2]) : ∀ (L : List α) (i : Nat), i < L.length →
    (((rowOf f L).set (i * 3) c0).set (i * 3 + 1) c1).set (i * 3 + 2) c2 = rowOf f (L.set i x)
  | [], i, hi => absurd hi (Nat.not_lt_zero _)
  | y :: r, 0, hi => by
    obtain ⟨a, b, c, e⟩ := len3 (hk y)
    rw [rowOf_cons, e, List.set_cons_zero, rowOf_cons, hx]
    rfl
  | y :: r, i + 1, hi => by
    obtain ⟨a, b, c, e⟩ := len3 (hk y)
    have ih := rowOf_set3 hk x c0 c1 c2 hx r i (by simpa using hi)
    rw [rowOf_cons, e, List.set_cons_succ, rowOf_cons, ← ih, e]
    simp only [Nat.succ_mul]
    rfl
theorem rowOf_replicate {α : Type} {f : α → List Value} {x : α} {c0 c1 c2 : Value} (hx : f x = [c0, c1, c2]) (n : Nat) : (madeCells #[c0, c1, c2] (n * 3)).toList = rowOf f (List.replicate n x) := by
  induction n with
  | zero => simp [madeCells, rowOf]
  | succ n ih =>
    apply List.ext_getElem?
    intro j
    rw [List.replicate_succ, rowOf_cons, hx]
    by_cases hj : j < 3
    · match j, hj with
      | 0, _ => simp [madeCells, show 0 < (n + 1) * 3 by omega]
      | 1, _ => simp [madeCells, show 1 < (n + 1) * 3 by omega]
      | 2, _ => simp [madeCells, show 2 < (n + 1) * 3 by omega]
    · rw [List.getElem?_append_right (by simp; omega), ← ih]
      simp only [List.length_cons, List.length_nil]
      by_cases hl : j < (n + 1) * 3
      · have h1 : j - 3 < n * 3 := by omega
        have h2 : (j - 3) % 3 = j % 3 := by omega
        simp [madeCells, hl, h1, h2]
      · have h1 : ¬ j - 3 < n * 3 := by omega
        simp [madeCells, hl, h1]
end Go.Proofs.YtfgigcdfmkfkjacDoor
/-
  Rows of elements of k cells each, whatever the element: what a slice of them reads as (RdK), what a call's own row of them holds (OwnK).
-/
namespace Go.Proofs.YtfgigcdfmkfkjacDoor
open Go.RowKit
set_option linter.unusedVariables false

def eAt {α : Type} [Inhabited α] (L : List α) (i : Nat) : α := L.getD i default
theorem eAt_in {α : Type} [Inhabited α] {L : List α} {i : Nat} (h : i < L.length) : eAt L i = L[i] := by simp [eAt, List.getD, h]
/-- what the slice at 'a' reads as -/
def RdK {α : Type} [Inhabited α] (f : α → List Value) (k : Nat) (w : World) (a : Option Addr) (L : List α) : Prop :=
  ∀ i, i < L.length → ∃ b off, a = some ⟨b, off, none⟩ ∧ ∀ (j : Nat) c, (f (eAt L i))[j]? = some c → w.cell? ⟨b, off + i * k + j, none⟩ = some c

theorem RdK.open {α : Type} [Inhabited α] {f : α → List Value} {k : Nat} (hk : ∀ x, (f x).length = k) (h0 : 0 < k) {w : World} {a : Option Addr} {L : List α} (h : RdK f k w a L) (hp : 0 < L.length) :
    ∃ b off, a = some ⟨b, off, none⟩ ∧ b < w.heap.size ∧ ∀ i, i < L.length → ∀ (j : Nat) c, (f (eAt L i))[j]? = some c → w.cell? ⟨b, off + i * k + j, none⟩ = some c := by
  obtain ⟨b, off, rfl, hc⟩ := h 0 hp
  have hj : 0 < (f (eAt L 0)).length := by rw [hk]; exact h0
  refine ⟨b, off, rfl, World.block_lt_of_cell? w _ (hc 0 _ (List.getElem?_eq_getElem hj)), fun i hi => ?_⟩
  obtain ⟨b2, off2, e, h1⟩ := h i hi
  simp only [Option.some.injEq, Addr.mk.injEq] at e
  rw [e.1, e.2.1]; exact h1
theorem RdK.below {α : Type} [Inhabited α] {f : α → List Value} {k : Nat} {w w' : World} {a : Option Addr} {L : List α} (h : RdK f k w a L) (hb : Below w.heap.size w w') : RdK f k w' a L := by
  intro i hi
  obtain ⟨b, off, e, h0⟩ := h i hi
  refine ⟨b, off, e, fun j c hj => ?_⟩
  have h1 := h0 j c hj
  rw [hb.cell (World.block_lt_of_cell? w _ h1)]; exact h1
theorem RdK.heap {α : Type} [Inhabited α] {f : α → List Value} {k : Nat} {w w' : World} {a : Option Addr} {L : List α} (h : RdK f k w a L) (hb : w'.heap = w.heap) : RdK f k w' a L := by
  intro i hi
  obtain ⟨b, off, e, h0⟩ := h i hi
  exact ⟨b, off, e, fun j c hj => by rw [show ∀ p, w'.cell? p = w.cell? p from fun p => by simp [World.cell?, hb]]; exact h0 j c hj⟩
theorem RdK.nil {α : Type} [Inhabited α] (f : α → List Value) (k : Nat) (w : World) (a : Option Addr) : RdK f k w a [] := fun i hi => absurd hi (Nat.not_lt_zero _)
/-- a shorter part, from the head -/
theorem RdK.take {α : Type} [Inhabited α] {f : α → List Value} {k : Nat} {w : World} {a : Option Addr} {L M : List α} (h : RdK f k w a (L ++ M)) : RdK f k w a L := by
  intro i hi
  obtain ⟨b, off, e, h0⟩ := h i (by rw [List.length_append]; omega)
  have ev : eAt (L ++ M) i = eAt L i := by rw [eAt_in (by rw [List.length_append]; omega), eAt_in hi, List.getElem_append_left hi]
  rw [ev] at h0
  exact ⟨b, off, e, h0⟩
theorem ownsRow_below' {w w' : World} {base n size : Nat} {e : TypeId} {v : Value} {xs : List Value} (h : w.ownsRow base e size v n xs) (hb : Below w.heap.size w w') : w'.ownsRow base e size v n xs := by
  refine ⟨h.1, ?_⟩
  rcases h.2 with h2 | ⟨g, cap, cur, h1, hb', hh, rest⟩
  · exact .inl h2
  · exact .inr ⟨g, cap, cur, h1, hb', by rw [hb.block g (Array.getElem?_eq_some_iff.1 hh).1]; exact hh, rest⟩
/-- what a call's own row reads as -/
theorem rdK_owns {α : Type} [Inhabited α] {f : α → List Value} {k : Nat} (hk : ∀ x, (f x).length = k) (hp : 0 < k) {w : World} {base n : Nat} {T : TypeId} {v : Value} {L : List α} (h : w.ownsRow base T k v n (rowOf f L)) :
    ∃ a cap, v = .slice a L.length cap ∧ RdK f k w a L ∧ n = L.length ∧ L.length ≤ cap ∧ (a = none → L.length = 0 ∧ cap = 0) := by
  have hn : n = L.length := by have := h.1; rw [rowOf_length hk] at this; exact (Nat.eq_of_mul_eq_mul_right hp this).symm
  subst hn
  rcases h.2 with ⟨rfl, h0⟩ | ⟨g, cap, cur, rfl, hb, hg, hnc, hcm, hsz, htake⟩
  · exact ⟨none, 0, by rw [h0], fun i hi => by omega, rfl, by omega, fun _ => ⟨h0, rfl⟩⟩
  · refine ⟨_, cap, rfl, fun i hi => ⟨g, 0, rfl, fun j c hj => ?_⟩, rfl, hnc, fun hh => by cases hh⟩
    have hjk : j < k := by rw [← hk (eAt L i)]; exact (List.getElem?_eq_some_iff.1 hj).1
    have hlt : i * k + j < L.length * k := by
      have : (i + 1) * k ≤ L.length * k := Nat.mul_le_mul_right _ hi
      rw [Nat.succ_mul] at this
      omega
    rw [Nat.zero_add, h.cellAt (i * k + j) hlt, rowOf_get hk L i j hi hjk, ← eAt_in hi]
    exact hj
/-- block g holds the elements L, at its head, and is written by nobody else -/
def OwnK {α : Type} [Inhabited α] (T : TypeId) (f : α → List Value) (k : Nat) (w : World) (g cap : Nat) (L : List α) : Prop := w.ownsRow 0 T k (.slice (some ⟨g, 0, none⟩) L.length cap) L.length (rowOf f L)
theorem OwnK.of {α : Type} [Inhabited α] {T : TypeId} {f : α → List Value} {k : Nat} (hk : ∀ x, (f x).length = k) (hp : 0 < k) {w : World} {base g cap n : Nat} {L : List α} (h : w.ownsRow base T k (.slice (some ⟨g, 0, none⟩) n cap) n (rowOf f L)) : OwnK T f k w g cap L := by
  have hn : n = L.length := by have := h.1; rw [rowOf_length hk] at this; exact (Nat.eq_of_mul_eq_mul_right hp this).symm
  subst hn
  refine ⟨h.1, ?_⟩
  rcases h.2 with h2 | ⟨g, cap, cur, h1, hb, rest⟩
  · exact .inl h2
  · exact .inr ⟨g, cap, cur, h1, Nat.zero_le _, rest⟩
theorem OwnK.lt {α : Type} [Inhabited α] {T : TypeId} {f : α → List Value} {k : Nat} {w : World} {g cap : Nat} {L : List α} (h : OwnK T f k w g cap L) : g < w.heap.size := (World.ownsRow.lt h g rfl).2
theorem OwnK.later {α : Type} [Inhabited α] {T : TypeId} {f : α → List Value} {k : Nat} {w w' : World} {g cap : Nat} {L : List α} (h : OwnK T f k w g cap L) (hb : Below w.heap.size w w') : OwnK T f k w' g cap L := ownsRow_below' h hb
theorem OwnK.grown {α : Type} [Inhabited α] {T : TypeId} {f : α → List Value} {k : Nat} {w w' : World} {g g' cap : Nat} {L : List α} (h : OwnK T f k w g cap L) (hg : w.grownBy w' (some g')) (hne : g ≠ g') : OwnK T f k w' g cap L :=
  World.ownsRow.kept h hg (.inr (by simp [Value.ownBlock]; exact hne))
theorem OwnK.rd {α : Type} [Inhabited α] {T : TypeId} {f : α → List Value} {k : Nat} (hk : ∀ x, (f x).length = k) (hp : 0 < k) {w : World} {g cap : Nat} {L : List α} (h : OwnK T f k w g cap L) : RdK f k w (some ⟨g, 0, none⟩) L := by
  obtain ⟨a, c, e, hr, -⟩ := rdK_owns hk hp h
  simp only [Value.slice.injEq] at e
  rw [e.1]; exact hr
theorem OwnK.cap {α : Type} [Inhabited α] {T : TypeId} {f : α → List Value} {k : Nat} {w : World} {g cap : Nat} {L : List α} (h : OwnK T f k w g cap L) : L.length ≤ cap := by
  rcases h.2 with ⟨h1, _⟩ | ⟨g', cap', cur, h1, hb', hh, hnc, _⟩
  · simp at h1
  · simp only [Value.slice.injEq] at h1; omega

/-- the first i elements laid, the rest still z -/
def partK {α : Type} (L : List α) (z : α) (i : Nat) : List α := L.take i ++ List.replicate (L.length - i) z
theorem partK_length {α : Type} {L : List α} {z : α} {i : Nat} (h : i ≤ L.length) : (partK L z i).length = L.length := by simp [partK]; omega
theorem partK_zero {α : Type} (L : List α) (z : α) : partK L z 0 = List.replicate L.length z := by simp [partK]
theorem partK_end {α : Type} (L : List α) (z : α) : partK L z L.length = L := by simp [partK]
theorem partK_set {α : Type} [Inhabited α] {L : List α} {z : α} {i : Nat} (h : i < L.length) : (partK L z i).set i (eAt L i) = partK L z (i + 1) := by
  have h1 : partK L z i = L.take i ++ z :: List.replicate (L.length - (i + 1)) z := by
    unfold partK; rw [show L.length - i = (L.length - (i + 1)) + 1 by omega, List.replicate_succ]
  have h2 : partK L z (i + 1) = L.take i ++ eAt L i :: List.replicate (L.length - (i + 1)) z := by
    unfold partK; rw [List.take_succ_eq_append_getElem h, eAt_in h, List.append_assoc]; rfl
  rw [h1, h2, List.set_append_right _ _ (by rw [List.length_take]; omega), List.length_take, Nat.min_eq_left (by omega), Nat.sub_self]; rfl
/-- the first i elements as m has them, the rest as they were -/
def partL {α : Type} (m : Nat → α) (L : List α) (i : Nat) : List α := (List.range i).map m ++ L.drop i
theorem partL_length {α : Type} {m : Nat → α} {L : List α} {i : Nat} (h : i ≤ L.length) : (partL m L i).length = L.length := by simp [partL]; omega
theorem partL_end {α : Type} {m : Nat → α} {L : List α} {i : Nat} (h : L.length ≤ i) : partL m L i = (List.range i).map m := by unfold partL; rw [List.drop_eq_nil_of_le h, List.append_nil]
theorem partL_set {α : Type} {m : Nat → α} {L : List α} {i : Nat} (h : i < L.length) : (partL m L i).set i (m i) = partL m L (i + 1) := by
  unfold partL
  rw [List.set_append_right _ _ (by simp), List.length_map, List.length_range, Nat.sub_self, List.drop_eq_getElem_cons h, List.set_cons_zero, List.range_succ, List.map_append, List.append_assoc]
  rfl
theorem rowOf_made {α : Type} {f : α → List Value} {x : α} {cs : Array Value} (hx : f x = cs.toList) (hp : 0 < cs.size) (n : Nat) : (madeCells cs (n * cs.size)).toList = rowOf f (List.replicate n x) := by
  have hk : ∀ y ∈ List.replicate n x, f y = cs.toList := fun y hy => by rw [(List.mem_replicate.1 hy).2]; exact hx
  induction n with
  | zero => simp [madeCells, rowOf]
  | succ n ih =>
    apply List.ext_getElem?
    intro j
    rw [List.replicate_succ, rowOf_cons, hx]
    by_cases hj : j < cs.size
    · rw [List.getElem?_append_left (by simpa using hj)]
      have h1 : j < (n + 1) * cs.size := by rw [Nat.succ_mul]; omega
      simp [madeCells, h1, Nat.mod_eq_of_lt hj, hj]
    · rw [List.getElem?_append_right (by simp; omega), ← ih (fun y hy => hk y (by rw [List.replicate_succ]; exact List.mem_cons_of_mem _ hy))]
      have hl : cs.toList.length = cs.size := by simp
      rw [hl]
      by_cases h1 : j < (n + 1) * cs.size
      · have h2 : j - cs.size < n * cs.size := by rw [Nat.succ_mul] at h1; omega
        have h3 : (j - cs.size) % cs.size = j % cs.size := by
          rw [← Nat.mod_eq_sub_mod (by omega)]
        simp [madeCells, h1, h2, h3]
      · have h2 : ¬ j - cs.size < n * cs.size := by rw [Nat.succ_mul] at h1; omega
        simp [madeCells, h1, h2]
theorem grown_belowM {w w1 w2 : World} {g : Nat} (h : w.grownBy w1 (some g)) (hb : Below w1.heap.size w1 w2) : w.grownBy w2 (some g) :=
  ⟨hb.os.trans h.os, hb.tape.trans h.tape, hb.output.trans h.output, Nat.le_trans h.size hb.size, fun i hi hne => (hb.block i (Nat.lt_of_lt_of_le hi h.size)).trans (h.block i hi hne)⟩
end Go.Proofs.YtfgigcdfmkfkjacDoor
/-
  A block of some cells (a struct in memory): what it reads as, what a store leaves.
-/
namespace Go.Proofs.YtfgigcdfmkfkjacDoor
open Go.RowKit
set_option linter.unusedVariables false

theorem boxk_new (w : World) (cs : Array Value) (T : TypeId) : (w.alloc (.cells cs T)).heap[w.heap.size]? = some (.cells cs T (0, 0)) := by rw [heap_alloc_new]
theorem boxk_cell {w : World} {q : Nat} {cs : Array Value} {T : TypeId} (h : w.heap[q]? = some (.cells cs T (0, 0))) (j : Nat) (c : Value) (hc : cs[j]? = some c) : w.cell? ⟨q, j, none⟩ = some c := by
  rw [cell_of_row w q j cs T (0, 0) h]; exact hc
theorem boxk_frozen {w : World} {q : Nat} {cs : Array Value} {T : TypeId} (h : w.heap[q]? = some (.cells cs T (0, 0))) (j : Nat) : w.frozen? ⟨q, j, none⟩ = false := frozen_of_row w q j _ T h
theorem boxk_set {w : World} {q : Nat} {cs : Array Value} {T : TypeId} (h : w.heap[q]? = some (.cells cs T (0, 0))) (j : Nat) (v : Value) :
    (w.setCell ⟨q, j, none⟩ v).heap[q]? = some (.cells (cs.setIfInBounds j v) T (0, 0)) ∧ w.grownBy (w.setCell ⟨q, j, none⟩ v) (some q) := by
  refine ⟨by rw [heap_setCell_same w q j _ T v h], ⟨rfl, rfl, rfl, by simp [World.setCell], fun k _ hk => heap_setCell_other w ⟨q, j, none⟩ k v (fun e => hk (by simp [e]))⟩⟩
theorem grown_tt {a b c : World} {row : Option Nat} (h : a.grownBy b row) (k : b.grownBy c row) : a.grownBy c row :=
  ⟨k.os.trans h.os, k.tape.trans h.tape, k.output.trans h.output, Nat.le_trans h.size k.size, fun i hi hne => (k.block i (Nat.lt_of_lt_of_le hi h.size) hne).trans (h.block i hi hne)⟩
theorem box4_set {w : World} {q : Nat} {c0 c1 c2 c3 : Value} {T : TypeId} (h : w.heap[q]? = some (.cells #[c0, c1, c2, c3] T (0, 0))) (v0 v1 v2 v3 : Value) :
    ((((w.setCell ⟨q, 0, none⟩ v0).setCell ⟨q, 1, none⟩ v1).setCell ⟨q, 2, none⟩ v2).setCell ⟨q, 3, none⟩ v3).heap[q]? = some (.cells #[v0, v1, v2, v3] T (0, 0)) ∧ w.grownBy ((((w.setCell ⟨q, 0, none⟩ v0).setCell ⟨q, 1, none⟩ v1).setCell ⟨q, 2, none⟩ v2).setCell ⟨q, 3, none⟩ v3) (some q) := by
  have h0 := boxk_set h 0 v0
  have h1 := boxk_set h0.1 1 v1
  have h2 := boxk_set h1.1 2 v2
  have h3 := boxk_set h2.1 3 v3
  exact ⟨h3.1, (grown_tt (grown_tt (grown_tt h0.2 h1.2) h2.2) h3.2)⟩
theorem box4_post {P : Program} {f : Func} {Q : Ending → World → Prop} {x : Exit} {act : Act} {w : World} {q : Nat} {c0 c1 c2 c3 v0 v1 v2 v3 : Value} {T : TypeId} (h : w.heap[q]? = some (.cells #[c0, c1, c2, c3] T (0, 0)))
    (k : ∀ w2, w2.heap[q]? = some (.cells #[v0, v1, v2, v3] T (0, 0)) → w.grownBy w2 (some q) → bodyPost P f Q x act w2) : bodyPost P f Q x act ((((w.setCell ⟨q, 0, none⟩ v0).setCell ⟨q, 1, none⟩ v1).setCell ⟨q, 2, none⟩ v2).setCell ⟨q, 3, none⟩ v3) :=
  k _ (box4_set h v0 v1 v2 v3).1 (box4_set h v0 v1 v2 v3).2
theorem box5_set {w : World} {q : Nat} {c0 c1 c2 c3 c4 : Value} {T : TypeId} (h : w.heap[q]? = some (.cells #[c0, c1, c2, c3, c4] T (0, 0))) (v0 v1 v2 v3 v4 : Value) :
    (((((w.setCell ⟨q, 0, none⟩ v0).setCell ⟨q, 1, none⟩ v1).setCell ⟨q, 2, none⟩ v2).setCell ⟨q, 3, none⟩ v3).setCell ⟨q, 4, none⟩ v4).heap[q]? = some (.cells #[v0, v1, v2, v3, v4] T (0, 0)) ∧ w.grownBy (((((w.setCell ⟨q, 0, none⟩ v0).setCell ⟨q, 1, none⟩ v1).setCell ⟨q, 2, none⟩ v2).setCell ⟨q, 3, none⟩ v3).setCell ⟨q, 4, none⟩ v4) (some q) := by
  have h0 := boxk_set h 0 v0
  have h1 := boxk_set h0.1 1 v1
  have h2 := boxk_set h1.1 2 v2
  have h3 := boxk_set h2.1 3 v3
  have h4 := boxk_set h3.1 4 v4
  exact ⟨h4.1, (grown_tt (grown_tt (grown_tt (grown_tt h0.2 h1.2) h2.2) h3.2) h4.2)⟩
theorem box5_post {P : Program} {f : Func} {Q : Ending → World → Prop} {x : Exit} {act : Act} {w : World} {q : Nat} {c0 c1 c2 c3 c4 v0 v1 v2 v3 v4 : Value} {T : TypeId} (h : w.heap[q]? = some (.cells #[c0, c1, c2, c3, c4] T (0, 0)))
    (k : ∀ w2, w2.heap[q]? = some (.cells #[v0, v1, v2, v3, v4] T (0, 0)) → w.grownBy w2 (some q) → bodyPost P f Q x act w2) : bodyPost P f Q x act (((((w.setCell ⟨q, 0, none⟩ v0).setCell ⟨q, 1, none⟩ v1).setCell ⟨q, 2, none⟩ v2).setCell ⟨q, 3, none⟩ v3).setCell ⟨q, 4, none⟩ v4) :=
  k _ (box5_set h v0 v1 v2 v3 v4).1 (box5_set h v0 v1 v2 v3 v4).2
end Go.Proofs.YtfgigcdfmkfkjacDoor
/-
  When two values are the same, plainly.
-/
namespace Go.Proofs.YtfgigcdfmkfkjacDoor
open Go.RowKit
set_option linter.unusedVariables false

theorem toList_inj {S S' : ByteArray} (h : S.toList = S'.toList) : S = S' := by
  rw [ByteArray.toList_eq, ByteArray.toList_eq] at h
  cases S; cases S'
  simp at h
  rw [h]
theorem v3_cases (v u : V3) : v = u ∨ (v ≠ u ∧ ((v.K == u.K) = false ∨ ((v.K == u.K) = true ∧ (v.N == u.N) = false) ∨ ((v.K == u.K) = true ∧ (v.N == u.N) = true ∧ (v.S.toList == u.S.toList) = false))) := by
  by_cases h1 : v.K = u.K
  · by_cases h2 : v.N = u.N
    · by_cases h3 : v.S.toList = u.S.toList
      · left; exact V3.ext' h1 h2 (toList_inj h3)
      · right
        exact ⟨fun e => h3 (by rw [e]), .inr (.inr ⟨by simpa using h1, by simpa using h2, by simpa using h3⟩)⟩
    · right
      exact ⟨fun e => h2 (by rw [e]), .inr (.inl ⟨by simpa using h1, by simpa using h2⟩)⟩
  · right
    exact ⟨fun e => h1 (by rw [e]), .inl (by simpa using h1)⟩
instance : DecidableEq V3 := fun a b => by
  by_cases h : a.K = b.K ∧ a.N = b.N ∧ a.S = b.S
  · exact .isTrue (V3.ext' h.1 h.2.1 h.2.2)
  · exact .isFalse (fun e => h (by rw [e]; exact ⟨rfl, rfl, rfl⟩))

end Go.Proofs.YtfgigcdfmkfkjacDoor
/-
  Rows of texts: what a slice of them reads as (RdS), whether one is among them, and the contracts of the laws' own helpers on them.
-/
namespace Go.Proofs.YtfgigcdfmkfkjacDoor
open Go.RowKit
set_option linter.unusedVariables false

def valsS (L : List ByteArray) : List Value := L.map Value.string
def sAt (L : List ByteArray) (i : Nat) : ByteArray := L.getD i ⟨#[]⟩
theorem sAt_in {L : List ByteArray} {i : Nat} (h : i < L.length) : sAt L i = L[i] := by simp [sAt, List.getD, h]
theorem valsS_length (L : List ByteArray) : (valsS L).length = L.length := by simp [valsS]
theorem valsS_get {L : List ByteArray} {i : Nat} (h : i < L.length) : (valsS L)[i]? = some (.string (sAt L i)) := by rw [sAt_in h]; simp [valsS, h]
theorem valsS_snoc (L : List ByteArray) (x : ByteArray) : valsS L ++ [.string x] = valsS (L ++ [x]) := by simp [valsS]
def RdS (w : World) (a : Option Addr) (L : List ByteArray) : Prop := ∀ i, i < L.length → ∃ b off, a = some ⟨b, off, none⟩ ∧ w.cell? ⟨b, off + i, none⟩ = some (.string (sAt L i))
theorem RdS.open {w : World} {a : Option Addr} {L : List ByteArray} (h : RdS w a L) (hp : 0 < L.length) :
    ∃ b off, a = some ⟨b, off, none⟩ ∧ b < w.heap.size ∧ ∀ i, i < L.length → w.cell? ⟨b, off + i, none⟩ = some (.string (sAt L i)) := by
  obtain ⟨b, off, rfl, h0⟩ := h 0 hp
  refine ⟨b, off, rfl, World.block_lt_of_cell? w _ h0, fun i hi => ?_⟩
  obtain ⟨b2, off2, e, h1⟩ := h i hi
  simp only [Option.some.injEq, Addr.mk.injEq] at e
  rw [e.1, e.2.1]; exact h1
theorem RdS.below {w w' : World} {a : Option Addr} {L : List ByteArray} (h : RdS w a L) (hb : Below w.heap.size w w') : RdS w' a L := by
  intro i hi
  obtain ⟨b, off, e, h0⟩ := h i hi
  exact ⟨b, off, e, by rw [hb.cell (World.block_lt_of_cell? w _ h0)]; exact h0⟩
theorem rdS_owns {w : World} {base n : Nat} {T : TypeId} {v : Value} {L : List ByteArray} (h : w.ownsRow base T 1 v n (valsS L)) :
    ∃ a cap, v = .slice a L.length cap ∧ RdS w a L ∧ n = L.length := by
  have hn : n = L.length := by have := h.1; rw [valsS_length] at this; omega
  subst hn
  rcases h.2 with ⟨rfl, h0⟩ | ⟨g, cap, cur, rfl, hb, hg, hnc, hcm, hsz, htake⟩
  · exact ⟨none, 0, by rw [h0], fun i hi => by omega, rfl⟩
  · refine ⟨_, cap, rfl, fun i hi => ⟨g, 0, rfl, ?_⟩, rfl⟩
    have e0 := h.cellAt i (by omega)
    rw [Nat.zero_add, e0]; exact valsS_get hi
theorem rdS_of {w : World} {base n m c : Nat} {T : TypeId} {a : Option Addr} {L : List ByteArray} (h : w.ownsRow base T 1 (.slice a m c) n (valsS L)) : RdS w a L := by
  obtain ⟨a', c', e, hr, -⟩ := rdS_owns h
  simp only [Value.slice.injEq] at e
  rw [e.1]; exact hr
theorem below_dnS {w u : World} {n : Nat} (k : Below (w.drewN n).heap.size (w.drewN n) u) : Below w.heap.size w u :=
  (show Below w.heap.size w (w.drewN n) from ⟨rfl, rfl, rfl, Nat.le_refl _, fun _ _ => rfl⟩).trans k
theorem beq_neS {a b : ByteArray} (h : a ≠ b) : (a.toList == b.toList) = false := by
  simp only [beq_eq_false_iff_ne, ne_eq]
  exact fun e => h (toList_inj e)
def hasS (L : List ByteArray) (s : ByteArray) : Bool := L.any fun x => decide (x = s)
theorem hasS_yes {L : List ByteArray} {s : ByteArray} {k : Nat} (hk : k < L.length) (h : sAt L k = s) : hasS L s = true := by
  rw [sAt_in hk] at h
  unfold hasS
  rw [List.any_eq_true]
  exact ⟨L[k], List.getElem_mem hk, by simpa using h⟩
theorem hasS_no {L : List ByteArray} {s : ByteArray} (h : ∀ j, j < L.length → sAt L j ≠ s) : hasS L s = false := by
  rw [Bool.eq_false_iff]
  intro ht
  unfold hasS at ht
  rw [List.any_eq_true] at ht
  obtain ⟨x, hx, e⟩ := ht
  obtain ⟨j, hj, e2⟩ := List.getElem_of_mem hx
  exact h j hj (by rw [sAt_in hj, e2]; simpa using e)
theorem hasS_mem {L : List ByteArray} {s : ByteArray} : hasS L s = true ↔ s ∈ L := by
  unfold hasS
  rw [List.any_eq_true]
  exact ⟨fun ⟨x, hx, e⟩ => by rw [← show x = s by simpa using e]; exact hx, fun h => ⟨s, h, by simp⟩⟩

def marksS (k n : Nat) : List ByteArray := (List.range n).map fun i => markT (k + i)
theorem marksS_length (k n : Nat) : (marksS k n).length = n := by simp [marksS]
theorem marksS_succ (k n : Nat) : marksS k (n + 1) = marksS k n ++ [markT (k + n)] := by simp [marksS, List.range_succ]
theorem marksS_at {k n i : Nat} (h : i < n) : sAt (marksS k n) i = markT (k + i) := by
  rw [sAt_in (by rw [marksS_length]; exact h)]; simp [marksS]
def partS (xs : List Value) (k j : Nat) : List Value := valsS (marksS k j) ++ xs.drop j
theorem partS_set {xs : List Value} {k j : Nat} (h : j < xs.length) : (partS xs k j).set j (.string (markT (k + j))) = partS xs k (j + 1) := by
  unfold partS
  have hl : (valsS (marksS k j)).length = j := by rw [valsS_length, marksS_length]
  rw [List.set_append_right _ _ (by omega), hl, Nat.sub_self, List.drop_eq_getElem_cons h, List.set_cons_zero, marksS_succ]
  simp [valsS]
theorem partS_end {xs : List Value} {k j : Nat} (h : xs.length ≤ j) : partS xs k j = valsS (marksS k j) := by
  unfold partS; rw [List.drop_eq_nil_of_le h, List.append_nil]
theorem partS_length {xs : List Value} {k j : Nat} (h : j ≤ xs.length) : (partS xs k j).length = xs.length := by
  unfold partS; rw [List.length_append, valsS_length, marksS_length, List.length_drop]; omega

theorem kept1S {W w' : World} {p : Addr} {v : Value} (hb : Below W.heap.size W w') (h : W.cell? p = some v) : w'.cell? p = some v := by rw [hb.cell (World.block_lt_of_cell? W _ h)]; exact h
end Go.Proofs.YtfgigcdfmkfkjacDoor
/-
  The model's l3Split: the pieces of a text between the bytes of one kind.
-/
namespace Go.Proofs.YtfgigcdfmkfkjacDoor
open Go.RowKit
set_option linter.unusedVariables false

/-- the pieces that have ended ahead of k, and where the next one begins -/
def spF (s : ByteArray) (c : Nat) : Nat → List ByteArray × Nat
  | 0 => ([], 0)
  | k + 1 => if h : k < s.size then (if (s[k]'h).toNat = c then ((spF s c k).1 ++ [s.extract (spF s c k).2 k], k + 1) else spF s c k) else spF s c k
/-- all pieces -/
def splitE (s : ByteArray) (c : Nat) : List ByteArray := (spF s c s.size).1 ++ [s.extract (spF s c s.size).2 s.size]
theorem spF_le (s : ByteArray) (c : Nat) : ∀ k, (spF s c k).2 ≤ k ∧ (spF s c k).1.length ≤ k
  | 0 => ⟨Nat.le_refl _, Nat.le_refl _⟩
  | k + 1 => by
    have ih := spF_le s c k
    unfold spF
    split
    · split
      · exact ⟨Nat.le_refl _, by simp; omega⟩
      · exact ⟨by omega, by omega⟩
    · exact ⟨by omega, by omega⟩
theorem spF_hit {s : ByteArray} {c k : Nat} (h : k < s.size) (he : (s[k]'h).toNat = c) : spF s c (k + 1) = ((spF s c k).1 ++ [s.extract (spF s c k).2 k], k + 1) := by
  rw [spF, dif_pos h, if_pos he]
theorem spF_miss {s : ByteArray} {c k : Nat} (h : k < s.size) (he : (s[k]'h).toNat ≠ c) : spF s c (k + 1) = spF s c k := by
  rw [spF, dif_pos h, if_neg he]
theorem infoStr : (Tryd.prog.info? 9).map (fun i => (i.zero, i.size, i.bytes)) = some (some (.string ⟨#[]⟩), 1, 16) := by kernel_rfl
theorem srcStr (W : World) (x : ByteArray) : ∀ j u, ([.string x] : List Value)[j]? = some u → (W.alloc (.cells #[.string x] 9)).cell? ((⟨W.heap.size, 0, none⟩ : Addr).add j) = some u := by
  intro j u hj
  rw [Addr.add_lit, Nat.zero_add]
  have hb : (W.alloc (.cells #[.string x] 9)).heap[W.heap.size]? = some (.cells #[.string x] 9 (0, 0)) := by rw [heap_alloc_new]
  match j, hj with
  | 0, hj => rw [cell_of_row _ _ 0 _ _ (0, 0) hb]; simpa using hj
theorem oneStr (x : ByteArray) : ∀ u ∈ ([.string x] : List Value), u.oneCell' = true := by
  intro u hu
  simp only [List.mem_cons, List.not_mem_nil, or_false] at hu
  rw [hu]; rfl

set_option maxRecDepth 100000 in
set_option maxHeartbeats 3200000 in
theorem l3Split_any (s : ByteArray) (c : Nat) (w : World) (hs : s.size ≤ 1048576) (hc : c < 256) :
    Calls Tryd.prog 9 #[.string s, .int .u8 (c : Int)] w fun e w' => (∃ g cp, e = .returned (.slice (some ⟨g, 0, none⟩) (splitE s c).length cp) ∧ w'.ownsRow w.heap.size 9 1 (.slice (some ⟨g, 0, none⟩) (splitE s c).length cp) (splitE s c).length (valsS (splitE s c))) ∧ Below w.heap.size w w' := by
  obtain ⟨i0, hi, hz0, hz1, hz2⟩ := info_parts infoStr
  obtain ⟨R, hR⟩ : ∃ R, R = splitE s c := ⟨_, rfl⟩
  rw [← hR]
  have HR := hide hR
  clear hR
  have ho0 := World.ownsRow_lit (base := w.heap.size) (e := 9) (size := 1) w #[] 0 (Nat.le_refl _) (Nat.zero_le _) rfl
  have b0 := below_al w (.cells #[] 9)
  go_enter Tryd.func9, Tryd.ntmps9
  go_wp2
  generalize w.alloc (.cells #[] 9) = w0 at ho0 b0
  go_loopw [5, 6, 7] (fun v f i wr => ∃ (k g cp fr : Nat) (L : List ByteArray), i = .int .i64 k ∧ f = .int .i64 fr ∧ v = .slice (some ⟨g, 0, none⟩) L.length cp ∧ wr.ownsRow w.heap.size 9 1 (.slice (some ⟨g, 0, none⟩) L.length cp) L.length (valsS L) ∧ Below w.heap.size w wr ∧ L.length ≤ k ∧ ((k ≤ s.size ∧ spF s c k = (L, fr) ∧ fr ≤ k) ∨ (k = s.size + 1 ∧ L = R))) (fun _ _ i _ => s.size + 1 - (intOf i).toNat)
  case atStart => exact ⟨0, w.heap.size, 0, 0, [], rfl, rfl, rfl, ho0, b0, Nat.le_refl _, .inl ⟨Nat.zero_le _, rfl, Nat.le_refl _⟩⟩
  case round =>
    obtain ⟨k, g, cp, fr, L, rfl, rfl, rfl, hown, hbel, hlk, hcase⟩ := hrel
    clear ho0 b0
    have HO := hide hown
    clear hown
    rcases hcase with ⟨hk, hsp, hfr⟩ | ⟨rfl, rfl⟩
    · have HSp := hide hsp
      clear hsp
      have hl1 : (k : Int) ≤ (s.size : Int) := by omega
      have happ : ∀ (x : ByteArray), Hid (valsS L ++ [.string x] = valsS (L ++ [x])) := fun x => valsS_snoc L x
      by_cases hend : k = s.size
      · subst hend
        have HRe : Hid (L ++ [s.extract fr s.size] = R) := by unfold Hid; rw [HR.out]; unfold splitE; rw [HSp.out]
        have hl2 : ((s.size : Int) == (s.size : Int)) = true := by simp
        have hf1 : (0 : Int) ≤ (fr : Int) := by omega
        have hf2 : (fr : Int) ≤ (s.size : Int) := by omega
        have HSrc := hide (srcStr wr (s.extract fr s.size))
        have HO3 := hide (HO.out.alloc (.cells #[.string (s.extract fr s.size)] 9))
        have HB3 := hide (hbel.alloc hbel.size (.cells #[.string (s.extract fr s.size)] 9))
        have hz4 := HB3.out.size
        go_wp2_with (at_builtin; refine wpList_append_lies _ rfl (.tmp 26) (.tmp 31) 30 rfl w.heap.size 9 i0 (.string ⟨#[]⟩) 1 16 Tryd.underlying30 hi hz0 hz1 hz2 rfl (by omega) (.slice (some ⟨g, 0, none⟩) L.length cp) L.length (valsS L) rfl HO3.out ⟨wr.heap.size, 0, none⟩ 1 1 [.string (s.extract fr s.size)] ?hx rfl HSrc.out (oneStr _) (by omega) (by unfold maxLen; omega) (by omega) hz4 _ rfl ?_)
        case hx => simp [Act.eval]
        intro g5 c5 w5 ho5 hg5 hat5 hlt5
        rw [(happ _).out] at ho5
        have HO5 := hide ho5
        have HB5 := hide (HB3.out.grown hg5 HB3.out.size (fun j hj => (HO3.out.lt j hj).1))
        clear ho5 hg5 hat5 hlt5 HO3 HB3 HSrc
        have hln : (L ++ [s.extract fr s.size]).length = L.length + 1 := by simp
        go_wp2
        go_roundw
        case rel => exact ⟨s.size + 1, g5, c5, s.size + 1, L ++ [s.extract fr s.size], by go_num, by go_num, by rw [hln], by rw [hln]; exact HO5.out, HB5.out, by omega, .inr ⟨rfl, HRe.out⟩⟩
        case measure => simp [intOf]
      · have hlt : k < s.size := by omega
        have hl2 : ((k : Int) == (s.size : Int)) = false := by simp; omega
        have hl3 : (0 : Int) ≤ (k : Int) := by omega
        have hl4 : (k : Int) < (s.size : Int) := by omega
        have hub : (s[k]'hlt).toNat < 256 := (s[k]'hlt).toNat_lt
        by_cases he : (s[k]'hlt).toNat = c
        · have HS2 := hide (spF_hit hlt he)
          rw [HSp.out] at HS2
          have ke : (((s[k]'hlt).toNat : Int) == (c : Int)) = true := by rw [he]; simp
          have hf1 : (0 : Int) ≤ (fr : Int) := by omega
          have hf2 : (fr : Int) ≤ (k : Int) := by omega
          have HSrc := hide (srcStr wr (s.extract fr k))
          have HO3 := hide (HO.out.alloc (.cells #[.string (s.extract fr k)] 9))
          have HB3 := hide (hbel.alloc hbel.size (.cells #[.string (s.extract fr k)] 9))
          have hz4 := HB3.out.size
          clear he
          go_wp2_with (at_builtin; refine wpList_append_lies _ rfl (.tmp 26) (.tmp 31) 30 rfl w.heap.size 9 i0 (.string ⟨#[]⟩) 1 16 Tryd.underlying30 hi hz0 hz1 hz2 rfl (by omega) (.slice (some ⟨g, 0, none⟩) L.length cp) L.length (valsS L) rfl HO3.out ⟨wr.heap.size, 0, none⟩ 1 1 [.string (s.extract fr k)] (by simp [Act.eval]) rfl HSrc.out (oneStr _) (by omega) (by unfold maxLen; omega) (by omega) hz4 _ rfl ?_)
          intro g5 c5 w5 ho5 hg5 hat5 hlt5
          rw [(happ _).out] at ho5
          have HO5 := hide ho5
          have HB5 := hide (HB3.out.grown hg5 HB3.out.size (fun j hj => (HO3.out.lt j hj).1))
          clear ho5 hg5 hat5 hlt5 HO3 HB3 HSrc
          have hln : (L ++ [s.extract fr k]).length = L.length + 1 := by simp
          go_wp2
          go_roundw
          case rel => exact ⟨k + 1, g5, c5, k + 1, L ++ [s.extract fr k], by go_num, by go_num, by rw [hln], by rw [hln]; exact HO5.out, HB5.out, by omega, .inl ⟨by omega, HS2.out, Nat.le_refl _⟩⟩
          case measure => simp [intOf]; omega
        · have HS2 := hide (spF_miss hlt he)
          rw [HSp.out] at HS2
          have ke : (((s[k]'hlt).toNat : Int) == (c : Int)) = false := by simp; omega
          clear he
          go_wp2
          go_roundw
          case rel => exact ⟨k + 1, g, cp, fr, L, by go_num, rfl, rfl, HO.out, hbel, by omega, .inl ⟨by omega, HS2.out, by omega⟩⟩
          case measure => simp [intOf]; omega
    · have hl1 : ¬ ((s.size : Int) + 1 ≤ (s.size : Int)) := by omega
      go_wp2
      go_ret
      exact ⟨⟨g, cp, rfl, HO.out⟩, hbel⟩
end Go.Proofs.YtfgigcdfmkfkjacDoor
/-
  Small facts on empty texts and on boxes that a call has made.
-/
namespace Go.Proofs.YtfgigcdfmkfkjacDoor
open Go.RowKit
set_option linter.unusedVariables false

theorem empty_of_size {S : ByteArray} (h : S.size = 0) : S = ⟨#[]⟩ := by
  cases S with
  | mk d =>
    have : d.size = 0 := h
    rw [Array.size_eq_zero_iff] at this
    rw [this]
theorem bcell {W w1 : World} (hb : Below W.heap.size W w1) : (∀ b o, b < W.heap.size → w1.cell? ⟨b, o, none⟩ = W.cell? ⟨b, o, none⟩) ∧ (∀ b o, b < W.heap.size → w1.frozen? ⟨b, o, none⟩ = W.frozen? ⟨b, o, none⟩) :=
  ⟨fun b o h => hb.cell (p := ⟨b, o, none⟩) h, fun b o h => hb.frozen (p := ⟨b, o, none⟩) h⟩
theorem below_box {w w' : World} {o : Obj} (hb : Below (w.alloc o).drew.heap.size (w.alloc o).drew w') : Below w.heap.size w w' :=
  (((Below.refl w.heap.size w).alloc (Nat.le_refl _) o).drew).trans (hb.mono (by simp))
theorem below_boxN (w : World) (o : Obj) (n : Nat) : Below w.heap.size w ((w.alloc o).drewN n) :=
  ((Below.refl w.heap.size w).alloc (Nat.le_refl _) o).trans ⟨rfl, rfl, rfl, Nat.le_refl _, fun _ _ => rfl⟩
theorem isEmpty_false {S : ByteArray} (h : S.size ≠ 0) : S.toList.isEmpty = false := by
  rw [ByteArray.toList_eq]
  cases hd : S.data.toList with
  | nil =>
    exfalso; apply h
    have e : S.data.toList.length = S.size := by rw [Array.length_toList]; rfl
    rw [hd] at e; simpa using e.symm
  | cons a r => rfl
end Go.Proofs.YtfgigcdfmkfkjacDoor
/-
  What the model's text of a number is: itoa of the number; nothing that was there has turned.
-/
namespace Go.Proofs.YtfgigcdfmkfkjacDoor
open Go.RowKit
set_option linter.unusedVariables false

theorem conv_one (q : Nat) (c : UInt8) (d : Int) (hd : d = (c.toNat : Int)) (W : World) (h : W.cell? ⟨q, 0, none⟩ = some (.int .u8 d)) :
    (convert 63 9 (.slice (some ⟨q, 0, none⟩) 1 1)).run Tryd.prog W = .ok (.string ⟨#[c]⟩) W := by
  subst hd
  have := run_convert_bytes_back (P := Tryd.prog) W 63 9 5 ⟨q, 0, none⟩ 1 [c] Tryd.underlying63 Tryd.underlying5 Tryd.underlying9 (fun j hj => by
    obtain rfl : j = 0 := by simpa using hj
    rw [Addr.add_lit, Nat.add_zero, h]
    simp)
  simpa using this
theorem digit_byte {d : Nat} (h : d < 10) : ∃ c : UInt8, 48 + (d : Int) = (c.toNat : Int) ∧ UInt8.ofNat (48 + d) = c := ⟨_, by simp; omega, rfl⟩
theorem dec_snoc {u : Nat} (h : ¬ u < 10) : (⟨(Lib.decDigits (u / 10)).toArray⟩ : ByteArray) ++ ⟨#[UInt8.ofNat (48 + u % 10)]⟩ = ⟨(Lib.decDigits u).toArray⟩ := by
  rw [show Lib.decDigits u = Lib.decDigits (u / 10) ++ [UInt8.ofNat (48 + u % 10)] by rw [Lib.decDigits, dif_neg h]]
  apply ByteArray.ext
  rw [ByteArray.data_append]
  simp

theorem dec_size {u : Nat} (h : u ≤ 1000000000) : (⟨(Lib.decDigits u).toArray⟩ : ByteArray).size ≤ 10 := by
  have h1 := Lib.decDigits_length u
  have h2 := nDigits_10 u h
  show (Lib.decDigits u).toArray.size ≤ 10
  simp; omega

theorem below_d {w w' : World} (hb : Below w.drew.heap.size w.drew w') : Below w.heap.size w w' := ((Below.refl w.heap.size w).drew).trans hb
theorem below_da {w w' : World} (hb : Below w.drew.heap.size w.drew w') (o : Obj) : Below w.heap.size w (w'.alloc o) := (below_d hb).alloc (below_d hb).size _

end Go.Proofs.YtfgigcdfmkfkjacDoor
/-
  What allBytes answers of a function value whose answers are known: allB, in the world as it was.
-/
namespace Go.Proofs.YtfgigcdfmkfkjacDoor
open Go.RowKit
set_option linter.unusedVariables false

def allB (P : Int → Bool) (s : ByteArray) : Bool := (List.range s.size).all (fun i => P (bat s i))
theorem allB_no {P : Int → Bool} {s : ByteArray} {i : Nat} (h : i < s.size) (hb : P (bat s i) = false) : allB P s = false := by
  unfold allB
  rw [← Bool.not_eq_true, List.all_eq_true]
  intro h2
  have := h2 i (by simpa using h)
  rw [hb] at this
  cases this
theorem allB_yes {P : Int → Bool} {s : ByteArray} (h : ∀ i, i < s.size → P (bat s i) = true) : allB P s = true := by
  unfold allB
  rw [List.all_eq_true]
  intro i hi
  exact h i (by simpa using hi)

set_option maxHeartbeats 800000 in
theorem allBytesWord_any (s : ByteArray) (w : World) (hs : s.size ≤ maxLen) :
    Calls Tryd.prog 52 #[.string s, .func (.func 53) #[] #[]] w fun e w' => e = .returned (.bool (allB wordB s)) ∧ w' = w := by
  unfold maxLen at hs
  go_enter Tryd.func52, Tryd.ntmps52
  go_wp2
  go_loop [8] (fun i => ∃ k : Nat, k ≤ s.size ∧ i = .int .i64 k ∧ ∀ j, j < k → wordB (bat s j) = true) (fun i => s.size - (intOf i).toNat)
  case atStart => exact ⟨0, Nat.zero_le _, rfl, fun j hj => absurd hj (Nat.not_lt_zero _)⟩
  case round =>
    obtain ⟨k, hk, rfl, hall⟩ := hrel
    have HA := hide hall
    clear hall
    by_cases hlt : k < s.size
    · have HB := hide (bat_in hlt)
      cases hw : wordB ((s[k]'hlt).toNat : Int)
      · have HN := hide (allB_no (P := wordB) hlt (by rw [HB.out, hw]))
        go_wp2_with (go_at_call 53; refine (isWordByte_any _ _).mono ?_; rintro e w' ⟨rfl, rfl⟩)
        go_ret
        exact ⟨ret_bool HN.out.symm, rfl⟩
      · have HW := hide hw
        go_wp2_with (go_at_call 53; refine (isWordByte_any _ _).mono ?_; rintro e w' ⟨rfl, rfl⟩)
        go_round
        case rel => exact ⟨k + 1, by omega, by go_num, fun j hj => by
          by_cases hjk : j = k
          · rw [hjk, HB.out, HW.out]
          · exact HA.out j (by omega)⟩
        case measure => simp [intOf]; omega
    · have HN := hide (allB_yes (P := wordB) fun i hi => HA.out i (by omega))
      go_wp2
      go_ret
      exact ⟨ret_bool HN.out.symm, rfl⟩
end Go.Proofs.YtfgigcdfmkfkjacDoor
/-
  What the functions on a value's text answer, the tested one and the model alike: textB of the text, in the world as it was.
-/
namespace Go.Proofs.YtfgigcdfmkfkjacDoor
open Go.RowKit
set_option linter.unusedVariables false

/-- may a text be a value's? -/
def textB (s : ByteArray) : Bool := (List.range s.size).all (fun i => wordB (bat s i)) && decide (s.size ≤ 20)

theorem textB_no {s : ByteArray} {i : Nat} (h : i < s.size) (hb : wordB (bat s i) = false) : textB s = false := by
  unfold textB
  rw [Bool.and_eq_false_iff]
  left
  rw [← Bool.not_eq_true, List.all_eq_true]
  intro h2
  have := h2 i (by simpa using h)
  rw [hb] at this
  cases this
theorem textB_all {s : ByteArray} (h : ∀ i, i < s.size → wordB (bat s i) = true) : textB s = decide (s.size ≤ 20) := by
  unfold textB
  have : (List.range s.size).all (fun i => wordB (bat s i)) = true := by
    rw [List.all_eq_true]; intro i hi; exact h i (by simpa using hi)
  rw [this]; simp
theorem textB_size {s : ByteArray} (h : ¬ s.size ≤ 20) : textB s = false := by
  unfold textB
  rw [Bool.and_eq_false_iff]
  right
  simpa using h
theorem textB_le {s : ByteArray} (h : textB s = true) : s.size ≤ 20 := by
  by_cases h2 : s.size ≤ 20
  · exact h2
  · rw [textB_size h2] at h; cases h

set_option maxHeartbeats 800000 in
theorem l2Plain_any (s : ByteArray) (w : World) (hs : s.size ≤ maxLen) :
    Calls Tryd.prog 32 #[.string s] w fun e w' => e = .returned (.bool (textB s)) ∧ w' = w := by
  unfold maxLen at hs
  go_enter Tryd.func32, Tryd.ntmps32
  go_wp2
  go_loop [3] (fun i => ∃ k : Nat, k ≤ s.size ∧ i = .int .i64 k ∧ ∀ j, j < k → wordB (bat s j) = true) (fun i => s.size - (intOf i).toNat)
  case atStart => exact ⟨0, Nat.zero_le _, rfl, fun j hj => absurd hj (Nat.not_lt_zero _)⟩
  case round =>
    obtain ⟨k, hk, rfl, hall⟩ := hrel
    have HA := hide hall
    clear hall
    by_cases hlt : k < s.size
    · have hlb : 0 ≤ ((s[k]'hlt).toNat : Int) := by omega
      have hub : ((s[k]'hlt).toNat : Int) ≤ 255 := by have := (s[k]'hlt).toNat_lt; omega
      have HB := hide (bat_in hlt)
      cases hw : wordB ((s[k]'hlt).toNat : Int)
      · have HN := hide (textB_no hlt (by rw [HB.out, hw]))
        go_wp2_with (go_at_call 33; refine (l1Letter_any _ _ (by omega) (by omega)).mono ?_; rintro e w' ⟨rfl, rfl⟩)
        go_ret
        exact ⟨ret_bool HN.out.symm, rfl⟩
      · have HW := hide hw
        go_wp2_with (go_at_call 33; refine (l1Letter_any _ _ (by omega) (by omega)).mono ?_; rintro e w' ⟨rfl, rfl⟩)
        go_round
        case rel => exact ⟨k + 1, by omega, by go_num, fun j hj => by
          by_cases hjk : j = k
          · rw [hjk, HB.out, HW.out]
          · exact HA.out j (by omega)⟩
        case measure => simp [intOf]; omega
    · have HN := hide (textB_all fun i hi => HA.out i (by omega))
      go_wp2
      go_ret
      exact ⟨ret_bool (by rw [HN.out]; simp; omega), rfl⟩

theorem textB_tail {s : ByteArray} (h : s.size ≤ 20) : textB s = allB wordB s := by
  unfold textB allB
  rw [decide_eq_true h, Bool.and_true]

set_option maxHeartbeats 800000 in
theorem isTextOfVal_any (s : ByteArray) (w : World) (hs : s.size ≤ maxLen) :
    Calls Tryd.prog 54 #[.string s] w fun e w' => e = .returned (.bool (textB s)) ∧ w' = w := by
  have hs2 := hs
  unfold maxLen at hs2
  by_cases h2 : s.size ≤ 20
  · have HN := hide (textB_tail h2)
    go_enter Tryd.func54, Tryd.ntmps54
    go_wp2_with fail
    refine (allBytesWord_any _ _ hs).mono ?_
    rintro e w' ⟨rfl, rfl⟩
    generalize allB wordB s = r at HN ⊢
    go_wp2
    go_ret
    exact ⟨ret_bool HN.out.symm, rfl⟩
  · rw [textB_size h2]
    go_enter Tryd.func54, Tryd.ntmps54
    go_wp2
    go_ret
    exact ⟨rfl, rfl⟩
end Go.Proofs.YtfgigcdfmkfkjacDoor
/-
  What the functions on values answer: valB of the value, the tested ones and the model alike; nothing that was there has turned.
-/
namespace Go.Proofs.YtfgigcdfmkfkjacDoor
open Go.RowKit
set_option linter.unusedVariables false

/-- is a value right? -/
def valB (K N : Int) (S : ByteArray) : Bool := (K == 1 && inB N (-1000000000) 1000000000 && decide (S.size = 0)) || (K == 2 && textB S && N == 0)
theorem valB_num {N : Int} (S : ByteArray) (h : -1000000000 ≤ N ∧ N ≤ 1000000000) : valB 1 N S = decide (S.size = 0) := by
  simp [valB, inB_t h]
theorem valB_out {N : Int} (S : ByteArray) (h : ¬ (-1000000000 ≤ N ∧ N ≤ 1000000000)) : valB 1 N S = false := by
  simp [valB, inB_f h]
theorem valB_text (N : Int) (S : ByteArray) : valB 2 N S = (textB S && N == 0) := by
  simp [valB]
theorem valB_none {K : Int} (N : Int) (S : ByteArray) (h1 : K ≠ 1) (h2 : K ≠ 2) : valB K N S = false := by
  simp [valB, h1, h2]

set_option maxHeartbeats 400000 in
theorem asValNum_any (n : Int) (w : World) :
    Calls Tryd.prog 103 #[.int .i64 n] w fun e w' => e = .returned (.agg #[.int .i64 1, .int .i64 n, .string ⟨#[]⟩]) ∧ Below w.heap.size w w' := by
  go_enter Tryd.func103, Tryd.ntmps103
  go_wp2
  go_returns
  exact ⟨rfl, by go_grown⟩

set_option maxHeartbeats 400000 in
theorem asValText_any (s : ByteArray) (w : World) :
    Calls Tryd.prog 104 #[.string s] w fun e w' => e = .returned (.agg #[.int .i64 2, .int .i64 0, .string s]) ∧ Below w.heap.size w w' := by
  go_enter Tryd.func104, Tryd.ntmps104
  go_wp2
  go_returns
  exact ⟨rfl, by go_grown⟩

/-- what spokenOf answers -/
def spokV (K N : Int) (S : ByteArray) : Value :=
  if valB K N S then (if K = 1 then .iface 74 (.int .i64 N) else .iface 75 (.string S)) else .nilIface
theorem spokV_one {N : Int} {S : ByteArray} (h : valB 1 N S = true) : spokV 1 N S = .iface 74 (.int .i64 N) := by simp [spokV, h]
theorem spokV_two {N : Int} {S : ByteArray} (h : valB 2 N S = true) : spokV 2 N S = .iface 75 (.string S) := by simp [spokV, h]
theorem spokV_no {K N : Int} {S : ByteArray} (h : valB K N S = false) : spokV K N S = .nilIface := by simp [spokV, h]

set_option maxHeartbeats 1600000 in
theorem spokenOf_any (K N : Int) (S : ByteArray) (w : World) (hs : S.size ≤ maxLen) :
    Calls Tryd.prog 41 #[.agg #[.int .i64 K, .int .i64 N, .string S]] w fun e w' =>
      e = .returned (spokV K N S) ∧ Below w.heap.size w w' := by
  by_cases hK : K = 1
  · subst hK
    by_cases h1 : -1000000000 ≤ N
    · by_cases h2 : N ≤ 1000000000
      · by_cases hS : S.size = 0
        · rw [spokV_one (by rw [valB_num S ⟨h1, h2⟩]; simpa using hS)]
          obtain rfl := empty_of_size hS
          clear hS
          go_enter Tryd.func41, Tryd.ntmps41
          go_wp2
          go_region_with (go_at_call 103; refine (asValNum_any _ _).mono ?_; rintro e w' ⟨rfl, hb⟩; obtain ⟨hc, hf⟩ := bcell hb)
          all_goals go_wp2
          all_goals go_ret
          all_goals exact ⟨rfl, below_box hb⟩
        · rw [spokV_no (by rw [valB_num S ⟨h1, h2⟩]; simpa using hS)]
          have hE := isEmpty_false hS
          clear hS
          go_enter Tryd.func41, Tryd.ntmps41
          go_wp2
          go_region_with (go_at_call 103; refine (asValNum_any _ _).mono ?_; rintro e w' ⟨rfl, hb⟩; obtain ⟨hc, hf⟩ := bcell hb)
          all_goals go_wp2
          all_goals go_ret
          all_goals exact ⟨rfl, below_box hb⟩
      · rw [spokV_no (valB_out S (by omega))]
        go_enter Tryd.func41, Tryd.ntmps41
        go_wp2
        go_quiet (fail)
        go_wp2
        go_ret
        exact ⟨rfl, below_boxN _ _ _⟩
    · rw [spokV_no (valB_out S (by omega))]
      go_enter Tryd.func41, Tryd.ntmps41
      go_wp2
      go_quiet (fail)
      go_wp2
      go_ret
      exact ⟨rfl, below_boxN _ _ _⟩
  · have hk1 : (K == 1) = false := by simpa using hK
    by_cases hK2 : K = 2
    · subst hK2
      clear hk1 hK
      cases ht : textB S
      · rw [spokV_no (by rw [valB_text, ht]; rfl)]
        go_enter Tryd.func41, Tryd.ntmps41
        go_wp2_with (go_at_call 54; refine (isTextOfVal_any _ _ hs).mono ?_; rintro e w' ⟨rfl, rfl⟩)
        go_quiet (fail)
        go_wp2
        go_ret
        exact ⟨rfl, below_boxN _ _ _⟩
      · by_cases hN : N = 0
        · rw [spokV_two (by rw [valB_text, ht, hN]; rfl)]
          subst hN
          go_enter Tryd.func41, Tryd.ntmps41
          go_wp2_with (go_at_call 54; refine (isTextOfVal_any _ _ hs).mono ?_; rintro e w' ⟨rfl, rfl⟩)
          go_region_with (go_at_call 104; refine (asValText_any _ _).mono ?_; rintro e w' ⟨rfl, hb⟩; obtain ⟨hc, hf⟩ := bcell hb)
          all_goals go_wp2
          all_goals go_ret
          all_goals exact ⟨rfl, below_box hb⟩
        · rw [spokV_no (by rw [valB_text, ht]; simpa using hN)]
          have hn0 : ((0 : Int) == N) = false := by simp; omega
          clear hN
          go_enter Tryd.func41, Tryd.ntmps41
          go_wp2_with (go_at_call 54; refine (isTextOfVal_any _ _ hs).mono ?_; rintro e w' ⟨rfl, rfl⟩)
          go_region_with (go_at_call 104; refine (asValText_any _ _).mono ?_; rintro e w' ⟨rfl, hb⟩; obtain ⟨hc, hf⟩ := bcell hb)
          all_goals go_wp2
          all_goals go_ret
          all_goals exact ⟨rfl, below_box hb⟩
    · rw [spokV_no (valB_none N S hK hK2)]
      have hk2 : (K == 2) = false := by simpa using hK2
      clear hK hK2
      go_enter Tryd.func41, Tryd.ntmps41
      go_wp2
      go_quiet (fail)
      go_wp2
      go_ret
      exact ⟨rfl, below_boxN _ _ _⟩

theorem spokV_nil (K N : Int) (S : ByteArray) : (valB K N S = true ∧ ∃ t v, spokV K N S = .iface t v) ∨ (valB K N S = false ∧ spokV K N S = .nilIface) := by
  cases h : valB K N S
  · exact .inr ⟨rfl, spokV_no h⟩
  · left
    refine ⟨rfl, ?_⟩
    unfold spokV
    rw [h]
    by_cases hk : K = 1
    · exact ⟨_, _, by rw [if_pos rfl, if_pos hk]⟩
    · exact ⟨_, _, by rw [if_pos rfl, if_neg hk]⟩

set_option maxHeartbeats 1600000 in
theorem implValOk_any (K N : Int) (S : ByteArray) (w : World) (hs : S.size ≤ maxLen) :
    Calls Tryd.prog 28 #[.agg #[.int .i64 K, .int .i64 N, .string S]] w fun e w' =>
      e = .returned (.bool (valB K N S)) ∧ Below w.heap.size w w' := by
  go_enter Tryd.func28, Tryd.ntmps28
  go_wp2_with fail
  refine (spokenOf_any K N S _ hs).mono ?_
  rintro e w1 ⟨rfl, hb⟩
  have hb1 : Below w.heap.size w w1 := ((Below.refl w.heap.size w).alloc (Nat.le_refl _) _).trans (hb.mono (by simp))
  clear hb
  rcases spokV_nil K N S with ⟨h1, t, v, h2⟩ | ⟨h1, h2⟩
  · rw [h2]
    have H1 := hide h1
    clear h1 h2
    go_wp2
    go_ret
    exact ⟨ret_bool H1.out.symm, hb1⟩
  · rw [h2]
    have H1 := hide h1
    clear h1 h2
    go_wp2
    go_ret
    exact ⟨ret_bool H1.out.symm, hb1⟩

set_option maxHeartbeats 1600000 in
theorem specValOk_any (K N : Int) (S : ByteArray) (w : World) (hs : S.size ≤ maxLen) :
    Calls Tryd.prog 20 #[.agg #[.int .i64 K, .int .i64 N, .string S]] w fun e w' =>
      e = .returned (.bool (valB K N S)) ∧ w.grownBy w' none := by
  by_cases hK : K = 1
  · subst hK
    cases hi : inB N (-1000000000) 1000000000
    · have HV : Hid (valB 1 N S = false) := by unfold Hid valB; rw [hi]; simp
      go_enter Tryd.func20, Tryd.ntmps20
      go_wp2_with (go_at_call 31; refine (l1In_any _ _ _ _).mono ?_; rintro e w' ⟨rfl, rfl⟩)
      go_ret
      exact ⟨ret_bool HV.out.symm, World.grownBy_alloc _ _ _⟩
    · by_cases hS : S.size = 0
      · obtain rfl := empty_of_size hS
        have HV : Hid (valB 1 N ⟨#[]⟩ = true) := by unfold Hid valB; rw [hi]; rfl
        clear hS
        go_enter Tryd.func20, Tryd.ntmps20
        go_wp2_with (go_at_call 31; refine (l1In_any _ _ _ _).mono ?_; rintro e w' ⟨rfl, rfl⟩)
        go_ret
        exact ⟨ret_bool HV.out.symm, World.grownBy_alloc _ _ _⟩
      · have HV : Hid (valB 1 N S = false) := by unfold Hid valB; rw [hi]; simpa using hS
        have hE := isEmpty_false hS
        clear hS
        go_enter Tryd.func20, Tryd.ntmps20
        go_wp2_with (go_at_call 31; refine (l1In_any _ _ _ _).mono ?_; rintro e w' ⟨rfl, rfl⟩)
        go_ret
        exact ⟨ret_bool HV.out.symm, World.grownBy_alloc _ _ _⟩
  · have hk1 : (K == 1) = false := by simpa using hK
    by_cases hK2 : K = 2
    · subst hK2
      clear hk1 hK
      have HV := hide (valB_text N S)
      cases ht : textB S
      · rw [ht] at HV
        go_enter Tryd.func20, Tryd.ntmps20
        go_wp2_with (go_at_call 32; refine (l2Plain_any _ _ hs).mono ?_; rintro e w' ⟨rfl, rfl⟩)
        go_ret
        exact ⟨ret_bool HV.out.symm, World.grownBy_alloc _ _ _⟩
      · rw [ht] at HV
        go_enter Tryd.func20, Tryd.ntmps20
        go_wp2_with (go_at_call 32; refine (l2Plain_any _ _ hs).mono ?_; rintro e w' ⟨rfl, rfl⟩)
        go_ret
        exact ⟨ret_bool HV.out.symm, World.grownBy_alloc _ _ _⟩
    · have HV := hide (valB_none N S hK hK2)
      have hk2 : (K == 2) = false := by simpa using hK2
      clear hK hK2
      go_enter Tryd.func20, Tryd.ntmps20
      go_wp2
      go_ret
      exact ⟨ret_bool HV.out.symm, World.grownBy_alloc _ _ _⟩
end Go.Proofs.YtfgigcdfmkfkjacDoor
/-
  The library's table of powers of ten.
-/
namespace Go.Proofs.YtfgigcdfmkfkjacDoor
open Go.RowKit
set_option linter.unusedVariables false

/-- the library's table of powers of ten reads as its initialiser lays it -/
def Tab (w : World) : Prop := Lib.TabIs Tryd.prog w "internal/strconv.uint64pow10" .u64 Lib.pow10Tab
theorem gTab : ∃ g, Tryd.prog.globalNamed "internal/strconv.uint64pow10" = some g := Option.isSome_iff_exists.1 (by kernel_rfl)
theorem Tab.later {w w' : World} {B : Nat} (h : Tab w) (hb : Below B w w') (hB : w.heap.size ≤ B) : Tab w' := by
  obtain ⟨g, hg⟩ := gTab
  exact Joins.tab_stays hg h hb hB
end Go.Proofs.YtfgigcdfmkfkjacDoor
/-
  What the texts of values are, the tested one and the model's alike: textV of the value; nothing that was there has turned. (The tested one reads the library's table of powers of ten.)
-/
namespace Go.Proofs.YtfgigcdfmkfkjacDoor
open Go.RowKit
set_option linter.unusedVariables false

def textV (K N : Int) (S : ByteArray) : ByteArray :=
  if valB K N S then (if K = 1 then ⟨(Lib.itoa N).toArray⟩ else ⟨#[39]⟩ ++ S ++ ⟨#[39]⟩) else ⟨#[]⟩
theorem textV_num {N : Int} {S : ByteArray} (h : valB 1 N S = true) : textV 1 N S = ⟨(Lib.itoa N).toArray⟩ := by simp [textV, h]
theorem textV_text {K N : Int} {S : ByteArray} (h : valB K N S = true) (hk : K ≠ 1) : textV K N S = ⟨#[39]⟩ ++ S ++ ⟨#[39]⟩ := by simp [textV, h, hk]
theorem textV_no {K N : Int} {S : ByteArray} (h : valB K N S = false) : textV K N S = ⟨#[]⟩ := by simp [textV, h]
theorem ta_num_num (n : Int) (w : World) : (Instr.typeAssert (.iface 74 (.int .i64 n)) 61 74 true).run Tryd.prog w = .ok (.tuple #[.int .i64 n, .bool true]) w := by kernel_rfl
theorem ta_nil_num (w : World) : (Instr.typeAssert .nilIface 61 74 true).run Tryd.prog w = .ok (.tuple #[.int .i64 0, .bool false]) w := by kernel_rfl
theorem ta_text_num (s : ByteArray) (w : World) : (Instr.typeAssert (.iface 75 (.string s)) 61 74 true).run Tryd.prog w = .ok (.tuple #[.int .i64 0, .bool false]) w := by kernel_rfl
theorem ta_nil_text (w : World) : (Instr.typeAssert .nilIface 61 75 true).run Tryd.prog w = .ok (.tuple #[.string ⟨#[]⟩, .bool false]) w := by kernel_rfl
theorem ta_text_text (s : ByteArray) (w : World) : (Instr.typeAssert (.iface 75 (.string s)) 61 75 true).run Tryd.prog w = .ok (.tuple #[.string s, .bool true]) w := by kernel_rfl

theorem valB_texts {K N : Int} {S : ByteArray} (h : valB K N S = true) (hk : K ≠ 1) : S.size ≤ 20 := by
  by_cases h2 : K = 2
  · subst h2
    rw [valB_text] at h
    exact textB_le (by simp at h; exact h.1)
  · rw [valB_none N S hk h2] at h; cases h

set_option maxHeartbeats 1600000 in
theorem textOfSpoken_any (K N : Int) (S : ByteArray) (w : World) (ht : Tab w) :
    Calls Tryd.prog 50 #[spokV K N S] w fun e w' => e = .returned (.string (textV K N S)) ∧ Below w.heap.size w w' := by
  have t1 := ta_num_num
  have t2 := ta_nil_num
  have t3 := ta_text_num
  have t4 := ta_nil_text
  have t5 := ta_text_text
  cases hv : valB K N S
  · rw [spokV_no hv, textV_no hv]
    go_enter Tryd.func50, Tryd.ntmps50
    go_wp2
    go_ret
    exact ⟨rfl, Below.refl _ _⟩
  · by_cases hK : K = 1
    · subst hK
      have hr := hide (show -1000000000 ≤ N ∧ N ≤ 1000000000 by
        by_cases hr : -1000000000 ≤ N ∧ N ≤ 1000000000
        · exact hr
        · rw [valB_out S hr] at hv; cases hv)
      rw [spokV_one hv, textV_num hv]
      have HTab := hide ht
      clear ht hv
      go_enter Tryd.func50, Tryd.ntmps50
      go_wp2_with fail
      refine (Tryd.strconv_Itoa N (by have := hr.out; omega) (by have := hr.out; omega) _ HTab.out).mono ?_
      rintro e w1 ⟨rfl, k, os, rfl⟩
      have hb := Lib.below_grow w.heap.size w (Nat.le_refl _) k os
      generalize Sort.grow (w.drewN k) os = w1 at hb ⊢
      generalize hT : (⟨(Lib.itoa N).toArray⟩ : ByteArray) = s
      have HT := hide hT
      clear hT
      go_wp2
      go_ret
      exact ⟨by rw [HT.out]; rfl, hb⟩
    · have e : spokV K N S = .iface 75 (.string S) := by unfold spokV; rw [hv, if_pos rfl, if_neg hK]
      have hS := valB_texts hv hK
      have hc1 : (ByteArray.mk #[39]).size = 1 := rfl
      rw [e, textV_text hv hK]
      clear e hK hv
      go_enter Tryd.func50, Tryd.ntmps50
      go_wp2
      go_ret
      exact ⟨rfl, Below.refl _ _⟩

set_option maxHeartbeats 1600000 in
theorem implValText_any (K N : Int) (S : ByteArray) (w : World) (hs : S.size ≤ maxLen) (ht : Tab w) :
    Calls Tryd.prog 38 #[.agg #[.int .i64 K, .int .i64 N, .string S]] w fun e w' => e = .returned (.string (textV K N S)) ∧ Below w.heap.size w w' := by
  have HTab := hide ht
  clear ht
  go_enter Tryd.func38, Tryd.ntmps38
  go_wp2_with fail
  refine (spokenOf_any K N S _ hs).mono ?_
  rintro e w1 ⟨rfl, hb⟩
  have hb1 : Below w.heap.size w w1 := ((Below.refl w.heap.size w).alloc (Nat.le_refl _) _).trans (hb.mono (by simp))
  clear hb
  go_wp2_with fail
  refine (textOfSpoken_any K N S w1 (HTab.out.later hb1 (Nat.le_refl _))).mono ?_
  rintro e w2 ⟨rfl, hb2⟩
  have hb3 : Below w.heap.size w w2 := hb1.trans (hb2.mono hb1.size)
  clear hb2
  generalize hT : textV K N S = s
  have HT := hide hT
  clear hT
  go_wp2
  go_ret
  exact ⟨by rw [HT.out]; rfl, hb3⟩

end Go.Proofs.YtfgigcdfmkfkjacDoor
/-
  What ParseVal answers, plainly: a number's one text (numV), or a text between two quotes; and that reading loosely, then writing and comparing, answers the same (number part).
-/
namespace Go.Proofs.YtfgigcdfmkfkjacDoor
open Go.Lib
set_option linter.unusedVariables false

theorem valB_whole (n : Int) : valB 1 n ⟨#[]⟩ = numOk n := by
  have : (ByteArray.mk #[]).size = 0 := rfl
  simp [valB, inB, numOk, this]
theorem valB_zero : valB 0 0 ⟨#[]⟩ = false := by simp [valB]

/-- a text's list and the text -/
theorem eq_mk {s : ByteArray} {l : List UInt8} : (⟨l.toArray⟩ : ByteArray) = s ↔ l = s.data.toList := by
  constructor
  · rintro rfl; simp
  · intro h; apply ByteArray.ext; rw [h]

/-- the number that a loose reading answers stands the test just where the text is that number's one text -/
theorem loose_ok {s : ByteArray} {n : Int} (h : atoiAll s.data.toList = .ok n) :
    (valB 1 n ⟨#[]⟩ = true ∧ textV 1 n ⟨#[]⟩ = s) ↔ numV s.data.toList = some n := by
  constructor
  · rintro ⟨hv, ht⟩
    rw [textV_num hv, eq_mk] at ht
    rw [← ht]
    exact numV_itoa (by rw [← valB_whole]; exact hv)
  · intro hn
    obtain ⟨hk, e⟩ := numV_some hn
    have hv : valB 1 n ⟨#[]⟩ = true := by rw [valB_whole]; exact hk
    exact ⟨hv, by rw [textV_num hv, eq_mk]; exact e.symm⟩
theorem loose_only {s : ByteArray} {n m : Int} (h : atoiAll s.data.toList = .ok n) (hm : numV s.data.toList = some m) : m = n := by
  obtain ⟨hk, e⟩ := numV_some hm
  have := atoi_itoa hk
  rw [← e, h] at this
  exact (by injection this with h; exact h.symm)
theorem loose_none {s : ByteArray} (h : ∀ n, atoiAll s.data.toList ≠ .ok n) : numV s.data.toList = none := by
  cases hn : numV s.data.toList with
  | none => rfl
  | some m =>
    obtain ⟨hk, e⟩ := numV_some hn
    exact absurd (by rw [e]; exact atoi_itoa hk) (h m)
end Go.Proofs.YtfgigcdfmkfkjacDoor
/-
  What strconv.Atoi answers: the number, or an error.
-/
namespace Go.Proofs.YtfgigcdfmkfkjacDoor
open Go.RowKit Go.Lib
set_option linter.unusedVariables false

/-- the library's two errors are there -/
def Errs (w : World) : Prop := (∃ tp p, w.var? Tryd.prog "strconv.ErrSyntax" = some #[.iface tp p]) ∧ (∃ tp p, w.var? Tryd.prog "strconv.ErrRange" = some #[.iface tp p])
/-- (at a program that has strconv.Atoi, its function 49) -/
theorem gSyn : ∃ g, Tryd.prog.globalNamed "strconv.ErrSyntax" = some g := Option.isSome_iff_exists.1 (by kernel_rfl)
/-- (at a program that has strconv.Atoi, its function 49) -/
theorem gRan : ∃ g, Tryd.prog.globalNamed "strconv.ErrRange" = some g := Option.isSome_iff_exists.1 (by kernel_rfl)
/-- (at a program that has strconv.Atoi, its function 49) -/
theorem Errs.later {w w' : World} {B : Nat} (h : Errs w) (hb : Below B w w') (hB : w.heap.size ≤ B) : Errs w' := by
  obtain ⟨⟨t1, p1, h1⟩, ⟨t2, p2, h2⟩⟩ := h
  obtain ⟨g, hg⟩ := gSyn
  obtain ⟨g', hg'⟩ := gRan
  exact ⟨⟨t1, p1, Joins.var_stays hg h1 hb hB⟩, ⟨t2, p2, Joins.var_stays hg' h2 hb hB⟩⟩

/-- what strconv.Atoi answers where it reads no number: an error, whatever stands beside it -/
theorem atoi_no (s : ByteArray) (w : World) (hs : s.size ≤ 1048576) (he : Errs w) (h : ∀ n, atoiAll s.data.toList ≠ .ok n) :
    Calls Tryd.prog 49 #[.string s] w fun e w' => ∃ (z : Int) (t : TypeId) (N : Nat), e = .returned (.tuple #[.int .i64 z, .iface t (.pointer (some ⟨N, 0, none⟩))]) ∧ Below w.heap.size w w' := by
  obtain ⟨⟨t1, p1, h1⟩, ⟨t2, p2, h2⟩⟩ := he
  cases hx : atoiAll s.data.toList with
  | ok n => exact absurd hx (h n)
  | «syntax» =>
    refine (Tryd.strconv_Atoi_syntax_var s (by omega) hx t1 p1 w h1).mono ?_
    rintro e w' ⟨N, rfl, _, _, hb⟩
    exact ⟨_, _, N, rfl, hb⟩
  | range =>
    refine (Tryd.strconv_Atoi_range_var s (by omega) hx t2 p2 w h2).mono ?_
    rintro e w' ⟨N, rfl, _, _, hb⟩
    exact ⟨_, _, N, rfl, hb⟩
theorem atoi_yes (s : ByteArray) (w : World) (n : Int) (hs : s.size ≤ 1048576) (h : atoiAll s.data.toList = .ok n) :
    Calls Tryd.prog 49 #[.string s] w fun e w' => e = .returned (.tuple #[.int .i64 n, .nilIface]) ∧ Below w.heap.size w w' := by
  refine (Tryd.strconv_Atoi_ok s (by omega) n h w).mono ?_
  rintro e w' ⟨rfl, rfl | ⟨t, rfl⟩⟩
  · exact ⟨rfl, Below.refl _ _⟩
  · exact ⟨rfl, Joins.below_bytesWorld _ _ _ _ (Nat.le_refl _)⟩
end Go.Proofs.YtfgigcdfmkfkjacDoor
/-
  What impl.looseVal answers: what stands between a text's first byte and its last, where the first is a quote; else the number that strconv.Atoi reads; else nothing.
-/
namespace Go.Proofs.YtfgigcdfmkfkjacDoor
open Go.RowKit Go.Lib
set_option linter.unusedVariables false

set_option maxHeartbeats 800000 in
theorem looseVal_quote (s : ByteArray) (w : World) (hs : s.size ≤ 1048576) (h2 : 2 ≤ s.size) (h0 : ((s[0]'(by omega)).toNat : Int) = 39) :
    Calls Tryd.prog 37 #[.string s] w fun e w' => e = .returned (.agg #[.int .i64 2, .int .i64 0, .string (s.extract 1 (s.size - 1))]) ∧ Below w.heap.size w w' := by
  have hl : (2 : Int) ≤ (s.size : Int) := by omega
  go_enter Tryd.func37, Tryd.ntmps37
  go_wp2
  obtain ⟨c0, c1, c2, -, -, -⟩ := box_cell (box_new w (.int .i64 2) (.int .i64 0) (.string (s.extract 1 (s.size - 1))) 33)
  exact bodyPost_ret (v := .agg #[.int .i64 2, .int .i64 0, .string (s.extract 1 (s.size - 1))]) (by simp only [results, Tryd.results37]; simp [go_sem, c0, c1, c2]) rfl ⟨rfl, (Below.refl w.heap.size w).alloc (Nat.le_refl _) _⟩

set_option maxHeartbeats 1600000 in
theorem looseVal_ok (s : ByteArray) (w : World) (n : Int) (hs : s.size ≤ 1048576) (h2 : s.size < 2 ∨ bat s 0 ≠ 39) (h : atoiAll s.data.toList = .ok n) :
    Calls Tryd.prog 37 #[.string s] w fun e w' => e = .returned (.agg #[.int .i64 1, .int .i64 n, .string ⟨#[]⟩]) ∧ Below w.heap.size w w' := by
  have H := hide h
  clear h
  by_cases hl : 2 ≤ s.size
  · have h0 : (((s[0]'(by omega)).toNat : Int) == 39) = false := by
      rcases h2 with h | h
      · omega
      · rw [bat_in (by omega)] at h; simpa using h
    have hl' : (2 : Int) ≤ (s.size : Int) := by omega
    clear h2
    go_enter Tryd.func37, Tryd.ntmps37
    go_wp2_with fail
    refine (atoi_yes s _ n hs H.out).mono ?_
    rintro e w1 ⟨rfl, hb⟩
    have HR := hide (box_below (box_new w (.int .i64 0) (.int .i64 0) (.string ⟨#[]⟩) 33) hb (by simp))
    have hB1 : Below w.heap.size w w1 := ((Below.refl w.heap.size w).alloc (Nat.le_refl _) _).trans (hb.mono (by simp))
    clear hb
    obtain ⟨c0, c1, c2, f0, f1, f2⟩ := box_cell HR.out
    go_wp2
    refine box_post HR.out (fun w4 h4 gr => ?_)
    clear c0 c1 c2 f0 f1 f2
    obtain ⟨c0, c1, c2, -, -, -⟩ := box_cell h4
    exact bodyPost_ret (v := .agg #[.int .i64 1, .int .i64 n, .string ⟨#[]⟩]) (by simp [results, Tryd.results37, go_sem, c0, c1, c2]) rfl ⟨rfl, below_set hB1 gr (by omega)⟩
  · have hl' : ¬ ((2 : Int) ≤ (s.size : Int)) := by omega
    clear h2
    go_enter Tryd.func37, Tryd.ntmps37
    go_wp2_with fail
    refine (atoi_yes s _ n hs H.out).mono ?_
    rintro e w1 ⟨rfl, hb⟩
    have HR := hide (box_below (box_new w (.int .i64 0) (.int .i64 0) (.string ⟨#[]⟩) 33) hb (by simp))
    have hB1 : Below w.heap.size w w1 := ((Below.refl w.heap.size w).alloc (Nat.le_refl _) _).trans (hb.mono (by simp))
    clear hb
    obtain ⟨c0, c1, c2, f0, f1, f2⟩ := box_cell HR.out
    go_wp2
    refine box_post HR.out (fun w4 h4 gr => ?_)
    clear c0 c1 c2 f0 f1 f2
    obtain ⟨c0, c1, c2, -, -, -⟩ := box_cell h4
    exact bodyPost_ret (v := .agg #[.int .i64 1, .int .i64 n, .string ⟨#[]⟩]) (by simp [results, Tryd.results37, go_sem, c0, c1, c2]) rfl ⟨rfl, below_set hB1 gr (by omega)⟩
set_option maxHeartbeats 1600000 in
theorem looseVal_no (s : ByteArray) (w : World) (hs : s.size ≤ 1048576) (h2 : s.size < 2 ∨ bat s 0 ≠ 39) (he : Errs w) (h : ∀ n, atoiAll s.data.toList ≠ .ok n) :
    Calls Tryd.prog 37 #[.string s] w fun e w' => e = .returned (.agg #[.int .i64 0, .int .i64 0, .string ⟨#[]⟩]) ∧ Below w.heap.size w w' := by
  have H := hide h
  have HE := hide he
  clear h he
  by_cases hl : 2 ≤ s.size
  · have h0 : (((s[0]'(by omega)).toNat : Int) == 39) = false := by
      rcases h2 with h | h
      · omega
      · rw [bat_in (by omega)] at h; simpa using h
    have hl' : (2 : Int) ≤ (s.size : Int) := by omega
    clear h2
    go_enter Tryd.func37, Tryd.ntmps37
    go_wp2_with fail
    refine (atoi_no s _ hs (HE.out.later ((Below.refl w.heap.size w).alloc (Nat.le_refl _) _) (Nat.le_refl _)) H.out).mono ?_
    rintro e w1 ⟨z, t, N, rfl, hb⟩
    have HR := hide (box_below (box_new w (.int .i64 0) (.int .i64 0) (.string ⟨#[]⟩) 33) hb (by simp))
    have hB1 : Below w.heap.size w w1 := ((Below.refl w.heap.size w).alloc (Nat.le_refl _) _).trans (hb.mono (by simp))
    clear hb
    obtain ⟨c0, c1, c2, f0, f1, f2⟩ := box_cell HR.out
    go_wp2
    refine box_post HR.out (fun w4 h4 gr => ?_)
    clear c0 c1 c2 f0 f1 f2
    obtain ⟨c0, c1, c2, -, -, -⟩ := box_cell h4
    exact bodyPost_ret (v := .agg #[.int .i64 0, .int .i64 0, .string ⟨#[]⟩]) (by simp [results, Tryd.results37, go_sem, c0, c1, c2]) rfl ⟨rfl, below_set hB1 gr (by omega)⟩
  · have hl' : ¬ ((2 : Int) ≤ (s.size : Int)) := by omega
    clear h2
    go_enter Tryd.func37, Tryd.ntmps37
    go_wp2_with fail
    refine (atoi_no s _ hs (HE.out.later ((Below.refl w.heap.size w).alloc (Nat.le_refl _) _) (Nat.le_refl _)) H.out).mono ?_
    rintro e w1 ⟨z, t, N, rfl, hb⟩
    have HR := hide (box_below (box_new w (.int .i64 0) (.int .i64 0) (.string ⟨#[]⟩) 33) hb (by simp))
    have hB1 : Below w.heap.size w w1 := ((Below.refl w.heap.size w).alloc (Nat.le_refl _) _).trans (hb.mono (by simp))
    clear hb
    obtain ⟨c0, c1, c2, f0, f1, f2⟩ := box_cell HR.out
    go_wp2
    refine box_post HR.out (fun w4 h4 gr => ?_)
    clear c0 c1 c2 f0 f1 f2
    obtain ⟨c0, c1, c2, -, -, -⟩ := box_cell h4
    exact bodyPost_ret (v := .agg #[.int .i64 0, .int .i64 0, .string ⟨#[]⟩]) (by simp [results, Tryd.results37, go_sem, c0, c1, c2]) rfl ⟨rfl, below_set hB1 gr (by omega)⟩
end Go.Proofs.YtfgigcdfmkfkjacDoor
/-
  What impl.ParseVal answers: what the loose reading answers, where that is a value whose one text is the given one; else nothing.
-/
namespace Go.Proofs.YtfgigcdfmkfkjacDoor
open Go.RowKit Go.Lib
set_option linter.unusedVariables false

/-- the answer, as the call gives it -/
def ansV (b : Bool) (K N : Int) (S : ByteArray) : Value := if b then .tuple #[.agg #[.int .i64 K, .int .i64 N, .string S], .bool true] else .tuple #[.agg #[.int .i64 0, .int .i64 0, .string ⟨#[]⟩], .bool false]

set_option maxRecDepth 100000 in
set_option maxHeartbeats 1600000 in
theorem implParse_of (s : ByteArray) (K N : Int) (S : ByteArray) (w : World) (hs : S.size ≤ maxLen) (ht : Tab w)
    (hL : ∀ W, Below w.heap.size w W → Calls Tryd.prog 37 #[.string s] W fun e w' => e = .returned (.agg #[.int .i64 K, .int .i64 N, .string S]) ∧ Below W.heap.size W w') :
    Calls Tryd.prog 26 #[.string s] w fun e w' => e = .returned (ansV (valB K N S && decide (textV K N S = s)) K N S) ∧ Below w.heap.size w w' := by
  have HTab := hide ht
  have HL := hide hL
  clear ht hL
  go_enter Tryd.func26, Tryd.ntmps26
  go_wp2_with fail
  refine (HL.out _ ((Below.refl w.heap.size w).alloc (Nat.le_refl _) _)).mono ?_
  rintro e w1 ⟨rfl, hb1⟩
  have HR := hide (box_below (box_new w (.int .i64 0) (.int .i64 0) (.string ⟨#[]⟩) 33) hb1 (by simp))
  have hB1 : Below w.heap.size w w1 := ((Below.refl w.heap.size w).alloc (Nat.le_refl _) _).trans (hb1.mono (by simp))
  have hz1 : w.heap.size + 1 ≤ w1.heap.size := by have := hb1.size; simp at this; omega
  clear hb1 HL
  go_wp2_with fail
  refine (implValOk_any K N S _ hs).mono ?_
  rintro e w2 ⟨rfl, hb2⟩
  have HV := hide (box_below (box_new w1 (.int .i64 K) (.int .i64 N) (.string S) 33) hb2 (by simp))
  have HR2 := hide (box_below (box_old HR.out (by omega) (.cells #[.int .i64 K, .int .i64 N, .string S] 33)) hb2 (by simp; omega))
  have hB2 : Below w.heap.size w w2 := (hB1.alloc hB1.size _).trans (hb2.mono (by have := hB1.size; simp; omega))
  have hz2 : w1.heap.size + 1 ≤ w2.heap.size := by have := hb2.size; simp at this; omega
  clear hb2 HR hB1
  cases hv : valB K N S
  · have HB := hide hv
    clear hv
    obtain ⟨c0, c1, c2, f0, f1, f2⟩ := box_cell HR2.out
    go_wp2
    refine box_post HR2.out (fun w4 h4 gr => ?_)
    clear c0 c1 c2 f0 f1 f2
    obtain ⟨c0, c1, c2, -, -, -⟩ := box_cell h4
    exact bodyPost_ret (v := .tuple #[.agg #[.int .i64 0, .int .i64 0, .string ⟨#[]⟩], .bool false]) (by simp [results, Tryd.results26, go_sem, c0, c1, c2]) rfl ⟨by rw [HB.out]; rfl, below_set hB2 gr (by omega)⟩
  · have HB := hide hv
    clear hv
    obtain ⟨d0, d1, d2, -, -, -⟩ := box_cell HV.out
    go_wp2_with fail
    refine (implValText_any K N S _ hs (HTab.out.later hB2 (Nat.le_refl _))).mono ?_
    rintro e w3 ⟨rfl, hb3⟩
    have HV3 := hide (box_below HV.out hb3 (by omega))
    have HR3 := hide (box_below HR2.out hb3 (by omega))
    have hB3 : Below w.heap.size w w3 := hB2.trans (hb3.mono hB2.size)
    clear hb3 HV HR2 hB2 d0 d1 d2
    generalize hT : textV K N S = tx
    have HT := hide hT
    clear hT
    obtain ⟨c0, c1, c2, f0, f1, f2⟩ := box_cell HR3.out
    obtain ⟨d0, d1, d2, -, -, -⟩ := box_cell HV3.out
    by_cases hx : tx = s
    · have e1 := (bytes_beq_iff tx s).2 hx
      have HX := hide hx
      clear hx
      go_wp2
      refine box_post HR3.out (fun w4 h4 gr => ?_)
      clear c0 c1 c2 f0 f1 f2 d0 d1 d2
      obtain ⟨c0, c1, c2, -, -, -⟩ := box_cell h4
      exact bodyPost_ret (v := .tuple #[.agg #[.int .i64 K, .int .i64 N, .string S], .bool true]) (by simp [results, Tryd.results26, go_sem, c0, c1, c2]) rfl ⟨by rw [HB.out, HT.out, decide_eq_true HX.out]; rfl, below_set hB3 gr (by omega)⟩
    · have e1 := (bytes_beq_false_iff tx s).2 hx
      have HX := hide hx
      clear hx
      go_wp2
      refine box_post HR3.out (fun w4 h4 gr => ?_)
      clear c0 c1 c2 f0 f1 f2 d0 d1 d2
      obtain ⟨c0, c1, c2, -, -, -⟩ := box_cell h4
      exact bodyPost_ret (v := .tuple #[.agg #[.int .i64 0, .int .i64 0, .string ⟨#[]⟩], .bool false]) (by simp [results, Tryd.results26, go_sem, c0, c1, c2]) rfl ⟨by rw [HB.out, HT.out, decide_eq_false HX.out]; rfl, below_set hB3 gr (by omega)⟩
end Go.Proofs.YtfgigcdfmkfkjacDoor
/-
  What the model's ParseVal answers, by the text's form: between two quotes, behind a minus, else.
-/
namespace Go.Proofs.YtfgigcdfmkfkjacDoor
open Go.RowKit Go.Lib
set_option linter.unusedVariables false

theorem below_al2 (w : World) (o : Obj) : Below w.heap.size w (w.alloc o) := (Below.refl _ _).alloc (Nat.le_refl _) _
theorem below_none {w w' : World} (h : w.grownBy w' none) : Below w.heap.size w w' := (Below.refl _ _).grown h (Nat.le_refl _) (fun k hk => by cases hk)

set_option maxRecDepth 100000 in
set_option maxHeartbeats 1600000 in
theorem specParse_quote (s : ByteArray) (w : World) (hs : s.size ≤ 1048576) (h1 : (1 : Int) < s.size) (h0 : (((s[0]'(by omega)).toNat : Int) == 39) = true) (h2 : (((s[s.size - 1]'(by omega)).toNat : Int) == 39) = true) :
    Calls Tryd.prog 10 #[.string s] w fun e w' => e = .returned (ansV (valB 2 0 (s.extract 1 (s.size - 1))) 2 0 (s.extract 1 (s.size - 1))) ∧ Below w.heap.size w w' := by
  go_enter Tryd.func10, Tryd.ntmps10
  go_wp2_with fail
  have hsz : (s.extract 1 (s.size - 1)).size ≤ maxLen := by rw [ByteArray.size_extract]; unfold maxLen; omega
  generalize hS : s.extract 1 (s.size - 1) = S at hsz ⊢
  have HS := hide hS
  clear hS h0 h2
  refine (specValOk_any 2 0 S _ hsz).mono ?_
  rintro e w1 ⟨rfl, g1⟩
  have hb := below_none g1
  have HR := hide (box_below (box_old (box_new w (.int .i64 0) (.int .i64 0) (.string ⟨#[]⟩) 33) (by simp) (.cells #[.int .i64 2, .int .i64 0, .string S] 33)) hb (by simp; omega))
  have HV := hide (box_below (box_new (w.alloc (.cells #[.int .i64 0, .int .i64 0, .string ⟨#[]⟩] 33)) (.int .i64 2) (.int .i64 0) (.string S) 33) hb (by simp))
  simp only [World.size_alloc] at HR HV
  have hB : Below w.heap.size w w1 := ((below_al2 w _).alloc (by simp) _).trans (hb.mono (by simp; omega))
  clear hb g1
  obtain ⟨c0, c1, c2, f0, f1, f2⟩ := box_cell HR.out
  obtain ⟨d0, d1, d2, -, -, -⟩ := box_cell HV.out
  cases hv : valB 2 0 S
  · have HB := hide hv
    clear hv
    go_wp2
    refine box_post HR.out (fun w4 h4 gr => ?_)
    clear c0 c1 c2 f0 f1 f2 d0 d1 d2
    obtain ⟨c0, c1, c2, -, -, -⟩ := box_cell h4
    exact bodyPost_ret (v := .tuple #[.agg #[.int .i64 0, .int .i64 0, .string ⟨#[]⟩], .bool false]) (by simp [results, Tryd.results10, go_sem, c0, c1, c2]) rfl ⟨by rw [HS.out]; rw [HB.out]; rfl, below_set hB gr (by omega)⟩
  · have HB := hide hv
    clear hv
    go_wp2
    refine box_post HR.out (fun w4 h4 gr => ?_)
    clear c0 c1 c2 f0 f1 f2 d0 d1 d2
    obtain ⟨c0, c1, c2, -, -, -⟩ := box_cell h4
    exact bodyPost_ret (v := .tuple #[.agg #[.int .i64 2, .int .i64 0, .string S], .bool true]) (by simp [results, Tryd.results10, go_sem, c0, c1, c2]) rfl ⟨by rw [HS.out]; rw [HB.out]; rfl, below_set hB gr (by omega)⟩

theorem decFrom_lt : ∀ (l : List UInt8) (acc u : Nat), decFrom acc l = some u → u < (acc + 1) * 10 ^ l.length
  | [], acc, u, h => by simp [decFrom] at h; subst h; simp
  | c :: r, acc, u, h => by
    simp only [decFrom] at h
    cases hd : digitVal c with
    | none => rw [hd] at h; simp at h
    | some d =>
      rw [hd] at h
      have h10 := (digitVal_some hd).2
      have ih := decFrom_lt r (acc * 10 + d) u h
      refine Nat.lt_of_lt_of_le ih ?_
      rw [List.length_cons, Nat.pow_succ, Nat.mul_comm (10 ^ r.length) 10, ← Nat.mul_assoc]
      exact Nat.mul_le_mul_right _ (by omega)
theorem wholeL_bd (l : List UInt8) : -1 ≤ wholeL l ∧ wholeL l < 10000000000 := by
  unfold wholeL
  split
  · omega
  · rename_i hc
    have hlen : l.length ≤ 10 := by omega
    cases hd : decFrom 0 l with
    | none => simp only []; omega
    | some u =>
      have := decFrom_lt l 0 u hd
      have h2 : 10 ^ l.length ≤ 10 ^ 10 := Nat.pow_le_pow_right (by omega) hlen
      simp only []
      omega
/-- the answer, of a number or none -/
def ansN : Option Int → Value
  | some n => ansV true 1 n ⟨#[]⟩
  | none => ansV false 1 0 ⟨#[]⟩
theorem numV_minus {l : List UInt8} {m : Int} (h1 : 1 < l.length) (h0 : l.head? = some 45) (hm : wholeL l.tail = m) : numV l = if 0 ≤ -m then none else if numOk (-m) then some (-m) else none := by
  unfold numV; rw [if_pos ⟨h1, h0⟩, hm]
theorem numV_plain {l : List UInt8} {m : Int} (h1 : ¬ (1 < l.length ∧ l.head? = some 45)) (hm : wholeL l = m) : numV l = if m < 0 then none else if numOk m then some m else none := by
  unfold numV; rw [if_neg h1, hm]
theorem ansN_of {n : Int} {o : Option Int} (h : o = if numOk n then some n else none) : ansV (valB 1 n ⟨#[]⟩) 1 n ⟨#[]⟩ = ansN o := by
  rw [valB_whole, h]
  cases numOk n <;> rfl
theorem head_of {s : ByteArray} (h : 0 < s.size) : s.data.toList.head? = some (s[0]'h) := by
  have hl : s.data.toList.length = s.size := by rw [Array.length_toList]; rfl
  rw [List.head?_eq_getElem?, List.getElem?_eq_getElem (by omega)]
  simp [ByteArray.getElem_eq_getElem_data]
theorem tail_of (s : ByteArray) : (s.extract 1 s.size).data.toList = s.data.toList.tail := by
  have hl : s.data.toList.length = s.size := by rw [Array.length_toList]; rfl
  rw [ByteArray.data_extract, Array.toList_extract, List.extract_eq_take_drop, List.take_of_length_le (by simp), List.drop_one]

set_option maxRecDepth 100000 in
set_option maxHeartbeats 1600000 in
theorem specParse_minus (s : ByteArray) (w : World) (hs : s.size ≤ 1048576) (h1 : (1 : Int) < s.size) (h0 : (((s[0]'(by omega)).toNat : Int) == 39) = false) (h2 : (((s[0]'(by omega)).toNat : Int) == 45) = true) (hnum : ∀ m, wholeL (s.extract 1 s.size).data.toList = m → numV s.data.toList = if 0 ≤ -m then none else if numOk (-m) then some (-m) else none) :
    Calls Tryd.prog 10 #[.string s] w fun e w' => e = .returned (ansN (numV s.data.toList)) ∧ Below w.heap.size w w' := by
  have HNum := hide hnum
  clear hnum
  go_enter Tryd.func10, Tryd.ntmps10
  go_wp2_with fail
  have hsz : (s.extract 1 s.size).size ≤ maxLen := by unfold maxLen; first | omega | (rw [ByteArray.size_extract]; omega)
  refine (l2Whole_any (s.extract 1 s.size) _ hsz).mono ?_
  rintro e w' ⟨rfl, rfl⟩
  have hbd := wholeL_bd (s.extract 1 s.size).data.toList
  generalize hm : wholeL (s.extract 1 s.size).data.toList = m at hbd ⊢
  have HN0 := hide (HNum.out m hm)
  clear HNum hm hsz
  obtain ⟨hl, hu⟩ := hbd
  by_cases hneg : 0 ≤ -m
  · have HN : Hid (numV s.data.toList = none) := HN0.out.trans (if_pos hneg)
    clear HN0
    go_wp2
    go_returns
    exact ⟨by rw [HN.out]; rfl, by go_grown⟩
  · have HN := hide (ansN_of (HN0.out.trans (if_neg hneg)))
    clear HN0
    go_wp2_with fail
    have HR0 := hide (show (((w.alloc (.cells #[.int .i64 0, .int .i64 0, .string ⟨#[]⟩] 33)).alloc (.cells #[.int .i64 1, .int .i64 (-m), .string ⟨#[]⟩] 33)).heap[w.heap.size]? = some (.cells #[.int .i64 0, .int .i64 0, .string ⟨#[]⟩] 33 (0, 0))) by
      exact box_old (box_new w _ _ _ _) (by simp) _)
    have HV0 := hide (show (((w.alloc (.cells #[.int .i64 0, .int .i64 0, .string ⟨#[]⟩] 33)).alloc (.cells #[.int .i64 1, .int .i64 (-m), .string ⟨#[]⟩] 33)).heap[w.heap.size + 1]? = some (.cells #[.int .i64 1, .int .i64 (-m), .string ⟨#[]⟩] 33 (0, 0))) by
      have := box_new (w.alloc (.cells #[.int .i64 0, .int .i64 0, .string ⟨#[]⟩] 33)) (.int .i64 1) (.int .i64 (-m)) (.string ⟨#[]⟩) 33
      rw [World.size_alloc] at this
      exact this)
    have hB0 : Below w.heap.size w ((w.alloc (.cells #[.int .i64 0, .int .i64 0, .string ⟨#[]⟩] 33)).alloc (.cells #[.int .i64 1, .int .i64 (-m), .string ⟨#[]⟩] 33)) := (below_al2 w _).alloc (by simp) _
    have hz0 : w.heap.size + 2 ≤ ((w.alloc (.cells #[.int .i64 0, .int .i64 0, .string ⟨#[]⟩] 33)).alloc (.cells #[.int .i64 1, .int .i64 (-m), .string ⟨#[]⟩] 33)).heap.size := by simp
    generalize (w.alloc (.cells #[.int .i64 0, .int .i64 0, .string ⟨#[]⟩] 33)).alloc (.cells #[.int .i64 1, .int .i64 (-m), .string ⟨#[]⟩] 33) = w0 at HR0 HV0 hB0 hz0 ⊢
    refine (specValOk_any 1 (-m) ⟨#[]⟩ _ (by unfold maxLen; decide)).mono ?_
    rintro e w1 ⟨rfl, g1⟩
    have hb := below_none g1
    have HR := hide (box_below (q := w.heap.size) HR0.out hb (by omega))
    have HV := hide (box_below (q := w.heap.size + 1) HV0.out hb (by omega))
    have hB : Below w.heap.size w w1 := hB0.trans (hb.mono hB0.size)
    clear hb g1 HR0 HV0 hB0
    obtain ⟨c0, c1, c2, f0, f1, f2⟩ := box_cell HR.out
    obtain ⟨d0, d1, d2, -, -, -⟩ := box_cell HV.out
    cases hv : valB 1 (-m) ⟨#[]⟩
    · rw [hv] at HN
      clear hv
      go_wp2
      refine box_post HR.out (fun w4 h4 gr => ?_)
      clear c0 c1 c2 f0 f1 f2 d0 d1 d2
      obtain ⟨c0, c1, c2, -, -, -⟩ := box_cell h4
      exact bodyPost_ret (v := .tuple #[.agg #[.int .i64 0, .int .i64 0, .string ⟨#[]⟩], .bool false]) (by simp [results, Tryd.results10, go_sem, c0, c1, c2]) rfl ⟨by rw [← HN.out]; rfl, below_set hB gr (by omega)⟩
    · rw [hv] at HN
      clear hv
      go_wp2
      refine box_post HR.out (fun w4 h4 gr => ?_)
      clear c0 c1 c2 f0 f1 f2 d0 d1 d2
      obtain ⟨c0, c1, c2, -, -, -⟩ := box_cell h4
      exact bodyPost_ret (v := .tuple #[.agg #[.int .i64 1, .int .i64 (-m), .string ⟨#[]⟩], .bool true]) (by simp [results, Tryd.results10, go_sem, c0, c1, c2]) rfl ⟨by rw [← HN.out]; rfl, below_set hB gr (by omega)⟩

set_option maxRecDepth 100000 in
set_option maxHeartbeats 1600000 in
theorem specParse_short (s : ByteArray) (w : World) (hs : s.size ≤ 1048576) (h1 : ¬ (1 : Int) < s.size) (hnum : ∀ m, wholeL s.data.toList = m → numV s.data.toList = if m < 0 then none else if numOk m then some m else none) :
    Calls Tryd.prog 10 #[.string s] w fun e w' => e = .returned (ansN (numV s.data.toList)) ∧ Below w.heap.size w w' := by
  have HNum := hide hnum
  clear hnum
  go_enter Tryd.func10, Tryd.ntmps10
  go_wp2_with fail
  have hsz : (s).size ≤ maxLen := by unfold maxLen; first | omega | (rw [ByteArray.size_extract]; omega)
  refine (l2Whole_any (s) _ hsz).mono ?_
  rintro e w' ⟨rfl, rfl⟩
  have hbd := wholeL_bd (s).data.toList
  generalize hm : wholeL (s).data.toList = m at hbd ⊢
  have HN0 := hide (HNum.out m hm)
  clear HNum hm hsz
  obtain ⟨hl, hu⟩ := hbd
  by_cases hneg : m < 0
  · have HN : Hid (numV s.data.toList = none) := HN0.out.trans (if_pos hneg)
    clear HN0
    go_wp2
    go_returns
    exact ⟨by rw [HN.out]; rfl, by go_grown⟩
  · have HN := hide (ansN_of (HN0.out.trans (if_neg hneg)))
    clear HN0
    go_wp2_with fail
    have HR0 := hide (show (((w.alloc (.cells #[.int .i64 0, .int .i64 0, .string ⟨#[]⟩] 33)).alloc (.cells #[.int .i64 1, .int .i64 (m), .string ⟨#[]⟩] 33)).heap[w.heap.size]? = some (.cells #[.int .i64 0, .int .i64 0, .string ⟨#[]⟩] 33 (0, 0))) by
      exact box_old (box_new w _ _ _ _) (by simp) _)
    have HV0 := hide (show (((w.alloc (.cells #[.int .i64 0, .int .i64 0, .string ⟨#[]⟩] 33)).alloc (.cells #[.int .i64 1, .int .i64 (m), .string ⟨#[]⟩] 33)).heap[w.heap.size + 1]? = some (.cells #[.int .i64 1, .int .i64 (m), .string ⟨#[]⟩] 33 (0, 0))) by
      have := box_new (w.alloc (.cells #[.int .i64 0, .int .i64 0, .string ⟨#[]⟩] 33)) (.int .i64 1) (.int .i64 (m)) (.string ⟨#[]⟩) 33
      rw [World.size_alloc] at this
      exact this)
    have hB0 : Below w.heap.size w ((w.alloc (.cells #[.int .i64 0, .int .i64 0, .string ⟨#[]⟩] 33)).alloc (.cells #[.int .i64 1, .int .i64 (m), .string ⟨#[]⟩] 33)) := (below_al2 w _).alloc (by simp) _
    have hz0 : w.heap.size + 2 ≤ ((w.alloc (.cells #[.int .i64 0, .int .i64 0, .string ⟨#[]⟩] 33)).alloc (.cells #[.int .i64 1, .int .i64 (m), .string ⟨#[]⟩] 33)).heap.size := by simp
    generalize (w.alloc (.cells #[.int .i64 0, .int .i64 0, .string ⟨#[]⟩] 33)).alloc (.cells #[.int .i64 1, .int .i64 (m), .string ⟨#[]⟩] 33) = w0 at HR0 HV0 hB0 hz0 ⊢
    refine (specValOk_any 1 (m) ⟨#[]⟩ _ (by unfold maxLen; decide)).mono ?_
    rintro e w1 ⟨rfl, g1⟩
    have hb := below_none g1
    have HR := hide (box_below (q := w.heap.size) HR0.out hb (by omega))
    have HV := hide (box_below (q := w.heap.size + 1) HV0.out hb (by omega))
    have hB : Below w.heap.size w w1 := hB0.trans (hb.mono hB0.size)
    clear hb g1 HR0 HV0 hB0
    obtain ⟨c0, c1, c2, f0, f1, f2⟩ := box_cell HR.out
    obtain ⟨d0, d1, d2, -, -, -⟩ := box_cell HV.out
    cases hv : valB 1 (m) ⟨#[]⟩
    · rw [hv] at HN
      clear hv
      go_wp2
      refine box_post HR.out (fun w4 h4 gr => ?_)
      clear c0 c1 c2 f0 f1 f2 d0 d1 d2
      obtain ⟨c0, c1, c2, -, -, -⟩ := box_cell h4
      exact bodyPost_ret (v := .tuple #[.agg #[.int .i64 0, .int .i64 0, .string ⟨#[]⟩], .bool false]) (by simp [results, Tryd.results10, go_sem, c0, c1, c2]) rfl ⟨by rw [← HN.out]; rfl, below_set hB gr (by omega)⟩
    · rw [hv] at HN
      clear hv
      go_wp2
      refine box_post HR.out (fun w4 h4 gr => ?_)
      clear c0 c1 c2 f0 f1 f2 d0 d1 d2
      obtain ⟨c0, c1, c2, -, -, -⟩ := box_cell h4
      exact bodyPost_ret (v := .tuple #[.agg #[.int .i64 1, .int .i64 (m), .string ⟨#[]⟩], .bool true]) (by simp [results, Tryd.results10, go_sem, c0, c1, c2]) rfl ⟨by rw [← HN.out]; rfl, below_set hB gr (by omega)⟩

set_option maxRecDepth 100000 in
set_option maxHeartbeats 1600000 in
theorem specParse_half (s : ByteArray) (w : World) (hs : s.size ≤ 1048576) (h1 : (1 : Int) < s.size) (h0 : (((s[0]'(by omega)).toNat : Int) == 39) = true) (h2 : (((s[s.size - 1]'(by omega)).toNat : Int) == 39) = false) (h3 : (((s[0]'(by omega)).toNat : Int) == 45) = false) (hnum : ∀ m, wholeL s.data.toList = m → numV s.data.toList = if m < 0 then none else if numOk m then some m else none) :
    Calls Tryd.prog 10 #[.string s] w fun e w' => e = .returned (ansN (numV s.data.toList)) ∧ Below w.heap.size w w' := by
  have HNum := hide hnum
  clear hnum
  go_enter Tryd.func10, Tryd.ntmps10
  go_wp2_with fail
  have hsz : (s).size ≤ maxLen := by unfold maxLen; first | omega | (rw [ByteArray.size_extract]; omega)
  refine (l2Whole_any (s) _ hsz).mono ?_
  rintro e w' ⟨rfl, rfl⟩
  have hbd := wholeL_bd (s).data.toList
  generalize hm : wholeL (s).data.toList = m at hbd ⊢
  have HN0 := hide (HNum.out m hm)
  clear HNum hm hsz
  obtain ⟨hl, hu⟩ := hbd
  by_cases hneg : m < 0
  · have HN : Hid (numV s.data.toList = none) := HN0.out.trans (if_pos hneg)
    clear HN0
    go_wp2
    go_returns
    exact ⟨by rw [HN.out]; rfl, by go_grown⟩
  · have HN := hide (ansN_of (HN0.out.trans (if_neg hneg)))
    clear HN0
    go_wp2_with fail
    have HR0 := hide (show (((w.alloc (.cells #[.int .i64 0, .int .i64 0, .string ⟨#[]⟩] 33)).alloc (.cells #[.int .i64 1, .int .i64 (m), .string ⟨#[]⟩] 33)).heap[w.heap.size]? = some (.cells #[.int .i64 0, .int .i64 0, .string ⟨#[]⟩] 33 (0, 0))) by
      exact box_old (box_new w _ _ _ _) (by simp) _)
    have HV0 := hide (show (((w.alloc (.cells #[.int .i64 0, .int .i64 0, .string ⟨#[]⟩] 33)).alloc (.cells #[.int .i64 1, .int .i64 (m), .string ⟨#[]⟩] 33)).heap[w.heap.size + 1]? = some (.cells #[.int .i64 1, .int .i64 (m), .string ⟨#[]⟩] 33 (0, 0))) by
      have := box_new (w.alloc (.cells #[.int .i64 0, .int .i64 0, .string ⟨#[]⟩] 33)) (.int .i64 1) (.int .i64 (m)) (.string ⟨#[]⟩) 33
      rw [World.size_alloc] at this
      exact this)
    have hB0 : Below w.heap.size w ((w.alloc (.cells #[.int .i64 0, .int .i64 0, .string ⟨#[]⟩] 33)).alloc (.cells #[.int .i64 1, .int .i64 (m), .string ⟨#[]⟩] 33)) := (below_al2 w _).alloc (by simp) _
    have hz0 : w.heap.size + 2 ≤ ((w.alloc (.cells #[.int .i64 0, .int .i64 0, .string ⟨#[]⟩] 33)).alloc (.cells #[.int .i64 1, .int .i64 (m), .string ⟨#[]⟩] 33)).heap.size := by simp
    generalize (w.alloc (.cells #[.int .i64 0, .int .i64 0, .string ⟨#[]⟩] 33)).alloc (.cells #[.int .i64 1, .int .i64 (m), .string ⟨#[]⟩] 33) = w0 at HR0 HV0 hB0 hz0 ⊢
    refine (specValOk_any 1 (m) ⟨#[]⟩ _ (by unfold maxLen; decide)).mono ?_
    rintro e w1 ⟨rfl, g1⟩
    have hb := below_none g1
    have HR := hide (box_below (q := w.heap.size) HR0.out hb (by omega))
    have HV := hide (box_below (q := w.heap.size + 1) HV0.out hb (by omega))
    have hB : Below w.heap.size w w1 := hB0.trans (hb.mono hB0.size)
    clear hb g1 HR0 HV0 hB0
    obtain ⟨c0, c1, c2, f0, f1, f2⟩ := box_cell HR.out
    obtain ⟨d0, d1, d2, -, -, -⟩ := box_cell HV.out
    cases hv : valB 1 (m) ⟨#[]⟩
    · rw [hv] at HN
      clear hv
      go_wp2
      refine box_post HR.out (fun w4 h4 gr => ?_)
      clear c0 c1 c2 f0 f1 f2 d0 d1 d2
      obtain ⟨c0, c1, c2, -, -, -⟩ := box_cell h4
      exact bodyPost_ret (v := .tuple #[.agg #[.int .i64 0, .int .i64 0, .string ⟨#[]⟩], .bool false]) (by simp [results, Tryd.results10, go_sem, c0, c1, c2]) rfl ⟨by rw [← HN.out]; rfl, below_set hB gr (by omega)⟩
    · rw [hv] at HN
      clear hv
      go_wp2
      refine box_post HR.out (fun w4 h4 gr => ?_)
      clear c0 c1 c2 f0 f1 f2 d0 d1 d2
      obtain ⟨c0, c1, c2, -, -, -⟩ := box_cell h4
      exact bodyPost_ret (v := .tuple #[.agg #[.int .i64 1, .int .i64 (m), .string ⟨#[]⟩], .bool true]) (by simp [results, Tryd.results10, go_sem, c0, c1, c2]) rfl ⟨by rw [← HN.out]; rfl, below_set hB gr (by omega)⟩

set_option maxRecDepth 100000 in
set_option maxHeartbeats 1600000 in
theorem specParse_plain (s : ByteArray) (w : World) (hs : s.size ≤ 1048576) (h1 : (1 : Int) < s.size) (h0 : (((s[0]'(by omega)).toNat : Int) == 39) = false) (h3 : (((s[0]'(by omega)).toNat : Int) == 45) = false) (hnum : ∀ m, wholeL s.data.toList = m → numV s.data.toList = if m < 0 then none else if numOk m then some m else none) :
    Calls Tryd.prog 10 #[.string s] w fun e w' => e = .returned (ansN (numV s.data.toList)) ∧ Below w.heap.size w w' := by
  have HNum := hide hnum
  clear hnum
  go_enter Tryd.func10, Tryd.ntmps10
  go_wp2_with fail
  have hsz : (s).size ≤ maxLen := by unfold maxLen; first | omega | (rw [ByteArray.size_extract]; omega)
  refine (l2Whole_any (s) _ hsz).mono ?_
  rintro e w' ⟨rfl, rfl⟩
  have hbd := wholeL_bd (s).data.toList
  generalize hm : wholeL (s).data.toList = m at hbd ⊢
  have HN0 := hide (HNum.out m hm)
  clear HNum hm hsz
  obtain ⟨hl, hu⟩ := hbd
  by_cases hneg : m < 0
  · have HN : Hid (numV s.data.toList = none) := HN0.out.trans (if_pos hneg)
    clear HN0
    go_wp2
    go_returns
    exact ⟨by rw [HN.out]; rfl, by go_grown⟩
  · have HN := hide (ansN_of (HN0.out.trans (if_neg hneg)))
    clear HN0
    go_wp2_with fail
    have HR0 := hide (show (((w.alloc (.cells #[.int .i64 0, .int .i64 0, .string ⟨#[]⟩] 33)).alloc (.cells #[.int .i64 1, .int .i64 (m), .string ⟨#[]⟩] 33)).heap[w.heap.size]? = some (.cells #[.int .i64 0, .int .i64 0, .string ⟨#[]⟩] 33 (0, 0))) by
      exact box_old (box_new w _ _ _ _) (by simp) _)
    have HV0 := hide (show (((w.alloc (.cells #[.int .i64 0, .int .i64 0, .string ⟨#[]⟩] 33)).alloc (.cells #[.int .i64 1, .int .i64 (m), .string ⟨#[]⟩] 33)).heap[w.heap.size + 1]? = some (.cells #[.int .i64 1, .int .i64 (m), .string ⟨#[]⟩] 33 (0, 0))) by
      have := box_new (w.alloc (.cells #[.int .i64 0, .int .i64 0, .string ⟨#[]⟩] 33)) (.int .i64 1) (.int .i64 (m)) (.string ⟨#[]⟩) 33
      rw [World.size_alloc] at this
      exact this)
    have hB0 : Below w.heap.size w ((w.alloc (.cells #[.int .i64 0, .int .i64 0, .string ⟨#[]⟩] 33)).alloc (.cells #[.int .i64 1, .int .i64 (m), .string ⟨#[]⟩] 33)) := (below_al2 w _).alloc (by simp) _
    have hz0 : w.heap.size + 2 ≤ ((w.alloc (.cells #[.int .i64 0, .int .i64 0, .string ⟨#[]⟩] 33)).alloc (.cells #[.int .i64 1, .int .i64 (m), .string ⟨#[]⟩] 33)).heap.size := by simp
    generalize (w.alloc (.cells #[.int .i64 0, .int .i64 0, .string ⟨#[]⟩] 33)).alloc (.cells #[.int .i64 1, .int .i64 (m), .string ⟨#[]⟩] 33) = w0 at HR0 HV0 hB0 hz0 ⊢
    refine (specValOk_any 1 (m) ⟨#[]⟩ _ (by unfold maxLen; decide)).mono ?_
    rintro e w1 ⟨rfl, g1⟩
    have hb := below_none g1
    have HR := hide (box_below (q := w.heap.size) HR0.out hb (by omega))
    have HV := hide (box_below (q := w.heap.size + 1) HV0.out hb (by omega))
    have hB : Below w.heap.size w w1 := hB0.trans (hb.mono hB0.size)
    clear hb g1 HR0 HV0 hB0
    obtain ⟨c0, c1, c2, f0, f1, f2⟩ := box_cell HR.out
    obtain ⟨d0, d1, d2, -, -, -⟩ := box_cell HV.out
    cases hv : valB 1 (m) ⟨#[]⟩
    · rw [hv] at HN
      clear hv
      go_wp2
      refine box_post HR.out (fun w4 h4 gr => ?_)
      clear c0 c1 c2 f0 f1 f2 d0 d1 d2
      obtain ⟨c0, c1, c2, -, -, -⟩ := box_cell h4
      exact bodyPost_ret (v := .tuple #[.agg #[.int .i64 0, .int .i64 0, .string ⟨#[]⟩], .bool false]) (by simp [results, Tryd.results10, go_sem, c0, c1, c2]) rfl ⟨by rw [← HN.out]; rfl, below_set hB gr (by omega)⟩
    · rw [hv] at HN
      clear hv
      go_wp2
      refine box_post HR.out (fun w4 h4 gr => ?_)
      clear c0 c1 c2 f0 f1 f2 d0 d1 d2
      obtain ⟨c0, c1, c2, -, -, -⟩ := box_cell h4
      exact bodyPost_ret (v := .tuple #[.agg #[.int .i64 1, .int .i64 (m), .string ⟨#[]⟩], .bool true]) (by simp [results, Tryd.results10, go_sem, c0, c1, c2]) rfl ⟨by rw [← HN.out]; rfl, below_set hB gr (by omega)⟩
end Go.Proofs.YtfgigcdfmkfkjacDoor
/-
  What ParseVal answers, the tested one and the model's alike: parseO.
-/
namespace Go.Proofs.YtfgigcdfmkfkjacDoor
open Go.RowKit Go.Lib
set_option linter.unusedVariables false

def quotedB (s : ByteArray) : Bool := decide (2 ≤ s.size) && (bat s 0 == 39) && (bat s (s.size - 1) == 39)
/-- the value that a text is read as -/
def parseO (s : ByteArray) : Option V3 :=
  if quotedB s then (if valB 2 0 (s.extract 1 (s.size - 1)) then some ⟨2, 0, s.extract 1 (s.size - 1)⟩ else none)
  else (numV s.data.toList).map fun n => ⟨1, n, ⟨#[]⟩⟩
/-- the answer, as the call gives it -/
def ansO : Option V3 → Value
  | some v => .tuple #[.agg #[.int .i64 v.K, .int .i64 v.N, .string v.S], .bool true]
  | none => .tuple #[.agg #[.int .i64 0, .int .i64 0, .string ⟨#[]⟩], .bool false]
theorem ansV_f (K N : Int) (S : ByteArray) : ansV false K N S = ansO none := rfl
theorem ansV_t (K N : Int) (S : ByteArray) : ansV true K N S = ansO (some ⟨K, N, S⟩) := rfl
theorem parseO_q {s : ByteArray} (h : quotedB s = true) : ansO (parseO s) = ansV (valB 2 0 (s.extract 1 (s.size - 1))) 2 0 (s.extract 1 (s.size - 1)) := by
  unfold parseO; rw [if_pos h]
  cases valB 2 0 (s.extract 1 (s.size - 1)) <;> rfl
theorem parseO_n {s : ByteArray} (h : quotedB s = false) : ansO (parseO s) = ansN (numV s.data.toList) := by
  unfold parseO; rw [if_neg (by simp [h])]
  cases numV s.data.toList <;> rfl
theorem quotedB_iff {s : ByteArray} : quotedB s = true ↔ 2 ≤ s.size ∧ bat s 0 = 39 ∧ bat s (s.size - 1) = 39 := by
  simp [quotedB, and_assoc]

theorem specParse_any (s : ByteArray) (w : World) (hs : s.size ≤ 1048576) :
    Calls Tryd.prog 10 #[.string s] w fun e w' => e = .returned (ansO (parseO s)) ∧ Below w.heap.size w w' := by
  have hl : s.data.toList.length = s.size := by rw [Array.length_toList]; rfl
  by_cases h1 : 2 ≤ s.size
  · by_cases h0 : bat s 0 = 39
    · by_cases h2 : bat s (s.size - 1) = 39
      · rw [parseO_q (quotedB_iff.2 ⟨h1, h0, h2⟩)]
        rw [bat_in (by omega)] at h0 h2
        exact specParse_quote s w hs (by omega) (by simpa using h0) (by simpa using h2)
      · rw [parseO_n (Bool.eq_false_iff.2 (fun h => h2 (quotedB_iff.1 h).2.2))]
        rw [bat_in (by omega)] at h0 h2
        have hh : ¬ (1 < s.data.toList.length ∧ s.data.toList.head? = some 45) := by
          rintro ⟨_, h⟩
          rw [head_of (by omega), Option.some.injEq] at h
          rw [h] at h0; exact absurd h0 (by decide)
        exact specParse_half s w hs (by omega) (by simpa using h0) (by simpa using h2) (by simp; omega) (fun m hm => numV_plain hh hm)
    · rw [parseO_n (Bool.eq_false_iff.2 (fun h => h0 (quotedB_iff.1 h).2.1))]
      rw [bat_in (by omega)] at h0
      by_cases h3 : (s[0]'(by omega)) = 45
      · refine specParse_minus s w hs (by omega) (by simpa using h0) (by rw [h3]; rfl) (fun m hm => numV_minus (by omega) (by rw [head_of (by omega), h3]) (by rw [← tail_of]; exact hm))
      · have hh : ¬ (1 < s.data.toList.length ∧ s.data.toList.head? = some 45) := by
          rintro ⟨_, h⟩
          rw [head_of (by omega), Option.some.injEq] at h
          exact h3 h
        have h4 : ¬ (((s[0]'(by omega)).toNat : Int) = 45) := fun e => h3 (UInt8.toNat_inj.1 (by have : (45 : UInt8).toNat = 45 := rfl; omega))
        exact specParse_plain s w hs (by omega) (by simpa using h0) (by simpa using h4) (fun m hm => numV_plain hh hm)
  · rw [parseO_n (Bool.eq_false_iff.2 (fun h => h1 (quotedB_iff.1 h).1))]
    exact specParse_short s w hs (by omega) (fun m hm => numV_plain (by omega) hm)

theorem inner_of {s : ByteArray} (h1 : 2 ≤ s.size) (h0 : bat s 0 = 39) (h2 : bat s (s.size - 1) = 39) : (⟨#[39]⟩ ++ s.extract 1 (s.size - 1) ++ ⟨#[39]⟩ : ByteArray) = s := by
  have e : (s.extract 1 (s.size - 1)).size = s.size - 2 := by rw [ByteArray.size_extract]; omega
  have e1 : (⟨#[39]⟩ : ByteArray).size = 1 := rfl
  apply ByteArray.ext_getElem
  · simp only [ByteArray.size_append, e, e1]; omega
  · intro i hi hi'
    rw [bat_in (by omega)] at h0 h2
    have x0 : (s[0]'(by omega)) = 39 := UInt8.toNat_inj.1 (by have : (39 : UInt8).toNat = 39 := rfl; omega)
    have x2 : (s[s.size - 1]'(by omega)) = 39 := UInt8.toNat_inj.1 (by have : (39 : UInt8).toNat = 39 := rfl; omega)
    by_cases ha : i = 0
    · subst ha
      rw [ByteArray.getElem_append_left (by simp only [ByteArray.size_append, e, e1]; omega), ByteArray.getElem_append_left (by rw [e1]; omega), x0]; rfl
    · by_cases hb : i = s.size - 1
      · subst hb
        rw [ByteArray.getElem_append_right (by simp only [ByteArray.size_append, e, e1]; omega), x2]
        have : s.size - 1 - (⟨#[39]⟩ ++ s.extract 1 (s.size - 1) : ByteArray).size = 0 := by simp only [ByteArray.size_append, e, e1]; omega
        simp only [this]; rfl
      · rw [ByteArray.getElem_append_left (by simp only [ByteArray.size_append, e, e1]; omega), ByteArray.getElem_append_right (by rw [e1]; omega), ByteArray.getElem_extract]
        congr 1
        rw [e1]; omega
theorem inner_last {s S : ByteArray} (h : (⟨#[39]⟩ ++ S ++ ⟨#[39]⟩ : ByteArray) = s) : bat s (s.size - 1) = 39 := by
  subst h
  have e1 : (⟨#[39]⟩ : ByteArray).size = 1 := rfl
  rw [bat_in (by simp only [ByteArray.size_append, e1]; omega)]
  rw [ByteArray.getElem_append_right (by simp only [ByteArray.size_append, e1]; omega)]
  have : (⟨#[39]⟩ ++ S ++ ⟨#[39]⟩ : ByteArray).size - 1 - (⟨#[39]⟩ ++ S : ByteArray).size = 0 := by simp only [ByteArray.size_append, e1]; omega
  simp only [this]; rfl

theorem implParse_any (s : ByteArray) (w : World) (hs : s.size ≤ 1048576) (ht : Tab w) (he : Errs w) :
    Calls Tryd.prog 26 #[.string s] w fun e w' => e = .returned (ansO (parseO s)) ∧ Below w.heap.size w w' := by
  by_cases h1 : 2 ≤ s.size ∧ bat s 0 = 39
  · obtain ⟨h1, h0⟩ := h1
    have hsz : (s.extract 1 (s.size - 1)).size ≤ maxLen := by rw [ByteArray.size_extract]; unfold maxLen; omega
    have h0' := h0
    rw [bat_in (by omega)] at h0'
    have := implParse_of s 2 0 (s.extract 1 (s.size - 1)) w hsz ht (fun W hW => looseVal_quote s W hs h1 h0')
    by_cases h2 : bat s (s.size - 1) = 39
    · rw [parseO_q (quotedB_iff.2 ⟨h1, h0, h2⟩)]
      cases hv : valB 2 0 (s.extract 1 (s.size - 1))
      · rw [hv] at this; exact this
      · rw [hv, textV_text hv (by decide), decide_eq_true (inner_of h1 h0 h2)] at this
        exact this
    · rw [parseO_n (Bool.eq_false_iff.2 (fun h => h2 (quotedB_iff.1 h).2.2))]
      have hn : numV s.data.toList = none := by
        have hd := head_of (s := s) (by omega)
        cases hl : s.data.toList with
        | nil => rw [hl] at hd; simp at hd
        | cons c r =>
          rw [hl] at hd
          simp only [List.head?_cons, Option.some.injEq] at hd
          exact numV_head (by rw [hd]; omega)
      rw [hn]
      cases hv : valB 2 0 (s.extract 1 (s.size - 1))
      · rw [hv] at this; exact this
      · rw [hv, textV_text hv (by decide), decide_eq_false (fun e => h2 (inner_last e))] at this
        exact this
  · rw [parseO_n (Bool.eq_false_iff.2 (fun h => h1 ⟨(quotedB_iff.1 h).1, (quotedB_iff.1 h).2.1⟩))]
    have h2 : s.size < 2 ∨ bat s 0 ≠ 39 := by
      by_cases h : s.size < 2
      · exact .inl h
      · exact .inr (fun e => h1 ⟨by omega, e⟩)
    have hz : (ByteArray.mk #[]).size ≤ maxLen := by unfold maxLen; decide
    by_cases hn : ∃ n, atoiAll s.data.toList = .ok n
    · obtain ⟨n, hn⟩ := hn
      have := implParse_of s 1 n ⟨#[]⟩ w hz ht (fun W hW => looseVal_ok s W n hs h2 hn)
      have hk := loose_ok hn
      cases hv : numV s.data.toList with
      | none =>
        have : (valB 1 n ⟨#[]⟩ && decide (textV 1 n ⟨#[]⟩ = s)) = false := by
          rw [Bool.eq_false_iff]; intro h
          rw [Bool.and_eq_true, decide_eq_true_iff] at h
          rw [hk.1 h] at hv; cases hv
        rename_i h'
        rw [this] at h'; exact h'
      | some m =>
        obtain rfl := loose_only hn hv
        have h3 := hk.2 hv
        rw [h3.1, decide_eq_true h3.2] at this
        exact this
    · have hn' : ∀ n, atoiAll s.data.toList ≠ .ok n := fun n h => hn ⟨n, h⟩
      have := implParse_of s 0 0 ⟨#[]⟩ w hz ht (fun W hW => looseVal_no s W hs h2 (he.later hW (Nat.le_refl _)) hn')
      rw [loose_none hn']
      rw [valB_zero] at this
      exact this
end Go.Proofs.YtfgigcdfmkfkjacDoor
/-
  When a value is right, of its three parts at once.
-/
namespace Go.Proofs.YtfgigcdfmkfkjacDoor

def V3.ok (v : V3) : Bool := valB v.K v.N v.S
end Go.Proofs.YtfgigcdfmkfkjacDoor
