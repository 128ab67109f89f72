/-
  Texts of this claim joined into one: V3, Box, ValRow, Box2g, Box2, RowOf, ItemRow, FactArg, StoreArg, LawVal, LawEq, Keep6, LawFact, ToFact, LawStore, ToStore, CopyF, KeepS, CopyI, CopyL, AssP, KeepF, EqStore, Cmp, Less, VEq, Order, FactL, IdP, Copy3, Fixed.
-/
import Derived.Test.YtbellpalomiokadDoorJPlain
import Derived.OpenShut
import Derived.BigQuiet
import Derived.Deep.QuietTactic
import Derived.Lib.SmallJoins
import Derived.Deep.Slices
import Derived.Deep.Strs
import Derived.ProofKit
import Derived.ShutString
import Derived.ChangeOld
import Derived.Below
import Derived.Handy
import Derived.Deep.RegionHeld3
import Derived.OwnWalk
import Derived.Deep.AppendLies
import Derived.Deep.Upon
import Derived.Deep.RegionWith
import Derived.Laws.Strings
import Derived.Laws.CopyOwn
import Derived.Laws.IdiomCopy
import Derived.Deep.RegionLaw
/-
  A value, plainly: its kind, number and text.
-/
namespace Go.Proofs.YtbellpalomiokadDoor
open Go.RowKit
set_option linter.unusedVariables false

structure V3 where
  K : Int
  N : Int
  S : ByteArray
instance : Inhabited V3 := ⟨⟨0, 0, ⟨#[]⟩⟩⟩
def V3.agg (v : V3) : Value := .agg #[.int .i64 v.K, .int .i64 v.N, .string v.S]
theorem V3.ext' {a b : V3} (h1 : a.K = b.K) (h2 : a.N = b.N) (h3 : a.S = b.S) : a = b := by
  cases a; cases b; simp_all
end Go.Proofs.YtbellpalomiokadDoor
/-
  A block of three cells (a value in memory): what it reads as, what a store of all three leaves.
-/
namespace Go.Proofs.YtbellpalomiokadDoor
open Go.RowKit
set_option linter.unusedVariables false

theorem box_cell {w : World} {q : Nat} {c0 c1 c2 : Value} {T : TypeId} (h : w.heap[q]? = some (.cells #[c0, c1, c2] T (0, 0))) :
    w.cell? ⟨q, 0, none⟩ = some c0 ∧ w.cell? ⟨q, 1, none⟩ = some c1 ∧ w.cell? ⟨q, 2, none⟩ = some c2 ∧ w.frozen? ⟨q, 0, none⟩ = false ∧ w.frozen? ⟨q, 1, none⟩ = false ∧ w.frozen? ⟨q, 2, none⟩ = false := by
  refine ⟨?_, ?_, ?_, frozen_of_row w q 0 _ T h, frozen_of_row w q 1 _ T h, frozen_of_row w q 2 _ T h⟩
  · rw [cell_of_row w q 0 _ T (0, 0) h]; rfl
  · rw [cell_of_row w q 1 _ T (0, 0) h]; rfl
  · rw [cell_of_row w q 2 _ T (0, 0) h]; rfl
theorem box_set3 {w : World} {q : Nat} {c0 c1 c2 : Value} {T : TypeId} (h : w.heap[q]? = some (.cells #[c0, c1, c2] T (0, 0))) (a b c : Value) :
    (((w.setCell ⟨q, 0, none⟩ a).setCell ⟨q, 1, none⟩ b).setCell ⟨q, 2, none⟩ c).heap[q]? = some (.cells #[a, b, c] T (0, 0)) ∧
    w.grownBy (((w.setCell ⟨q, 0, none⟩ a).setCell ⟨q, 1, none⟩ b).setCell ⟨q, 2, none⟩ c) (some q) := by
  have h1 : (w.setCell ⟨q, 0, none⟩ a).heap[q]? = some (.cells #[a, c1, c2] T (0, 0)) := by rw [heap_setCell_same w q 0 _ T a h]; rfl
  have h2 : ((w.setCell ⟨q, 0, none⟩ a).setCell ⟨q, 1, none⟩ b).heap[q]? = some (.cells #[a, b, c2] T (0, 0)) := by rw [heap_setCell_same _ q 1 _ T b h1]; rfl
  refine ⟨by rw [heap_setCell_same _ q 2 _ T c h2]; rfl, ⟨rfl, rfl, rfl, by simp [World.setCell], fun k _ hk => ?_⟩⟩
  rw [heap_setCell_other _ ⟨q, 2, none⟩ k c (fun e => hk (by simp [e])), heap_setCell_other _ ⟨q, 1, none⟩ k b (fun e => hk (by simp [e])), heap_setCell_other w ⟨q, 0, none⟩ k a (fun e => hk (by simp [e]))]
theorem box_new (w : World) (c0 c1 c2 : Value) (T : TypeId) : (w.alloc (.cells #[c0, c1, c2] T)).heap[w.heap.size]? = some (.cells #[c0, c1, c2] T (0, 0)) := by rw [heap_alloc_new]
theorem box_old {w : World} {q : Nat} {o : Option Obj} (h : w.heap[q]? = o) (hq : q < w.heap.size) (x : Obj) : (w.alloc x).heap[q]? = o := by
  rw [← h]
  show (w.heap.push x)[q]? = _
  rw [Array.getElem?_push, if_neg (by omega)]
theorem box_below {B q : Nat} {w w' : World} {o : Option Obj} (h : w.heap[q]? = o) (hb : Below B w w') (hq : q < B) : w'.heap[q]? = o := by rw [hb.block q hq]; exact h
/-- at a return behind a store of all three cells: the world by what it holds -/
theorem box_post {P : Program} {f : Func} {Q : Ending → World → Prop} {x : Exit} {act : Act} {w : World} {q : Nat} {c0 c1 c2 a b c : Value} {T : TypeId} (h : w.heap[q]? = some (.cells #[c0, c1, c2] T (0, 0)))
    (k : ∀ w2, w2.heap[q]? = some (.cells #[a, b, c] T (0, 0)) → w.grownBy w2 (some q) → bodyPost P f Q x act w2) :
    bodyPost P f Q x act (((w.setCell ⟨q, 0, none⟩ a).setCell ⟨q, 1, none⟩ b).setCell ⟨q, 2, none⟩ c) :=
  k _ (box_set3 h a b c).1 (box_set3 h a b c).2
theorem below_set {w0 w w2 : World} {q : Nat} (hb : Below w0.heap.size w0 w) (gr : w.grownBy w2 (some q)) (hq : w0.heap.size ≤ q) : Below w0.heap.size w0 w2 :=
  hb.grown gr hb.size (fun k hk => by cases hk; exact hq)
end Go.Proofs.YtbellpalomiokadDoor
/-
  Rows of values: what a slice of values reads as (RdV), what a call's own row of them holds (cells3).
-/
namespace Go.Proofs.YtbellpalomiokadDoor
open Go.RowKit
set_option linter.unusedVariables false

def vAt (L : List V3) (i : Nat) : V3 := L.getD i default
theorem vAt_in {L : List V3} {i : Nat} (h : i < L.length) : vAt L i = L[i] := by simp [vAt, List.getD, h]
def cells3 (L : List V3) : List Value := L.flatMap fun v => [.int .i64 v.K, .int .i64 v.N, .string v.S]
theorem cells3_length (L : List V3) : (cells3 L).length = L.length * 3 := by
  induction L with
  | nil => rfl
  | cons v r ih => simp only [cells3, List.flatMap_cons, List.length_append] at ih ⊢; rw [ih]; simp; omega
theorem cells3_append (a b : List V3) : cells3 (a ++ b) = cells3 a ++ cells3 b := by simp [cells3]
theorem cells3_get : ∀ (L : List V3) (i : Nat), i < L.length → (cells3 L)[i * 3]? = some (.int .i64 (vAt L i).K) ∧ (cells3 L)[i * 3 + 1]? = some (.int .i64 (vAt L i).N) ∧ (cells3 L)[i * 3 + 2]? = some (.string (vAt L i).S)
  | [], i, h => absurd h (Nat.not_lt_zero _)
  | v :: r, 0, h => by simp [cells3, vAt]
  | v :: r, i + 1, h => by
    have ih := cells3_get r i (by simpa using h)
    have e : cells3 (v :: r) = .int .i64 v.K :: .int .i64 v.N :: .string v.S :: cells3 r := by simp [cells3]
    have ev : vAt (v :: r) (i + 1) = vAt r i := by simp [vAt, List.getD]
    rw [e, ev, show (i + 1) * 3 = i * 3 + 3 by omega, show i * 3 + 3 + 1 = i * 3 + 1 + 3 by omega, show i * 3 + 3 + 2 = i * 3 + 2 + 3 by omega]
    exact ih

/-- what the slice at 'a' reads as -/
def RdV (w : World) (a : Option Addr) (L : List V3) : Prop :=
  ∀ i, i < L.length → ∃ b off, a = some ⟨b, off, none⟩ ∧ w.cell? ⟨b, off + i * 3, none⟩ = some (.int .i64 (vAt L i).K) ∧ w.cell? ⟨b, off + i * 3 + 1, none⟩ = some (.int .i64 (vAt L i).N) ∧ w.cell? ⟨b, off + i * 3 + 2, none⟩ = some (.string (vAt L i).S)

theorem RdV.open {w : World} {a : Option Addr} {L : List V3} (h : RdV w a L) (hp : 0 < L.length) :
    ∃ b off, a = some ⟨b, off, none⟩ ∧ b < w.heap.size ∧ ∀ i, i < L.length → w.cell? ⟨b, off + i * 3, none⟩ = some (.int .i64 (vAt L i).K) ∧ w.cell? ⟨b, off + i * 3 + 1, none⟩ = some (.int .i64 (vAt L i).N) ∧ w.cell? ⟨b, off + i * 3 + 2, none⟩ = some (.string (vAt L i).S) := by
  obtain ⟨b, off, rfl, h0, -, -⟩ := h 0 hp
  refine ⟨b, off, rfl, World.block_lt_of_cell? w _ h0, fun i hi => ?_⟩
  obtain ⟨b2, off2, e, h1⟩ := h i hi
  simp only [Option.some.injEq, Addr.mk.injEq] at e
  rw [e.1, e.2.1]; exact h1
theorem RdV.below {w w' : World} {a : Option Addr} {L : List V3} (h : RdV w a L) (hb : Below w.heap.size w w') : RdV w' a L := by
  intro i hi
  obtain ⟨b, off, e, h0, h1, h2⟩ := h i hi
  have k : ∀ {p : Addr} {v : Value}, w.cell? p = some v → w'.cell? p = some v := fun {p v} h => by rw [hb.cell (World.block_lt_of_cell? w _ h)]; exact h
  exact ⟨b, off, e, k h0, k h1, k h2⟩
theorem RdV.heap {w w' : World} {a : Option Addr} {L : List V3} (h : RdV w a L) (hb : w'.heap = w.heap) : RdV w' a L := by
  intro i hi
  obtain ⟨b, off, e, h0, h1, h2⟩ := h i hi
  have k : ∀ {p : Addr}, w'.cell? p = w.cell? p := fun {p} => by simp [World.cell?, hb]
  exact ⟨b, off, e, by rw [k]; exact h0, by rw [k]; exact h1, by rw [k]; exact h2⟩
theorem RdV.nil (w : World) (a : Option Addr) : RdV w a [] := fun i hi => absurd hi (Nat.not_lt_zero _)
/-- what a call's own row of values reads as -/
theorem rdV_owns {w : World} {base n : Nat} {T : TypeId} {v : Value} {L : List V3} (h : w.ownsRow base T 3 v n (cells3 L)) :
    ∃ a cap, v = .slice a L.length cap ∧ RdV w a L ∧ n = L.length ∧ L.length ≤ cap ∧ (a = none → L.length = 0 ∧ cap = 0) := by
  have hn : n = L.length := by have := h.1; rw [cells3_length] at this; omega
  subst hn
  rcases h.2 with ⟨rfl, h0⟩ | ⟨g, cap, cur, rfl, hb, hg, hnc, hcm, hsz, htake⟩
  · exact ⟨none, 0, by rw [h0], fun i hi => by omega, rfl, by omega, fun _ => ⟨h0, rfl⟩⟩
  · refine ⟨_, cap, rfl, fun i hi => ⟨g, 0, rfl, ?_⟩, rfl, hnc, fun hh => by cases hh⟩
    obtain ⟨g0, g1, g2⟩ := cells3_get L i hi
    have e0 := h.cellAt (i * 3) (by omega)
    have e1 := h.cellAt (i * 3 + 1) (by omega)
    have e2 := h.cellAt (i * 3 + 2) (by omega)
    rw [Nat.zero_add]
    exact ⟨by rw [e0]; exact g0, by rw [e1]; exact g1, by rw [e2]; exact g2⟩
end Go.Proofs.YtbellpalomiokadDoor
/-
  A block of two cells (a fact in memory), and rows of values of the calls' own, by their block.
-/
namespace Go.Proofs.YtbellpalomiokadDoor
open Go.RowKit
set_option linter.unusedVariables false

theorem box2_cell {w : World} {q : Nat} {c0 c1 : Value} {T : TypeId} (h : w.heap[q]? = some (.cells #[c0, c1] T (0, 0))) :
    w.cell? ⟨q, 0, none⟩ = some c0 ∧ w.cell? ⟨q, 1, none⟩ = some c1 ∧ w.frozen? ⟨q, 0, none⟩ = false ∧ w.frozen? ⟨q, 1, none⟩ = false := by
  refine ⟨?_, ?_, frozen_of_row w q 0 _ T h, frozen_of_row w q 1 _ T h⟩
  · rw [cell_of_row w q 0 _ T (0, 0) h]; rfl
  · rw [cell_of_row w q 1 _ T (0, 0) h]; rfl
theorem box2_set {w : World} {q : Nat} {c0 c1 : Value} {T : TypeId} (h : w.heap[q]? = some (.cells #[c0, c1] T (0, 0))) (a b : Value) :
    ((w.setCell ⟨q, 0, none⟩ a).setCell ⟨q, 1, none⟩ b).heap[q]? = some (.cells #[a, b] T (0, 0)) ∧
    w.grownBy ((w.setCell ⟨q, 0, none⟩ a).setCell ⟨q, 1, none⟩ b) (some q) := by
  have h1 : (w.setCell ⟨q, 0, none⟩ a).heap[q]? = some (.cells #[a, c1] T (0, 0)) := by rw [heap_setCell_same w q 0 _ T a h]; rfl
  refine ⟨by rw [heap_setCell_same _ q 1 _ T b h1]; rfl, ⟨rfl, rfl, rfl, by simp [World.setCell], fun k _ hk => ?_⟩⟩
  rw [heap_setCell_other _ ⟨q, 1, none⟩ k b (fun e => hk (by simp [e])), heap_setCell_other w ⟨q, 0, none⟩ k a (fun e => hk (by simp [e]))]
theorem box2_set1 {w : World} {q : Nat} {c0 c1 : Value} {T : TypeId} (h : w.heap[q]? = some (.cells #[c0, c1] T (0, 0))) (b : Value) :
    (w.setCell ⟨q, 1, none⟩ b).heap[q]? = some (.cells #[c0, b] T (0, 0)) ∧ w.grownBy (w.setCell ⟨q, 1, none⟩ b) (some q) := by
  refine ⟨by rw [heap_setCell_same w q 1 _ T b h]; rfl, ⟨rfl, rfl, rfl, by simp [World.setCell], fun k _ hk => heap_setCell_other w ⟨q, 1, none⟩ k b (fun e => hk (by simp [e]))⟩⟩
theorem box2_set0 {w : World} {q : Nat} {c0 c1 : Value} {T : TypeId} (h : w.heap[q]? = some (.cells #[c0, c1] T (0, 0))) (b : Value) :
    (w.setCell ⟨q, 0, none⟩ b).heap[q]? = some (.cells #[b, c1] T (0, 0)) ∧ w.grownBy (w.setCell ⟨q, 0, none⟩ b) (some q) := by
  refine ⟨by rw [heap_setCell_same w q 0 _ T b h]; rfl, ⟨rfl, rfl, rfl, by simp [World.setCell], fun k _ hk => heap_setCell_other w ⟨q, 0, none⟩ k b (fun e => hk (by simp [e]))⟩⟩
theorem box2_new (w : World) (c0 c1 : Value) (T : TypeId) : (w.alloc (.cells #[c0, c1] T)).heap[w.heap.size]? = some (.cells #[c0, c1] T (0, 0)) := by rw [heap_alloc_new]
theorem box2_post {P : Program} {f : Func} {Q : Ending → World → Prop} {x : Exit} {act : Act} {w : World} {q : Nat} {c0 c1 a b : Value} {T : TypeId} (h : w.heap[q]? = some (.cells #[c0, c1] T (0, 0)))
    (k : ∀ w2, w2.heap[q]? = some (.cells #[a, b] T (0, 0)) → w.grownBy w2 (some q) → bodyPost P f Q x act w2) :
    bodyPost P f Q x act ((w.setCell ⟨q, 0, none⟩ a).setCell ⟨q, 1, none⟩ b) :=
  k _ (box2_set h a b).1 (box2_set h a b).2
theorem box_gr {w w' : World} {R q : Nat} {o : Obj} (h : w.heap[R]? = some o) (hg : w.grownBy w' (some q)) (hne : R ≠ q) : w'.heap[R]? = some o := by
  rw [hg.block R (Array.getElem?_eq_some_iff.1 h).1 (by simp; omega)]; exact h
end Go.Proofs.YtbellpalomiokadDoor
/-
  A block of two cells (a fact in memory), and rows of values of the calls' own, by their block.
-/
namespace Go.Proofs.YtbellpalomiokadDoor
open Go.RowKit
set_option linter.unusedVariables false

/-- block g holds the values L, at its head, and is written by nobody else -/
def OwnV (w : World) (g cap : Nat) (L : List V3) : Prop := w.ownsRow 0 61 3 (.slice (some ⟨g, 0, none⟩) L.length cap) L.length (cells3 L)
theorem OwnV.of {w : World} {base g cap n : Nat} {L : List V3} (h : w.ownsRow base 61 3 (.slice (some ⟨g, 0, none⟩) n cap) n (cells3 L)) : OwnV w g cap L := by
  have hn : n = L.length := by have := h.1; rw [cells3_length] at this; omega
  subst hn
  refine ⟨h.1, ?_⟩
  rcases h.2 with h2 | ⟨g, cap, cur, h1, hb, rest⟩
  · exact .inl h2
  · exact .inr ⟨g, cap, cur, h1, Nat.zero_le _, rest⟩
theorem OwnV.lt {w : World} {g cap : Nat} {L : List V3} (h : OwnV w g cap L) : g < w.heap.size := (World.ownsRow.lt h g rfl).2
theorem OwnV.later {w w' : World} {g cap : Nat} {L : List V3} (h : OwnV w g cap L) (hb : Below w.heap.size w w') : OwnV w' g cap L := by
  refine ⟨h.1, ?_⟩
  rcases h.2 with h2 | ⟨g, cap, cur, h1, hb', hh, rest⟩
  · exact .inl h2
  · exact .inr ⟨g, cap, cur, h1, hb', by rw [hb.block g (Array.getElem?_eq_some_iff.1 hh).1]; exact hh, rest⟩
theorem OwnV.grown {w w' : World} {g g' cap : Nat} {L : List V3} (h : OwnV w g cap L) (hg : w.grownBy w' (some g')) (hne : g ≠ g') : OwnV w' g cap L :=
  World.ownsRow.kept h hg (.inr (by simp [Value.ownBlock]; exact hne))
theorem OwnV.rd {w : World} {g cap : Nat} {L : List V3} (h : OwnV w g cap L) : RdV w (some ⟨g, 0, none⟩) L := by
  obtain ⟨a, c, e, hr, -⟩ := rdV_owns h
  simp only [Value.slice.injEq] at e
  rw [e.1]; exact hr
theorem OwnV.cap {w : World} {g cap : Nat} {L : List V3} (h : OwnV w g cap L) : L.length ≤ cap := by
  rcases h.2 with ⟨h1, _⟩ | ⟨g', cap', cur, h1, hb', hh, hnc, _⟩
  · simp at h1
  · simp only [Value.slice.injEq] at h1; omega
end Go.Proofs.YtbellpalomiokadDoor
/-
  Rows of elements of three cells each, whatever the element: their cells, one by one, and a store of one element.
-/
namespace Go.Proofs.YtbellpalomiokadDoor
open Go.RowKit
set_option linter.unusedVariables false

def rowOf {α : Type} (f : α → List Value) (L : List α) : List Value := L.flatMap f
theorem rowOf_cons {α : Type} (f : α → List Value) (x : α) (L : List α) : rowOf f (x :: L) = f x ++ rowOf f L := by simp [rowOf]
theorem rowOf_append {α : Type} (f : α → List Value) (L M : List α) : rowOf f (L ++ M) = rowOf f L ++ rowOf f M := by simp [rowOf]
theorem rowOf_length {α : Type} {f : α → List Value} {k : Nat} (hk : ∀ x, (f x).length = k) : ∀ L : List α, (rowOf f L).length = L.length * k
  | [] => by simp [rowOf]
  | x :: r => by rw [rowOf_cons, List.length_append, hk, rowOf_length hk r, List.length_cons, Nat.succ_mul, Nat.add_comm]
theorem rowOf_get {α : Type} {f : α → List Value} {k : Nat} (hk : ∀ x, (f x).length = k) : ∀ (L : List α) (i j : Nat) (hi : i < L.length), j < k → (rowOf f L)[i * k + j]? = (f L[i])[j]?
  | [], i, j, hi, _ => absurd hi (Nat.not_lt_zero _)
  | x :: r, 0, j, hi, hj => by rw [rowOf_cons, Nat.zero_mul, Nat.zero_add, List.getElem?_append_left (by rw [hk]; exact hj)]; rfl
  | x :: r, i + 1, j, hi, hj => by
    rw [rowOf_cons, List.getElem?_append_right (by rw [hk, Nat.succ_mul]; omega), hk, show (i + 1) * k + j - k = i * k + j by rw [Nat.succ_mul]; omega]
    exact rowOf_get hk r i j (by simpa using hi) hj
theorem len3 {l : List Value} (h : l.length = 3) : ∃ a b c, l = [a, b, c] := by
  match l, h with
  | [a, b, c], _ => exact ⟨a, b, c, rfl⟩
theorem rowOf_set3 {α : Type} {f : α → List Value} (hk : ∀ x, (f x).length = 3) (x : α) (c0 c1 c2 : Value) (hx : f x = [c0, c1, c2]) : ∀ (L : List α) (i : Nat), i < L.length →
    (((rowOf f L).set (i * 3) c0).set (i * 3 + 1) c1).set (i * 3 + 2) c2 = rowOf f (L.set i x)
  | [], i, hi => absurd hi (Nat.not_lt_zero _)
  | y :: r, 0, hi => by
    obtain ⟨a, b, c, e⟩ := len3 (hk y)
    rw [rowOf_cons, e, List.set_cons_zero, rowOf_cons, hx]
    rfl
  | y :: r, i + 1, hi => by
    obtain ⟨a, b, c, e⟩ := len3 (hk y)
    have ih := rowOf_set3 hk x c0 c1 c2 hx r i (by simpa using hi)
    rw [rowOf_cons, e, List.set_cons_succ, rowOf_cons, ← ih, e]
    simp only [Nat.succ_mul]
    rfl
theorem rowOf_replicate {α : Type} {f : α → List Value} {x : α} {c0 c1 c2 : Value} (hx : f x = [c0, c1, c2]) (n : Nat) : (madeCells #[c0, c1, c2] (n * 3)).toList = rowOf f (List.replicate n x) := by
  induction n with
  | zero => simp [madeCells, rowOf]
  | succ n ih =>
    apply List.ext_getElem?
    intro j
    rw [List.replicate_succ, rowOf_cons, hx]
    by_cases hj : j < 3
    · match j, hj with
      | 0, _ => simp [madeCells, show 0 < (n + 1) * 3 by omega]
      | 1, _ => simp [madeCells, show 1 < (n + 1) * 3 by omega]
      | 2, _ => simp [madeCells, show 2 < (n + 1) * 3 by omega]
    · rw [List.getElem?_append_right (by simp; omega), ← ih]
      simp only [List.length_cons, List.length_nil]
      by_cases hl : j < (n + 1) * 3
      · have h1 : j - 3 < n * 3 := by omega
        have h2 : (j - 3) % 3 = j % 3 := by omega
        simp [madeCells, hl, h1, h2]
      · have h1 : ¬ j - 3 < n * 3 := by omega
        simp [madeCells, hl, h1]
end Go.Proofs.YtbellpalomiokadDoor
/-
  Items as they lie in memory (It), rows of them, and what a slice of items reads as (RdI).
-/
namespace Go.Proofs.YtbellpalomiokadDoor
open Go.RowKit
set_option linter.unusedVariables false

/-- an item as it lies: its Id, its fact's kind, where the fact's values lie, and which they are -/
structure It where
  id : Int
  kd : ByteArray
  a : Option Addr
  cap : Nat
  L : List V3
instance : Inhabited It := ⟨⟨0, ⟨#[]⟩, none, 0, []⟩⟩
/-- an item, plainly -/
structure P4 where
  id : Int
  kd : ByteArray
  L : List V3
instance : Inhabited P4 := ⟨⟨0, ⟨#[]⟩, []⟩⟩
theorem P4.ext' {a b : P4} (h1 : a.id = b.id) (h2 : a.kd = b.kd) (h3 : a.L = b.L) : a = b := by cases a; cases b; simp_all
def It.pl (x : It) : P4 := ⟨x.id, x.kd, x.L⟩
def It.cells (x : It) : List Value := [.int .i64 x.id, .string x.kd, .slice x.a x.L.length x.cap]
theorem It.cells_length (x : It) : x.cells.length = 3 := rfl
def iAt (J : List It) (i : Nat) : It := J.getD i default
theorem iAt_in {J : List It} {i : Nat} (h : i < J.length) : iAt J i = J[i] := by simp [iAt, List.getD, h]
theorem iAt_set {J : List It} {k : Nat} (h : k < J.length) (x : It) (i : Nat) : iAt (J.set k x) i = if i = k then x else iAt J i := by
  unfold iAt List.getD
  rw [List.getElem?_set]
  by_cases e : k = i
  · subst e; rw [if_pos rfl, if_pos rfl, if_pos h]; rfl
  · rw [if_neg e, if_neg (fun h => e h.symm)]
theorem pl_ext {J K : List It} (hl : J.length = K.length) (h : ∀ i, i < J.length → (iAt J i).pl = (iAt K i).pl) : J.map It.pl = K.map It.pl := by
  apply List.ext_getElem (by simpa using hl)
  intro i h1 h2
  have hi : i < J.length := by simpa using h1
  have := h i hi
  rw [iAt_in hi, iAt_in (by omega)] at this
  simpa using this
theorem pl_len {J K : List It} (h : J.map It.pl = K.map It.pl) : J.length = K.length := by simpa using congrArg List.length h
theorem pl_at {J K : List It} (h : J.map It.pl = K.map It.pl) {i : Nat} (hi : i < J.length) : (iAt J i).id = (iAt K i).id ∧ (iAt J i).kd = (iAt K i).kd ∧ (iAt J i).L = (iAt K i).L := by
  have hk : i < K.length := by rw [← pl_len h]; exact hi
  have e : (J.map It.pl)[i]? = (K.map It.pl)[i]? := by rw [h]
  rw [List.getElem?_map, List.getElem?_map, List.getElem?_eq_getElem hi, List.getElem?_eq_getElem hk] at e
  simp only [Option.map_some, Option.some.injEq, It.pl, P4.mk.injEq] at e
  rw [iAt_in hi, iAt_in hk]
  exact e

/-- what the slice at 'a' reads as -/
def RdI (w : World) (a : Option Addr) (J : List It) : Prop :=
  ∀ i, i < J.length → ∃ b off, a = some ⟨b, off, none⟩ ∧ w.cell? ⟨b, off + i * 3, none⟩ = some (.int .i64 (iAt J i).id) ∧ w.cell? ⟨b, off + i * 3 + 1, none⟩ = some (.string (iAt J i).kd) ∧ w.cell? ⟨b, off + i * 3 + 2, none⟩ = some (.slice (iAt J i).a (iAt J i).L.length (iAt J i).cap) ∧ RdV w (iAt J i).a (iAt J i).L
theorem RdI.open {w : World} {a : Option Addr} {J : List It} (h : RdI w a J) (hp : 0 < J.length) :
    ∃ b off, a = some ⟨b, off, none⟩ ∧ b < w.heap.size ∧ ∀ i, i < J.length → w.cell? ⟨b, off + i * 3, none⟩ = some (.int .i64 (iAt J i).id) ∧ w.cell? ⟨b, off + i * 3 + 1, none⟩ = some (.string (iAt J i).kd) ∧ w.cell? ⟨b, off + i * 3 + 2, none⟩ = some (.slice (iAt J i).a (iAt J i).L.length (iAt J i).cap) ∧ RdV w (iAt J i).a (iAt J i).L := by
  obtain ⟨b, off, rfl, h0, -, -, -⟩ := h 0 hp
  refine ⟨b, off, rfl, World.block_lt_of_cell? w _ h0, fun i hi => ?_⟩
  obtain ⟨b2, off2, e, h1⟩ := h i hi
  simp only [Option.some.injEq, Addr.mk.injEq] at e
  rw [e.1, e.2.1]; exact h1
theorem RdI.below {w w' : World} {a : Option Addr} {J : List It} (h : RdI w a J) (hb : Below w.heap.size w w') : RdI w' a J := by
  intro i hi
  obtain ⟨b, off, e, h0, h1, h2, h3⟩ := h i hi
  have k : ∀ {p : Addr} {v : Value}, w.cell? p = some v → w'.cell? p = some v := fun {p v} h => by rw [hb.cell (World.block_lt_of_cell? w _ h)]; exact h
  exact ⟨b, off, e, k h0, k h1, k h2, h3.below hb⟩
theorem RdI.nil (w : World) (a : Option Addr) : RdI w a [] := fun i hi => absurd hi (Nat.not_lt_zero _)
/-- what a call's own row of items reads as -/
theorem rdI_owns {w : World} {base n : Nat} {T : TypeId} {a : Option Addr} {m cap : Nat} {J : List It} (h : w.ownsRow base T 3 (.slice a m cap) n (rowOf It.cells J)) (hv : ∀ i, i < J.length → RdV w (iAt J i).a (iAt J i).L) :
    RdI w a J ∧ n = J.length ∧ m = J.length := by
  have hn : n = J.length := by have := h.1; rw [rowOf_length It.cells_length] at this; omega
  subst hn
  rcases h.2 with ⟨h1, h0⟩ | ⟨g, cap', cur, h1, hb, hg, hnc, hcm, hsz, htake⟩
  · simp only [Value.slice.injEq] at h1
    exact ⟨fun i hi => by omega, rfl, by omega⟩
  · simp only [Value.slice.injEq] at h1
    obtain ⟨rfl, rfl, rfl⟩ := h1
    refine ⟨fun i hi => ⟨g, 0, rfl, ?_⟩, rfl, rfl⟩
    have e0 := h.cellAt (i * 3) (by omega)
    have e1 := h.cellAt (i * 3 + 1) (by omega)
    have e2 := h.cellAt (i * 3 + 2) (by omega)
    have g0 := rowOf_get It.cells_length J i 0 hi (by omega)
    have g1 := rowOf_get It.cells_length J i 1 hi (by omega)
    have g2 := rowOf_get It.cells_length J i 2 hi (by omega)
    rw [Nat.add_zero] at g0
    rw [Nat.zero_add, iAt_in hi]
    have := hv i hi
    rw [iAt_in hi] at this
    exact ⟨by rw [e0]; exact g0, by rw [e1]; exact g1, by rw [e2]; exact g2, this⟩
end Go.Proofs.YtbellpalomiokadDoor
/-
  A fact that came in: its kind, and what its list of values reads as.
-/
namespace Go.Proofs.YtbellpalomiokadDoor
open Go.ChangeShapes Go.WideShapes Go.ChangeAt Go.RowKit Go.Joins Go.Deep
set_option linter.unusedVariables false
set_option maxRecDepth 100000

/-- a list of values that came in -/
def IsVals (w : World) (a : Option Addr) (len cap : Nat) (L : List V3) : Prop := L.length = len ∧ len ≤ maxLen ∧ RdV w a L ∧ ∀ v ∈ L, v.S.size ≤ maxLen

end Go.Proofs.YtbellpalomiokadDoor
/-
  A store that came in: what its list of items reads as.
-/
namespace Go.Proofs.YtbellpalomiokadDoor
open Go.ChangeShapes Go.WideShapes Go.ChangeAt Go.RowKit Go.Joins Go.Deep
set_option linter.unusedVariables false
set_option maxRecDepth 100000

/-- lengths that a machine may hold -/
def okI (x : It) : Prop := x.kd.size ≤ maxLen ∧ x.L.length ≤ maxLen ∧ ∀ v ∈ x.L, v.S.size ≤ maxLen
/-- a list of items that came in -/
def IsItems (w : World) (a : Option Addr) (len cap : Nat) (J : List It) : Prop := J.length = len ∧ len ≤ maxLen ∧ RdI w a J ∧ ∀ i, i < J.length → okI (iAt J i)

end Go.Proofs.YtbellpalomiokadDoor
/-
  The contracts of the laws' own helpers on values: toVal copies, szVal counts the text's bytes off.
-/
namespace Go.Proofs.YtbellpalomiokadDoor
open Go.RowKit
set_option linter.unusedVariables false

end Go.Proofs.YtbellpalomiokadDoor
/-
  The contract of the laws' own comparison of values: a value is the same as itself.
-/
namespace Go.Proofs.YtbellpalomiokadDoor
open Go.RowKit
set_option linter.unusedVariables false

end Go.Proofs.YtbellpalomiokadDoor
/-
  Six cells (two values in memory) are kept where all that was there is.
-/
namespace Go.Proofs.YtbellpalomiokadDoor
open Go.RowKit
set_option linter.unusedVariables false

theorem keep6 {W w' : World} {a0 a1 a2 a3 a4 a5 : Addr} {v0 v1 v2 v3 v4 v5 : Value} (hb : Below W.heap.size W w')
    (h : W.cell? a0 = some v0 ∧ W.cell? a1 = some v1 ∧ W.cell? a2 = some v2 ∧ W.cell? a3 = some v3 ∧ W.cell? a4 = some v4 ∧ W.cell? a5 = some v5) :
    w'.cell? a0 = some v0 ∧ w'.cell? a1 = some v1 ∧ w'.cell? a2 = some v2 ∧ w'.cell? a3 = some v3 ∧ w'.cell? a4 = some v4 ∧ w'.cell? a5 = some v5 := by
  obtain ⟨h0, h1, h2, h3, h4, h5⟩ := h
  have k : ∀ {a : Addr} {v : Value}, W.cell? a = some v → w'.cell? a = some v := fun {a v} h => by rw [hb.cell (World.block_lt_of_cell? W _ h)]; exact h
  exact ⟨k h0, k h1, k h2, k h3, k h4, k h5⟩

/-- two values in memory, and all that was there at the head -/
theorem keep7 {w0 W w' : World} {B : Nat} {a0 a1 a2 a3 a4 a5 : Addr} {v0 v1 v2 v3 v4 v5 : Value} (hb : Below W.heap.size W w')
    (h : W.cell? a0 = some v0 ∧ W.cell? a1 = some v1 ∧ W.cell? a2 = some v2 ∧ W.cell? a3 = some v3 ∧ W.cell? a4 = some v4 ∧ W.cell? a5 = some v5 ∧ Below B w0 W ∧ B ≤ W.heap.size) :
    w'.cell? a0 = some v0 ∧ w'.cell? a1 = some v1 ∧ w'.cell? a2 = some v2 ∧ w'.cell? a3 = some v3 ∧ w'.cell? a4 = some v4 ∧ w'.cell? a5 = some v5 ∧ Below B w0 w' ∧ B ≤ w'.heap.size := by
  obtain ⟨h0, h1, h2, h3, h4, h5, h6, h7⟩ := h
  have k : ∀ {a : Addr} {v : Value}, W.cell? a = some v → w'.cell? a = some v := fun {a v} h => by rw [hb.cell (World.block_lt_of_cell? W _ h)]; exact h
  exact ⟨k h0, k h1, k h2, k h3, k h4, k h5, h6.trans (hb.mono h7), Nat.le_trans h7 hb.size⟩

theorem below_al (w : World) (o : Obj) : Below w.heap.size w (w.alloc o) := (Below.refl _ _).alloc (Nat.le_refl _) _
theorem below_ald (w : World) (o : Obj) : Below w.heap.size w (w.alloc o).drew := (below_al w o).drew
/-- a store of three cells into a block that was made where the two values lay -/
theorem keep7s {w0 W W1 : World} {B : Nat} {a0 a1 a2 a3 a4 a5 : Addr} {v0 v1 v2 v3 v4 v5 x y z : Value}
    (h1 : W1.cell? a0 = some v0 ∧ W1.cell? a1 = some v1 ∧ W1.cell? a2 = some v2 ∧ W1.cell? a3 = some v3 ∧ W1.cell? a4 = some v4 ∧ W1.cell? a5 = some v5 ∧ Below B w0 W1 ∧ B ≤ W1.heap.size)
    (h : W.cell? a0 = some v0 ∧ W.cell? a1 = some v1 ∧ W.cell? a2 = some v2 ∧ W.cell? a3 = some v3 ∧ W.cell? a4 = some v4 ∧ W.cell? a5 = some v5 ∧ Below B w0 W ∧ B ≤ W.heap.size)
    (hq : ∃ c0 c1 c2 T, W.heap[W1.heap.size]? = some (.cells #[c0, c1, c2] T (0, 0))) :
    (((W.setCell ⟨W1.heap.size, 0, none⟩ x).setCell ⟨W1.heap.size, 1, none⟩ y).setCell ⟨W1.heap.size, 2, none⟩ z).cell? a0 = some v0 ∧ (((W.setCell ⟨W1.heap.size, 0, none⟩ x).setCell ⟨W1.heap.size, 1, none⟩ y).setCell ⟨W1.heap.size, 2, none⟩ z).cell? a1 = some v1 ∧ (((W.setCell ⟨W1.heap.size, 0, none⟩ x).setCell ⟨W1.heap.size, 1, none⟩ y).setCell ⟨W1.heap.size, 2, none⟩ z).cell? a2 = some v2 ∧ (((W.setCell ⟨W1.heap.size, 0, none⟩ x).setCell ⟨W1.heap.size, 1, none⟩ y).setCell ⟨W1.heap.size, 2, none⟩ z).cell? a3 = some v3 ∧ (((W.setCell ⟨W1.heap.size, 0, none⟩ x).setCell ⟨W1.heap.size, 1, none⟩ y).setCell ⟨W1.heap.size, 2, none⟩ z).cell? a4 = some v4 ∧ (((W.setCell ⟨W1.heap.size, 0, none⟩ x).setCell ⟨W1.heap.size, 1, none⟩ y).setCell ⟨W1.heap.size, 2, none⟩ z).cell? a5 = some v5 ∧ Below B w0 (((W.setCell ⟨W1.heap.size, 0, none⟩ x).setCell ⟨W1.heap.size, 1, none⟩ y).setCell ⟨W1.heap.size, 2, none⟩ z) ∧ B ≤ (((W.setCell ⟨W1.heap.size, 0, none⟩ x).setCell ⟨W1.heap.size, 1, none⟩ y).setCell ⟨W1.heap.size, 2, none⟩ z).heap.size := by
  obtain ⟨c0, c1, c2, T, hq⟩ := hq
  obtain ⟨-, g⟩ := box_set3 hq x y z
  generalize ((W.setCell ⟨W1.heap.size, 0, none⟩ x).setCell ⟨W1.heap.size, 1, none⟩ y).setCell ⟨W1.heap.size, 2, none⟩ z = Y at g ⊢
  obtain ⟨p0, p1, p2, p3, p4, p5, p6, p7⟩ := h1
  obtain ⟨h0, h1, h2, h3, h4, h5, h6, h7⟩ := h
  have k : ∀ {a : Addr} {u v : Value}, W1.cell? a = some u → W.cell? a = some v → Y.cell? a = some v := fun {a u v} p h => g.cell h (by have := World.block_lt_of_cell? W1 _ p; simp; omega)
  exact ⟨k p0 h0, k p1 h1, k p2 h2, k p3 h3, k p4 h4, k p5 h5, h6.grown g h7 (fun j hj => by cases hj; exact p7), Nat.le_trans h7 g.size⟩
theorem below_dr {w u : World} (k : Below w.drew.heap.size w.drew u) : Below w.heap.size w u := (Below.refl w.heap.size w).drew.trans k
theorem below_step {w u v : World} (h : Below w.heap.size w u) (k : Below u.heap.size u v) : Below w.heap.size w v := h.trans (k.mono h.size)
theorem below_end {w u : World} (h : Below w.heap.size w u) (o : Obj) : Below w.heap.size w (u.alloc o) := h.alloc h.size o
theorem box_step {w w' : World} {R : Nat} {o : Obj} (h : w.heap[R]? = some o) (hb : Below w.heap.size w w') : w'.heap[R]? = some o := box_below h hb (Array.getElem?_eq_some_iff.1 h).1
theorem box_newd (w : World) (c0 c1 c2 : Value) (T : TypeId) : (w.alloc (.cells #[c0, c1, c2] T)).drew.heap[w.heap.size]? = some (.cells #[c0, c1, c2] T (0, 0)) := box_new w c0 c1 c2 T
end Go.Proofs.YtbellpalomiokadDoor
/-
  The contracts of the laws' own helpers on rows of values and on facts.
-/
namespace Go.Proofs.YtbellpalomiokadDoor
open Go.RowKit
set_option linter.unusedVariables false

theorem Tryd.info61 : (Tryd.prog.info? 61).map (fun i => (i.zero, i.size, i.bytes)) = some (some (.agg #[.int .i64 0, .int .i64 0, .string ⟨#[]⟩]), 3, 32) := by kernel_rfl

/-- the first k values copied, the rest still zero -/
def partV (L : List V3) (k : Nat) : List V3 := L.take k ++ List.replicate (L.length - k) ⟨0, 0, ⟨#[]⟩⟩
theorem partV_length {L : List V3} {k : Nat} (h : k ≤ L.length) : (partV L k).length = L.length := by simp [partV]; omega
theorem partV_zero (L : List V3) : partV L 0 = List.replicate L.length ⟨0, 0, ⟨#[]⟩⟩ := by simp [partV]
theorem partV_end (L : List V3) : partV L L.length = L := by simp [partV]
theorem cells3_set (L M : List V3) (v : V3) (x : V3) :
    (((cells3 (L ++ x :: M)).set (L.length * 3) (.int .i64 v.K)).set (L.length * 3 + 1) (.int .i64 v.N)).set (L.length * 3 + 2) (.string v.S) = cells3 (L ++ v :: M) := by
  have e : ∀ y : V3, cells3 (L ++ y :: M) = cells3 L ++ (.int .i64 y.K :: .int .i64 y.N :: .string y.S :: cells3 M) := fun y => by simp [cells3]
  have hl := cells3_length L
  rw [e, e, List.set_append_right _ _ (by omega), hl, Nat.sub_self, List.set_append_right _ _ (by omega), hl, List.set_append_right _ _ (by omega), hl]
  simp
theorem partV_set {L : List V3} {k : Nat} (h : k < L.length) :
    (((cells3 (partV L k)).set (k * 3) (.int .i64 (vAt L k).K)).set (k * 3 + 1) (.int .i64 (vAt L k).N)).set (k * 3 + 2) (.string (vAt L k).S) = cells3 (partV L (k + 1)) := by
  have h1 : partV L k = L.take k ++ ⟨0, 0, ⟨#[]⟩⟩ :: List.replicate (L.length - (k + 1)) ⟨0, 0, ⟨#[]⟩⟩ := by
    unfold partV; rw [show L.length - k = (L.length - (k + 1)) + 1 by omega, List.replicate_succ]
  have h2 : partV L (k + 1) = L.take k ++ vAt L k :: List.replicate (L.length - (k + 1)) ⟨0, 0, ⟨#[]⟩⟩ := by
    unfold partV; rw [List.take_succ_eq_append_getElem h, vAt_in h, List.append_assoc]; rfl
  have := cells3_set (L.take k) (List.replicate (L.length - (k + 1)) ⟨0, 0, ⟨#[]⟩⟩) (vAt L k) ⟨0, 0, ⟨#[]⟩⟩
  rw [List.length_take, Nat.min_eq_left (by omega)] at this
  rw [h1, h2]; exact this
theorem made3 (n : Nat) : (madeCells #[Value.int .i64 0, .int .i64 0, .string ⟨#[]⟩] (n * 3)).toList = cells3 (List.replicate n ⟨0, 0, ⟨#[]⟩⟩) := by
  have hl : (madeCells #[Value.int .i64 0, .int .i64 0, .string ⟨#[]⟩] (n * 3)).toList.length = n * 3 := by simp [madeCells]
  apply List.ext_getElem?
  intro j
  by_cases hj : j < n * 3
  · obtain ⟨i, r, rfl, hr⟩ : ∃ i r, j = i * 3 + r ∧ r < 3 := ⟨j / 3, j % 3, by omega, by omega⟩
    have hi : i < (List.replicate n (⟨0, 0, ⟨#[]⟩⟩ : V3)).length := by simp; omega
    obtain ⟨g0, g1, g2⟩ := cells3_get (List.replicate n ⟨0, 0, ⟨#[]⟩⟩) i hi
    have ev : vAt (List.replicate n (⟨0, 0, ⟨#[]⟩⟩ : V3)) i = ⟨0, 0, ⟨#[]⟩⟩ := by rw [vAt_in hi]; simp
    rw [ev] at g0 g1 g2
    match r, hr with
    | 0, _ => rw [Nat.add_zero, g0]; simp [madeCells, show i * 3 < n * 3 by omega]
    | 1, _ => rw [g1]; simp [madeCells, show i * 3 + 1 < n * 3 by omega, show (i * 3 + 1) % 3 = 1 by omega]
    | 2, _ => rw [g2]; simp [madeCells, show i * 3 + 2 < n * 3 by omega, show (i * 3 + 2) % 3 = 2 by omega]
  · rw [List.getElem?_eq_none (by omega), List.getElem?_eq_none (by rw [cells3_length]; simp; omega)]

theorem ownsRow_below {w w' : World} {base n size : Nat} {e : TypeId} {v : Value} {xs : List Value} (h : w.ownsRow base e size v n xs) (hb : Below w.heap.size w w') : w'.ownsRow base e size v n xs := by
  refine ⟨h.1, ?_⟩
  rcases h.2 with h2 | ⟨g, cap, cur, h1, hb', hh, rest⟩
  · exact .inl h2
  · exact .inr ⟨g, cap, cur, h1, hb', by rw [hb.block g (Array.getElem?_eq_some_iff.1 hh).1]; exact hh, rest⟩

def szL (L : List V3) : Nat := L.length + (L.map fun v => v.S.size).sum
def sumS (L : List V3) (k : Nat) : Nat := ((L.take k).map fun v => v.S.size).sum
theorem sumS_step {L : List V3} {k : Nat} (h : k < L.length) : sumS L (k + 1) = sumS L k + (vAt L k).S.size := by
  unfold sumS; rw [List.take_succ_eq_append_getElem h, vAt_in h, List.map_append, List.sum_append]; simp only [List.map_cons, List.map_nil, List.sum_cons, List.sum_nil, Nat.add_zero]
theorem sumS_end (L : List V3) : sumS L L.length = (L.map fun v => v.S.size).sum := by unfold sumS; rw [List.take_length]
theorem mem_sum : ∀ {l : List Nat} {x : Nat}, x ∈ l → x ≤ l.sum
  | y :: r, x, h => by
    rw [List.sum_cons]
    rcases List.mem_cons.1 h with rfl | h
    · omega
    · have := mem_sum h; omega
theorem szL_mem {L : List V3} {v : V3} (h : v ∈ L) : v.S.size + L.length ≤ szL L := by
  unfold szL
  have : v.S.size ≤ (L.map fun v => v.S.size).sum := mem_sum (List.mem_map.2 ⟨v, h, rfl⟩)
  omega

end Go.Proofs.YtbellpalomiokadDoor
/-
  The contracts of the laws' own helpers on facts: toFact copies, eqFact finds a fact the same as itself.
-/
namespace Go.Proofs.YtbellpalomiokadDoor
open Go.RowKit
set_option linter.unusedVariables false

end Go.Proofs.YtbellpalomiokadDoor
/-
  The contracts of the laws' own helpers on items and stores: how great they are, their copies, and that one is the same as itself.
-/
namespace Go.Proofs.YtbellpalomiokadDoor
open Go.RowKit
set_option linter.unusedVariables false

def szI (x : It) : Nat := x.kd.size + szL x.L
def szJ (J : List It) (k : Nat) : Nat := ((J.take k).map szI).sum
theorem szJ_step {J : List It} {k : Nat} (h : k < J.length) : szJ J (k + 1) = szJ J k + szI (iAt J k) := by
  unfold szJ; rw [List.take_succ_eq_append_getElem h, iAt_in h, List.map_append, List.sum_append]; simp only [List.map_cons, List.map_nil, List.sum_cons, List.sum_nil, Nat.add_zero]
def szSt (J : List It) : Nat := J.length + (J.map szI).sum
theorem szJ_end (J : List It) : szJ J J.length = (J.map szI).sum := by unfold szJ; rw [List.take_length]
theorem szSt_mem {J : List It} {i : Nat} (hi : i < J.length) : szI (iAt J i) + J.length ≤ szSt J := by
  unfold szSt
  have : szI (iAt J i) ≤ (J.map szI).sum := mem_sum (List.mem_map.2 ⟨_, by rw [iAt_in hi]; exact List.getElem_mem hi, rfl⟩)
  omega

end Go.Proofs.YtbellpalomiokadDoor
/-
  The contracts of the laws' own copies of items and stores: what is copied lies in blocks of its own, no two lists in one.
-/
namespace Go.Proofs.YtbellpalomiokadDoor
open Go.RowKit
set_option linter.unusedVariables false

theorem box_set12 {w : World} {q : Nat} {c0 c1 c2 : Value} {T : TypeId} (h : w.heap[q]? = some (.cells #[c0, c1, c2] T (0, 0))) (b c : Value) :
    ((w.setCell ⟨q, 1, none⟩ b).setCell ⟨q, 2, none⟩ c).heap[q]? = some (.cells #[c0, b, c] T (0, 0)) ∧ w.grownBy ((w.setCell ⟨q, 1, none⟩ b).setCell ⟨q, 2, none⟩ c) (some q) := by
  have h2 : (w.setCell ⟨q, 1, none⟩ b).heap[q]? = some (.cells #[c0, b, c2] T (0, 0)) := by rw [heap_setCell_same w q 1 _ T b h]; rfl
  refine ⟨by rw [heap_setCell_same _ q 2 _ T c h2]; rfl, ⟨rfl, rfl, rfl, by simp [World.setCell], fun k _ hk => ?_⟩⟩
  rw [heap_setCell_other _ ⟨q, 2, none⟩ k c (fun e => hk (by simp [e])), heap_setCell_other w ⟨q, 1, none⟩ k b (fun e => hk (by simp [e]))]

/-- a list of values in memory, or none -/
def LieV (a : Option Addr) (n cap : Nat) : Prop := (a = none ∧ n = 0 ∧ cap = 0) ∨ ∃ b off, a = some ⟨b, off, none⟩ ∧ n ≤ cap ∧ cap ≤ maxLen
theorem OwnV.lies {w : World} {g cap : Nat} {L : List V3} (h : OwnV w g cap L) : LieV (some ⟨g, 0, none⟩) L.length cap := by
  refine .inr ⟨g, 0, rfl, h.cap, ?_⟩
  rcases h.2 with ⟨h1, _⟩ | ⟨g', cap', cur, h1, hb', hh, hnc, hcm, _⟩
  · simp at h1
  · simp only [Value.slice.injEq] at h1
    omega
theorem LieV.nil : LieV none 0 0 := .inl ⟨rfl, rfl, rfl⟩
/-- block g holds the items K, at its head; the values of each item that has any lie in a block of their own -/
structure HoldsI (w : World) (lo g cp : Nat) (K : List It) : Prop where
  own : w.ownsRow 0 38 3 (.slice (some ⟨g, 0, none⟩) K.length cp) K.length (rowOf It.cells K)
  low : lo ≤ g
  vals : ∀ i, i < K.length → (iAt K i).L ≠ [] → ∃ q, (iAt K i).a = some ⟨q, 0, none⟩ ∧ lo ≤ q ∧ q ≠ g ∧ OwnV w q (iAt K i).cap (iAt K i).L
  apart : ∀ i j, i < j → j < K.length → (iAt K i).L ≠ [] → (iAt K j).L ≠ [] → (iAt K i).a ≠ (iAt K j).a
  lies : ∀ i, i < K.length → LieV (iAt K i).a (iAt K i).L.length (iAt K i).cap
theorem HoldsI.rd {w : World} {lo g cp : Nat} {K : List It} (h : HoldsI w lo g cp K) : RdI w (some ⟨g, 0, none⟩) K :=
  (rdI_owns h.own (fun i hi => by
    by_cases e : (iAt K i).L = []
    · rw [e]; exact RdV.nil _ _
    · obtain ⟨q, e, -, -, o⟩ := h.vals i hi e; rw [e]; exact o.rd)).1
theorem HoldsI.later {w w' : World} {lo g cp : Nat} {K : List It} (h : HoldsI w lo g cp K) (hb : Below w.heap.size w w') : HoldsI w' lo g cp K :=
  ⟨ownsRow_below h.own hb, h.low, fun i hi hne => by obtain ⟨q, e, h1, h2, o⟩ := h.vals i hi hne; exact ⟨q, e, h1, h2, o.later hb⟩, h.apart, h.lies⟩
theorem HoldsI.lt {w : World} {lo g cp : Nat} {K : List It} (h : HoldsI w lo g cp K) : g < w.heap.size := (World.ownsRow.lt h.own g rfl).2
theorem HoldsI.grown {w w' : World} {lo g cp q : Nat} {K : List It} (h : HoldsI w lo g cp K) (hg : w.grownBy w' (some q)) (hlo : q < lo) : HoldsI w' lo g cp K := by
  refine ⟨World.ownsRow.kept h.own hg (.inr ?_), h.low, fun i hi hne => ?_, h.apart, h.lies⟩
  · have := h.low
    simp [Value.ownBlock]; omega
  · obtain ⟨p, e, h1, h2, o⟩ := h.vals i hi hne
    exact ⟨p, e, h1, h2, o.grown hg (by omega)⟩
theorem HoldsI.weaken {w : World} {lo lo' g cp : Nat} {K : List It} (h : HoldsI w lo g cp K) (hl : lo' ≤ lo) : HoldsI w lo' g cp K :=
  ⟨h.own, Nat.le_trans hl h.low, fun i hi hne => by obtain ⟨p, e, h1, h2, o⟩ := h.vals i hi hne; exact ⟨p, e, Nat.le_trans hl h1, h2, o⟩, h.apart, h.lies⟩
theorem grown_tr {a b c : World} {row : Option Nat} (h : a.grownBy b row) (k : b.grownBy c row) : a.grownBy c row :=
  ⟨k.os.trans h.os, k.tape.trans h.tape, k.output.trans h.output, Nat.le_trans h.size k.size, fun i hi hne => (k.block i (Nat.lt_of_lt_of_le hi h.size) hne).trans (h.block i hi hne)⟩

/-- the first k items are copied -/
def Copied (w : World) (lo g : Nat) (J K : List It) (k : Nat) : Prop :=
  (∀ i, i < k → (iAt K i).pl = (iAt J i).pl ∧ ((iAt K i).L ≠ [] → ∃ q, (iAt K i).a = some ⟨q, 0, none⟩ ∧ lo ≤ q ∧ q ≠ g ∧ OwnV w q (iAt K i).cap (iAt K i).L) ∧ LieV (iAt K i).a (iAt K i).L.length (iAt K i).cap) ∧ ∀ i j, i < j → j < k → (iAt K i).L ≠ [] → (iAt K j).L ≠ [] → (iAt K i).a ≠ (iAt K j).a
theorem Copied.zero (w : World) (lo g : Nat) (J K : List It) : Copied w lo g J K 0 := ⟨fun i hi => absurd hi (Nat.not_lt_zero _), fun i j _ hj => absurd hj (Nat.not_lt_zero _)⟩
/-- one item more: its values are none, or lie in a block that is new -/
theorem Copied.more {w w1 w2 : World} {lo g : Nat} {J K K' : List It} {k : Nat} {x : It} (h : Copied w lo g J K k) (hb : Below w.heap.size w w1) (hg : w1.grownBy w2 (some g)) (hsame : ∀ i, i < k → iAt K' i = iAt K i) (hnew : iAt K' k = x) (hx : x.pl = (iAt J k).pl)
    (hq : x.L ≠ [] → ∃ q, x.a = some ⟨q, 0, none⟩ ∧ w.heap.size ≤ q ∧ OwnV w1 q x.cap x.L) (hli : LieV x.a x.L.length x.cap) (hlo : lo ≤ w.heap.size) (hgl : g < w.heap.size) : Copied w2 lo g J K' (k + 1) := by
  refine ⟨fun i hi => ?_, fun i j hij hj => ?_⟩
  · by_cases e : i = k
    · rw [e, hnew]
      exact ⟨hx, fun hne => by obtain ⟨q, h1, h2, o⟩ := hq hne; exact ⟨q, h1, by omega, by omega, o.grown hg (by omega)⟩, hli⟩
    · rw [hsame i (by omega)]
      obtain ⟨h2, h3, h4⟩ := h.1 i (by omega)
      exact ⟨h2, fun hne => by obtain ⟨p, h5, h6, h7, h8⟩ := h3 hne; exact ⟨p, h5, h6, h7, (h8.later hb).grown hg h7⟩, h4⟩
  · rw [hsame i (by omega)]
    intro hne
    by_cases e : j = k
    · rw [e, hnew]
      intro hne2
      obtain ⟨q, h1, h2, -⟩ := hq hne2
      obtain ⟨p, h3, -, -, h6⟩ := (h.1 i (by omega)).2.1 hne
      rw [h3, h1]
      have := h6.lt
      intro he
      simp only [Option.some.injEq, Addr.mk.injEq, and_true] at he
      omega
    · rw [hsame j (by omega)]
      exact h.2 i j hij (by omega) hne
theorem Copied.step {w w1 w2 : World} {lo g : Nat} {J K : List It} {k q : Nat} {x : It} (h : Copied w lo g J K k) (hb : Below w.heap.size w w1) (hg : w1.grownBy w2 (some g)) (hk : k < K.length) (hx : x.pl = (iAt J k).pl)
    (hq : x.a = some ⟨q, 0, none⟩) (h1 : w.heap.size ≤ q) (hlo : lo ≤ w.heap.size) (hgl : g < w.heap.size) (o : OwnV w1 q x.cap x.L) : Copied w2 lo g J (K.set k x) (k + 1) :=
  h.more hb hg (fun i hi => by rw [iAt_set hk, if_neg (by omega)]) (by rw [iAt_set hk, if_pos rfl]) hx (fun _ => ⟨q, hq, h1, o⟩) (by rw [hq]; exact o.lies) hlo hgl
theorem Copied.done {w : World} {lo g cp : Nat} {J K : List It} (h : Copied w lo g J K K.length) (hl : K.length = J.length) (hlo : lo ≤ g) (o : w.ownsRow lo 38 3 (.slice (some ⟨g, 0, none⟩) K.length cp) K.length (rowOf It.cells K)) : HoldsI w lo g cp K ∧ K.map It.pl = J.map It.pl := by
  refine ⟨⟨?_, hlo, fun i hi => (h.1 i hi).2.1, h.2, fun i hi => (h.1 i hi).2.2⟩, pl_ext hl (fun i hi => (h.1 i hi).1)⟩
  refine ⟨o.1, ?_⟩
  rcases o.2 with h2 | ⟨g, cap, cur, h1, hb, rest⟩
  · exact .inl h2
  · exact .inr ⟨g, cap, cur, h1, Nat.zero_le _, rest⟩

theorem Tryd.info38 : (Tryd.prog.info? 38).map (fun i => (i.zero, i.size, i.bytes)) = some (some (.agg #[.int .i64 0, .string ⟨#[]⟩, .slice none 0 0]), 3, 48) := by kernel_rfl
theorem It.zero_cells : It.cells ⟨0, ⟨#[]⟩, none, 0, []⟩ = [.int .i64 0, .string ⟨#[]⟩, .slice none 0 0] := rfl

end Go.Proofs.YtbellpalomiokadDoor
/-
  Copies of a fact: the model's and the tested one: the same values, in a row of the call's own.
-/
namespace Go.Proofs.YtbellpalomiokadDoor
open Go.RowKit
set_option linter.unusedVariables false

theorem src_zero {P : Program} {w : World} {size : Nat} {t e : TypeId} (hk : P.underlying t = some (.slice e)) (ad : Option Addr) (c : Nat) : Src P size t (.slice ad 0 c) 0 [] w := by
  cases ad with
  | none => exact Src.ofNil w hk c
  | some a => exact Src.ofSlice w hk a 0 c [] (by simp) (fun j u h => by simp at h) (fun _ h => by cases h)
theorem wpList_append_zero {P : Program} {w : World} {ops : Array Oper} {rest : List Oper} {o : Oper} {a : Act} {Q : Exit → Act → World → Prop} (hgd : o.guard = none) (s x : Operand) (t : TypeId)
    (ho : o.op = .call { callee := .builtin .append, args := #[s, x], argTypes := #[t, t] }) (e : TypeId) (i : TypeInfo) (ht : P.underlying t = some (.slice e)) (hi : P.info? e = some i)
    (b : Option Addr) (n cap : Nat) (hs : a.eval s = .slice b n cap) (hle : n ≤ cap) (ad : Option Addr) (c : Nat) (hx : a.eval x = .slice ad 0 c)
    (h : wpList P ops Q rest (a.put o.dst (.slice b n cap)) w) : wpList P ops Q (o :: rest) a w := by
  refine wpList_plain hgd fun K hK => ?_
  have hrun := run_append_nothing w t t o.type e i ht hi b n cap hle (.slice ad 0 c) (src_zero ht ad c)
  unfold Oper.wp
  simp [execOp, ho, resolve, invoke, builtin, hs, hx, hrun, Result.andThen]
  exact hK _ _ h
theorem rdV_src {w : World} {b off : Nat} {L : List V3} (h : RdV w (some ⟨b, off, none⟩) L) : ∀ j u, (cells3 L)[j]? = some u → w.cell? ((⟨b, off, none⟩ : Addr).add j) = some u := by
  intro j u hj
  have hl : j < L.length * 3 := by rw [← cells3_length]; exact (List.getElem?_eq_some_iff.1 hj).1
  obtain ⟨i, r, rfl, hr⟩ : ∃ i r, j = i * 3 + r ∧ r < 3 := ⟨j / 3, j % 3, by omega, by omega⟩
  have hi : i < L.length := by omega
  obtain ⟨b', off', e, h0, h1, h2⟩ := h i hi
  simp only [Option.some.injEq, Addr.mk.injEq, and_true] at e
  obtain ⟨rfl, rfl⟩ := e
  obtain ⟨g0, g1, g2⟩ := cells3_get L i hi
  rw [Addr.add_lit]
  match r, hr with
  | 0, _ => rw [Nat.add_zero, g0] at hj; rw [Nat.add_zero, h0]; exact hj
  | 1, _ => rw [g1] at hj; rw [← Nat.add_assoc, h1]; exact hj
  | 2, _ => rw [g2] at hj; rw [← Nat.add_assoc, h2]; exact hj
theorem cells3_one (L : List V3) : ∀ u ∈ cells3 L, u.oneCell' = true := by
  intro u hu
  unfold cells3 at hu
  obtain ⟨v, -, hv⟩ := List.mem_flatMap.1 hu
  simp only [List.mem_cons, List.not_mem_nil, or_false] at hv
  rcases hv with rfl | rfl | rfl <;> rfl
/-- a row of these values, of the call's own -/
def NewV (w : World) (base : Nat) (a : Option Addr) (c : Nat) (L : List V3) : Prop := w.ownsRow base 61 3 (.slice a L.length c) L.length (cells3 L) ∧ LieV a L.length c
theorem NewV.rd {w : World} {base c : Nat} {a : Option Addr} {L : List V3} (h : NewV w base a c L) : RdV w a L := by
  obtain ⟨a', c', e, hr, _⟩ := rdV_owns h.1
  simp only [Value.slice.injEq] at e
  rw [e.1]; exact hr
theorem NewV.of {w : World} {base c g : Nat} {L : List V3} (h : w.ownsRow base 61 3 (.slice (some ⟨g, 0, none⟩) L.length c) L.length (cells3 L)) : NewV w base (some ⟨g, 0, none⟩) c L := ⟨h, (OwnV.of h).lies⟩
theorem NewV.later {w w' : World} {base c : Nat} {a : Option Addr} {L : List V3} (h : NewV w base a c L) (hb : Below w.heap.size w w') : NewV w' base a c L := ⟨ownsRow_below h.1 hb, h.2⟩
theorem NewV.low {w : World} {base base' c : Nat} {a : Option Addr} {L : List V3} (h : NewV w base a c L) (hb : base' ≤ base) : NewV w base' a c L := by
  refine ⟨⟨h.1.1, ?_⟩, h.2⟩
  rcases h.1.2 with h2 | ⟨g, cap, cur, h1, hb', rest⟩
  · exact .inl h2
  · exact .inr ⟨g, cap, cur, h1, by omega, rest⟩
theorem NewV.grown {w w' : World} {base c q : Nat} {a : Option Addr} {L : List V3} (h : NewV w base a c L) (hg : w.grownBy w' (some q)) (hq : q < base) : NewV w' base a c L := by
  refine ⟨World.ownsRow.kept h.1 hg (.inr (fun e => ?_)), h.2⟩
  have := (h.1.lt q e).1
  omega
theorem NewV.own {w : World} {base c : Nat} {a : Option Addr} {L : List V3} (h : NewV w base a c L) (hne : L ≠ []) : ∃ g, a = some ⟨g, 0, none⟩ ∧ base ≤ g ∧ OwnV w g c L := by
  rcases h.1.2 with ⟨h1, h0⟩ | ⟨g, cap, cur, h1, hb, rest⟩
  · exact absurd (List.eq_nil_of_length_eq_zero h0) hne
  · simp only [Value.slice.injEq] at h1
    obtain ⟨rfl, -, rfl⟩ := h1
    exact ⟨g, rfl, hb, OwnV.of h.1⟩
theorem NewV.nil (w : World) (base : Nat) : NewV w base none 0 [] := ⟨World.ownsRow_nil _ _ _ _, LieV.nil⟩
theorem empty_new (w : World) (base : Nat) (hb : base ≤ w.heap.size) : (w.alloc (.cells #[] 61)).ownsRow base 61 3 (.slice (some ⟨w.heap.size, 0, none⟩) 0 0) ([] : List V3).length (cells3 []) := World.ownsRow_lit w #[] 0 hb (Nat.zero_le _) rfl

set_option maxRecDepth 100000 in
set_option maxHeartbeats 1600000 in
theorem clone_any (a : Option Addr) (cap : Nat) (L : List V3) (w : World) (hr : RdV w a L) (hl : LieV a L.length cap) (hn : L.length ≤ 1048580) :
    Calls Tryd.prog 47 #[.slice a L.length cap] w fun e w' => ∃ a' c', e = .returned (.slice a' L.length c') ∧ NewV w' w.heap.size a' c' L ∧ Below w.heap.size w w' := by
  obtain ⟨i0, hi, hz0, hz1, hz2⟩ := info_parts Tryd.info61
  have HL := hide hl
  clear hl
  cases a with
  | none =>
    have hL : L = [] := by
      rcases HL.out with ⟨-, h0, -⟩ | ⟨b, off, e, -⟩
      · exact List.eq_nil_of_length_eq_zero h0
      · cases e
    have hc : cap = 0 := by
      rcases HL.out with ⟨-, -, h0⟩ | ⟨b, off, e, -⟩
      · exact h0
      · cases e
    subst hL hc
    have he : ∀ W : World, (binOp .eql 27 (.slice none 0 0) (.slice none 0 0)).run Tryd.prog W = .ok (.bool true) W := fun _ => rfl
    go_enter Tryd.func47, Tryd.ntmps47
    go_wp2
    go_ret
    exact ⟨none, 0, rfl, NewV.nil _ _, Below.refl _ _⟩
  | some ad =>
    have he : ∀ (W : World) (n c : Nat), (binOp .eql 27 (.slice (some ad) n c) (.slice none 0 0)).run Tryd.prog W = .ok (.bool false) W := fun _ _ _ => rfl
    have b0 := below_al w (.cells #[] 61)
    have HE := hide (empty_new w w.heap.size (Nat.le_refl _))
    by_cases hL : L = []
    · subst hL
      go_enter Tryd.func47, Tryd.ntmps47
      go_wp2_with (at_builtin; refine wpList_append_zero rfl (.tmp 5) (.tmp 6) 27 rfl 61 i0 Tryd.underlying27 hi (some ⟨w.heap.size, 0, none⟩) 0 0 rfl (Nat.le_refl _) (some ad) cap rfl ?_)
      go_ret
      exact ⟨_, _, rfl, NewV.of HE.out, b0⟩
    · obtain ⟨b, off, e0, hbw, -⟩ := hr.open (List.length_pos_iff.2 hL)
      simp only [Option.some.injEq] at e0
      subst e0
      have HSrc := hide (rdV_src (hr.below b0))
      have hpos : 0 < L.length := List.length_pos_iff.2 hL
      obtain ⟨n, hN⟩ : ∃ n, n = L.length := ⟨_, rfl⟩
      have hC := cells3_length L
      rw [← hN] at hn hpos hC ⊢
      have HN := hide hN
      have HC := hide hC
      clear hN hC hr hL
      go_enter Tryd.func47, Tryd.ntmps47
      go_wp2_with (at_builtin; refine wpList_append_lies _ rfl (.tmp 5) (.tmp 6) 27 rfl w.heap.size 61 i0 (.agg #[.int .i64 0, .int .i64 0, .string ⟨#[]⟩]) 3 32 Tryd.underlying27 hi hz0 hz1 hz2 rfl (by omega) (.slice (some ⟨w.heap.size, 0, none⟩) 0 0) 0 [] rfl HE.out ⟨b, off, none⟩ n cap (cells3 L) ?hx HC.out HSrc.out (cells3_one L) hpos (by unfold maxLen; omega) (by omega) b0.size _ rfl ?_)
      case hx => simp [Act.eval]
      intro g5 c5 w5 ho5 hg5 hat5 hlt5
      have HO5 : Hid (NewV w5 w.heap.size (some ⟨g5, 0, none⟩) c5 L) := by
        refine NewV.of ?_
        rw [← HN.out]
        simpa using ho5
      have B5 := b0.grown hg5 b0.size (fun k hk => (HE.out.lt k hk).1)
      clear ho5 hg5 hat5 hlt5
      go_wp2
      go_ret
      exact ⟨_, _, rfl, HO5.out, B5⟩

set_option maxRecDepth 100000 in
set_option maxHeartbeats 1600000 in
theorem l3Copy_any (kd : ByteArray) (a : Option Addr) (cap : Nat) (L : List V3) (w : World) (hr : RdV w a L) (hn : L.length ≤ 1048580) :
    Calls Tryd.prog 48 #[.agg #[.string kd, .slice a L.length cap]] w fun e w' => ∃ a' c', e = .returned (.agg #[.string kd, .slice a' L.length c']) ∧ NewV w' w.heap.size a' c' L ∧ Below w.heap.size w w' := by
  obtain ⟨i0, hi, hz0, hz1, hz2⟩ := info_parts Tryd.info61
  have b0 := below_al w (.cells #[.string kd, .slice a L.length cap] 29)
  have b1 := b0.alloc b0.size (.cells #[.string ⟨#[]⟩, .slice none 0 0] 29)
  have b2 := b1.alloc b1.size (.cells #[] 61)
  have hX := box_old (box_old (box2_new w (.string kd) (.slice a L.length cap) 29) (by simp) (.cells #[.string ⟨#[]⟩, .slice none 0 0] 29)) (by simp; omega) (.cells #[] 61)
  have hR := box_old (box2_new (w.alloc (.cells #[.string kd, .slice a L.length cap] 29)) (.string ⟨#[]⟩) (.slice none 0 0) 29) (by simp) (.cells #[] 61)
  have hE := empty_new ((w.alloc (.cells #[.string kd, .slice a L.length cap] 29)).alloc (.cells #[.string ⟨#[]⟩, .slice none 0 0] 29)) (w.heap.size + 1 + 1) (by simp)
  simp only [World.size_alloc] at hX hR hE
  by_cases hL : L = []
  · subst hL
    clear hX hR hE
    have HB := hide (((below_al w (.cells #[.string kd, .slice (some ⟨w.heap.size + 1 + 1, 0, none⟩) 0 0] 29)).alloc (by simp) (.cells #[.string kd, .slice (some ⟨w.heap.size + 1 + 1, 0, none⟩) 0 0] 29)).alloc (by simp; omega) (.cells #[] 61))
    have hE := empty_new ((w.alloc (.cells #[.string kd, .slice (some ⟨w.heap.size + 1 + 1, 0, none⟩) 0 0] 29)).alloc (.cells #[.string kd, .slice (some ⟨w.heap.size + 1 + 1, 0, none⟩) 0 0] 29)) w.heap.size (by simp; omega)
    simp only [World.size_alloc] at hE
    have HE := hide (NewV.of hE)
    clear hE b0 b1 b2
    go_enter Tryd.func48, Tryd.ntmps48
    go_wp2_with (at_builtin; refine wpList_append_zero rfl (.tmp 3) (.tmp 5) 27 rfl 61 i0 Tryd.underlying27 hi (some ⟨w.heap.size + 1 + 1, 0, none⟩) 0 0 rfl (Nat.le_refl _) a cap rfl ?_)
    exact bodyPost_ret (v := .agg #[.string kd, .slice (some ⟨w.heap.size + 1 + 1, 0, none⟩) 0 0]) (by simp [results, Tryd.results48, go_sem]) rfl ⟨_, _, rfl, HE.out, HB.out⟩
  · obtain ⟨b, off, e0, hbw, -⟩ := hr.open (List.length_pos_iff.2 hL)
    subst e0
    have HSrc := hide (rdV_src (hr.below b2))
    have hpos : 0 < L.length := List.length_pos_iff.2 hL
    obtain ⟨n, hN⟩ : ∃ n, n = L.length := ⟨_, rfl⟩
    have hC := cells3_length L
    rw [← hN] at hn hpos hC hX hR b0 b1 b2 HSrc hE ⊢
    have HN := hide hN
    have HC := hide hC
    have HX := hide hX
    have HR := hide hR
    have HE := hide hE
    have HB := hide b2
    have HZ : Hid (w.heap.size + 1 + 1 ≤ (((w.alloc (.cells #[.string kd, .slice (some ⟨b, off, none⟩) n cap] 29)).alloc (.cells #[.string ⟨#[]⟩, .slice none 0 0] 29)).alloc (.cells #[] 61)).heap.size) := by unfold Hid; simp
    clear hN hC hr hL hX hR hE b0 b1 b2
    go_enter Tryd.func48, Tryd.ntmps48
    go_wp2_with (at_builtin; refine wpList_append_lies _ rfl (.tmp 3) (.tmp 5) 27 rfl (w.heap.size + 1 + 1) 61 i0 (.agg #[.int .i64 0, .int .i64 0, .string ⟨#[]⟩]) 3 32 Tryd.underlying27 hi hz0 hz1 hz2 rfl (by omega) (.slice (some ⟨w.heap.size + 1 + 1, 0, none⟩) 0 0) 0 [] rfl HE.out ⟨b, off, none⟩ n cap (cells3 L) ?hx HC.out HSrc.out (cells3_one L) hpos (by unfold maxLen; omega) (by omega) HZ.out _ rfl ?_)
    case hx => simp [Act.eval]
    intro g5 c5 w5 ho5 hg5 hat5 hlt5
    have HV5 : Hid (NewV w5 (w.heap.size + 1 + 1) (some ⟨g5, 0, none⟩) c5 L) := by
      refine NewV.of ?_
      rw [← HN.out]
      simpa using ho5
    have B5 := HB.out.grown hg5 HB.out.size (fun k hk => Nat.le_trans (by omega) (HE.out.lt k hk).1)
    have HX5 := hide (box_gr HX.out hg5 (show w.heap.size ≠ w.heap.size + 1 + 1 by omega))
    have HR5 := hide (box_gr HR.out hg5 (show w.heap.size + 1 ≠ w.heap.size + 1 + 1 by omega))
    clear ho5 hg5 hat5 hlt5 HSrc HX HR HE HB HZ
    obtain ⟨x0, x1, xf0, xf1⟩ := box2_cell HX5.out
    obtain ⟨r0, r1, rf0, rf1⟩ := box2_cell HR5.out
    have HS := hide (box2_set1 HX5.out (.slice (some ⟨g5, 0, none⟩) n c5))
    have HR2 := hide (box_gr HR5.out HS.out.2 (by omega))
    go_wp2
    refine box2_post HR2.out (fun w4 h4 gr => ?_)
    clear x0 x1 xf0 xf1 r0 r1 rf0 rf1
    obtain ⟨c0, c1, -, -⟩ := box2_cell h4
    exact bodyPost_ret (v := .agg #[.string kd, .slice (some ⟨g5, 0, none⟩) n c5]) (by simp [results, Tryd.results48, go_sem, c0, c1]) rfl
      ⟨_, _, rfl, ((HV5.out.grown HS.out.2 (by omega)).grown gr (by omega)).low (by omega), below_set (B5.grown HS.out.2 B5.size (fun k hk => by cases hk; omega)) gr (by omega)⟩

theorem box_drew {w w' : World} {R : Nat} {o : Obj} (h : w.heap[R]? = some o) (hb : Below w.drew.heap.size w.drew w') : w'.heap[R]? = some o := box_step (w := w.drew) h hb

set_option maxRecDepth 100000 in
set_option maxHeartbeats 3200000 in
theorem copyFact_any (kd : ByteArray) (a : Option Addr) (cap : Nat) (L : List V3) (w : World) (hr : RdV w a L) (hl : LieV a L.length cap) (hn : L.length ≤ 1048580) :
    Calls Tryd.prog 25 #[.agg #[.string kd, .slice a L.length cap]] w fun e w' => ∃ a' c', e = .returned (.agg #[.string kd, .slice a' L.length c']) ∧ NewV w' w.heap.size a' c' L ∧ Below w.heap.size w w' := by
  have b0 := below_al w (.cells #[.string kd, .slice a L.length cap] 29)
  have b1 := b0.alloc b0.size (.cells #[.string ⟨#[]⟩, .slice none 0 0] 29)
  have hX := box_old (box2_new w (.string kd) (.slice a L.length cap) 29) (by simp) (.cells #[.string ⟨#[]⟩, .slice none 0 0] 29)
  have hR := box2_new (w.alloc (.cells #[.string kd, .slice a L.length cap] 29)) (.string ⟨#[]⟩) (.slice none 0 0) 29
  have hz : w.heap.size + 1 + 1 ≤ ((w.alloc (.cells #[.string kd, .slice a L.length cap] 29)).alloc (.cells #[.string ⟨#[]⟩, .slice none 0 0] 29)).heap.size := by simp
  simp only [World.size_alloc] at hX hR
  have HL := hide hl
  clear hl
  go_enter Tryd.func25, Tryd.ntmps25
  go_wp2_with fail
  have r1 := hr.below b1
  generalize (w.alloc (.cells #[.string kd, .slice a L.length cap] 29)).alloc (.cells #[.string ⟨#[]⟩, .slice none 0 0] 29) = w1 at b1 hX hR r1 hz ⊢
  have HX := hide hX
  have HR := hide hR
  obtain ⟨x0, x1, -, -⟩ := box2_cell hX
  have r1d : RdV w1.drew a L := r1.heap rfl
  clear b0 hX hR hr
  go_region_with (first | (go_at_call 47; refine (clone_any a cap L _ r1d HL.out hn).mono ?_; rintro e w2 ⟨a', c', rfl, hv, hb⟩; obtain ⟨y0, y1, -, -⟩ := box2_cell (box_drew HX.out hb); obtain ⟨z0, z1, zf0, zf1⟩ := box2_cell (box_drew HR.out hb)))
  all_goals
    have hB : Below w.heap.size w w2 := b1.trans ((below_dr hb).mono b1.size)
    have hR2 := box_drew HR.out hb
    go_wp2
    refine box2_post hR2 (fun w4 h4 gr => ?_)
    clear x0 x1 y0 y1 z0 z1 zf0 zf1
    obtain ⟨c0, c1, -, -⟩ := box2_cell h4
    exact bodyPost_ret (v := .agg #[.string kd, .slice a' L.length c']) (by simp [results, Tryd.results25, go_sem, c0, c1]) rfl
      ⟨_, _, rfl, (hv.grown gr (by simp; omega)).low (by simp; omega), below_set hB gr (by omega)⟩
end Go.Proofs.YtbellpalomiokadDoor
/-
  Four cells in memory, and whatever else is kept where all that was there is.
-/
namespace Go.Proofs.YtbellpalomiokadDoor
open Go.RowKit
set_option linter.unusedVariables false

theorem keep4 {P : World → Prop} {W w' : World} {p0 p1 p2 p3 : Addr} {v0 v1 v2 v3 : Value} (hP : ∀ {W W' : World}, P W → Below W.heap.size W W' → P W') (hb : Below W.heap.size W w')
    (h : W.cell? p0 = some v0 ∧ W.cell? p1 = some v1 ∧ W.cell? p2 = some v2 ∧ W.cell? p3 = some v3 ∧ P W) :
    w'.cell? p0 = some v0 ∧ w'.cell? p1 = some v1 ∧ w'.cell? p2 = some v2 ∧ w'.cell? p3 = some v3 ∧ P w' := by
  obtain ⟨h0, h1, h2, h3, h4⟩ := h
  have k : ∀ {a : Addr} {v : Value}, W.cell? a = some v → w'.cell? a = some v := fun {a v} h => by rw [hb.cell (World.block_lt_of_cell? W _ h)]; exact h
  exact ⟨k h0, k h1, k h2, k h3, hP h4 hb⟩
theorem kept0 {W w' : World} {p : Addr} {v : Value} (hb : Below W.heap.size W w') (h : W.cell? p = some v) : w'.cell? p = some v := by rw [hb.cell (World.block_lt_of_cell? W _ h)]; exact h

/-- a store and a fact as they came in, and all that was there at the head -/
structure SF (w : World) (a b : Option Addr) (J : List It) (M : List V3) (W : World) : Prop where
  rdI : RdI W a J
  rdV : RdV W b M
  bel : Below w.heap.size w W
theorem SF.keep {w W W' : World} {a b : Option Addr} {J : List It} {M : List V3} (h : SF w a b J M W) (hb : Below W.heap.size W W') : SF w a b J M W' :=
  ⟨h.rdI.below hb, h.rdV.below hb, h.bel.trans (hb.mono h.bel.size)⟩
theorem SF.drew {w W : World} {a b : Option Addr} {J : List It} {M : List V3} (h : SF w a b J M W) : SF w a b J M W.drew := h.keep ((Below.refl _ _).drew)
theorem SF.rdi {w W : World} {a b : Option Addr} {J : List It} {M : List V3} {p0 p1 p2 p3 : Addr} {v0 v1 v2 v3 : Value} (h : W.cell? p0 = some v0 ∧ W.cell? p1 = some v1 ∧ W.cell? p2 = some v2 ∧ W.cell? p3 = some v3 ∧ SF w a b J M W) : RdI W a J := h.2.2.2.2.rdI
theorem SF.rdv {w W : World} {a b : Option Addr} {J : List It} {M : List V3} {p0 p1 p2 p3 : Addr} {v0 v1 v2 v3 : Value} (h : W.cell? p0 = some v0 ∧ W.cell? p1 = some v1 ∧ W.cell? p2 = some v2 ∧ W.cell? p3 = some v3 ∧ SF w a b J M W) : RdV W b M := h.2.2.2.2.rdV
/-- a store as it came in, its copy, and all that was there at the head -/
structure SC (w : World) (a : Option Addr) (lo g cp : Nat) (J K : List It) (W : World) : Prop where
  rdI : RdI W a J
  copy : HoldsI W lo g cp K
  bel : Below w.heap.size w W
theorem SC.keep {w W W' : World} {a : Option Addr} {lo g cp : Nat} {J K : List It} (h : SC w a lo g cp J K W) (hb : Below W.heap.size W W') : SC w a lo g cp J K W' :=
  ⟨h.rdI.below hb, h.copy.later hb, h.bel.trans (hb.mono h.bel.size)⟩
theorem SC.drew {w W : World} {a : Option Addr} {lo g cp : Nat} {J K : List It} (h : SC w a lo g cp J K W) : SC w a lo g cp J K W.drew := h.keep ((Below.refl _ _).drew)
theorem SC.rdi {w W : World} {a : Option Addr} {lo g cp : Nat} {J K : List It} {p0 p1 p2 p3 : Addr} {v0 v1 v2 v3 : Value} (h : W.cell? p0 = some v0 ∧ W.cell? p1 = some v1 ∧ W.cell? p2 = some v2 ∧ W.cell? p3 = some v3 ∧ SC w a lo g cp J K W) : RdI W a J := h.2.2.2.2.rdI
theorem SC.cp {w W : World} {a : Option Addr} {lo g cp : Nat} {J K : List It} {p0 p1 p2 p3 : Addr} {v0 v1 v2 v3 : Value} (h : W.cell? p0 = some v0 ∧ W.cell? p1 = some v1 ∧ W.cell? p2 = some v2 ∧ W.cell? p3 = some v3 ∧ SC w a lo g cp J K W) : RdI W (some ⟨g, 0, none⟩) K := h.2.2.2.2.copy.rd

end Go.Proofs.YtbellpalomiokadDoor
/-
  The tested program's copies of items and of stores: what is copied lies in blocks of its own, no two lists in one.
-/
namespace Go.Proofs.YtbellpalomiokadDoor
open Go.RowKit
set_option linter.unusedVariables false

theorem ownsRow_sameB {w w' : World} {base n size : Nat} {T : TypeId} {v : Value} {xs : List Value} (h : w.ownsRow base T size v n xs) (hs : ∀ k, v.ownBlock = some k → w'.heap[k]? = w.heap[k]?) : w'.ownsRow base T size v n xs := by
  refine ⟨h.1, ?_⟩
  rcases h.2 with h2 | ⟨g, cap, cur, rfl, hb, hg, rest⟩
  · exact .inl h2
  · exact .inr ⟨g, cap, cur, rfl, hb, by rw [hs g rfl]; exact hg, rest⟩
/-- the row moves to another block: the copied lists lie in none of the two -/
theorem Copied.rebase {w w' : World} {lo g g' : Nat} {J K : List It} {k : Nat} (h : Copied w lo g J K k) (hk : ∀ q, q < w.heap.size → q ≠ g → w'.heap[q]? = w.heap[q]?) (hg : g' = g ∨ w.heap.size ≤ g') : Copied w' lo g' J K k := by
  refine ⟨fun i hi => ?_, h.2⟩
  obtain ⟨h1, h2, h3⟩ := h.1 i hi
  refine ⟨h1, fun hne => ?_, h3⟩
  obtain ⟨q, e, hl, hq, o⟩ := h2 hne
  have hlt := o.lt
  refine ⟨q, e, hl, by rcases hg with rfl | hg; exact hq; omega, ?_⟩
  exact ownsRow_sameB o (fun j hj => by simp only [Value.ownBlock, Option.some.injEq] at hj; rw [← hj]; exact hk q hlt hq)
theorem iAt_app_lt {K : List It} {x : It} {i : Nat} (h : i < K.length) : iAt (K ++ [x]) i = iAt K i := by
  rw [iAt_in (by simp; omega), iAt_in h]; simp [List.getElem_append_left h]
theorem iAt_app_eq (K : List It) (x : It) : iAt (K ++ [x]) K.length = x := by
  rw [iAt_in (by simp)]; simp
theorem rowI_app (K : List It) (x : It) : rowOf It.cells K ++ x.cells = rowOf It.cells (K ++ [x]) := by rw [rowOf_append]; simp [rowOf]
theorem srcI (W : World) (x : It) : ∀ j u, x.cells[j]? = some u → (W.alloc (.cells #[.int .i64 x.id, .string x.kd, .slice x.a x.L.length x.cap] 38)).cell? ((⟨W.heap.size, 0, none⟩ : Addr).add j) = some u := by
  obtain ⟨h0, h1, h2, -, -, -⟩ := box_cell (box_new W (.int .i64 x.id) (.string x.kd) (.slice x.a x.L.length x.cap) 38)
  intro j u hj
  rw [Addr.add_lit, Nat.zero_add]
  match j, hj with
  | 0, hj => rw [h0]; simpa [It.cells] using hj
  | 1, hj => rw [h1]; simpa [It.cells] using hj
  | 2, hj => rw [h2]; simpa [It.cells] using hj
theorem cell_far3 {w w' : World} {g b o : Nat} {v : Value} (hg : w.grownBy w' (some g)) (h : w.cell? ⟨b, o, none⟩ = some v) (hlt : b < w.heap.size) (hne : g < b) : w'.cell? ⟨b, o, none⟩ = some v := by
  rw [hg.cell_far ⟨b, o, none⟩ hlt (fun e => by have e2 : b = g := Option.some.inj e; omega)]; exact h
theorem oneI (x : It) : ∀ u ∈ x.cells, u.oneCell' = true := by
  intro u hu
  simp only [It.cells, List.mem_cons, List.not_mem_nil, or_false] at hu
  rcases hu with rfl | rfl | rfl <;> rfl

set_option maxRecDepth 100000 in
set_option maxHeartbeats 6400000 in
theorem copyItems_any (a : Option Addr) (n cap : Nat) (J : List It) (w : World) (hr : RdI w a J) (hJ : J.length = n) (hn : n ≤ 1048576) (hl : ∀ i, i < J.length → (iAt J i).L.length ≤ 1048580) (hli : ∀ i, i < J.length → LieV (iAt J i).a (iAt J i).L.length (iAt J i).cap) :
    Calls Tryd.prog 42 #[.slice a n cap] w fun e w' =>
      ∃ K g cp, e = .returned (.slice (some ⟨g, 0, none⟩) n cp) ∧ HoldsI w' w.heap.size g cp K ∧ K.map It.pl = J.map It.pl ∧ Below w.heap.size w w' := by
  obtain ⟨i0, hi, hz0, hz1, hz2⟩ := info_parts Tryd.info38
  have HJ := hide hJ
  have HL := hide hl
  have HLi := hide hli
  clear hJ hl hli
  go_enter Tryd.func42, Tryd.ntmps42
  go_wp2_with (at_make; refine wpList_make_own _ rfl _ _ 24 rfl w.heap.size 38 i0 (.agg #[.int .i64 0, .string ⟨#[]⟩, .slice none 0 0]) 3 Tryd.underlying24 hi hz0 hz1 _ _ _ (n + 1) rfl rfl ?b1 ?b2 ?b3 (Nat.le_refl _) ?_)
  case b1 => omega
  case b2 => rw [hz2]; omega
  case b3 => unfold maxLen; omega
  intro w0 hown0 hgrow0
  have hs0 : w.heap.size < w0.heap.size := (hown0.lt w.heap.size rfl).2
  have hb0 : Below w.heap.size w w0 := (Below.refl _ _).grown hgrow0 (Nat.le_refl _) (fun k h => by cases h)
  go_wp2
  go_loopw [3, 12] (fun v i wr => ∃ (k g cp : Nat) (K : List It), k ≤ n ∧ i = .int .i64 k ∧ v = .slice (some ⟨g, 0, none⟩) k cp ∧ K.length = k ∧ w.heap.size ≤ g ∧ g < wr.heap.size ∧ wr.ownsRow w.heap.size 38 3 (.slice (some ⟨g, 0, none⟩) k cp) k (rowOf It.cells K) ∧ Copied wr w.heap.size g J K k ∧ Below w.heap.size w wr)
    (fun _ i _ => n - (intOf i).toNat)
  case atStart => exact ⟨0, w.heap.size, n + 1, [], Nat.zero_le _, rfl, rfl, rfl, Nat.le_refl _, hs0, hown0, Copied.zero _ _ _ _ _, hb0⟩
  case round =>
    clear hown0 hgrow0 hb0 hs0
    obtain ⟨k, g, cp, K, hk, rfl, rfl, hKk, hgl, hgs, hown, hcop, hbel⟩ := hrel
    have HKk := hide hKk
    have HCop := hide hcop
    have HOwn := hide hown
    clear hKk hcop
    by_cases hlt : k < n
    · obtain ⟨b, off, hab, hbw, hc⟩ := (hr.below hbel).open (by rw [HJ.out]; omega)
      obtain ⟨c0, c1, c2, hv⟩ := hc k (by rw [HJ.out]; exact hlt)
      have HLk := hide (HL.out k (by rw [HJ.out]; exact hlt))
      have HLik := hide (HLi.out k (by rw [HJ.out]; exact hlt))
      clear hc hown
      subst hab
      obtain ⟨x, hx⟩ : ∃ x, x = iAt J k := ⟨_, rfl⟩
      rw [← hx] at c0 c1 c2 hv HLk HLik
      have HX := hide hx
      clear hx
      obtain ⟨id, kd, va, vc, L⟩ := x
      simp only at c0 c1 c2 hv HLk HLik
      have ba := below_al wr (.cells #[.int .i64 id, .string kd, .slice va L.length vc] 38)
      have hBox := box_new wr (.int .i64 id) (.string kd) (.slice va L.length vc) 38
      have hB1 : Below w.heap.size w (wr.alloc (.cells #[.int .i64 id, .string kd, .slice va L.length vc] 38)) := hbel.trans (ba.mono hbel.size)
      have hv1 := hv.below ba
      go_wp2_with fail
      generalize hw1 : wr.alloc (.cells #[.int .i64 id, .string kd, .slice va L.length vc] 38) = w1 at ba hBox hB1 hv1 ⊢
      clear hw1 c0 c1 c2 hv
      obtain ⟨x0, x1, x2, -, -, -⟩ := box_cell hBox
      have hX1 := (Array.getElem?_eq_some_iff.1 hBox).1
      have hv1d : RdV w1.drew va L := hv1.heap rfl
      have ba' : Below wr.heap.size wr w1.drew := ba.drew
      refine wp_region_held_drew (S := fun W => W.cell? ⟨wr.heap.size, 0, none⟩ = some (.int .i64 id) ∧ W.cell? ⟨wr.heap.size, 1, none⟩ = some (.string kd) ∧ W.cell? ⟨wr.heap.size, 2, none⟩ = some (.slice va L.length vc)) (by kernel_rfl) ⟨x0, x1, x2⟩ (fun hHeld => ?_)
      refine wpAnyH_take (i := 0) (oi := Oper.mk (some 16) _ _ _ _ _) (v := ?v1) rfl (by kernel_rfl) (by kernel_rfl) (by kernel_rfl) (fun _ _ _ h => h) (Or.inl ⟨by rfl, ?y1⟩) hHeld ?r1
      case y1 => (intro W hSW; obtain ⟨q0, q1, q2⟩ := hSW; go_simp; try with_reducible rfl)
      simp only [Act.put, List.setIfInBounds_toArray, List.set_cons_zero, List.set_cons_succ]
      refine wpAnyH_take (i := 1) (oi := Oper.mk (some 17) _ _ _ _ _) (v := ?v2) rfl (by kernel_rfl) (by kernel_rfl) (by kernel_rfl) (fun _ _ _ h => h) (Or.inl ⟨by rfl, ?y2⟩) hHeld ?r2
      case y2 => (intro W hSW; obtain ⟨q0, q1, q2⟩ := hSW; go_simp; try with_reducible rfl)
      simp only [Act.put, List.setIfInBounds_toArray, List.set_cons_zero, List.set_cons_succ]
      refine wpAnyH_take (i := 2) (oi := Oper.mk (some 18) _ _ _ _ _) (v := ?v3) rfl (by kernel_rfl) (by kernel_rfl) (by kernel_rfl) (fun _ _ _ h => h) (Or.inl ⟨by rfl, ?y3⟩) hHeld ?r3
      case y3 => (intro W hSW; obtain ⟨q0, q1, q2⟩ := hSW; go_simp; try with_reducible rfl)
      simp only [Act.put, List.setIfInBounds_toArray, List.set_cons_zero, List.set_cons_succ]
      refine wpAnyH_take (i := 3) (oi := Oper.mk (some 19) _ _ _ _ _) (v := ?v4) rfl (by kernel_rfl) (by kernel_rfl) (by kernel_rfl) (fun _ _ _ h => h) (Or.inl ⟨by rfl, ?y4⟩) hHeld ?r4
      case y4 => (intro W hSW; obtain ⟨q0, q1, q2⟩ := hSW; go_simp; try with_reducible rfl)
      simp only [Act.put, List.setIfInBounds_toArray, List.set_cons_zero, List.set_cons_succ]
      refine wpAnyH_take (i := 4) (oi := Oper.mk (some 20) _ _ _ _ _) (v := ?v5) rfl (by kernel_rfl) (by kernel_rfl) (by kernel_rfl) (fun _ _ _ h => h) (Or.inl ⟨by rfl, ?y5⟩) hHeld ?r5
      case y5 => (intro W hSW; obtain ⟨q0, q1, q2⟩ := hSW; go_simp; try with_reducible rfl)
      simp only [Act.put, List.setIfInBounds_toArray, List.set_cons_zero, List.set_cons_succ]
      refine wpAnyH_ready (rs := [5]) (by kernel_rfl) (by simp) (AllReadyH.cons (o := Oper.mk (some 21) _ _ _ _ _) rfl (fun Kk hK => ?_) AllReadyH.nil)
      go_simp
      refine (copyFact_any kd va vc L _ hv1d HLik.out HLk.out).mono ?_
      rintro e w2 ⟨a', c', rfl, hnew, b2⟩
      have hb12 : Below w1.heap.size w1 w2 := below_dr b2
      have hbr2 : Below wr.heap.size wr w2 := ba.trans (hb12.mono ba.size)
      obtain ⟨z0, z1, z2, -, -, -⟩ := box_cell (box_step hBox hb12)
      refine hK.out _ _ ⟨z0, z1, z2⟩ (fun hHeld => ?_)
      clear hK Kk
      refine wpAnyH_take (i := 6) (oi := Oper.mk (some 22) _ _ _ _ _) (v := ?v6) rfl (by kernel_rfl) (by kernel_rfl) (by kernel_rfl) (fun _ _ _ h => h) (Or.inl ⟨by rfl, ?y6⟩) hHeld ?r6
      case y6 => (intro W hSW; obtain ⟨q0, q1, q2⟩ := hSW; go_simp; try with_reducible rfl)
      simp only [Act.put, List.setIfInBounds_toArray, List.set_cons_zero, List.set_cons_succ]
      refine wpAnyH_ready (rs := [7]) (by kernel_rfl) (by simp) (AllReadyH.cons (o := Oper.mk (some 23) _ _ _ _ _) rfl (fun Kk hK => ?_) AllReadyH.nil)
      go_simp
      have ba3 := below_al w2 (.cells #[.int .i64 id, .string kd, .slice a' L.length c'] 38)
      obtain ⟨z0, z1, z2, -, -, -⟩ := box_cell (box_step (box_step hBox hb12) ba3)
      have hbr3 := hbr2.trans (ba3.mono hbr2.size)
      have hnew3 : NewV _ w1.heap.size a' c' L := hnew.later ba3
      have HSrc := hide (srcI w2 ⟨id, kd, a', c', L⟩)
      have HO3 := hide (ownsRow_below HOwn.out hbr3)
      have hB3 := hbel.trans (hbr3.mono hbel.size)
      have hX3 : w2.heap.size = w2.heap.size := rfl
      refine hK.out _ _ ⟨z0, z1, z2⟩ (fun hHeld => ?_)
      clear hK Kk
      refine wpAnyH_ready (rs := [8]) (by kernel_rfl) (by simp) (AllReadyH.cons (o := Oper.mk (some 24) _ _ _ _ _) rfl (fun Kk hK => ?_) AllReadyH.nil)
      refine step_append_lies _ rfl (.tmp 16) (.tmp 23) 24 rfl w.heap.size 38 i0 (.agg #[.int .i64 0, .string ⟨#[]⟩, .slice none 0 0]) 3 48 Tryd.underlying24 hi hz0 hz1 hz2 rfl (by omega) (.slice (some ⟨g, 0, none⟩) k cp) k (rowOf It.cells K) rfl HO3.out ⟨w2.heap.size, 0, none⟩ 1 1 (It.cells ⟨id, kd, a', c', L⟩) ?hx rfl HSrc.out (oneI _) (by omega) (by unfold maxLen; omega) (by omega) hB3.size _ rfl ?_
      case hx => simp [Act.eval]
      intro g5 c5 w5 ho5 hg5 hat5 hlt5
      have hwr3 : wr.heap.size < (w2.alloc (.cells #[.int .i64 id, .string kd, .slice a' L.length c'] 38)).heap.size := Nat.lt_of_lt_of_le hX1 (Nat.le_trans hb12.size ba3.size)
      have y0 := cell_far3 hg5 z0 hwr3 hgs
      have y1 := cell_far3 hg5 z1 hwr3 hgs
      have y2 := cell_far3 hg5 z2 hwr3 hgs
      have HC3 := hide ((HCop.out.more (K' := K ++ [⟨id, kd, a', c', L⟩]) (x := ⟨id, kd, a', c', L⟩) hbr3 (World.grownBy.refl _ _) (fun i hi => iAt_app_lt (by rw [HKk.out]; exact hi)) (by have e := iAt_app_eq K ⟨id, kd, a', c', L⟩; rw [HKk.out] at e; exact e) (by rw [← HX.out]; rfl) (fun hne => by obtain ⟨q, e, h1, o⟩ := hnew3.own hne; exact ⟨q, e, Nat.le_trans (Nat.le_of_lt hX1) h1, o⟩) hnew3.2 hbel.size hgs).rebase (g' := g5) (fun q hq hne => hg5.block q hq (fun e => hne (Option.some.inj e))) (by rcases hat5 with e | e; exact .inl (Option.some.inj e).symm; exact .inr (Nat.le_of_eq e.symm)))
      have hg5l : w.heap.size ≤ g5 := by
        rcases hat5 with e | e
        · have e2 : g = g5 := Option.some.inj e
          rw [← e2]; exact hgl
        · rw [e]; exact hB3.size
      have HB5 := hide (hB3.grown hg5 hB3.size (fun q e => by have e2 : g = q := Option.some.inj e; rw [← e2]; exact hgl))
      rw [rowI_app] at ho5
      have HO5 := hide ho5
      have HLen : Hid ((K ++ [(⟨id, kd, a', c', L⟩ : It)]).length = k + 1) := by unfold Hid; rw [List.length_append, HKk.out]; rfl
      refine hK.out _ _ ⟨y0, y1, y2⟩ (fun hHeld => ?_)
      clear hK Kk ho5 hg5 HSrc HO3 hB3 hbr3 hnew3 hnew ba3 hbr2 hb12 z0 z1 z2 y0 y1 y2 x0 x1 x2 hBox HCop HOwn hv1 hv1d ba ba' hB1 b2
      refine wpAnyH_take (i := 9) (oi := Oper.mk (some 3) _ _ _ _ _) (v := ?v9) rfl (by kernel_rfl) (by kernel_rfl) (by kernel_rfl) (fun _ _ _ h => h) (Or.inl ⟨by rfl, ?y9⟩) hHeld ?r9
      case y9 => (intro W hSW; obtain ⟨q0, q1, q2⟩ := hSW; go_simp; try with_reducible rfl)
      simp only [Act.put, List.setIfInBounds_toArray, List.set_cons_zero, List.set_cons_succ]
      refine wpAnyH_done (by kernel_rfl) ?_ _
      go_wp2
      go_roundw
      case rel => exact ⟨k + 1, g5, c5, _, by omega, by go_num, rfl, HLen.out, hg5l, hlt5, HO5.out, HC3.out, HB5.out⟩
      case measure => simp [intOf]; omega
    · have hkn : k = K.length := by rw [HKk.out]
      have HR : Hid (HoldsI wr w.heap.size g cp K ∧ K.map It.pl = J.map It.pl) := by
        refine Copied.done (hkn ▸ HCop.out) (by rw [HKk.out, HJ.out]; omega) hgl ?_
        rw [HKk.out]; exact hown
      have hkn2 : k = n := by omega
      subst hkn2
      clear hkn hown
      go_wp2
      go_ret
      exact ⟨K, g, cp, rfl, HR.out.1, HR.out.2, hbel⟩
end Go.Proofs.YtbellpalomiokadDoor
/-
  The model's copy of a store: its items in a block of the call's own (none where there are none), their lists each in its own.
-/
namespace Go.Proofs.YtbellpalomiokadDoor
open Go.RowKit
set_option linter.unusedVariables false

/-- as rebase, below lo nothing is asked -/
theorem Copied.rebase2 {w w' : World} {lo g g' : Nat} {J K : List It} {k : Nat} (h : Copied w lo g J K k) (hk : ∀ q, lo ≤ q → q < w.heap.size → q ≠ g → w'.heap[q]? = w.heap[q]?) (hg : g' = g ∨ w.heap.size ≤ g') : Copied w' lo g' J K k := by
  refine ⟨fun i hi => ?_, h.2⟩
  obtain ⟨h1, h2, h3⟩ := h.1 i hi
  refine ⟨h1, fun hne => ?_, h3⟩
  obtain ⟨q, e, hl, hq, o⟩ := h2 hne
  have hlt := o.lt
  refine ⟨q, e, hl, by rcases hg with rfl | hg; exact hq; omega, ?_⟩
  exact ownsRow_sameB o (fun j hj => by simp only [Value.ownBlock, Option.some.injEq] at hj; rw [← hj]; exact hk q hl hlt hq)
/-- a store's items, in a block of the call's own or none at all -/
def GivesS (w : World) (lo : Nat) (v : Value) (n : Nat) (K : List It) : Prop := (n = 0 ∧ K = [] ∧ v = .slice none 0 0) ∨ ∃ g cp, v = .slice (some ⟨g, 0, none⟩) n cp ∧ HoldsI w lo g cp K
theorem sI5 {w W : World} {b off n cap k : Nat} {nx : Int} {J : List It} {x : It} (hA : W.heap[w.heap.size]? = some (.cells #[.slice (some ⟨b, off, none⟩) n cap, .int .i64 nx] 26 (0, 0))) (hr : RdI w (some ⟨b, off, none⟩) J) (hB : Below w.heap.size w W) (hk : k < J.length) (hx : x = iAt J k) :
    W.cell? ⟨w.heap.size, 0, none⟩ = some (.slice (some ⟨b, off, none⟩) n cap) ∧ W.cell? ⟨b, off + k * 3, none⟩ = some (.int .i64 x.id) ∧ W.cell? ⟨b, off + k * 3 + 1, none⟩ = some (.string x.kd) ∧ W.cell? ⟨b, off + k * 3 + 2, none⟩ = some (.slice x.a x.L.length x.cap) := by
  obtain ⟨b2, off2, e, h0, h1, h2, -⟩ := hr.below hB k hk
  simp only [Option.some.injEq, Addr.mk.injEq] at e
  obtain ⟨rfl, rfl, -⟩ := e
  rw [hx]
  exact ⟨(box2_cell hA).1, h0, h1, h2⟩
theorem sI {w wr W : World} {b off n cap k q : Nat} {nx : Int} {J : List It} {x : It} {o : Obj} (hA : wr.heap[w.heap.size]? = some (.cells #[.slice (some ⟨b, off, none⟩) n cap, .int .i64 nx] 26 (0, 0))) (hO : wr.heap[q]? = some o) (hr : RdI w (some ⟨b, off, none⟩) J) (hk : k < J.length) (hb : Below wr.heap.size wr W) (hB : Below w.heap.size w W) (hx : x = iAt J k) :
    W.cell? ⟨w.heap.size, 0, none⟩ = some (.slice (some ⟨b, off, none⟩) n cap) ∧ W.cell? ⟨b, off + k * 3, none⟩ = some (.int .i64 x.id) ∧ W.cell? ⟨b, off + k * 3 + 1, none⟩ = some (.string x.kd) ∧ W.cell? ⟨b, off + k * 3 + 2, none⟩ = some (.slice x.a x.L.length x.cap) :=
  sI5 (box_step hA hb) hr hB hk hx

set_option maxRecDepth 100000 in
set_option maxHeartbeats 12800000 in
theorem l4Copy_any (a : Option Addr) (n cap : Nat) (nx : Int) (J : List It) (w : World) (hr : RdI w a J) (hJ : J.length = n) (hn : n ≤ 1048576) (hl : ∀ i, i < J.length → (iAt J i).L.length ≤ 1048580) :
    Calls Tryd.prog 26 #[.agg #[.slice a n cap, .int .i64 nx]] w fun e w' =>
      ∃ K v, e = .returned (.agg #[v, .int .i64 nx]) ∧ GivesS w' w.heap.size v n K ∧ K.map It.pl = J.map It.pl ∧ Below w.heap.size w w' := by
  obtain ⟨i0, hi, hz0, hz1, hz2⟩ := info_parts Tryd.info38
  have HJ := hide hJ
  have HL := hide hl
  clear hJ hl
  have b0 := below_al w (.cells #[.slice a n cap, .int .i64 nx] 26)
  have b1 := b0.alloc b0.size (.cells #[.slice none 0 0, .int .i64 0] 26)
  have b2 := b1.alloc b1.size (.cells #[.slice none 0 0, .int .i64 nx] 26)
  have hA := box_old (box_old (box2_new w (.slice a n cap) (.int .i64 nx) 26) (by simp) (.cells #[.slice none 0 0, .int .i64 0] 26)) (by simp; omega) (.cells #[.slice none 0 0, .int .i64 nx] 26)
  have hR := box_old (box2_new (w.alloc (.cells #[.slice a n cap, .int .i64 nx] 26)) (.slice none 0 0) (.int .i64 0) 26) (by simp) (.cells #[.slice none 0 0, .int .i64 nx] 26)
  have hO := box2_new ((w.alloc (.cells #[.slice a n cap, .int .i64 nx] 26)).alloc (.cells #[.slice none 0 0, .int .i64 0] 26)) (.slice none 0 0) (.int .i64 nx) 26
  simp only [World.size_alloc] at hA hR hO
  go_enter Tryd.func26, Tryd.ntmps26
  go_wp2
  generalize ((w.alloc (.cells #[.slice a n cap, .int .i64 nx] 26)).alloc (.cells #[.slice none 0 0, .int .i64 0] 26)).alloc (.cells #[.slice none 0 0, .int .i64 nx] 26) = w0 at b2 hA hR hO ⊢
  clear b0 b1
  go_loopw [4] (fun i wr => ∃ (k g : Nat) (v : Value) (K : List It), k ≤ n ∧ i = .int .i64 k ∧ K.length = k ∧ wr.heap[w.heap.size + 1 + 1]? = some (.cells #[v, .int .i64 nx] 26 (0, 0)) ∧ wr.heap[w.heap.size]? = some (.cells #[.slice a n cap, .int .i64 nx] 26 (0, 0)) ∧ wr.heap[w.heap.size + 1]? = some (.cells #[.slice none 0 0, .int .i64 0] 26 (0, 0)) ∧ ((k = 0 ∧ v = .slice none 0 0) ∨ ∃ cp, v = .slice (some ⟨g, 0, none⟩) k cp ∧ w.heap.size + 1 + 1 + 1 ≤ g) ∧ g < wr.heap.size ∧ wr.ownsRow (w.heap.size + 1 + 1 + 1) 38 3 v k (rowOf It.cells K) ∧ Copied wr (w.heap.size + 1 + 1 + 1) g J K k ∧ Below w.heap.size w wr)
    (fun i _ => n - (intOf i).toNat)
  case atStart => exact ⟨0, w.heap.size, .slice none 0 0, [], Nat.zero_le _, rfl, rfl, hO, hA, hR, Or.inl ⟨rfl, rfl⟩, (Array.getElem?_eq_some_iff.1 hA).1, World.ownsRow_nil _ _ _ _, Copied.zero _ _ _ _ _, b2⟩
  case round =>
    clear hO hA hR b2
    obtain ⟨k, g, v, K, hk, rfl, hKk, hO, hA, hR, hvg, hgs, hown, hcop, hbel⟩ := hrel
    have HKk := hide hKk
    have HCop := hide hcop
    have HOwn := hide hown
    have hlo : w.heap.size + 1 + 1 + 1 ≤ wr.heap.size := (Array.getElem?_eq_some_iff.1 hO).1
    have HOb : Hid (∀ q, v.ownBlock = some q → q = g ∧ w.heap.size + 1 + 1 + 1 ≤ q) := by
      intro q e
      rcases hvg with ⟨_, rfl⟩ | ⟨cp, rfl, hl⟩
      · cases e
      · cases e; exact ⟨rfl, hl⟩
    clear hKk hcop hown
    by_cases hlt : k < n
    · have HKn : Hid (k < J.length) := by unfold Hid; rw [HJ.out]; exact hlt
      obtain ⟨b, off, hab, hbw, -⟩ := hr.open (by rw [HJ.out]; omega)
      subst hab
      obtain ⟨b', off', e', c0, c1, c2, hv⟩ := hr.below hbel k HKn.out
      have HLk := hide (HL.out k HKn.out)
      clear b' off' e' c0 c1 c2 hvg
      obtain ⟨x, hx⟩ : ∃ x, x = iAt J k := ⟨_, rfl⟩
      have S0 := sI5 hA hr hbel HKn.out hx
      rw [← hx] at hv HLk
      have HX := hide hx
      clear hx
      obtain ⟨id, kd, va, vc, L⟩ := x
      simp only at S0 hv HLk
      obtain ⟨o0, -, -, -⟩ := box2_cell hO
      have hvd : RdV wr.drew va L := hv.heap rfl
      obtain ⟨s0, s1, s2, s3⟩ := S0
      go_wp2_with fail
      have S0 := And.intro s0 (And.intro s1 (And.intro s2 s3))
      clear s0 s1 s2 s3
      refine wp_region_held_drew (S := fun W => W.cell? ⟨w.heap.size, 0, none⟩ = some (.slice (some ⟨b, off, none⟩) n cap) ∧ W.cell? ⟨b, off + k * 3, none⟩ = some (.int .i64 id) ∧ W.cell? ⟨b, off + k * 3 + 1, none⟩ = some (.string kd) ∧ W.cell? ⟨b, off + k * 3 + 2, none⟩ = some (.slice va L.length vc)) (by kernel_rfl) S0 (fun hHeld => ?_)
      refine wpAnyH_take (i := 0) (oi := Oper.mk (some 15) _ _ _ _ _) (v := ?v1) rfl (by kernel_rfl) (by kernel_rfl) (by kernel_rfl) (fun _ _ _ h => h) (Or.inl ⟨by rfl, ?y1⟩) hHeld ?r1
      case y1 => (intro W hSW; obtain ⟨q0, q1, q2, q3⟩ := hSW; go_simp; try with_reducible rfl)
      simp only [Act.put, List.setIfInBounds_toArray, List.set_cons_zero, List.set_cons_succ]
      refine wpAnyH_take (i := 2) (oi := Oper.mk (some 17) _ _ _ _ _) (v := ?v2) rfl (by kernel_rfl) (by kernel_rfl) (by kernel_rfl) (fun _ _ _ h => h) (Or.inl ⟨by rfl, ?y2⟩) hHeld ?r2
      case y2 => (intro W hSW; obtain ⟨q0, q1, q2, q3⟩ := hSW; go_simp; try with_reducible rfl)
      simp only [Act.put, List.setIfInBounds_toArray, List.set_cons_zero, List.set_cons_succ]
      refine wpAnyH_take (i := 3) (oi := Oper.mk (some 18) _ _ _ _ _) (v := ?v3) rfl (by kernel_rfl) (by kernel_rfl) (by kernel_rfl) (fun _ _ _ h => h) (Or.inl ⟨by rfl, ?y3⟩) hHeld ?r3
      case y3 => (intro W hSW; obtain ⟨q0, q1, q2, q3⟩ := hSW; go_simp; try with_reducible rfl)
      simp only [Act.put, List.setIfInBounds_toArray, List.set_cons_zero, List.set_cons_succ]
      refine wpAnyH_take (i := 4) (oi := Oper.mk (some 19) _ _ _ _ _) (v := ?v4) rfl (by kernel_rfl) (by kernel_rfl) (by kernel_rfl) (fun _ _ _ h => h) (Or.inl ⟨by rfl, ?y4⟩) hHeld ?r4
      case y4 => (intro W hSW; obtain ⟨q0, q1, q2, q3⟩ := hSW; go_simp; try with_reducible rfl)
      simp only [Act.put, List.setIfInBounds_toArray, List.set_cons_zero, List.set_cons_succ]
      refine wpAnyH_take (i := 5) (oi := Oper.mk (some 20) _ _ _ _ _) (v := ?v5) rfl (by kernel_rfl) (by kernel_rfl) (by kernel_rfl) (fun _ _ _ h => h) (Or.inl ⟨by rfl, ?y5⟩) hHeld ?r5
      case y5 => (intro W hSW; obtain ⟨q0, q1, q2, q3⟩ := hSW; go_simp; try with_reducible rfl)
      simp only [Act.put, List.setIfInBounds_toArray, List.set_cons_zero, List.set_cons_succ]
      refine wpAnyH_take (i := 6) (oi := Oper.mk (some 21) _ _ _ _ _) (v := ?v6) rfl (by kernel_rfl) (by kernel_rfl) (by kernel_rfl) (fun _ _ _ h => h) (Or.inl ⟨by rfl, ?y6⟩) hHeld ?r6
      case y6 => (intro W hSW; obtain ⟨q0, q1, q2, q3⟩ := hSW; go_simp; try with_reducible rfl)
      simp only [Act.put, List.setIfInBounds_toArray, List.set_cons_zero, List.set_cons_succ]
      refine wpAnyH_take (i := 7) (oi := Oper.mk (some 22) _ _ _ _ _) (v := ?v7) rfl (by kernel_rfl) (by kernel_rfl) (by kernel_rfl) (fun _ _ _ h => h) (Or.inl ⟨by rfl, ?y7⟩) hHeld ?r7
      case y7 => (intro W hSW; obtain ⟨q0, q1, q2, q3⟩ := hSW; go_simp; try with_reducible rfl)
      simp only [Act.put, List.setIfInBounds_toArray, List.set_cons_zero, List.set_cons_succ]
      refine wpAnyH_take (i := 8) (oi := Oper.mk (some 23) _ _ _ _ _) (v := ?v8) rfl (by kernel_rfl) (by kernel_rfl) (by kernel_rfl) (fun _ _ _ h => h) (Or.inl ⟨by rfl, ?y8⟩) hHeld ?r8
      case y8 => (intro W hSW; obtain ⟨q0, q1, q2, q3⟩ := hSW; go_simp; try with_reducible rfl)
      simp only [Act.put, List.setIfInBounds_toArray, List.set_cons_zero, List.set_cons_succ]
      refine wpAnyH_take (i := 9) (oi := Oper.mk (some 24) _ _ _ _ _) (v := ?v9) rfl (by kernel_rfl) (by kernel_rfl) (by kernel_rfl) (fun _ _ _ h => h) (Or.inl ⟨by rfl, ?y9⟩) hHeld ?r9
      case y9 => (intro W hSW; obtain ⟨q0, q1, q2, q3⟩ := hSW; go_simp; try with_reducible rfl)
      simp only [Act.put, List.setIfInBounds_toArray, List.set_cons_zero, List.set_cons_succ]
      refine wpAnyH_take (i := 10) (oi := Oper.mk (some 25) _ _ _ _ _) (v := ?v10) rfl (by kernel_rfl) (by kernel_rfl) (by kernel_rfl) (fun _ _ _ h => h) (Or.inl ⟨by rfl, ?y10⟩) hHeld ?r10
      case y10 => (intro W hSW; obtain ⟨q0, q1, q2, q3⟩ := hSW; go_simp; try with_reducible rfl)
      simp only [Act.put, List.setIfInBounds_toArray, List.set_cons_zero, List.set_cons_succ]
      refine wpAnyH_take (i := 11) (oi := Oper.mk (some 26) _ _ _ _ _) (v := ?v11) rfl (by kernel_rfl) (by kernel_rfl) (by kernel_rfl) (fun _ _ _ h => h) (Or.inl ⟨by rfl, ?y11⟩) hHeld ?r11
      case y11 => (intro W hSW; obtain ⟨q0, q1, q2, q3⟩ := hSW; go_simp; try with_reducible rfl)
      simp only [Act.put, List.setIfInBounds_toArray, List.set_cons_zero, List.set_cons_succ]
      refine wpAnyH_take (i := 12) (oi := Oper.mk (some 27) _ _ _ _ _) (v := ?v12) rfl (by kernel_rfl) (by kernel_rfl) (by kernel_rfl) (fun _ _ _ h => h) (Or.inl ⟨by rfl, ?y12⟩) hHeld ?r12
      case y12 => (intro W hSW; obtain ⟨q0, q1, q2, q3⟩ := hSW; go_simp; try with_reducible rfl)
      simp only [Act.put, List.setIfInBounds_toArray, List.set_cons_zero, List.set_cons_succ]
      refine wpAnyH_take (i := 13) (oi := Oper.mk (some 28) _ _ _ _ _) (v := ?v13) rfl (by kernel_rfl) (by kernel_rfl) (by kernel_rfl) (fun _ _ _ h => h) (Or.inl ⟨by rfl, ?y13⟩) hHeld ?r13
      case y13 => (intro W hSW; obtain ⟨q0, q1, q2, q3⟩ := hSW; go_simp; try with_reducible rfl)
      simp only [Act.put, List.setIfInBounds_toArray, List.set_cons_zero, List.set_cons_succ]
      refine wpAnyH_ready (rs := [1, 14]) (by kernel_rfl) (by simp) (AllReadyH.cons (o := Oper.mk (some 16) _ _ _ _ _) rfl (fun Kk hK => ?_) (AllReadyH.cons (o := Oper.mk (some 29) _ _ _ _ _) rfl (fun Kk hK => ?_) AllReadyH.nil))
      · go_simp
        refine hK.out _ _ S0 (fun hHeld => ?_)
        clear hK Kk
        refine wpAnyH_ready (rs := [14]) (by kernel_rfl) (by simp) (AllReadyH.cons (o := Oper.mk (some 29) _ _ _ _ _) rfl (fun Kk hK => ?_) AllReadyH.nil)
        go_simp
        refine (l3Copy_any kd va vc L _ hvd HLk.out).mono ?_
        rintro e w2 ⟨a', c', rfl, hnew, b2⟩
        have hbr2 : Below wr.heap.size wr w2 := below_dr b2
        have hB2 := hbel.trans (hbr2.mono hbel.size)
        have hO2 := box_step hO hbr2
        have S2 := sI hA hO hr HKn.out hbr2 hB2 HX.out
        obtain ⟨o2, -, -, -⟩ := box2_cell hO2
        refine hK.out _ _ S2 (fun hHeld => ?_)
        clear hK Kk
        refine wpAnyH_take (i := 15) (oi := Oper.mk (some 30) _ _ _ _ _) (v := ?v14) rfl (by kernel_rfl) (by kernel_rfl) (by kernel_rfl) (fun _ _ _ h => h) (Or.inl ⟨by rfl, ?y14⟩) hHeld ?r14
        case y14 => (intro W hSW; obtain ⟨q0, q1, q2, q3⟩ := hSW; go_simp; try with_reducible rfl)
        simp only [Act.put, List.setIfInBounds_toArray, List.set_cons_zero, List.set_cons_succ]
        refine wpAnyH_ready (rs := [16]) (by kernel_rfl) (by simp) (AllReadyH.cons (o := Oper.mk (some 31) _ _ _ _ _) rfl (fun Kk hK => ?_) AllReadyH.nil)
        go_simp
        have ba3 := below_al w2 (.cells #[.int .i64 id, .string kd, .slice a' L.length c'] 38)
        have hbr3 := hbr2.trans (ba3.mono hbr2.size)
        have hB3 := hbel.trans (hbr3.mono hbel.size)
        have hnew3 : NewV _ wr.heap.size a' c' L := hnew.later ba3
        have HSrc := hide (srcI w2 ⟨id, kd, a', c', L⟩)
        have HO3 := hide (ownsRow_below HOwn.out hbr3)
        have hO3 := box_step hO hbr3
        have hA3 := box_step hA hbr3
        have hR3 := box_step hR hbr3
        have S3 := sI hA hO hr HKn.out hbr3 hB3 HX.out
        obtain ⟨o3, -, -, -⟩ := box2_cell hO3
        refine hK.out _ _ S3 (fun hHeld => ?_)
        clear hK Kk
        refine wpAnyH_ready (rs := [17]) (by kernel_rfl) (by simp) (AllReadyH.cons (o := Oper.mk (some 32) _ _ _ _ _) rfl (fun Kk hK => ?_) AllReadyH.nil)
        refine step_append_lies _ rfl (.tmp 16) (.tmp 31) 24 rfl (w.heap.size + 1 + 1 + 1) 38 i0 (.agg #[.int .i64 0, .string ⟨#[]⟩, .slice none 0 0]) 3 48 Tryd.underlying24 hi hz0 hz1 hz2 rfl (by omega) v k (rowOf It.cells K) rfl HO3.out ⟨w2.heap.size, 0, none⟩ 1 1 (It.cells ⟨id, kd, a', c', L⟩) ?hx rfl HSrc.out (oneI _) (by omega) (by unfold maxLen; omega) (by omega) (Nat.le_trans hlo hbr3.size) _ rfl ?_
        case hx => simp [Act.eval]
        intro g5 c5 w5 ho5 hg5 hat5 hlt5
        rw [rowI_app] at ho5
        have hB5 := hB3.grown hg5 hB3.size (fun q e => by have := HOb.out q e; omega)
        have far : ∀ q, q < w.heap.size + 1 + 1 + 1 → w5.heap[q]? = (w2.alloc (.cells #[.int .i64 id, .string kd, .slice a' L.length c'] 38)).heap[q]? := fun q hq => hg5.block q (Nat.lt_of_lt_of_le hq (Nat.le_trans hlo hbr3.size)) (fun e => by have := HOb.out q e.symm; omega)
        have hO5 := (far _ (by omega)).trans hO3
        have hA5 := (far _ (by omega)).trans hA3
        have hR5 := (far _ (by omega)).trans hR3
        have S5 := sI5 hA5 hr hB5 HKn.out HX.out
        obtain ⟨o5, o51, of0, of1⟩ := box2_cell hO5
        have hg5l : w.heap.size + 1 + 1 + 1 ≤ g5 := by
          rcases hat5 with e | e
          · exact (HOb.out g5 e).2
          · rw [e]; exact Nat.le_trans hlo hbr3.size
        have HC3 := hide (HCop.out.more (K' := K ++ [⟨id, kd, a', c', L⟩]) (x := ⟨id, kd, a', c', L⟩) hbr3 (World.grownBy.refl _ _) (fun i hi => iAt_app_lt (by rw [HKk.out]; exact hi)) (by have e := iAt_app_eq K ⟨id, kd, a', c', L⟩; rw [HKk.out] at e; exact e) (by rw [← HX.out]; rfl) (fun hne => by obtain ⟨q, e, h1, o⟩ := hnew3.own hne; exact ⟨q, e, h1, o⟩) hnew3.2 hlo hgs)
        have st := box2_set0 hO5 (.slice (some ⟨g5, 0, none⟩) (k + 1) c5)
        have HC6 := hide (HC3.out.rebase2 (w' := w5.setCell ⟨w.heap.size + 1 + 1, 0, none⟩ (.slice (some ⟨g5, 0, none⟩) (k + 1) c5)) (g' := g5) (fun q hq1 hq hne => (st.2.block q (Nat.lt_of_lt_of_le hq hg5.size) (fun e => by have e2 : q = w.heap.size + 1 + 1 := Option.some.inj e; omega)).trans (hg5.block q hq (fun e => hne (HOb.out q e.symm).1))) (by rcases hat5 with e | e; exact .inl (HOb.out g5 e).1; exact .inr (Nat.le_of_eq e.symm)))
        have HO6 := hide (ownsRow_sameB (w' := w5.setCell ⟨w.heap.size + 1 + 1, 0, none⟩ (.slice (some ⟨g5, 0, none⟩) (k + 1) c5)) ho5 (fun q e => by have e1 : g5 = q := Option.some.inj e; subst e1; exact st.2.block g5 hlt5 (fun e => by have e2 : g5 = w.heap.size + 1 + 1 := Option.some.inj e; omega)))
        have hB6 := below_set hB5 st.2 (by omega)
        have hA6 := box_gr hA5 st.2 (by omega)
        have hR6 := box_gr hR5 st.2 (by omega)
        have hO6 := st.1
        have S6 := sI5 hA6 hr hB6 HKn.out HX.out
        have hlt6 := Nat.lt_of_lt_of_le hlt5 st.2.size
        have HLen : Hid ((K ++ [(⟨id, kd, a', c', L⟩ : It)]).length = k + 1) := by unfold Hid; rw [List.length_append, HKk.out]; rfl
        refine hK.out _ _ S5 (fun hHeld => ?_)
        clear hK Kk
        refine wpAnyH_take (i := 18) (oi := Oper.mk (some 33) _ _ _ _ _) (v := ?v15) rfl (by kernel_rfl) (by kernel_rfl) (by kernel_rfl) (fun _ _ _ h => h) (Or.inl ⟨by rfl, ?y15⟩) hHeld ?r15
        case y15 => (intro W hSW; obtain ⟨q0, q1, q2, q3⟩ := hSW; go_simp; try with_reducible rfl)
        simp only [Act.put, List.setIfInBounds_toArray, List.set_cons_zero, List.set_cons_succ]
        refine wpAnyH_ready (rs := [19]) (by kernel_rfl) (by simp) (AllReadyH.cons (o := Oper.mk none _ _ _ _ _) rfl (fun Kk hK => ?_) AllReadyH.nil)
        go_simp
        refine hK.out _ _ S6 (fun hHeld => ?_)
        clear hK Kk
        refine wpAnyH_done (by kernel_rfl) ?_ _
        have HB6 := hide hB6
        have HA6 := hide hA6
        have HR6 := hide hR6
        have HP6 := hide hO6
        clear S2 S3 S5 S6 st hO6 hA6 hR6 hB6 o5 o51 of0 of1 hO5 hA5 hR5 far hB5 hHeld o3 hO3 hA3 hR3 ho5 hg5 HO3 HSrc hnew3 hB3 hbr3 ba3 o2 hO2 hB2 hbr2 hnew b2 HC3 HCop HOwn hO hA hR S0 o0 
        go_wp2
        go_roundw
        case rel => exact ⟨k + 1, g5, _, _, by omega, by go_num, HLen.out, HP6.out, HA6.out, HR6.out, Or.inr ⟨c5, rfl, hg5l⟩, hlt6, HO6.out, HC6.out, HB6.out⟩
        case measure => simp [intOf]; omega
      · go_simp
        refine (l3Copy_any kd va vc L _ hvd HLk.out).mono ?_
        rintro e w2 ⟨a', c', rfl, hnew, b2⟩
        have hbr2 : Below wr.heap.size wr w2 := below_dr b2
        have hB2 := hbel.trans (hbr2.mono hbel.size)
        have hO2 := box_step hO hbr2
        have S2 := sI hA hO hr HKn.out hbr2 hB2 HX.out
        obtain ⟨o2, -, -, -⟩ := box2_cell hO2
        refine hK.out _ _ S2 (fun hHeld => ?_)
        clear hK Kk
        refine wpAnyH_take (i := 15) (oi := Oper.mk (some 30) _ _ _ _ _) (v := ?v16) rfl (by kernel_rfl) (by kernel_rfl) (by kernel_rfl) (fun _ _ _ h => h) (Or.inl ⟨by rfl, ?y16⟩) hHeld ?r16
        case y16 => (intro W hSW; obtain ⟨q0, q1, q2, q3⟩ := hSW; go_simp; try with_reducible rfl)
        simp only [Act.put, List.setIfInBounds_toArray, List.set_cons_zero, List.set_cons_succ]
        refine wpAnyH_ready (rs := [1, 16]) (by kernel_rfl) (by simp) (AllReadyH.cons (o := Oper.mk (some 16) _ _ _ _ _) rfl (fun Kk hK => ?_) (AllReadyH.cons (o := Oper.mk (some 31) _ _ _ _ _) rfl (fun Kk hK => ?_) AllReadyH.nil))
        · go_simp
          refine hK.out _ _ S2 (fun hHeld => ?_)
          clear hK Kk
          refine wpAnyH_ready (rs := [16]) (by kernel_rfl) (by simp) (AllReadyH.cons (o := Oper.mk (some 31) _ _ _ _ _) rfl (fun Kk hK => ?_) AllReadyH.nil)
          go_simp
          have ba3 := below_al w2 (.cells #[.int .i64 id, .string kd, .slice a' L.length c'] 38)
          have hbr3 := hbr2.trans (ba3.mono hbr2.size)
          have hB3 := hbel.trans (hbr3.mono hbel.size)
          have hnew3 : NewV _ wr.heap.size a' c' L := hnew.later ba3
          have HSrc := hide (srcI w2 ⟨id, kd, a', c', L⟩)
          have HO3 := hide (ownsRow_below HOwn.out hbr3)
          have hO3 := box_step hO hbr3
          have hA3 := box_step hA hbr3
          have hR3 := box_step hR hbr3
          have S3 := sI hA hO hr HKn.out hbr3 hB3 HX.out
          obtain ⟨o3, -, -, -⟩ := box2_cell hO3
          refine hK.out _ _ S3 (fun hHeld => ?_)
          clear hK Kk
          refine wpAnyH_ready (rs := [17]) (by kernel_rfl) (by simp) (AllReadyH.cons (o := Oper.mk (some 32) _ _ _ _ _) rfl (fun Kk hK => ?_) AllReadyH.nil)
          refine step_append_lies _ rfl (.tmp 16) (.tmp 31) 24 rfl (w.heap.size + 1 + 1 + 1) 38 i0 (.agg #[.int .i64 0, .string ⟨#[]⟩, .slice none 0 0]) 3 48 Tryd.underlying24 hi hz0 hz1 hz2 rfl (by omega) v k (rowOf It.cells K) rfl HO3.out ⟨w2.heap.size, 0, none⟩ 1 1 (It.cells ⟨id, kd, a', c', L⟩) ?hx rfl HSrc.out (oneI _) (by omega) (by unfold maxLen; omega) (by omega) (Nat.le_trans hlo hbr3.size) _ rfl ?_
          case hx => simp [Act.eval]
          intro g5 c5 w5 ho5 hg5 hat5 hlt5
          rw [rowI_app] at ho5
          have hB5 := hB3.grown hg5 hB3.size (fun q e => by have := HOb.out q e; omega)
          have far : ∀ q, q < w.heap.size + 1 + 1 + 1 → w5.heap[q]? = (w2.alloc (.cells #[.int .i64 id, .string kd, .slice a' L.length c'] 38)).heap[q]? := fun q hq => hg5.block q (Nat.lt_of_lt_of_le hq (Nat.le_trans hlo hbr3.size)) (fun e => by have := HOb.out q e.symm; omega)
          have hO5 := (far _ (by omega)).trans hO3
          have hA5 := (far _ (by omega)).trans hA3
          have hR5 := (far _ (by omega)).trans hR3
          have S5 := sI5 hA5 hr hB5 HKn.out HX.out
          obtain ⟨o5, o51, of0, of1⟩ := box2_cell hO5
          have hg5l : w.heap.size + 1 + 1 + 1 ≤ g5 := by
            rcases hat5 with e | e
            · exact (HOb.out g5 e).2
            · rw [e]; exact Nat.le_trans hlo hbr3.size
          have HC3 := hide (HCop.out.more (K' := K ++ [⟨id, kd, a', c', L⟩]) (x := ⟨id, kd, a', c', L⟩) hbr3 (World.grownBy.refl _ _) (fun i hi => iAt_app_lt (by rw [HKk.out]; exact hi)) (by have e := iAt_app_eq K ⟨id, kd, a', c', L⟩; rw [HKk.out] at e; exact e) (by rw [← HX.out]; rfl) (fun hne => by obtain ⟨q, e, h1, o⟩ := hnew3.own hne; exact ⟨q, e, h1, o⟩) hnew3.2 hlo hgs)
          have st := box2_set0 hO5 (.slice (some ⟨g5, 0, none⟩) (k + 1) c5)
          have HC6 := hide (HC3.out.rebase2 (w' := w5.setCell ⟨w.heap.size + 1 + 1, 0, none⟩ (.slice (some ⟨g5, 0, none⟩) (k + 1) c5)) (g' := g5) (fun q hq1 hq hne => (st.2.block q (Nat.lt_of_lt_of_le hq hg5.size) (fun e => by have e2 : q = w.heap.size + 1 + 1 := Option.some.inj e; omega)).trans (hg5.block q hq (fun e => hne (HOb.out q e.symm).1))) (by rcases hat5 with e | e; exact .inl (HOb.out g5 e).1; exact .inr (Nat.le_of_eq e.symm)))
          have HO6 := hide (ownsRow_sameB (w' := w5.setCell ⟨w.heap.size + 1 + 1, 0, none⟩ (.slice (some ⟨g5, 0, none⟩) (k + 1) c5)) ho5 (fun q e => by have e1 : g5 = q := Option.some.inj e; subst e1; exact st.2.block g5 hlt5 (fun e => by have e2 : g5 = w.heap.size + 1 + 1 := Option.some.inj e; omega)))
          have hB6 := below_set hB5 st.2 (by omega)
          have hA6 := box_gr hA5 st.2 (by omega)
          have hR6 := box_gr hR5 st.2 (by omega)
          have hO6 := st.1
          have S6 := sI5 hA6 hr hB6 HKn.out HX.out
          have hlt6 := Nat.lt_of_lt_of_le hlt5 st.2.size
          have HLen : Hid ((K ++ [(⟨id, kd, a', c', L⟩ : It)]).length = k + 1) := by unfold Hid; rw [List.length_append, HKk.out]; rfl
          refine hK.out _ _ S5 (fun hHeld => ?_)
          clear hK Kk
          refine wpAnyH_take (i := 18) (oi := Oper.mk (some 33) _ _ _ _ _) (v := ?v17) rfl (by kernel_rfl) (by kernel_rfl) (by kernel_rfl) (fun _ _ _ h => h) (Or.inl ⟨by rfl, ?y17⟩) hHeld ?r17
          case y17 => (intro W hSW; obtain ⟨q0, q1, q2, q3⟩ := hSW; go_simp; try with_reducible rfl)
          simp only [Act.put, List.setIfInBounds_toArray, List.set_cons_zero, List.set_cons_succ]
          refine wpAnyH_ready (rs := [19]) (by kernel_rfl) (by simp) (AllReadyH.cons (o := Oper.mk none _ _ _ _ _) rfl (fun Kk hK => ?_) AllReadyH.nil)
          go_simp
          refine hK.out _ _ S6 (fun hHeld => ?_)
          clear hK Kk
          refine wpAnyH_done (by kernel_rfl) ?_ _
          have HB6 := hide hB6
          have HA6 := hide hA6
          have HR6 := hide hR6
          have HP6 := hide hO6
          clear S2 S3 S5 S6 st hO6 hA6 hR6 hB6 o5 o51 of0 of1 hO5 hA5 hR5 far hB5 hHeld o3 hO3 hA3 hR3 ho5 hg5 HO3 HSrc hnew3 hB3 hbr3 ba3 o2 hO2 hB2 hbr2 hnew b2 HC3 HCop HOwn hO hA hR S0 o0 
          go_wp2
          go_roundw
          case rel => exact ⟨k + 1, g5, _, _, by omega, by go_num, HLen.out, HP6.out, HA6.out, HR6.out, Or.inr ⟨c5, rfl, hg5l⟩, hlt6, HO6.out, HC6.out, HB6.out⟩
          case measure => simp [intOf]; omega
        · go_simp
          have ba3 := below_al w2 (.cells #[.int .i64 id, .string kd, .slice a' L.length c'] 38)
          have hbr3 := hbr2.trans (ba3.mono hbr2.size)
          have hB3 := hbel.trans (hbr3.mono hbel.size)
          have hnew3 : NewV _ wr.heap.size a' c' L := hnew.later ba3
          have HSrc := hide (srcI w2 ⟨id, kd, a', c', L⟩)
          have HO3 := hide (ownsRow_below HOwn.out hbr3)
          have hO3 := box_step hO hbr3
          have hA3 := box_step hA hbr3
          have hR3 := box_step hR hbr3
          have S3 := sI hA hO hr HKn.out hbr3 hB3 HX.out
          obtain ⟨o3, -, -, -⟩ := box2_cell hO3
          refine hK.out _ _ S3 (fun hHeld => ?_)
          clear hK Kk
          refine wpAnyH_ready (rs := [1]) (by kernel_rfl) (by simp) (AllReadyH.cons (o := Oper.mk (some 16) _ _ _ _ _) rfl (fun Kk hK => ?_) AllReadyH.nil)
          go_simp
          refine hK.out _ _ S3 (fun hHeld => ?_)
          clear hK Kk
          refine wpAnyH_ready (rs := [17]) (by kernel_rfl) (by simp) (AllReadyH.cons (o := Oper.mk (some 32) _ _ _ _ _) rfl (fun Kk hK => ?_) AllReadyH.nil)
          refine step_append_lies _ rfl (.tmp 16) (.tmp 31) 24 rfl (w.heap.size + 1 + 1 + 1) 38 i0 (.agg #[.int .i64 0, .string ⟨#[]⟩, .slice none 0 0]) 3 48 Tryd.underlying24 hi hz0 hz1 hz2 rfl (by omega) v k (rowOf It.cells K) rfl HO3.out ⟨w2.heap.size, 0, none⟩ 1 1 (It.cells ⟨id, kd, a', c', L⟩) ?hx rfl HSrc.out (oneI _) (by omega) (by unfold maxLen; omega) (by omega) (Nat.le_trans hlo hbr3.size) _ rfl ?_
          case hx => simp [Act.eval]
          intro g5 c5 w5 ho5 hg5 hat5 hlt5
          rw [rowI_app] at ho5
          have hB5 := hB3.grown hg5 hB3.size (fun q e => by have := HOb.out q e; omega)
          have far : ∀ q, q < w.heap.size + 1 + 1 + 1 → w5.heap[q]? = (w2.alloc (.cells #[.int .i64 id, .string kd, .slice a' L.length c'] 38)).heap[q]? := fun q hq => hg5.block q (Nat.lt_of_lt_of_le hq (Nat.le_trans hlo hbr3.size)) (fun e => by have := HOb.out q e.symm; omega)
          have hO5 := (far _ (by omega)).trans hO3
          have hA5 := (far _ (by omega)).trans hA3
          have hR5 := (far _ (by omega)).trans hR3
          have S5 := sI5 hA5 hr hB5 HKn.out HX.out
          obtain ⟨o5, o51, of0, of1⟩ := box2_cell hO5
          have hg5l : w.heap.size + 1 + 1 + 1 ≤ g5 := by
            rcases hat5 with e | e
            · exact (HOb.out g5 e).2
            · rw [e]; exact Nat.le_trans hlo hbr3.size
          have HC3 := hide (HCop.out.more (K' := K ++ [⟨id, kd, a', c', L⟩]) (x := ⟨id, kd, a', c', L⟩) hbr3 (World.grownBy.refl _ _) (fun i hi => iAt_app_lt (by rw [HKk.out]; exact hi)) (by have e := iAt_app_eq K ⟨id, kd, a', c', L⟩; rw [HKk.out] at e; exact e) (by rw [← HX.out]; rfl) (fun hne => by obtain ⟨q, e, h1, o⟩ := hnew3.own hne; exact ⟨q, e, h1, o⟩) hnew3.2 hlo hgs)
          have st := box2_set0 hO5 (.slice (some ⟨g5, 0, none⟩) (k + 1) c5)
          have HC6 := hide (HC3.out.rebase2 (w' := w5.setCell ⟨w.heap.size + 1 + 1, 0, none⟩ (.slice (some ⟨g5, 0, none⟩) (k + 1) c5)) (g' := g5) (fun q hq1 hq hne => (st.2.block q (Nat.lt_of_lt_of_le hq hg5.size) (fun e => by have e2 : q = w.heap.size + 1 + 1 := Option.some.inj e; omega)).trans (hg5.block q hq (fun e => hne (HOb.out q e.symm).1))) (by rcases hat5 with e | e; exact .inl (HOb.out g5 e).1; exact .inr (Nat.le_of_eq e.symm)))
          have HO6 := hide (ownsRow_sameB (w' := w5.setCell ⟨w.heap.size + 1 + 1, 0, none⟩ (.slice (some ⟨g5, 0, none⟩) (k + 1) c5)) ho5 (fun q e => by have e1 : g5 = q := Option.some.inj e; subst e1; exact st.2.block g5 hlt5 (fun e => by have e2 : g5 = w.heap.size + 1 + 1 := Option.some.inj e; omega)))
          have hB6 := below_set hB5 st.2 (by omega)
          have hA6 := box_gr hA5 st.2 (by omega)
          have hR6 := box_gr hR5 st.2 (by omega)
          have hO6 := st.1
          have S6 := sI5 hA6 hr hB6 HKn.out HX.out
          have hlt6 := Nat.lt_of_lt_of_le hlt5 st.2.size
          have HLen : Hid ((K ++ [(⟨id, kd, a', c', L⟩ : It)]).length = k + 1) := by unfold Hid; rw [List.length_append, HKk.out]; rfl
          refine hK.out _ _ S5 (fun hHeld => ?_)
          clear hK Kk
          refine wpAnyH_take (i := 18) (oi := Oper.mk (some 33) _ _ _ _ _) (v := ?v18) rfl (by kernel_rfl) (by kernel_rfl) (by kernel_rfl) (fun _ _ _ h => h) (Or.inl ⟨by rfl, ?y18⟩) hHeld ?r18
          case y18 => (intro W hSW; obtain ⟨q0, q1, q2, q3⟩ := hSW; go_simp; try with_reducible rfl)
          simp only [Act.put, List.setIfInBounds_toArray, List.set_cons_zero, List.set_cons_succ]
          refine wpAnyH_ready (rs := [19]) (by kernel_rfl) (by simp) (AllReadyH.cons (o := Oper.mk none _ _ _ _ _) rfl (fun Kk hK => ?_) AllReadyH.nil)
          go_simp
          refine hK.out _ _ S6 (fun hHeld => ?_)
          clear hK Kk
          refine wpAnyH_done (by kernel_rfl) ?_ _
          have HB6 := hide hB6
          have HA6 := hide hA6
          have HR6 := hide hR6
          have HP6 := hide hO6
          clear S2 S3 S5 S6 st hO6 hA6 hR6 hB6 o5 o51 of0 of1 hO5 hA5 hR5 far hB5 hHeld o3 hO3 hA3 hR3 ho5 hg5 HO3 HSrc hnew3 hB3 hbr3 ba3 o2 hO2 hB2 hbr2 hnew b2 HC3 HCop HOwn hO hA hR S0 o0 
          go_wp2
          go_roundw
          case rel => exact ⟨k + 1, g5, _, _, by omega, by go_num, HLen.out, HP6.out, HA6.out, HR6.out, Or.inr ⟨c5, rfl, hg5l⟩, hlt6, HO6.out, HC6.out, HB6.out⟩
          case measure => simp [intOf]; omega
    · have hkn : k = K.length := by rw [HKk.out]
      have hkn2 : k = n := by omega
      subst hkn2
      rcases hvg with ⟨hk0, rfl⟩ | ⟨cp, rfl, hgl⟩
      · have e1 : K = [] := List.eq_nil_of_length_eq_zero (by omega)
        have e2 : J = [] := List.eq_nil_of_length_eq_zero (by rw [HJ.out]; exact hk0)
        obtain ⟨z0, z1, zf0, zf1⟩ := box2_cell hR
        obtain ⟨o0, o1, -, -⟩ := box2_cell hO
        obtain ⟨a0, a1, -, -⟩ := box2_cell hA
        go_wp2
        refine box2_post hR (fun w4 h4 gr => ?_)
        clear z0 z1 zf0 zf1 o0 o1 a0 a1
        obtain ⟨d0, d1, -, -⟩ := box2_cell h4
        exact bodyPost_ret (v := .agg #[.slice none 0 0, .int .i64 nx]) (by simp [results, Tryd.results26, go_sem, d0, d1]) rfl ⟨K, .slice none 0 0, rfl, .inl ⟨hk0, e1, rfl⟩, by rw [e1, e2], below_set hbel gr (by omega)⟩
      · have HD := hide (Copied.done (cp := cp) (hkn ▸ HCop.out) (by rw [HKk.out, HJ.out]) hgl (by rw [HKk.out]; exact HOwn.out))
        clear hkn
        obtain ⟨z0, z1, zf0, zf1⟩ := box2_cell hR
        obtain ⟨o0, o1, -, -⟩ := box2_cell hO
        obtain ⟨a0, a1, -, -⟩ := box2_cell hA
        go_wp2
        refine box2_post hR (fun w4 h4 gr => ?_)
        clear z0 z1 zf0 zf1 o0 o1 a0 a1
        obtain ⟨d0, d1, -, -⟩ := box2_cell h4
        exact bodyPost_ret (v := .agg #[.slice (some ⟨g, 0, none⟩) k cp, .int .i64 nx]) (by simp [results, Tryd.results26, go_sem, d0, d1]) rfl ⟨K, _, rfl, .inr ⟨g, cp, rfl, (HD.out.1.grown gr (by omega)).weaken (by omega)⟩, HD.out.2, below_set hbel gr (by omega)⟩
end Go.Proofs.YtbellpalomiokadDoor
/-
  What a store that is written into keeps: its box is no block of its rows; one item more.
-/
namespace Go.Proofs.YtbellpalomiokadDoor
open Go.RowKit
set_option linter.unusedVariables false

/-- a block that holds a row of one type is no box of another -/
theorem row_ne_box {w : World} {base n size g cap p : Nat} {T T' : TypeId} {xs : List Value} {cs : Array Value} (h : w.ownsRow base T size (.slice (some ⟨g, 0, none⟩) n cap) n xs) (hp : w.heap[p]? = some (.cells cs T' (0, 0))) (hT : T ≠ T') : p ≠ g := by
  rintro rfl
  rcases h.2 with h2 | ⟨g', cap', cur, e, hb, hg, rest⟩
  · exact absurd h2 (by simp)
  · simp only [Value.slice.injEq, Option.some.injEq, Addr.mk.injEq] at e
    rw [← e.1.1, hp] at hg
    simp only [Option.some.injEq, Obj.cells.injEq] at hg
    exact hT hg.2.1.symm
theorem HoldsI.copied {w : World} {lo g cp : Nat} {K : List It} (h : HoldsI w lo g cp K) (x : It) : Copied w lo g (K ++ [x]) K K.length :=
  ⟨fun i hi => ⟨by rw [iAt_app_lt hi], h.vals i hi, h.lies i hi⟩, h.apart⟩
/-- as rebase, the box p is written too: no list lies in it -/
theorem Copied.rebase3 {w w' : World} {lo g g' p : Nat} {J K : List It} {k : Nat} {cs : Array Value} (h : Copied w lo g J K k) (hp : w.heap[p]? = some (.cells cs 26 (0, 0))) (hk : ∀ q, q < w.heap.size → q ≠ g → q ≠ p → w'.heap[q]? = w.heap[q]?) (hg : g' = g ∨ w.heap.size ≤ g') : Copied w' lo g' J K k := by
  refine ⟨fun i hi => ?_, h.2⟩
  obtain ⟨h1, h2, h3⟩ := h.1 i hi
  refine ⟨h1, fun hne => ?_, h3⟩
  obtain ⟨q, e, hl, hq, o⟩ := h2 hne
  have hlt := o.lt
  have hqp : p ≠ q := row_ne_box o hp (by decide)
  refine ⟨q, e, hl, by rcases hg with rfl | hg; exact hq; omega, ?_⟩
  exact ownsRow_sameB o (fun j hj => by simp only [Value.ownBlock, Option.some.injEq] at hj; rw [← hj]; exact hk q hlt hq (fun e => hqp e.symm))
end Go.Proofs.YtbellpalomiokadDoor
/-
  Four cells (two facts in memory) and what two lists of values read as are kept where all that was there is.
-/
namespace Go.Proofs.YtbellpalomiokadDoor
open Go.RowKit
set_option linter.unusedVariables false

/-- two facts in memory, their lists, and all that was there at the head -/
def Two (w0 : World) (B : Nat) (a b : Option Addr) (L M : List V3) (W : World) : Prop := RdV W a L ∧ RdV W b M ∧ Below B w0 W ∧ B ≤ W.heap.size
theorem Two.keep {w0 W w' : World} {B : Nat} {a b : Option Addr} {L M : List V3} (h : Two w0 B a b L M W) (hb : Below W.heap.size W w') : Two w0 B a b L M w' :=
  ⟨h.1.below hb, h.2.1.below hb, h.2.2.1.trans (hb.mono h.2.2.2), Nat.le_trans h.2.2.2 hb.size⟩
theorem Two.drew {w0 W : World} {B : Nat} {a b : Option Addr} {L M : List V3} (h : Two w0 B a b L M W) : Two w0 B a b L M W.drew :=
  ⟨h.1.heap rfl, h.2.1.heap rfl, h.2.2.1.drew, h.2.2.2⟩
theorem keepF {w0 W w' : World} {B : Nat} {p0 p1 p2 p3 : Addr} {v0 v1 v2 v3 : Value} {a b : Option Addr} {L M : List V3} (hb : Below W.heap.size W w')
    (h : W.cell? p0 = some v0 ∧ W.cell? p1 = some v1 ∧ W.cell? p2 = some v2 ∧ W.cell? p3 = some v3 ∧ Two w0 B a b L M W) :
    w'.cell? p0 = some v0 ∧ w'.cell? p1 = some v1 ∧ w'.cell? p2 = some v2 ∧ w'.cell? p3 = some v3 ∧ Two w0 B a b L M w' := by
  obtain ⟨h0, h1, h2, h3, h4⟩ := h
  have k : ∀ {a : Addr} {v : Value}, W.cell? a = some v → w'.cell? a = some v := fun {a v} h => by rw [hb.cell (World.block_lt_of_cell? W _ h)]; exact h
  exact ⟨k h0, k h1, k h2, k h3, h4.keep hb⟩
theorem rdA {w0 W : World} {B : Nat} {p0 p1 p2 p3 : Addr} {v0 v1 v2 v3 : Value} {a b : Option Addr} {L M : List V3}
    (h : W.cell? p0 = some v0 ∧ W.cell? p1 = some v1 ∧ W.cell? p2 = some v2 ∧ W.cell? p3 = some v3 ∧ Two w0 B a b L M W) : RdV W a L := h.2.2.2.2.1
theorem rdB {w0 W : World} {B : Nat} {p0 p1 p2 p3 : Addr} {v0 v1 v2 v3 : Value} {a b : Option Addr} {L M : List V3}
    (h : W.cell? p0 = some v0 ∧ W.cell? p1 = some v1 ∧ W.cell? p2 = some v2 ∧ W.cell? p3 = some v3 ∧ Two w0 B a b L M W) : RdV W b M := h.2.2.2.2.2.1
end Go.Proofs.YtbellpalomiokadDoor
/-
  The contracts of the laws' own comparison of items and stores: what is plainly the same is found the same.
-/
namespace Go.Proofs.YtbellpalomiokadDoor
open Go.RowKit
set_option linter.unusedVariables false

/-- two items in memory, their lists, and all that was there at the head -/
theorem keepI {w0 W w' : World} {B : Nat} {p0 p1 p2 p3 p4 p5 : Addr} {v0 v1 v2 v3 v4 v5 : Value} {a b : Option Addr} {L M : List V3} (hb : Below W.heap.size W w')
    (h : W.cell? p0 = some v0 ∧ W.cell? p1 = some v1 ∧ W.cell? p2 = some v2 ∧ W.cell? p3 = some v3 ∧ W.cell? p4 = some v4 ∧ W.cell? p5 = some v5 ∧ Two w0 B a b L M W) :
    w'.cell? p0 = some v0 ∧ w'.cell? p1 = some v1 ∧ w'.cell? p2 = some v2 ∧ w'.cell? p3 = some v3 ∧ w'.cell? p4 = some v4 ∧ w'.cell? p5 = some v5 ∧ Two w0 B a b L M w' := by
  obtain ⟨h0, h1, h2, h3, h4, h5, h6⟩ := h
  have k : ∀ {a : Addr} {v : Value}, W.cell? a = some v → w'.cell? a = some v := fun {a v} h => by rw [hb.cell (World.block_lt_of_cell? W _ h)]; exact h
  exact ⟨k h0, k h1, k h2, k h3, k h4, k h5, h6.keep hb⟩

end Go.Proofs.YtbellpalomiokadDoor
/-
  What the orders of numbers, texts and values answer.
-/
namespace Go.Proofs.YtbellpalomiokadDoor
open Go.RowKit
set_option linter.unusedVariables false

def cmpI (x y : Int) : Int := if x < y then -1 else if y < x then 1 else 0
def cmpS (a b : ByteArray) : Int := if Op.bytesLess a.toList b.toList then -1 else if a.toList == b.toList then 0 else 1
def orI (a b c : Int) : Int := if a != 0 then a else if b != 0 then b else c

end Go.Proofs.YtbellpalomiokadDoor
/-
  What the order of values answers, the tested one and the model's alike: lessB; nothing that was there has turned.
-/
namespace Go.Proofs.YtbellpalomiokadDoor
open Go.RowKit
set_option linter.unusedVariables false

def lessB (K N : Int) (S : ByteArray) (K' N' : Int) (S' : ByteArray) : Bool :=
  if K != K' then decide (K < K') else if N != N' then decide (N < N') else Op.bytesLess S.toList S'.toList

theorem new3 (w : World) (o1 o2 : Obj) (a b c : Value) (T : TypeId) : (((w.alloc o1).alloc o2).alloc (.cells #[a, b, c] T)).drew.heap[w.heap.size + 1 + 1]? = some (.cells #[a, b, c] T (0, 0)) := by
  have := box_new ((w.alloc o1).alloc o2) a b c T
  simp only [World.size_alloc] at this
  exact this
theorem new3_0 (w : World) (o1 o2 : Obj) (a b c : Value) (T : TypeId) : (((w.alloc o1).alloc o2).alloc (.cells #[a, b, c] T)).drew.cell? ⟨w.heap.size + 1 + 1, 0, none⟩ = some a := (box_cell (new3 w o1 o2 a b c T)).1
theorem new3_1 (w : World) (o1 o2 : Obj) (a b c : Value) (T : TypeId) : (((w.alloc o1).alloc o2).alloc (.cells #[a, b, c] T)).drew.cell? ⟨w.heap.size + 1 + 1, 1, none⟩ = some b := (box_cell (new3 w o1 o2 a b c T)).2.1
theorem new3_2 (w : World) (o1 o2 : Obj) (a b c : Value) (T : TypeId) : (((w.alloc o1).alloc o2).alloc (.cells #[a, b, c] T)).drew.cell? ⟨w.heap.size + 1 + 1, 2, none⟩ = some c := (box_cell (new3 w o1 o2 a b c T)).2.2.1

theorem cmpI_neg (x y : Int) : (cmpI x y < 0 ↔ x < y) ∧ (cmpI x y = 0 ↔ x = y) := by
  unfold cmpI
  by_cases h1 : x < y
  · rw [if_pos h1]; omega
  · rw [if_neg h1]
    by_cases h2 : y < x
    · rw [if_pos h2]; omega
    · rw [if_neg h2]; omega
theorem cmpS_neg (a b : ByteArray) : (cmpS a b < 0) ↔ Op.bytesLess a.toList b.toList = true := by
  unfold cmpS
  cases Op.bytesLess a.toList b.toList
  · simp only [Bool.false_eq_true, if_false, iff_false]
    split <;> omega
  · simp
theorem cmpI_bne (x y : Int) : (cmpI x y != 0) = (x != y) := by
  have h := (cmpI_neg x y).2
  by_cases e : x = y
  · have h0 := h.2 e; rw [h0]; simp [e]
  · have h0 : cmpI x y ≠ 0 := fun h1 => e (h.1 h1)
    rw [bne_iff_ne.2 h0, bne_iff_ne.2 e]
theorem less_of (K N : Int) (S : ByteArray) (K' N' : Int) (S' : ByteArray) : decide (orI (cmpI K K') (cmpI N N') (cmpS S S') < 0) = lessB K N S K' N' S' := by
  have h1 := (cmpI_neg K K').1
  have h2 := (cmpI_neg N N').1
  have h3 := cmpS_neg S S'
  unfold orI lessB
  rw [cmpI_bne, cmpI_bne]
  cases (K != K')
  · cases (N != N')
    · cases hb : Op.bytesLess S.toList S'.toList
      · rw [hb] at h3; simpa using h3
      · rw [hb] at h3; simpa using h3
    · simpa using h2
  · simpa using h1

end Go.Proofs.YtbellpalomiokadDoor
/-
  When two values are the same, plainly.
-/
namespace Go.Proofs.YtbellpalomiokadDoor
open Go.RowKit
set_option linter.unusedVariables false

theorem toList_inj {S S' : ByteArray} (h : S.toList = S'.toList) : S = S' := by
  rw [ByteArray.toList_eq, ByteArray.toList_eq] at h
  cases S; cases S'
  simp at h
  rw [h]
theorem v3_cases (v u : V3) : v = u ∨ (v ≠ u ∧ ((v.K == u.K) = false ∨ ((v.K == u.K) = true ∧ (v.N == u.N) = false) ∨ ((v.K == u.K) = true ∧ (v.N == u.N) = true ∧ (v.S.toList == u.S.toList) = false))) := by
  by_cases h1 : v.K = u.K
  · by_cases h2 : v.N = u.N
    · by_cases h3 : v.S.toList = u.S.toList
      · left; exact V3.ext' h1 h2 (toList_inj h3)
      · right
        exact ⟨fun e => h3 (by rw [e]), .inr (.inr ⟨by simpa using h1, by simpa using h2, by simpa using h3⟩)⟩
    · right
      exact ⟨fun e => h2 (by rw [e]), .inr (.inl ⟨by simpa using h1, by simpa using h2⟩)⟩
  · right
    exact ⟨fun e => h1 (by rw [e]), .inl (by simpa using h1)⟩
instance : DecidableEq V3 := fun a b => by
  by_cases h : a.K = b.K ∧ a.N = b.N ∧ a.S = b.S
  · exact .isTrue (V3.ext' h.1 h.2.1 h.2.2)
  · exact .isFalse (fun e => h (by rw [e]; exact ⟨rfl, rfl, rfl⟩))

end Go.Proofs.YtbellpalomiokadDoor
/-
  The order of values, plainly: of two unlike ones one is less, of two like ones none.
-/
namespace Go.Proofs.YtbellpalomiokadDoor
open Go.RowKit
set_option linter.unusedVariables false

theorem bl_tri : ∀ x y : List UInt8, (x = y ∧ Op.bytesLess x y = false ∧ Op.bytesLess y x = false) ∨ (x ≠ y ∧ ((Op.bytesLess x y = true ∧ Op.bytesLess y x = false) ∨ (Op.bytesLess x y = false ∧ Op.bytesLess y x = true)))
  | [], [] => .inl ⟨rfl, rfl, rfl⟩
  | [], b :: y => .inr ⟨by simp, .inl ⟨rfl, rfl⟩⟩
  | a :: x, [] => .inr ⟨by simp, .inr ⟨rfl, rfl⟩⟩
  | a :: x, b :: y => by
    have ih := bl_tri x y
    by_cases h1 : a = b
    · subst h1
      have hl : ¬ a < a := UInt8.lt_irrefl a
      rcases ih with ⟨rfl, h2, h3⟩ | ⟨hne, h⟩
      · left
        refine ⟨rfl, ?_, ?_⟩ <;> simp [Op.bytesLess, hl, h2]
      · right
        refine ⟨by simpa using hne, ?_⟩
        rcases h with ⟨h2, h3⟩ | ⟨h2, h3⟩
        · left; constructor <;> simp [Op.bytesLess, hl, h2, h3]
        · right; constructor <;> simp [Op.bytesLess, hl, h2, h3]
    · right
      have h1' : ¬ b = a := fun e => h1 e.symm
      refine ⟨by simp [h1], ?_⟩
      rcases Nat.lt_or_ge a.toNat b.toNat with hlt | hge
      · left
        have l1 : a < b := UInt8.lt_iff_toNat_lt.2 hlt
        have l2 : ¬ b < a := fun h => by have := UInt8.lt_iff_toNat_lt.1 h; omega
        constructor
        · simp [Op.bytesLess, l1]
        · simp [Op.bytesLess, l2, h1']
      · right
        have hne : a.toNat ≠ b.toNat := fun e => h1 (UInt8.toNat_inj.1 e)
        have l1 : b < a := UInt8.lt_iff_toNat_lt.2 (by omega)
        have l2 : ¬ a < b := fun h => by have := UInt8.lt_iff_toNat_lt.1 h; omega
        constructor
        · simp [Op.bytesLess, l2, h1]
        · simp [Op.bytesLess, l1]


/-- two values are the same and none is less; or they differ and just one is -/
theorem order_cases (K N : Int) (S : ByteArray) (K' N' : Int) (S' : ByteArray) :
    (K = K' ∧ N = N' ∧ S = S' ∧ lessB K N S K' N' S' = false) ∨
    (((K == K') = false ∨ ((K == K') = true ∧ (N == N') = false) ∨ ((K == K') = true ∧ (N == N') = true ∧ (S.toList == S'.toList) = false)) ∧ ((lessB K N S K' N' S' = true ∧ lessB K' N' S' K N S = false) ∨ (lessB K N S K' N' S' = false ∧ lessB K' N' S' K N S = true))) := by
  unfold lessB
  by_cases hK : K = K'
  · subst hK
    by_cases hN : N = N'
    · subst hN
      rcases bl_tri S.toList S'.toList with ⟨h1, h2, h3⟩ | ⟨h1, h2⟩
      · left
        exact ⟨rfl, rfl, toList_inj h1, by simp [h2]⟩
      · right
        exact ⟨.inr (.inr ⟨by simp, by simp, by simpa using h1⟩), by simpa using h2⟩
    · right
      have h1 : (N != N') = true := by simpa using hN
      have h2 : (N' != N) = true := by simpa using fun e => hN e.symm
      refine ⟨.inr (.inl ⟨by simp, by simpa using hN⟩), ?_⟩
      rw [h1, h2]
      simp
      omega
  · right
    have h1 : (K != K') = true := by simpa using hK
    have h2 : (K' != K) = true := by simpa using fun e => hK e.symm
    refine ⟨.inl (by simpa using hK), ?_⟩
    rw [h1, h2]
    simp
    omega
end Go.Proofs.YtbellpalomiokadDoor
/-
  The order of facts, plainly.
-/
namespace Go.Proofs.YtbellpalomiokadDoor
open Go.RowKit
set_option linter.unusedVariables false

def V3.less (v u : V3) : Bool := lessB v.K v.N v.S u.K u.N u.S
/-- the first that are unlike decide -/
def lessL : List V3 → List V3 → Bool
  | v :: r, u :: s => if v = u then lessL r s else v.less u
  | _, _ => false
def lessF (kd : ByteArray) (L : List V3) (kd' : ByteArray) (M : List V3) : Bool :=
  if kd.toList != kd'.toList then Op.bytesLess kd.toList kd'.toList else if ((L.length : Int) != (M.length : Int)) then decide ((L.length : Int) < (M.length : Int)) else lessL L M
def sameF (kd : ByteArray) (L : List V3) (kd' : ByteArray) (M : List V3) : Bool := decide (kd = kd') && decide (L = M)

theorem lessL_at : ∀ {L M : List V3} {k : Nat}, k < L.length → k < M.length → (∀ j, j < k → vAt L j = vAt M j) → vAt L k ≠ vAt M k → lessL L M = (vAt L k).less (vAt M k)
  | [], _, k, h, _, _, _ => absurd h (Nat.not_lt_zero _)
  | _ :: _, [], k, _, h, _, _ => absurd h (Nat.not_lt_zero _)
  | v :: r, u :: s, 0, _, _, _, hne => by
    have hne' : v ≠ u := hne
    show (if v = u then _ else _) = _
    rw [if_neg hne']; rfl
  | v :: r, u :: s, k + 1, h, h', hall, hne => by
    have h0 : v = u := hall 0 (by omega)
    show (if v = u then _ else _) = _
    rw [if_pos h0]
    exact lessL_at (L := r) (M := s) (k := k) (by simpa using h) (by simpa using h') (fun j hj => hall (j + 1) (by omega)) hne
theorem lessL_none : ∀ {L M : List V3}, (∀ j, j < L.length → vAt L j = vAt M j) → lessL L M = false
  | [], _, _ => rfl
  | _ :: _, [], _ => rfl
  | v :: r, u :: s, h => by
    have h0 : v = u := h 0 (by simp)
    show (if v = u then _ else _) = _
    rw [if_pos h0]
    exact lessL_none (L := r) (M := s) (fun j hj => h (j + 1) (by simpa using hj))
theorem eq_of_at {L M : List V3} (hl : L.length = M.length) (h : ∀ j, j < L.length → vAt L j = vAt M j) : L = M := by
  apply List.ext_getElem hl
  intro i h1 h2
  have := h i h1
  rw [vAt_in h1, vAt_in h2] at this
  exact this
theorem ne_of_at {L M : List V3} {k : Nat} (h : vAt L k ≠ vAt M k) : L ≠ M := fun e => h (by rw [e])

theorem cmpS_zero (a b : ByteArray) : cmpS a b = 0 ↔ a.toList = b.toList := by
  unfold cmpS
  rcases bl_tri a.toList b.toList with ⟨h1, h2, h3⟩ | ⟨h1, h2⟩
  · rw [h2, h1]; simp
  · rcases h2 with ⟨h2, h3⟩ | ⟨h2, h3⟩
    · rw [h2]; simp [h1]
    · rw [h2]; simp [h1]
def cmpV (v u : V3) : Int := orI (cmpI v.K u.K) (cmpI v.N u.N) (cmpS v.S u.S)
theorem cmpV_zero (v u : V3) : cmpV v u = 0 ↔ v = u := by
  have h1 := (cmpI_neg v.K u.K).2
  have h2 := (cmpI_neg v.N u.N).2
  have h3 := cmpS_zero v.S u.S
  unfold cmpV orI
  constructor
  · intro h
    by_cases e1 : cmpI v.K u.K = 0
    · rw [e1] at h
      simp only [bne_self_eq_false, Bool.false_eq_true, if_false] at h
      by_cases e2 : cmpI v.N u.N = 0
      · rw [e2] at h
        simp only [bne_self_eq_false, Bool.false_eq_true, if_false] at h
        exact V3.ext' (h1.1 e1) (h2.1 e2) (toList_inj (h3.1 h))
      · rw [if_pos (by simpa using e2)] at h; exact absurd h e2
    · rw [if_pos (by simpa using e1)] at h; exact absurd h e1
  · rintro rfl
    rw [h1.2 rfl, h2.2 rfl, h3.2 rfl]; rfl
theorem cmpV_less (v u : V3) : decide (cmpV v u < 0) = v.less u := less_of _ _ _ _ _ _

/-- the compare of facts is below 0 just where one is less -/
theorem lessF_of (kd kd' : ByteArray) (L M : List V3) (r : Int) (hr : L.length = M.length → decide (r < 0) = lessL L M) :
    decide (orI (cmpS kd kd') (cmpI L.length M.length) r < 0) = lessF kd L kd' M := by
  have hz := cmpS_zero kd kd'
  have hn := cmpS_neg kd kd'
  unfold orI lessF
  by_cases e1 : kd.toList = kd'.toList
  · rw [hz.2 e1]
    simp only [bne_self_eq_false, Bool.false_eq_true, if_false, e1]
    rw [cmpI_bne]
    by_cases e2 : L.length = M.length
    · have : ((L.length : Int) != (M.length : Int)) = false := by simp [e2]
      rw [this]; exact hr e2
    · have : ((L.length : Int) != (M.length : Int)) = true := by simp; omega
      rw [this]
      simp only [if_true]
      exact decide_eq_decide.2 (cmpI_neg _ _).1
  · have h1 : (cmpS kd kd' != 0) = true := by simpa using fun h => e1 (hz.1 h)
    have h2 : (kd.toList != kd'.toList) = true := by simpa using e1
    rw [h1, h2]
    simp only [if_true]
    cases hb : Op.bytesLess kd.toList kd'.toList
    · rw [hb] at hn; simpa using hn
    · rw [hb] at hn; simpa using hn
end Go.Proofs.YtbellpalomiokadDoor
/-
  Plainly: the Id of the first item with a fact.
-/
namespace Go.Proofs.YtbellpalomiokadDoor
open Go.RowKit
set_option linter.unusedVariables false

def It.same (x : It) (kd : ByteArray) (M : List V3) : Bool := sameF x.kd x.L kd M
/-- the Id of the first item with this fact -/
def idP : List P4 → ByteArray → List V3 → Int
  | [], _, _ => 0
  | p :: r, kd, M => if sameF p.kd p.L kd M then p.id else idP r kd M
theorem idP_hit {kd : ByteArray} {M : List V3} : ∀ {J : List It} {k : Nat}, k < J.length → (∀ j, j < k → (iAt J j).same kd M = false) → (iAt J k).same kd M = true → idP (J.map It.pl) kd M = (iAt J k).id
  | [], k, h, _, _ => absurd h (Nat.not_lt_zero _)
  | x :: r, 0, h, _, hs => by
    have e : iAt (x :: r) 0 = x := rfl
    rw [e] at hs ⊢
    show (if sameF x.kd x.L kd M then _ else _) = _
    rw [show sameF x.kd x.L kd M = true from hs]; rfl
  | x :: r, k + 1, h, hn, hs => by
    have e : ∀ j, iAt (x :: r) (j + 1) = iAt r j := fun j => by simp [iAt, List.getD]
    have h0 := hn 0 (by omega)
    have e0 : iAt (x :: r) 0 = x := rfl
    rw [e0] at h0
    show (if sameF x.kd x.L kd M then _ else idP (r.map It.pl) kd M) = _
    rw [show sameF x.kd x.L kd M = false from h0, if_neg (by simp), e]
    rw [e] at hs
    exact idP_hit (by simpa using h) (fun j hj => by have := hn (j + 1) (by omega); rw [e] at this; exact this) hs
theorem idP_none {kd : ByteArray} {M : List V3} : ∀ {J : List It}, (∀ j, j < J.length → (iAt J j).same kd M = false) → idP (J.map It.pl) kd M = 0
  | [], _ => rfl
  | x :: r, hn => by
    have e : ∀ j, iAt (x :: r) (j + 1) = iAt r j := fun j => by simp [iAt, List.getD]
    have h0 := hn 0 (by simp)
    have e0 : iAt (x :: r) 0 = x := rfl
    rw [e0] at h0
    show (if sameF x.kd x.L kd M then _ else idP (r.map It.pl) kd M) = _
    rw [show sameF x.kd x.L kd M = false from h0, if_neg (by simp)]
    exact idP_none (fun j hj => by have := hn (j + 1) (by simpa using hj); rw [e] at this; exact this)
end Go.Proofs.YtbellpalomiokadDoor
/-
  copy of values (three cells each), as one step of a region that draws its order.
-/
namespace Go.Proofs.YtbellpalomiokadDoor
open Go.RowKit
set_option linter.unusedVariables false

theorem run_copy3 {P : Program} (w : World) (dT sT ty elem : TypeId) (g o dLen dCap : Nat) (a : Addr) (sLen sCap : Nat) (cur : Array Value) (t : TypeId) (cs : List Value)
    (hu : P.underlying dT = some (.slice elem)) (hs : (P.info? elem).map (·.size) = some 3)
    (hg : w.heap[g]? = some (.cells cur t (0, 0))) (hn : cs.length = Nat.min sLen dLen * 3)
    (hsrc : ∀ j v, cs[j]? = some v → w.cell? (a.add j) = some v) (hfit : o + cs.length ≤ cur.size) (h1 : ∀ v ∈ cs, v.oneCell' = true) :
    (Builtin.copy_ #[dT, sT] ty #[.slice (some ⟨g, o, none⟩) dLen dCap, .slice (some a) sLen sCap]).run P w =
      .ok (goInt (Nat.min sLen dLen)) (w.setRow g (cur.toList.take o ++ cs ++ cur.toList.drop (o + cs.length)).toArray) := by
  have hl := run_loadCells_list (P := P) w a cs hsrc
  have hst := run_storeCells_at P g o t cs 0 cur w hg (by simpa using hfit) h1
  cases hq : P.info? elem with
  | none => simp [hq] at hs
  | some i =>
    have hi : i.size = 3 := by simpa [hq] using hs
    simp [Builtin.copy_, run_underlying hu, Builtin.lenOf, Builtin.firstCells, sizeOf, typeInfo, hq, hi, ← hn, hl, hst]
theorem run_copy3_none {P : Program} (w : World) (dT sT ty elem : TypeId) (d a : Option Addr) (dLen dCap sLen sCap : Nat) (hu : P.underlying dT = some (.slice elem)) (hs : (P.info? elem).map (·.size) = some 3) (hn : Nat.min sLen dLen = 0) :
    (Builtin.copy_ #[dT, sT] ty #[.slice d dLen dCap, .slice a sLen sCap]).run P w = .ok (goInt 0) w := by
  cases hq : P.info? elem with
  | none => simp [hq] at hs
  | some i =>
    have hl : ∀ (x : Addr), (loadCells x 0).run P w = .ok #[] w := fun x => by simpa using run_loadCells_list (P := P) w x [] (by simp)
    cases d <;> cases a <;> simp [Builtin.copy_, run_underlying hu, Builtin.lenOf, Builtin.firstCells, sizeOf, typeInfo, hq, hn, storeCells, hl]

theorem step_copy3 {P : Program} {ops : Array Oper} {o : Oper} {a : Act} {w : World} {K : Act → World → Prop} {Q : Exit → Act → World → Prop} {E : Prop} (hgd : o.guard = none) (d s : Operand) (dT sT : TypeId)
    (ho : o.op = .call { callee := .builtin .copy, args := #[d, s], argTypes := #[dT, sT] }) (elem : TypeId) (hu : P.underlying dT = some (.slice elem)) (hsz : (P.info? elem).map (·.size) = some 3)
    (sp : Option Addr) (dLen dCap sLen sCap g off : Nat) (hd : a.eval d = .slice (some ⟨g, off, none⟩) dLen dCap) (hs : a.eval s = .slice sp sLen sCap)
    (cur : List Value) (t : TypeId) (hg : w.heap[g]? = some (.cells cur.toArray t (0, 0))) (cs : List Value) (hn : cs.length = Nat.min sLen dLen * 3)
    (hpos : 0 < cs.length → ∃ ad, sp = some ad ∧ ∀ j v, cs[j]? = some v → w.cell? (ad.add j) = some v)
    (hfit : off + cs.length ≤ cur.length) (h1 : ∀ v ∈ cs, v.oneCell' = true)
    (h : ∀ w', Hid (w'.heap[g]? = some (.cells (splice cur off cs).toArray t (0, 0))) → Hid (w.grownBy w' (some g)) → K (a.put o.dst (goInt (Nat.min sLen dLen))) w') :
    if Region.wanted o (yielded ops a.tmps) = true then Oper.wp P o a w K Q else E := by
  have hw : Region.wanted o (yielded ops a.tmps) = true := by simp [Region.wanted, hgd]
  rw [if_pos hw]
  by_cases h0 : cs.length = 0
  · obtain rfl : cs = [] := List.eq_nil_of_length_eq_zero h0
    have hm : Nat.min sLen dLen = 0 := by simp at hn; omega
    have hrun := run_copy3_none (P := P) w dT sT o.type elem (some ⟨g, off, none⟩) sp dLen dCap sLen sCap hu hsz hm
    unfold Oper.wp
    simp [execOp, ho, resolve, invoke, builtin, hd, hs, hrun, Result.andThen]
    have := h w (show _ = _ by simpa [splice] using hg) ⟨rfl, rfl, rfl, Nat.le_refl _, fun _ _ _ => rfl⟩
    rw [hm] at this
    exact this
  · obtain ⟨ad, rfl, hsrc⟩ := hpos (by omega)
    have hrun := run_copy3 (P := P) w dT sT o.type elem g off dLen dCap ad sLen sCap cur.toArray t cs hu hsz hg hn hsrc (by simpa using hfit) h1
    unfold Oper.wp
    simp [execOp, ho, resolve, invoke, builtin, hd, hs, hrun, Result.andThen]
    exact h _ (show _ = _ by simpa [splice] using setRow_heap w g _ _ t _ hg) ⟨rfl, rfl, rfl, by simp [World.setRow], fun k _ hk => by
      simp only [World.setRow]
      rw [Array.getElem?_modify]; exact if_neg (fun e => hk (by rw [e]))⟩
end Go.Proofs.YtbellpalomiokadDoor
/-
  What fixed and fieldsBeyond answer: a kind and five values, those that lack being zero; and the values beyond five.
-/
namespace Go.Proofs.YtbellpalomiokadDoor
open Go.RowKit
set_option linter.unusedVariables false

def zeroV : V3 := ⟨0, 0, ⟨#[]⟩⟩
/-- the first five, those that lack being zero -/
def pad5 (L : List V3) : List V3 := L.take 5 ++ List.replicate (5 - L.length) zeroV
theorem pad5_length (L : List V3) : (pad5 L).length = 5 := by unfold pad5; simp; omega
theorem list5 {L : List V3} (h : L.length = 5) : ∃ a b c d e, L = [a, b, c, d, e] := by
  match L, h with
  | [a, b, c, d, e], _ => exact ⟨a, b, c, d, e, rfl⟩
/-- the cells of a kind and five values -/
def cells16 (kd : ByteArray) (v0 v1 v2 v3 v4 : V3) : Array Value :=
  #[.string kd, .int .i64 v0.K, .int .i64 v0.N, .string v0.S, .int .i64 v1.K, .int .i64 v1.N, .string v1.S, .int .i64 v2.K, .int .i64 v2.N, .string v2.S, .int .i64 v3.K, .int .i64 v3.N, .string v3.S, .int .i64 v4.K, .int .i64 v4.N, .string v4.S]
def zero16 (kd : ByteArray) : List Value := .string kd :: cells3 (List.replicate 5 zeroV)
theorem splice16 (kd : ByteArray) (L : List V3) : splice (zero16 kd) 1 (cells3 (L.take 5)) = .string kd :: cells3 (pad5 L) := by
  have hl := cells3_length (L.take 5)
  unfold splice zero16 pad5
  rw [cells3_append, hl, Nat.add_comm 1, List.take_succ_cons, List.take_zero, List.drop_succ_cons]
  show .string kd :: (cells3 (L.take 5) ++ _) = _
  congr 2
  have e : ∀ n k : Nat, (cells3 (List.replicate n zeroV)).drop (k * 3) = cells3 (List.replicate (n - k) zeroV) := by
    intro n k
    induction k generalizing n with
    | zero => simp
    | succ k ih =>
      cases n with
      | zero => simp [cells3]
      | succ n =>
        have h3 : cells3 (List.replicate (n + 1) zeroV) = .int .i64 0 :: .int .i64 0 :: .string ⟨#[]⟩ :: cells3 (List.replicate n zeroV) := by simp [List.replicate_succ, cells3, zeroV]
        rw [h3, show (k + 1) * 3 = k * 3 + 1 + 1 + 1 by omega, List.drop_succ_cons, List.drop_succ_cons, List.drop_succ_cons, ih]
        congr 2; omega
  rw [e, List.length_take]
  congr 2; omega
theorem one3 {L : List V3} : ∀ v ∈ cells3 L, v.oneCell' = true := by
  intro v hv
  obtain ⟨u, _, hu⟩ := List.mem_flatMap.1 hv
  simp only [List.mem_cons, List.not_mem_nil, or_false] at hu
  rcases hu with rfl | rfl | rfl <;> rfl
theorem src3 {w : World} {p : Addr} {L : List V3} (hr : RdV w (some p) L) (m : Nat) : ∀ j v, (cells3 (L.take m))[j]? = some v → w.cell? (p.add j) = some v := by
  intro j v hj
  have hlt : j < (cells3 (L.take m)).length := (List.getElem?_eq_some_iff.1 hj).1
  rw [cells3_length] at hlt
  obtain ⟨i, r, rfl, hr3⟩ : ∃ i r, j = i * 3 + r ∧ r < 3 := ⟨j / 3, j % 3, by omega, by omega⟩
  have hi : i < (L.take m).length := by omega
  have hi2 : i < L.length := by simp at hi; omega
  obtain ⟨g0, g1, g2⟩ := cells3_get (L.take m) i hi
  have ev : vAt (L.take m) i = vAt L i := by rw [vAt_in hi, vAt_in hi2]; simp
  rw [ev] at g0 g1 g2
  obtain ⟨b, off, e, h0, h1, h2⟩ := hr i hi2
  simp only [Option.some.injEq] at e
  subst e
  rw [Addr.add_lit]
  match r, hr3 with
  | 0, _ => rw [Nat.add_zero, g0] at hj; rw [Nat.add_zero, h0]; exact hj
  | 1, _ => rw [g1] at hj; rw [← Nat.add_assoc, h1]; exact hj
  | 2, _ => rw [g2] at hj; rw [← Nat.add_assoc, h2]; exact hj

def setAll (w : World) (q : Nat) : Nat → List Value → World
  | _, [] => w
  | i, v :: r => setAll (w.setCell ⟨q, i, none⟩ v) q (i + 1) r
theorem setAll_heap (q : Nat) (T : TypeId) : ∀ (vs pre : List Value) (w : World) (rest : List Value), w.heap[q]? = some (.cells (pre ++ rest).toArray T (0, 0)) → rest.length = vs.length →
    (setAll w q pre.length vs).heap[q]? = some (.cells (pre ++ vs).toArray T (0, 0)) ∧ w.grownBy (setAll w q pre.length vs) (some q)
  | [], pre, w, rest, h, hl => by
    obtain rfl : rest = [] := List.eq_nil_of_length_eq_zero (by simpa using hl)
    exact ⟨h, ⟨rfl, rfl, rfl, Nat.le_refl _, fun _ _ _ => rfl⟩⟩
  | v :: vs, pre, w, [], h, hl => by simp at hl
  | v :: vs, pre, w, x :: rest, h, hl => by
    have h1 : (w.setCell ⟨q, pre.length, none⟩ v).heap[q]? = some (.cells ((pre ++ [v]) ++ rest).toArray T (0, 0)) := by
      rw [heap_setCell_same w q pre.length _ T v h]
      simp
    have ih := setAll_heap q T vs (pre ++ [v]) (w.setCell ⟨q, pre.length, none⟩ v) rest h1 (by simpa using hl)
    rw [List.length_append, List.length_cons, List.length_nil, List.append_assoc] at ih
    refine ⟨ih.1, ?_⟩
    obtain ⟨g1, g2, g3, g4, g5⟩ := ih.2
    exact ⟨g1, g2, g3, Nat.le_trans (by simp [World.setCell]) g4, fun k hk hne => (g5 k (by simpa [World.setCell] using hk) hne).trans (heap_setCell_other w ⟨q, pre.length, none⟩ k v (fun e => hne (by rw [e])))⟩

theorem cells16_get {w : World} {q : Nat} {T : TypeId} {kd : ByteArray} {v0 v1 v2 v3 v4 : V3} (h : w.heap[q]? = some (.cells (cells16 kd v0 v1 v2 v3 v4) T (0, 0))) :
    w.cell? ⟨q, 0, none⟩ = some (.string kd) ∧ w.cell? ⟨q, 1, none⟩ = some (.int .i64 v0.K) ∧ w.cell? ⟨q, 2, none⟩ = some (.int .i64 v0.N) ∧ w.cell? ⟨q, 3, none⟩ = some (.string v0.S) ∧ w.cell? ⟨q, 4, none⟩ = some (.int .i64 v1.K) ∧ w.cell? ⟨q, 5, none⟩ = some (.int .i64 v1.N) ∧ w.cell? ⟨q, 6, none⟩ = some (.string v1.S) ∧ w.cell? ⟨q, 7, none⟩ = some (.int .i64 v2.K) ∧ w.cell? ⟨q, 8, none⟩ = some (.int .i64 v2.N) ∧ w.cell? ⟨q, 9, none⟩ = some (.string v2.S) ∧ w.cell? ⟨q, 10, none⟩ = some (.int .i64 v3.K) ∧ w.cell? ⟨q, 11, none⟩ = some (.int .i64 v3.N) ∧ w.cell? ⟨q, 12, none⟩ = some (.string v3.S) ∧ w.cell? ⟨q, 13, none⟩ = some (.int .i64 v4.K) ∧ w.cell? ⟨q, 14, none⟩ = some (.int .i64 v4.N) ∧ w.cell? ⟨q, 15, none⟩ = some (.string v4.S) := by
  refine ⟨?_, ?_, ?_, ?_, ?_, ?_, ?_, ?_, ?_, ?_, ?_, ?_, ?_, ?_, ?_, ?_⟩
  · rw [cell_of_row w q 0 _ T (0, 0) h]; rfl
  · rw [cell_of_row w q 1 _ T (0, 0) h]; rfl
  · rw [cell_of_row w q 2 _ T (0, 0) h]; rfl
  · rw [cell_of_row w q 3 _ T (0, 0) h]; rfl
  · rw [cell_of_row w q 4 _ T (0, 0) h]; rfl
  · rw [cell_of_row w q 5 _ T (0, 0) h]; rfl
  · rw [cell_of_row w q 6 _ T (0, 0) h]; rfl
  · rw [cell_of_row w q 7 _ T (0, 0) h]; rfl
  · rw [cell_of_row w q 8 _ T (0, 0) h]; rfl
  · rw [cell_of_row w q 9 _ T (0, 0) h]; rfl
  · rw [cell_of_row w q 10 _ T (0, 0) h]; rfl
  · rw [cell_of_row w q 11 _ T (0, 0) h]; rfl
  · rw [cell_of_row w q 12 _ T (0, 0) h]; rfl
  · rw [cell_of_row w q 13 _ T (0, 0) h]; rfl
  · rw [cell_of_row w q 14 _ T (0, 0) h]; rfl
  · rw [cell_of_row w q 15 _ T (0, 0) h]; rfl
theorem cells16_free {w : World} {q : Nat} {T : TypeId} {kd : ByteArray} {v0 v1 v2 v3 v4 : V3} (h : w.heap[q]? = some (.cells (cells16 kd v0 v1 v2 v3 v4) T (0, 0))) :
    w.frozen? ⟨q, 0, none⟩ = false ∧ w.frozen? ⟨q, 1, none⟩ = false ∧ w.frozen? ⟨q, 2, none⟩ = false ∧ w.frozen? ⟨q, 3, none⟩ = false ∧ w.frozen? ⟨q, 4, none⟩ = false ∧ w.frozen? ⟨q, 5, none⟩ = false ∧ w.frozen? ⟨q, 6, none⟩ = false ∧ w.frozen? ⟨q, 7, none⟩ = false ∧ w.frozen? ⟨q, 8, none⟩ = false ∧ w.frozen? ⟨q, 9, none⟩ = false ∧ w.frozen? ⟨q, 10, none⟩ = false ∧ w.frozen? ⟨q, 11, none⟩ = false ∧ w.frozen? ⟨q, 12, none⟩ = false ∧ w.frozen? ⟨q, 13, none⟩ = false ∧ w.frozen? ⟨q, 14, none⟩ = false ∧ w.frozen? ⟨q, 15, none⟩ = false :=
  ⟨frozen_of_row w q 0 _ T h, frozen_of_row w q 1 _ T h, frozen_of_row w q 2 _ T h, frozen_of_row w q 3 _ T h, frozen_of_row w q 4 _ T h, frozen_of_row w q 5 _ T h, frozen_of_row w q 6 _ T h, frozen_of_row w q 7 _ T h, frozen_of_row w q 8 _ T h, frozen_of_row w q 9 _ T h, frozen_of_row w q 10 _ T h, frozen_of_row w q 11 _ T h, frozen_of_row w q 12 _ T h, frozen_of_row w q 13 _ T h, frozen_of_row w q 14 _ T h, frozen_of_row w q 15 _ T h⟩
theorem cells16_list (kd : ByteArray) (v0 v1 v2 v3 v4 : V3) : (Value.string kd :: cells3 [v0, v1, v2, v3, v4]).toArray = cells16 kd v0 v1 v2 v3 v4 := by simp [cells3, cells16]

theorem Tryd.infoV : (Tryd.prog.info? 61).map (·.size) = some 3 := by kernel_rfl

set_option maxRecDepth 100000 in
set_option maxHeartbeats 3200000 in
theorem fixed_any (kd : ByteArray) (a : Option Addr) (cap : Nat) (L : List V3) (v0 v1 v2 v3 v4 : V3) (w : World) (hr : RdV w a L) (hn : L.length ≤ 1048580) (hp : pad5 L = [v0, v1, v2, v3, v4]) :
    Calls Tryd.prog 29 #[.agg #[.string kd, .slice a L.length cap]] w fun e w' =>
      e = .returned (.agg (cells16 kd v0 v1 v2 v3 v4)) ∧ Below w.heap.size w w' := by
  have b0 := below_al w (.cells #[.string kd, .slice a L.length cap] 29)
  have b1 := b0.alloc b0.size (.cells #[.string ⟨#[]⟩, .int .i64 0, .int .i64 0, .string ⟨#[]⟩, .int .i64 0, .int .i64 0, .string ⟨#[]⟩, .int .i64 0, .int .i64 0, .string ⟨#[]⟩, .int .i64 0, .int .i64 0, .string ⟨#[]⟩, .int .i64 0, .int .i64 0, .string ⟨#[]⟩] 64)
  have b2 := b1.alloc b1.size (.cells #[.string kd, .int .i64 0, .int .i64 0, .string ⟨#[]⟩, .int .i64 0, .int .i64 0, .string ⟨#[]⟩, .int .i64 0, .int .i64 0, .string ⟨#[]⟩, .int .i64 0, .int .i64 0, .string ⟨#[]⟩, .int .i64 0, .int .i64 0, .string ⟨#[]⟩] 64)
  have hX := box_old (box_old (box2_new w (.string kd) (.slice a L.length cap) 29) (by simp) (.cells #[.string ⟨#[]⟩, .int .i64 0, .int .i64 0, .string ⟨#[]⟩, .int .i64 0, .int .i64 0, .string ⟨#[]⟩, .int .i64 0, .int .i64 0, .string ⟨#[]⟩, .int .i64 0, .int .i64 0, .string ⟨#[]⟩, .int .i64 0, .int .i64 0, .string ⟨#[]⟩] 64)) (by simp; omega) (.cells #[.string kd, .int .i64 0, .int .i64 0, .string ⟨#[]⟩, .int .i64 0, .int .i64 0, .string ⟨#[]⟩, .int .i64 0, .int .i64 0, .string ⟨#[]⟩, .int .i64 0, .int .i64 0, .string ⟨#[]⟩, .int .i64 0, .int .i64 0, .string ⟨#[]⟩] 64)
  have hR := box_old (heap_alloc_new (w.alloc (.cells #[.string kd, .slice a L.length cap] 29)) (.cells #[.string ⟨#[]⟩, .int .i64 0, .int .i64 0, .string ⟨#[]⟩, .int .i64 0, .int .i64 0, .string ⟨#[]⟩, .int .i64 0, .int .i64 0, .string ⟨#[]⟩, .int .i64 0, .int .i64 0, .string ⟨#[]⟩, .int .i64 0, .int .i64 0, .string ⟨#[]⟩] 64)) (by simp) (.cells #[.string kd, .int .i64 0, .int .i64 0, .string ⟨#[]⟩, .int .i64 0, .int .i64 0, .string ⟨#[]⟩, .int .i64 0, .int .i64 0, .string ⟨#[]⟩, .int .i64 0, .int .i64 0, .string ⟨#[]⟩, .int .i64 0, .int .i64 0, .string ⟨#[]⟩] 64)
  have hG := heap_alloc_new ((w.alloc (.cells #[.string kd, .slice a L.length cap] 29)).alloc (.cells #[.string ⟨#[]⟩, .int .i64 0, .int .i64 0, .string ⟨#[]⟩, .int .i64 0, .int .i64 0, .string ⟨#[]⟩, .int .i64 0, .int .i64 0, .string ⟨#[]⟩, .int .i64 0, .int .i64 0, .string ⟨#[]⟩, .int .i64 0, .int .i64 0, .string ⟨#[]⟩] 64)) (.cells #[.string kd, .int .i64 0, .int .i64 0, .string ⟨#[]⟩, .int .i64 0, .int .i64 0, .string ⟨#[]⟩, .int .i64 0, .int .i64 0, .string ⟨#[]⟩, .int .i64 0, .int .i64 0, .string ⟨#[]⟩, .int .i64 0, .int .i64 0, .string ⟨#[]⟩] 64)
  have hr2 := hr.below b2
  simp only [World.size_alloc] at hR hG
  clear b0 b1 hr
  go_enter Tryd.func29, Tryd.ntmps29
  go_wp2_with fail
  generalize ((w.alloc (.cells #[.string kd, .slice a L.length cap] 29)).alloc (.cells #[.string ⟨#[]⟩, .int .i64 0, .int .i64 0, .string ⟨#[]⟩, .int .i64 0, .int .i64 0, .string ⟨#[]⟩, .int .i64 0, .int .i64 0, .string ⟨#[]⟩, .int .i64 0, .int .i64 0, .string ⟨#[]⟩, .int .i64 0, .int .i64 0, .string ⟨#[]⟩] 64)).alloc (.cells #[.string kd, .int .i64 0, .int .i64 0, .string ⟨#[]⟩, .int .i64 0, .int .i64 0, .string ⟨#[]⟩, .int .i64 0, .int .i64 0, .string ⟨#[]⟩, .int .i64 0, .int .i64 0, .string ⟨#[]⟩, .int .i64 0, .int .i64 0, .string ⟨#[]⟩] 64) = w3 at hX hR hG hr2 b2 ⊢
  have HX := hide hX
  have HR := hide (show w3.heap[w.heap.size + 1]? = some (.cells (cells16 ⟨#[]⟩ zeroV zeroV zeroV zeroV zeroV) 64 (0, 0)) from hR)
  have HG := hide (show w3.heap[w.heap.size + 1 + 1]? = some (.cells (zero16 kd).toArray 64 (0, 0)) from hG)
  have hz : w.heap.size + 1 + 1 < w3.heap.size := (Array.getElem?_eq_some_iff.1 hG).1
  clear hX hR hG
  obtain ⟨x0, x1, -, -⟩ := box2_cell HX.out
  obtain ⟨g0, g1, -⟩ := cells16_get (show w3.heap[w.heap.size + 1 + 1]? = some (.cells (cells16 kd zeroV zeroV zeroV zeroV zeroV) 64 (0, 0)) from HG.out)
  have h1 : (cells3 (L.take 5)).length = Nat.min L.length 5 * 3 := by rw [cells3_length, List.length_take, Nat.min_comm]
  have h2 : 0 < (cells3 (L.take 5)).length → ∃ ad, a = some ad ∧ ∀ j v, (cells3 (L.take 5))[j]? = some v → w3.drew.cell? (ad.add j) = some v := by
    intro hpos
    rw [cells3_length, List.length_take] at hpos
    obtain ⟨b, off, e, _⟩ := hr2.open (by omega)
    refine ⟨⟨b, off, none⟩, e, fun j v hj => ?_⟩
    rw [e] at hr2
    exact src3 hr2 5 j v hj
  have h3 : 1 + (cells3 (L.take 5)).length ≤ (zero16 kd).length := by
    rw [cells3_length, List.length_take]
    show _ ≤ (Value.string kd :: cells3 (List.replicate 5 zeroV)).length
    rw [List.length_cons, cells3_length, List.length_replicate]; omega
  have H1 := hide h1
  have H2 := hide h2
  have H3 := hide h3
  clear h1 h2 h3
  go_region_law (refine step_copy3 rfl (.tmp 8) (.tmp 10) 27 27 rfl 61 Tryd.underlying27 Tryd.infoV a 5 5 L.length cap (w.heap.size + 1 + 1) 1 (by simp [Act.eval]) (by simp [Act.eval]) (zero16 kd) 64 HG.out (cells3 (L.take 5)) H1.out H2.out H3.out one3 ?_; intro w4 HG4 HW4)
  all_goals
    have HG5 : Hid (w4.heap[w.heap.size + 1 + 1]? = some (.cells (cells16 kd v0 v1 v2 v3 v4) 64 (0, 0))) := by
      have := HG4.out
      rw [splice16, hp, cells16_list] at this
      exact this
    have HR4 := hide (box_gr (w := w3.drew) HR.out HW4.out (by omega))
    have hB4 : Below w.heap.size w w4 := b2.drew.grown HW4.out b2.size (fun k hk => by cases hk; omega)
    clear HG4 HW4 HX HR HG H1 H2 H3 x0 x1 g0 g1 b2 hr2
    obtain ⟨g0, g1, g2, g3, g4, g5, g6, g7, g8, g9, g10, g11, g12, g13, g14, g15⟩ := cells16_get HG5.out
    obtain ⟨r0, r1, r2, r3, r4, r5, r6, r7, r8, r9, r10, r11, r12, r13, r14, r15⟩ := cells16_get HR4.out
    obtain ⟨f0, f1, f2, f3, f4, f5, f6, f7, f8, f9, f10, f11, f12, f13, f14, f15⟩ := cells16_free HR4.out
    go_wp2
    have h9 := setAll_heap (w.heap.size + 1) 64 [.string kd, .int .i64 v0.K, .int .i64 v0.N, .string v0.S, .int .i64 v1.K, .int .i64 v1.N, .string v1.S, .int .i64 v2.K, .int .i64 v2.N, .string v2.S, .int .i64 v3.K, .int .i64 v3.N, .string v3.S, .int .i64 v4.K, .int .i64 v4.N, .string v4.S] [] w4 (cells16 ⟨#[]⟩ zeroV zeroV zeroV zeroV zeroV).toList HR4.out rfl
    refine (show bodyPost _ _ _ _ _ (setAll w4 (w.heap.size + 1) 0 [.string kd, .int .i64 v0.K, .int .i64 v0.N, .string v0.S, .int .i64 v1.K, .int .i64 v1.N, .string v1.S, .int .i64 v2.K, .int .i64 v2.N, .string v2.S, .int .i64 v3.K, .int .i64 v3.N, .string v3.S, .int .i64 v4.K, .int .i64 v4.N, .string v4.S]) from ?_)
    generalize setAll w4 (w.heap.size + 1) 0 [.string kd, .int .i64 v0.K, .int .i64 v0.N, .string v0.S, .int .i64 v1.K, .int .i64 v1.N, .string v1.S, .int .i64 v2.K, .int .i64 v2.N, .string v2.S, .int .i64 v3.K, .int .i64 v3.N, .string v3.S, .int .i64 v4.K, .int .i64 v4.N, .string v4.S] = w5 at h9 ⊢
    obtain ⟨h9, gr⟩ := h9
    clear g0 g1 g2 g3 g4 g5 g6 g7 g8 g9 g10 g11 g12 g13 g14 g15 r0 r1 r2 r3 r4 r5 r6 r7 r8 r9 r10 r11 r12 r13 r14 r15 f0 f1 f2 f3 f4 f5 f6 f7 f8 f9 f10 f11 f12 f13 f14 f15
    obtain ⟨c0, c1, c2, c3, c4, c5, c6, c7, c8, c9, c10, c11, c12, c13, c14, c15⟩ := cells16_get (show w5.heap[w.heap.size + 1]? = some (.cells (cells16 kd v0 v1 v2 v3 v4) 64 (0, 0)) from h9)
    exact bodyPost_ret (v := .agg (cells16 kd v0 v1 v2 v3 v4)) (by simp [results, Tryd.results29, go_sem, c0, c1, c2, c3, c4, c5, c6, c7, c8, c9, c10, c11, c12, c13, c14, c15, cells16]) rfl ⟨rfl, below_set hB4 gr (by omega)⟩
end Go.Proofs.YtbellpalomiokadDoor
