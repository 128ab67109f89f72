/-
  Texts of this claim joined into one: Plain, V3, Box, ValRow, Box2g, Box2, RowOf, RowK, Deep, FactArg, ArgRow, PatsRow, ExprRow, ActRow, ActsRow, CondRow, RuleRow, Bytes, Bits, Draw, Num, Enc, DrawB, DrawV, DrawS, BoxK, LawVal, LawEq.
-/
import Derived.Test.YtfgigcdfmkfkjaaRows
import Derived.WalkKit
import Derived.WalkSpells
import Derived.WalkLawsBesides
import Derived.OpenShut
import Derived.BigQuiet
import Derived.Deep.QuietTactic
import Derived.Lib.SmallJoins
import Derived.Deep.Slices
import Derived.Deep.Strs
import Derived.ProofKit
import Derived.ShutString
import Derived.ChangeOld
import Derived.Below
import Derived.Laws.BitsAllLaws
import Derived.Handy
/-
  Small plain facts that the walks of this seat share: a fact kept from the walk, equal endings, a number between two bounds.
-/
namespace Go.Proofs.Ytfgigcdfmkfkjaa
open Go.RowKit
set_option linter.unusedVariables false

theorem hide {p : Prop} (h : p) : Hid p := h
theorem ret_bool {a b : Bool} (h : a = b) : Ending.returned (.bool a) = .returned (.bool b) := by rw [h]
theorem ret_int {k : IntKind} {a b : Int} (h : a = b) : Ending.returned (.int k a) = .returned (.int k b) := by rw [h]

def inB (x a b : Int) : Bool := decide (a ≤ x) && decide (x ≤ b)
theorem inB_t {x a b : Int} (h : a ≤ x ∧ x ≤ b) : inB x a b = true := by simp [inB, h.1, h.2]
theorem inB_f {x a b : Int} (h : ¬ (a ≤ x ∧ x ≤ b)) : inB x a b = false := by
  simp [inB]; omega
end Go.Proofs.Ytfgigcdfmkfkjaa
/-
  A value, plainly: its kind, number and text.
-/
namespace Go.Proofs.Ytfgigcdfmkfkjaa
open Go.RowKit
set_option linter.unusedVariables false

structure V3 where
  K : Int
  N : Int
  S : ByteArray
instance : Inhabited V3 := ⟨⟨0, 0, ⟨#[]⟩⟩⟩
def V3.agg (v : V3) : Value := .agg #[.int .i64 v.K, .int .i64 v.N, .string v.S]
theorem V3.ext' {a b : V3} (h1 : a.K = b.K) (h2 : a.N = b.N) (h3 : a.S = b.S) : a = b := by
  cases a; cases b; simp_all
end Go.Proofs.Ytfgigcdfmkfkjaa
/-
  A block of three cells (a value in memory): what it reads as, what a store of all three leaves.
-/
namespace Go.Proofs.Ytfgigcdfmkfkjaa
open Go.RowKit
set_option linter.unusedVariables false

theorem box_cell {w : World} {q : Nat} {c0 c1 c2 : Value} {T : TypeId} (h : w.heap[q]? = some (.cells #[c0, c1, c2] T (0, 0))) :
    w.cell? ⟨q, 0, none⟩ = some c0 ∧ w.cell? ⟨q, 1, none⟩ = some c1 ∧ w.cell? ⟨q, 2, none⟩ = some c2 ∧ w.frozen? ⟨q, 0, none⟩ = false ∧ w.frozen? ⟨q, 1, none⟩ = false ∧ w.frozen? ⟨q, 2, none⟩ = false := by
  refine ⟨?_, ?_, ?_, frozen_of_row w q 0 _ T h, frozen_of_row w q 1 _ T h, frozen_of_row w q 2 _ T h⟩
  · rw [cell_of_row w q 0 _ T (0, 0) h]; rfl
  · rw [cell_of_row w q 1 _ T (0, 0) h]; rfl
  · rw [cell_of_row w q 2 _ T (0, 0) h]; rfl
theorem box_set3 {w : World} {q : Nat} {c0 c1 c2 : Value} {T : TypeId} (h : w.heap[q]? = some (.cells #[c0, c1, c2] T (0, 0))) (a b c : Value) :
    (((w.setCell ⟨q, 0, none⟩ a).setCell ⟨q, 1, none⟩ b).setCell ⟨q, 2, none⟩ c).heap[q]? = some (.cells #[a, b, c] T (0, 0)) ∧
    w.grownBy (((w.setCell ⟨q, 0, none⟩ a).setCell ⟨q, 1, none⟩ b).setCell ⟨q, 2, none⟩ c) (some q) := by
  have h1 : (w.setCell ⟨q, 0, none⟩ a).heap[q]? = some (.cells #[a, c1, c2] T (0, 0)) := by rw [heap_setCell_same w q 0 _ T a h]; rfl
  have h2 : ((w.setCell ⟨q, 0, none⟩ a).setCell ⟨q, 1, none⟩ b).heap[q]? = some (.cells #[a, b, c2] T (0, 0)) := by rw [heap_setCell_same _ q 1 _ T b h1]; rfl
  refine ⟨by rw [heap_setCell_same _ q 2 _ T c h2]; rfl, ⟨rfl, rfl, rfl, by simp [World.setCell], fun k _ hk => ?_⟩⟩
  rw [heap_setCell_other _ ⟨q, 2, none⟩ k c (fun e => hk (by simp [e])), heap_setCell_other _ ⟨q, 1, none⟩ k b (fun e => hk (by simp [e])), heap_setCell_other w ⟨q, 0, none⟩ k a (fun e => hk (by simp [e]))]
theorem box_new (w : World) (c0 c1 c2 : Value) (T : TypeId) : (w.alloc (.cells #[c0, c1, c2] T)).heap[w.heap.size]? = some (.cells #[c0, c1, c2] T (0, 0)) := by rw [heap_alloc_new]
theorem box_old {w : World} {q : Nat} {o : Option Obj} (h : w.heap[q]? = o) (hq : q < w.heap.size) (x : Obj) : (w.alloc x).heap[q]? = o := by
  rw [← h]
  show (w.heap.push x)[q]? = _
  rw [Array.getElem?_push, if_neg (by omega)]
theorem box_below {B q : Nat} {w w' : World} {o : Option Obj} (h : w.heap[q]? = o) (hb : Below B w w') (hq : q < B) : w'.heap[q]? = o := by rw [hb.block q hq]; exact h
/-- at a return behind a store of all three cells: the world by what it holds -/
theorem box_post {P : Program} {f : Func} {Q : Ending → World → Prop} {x : Exit} {act : Act} {w : World} {q : Nat} {c0 c1 c2 a b c : Value} {T : TypeId} (h : w.heap[q]? = some (.cells #[c0, c1, c2] T (0, 0)))
    (k : ∀ w2, w2.heap[q]? = some (.cells #[a, b, c] T (0, 0)) → w.grownBy w2 (some q) → bodyPost P f Q x act w2) :
    bodyPost P f Q x act (((w.setCell ⟨q, 0, none⟩ a).setCell ⟨q, 1, none⟩ b).setCell ⟨q, 2, none⟩ c) :=
  k _ (box_set3 h a b c).1 (box_set3 h a b c).2
theorem below_set {w0 w w2 : World} {q : Nat} (hb : Below w0.heap.size w0 w) (gr : w.grownBy w2 (some q)) (hq : w0.heap.size ≤ q) : Below w0.heap.size w0 w2 :=
  hb.grown gr hb.size (fun k hk => by cases hk; exact hq)
end Go.Proofs.Ytfgigcdfmkfkjaa
/-
  Rows of values: what a slice of values reads as (RdV), what a call's own row of them holds (cells3).
-/
namespace Go.Proofs.Ytfgigcdfmkfkjaa
open Go.RowKit
set_option linter.unusedVariables false

def vAt (L : List V3) (i : Nat) : V3 := L.getD i default
theorem vAt_in {L : List V3} {i : Nat} (h : i < L.length) : vAt L i = L[i] := by simp [vAt, List.getD, h]
def cells3 (L : List V3) : List Value := L.flatMap fun v => [.int .i64 v.K, .int .i64 v.N, .string v.S]
theorem cells3_length (L : List V3) : (cells3 L).length = L.length * 3 := by
  induction L with
  | nil => rfl
  | cons v r ih => simp only [cells3, List.flatMap_cons, List.length_append] at ih ⊢; rw [ih]; simp; omega
theorem cells3_append (a b : List V3) : cells3 (a ++ b) = cells3 a ++ cells3 b := by simp [cells3]
theorem cells3_get : ∀ (L : List V3) (i : Nat), i < L.length → (cells3 L)[i * 3]? = some (.int .i64 (vAt L i).K) ∧ (cells3 L)[i * 3 + 1]? = some (.int .i64 (vAt L i).N) ∧ (cells3 L)[i * 3 + 2]? = some (.string (vAt L i).S)
  | [], i, h => absurd h (Nat.not_lt_zero _)
  | v :: r, 0, h => by simp [cells3, vAt]
  | v :: r, i + 1, h => by
    have ih := cells3_get r i (by simpa using h)
    have e : cells3 (v :: r) = .int .i64 v.K :: .int .i64 v.N :: .string v.S :: cells3 r := by simp [cells3]
    have ev : vAt (v :: r) (i + 1) = vAt r i := by simp [vAt, List.getD]
    rw [e, ev, show (i + 1) * 3 = i * 3 + 3 by omega, show i * 3 + 3 + 1 = i * 3 + 1 + 3 by omega, show i * 3 + 3 + 2 = i * 3 + 2 + 3 by omega]
    exact ih

/-- what the slice at 'a' reads as -/
def RdV (w : World) (a : Option Addr) (L : List V3) : Prop :=
  ∀ i, i < L.length → ∃ b off, a = some ⟨b, off, none⟩ ∧ w.cell? ⟨b, off + i * 3, none⟩ = some (.int .i64 (vAt L i).K) ∧ w.cell? ⟨b, off + i * 3 + 1, none⟩ = some (.int .i64 (vAt L i).N) ∧ w.cell? ⟨b, off + i * 3 + 2, none⟩ = some (.string (vAt L i).S)

theorem RdV.open {w : World} {a : Option Addr} {L : List V3} (h : RdV w a L) (hp : 0 < L.length) :
    ∃ b off, a = some ⟨b, off, none⟩ ∧ b < w.heap.size ∧ ∀ i, i < L.length → w.cell? ⟨b, off + i * 3, none⟩ = some (.int .i64 (vAt L i).K) ∧ w.cell? ⟨b, off + i * 3 + 1, none⟩ = some (.int .i64 (vAt L i).N) ∧ w.cell? ⟨b, off + i * 3 + 2, none⟩ = some (.string (vAt L i).S) := by
  obtain ⟨b, off, rfl, h0, -, -⟩ := h 0 hp
  refine ⟨b, off, rfl, World.block_lt_of_cell? w _ h0, fun i hi => ?_⟩
  obtain ⟨b2, off2, e, h1⟩ := h i hi
  simp only [Option.some.injEq, Addr.mk.injEq] at e
  rw [e.1, e.2.1]; exact h1
theorem RdV.below {w w' : World} {a : Option Addr} {L : List V3} (h : RdV w a L) (hb : Below w.heap.size w w') : RdV w' a L := by
  intro i hi
  obtain ⟨b, off, e, h0, h1, h2⟩ := h i hi
  have k : ∀ {p : Addr} {v : Value}, w.cell? p = some v → w'.cell? p = some v := fun {p v} h => by rw [hb.cell (World.block_lt_of_cell? w _ h)]; exact h
  exact ⟨b, off, e, k h0, k h1, k h2⟩
theorem RdV.heap {w w' : World} {a : Option Addr} {L : List V3} (h : RdV w a L) (hb : w'.heap = w.heap) : RdV w' a L := by
  intro i hi
  obtain ⟨b, off, e, h0, h1, h2⟩ := h i hi
  have k : ∀ {p : Addr}, w'.cell? p = w.cell? p := fun {p} => by simp [World.cell?, hb]
  exact ⟨b, off, e, by rw [k]; exact h0, by rw [k]; exact h1, by rw [k]; exact h2⟩
theorem RdV.nil (w : World) (a : Option Addr) : RdV w a [] := fun i hi => absurd hi (Nat.not_lt_zero _)
/-- what a call's own row of values reads as -/
theorem rdV_owns {w : World} {base n : Nat} {T : TypeId} {v : Value} {L : List V3} (h : w.ownsRow base T 3 v n (cells3 L)) :
    ∃ a cap, v = .slice a L.length cap ∧ RdV w a L ∧ n = L.length ∧ L.length ≤ cap ∧ (a = none → L.length = 0 ∧ cap = 0) := by
  have hn : n = L.length := by have := h.1; rw [cells3_length] at this; omega
  subst hn
  rcases h.2 with ⟨rfl, h0⟩ | ⟨g, cap, cur, rfl, hb, hg, hnc, hcm, hsz, htake⟩
  · exact ⟨none, 0, by rw [h0], fun i hi => by omega, rfl, by omega, fun _ => ⟨h0, rfl⟩⟩
  · refine ⟨_, cap, rfl, fun i hi => ⟨g, 0, rfl, ?_⟩, rfl, hnc, fun hh => by cases hh⟩
    obtain ⟨g0, g1, g2⟩ := cells3_get L i hi
    have e0 := h.cellAt (i * 3) (by omega)
    have e1 := h.cellAt (i * 3 + 1) (by omega)
    have e2 := h.cellAt (i * 3 + 2) (by omega)
    rw [Nat.zero_add]
    exact ⟨by rw [e0]; exact g0, by rw [e1]; exact g1, by rw [e2]; exact g2⟩
end Go.Proofs.Ytfgigcdfmkfkjaa
/-
  A block of two cells (a fact in memory), and rows of values of the calls' own, by their block.
-/
namespace Go.Proofs.Ytfgigcdfmkfkjaa
open Go.RowKit
set_option linter.unusedVariables false

theorem box2_cell {w : World} {q : Nat} {c0 c1 : Value} {T : TypeId} (h : w.heap[q]? = some (.cells #[c0, c1] T (0, 0))) :
    w.cell? ⟨q, 0, none⟩ = some c0 ∧ w.cell? ⟨q, 1, none⟩ = some c1 ∧ w.frozen? ⟨q, 0, none⟩ = false ∧ w.frozen? ⟨q, 1, none⟩ = false := by
  refine ⟨?_, ?_, frozen_of_row w q 0 _ T h, frozen_of_row w q 1 _ T h⟩
  · rw [cell_of_row w q 0 _ T (0, 0) h]; rfl
  · rw [cell_of_row w q 1 _ T (0, 0) h]; rfl
theorem box2_set {w : World} {q : Nat} {c0 c1 : Value} {T : TypeId} (h : w.heap[q]? = some (.cells #[c0, c1] T (0, 0))) (a b : Value) :
    ((w.setCell ⟨q, 0, none⟩ a).setCell ⟨q, 1, none⟩ b).heap[q]? = some (.cells #[a, b] T (0, 0)) ∧
    w.grownBy ((w.setCell ⟨q, 0, none⟩ a).setCell ⟨q, 1, none⟩ b) (some q) := by
  have h1 : (w.setCell ⟨q, 0, none⟩ a).heap[q]? = some (.cells #[a, c1] T (0, 0)) := by rw [heap_setCell_same w q 0 _ T a h]; rfl
  refine ⟨by rw [heap_setCell_same _ q 1 _ T b h1]; rfl, ⟨rfl, rfl, rfl, by simp [World.setCell], fun k _ hk => ?_⟩⟩
  rw [heap_setCell_other _ ⟨q, 1, none⟩ k b (fun e => hk (by simp [e])), heap_setCell_other w ⟨q, 0, none⟩ k a (fun e => hk (by simp [e]))]
theorem box2_set1 {w : World} {q : Nat} {c0 c1 : Value} {T : TypeId} (h : w.heap[q]? = some (.cells #[c0, c1] T (0, 0))) (b : Value) :
    (w.setCell ⟨q, 1, none⟩ b).heap[q]? = some (.cells #[c0, b] T (0, 0)) ∧ w.grownBy (w.setCell ⟨q, 1, none⟩ b) (some q) := by
  refine ⟨by rw [heap_setCell_same w q 1 _ T b h]; rfl, ⟨rfl, rfl, rfl, by simp [World.setCell], fun k _ hk => heap_setCell_other w ⟨q, 1, none⟩ k b (fun e => hk (by simp [e]))⟩⟩
theorem box2_set0 {w : World} {q : Nat} {c0 c1 : Value} {T : TypeId} (h : w.heap[q]? = some (.cells #[c0, c1] T (0, 0))) (b : Value) :
    (w.setCell ⟨q, 0, none⟩ b).heap[q]? = some (.cells #[b, c1] T (0, 0)) ∧ w.grownBy (w.setCell ⟨q, 0, none⟩ b) (some q) := by
  refine ⟨by rw [heap_setCell_same w q 0 _ T b h]; rfl, ⟨rfl, rfl, rfl, by simp [World.setCell], fun k _ hk => heap_setCell_other w ⟨q, 0, none⟩ k b (fun e => hk (by simp [e]))⟩⟩
theorem box2_new (w : World) (c0 c1 : Value) (T : TypeId) : (w.alloc (.cells #[c0, c1] T)).heap[w.heap.size]? = some (.cells #[c0, c1] T (0, 0)) := by rw [heap_alloc_new]
theorem box2_post {P : Program} {f : Func} {Q : Ending → World → Prop} {x : Exit} {act : Act} {w : World} {q : Nat} {c0 c1 a b : Value} {T : TypeId} (h : w.heap[q]? = some (.cells #[c0, c1] T (0, 0)))
    (k : ∀ w2, w2.heap[q]? = some (.cells #[a, b] T (0, 0)) → w.grownBy w2 (some q) → bodyPost P f Q x act w2) :
    bodyPost P f Q x act ((w.setCell ⟨q, 0, none⟩ a).setCell ⟨q, 1, none⟩ b) :=
  k _ (box2_set h a b).1 (box2_set h a b).2
theorem box_gr {w w' : World} {R q : Nat} {o : Obj} (h : w.heap[R]? = some o) (hg : w.grownBy w' (some q)) (hne : R ≠ q) : w'.heap[R]? = some o := by
  rw [hg.block R (Array.getElem?_eq_some_iff.1 h).1 (by simp; omega)]; exact h
end Go.Proofs.Ytfgigcdfmkfkjaa
/-
  A block of two cells (a fact in memory), and rows of values of the calls' own, by their block.
-/
namespace Go.Proofs.Ytfgigcdfmkfkjaa
open Go.RowKit
set_option linter.unusedVariables false

/-- block g holds the values L, at its head, and is written by nobody else -/
def OwnV (w : World) (g cap : Nat) (L : List V3) : Prop := w.ownsRow 0 105 3 (.slice (some ⟨g, 0, none⟩) L.length cap) L.length (cells3 L)
theorem OwnV.of {w : World} {base g cap n : Nat} {L : List V3} (h : w.ownsRow base 105 3 (.slice (some ⟨g, 0, none⟩) n cap) n (cells3 L)) : OwnV w g cap L := by
  have hn : n = L.length := by have := h.1; rw [cells3_length] at this; omega
  subst hn
  refine ⟨h.1, ?_⟩
  rcases h.2 with h2 | ⟨g, cap, cur, h1, hb, rest⟩
  · exact .inl h2
  · exact .inr ⟨g, cap, cur, h1, Nat.zero_le _, rest⟩
theorem OwnV.lt {w : World} {g cap : Nat} {L : List V3} (h : OwnV w g cap L) : g < w.heap.size := (World.ownsRow.lt h g rfl).2
theorem OwnV.later {w w' : World} {g cap : Nat} {L : List V3} (h : OwnV w g cap L) (hb : Below w.heap.size w w') : OwnV w' g cap L := by
  refine ⟨h.1, ?_⟩
  rcases h.2 with h2 | ⟨g, cap, cur, h1, hb', hh, rest⟩
  · exact .inl h2
  · exact .inr ⟨g, cap, cur, h1, hb', by rw [hb.block g (Array.getElem?_eq_some_iff.1 hh).1]; exact hh, rest⟩
theorem OwnV.grown {w w' : World} {g g' cap : Nat} {L : List V3} (h : OwnV w g cap L) (hg : w.grownBy w' (some g')) (hne : g ≠ g') : OwnV w' g cap L :=
  World.ownsRow.kept h hg (.inr (by simp [Value.ownBlock]; exact hne))
theorem OwnV.rd {w : World} {g cap : Nat} {L : List V3} (h : OwnV w g cap L) : RdV w (some ⟨g, 0, none⟩) L := by
  obtain ⟨a, c, e, hr, -⟩ := rdV_owns h
  simp only [Value.slice.injEq] at e
  rw [e.1]; exact hr
theorem OwnV.cap {w : World} {g cap : Nat} {L : List V3} (h : OwnV w g cap L) : L.length ≤ cap := by
  rcases h.2 with ⟨h1, _⟩ | ⟨g', cap', cur, h1, hb', hh, hnc, _⟩
  · simp at h1
  · simp only [Value.slice.injEq] at h1; omega
end Go.Proofs.Ytfgigcdfmkfkjaa
/-
  Rows of elements of three cells each, whatever the element: their cells, one by one, and a store of one element.
-/
namespace Go.Proofs.Ytfgigcdfmkfkjaa
open Go.RowKit
set_option linter.unusedVariables false

def rowOf {α : Type} (f : α → List Value) (L : List α) : List Value := L.flatMap f
theorem rowOf_cons {α : Type} (f : α → List Value) (x : α) (L : List α) : rowOf f (x :: L) = f x ++ rowOf f L := by simp [rowOf]
theorem rowOf_append {α : Type} (f : α → List Value) (L M : List α) : rowOf f (L ++ M) = rowOf f L ++ rowOf f M := by simp [rowOf]
theorem rowOf_length {α : Type} {f : α → List Value} {k : Nat} (hk : ∀ x, (f x).length = k) : ∀ L : List α, (rowOf f L).length = L.length * k
  | [] => by simp [rowOf]
  | x :: r => by rw [rowOf_cons, List.length_append, hk, rowOf_length hk r, List.length_cons, Nat.succ_mul, Nat.add_comm]
theorem rowOf_get {α : Type} {f : α → List Value} {k : Nat} (hk : ∀ x, (f x).length = k) : ∀ (L : List α) (i j : Nat) (hi : i < L.length), j < k → (rowOf f L)[i * k + j]? = (f L[i])[j]?
  | [], i, j, hi, _ => absurd hi (Nat.not_lt_zero _)
  | x :: r, 0, j, hi, hj => by rw [rowOf_cons, Nat.zero_mul, Nat.zero_add, List.getElem?_append_left (by rw [hk]; exact hj)]; rfl
  | x :: r, i + 1, j, hi, hj => by
    rw [rowOf_cons, List.getElem?_append_right (by rw [hk, Nat.succ_mul]; omega), hk, show (i + 1) * k + j - k = i * k + j by rw [Nat.succ_mul]; omega]
    exact rowOf_get hk r i j (by simpa using hi) hj
theorem len3 {l : List Value} (h : l.length = 3) : ∃ a b c, l = [a, b, c] := by
  match l, h with
  | [a, b, c], _ => exact ⟨a, b, c, rfl⟩
theorem rowOf_set3 {α : Type} {f : α → List Value} (hk : ∀ x, (f x).length = 3) (x : α) (c0 c1 c2 : Value) (hx : f x = [c0, c1, c2]) : ∀ (L : List α) (i : Nat), i < L.length →
    (((rowOf f L).set (i * 3) c0).set (i * 3 + 1) c1).set (i * 3 + 2) c2 = rowOf f (L.set i x)
  | [], i, hi => absurd hi (Nat.not_lt_zero _)
  | y :: r, 0, hi => by
    obtain ⟨a, b, c, e⟩ := len3 (hk y)
    rw [rowOf_cons, e, List.set_cons_zero, rowOf_cons, hx]
    rfl
  | y :: r, i + 1, hi => by
    obtain ⟨a, b, c, e⟩ := len3 (hk y)
    have ih := rowOf_set3 hk x c0 c1 c2 hx r i (by simpa using hi)
    rw [rowOf_cons, e, List.set_cons_succ, rowOf_cons, ← ih, e]
    simp only [Nat.succ_mul]
    rfl
theorem rowOf_replicate {α : Type} {f : α → List Value} {x : α} {c0 c1 c2 : Value} (hx : f x = [c0, c1, c2]) (n : Nat) : (madeCells #[c0, c1, c2] (n * 3)).toList = rowOf f (List.replicate n x) := by
  induction n with
  | zero => simp [madeCells, rowOf]
  | succ n ih =>
    apply List.ext_getElem?
    intro j
    rw [List.replicate_succ, rowOf_cons, hx]
    by_cases hj : j < 3
    · match j, hj with
      | 0, _ => simp [madeCells, show 0 < (n + 1) * 3 by omega]
      | 1, _ => simp [madeCells, show 1 < (n + 1) * 3 by omega]
      | 2, _ => simp [madeCells, show 2 < (n + 1) * 3 by omega]
    · rw [List.getElem?_append_right (by simp; omega), ← ih]
      simp only [List.length_cons, List.length_nil]
      by_cases hl : j < (n + 1) * 3
      · have h1 : j - 3 < n * 3 := by omega
        have h2 : (j - 3) % 3 = j % 3 := by omega
        simp [madeCells, hl, h1, h2]
      · have h1 : ¬ j - 3 < n * 3 := by omega
        simp [madeCells, hl, h1]
end Go.Proofs.Ytfgigcdfmkfkjaa
/-
  Rows of elements of k cells each, whatever the element: what a slice of them reads as (RdK), what a call's own row of them holds (OwnK).
-/
namespace Go.Proofs.Ytfgigcdfmkfkjaa
open Go.RowKit
set_option linter.unusedVariables false

def eAt {α : Type} [Inhabited α] (L : List α) (i : Nat) : α := L.getD i default
theorem eAt_in {α : Type} [Inhabited α] {L : List α} {i : Nat} (h : i < L.length) : eAt L i = L[i] := by simp [eAt, List.getD, h]
/-- what the slice at 'a' reads as -/
def RdK {α : Type} [Inhabited α] (f : α → List Value) (k : Nat) (w : World) (a : Option Addr) (L : List α) : Prop :=
  ∀ i, i < L.length → ∃ b off, a = some ⟨b, off, none⟩ ∧ ∀ (j : Nat) c, (f (eAt L i))[j]? = some c → w.cell? ⟨b, off + i * k + j, none⟩ = some c

theorem RdK.open {α : Type} [Inhabited α] {f : α → List Value} {k : Nat} (hk : ∀ x, (f x).length = k) (h0 : 0 < k) {w : World} {a : Option Addr} {L : List α} (h : RdK f k w a L) (hp : 0 < L.length) :
    ∃ b off, a = some ⟨b, off, none⟩ ∧ b < w.heap.size ∧ ∀ i, i < L.length → ∀ (j : Nat) c, (f (eAt L i))[j]? = some c → w.cell? ⟨b, off + i * k + j, none⟩ = some c := by
  obtain ⟨b, off, rfl, hc⟩ := h 0 hp
  have hj : 0 < (f (eAt L 0)).length := by rw [hk]; exact h0
  refine ⟨b, off, rfl, World.block_lt_of_cell? w _ (hc 0 _ (List.getElem?_eq_getElem hj)), fun i hi => ?_⟩
  obtain ⟨b2, off2, e, h1⟩ := h i hi
  simp only [Option.some.injEq, Addr.mk.injEq] at e
  rw [e.1, e.2.1]; exact h1
theorem RdK.below {α : Type} [Inhabited α] {f : α → List Value} {k : Nat} {w w' : World} {a : Option Addr} {L : List α} (h : RdK f k w a L) (hb : Below w.heap.size w w') : RdK f k w' a L := by
  intro i hi
  obtain ⟨b, off, e, h0⟩ := h i hi
  refine ⟨b, off, e, fun j c hj => ?_⟩
  have h1 := h0 j c hj
  rw [hb.cell (World.block_lt_of_cell? w _ h1)]; exact h1
theorem RdK.heap {α : Type} [Inhabited α] {f : α → List Value} {k : Nat} {w w' : World} {a : Option Addr} {L : List α} (h : RdK f k w a L) (hb : w'.heap = w.heap) : RdK f k w' a L := by
  intro i hi
  obtain ⟨b, off, e, h0⟩ := h i hi
  exact ⟨b, off, e, fun j c hj => by rw [show ∀ p, w'.cell? p = w.cell? p from fun p => by simp [World.cell?, hb]]; exact h0 j c hj⟩
theorem RdK.nil {α : Type} [Inhabited α] (f : α → List Value) (k : Nat) (w : World) (a : Option Addr) : RdK f k w a [] := fun i hi => absurd hi (Nat.not_lt_zero _)
/-- a shorter part, from the head -/
theorem RdK.take {α : Type} [Inhabited α] {f : α → List Value} {k : Nat} {w : World} {a : Option Addr} {L M : List α} (h : RdK f k w a (L ++ M)) : RdK f k w a L := by
  intro i hi
  obtain ⟨b, off, e, h0⟩ := h i (by rw [List.length_append]; omega)
  have ev : eAt (L ++ M) i = eAt L i := by rw [eAt_in (by rw [List.length_append]; omega), eAt_in hi, List.getElem_append_left hi]
  rw [ev] at h0
  exact ⟨b, off, e, h0⟩
theorem ownsRow_below' {w w' : World} {base n size : Nat} {e : TypeId} {v : Value} {xs : List Value} (h : w.ownsRow base e size v n xs) (hb : Below w.heap.size w w') : w'.ownsRow base e size v n xs := by
  refine ⟨h.1, ?_⟩
  rcases h.2 with h2 | ⟨g, cap, cur, h1, hb', hh, rest⟩
  · exact .inl h2
  · exact .inr ⟨g, cap, cur, h1, hb', by rw [hb.block g (Array.getElem?_eq_some_iff.1 hh).1]; exact hh, rest⟩
/-- what a call's own row reads as -/
theorem rdK_owns {α : Type} [Inhabited α] {f : α → List Value} {k : Nat} (hk : ∀ x, (f x).length = k) (hp : 0 < k) {w : World} {base n : Nat} {T : TypeId} {v : Value} {L : List α} (h : w.ownsRow base T k v n (rowOf f L)) :
    ∃ a cap, v = .slice a L.length cap ∧ RdK f k w a L ∧ n = L.length ∧ L.length ≤ cap ∧ (a = none → L.length = 0 ∧ cap = 0) := by
  have hn : n = L.length := by have := h.1; rw [rowOf_length hk] at this; exact (Nat.eq_of_mul_eq_mul_right hp this).symm
  subst hn
  rcases h.2 with ⟨rfl, h0⟩ | ⟨g, cap, cur, rfl, hb, hg, hnc, hcm, hsz, htake⟩
  · exact ⟨none, 0, by rw [h0], fun i hi => by omega, rfl, by omega, fun _ => ⟨h0, rfl⟩⟩
  · refine ⟨_, cap, rfl, fun i hi => ⟨g, 0, rfl, fun j c hj => ?_⟩, rfl, hnc, fun hh => by cases hh⟩
    have hjk : j < k := by rw [← hk (eAt L i)]; exact (List.getElem?_eq_some_iff.1 hj).1
    have hlt : i * k + j < L.length * k := by
      have : (i + 1) * k ≤ L.length * k := Nat.mul_le_mul_right _ hi
      rw [Nat.succ_mul] at this
      omega
    rw [Nat.zero_add, h.cellAt (i * k + j) hlt, rowOf_get hk L i j hi hjk, ← eAt_in hi]
    exact hj
/-- block g holds the elements L, at its head, and is written by nobody else -/
def OwnK {α : Type} [Inhabited α] (T : TypeId) (f : α → List Value) (k : Nat) (w : World) (g cap : Nat) (L : List α) : Prop := w.ownsRow 0 T k (.slice (some ⟨g, 0, none⟩) L.length cap) L.length (rowOf f L)
theorem OwnK.of {α : Type} [Inhabited α] {T : TypeId} {f : α → List Value} {k : Nat} (hk : ∀ x, (f x).length = k) (hp : 0 < k) {w : World} {base g cap n : Nat} {L : List α} (h : w.ownsRow base T k (.slice (some ⟨g, 0, none⟩) n cap) n (rowOf f L)) : OwnK T f k w g cap L := by
  have hn : n = L.length := by have := h.1; rw [rowOf_length hk] at this; exact (Nat.eq_of_mul_eq_mul_right hp this).symm
  subst hn
  refine ⟨h.1, ?_⟩
  rcases h.2 with h2 | ⟨g, cap, cur, h1, hb, rest⟩
  · exact .inl h2
  · exact .inr ⟨g, cap, cur, h1, Nat.zero_le _, rest⟩
theorem OwnK.lt {α : Type} [Inhabited α] {T : TypeId} {f : α → List Value} {k : Nat} {w : World} {g cap : Nat} {L : List α} (h : OwnK T f k w g cap L) : g < w.heap.size := (World.ownsRow.lt h g rfl).2
theorem OwnK.later {α : Type} [Inhabited α] {T : TypeId} {f : α → List Value} {k : Nat} {w w' : World} {g cap : Nat} {L : List α} (h : OwnK T f k w g cap L) (hb : Below w.heap.size w w') : OwnK T f k w' g cap L := ownsRow_below' h hb
theorem OwnK.grown {α : Type} [Inhabited α] {T : TypeId} {f : α → List Value} {k : Nat} {w w' : World} {g g' cap : Nat} {L : List α} (h : OwnK T f k w g cap L) (hg : w.grownBy w' (some g')) (hne : g ≠ g') : OwnK T f k w' g cap L :=
  World.ownsRow.kept h hg (.inr (by simp [Value.ownBlock]; exact hne))
theorem OwnK.rd {α : Type} [Inhabited α] {T : TypeId} {f : α → List Value} {k : Nat} (hk : ∀ x, (f x).length = k) (hp : 0 < k) {w : World} {g cap : Nat} {L : List α} (h : OwnK T f k w g cap L) : RdK f k w (some ⟨g, 0, none⟩) L := by
  obtain ⟨a, c, e, hr, -⟩ := rdK_owns hk hp h
  simp only [Value.slice.injEq] at e
  rw [e.1]; exact hr
theorem OwnK.cap {α : Type} [Inhabited α] {T : TypeId} {f : α → List Value} {k : Nat} {w : World} {g cap : Nat} {L : List α} (h : OwnK T f k w g cap L) : L.length ≤ cap := by
  rcases h.2 with ⟨h1, _⟩ | ⟨g', cap', cur, h1, hb', hh, hnc, _⟩
  · simp at h1
  · simp only [Value.slice.injEq] at h1; omega

/-- the first i elements laid, the rest still z -/
def partK {α : Type} (L : List α) (z : α) (i : Nat) : List α := L.take i ++ List.replicate (L.length - i) z
theorem partK_length {α : Type} {L : List α} {z : α} {i : Nat} (h : i ≤ L.length) : (partK L z i).length = L.length := by simp [partK]; omega
theorem partK_zero {α : Type} (L : List α) (z : α) : partK L z 0 = List.replicate L.length z := by simp [partK]
theorem partK_end {α : Type} (L : List α) (z : α) : partK L z L.length = L := by simp [partK]
theorem partK_set {α : Type} [Inhabited α] {L : List α} {z : α} {i : Nat} (h : i < L.length) : (partK L z i).set i (eAt L i) = partK L z (i + 1) := by
  have h1 : partK L z i = L.take i ++ z :: List.replicate (L.length - (i + 1)) z := by
    unfold partK; rw [show L.length - i = (L.length - (i + 1)) + 1 by omega, List.replicate_succ]
  have h2 : partK L z (i + 1) = L.take i ++ eAt L i :: List.replicate (L.length - (i + 1)) z := by
    unfold partK; rw [List.take_succ_eq_append_getElem h, eAt_in h, List.append_assoc]; rfl
  rw [h1, h2, List.set_append_right _ _ (by rw [List.length_take]; omega), List.length_take, Nat.min_eq_left (by omega), Nat.sub_self]; rfl
/-- the first i elements as m has them, the rest as they were -/
def partL {α : Type} (m : Nat → α) (L : List α) (i : Nat) : List α := (List.range i).map m ++ L.drop i
theorem partL_length {α : Type} {m : Nat → α} {L : List α} {i : Nat} (h : i ≤ L.length) : (partL m L i).length = L.length := by simp [partL]; omega
theorem partL_end {α : Type} {m : Nat → α} {L : List α} {i : Nat} (h : L.length ≤ i) : partL m L i = (List.range i).map m := by unfold partL; rw [List.drop_eq_nil_of_le h, List.append_nil]
theorem partL_set {α : Type} {m : Nat → α} {L : List α} {i : Nat} (h : i < L.length) : (partL m L i).set i (m i) = partL m L (i + 1) := by
  unfold partL
  rw [List.set_append_right _ _ (by simp), List.length_map, List.length_range, Nat.sub_self, List.drop_eq_getElem_cons h, List.set_cons_zero, List.range_succ, List.map_append, List.append_assoc]
  rfl
theorem rowOf_made {α : Type} {f : α → List Value} {x : α} {cs : Array Value} (hx : f x = cs.toList) (hp : 0 < cs.size) (n : Nat) : (madeCells cs (n * cs.size)).toList = rowOf f (List.replicate n x) := by
  have hk : ∀ y ∈ List.replicate n x, f y = cs.toList := fun y hy => by rw [(List.mem_replicate.1 hy).2]; exact hx
  induction n with
  | zero => simp [madeCells, rowOf]
  | succ n ih =>
    apply List.ext_getElem?
    intro j
    rw [List.replicate_succ, rowOf_cons, hx]
    by_cases hj : j < cs.size
    · rw [List.getElem?_append_left (by simpa using hj)]
      have h1 : j < (n + 1) * cs.size := by rw [Nat.succ_mul]; omega
      simp [madeCells, h1, Nat.mod_eq_of_lt hj, hj]
    · rw [List.getElem?_append_right (by simp; omega), ← ih (fun y hy => hk y (by rw [List.replicate_succ]; exact List.mem_cons_of_mem _ hy))]
      have hl : cs.toList.length = cs.size := by simp
      rw [hl]
      by_cases h1 : j < (n + 1) * cs.size
      · have h2 : j - cs.size < n * cs.size := by rw [Nat.succ_mul] at h1; omega
        have h3 : (j - cs.size) % cs.size = j % cs.size := by
          rw [← Nat.mod_eq_sub_mod (by omega)]
        simp [madeCells, h1, h2, h3]
      · have h2 : ¬ j - cs.size < n * cs.size := by rw [Nat.succ_mul] at h1; omega
        simp [madeCells, h1, h2]
theorem grown_belowM {w w1 w2 : World} {g : Nat} (h : w.grownBy w1 (some g)) (hb : Below w1.heap.size w1 w2) : w.grownBy w2 (some g) :=
  ⟨hb.os.trans h.os, hb.tape.trans h.tape, hb.output.trans h.output, Nat.le_trans h.size hb.size, fun i hi hne => (hb.block i (Nat.lt_of_lt_of_le hi h.size)).trans (h.block i hi hne)⟩
end Go.Proofs.Ytfgigcdfmkfkjaa
/-
  Rows of elements that hold lists of their own: each element's lists lie in blocks between two numbers, and these rise from element to element (OwnD). What is changed between two numbers alone (Out).
-/
namespace Go.Proofs.Ytfgigcdfmkfkjaa
open Go.RowKit
set_option linter.unusedVariables false

theorem eAt_set {α : Type} [Inhabited α] {L : List α} {k : Nat} (h : k < L.length) (x : α) (i : Nat) : eAt (L.set k x) i = if i = k then x else eAt L i := by
  unfold eAt List.getD
  rw [List.getElem?_set]
  by_cases e : k = i
  · subst e; rw [if_pos rfl, if_pos rfl, if_pos h]; rfl
  · rw [if_neg e, if_neg (fun h => e h.symm)]
theorem map_len {α β : Type} {p : α → β} {K J : List α} (h : K.map p = J.map p) : K.length = J.length := by simpa using congrArg List.length h
theorem map_at {α β : Type} [Inhabited α] {p : α → β} {K J : List α} (h : K.map p = J.map p) {i : Nat} (hi : i < K.length) : p (eAt K i) = p (eAt J i) := by
  have hk : i < J.length := by rw [← map_len h]; exact hi
  have e : (K.map p)[i]? = (J.map p)[i]? := by rw [h]
  rw [List.getElem?_map, List.getElem?_map, List.getElem?_eq_getElem hi, List.getElem?_eq_getElem hk] at e
  simp only [Option.map_some, Option.some.injEq] at e
  rw [eAt_in hi, eAt_in hk]; exact e
theorem map_ext {α β : Type} [Inhabited α] {p : α → β} {K J : List α} (hl : K.length = J.length) (h : ∀ i, i < K.length → p (eAt K i) = p (eAt J i)) : K.map p = J.map p := by
  apply List.ext_getElem (by simpa using hl)
  intro i h1 h2
  have hi : i < K.length := by simpa using h1
  have := h i hi
  rw [eAt_in hi, eAt_in (by omega)] at this
  simpa using this
/-- the weights of the first j -/
def totW {α : Type} (wt : α → Nat) (K : List α) (j : Nat) : Nat := ((K.take j).map wt).sum
theorem totW_zero {α : Type} (wt : α → Nat) (K : List α) : totW wt K 0 = 0 := by simp [totW]
theorem totW_step {α : Type} [Inhabited α] {wt : α → Nat} {K : List α} {j : Nat} (h : j < K.length) : totW wt K (j + 1) = totW wt K j + wt (eAt K j) := by
  unfold totW; rw [List.take_succ_eq_append_getElem h, eAt_in h, List.map_append, List.sum_append]; simp only [List.map_cons, List.map_nil, List.sum_cons, List.sum_nil, Nat.add_zero]
theorem totW_end {α : Type} (wt : α → Nat) (K : List α) : totW wt K K.length = (K.map wt).sum := by unfold totW; rw [List.take_length]
theorem totW_le {α : Type} (wt : α → Nat) (K : List α) (j : Nat) : totW wt K j ≤ (K.map wt).sum := by
  unfold totW
  have : (K.map wt).sum = ((K.take j).map wt).sum + ((K.drop j).map wt).sum := by rw [← List.sum_append, ← List.map_append, List.take_append_drop]
  omega
theorem totW_pl {α β : Type} {wt : α → Nat} {p : α → β} {v : β → Nat} (hv : ∀ x, wt x = v (p x)) {K J : List α} (h : K.map p = J.map p) : (K.map wt).sum = (J.map wt).sum := by
  have e : wt = v ∘ p := funext hv
  rw [e, ← List.map_map, ← List.map_map, h]
theorem totW_mul {α : Type} {wt v : α → Nat} {c : Nat} (h : ∀ x, wt x ≤ c * (v x + 1)) : ∀ K : List α, (K.map wt).sum ≤ c * (K.length + (K.map v).sum)
  | [] => by simp
  | x :: r => by
    have := totW_mul h r
    have := h x
    simp only [List.map_cons, List.sum_cons, List.length_cons, Nat.mul_add] at *
    omega
theorem sum_mem {α : Type} [Inhabited α] (wt : α → Nat) {K : List α} {i : Nat} (hi : i < K.length) : wt (eAt K i) ≤ (K.map wt).sum := by
  have h1 := totW_step (wt := wt) hi
  have h2 := totW_le wt K (i + 1)
  omega

theorem ownsRow_sameD {w w' : World} {base n size : Nat} {T : TypeId} {v : Value} {xs : List Value} (h : w.ownsRow base T size v n xs) (hs : ∀ k, v.ownBlock = some k → w'.heap[k]? = w.heap[k]?) : w'.ownsRow base T size v n xs := by
  refine ⟨h.1, ?_⟩
  rcases h.2 with h2 | ⟨g, cap, cur, rfl, hb, hg, rest⟩
  · exact .inl h2
  · exact .inr ⟨g, cap, cur, rfl, hb, by rw [hs g rfl]; exact hg, rest⟩
theorem OwnK.same {α : Type} [Inhabited α] {T : TypeId} {f : α → List Value} {k : Nat} {w w' : World} {g cap : Nat} {L : List α} (h : OwnK T f k w g cap L) (hs : w'.heap[g]? = w.heap[g]?) : OwnK T f k w' g cap L :=
  ownsRow_sameD h (fun q hq => by simp only [Value.ownBlock, Option.some.injEq] at hq; rw [← hq]; exact hs)

/-- what an element's lists are, between two numbers -/
structure Inn {α : Type} (I : World → Nat → Nat → α → Prop) : Prop where
  wide : ∀ {w : World} {s e s' e' : Nat} {x : α}, I w s e x → s' ≤ s → e ≤ e' → I w s' e' x
  same : ∀ {w w' : World} {s e : Nat} {x : α}, I w s e x → (∀ q, s ≤ q → q < e → w'.heap[q]? = w.heap[q]?) → I w' s e x
/-- one list, of plain elements -/
def InK {α β : Type} [Inhabited β] (T : TypeId) (f : β → List Value) (k : Nat) (ad : α → Option Addr) (cp : α → Nat) (ls : α → List β) (w : World) (s e : Nat) (x : α) : Prop :=
  ∃ q, ad x = some ⟨q, 0, none⟩ ∧ s ≤ q ∧ q < e ∧ OwnK T f k w q (cp x) (ls x)
theorem inn_K {α β : Type} [Inhabited β] (T : TypeId) (f : β → List Value) (k : Nat) (ad : α → Option Addr) (cp : α → Nat) (ls : α → List β) : Inn (InK T f k ad cp ls) :=
  ⟨fun ⟨q, h1, h2, h3, h4⟩ hs he => ⟨q, h1, Nat.le_trans hs h2, Nat.lt_of_lt_of_le h3 he, h4⟩, fun ⟨q, h1, h2, h3, h4⟩ h => ⟨q, h1, h2, h3, h4.same (h q h2 h3)⟩⟩
/-- block g holds the elements K, at its head; the lists of the first m lie behind it, each element's behind those of the ones ahead, all ahead of 'hi' -/
structure OwnD {α : Type} [Inhabited α] (T : TypeId) (f : α → List Value) (k : Nat) (I : World → Nat → Nat → α → Prop) (w : World) (lo hi g cp : Nat) (K : List α) (m : Nat) : Prop where
  own : OwnK T f k w g cp K
  low : lo ≤ g
  top : hi ≤ w.heap.size
  lth : g < hi
  bnd : ∃ s : Nat → Nat, (∀ i, i ≤ m → g < s i ∧ s i ≤ hi) ∧ ∀ i, i < m → s i ≤ s (i + 1) ∧ I w (s i) (s (i + 1)) (eAt K i)
section
variable {α : Type} [Inhabited α] {T : TypeId} {f : α → List Value} {k : Nat} {I : World → Nat → Nat → α → Prop}
theorem OwnD.zero {w : World} {lo hi g cp : Nat} {K : List α} (h : OwnK T f k w g cp K) (hl : lo ≤ g) (ht : hi ≤ w.heap.size) (hg : g < hi) : OwnD T f k I w lo hi g cp K 0 :=
  ⟨h, hl, ht, hg, fun _ => g + 1, fun i _ => ⟨Nat.lt_succ_self _, hg⟩, fun i hi => absurd hi (Nat.not_lt_zero _)⟩
theorem OwnD.step (hI : Inn I) {w w1 w2 : World} {lo hi g cp m : Nat} {K : List α} {x : α} (h : OwnD T f k I w lo hi g cp K m) (hm : m < K.length) (hb : Below w.heap.size w w1) (hx : I w1 w.heap.size w1.heap.size x) (hg : w1.grownBy w2 (some g)) (ho : OwnK T f k w2 g cp (K.set m x)) :
    OwnD T f k I w2 lo w1.heap.size g cp (K.set m x) (m + 1) := by
  obtain ⟨s, hs, hin⟩ := h.bnd
  have hsz := hb.size
  have ht := h.top
  have hgl := h.lth
  refine ⟨ho, h.low, hg.size, by omega, fun i => if i ≤ m then s i else w1.heap.size, fun i hi => ?_, fun i hi => ?_⟩
  · by_cases e : i ≤ m
    · simp only [if_pos e]
      have := hs i e
      omega
    · simp only [if_neg e]
      omega
  · by_cases e : i = m
    · subst e
      have := hs i (Nat.le_refl _)
      simp only [if_pos (Nat.le_refl _), if_neg (Nat.not_succ_le_self _)]
      refine ⟨by omega, ?_⟩
      rw [eAt_set hm, if_pos rfl]
      refine hI.same (hI.wide hx (by omega) (Nat.le_refl _)) (fun q h1 h2 => hg.block q h2 (by simp; omega))
    · have hlt : i < m := by omega
      have h1 := hs i (by omega)
      have h2 := hs (i + 1) (by omega)
      have h3 := hin i hlt
      simp only [if_pos (Nat.le_of_lt hlt), if_pos (Nat.succ_le_of_lt hlt)]
      refine ⟨h3.1, ?_⟩
      rw [eAt_set hm, if_neg e]
      refine hI.same h3.2 (fun q hq1 hq2 => ?_)
      rw [hg.block q (by omega) (by simp; omega), hb.block q (by omega)]
theorem OwnD.keep (hI : Inn I) {w w' : World} {lo hi g cp m : Nat} {K : List α} (h : OwnD T f k I w lo hi g cp K m) (hsz : w.heap.size ≤ w'.heap.size) (hs : ∀ q, lo ≤ q → q < hi → w'.heap[q]? = w.heap[q]?) : OwnD T f k I w' lo hi g cp K m := by
  obtain ⟨s, h1, h2⟩ := h.bnd
  have hl := h.low
  refine ⟨h.own.same (hs g hl h.lth), h.low, Nat.le_trans h.top hsz, h.lth, s, h1, fun i hi => ⟨(h2 i hi).1, hI.same (h2 i hi).2 (fun q hq1 hq2 => hs q ?_ ?_)⟩⟩
  · have := h1 i (by omega); omega
  · have := h1 (i + 1) (by omega); omega
theorem OwnD.later (hI : Inn I) {w w' : World} {lo hi g cp m : Nat} {K : List α} (h : OwnD T f k I w lo hi g cp K m) (hb : Below w.heap.size w w') : OwnD T f k I w' lo hi g cp K m :=
  h.keep hI hb.size (fun q _ hq => hb.block q (Nat.lt_of_lt_of_le hq h.top))
theorem OwnD.grown (hI : Inn I) {w w' : World} {lo hi g cp m p : Nat} {K : List α} (h : OwnD T f k I w lo hi g cp K m) (hg : w.grownBy w' (some p)) (hp : p < lo ∨ hi ≤ p) : OwnD T f k I w' lo hi g cp K m :=
  h.keep hI hg.size (fun q h1 h2 => hg.block q (Nat.lt_of_lt_of_le h2 h.top) (by simp; omega))
theorem OwnD.weaken {w : World} {lo lo' hi hi' g cp m : Nat} {K : List α} (h : OwnD T f k I w lo hi g cp K m) (hl : lo' ≤ lo) (hh : hi ≤ hi') (ht : hi' ≤ w.heap.size) : OwnD T f k I w lo' hi' g cp K m := by
  obtain ⟨s, h1, h2⟩ := h.bnd
  exact ⟨h.own, Nat.le_trans hl h.low, ht, Nat.lt_of_lt_of_le h.lth hh, s, fun i hi => ⟨(h1 i hi).1, Nat.le_trans (h1 i hi).2 hh⟩, h2⟩
theorem OwnD.at {w : World} {lo hi g cp m : Nat} {K : List α} (h : OwnD T f k I w lo hi g cp K m) {i : Nat} (hi : i < m) : ∃ s e, I w s e (eAt K i) := by
  obtain ⟨s, h1, h2⟩ := h.bnd
  exact ⟨_, _, (h2 i hi).2⟩
end

/-- nothing is changed but between lo and hi -/
structure Out (lo hi : Nat) (w w' : World) : Prop where
  os : w'.os = w.os
  tape : w'.tape = w.tape
  output : w'.output = w.output
  size : w.heap.size ≤ w'.heap.size
  blk : ∀ q, q < w.heap.size → (q < lo ∨ hi ≤ q) → w'.heap[q]? = w.heap[q]?
theorem Out.refl (lo hi : Nat) (w : World) : Out lo hi w w := ⟨rfl, rfl, rfl, Nat.le_refl _, fun _ _ _ => rfl⟩
theorem Out.trans {lo hi : Nat} {a b c : World} (h : Out lo hi a b) (k : Out lo hi b c) : Out lo hi a c :=
  ⟨k.os.trans h.os, k.tape.trans h.tape, k.output.trans h.output, Nat.le_trans h.size k.size, fun q hq ho => (k.blk q (Nat.lt_of_lt_of_le hq h.size) ho).trans (h.blk q hq ho)⟩
theorem Out.grown {lo hi : Nat} {a b c : World} {g : Nat} (h : Out lo hi a b) (k : b.grownBy c (some g)) (hl : lo ≤ g) (hh : g < hi) : Out lo hi a c :=
  ⟨k.os.trans h.os, k.tape.trans h.tape, k.output.trans h.output, Nat.le_trans h.size k.size, fun q hq ho => (k.block q (Nat.lt_of_lt_of_le hq h.size) (by simp; omega)).trans (h.blk q hq ho)⟩
theorem Out.below {lo hi : Nat} {a b c : World} (h : Out lo hi a b) (k : Below b.heap.size b c) : Out lo hi a c :=
  ⟨k.os.trans h.os, k.tape.trans h.tape, k.output.trans h.output, Nat.le_trans h.size k.size, fun q hq ho => (k.block q (Nat.lt_of_lt_of_le hq h.size)).trans (h.blk q hq ho)⟩
theorem Out.wide {lo hi lo' hi' : Nat} {a b : World} (h : Out lo hi a b) (hl : lo' ≤ lo) (hh : hi ≤ hi') : Out lo' hi' a b :=
  ⟨h.os, h.tape, h.output, h.size, fun q hq ho => h.blk q hq (by omega)⟩
theorem Out.bel {lo hi : Nat} {a b : World} (h : Out lo hi a b) (hl : lo ≤ a.heap.size) : Below lo a b :=
  ⟨h.os, h.tape, h.output, h.size, fun q hq => h.blk q (Nat.lt_of_lt_of_le hq hl) (.inl hq)⟩
theorem mono_le {s : Nat → Nat} {n : Nat} (h : ∀ i, i < n → s i ≤ s (i + 1)) : ∀ {a b : Nat}, a ≤ b → b ≤ n → s a ≤ s b := by
  intro a b hab
  induction hab with
  | refl => intro _; exact Nat.le_refl _
  | step _ ih => intro hb; exact Nat.le_trans (ih (by omega)) (h _ (by omega))
/-- nothing is changed but block g and what lies between a and b -/
structure Out2 (g a b : Nat) (w w' : World) : Prop where
  os : w'.os = w.os
  tape : w'.tape = w.tape
  output : w'.output = w.output
  size : w.heap.size ≤ w'.heap.size
  blk : ∀ q, q < w.heap.size → q ≠ g → (q < a ∨ b ≤ q) → w'.heap[q]? = w.heap[q]?
theorem Out2.of {g a b : Nat} {w w' : World} (k : w.grownBy w' (some g)) : Out2 g a b w w' :=
  ⟨k.os, k.tape, k.output, k.size, fun q hq hne _ => k.block q hq (by simp; omega)⟩
theorem Out2.at {g a b : Nat} {w w1 w2 : World} (h : Out2 g a b w w1) (k : w1.grownBy w2 (some g)) : Out2 g a b w w2 :=
  ⟨k.os.trans h.os, k.tape.trans h.tape, k.output.trans h.output, Nat.le_trans h.size k.size, fun q hq hne ho => (k.block q (Nat.lt_of_lt_of_le hq h.size) (by simp; omega)).trans (h.blk q hq hne ho)⟩
theorem Out2.inner {g a b p : Nat} {w w1 w2 : World} (h : Out2 g a b w w1) (k : w1.grownBy w2 (some p)) (h1 : a ≤ p) (h2 : p < b) : Out2 g a b w w2 :=
  ⟨k.os.trans h.os, k.tape.trans h.tape, k.output.trans h.output, Nat.le_trans h.size k.size, fun q hq hne ho => (k.block q (Nat.lt_of_lt_of_le hq h.size) (by simp; omega)).trans (h.blk q hq hne ho)⟩
theorem Out2.below {g a b : Nat} {w w1 w2 : World} (h : Out2 g a b w w1) (k : Below w1.heap.size w1 w2) : Out2 g a b w w2 :=
  ⟨k.os.trans h.os, k.tape.trans h.tape, k.output.trans h.output, Nat.le_trans h.size k.size, fun q hq hne ho => (k.block q (Nat.lt_of_lt_of_le hq h.size)).trans (h.blk q hq hne ho)⟩
/-- a row on its way to be marked: from the j-th element on all is as it was -/
structure MkD {α : Type} [Inhabited α] (T : TypeId) (f : α → List Value) (k : Nat) (I : World → Nat → Nat → α → Prop) (w : World) (lo hi g cp : Nat) (K : List α) (s : Nat → Nat) (j : Nat) (W : World) : Prop where
  row : ∃ K', K'.length = K.length ∧ OwnK T f k W g cp K' ∧ ∀ i, j ≤ i → i < K.length → eAt K' i = eAt K i
  inn : ∀ i, j ≤ i → i < K.length → I W (s i) (s (i + 1)) (eAt K i)
  out : Out lo hi w W
theorem MkD.step {α : Type} [Inhabited α] {T : TypeId} {f : α → List Value} {k : Nat} {I : World → Nat → Nat → α → Prop} (hI : Inn I) {w W W2 : World} {lo hi g cp : Nat} {K : List α} {s : Nat → Nat} {j : Nat} (h : MkD T f k I w lo hi g cp K s j W)
    (hs : ∀ i, i ≤ K.length → g < s i ∧ s i ≤ hi) (hm : ∀ i, i < K.length → s i ≤ s (i + 1)) (hlo : lo ≤ g) (hg : g < hi) (ht : hi ≤ w.heap.size) (hj : j < K.length) (h2 : Out2 g (s j) (s (j + 1)) W W2)
    (hrow : ∃ K', K'.length = K.length ∧ OwnK T f k W2 g cp K' ∧ ∀ i, j + 1 ≤ i → i < K.length → eAt K' i = eAt K i) : MkD T f k I w lo hi g cp K s (j + 1) W2 := by
  have hsz := h.out.size
  have hj1 := hs j (by omega)
  have hj2 := hs (j + 1) (by omega)
  refine ⟨hrow, fun i h1 hi' => hI.same (h.inn i (by omega) hi') (fun q hq1 hq2 => ?_), ⟨h2.os.trans h.out.os, h2.tape.trans h.out.tape, h2.output.trans h.out.output, Nat.le_trans hsz h2.size, fun q hq ho => ?_⟩⟩
  · have a1 := mono_le hm h1 (Nat.le_of_lt hi')
    have a2 := hs i (by omega)
    have a3 := hs (i + 1) (by omega)
    exact h2.blk q (by omega) (by omega) (.inr (by omega))
  · rw [h2.blk q (by omega) (by omega) (by omega)]
    exact h.out.blk q hq ho
end Go.Proofs.Ytfgigcdfmkfkjaa
/-
  A fact that came in: its kind, and what its list of values reads as.
-/
namespace Go.Proofs.Ytfgigcdfmkfkjaa
open Go.ChangeShapes Go.WideShapes Go.ChangeAt Go.RowKit Go.Joins Go.Deep
set_option linter.unusedVariables false
set_option maxRecDepth 100000

/-- a list of values that came in -/
def IsVals (w : World) (a : Option Addr) (len cap : Nat) (L : List V3) : Prop := L.length = len ∧ len ≤ maxLen ∧ RdV w a L ∧ ∀ v ∈ L, v.S.size ≤ maxLen

theorem three_cells {H : Type} {enc : TypeId × Value → H} {w : World} {base : Nat} {spare : Nat → Bool} {held : Bool} {n : Nat} {cs : List Value} {x : DataW H × List MemPlace}
    (h : DataW.trod enc Try.prog w base spare held n 118 cs = some x) :
    ∃ K N S, cs = [.int .i64 K, .int .i64 N, .string S] ∧ S.size ≤ maxLen := by
  obtain ⟨y0, y1, y2, m, -, hl, h0, h1, h2⟩ := trod_struct3 Try.underlying118 h
  have hc : Try.prog.cellsOf 118 = 3 := by kernel_rfl
  have hi : Try.prog.cellsOf 3 = 1 := by kernel_rfl
  have hs : Try.prog.cellsOf 9 = 1 := by kernel_rfl
  rw [hc] at hl
  match cs, hl with
  | [c0, c1, c2], _ =>
    simp only [hi, hs, List.drop_zero, List.drop_succ_cons, List.take_succ_cons, List.take_zero] at h0 h1 h2
    obtain ⟨K, eK, _, _⟩ := DataW.trod_int Try.underlying3 h0
    obtain ⟨N, eN, _, _⟩ := DataW.trod_int Try.underlying3 h1
    obtain ⟨S, eS, _, wS⟩ := DataW.trod_string Try.underlying9 h2
    simp only [List.cons.injEq, and_true] at eK eN eS
    exact ⟨K, N, S, by rw [eK, eN, eS], wS⟩

theorem vals_in {H : Type} {enc : TypeId × Value → H} {w : World} {spare : Nat → Bool} {held : Bool} {n : Nat} {v : Value} {x : DataW H × List MemPlace}
    (h : DataW.trod enc Try.prog w 0 spare held n 150 [v] = some x) : ∃ a len cap L, v = .slice a len cap ∧ IsVals w a len cap L := by
  have hc : Try.prog.cellsOf 118 = 3 := by kernel_rfl
  rcases open_slice Try.underlying150 h with ⟨h0, _⟩ | ⟨a, len, cap, m, n', D, Pl, h0, hb, hl, hm, hmm, _, hx⟩
  · simp only [List.cons.injEq, and_true] at h0
    exact ⟨none, 0, 0, [], h0, rfl, Nat.zero_le _, RdV.nil _ _, fun v hv => by cases hv⟩
  · simp only [List.cons.injEq, and_true] at h0
    have hlm : len ≤ m := by rw [hmm]; split <;> omega
    obtain ⟨F, hF⟩ := choose_lt (α := V3) (n := len) (p := fun i v => w.cells? 0 (a.add (i * 3)) 3 = some [.int .i64 v.K, .int .i64 v.N, .string v.S] ∧ v.S.size ≤ maxLen) (fun i hi => by
      obtain ⟨cs', h1, h2⟩ := hx i (by omega)
      rw [hc] at h1
      obtain ⟨K, N, S, rfl, hs⟩ := three_cells h2
      exact ⟨⟨K, N, S⟩, h1, hs⟩)
    refine ⟨some a, len, cap, (List.range len).map F, h0, by simp, Nat.le_trans hl hm, fun i hi => ?_, fun v hv => ?_⟩
    · have hi2 : i < len := by simpa using hi
      obtain ⟨_, _, hcell⟩ := World.cells?_some (hF i hi2).1
      obtain ⟨b, off, spot⟩ := a
      have e0 := hcell 0 (by omega)
      have e1 := hcell 1 (by omega)
      have e2 := hcell 2 (by omega)
      rw [add_add] at e0 e1 e2
      have hs : spot = none := by
        obtain ⟨_, _, hcell0⟩ := World.cells?_some (hF 0 (by omega)).1
        have e := hcell0 0 (by omega)
        rw [add_add] at e
        simp only [List.getElem?_cons_zero] at e
        simpa [Addr.add] using World.cell?_spot e
      subst hs
      have ev : vAt ((List.range len).map F) i = F i := by rw [vAt_in hi]; simp
      rw [ev]
      simp only [Addr.add_lit] at e0 e1 e2
      refine ⟨b, off, rfl, ?_, ?_, ?_⟩
      · simpa using e0
      · simpa [Nat.add_assoc] using e1
      · simpa [Nat.add_assoc] using e2
    · obtain ⟨i, hi, rfl⟩ := List.mem_map.1 hv
      exact (hF i (List.mem_range.1 hi)).2
end Go.Proofs.Ytfgigcdfmkfkjaa
/-
  Rows of Args: what a slice of them reads as, what came in.
-/
namespace Go.Proofs.Ytfgigcdfmkfkjaa
open Go.ChangeShapes Go.WideShapes Go.ChangeAt Go.RowKit Go.Joins Go.Deep
set_option linter.unusedVariables false
set_option maxRecDepth 100000

structure A5 where
  K : Int
  S : ByteArray
  V : V3
instance : Inhabited A5 := ⟨⟨0, ⟨#[]⟩, default⟩⟩
def A5.cs (x : A5) : List Value := [.int .i64 x.K, .string x.S, .int .i64 x.V.K, .int .i64 x.V.N, .string x.V.S]
theorem A5.len (x : A5) : x.cs.length = 5 := rfl
def A5.fits (x : A5) : Prop := x.S.size ≤ maxLen ∧ x.V.S.size ≤ maxLen
def A5.small (x : A5) : Prop := x.S.size ≤ 1048576 ∧ x.V.S.size ≤ 1048576
def A5.zero : A5 := ⟨0, ⟨#[]⟩, ⟨0, 0, ⟨#[]⟩⟩⟩
abbrev RdArg (w : World) (a : Option Addr) (L : List A5) : Prop := RdK A5.cs 5 w a L
theorem RdArg.cells {w : World} {a : Option Addr} {L : List A5} (h : RdArg w a L) (hp : 0 < L.length) :
    ∃ b off, a = some ⟨b, off, none⟩ ∧ b < w.heap.size ∧ ∀ i, i < L.length → w.cell? ⟨b, off + i * 5, none⟩ = some (.int .i64 (eAt L i).K) ∧ w.cell? ⟨b, off + i * 5 + 1, none⟩ = some (.string (eAt L i).S) ∧ w.cell? ⟨b, off + i * 5 + 2, none⟩ = some (.int .i64 (eAt L i).V.K) ∧ w.cell? ⟨b, off + i * 5 + 3, none⟩ = some (.int .i64 (eAt L i).V.N) ∧ w.cell? ⟨b, off + i * 5 + 4, none⟩ = some (.string (eAt L i).V.S) := by
  obtain ⟨b, off, e, hb, hc⟩ := RdK.open A5.len (by decide) h hp
  refine ⟨b, off, e, hb, fun i hi => ?_⟩
  have hc := hc i hi
  exact ⟨hc 0 _ rfl, hc 1 _ rfl, hc 2 _ rfl, hc 3 _ rfl, hc 4 _ rfl⟩
def IsArgs (w : World) (a : Option Addr) (len cap : Nat) (L : List A5) : Prop := L.length = len ∧ len ≤ maxLen ∧ RdArg w a L ∧ ∀ x ∈ L, x.fits

theorem arg_cells {H : Type} {enc : TypeId × Value → H} {w : World} {base : Nat} {spare : Nat → Bool} {held : Bool} {n : Nat} {cs : List Value} {x : DataW H × List MemPlace}
    (h : DataW.trod enc Try.prog w base spare held n 142 cs = some x) : ∃ y : A5, cs = y.cs ∧ y.fits := by
  obtain ⟨y0, y1, y2, m, -, hl, h0, h1, h2⟩ := trod_struct3 Try.underlying142 h
  have hc : Try.prog.cellsOf 142 = 5 := by kernel_rfl
  have hi : Try.prog.cellsOf 3 = 1 := by kernel_rfl
  have hs : Try.prog.cellsOf 9 = 1 := by kernel_rfl
  have hv : Try.prog.cellsOf 118 = 3 := by kernel_rfl
  rw [hc] at hl
  match cs, hl with
  | [c0, c1, c2, c3, c4], _ =>
    simp only [hi, hs, hv, List.drop_zero, List.drop_succ_cons, List.take_succ_cons, List.take_zero] at h0 h1 h2
    obtain ⟨K, eK, _, _⟩ := DataW.trod_int Try.underlying3 h0
    obtain ⟨S, eS, _, wS⟩ := DataW.trod_string Try.underlying9 h1
    obtain ⟨VK, VN, VS, eV, wVS⟩ := three_cells h2
    simp only [List.cons.injEq, and_true] at eK eS eV
    obtain ⟨e0, e1, e2⟩ := eV
    exact ⟨⟨K, S, ⟨VK, VN, VS⟩⟩, by rw [eK, eS, e0, e1, e2]; rfl, wS, wVS⟩

theorem arg_in {H : Type} {enc : TypeId × Value → H} {w : World} {base b0 : Nat} {spare : Nat → Bool} {held : Bool} {r : Reach} {v : Value} {d : DataW H} {p : List MemPlace}
    (hv : Value.okWide Try.prog w r b0 142 v) (h : DataW.Trod enc Try.prog w base spare held 142 v d p) : ∃ (K : Int) (S : ByteArray) (VK : Int) (VN : Int) (VS : ByteArray), v = .agg #[.int .i64 K, .string S, .int .i64 VK, .int .i64 VN, .string VS] ∧ S.size ≤ maxLen ∧ VS.size ≤ maxLen := by
  obtain ⟨cs, rfl, hsz⟩ := okWide_struct Try.underlying142 hv
  obtain ⟨fuel, hf⟩ := h
  obtain ⟨y, e, hy⟩ := arg_cells hf
  refine ⟨y.K, y.S, y.V.K, y.V.N, y.V.S, ?_, hy⟩
  have e2 : cs.toList = y.cs := e
  rw [← Array.toArray_toList (xs := cs), e2]
  rfl
theorem args_in {H : Type} {enc : TypeId × Value → H} {w : World} {spare : Nat → Bool} {held : Bool} {n : Nat} {v : Value} {x : DataW H × List MemPlace}
    (h : DataW.trod enc Try.prog w 0 spare held n 137 [v] = some x) : ∃ a len cap L, v = .slice a len cap ∧ IsArgs w a len cap L := by
  have hc : Try.prog.cellsOf 142 = 5 := by kernel_rfl
  rcases open_slice Try.underlying137 h with ⟨h0, _⟩ | ⟨a, len, cap, m, n', D, Pl, h0, hb, hl, hm, hmm, _, hx⟩
  · simp only [List.cons.injEq, and_true] at h0
    exact ⟨none, 0, 0, [], h0, rfl, Nat.zero_le _, RdK.nil _ _ _ _, fun v hv => by cases hv⟩
  · simp only [List.cons.injEq, and_true] at h0
    have hlm : len ≤ m := by rw [hmm]; split <;> omega
    obtain ⟨F, hF⟩ := choose_lt (α := A5) (n := len) (p := fun i v => w.cells? 0 (a.add (i * 5)) 5 = some v.cs ∧ v.fits) (fun i hi => by
      obtain ⟨cs', h1, h2⟩ := hx i (by omega)
      rw [hc] at h1
      obtain ⟨y, rfl, hs⟩ := arg_cells h2
      exact ⟨y, h1, hs⟩)
    refine ⟨some a, len, cap, (List.range len).map F, h0, by simp, Nat.le_trans hl hm, fun i hi => ?_, fun v hv => ?_⟩
    · have hi2 : i < len := by simpa using hi
      obtain ⟨_, _, hcell⟩ := World.cells?_some (hF i hi2).1
      obtain ⟨b, off, spot⟩ := a
      have hs : spot = none := by
        obtain ⟨_, _, hcell0⟩ := World.cells?_some (hF 0 (by omega)).1
        have e := hcell0 0 (by omega)
        rw [add_add] at e
        simp only [A5.cs, List.getElem?_cons_zero] at e
        simpa [Addr.add] using World.cell?_spot e
      subst hs
      have ev : eAt ((List.range len).map F) i = F i := by rw [eAt_in hi]; simp
      rw [ev]
      refine ⟨b, off, rfl, fun j c hj => ?_⟩
      have hjk : j < 5 := by rw [← (F i).len]; exact (List.getElem?_eq_some_iff.1 hj).1
      have e := hcell j hjk
      rw [add_add, Addr.add_lit, hj] at e
      simpa [Nat.add_assoc] using e
    · obtain ⟨i, hi, rfl⟩ := List.mem_map.1 hv
      exact (hF i (List.mem_range.1 hi)).2
theorem rowOf_set_A5 (x : A5) : ∀ (L : List A5) (i : Nat), i < L.length →
    ((((((rowOf A5.cs L).set (i * 5) (.int .i64 x.K)).set (i * 5 + 1) (.string x.S)).set (i * 5 + 2) (.int .i64 x.V.K)).set (i * 5 + 3) (.int .i64 x.V.N)).set (i * 5 + 4) (.string x.V.S)) = rowOf A5.cs (L.set i x)
  | [], i, hi => absurd hi (Nat.not_lt_zero _)
  | y :: r, 0, hi => by
    rw [List.set_cons_zero, rowOf_cons, rowOf_cons]
    rfl
  | y :: r, i + 1, hi => by
    have ih := rowOf_set_A5 x r i (by simpa using hi)
    rw [List.set_cons_succ, rowOf_cons, rowOf_cons, ← ih]
    simp only [Nat.succ_mul, A5.cs]
    rfl
abbrev OwnArg (w : World) (g cap : Nat) (L : List A5) : Prop := OwnK 157 A5.cs 5 w g cap L
theorem rdOwnArg {w : World} {g cap : Nat} {L : List A5} (h : OwnArg w g cap L) : RdArg w (some ⟨g, 0, none⟩) L := OwnK.rd A5.len (by decide) h
end Go.Proofs.Ytfgigcdfmkfkjaa
/-
  Rows of Pats, each with a list of its own: what a slice of them reads as, what came in.
-/
namespace Go.Proofs.Ytfgigcdfmkfkjaa
open Go.ChangeShapes Go.WideShapes Go.ChangeAt Go.RowKit Go.Joins Go.Deep
set_option linter.unusedVariables false

set_option maxRecDepth 100000

structure PE where
  kd : ByteArray
  a : Option Addr
  cap : Nat
  L : List A5
  nt : Bool
instance : Inhabited PE := ⟨⟨⟨#[]⟩, none, 0, [], false⟩⟩
def PE.zero : PE := ⟨⟨#[]⟩, none, 0, [], false⟩
/-- the same, plainly -/
structure PP where
  kd : ByteArray
  L : List A5
  nt : Bool
instance : Inhabited PP := ⟨⟨⟨#[]⟩, [], false⟩⟩
def PE.pl (x : PE) : PP := ⟨x.kd, x.L, x.nt⟩
theorem PE.pl_inj {x y : PE} (h : x.pl = y.pl) : x.kd = y.kd ∧ x.L = y.L ∧ x.nt = y.nt := by simpa [PE.pl] using h
def PE.cs (x : PE) : List Value := [.string x.kd, .slice x.a x.L.length x.cap, .bool x.nt]
theorem PE.len (x : PE) : x.cs.length = 3 := rfl
def PE.ok (x : PE) : Prop := x.kd.size ≤ maxLen ∧ x.L.length ≤ maxLen ∧ ∀ v ∈ x.L, v.fits
/-- how great one is -/
def PE.sz (x : PE) : Nat := x.kd.size + x.L.length
def PE.small (x : PE) : Prop := x.kd.size ≤ 1048576 ∧ x.L.length ≤ 1048576 ∧ ∀ v ∈ x.L, v.small
theorem PE.small_of {x y : PE} (h : x.small) (e : y.pl = x.pl) : y.small := by
  obtain ⟨e0, e1, e2⟩ := PE.pl_inj e
  unfold PE.small at *
  rw [e0, e1]; exact h
/-- what the slice at 'a' reads as -/
def RdPatS (w : World) (a : Option Addr) (J : List PE) : Prop := RdK PE.cs 3 w a J ∧ ∀ i, i < J.length → RdArg w (eAt J i).a (eAt J i).L
theorem RdPatS.cells {w : World} {a : Option Addr} {J : List PE} (h : RdPatS w a J) (hp : 0 < J.length) :
    ∃ b off, a = some ⟨b, off, none⟩ ∧ b < w.heap.size ∧ ∀ i, i < J.length → w.cell? ⟨b, off + i * 3, none⟩ = some (.string (eAt J i).kd) ∧ w.cell? ⟨b, off + i * 3 + 1, none⟩ = some (.slice (eAt J i).a (eAt J i).L.length (eAt J i).cap) ∧ w.cell? ⟨b, off + i * 3 + 2, none⟩ = some (.bool (eAt J i).nt) ∧ RdArg w (eAt J i).a (eAt J i).L := by
  obtain ⟨b, off, e, hb, hc⟩ := RdK.open PE.len (by decide) h.1 hp
  refine ⟨b, off, e, hb, fun i hi => ?_⟩
  have hc := hc i hi
  exact ⟨hc 0 _ rfl, hc 1 _ rfl, hc 2 _ rfl, h.2 i hi⟩
theorem RdPatS.below {w w' : World} {a : Option Addr} {J : List PE} (h : RdPatS w a J) (hb : Below w.heap.size w w') : RdPatS w' a J := ⟨h.1.below hb, fun i hi => (h.2 i hi).below hb⟩
theorem RdPatS.heap {w w' : World} {a : Option Addr} {J : List PE} (h : RdPatS w a J) (hb : w'.heap = w.heap) : RdPatS w' a J := ⟨h.1.heap hb, fun i hi => (h.2 i hi).heap hb⟩
theorem RdPatS.nil (w : World) (a : Option Addr) : RdPatS w a [] := ⟨RdK.nil _ _ _ _, fun i hi => absurd hi (Nat.not_lt_zero _)⟩
def IsPatS (w : World) (a : Option Addr) (len cap : Nat) (J : List PE) : Prop := J.length = len ∧ len ≤ maxLen ∧ RdPatS w a J ∧ ∀ x ∈ J, x.ok
abbrev InPat : World → Nat → Nat → PE → Prop := InK 157 A5.cs 5 PE.a PE.cap PE.L
theorem innPat : Inn (InPat) := inn_K _ _ _ _ _ _
abbrev OwnPatS (w : World) (lo hi g cp : Nat) (K : List PE) (m : Nat) : Prop := OwnD 79 PE.cs 3 InPat w lo hi g cp K m
theorem rdOwnPatS {w : World} {lo hi g cp : Nat} {K : List PE} (h : OwnPatS w lo hi g cp K K.length) : RdPatS w (some ⟨g, 0, none⟩) K :=
  ⟨OwnK.rd PE.len (by decide) h.own, fun i hi => by obtain ⟨s, e, q, h1, -, -, h4⟩ := h.at hi; rw [h1]; exact rdOwnArg h4⟩
theorem pat_cells' {H : Type} {enc : TypeId × Value → H} {w : World} {spare : Nat → Bool} {held : Bool} {n : Nat} {cs : List Value} {x : DataW H × List MemPlace}
    (h : DataW.trod enc Try.prog w 0 spare held n 139 cs = some x) : ∃ y : PE, cs = y.cs ∧ RdArg w y.a y.L ∧ y.ok := by
  obtain ⟨y0, y1, y2, m, -, hl, h0, h1, h2⟩ := trod_struct3 Try.underlying139 h
  have hc : Try.prog.cellsOf 139 = 3 := by kernel_rfl
  have e0 : Try.prog.cellsOf 9 = 1 := by kernel_rfl
  have e1 : Try.prog.cellsOf 137 = 1 := by kernel_rfl
  have e2 : Try.prog.cellsOf 4 = 1 := by kernel_rfl
  rw [hc] at hl
  match cs, hl with
  | [c0, c1, c2], _ =>
    simp only [e0, e1, e2, List.drop_zero, List.drop_succ_cons, List.take_succ_cons, List.take_zero] at h0 h1 h2
    obtain ⟨v0, q0, _, w0⟩ := DataW.trod_string Try.underlying9 h0
    obtain ⟨aa, len, cap, L, qL, hlen, hm, hr, hf⟩ := args_in h1
    obtain ⟨v2, q2, _⟩ := DataW.trod_bool Try.underlying4 h2
    simp only [List.cons.injEq, and_true] at q0 q2
    exact ⟨⟨v0, aa, cap, L, v2⟩, by rw [q0, q2, qL, ← hlen]; rfl, hr, w0, by rw [hlen]; exact hm, hf⟩
theorem pats_in {H : Type} {enc : TypeId × Value → H} {w : World} {spare : Nat → Bool} {held : Bool} {n : Nat} {v : Value} {x : DataW H × List MemPlace}
    (h : DataW.trod enc Try.prog w 0 spare held n 33 [v] = some x) : ∃ a len cap J, v = .slice a len cap ∧ IsPatS w a len cap J := by
  have hc : Try.prog.cellsOf 139 = 3 := by kernel_rfl
  rcases open_slice Try.underlying33 h with ⟨h0, _⟩ | ⟨a, len, cap, m, n', D, Pl, h0, hb, hl, hm, hmm, _, hx⟩
  · simp only [List.cons.injEq, and_true] at h0
    exact ⟨none, 0, 0, [], h0, rfl, Nat.zero_le _, RdPatS.nil _ _, fun v hv => by cases hv⟩
  · simp only [List.cons.injEq, and_true] at h0
    have hlm : len ≤ m := by rw [hmm]; split <;> omega
    obtain ⟨F, hF⟩ := choose_lt (α := PE) (n := len) (p := fun i v => w.cells? 0 (a.add (i * 3)) 3 = some v.cs ∧ RdArg w v.a v.L ∧ v.ok) (fun i hi => by
      obtain ⟨cs', h1, h2⟩ := hx i (by omega)
      rw [hc] at h1
      obtain ⟨y, rfl, hs⟩ := pat_cells' h2
      exact ⟨y, h1, hs⟩)
    refine ⟨some a, len, cap, (List.range len).map F, h0, by simp, Nat.le_trans hl hm, ⟨fun i hi => ?_, fun i hi => ?_⟩, fun v hv => ?_⟩
    · have hi2 : i < len := by simpa using hi
      obtain ⟨_, _, hcell⟩ := World.cells?_some (hF i hi2).1
      obtain ⟨b, off, spot⟩ := a
      have hs : spot = none := by
        obtain ⟨_, _, hcell0⟩ := World.cells?_some (hF 0 (by omega)).1
        have e := hcell0 0 (by omega)
        rw [add_add] at e
        simp only [PE.cs, List.getElem?_cons_zero] at e
        simpa [Addr.add] using World.cell?_spot e
      subst hs
      have ev : eAt ((List.range len).map F) i = F i := by rw [eAt_in hi]; simp
      rw [ev]
      refine ⟨b, off, rfl, fun j c hj => ?_⟩
      have hjk : j < 3 := by rw [← (F i).len]; exact (List.getElem?_eq_some_iff.1 hj).1
      have e := hcell j hjk
      rw [add_add, Addr.add_lit, hj] at e
      simpa [Nat.add_assoc] using e
    · have ev : eAt ((List.range len).map F) i = F i := by rw [eAt_in hi]; simp
      rw [ev]
      exact (hF i (by simpa using hi)).2.1
    · obtain ⟨i, hi, rfl⟩ := List.mem_map.1 hv
      exact (hF i (List.mem_range.1 hi)).2.2
theorem rowOf_set_PE (x : PE) : ∀ (L : List PE) (i : Nat), i < L.length →
    ((((rowOf PE.cs L).set (i * 3) (.string x.kd)).set (i * 3 + 1) (.slice x.a x.L.length x.cap)).set (i * 3 + 2) (.bool x.nt)) = rowOf PE.cs (L.set i x)
  | [], i, hi => absurd hi (Nat.not_lt_zero _)
  | y :: r, 0, hi => by
    rw [List.set_cons_zero, rowOf_cons, rowOf_cons]
    rfl
  | y :: r, i + 1, hi => by
    have ih := rowOf_set_PE x r i (by simpa using hi)
    rw [List.set_cons_succ, rowOf_cons, rowOf_cons, ← ih]
    simp only [Nat.succ_mul, PE.cs]
    rfl
theorem rowOf_set_PE_kd (v : ByteArray) : ∀ (L : List PE) (i : Nat), i < L.length → (rowOf PE.cs L).set (i * 3) (.string v) = rowOf PE.cs (L.set i { eAt L i with kd := v })
  | [], i, hi => absurd hi (Nat.not_lt_zero _)
  | y :: r, 0, hi => by
    rw [List.set_cons_zero, rowOf_cons, rowOf_cons]
    rfl
  | y :: r, i + 1, hi => by
    have ih := rowOf_set_PE_kd v r i (by simpa using hi)
    rw [List.set_cons_succ, rowOf_cons, rowOf_cons, show eAt (y :: r) (i + 1) = eAt r i from rfl, ← ih]
    simp only [Nat.succ_mul, PE.cs]
    rfl
theorem rowOf_set_PE_nt (v : Bool) : ∀ (L : List PE) (i : Nat), i < L.length → (rowOf PE.cs L).set (i * 3 + 2) (.bool v) = rowOf PE.cs (L.set i { eAt L i with nt := v })
  | [], i, hi => absurd hi (Nat.not_lt_zero _)
  | y :: r, 0, hi => by
    rw [List.set_cons_zero, rowOf_cons, rowOf_cons]
    rfl
  | y :: r, i + 1, hi => by
    have ih := rowOf_set_PE_nt v r i (by simpa using hi)
    rw [List.set_cons_succ, rowOf_cons, rowOf_cons, show eAt (y :: r) (i + 1) = eAt r i from rfl, ← ih]
    simp only [Nat.succ_mul, PE.cs]
    rfl
end Go.Proofs.Ytfgigcdfmkfkjaa
/-
  Rows of Exprs: what a slice of them reads as, what came in.
-/
namespace Go.Proofs.Ytfgigcdfmkfkjaa
open Go.ChangeShapes Go.WideShapes Go.ChangeAt Go.RowKit Go.Joins Go.Deep
set_option linter.unusedVariables false
set_option maxRecDepth 100000

structure X11 where
  Op : ByteArray
  L : A5
  R : A5
instance : Inhabited X11 := ⟨⟨⟨#[]⟩, default, default⟩⟩
def X11.cs (x : X11) : List Value := [.string x.Op, .int .i64 x.L.K, .string x.L.S, .int .i64 x.L.V.K, .int .i64 x.L.V.N, .string x.L.V.S, .int .i64 x.R.K, .string x.R.S, .int .i64 x.R.V.K, .int .i64 x.R.V.N, .string x.R.V.S]
theorem X11.len (x : X11) : x.cs.length = 11 := rfl
def X11.fits (x : X11) : Prop := x.Op.size ≤ maxLen ∧ x.L.fits ∧ x.R.fits
def X11.small (x : X11) : Prop := x.Op.size ≤ 1048576 ∧ x.L.small ∧ x.R.small
def X11.zero : X11 := ⟨⟨#[]⟩, A5.zero, A5.zero⟩
abbrev RdExpr (w : World) (a : Option Addr) (L : List X11) : Prop := RdK X11.cs 11 w a L
theorem RdExpr.cells {w : World} {a : Option Addr} {L : List X11} (h : RdExpr w a L) (hp : 0 < L.length) :
    ∃ b off, a = some ⟨b, off, none⟩ ∧ b < w.heap.size ∧ ∀ i, i < L.length → w.cell? ⟨b, off + i * 11, none⟩ = some (.string (eAt L i).Op) ∧ w.cell? ⟨b, off + i * 11 + 1, none⟩ = some (.int .i64 (eAt L i).L.K) ∧ w.cell? ⟨b, off + i * 11 + 2, none⟩ = some (.string (eAt L i).L.S) ∧ w.cell? ⟨b, off + i * 11 + 3, none⟩ = some (.int .i64 (eAt L i).L.V.K) ∧ w.cell? ⟨b, off + i * 11 + 4, none⟩ = some (.int .i64 (eAt L i).L.V.N) ∧ w.cell? ⟨b, off + i * 11 + 5, none⟩ = some (.string (eAt L i).L.V.S) ∧ w.cell? ⟨b, off + i * 11 + 6, none⟩ = some (.int .i64 (eAt L i).R.K) ∧ w.cell? ⟨b, off + i * 11 + 7, none⟩ = some (.string (eAt L i).R.S) ∧ w.cell? ⟨b, off + i * 11 + 8, none⟩ = some (.int .i64 (eAt L i).R.V.K) ∧ w.cell? ⟨b, off + i * 11 + 9, none⟩ = some (.int .i64 (eAt L i).R.V.N) ∧ w.cell? ⟨b, off + i * 11 + 10, none⟩ = some (.string (eAt L i).R.V.S) := by
  obtain ⟨b, off, e, hb, hc⟩ := RdK.open X11.len (by decide) h hp
  refine ⟨b, off, e, hb, fun i hi => ?_⟩
  have hc := hc i hi
  exact ⟨hc 0 _ rfl, hc 1 _ rfl, hc 2 _ rfl, hc 3 _ rfl, hc 4 _ rfl, hc 5 _ rfl, hc 6 _ rfl, hc 7 _ rfl, hc 8 _ rfl, hc 9 _ rfl, hc 10 _ rfl⟩
def IsExprs (w : World) (a : Option Addr) (len cap : Nat) (L : List X11) : Prop := L.length = len ∧ len ≤ maxLen ∧ RdExpr w a L ∧ ∀ x ∈ L, x.fits

theorem expr_cells {H : Type} {enc : TypeId × Value → H} {w : World} {base : Nat} {spare : Nat → Bool} {held : Bool} {n : Nat} {cs : List Value} {x : DataW H × List MemPlace}
    (h : DataW.trod enc Try.prog w base spare held n 219 cs = some x) : ∃ y : X11, cs = y.cs ∧ y.fits := by
  obtain ⟨y0, y1, y2, m, -, hl, h0, h1, h2⟩ := trod_struct3 Try.underlying219 h
  have hc : Try.prog.cellsOf 219 = 11 := by kernel_rfl
  have hi : Try.prog.cellsOf 9 = 1 := by kernel_rfl
  have ha : Try.prog.cellsOf 142 = 5 := by kernel_rfl
  rw [hc] at hl
  match cs, hl with
  | [c0, c1, c2, c3, c4, c5, c6, c7, c8, c9, c10], _ =>
    simp only [hi, ha, List.drop_zero, List.drop_succ_cons, List.take_succ_cons, List.take_zero] at h0 h1 h2
    obtain ⟨O, eO, _, wO⟩ := DataW.trod_string Try.underlying9 h0
    obtain ⟨l, el, fl⟩ := arg_cells h1
    obtain ⟨r, er, fr⟩ := arg_cells h2
    simp only [A5.cs, List.cons.injEq, and_true] at eO el er
    obtain ⟨e1, e2, e3, e4, e5⟩ := el
    obtain ⟨e6, e7, e8, e9, e10⟩ := er
    exact ⟨⟨O, l, r⟩, by rw [eO, e1, e2, e3, e4, e5, e6, e7, e8, e9, e10]; rfl, wO, fl, fr⟩

theorem expr_in {H : Type} {enc : TypeId × Value → H} {w : World} {base b0 : Nat} {spare : Nat → Bool} {held : Bool} {r : Reach} {v : Value} {d : DataW H} {p : List MemPlace}
    (hv : Value.okWide Try.prog w r b0 219 v) (h : DataW.Trod enc Try.prog w base spare held 219 v d p) : ∃ x : X11, v = .agg #[.string x.Op, .int .i64 x.L.K, .string x.L.S, .int .i64 x.L.V.K, .int .i64 x.L.V.N, .string x.L.V.S, .int .i64 x.R.K, .string x.R.S, .int .i64 x.R.V.K, .int .i64 x.R.V.N, .string x.R.V.S] ∧ x.fits := by
  obtain ⟨cs, rfl, hsz⟩ := okWide_struct Try.underlying219 hv
  obtain ⟨fuel, hf⟩ := h
  obtain ⟨y, e, hy⟩ := expr_cells hf
  refine ⟨y, ?_, hy⟩
  have e2 : cs.toList = y.cs := e
  rw [← Array.toArray_toList (xs := cs), e2]
  rfl
theorem exprs_in {H : Type} {enc : TypeId × Value → H} {w : World} {spare : Nat → Bool} {held : Bool} {n : Nat} {v : Value} {x : DataW H × List MemPlace}
    (h : DataW.trod enc Try.prog w 0 spare held n 146 [v] = some x) : ∃ a len cap L, v = .slice a len cap ∧ IsExprs w a len cap L := by
  have hc : Try.prog.cellsOf 219 = 11 := by kernel_rfl
  rcases open_slice Try.underlying146 h with ⟨h0, _⟩ | ⟨a, len, cap, m, n', D, Pl, h0, hb, hl, hm, hmm, _, hx⟩
  · simp only [List.cons.injEq, and_true] at h0
    exact ⟨none, 0, 0, [], h0, rfl, Nat.zero_le _, RdK.nil _ _ _ _, fun v hv => by cases hv⟩
  · simp only [List.cons.injEq, and_true] at h0
    have hlm : len ≤ m := by rw [hmm]; split <;> omega
    obtain ⟨F, hF⟩ := choose_lt (α := X11) (n := len) (p := fun i v => w.cells? 0 (a.add (i * 11)) 11 = some v.cs ∧ v.fits) (fun i hi => by
      obtain ⟨cs', h1, h2⟩ := hx i (by omega)
      rw [hc] at h1
      obtain ⟨y, rfl, hs⟩ := expr_cells h2
      exact ⟨y, h1, hs⟩)
    refine ⟨some a, len, cap, (List.range len).map F, h0, by simp, Nat.le_trans hl hm, fun i hi => ?_, fun v hv => ?_⟩
    · have hi2 : i < len := by simpa using hi
      obtain ⟨_, _, hcell⟩ := World.cells?_some (hF i hi2).1
      obtain ⟨b, off, spot⟩ := a
      have hs : spot = none := by
        obtain ⟨_, _, hcell0⟩ := World.cells?_some (hF 0 (by omega)).1
        have e := hcell0 0 (by omega)
        rw [add_add] at e
        simp only [X11.cs, List.getElem?_cons_zero] at e
        simpa [Addr.add] using World.cell?_spot e
      subst hs
      have ev : eAt ((List.range len).map F) i = F i := by rw [eAt_in hi]; simp
      rw [ev]
      refine ⟨b, off, rfl, fun j c hj => ?_⟩
      have hjk : j < 11 := by rw [← (F i).len]; exact (List.getElem?_eq_some_iff.1 hj).1
      have e := hcell j hjk
      rw [add_add, Addr.add_lit, hj] at e
      simpa [Nat.add_assoc] using e
    · obtain ⟨i, hi, rfl⟩ := List.mem_map.1 hv
      exact (hF i (List.mem_range.1 hi)).2
theorem rowOf_set_X11 (x : X11) : ∀ (L : List X11) (i : Nat), i < L.length →
    ((((((((((((rowOf X11.cs L).set (i * 11) (.string x.Op)).set (i * 11 + 1) (.int .i64 x.L.K)).set (i * 11 + 2) (.string x.L.S)).set (i * 11 + 3) (.int .i64 x.L.V.K)).set (i * 11 + 4) (.int .i64 x.L.V.N)).set (i * 11 + 5) (.string x.L.V.S)).set (i * 11 + 6) (.int .i64 x.R.K)).set (i * 11 + 7) (.string x.R.S)).set (i * 11 + 8) (.int .i64 x.R.V.K)).set (i * 11 + 9) (.int .i64 x.R.V.N)).set (i * 11 + 10) (.string x.R.V.S)) = rowOf X11.cs (L.set i x)
  | [], i, hi => absurd hi (Nat.not_lt_zero _)
  | y :: r, 0, hi => by
    rw [List.set_cons_zero, rowOf_cons, rowOf_cons]
    rfl
  | y :: r, i + 1, hi => by
    have ih := rowOf_set_X11 x r i (by simpa using hi)
    rw [List.set_cons_succ, rowOf_cons, rowOf_cons, ← ih]
    simp only [Nat.succ_mul, X11.cs]
    rfl
abbrev OwnExpr (w : World) (g cap : Nat) (L : List X11) : Prop := OwnK 206 X11.cs 11 w g cap L
theorem rdOwnExpr {w : World} {g cap : Nat} {L : List X11} (h : OwnExpr w g cap L) : RdExpr w (some ⟨g, 0, none⟩) L := OwnK.rd X11.len (by decide) h
end Go.Proofs.Ytfgigcdfmkfkjaa
/-
  An act as it came in.
-/
namespace Go.Proofs.Ytfgigcdfmkfkjaa
open Go.ChangeShapes Go.WideShapes Go.ChangeAt Go.RowKit Go.Joins Go.Deep
set_option linter.unusedVariables false
set_option maxRecDepth 100000

theorem array5 {α : Type} {cs : Array α} (h : cs.size = 5) : ∃ c0 c1 c2 c3 c4, cs = #[c0, c1, c2, c3, c4] := by
  obtain ⟨l⟩ := cs
  match l, h with
  | [c0, c1, c2, c3, c4], _ => exact ⟨c0, c1, c2, c3, c4, rfl⟩
theorem trod_struct5 {H : Type} {enc : TypeId × Value → H} {P : Program} {w : World} {base : Nat} {spare : Nat → Bool} {held : Bool} {t : TypeId} {f0 f1 f2 f3 f4 : Field} {fuel : Nat} {cs : List Value} {x : DataW H × List MemPlace} (ht : P.underlying t = some (.struct #[f0, f1, f2, f3, f4])) (h : DataW.trod enc P w base spare held fuel t cs = some x) :
    ∃ y0 y1 y2 y3 y4 n, cs.length = P.cellsOf t ∧ DataW.trod enc P w base spare held n f0.type ((cs.drop f0.offset).take (P.cellsOf f0.type)) = some y0 ∧
      DataW.trod enc P w base spare held n f1.type ((cs.drop f1.offset).take (P.cellsOf f1.type)) = some y1 ∧ DataW.trod enc P w base spare held n f2.type ((cs.drop f2.offset).take (P.cellsOf f2.type)) = some y2 ∧
      DataW.trod enc P w base spare held n f3.type ((cs.drop f3.offset).take (P.cellsOf f3.type)) = some y3 ∧ DataW.trod enc P w base spare held n f4.type ((cs.drop f4.offset).take (P.cellsOf f4.type)) = some y4 := by
  obtain ⟨xs, n, _, rfl, hl, hlen, hf⟩ := DataW.trod_struct ht h
  match xs, hlen with
  | [y0, y1, y2, y3, y4], _ => exact ⟨y0, y1, y2, y3, y4, n, hl, by simpa using hf 0 f0 rfl, by simpa using hf 1 f1 rfl, by simpa using hf 2 f2 rfl, by simpa using hf 3 f3 rfl, by simpa using hf 4 f4 rfl⟩
theorem act_in {H : Type} {enc : TypeId × Value → H} {w : World} {b0 : Nat} {spare : Nat → Bool} {held : Bool} {r : Reach} {v : Value} {d : DataW H} {p : List MemPlace}
    (hv : Value.okWide Try.prog w r b0 148 v) (h : DataW.Trod enc Try.prog w 0 spare held 148 v d p) :
    ∃ (K : Int) (nm : ByteArray) (a : Option Addr) (len cap : Nat) (L : List X11) (N : Int) (un : ByteArray), v = .agg #[.int .i64 K, .string nm, .slice a len cap, .int .i64 N, .string un] ∧ nm.size ≤ maxLen ∧ un.size ≤ maxLen ∧ IsExprs w a len cap L := by
  obtain ⟨cs, rfl, hsz⟩ := okWide_struct Try.underlying148 hv
  obtain ⟨c0, c1, c2, c3, c4, rfl⟩ := array5 (hsz.trans (by kernel_rfl))
  obtain ⟨fuel, hf⟩ := h
  obtain ⟨y0, y1, y2, y3, y4, n, _, h0, h1, h2, h3, h4⟩ := trod_struct5 Try.underlying148 hf
  have e0 : Try.prog.cellsOf 3 = 1 := by kernel_rfl
  have e1 : Try.prog.cellsOf 9 = 1 := by kernel_rfl
  have e2 : Try.prog.cellsOf 146 = 1 := by kernel_rfl
  simp only [e0, e1, e2, Value.cells, List.drop_zero, List.drop_succ_cons, List.take_succ_cons, List.take_zero] at h0 h1 h2 h3 h4
  obtain ⟨K, eK, _, _⟩ := DataW.trod_int Try.underlying3 h0
  obtain ⟨S, eS, _, wS⟩ := DataW.trod_string Try.underlying9 h1
  obtain ⟨N, eN, _, _⟩ := DataW.trod_int Try.underlying3 h3
  obtain ⟨U, eU, _, wU⟩ := DataW.trod_string Try.underlying9 h4
  obtain ⟨a, len, cap, L, eL, wL⟩ := exprs_in h2
  simp only [List.cons.injEq, and_true] at eK eS eN eU
  exact ⟨K, S, a, len, cap, L, N, U, by rw [eK, eS, eN, eU, eL], wS, wU, wL⟩
end Go.Proofs.Ytfgigcdfmkfkjaa
/-
  Rows of Acts, each with a list of its own: what a slice of them reads as, what came in.
-/
namespace Go.Proofs.Ytfgigcdfmkfkjaa
open Go.ChangeShapes Go.WideShapes Go.ChangeAt Go.RowKit Go.Joins Go.Deep
set_option linter.unusedVariables false

set_option maxRecDepth 100000

structure QE where
  K : Int
  nm : ByteArray
  a : Option Addr
  cap : Nat
  L : List X11
  N : Int
  un : ByteArray
instance : Inhabited QE := ⟨⟨0, ⟨#[]⟩, none, 0, [], 0, ⟨#[]⟩⟩⟩
def QE.zero : QE := ⟨0, ⟨#[]⟩, none, 0, [], 0, ⟨#[]⟩⟩
/-- the same, plainly -/
structure QP where
  K : Int
  nm : ByteArray
  L : List X11
  N : Int
  un : ByteArray
instance : Inhabited QP := ⟨⟨0, ⟨#[]⟩, [], 0, ⟨#[]⟩⟩⟩
def QE.pl (x : QE) : QP := ⟨x.K, x.nm, x.L, x.N, x.un⟩
theorem QE.pl_inj {x y : QE} (h : x.pl = y.pl) : x.K = y.K ∧ x.nm = y.nm ∧ x.L = y.L ∧ x.N = y.N ∧ x.un = y.un := by simpa [QE.pl] using h
def QE.cs (x : QE) : List Value := [.int .i64 x.K, .string x.nm, .slice x.a x.L.length x.cap, .int .i64 x.N, .string x.un]
theorem QE.len (x : QE) : x.cs.length = 5 := rfl
def QE.ok (x : QE) : Prop := x.nm.size ≤ maxLen ∧ x.un.size ≤ maxLen ∧ x.L.length ≤ maxLen ∧ ∀ v ∈ x.L, v.fits
/-- how great one is -/
def QE.sz (x : QE) : Nat := x.nm.size + x.L.length + x.un.size
def QE.small (x : QE) : Prop := x.nm.size ≤ 1048576 ∧ x.un.size ≤ 1048576 ∧ x.L.length ≤ 1048576 ∧ ∀ v ∈ x.L, v.small
theorem QE.small_of {x y : QE} (h : x.small) (e : y.pl = x.pl) : y.small := by
  obtain ⟨e0, e1, e2, e3, e4⟩ := QE.pl_inj e
  unfold QE.small at *
  rw [e1, e2, e4]; exact h
/-- what the slice at 'a' reads as -/
def RdActS (w : World) (a : Option Addr) (J : List QE) : Prop := RdK QE.cs 5 w a J ∧ ∀ i, i < J.length → RdExpr w (eAt J i).a (eAt J i).L
theorem RdActS.cells {w : World} {a : Option Addr} {J : List QE} (h : RdActS w a J) (hp : 0 < J.length) :
    ∃ b off, a = some ⟨b, off, none⟩ ∧ b < w.heap.size ∧ ∀ i, i < J.length → w.cell? ⟨b, off + i * 5, none⟩ = some (.int .i64 (eAt J i).K) ∧ w.cell? ⟨b, off + i * 5 + 1, none⟩ = some (.string (eAt J i).nm) ∧ w.cell? ⟨b, off + i * 5 + 2, none⟩ = some (.slice (eAt J i).a (eAt J i).L.length (eAt J i).cap) ∧ w.cell? ⟨b, off + i * 5 + 3, none⟩ = some (.int .i64 (eAt J i).N) ∧ w.cell? ⟨b, off + i * 5 + 4, none⟩ = some (.string (eAt J i).un) ∧ RdExpr w (eAt J i).a (eAt J i).L := by
  obtain ⟨b, off, e, hb, hc⟩ := RdK.open QE.len (by decide) h.1 hp
  refine ⟨b, off, e, hb, fun i hi => ?_⟩
  have hc := hc i hi
  exact ⟨hc 0 _ rfl, hc 1 _ rfl, hc 2 _ rfl, hc 3 _ rfl, hc 4 _ rfl, h.2 i hi⟩
theorem RdActS.below {w w' : World} {a : Option Addr} {J : List QE} (h : RdActS w a J) (hb : Below w.heap.size w w') : RdActS w' a J := ⟨h.1.below hb, fun i hi => (h.2 i hi).below hb⟩
theorem RdActS.heap {w w' : World} {a : Option Addr} {J : List QE} (h : RdActS w a J) (hb : w'.heap = w.heap) : RdActS w' a J := ⟨h.1.heap hb, fun i hi => (h.2 i hi).heap hb⟩
theorem RdActS.nil (w : World) (a : Option Addr) : RdActS w a [] := ⟨RdK.nil _ _ _ _, fun i hi => absurd hi (Nat.not_lt_zero _)⟩
def IsActS (w : World) (a : Option Addr) (len cap : Nat) (J : List QE) : Prop := J.length = len ∧ len ≤ maxLen ∧ RdActS w a J ∧ ∀ x ∈ J, x.ok
abbrev InAct : World → Nat → Nat → QE → Prop := InK 206 X11.cs 11 QE.a QE.cap QE.L
theorem innAct : Inn (InAct) := inn_K _ _ _ _ _ _
abbrev OwnActS (w : World) (lo hi g cp : Nat) (K : List QE) (m : Nat) : Prop := OwnD 166 QE.cs 5 InAct w lo hi g cp K m
theorem rdOwnActS {w : World} {lo hi g cp : Nat} {K : List QE} (h : OwnActS w lo hi g cp K K.length) : RdActS w (some ⟨g, 0, none⟩) K :=
  ⟨OwnK.rd QE.len (by decide) h.own, fun i hi => by obtain ⟨s, e, q, h1, -, -, h4⟩ := h.at hi; rw [h1]; exact rdOwnExpr h4⟩
theorem act_cells' {H : Type} {enc : TypeId × Value → H} {w : World} {spare : Nat → Bool} {held : Bool} {n : Nat} {cs : List Value} {x : DataW H × List MemPlace}
    (h : DataW.trod enc Try.prog w 0 spare held n 148 cs = some x) : ∃ y : QE, cs = y.cs ∧ RdExpr w y.a y.L ∧ y.ok := by
  obtain ⟨y0, y1, y2, y3, y4, m, hl, h0, h1, h2, h3, h4⟩ := trod_struct5 Try.underlying148 h
  have hc : Try.prog.cellsOf 148 = 5 := by kernel_rfl
  have e0 : Try.prog.cellsOf 3 = 1 := by kernel_rfl
  have e1 : Try.prog.cellsOf 9 = 1 := by kernel_rfl
  have e2 : Try.prog.cellsOf 146 = 1 := by kernel_rfl
  rw [hc] at hl
  match cs, hl with
  | [c0, c1, c2, c3, c4], _ =>
    simp only [e0, e1, e2, List.drop_zero, List.drop_succ_cons, List.take_succ_cons, List.take_zero] at h0 h1 h2 h3 h4
    obtain ⟨v0, q0, _, _⟩ := DataW.trod_int Try.underlying3 h0
    obtain ⟨v1, q1, _, w1⟩ := DataW.trod_string Try.underlying9 h1
    obtain ⟨aa, len, cap, L, qL, hlen, hm, hr, hf⟩ := exprs_in h2
    obtain ⟨v3, q3, _, _⟩ := DataW.trod_int Try.underlying3 h3
    obtain ⟨v4, q4, _, w4⟩ := DataW.trod_string Try.underlying9 h4
    simp only [List.cons.injEq, and_true] at q0 q1 q3 q4
    exact ⟨⟨v0, v1, aa, cap, L, v3, v4⟩, by rw [q0, q1, q3, q4, qL, ← hlen]; rfl, hr, w1, w4, by rw [hlen]; exact hm, hf⟩
theorem acts_in {H : Type} {enc : TypeId × Value → H} {w : World} {spare : Nat → Bool} {held : Bool} {n : Nat} {v : Value} {x : DataW H × List MemPlace}
    (h : DataW.trod enc Try.prog w 0 spare held n 35 [v] = some x) : ∃ a len cap J, v = .slice a len cap ∧ IsActS w a len cap J := by
  have hc : Try.prog.cellsOf 148 = 5 := by kernel_rfl
  rcases open_slice Try.underlying35 h with ⟨h0, _⟩ | ⟨a, len, cap, m, n', D, Pl, h0, hb, hl, hm, hmm, _, hx⟩
  · simp only [List.cons.injEq, and_true] at h0
    exact ⟨none, 0, 0, [], h0, rfl, Nat.zero_le _, RdActS.nil _ _, fun v hv => by cases hv⟩
  · simp only [List.cons.injEq, and_true] at h0
    have hlm : len ≤ m := by rw [hmm]; split <;> omega
    obtain ⟨F, hF⟩ := choose_lt (α := QE) (n := len) (p := fun i v => w.cells? 0 (a.add (i * 5)) 5 = some v.cs ∧ RdExpr w v.a v.L ∧ v.ok) (fun i hi => by
      obtain ⟨cs', h1, h2⟩ := hx i (by omega)
      rw [hc] at h1
      obtain ⟨y, rfl, hs⟩ := act_cells' h2
      exact ⟨y, h1, hs⟩)
    refine ⟨some a, len, cap, (List.range len).map F, h0, by simp, Nat.le_trans hl hm, ⟨fun i hi => ?_, fun i hi => ?_⟩, fun v hv => ?_⟩
    · have hi2 : i < len := by simpa using hi
      obtain ⟨_, _, hcell⟩ := World.cells?_some (hF i hi2).1
      obtain ⟨b, off, spot⟩ := a
      have hs : spot = none := by
        obtain ⟨_, _, hcell0⟩ := World.cells?_some (hF 0 (by omega)).1
        have e := hcell0 0 (by omega)
        rw [add_add] at e
        simp only [QE.cs, List.getElem?_cons_zero] at e
        simpa [Addr.add] using World.cell?_spot e
      subst hs
      have ev : eAt ((List.range len).map F) i = F i := by rw [eAt_in hi]; simp
      rw [ev]
      refine ⟨b, off, rfl, fun j c hj => ?_⟩
      have hjk : j < 5 := by rw [← (F i).len]; exact (List.getElem?_eq_some_iff.1 hj).1
      have e := hcell j hjk
      rw [add_add, Addr.add_lit, hj] at e
      simpa [Nat.add_assoc] using e
    · have ev : eAt ((List.range len).map F) i = F i := by rw [eAt_in hi]; simp
      rw [ev]
      exact (hF i (by simpa using hi)).2.1
    · obtain ⟨i, hi, rfl⟩ := List.mem_map.1 hv
      exact (hF i (List.mem_range.1 hi)).2.2
theorem rowOf_set_QE (x : QE) : ∀ (L : List QE) (i : Nat), i < L.length →
    ((((((rowOf QE.cs L).set (i * 5) (.int .i64 x.K)).set (i * 5 + 1) (.string x.nm)).set (i * 5 + 2) (.slice x.a x.L.length x.cap)).set (i * 5 + 3) (.int .i64 x.N)).set (i * 5 + 4) (.string x.un)) = rowOf QE.cs (L.set i x)
  | [], i, hi => absurd hi (Nat.not_lt_zero _)
  | y :: r, 0, hi => by
    rw [List.set_cons_zero, rowOf_cons, rowOf_cons]
    rfl
  | y :: r, i + 1, hi => by
    have ih := rowOf_set_QE x r i (by simpa using hi)
    rw [List.set_cons_succ, rowOf_cons, rowOf_cons, ← ih]
    simp only [Nat.succ_mul, QE.cs]
    rfl
theorem rowOf_set_QE_K (v : Int) : ∀ (L : List QE) (i : Nat), i < L.length → (rowOf QE.cs L).set (i * 5) (.int .i64 v) = rowOf QE.cs (L.set i { eAt L i with K := v })
  | [], i, hi => absurd hi (Nat.not_lt_zero _)
  | y :: r, 0, hi => by
    rw [List.set_cons_zero, rowOf_cons, rowOf_cons]
    rfl
  | y :: r, i + 1, hi => by
    have ih := rowOf_set_QE_K v r i (by simpa using hi)
    rw [List.set_cons_succ, rowOf_cons, rowOf_cons, show eAt (y :: r) (i + 1) = eAt r i from rfl, ← ih]
    simp only [Nat.succ_mul, QE.cs]
    rfl
theorem rowOf_set_QE_nm (v : ByteArray) : ∀ (L : List QE) (i : Nat), i < L.length → (rowOf QE.cs L).set (i * 5 + 1) (.string v) = rowOf QE.cs (L.set i { eAt L i with nm := v })
  | [], i, hi => absurd hi (Nat.not_lt_zero _)
  | y :: r, 0, hi => by
    rw [List.set_cons_zero, rowOf_cons, rowOf_cons]
    rfl
  | y :: r, i + 1, hi => by
    have ih := rowOf_set_QE_nm v r i (by simpa using hi)
    rw [List.set_cons_succ, rowOf_cons, rowOf_cons, show eAt (y :: r) (i + 1) = eAt r i from rfl, ← ih]
    simp only [Nat.succ_mul, QE.cs]
    rfl
theorem rowOf_set_QE_N (v : Int) : ∀ (L : List QE) (i : Nat), i < L.length → (rowOf QE.cs L).set (i * 5 + 3) (.int .i64 v) = rowOf QE.cs (L.set i { eAt L i with N := v })
  | [], i, hi => absurd hi (Nat.not_lt_zero _)
  | y :: r, 0, hi => by
    rw [List.set_cons_zero, rowOf_cons, rowOf_cons]
    rfl
  | y :: r, i + 1, hi => by
    have ih := rowOf_set_QE_N v r i (by simpa using hi)
    rw [List.set_cons_succ, rowOf_cons, rowOf_cons, show eAt (y :: r) (i + 1) = eAt r i from rfl, ← ih]
    simp only [Nat.succ_mul, QE.cs]
    rfl
theorem rowOf_set_QE_un (v : ByteArray) : ∀ (L : List QE) (i : Nat), i < L.length → (rowOf QE.cs L).set (i * 5 + 4) (.string v) = rowOf QE.cs (L.set i { eAt L i with un := v })
  | [], i, hi => absurd hi (Nat.not_lt_zero _)
  | y :: r, 0, hi => by
    rw [List.set_cons_zero, rowOf_cons, rowOf_cons]
    rfl
  | y :: r, i + 1, hi => by
    have ih := rowOf_set_QE_un v r i (by simpa using hi)
    rw [List.set_cons_succ, rowOf_cons, rowOf_cons, show eAt (y :: r) (i + 1) = eAt r i from rfl, ← ih]
    simp only [Nat.succ_mul, QE.cs]
    rfl
end Go.Proofs.Ytfgigcdfmkfkjaa
/-
  Rows of Conds: what a slice of them reads as, what came in.
-/
namespace Go.Proofs.Ytfgigcdfmkfkjaa
open Go.ChangeShapes Go.WideShapes Go.ChangeAt Go.RowKit Go.Joins Go.Deep
set_option linter.unusedVariables false
set_option maxRecDepth 100000

structure C11 where
  Op : Int
  L : A5
  R : A5
instance : Inhabited C11 := ⟨⟨0, default, default⟩⟩
def C11.cs (x : C11) : List Value := [.int .i64 x.Op, .int .i64 x.L.K, .string x.L.S, .int .i64 x.L.V.K, .int .i64 x.L.V.N, .string x.L.V.S, .int .i64 x.R.K, .string x.R.S, .int .i64 x.R.V.K, .int .i64 x.R.V.N, .string x.R.V.S]
theorem C11.len (x : C11) : x.cs.length = 11 := rfl
def C11.fits (x : C11) : Prop := x.L.fits ∧ x.R.fits
def C11.small (x : C11) : Prop := x.L.small ∧ x.R.small
def C11.zero : C11 := ⟨0, A5.zero, A5.zero⟩
abbrev RdCond (w : World) (a : Option Addr) (L : List C11) : Prop := RdK C11.cs 11 w a L
theorem RdCond.cells {w : World} {a : Option Addr} {L : List C11} (h : RdCond w a L) (hp : 0 < L.length) :
    ∃ b off, a = some ⟨b, off, none⟩ ∧ b < w.heap.size ∧ ∀ i, i < L.length → w.cell? ⟨b, off + i * 11, none⟩ = some (.int .i64 (eAt L i).Op) ∧ w.cell? ⟨b, off + i * 11 + 1, none⟩ = some (.int .i64 (eAt L i).L.K) ∧ w.cell? ⟨b, off + i * 11 + 2, none⟩ = some (.string (eAt L i).L.S) ∧ w.cell? ⟨b, off + i * 11 + 3, none⟩ = some (.int .i64 (eAt L i).L.V.K) ∧ w.cell? ⟨b, off + i * 11 + 4, none⟩ = some (.int .i64 (eAt L i).L.V.N) ∧ w.cell? ⟨b, off + i * 11 + 5, none⟩ = some (.string (eAt L i).L.V.S) ∧ w.cell? ⟨b, off + i * 11 + 6, none⟩ = some (.int .i64 (eAt L i).R.K) ∧ w.cell? ⟨b, off + i * 11 + 7, none⟩ = some (.string (eAt L i).R.S) ∧ w.cell? ⟨b, off + i * 11 + 8, none⟩ = some (.int .i64 (eAt L i).R.V.K) ∧ w.cell? ⟨b, off + i * 11 + 9, none⟩ = some (.int .i64 (eAt L i).R.V.N) ∧ w.cell? ⟨b, off + i * 11 + 10, none⟩ = some (.string (eAt L i).R.V.S) := by
  obtain ⟨b, off, e, hb, hc⟩ := RdK.open C11.len (by decide) h hp
  refine ⟨b, off, e, hb, fun i hi => ?_⟩
  have hc := hc i hi
  exact ⟨hc 0 _ rfl, hc 1 _ rfl, hc 2 _ rfl, hc 3 _ rfl, hc 4 _ rfl, hc 5 _ rfl, hc 6 _ rfl, hc 7 _ rfl, hc 8 _ rfl, hc 9 _ rfl, hc 10 _ rfl⟩
def IsConds (w : World) (a : Option Addr) (len cap : Nat) (L : List C11) : Prop := L.length = len ∧ len ≤ maxLen ∧ RdCond w a L ∧ ∀ x ∈ L, x.fits

theorem cond_cells {H : Type} {enc : TypeId × Value → H} {w : World} {base : Nat} {spare : Nat → Bool} {held : Bool} {n : Nat} {cs : List Value} {x : DataW H × List MemPlace}
    (h : DataW.trod enc Try.prog w base spare held n 144 cs = some x) : ∃ y : C11, cs = y.cs ∧ y.fits := by
  obtain ⟨y0, y1, y2, m, -, hl, h0, h1, h2⟩ := trod_struct3 Try.underlying144 h
  have hc : Try.prog.cellsOf 144 = 11 := by kernel_rfl
  have hi : Try.prog.cellsOf 3 = 1 := by kernel_rfl
  have ha : Try.prog.cellsOf 142 = 5 := by kernel_rfl
  rw [hc] at hl
  match cs, hl with
  | [c0, c1, c2, c3, c4, c5, c6, c7, c8, c9, c10], _ =>
    simp only [hi, ha, List.drop_zero, List.drop_succ_cons, List.take_succ_cons, List.take_zero] at h0 h1 h2
    obtain ⟨O, eO, _, _⟩ := DataW.trod_int Try.underlying3 h0
    obtain ⟨l, el, fl⟩ := arg_cells h1
    obtain ⟨r, er, fr⟩ := arg_cells h2
    simp only [A5.cs, List.cons.injEq, and_true] at eO el er
    obtain ⟨e1, e2, e3, e4, e5⟩ := el
    obtain ⟨e6, e7, e8, e9, e10⟩ := er
    exact ⟨⟨O, l, r⟩, by rw [eO, e1, e2, e3, e4, e5, e6, e7, e8, e9, e10]; rfl, fl, fr⟩

theorem cond_in {H : Type} {enc : TypeId × Value → H} {w : World} {base b0 : Nat} {spare : Nat → Bool} {held : Bool} {r : Reach} {v : Value} {d : DataW H} {p : List MemPlace}
    (hv : Value.okWide Try.prog w r b0 144 v) (h : DataW.Trod enc Try.prog w base spare held 144 v d p) : ∃ x : C11, v = .agg #[.int .i64 x.Op, .int .i64 x.L.K, .string x.L.S, .int .i64 x.L.V.K, .int .i64 x.L.V.N, .string x.L.V.S, .int .i64 x.R.K, .string x.R.S, .int .i64 x.R.V.K, .int .i64 x.R.V.N, .string x.R.V.S] ∧ x.fits := by
  obtain ⟨cs, rfl, hsz⟩ := okWide_struct Try.underlying144 hv
  obtain ⟨fuel, hf⟩ := h
  obtain ⟨y, e, hy⟩ := cond_cells hf
  refine ⟨y, ?_, hy⟩
  have e2 : cs.toList = y.cs := e
  rw [← Array.toArray_toList (xs := cs), e2]
  rfl
theorem conds_in {H : Type} {enc : TypeId × Value → H} {w : World} {spare : Nat → Bool} {held : Bool} {n : Nat} {v : Value} {x : DataW H × List MemPlace}
    (h : DataW.trod enc Try.prog w 0 spare held n 34 [v] = some x) : ∃ a len cap L, v = .slice a len cap ∧ IsConds w a len cap L := by
  have hc : Try.prog.cellsOf 144 = 11 := by kernel_rfl
  rcases open_slice Try.underlying34 h with ⟨h0, _⟩ | ⟨a, len, cap, m, n', D, Pl, h0, hb, hl, hm, hmm, _, hx⟩
  · simp only [List.cons.injEq, and_true] at h0
    exact ⟨none, 0, 0, [], h0, rfl, Nat.zero_le _, RdK.nil _ _ _ _, fun v hv => by cases hv⟩
  · simp only [List.cons.injEq, and_true] at h0
    have hlm : len ≤ m := by rw [hmm]; split <;> omega
    obtain ⟨F, hF⟩ := choose_lt (α := C11) (n := len) (p := fun i v => w.cells? 0 (a.add (i * 11)) 11 = some v.cs ∧ v.fits) (fun i hi => by
      obtain ⟨cs', h1, h2⟩ := hx i (by omega)
      rw [hc] at h1
      obtain ⟨y, rfl, hs⟩ := cond_cells h2
      exact ⟨y, h1, hs⟩)
    refine ⟨some a, len, cap, (List.range len).map F, h0, by simp, Nat.le_trans hl hm, fun i hi => ?_, fun v hv => ?_⟩
    · have hi2 : i < len := by simpa using hi
      obtain ⟨_, _, hcell⟩ := World.cells?_some (hF i hi2).1
      obtain ⟨b, off, spot⟩ := a
      have hs : spot = none := by
        obtain ⟨_, _, hcell0⟩ := World.cells?_some (hF 0 (by omega)).1
        have e := hcell0 0 (by omega)
        rw [add_add] at e
        simp only [C11.cs, List.getElem?_cons_zero] at e
        simpa [Addr.add] using World.cell?_spot e
      subst hs
      have ev : eAt ((List.range len).map F) i = F i := by rw [eAt_in hi]; simp
      rw [ev]
      refine ⟨b, off, rfl, fun j c hj => ?_⟩
      have hjk : j < 11 := by rw [← (F i).len]; exact (List.getElem?_eq_some_iff.1 hj).1
      have e := hcell j hjk
      rw [add_add, Addr.add_lit, hj] at e
      simpa [Nat.add_assoc] using e
    · obtain ⟨i, hi, rfl⟩ := List.mem_map.1 hv
      exact (hF i (List.mem_range.1 hi)).2
theorem rowOf_set_C11 (x : C11) : ∀ (L : List C11) (i : Nat), i < L.length →
    ((((((((((((rowOf C11.cs L).set (i * 11) (.int .i64 x.Op)).set (i * 11 + 1) (.int .i64 x.L.K)).set (i * 11 + 2) (.string x.L.S)).set (i * 11 + 3) (.int .i64 x.L.V.K)).set (i * 11 + 4) (.int .i64 x.L.V.N)).set (i * 11 + 5) (.string x.L.V.S)).set (i * 11 + 6) (.int .i64 x.R.K)).set (i * 11 + 7) (.string x.R.S)).set (i * 11 + 8) (.int .i64 x.R.V.K)).set (i * 11 + 9) (.int .i64 x.R.V.N)).set (i * 11 + 10) (.string x.R.V.S)) = rowOf C11.cs (L.set i x)
  | [], i, hi => absurd hi (Nat.not_lt_zero _)
  | y :: r, 0, hi => by
    rw [List.set_cons_zero, rowOf_cons, rowOf_cons]
    rfl
  | y :: r, i + 1, hi => by
    have ih := rowOf_set_C11 x r i (by simpa using hi)
    rw [List.set_cons_succ, rowOf_cons, rowOf_cons, ← ih]
    simp only [Nat.succ_mul, C11.cs]
    rfl
abbrev OwnCond (w : World) (g cap : Nat) (L : List C11) : Prop := OwnK 162 C11.cs 11 w g cap L
theorem rdOwnCond {w : World} {g cap : Nat} {L : List C11} (h : OwnCond w g cap L) : RdCond w (some ⟨g, 0, none⟩) L := OwnK.rd C11.len (by decide) h
end Go.Proofs.Ytfgigcdfmkfkjaa
/-
  A rule as it lies in memory (RE), what it reads as, and a rule that came in.
-/
namespace Go.Proofs.Ytfgigcdfmkfkjaa
open Go.ChangeShapes Go.WideShapes Go.ChangeAt Go.RowKit Go.Joins Go.Deep
set_option linter.unusedVariables false
set_option maxRecDepth 100000

structure RE where
  nm : ByteArray
  sal : Int
  aP : Option Addr
  nP : Nat
  cP : Nat
  P : List PE
  aC : Option Addr
  nC : Nat
  cC : Nat
  C : List C11
  aA : Option Addr
  nA : Nat
  cA : Nat
  A : List QE
/-- a rule, plainly -/
structure RP where
  nm : ByteArray
  sal : Int
  P : List PP
  C : List C11
  A : List QP
def RE.pl (x : RE) : RP := ⟨x.nm, x.sal, x.P.map PE.pl, x.C, x.A.map QE.pl⟩
theorem RE.pl_inj {x y : RE} (h : x.pl = y.pl) : x.nm = y.nm ∧ x.sal = y.sal ∧ x.P.map PE.pl = y.P.map PE.pl ∧ x.C = y.C ∧ x.A.map QE.pl = y.A.map QE.pl := by simpa [RE.pl] using h
def RE.arr (x : RE) : Array Value := #[.string x.nm, .int .i64 x.sal, .slice x.aP x.nP x.cP, .slice x.aC x.nC x.cC, .slice x.aA x.nA x.cA]
/-- what a rule reads as -/
structure RdRule (w : World) (x : RE) : Prop where
  p : RdPatS w x.aP x.P
  c : RdCond w x.aC x.C
  a : RdActS w x.aA x.A
  np : x.P.length = x.nP
  nc : x.C.length = x.nC
  na : x.A.length = x.nA
theorem RdRule.below {w w' : World} {x : RE} (h : RdRule w x) (hb : Below w.heap.size w w') : RdRule w' x := ⟨h.p.below hb, h.c.below hb, h.a.below hb, h.np, h.nc, h.na⟩
theorem RdRule.heap {w w' : World} {x : RE} (h : RdRule w x) (hb : w'.heap = w.heap) : RdRule w' x := ⟨h.p.heap hb, h.c.heap hb, h.a.heap hb, h.np, h.nc, h.na⟩
def RE.ok (x : RE) : Prop := x.nm.size ≤ maxLen ∧ x.nP ≤ maxLen ∧ (∀ p ∈ x.P, p.ok) ∧ x.nC ≤ maxLen ∧ (∀ c ∈ x.C, c.fits) ∧ x.nA ≤ maxLen ∧ ∀ a ∈ x.A, a.ok
/-- how great a rule is -/
def RE.sz (x : RE) : Nat := x.nm.size + (x.P.length + (x.P.map PE.sz).sum) + x.C.length + (x.A.length + (x.A.map QE.sz).sum)
def RE.small (x : RE) : Prop := x.sz ≤ 1048576 ∧ (∀ p ∈ x.P, p.small) ∧ (∀ c ∈ x.C, c.small) ∧ ∀ a ∈ x.A, a.small
theorem mem_eAt {α : Type} [Inhabited α] {L : List α} {x : α} (h : x ∈ L) : ∃ i, i < L.length ∧ eAt L i = x := by
  obtain ⟨i, hi, rfl⟩ := List.getElem_of_mem h
  exact ⟨i, hi, eAt_in hi⟩
theorem eAt_mem {α : Type} [Inhabited α] {L : List α} {i : Nat} (h : i < L.length) : eAt L i ∈ L := by rw [eAt_in h]; exact List.getElem_mem h
theorem small_pls {K J : List PE} (h : K.map PE.pl = J.map PE.pl) (hs : ∀ p ∈ J, p.small) : ∀ p ∈ K, p.small := fun p hp => by
  obtain ⟨i, hi, rfl⟩ := mem_eAt hp
  exact PE.small_of (hs _ (eAt_mem (by rw [← map_len h]; exact hi))) (map_at h hi)
theorem small_qls {K J : List QE} (h : K.map QE.pl = J.map QE.pl) (hs : ∀ p ∈ J, p.small) : ∀ p ∈ K, p.small := fun p hp => by
  obtain ⟨i, hi, rfl⟩ := mem_eAt hp
  exact QE.small_of (hs _ (eAt_mem (by rw [← map_len h]; exact hi))) (map_at h hi)
theorem RE.small_of {x y : RE} (h : x.small) (e : y.pl = x.pl) : y.small := by
  obtain ⟨e1, e2, e3, e4, e5⟩ := RE.pl_inj e
  obtain ⟨h1, h2, h3, h4⟩ := h
  have f1 := map_len e3
  have f2 := map_len e5
  have f3 := totW_pl (wt := PE.sz) (p := PE.pl) (v := fun x => x.kd.size + x.L.length) (fun _ => rfl) e3
  have f4 := totW_pl (wt := QE.sz) (p := QE.pl) (v := fun x => x.nm.size + x.L.length + x.un.size) (fun _ => rfl) e5
  refine ⟨?_, small_pls e3 h2, by rw [e4]; exact h3, small_qls e5 h4⟩
  unfold RE.sz at *
  rw [e1, f1, f3, e4, f2, f4]; exact h1
/-- a rule's lists lie in blocks of the calls' own, between two numbers -/
structure OwnRule (w : World) (lo hi : Nat) (x : RE) : Prop where
  own : ∃ gP gC gA m1 m2, x.aP = some ⟨gP, 0, none⟩ ∧ OwnPatS w lo m1 gP x.cP x.P x.P.length ∧ x.aC = some ⟨gC, 0, none⟩ ∧ OwnCond w gC x.cC x.C ∧ m1 ≤ gC ∧ gC < m2 ∧ x.aA = some ⟨gA, 0, none⟩ ∧ OwnActS w m2 hi gA x.cA x.A x.A.length
  np : x.P.length = x.nP
  nc : x.C.length = x.nC
  na : x.A.length = x.nA
theorem OwnRule.rd {w : World} {lo hi : Nat} {x : RE} (h : OwnRule w lo hi x) : RdRule w x := by
  obtain ⟨gP, gC, gA, m1, m2, e1, o1, e2, o2, -, -, e3, o3⟩ := h.own
  exact ⟨by rw [e1]; exact rdOwnPatS o1, by rw [e2]; exact rdOwnCond o2, by rw [e3]; exact rdOwnActS o3, h.np, h.nc, h.na⟩
theorem OwnRule.top {w : World} {lo hi : Nat} {x : RE} (h : OwnRule w lo hi x) : hi ≤ w.heap.size := by
  obtain ⟨gP, gC, gA, m1, m2, e1, o1, e2, o2, -, -, e3, o3⟩ := h.own
  exact o3.top
theorem OwnRule.lohi {w : World} {lo hi : Nat} {x : RE} (h : OwnRule w lo hi x) : lo < hi := by
  obtain ⟨gP, gC, gA, m1, m2, e1, o1, e2, o2, h1, h2, e3, o3⟩ := h.own
  have := o1.low
  have := o1.lth
  have := o3.low
  have := o3.lth
  omega
theorem OwnRule.keep {w w' : World} {lo hi : Nat} {x : RE} (h : OwnRule w lo hi x) (hsz : w.heap.size ≤ w'.heap.size) (hs : ∀ q, lo ≤ q → q < hi → w'.heap[q]? = w.heap[q]?) : OwnRule w' lo hi x := by
  obtain ⟨gP, gC, gA, m1, m2, e1, o1, e2, o2, h1, h2, e3, o3⟩ := h.own
  have a1 := o1.low
  have a2 := o1.lth
  have a3 := o3.low
  have a4 := o3.lth
  exact ⟨⟨gP, gC, gA, m1, m2, e1, o1.keep innPat hsz (fun q q1 q2 => hs q q1 (by omega)), e2, o2.same (hs gC (by omega) (by omega)), h1, h2, e3, o3.keep innAct hsz (fun q q1 q2 => hs q (by omega) q2)⟩, h.np, h.nc, h.na⟩
theorem OwnRule.later {w w' : World} {lo hi : Nat} {x : RE} (h : OwnRule w lo hi x) (hb : Below w.heap.size w w') : OwnRule w' lo hi x :=
  h.keep hb.size (fun q _ hq => hb.block q (Nat.lt_of_lt_of_le hq h.top))
theorem OwnRule.grown {w w' : World} {lo hi p : Nat} {x : RE} (h : OwnRule w lo hi x) (hg : w.grownBy w' (some p)) (hp : p < lo ∨ hi ≤ p) : OwnRule w' lo hi x :=
  h.keep hg.size (fun q h1 h2 => hg.block q (Nat.lt_of_lt_of_le h2 h.top) (by simp; omega))
theorem OwnRule.weaken {w : World} {lo lo' hi hi' : Nat} {x : RE} (h : OwnRule w lo hi x) (hl : lo' ≤ lo) (hh : hi ≤ hi') (ht : hi' ≤ w.heap.size) : OwnRule w lo' hi' x := by
  obtain ⟨gP, gC, gA, m1, m2, e1, o1, e2, o2, h1, h2, e3, o3⟩ := h.own
  have := o3.top
  have := o3.low
  have := o3.lth
  exact ⟨⟨gP, gC, gA, m1, m2, e1, o1.weaken hl (Nat.le_refl _) o1.top, e2, o2, h1, h2, e3, o3.weaken (Nat.le_refl _) hh ht⟩, h.np, h.nc, h.na⟩

theorem rule_cells {H : Type} {enc : TypeId × Value → H} {w : World} {spare : Nat → Bool} {held : Bool} {n : Nat} {cs : List Value} {x : DataW H × List MemPlace}
    (h : DataW.trod enc Try.prog w 0 spare held n 37 cs = some x) : ∃ y : RE, cs = y.arr.toList ∧ RdRule w y ∧ y.ok := by
  obtain ⟨y0, y1, y2, y3, y4, m, hl, h0, h1, h2, h3, h4⟩ := trod_struct5 Try.underlying37 h
  have hc : Try.prog.cellsOf 37 = 5 := by kernel_rfl
  have e0 : Try.prog.cellsOf 9 = 1 := by kernel_rfl
  have e1 : Try.prog.cellsOf 3 = 1 := by kernel_rfl
  have e2 : Try.prog.cellsOf 33 = 1 := by kernel_rfl
  have e3 : Try.prog.cellsOf 34 = 1 := by kernel_rfl
  have e4 : Try.prog.cellsOf 35 = 1 := by kernel_rfl
  rw [hc] at hl
  match cs, hl with
  | [c0, c1, c2, c3, c4], _ =>
    simp only [e0, e1, e2, e3, e4, List.drop_zero, List.drop_succ_cons, List.take_succ_cons, List.take_zero] at h0 h1 h2 h3 h4
    obtain ⟨v0, q0, _, w0⟩ := DataW.trod_string Try.underlying9 h0
    obtain ⟨v1, q1, _, _⟩ := DataW.trod_int Try.underlying3 h1
    obtain ⟨aP, nP, cP, P, qP, lP, mP, rP, okP⟩ := pats_in h2
    obtain ⟨aC, nC, cC, C, qC, lC, mC, rC, okC⟩ := conds_in h3
    obtain ⟨aA, nA, cA, A, qA, lA, mA, rA, okA⟩ := acts_in h4
    simp only [List.cons.injEq, and_true] at q0 q1
    exact ⟨⟨v0, v1, aP, nP, cP, P, aC, nC, cC, C, aA, nA, cA, A⟩, by rw [q0, q1, qP, qC, qA]; rfl, ⟨rP, rC, rA, lP, lC, lA⟩, w0, mP, okP, mC, okC, mA, okA⟩
theorem rule_in {H : Type} {enc : TypeId × Value → H} {w : World} {b0 : Nat} {spare : Nat → Bool} {held : Bool} {r : Reach} {v : Value} {d : DataW H} {p : List MemPlace}
    (hv : Value.okWide Try.prog w r b0 37 v) (h : DataW.Trod enc Try.prog w 0 spare held 37 v d p) : ∃ x : RE, v = .agg x.arr ∧ RdRule w x ∧ x.ok := by
  obtain ⟨cs, rfl, hsz⟩ := okWide_struct Try.underlying37 hv
  obtain ⟨fuel, hf⟩ := h
  obtain ⟨y, e, hr, hy⟩ := rule_cells hf
  refine ⟨y, ?_, hr, hy⟩
  have e2 : cs.toList = y.arr.toList := e
  rw [← Array.toArray_toList (xs := cs), e2]
end Go.Proofs.Ytfgigcdfmkfkjaa
/-
  Rows of bytes: what a slice of bytes reads as (Rd), what a call's own row holds (vals), and the contracts of the laws' own helpers on them: toByteS copies, eqByteS tells whether two are the same.
-/
namespace Go.Proofs.Ytfgigcdfmkfkjaa
open Go.RowKit
set_option linter.unusedVariables false

theorem Try.info5 : (Try.prog.info? 5).map (fun i => (i.zero, i.size, i.bytes)) = some (some (.int .u8 0), 1, 1) := by kernel_rfl

/-- the i-th byte as a number -/
def byteAt (bs : List UInt8) (i : Nat) : Int := ((bs.getD i 0).toNat : Int)
theorem byteAt_lo (bs : List UInt8) (i : Nat) : 0 ≤ byteAt bs i := by unfold byteAt; omega
theorem byteAt_hi (bs : List UInt8) (i : Nat) : byteAt bs i ≤ 255 := by
  unfold byteAt; have := (bs.getD i 0).toNat_lt; omega

def vals (bs : List UInt8) : List Value := bs.map (fun b => Value.int .u8 (b.toNat : Int))
theorem vals_length (bs : List UInt8) : (vals bs).length = bs.length := by simp [vals]
theorem vals_get {bs : List UInt8} {i : Nat} (h : i < bs.length) : (vals bs)[i]? = some (.int .u8 (byteAt bs i)) := by
  unfold vals byteAt
  rw [List.getElem?_map, List.getElem?_eq_getElem h]
  simp [List.getD, h]
theorem vals_append (a b : List UInt8) : vals (a ++ b) = vals a ++ vals b := by simp [vals]

/-- what the slice at 'a' reads as -/
def Rd (w : World) (a : Option Addr) (bs : List UInt8) : Prop :=
  ∀ i, i < bs.length → ∃ b off, a = some ⟨b, off, none⟩ ∧ w.cell? ⟨b, off + i, none⟩ = some (.int .u8 (byteAt bs i))

theorem Rd.open {w : World} {a : Option Addr} {bs : List UInt8} (h : Rd w a bs) (hp : 0 < bs.length) :
    ∃ b off, a = some ⟨b, off, none⟩ ∧ b < w.heap.size ∧ ∀ i, i < bs.length → w.cell? ⟨b, off + i, none⟩ = some (.int .u8 (byteAt bs i)) := by
  obtain ⟨b, off, rfl, h0⟩ := h 0 hp
  refine ⟨b, off, rfl, World.block_lt_of_cell? w _ h0, fun i hi => ?_⟩
  obtain ⟨b2, off2, e, h1⟩ := h i hi
  simp only [Option.some.injEq, Addr.mk.injEq] at e
  rw [e.1, e.2.1]; exact h1

theorem Rd.below {w w' : World} {a : Option Addr} {bs : List UInt8} (h : Rd w a bs) (hb : Below w.heap.size w w') : Rd w' a bs := by
  intro i hi
  obtain ⟨b, off, e, hc⟩ := h i hi
  exact ⟨b, off, e, by rw [hb.cell (p := ⟨b, off + i, none⟩) (World.block_lt_of_cell? w _ hc)]; exact hc⟩

theorem Rd.heap {w w' : World} {a : Option Addr} {bs : List UInt8} (h : Rd w a bs) (hb : w'.heap = w.heap) : Rd w' a bs := by
  intro i hi
  obtain ⟨b, off, e, hc⟩ := h i hi
  exact ⟨b, off, e, by rw [← hc]; simp [World.cell?, hb]⟩

/-- what a call's own row of bytes reads as -/
theorem rd_owns {w : World} {base n : Nat} {v : Value} {bs : List UInt8} (h : w.ownsRow base 5 1 v n (vals bs)) :
    ∃ a cap, v = .slice a bs.length cap ∧ Rd w a bs ∧ n = bs.length := by
  have hn : n = bs.length := by have := h.1; rw [vals_length] at this; omega
  subst hn
  rcases h.2 with ⟨rfl, h0⟩ | ⟨g, cap, cur, rfl, hb, hg, hnc, hcm, hsz, htake⟩
  · exact ⟨none, 0, by rw [h0], fun i hi => by omega, rfl⟩
  · refine ⟨_, cap, rfl, fun i hi => ⟨g, 0, rfl, ?_⟩, rfl⟩
    have := h.cellAt i (by omega)
    rw [vals_get hi] at this
    rw [← this]; simp

/-- the row of bytes that came in -/
def IsRow (k : IntKind) (w : World) (a : Option Addr) (len cap : Nat) (zs : List Int) : Prop :=
  (a = none ∧ len = 0 ∧ cap = 0 ∧ zs = []) ∨
  ∃ x, a = some x ∧ len ≤ cap ∧ cap ≤ maxLen ∧ zs.length = cap ∧ (∀ i, i < zs.length → w.cell? (x.add i) = some (.int k (zs.getD i 0))) ∧ ∀ n ∈ zs, (Lit.int k n).wf = true

theorem isRow_len {k : IntKind} {w : World} {a : Option Addr} {len cap : Nat} {zs : List Int} (h : IsRow k w a len cap zs) : len ≤ maxLen := by
  rcases h with ⟨rfl, rfl, rfl, rfl⟩ | ⟨x, rfl, hl, hm, hz, hcell, hwz⟩
  · exact Nat.zero_le _
  · exact Nat.le_trans hl hm
theorem below_drewN (B : Nat) (w : World) (n : Nat) : Below B w (w.drewN n) := ⟨rfl, rfl, rfl, Nat.le_refl _, fun _ _ => rfl⟩

theorem rd_row {w : World} {a : Option Addr} {len cap : Nat} {zs : List Int} (h : IsRow .u8 w a len cap zs) :
    ∃ bs : List UInt8, bs.length = len ∧ Rd w a bs := by
  rcases h with ⟨rfl, rfl, rfl, rfl⟩ | ⟨x, rfl, hl, hm, hz, hcell, hwz⟩
  · exact ⟨[], rfl, fun i hi => by simp at hi⟩
  · refine ⟨(zs.take len).map (fun n => UInt8.ofNat n.toNat), by simp; omega, fun i hi => ?_⟩
    have hi2 : i < len := by simp at hi; omega
    obtain ⟨b, off, spot⟩ := x
    have hc := hcell i (by omega)
    have hs : spot = none := by
      have h0 := hcell 0 (by omega)
      simpa [Addr.add] using World.cell?_spot h0
    subst hs
    refine ⟨b, off, rfl, ?_⟩
    have e : (⟨b, off, none⟩ : Addr).add i = ⟨b, off + i, none⟩ := Addr.add_lit _ _ _
    rw [e] at hc
    rw [hc]
    have hiz : i < zs.length := by omega
    have hw := hwz zs[i] (List.getElem_mem hiz)
    have hb := bounds_u8 hw
    unfold byteAt
    simp [List.getD, hiz, hi2]
    omega

theorem rd_cells {w : World} {p : Addr} {bs : List UInt8} (hr : Rd w (some p) bs) : ∀ j u, (vals bs)[j]? = some u → w.cell? (p.add j) = some u := by
  intro j u hj
  have hl : j < bs.length := by have := (List.getElem?_eq_some_iff.1 hj).1; rw [vals_length] at this; exact this
  rw [vals_get hl] at hj
  obtain ⟨b, off, e, hc⟩ := hr j hl
  simp only [Option.some.injEq] at e
  subst e
  rw [Addr.add_lit, hc]; exact hj

/-- a row of the call's own, at hand for the readers -/
theorem rd_owns_cap {w : World} {base n : Nat} {v : Value} {bs : List UInt8} (h : w.ownsRow base 5 1 v n (vals bs)) :
    ∃ a cap, v = .slice a bs.length cap ∧ Rd w a bs ∧ bs.length ≤ cap ∧ (a = none → bs.length = 0 ∧ cap = 0) := by
  have hn : n = bs.length := by have := h.1; rw [vals_length] at this; omega
  subst hn
  obtain ⟨a, cap, e, hr, -⟩ := rd_owns h
  rcases h.2 with ⟨h1, h0⟩ | ⟨g, cap', cur, h1, hb, hg, hnc, hcm, hsz, htake⟩
  · rw [e] at h1
    simp only [Value.slice.injEq] at h1
    exact ⟨a, cap, e, hr, by omega, fun _ => ⟨h0, h1.2.2⟩⟩
  · rw [e] at h1
    simp only [Value.slice.injEq] at h1
    exact ⟨a, cap, e, hr, by omega, fun hh => by rw [h1.1] at hh; cases hh⟩

end Go.Proofs.Ytfgigcdfmkfkjaa
/-
  Plain facts on bits of an int that is not below 0.
-/
namespace Go.Proofs.Ytfgigcdfmkfkjaa
open Go.RowKit
set_option linter.unusedVariables false

theorem i64_xor_nat (a b : Nat) (ha : a < 9223372036854775808) (hb : b < 9223372036854775808) : bits .xor .i64 (a : Int) (b : Int) = ((a ^^^ b : Nat) : Int) := by
  have hx : a ^^^ b < 2 ^ 63 := Nat.xor_lt_two_pow (by omega) (by omega)
  show IntKind.i64.wrap ((BitVec.ofInt 64 (a : Int) ^^^ BitVec.ofInt 64 (b : Int)).toNat : Int) = _
  rw [BitVec.toNat_xor, ofInt_u64 a (by omega), ofInt_u64 b (by omega)]
  exact IntWalk.i64_in _ (by omega)
theorem i64_and_nat (a b : Nat) (ha : a < 9223372036854775808) (hb : b < 9223372036854775808) : bits .and .i64 (a : Int) (b : Int) = ((a &&& b : Nat) : Int) := by
  have hx : a &&& b < 2 ^ 63 := Nat.and_lt_two_pow _ (by omega)
  show IntKind.i64.wrap ((BitVec.ofInt 64 (a : Int) &&& BitVec.ofInt 64 (b : Int)).toNat : Int) = _
  rw [BitVec.toNat_and, ofInt_u64 a (by omega), ofInt_u64 b (by omega)]
  exact IntWalk.i64_in _ (by omega)
theorem i64_or_nat (a b : Nat) (ha : a < 9223372036854775808) (hb : b < 9223372036854775808) : bits .or .i64 (a : Int) (b : Int) = ((a ||| b : Nat) : Int) := by
  have hx : a ||| b < 2 ^ 63 := Nat.or_lt_two_pow (by omega) (by omega)
  show IntKind.i64.wrap ((BitVec.ofInt 64 (a : Int) ||| BitVec.ofInt 64 (b : Int)).toNat : Int) = _
  rw [BitVec.toNat_or, ofInt_u64 a (by omega), ofInt_u64 b (by omega)]
  exact IntWalk.i64_in _ (by omega)

theorem u8_and127 (c : Int) (h0 : 0 ≤ c) (h1 : c ≤ 255) : bits .and .u8 c 127 = c % 128 := by
  have := u8_and c 127 h0 (by omega) (by omega) (by omega)
  rw [this, show (127 : Int).toNat = 127 from rfl, nat_mask7]
  omega

/-- the sum's step on one bit -/
def cstep (x : Nat) : Nat := if x % 2 = 1 then (x / 2) ^^^ 2197175160 else x / 2
def cstepN : Nat → Nat → Nat
  | 0, x => x
  | k + 1, x => cstep (cstepN k x)
def cbyte (x c : Nat) : Nat := cstepN 8 (x ^^^ c)
theorem cstep_lt {x : Nat} (h : x < 4294967296) : cstep x < 4294967296 := by
  unfold cstep
  split
  · exact Nat.xor_lt_two_pow (n := 32) (by omega) (by omega)
  · omega
theorem cstepN_lt {x : Nat} (h : x < 4294967296) : ∀ k, cstepN k x < 4294967296
  | 0 => h
  | k + 1 => cstep_lt (cstepN_lt h k)
theorem cxor_lt {x c : Nat} (h : x < 4294967296) (hc : c < 4294967296) : x ^^^ c < 4294967296 := Nat.xor_lt_two_pow (n := 32) (by omega) (by omega)
theorem cbyte_lt {x c : Nat} (h : x < 4294967296) (hc : c < 256) : cbyte x c < 4294967296 := cstepN_lt (cxor_lt h (by omega)) 8
end Go.Proofs.Ytfgigcdfmkfkjaa
/-
  The contracts of the draws' cursor: what stands in its block, and what each step answers (a number within its bounds); no step touches another block that was there.
-/
namespace Go.Proofs.Ytfgigcdfmkfkjaa
open Go.RowKit
set_option linter.unusedVariables false

theorem i64_and255 (n : Int) : bits .and .i64 n 255 = n % 256 := by
  have h255 : (BitVec.ofInt 64 255).toNat = 2 ^ 8 - 1 := by decide
  have key : (BitVec.ofInt 64 n &&& BitVec.ofInt 64 255).toNat = (n % ((2 ^ 64 : Nat) : Int)).toNat % 2 ^ 8 := by
    rw [BitVec.toNat_and, BitVec.toNat_ofInt, h255, Nat.and_two_pow_sub_one_eq_mod]
  show IntKind.i64.wrap ((BitVec.ofInt 64 n &&& BitVec.ofInt 64 255).toNat : Nat) = n % 256
  rw [key, IntKind.wrap_i64]
  omega

/-- the slice at 'a' reads as bs, below block B -/
def RdB (B : Nat) (w : World) (a : Option Addr) (bs : List UInt8) : Prop :=
  ∀ i, i < bs.length → ∃ b off, a = some ⟨b, off, none⟩ ∧ b < B ∧ w.cell? ⟨b, off + i, none⟩ = some (.int .u8 (byteAt bs i))
theorem RdB.below {B : Nat} {w w' : World} {a : Option Addr} {bs : List UInt8} (h : RdB B w a bs) (hb : Below B w w') : RdB B w' a bs := by
  intro i hi
  obtain ⟨b, off, e, hl, hc⟩ := h i hi
  exact ⟨b, off, e, hl, by rw [hb.cell (p := ⟨b, off + i, none⟩) hl]; exact hc⟩
theorem Rd.toB {w : World} {a : Option Addr} {bs : List UInt8} (h : Rd w a bs) : RdB w.heap.size w a bs := by
  intro i hi
  obtain ⟨b, off, e, hc⟩ := h i hi
  exact ⟨b, off, e, World.block_lt_of_cell? w _ hc, hc⟩
theorem RdB.toRd {B : Nat} {w : World} {a : Option Addr} {bs : List UInt8} (h : RdB B w a bs) : Rd w a bs := by
  intro i hi
  obtain ⟨b, off, e, hl, hc⟩ := h i hi
  exact ⟨b, off, e, hc⟩

/-- block q holds a cursor over bytes below B -/
def Cur (B : Nat) (w : World) (q : Nat) : Prop := B ≤ q ∧ ∃ (a : Option Addr) (cap : Nat) (code : List UInt8) (i : Nat) (h : Int),
  code.length ≤ 1048576 ∧ i ≤ code.length ∧ RdB B w a code ∧ w.heap[q]? = some (.cells #[.slice a code.length cap, .int .i64 (i : Int), .int .i64 h] 187 (0, 0))

theorem Cur.lt {B q : Nat} {w : World} (h : Cur B w q) : q < w.heap.size := by
  obtain ⟨_, a, cap, code, i, hh, _, _, _, hg⟩ := h
  exact (Array.getElem?_eq_some_iff.1 hg).1
theorem Cur.keep {B q : Nat} {w w' : World} {row : Option Nat} (h : Cur B w q) (hg : w.grownBy w' row) (hr : row ≠ some q) (hB : ∀ k, row = some k → B ≤ k) : Cur B w' q := by
  have hlt := h.lt
  obtain ⟨hb, a, cap, code, i, hh, h1, h2, h3, h4⟩ := h
  refine ⟨hb, a, cap, code, i, hh, h1, h2, h3.below ((Below.refl _ _).grown hg (by omega) hB), ?_⟩
  rw [hg.block q hlt (fun e => hr e.symm)]; exact h4

theorem struct_cell {w : World} {q : Nat} {c0 c1 c2 : Value} {T : TypeId} (h : w.heap[q]? = some (.cells #[c0, c1, c2] T (0, 0))) :
    w.cell? ⟨q, 0, none⟩ = some c0 ∧ w.cell? ⟨q, 1, none⟩ = some c1 ∧ w.cell? ⟨q, 2, none⟩ = some c2 ∧ (∀ j, w.frozen? ⟨q, j, none⟩ = false) := by
  refine ⟨?_, ?_, ?_, ?_⟩
  · rw [cell_of_row w q 0 _ T (0, 0) h]; rfl
  · rw [cell_of_row w q 1 _ T (0, 0) h]; rfl
  · rw [cell_of_row w q 2 _ T (0, 0) h]; rfl
  · intro j; exact frozen_of_row w q j _ T h

theorem struct_set2 {w : World} {q : Nat} {c0 c1 c2 : Value} {T : TypeId} (h : w.heap[q]? = some (.cells #[c0, c1, c2] T (0, 0))) (u : Value) :
    (w.setCell ⟨q, 2, none⟩ u).heap[q]? = some (.cells #[c0, c1, u] T (0, 0)) ∧ w.grownBy (w.setCell ⟨q, 2, none⟩ u) (some q) := by
  refine ⟨?_, ⟨rfl, rfl, rfl, by simp [World.setCell], fun k _ hk => heap_setCell_other w ⟨q, 2, none⟩ k u (fun e => hk (by simp [e]))⟩⟩
  rw [heap_setCell_same w q 2 _ T u h]; rfl
theorem struct_set1 {w : World} {q : Nat} {c0 c1 c2 : Value} {T : TypeId} (h : w.heap[q]? = some (.cells #[c0, c1, c2] T (0, 0))) (u : Value) :
    (w.setCell ⟨q, 1, none⟩ u).heap[q]? = some (.cells #[c0, u, c2] T (0, 0)) ∧ w.grownBy (w.setCell ⟨q, 1, none⟩ u) (some q) := by
  refine ⟨?_, ⟨rfl, rfl, rfl, by simp [World.setCell], fun k _ hk => heap_setCell_other w ⟨q, 1, none⟩ k u (fun e => hk (by simp [e]))⟩⟩
  rw [heap_setCell_same w q 1 _ T u h]; rfl
theorem grown_trans {a b c : World} {row : Option Nat} (h : a.grownBy b row) (k : b.grownBy c row) : a.grownBy c row :=
  ⟨k.os.trans h.os, k.tape.trans h.tape, k.output.trans h.output, Nat.le_trans h.size k.size, fun i hi hne => (k.block i (Nat.lt_of_lt_of_le hi h.size) hne).trans (h.block i hi hne)⟩
theorem grown_drewN {w w' : World} {row : Option Nat} (h : w.grownBy w' row) (n : Nat) : w.grownBy (w'.drewN n) row := ⟨h.os, h.tape, h.output, h.size, h.block⟩

theorem cur_step {B q cap i : Nat} {w1 : World} {a : Option Addr} {code : List UInt8} {H : Int} (hb : B ≤ q) (hl : code.length ≤ 1048576) (hi : i < code.length) (hr : RdB B w1 a code)
    (hg : w1.heap[q]? = some (.cells #[.slice a code.length cap, .int .i64 (i : Int), .int .i64 H] 187 (0, 0))) (n : Nat) :
    Cur B ((w1.drewN n).setCell ⟨q, 1, none⟩ (.int .i64 ((i : Int) + 1))) q ∧ w1.grownBy ((w1.drewN n).setCell ⟨q, 1, none⟩ (.int .i64 ((i : Int) + 1))) (some q) := by
  obtain ⟨hg2, gr2⟩ := struct_set1 (w := w1.drewN n) hg (.int .i64 ((i : Int) + 1))
  have gr3 : w1.grownBy ((w1.drewN n).setCell ⟨q, 1, none⟩ (.int .i64 ((i : Int) + 1))) (some q) := ⟨gr2.os, gr2.tape, gr2.output, gr2.size, gr2.block⟩
  have hq := (Array.getElem?_eq_some_iff.1 hg).1
  refine ⟨⟨hb, a, cap, code, i + 1, H, hl, hi, hr.below ((Below.refl B w1).grown gr3 (by omega) (fun k hk => by cases hk; exact hb)), ?_⟩, gr3⟩
  rw [hg2]; rfl
theorem cur_stay {B q cap i : Nat} {w1 : World} {a : Option Addr} {code : List UInt8} {H : Int} (hb : B ≤ q) (hl : code.length ≤ 1048576) (hi : i ≤ code.length) (hr : RdB B w1 a code)
    (hg : w1.heap[q]? = some (.cells #[.slice a code.length cap, .int .i64 (i : Int), .int .i64 H] 187 (0, 0))) (n m : Nat) :
    Cur B ((w1.drewN n).drewN m) q ∧ w1.grownBy ((w1.drewN n).drewN m) (some q) :=
  ⟨⟨hb, a, cap, code, i, H, hl, hi, hr.below ⟨rfl, rfl, rfl, Nat.le_refl _, fun _ _ => rfl⟩, hg⟩, ⟨rfl, rfl, rfl, Nat.le_refl _, fun _ _ _ => rfl⟩⟩

set_option maxHeartbeats 1600000 in
theorem l1Byte_any (B q : Nat) (w : World) (hc : Cur B w q) :
    Calls Try.prog 157 #[.pointer (some ⟨q, 0, none⟩)] w fun e w' => ∃ x : Int, e = .returned (.int .i64 x) ∧ 0 ≤ x ∧ x ≤ 255 ∧ Cur B w' q ∧ w.grownBy w' (some q) := by
  obtain ⟨hb, a, cap, code, i, h, hl, hi, hr, hg⟩ := hc
  have HG := hide hg
  obtain ⟨c0, c1, c2, cf⟩ := struct_cell hg
  have f2 := cf 2
  clear cf hg
  have h255 := i64_and255
  go_enter Try.func157, Try.ntmps157
  go_wp2
  generalize wrap64 (h * 6364136223846793005) = H1
  generalize wrap64 (H1 + 1442695040888963407) = H
  obtain ⟨hg1, gr1⟩ := struct_set2 HG.out (.int .i64 H)
  have HR := hide (hr.below ((Below.refl B w).grown gr1 (by have := (Array.getElem?_eq_some_iff.1 HG.out).1; omega) (fun k hk => by cases hk; exact hb)))
  have HG1 := hide hg1
  have HR1 := hide gr1
  clear c0 c1 c2 f2 hr gr1 HG
  generalize w.setCell ⟨q, 2, none⟩ (.int .i64 H) = w1 at hg1 HR HG1 HR1 ⊢
  obtain ⟨c0, c1, c2, cf⟩ := struct_cell hg1
  have f1 := cf 1
  clear cf hg1
  go_quiet (fail)
  go_wp2
  have hx0 := Int.emod_nonneg (bits BinOp.xor IntKind.i64 (H / 8589934592) (H / 140737488355328)) (show (256 : Int) ≠ 0 by omega)
  have hx1 := Int.emod_lt_of_pos (bits BinOp.xor IntKind.i64 (H / 8589934592) (H / 140737488355328)) (show (0 : Int) < 256 by omega)
  generalize bits BinOp.xor IntKind.i64 (H / 8589934592) (H / 140737488355328) % 256 = x at hx0 hx1 ⊢
  by_cases hlt : i < code.length
  · obtain ⟨b, off, hab, hbB, hcell⟩ := HR.out i hlt
    have hi2 : (i : Int) < (code.length : Int) := by omega
    have y1 := byteAt_lo code i
    have y2 := byteAt_hi code i
    generalize byteAt code i = y at hcell y1 y2
    subst hab
    go_quiet (fail)
    go_wp2
    go_quiet (fail)
    go_wp2
    go_ret
    have CS := cur_step hb hl hlt HR.out HG1.out
    exact ⟨_, rfl, by omega, by omega, (CS _).1, grown_trans HR1.out (CS _).2⟩
  · go_quiet (fail)
    go_wp2
    go_ret
    have CS := cur_stay hb hl hi HR.out HG1.out
    exact ⟨_, rfl, by omega, by omega, (CS _ _).1, grown_trans HR1.out (CS _ _).2⟩

set_option maxHeartbeats 1600000 in
theorem l1Below_any (B q : Nat) (n : Int) (w : World) (hc : Cur B w q) (hn : 0 < n) (hn2 : n ≤ 1000000) :
    Calls Try.prog 139 #[.pointer (some ⟨q, 0, none⟩), .int .i64 n] w fun e w' => ∃ x : Int, e = .returned (.int .i64 x) ∧ 0 ≤ x ∧ x < n ∧ Cur B w' q ∧ w.grownBy w' (some q) := by
  by_cases hs : n ≤ 256
  · go_enter Try.func139, Try.ntmps139
    go_wp2_with fail
    refine (l1Byte_any B q w hc).mono ?_
    rintro e w1 ⟨x, rfl, x0, x1, c1, g1⟩
    go_wp2
    go_ret
    exact ⟨_, rfl, Int.emod_nonneg _ (by omega), Int.emod_lt_of_pos _ hn, c1, g1⟩
  · go_enter Try.func139, Try.ntmps139
    go_wp2_with fail
    refine (l1Byte_any B q w hc).mono ?_
    rintro e w1 ⟨x, rfl, x0, x1, c1, g1⟩
    go_wp2_with fail
    refine (l1Byte_any B q w1 c1).mono ?_
    rintro e w2 ⟨y, rfl, y0, y1, c2, g2⟩
    go_wp2_with fail
    refine (l1Byte_any B q w2 c2).mono ?_
    rintro e w3 ⟨z, rfl, z0, z1, c3, g3⟩
    go_wp2
    go_ret
    exact ⟨_, rfl, Int.emod_nonneg _ (by omega), Int.emod_lt_of_pos _ hn, c3, grown_trans (grown_trans g1 g2) g3⟩

set_option maxHeartbeats 1600000 in
theorem l1Int_any (B q l : Nat) (zs : List Int) (cap : Nat) (w : World) (hc : Cur B w q) (hn : 0 < zs.length) (hn2 : zs.length ≤ 1000) (hq : l ≠ q)
    (hz : ∀ k, k < zs.length → w.cell? ⟨l, k, none⟩ = some (.int .i64 (zs.getD k 0))) :
    Calls Try.prog 140 #[.pointer (some ⟨q, 0, none⟩), .slice (some ⟨l, 0, none⟩) zs.length cap] w fun e w' => ∃ x : Int, e = .returned (.int .i64 x) ∧ x ∈ zs ∧ Cur B w' q ∧ w.grownBy w' (some q) := by
  obtain ⟨n, hN⟩ : ∃ n, n = zs.length := ⟨_, rfl⟩
  rw [← hN] at hn hn2 hz ⊢
  have HZ := hide hz
  have HN := hide hN
  clear hz hN
  go_enter Try.func140, Try.ntmps140
  go_wp2_with fail
  refine (l1Below_any B q n w hc (by omega) (by omega)).mono ?_
  rintro e w1 ⟨x, rfl, x0, x1, c1, g1⟩
  obtain ⟨k, rfl⟩ := Int.eq_ofNat_of_zero_le x0
  have hk : k < n := by omega
  have h1 : w1.cell? ⟨l, k, none⟩ = some (.int .i64 (zs.getD k 0)) := g1.cell (HZ.out k hk) (by simp; exact hq)
  have HM : Hid (zs.getD k 0 ∈ zs) := by
    have hk2 : k < zs.length := by rw [← HN.out]; exact hk
    unfold Hid
    simp [List.getD, hk2]
  generalize zs.getD k 0 = z at h1 HM
  go_wp2
  go_ret
  exact ⟨_, rfl, HM.out, c1, g1⟩
end Go.Proofs.Ytfgigcdfmkfkjaa
/-
  Numbers in bytes, plainly: what GetNum reads (numR) and what PutNum writes (encN), and that they are inverse. No program is spoken of here.
-/
namespace Go.Proofs.Ytfgigcdfmkfkjaa
open Go.RowKit
set_option linter.unusedVariables false

def accN (bs : List UInt8) (A : Nat) : Nat → Nat
  | 0 => 0
  | k + 1 => accN bs A k + (byteAt bs (A + k)).toNat % 128 * 128 ^ k
theorem accN_lt (bs : List UInt8) (A : Nat) : ∀ k, accN bs A k < 128 ^ k
  | 0 => by show 0 < 1; omega
  | k + 1 => by
    have h := accN_lt bs A k
    show accN bs A k + (byteAt bs (A + k)).toNat % 128 * 128 ^ k < 128 ^ (k + 1)
    have h2 : (byteAt bs (A + k)).toNat % 128 ≤ 127 := by omega
    have h3 := Nat.mul_le_mul_right (128 ^ k) h2
    rw [Nat.pow_succ]
    omega
/-- where the last group of a number stands: the first byte below 128, at most five bytes on -/
def scanN (bs : List UInt8) (A : Nat) : Nat → Nat → Option Nat
  | 0, _ => none
  | f + 1, k => if A + k < bs.length then (if byteAt bs (A + k) < 128 then some k else scanN bs A f (k + 1)) else none
def unfN (m : Nat) : Int := if m % 2 = 1 then -((m / 2 : Nat) : Int) - 1 else ((m / 2 : Nat) : Int)
/-- what GetNum answers -/
def numR (bs : List UInt8) (at' : Int) : Int × Int × Bool :=
  if at' < 0 then (0, 0, false)
  else match scanN bs at'.toNat 5 0 with
    | none => (0, 0, false)
    | some k => if (k ≠ 0 ∧ byteAt bs (at'.toNat + k) = 0) ∨ 2000000000 < accN bs at'.toNat (k + 1) then (0, 0, false)
      else (unfN (accN bs at'.toNat (k + 1)), at' + k + 1, true)

theorem scanN_out {bs : List UInt8} {A : Nat} (h : bs.length ≤ A) (f k : Nat) : scanN bs A f k = none := by
  cases f with
  | zero => rfl
  | succ f => unfold scanN; rw [if_neg (by omega)]
theorem or_acc {a x k : Nat} (ha : a < 128 ^ k) : a ||| (x * 128 ^ k) = a + x * 128 ^ k := by
  have e : (128 : Nat) ^ k = 2 ^ (7 * k) := by rw [Nat.pow_mul]
  rw [e] at ha ⊢
  rw [Nat.or_comm, Nat.add_comm]
  exact nat_join (7 * k) (x * 2 ^ (7 * k)) a (Nat.mul_mod_left _ _) ha
theorem pow128_le {k : Nat} (h : k ≤ 5) : 128 ^ k ≤ 34359738368 := by
  have : (128 : Nat) ^ k ≤ 128 ^ 5 := Nat.pow_le_pow_right (by omega) h
  exact this
theorem or_step {m k : Nat} {c : Int} (hm : m < 128 ^ k) (hk : k < 5) (h0 : 0 ≤ c) (h1 : c ≤ 255) :
    bits .or .i64 (m : Int) (wrap64 (c % 128 * 2 ^ (7 * k))) = ((m + c.toNat % 128 * 128 ^ k : Nat) : Int) := by
  obtain ⟨d, rfl⟩ := Int.eq_ofNat_of_zero_le h0
  have hp := pow128_le (k := k) (by omega)
  have e : ((d : Int) % 128 * 2 ^ (7 * k)) = ((d % 128 * 128 ^ k : Nat) : Int) := by
    have e2 : ((2 : Int) ^ (7 * k)) = ((128 ^ k : Nat) : Int) := by
      rw [show (128 : Nat) ^ k = 2 ^ (7 * k) by rw [Nat.pow_mul]]
      exact (Int.natCast_pow 2 (7 * k)).symm
    rw [e2, Int.natCast_mul]
    rfl
  have hb : d % 128 * 128 ^ k ≤ 127 * 34359738368 := Nat.mul_le_mul (by omega) hp
  rw [e, IntWalk.wrap64_in _ (by omega), i64_or_nat _ _ (by omega) (by omega), or_acc hm]
  simp
theorem scanN_end {bs : List UInt8} {A k : Nat} (h5 : k < 5) (h : ¬ A + k < bs.length) : scanN bs A (5 - k) k = none := by
  rw [show 5 - k = (4 - k) + 1 by omega]
  unfold scanN
  rw [if_neg h]
theorem scanN_last {bs : List UInt8} {A k : Nat} (h5 : k < 5) (h : A + k < bs.length) (hc : byteAt bs (A + k) < 128) : scanN bs A (5 - k) k = some k := by
  rw [show 5 - k = (4 - k) + 1 by omega]
  unfold scanN
  rw [if_pos h, if_pos hc]
theorem scanN_more {bs : List UInt8} {A k : Nat} (h5 : k < 5) (h : A + k < bs.length) (hc : ¬ byteAt bs (A + k) < 128) : scanN bs A (5 - k) k = scanN bs A (5 - (k + 1)) (k + 1) := by
  rw [show 5 - k = (5 - (k + 1)) + 1 by omega]
  rw [scanN, if_pos h, if_neg hc]
theorem scanN_ge {bs : List UInt8} {A : Nat} : ∀ f k r, scanN bs A f k = some r → k ≤ r ∧ r < k + f
  | 0, k, r, h => by simp [scanN] at h
  | f + 1, k, r, h => by
    unfold scanN at h
    split at h
    · split at h
      · simp at h; omega
      · have := scanN_ge f (k + 1) r h; omega
    · simp at h
theorem scanN_lt {bs : List UInt8} {A r : Nat} (h : scanN bs A 5 0 = some r) : r < 5 := by have := scanN_ge 5 0 r h; omega
theorem numR_none {bs : List UInt8} {A : Nat} (h : scanN bs A 5 0 = none) : numR bs (A : Int) = (0, 0, false) := by
  unfold numR
  rw [if_neg (by omega), Int.toNat_natCast, h]
theorem numR_some {bs : List UInt8} {A k : Nat} (h : scanN bs A 5 0 = some k) : numR bs (A : Int) = if (k ≠ 0 ∧ byteAt bs (A + k) = 0) ∨ 2000000000 < accN bs A (k + 1) then (0, 0, false) else (unfN (accN bs A (k + 1)), (A : Int) + k + 1, true) := by
  unfold numR
  rw [if_neg (by omega), Int.toNat_natCast, h]
theorem numR_neg {bs : List UInt8} {a : Int} (h : a < 0) : numR bs a = (0, 0, false) := by
  unfold numR
  rw [if_pos h]
theorem numR_past {bs : List UInt8} {a : Int} (h : (bs.length : Int) ≤ a) : numR bs a = (0, 0, false) := by
  obtain ⟨A, rfl⟩ := Int.eq_ofNat_of_zero_le (show 0 ≤ a by omega)
  exact numR_none (scanN_out (by omega) _ _)
theorem unfN_odd {m : Nat} (h : m % 2 = 1) : unfN m = -((m : Int) / 2) - 1 := by unfold unfN; rw [if_pos h]; omega
theorem unfN_even {m : Nat} (h : ¬ m % 2 = 1) : unfN m = (m : Int) / 2 := by unfold unfN; rw [if_neg h]; omega
theorem unfN_in (m : Nat) : inB (unfN m) (-1000000000) 1000000000 = !decide (2000000000 < m) := by
  by_cases h : m % 2 = 1
  · rw [unfN_odd h]
    by_cases h2 : 2000000000 < m
    · rw [inB_f (by omega)]; simp [h2]
    · rw [inB_t (by omega)]; simp [h2]
  · rw [unfN_even h]
    by_cases h2 : 2000000000 < m
    · rw [inB_f (by omega)]; simp [h2]
    · rw [inB_t (by omega)]; simp [h2]
theorem ret_num {bs : List UInt8} {A : Nat} {x y : Int} {z : Bool} (h : numR bs (A : Int) = (x, y, z)) :
    Ending.returned (.tuple #[.int .i64 x, .int .i64 y, .bool z]) = .returned (.tuple #[.int .i64 (numR bs (A : Int)).1, .int .i64 (numR bs (A : Int)).2.1, .bool (numR bs (A : Int)).2.2]) := by rw [h]

/-- what the groups at a place hold: the number as it was folded, the place behind, whether the form is the shortest -/
def grpR (bs : List UInt8) (A : Nat) : Int × Int × Bool :=
  match scanN bs A 5 0 with
  | none => (0, 0, false)
  | some k => (((accN bs A (k + 1) : Nat) : Int), (A : Int) + k + 1, k == 0 || byteAt bs (A + k) != 0)
theorem grpR_none {bs : List UInt8} {A : Nat} (h : scanN bs A 5 0 = none) : grpR bs A = (0, 0, false) := by unfold grpR; rw [h]
theorem grpR_some {bs : List UInt8} {A k : Nat} (h : scanN bs A 5 0 = some k) : grpR bs A = (((accN bs A (k + 1) : Nat) : Int), (A : Int) + k + 1, k == 0 || byteAt bs (A + k) != 0) := by unfold grpR; rw [h]
theorem ret_grp {bs : List UInt8} {A : Nat} {x y : Int} {z : Bool} (h : grpR bs A = (x, y, z)) :
    Ending.returned (.tuple #[.int .i64 x, .int .i64 y, .bool z]) = .returned (.tuple #[.int .i64 (grpR bs A).1, .int .i64 (grpR bs A).2.1, .bool (grpR bs A).2.2]) := by rw [h]
/-- the number out of its groups -/
theorem numR_grp (bs : List UInt8) (A : Nat) : ∃ M : Nat, M < 34359738368 ∧ (grpR bs A).1 = (M : Int) ∧
    numR bs (A : Int) = if (grpR bs A).2.2 = false ∨ 2000000000 < M then (0, 0, false) else (unfN M, (grpR bs A).2.1, true) := by
  cases h : scanN bs A 5 0 with
  | none => exact ⟨0, by omega, by rw [grpR_none h]; rfl, by rw [numR_none h, grpR_none h]; simp⟩
  | some k =>
    have hk : k < 5 := scanN_lt h
    have hlt := accN_lt bs A (k + 1)
    have hp := pow128_le (k := k + 1) (by omega)
    refine ⟨accN bs A (k + 1), by omega, by rw [grpR_some h], ?_⟩
    rw [numR_some h, grpR_some h]
    by_cases h1 : k = 0 <;> by_cases h2 : byteAt bs (A + k) = 0 <;> by_cases h3 : 2000000000 < accN bs A (k + 1) <;> simp [h1, h2, h3]

theorem scanN_some {bs : List UInt8} {A : Nat} : ∀ f k r, scanN bs A f k = some r → A + r < bs.length
  | 0, k, r, h => by simp [scanN] at h
  | f + 1, k, r, h => by
    unfold scanN at h
    split at h
    · split at h
      · simp at h; omega
      · exact scanN_some f (k + 1) r h
    · simp at h
/-- a number that was read lies within the bytes -/
theorem numR_true {bs : List UInt8} {x : Int} (h : (numR bs x).2.2 = true) : 0 ≤ x ∧ x < (numR bs x).2.1 ∧ (numR bs x).2.1 ≤ bs.length := by
  by_cases h0 : x < 0
  · rw [numR_neg h0] at h; cases h
  · obtain ⟨A, rfl⟩ := Int.eq_ofNat_of_zero_le (show 0 ≤ x by omega)
    cases hs : scanN bs A 5 0 with
    | none => rw [numR_none hs] at h; cases h
    | some k =>
      rw [numR_some hs] at h ⊢
      split at h
      · cases h
      · rename_i hc
        rw [if_neg hc]
        have := scanN_some 5 0 k hs
        simp only
        omega
end Go.Proofs.Ytfgigcdfmkfkjaa
/-
  Numbers as bytes, plainly: what PutNum writes behind. No program is spoken of here.
-/
namespace Go.Proofs.Ytfgigcdfmkfkjaa
open Go.RowKit
set_option linter.unusedVariables false

/-- the number as it is kept: no further out than the most either way -/
def clampN (n : Int) : Int := if n < -1000000000 then -1000000000 else if 1000000000 < n then 1000000000 else n
def foldN (n : Int) : Nat := if n < 0 then (-2 * n - 1).toNat else (2 * n).toNat
/-- its groups of seven bits, the lowest first -/
def encG : Nat → Nat → List UInt8
  | 0, m => [UInt8.ofNat m]
  | f + 1, m => if m < 128 then [UInt8.ofNat m] else UInt8.ofNat (m % 128 + 128) :: encG f (m / 128)
def encN (n : Int) : List UInt8 := encG 5 (foldN (clampN n))

theorem clampN_in (n : Int) : -1000000000 ≤ clampN n ∧ clampN n ≤ 1000000000 := by unfold clampN; split; omega; split <;> omega
theorem foldN_le {n : Int} (h : -1000000000 ≤ n ∧ n ≤ 1000000000) : foldN n ≤ 2000000000 := by unfold foldN; split <;> omega
theorem foldN_neg {n : Int} (h : n < 0) : ((foldN n : Nat) : Int) = -2 * n - 1 := by unfold foldN; rw [if_pos h]; omega
theorem foldN_pos {n : Int} (h : ¬ n < 0) : ((foldN n : Nat) : Int) = 2 * n := by unfold foldN; rw [if_neg h]; omega
theorem fold_cases (n : Int) : (1000000000 < n ∧ ((foldN (clampN n) : Nat) : Int) = 2000000000) ∨ (n < -1000000000 ∧ ((foldN (clampN n) : Nat) : Int) = 1999999999) ∨
    ((-1000000000 ≤ n ∧ n < 0) ∧ ((foldN (clampN n) : Nat) : Int) = -2 * n - 1) ∨ ((0 ≤ n ∧ n ≤ 1000000000) ∧ ((foldN (clampN n) : Nat) : Int) = 2 * n) := by
  unfold clampN
  split
  · rw [foldN_neg (by omega)]; omega
  · split
    · rw [foldN_pos (by omega)]; omega
    · by_cases h : n < 0
      · rw [foldN_neg h]; omega
      · rw [foldN_pos h]; omega
theorem encG_length : ∀ f m, (encG f m).length ≤ f + 1
  | 0, m => by simp [encG]
  | f + 1, m => by
    unfold encG
    split
    · simp
    · have := encG_length f (m / 128); simp; omega
theorem encN_length (n : Int) : (encN n).length ≤ 6 := encG_length 5 _
theorem encG_small {f m : Nat} (h : m < 128) : encG f m = [UInt8.ofNat m] := by
  cases f with
  | zero => rfl
  | succ f => unfold encG; rw [if_pos h]
theorem encG_big {f m : Nat} (h : ¬ m < 128) : encG (f + 1) m = UInt8.ofNat (m % 128 + 128) :: encG f (m / 128) := by
  rw [encG, if_neg h]
theorem enc_step {f m : Nat} (hb : ¬ m < 128) (hm : m < 128 ^ f) : ∃ g, f = g + 1 ∧ m / 128 < 128 ^ g ∧ encG f m = UInt8.ofNat (m % 128 + 128) :: encG g (m / 128) := by
  cases f with
  | zero => simp at hm; omega
  | succ g =>
    refine ⟨g, rfl, ?_, encG_big hb⟩
    rw [Nat.pow_succ] at hm
    exact Nat.div_lt_of_lt_mul (by omega)
theorem or128 (m : Nat) : bits .or .i64 ((m : Int) % 128) 128 = (m : Int) % 128 + 128 := by
  have h := i64_or_nat (m % 128) 128 (by omega) (by omega)
  have h2 : m % 128 ||| 128 = m % 128 + 128 := by
    rw [Nat.or_comm, Nat.add_comm]
    exact nat_join 7 128 (m % 128) (by decide) (by omega)
  rw [h2] at h
  have e : (((m % 128 : Nat) : Int)) = (m : Int) % 128 := by omega
  rw [e] at h
  rw [show ((m % 128 + 128 : Nat) : Int) = (m : Int) % 128 + 128 by omega] at h
  exact h
theorem vals_cont (m : Nat) : [Value.int .u8 ((m : Int) % 128 + 128)] = vals [UInt8.ofNat (m % 128 + 128)] := by
  simp [vals]; omega
theorem vals_last {m : Nat} (h : m < 128) : [Value.int .u8 (m : Int)] = vals [UInt8.ofNat m] := by
  simp [vals]; omega
theorem one_cell (v : Value) (w : World) (e : TypeId) : ∀ j u, [v][j]? = some u → (w.alloc (.cells #[v] e)).cell? ((⟨w.heap.size, 0, none⟩ : Addr).add j) = some u := by
  intro j u hj
  match j, hj with
  | 0, hj => simp at hj; subst hj; simp [Addr.add]
theorem vals_one (bs : List UInt8) : ∀ u ∈ vals bs, u.oneCell' = true := by
  intro u hu
  obtain ⟨_, _, rfl⟩ := List.mem_map.1 hu
  rfl
theorem pre_length {pre r : List UInt8} {n : Int} (h : pre ++ r = encN n) : pre.length ≤ 6 := by
  have := encN_length n; rw [← h] at this; simp at this; omega
theorem encG_pos : ∀ f m, 0 < (encG f m).length
  | 0, m => by simp [encG]
  | f + 1, m => by unfold encG; split <;> simp
theorem encN_pos (n : Int) : 0 < (encN n).length := encG_pos _ _
end Go.Proofs.Ytfgigcdfmkfkjaa
/-
  The contracts of the draws of bytes: a new cursor; some bytes drawn into a row of the call's own.
-/
namespace Go.Proofs.Ytfgigcdfmkfkjaa
open Go.RowKit
set_option linter.unusedVariables false

theorem grown_more {a b c : World} {q : Option Nat} {row : Option Nat} (h : a.grownBy b q) (k : b.grownBy c row) (hr : ∀ j, row = some j → a.heap.size ≤ j) : a.grownBy c q :=
  ⟨k.os.trans h.os, k.tape.trans h.tape, k.output.trans h.output, Nat.le_trans h.size k.size,
    fun i hi hne => (k.block i (Nat.lt_of_lt_of_le hi h.size) (fun e => by have := hr i e.symm; omega)).trans (h.block i hi hne)⟩

theorem owns_base {w : World} {base base' n size : Nat} {e : TypeId} {v : Value} {xs : List Value} (h : w.ownsRow base e size v n xs) (hb : base' ≤ base) : w.ownsRow base' e size v n xs := by
  refine ⟨h.1, ?_⟩
  rcases h.2 with h2 | ⟨g, cap, cur, h1, hb', rest⟩
  · exact .inl h2
  · exact .inr ⟨g, cap, cur, h1, by omega, rest⟩

set_option maxRecDepth 100000 in
set_option maxHeartbeats 1600000 in
theorem l1New_any (B : Nat) (a : Option Addr) (cap : Nat) (code : List UInt8) (w : World) (hr : RdB B w a code) (hn : code.length ≤ 1048576) (hB : B ≤ w.heap.size) :
    Calls Try.prog 78 #[.slice a code.length cap] w fun e w' => e = .returned (.pointer (some ⟨w.heap.size, 0, none⟩)) ∧ Cur B w' w.heap.size ∧ w.grownBy w' none := by
  obtain ⟨n, hN⟩ : ∃ n, n = code.length := ⟨_, rfl⟩
  rw [← hN] at hn ⊢
  have HN := hide hN
  clear hN
  go_enter Try.func78, Try.ntmps78
  go_wp2
  go_loop [3, 4] (fun h i => ∃ (k : Nat) (x : Int), k ≤ n ∧ i = .int .i64 k ∧ h = .int .i64 x) (fun _ i => n - (intOf i).toNat)
  case atStart => exact ⟨0, _, Nat.zero_le _, rfl, rfl⟩
  case round =>
    obtain ⟨k, x, hk, rfl, rfl⟩ := hrel
    by_cases hlt : k < n ∧ k < 4000
    · obtain ⟨h1, h2⟩ := hlt
      obtain ⟨b, off, hab, hbB, hcell⟩ := hr k (by rw [← HN.out]; exact h1)
      have y1 := byteAt_lo code k
      have y2 := byteAt_hi code k
      generalize byteAt code k = y at hcell y1 y2
      subst hab
      go_wp2
      go_round
      case rel => exact ⟨k + 1, _, by omega, by go_num, rfl⟩
      case measure => simp [intOf]; omega
    · by_cases h1 : k < n
      all_goals
        go_wp2
        go_ret
        refine ⟨rfl, ⟨hB, a, cap, code, 0, x, by rw [← HN.out]; exact hn, Nat.zero_le _, hr.below ((Below.refl _ _).alloc hB _), ?_⟩, World.grownBy_alloc _ _ _⟩
        rw [heap_alloc_new, ← HN.out]; rfl

theorem cells_lit (w : World) (T : TypeId) (zs : List Int) : ∀ k, k < zs.length → (w.alloc (.cells (zs.map (Value.int .i64)).toArray T)).cell? ⟨w.heap.size, k, none⟩ = some (.int .i64 (zs.getD k 0)) := by
  intro k hk
  rw [cell_of_row _ w.heap.size k _ T (0, 0) (heap_alloc_new w _)]
  simp [List.getD, hk]

end Go.Proofs.Ytfgigcdfmkfkjaa
/-
  The contracts of the draws of values: some value, whatever it is, with a text of at most 21 bytes.
-/
namespace Go.Proofs.Ytfgigcdfmkfkjaa
open Go.RowKit
set_option linter.unusedVariables false

theorem box_grown {w w' : World} {R q : Nat} {o : Obj} (h : w.heap[R]? = some o) (hg : w.grownBy w' (some q)) (hne : R ≠ q) : w'.heap[R]? = some o := by
  rw [hg.block R (Array.getElem?_eq_some_iff.1 h).1 (by simp; omega)]; exact h
theorem box_alloc {w : World} {R : Nat} {o : Obj} (h : w.heap[R]? = some o) (x : Obj) : (w.alloc x).heap[R]? = some o := box_old h (Array.getElem?_eq_some_iff.1 h).1 x
theorem grown_alloc (w : World) (o : Obj) (q : Nat) : w.grownBy (w.alloc o) (some q) := World.grownBy_alloc w o _

set_option maxHeartbeats 400000 in
theorem l1Once_any (B q : Nat) (n : Int) (w : World) (hc : Cur B w q) (hn : 0 < n) (hn2 : n ≤ 1000000) :
    Calls Try.prog 116 #[.pointer (some ⟨q, 0, none⟩), .int .i64 n] w fun e w' => ∃ b : Bool, e = .returned (.bool b) ∧ Cur B w' q ∧ w.grownBy w' (some q) := by
  go_enter Try.func116, Try.ntmps116
  go_wp2_with fail
  refine (l1Below_any B q n w hc hn hn2).mono ?_
  rintro e w1 ⟨x, rfl, x0, x1, c1, g1⟩
  go_wp2
  go_ret
  exact ⟨_, rfl, c1, g1⟩

set_option maxHeartbeats 1600000 in
theorem l1Str_any (B q l : Nat) (zs : List ByteArray) (cap : Nat) (w : World) (hc : Cur B w q) (hn : 0 < zs.length) (hn2 : zs.length ≤ 1000) (hq : l ≠ q)
    (hz : ∀ k, k < zs.length → w.cell? ⟨l, k, none⟩ = some (.string (zs.getD k ⟨#[]⟩))) :
    Calls Try.prog 118 #[.pointer (some ⟨q, 0, none⟩), .slice (some ⟨l, 0, none⟩) zs.length cap] w fun e w' => ∃ x : ByteArray, e = .returned (.string x) ∧ x ∈ zs ∧ Cur B w' q ∧ w.grownBy w' (some q) := by
  obtain ⟨n, hN⟩ : ∃ n, n = zs.length := ⟨_, rfl⟩
  rw [← hN] at hn hn2 hz ⊢
  have HZ := hide hz
  have HN := hide hN
  clear hz hN
  go_enter Try.func118, Try.ntmps118
  go_wp2_with fail
  refine (l1Below_any B q n w hc (by omega) (by omega)).mono ?_
  rintro e w1 ⟨x, rfl, x0, x1, c1, g1⟩
  obtain ⟨k, rfl⟩ := Int.eq_ofNat_of_zero_le x0
  have hk : k < n := by omega
  have h1 : w1.cell? ⟨l, k, none⟩ = some (.string (zs.getD k ⟨#[]⟩)) := g1.cell (HZ.out k hk) (by simp; exact hq)
  have HM : Hid (zs.getD k ⟨#[]⟩ ∈ zs) := by
    have hk2 : k < zs.length := by rw [← HN.out]; exact hk
    unfold Hid
    simp [List.getD, hk2]
  generalize zs.getD k ⟨#[]⟩ = z at h1 HM
  go_wp2
  go_ret
  exact ⟨_, rfl, HM.out, c1, g1⟩

theorem cells_strs (w : World) (T : TypeId) (zs : List ByteArray) : ∀ k, k < zs.length → (w.alloc (.cells (zs.map Value.string).toArray T)).cell? ⟨w.heap.size, k, none⟩ = some (.string (zs.getD k ⟨#[]⟩)) := by
  intro k hk
  rw [cell_of_row _ w.heap.size k _ T (0, 0) (heap_alloc_new w _)]
  simp [List.getD, hk]

end Go.Proofs.Ytfgigcdfmkfkjaa
/-
  The contract of the draw of a small value: some value with a short text.
-/
namespace Go.Proofs.Ytfgigcdfmkfkjaa
open Go.RowKit
set_option linter.unusedVariables false

set_option maxRecDepth 100000 in
set_option maxHeartbeats 1600000 in
theorem l3Small_any (B q : Nat) (w : World) (hc : Cur B w q) :
    Calls Try.prog 164 #[.pointer (some ⟨q, 0, none⟩)] w fun e w' => ∃ (v : V3), e = .returned (.agg #[.int .i64 v.K, .int .i64 v.N, .string v.S]) ∧ v.S.size ≤ 21 ∧ Cur B w' q ∧ w.grownBy w' (some q) := by
  have hq := hc.lt
  have hB := hc.1
  go_enter Try.func164, Try.ntmps164
  go_wp2_with fail
  refine (l1Once_any B q 2 _ (hc.keep (World.grownBy_alloc w _ none) (by simp) (by simp)) (by omega) (by omega)).mono ?_
  rintro e w1 ⟨b, rfl, c1, g1⟩
  have HR := hide (box_grown (box_new w (.int .i64 0) (.int .i64 0) (.string ⟨#[]⟩) 105) g1 (by omega))
  have G1 : w.grownBy w1 (some q) := grown_trans (grown_alloc w _ q) g1
  have z1 := G1.size
  have l1 := (Array.getElem?_eq_some_iff.1 HR.out).1
  clear g1
  cases b
  · go_wp2_with fail
    refine (l1Str_any B q w1.heap.size [⟨#[97]⟩, ⟨#[98]⟩] 2 _ (c1.keep (World.grownBy_alloc w1 _ none) (by simp) (by simp)) (by decide) (by decide) (by omega) (cells_strs w1 9 _)).mono ?_
    rintro e w2 ⟨s, rfl, hx, c2, g2⟩
    have HS : Hid (s.size ≤ 21) := by
      unfold Hid
      simp only [List.mem_cons, List.not_mem_nil, or_false] at hx
      rcases hx with rfl | rfl <;> decide
    have HR2 := hide (box_grown (box_alloc HR.out _) g2 (by omega))
    have G2 : w.grownBy w2 (some q) := grown_trans (grown_trans G1 (grown_alloc w1 _ q)) g2
    obtain ⟨a0, a1, a2, f0, f1, f2⟩ := box_cell HR2.out
    clear hx g2 HR c1
    go_wp2
    refine box_post HR2.out (fun w3 h3 gr => ?_)
    clear a0 a1 a2 f0 f1 f2
    obtain ⟨a0, a1, a2, -, -, -⟩ := box_cell h3
    refine bodyPost_ret (v := .agg #[.int .i64 2, .int .i64 0, .string s]) (by simp [results, Try.results164, go_sem, a0, a1, a2]) rfl ⟨⟨2, 0, s⟩, rfl, HS.out, c2.keep gr (by simp; omega) (by intro k hk; cases hk; omega), grown_more G2 gr (by intro k hk; cases hk; omega)⟩
  · go_wp2_with fail
    refine (l1Below_any B q 3 _ c1 (by omega) (by omega)).mono ?_
    rintro e w2 ⟨x, rfl, x0, x1, c2, g2⟩
    have HR2 := hide (box_grown HR.out g2 (by omega))
    have G2 : w.grownBy w2 (some q) := grown_trans G1 g2
    obtain ⟨a0, a1, a2, f0, f1, f2⟩ := box_cell HR2.out
    clear g2 HR c1
    go_wp2
    refine box_post HR2.out (fun w3 h3 gr => ?_)
    clear a0 a1 a2 f0 f1 f2
    obtain ⟨a0, a1, a2, -, -, -⟩ := box_cell h3
    refine bodyPost_ret (v := .agg #[.int .i64 1, .int .i64 (1 + x), .string ⟨#[]⟩]) (by simp [results, Try.results164, go_sem, a0, a1, a2]) rfl ⟨⟨1, 1 + x, ⟨#[]⟩⟩, rfl, (show (⟨#[]⟩ : ByteArray).size ≤ 21 by decide), c2.keep gr (by simp; omega) (by intro k hk; cases hk; omega), grown_more G2 gr (by intro k hk; cases hk; omega)⟩
end Go.Proofs.Ytfgigcdfmkfkjaa
/-
  A block of some cells (a struct in memory): what it reads as, what a store leaves.
-/
namespace Go.Proofs.Ytfgigcdfmkfkjaa
open Go.RowKit
set_option linter.unusedVariables false

theorem boxk_new (w : World) (cs : Array Value) (T : TypeId) : (w.alloc (.cells cs T)).heap[w.heap.size]? = some (.cells cs T (0, 0)) := by rw [heap_alloc_new]
theorem boxk_cell {w : World} {q : Nat} {cs : Array Value} {T : TypeId} (h : w.heap[q]? = some (.cells cs T (0, 0))) (j : Nat) (c : Value) (hc : cs[j]? = some c) : w.cell? ⟨q, j, none⟩ = some c := by
  rw [cell_of_row w q j cs T (0, 0) h]; exact hc
theorem boxk_frozen {w : World} {q : Nat} {cs : Array Value} {T : TypeId} (h : w.heap[q]? = some (.cells cs T (0, 0))) (j : Nat) : w.frozen? ⟨q, j, none⟩ = false := frozen_of_row w q j _ T h
theorem boxk_set {w : World} {q : Nat} {cs : Array Value} {T : TypeId} (h : w.heap[q]? = some (.cells cs T (0, 0))) (j : Nat) (v : Value) :
    (w.setCell ⟨q, j, none⟩ v).heap[q]? = some (.cells (cs.setIfInBounds j v) T (0, 0)) ∧ w.grownBy (w.setCell ⟨q, j, none⟩ v) (some q) := by
  refine ⟨by rw [heap_setCell_same w q j _ T v h], ⟨rfl, rfl, rfl, by simp [World.setCell], fun k _ hk => heap_setCell_other w ⟨q, j, none⟩ k v (fun e => hk (by simp [e]))⟩⟩
theorem grown_tt {a b c : World} {row : Option Nat} (h : a.grownBy b row) (k : b.grownBy c row) : a.grownBy c row :=
  ⟨k.os.trans h.os, k.tape.trans h.tape, k.output.trans h.output, Nat.le_trans h.size k.size, fun i hi hne => (k.block i (Nat.lt_of_lt_of_le hi h.size) hne).trans (h.block i hi hne)⟩
theorem box4_set {w : World} {q : Nat} {c0 c1 c2 c3 : Value} {T : TypeId} (h : w.heap[q]? = some (.cells #[c0, c1, c2, c3] T (0, 0))) (v0 v1 v2 v3 : Value) :
    ((((w.setCell ⟨q, 0, none⟩ v0).setCell ⟨q, 1, none⟩ v1).setCell ⟨q, 2, none⟩ v2).setCell ⟨q, 3, none⟩ v3).heap[q]? = some (.cells #[v0, v1, v2, v3] T (0, 0)) ∧ w.grownBy ((((w.setCell ⟨q, 0, none⟩ v0).setCell ⟨q, 1, none⟩ v1).setCell ⟨q, 2, none⟩ v2).setCell ⟨q, 3, none⟩ v3) (some q) := by
  have h0 := boxk_set h 0 v0
  have h1 := boxk_set h0.1 1 v1
  have h2 := boxk_set h1.1 2 v2
  have h3 := boxk_set h2.1 3 v3
  exact ⟨h3.1, (grown_tt (grown_tt (grown_tt h0.2 h1.2) h2.2) h3.2)⟩
theorem box4_post {P : Program} {f : Func} {Q : Ending → World → Prop} {x : Exit} {act : Act} {w : World} {q : Nat} {c0 c1 c2 c3 v0 v1 v2 v3 : Value} {T : TypeId} (h : w.heap[q]? = some (.cells #[c0, c1, c2, c3] T (0, 0)))
    (k : ∀ w2, w2.heap[q]? = some (.cells #[v0, v1, v2, v3] T (0, 0)) → w.grownBy w2 (some q) → bodyPost P f Q x act w2) : bodyPost P f Q x act ((((w.setCell ⟨q, 0, none⟩ v0).setCell ⟨q, 1, none⟩ v1).setCell ⟨q, 2, none⟩ v2).setCell ⟨q, 3, none⟩ v3) :=
  k _ (box4_set h v0 v1 v2 v3).1 (box4_set h v0 v1 v2 v3).2
theorem box5_set {w : World} {q : Nat} {c0 c1 c2 c3 c4 : Value} {T : TypeId} (h : w.heap[q]? = some (.cells #[c0, c1, c2, c3, c4] T (0, 0))) (v0 v1 v2 v3 v4 : Value) :
    (((((w.setCell ⟨q, 0, none⟩ v0).setCell ⟨q, 1, none⟩ v1).setCell ⟨q, 2, none⟩ v2).setCell ⟨q, 3, none⟩ v3).setCell ⟨q, 4, none⟩ v4).heap[q]? = some (.cells #[v0, v1, v2, v3, v4] T (0, 0)) ∧ w.grownBy (((((w.setCell ⟨q, 0, none⟩ v0).setCell ⟨q, 1, none⟩ v1).setCell ⟨q, 2, none⟩ v2).setCell ⟨q, 3, none⟩ v3).setCell ⟨q, 4, none⟩ v4) (some q) := by
  have h0 := boxk_set h 0 v0
  have h1 := boxk_set h0.1 1 v1
  have h2 := boxk_set h1.1 2 v2
  have h3 := boxk_set h2.1 3 v3
  have h4 := boxk_set h3.1 4 v4
  exact ⟨h4.1, (grown_tt (grown_tt (grown_tt (grown_tt h0.2 h1.2) h2.2) h3.2) h4.2)⟩
theorem box5_post {P : Program} {f : Func} {Q : Ending → World → Prop} {x : Exit} {act : Act} {w : World} {q : Nat} {c0 c1 c2 c3 c4 v0 v1 v2 v3 v4 : Value} {T : TypeId} (h : w.heap[q]? = some (.cells #[c0, c1, c2, c3, c4] T (0, 0)))
    (k : ∀ w2, w2.heap[q]? = some (.cells #[v0, v1, v2, v3, v4] T (0, 0)) → w.grownBy w2 (some q) → bodyPost P f Q x act w2) : bodyPost P f Q x act (((((w.setCell ⟨q, 0, none⟩ v0).setCell ⟨q, 1, none⟩ v1).setCell ⟨q, 2, none⟩ v2).setCell ⟨q, 3, none⟩ v3).setCell ⟨q, 4, none⟩ v4) :=
  k _ (box5_set h v0 v1 v2 v3 v4).1 (box5_set h v0 v1 v2 v3 v4).2
end Go.Proofs.Ytfgigcdfmkfkjaa
/-
  The contracts of the laws' own helpers on values: toVal copies, szVal counts the text's bytes off.
-/
namespace Go.Proofs.Ytfgigcdfmkfkjaa
open Go.RowKit
set_option linter.unusedVariables false

set_option maxHeartbeats 800000 in
theorem toVal_any (K N : Int) (S : ByteArray) (w : World) :
    Calls Try.prog 112 #[.agg #[.int .i64 K, .int .i64 N, .string S]] w fun e w' =>
      e = .returned (.agg #[.int .i64 K, .int .i64 N, .string S]) ∧ Below w.heap.size w w' := by
  go_enter Try.func112, Try.ntmps112
  go_wp2
  go_returns
  exact ⟨rfl, by go_grown⟩

set_option maxHeartbeats 800000 in
theorem szVal_any (K N : Int) (S : ByteArray) (left : Int) (w : World) (hs : S.size ≤ maxLen) (h0 : 0 ≤ left) (h1 : left ≤ 1048576) :
    Calls Try.prog 111 #[.agg #[.int .i64 K, .int .i64 N, .string S], .int .i64 left] w fun e w' =>
      e = .returned (.int .i64 (if left - (S.size : Int) < 0 then -1 else left - (S.size : Int))) ∧ Below w.heap.size w w' := by
  unfold maxLen at hs
  by_cases h : left - (S.size : Int) < 0
  · rw [if_pos h]
    go_enter Try.func111, Try.ntmps111
    go_wp2
    go_ret
    exact ⟨rfl, by go_grown⟩
  · rw [if_neg h]
    go_enter Try.func111, Try.ntmps111
    go_wp2
    go_ret
    exact ⟨rfl, by go_grown⟩
end Go.Proofs.Ytfgigcdfmkfkjaa
/-
  The contract of the laws' own comparison of values: a value is the same as itself.
-/
namespace Go.Proofs.Ytfgigcdfmkfkjaa
open Go.RowKit
set_option linter.unusedVariables false

set_option maxHeartbeats 800000 in
theorem eqVal_same (K N : Int) (S : ByteArray) (w : World) :
    Calls Try.prog 103 #[.agg #[.int .i64 K, .int .i64 N, .string S], .agg #[.int .i64 K, .int .i64 N, .string S]] w fun e w' =>
      e = .returned (.bool true) ∧ Below w.heap.size w w' := by
  have k1 : (K != K) = false := by simp
  have k2 : (N != N) = false := by simp
  have k3 : (S.toList == S.toList) = true := by simp
  go_enter Try.func103, Try.ntmps103
  go_wp2
  go_ret
  exact ⟨rfl, by go_grown⟩
end Go.Proofs.Ytfgigcdfmkfkjaa
