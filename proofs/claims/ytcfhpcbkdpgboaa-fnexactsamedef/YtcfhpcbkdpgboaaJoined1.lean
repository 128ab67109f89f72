/-
  Texts of this claim joined into one: Plain, V3, VEq, Box, ValRow, Box2g, Box2, RowOf, RowK, FactArg, ArgRow, CondRow, ExprRow, EqArgs, Deep, PatsRow, ActRow, ActsRow, RuleRow, BoxK, LawVal, LawEq, Keep6, LawFact, LawArg, LawPat.
-/
import Derived.Test.YtcfhpcbkdpgboaaRows
import Derived.WalkKit
import Derived.WalkSpells
import Derived.WalkLawsBesides
import Derived.Laws.Strings
import Derived.OpenShut
import Derived.BigQuiet
import Derived.Deep.QuietTactic
import Derived.Lib.SmallJoins
import Derived.Deep.Slices
import Derived.Deep.Strs
import Derived.ProofKit
import Derived.ShutString
import Derived.ChangeOld
import Derived.Below
import Derived.Handy
import Derived.Deep.RegionHeld3
/-
  Small plain facts that the walks of this seat share: a fact kept from the walk, equal endings, a number between two bounds.
-/
namespace Go.Proofs.Ytcfhpcbkdpgboaa
open Go.RowKit
set_option linter.unusedVariables false

theorem hide {p : Prop} (h : p) : Hid p := h
theorem ret_bool {a b : Bool} (h : a = b) : Ending.returned (.bool a) = .returned (.bool b) := by rw [h]
theorem ret_int {k : IntKind} {a b : Int} (h : a = b) : Ending.returned (.int k a) = .returned (.int k b) := by rw [h]

def inB (x a b : Int) : Bool := decide (a ≤ x) && decide (x ≤ b)
theorem inB_t {x a b : Int} (h : a ≤ x ∧ x ≤ b) : inB x a b = true := by simp [inB, h.1, h.2]
theorem inB_f {x a b : Int} (h : ¬ (a ≤ x ∧ x ≤ b)) : inB x a b = false := by
  simp [inB]; omega
end Go.Proofs.Ytcfhpcbkdpgboaa
/-
  A value, plainly: its kind, number and text.
-/
namespace Go.Proofs.Ytcfhpcbkdpgboaa
open Go.RowKit
set_option linter.unusedVariables false

structure V3 where
  K : Int
  N : Int
  S : ByteArray
instance : Inhabited V3 := ⟨⟨0, 0, ⟨#[]⟩⟩⟩
def V3.agg (v : V3) : Value := .agg #[.int .i64 v.K, .int .i64 v.N, .string v.S]
theorem V3.ext' {a b : V3} (h1 : a.K = b.K) (h2 : a.N = b.N) (h3 : a.S = b.S) : a = b := by
  cases a; cases b; simp_all
end Go.Proofs.Ytcfhpcbkdpgboaa
/-
  When two values are the same, plainly.
-/
namespace Go.Proofs.Ytcfhpcbkdpgboaa
open Go.RowKit
set_option linter.unusedVariables false

theorem toList_inj {S S' : ByteArray} (h : S.toList = S'.toList) : S = S' := by
  rw [ByteArray.toList_eq, ByteArray.toList_eq] at h
  cases S; cases S'
  simp at h
  rw [h]
theorem v3_cases (v u : V3) : v = u ∨ (v ≠ u ∧ ((v.K == u.K) = false ∨ ((v.K == u.K) = true ∧ (v.N == u.N) = false) ∨ ((v.K == u.K) = true ∧ (v.N == u.N) = true ∧ (v.S.toList == u.S.toList) = false))) := by
  by_cases h1 : v.K = u.K
  · by_cases h2 : v.N = u.N
    · by_cases h3 : v.S.toList = u.S.toList
      · left; exact V3.ext' h1 h2 (toList_inj h3)
      · right
        exact ⟨fun e => h3 (by rw [e]), .inr (.inr ⟨by simpa using h1, by simpa using h2, by simpa using h3⟩)⟩
    · right
      exact ⟨fun e => h2 (by rw [e]), .inr (.inl ⟨by simpa using h1, by simpa using h2⟩)⟩
  · right
    exact ⟨fun e => h1 (by rw [e]), .inl (by simpa using h1)⟩
instance : DecidableEq V3 := fun a b => by
  by_cases h : a.K = b.K ∧ a.N = b.N ∧ a.S = b.S
  · exact .isTrue (V3.ext' h.1 h.2.1 h.2.2)
  · exact .isFalse (fun e => h (by rw [e]; exact ⟨rfl, rfl, rfl⟩))

end Go.Proofs.Ytcfhpcbkdpgboaa
/-
  A block of three cells (a value in memory): what it reads as, what a store of all three leaves.
-/
namespace Go.Proofs.Ytcfhpcbkdpgboaa
open Go.RowKit
set_option linter.unusedVariables false

theorem box_cell {w : World} {q : Nat} {c0 c1 c2 : Value} {T : TypeId} (h : w.heap[q]? = some (.cells #[c0, c1, c2] T (0, 0))) :
    w.cell? ⟨q, 0, none⟩ = some c0 ∧ w.cell? ⟨q, 1, none⟩ = some c1 ∧ w.cell? ⟨q, 2, none⟩ = some c2 ∧ w.frozen? ⟨q, 0, none⟩ = false ∧ w.frozen? ⟨q, 1, none⟩ = false ∧ w.frozen? ⟨q, 2, none⟩ = false := by
  refine ⟨?_, ?_, ?_, frozen_of_row w q 0 _ T h, frozen_of_row w q 1 _ T h, frozen_of_row w q 2 _ T h⟩
  · rw [cell_of_row w q 0 _ T (0, 0) h]; rfl
  · rw [cell_of_row w q 1 _ T (0, 0) h]; rfl
  · rw [cell_of_row w q 2 _ T (0, 0) h]; rfl
theorem box_set3 {w : World} {q : Nat} {c0 c1 c2 : Value} {T : TypeId} (h : w.heap[q]? = some (.cells #[c0, c1, c2] T (0, 0))) (a b c : Value) :
    (((w.setCell ⟨q, 0, none⟩ a).setCell ⟨q, 1, none⟩ b).setCell ⟨q, 2, none⟩ c).heap[q]? = some (.cells #[a, b, c] T (0, 0)) ∧
    w.grownBy (((w.setCell ⟨q, 0, none⟩ a).setCell ⟨q, 1, none⟩ b).setCell ⟨q, 2, none⟩ c) (some q) := by
  have h1 : (w.setCell ⟨q, 0, none⟩ a).heap[q]? = some (.cells #[a, c1, c2] T (0, 0)) := by rw [heap_setCell_same w q 0 _ T a h]; rfl
  have h2 : ((w.setCell ⟨q, 0, none⟩ a).setCell ⟨q, 1, none⟩ b).heap[q]? = some (.cells #[a, b, c2] T (0, 0)) := by rw [heap_setCell_same _ q 1 _ T b h1]; rfl
  refine ⟨by rw [heap_setCell_same _ q 2 _ T c h2]; rfl, ⟨rfl, rfl, rfl, by simp [World.setCell], fun k _ hk => ?_⟩⟩
  rw [heap_setCell_other _ ⟨q, 2, none⟩ k c (fun e => hk (by simp [e])), heap_setCell_other _ ⟨q, 1, none⟩ k b (fun e => hk (by simp [e])), heap_setCell_other w ⟨q, 0, none⟩ k a (fun e => hk (by simp [e]))]
theorem box_new (w : World) (c0 c1 c2 : Value) (T : TypeId) : (w.alloc (.cells #[c0, c1, c2] T)).heap[w.heap.size]? = some (.cells #[c0, c1, c2] T (0, 0)) := by rw [heap_alloc_new]
theorem box_old {w : World} {q : Nat} {o : Option Obj} (h : w.heap[q]? = o) (hq : q < w.heap.size) (x : Obj) : (w.alloc x).heap[q]? = o := by
  rw [← h]
  show (w.heap.push x)[q]? = _
  rw [Array.getElem?_push, if_neg (by omega)]
theorem box_below {B q : Nat} {w w' : World} {o : Option Obj} (h : w.heap[q]? = o) (hb : Below B w w') (hq : q < B) : w'.heap[q]? = o := by rw [hb.block q hq]; exact h
/-- at a return behind a store of all three cells: the world by what it holds -/
theorem box_post {P : Program} {f : Func} {Q : Ending → World → Prop} {x : Exit} {act : Act} {w : World} {q : Nat} {c0 c1 c2 a b c : Value} {T : TypeId} (h : w.heap[q]? = some (.cells #[c0, c1, c2] T (0, 0)))
    (k : ∀ w2, w2.heap[q]? = some (.cells #[a, b, c] T (0, 0)) → w.grownBy w2 (some q) → bodyPost P f Q x act w2) :
    bodyPost P f Q x act (((w.setCell ⟨q, 0, none⟩ a).setCell ⟨q, 1, none⟩ b).setCell ⟨q, 2, none⟩ c) :=
  k _ (box_set3 h a b c).1 (box_set3 h a b c).2
theorem below_set {w0 w w2 : World} {q : Nat} (hb : Below w0.heap.size w0 w) (gr : w.grownBy w2 (some q)) (hq : w0.heap.size ≤ q) : Below w0.heap.size w0 w2 :=
  hb.grown gr hb.size (fun k hk => by cases hk; exact hq)
end Go.Proofs.Ytcfhpcbkdpgboaa
/-
  Rows of values: what a slice of values reads as (RdV), what a call's own row of them holds (cells3).
-/
namespace Go.Proofs.Ytcfhpcbkdpgboaa
open Go.RowKit
set_option linter.unusedVariables false

def vAt (L : List V3) (i : Nat) : V3 := L.getD i default
theorem vAt_in {L : List V3} {i : Nat} (h : i < L.length) : vAt L i = L[i] := by simp [vAt, List.getD, h]
def cells3 (L : List V3) : List Value := L.flatMap fun v => [.int .i64 v.K, .int .i64 v.N, .string v.S]
theorem cells3_length (L : List V3) : (cells3 L).length = L.length * 3 := by
  induction L with
  | nil => rfl
  | cons v r ih => simp only [cells3, List.flatMap_cons, List.length_append] at ih ⊢; rw [ih]; simp; omega
theorem cells3_append (a b : List V3) : cells3 (a ++ b) = cells3 a ++ cells3 b := by simp [cells3]
theorem cells3_get : ∀ (L : List V3) (i : Nat), i < L.length → (cells3 L)[i * 3]? = some (.int .i64 (vAt L i).K) ∧ (cells3 L)[i * 3 + 1]? = some (.int .i64 (vAt L i).N) ∧ (cells3 L)[i * 3 + 2]? = some (.string (vAt L i).S)
  | [], i, h => absurd h (Nat.not_lt_zero _)
  | v :: r, 0, h => by simp [cells3, vAt]
  | v :: r, i + 1, h => by
    have ih := cells3_get r i (by simpa using h)
    have e : cells3 (v :: r) = .int .i64 v.K :: .int .i64 v.N :: .string v.S :: cells3 r := by simp [cells3]
    have ev : vAt (v :: r) (i + 1) = vAt r i := by simp [vAt, List.getD]
    rw [e, ev, show (i + 1) * 3 = i * 3 + 3 by omega, show i * 3 + 3 + 1 = i * 3 + 1 + 3 by omega, show i * 3 + 3 + 2 = i * 3 + 2 + 3 by omega]
    exact ih

/-- what the slice at 'a' reads as -/
def RdV (w : World) (a : Option Addr) (L : List V3) : Prop :=
  ∀ i, i < L.length → ∃ b off, a = some ⟨b, off, none⟩ ∧ w.cell? ⟨b, off + i * 3, none⟩ = some (.int .i64 (vAt L i).K) ∧ w.cell? ⟨b, off + i * 3 + 1, none⟩ = some (.int .i64 (vAt L i).N) ∧ w.cell? ⟨b, off + i * 3 + 2, none⟩ = some (.string (vAt L i).S)

theorem RdV.open {w : World} {a : Option Addr} {L : List V3} (h : RdV w a L) (hp : 0 < L.length) :
    ∃ b off, a = some ⟨b, off, none⟩ ∧ b < w.heap.size ∧ ∀ i, i < L.length → w.cell? ⟨b, off + i * 3, none⟩ = some (.int .i64 (vAt L i).K) ∧ w.cell? ⟨b, off + i * 3 + 1, none⟩ = some (.int .i64 (vAt L i).N) ∧ w.cell? ⟨b, off + i * 3 + 2, none⟩ = some (.string (vAt L i).S) := by
  obtain ⟨b, off, rfl, h0, -, -⟩ := h 0 hp
  refine ⟨b, off, rfl, World.block_lt_of_cell? w _ h0, fun i hi => ?_⟩
  obtain ⟨b2, off2, e, h1⟩ := h i hi
  simp only [Option.some.injEq, Addr.mk.injEq] at e
  rw [e.1, e.2.1]; exact h1
theorem RdV.below {w w' : World} {a : Option Addr} {L : List V3} (h : RdV w a L) (hb : Below w.heap.size w w') : RdV w' a L := by
  intro i hi
  obtain ⟨b, off, e, h0, h1, h2⟩ := h i hi
  have k : ∀ {p : Addr} {v : Value}, w.cell? p = some v → w'.cell? p = some v := fun {p v} h => by rw [hb.cell (World.block_lt_of_cell? w _ h)]; exact h
  exact ⟨b, off, e, k h0, k h1, k h2⟩
theorem RdV.heap {w w' : World} {a : Option Addr} {L : List V3} (h : RdV w a L) (hb : w'.heap = w.heap) : RdV w' a L := by
  intro i hi
  obtain ⟨b, off, e, h0, h1, h2⟩ := h i hi
  have k : ∀ {p : Addr}, w'.cell? p = w.cell? p := fun {p} => by simp [World.cell?, hb]
  exact ⟨b, off, e, by rw [k]; exact h0, by rw [k]; exact h1, by rw [k]; exact h2⟩
theorem RdV.nil (w : World) (a : Option Addr) : RdV w a [] := fun i hi => absurd hi (Nat.not_lt_zero _)
/-- what a call's own row of values reads as -/
theorem rdV_owns {w : World} {base n : Nat} {T : TypeId} {v : Value} {L : List V3} (h : w.ownsRow base T 3 v n (cells3 L)) :
    ∃ a cap, v = .slice a L.length cap ∧ RdV w a L ∧ n = L.length ∧ L.length ≤ cap ∧ (a = none → L.length = 0 ∧ cap = 0) := by
  have hn : n = L.length := by have := h.1; rw [cells3_length] at this; omega
  subst hn
  rcases h.2 with ⟨rfl, h0⟩ | ⟨g, cap, cur, rfl, hb, hg, hnc, hcm, hsz, htake⟩
  · exact ⟨none, 0, by rw [h0], fun i hi => by omega, rfl, by omega, fun _ => ⟨h0, rfl⟩⟩
  · refine ⟨_, cap, rfl, fun i hi => ⟨g, 0, rfl, ?_⟩, rfl, hnc, fun hh => by cases hh⟩
    obtain ⟨g0, g1, g2⟩ := cells3_get L i hi
    have e0 := h.cellAt (i * 3) (by omega)
    have e1 := h.cellAt (i * 3 + 1) (by omega)
    have e2 := h.cellAt (i * 3 + 2) (by omega)
    rw [Nat.zero_add]
    exact ⟨by rw [e0]; exact g0, by rw [e1]; exact g1, by rw [e2]; exact g2⟩
end Go.Proofs.Ytcfhpcbkdpgboaa
/-
  A block of two cells (a fact in memory), and rows of values of the calls' own, by their block.
-/
namespace Go.Proofs.Ytcfhpcbkdpgboaa
open Go.RowKit
set_option linter.unusedVariables false

theorem box2_cell {w : World} {q : Nat} {c0 c1 : Value} {T : TypeId} (h : w.heap[q]? = some (.cells #[c0, c1] T (0, 0))) :
    w.cell? ⟨q, 0, none⟩ = some c0 ∧ w.cell? ⟨q, 1, none⟩ = some c1 ∧ w.frozen? ⟨q, 0, none⟩ = false ∧ w.frozen? ⟨q, 1, none⟩ = false := by
  refine ⟨?_, ?_, frozen_of_row w q 0 _ T h, frozen_of_row w q 1 _ T h⟩
  · rw [cell_of_row w q 0 _ T (0, 0) h]; rfl
  · rw [cell_of_row w q 1 _ T (0, 0) h]; rfl
theorem box2_set {w : World} {q : Nat} {c0 c1 : Value} {T : TypeId} (h : w.heap[q]? = some (.cells #[c0, c1] T (0, 0))) (a b : Value) :
    ((w.setCell ⟨q, 0, none⟩ a).setCell ⟨q, 1, none⟩ b).heap[q]? = some (.cells #[a, b] T (0, 0)) ∧
    w.grownBy ((w.setCell ⟨q, 0, none⟩ a).setCell ⟨q, 1, none⟩ b) (some q) := by
  have h1 : (w.setCell ⟨q, 0, none⟩ a).heap[q]? = some (.cells #[a, c1] T (0, 0)) := by rw [heap_setCell_same w q 0 _ T a h]; rfl
  refine ⟨by rw [heap_setCell_same _ q 1 _ T b h1]; rfl, ⟨rfl, rfl, rfl, by simp [World.setCell], fun k _ hk => ?_⟩⟩
  rw [heap_setCell_other _ ⟨q, 1, none⟩ k b (fun e => hk (by simp [e])), heap_setCell_other w ⟨q, 0, none⟩ k a (fun e => hk (by simp [e]))]
theorem box2_set1 {w : World} {q : Nat} {c0 c1 : Value} {T : TypeId} (h : w.heap[q]? = some (.cells #[c0, c1] T (0, 0))) (b : Value) :
    (w.setCell ⟨q, 1, none⟩ b).heap[q]? = some (.cells #[c0, b] T (0, 0)) ∧ w.grownBy (w.setCell ⟨q, 1, none⟩ b) (some q) := by
  refine ⟨by rw [heap_setCell_same w q 1 _ T b h]; rfl, ⟨rfl, rfl, rfl, by simp [World.setCell], fun k _ hk => heap_setCell_other w ⟨q, 1, none⟩ k b (fun e => hk (by simp [e]))⟩⟩
theorem box2_set0 {w : World} {q : Nat} {c0 c1 : Value} {T : TypeId} (h : w.heap[q]? = some (.cells #[c0, c1] T (0, 0))) (b : Value) :
    (w.setCell ⟨q, 0, none⟩ b).heap[q]? = some (.cells #[b, c1] T (0, 0)) ∧ w.grownBy (w.setCell ⟨q, 0, none⟩ b) (some q) := by
  refine ⟨by rw [heap_setCell_same w q 0 _ T b h]; rfl, ⟨rfl, rfl, rfl, by simp [World.setCell], fun k _ hk => heap_setCell_other w ⟨q, 0, none⟩ k b (fun e => hk (by simp [e]))⟩⟩
theorem box2_new (w : World) (c0 c1 : Value) (T : TypeId) : (w.alloc (.cells #[c0, c1] T)).heap[w.heap.size]? = some (.cells #[c0, c1] T (0, 0)) := by rw [heap_alloc_new]
theorem box2_post {P : Program} {f : Func} {Q : Ending → World → Prop} {x : Exit} {act : Act} {w : World} {q : Nat} {c0 c1 a b : Value} {T : TypeId} (h : w.heap[q]? = some (.cells #[c0, c1] T (0, 0)))
    (k : ∀ w2, w2.heap[q]? = some (.cells #[a, b] T (0, 0)) → w.grownBy w2 (some q) → bodyPost P f Q x act w2) :
    bodyPost P f Q x act ((w.setCell ⟨q, 0, none⟩ a).setCell ⟨q, 1, none⟩ b) :=
  k _ (box2_set h a b).1 (box2_set h a b).2
theorem box_gr {w w' : World} {R q : Nat} {o : Obj} (h : w.heap[R]? = some o) (hg : w.grownBy w' (some q)) (hne : R ≠ q) : w'.heap[R]? = some o := by
  rw [hg.block R (Array.getElem?_eq_some_iff.1 h).1 (by simp; omega)]; exact h
end Go.Proofs.Ytcfhpcbkdpgboaa
/-
  A block of two cells (a fact in memory), and rows of values of the calls' own, by their block.
-/
namespace Go.Proofs.Ytcfhpcbkdpgboaa
open Go.RowKit
set_option linter.unusedVariables false

/-- block g holds the values L, at its head, and is written by nobody else -/
def OwnV (w : World) (g cap : Nat) (L : List V3) : Prop := w.ownsRow 0 75 3 (.slice (some ⟨g, 0, none⟩) L.length cap) L.length (cells3 L)
theorem OwnV.of {w : World} {base g cap n : Nat} {L : List V3} (h : w.ownsRow base 75 3 (.slice (some ⟨g, 0, none⟩) n cap) n (cells3 L)) : OwnV w g cap L := by
  have hn : n = L.length := by have := h.1; rw [cells3_length] at this; omega
  subst hn
  refine ⟨h.1, ?_⟩
  rcases h.2 with h2 | ⟨g, cap, cur, h1, hb, rest⟩
  · exact .inl h2
  · exact .inr ⟨g, cap, cur, h1, Nat.zero_le _, rest⟩
theorem OwnV.lt {w : World} {g cap : Nat} {L : List V3} (h : OwnV w g cap L) : g < w.heap.size := (World.ownsRow.lt h g rfl).2
theorem OwnV.later {w w' : World} {g cap : Nat} {L : List V3} (h : OwnV w g cap L) (hb : Below w.heap.size w w') : OwnV w' g cap L := by
  refine ⟨h.1, ?_⟩
  rcases h.2 with h2 | ⟨g, cap, cur, h1, hb', hh, rest⟩
  · exact .inl h2
  · exact .inr ⟨g, cap, cur, h1, hb', by rw [hb.block g (Array.getElem?_eq_some_iff.1 hh).1]; exact hh, rest⟩
theorem OwnV.grown {w w' : World} {g g' cap : Nat} {L : List V3} (h : OwnV w g cap L) (hg : w.grownBy w' (some g')) (hne : g ≠ g') : OwnV w' g cap L :=
  World.ownsRow.kept h hg (.inr (by simp [Value.ownBlock]; exact hne))
theorem OwnV.rd {w : World} {g cap : Nat} {L : List V3} (h : OwnV w g cap L) : RdV w (some ⟨g, 0, none⟩) L := by
  obtain ⟨a, c, e, hr, -⟩ := rdV_owns h
  simp only [Value.slice.injEq] at e
  rw [e.1]; exact hr
theorem OwnV.cap {w : World} {g cap : Nat} {L : List V3} (h : OwnV w g cap L) : L.length ≤ cap := by
  rcases h.2 with ⟨h1, _⟩ | ⟨g', cap', cur, h1, hb', hh, hnc, _⟩
  · simp at h1
  · simp only [Value.slice.injEq] at h1; omega
end Go.Proofs.Ytcfhpcbkdpgboaa
/-
  Rows of elements of three cells each, whatever the element: their cells, one by one, and a store of one element.
-/
namespace Go.Proofs.Ytcfhpcbkdpgboaa
open Go.RowKit
set_option linter.unusedVariables false

def rowOf {α : Type} (f : α → List Value) (L : List α) : List Value := L.flatMap f
theorem rowOf_cons {α : Type} (f : α → List Value) (x : α) (L : List α) : rowOf f (x :: L) = f x ++ rowOf f L := by simp [rowOf]
theorem rowOf_append {α : Type} (f : α → List Value) (L M : List α) : rowOf f (L ++ M) = rowOf f L ++ rowOf f M := by simp [rowOf]
theorem rowOf_length {α : Type} {f : α → List Value} {k : Nat} (hk : ∀ x, (f x).length = k) : ∀ L : List α, (rowOf f L).length = L.length * k
  | [] => by simp [rowOf]
  | x :: r => by rw [rowOf_cons, List.length_append, hk, rowOf_length hk r, List.length_cons, Nat.succ_mul, Nat.add_comm]
theorem rowOf_get {α : Type} {f : α → List Value} {k : Nat} (hk : ∀ x, (f x).length = k) : ∀ (L : List α) (i j : Nat) (hi : i < L.length), j < k → (rowOf f L)[i * k + j]? = (f L[i])[j]?
  | [], i, j, hi, _ => absurd hi (Nat.not_lt_zero _)
  | x :: r, 0, j, hi, hj => by rw [rowOf_cons, Nat.zero_mul, Nat.zero_add, List.getElem?_append_left (by rw [hk]; exact hj)]; rfl
  | x :: r, i + 1, j, hi, hj => by
    rw [rowOf_cons, List.getElem?_append_right (by rw [hk, Nat.succ_mul]; omega), hk, show (i + 1) * k + j - k = i * k + j by rw [Nat.succ_mul]; omega]
    exact rowOf_get hk r i j (by simpa using hi) hj
theorem len3 {l : List Value} (h : l.length = 3) : ∃ a b c, l = [a, b, c] := by
  match l, h with
  | [a, b, c], _ => exact ⟨a, b, c, rfl⟩
theorem rowOf_set3 {α : Type} {f : α → List Value} (hk : ∀ x, (f x).length = 3) (x : α) (c0 c1 c2 : Value) (hx : f x = [c0, c1, c2]) : ∀ (L : List α) (i : Nat), i < L.length →
    (((rowOf f L).set (i * 3) c0).set (i * 3 + 1) c1).set (i * 3 + 2) c2 = rowOf f (L.set i x)
  | [], i, hi => absurd hi (Nat.not_lt_zero _)
  | y :: r, 0, hi => by
    obtain ⟨a, b, c, e⟩ := len3 (hk y)
    rw [rowOf_cons, e, List.set_cons_zero, rowOf_cons, hx]
    rfl
  | y :: r, i + 1, hi => by
    obtain ⟨a, b, c, e⟩ := len3 (hk y)
    have ih := rowOf_set3 hk x c0 c1 c2 hx r i (by simpa using hi)
    rw [rowOf_cons, e, List.set_cons_succ, rowOf_cons, ← ih, e]
    simp only [Nat.succ_mul]
    rfl
theorem rowOf_replicate {α : Type} {f : α → List Value} {x : α} {c0 c1 c2 : Value} (hx : f x = [c0, c1, c2]) (n : Nat) : (madeCells #[c0, c1, c2] (n * 3)).toList = rowOf f (List.replicate n x) := by
  induction n with
  | zero => simp [madeCells, rowOf]
  | succ n ih =>
    apply List.ext_getElem?
    intro j
    rw [List.replicate_succ, rowOf_cons, hx]
    by_cases hj : j < 3
    · match j, hj with
      | 0, _ => simp [madeCells, show 0 < (n + 1) * 3 by omega]
      | 1, _ => simp [madeCells, show 1 < (n + 1) * 3 by omega]
      | 2, _ => simp [madeCells, show 2 < (n + 1) * 3 by omega]
    · rw [List.getElem?_append_right (by simp; omega), ← ih]
      simp only [List.length_cons, List.length_nil]
      by_cases hl : j < (n + 1) * 3
      · have h1 : j - 3 < n * 3 := by omega
        have h2 : (j - 3) % 3 = j % 3 := by omega
        simp [madeCells, hl, h1, h2]
      · have h1 : ¬ j - 3 < n * 3 := by omega
        simp [madeCells, hl, h1]
end Go.Proofs.Ytcfhpcbkdpgboaa
/-
  Rows of elements of k cells each, whatever the element: what a slice of them reads as (RdK), what a call's own row of them holds (OwnK).
-/
namespace Go.Proofs.Ytcfhpcbkdpgboaa
open Go.RowKit
set_option linter.unusedVariables false

def eAt {α : Type} [Inhabited α] (L : List α) (i : Nat) : α := L.getD i default
theorem eAt_in {α : Type} [Inhabited α] {L : List α} {i : Nat} (h : i < L.length) : eAt L i = L[i] := by simp [eAt, List.getD, h]
/-- what the slice at 'a' reads as -/
def RdK {α : Type} [Inhabited α] (f : α → List Value) (k : Nat) (w : World) (a : Option Addr) (L : List α) : Prop :=
  ∀ i, i < L.length → ∃ b off, a = some ⟨b, off, none⟩ ∧ ∀ (j : Nat) c, (f (eAt L i))[j]? = some c → w.cell? ⟨b, off + i * k + j, none⟩ = some c

theorem RdK.open {α : Type} [Inhabited α] {f : α → List Value} {k : Nat} (hk : ∀ x, (f x).length = k) (h0 : 0 < k) {w : World} {a : Option Addr} {L : List α} (h : RdK f k w a L) (hp : 0 < L.length) :
    ∃ b off, a = some ⟨b, off, none⟩ ∧ b < w.heap.size ∧ ∀ i, i < L.length → ∀ (j : Nat) c, (f (eAt L i))[j]? = some c → w.cell? ⟨b, off + i * k + j, none⟩ = some c := by
  obtain ⟨b, off, rfl, hc⟩ := h 0 hp
  have hj : 0 < (f (eAt L 0)).length := by rw [hk]; exact h0
  refine ⟨b, off, rfl, World.block_lt_of_cell? w _ (hc 0 _ (List.getElem?_eq_getElem hj)), fun i hi => ?_⟩
  obtain ⟨b2, off2, e, h1⟩ := h i hi
  simp only [Option.some.injEq, Addr.mk.injEq] at e
  rw [e.1, e.2.1]; exact h1
theorem RdK.below {α : Type} [Inhabited α] {f : α → List Value} {k : Nat} {w w' : World} {a : Option Addr} {L : List α} (h : RdK f k w a L) (hb : Below w.heap.size w w') : RdK f k w' a L := by
  intro i hi
  obtain ⟨b, off, e, h0⟩ := h i hi
  refine ⟨b, off, e, fun j c hj => ?_⟩
  have h1 := h0 j c hj
  rw [hb.cell (World.block_lt_of_cell? w _ h1)]; exact h1
theorem RdK.heap {α : Type} [Inhabited α] {f : α → List Value} {k : Nat} {w w' : World} {a : Option Addr} {L : List α} (h : RdK f k w a L) (hb : w'.heap = w.heap) : RdK f k w' a L := by
  intro i hi
  obtain ⟨b, off, e, h0⟩ := h i hi
  exact ⟨b, off, e, fun j c hj => by rw [show ∀ p, w'.cell? p = w.cell? p from fun p => by simp [World.cell?, hb]]; exact h0 j c hj⟩
theorem RdK.nil {α : Type} [Inhabited α] (f : α → List Value) (k : Nat) (w : World) (a : Option Addr) : RdK f k w a [] := fun i hi => absurd hi (Nat.not_lt_zero _)
/-- a shorter part, from the head -/
theorem RdK.take {α : Type} [Inhabited α] {f : α → List Value} {k : Nat} {w : World} {a : Option Addr} {L M : List α} (h : RdK f k w a (L ++ M)) : RdK f k w a L := by
  intro i hi
  obtain ⟨b, off, e, h0⟩ := h i (by rw [List.length_append]; omega)
  have ev : eAt (L ++ M) i = eAt L i := by rw [eAt_in (by rw [List.length_append]; omega), eAt_in hi, List.getElem_append_left hi]
  rw [ev] at h0
  exact ⟨b, off, e, h0⟩
theorem ownsRow_below' {w w' : World} {base n size : Nat} {e : TypeId} {v : Value} {xs : List Value} (h : w.ownsRow base e size v n xs) (hb : Below w.heap.size w w') : w'.ownsRow base e size v n xs := by
  refine ⟨h.1, ?_⟩
  rcases h.2 with h2 | ⟨g, cap, cur, h1, hb', hh, rest⟩
  · exact .inl h2
  · exact .inr ⟨g, cap, cur, h1, hb', by rw [hb.block g (Array.getElem?_eq_some_iff.1 hh).1]; exact hh, rest⟩
/-- what a call's own row reads as -/
theorem rdK_owns {α : Type} [Inhabited α] {f : α → List Value} {k : Nat} (hk : ∀ x, (f x).length = k) (hp : 0 < k) {w : World} {base n : Nat} {T : TypeId} {v : Value} {L : List α} (h : w.ownsRow base T k v n (rowOf f L)) :
    ∃ a cap, v = .slice a L.length cap ∧ RdK f k w a L ∧ n = L.length ∧ L.length ≤ cap ∧ (a = none → L.length = 0 ∧ cap = 0) := by
  have hn : n = L.length := by have := h.1; rw [rowOf_length hk] at this; exact (Nat.eq_of_mul_eq_mul_right hp this).symm
  subst hn
  rcases h.2 with ⟨rfl, h0⟩ | ⟨g, cap, cur, rfl, hb, hg, hnc, hcm, hsz, htake⟩
  · exact ⟨none, 0, by rw [h0], fun i hi => by omega, rfl, by omega, fun _ => ⟨h0, rfl⟩⟩
  · refine ⟨_, cap, rfl, fun i hi => ⟨g, 0, rfl, fun j c hj => ?_⟩, rfl, hnc, fun hh => by cases hh⟩
    have hjk : j < k := by rw [← hk (eAt L i)]; exact (List.getElem?_eq_some_iff.1 hj).1
    have hlt : i * k + j < L.length * k := by
      have : (i + 1) * k ≤ L.length * k := Nat.mul_le_mul_right _ hi
      rw [Nat.succ_mul] at this
      omega
    rw [Nat.zero_add, h.cellAt (i * k + j) hlt, rowOf_get hk L i j hi hjk, ← eAt_in hi]
    exact hj
/-- block g holds the elements L, at its head, and is written by nobody else -/
def OwnK {α : Type} [Inhabited α] (T : TypeId) (f : α → List Value) (k : Nat) (w : World) (g cap : Nat) (L : List α) : Prop := w.ownsRow 0 T k (.slice (some ⟨g, 0, none⟩) L.length cap) L.length (rowOf f L)
theorem OwnK.of {α : Type} [Inhabited α] {T : TypeId} {f : α → List Value} {k : Nat} (hk : ∀ x, (f x).length = k) (hp : 0 < k) {w : World} {base g cap n : Nat} {L : List α} (h : w.ownsRow base T k (.slice (some ⟨g, 0, none⟩) n cap) n (rowOf f L)) : OwnK T f k w g cap L := by
  have hn : n = L.length := by have := h.1; rw [rowOf_length hk] at this; exact (Nat.eq_of_mul_eq_mul_right hp this).symm
  subst hn
  refine ⟨h.1, ?_⟩
  rcases h.2 with h2 | ⟨g, cap, cur, h1, hb, rest⟩
  · exact .inl h2
  · exact .inr ⟨g, cap, cur, h1, Nat.zero_le _, rest⟩
theorem OwnK.lt {α : Type} [Inhabited α] {T : TypeId} {f : α → List Value} {k : Nat} {w : World} {g cap : Nat} {L : List α} (h : OwnK T f k w g cap L) : g < w.heap.size := (World.ownsRow.lt h g rfl).2
theorem OwnK.later {α : Type} [Inhabited α] {T : TypeId} {f : α → List Value} {k : Nat} {w w' : World} {g cap : Nat} {L : List α} (h : OwnK T f k w g cap L) (hb : Below w.heap.size w w') : OwnK T f k w' g cap L := ownsRow_below' h hb
theorem OwnK.grown {α : Type} [Inhabited α] {T : TypeId} {f : α → List Value} {k : Nat} {w w' : World} {g g' cap : Nat} {L : List α} (h : OwnK T f k w g cap L) (hg : w.grownBy w' (some g')) (hne : g ≠ g') : OwnK T f k w' g cap L :=
  World.ownsRow.kept h hg (.inr (by simp [Value.ownBlock]; exact hne))
theorem OwnK.rd {α : Type} [Inhabited α] {T : TypeId} {f : α → List Value} {k : Nat} (hk : ∀ x, (f x).length = k) (hp : 0 < k) {w : World} {g cap : Nat} {L : List α} (h : OwnK T f k w g cap L) : RdK f k w (some ⟨g, 0, none⟩) L := by
  obtain ⟨a, c, e, hr, -⟩ := rdK_owns hk hp h
  simp only [Value.slice.injEq] at e
  rw [e.1]; exact hr
theorem OwnK.cap {α : Type} [Inhabited α] {T : TypeId} {f : α → List Value} {k : Nat} {w : World} {g cap : Nat} {L : List α} (h : OwnK T f k w g cap L) : L.length ≤ cap := by
  rcases h.2 with ⟨h1, _⟩ | ⟨g', cap', cur, h1, hb', hh, hnc, _⟩
  · simp at h1
  · simp only [Value.slice.injEq] at h1; omega

/-- the first i elements laid, the rest still z -/
def partK {α : Type} (L : List α) (z : α) (i : Nat) : List α := L.take i ++ List.replicate (L.length - i) z
theorem partK_length {α : Type} {L : List α} {z : α} {i : Nat} (h : i ≤ L.length) : (partK L z i).length = L.length := by simp [partK]; omega
theorem partK_zero {α : Type} (L : List α) (z : α) : partK L z 0 = List.replicate L.length z := by simp [partK]
theorem partK_end {α : Type} (L : List α) (z : α) : partK L z L.length = L := by simp [partK]
theorem partK_set {α : Type} [Inhabited α] {L : List α} {z : α} {i : Nat} (h : i < L.length) : (partK L z i).set i (eAt L i) = partK L z (i + 1) := by
  have h1 : partK L z i = L.take i ++ z :: List.replicate (L.length - (i + 1)) z := by
    unfold partK; rw [show L.length - i = (L.length - (i + 1)) + 1 by omega, List.replicate_succ]
  have h2 : partK L z (i + 1) = L.take i ++ eAt L i :: List.replicate (L.length - (i + 1)) z := by
    unfold partK; rw [List.take_succ_eq_append_getElem h, eAt_in h, List.append_assoc]; rfl
  rw [h1, h2, List.set_append_right _ _ (by rw [List.length_take]; omega), List.length_take, Nat.min_eq_left (by omega), Nat.sub_self]; rfl
/-- the first i elements as m has them, the rest as they were -/
def partL {α : Type} (m : Nat → α) (L : List α) (i : Nat) : List α := (List.range i).map m ++ L.drop i
theorem partL_length {α : Type} {m : Nat → α} {L : List α} {i : Nat} (h : i ≤ L.length) : (partL m L i).length = L.length := by simp [partL]; omega
theorem partL_end {α : Type} {m : Nat → α} {L : List α} {i : Nat} (h : L.length ≤ i) : partL m L i = (List.range i).map m := by unfold partL; rw [List.drop_eq_nil_of_le h, List.append_nil]
theorem partL_set {α : Type} {m : Nat → α} {L : List α} {i : Nat} (h : i < L.length) : (partL m L i).set i (m i) = partL m L (i + 1) := by
  unfold partL
  rw [List.set_append_right _ _ (by simp), List.length_map, List.length_range, Nat.sub_self, List.drop_eq_getElem_cons h, List.set_cons_zero, List.range_succ, List.map_append, List.append_assoc]
  rfl
theorem rowOf_made {α : Type} {f : α → List Value} {x : α} {cs : Array Value} (hx : f x = cs.toList) (hp : 0 < cs.size) (n : Nat) : (madeCells cs (n * cs.size)).toList = rowOf f (List.replicate n x) := by
  have hk : ∀ y ∈ List.replicate n x, f y = cs.toList := fun y hy => by rw [(List.mem_replicate.1 hy).2]; exact hx
  induction n with
  | zero => simp [madeCells, rowOf]
  | succ n ih =>
    apply List.ext_getElem?
    intro j
    rw [List.replicate_succ, rowOf_cons, hx]
    by_cases hj : j < cs.size
    · rw [List.getElem?_append_left (by simpa using hj)]
      have h1 : j < (n + 1) * cs.size := by rw [Nat.succ_mul]; omega
      simp [madeCells, h1, Nat.mod_eq_of_lt hj, hj]
    · rw [List.getElem?_append_right (by simp; omega), ← ih (fun y hy => hk y (by rw [List.replicate_succ]; exact List.mem_cons_of_mem _ hy))]
      have hl : cs.toList.length = cs.size := by simp
      rw [hl]
      by_cases h1 : j < (n + 1) * cs.size
      · have h2 : j - cs.size < n * cs.size := by rw [Nat.succ_mul] at h1; omega
        have h3 : (j - cs.size) % cs.size = j % cs.size := by
          rw [← Nat.mod_eq_sub_mod (by omega)]
        simp [madeCells, h1, h2, h3]
      · have h2 : ¬ j - cs.size < n * cs.size := by rw [Nat.succ_mul] at h1; omega
        simp [madeCells, h1, h2]
theorem grown_belowM {w w1 w2 : World} {g : Nat} (h : w.grownBy w1 (some g)) (hb : Below w1.heap.size w1 w2) : w.grownBy w2 (some g) :=
  ⟨hb.os.trans h.os, hb.tape.trans h.tape, hb.output.trans h.output, Nat.le_trans h.size hb.size, fun i hi hne => (hb.block i (Nat.lt_of_lt_of_le hi h.size)).trans (h.block i hi hne)⟩
end Go.Proofs.Ytcfhpcbkdpgboaa
/-
  A fact that came in: its kind, and what its list of values reads as.
-/
namespace Go.Proofs.Ytcfhpcbkdpgboaa
open Go.ChangeShapes Go.WideShapes Go.ChangeAt Go.RowKit Go.Joins Go.Deep
set_option linter.unusedVariables false
set_option maxRecDepth 100000

/-- a list of values that came in -/
def IsVals (w : World) (a : Option Addr) (len cap : Nat) (L : List V3) : Prop := L.length = len ∧ len ≤ maxLen ∧ RdV w a L ∧ ∀ v ∈ L, v.S.size ≤ maxLen

theorem three_cells {H : Type} {enc : TypeId × Value → H} {w : World} {base : Nat} {spare : Nat → Bool} {held : Bool} {n : Nat} {cs : List Value} {x : DataW H × List MemPlace}
    (h : DataW.trod enc Try.prog w base spare held n 123 cs = some x) :
    ∃ K N S, cs = [.int .i64 K, .int .i64 N, .string S] ∧ S.size ≤ maxLen := by
  obtain ⟨y0, y1, y2, m, -, hl, h0, h1, h2⟩ := trod_struct3 Try.underlying123 h
  have hc : Try.prog.cellsOf 123 = 3 := by kernel_rfl
  have hi : Try.prog.cellsOf 3 = 1 := by kernel_rfl
  have hs : Try.prog.cellsOf 9 = 1 := by kernel_rfl
  rw [hc] at hl
  match cs, hl with
  | [c0, c1, c2], _ =>
    simp only [hi, hs, List.drop_zero, List.drop_succ_cons, List.take_succ_cons, List.take_zero] at h0 h1 h2
    obtain ⟨K, eK, _, _⟩ := DataW.trod_int Try.underlying3 h0
    obtain ⟨N, eN, _, _⟩ := DataW.trod_int Try.underlying3 h1
    obtain ⟨S, eS, _, wS⟩ := DataW.trod_string Try.underlying9 h2
    simp only [List.cons.injEq, and_true] at eK eN eS
    exact ⟨K, N, S, by rw [eK, eN, eS], wS⟩

end Go.Proofs.Ytcfhpcbkdpgboaa
/-
  Rows of Args: what a slice of them reads as, what came in.
-/
namespace Go.Proofs.Ytcfhpcbkdpgboaa
open Go.ChangeShapes Go.WideShapes Go.ChangeAt Go.RowKit Go.Joins Go.Deep
set_option linter.unusedVariables false
set_option maxRecDepth 100000

structure A5 where
  K : Int
  S : ByteArray
  V : V3
instance : Inhabited A5 := ⟨⟨0, ⟨#[]⟩, default⟩⟩
def A5.cs (x : A5) : List Value := [.int .i64 x.K, .string x.S, .int .i64 x.V.K, .int .i64 x.V.N, .string x.V.S]
theorem A5.len (x : A5) : x.cs.length = 5 := rfl
def A5.fits (x : A5) : Prop := x.S.size ≤ maxLen ∧ x.V.S.size ≤ maxLen
def A5.small (x : A5) : Prop := x.S.size ≤ 1048576 ∧ x.V.S.size ≤ 1048576
def A5.zero : A5 := ⟨0, ⟨#[]⟩, ⟨0, 0, ⟨#[]⟩⟩⟩
abbrev RdArg (w : World) (a : Option Addr) (L : List A5) : Prop := RdK A5.cs 5 w a L
theorem RdArg.cells {w : World} {a : Option Addr} {L : List A5} (h : RdArg w a L) (hp : 0 < L.length) :
    ∃ b off, a = some ⟨b, off, none⟩ ∧ b < w.heap.size ∧ ∀ i, i < L.length → w.cell? ⟨b, off + i * 5, none⟩ = some (.int .i64 (eAt L i).K) ∧ w.cell? ⟨b, off + i * 5 + 1, none⟩ = some (.string (eAt L i).S) ∧ w.cell? ⟨b, off + i * 5 + 2, none⟩ = some (.int .i64 (eAt L i).V.K) ∧ w.cell? ⟨b, off + i * 5 + 3, none⟩ = some (.int .i64 (eAt L i).V.N) ∧ w.cell? ⟨b, off + i * 5 + 4, none⟩ = some (.string (eAt L i).V.S) := by
  obtain ⟨b, off, e, hb, hc⟩ := RdK.open A5.len (by decide) h hp
  refine ⟨b, off, e, hb, fun i hi => ?_⟩
  have hc := hc i hi
  exact ⟨hc 0 _ rfl, hc 1 _ rfl, hc 2 _ rfl, hc 3 _ rfl, hc 4 _ rfl⟩
def IsArgs (w : World) (a : Option Addr) (len cap : Nat) (L : List A5) : Prop := L.length = len ∧ len ≤ maxLen ∧ RdArg w a L ∧ ∀ x ∈ L, x.fits

theorem arg_cells {H : Type} {enc : TypeId × Value → H} {w : World} {base : Nat} {spare : Nat → Bool} {held : Bool} {n : Nat} {cs : List Value} {x : DataW H × List MemPlace}
    (h : DataW.trod enc Try.prog w base spare held n 125 cs = some x) : ∃ y : A5, cs = y.cs ∧ y.fits := by
  obtain ⟨y0, y1, y2, m, -, hl, h0, h1, h2⟩ := trod_struct3 Try.underlying125 h
  have hc : Try.prog.cellsOf 125 = 5 := by kernel_rfl
  have hi : Try.prog.cellsOf 3 = 1 := by kernel_rfl
  have hs : Try.prog.cellsOf 9 = 1 := by kernel_rfl
  have hv : Try.prog.cellsOf 123 = 3 := by kernel_rfl
  rw [hc] at hl
  match cs, hl with
  | [c0, c1, c2, c3, c4], _ =>
    simp only [hi, hs, hv, List.drop_zero, List.drop_succ_cons, List.take_succ_cons, List.take_zero] at h0 h1 h2
    obtain ⟨K, eK, _, _⟩ := DataW.trod_int Try.underlying3 h0
    obtain ⟨S, eS, _, wS⟩ := DataW.trod_string Try.underlying9 h1
    obtain ⟨VK, VN, VS, eV, wVS⟩ := three_cells h2
    simp only [List.cons.injEq, and_true] at eK eS eV
    obtain ⟨e0, e1, e2⟩ := eV
    exact ⟨⟨K, S, ⟨VK, VN, VS⟩⟩, by rw [eK, eS, e0, e1, e2]; rfl, wS, wVS⟩

theorem arg_in {H : Type} {enc : TypeId × Value → H} {w : World} {base b0 : Nat} {spare : Nat → Bool} {held : Bool} {r : Reach} {v : Value} {d : DataW H} {p : List MemPlace}
    (hv : Value.okWide Try.prog w r b0 125 v) (h : DataW.Trod enc Try.prog w base spare held 125 v d p) : ∃ (K : Int) (S : ByteArray) (VK : Int) (VN : Int) (VS : ByteArray), v = .agg #[.int .i64 K, .string S, .int .i64 VK, .int .i64 VN, .string VS] ∧ S.size ≤ maxLen ∧ VS.size ≤ maxLen := by
  obtain ⟨cs, rfl, hsz⟩ := okWide_struct Try.underlying125 hv
  obtain ⟨fuel, hf⟩ := h
  obtain ⟨y, e, hy⟩ := arg_cells hf
  refine ⟨y.K, y.S, y.V.K, y.V.N, y.V.S, ?_, hy⟩
  have e2 : cs.toList = y.cs := e
  rw [← Array.toArray_toList (xs := cs), e2]
  rfl
theorem args_in {H : Type} {enc : TypeId × Value → H} {w : World} {spare : Nat → Bool} {held : Bool} {n : Nat} {v : Value} {x : DataW H × List MemPlace}
    (h : DataW.trod enc Try.prog w 0 spare held n 119 [v] = some x) : ∃ a len cap L, v = .slice a len cap ∧ IsArgs w a len cap L := by
  have hc : Try.prog.cellsOf 125 = 5 := by kernel_rfl
  rcases open_slice Try.underlying119 h with ⟨h0, _⟩ | ⟨a, len, cap, m, n', D, Pl, h0, hb, hl, hm, hmm, _, hx⟩
  · simp only [List.cons.injEq, and_true] at h0
    exact ⟨none, 0, 0, [], h0, rfl, Nat.zero_le _, RdK.nil _ _ _ _, fun v hv => by cases hv⟩
  · simp only [List.cons.injEq, and_true] at h0
    have hlm : len ≤ m := by rw [hmm]; split <;> omega
    obtain ⟨F, hF⟩ := choose_lt (α := A5) (n := len) (p := fun i v => w.cells? 0 (a.add (i * 5)) 5 = some v.cs ∧ v.fits) (fun i hi => by
      obtain ⟨cs', h1, h2⟩ := hx i (by omega)
      rw [hc] at h1
      obtain ⟨y, rfl, hs⟩ := arg_cells h2
      exact ⟨y, h1, hs⟩)
    refine ⟨some a, len, cap, (List.range len).map F, h0, by simp, Nat.le_trans hl hm, fun i hi => ?_, fun v hv => ?_⟩
    · have hi2 : i < len := by simpa using hi
      obtain ⟨_, _, hcell⟩ := World.cells?_some (hF i hi2).1
      obtain ⟨b, off, spot⟩ := a
      have hs : spot = none := by
        obtain ⟨_, _, hcell0⟩ := World.cells?_some (hF 0 (by omega)).1
        have e := hcell0 0 (by omega)
        rw [add_add] at e
        simp only [A5.cs, List.getElem?_cons_zero] at e
        simpa [Addr.add] using World.cell?_spot e
      subst hs
      have ev : eAt ((List.range len).map F) i = F i := by rw [eAt_in hi]; simp
      rw [ev]
      refine ⟨b, off, rfl, fun j c hj => ?_⟩
      have hjk : j < 5 := by rw [← (F i).len]; exact (List.getElem?_eq_some_iff.1 hj).1
      have e := hcell j hjk
      rw [add_add, Addr.add_lit, hj] at e
      simpa [Nat.add_assoc] using e
    · obtain ⟨i, hi, rfl⟩ := List.mem_map.1 hv
      exact (hF i (List.mem_range.1 hi)).2
theorem rowOf_set_A5 (x : A5) : ∀ (L : List A5) (i : Nat), i < L.length →
    ((((((rowOf A5.cs L).set (i * 5) (.int .i64 x.K)).set (i * 5 + 1) (.string x.S)).set (i * 5 + 2) (.int .i64 x.V.K)).set (i * 5 + 3) (.int .i64 x.V.N)).set (i * 5 + 4) (.string x.V.S)) = rowOf A5.cs (L.set i x)
  | [], i, hi => absurd hi (Nat.not_lt_zero _)
  | y :: r, 0, hi => by
    rw [List.set_cons_zero, rowOf_cons, rowOf_cons]
    rfl
  | y :: r, i + 1, hi => by
    have ih := rowOf_set_A5 x r i (by simpa using hi)
    rw [List.set_cons_succ, rowOf_cons, rowOf_cons, ← ih]
    simp only [Nat.succ_mul, A5.cs]
    rfl
abbrev OwnArg (w : World) (g cap : Nat) (L : List A5) : Prop := OwnK 77 A5.cs 5 w g cap L
theorem rdOwnArg {w : World} {g cap : Nat} {L : List A5} (h : OwnArg w g cap L) : RdArg w (some ⟨g, 0, none⟩) L := OwnK.rd A5.len (by decide) h
end Go.Proofs.Ytcfhpcbkdpgboaa
/-
  Rows of Conds: what a slice of them reads as, what came in.
-/
namespace Go.Proofs.Ytcfhpcbkdpgboaa
open Go.ChangeShapes Go.WideShapes Go.ChangeAt Go.RowKit Go.Joins Go.Deep
set_option linter.unusedVariables false
set_option maxRecDepth 100000

structure C11 where
  Op : Int
  L : A5
  R : A5
instance : Inhabited C11 := ⟨⟨0, default, default⟩⟩
def C11.cs (x : C11) : List Value := [.int .i64 x.Op, .int .i64 x.L.K, .string x.L.S, .int .i64 x.L.V.K, .int .i64 x.L.V.N, .string x.L.V.S, .int .i64 x.R.K, .string x.R.S, .int .i64 x.R.V.K, .int .i64 x.R.V.N, .string x.R.V.S]
theorem C11.len (x : C11) : x.cs.length = 11 := rfl
def C11.fits (x : C11) : Prop := x.L.fits ∧ x.R.fits
def C11.small (x : C11) : Prop := x.L.small ∧ x.R.small
def C11.zero : C11 := ⟨0, A5.zero, A5.zero⟩
abbrev RdCond (w : World) (a : Option Addr) (L : List C11) : Prop := RdK C11.cs 11 w a L
theorem RdCond.cells {w : World} {a : Option Addr} {L : List C11} (h : RdCond w a L) (hp : 0 < L.length) :
    ∃ b off, a = some ⟨b, off, none⟩ ∧ b < w.heap.size ∧ ∀ i, i < L.length → w.cell? ⟨b, off + i * 11, none⟩ = some (.int .i64 (eAt L i).Op) ∧ w.cell? ⟨b, off + i * 11 + 1, none⟩ = some (.int .i64 (eAt L i).L.K) ∧ w.cell? ⟨b, off + i * 11 + 2, none⟩ = some (.string (eAt L i).L.S) ∧ w.cell? ⟨b, off + i * 11 + 3, none⟩ = some (.int .i64 (eAt L i).L.V.K) ∧ w.cell? ⟨b, off + i * 11 + 4, none⟩ = some (.int .i64 (eAt L i).L.V.N) ∧ w.cell? ⟨b, off + i * 11 + 5, none⟩ = some (.string (eAt L i).L.V.S) ∧ w.cell? ⟨b, off + i * 11 + 6, none⟩ = some (.int .i64 (eAt L i).R.K) ∧ w.cell? ⟨b, off + i * 11 + 7, none⟩ = some (.string (eAt L i).R.S) ∧ w.cell? ⟨b, off + i * 11 + 8, none⟩ = some (.int .i64 (eAt L i).R.V.K) ∧ w.cell? ⟨b, off + i * 11 + 9, none⟩ = some (.int .i64 (eAt L i).R.V.N) ∧ w.cell? ⟨b, off + i * 11 + 10, none⟩ = some (.string (eAt L i).R.V.S) := by
  obtain ⟨b, off, e, hb, hc⟩ := RdK.open C11.len (by decide) h hp
  refine ⟨b, off, e, hb, fun i hi => ?_⟩
  have hc := hc i hi
  exact ⟨hc 0 _ rfl, hc 1 _ rfl, hc 2 _ rfl, hc 3 _ rfl, hc 4 _ rfl, hc 5 _ rfl, hc 6 _ rfl, hc 7 _ rfl, hc 8 _ rfl, hc 9 _ rfl, hc 10 _ rfl⟩
def IsConds (w : World) (a : Option Addr) (len cap : Nat) (L : List C11) : Prop := L.length = len ∧ len ≤ maxLen ∧ RdCond w a L ∧ ∀ x ∈ L, x.fits

theorem cond_cells {H : Type} {enc : TypeId × Value → H} {w : World} {base : Nat} {spare : Nat → Bool} {held : Bool} {n : Nat} {cs : List Value} {x : DataW H × List MemPlace}
    (h : DataW.trod enc Try.prog w base spare held n 127 cs = some x) : ∃ y : C11, cs = y.cs ∧ y.fits := by
  obtain ⟨y0, y1, y2, m, -, hl, h0, h1, h2⟩ := trod_struct3 Try.underlying127 h
  have hc : Try.prog.cellsOf 127 = 11 := by kernel_rfl
  have hi : Try.prog.cellsOf 3 = 1 := by kernel_rfl
  have ha : Try.prog.cellsOf 125 = 5 := by kernel_rfl
  rw [hc] at hl
  match cs, hl with
  | [c0, c1, c2, c3, c4, c5, c6, c7, c8, c9, c10], _ =>
    simp only [hi, ha, List.drop_zero, List.drop_succ_cons, List.take_succ_cons, List.take_zero] at h0 h1 h2
    obtain ⟨O, eO, _, _⟩ := DataW.trod_int Try.underlying3 h0
    obtain ⟨l, el, fl⟩ := arg_cells h1
    obtain ⟨r, er, fr⟩ := arg_cells h2
    simp only [A5.cs, List.cons.injEq, and_true] at eO el er
    obtain ⟨e1, e2, e3, e4, e5⟩ := el
    obtain ⟨e6, e7, e8, e9, e10⟩ := er
    exact ⟨⟨O, l, r⟩, by rw [eO, e1, e2, e3, e4, e5, e6, e7, e8, e9, e10]; rfl, fl, fr⟩

theorem cond_in {H : Type} {enc : TypeId × Value → H} {w : World} {base b0 : Nat} {spare : Nat → Bool} {held : Bool} {r : Reach} {v : Value} {d : DataW H} {p : List MemPlace}
    (hv : Value.okWide Try.prog w r b0 127 v) (h : DataW.Trod enc Try.prog w base spare held 127 v d p) : ∃ x : C11, v = .agg #[.int .i64 x.Op, .int .i64 x.L.K, .string x.L.S, .int .i64 x.L.V.K, .int .i64 x.L.V.N, .string x.L.V.S, .int .i64 x.R.K, .string x.R.S, .int .i64 x.R.V.K, .int .i64 x.R.V.N, .string x.R.V.S] ∧ x.fits := by
  obtain ⟨cs, rfl, hsz⟩ := okWide_struct Try.underlying127 hv
  obtain ⟨fuel, hf⟩ := h
  obtain ⟨y, e, hy⟩ := cond_cells hf
  refine ⟨y, ?_, hy⟩
  have e2 : cs.toList = y.cs := e
  rw [← Array.toArray_toList (xs := cs), e2]
  rfl
theorem conds_in {H : Type} {enc : TypeId × Value → H} {w : World} {spare : Nat → Bool} {held : Bool} {n : Nat} {v : Value} {x : DataW H × List MemPlace}
    (h : DataW.trod enc Try.prog w 0 spare held n 69 [v] = some x) : ∃ a len cap L, v = .slice a len cap ∧ IsConds w a len cap L := by
  have hc : Try.prog.cellsOf 127 = 11 := by kernel_rfl
  rcases open_slice Try.underlying69 h with ⟨h0, _⟩ | ⟨a, len, cap, m, n', D, Pl, h0, hb, hl, hm, hmm, _, hx⟩
  · simp only [List.cons.injEq, and_true] at h0
    exact ⟨none, 0, 0, [], h0, rfl, Nat.zero_le _, RdK.nil _ _ _ _, fun v hv => by cases hv⟩
  · simp only [List.cons.injEq, and_true] at h0
    have hlm : len ≤ m := by rw [hmm]; split <;> omega
    obtain ⟨F, hF⟩ := choose_lt (α := C11) (n := len) (p := fun i v => w.cells? 0 (a.add (i * 11)) 11 = some v.cs ∧ v.fits) (fun i hi => by
      obtain ⟨cs', h1, h2⟩ := hx i (by omega)
      rw [hc] at h1
      obtain ⟨y, rfl, hs⟩ := cond_cells h2
      exact ⟨y, h1, hs⟩)
    refine ⟨some a, len, cap, (List.range len).map F, h0, by simp, Nat.le_trans hl hm, fun i hi => ?_, fun v hv => ?_⟩
    · have hi2 : i < len := by simpa using hi
      obtain ⟨_, _, hcell⟩ := World.cells?_some (hF i hi2).1
      obtain ⟨b, off, spot⟩ := a
      have hs : spot = none := by
        obtain ⟨_, _, hcell0⟩ := World.cells?_some (hF 0 (by omega)).1
        have e := hcell0 0 (by omega)
        rw [add_add] at e
        simp only [C11.cs, List.getElem?_cons_zero] at e
        simpa [Addr.add] using World.cell?_spot e
      subst hs
      have ev : eAt ((List.range len).map F) i = F i := by rw [eAt_in hi]; simp
      rw [ev]
      refine ⟨b, off, rfl, fun j c hj => ?_⟩
      have hjk : j < 11 := by rw [← (F i).len]; exact (List.getElem?_eq_some_iff.1 hj).1
      have e := hcell j hjk
      rw [add_add, Addr.add_lit, hj] at e
      simpa [Nat.add_assoc] using e
    · obtain ⟨i, hi, rfl⟩ := List.mem_map.1 hv
      exact (hF i (List.mem_range.1 hi)).2
theorem rowOf_set_C11 (x : C11) : ∀ (L : List C11) (i : Nat), i < L.length →
    ((((((((((((rowOf C11.cs L).set (i * 11) (.int .i64 x.Op)).set (i * 11 + 1) (.int .i64 x.L.K)).set (i * 11 + 2) (.string x.L.S)).set (i * 11 + 3) (.int .i64 x.L.V.K)).set (i * 11 + 4) (.int .i64 x.L.V.N)).set (i * 11 + 5) (.string x.L.V.S)).set (i * 11 + 6) (.int .i64 x.R.K)).set (i * 11 + 7) (.string x.R.S)).set (i * 11 + 8) (.int .i64 x.R.V.K)).set (i * 11 + 9) (.int .i64 x.R.V.N)).set (i * 11 + 10) (.string x.R.V.S)) = rowOf C11.cs (L.set i x)
  | [], i, hi => absurd hi (Nat.not_lt_zero _)
  | y :: r, 0, hi => by
    rw [List.set_cons_zero, rowOf_cons, rowOf_cons]
    rfl
  | y :: r, i + 1, hi => by
    have ih := rowOf_set_C11 x r i (by simpa using hi)
    rw [List.set_cons_succ, rowOf_cons, rowOf_cons, ← ih]
    simp only [Nat.succ_mul, C11.cs]
    rfl
abbrev OwnCond (w : World) (g cap : Nat) (L : List C11) : Prop := OwnK 79 C11.cs 11 w g cap L
theorem rdOwnCond {w : World} {g cap : Nat} {L : List C11} (h : OwnCond w g cap L) : RdCond w (some ⟨g, 0, none⟩) L := OwnK.rd C11.len (by decide) h
end Go.Proofs.Ytcfhpcbkdpgboaa
/-
  Rows of Exprs: what a slice of them reads as, what came in.
-/
namespace Go.Proofs.Ytcfhpcbkdpgboaa
open Go.ChangeShapes Go.WideShapes Go.ChangeAt Go.RowKit Go.Joins Go.Deep
set_option linter.unusedVariables false
set_option maxRecDepth 100000

structure X11 where
  Op : ByteArray
  L : A5
  R : A5
instance : Inhabited X11 := ⟨⟨⟨#[]⟩, default, default⟩⟩
def X11.cs (x : X11) : List Value := [.string x.Op, .int .i64 x.L.K, .string x.L.S, .int .i64 x.L.V.K, .int .i64 x.L.V.N, .string x.L.V.S, .int .i64 x.R.K, .string x.R.S, .int .i64 x.R.V.K, .int .i64 x.R.V.N, .string x.R.V.S]
theorem X11.len (x : X11) : x.cs.length = 11 := rfl
def X11.fits (x : X11) : Prop := x.Op.size ≤ maxLen ∧ x.L.fits ∧ x.R.fits
def X11.small (x : X11) : Prop := x.Op.size ≤ 1048576 ∧ x.L.small ∧ x.R.small
def X11.zero : X11 := ⟨⟨#[]⟩, A5.zero, A5.zero⟩
abbrev RdExpr (w : World) (a : Option Addr) (L : List X11) : Prop := RdK X11.cs 11 w a L
theorem RdExpr.cells {w : World} {a : Option Addr} {L : List X11} (h : RdExpr w a L) (hp : 0 < L.length) :
    ∃ b off, a = some ⟨b, off, none⟩ ∧ b < w.heap.size ∧ ∀ i, i < L.length → w.cell? ⟨b, off + i * 11, none⟩ = some (.string (eAt L i).Op) ∧ w.cell? ⟨b, off + i * 11 + 1, none⟩ = some (.int .i64 (eAt L i).L.K) ∧ w.cell? ⟨b, off + i * 11 + 2, none⟩ = some (.string (eAt L i).L.S) ∧ w.cell? ⟨b, off + i * 11 + 3, none⟩ = some (.int .i64 (eAt L i).L.V.K) ∧ w.cell? ⟨b, off + i * 11 + 4, none⟩ = some (.int .i64 (eAt L i).L.V.N) ∧ w.cell? ⟨b, off + i * 11 + 5, none⟩ = some (.string (eAt L i).L.V.S) ∧ w.cell? ⟨b, off + i * 11 + 6, none⟩ = some (.int .i64 (eAt L i).R.K) ∧ w.cell? ⟨b, off + i * 11 + 7, none⟩ = some (.string (eAt L i).R.S) ∧ w.cell? ⟨b, off + i * 11 + 8, none⟩ = some (.int .i64 (eAt L i).R.V.K) ∧ w.cell? ⟨b, off + i * 11 + 9, none⟩ = some (.int .i64 (eAt L i).R.V.N) ∧ w.cell? ⟨b, off + i * 11 + 10, none⟩ = some (.string (eAt L i).R.V.S) := by
  obtain ⟨b, off, e, hb, hc⟩ := RdK.open X11.len (by decide) h hp
  refine ⟨b, off, e, hb, fun i hi => ?_⟩
  have hc := hc i hi
  exact ⟨hc 0 _ rfl, hc 1 _ rfl, hc 2 _ rfl, hc 3 _ rfl, hc 4 _ rfl, hc 5 _ rfl, hc 6 _ rfl, hc 7 _ rfl, hc 8 _ rfl, hc 9 _ rfl, hc 10 _ rfl⟩
def IsExprs (w : World) (a : Option Addr) (len cap : Nat) (L : List X11) : Prop := L.length = len ∧ len ≤ maxLen ∧ RdExpr w a L ∧ ∀ x ∈ L, x.fits

theorem expr_cells {H : Type} {enc : TypeId × Value → H} {w : World} {base : Nat} {spare : Nat → Bool} {held : Bool} {n : Nat} {cs : List Value} {x : DataW H × List MemPlace}
    (h : DataW.trod enc Try.prog w base spare held n 155 cs = some x) : ∃ y : X11, cs = y.cs ∧ y.fits := by
  obtain ⟨y0, y1, y2, m, -, hl, h0, h1, h2⟩ := trod_struct3 Try.underlying155 h
  have hc : Try.prog.cellsOf 155 = 11 := by kernel_rfl
  have hi : Try.prog.cellsOf 9 = 1 := by kernel_rfl
  have ha : Try.prog.cellsOf 125 = 5 := by kernel_rfl
  rw [hc] at hl
  match cs, hl with
  | [c0, c1, c2, c3, c4, c5, c6, c7, c8, c9, c10], _ =>
    simp only [hi, ha, List.drop_zero, List.drop_succ_cons, List.take_succ_cons, List.take_zero] at h0 h1 h2
    obtain ⟨O, eO, _, wO⟩ := DataW.trod_string Try.underlying9 h0
    obtain ⟨l, el, fl⟩ := arg_cells h1
    obtain ⟨r, er, fr⟩ := arg_cells h2
    simp only [A5.cs, List.cons.injEq, and_true] at eO el er
    obtain ⟨e1, e2, e3, e4, e5⟩ := el
    obtain ⟨e6, e7, e8, e9, e10⟩ := er
    exact ⟨⟨O, l, r⟩, by rw [eO, e1, e2, e3, e4, e5, e6, e7, e8, e9, e10]; rfl, wO, fl, fr⟩

theorem expr_in {H : Type} {enc : TypeId × Value → H} {w : World} {base b0 : Nat} {spare : Nat → Bool} {held : Bool} {r : Reach} {v : Value} {d : DataW H} {p : List MemPlace}
    (hv : Value.okWide Try.prog w r b0 155 v) (h : DataW.Trod enc Try.prog w base spare held 155 v d p) : ∃ x : X11, v = .agg #[.string x.Op, .int .i64 x.L.K, .string x.L.S, .int .i64 x.L.V.K, .int .i64 x.L.V.N, .string x.L.V.S, .int .i64 x.R.K, .string x.R.S, .int .i64 x.R.V.K, .int .i64 x.R.V.N, .string x.R.V.S] ∧ x.fits := by
  obtain ⟨cs, rfl, hsz⟩ := okWide_struct Try.underlying155 hv
  obtain ⟨fuel, hf⟩ := h
  obtain ⟨y, e, hy⟩ := expr_cells hf
  refine ⟨y, ?_, hy⟩
  have e2 : cs.toList = y.cs := e
  rw [← Array.toArray_toList (xs := cs), e2]
  rfl
theorem exprs_in {H : Type} {enc : TypeId × Value → H} {w : World} {spare : Nat → Bool} {held : Bool} {n : Nat} {v : Value} {x : DataW H × List MemPlace}
    (h : DataW.trod enc Try.prog w 0 spare held n 129 [v] = some x) : ∃ a len cap L, v = .slice a len cap ∧ IsExprs w a len cap L := by
  have hc : Try.prog.cellsOf 155 = 11 := by kernel_rfl
  rcases open_slice Try.underlying129 h with ⟨h0, _⟩ | ⟨a, len, cap, m, n', D, Pl, h0, hb, hl, hm, hmm, _, hx⟩
  · simp only [List.cons.injEq, and_true] at h0
    exact ⟨none, 0, 0, [], h0, rfl, Nat.zero_le _, RdK.nil _ _ _ _, fun v hv => by cases hv⟩
  · simp only [List.cons.injEq, and_true] at h0
    have hlm : len ≤ m := by rw [hmm]; split <;> omega
    obtain ⟨F, hF⟩ := choose_lt (α := X11) (n := len) (p := fun i v => w.cells? 0 (a.add (i * 11)) 11 = some v.cs ∧ v.fits) (fun i hi => by
      obtain ⟨cs', h1, h2⟩ := hx i (by omega)
      rw [hc] at h1
      obtain ⟨y, rfl, hs⟩ := expr_cells h2
      exact ⟨y, h1, hs⟩)
    refine ⟨some a, len, cap, (List.range len).map F, h0, by simp, Nat.le_trans hl hm, fun i hi => ?_, fun v hv => ?_⟩
    · have hi2 : i < len := by simpa using hi
      obtain ⟨_, _, hcell⟩ := World.cells?_some (hF i hi2).1
      obtain ⟨b, off, spot⟩ := a
      have hs : spot = none := by
        obtain ⟨_, _, hcell0⟩ := World.cells?_some (hF 0 (by omega)).1
        have e := hcell0 0 (by omega)
        rw [add_add] at e
        simp only [X11.cs, List.getElem?_cons_zero] at e
        simpa [Addr.add] using World.cell?_spot e
      subst hs
      have ev : eAt ((List.range len).map F) i = F i := by rw [eAt_in hi]; simp
      rw [ev]
      refine ⟨b, off, rfl, fun j c hj => ?_⟩
      have hjk : j < 11 := by rw [← (F i).len]; exact (List.getElem?_eq_some_iff.1 hj).1
      have e := hcell j hjk
      rw [add_add, Addr.add_lit, hj] at e
      simpa [Nat.add_assoc] using e
    · obtain ⟨i, hi, rfl⟩ := List.mem_map.1 hv
      exact (hF i (List.mem_range.1 hi)).2
theorem rowOf_set_X11 (x : X11) : ∀ (L : List X11) (i : Nat), i < L.length →
    ((((((((((((rowOf X11.cs L).set (i * 11) (.string x.Op)).set (i * 11 + 1) (.int .i64 x.L.K)).set (i * 11 + 2) (.string x.L.S)).set (i * 11 + 3) (.int .i64 x.L.V.K)).set (i * 11 + 4) (.int .i64 x.L.V.N)).set (i * 11 + 5) (.string x.L.V.S)).set (i * 11 + 6) (.int .i64 x.R.K)).set (i * 11 + 7) (.string x.R.S)).set (i * 11 + 8) (.int .i64 x.R.V.K)).set (i * 11 + 9) (.int .i64 x.R.V.N)).set (i * 11 + 10) (.string x.R.V.S)) = rowOf X11.cs (L.set i x)
  | [], i, hi => absurd hi (Nat.not_lt_zero _)
  | y :: r, 0, hi => by
    rw [List.set_cons_zero, rowOf_cons, rowOf_cons]
    rfl
  | y :: r, i + 1, hi => by
    have ih := rowOf_set_X11 x r i (by simpa using hi)
    rw [List.set_cons_succ, rowOf_cons, rowOf_cons, ← ih]
    simp only [Nat.succ_mul, X11.cs]
    rfl
abbrev OwnExpr (w : World) (g cap : Nat) (L : List X11) : Prop := OwnK 104 X11.cs 11 w g cap L
theorem rdOwnExpr {w : World} {g cap : Nat} {L : List X11} (h : OwnExpr w g cap L) : RdExpr w (some ⟨g, 0, none⟩) L := OwnK.rd X11.len (by decide) h
end Go.Proofs.Ytcfhpcbkdpgboaa
/-
  Structs compared, cell by cell: values, arguments, conditions, terms. Two lists are the same, or part at a place.
-/
namespace Go.Proofs.Ytcfhpcbkdpgboaa
open Go.RowKit
set_option linter.unusedVariables false

theorem eq_ext {α : Type} [Inhabited α] {L M : List α} (hl : L.length = M.length) (h : ∀ i, i < L.length → eAt L i = eAt M i) : L = M := by
  apply List.ext_getElem hl
  intro i h1 h2
  have := h i h1
  rw [eAt_in h1, eAt_in h2] at this
  exact this
theorem eqV_run (v u : V3) (w : World) (d : Nat) : (Op.equalIn (d + 3) 75 (.agg #[.int .i64 v.K, .int .i64 v.N, .string v.S]) (.agg #[.int .i64 u.K, .int .i64 u.N, .string u.S])).run Try.prog w = .ok (decide (v = u)) w := by
  rcases v3_cases v u with rfl | ⟨hne, hv⟩
  · have k1 : (v.K == v.K) = true := by simp
    have k2 : (v.N == v.N) = true := by simp
    have k3 : (v.S.toList == v.S.toList) = true := by simp
    rw [decide_eq_true rfl]
    go_simp
  · rw [decide_eq_false hne]
    clear hne
    rcases hv with k1 | ⟨k1, k2⟩ | ⟨k1, k2, k3⟩ <;> go_simp
/-- two arguments are the same -/
def eqAb (x y : A5) : Bool := decide (x.K = y.K) && decide (x.S = y.S) && decide (x.V = y.V)
theorem eqAb_iff (x y : A5) : eqAb x y = true ↔ x = y := by
  obtain ⟨K, S, V⟩ := x
  obtain ⟨K', S', U⟩ := y
  simp [eqAb, and_assoc]
theorem eqA_run (x y : A5) (w : World) (d : Nat) : (Op.equalIn (d + 5) 77 (.agg #[.int .i64 x.K, .string x.S, .int .i64 x.V.K, .int .i64 x.V.N, .string x.V.S]) (.agg #[.int .i64 y.K, .string y.S, .int .i64 y.V.K, .int .i64 y.V.N, .string y.V.S])).run Try.prog w = .ok (eqAb x y) w := by
  have hv := fun w => eqV_run x.V y.V w (d + 1)
  unfold eqAb
  by_cases h1 : x.K = y.K
  · rw [h1]
    have k1 : (y.K == y.K) = true := by simp
    by_cases h2 : x.S = y.S
    · rw [h2]
      have k2 : (y.S.toList == y.S.toList) = true := by simp
      simp only [decide_true, Bool.true_and]
      generalize decide (x.V = y.V) = r at hv ⊢
      clear h1 h2
      cases r <;> go_simp
    · have k2 : (x.S.toList == y.S.toList) = false := by
        simp only [beq_eq_false_iff_ne, ne_eq]
        exact fun e => h2 (toList_inj e)
      simp only [decide_true, decide_eq_false h2, Bool.and_false, Bool.false_and]
      clear h1 h2
      go_simp
  · have k1 : (x.K == y.K) = false := by simpa using h1
    simp only [decide_eq_false h1, Bool.false_and]
    clear h1
    go_simp
/-- two conditions are the same -/
def eqCb (x y : C11) : Bool := decide (x.Op = y.Op) && eqAb x.L y.L && eqAb x.R y.R
theorem eqCb_iff (x y : C11) : eqCb x y = true ↔ x = y := by
  obtain ⟨O, L, R⟩ := x
  obtain ⟨O', L', R'⟩ := y
  simp [eqCb, eqAb_iff, and_assoc]
theorem eqC_run (x y : C11) (w : World) (d : Nat) : (Op.equalIn (d + 7) 79 (.agg #[.int .i64 x.Op, .int .i64 x.L.K, .string x.L.S, .int .i64 x.L.V.K, .int .i64 x.L.V.N, .string x.L.V.S, .int .i64 x.R.K, .string x.R.S, .int .i64 x.R.V.K, .int .i64 x.R.V.N, .string x.R.V.S]) (.agg #[.int .i64 y.Op, .int .i64 y.L.K, .string y.L.S, .int .i64 y.L.V.K, .int .i64 y.L.V.N, .string y.L.V.S, .int .i64 y.R.K, .string y.R.S, .int .i64 y.R.V.K, .int .i64 y.R.V.N, .string y.R.V.S])).run Try.prog w = .ok (eqCb x y) w := by
  have hl := fun w => eqA_run x.L y.L w (d + 1)
  have hr := fun w => eqA_run x.R y.R w (d + 1)
  unfold eqCb
  generalize eqAb x.L y.L = bl at hl ⊢
  generalize eqAb x.R y.R = br at hr ⊢
  by_cases h1 : x.Op = y.Op
  · rw [h1]
    have k1 : (y.Op == y.Op) = true := by simp
    simp only [decide_true, Bool.true_and]
    clear h1
    cases bl <;> cases br <;> go_simp
  · have k1 : (x.Op == y.Op) = false := by simpa using h1
    simp only [decide_eq_false h1, Bool.false_and]
    clear h1
    go_simp
/-- two terms are the same -/
def eqXb (x y : X11) : Bool := decide (x.Op = y.Op) && eqAb x.L y.L && eqAb x.R y.R
theorem eqXb_iff (x y : X11) : eqXb x y = true ↔ x = y := by
  obtain ⟨O, L, R⟩ := x
  obtain ⟨O', L', R'⟩ := y
  simp [eqXb, eqAb_iff, and_assoc]
theorem eqX_run (x y : X11) (w : World) (d : Nat) : (Op.equalIn (d + 7) 104 (.agg #[.string x.Op, .int .i64 x.L.K, .string x.L.S, .int .i64 x.L.V.K, .int .i64 x.L.V.N, .string x.L.V.S, .int .i64 x.R.K, .string x.R.S, .int .i64 x.R.V.K, .int .i64 x.R.V.N, .string x.R.V.S]) (.agg #[.string y.Op, .int .i64 y.L.K, .string y.L.S, .int .i64 y.L.V.K, .int .i64 y.L.V.N, .string y.L.V.S, .int .i64 y.R.K, .string y.R.S, .int .i64 y.R.V.K, .int .i64 y.R.V.N, .string y.R.V.S])).run Try.prog w = .ok (eqXb x y) w := by
  have hl := fun w => eqA_run x.L y.L w (d + 1)
  have hr := fun w => eqA_run x.R y.R w (d + 1)
  unfold eqXb
  generalize eqAb x.L y.L = bl at hl ⊢
  generalize eqAb x.R y.R = br at hr ⊢
  by_cases h1 : x.Op = y.Op
  · rw [h1]
    have k1 : (y.Op.toList == y.Op.toList) = true := by simp
    simp only [decide_true, Bool.true_and]
    clear h1
    cases bl <;> cases br <;> go_simp
  · have k1 : (x.Op.toList == y.Op.toList) = false := by
      simp only [beq_eq_false_iff_ne, ne_eq]
      exact fun e => h1 (toList_inj e)
    simp only [decide_eq_false h1, Bool.false_and]
    clear h1
    go_simp
end Go.Proofs.Ytcfhpcbkdpgboaa
/-
  Rows of elements that hold lists of their own: each element's lists lie in blocks between two numbers, and these rise from element to element (OwnD). What is changed between two numbers alone (Out).
-/
namespace Go.Proofs.Ytcfhpcbkdpgboaa
open Go.RowKit
set_option linter.unusedVariables false

theorem eAt_set {α : Type} [Inhabited α] {L : List α} {k : Nat} (h : k < L.length) (x : α) (i : Nat) : eAt (L.set k x) i = if i = k then x else eAt L i := by
  unfold eAt List.getD
  rw [List.getElem?_set]
  by_cases e : k = i
  · subst e; rw [if_pos rfl, if_pos rfl, if_pos h]; rfl
  · rw [if_neg e, if_neg (fun h => e h.symm)]
theorem map_len {α β : Type} {p : α → β} {K J : List α} (h : K.map p = J.map p) : K.length = J.length := by simpa using congrArg List.length h
theorem map_at {α β : Type} [Inhabited α] {p : α → β} {K J : List α} (h : K.map p = J.map p) {i : Nat} (hi : i < K.length) : p (eAt K i) = p (eAt J i) := by
  have hk : i < J.length := by rw [← map_len h]; exact hi
  have e : (K.map p)[i]? = (J.map p)[i]? := by rw [h]
  rw [List.getElem?_map, List.getElem?_map, List.getElem?_eq_getElem hi, List.getElem?_eq_getElem hk] at e
  simp only [Option.map_some, Option.some.injEq] at e
  rw [eAt_in hi, eAt_in hk]; exact e
theorem map_ext {α β : Type} [Inhabited α] {p : α → β} {K J : List α} (hl : K.length = J.length) (h : ∀ i, i < K.length → p (eAt K i) = p (eAt J i)) : K.map p = J.map p := by
  apply List.ext_getElem (by simpa using hl)
  intro i h1 h2
  have hi : i < K.length := by simpa using h1
  have := h i hi
  rw [eAt_in hi, eAt_in (by omega)] at this
  simpa using this
/-- the weights of the first j -/
def totW {α : Type} (wt : α → Nat) (K : List α) (j : Nat) : Nat := ((K.take j).map wt).sum
theorem totW_zero {α : Type} (wt : α → Nat) (K : List α) : totW wt K 0 = 0 := by simp [totW]
theorem totW_step {α : Type} [Inhabited α] {wt : α → Nat} {K : List α} {j : Nat} (h : j < K.length) : totW wt K (j + 1) = totW wt K j + wt (eAt K j) := by
  unfold totW; rw [List.take_succ_eq_append_getElem h, eAt_in h, List.map_append, List.sum_append]; simp only [List.map_cons, List.map_nil, List.sum_cons, List.sum_nil, Nat.add_zero]
theorem totW_end {α : Type} (wt : α → Nat) (K : List α) : totW wt K K.length = (K.map wt).sum := by unfold totW; rw [List.take_length]
theorem totW_le {α : Type} (wt : α → Nat) (K : List α) (j : Nat) : totW wt K j ≤ (K.map wt).sum := by
  unfold totW
  have : (K.map wt).sum = ((K.take j).map wt).sum + ((K.drop j).map wt).sum := by rw [← List.sum_append, ← List.map_append, List.take_append_drop]
  omega
theorem totW_pl {α β : Type} {wt : α → Nat} {p : α → β} {v : β → Nat} (hv : ∀ x, wt x = v (p x)) {K J : List α} (h : K.map p = J.map p) : (K.map wt).sum = (J.map wt).sum := by
  have e : wt = v ∘ p := funext hv
  rw [e, ← List.map_map, ← List.map_map, h]
theorem totW_mul {α : Type} {wt v : α → Nat} {c : Nat} (h : ∀ x, wt x ≤ c * (v x + 1)) : ∀ K : List α, (K.map wt).sum ≤ c * (K.length + (K.map v).sum)
  | [] => by simp
  | x :: r => by
    have := totW_mul h r
    have := h x
    simp only [List.map_cons, List.sum_cons, List.length_cons, Nat.mul_add] at *
    omega
theorem sum_mem {α : Type} [Inhabited α] (wt : α → Nat) {K : List α} {i : Nat} (hi : i < K.length) : wt (eAt K i) ≤ (K.map wt).sum := by
  have h1 := totW_step (wt := wt) hi
  have h2 := totW_le wt K (i + 1)
  omega

theorem ownsRow_sameD {w w' : World} {base n size : Nat} {T : TypeId} {v : Value} {xs : List Value} (h : w.ownsRow base T size v n xs) (hs : ∀ k, v.ownBlock = some k → w'.heap[k]? = w.heap[k]?) : w'.ownsRow base T size v n xs := by
  refine ⟨h.1, ?_⟩
  rcases h.2 with h2 | ⟨g, cap, cur, rfl, hb, hg, rest⟩
  · exact .inl h2
  · exact .inr ⟨g, cap, cur, rfl, hb, by rw [hs g rfl]; exact hg, rest⟩
theorem OwnK.same {α : Type} [Inhabited α] {T : TypeId} {f : α → List Value} {k : Nat} {w w' : World} {g cap : Nat} {L : List α} (h : OwnK T f k w g cap L) (hs : w'.heap[g]? = w.heap[g]?) : OwnK T f k w' g cap L :=
  ownsRow_sameD h (fun q hq => by simp only [Value.ownBlock, Option.some.injEq] at hq; rw [← hq]; exact hs)

/-- what an element's lists are, between two numbers -/
structure Inn {α : Type} (I : World → Nat → Nat → α → Prop) : Prop where
  wide : ∀ {w : World} {s e s' e' : Nat} {x : α}, I w s e x → s' ≤ s → e ≤ e' → I w s' e' x
  same : ∀ {w w' : World} {s e : Nat} {x : α}, I w s e x → (∀ q, s ≤ q → q < e → w'.heap[q]? = w.heap[q]?) → I w' s e x
/-- one list, of plain elements -/
def InK {α β : Type} [Inhabited β] (T : TypeId) (f : β → List Value) (k : Nat) (ad : α → Option Addr) (cp : α → Nat) (ls : α → List β) (w : World) (s e : Nat) (x : α) : Prop :=
  ∃ q, ad x = some ⟨q, 0, none⟩ ∧ s ≤ q ∧ q < e ∧ OwnK T f k w q (cp x) (ls x)
theorem inn_K {α β : Type} [Inhabited β] (T : TypeId) (f : β → List Value) (k : Nat) (ad : α → Option Addr) (cp : α → Nat) (ls : α → List β) : Inn (InK T f k ad cp ls) :=
  ⟨fun ⟨q, h1, h2, h3, h4⟩ hs he => ⟨q, h1, Nat.le_trans hs h2, Nat.lt_of_lt_of_le h3 he, h4⟩, fun ⟨q, h1, h2, h3, h4⟩ h => ⟨q, h1, h2, h3, h4.same (h q h2 h3)⟩⟩
/-- block g holds the elements K, at its head; the lists of the first m lie behind it, each element's behind those of the ones ahead, all ahead of 'hi' -/
structure OwnD {α : Type} [Inhabited α] (T : TypeId) (f : α → List Value) (k : Nat) (I : World → Nat → Nat → α → Prop) (w : World) (lo hi g cp : Nat) (K : List α) (m : Nat) : Prop where
  own : OwnK T f k w g cp K
  low : lo ≤ g
  top : hi ≤ w.heap.size
  lth : g < hi
  bnd : ∃ s : Nat → Nat, (∀ i, i ≤ m → g < s i ∧ s i ≤ hi) ∧ ∀ i, i < m → s i ≤ s (i + 1) ∧ I w (s i) (s (i + 1)) (eAt K i)
section
variable {α : Type} [Inhabited α] {T : TypeId} {f : α → List Value} {k : Nat} {I : World → Nat → Nat → α → Prop}
theorem OwnD.zero {w : World} {lo hi g cp : Nat} {K : List α} (h : OwnK T f k w g cp K) (hl : lo ≤ g) (ht : hi ≤ w.heap.size) (hg : g < hi) : OwnD T f k I w lo hi g cp K 0 :=
  ⟨h, hl, ht, hg, fun _ => g + 1, fun i _ => ⟨Nat.lt_succ_self _, hg⟩, fun i hi => absurd hi (Nat.not_lt_zero _)⟩
theorem OwnD.step (hI : Inn I) {w w1 w2 : World} {lo hi g cp m : Nat} {K : List α} {x : α} (h : OwnD T f k I w lo hi g cp K m) (hm : m < K.length) (hb : Below w.heap.size w w1) (hx : I w1 w.heap.size w1.heap.size x) (hg : w1.grownBy w2 (some g)) (ho : OwnK T f k w2 g cp (K.set m x)) :
    OwnD T f k I w2 lo w1.heap.size g cp (K.set m x) (m + 1) := by
  obtain ⟨s, hs, hin⟩ := h.bnd
  have hsz := hb.size
  have ht := h.top
  have hgl := h.lth
  refine ⟨ho, h.low, hg.size, by omega, fun i => if i ≤ m then s i else w1.heap.size, fun i hi => ?_, fun i hi => ?_⟩
  · by_cases e : i ≤ m
    · simp only [if_pos e]
      have := hs i e
      omega
    · simp only [if_neg e]
      omega
  · by_cases e : i = m
    · subst e
      have := hs i (Nat.le_refl _)
      simp only [if_pos (Nat.le_refl _), if_neg (Nat.not_succ_le_self _)]
      refine ⟨by omega, ?_⟩
      rw [eAt_set hm, if_pos rfl]
      refine hI.same (hI.wide hx (by omega) (Nat.le_refl _)) (fun q h1 h2 => hg.block q h2 (by simp; omega))
    · have hlt : i < m := by omega
      have h1 := hs i (by omega)
      have h2 := hs (i + 1) (by omega)
      have h3 := hin i hlt
      simp only [if_pos (Nat.le_of_lt hlt), if_pos (Nat.succ_le_of_lt hlt)]
      refine ⟨h3.1, ?_⟩
      rw [eAt_set hm, if_neg e]
      refine hI.same h3.2 (fun q hq1 hq2 => ?_)
      rw [hg.block q (by omega) (by simp; omega), hb.block q (by omega)]
theorem OwnD.keep (hI : Inn I) {w w' : World} {lo hi g cp m : Nat} {K : List α} (h : OwnD T f k I w lo hi g cp K m) (hsz : w.heap.size ≤ w'.heap.size) (hs : ∀ q, lo ≤ q → q < hi → w'.heap[q]? = w.heap[q]?) : OwnD T f k I w' lo hi g cp K m := by
  obtain ⟨s, h1, h2⟩ := h.bnd
  have hl := h.low
  refine ⟨h.own.same (hs g hl h.lth), h.low, Nat.le_trans h.top hsz, h.lth, s, h1, fun i hi => ⟨(h2 i hi).1, hI.same (h2 i hi).2 (fun q hq1 hq2 => hs q ?_ ?_)⟩⟩
  · have := h1 i (by omega); omega
  · have := h1 (i + 1) (by omega); omega
theorem OwnD.later (hI : Inn I) {w w' : World} {lo hi g cp m : Nat} {K : List α} (h : OwnD T f k I w lo hi g cp K m) (hb : Below w.heap.size w w') : OwnD T f k I w' lo hi g cp K m :=
  h.keep hI hb.size (fun q _ hq => hb.block q (Nat.lt_of_lt_of_le hq h.top))
theorem OwnD.grown (hI : Inn I) {w w' : World} {lo hi g cp m p : Nat} {K : List α} (h : OwnD T f k I w lo hi g cp K m) (hg : w.grownBy w' (some p)) (hp : p < lo ∨ hi ≤ p) : OwnD T f k I w' lo hi g cp K m :=
  h.keep hI hg.size (fun q h1 h2 => hg.block q (Nat.lt_of_lt_of_le h2 h.top) (by simp; omega))
theorem OwnD.weaken {w : World} {lo lo' hi hi' g cp m : Nat} {K : List α} (h : OwnD T f k I w lo hi g cp K m) (hl : lo' ≤ lo) (hh : hi ≤ hi') (ht : hi' ≤ w.heap.size) : OwnD T f k I w lo' hi' g cp K m := by
  obtain ⟨s, h1, h2⟩ := h.bnd
  exact ⟨h.own, Nat.le_trans hl h.low, ht, Nat.lt_of_lt_of_le h.lth hh, s, fun i hi => ⟨(h1 i hi).1, Nat.le_trans (h1 i hi).2 hh⟩, h2⟩
theorem OwnD.at {w : World} {lo hi g cp m : Nat} {K : List α} (h : OwnD T f k I w lo hi g cp K m) {i : Nat} (hi : i < m) : ∃ s e, I w s e (eAt K i) := by
  obtain ⟨s, h1, h2⟩ := h.bnd
  exact ⟨_, _, (h2 i hi).2⟩
end

/-- nothing is changed but between lo and hi -/
structure Out (lo hi : Nat) (w w' : World) : Prop where
  os : w'.os = w.os
  tape : w'.tape = w.tape
  output : w'.output = w.output
  size : w.heap.size ≤ w'.heap.size
  blk : ∀ q, q < w.heap.size → (q < lo ∨ hi ≤ q) → w'.heap[q]? = w.heap[q]?
theorem Out.refl (lo hi : Nat) (w : World) : Out lo hi w w := ⟨rfl, rfl, rfl, Nat.le_refl _, fun _ _ _ => rfl⟩
theorem Out.trans {lo hi : Nat} {a b c : World} (h : Out lo hi a b) (k : Out lo hi b c) : Out lo hi a c :=
  ⟨k.os.trans h.os, k.tape.trans h.tape, k.output.trans h.output, Nat.le_trans h.size k.size, fun q hq ho => (k.blk q (Nat.lt_of_lt_of_le hq h.size) ho).trans (h.blk q hq ho)⟩
theorem Out.grown {lo hi : Nat} {a b c : World} {g : Nat} (h : Out lo hi a b) (k : b.grownBy c (some g)) (hl : lo ≤ g) (hh : g < hi) : Out lo hi a c :=
  ⟨k.os.trans h.os, k.tape.trans h.tape, k.output.trans h.output, Nat.le_trans h.size k.size, fun q hq ho => (k.block q (Nat.lt_of_lt_of_le hq h.size) (by simp; omega)).trans (h.blk q hq ho)⟩
theorem Out.below {lo hi : Nat} {a b c : World} (h : Out lo hi a b) (k : Below b.heap.size b c) : Out lo hi a c :=
  ⟨k.os.trans h.os, k.tape.trans h.tape, k.output.trans h.output, Nat.le_trans h.size k.size, fun q hq ho => (k.block q (Nat.lt_of_lt_of_le hq h.size)).trans (h.blk q hq ho)⟩
theorem Out.wide {lo hi lo' hi' : Nat} {a b : World} (h : Out lo hi a b) (hl : lo' ≤ lo) (hh : hi ≤ hi') : Out lo' hi' a b :=
  ⟨h.os, h.tape, h.output, h.size, fun q hq ho => h.blk q hq (by omega)⟩
theorem Out.bel {lo hi : Nat} {a b : World} (h : Out lo hi a b) (hl : lo ≤ a.heap.size) : Below lo a b :=
  ⟨h.os, h.tape, h.output, h.size, fun q hq => h.blk q (Nat.lt_of_lt_of_le hq hl) (.inl hq)⟩
theorem mono_le {s : Nat → Nat} {n : Nat} (h : ∀ i, i < n → s i ≤ s (i + 1)) : ∀ {a b : Nat}, a ≤ b → b ≤ n → s a ≤ s b := by
  intro a b hab
  induction hab with
  | refl => intro _; exact Nat.le_refl _
  | step _ ih => intro hb; exact Nat.le_trans (ih (by omega)) (h _ (by omega))
/-- nothing is changed but block g and what lies between a and b -/
structure Out2 (g a b : Nat) (w w' : World) : Prop where
  os : w'.os = w.os
  tape : w'.tape = w.tape
  output : w'.output = w.output
  size : w.heap.size ≤ w'.heap.size
  blk : ∀ q, q < w.heap.size → q ≠ g → (q < a ∨ b ≤ q) → w'.heap[q]? = w.heap[q]?
theorem Out2.of {g a b : Nat} {w w' : World} (k : w.grownBy w' (some g)) : Out2 g a b w w' :=
  ⟨k.os, k.tape, k.output, k.size, fun q hq hne _ => k.block q hq (by simp; omega)⟩
theorem Out2.at {g a b : Nat} {w w1 w2 : World} (h : Out2 g a b w w1) (k : w1.grownBy w2 (some g)) : Out2 g a b w w2 :=
  ⟨k.os.trans h.os, k.tape.trans h.tape, k.output.trans h.output, Nat.le_trans h.size k.size, fun q hq hne ho => (k.block q (Nat.lt_of_lt_of_le hq h.size) (by simp; omega)).trans (h.blk q hq hne ho)⟩
theorem Out2.inner {g a b p : Nat} {w w1 w2 : World} (h : Out2 g a b w w1) (k : w1.grownBy w2 (some p)) (h1 : a ≤ p) (h2 : p < b) : Out2 g a b w w2 :=
  ⟨k.os.trans h.os, k.tape.trans h.tape, k.output.trans h.output, Nat.le_trans h.size k.size, fun q hq hne ho => (k.block q (Nat.lt_of_lt_of_le hq h.size) (by simp; omega)).trans (h.blk q hq hne ho)⟩
theorem Out2.below {g a b : Nat} {w w1 w2 : World} (h : Out2 g a b w w1) (k : Below w1.heap.size w1 w2) : Out2 g a b w w2 :=
  ⟨k.os.trans h.os, k.tape.trans h.tape, k.output.trans h.output, Nat.le_trans h.size k.size, fun q hq hne ho => (k.block q (Nat.lt_of_lt_of_le hq h.size)).trans (h.blk q hq hne ho)⟩
/-- a row on its way to be marked: from the j-th element on all is as it was -/
structure MkD {α : Type} [Inhabited α] (T : TypeId) (f : α → List Value) (k : Nat) (I : World → Nat → Nat → α → Prop) (w : World) (lo hi g cp : Nat) (K : List α) (s : Nat → Nat) (j : Nat) (W : World) : Prop where
  row : ∃ K', K'.length = K.length ∧ OwnK T f k W g cp K' ∧ ∀ i, j ≤ i → i < K.length → eAt K' i = eAt K i
  inn : ∀ i, j ≤ i → i < K.length → I W (s i) (s (i + 1)) (eAt K i)
  out : Out lo hi w W
theorem MkD.step {α : Type} [Inhabited α] {T : TypeId} {f : α → List Value} {k : Nat} {I : World → Nat → Nat → α → Prop} (hI : Inn I) {w W W2 : World} {lo hi g cp : Nat} {K : List α} {s : Nat → Nat} {j : Nat} (h : MkD T f k I w lo hi g cp K s j W)
    (hs : ∀ i, i ≤ K.length → g < s i ∧ s i ≤ hi) (hm : ∀ i, i < K.length → s i ≤ s (i + 1)) (hlo : lo ≤ g) (hg : g < hi) (ht : hi ≤ w.heap.size) (hj : j < K.length) (h2 : Out2 g (s j) (s (j + 1)) W W2)
    (hrow : ∃ K', K'.length = K.length ∧ OwnK T f k W2 g cp K' ∧ ∀ i, j + 1 ≤ i → i < K.length → eAt K' i = eAt K i) : MkD T f k I w lo hi g cp K s (j + 1) W2 := by
  have hsz := h.out.size
  have hj1 := hs j (by omega)
  have hj2 := hs (j + 1) (by omega)
  refine ⟨hrow, fun i h1 hi' => hI.same (h.inn i (by omega) hi') (fun q hq1 hq2 => ?_), ⟨h2.os.trans h.out.os, h2.tape.trans h.out.tape, h2.output.trans h.out.output, Nat.le_trans hsz h2.size, fun q hq ho => ?_⟩⟩
  · have a1 := mono_le hm h1 (Nat.le_of_lt hi')
    have a2 := hs i (by omega)
    have a3 := hs (i + 1) (by omega)
    exact h2.blk q (by omega) (by omega) (.inr (by omega))
  · rw [h2.blk q (by omega) (by omega) (by omega)]
    exact h.out.blk q hq ho
end Go.Proofs.Ytcfhpcbkdpgboaa
/-
  Rows of Pats, each with a list of its own: what a slice of them reads as, what came in.
-/
namespace Go.Proofs.Ytcfhpcbkdpgboaa
open Go.ChangeShapes Go.WideShapes Go.ChangeAt Go.RowKit Go.Joins Go.Deep
set_option linter.unusedVariables false

set_option maxRecDepth 100000

structure PE where
  kd : ByteArray
  a : Option Addr
  cap : Nat
  L : List A5
  nt : Bool
instance : Inhabited PE := ⟨⟨⟨#[]⟩, none, 0, [], false⟩⟩
def PE.zero : PE := ⟨⟨#[]⟩, none, 0, [], false⟩
/-- the same, plainly -/
structure PP where
  kd : ByteArray
  L : List A5
  nt : Bool
instance : Inhabited PP := ⟨⟨⟨#[]⟩, [], false⟩⟩
def PE.pl (x : PE) : PP := ⟨x.kd, x.L, x.nt⟩
theorem PE.pl_inj {x y : PE} (h : x.pl = y.pl) : x.kd = y.kd ∧ x.L = y.L ∧ x.nt = y.nt := by simpa [PE.pl] using h
def PE.cs (x : PE) : List Value := [.string x.kd, .slice x.a x.L.length x.cap, .bool x.nt]
theorem PE.len (x : PE) : x.cs.length = 3 := rfl
def PE.ok (x : PE) : Prop := x.kd.size ≤ maxLen ∧ x.L.length ≤ maxLen ∧ ∀ v ∈ x.L, v.fits
/-- how great one is -/
def PE.sz (x : PE) : Nat := x.kd.size + x.L.length
def PE.small (x : PE) : Prop := x.kd.size ≤ 1048576 ∧ x.L.length ≤ 1048576 ∧ ∀ v ∈ x.L, v.small
theorem PE.small_of {x y : PE} (h : x.small) (e : y.pl = x.pl) : y.small := by
  obtain ⟨e0, e1, e2⟩ := PE.pl_inj e
  unfold PE.small at *
  rw [e0, e1]; exact h
/-- what the slice at 'a' reads as -/
def RdPatS (w : World) (a : Option Addr) (J : List PE) : Prop := RdK PE.cs 3 w a J ∧ ∀ i, i < J.length → RdArg w (eAt J i).a (eAt J i).L
theorem RdPatS.cells {w : World} {a : Option Addr} {J : List PE} (h : RdPatS w a J) (hp : 0 < J.length) :
    ∃ b off, a = some ⟨b, off, none⟩ ∧ b < w.heap.size ∧ ∀ i, i < J.length → w.cell? ⟨b, off + i * 3, none⟩ = some (.string (eAt J i).kd) ∧ w.cell? ⟨b, off + i * 3 + 1, none⟩ = some (.slice (eAt J i).a (eAt J i).L.length (eAt J i).cap) ∧ w.cell? ⟨b, off + i * 3 + 2, none⟩ = some (.bool (eAt J i).nt) ∧ RdArg w (eAt J i).a (eAt J i).L := by
  obtain ⟨b, off, e, hb, hc⟩ := RdK.open PE.len (by decide) h.1 hp
  refine ⟨b, off, e, hb, fun i hi => ?_⟩
  have hc := hc i hi
  exact ⟨hc 0 _ rfl, hc 1 _ rfl, hc 2 _ rfl, h.2 i hi⟩
theorem RdPatS.below {w w' : World} {a : Option Addr} {J : List PE} (h : RdPatS w a J) (hb : Below w.heap.size w w') : RdPatS w' a J := ⟨h.1.below hb, fun i hi => (h.2 i hi).below hb⟩
theorem RdPatS.heap {w w' : World} {a : Option Addr} {J : List PE} (h : RdPatS w a J) (hb : w'.heap = w.heap) : RdPatS w' a J := ⟨h.1.heap hb, fun i hi => (h.2 i hi).heap hb⟩
theorem RdPatS.nil (w : World) (a : Option Addr) : RdPatS w a [] := ⟨RdK.nil _ _ _ _, fun i hi => absurd hi (Nat.not_lt_zero _)⟩
def IsPatS (w : World) (a : Option Addr) (len cap : Nat) (J : List PE) : Prop := J.length = len ∧ len ≤ maxLen ∧ RdPatS w a J ∧ ∀ x ∈ J, x.ok
abbrev InPat : World → Nat → Nat → PE → Prop := InK 77 A5.cs 5 PE.a PE.cap PE.L
theorem innPat : Inn (InPat) := inn_K _ _ _ _ _ _
abbrev OwnPatS (w : World) (lo hi g cp : Nat) (K : List PE) (m : Nat) : Prop := OwnD 47 PE.cs 3 InPat w lo hi g cp K m
theorem rdOwnPatS {w : World} {lo hi g cp : Nat} {K : List PE} (h : OwnPatS w lo hi g cp K K.length) : RdPatS w (some ⟨g, 0, none⟩) K :=
  ⟨OwnK.rd PE.len (by decide) h.own, fun i hi => by obtain ⟨s, e, q, h1, -, -, h4⟩ := h.at hi; rw [h1]; exact rdOwnArg h4⟩
theorem pat_cells' {H : Type} {enc : TypeId × Value → H} {w : World} {spare : Nat → Bool} {held : Bool} {n : Nat} {cs : List Value} {x : DataW H × List MemPlace}
    (h : DataW.trod enc Try.prog w 0 spare held n 121 cs = some x) : ∃ y : PE, cs = y.cs ∧ RdArg w y.a y.L ∧ y.ok := by
  obtain ⟨y0, y1, y2, m, -, hl, h0, h1, h2⟩ := trod_struct3 Try.underlying121 h
  have hc : Try.prog.cellsOf 121 = 3 := by kernel_rfl
  have e0 : Try.prog.cellsOf 9 = 1 := by kernel_rfl
  have e1 : Try.prog.cellsOf 119 = 1 := by kernel_rfl
  have e2 : Try.prog.cellsOf 4 = 1 := by kernel_rfl
  rw [hc] at hl
  match cs, hl with
  | [c0, c1, c2], _ =>
    simp only [e0, e1, e2, List.drop_zero, List.drop_succ_cons, List.take_succ_cons, List.take_zero] at h0 h1 h2
    obtain ⟨v0, q0, _, w0⟩ := DataW.trod_string Try.underlying9 h0
    obtain ⟨aa, len, cap, L, qL, hlen, hm, hr, hf⟩ := args_in h1
    obtain ⟨v2, q2, _⟩ := DataW.trod_bool Try.underlying4 h2
    simp only [List.cons.injEq, and_true] at q0 q2
    exact ⟨⟨v0, aa, cap, L, v2⟩, by rw [q0, q2, qL, ← hlen]; rfl, hr, w0, by rw [hlen]; exact hm, hf⟩
theorem pats_in {H : Type} {enc : TypeId × Value → H} {w : World} {spare : Nat → Bool} {held : Bool} {n : Nat} {v : Value} {x : DataW H × List MemPlace}
    (h : DataW.trod enc Try.prog w 0 spare held n 68 [v] = some x) : ∃ a len cap J, v = .slice a len cap ∧ IsPatS w a len cap J := by
  have hc : Try.prog.cellsOf 121 = 3 := by kernel_rfl
  rcases open_slice Try.underlying68 h with ⟨h0, _⟩ | ⟨a, len, cap, m, n', D, Pl, h0, hb, hl, hm, hmm, _, hx⟩
  · simp only [List.cons.injEq, and_true] at h0
    exact ⟨none, 0, 0, [], h0, rfl, Nat.zero_le _, RdPatS.nil _ _, fun v hv => by cases hv⟩
  · simp only [List.cons.injEq, and_true] at h0
    have hlm : len ≤ m := by rw [hmm]; split <;> omega
    obtain ⟨F, hF⟩ := choose_lt (α := PE) (n := len) (p := fun i v => w.cells? 0 (a.add (i * 3)) 3 = some v.cs ∧ RdArg w v.a v.L ∧ v.ok) (fun i hi => by
      obtain ⟨cs', h1, h2⟩ := hx i (by omega)
      rw [hc] at h1
      obtain ⟨y, rfl, hs⟩ := pat_cells' h2
      exact ⟨y, h1, hs⟩)
    refine ⟨some a, len, cap, (List.range len).map F, h0, by simp, Nat.le_trans hl hm, ⟨fun i hi => ?_, fun i hi => ?_⟩, fun v hv => ?_⟩
    · have hi2 : i < len := by simpa using hi
      obtain ⟨_, _, hcell⟩ := World.cells?_some (hF i hi2).1
      obtain ⟨b, off, spot⟩ := a
      have hs : spot = none := by
        obtain ⟨_, _, hcell0⟩ := World.cells?_some (hF 0 (by omega)).1
        have e := hcell0 0 (by omega)
        rw [add_add] at e
        simp only [PE.cs, List.getElem?_cons_zero] at e
        simpa [Addr.add] using World.cell?_spot e
      subst hs
      have ev : eAt ((List.range len).map F) i = F i := by rw [eAt_in hi]; simp
      rw [ev]
      refine ⟨b, off, rfl, fun j c hj => ?_⟩
      have hjk : j < 3 := by rw [← (F i).len]; exact (List.getElem?_eq_some_iff.1 hj).1
      have e := hcell j hjk
      rw [add_add, Addr.add_lit, hj] at e
      simpa [Nat.add_assoc] using e
    · have ev : eAt ((List.range len).map F) i = F i := by rw [eAt_in hi]; simp
      rw [ev]
      exact (hF i (by simpa using hi)).2.1
    · obtain ⟨i, hi, rfl⟩ := List.mem_map.1 hv
      exact (hF i (List.mem_range.1 hi)).2.2
theorem rowOf_set_PE (x : PE) : ∀ (L : List PE) (i : Nat), i < L.length →
    ((((rowOf PE.cs L).set (i * 3) (.string x.kd)).set (i * 3 + 1) (.slice x.a x.L.length x.cap)).set (i * 3 + 2) (.bool x.nt)) = rowOf PE.cs (L.set i x)
  | [], i, hi => absurd hi (Nat.not_lt_zero _)
  | y :: r, 0, hi => by
    rw [List.set_cons_zero, rowOf_cons, rowOf_cons]
    rfl
  | y :: r, i + 1, hi => by
    have ih := rowOf_set_PE x r i (by simpa using hi)
    rw [List.set_cons_succ, rowOf_cons, rowOf_cons, ← ih]
    simp only [Nat.succ_mul, PE.cs]
    rfl
theorem rowOf_set_PE_kd (v : ByteArray) : ∀ (L : List PE) (i : Nat), i < L.length → (rowOf PE.cs L).set (i * 3) (.string v) = rowOf PE.cs (L.set i { eAt L i with kd := v })
  | [], i, hi => absurd hi (Nat.not_lt_zero _)
  | y :: r, 0, hi => by
    rw [List.set_cons_zero, rowOf_cons, rowOf_cons]
    rfl
  | y :: r, i + 1, hi => by
    have ih := rowOf_set_PE_kd v r i (by simpa using hi)
    rw [List.set_cons_succ, rowOf_cons, rowOf_cons, show eAt (y :: r) (i + 1) = eAt r i from rfl, ← ih]
    simp only [Nat.succ_mul, PE.cs]
    rfl
theorem rowOf_set_PE_nt (v : Bool) : ∀ (L : List PE) (i : Nat), i < L.length → (rowOf PE.cs L).set (i * 3 + 2) (.bool v) = rowOf PE.cs (L.set i { eAt L i with nt := v })
  | [], i, hi => absurd hi (Nat.not_lt_zero _)
  | y :: r, 0, hi => by
    rw [List.set_cons_zero, rowOf_cons, rowOf_cons]
    rfl
  | y :: r, i + 1, hi => by
    have ih := rowOf_set_PE_nt v r i (by simpa using hi)
    rw [List.set_cons_succ, rowOf_cons, rowOf_cons, show eAt (y :: r) (i + 1) = eAt r i from rfl, ← ih]
    simp only [Nat.succ_mul, PE.cs]
    rfl
end Go.Proofs.Ytcfhpcbkdpgboaa
/-
  An act as it came in.
-/
namespace Go.Proofs.Ytcfhpcbkdpgboaa
open Go.ChangeShapes Go.WideShapes Go.ChangeAt Go.RowKit Go.Joins Go.Deep
set_option linter.unusedVariables false
set_option maxRecDepth 100000

theorem array5 {α : Type} {cs : Array α} (h : cs.size = 5) : ∃ c0 c1 c2 c3 c4, cs = #[c0, c1, c2, c3, c4] := by
  obtain ⟨l⟩ := cs
  match l, h with
  | [c0, c1, c2, c3, c4], _ => exact ⟨c0, c1, c2, c3, c4, rfl⟩
theorem trod_struct5 {H : Type} {enc : TypeId × Value → H} {P : Program} {w : World} {base : Nat} {spare : Nat → Bool} {held : Bool} {t : TypeId} {f0 f1 f2 f3 f4 : Field} {fuel : Nat} {cs : List Value} {x : DataW H × List MemPlace} (ht : P.underlying t = some (.struct #[f0, f1, f2, f3, f4])) (h : DataW.trod enc P w base spare held fuel t cs = some x) :
    ∃ y0 y1 y2 y3 y4 n, cs.length = P.cellsOf t ∧ DataW.trod enc P w base spare held n f0.type ((cs.drop f0.offset).take (P.cellsOf f0.type)) = some y0 ∧
      DataW.trod enc P w base spare held n f1.type ((cs.drop f1.offset).take (P.cellsOf f1.type)) = some y1 ∧ DataW.trod enc P w base spare held n f2.type ((cs.drop f2.offset).take (P.cellsOf f2.type)) = some y2 ∧
      DataW.trod enc P w base spare held n f3.type ((cs.drop f3.offset).take (P.cellsOf f3.type)) = some y3 ∧ DataW.trod enc P w base spare held n f4.type ((cs.drop f4.offset).take (P.cellsOf f4.type)) = some y4 := by
  obtain ⟨xs, n, _, rfl, hl, hlen, hf⟩ := DataW.trod_struct ht h
  match xs, hlen with
  | [y0, y1, y2, y3, y4], _ => exact ⟨y0, y1, y2, y3, y4, n, hl, by simpa using hf 0 f0 rfl, by simpa using hf 1 f1 rfl, by simpa using hf 2 f2 rfl, by simpa using hf 3 f3 rfl, by simpa using hf 4 f4 rfl⟩
theorem act_in {H : Type} {enc : TypeId × Value → H} {w : World} {b0 : Nat} {spare : Nat → Bool} {held : Bool} {r : Reach} {v : Value} {d : DataW H} {p : List MemPlace}
    (hv : Value.okWide Try.prog w r b0 131 v) (h : DataW.Trod enc Try.prog w 0 spare held 131 v d p) :
    ∃ (K : Int) (nm : ByteArray) (a : Option Addr) (len cap : Nat) (L : List X11) (N : Int) (un : ByteArray), v = .agg #[.int .i64 K, .string nm, .slice a len cap, .int .i64 N, .string un] ∧ nm.size ≤ maxLen ∧ un.size ≤ maxLen ∧ IsExprs w a len cap L := by
  obtain ⟨cs, rfl, hsz⟩ := okWide_struct Try.underlying131 hv
  obtain ⟨c0, c1, c2, c3, c4, rfl⟩ := array5 (hsz.trans (by kernel_rfl))
  obtain ⟨fuel, hf⟩ := h
  obtain ⟨y0, y1, y2, y3, y4, n, _, h0, h1, h2, h3, h4⟩ := trod_struct5 Try.underlying131 hf
  have e0 : Try.prog.cellsOf 3 = 1 := by kernel_rfl
  have e1 : Try.prog.cellsOf 9 = 1 := by kernel_rfl
  have e2 : Try.prog.cellsOf 129 = 1 := by kernel_rfl
  simp only [e0, e1, e2, Value.cells, List.drop_zero, List.drop_succ_cons, List.take_succ_cons, List.take_zero] at h0 h1 h2 h3 h4
  obtain ⟨K, eK, _, _⟩ := DataW.trod_int Try.underlying3 h0
  obtain ⟨S, eS, _, wS⟩ := DataW.trod_string Try.underlying9 h1
  obtain ⟨N, eN, _, _⟩ := DataW.trod_int Try.underlying3 h3
  obtain ⟨U, eU, _, wU⟩ := DataW.trod_string Try.underlying9 h4
  obtain ⟨a, len, cap, L, eL, wL⟩ := exprs_in h2
  simp only [List.cons.injEq, and_true] at eK eS eN eU
  exact ⟨K, S, a, len, cap, L, N, U, by rw [eK, eS, eN, eU, eL], wS, wU, wL⟩
end Go.Proofs.Ytcfhpcbkdpgboaa
/-
  Rows of Acts, each with a list of its own: what a slice of them reads as, what came in.
-/
namespace Go.Proofs.Ytcfhpcbkdpgboaa
open Go.ChangeShapes Go.WideShapes Go.ChangeAt Go.RowKit Go.Joins Go.Deep
set_option linter.unusedVariables false

set_option maxRecDepth 100000

structure QE where
  K : Int
  nm : ByteArray
  a : Option Addr
  cap : Nat
  L : List X11
  N : Int
  un : ByteArray
instance : Inhabited QE := ⟨⟨0, ⟨#[]⟩, none, 0, [], 0, ⟨#[]⟩⟩⟩
def QE.zero : QE := ⟨0, ⟨#[]⟩, none, 0, [], 0, ⟨#[]⟩⟩
/-- the same, plainly -/
structure QP where
  K : Int
  nm : ByteArray
  L : List X11
  N : Int
  un : ByteArray
instance : Inhabited QP := ⟨⟨0, ⟨#[]⟩, [], 0, ⟨#[]⟩⟩⟩
def QE.pl (x : QE) : QP := ⟨x.K, x.nm, x.L, x.N, x.un⟩
theorem QE.pl_inj {x y : QE} (h : x.pl = y.pl) : x.K = y.K ∧ x.nm = y.nm ∧ x.L = y.L ∧ x.N = y.N ∧ x.un = y.un := by simpa [QE.pl] using h
def QE.cs (x : QE) : List Value := [.int .i64 x.K, .string x.nm, .slice x.a x.L.length x.cap, .int .i64 x.N, .string x.un]
theorem QE.len (x : QE) : x.cs.length = 5 := rfl
def QE.ok (x : QE) : Prop := x.nm.size ≤ maxLen ∧ x.un.size ≤ maxLen ∧ x.L.length ≤ maxLen ∧ ∀ v ∈ x.L, v.fits
/-- how great one is -/
def QE.sz (x : QE) : Nat := x.nm.size + x.L.length + x.un.size
def QE.small (x : QE) : Prop := x.nm.size ≤ 1048576 ∧ x.un.size ≤ 1048576 ∧ x.L.length ≤ 1048576 ∧ ∀ v ∈ x.L, v.small
theorem QE.small_of {x y : QE} (h : x.small) (e : y.pl = x.pl) : y.small := by
  obtain ⟨e0, e1, e2, e3, e4⟩ := QE.pl_inj e
  unfold QE.small at *
  rw [e1, e2, e4]; exact h
/-- what the slice at 'a' reads as -/
def RdActS (w : World) (a : Option Addr) (J : List QE) : Prop := RdK QE.cs 5 w a J ∧ ∀ i, i < J.length → RdExpr w (eAt J i).a (eAt J i).L
theorem RdActS.cells {w : World} {a : Option Addr} {J : List QE} (h : RdActS w a J) (hp : 0 < J.length) :
    ∃ b off, a = some ⟨b, off, none⟩ ∧ b < w.heap.size ∧ ∀ i, i < J.length → w.cell? ⟨b, off + i * 5, none⟩ = some (.int .i64 (eAt J i).K) ∧ w.cell? ⟨b, off + i * 5 + 1, none⟩ = some (.string (eAt J i).nm) ∧ w.cell? ⟨b, off + i * 5 + 2, none⟩ = some (.slice (eAt J i).a (eAt J i).L.length (eAt J i).cap) ∧ w.cell? ⟨b, off + i * 5 + 3, none⟩ = some (.int .i64 (eAt J i).N) ∧ w.cell? ⟨b, off + i * 5 + 4, none⟩ = some (.string (eAt J i).un) ∧ RdExpr w (eAt J i).a (eAt J i).L := by
  obtain ⟨b, off, e, hb, hc⟩ := RdK.open QE.len (by decide) h.1 hp
  refine ⟨b, off, e, hb, fun i hi => ?_⟩
  have hc := hc i hi
  exact ⟨hc 0 _ rfl, hc 1 _ rfl, hc 2 _ rfl, hc 3 _ rfl, hc 4 _ rfl, h.2 i hi⟩
theorem RdActS.below {w w' : World} {a : Option Addr} {J : List QE} (h : RdActS w a J) (hb : Below w.heap.size w w') : RdActS w' a J := ⟨h.1.below hb, fun i hi => (h.2 i hi).below hb⟩
theorem RdActS.heap {w w' : World} {a : Option Addr} {J : List QE} (h : RdActS w a J) (hb : w'.heap = w.heap) : RdActS w' a J := ⟨h.1.heap hb, fun i hi => (h.2 i hi).heap hb⟩
theorem RdActS.nil (w : World) (a : Option Addr) : RdActS w a [] := ⟨RdK.nil _ _ _ _, fun i hi => absurd hi (Nat.not_lt_zero _)⟩
def IsActS (w : World) (a : Option Addr) (len cap : Nat) (J : List QE) : Prop := J.length = len ∧ len ≤ maxLen ∧ RdActS w a J ∧ ∀ x ∈ J, x.ok
abbrev InAct : World → Nat → Nat → QE → Prop := InK 104 X11.cs 11 QE.a QE.cap QE.L
theorem innAct : Inn (InAct) := inn_K _ _ _ _ _ _
abbrev OwnActS (w : World) (lo hi g cp : Nat) (K : List QE) (m : Nat) : Prop := OwnD 88 QE.cs 5 InAct w lo hi g cp K m
theorem rdOwnActS {w : World} {lo hi g cp : Nat} {K : List QE} (h : OwnActS w lo hi g cp K K.length) : RdActS w (some ⟨g, 0, none⟩) K :=
  ⟨OwnK.rd QE.len (by decide) h.own, fun i hi => by obtain ⟨s, e, q, h1, -, -, h4⟩ := h.at hi; rw [h1]; exact rdOwnExpr h4⟩
theorem act_cells' {H : Type} {enc : TypeId × Value → H} {w : World} {spare : Nat → Bool} {held : Bool} {n : Nat} {cs : List Value} {x : DataW H × List MemPlace}
    (h : DataW.trod enc Try.prog w 0 spare held n 131 cs = some x) : ∃ y : QE, cs = y.cs ∧ RdExpr w y.a y.L ∧ y.ok := by
  obtain ⟨y0, y1, y2, y3, y4, m, hl, h0, h1, h2, h3, h4⟩ := trod_struct5 Try.underlying131 h
  have hc : Try.prog.cellsOf 131 = 5 := by kernel_rfl
  have e0 : Try.prog.cellsOf 3 = 1 := by kernel_rfl
  have e1 : Try.prog.cellsOf 9 = 1 := by kernel_rfl
  have e2 : Try.prog.cellsOf 129 = 1 := by kernel_rfl
  rw [hc] at hl
  match cs, hl with
  | [c0, c1, c2, c3, c4], _ =>
    simp only [e0, e1, e2, List.drop_zero, List.drop_succ_cons, List.take_succ_cons, List.take_zero] at h0 h1 h2 h3 h4
    obtain ⟨v0, q0, _, _⟩ := DataW.trod_int Try.underlying3 h0
    obtain ⟨v1, q1, _, w1⟩ := DataW.trod_string Try.underlying9 h1
    obtain ⟨aa, len, cap, L, qL, hlen, hm, hr, hf⟩ := exprs_in h2
    obtain ⟨v3, q3, _, _⟩ := DataW.trod_int Try.underlying3 h3
    obtain ⟨v4, q4, _, w4⟩ := DataW.trod_string Try.underlying9 h4
    simp only [List.cons.injEq, and_true] at q0 q1 q3 q4
    exact ⟨⟨v0, v1, aa, cap, L, v3, v4⟩, by rw [q0, q1, q3, q4, qL, ← hlen]; rfl, hr, w1, w4, by rw [hlen]; exact hm, hf⟩
theorem acts_in {H : Type} {enc : TypeId × Value → H} {w : World} {spare : Nat → Bool} {held : Bool} {n : Nat} {v : Value} {x : DataW H × List MemPlace}
    (h : DataW.trod enc Try.prog w 0 spare held n 70 [v] = some x) : ∃ a len cap J, v = .slice a len cap ∧ IsActS w a len cap J := by
  have hc : Try.prog.cellsOf 131 = 5 := by kernel_rfl
  rcases open_slice Try.underlying70 h with ⟨h0, _⟩ | ⟨a, len, cap, m, n', D, Pl, h0, hb, hl, hm, hmm, _, hx⟩
  · simp only [List.cons.injEq, and_true] at h0
    exact ⟨none, 0, 0, [], h0, rfl, Nat.zero_le _, RdActS.nil _ _, fun v hv => by cases hv⟩
  · simp only [List.cons.injEq, and_true] at h0
    have hlm : len ≤ m := by rw [hmm]; split <;> omega
    obtain ⟨F, hF⟩ := choose_lt (α := QE) (n := len) (p := fun i v => w.cells? 0 (a.add (i * 5)) 5 = some v.cs ∧ RdExpr w v.a v.L ∧ v.ok) (fun i hi => by
      obtain ⟨cs', h1, h2⟩ := hx i (by omega)
      rw [hc] at h1
      obtain ⟨y, rfl, hs⟩ := act_cells' h2
      exact ⟨y, h1, hs⟩)
    refine ⟨some a, len, cap, (List.range len).map F, h0, by simp, Nat.le_trans hl hm, ⟨fun i hi => ?_, fun i hi => ?_⟩, fun v hv => ?_⟩
    · have hi2 : i < len := by simpa using hi
      obtain ⟨_, _, hcell⟩ := World.cells?_some (hF i hi2).1
      obtain ⟨b, off, spot⟩ := a
      have hs : spot = none := by
        obtain ⟨_, _, hcell0⟩ := World.cells?_some (hF 0 (by omega)).1
        have e := hcell0 0 (by omega)
        rw [add_add] at e
        simp only [QE.cs, List.getElem?_cons_zero] at e
        simpa [Addr.add] using World.cell?_spot e
      subst hs
      have ev : eAt ((List.range len).map F) i = F i := by rw [eAt_in hi]; simp
      rw [ev]
      refine ⟨b, off, rfl, fun j c hj => ?_⟩
      have hjk : j < 5 := by rw [← (F i).len]; exact (List.getElem?_eq_some_iff.1 hj).1
      have e := hcell j hjk
      rw [add_add, Addr.add_lit, hj] at e
      simpa [Nat.add_assoc] using e
    · have ev : eAt ((List.range len).map F) i = F i := by rw [eAt_in hi]; simp
      rw [ev]
      exact (hF i (by simpa using hi)).2.1
    · obtain ⟨i, hi, rfl⟩ := List.mem_map.1 hv
      exact (hF i (List.mem_range.1 hi)).2.2
theorem rowOf_set_QE (x : QE) : ∀ (L : List QE) (i : Nat), i < L.length →
    ((((((rowOf QE.cs L).set (i * 5) (.int .i64 x.K)).set (i * 5 + 1) (.string x.nm)).set (i * 5 + 2) (.slice x.a x.L.length x.cap)).set (i * 5 + 3) (.int .i64 x.N)).set (i * 5 + 4) (.string x.un)) = rowOf QE.cs (L.set i x)
  | [], i, hi => absurd hi (Nat.not_lt_zero _)
  | y :: r, 0, hi => by
    rw [List.set_cons_zero, rowOf_cons, rowOf_cons]
    rfl
  | y :: r, i + 1, hi => by
    have ih := rowOf_set_QE x r i (by simpa using hi)
    rw [List.set_cons_succ, rowOf_cons, rowOf_cons, ← ih]
    simp only [Nat.succ_mul, QE.cs]
    rfl
theorem rowOf_set_QE_K (v : Int) : ∀ (L : List QE) (i : Nat), i < L.length → (rowOf QE.cs L).set (i * 5) (.int .i64 v) = rowOf QE.cs (L.set i { eAt L i with K := v })
  | [], i, hi => absurd hi (Nat.not_lt_zero _)
  | y :: r, 0, hi => by
    rw [List.set_cons_zero, rowOf_cons, rowOf_cons]
    rfl
  | y :: r, i + 1, hi => by
    have ih := rowOf_set_QE_K v r i (by simpa using hi)
    rw [List.set_cons_succ, rowOf_cons, rowOf_cons, show eAt (y :: r) (i + 1) = eAt r i from rfl, ← ih]
    simp only [Nat.succ_mul, QE.cs]
    rfl
theorem rowOf_set_QE_nm (v : ByteArray) : ∀ (L : List QE) (i : Nat), i < L.length → (rowOf QE.cs L).set (i * 5 + 1) (.string v) = rowOf QE.cs (L.set i { eAt L i with nm := v })
  | [], i, hi => absurd hi (Nat.not_lt_zero _)
  | y :: r, 0, hi => by
    rw [List.set_cons_zero, rowOf_cons, rowOf_cons]
    rfl
  | y :: r, i + 1, hi => by
    have ih := rowOf_set_QE_nm v r i (by simpa using hi)
    rw [List.set_cons_succ, rowOf_cons, rowOf_cons, show eAt (y :: r) (i + 1) = eAt r i from rfl, ← ih]
    simp only [Nat.succ_mul, QE.cs]
    rfl
theorem rowOf_set_QE_N (v : Int) : ∀ (L : List QE) (i : Nat), i < L.length → (rowOf QE.cs L).set (i * 5 + 3) (.int .i64 v) = rowOf QE.cs (L.set i { eAt L i with N := v })
  | [], i, hi => absurd hi (Nat.not_lt_zero _)
  | y :: r, 0, hi => by
    rw [List.set_cons_zero, rowOf_cons, rowOf_cons]
    rfl
  | y :: r, i + 1, hi => by
    have ih := rowOf_set_QE_N v r i (by simpa using hi)
    rw [List.set_cons_succ, rowOf_cons, rowOf_cons, show eAt (y :: r) (i + 1) = eAt r i from rfl, ← ih]
    simp only [Nat.succ_mul, QE.cs]
    rfl
theorem rowOf_set_QE_un (v : ByteArray) : ∀ (L : List QE) (i : Nat), i < L.length → (rowOf QE.cs L).set (i * 5 + 4) (.string v) = rowOf QE.cs (L.set i { eAt L i with un := v })
  | [], i, hi => absurd hi (Nat.not_lt_zero _)
  | y :: r, 0, hi => by
    rw [List.set_cons_zero, rowOf_cons, rowOf_cons]
    rfl
  | y :: r, i + 1, hi => by
    have ih := rowOf_set_QE_un v r i (by simpa using hi)
    rw [List.set_cons_succ, rowOf_cons, rowOf_cons, show eAt (y :: r) (i + 1) = eAt r i from rfl, ← ih]
    simp only [Nat.succ_mul, QE.cs]
    rfl
end Go.Proofs.Ytcfhpcbkdpgboaa
/-
  A rule as it lies in memory (RE), what it reads as, and a rule that came in.
-/
namespace Go.Proofs.Ytcfhpcbkdpgboaa
open Go.ChangeShapes Go.WideShapes Go.ChangeAt Go.RowKit Go.Joins Go.Deep
set_option linter.unusedVariables false
set_option maxRecDepth 100000

structure RE where
  nm : ByteArray
  sal : Int
  aP : Option Addr
  nP : Nat
  cP : Nat
  P : List PE
  aC : Option Addr
  nC : Nat
  cC : Nat
  C : List C11
  aA : Option Addr
  nA : Nat
  cA : Nat
  A : List QE
/-- a rule, plainly -/
structure RP where
  nm : ByteArray
  sal : Int
  P : List PP
  C : List C11
  A : List QP
def RE.pl (x : RE) : RP := ⟨x.nm, x.sal, x.P.map PE.pl, x.C, x.A.map QE.pl⟩
theorem RE.pl_inj {x y : RE} (h : x.pl = y.pl) : x.nm = y.nm ∧ x.sal = y.sal ∧ x.P.map PE.pl = y.P.map PE.pl ∧ x.C = y.C ∧ x.A.map QE.pl = y.A.map QE.pl := by simpa [RE.pl] using h
def RE.arr (x : RE) : Array Value := #[.string x.nm, .int .i64 x.sal, .slice x.aP x.nP x.cP, .slice x.aC x.nC x.cC, .slice x.aA x.nA x.cA]
/-- what a rule reads as -/
structure RdRule (w : World) (x : RE) : Prop where
  p : RdPatS w x.aP x.P
  c : RdCond w x.aC x.C
  a : RdActS w x.aA x.A
  np : x.P.length = x.nP
  nc : x.C.length = x.nC
  na : x.A.length = x.nA
theorem RdRule.below {w w' : World} {x : RE} (h : RdRule w x) (hb : Below w.heap.size w w') : RdRule w' x := ⟨h.p.below hb, h.c.below hb, h.a.below hb, h.np, h.nc, h.na⟩
theorem RdRule.heap {w w' : World} {x : RE} (h : RdRule w x) (hb : w'.heap = w.heap) : RdRule w' x := ⟨h.p.heap hb, h.c.heap hb, h.a.heap hb, h.np, h.nc, h.na⟩
def RE.ok (x : RE) : Prop := x.nm.size ≤ maxLen ∧ x.nP ≤ maxLen ∧ (∀ p ∈ x.P, p.ok) ∧ x.nC ≤ maxLen ∧ (∀ c ∈ x.C, c.fits) ∧ x.nA ≤ maxLen ∧ ∀ a ∈ x.A, a.ok
/-- how great a rule is -/
def RE.sz (x : RE) : Nat := x.nm.size + (x.P.length + (x.P.map PE.sz).sum) + x.C.length + (x.A.length + (x.A.map QE.sz).sum)
def RE.small (x : RE) : Prop := x.sz ≤ 1048576 ∧ (∀ p ∈ x.P, p.small) ∧ (∀ c ∈ x.C, c.small) ∧ ∀ a ∈ x.A, a.small
theorem mem_eAt {α : Type} [Inhabited α] {L : List α} {x : α} (h : x ∈ L) : ∃ i, i < L.length ∧ eAt L i = x := by
  obtain ⟨i, hi, rfl⟩ := List.getElem_of_mem h
  exact ⟨i, hi, eAt_in hi⟩
theorem eAt_mem {α : Type} [Inhabited α] {L : List α} {i : Nat} (h : i < L.length) : eAt L i ∈ L := by rw [eAt_in h]; exact List.getElem_mem h
theorem small_pls {K J : List PE} (h : K.map PE.pl = J.map PE.pl) (hs : ∀ p ∈ J, p.small) : ∀ p ∈ K, p.small := fun p hp => by
  obtain ⟨i, hi, rfl⟩ := mem_eAt hp
  exact PE.small_of (hs _ (eAt_mem (by rw [← map_len h]; exact hi))) (map_at h hi)
theorem small_qls {K J : List QE} (h : K.map QE.pl = J.map QE.pl) (hs : ∀ p ∈ J, p.small) : ∀ p ∈ K, p.small := fun p hp => by
  obtain ⟨i, hi, rfl⟩ := mem_eAt hp
  exact QE.small_of (hs _ (eAt_mem (by rw [← map_len h]; exact hi))) (map_at h hi)
theorem RE.small_of {x y : RE} (h : x.small) (e : y.pl = x.pl) : y.small := by
  obtain ⟨e1, e2, e3, e4, e5⟩ := RE.pl_inj e
  obtain ⟨h1, h2, h3, h4⟩ := h
  have f1 := map_len e3
  have f2 := map_len e5
  have f3 := totW_pl (wt := PE.sz) (p := PE.pl) (v := fun x => x.kd.size + x.L.length) (fun _ => rfl) e3
  have f4 := totW_pl (wt := QE.sz) (p := QE.pl) (v := fun x => x.nm.size + x.L.length + x.un.size) (fun _ => rfl) e5
  refine ⟨?_, small_pls e3 h2, by rw [e4]; exact h3, small_qls e5 h4⟩
  unfold RE.sz at *
  rw [e1, f1, f3, e4, f2, f4]; exact h1
/-- a rule's lists lie in blocks of the calls' own, between two numbers -/
structure OwnRule (w : World) (lo hi : Nat) (x : RE) : Prop where
  own : ∃ gP gC gA m1 m2, x.aP = some ⟨gP, 0, none⟩ ∧ OwnPatS w lo m1 gP x.cP x.P x.P.length ∧ x.aC = some ⟨gC, 0, none⟩ ∧ OwnCond w gC x.cC x.C ∧ m1 ≤ gC ∧ gC < m2 ∧ x.aA = some ⟨gA, 0, none⟩ ∧ OwnActS w m2 hi gA x.cA x.A x.A.length
  np : x.P.length = x.nP
  nc : x.C.length = x.nC
  na : x.A.length = x.nA
theorem OwnRule.rd {w : World} {lo hi : Nat} {x : RE} (h : OwnRule w lo hi x) : RdRule w x := by
  obtain ⟨gP, gC, gA, m1, m2, e1, o1, e2, o2, -, -, e3, o3⟩ := h.own
  exact ⟨by rw [e1]; exact rdOwnPatS o1, by rw [e2]; exact rdOwnCond o2, by rw [e3]; exact rdOwnActS o3, h.np, h.nc, h.na⟩
theorem OwnRule.top {w : World} {lo hi : Nat} {x : RE} (h : OwnRule w lo hi x) : hi ≤ w.heap.size := by
  obtain ⟨gP, gC, gA, m1, m2, e1, o1, e2, o2, -, -, e3, o3⟩ := h.own
  exact o3.top
theorem OwnRule.lohi {w : World} {lo hi : Nat} {x : RE} (h : OwnRule w lo hi x) : lo < hi := by
  obtain ⟨gP, gC, gA, m1, m2, e1, o1, e2, o2, h1, h2, e3, o3⟩ := h.own
  have := o1.low
  have := o1.lth
  have := o3.low
  have := o3.lth
  omega
theorem OwnRule.keep {w w' : World} {lo hi : Nat} {x : RE} (h : OwnRule w lo hi x) (hsz : w.heap.size ≤ w'.heap.size) (hs : ∀ q, lo ≤ q → q < hi → w'.heap[q]? = w.heap[q]?) : OwnRule w' lo hi x := by
  obtain ⟨gP, gC, gA, m1, m2, e1, o1, e2, o2, h1, h2, e3, o3⟩ := h.own
  have a1 := o1.low
  have a2 := o1.lth
  have a3 := o3.low
  have a4 := o3.lth
  exact ⟨⟨gP, gC, gA, m1, m2, e1, o1.keep innPat hsz (fun q q1 q2 => hs q q1 (by omega)), e2, o2.same (hs gC (by omega) (by omega)), h1, h2, e3, o3.keep innAct hsz (fun q q1 q2 => hs q (by omega) q2)⟩, h.np, h.nc, h.na⟩
theorem OwnRule.later {w w' : World} {lo hi : Nat} {x : RE} (h : OwnRule w lo hi x) (hb : Below w.heap.size w w') : OwnRule w' lo hi x :=
  h.keep hb.size (fun q _ hq => hb.block q (Nat.lt_of_lt_of_le hq h.top))
theorem OwnRule.grown {w w' : World} {lo hi p : Nat} {x : RE} (h : OwnRule w lo hi x) (hg : w.grownBy w' (some p)) (hp : p < lo ∨ hi ≤ p) : OwnRule w' lo hi x :=
  h.keep hg.size (fun q h1 h2 => hg.block q (Nat.lt_of_lt_of_le h2 h.top) (by simp; omega))
theorem OwnRule.weaken {w : World} {lo lo' hi hi' : Nat} {x : RE} (h : OwnRule w lo hi x) (hl : lo' ≤ lo) (hh : hi ≤ hi') (ht : hi' ≤ w.heap.size) : OwnRule w lo' hi' x := by
  obtain ⟨gP, gC, gA, m1, m2, e1, o1, e2, o2, h1, h2, e3, o3⟩ := h.own
  have := o3.top
  have := o3.low
  have := o3.lth
  exact ⟨⟨gP, gC, gA, m1, m2, e1, o1.weaken hl (Nat.le_refl _) o1.top, e2, o2, h1, h2, e3, o3.weaken (Nat.le_refl _) hh ht⟩, h.np, h.nc, h.na⟩

theorem rule_cells {H : Type} {enc : TypeId × Value → H} {w : World} {spare : Nat → Bool} {held : Bool} {n : Nat} {cs : List Value} {x : DataW H × List MemPlace}
    (h : DataW.trod enc Try.prog w 0 spare held n 72 cs = some x) : ∃ y : RE, cs = y.arr.toList ∧ RdRule w y ∧ y.ok := by
  obtain ⟨y0, y1, y2, y3, y4, m, hl, h0, h1, h2, h3, h4⟩ := trod_struct5 Try.underlying72 h
  have hc : Try.prog.cellsOf 72 = 5 := by kernel_rfl
  have e0 : Try.prog.cellsOf 9 = 1 := by kernel_rfl
  have e1 : Try.prog.cellsOf 3 = 1 := by kernel_rfl
  have e2 : Try.prog.cellsOf 68 = 1 := by kernel_rfl
  have e3 : Try.prog.cellsOf 69 = 1 := by kernel_rfl
  have e4 : Try.prog.cellsOf 70 = 1 := by kernel_rfl
  rw [hc] at hl
  match cs, hl with
  | [c0, c1, c2, c3, c4], _ =>
    simp only [e0, e1, e2, e3, e4, List.drop_zero, List.drop_succ_cons, List.take_succ_cons, List.take_zero] at h0 h1 h2 h3 h4
    obtain ⟨v0, q0, _, w0⟩ := DataW.trod_string Try.underlying9 h0
    obtain ⟨v1, q1, _, _⟩ := DataW.trod_int Try.underlying3 h1
    obtain ⟨aP, nP, cP, P, qP, lP, mP, rP, okP⟩ := pats_in h2
    obtain ⟨aC, nC, cC, C, qC, lC, mC, rC, okC⟩ := conds_in h3
    obtain ⟨aA, nA, cA, A, qA, lA, mA, rA, okA⟩ := acts_in h4
    simp only [List.cons.injEq, and_true] at q0 q1
    exact ⟨⟨v0, v1, aP, nP, cP, P, aC, nC, cC, C, aA, nA, cA, A⟩, by rw [q0, q1, qP, qC, qA]; rfl, ⟨rP, rC, rA, lP, lC, lA⟩, w0, mP, okP, mC, okC, mA, okA⟩
theorem rule_in {H : Type} {enc : TypeId × Value → H} {w : World} {b0 : Nat} {spare : Nat → Bool} {held : Bool} {r : Reach} {v : Value} {d : DataW H} {p : List MemPlace}
    (hv : Value.okWide Try.prog w r b0 72 v) (h : DataW.Trod enc Try.prog w 0 spare held 72 v d p) : ∃ x : RE, v = .agg x.arr ∧ RdRule w x ∧ x.ok := by
  obtain ⟨cs, rfl, hsz⟩ := okWide_struct Try.underlying72 hv
  obtain ⟨fuel, hf⟩ := h
  obtain ⟨y, e, hr, hy⟩ := rule_cells hf
  refine ⟨y, ?_, hr, hy⟩
  have e2 : cs.toList = y.arr.toList := e
  rw [← Array.toArray_toList (xs := cs), e2]
end Go.Proofs.Ytcfhpcbkdpgboaa
/-
  A block of some cells (a struct in memory): what it reads as, what a store leaves.
-/
namespace Go.Proofs.Ytcfhpcbkdpgboaa
open Go.RowKit
set_option linter.unusedVariables false

theorem boxk_new (w : World) (cs : Array Value) (T : TypeId) : (w.alloc (.cells cs T)).heap[w.heap.size]? = some (.cells cs T (0, 0)) := by rw [heap_alloc_new]
theorem boxk_cell {w : World} {q : Nat} {cs : Array Value} {T : TypeId} (h : w.heap[q]? = some (.cells cs T (0, 0))) (j : Nat) (c : Value) (hc : cs[j]? = some c) : w.cell? ⟨q, j, none⟩ = some c := by
  rw [cell_of_row w q j cs T (0, 0) h]; exact hc
theorem boxk_frozen {w : World} {q : Nat} {cs : Array Value} {T : TypeId} (h : w.heap[q]? = some (.cells cs T (0, 0))) (j : Nat) : w.frozen? ⟨q, j, none⟩ = false := frozen_of_row w q j _ T h
theorem boxk_set {w : World} {q : Nat} {cs : Array Value} {T : TypeId} (h : w.heap[q]? = some (.cells cs T (0, 0))) (j : Nat) (v : Value) :
    (w.setCell ⟨q, j, none⟩ v).heap[q]? = some (.cells (cs.setIfInBounds j v) T (0, 0)) ∧ w.grownBy (w.setCell ⟨q, j, none⟩ v) (some q) := by
  refine ⟨by rw [heap_setCell_same w q j _ T v h], ⟨rfl, rfl, rfl, by simp [World.setCell], fun k _ hk => heap_setCell_other w ⟨q, j, none⟩ k v (fun e => hk (by simp [e]))⟩⟩
theorem grown_tt {a b c : World} {row : Option Nat} (h : a.grownBy b row) (k : b.grownBy c row) : a.grownBy c row :=
  ⟨k.os.trans h.os, k.tape.trans h.tape, k.output.trans h.output, Nat.le_trans h.size k.size, fun i hi hne => (k.block i (Nat.lt_of_lt_of_le hi h.size) hne).trans (h.block i hi hne)⟩
theorem box4_set {w : World} {q : Nat} {c0 c1 c2 c3 : Value} {T : TypeId} (h : w.heap[q]? = some (.cells #[c0, c1, c2, c3] T (0, 0))) (v0 v1 v2 v3 : Value) :
    ((((w.setCell ⟨q, 0, none⟩ v0).setCell ⟨q, 1, none⟩ v1).setCell ⟨q, 2, none⟩ v2).setCell ⟨q, 3, none⟩ v3).heap[q]? = some (.cells #[v0, v1, v2, v3] T (0, 0)) ∧ w.grownBy ((((w.setCell ⟨q, 0, none⟩ v0).setCell ⟨q, 1, none⟩ v1).setCell ⟨q, 2, none⟩ v2).setCell ⟨q, 3, none⟩ v3) (some q) := by
  have h0 := boxk_set h 0 v0
  have h1 := boxk_set h0.1 1 v1
  have h2 := boxk_set h1.1 2 v2
  have h3 := boxk_set h2.1 3 v3
  exact ⟨h3.1, (grown_tt (grown_tt (grown_tt h0.2 h1.2) h2.2) h3.2)⟩
theorem box4_post {P : Program} {f : Func} {Q : Ending → World → Prop} {x : Exit} {act : Act} {w : World} {q : Nat} {c0 c1 c2 c3 v0 v1 v2 v3 : Value} {T : TypeId} (h : w.heap[q]? = some (.cells #[c0, c1, c2, c3] T (0, 0)))
    (k : ∀ w2, w2.heap[q]? = some (.cells #[v0, v1, v2, v3] T (0, 0)) → w.grownBy w2 (some q) → bodyPost P f Q x act w2) : bodyPost P f Q x act ((((w.setCell ⟨q, 0, none⟩ v0).setCell ⟨q, 1, none⟩ v1).setCell ⟨q, 2, none⟩ v2).setCell ⟨q, 3, none⟩ v3) :=
  k _ (box4_set h v0 v1 v2 v3).1 (box4_set h v0 v1 v2 v3).2
theorem box5_set {w : World} {q : Nat} {c0 c1 c2 c3 c4 : Value} {T : TypeId} (h : w.heap[q]? = some (.cells #[c0, c1, c2, c3, c4] T (0, 0))) (v0 v1 v2 v3 v4 : Value) :
    (((((w.setCell ⟨q, 0, none⟩ v0).setCell ⟨q, 1, none⟩ v1).setCell ⟨q, 2, none⟩ v2).setCell ⟨q, 3, none⟩ v3).setCell ⟨q, 4, none⟩ v4).heap[q]? = some (.cells #[v0, v1, v2, v3, v4] T (0, 0)) ∧ w.grownBy (((((w.setCell ⟨q, 0, none⟩ v0).setCell ⟨q, 1, none⟩ v1).setCell ⟨q, 2, none⟩ v2).setCell ⟨q, 3, none⟩ v3).setCell ⟨q, 4, none⟩ v4) (some q) := by
  have h0 := boxk_set h 0 v0
  have h1 := boxk_set h0.1 1 v1
  have h2 := boxk_set h1.1 2 v2
  have h3 := boxk_set h2.1 3 v3
  have h4 := boxk_set h3.1 4 v4
  exact ⟨h4.1, (grown_tt (grown_tt (grown_tt (grown_tt h0.2 h1.2) h2.2) h3.2) h4.2)⟩
theorem box5_post {P : Program} {f : Func} {Q : Ending → World → Prop} {x : Exit} {act : Act} {w : World} {q : Nat} {c0 c1 c2 c3 c4 v0 v1 v2 v3 v4 : Value} {T : TypeId} (h : w.heap[q]? = some (.cells #[c0, c1, c2, c3, c4] T (0, 0)))
    (k : ∀ w2, w2.heap[q]? = some (.cells #[v0, v1, v2, v3, v4] T (0, 0)) → w.grownBy w2 (some q) → bodyPost P f Q x act w2) : bodyPost P f Q x act (((((w.setCell ⟨q, 0, none⟩ v0).setCell ⟨q, 1, none⟩ v1).setCell ⟨q, 2, none⟩ v2).setCell ⟨q, 3, none⟩ v3).setCell ⟨q, 4, none⟩ v4) :=
  k _ (box5_set h v0 v1 v2 v3 v4).1 (box5_set h v0 v1 v2 v3 v4).2
end Go.Proofs.Ytcfhpcbkdpgboaa
/-
  The contracts of the laws' own helpers on values: toVal copies, szVal counts the text's bytes off.
-/
namespace Go.Proofs.Ytcfhpcbkdpgboaa
open Go.RowKit
set_option linter.unusedVariables false

set_option maxHeartbeats 800000 in
theorem toVal_any (K N : Int) (S : ByteArray) (w : World) :
    Calls Try.prog 105 #[.agg #[.int .i64 K, .int .i64 N, .string S]] w fun e w' =>
      e = .returned (.agg #[.int .i64 K, .int .i64 N, .string S]) ∧ Below w.heap.size w w' := by
  go_enter Try.func105, Try.ntmps105
  go_wp2
  go_returns
  exact ⟨rfl, by go_grown⟩

set_option maxHeartbeats 800000 in
theorem szVal_any (K N : Int) (S : ByteArray) (left : Int) (w : World) (hs : S.size ≤ maxLen) (h0 : 0 ≤ left) (h1 : left ≤ 1048576) :
    Calls Try.prog 103 #[.agg #[.int .i64 K, .int .i64 N, .string S], .int .i64 left] w fun e w' =>
      e = .returned (.int .i64 (if left - (S.size : Int) < 0 then -1 else left - (S.size : Int))) ∧ Below w.heap.size w w' := by
  unfold maxLen at hs
  by_cases h : left - (S.size : Int) < 0
  · rw [if_pos h]
    go_enter Try.func103, Try.ntmps103
    go_wp2
    go_ret
    exact ⟨rfl, by go_grown⟩
  · rw [if_neg h]
    go_enter Try.func103, Try.ntmps103
    go_wp2
    go_ret
    exact ⟨rfl, by go_grown⟩
end Go.Proofs.Ytcfhpcbkdpgboaa
/-
  The contract of the laws' own comparison of values: a value is the same as itself.
-/
namespace Go.Proofs.Ytcfhpcbkdpgboaa
open Go.RowKit
set_option linter.unusedVariables false

set_option maxHeartbeats 800000 in
theorem eqVal_same (K N : Int) (S : ByteArray) (w : World) :
    Calls Try.prog 107 #[.agg #[.int .i64 K, .int .i64 N, .string S], .agg #[.int .i64 K, .int .i64 N, .string S]] w fun e w' =>
      e = .returned (.bool true) ∧ Below w.heap.size w w' := by
  have k1 : (K != K) = false := by simp
  have k2 : (N != N) = false := by simp
  have k3 : (S.toList == S.toList) = true := by simp
  go_enter Try.func107, Try.ntmps107
  go_wp2
  go_ret
  exact ⟨rfl, by go_grown⟩
end Go.Proofs.Ytcfhpcbkdpgboaa
/-
  Six cells (two values in memory) are kept where all that was there is.
-/
namespace Go.Proofs.Ytcfhpcbkdpgboaa
open Go.RowKit
set_option linter.unusedVariables false

theorem keep6 {W w' : World} {a0 a1 a2 a3 a4 a5 : Addr} {v0 v1 v2 v3 v4 v5 : Value} (hb : Below W.heap.size W w')
    (h : W.cell? a0 = some v0 ∧ W.cell? a1 = some v1 ∧ W.cell? a2 = some v2 ∧ W.cell? a3 = some v3 ∧ W.cell? a4 = some v4 ∧ W.cell? a5 = some v5) :
    w'.cell? a0 = some v0 ∧ w'.cell? a1 = some v1 ∧ w'.cell? a2 = some v2 ∧ w'.cell? a3 = some v3 ∧ w'.cell? a4 = some v4 ∧ w'.cell? a5 = some v5 := by
  obtain ⟨h0, h1, h2, h3, h4, h5⟩ := h
  have k : ∀ {a : Addr} {v : Value}, W.cell? a = some v → w'.cell? a = some v := fun {a v} h => by rw [hb.cell (World.block_lt_of_cell? W _ h)]; exact h
  exact ⟨k h0, k h1, k h2, k h3, k h4, k h5⟩

/-- two values in memory, and all that was there at the head -/
theorem keep7 {w0 W w' : World} {B : Nat} {a0 a1 a2 a3 a4 a5 : Addr} {v0 v1 v2 v3 v4 v5 : Value} (hb : Below W.heap.size W w')
    (h : W.cell? a0 = some v0 ∧ W.cell? a1 = some v1 ∧ W.cell? a2 = some v2 ∧ W.cell? a3 = some v3 ∧ W.cell? a4 = some v4 ∧ W.cell? a5 = some v5 ∧ Below B w0 W ∧ B ≤ W.heap.size) :
    w'.cell? a0 = some v0 ∧ w'.cell? a1 = some v1 ∧ w'.cell? a2 = some v2 ∧ w'.cell? a3 = some v3 ∧ w'.cell? a4 = some v4 ∧ w'.cell? a5 = some v5 ∧ Below B w0 w' ∧ B ≤ w'.heap.size := by
  obtain ⟨h0, h1, h2, h3, h4, h5, h6, h7⟩ := h
  have k : ∀ {a : Addr} {v : Value}, W.cell? a = some v → w'.cell? a = some v := fun {a v} h => by rw [hb.cell (World.block_lt_of_cell? W _ h)]; exact h
  exact ⟨k h0, k h1, k h2, k h3, k h4, k h5, h6.trans (hb.mono h7), Nat.le_trans h7 hb.size⟩

theorem below_al (w : World) (o : Obj) : Below w.heap.size w (w.alloc o) := (Below.refl _ _).alloc (Nat.le_refl _) _
theorem below_ald (w : World) (o : Obj) : Below w.heap.size w (w.alloc o).drew := (below_al w o).drew
/-- a store of three cells into a block that was made where the two values lay -/
theorem keep7s {w0 W W1 : World} {B : Nat} {a0 a1 a2 a3 a4 a5 : Addr} {v0 v1 v2 v3 v4 v5 x y z : Value}
    (h1 : W1.cell? a0 = some v0 ∧ W1.cell? a1 = some v1 ∧ W1.cell? a2 = some v2 ∧ W1.cell? a3 = some v3 ∧ W1.cell? a4 = some v4 ∧ W1.cell? a5 = some v5 ∧ Below B w0 W1 ∧ B ≤ W1.heap.size)
    (h : W.cell? a0 = some v0 ∧ W.cell? a1 = some v1 ∧ W.cell? a2 = some v2 ∧ W.cell? a3 = some v3 ∧ W.cell? a4 = some v4 ∧ W.cell? a5 = some v5 ∧ Below B w0 W ∧ B ≤ W.heap.size)
    (hq : ∃ c0 c1 c2 T, W.heap[W1.heap.size]? = some (.cells #[c0, c1, c2] T (0, 0))) :
    (((W.setCell ⟨W1.heap.size, 0, none⟩ x).setCell ⟨W1.heap.size, 1, none⟩ y).setCell ⟨W1.heap.size, 2, none⟩ z).cell? a0 = some v0 ∧ (((W.setCell ⟨W1.heap.size, 0, none⟩ x).setCell ⟨W1.heap.size, 1, none⟩ y).setCell ⟨W1.heap.size, 2, none⟩ z).cell? a1 = some v1 ∧ (((W.setCell ⟨W1.heap.size, 0, none⟩ x).setCell ⟨W1.heap.size, 1, none⟩ y).setCell ⟨W1.heap.size, 2, none⟩ z).cell? a2 = some v2 ∧ (((W.setCell ⟨W1.heap.size, 0, none⟩ x).setCell ⟨W1.heap.size, 1, none⟩ y).setCell ⟨W1.heap.size, 2, none⟩ z).cell? a3 = some v3 ∧ (((W.setCell ⟨W1.heap.size, 0, none⟩ x).setCell ⟨W1.heap.size, 1, none⟩ y).setCell ⟨W1.heap.size, 2, none⟩ z).cell? a4 = some v4 ∧ (((W.setCell ⟨W1.heap.size, 0, none⟩ x).setCell ⟨W1.heap.size, 1, none⟩ y).setCell ⟨W1.heap.size, 2, none⟩ z).cell? a5 = some v5 ∧ Below B w0 (((W.setCell ⟨W1.heap.size, 0, none⟩ x).setCell ⟨W1.heap.size, 1, none⟩ y).setCell ⟨W1.heap.size, 2, none⟩ z) ∧ B ≤ (((W.setCell ⟨W1.heap.size, 0, none⟩ x).setCell ⟨W1.heap.size, 1, none⟩ y).setCell ⟨W1.heap.size, 2, none⟩ z).heap.size := by
  obtain ⟨c0, c1, c2, T, hq⟩ := hq
  obtain ⟨-, g⟩ := box_set3 hq x y z
  generalize ((W.setCell ⟨W1.heap.size, 0, none⟩ x).setCell ⟨W1.heap.size, 1, none⟩ y).setCell ⟨W1.heap.size, 2, none⟩ z = Y at g ⊢
  obtain ⟨p0, p1, p2, p3, p4, p5, p6, p7⟩ := h1
  obtain ⟨h0, h1, h2, h3, h4, h5, h6, h7⟩ := h
  have k : ∀ {a : Addr} {u v : Value}, W1.cell? a = some u → W.cell? a = some v → Y.cell? a = some v := fun {a u v} p h => g.cell h (by have := World.block_lt_of_cell? W1 _ p; simp; omega)
  exact ⟨k p0 h0, k p1 h1, k p2 h2, k p3 h3, k p4 h4, k p5 h5, h6.grown g h7 (fun j hj => by cases hj; exact p7), Nat.le_trans h7 g.size⟩
theorem below_dr {w u : World} (k : Below w.drew.heap.size w.drew u) : Below w.heap.size w u := (Below.refl w.heap.size w).drew.trans k
theorem below_step {w u v : World} (h : Below w.heap.size w u) (k : Below u.heap.size u v) : Below w.heap.size w v := h.trans (k.mono h.size)
theorem below_end {w u : World} (h : Below w.heap.size w u) (o : Obj) : Below w.heap.size w (u.alloc o) := h.alloc h.size o
theorem box_step {w w' : World} {R : Nat} {o : Obj} (h : w.heap[R]? = some o) (hb : Below w.heap.size w w') : w'.heap[R]? = some o := box_below h hb (Array.getElem?_eq_some_iff.1 h).1
theorem box_newd (w : World) (c0 c1 c2 : Value) (T : TypeId) : (w.alloc (.cells #[c0, c1, c2] T)).drew.heap[w.heap.size]? = some (.cells #[c0, c1, c2] T (0, 0)) := box_new w c0 c1 c2 T
end Go.Proofs.Ytcfhpcbkdpgboaa
/-
  The contracts of the laws' own helpers on rows of values and on facts.
-/
namespace Go.Proofs.Ytcfhpcbkdpgboaa
open Go.RowKit
set_option linter.unusedVariables false

theorem Try.info75 : (Try.prog.info? 75).map (fun i => (i.zero, i.size, i.bytes)) = some (some (.agg #[.int .i64 0, .int .i64 0, .string ⟨#[]⟩]), 3, 32) := by kernel_rfl

/-- the first k values copied, the rest still zero -/
def partV (L : List V3) (k : Nat) : List V3 := L.take k ++ List.replicate (L.length - k) ⟨0, 0, ⟨#[]⟩⟩
theorem partV_length {L : List V3} {k : Nat} (h : k ≤ L.length) : (partV L k).length = L.length := by simp [partV]; omega
theorem partV_zero (L : List V3) : partV L 0 = List.replicate L.length ⟨0, 0, ⟨#[]⟩⟩ := by simp [partV]
theorem partV_end (L : List V3) : partV L L.length = L := by simp [partV]
theorem cells3_set (L M : List V3) (v : V3) (x : V3) :
    (((cells3 (L ++ x :: M)).set (L.length * 3) (.int .i64 v.K)).set (L.length * 3 + 1) (.int .i64 v.N)).set (L.length * 3 + 2) (.string v.S) = cells3 (L ++ v :: M) := by
  have e : ∀ y : V3, cells3 (L ++ y :: M) = cells3 L ++ (.int .i64 y.K :: .int .i64 y.N :: .string y.S :: cells3 M) := fun y => by simp [cells3]
  have hl := cells3_length L
  rw [e, e, List.set_append_right _ _ (by omega), hl, Nat.sub_self, List.set_append_right _ _ (by omega), hl, List.set_append_right _ _ (by omega), hl]
  simp
theorem partV_set {L : List V3} {k : Nat} (h : k < L.length) :
    (((cells3 (partV L k)).set (k * 3) (.int .i64 (vAt L k).K)).set (k * 3 + 1) (.int .i64 (vAt L k).N)).set (k * 3 + 2) (.string (vAt L k).S) = cells3 (partV L (k + 1)) := by
  have h1 : partV L k = L.take k ++ ⟨0, 0, ⟨#[]⟩⟩ :: List.replicate (L.length - (k + 1)) ⟨0, 0, ⟨#[]⟩⟩ := by
    unfold partV; rw [show L.length - k = (L.length - (k + 1)) + 1 by omega, List.replicate_succ]
  have h2 : partV L (k + 1) = L.take k ++ vAt L k :: List.replicate (L.length - (k + 1)) ⟨0, 0, ⟨#[]⟩⟩ := by
    unfold partV; rw [List.take_succ_eq_append_getElem h, vAt_in h, List.append_assoc]; rfl
  have := cells3_set (L.take k) (List.replicate (L.length - (k + 1)) ⟨0, 0, ⟨#[]⟩⟩) (vAt L k) ⟨0, 0, ⟨#[]⟩⟩
  rw [List.length_take, Nat.min_eq_left (by omega)] at this
  rw [h1, h2]; exact this
theorem made3 (n : Nat) : (madeCells #[Value.int .i64 0, .int .i64 0, .string ⟨#[]⟩] (n * 3)).toList = cells3 (List.replicate n ⟨0, 0, ⟨#[]⟩⟩) := by
  have hl : (madeCells #[Value.int .i64 0, .int .i64 0, .string ⟨#[]⟩] (n * 3)).toList.length = n * 3 := by simp [madeCells]
  apply List.ext_getElem?
  intro j
  by_cases hj : j < n * 3
  · obtain ⟨i, r, rfl, hr⟩ : ∃ i r, j = i * 3 + r ∧ r < 3 := ⟨j / 3, j % 3, by omega, by omega⟩
    have hi : i < (List.replicate n (⟨0, 0, ⟨#[]⟩⟩ : V3)).length := by simp; omega
    obtain ⟨g0, g1, g2⟩ := cells3_get (List.replicate n ⟨0, 0, ⟨#[]⟩⟩) i hi
    have ev : vAt (List.replicate n (⟨0, 0, ⟨#[]⟩⟩ : V3)) i = ⟨0, 0, ⟨#[]⟩⟩ := by rw [vAt_in hi]; simp
    rw [ev] at g0 g1 g2
    match r, hr with
    | 0, _ => rw [Nat.add_zero, g0]; simp [madeCells, show i * 3 < n * 3 by omega]
    | 1, _ => rw [g1]; simp [madeCells, show i * 3 + 1 < n * 3 by omega, show (i * 3 + 1) % 3 = 1 by omega]
    | 2, _ => rw [g2]; simp [madeCells, show i * 3 + 2 < n * 3 by omega, show (i * 3 + 2) % 3 = 2 by omega]
  · rw [List.getElem?_eq_none (by omega), List.getElem?_eq_none (by rw [cells3_length]; simp; omega)]

theorem ownsRow_below {w w' : World} {base n size : Nat} {e : TypeId} {v : Value} {xs : List Value} (h : w.ownsRow base e size v n xs) (hb : Below w.heap.size w w') : w'.ownsRow base e size v n xs := by
  refine ⟨h.1, ?_⟩
  rcases h.2 with h2 | ⟨g, cap, cur, h1, hb', hh, rest⟩
  · exact .inl h2
  · exact .inr ⟨g, cap, cur, h1, hb', by rw [hb.block g (Array.getElem?_eq_some_iff.1 hh).1]; exact hh, rest⟩

def szL (L : List V3) : Nat := L.length + (L.map fun v => v.S.size).sum
def sumS (L : List V3) (k : Nat) : Nat := ((L.take k).map fun v => v.S.size).sum
theorem sumS_step {L : List V3} {k : Nat} (h : k < L.length) : sumS L (k + 1) = sumS L k + (vAt L k).S.size := by
  unfold sumS; rw [List.take_succ_eq_append_getElem h, vAt_in h, List.map_append, List.sum_append]; simp only [List.map_cons, List.map_nil, List.sum_cons, List.sum_nil, Nat.add_zero]
theorem sumS_end (L : List V3) : sumS L L.length = (L.map fun v => v.S.size).sum := by unfold sumS; rw [List.take_length]
theorem mem_sum : ∀ {l : List Nat} {x : Nat}, x ∈ l → x ≤ l.sum
  | y :: r, x, h => by
    rw [List.sum_cons]
    rcases List.mem_cons.1 h with rfl | h
    · omega
    · have := mem_sum h; omega
theorem szL_mem {L : List V3} {v : V3} (h : v ∈ L) : v.S.size + L.length ≤ szL L := by
  unfold szL
  have : v.S.size ≤ (L.map fun v => v.S.size).sum := mem_sum (List.mem_map.2 ⟨v, h, rfl⟩)
  omega

theorem eqVal_any (K N : Int) (S : ByteArray) (w : World) (B : Nat) (h : w.heap.size = B) :
    Calls Try.prog 107 #[.agg #[.int .i64 K, .int .i64 N, .string S], .agg #[.int .i64 K, .int .i64 N, .string S]] w fun e w' =>
      e = .returned (.bool true) ∧ Below B w w' := by subst h; exact eqVal_same K N S w
end Go.Proofs.Ytcfhpcbkdpgboaa
/-
  The contracts of the laws' own helpers on Args: to copies, sz counts off, eq finds one the same as itself; so of rows of them.
-/
namespace Go.Proofs.Ytcfhpcbkdpgboaa
open Go.RowKit
set_option linter.unusedVariables false

theorem Try.info77 : (Try.prog.info? 77).map (fun i => (i.zero, i.size, i.bytes)) = some (some (.agg #[.int .i64 0, .string ⟨#[]⟩, .int .i64 0, .int .i64 0, .string ⟨#[]⟩]), 5, 56) := by kernel_rfl

set_option maxRecDepth 100000 in
set_option maxHeartbeats 1600000 in
theorem toArg_any (K : Int) (S : ByteArray) (VK : Int) (VN : Int) (VS : ByteArray) (w : World) :
    Calls Try.prog 97 #[.agg #[.int .i64 K, .string S, .int .i64 VK, .int .i64 VN, .string VS]] w fun e w' => e = .returned (.agg #[.int .i64 K, .string S, .int .i64 VK, .int .i64 VN, .string VS]) ∧ Below w.heap.size w w' := by
  go_enter Try.func97, Try.ntmps97
  go_wp2_with fail
  have b0 := below_al w (.cells #[.int .i64 K, .string S, .int .i64 VK, .int .i64 VN, .string VS] 125)
  have b1 := b0.alloc b0.size (.cells #[.int .i64 0, .string ⟨#[]⟩, .int .i64 0, .int .i64 0, .string ⟨#[]⟩] 77)
  have b2 := b1.alloc b1.size (.cells #[.int .i64 K, .string S, .int .i64 0, .int .i64 0, .string ⟨#[]⟩] 77)
  have hR := box_old (boxk_new (w.alloc (.cells #[.int .i64 K, .string S, .int .i64 VK, .int .i64 VN, .string VS] 125)) #[.int .i64 0, .string ⟨#[]⟩, .int .i64 0, .int .i64 0, .string ⟨#[]⟩] 77) (by simp) (.cells #[.int .i64 K, .string S, .int .i64 0, .int .i64 0, .string ⟨#[]⟩] 77)
  have hX := boxk_new ((w.alloc (.cells #[.int .i64 K, .string S, .int .i64 VK, .int .i64 VN, .string VS] 125)).alloc (.cells #[.int .i64 0, .string ⟨#[]⟩, .int .i64 0, .int .i64 0, .string ⟨#[]⟩] 77)) #[.int .i64 K, .string S, .int .i64 0, .int .i64 0, .string ⟨#[]⟩] 77
  simp only [World.size_alloc] at hR hX
  refine (toVal_any VK VN VS _).mono ?_
  rintro e w1 ⟨rfl, hb⟩
  have HR := hide (box_below hR hb (by simp))
  have HX := hide (box_below hX hb (by simp))
  have hB : Below w.heap.size w w1 := b2.trans (hb.mono b2.size)
  clear hb hR hX b0 b1 b2
  have x0 := boxk_cell HX.out 0 _ rfl
  have xf0 := boxk_frozen HX.out 0
  have r0 := boxk_cell HR.out 0 _ rfl
  have rf0 := boxk_frozen HR.out 0
  have x1 := boxk_cell HX.out 1 _ rfl
  have xf1 := boxk_frozen HX.out 1
  have r1 := boxk_cell HR.out 1 _ rfl
  have rf1 := boxk_frozen HR.out 1
  have x2 := boxk_cell HX.out 2 _ rfl
  have xf2 := boxk_frozen HX.out 2
  have r2 := boxk_cell HR.out 2 _ rfl
  have rf2 := boxk_frozen HR.out 2
  have x3 := boxk_cell HX.out 3 _ rfl
  have xf3 := boxk_frozen HX.out 3
  have r3 := boxk_cell HR.out 3 _ rfl
  have rf3 := boxk_frozen HR.out 3
  have x4 := boxk_cell HX.out 4 _ rfl
  have xf4 := boxk_frozen HX.out 4
  have r4 := boxk_cell HR.out 4 _ rfl
  have rf4 := boxk_frozen HR.out 4
  have HX2 := hide (boxk_set HX.out 2 (.int .i64 VK))
  have HX3 := hide (boxk_set HX2.out.1 3 (.int .i64 VN))
  have HX4 := hide (boxk_set HX3.out.1 4 (.string VS))
  have HR2 := hide (box_gr (box_gr (box_gr HR.out HX2.out.2 (by omega)) HX3.out.2 (by omega)) HX4.out.2 (by omega))
  have HB2 := hide (below_set (below_set (below_set hB HX2.out.2 (by omega)) HX3.out.2 (by omega)) HX4.out.2 (by omega))
  go_wp2
  refine box5_post HR2.out (fun w4 h4 gr => ?_)
  clear x0 xf0 r0 rf0 x1 xf1 r1 rf1 x2 xf2 r2 rf2 x3 xf3 r3 rf3 x4 xf4 r4 rf4
  have c0 := boxk_cell h4 0 _ rfl
  have c1 := boxk_cell h4 1 _ rfl
  have c2 := boxk_cell h4 2 _ rfl
  have c3 := boxk_cell h4 3 _ rfl
  have c4 := boxk_cell h4 4 _ rfl
  exact bodyPost_ret (v := .agg #[.int .i64 K, .string S, .int .i64 VK, .int .i64 VN, .string VS]) (by simp [results, Try.results97, go_sem, c0, c1, c2, c3, c4]) rfl ⟨rfl, below_set HB2.out gr (by omega)⟩

set_option maxRecDepth 100000 in
set_option maxHeartbeats 1600000 in
theorem szArg_any (K : Int) (S : ByteArray) (VK : Int) (VN : Int) (VS : ByteArray) (left : Int) (w : World) (hs : S.size ≤ maxLen) (hv : VS.size ≤ maxLen) (h0 : 0 ≤ left) (h1 : left ≤ 1048576) :
    Calls Try.prog 94 #[.agg #[.int .i64 K, .string S, .int .i64 VK, .int .i64 VN, .string VS], .int .i64 left] w fun e w' =>
      (∃ r, e = .returned (.int .i64 r) ∧ (r = -1 ∨ (0 ≤ r ∧ r + (S.size : Int) + (VS.size : Int) ≤ left))) ∧ Below w.heap.size w w' := by
  have hs0 := hs
  unfold maxLen at hs
  by_cases h2 : left - (S.size : Int) < 0
  · go_enter Try.func94, Try.ntmps94
    go_wp2
    go_ret
    exact ⟨⟨-1, rfl, .inl rfl⟩, by go_grown⟩
  · go_enter Try.func94, Try.ntmps94
    go_wp2_with fail
    have b0 := below_al w (.cells #[.int .i64 K, .string S, .int .i64 VK, .int .i64 VN, .string VS] 125)
    refine (szVal_any VK VN VS (left - (S.size : Int)) _ hv (by omega) (by omega)).mono ?_
    rintro e w1 ⟨rfl, hb1⟩
    have hB1 : Below w.heap.size w w1 := b0.trans (hb1.mono b0.size)
    clear hb1 b0
    by_cases h3 : left - (S.size : Int) - (VS.size : Int) < 0
    · rw [if_pos h3]
      go_wp2
      go_ret
      exact ⟨⟨-1, rfl, .inl rfl⟩, hB1⟩
    · rw [if_neg h3]
      go_wp2
      go_ret
      exact ⟨⟨_, rfl, .inr ⟨by omega, by omega⟩⟩, hB1⟩

set_option maxRecDepth 100000 in
set_option maxHeartbeats 1600000 in
theorem eqArg_same (K : Int) (S : ByteArray) (VK : Int) (VN : Int) (VS : ByteArray) (w : World) :
    Calls Try.prog 100 #[.agg #[.int .i64 K, .string S, .int .i64 VK, .int .i64 VN, .string VS], .agg #[.int .i64 K, .string S, .int .i64 VK, .int .i64 VN, .string VS]] w fun e w' => e = .returned (.bool true) ∧ Below w.heap.size w w' := by
  have kK : (K != K) = false := by simp
  have kS : (S.toList == S.toList) = true := by simp
  go_enter Try.func100, Try.ntmps100
  go_wp2_with fail
  have b0 := below_al w (.cells #[.int .i64 K, .string S, .int .i64 VK, .int .i64 VN, .string VS] 77)
  have b1 := b0.alloc b0.size (.cells #[.int .i64 K, .string S, .int .i64 VK, .int .i64 VN, .string VS] 77)
  refine (eqVal_same VK VN VS _).mono ?_
  rintro e w1 ⟨rfl, hb⟩
  have hB : Below w.heap.size w w1 := b1.trans (hb.mono b1.size)
  go_wp2
  go_ret
  exact ⟨rfl, hB⟩

set_option maxRecDepth 100000 in
set_option maxHeartbeats 1600000 in
theorem toArgS_at (a : Option Addr) (cap : Nat) (L : List A5) (w : World) (hr : RdArg w a L) (hn : L.length ≤ 1048576) :
    Calls Try.prog 96 #[.slice a L.length cap] w fun e w' =>
      e = .returned (.slice (some ⟨w.heap.size, 0, none⟩) L.length L.length) ∧ w'.ownsRow w.heap.size 77 5 (.slice (some ⟨w.heap.size, 0, none⟩) L.length L.length) L.length (rowOf A5.cs L) ∧ Below w.heap.size w w' := by
  obtain ⟨i0, hi, hz0, hz1, hz2⟩ := info_parts Try.info77
  obtain ⟨n, hN⟩ : ∃ n, n = L.length := ⟨_, rfl⟩
  rw [← hN] at hn ⊢
  have HN := hide hN
  clear hN
  have hmade := rowOf_made (f := A5.cs) (x := A5.zero) (cs := #[.int .i64 0, .string ⟨#[]⟩, .int .i64 0, .int .i64 0, .string ⟨#[]⟩]) rfl (by decide) n
  go_enter Try.func96, Try.ntmps96
  go_wp2_with (at_make; refine wpList_make_full _ rfl _ _ 45 rfl w.heap.size 77 i0 (.agg #[.int .i64 0, .string ⟨#[]⟩, .int .i64 0, .int .i64 0, .string ⟨#[]⟩]) 5 Try.underlying45 hi hz0 hz1 _ _ _ _ n rfl rfl (by omega) (by omega) ?b2 ?b3 (Nat.le_refl _) ?_)
  case b2 => rw [hz2]; omega
  case b3 => unfold maxLen; omega
  intro w0 hown0 hgrow0
  have hown0' : w0.ownsRow w.heap.size 77 5 (.slice (some ⟨w.heap.size, 0, none⟩) n n) n (rowOf A5.cs (List.replicate n A5.zero)) := by rw [← hmade]; exact hown0
  clear hown0 hmade
  go_wp2
  go_loopw [4] (fun i wr => ∃ k : Nat, k ≤ n ∧ i = .int .i64 k ∧ wr.ownsRow w.heap.size 77 5 (.slice (some ⟨w.heap.size, 0, none⟩) n n) n (rowOf A5.cs (partK L A5.zero k)) ∧ Below w.heap.size w wr)
    (fun i _ => n - (intOf i).toNat)
  case atStart =>
    refine ⟨0, Nat.zero_le _, rfl, ?_, (Below.refl _ _).grown hgrow0 (Nat.le_refl _) (fun k h => by cases h)⟩
    rw [partK_zero, ← HN.out]
    exact hown0'
  case round =>
    obtain ⟨k, hk, rfl, hown, hbel⟩ := hrel
    by_cases hlt : k < n
    · obtain ⟨b, off, hab, hbw, hc⟩ := RdArg.cells hr (by rw [← HN.out]; omega)
      obtain ⟨c0, c1, c2, c3, c4⟩ := hc k (by rw [← HN.out]; exact hlt)
      clear hc
      subst hab
      rw [← hbel.cell (p := ⟨b, off + k * 5, none⟩) hbw] at c0
      rw [← hbel.cell (p := ⟨b, off + k * 5 + 1, none⟩) hbw] at c1
      rw [← hbel.cell (p := ⟨b, off + k * 5 + 2, none⟩) hbw] at c2
      rw [← hbel.cell (p := ⟨b, off + k * 5 + 3, none⟩) hbw] at c3
      rw [← hbel.cell (p := ⟨b, off + k * 5 + 4, none⟩) hbw] at c4
      go_wp2_with fail
      refine (toArg_any _ _ _ _ _ _).mono ?_
      rintro e w2 ⟨rfl, hb2⟩
      have hown2 : w2.ownsRow w.heap.size 77 5 (.slice (some ⟨w.heap.size, 0, none⟩) n n) n (rowOf A5.cs (partK L A5.zero k)) := ownsRow_below' hown hb2
      have hbel2 : Below w.heap.size w w2 := hbel.trans (hb2.mono hbel.size)
      have hlen : (rowOf A5.cs (partK L A5.zero k)).length = n * 5 := by rw [rowOf_length A5.len, partK_length (by rw [← HN.out]; omega), ← HN.out]
      have hmem : ∀ j, j < 5 → ∃ u, w2.cell? ⟨w.heap.size, k * 5 + j, none⟩ = some u := fun j hj => by
        rw [hown2.cellAt (k * 5 + j) (by omega), List.getElem?_eq_getElem (by omega)]
        exact ⟨_, rfl⟩
      obtain ⟨u0, m0⟩ := hmem 0 (by omega)
      obtain ⟨u1, m1⟩ := hmem 1 (by omega)
      obtain ⟨u2, m2⟩ := hmem 2 (by omega)
      obtain ⟨u3, m3⟩ := hmem 3 (by omega)
      obtain ⟨u4, m4⟩ := hmem 4 (by omega)
      rw [Nat.add_zero] at m0
      have f0 := hown2.frozenAt (k * 5)
      have f1 := hown2.frozenAt (k * 5 + 1)
      have f2 := hown2.frozenAt (k * 5 + 2)
      have f3 := hown2.frozenAt (k * 5 + 3)
      have f4 := hown2.frozenAt (k * 5 + 4)
      have HO := hide (((((hown2.stored (k * 5) (.int .i64 (eAt L k).K)).1.stored (k * 5 + 1) (.string (eAt L k).S)).1.stored (k * 5 + 2) (.int .i64 (eAt L k).V.K)).1.stored (k * 5 + 3) (.int .i64 (eAt L k).V.N)).1.stored (k * 5 + 4) (.string (eAt L k).V.S)).1
      have HB : Hid (Below w.heap.size w (((((w2.setCell ⟨w.heap.size, k * 5, none⟩ (.int .i64 (eAt L k).K)).setCell ⟨w.heap.size, k * 5 + 1, none⟩ (.string (eAt L k).S)).setCell ⟨w.heap.size, k * 5 + 2, none⟩ (.int .i64 (eAt L k).V.K)).setCell ⟨w.heap.size, k * 5 + 3, none⟩ (.int .i64 (eAt L k).V.N)).setCell ⟨w.heap.size, k * 5 + 4, none⟩ (.string (eAt L k).V.S))) := (((((hbel2.setCell (Nat.le_refl _) _).setCell (Nat.le_refl _) _).setCell (Nat.le_refl _) _).setCell (Nat.le_refl _) _).setCell (Nat.le_refl _) _)
      rw [rowOf_set_A5 (eAt L k) _ k (by rw [partK_length (by rw [← HN.out]; omega), ← HN.out]; exact hlt), partK_set (by rw [← HN.out]; exact hlt)] at HO
      clear hmem hlen c0 c1 c2 c3 c4 hown hbel hb2 hown2 hbel2
      go_wp2
      go_roundw
      case rel => exact ⟨k + 1, by omega, by go_num, HO.out, HB.out⟩
      case measure => simp [intOf]; omega
    · have HE : Hid (wr.ownsRow w.heap.size 77 5 (.slice (some ⟨w.heap.size, 0, none⟩) n n) n (rowOf A5.cs L)) := by
        have hkn : k = L.length := by rw [← HN.out]; omega
        rw [hkn, partK_end] at hown
        exact hown
      clear hown
      go_wp2
      go_ret
      exact ⟨rfl, HE.out, hbel⟩

set_option maxRecDepth 100000 in
set_option maxHeartbeats 1600000 in
theorem szArgS_any (a : Option Addr) (cap : Nat) (L : List A5) (left : Int) (w : World) (hr : RdArg w a L) (hs : ∀ x ∈ L, x.fits) (hm : L.length ≤ maxLen) (h0 : 0 ≤ left) (h1 : left ≤ 1048576) :
    Calls Try.prog 93 #[.slice a L.length cap, .int .i64 left] w fun e w' =>
      (∃ r, e = .returned (.int .i64 r) ∧ (r = -1 ∨ (0 ≤ r ∧ r + (L.length : Int) ≤ left ∧ ∀ x ∈ L, x.small))) ∧ Below w.heap.size w w' := by
  unfold maxLen at hm
  obtain ⟨n, hN⟩ : ∃ n, n = L.length := ⟨_, rfl⟩
  rw [← hN] at hm ⊢
  have HN := hide hN
  have HS := hide hs
  clear hN hs
  by_cases h2 : left - (n : Int) < 0
  · go_enter Try.func93, Try.ntmps93
    go_wp2
    go_ret
    exact ⟨⟨-1, rfl, .inl rfl⟩, Below.refl _ _⟩
  · go_enter Try.func93, Try.ntmps93
    go_wp2
    go_loopw [1, 5] (fun l i wr => ∃ (k : Nat) (lf : Int), k ≤ n ∧ i = .int .i64 k ∧ l = .int .i64 lf ∧ 0 ≤ lf ∧ lf ≤ left - n ∧ (∀ j, j < k → (eAt L j).small) ∧ Below w.heap.size w wr) (fun _ i _ => n - (intOf i).toNat)
    case atStart => exact ⟨0, left - n, Nat.zero_le _, rfl, rfl, by omega, Int.le_refl _, fun j hj => absurd hj (Nat.not_lt_zero _), Below.refl _ _⟩
    case round =>
      obtain ⟨k, lf, hk, rfl, rfl, hlf, hle, hsm, hbel⟩ := hrel
      have HSm := hide hsm
      clear hsm
      by_cases hlt : k < n
      · obtain ⟨b, off, hab, hbw, hc⟩ := RdArg.cells hr (by rw [← HN.out]; omega)
        obtain ⟨c0, c1, c2, c3, c4⟩ := hc k (by rw [← HN.out]; exact hlt)
        clear hc
        subst hab
        rw [← hbel.cell (p := ⟨b, off + k * 5, none⟩) hbw] at c0
        rw [← hbel.cell (p := ⟨b, off + k * 5 + 1, none⟩) hbw] at c1
        rw [← hbel.cell (p := ⟨b, off + k * 5 + 2, none⟩) hbw] at c2
        rw [← hbel.cell (p := ⟨b, off + k * 5 + 3, none⟩) hbw] at c3
        rw [← hbel.cell (p := ⟨b, off + k * 5 + 4, none⟩) hbw] at c4
        have hS : (eAt L k).fits := by rw [eAt_in (by rw [← HN.out]; exact hlt)]; exact HS.out _ (List.getElem_mem _)
        obtain ⟨hS0, hS1⟩ := hS
        go_wp2_with fail
        refine (szArg_any _ _ _ _ _ lf _ hS0 hS1 hlf (by omega)).mono ?_
        rintro e w2 ⟨⟨r, rfl, hr2⟩, hb2⟩
        have hbel2 : Below w.heap.size w w2 := hbel.trans (hb2.mono hbel.size)
        clear hb2 c0 c1 c2 c3 c4 hbel
        rcases hr2 with rfl | ⟨h3, h4⟩
        · go_wp2
          go_ret
          exact ⟨⟨-1, rfl, .inl rfl⟩, hbel2⟩
        · have HSk : Hid ((eAt L k).small) := ⟨by omega, by omega⟩
          have h5 : r ≤ lf := by omega
          clear h4
          go_wp2
          go_roundw
          case rel => exact ⟨k + 1, r, by omega, by go_num, rfl, h3, by omega, fun j hj => by
              by_cases hjk : j = k
              · rw [hjk]; exact HSk.out
              · exact HSm.out j (by omega), hbel2⟩
          case measure => simp [intOf]; omega
      · have HAll : Hid (∀ x ∈ L, x.small) := fun x hx => by
          obtain ⟨j, hj, rfl⟩ := List.getElem_of_mem hx
          rw [← eAt_in hj]
          exact HSm.out j (by rw [← HN.out] at hj; omega)
        go_wp2
        go_ret
        exact ⟨⟨lf, rfl, .inr ⟨hlf, by omega, HAll.out⟩⟩, hbel⟩

theorem toArgS_ex (a : Option Addr) (cap : Nat) (L : List A5) (w : World) (hr : RdArg w a L) (hn : L.length ≤ 1048576) :
    Calls Try.prog 96 #[.slice a L.length cap] w fun e w' =>
      ∃ g, e = .returned (.slice (some ⟨g, 0, none⟩) L.length L.length) ∧ w.heap.size ≤ g ∧ OwnArg w' g L.length L ∧ Below w.heap.size w w' :=
  (toArgS_at a cap L w hr hn).mono fun e w' h => ⟨w.heap.size, h.1, Nat.le_refl _, OwnK.of A5.len (by decide) h.2.1, h.2.2⟩

theorem keepArg {w0 W w' : World} {B : Nat} {p0 p1 p2 p3 p4 p5 p6 p7 p8 p9 : Addr} {v0 v1 v2 v3 v4 v5 v6 v7 v8 v9 : Value} (hb : Below W.heap.size W w')
    (h : W.cell? p0 = some v0 ∧ W.cell? p1 = some v1 ∧ W.cell? p2 = some v2 ∧ W.cell? p3 = some v3 ∧ W.cell? p4 = some v4 ∧ W.cell? p5 = some v5 ∧ W.cell? p6 = some v6 ∧ W.cell? p7 = some v7 ∧ W.cell? p8 = some v8 ∧ W.cell? p9 = some v9 ∧ Below B w0 W ∧ B ≤ W.heap.size) :
    w'.cell? p0 = some v0 ∧ w'.cell? p1 = some v1 ∧ w'.cell? p2 = some v2 ∧ w'.cell? p3 = some v3 ∧ w'.cell? p4 = some v4 ∧ w'.cell? p5 = some v5 ∧ w'.cell? p6 = some v6 ∧ w'.cell? p7 = some v7 ∧ w'.cell? p8 = some v8 ∧ w'.cell? p9 = some v9 ∧ Below B w0 w' ∧ B ≤ w'.heap.size := by
  obtain ⟨q0, q1, q2, q3, q4, q5, q6, q7, q8, q9, h6, h7⟩ := h
  have k : ∀ {a : Addr} {v : Value}, W.cell? a = some v → w'.cell? a = some v := fun {a v} h => by rw [hb.cell (World.block_lt_of_cell? W _ h)]; exact h
  exact ⟨k q0, k q1, k q2, k q3, k q4, k q5, k q6, k q7, k q8, k q9, h6.trans (hb.mono h7), Nat.le_trans h7 hb.size⟩
set_option maxRecDepth 100000 in
set_option maxHeartbeats 1600000 in
theorem eqArgS_same (a b : Option Addr) (ca cb : Nat) (L : List A5) (w : World) (hr : RdArg w a L) (hq : RdArg w b L) (hm : L.length ≤ 2097152) :
    Calls Try.prog 99 #[.slice a L.length ca, .slice b L.length cb] w fun e w' =>
      e = .returned (.bool true) ∧ Below w.heap.size w w' := by
  obtain ⟨n, hN⟩ : ∃ n, n = L.length := ⟨_, rfl⟩
  rw [← hN] at hm ⊢
  have HN := hide hN
  clear hN
  have hnn : ((n : Int) != (n : Int)) = false := by simp
  go_enter Try.func99, Try.ntmps99
  go_wp2
  go_loopw [5] (fun i wr => ∃ (k : Nat), k ≤ n ∧ i = .int .i64 k ∧ Below w.heap.size w wr) (fun i _ => n - (intOf i).toNat)
  case atStart => exact ⟨0, Nat.zero_le _, rfl, Below.refl _ _⟩
  case round =>
    obtain ⟨k, hk, rfl, hbel⟩ := hrel
    by_cases hlt : k < n
    · obtain ⟨b1, o1, e1, hbw1, hc1⟩ := RdArg.cells hr (by rw [← HN.out]; omega)
      obtain ⟨b2, o2, e2, hbw2, hc2⟩ := RdArg.cells hq (by rw [← HN.out]; omega)
      obtain ⟨c0, c1, c2, c3, c4⟩ := hc1 k (by rw [← HN.out]; exact hlt)
      obtain ⟨d0, d1, d2, d3, d4⟩ := hc2 k (by rw [← HN.out]; exact hlt)
      clear hc1 hc2
      subst e1 e2
      rw [← hbel.cell (p := ⟨b1, o1 + k * 5, none⟩) hbw1] at c0
      rw [← hbel.cell (p := ⟨b2, o2 + k * 5, none⟩) hbw2] at d0
      rw [← hbel.cell (p := ⟨b1, o1 + k * 5 + 1, none⟩) hbw1] at c1
      rw [← hbel.cell (p := ⟨b2, o2 + k * 5 + 1, none⟩) hbw2] at d1
      rw [← hbel.cell (p := ⟨b1, o1 + k * 5 + 2, none⟩) hbw1] at c2
      rw [← hbel.cell (p := ⟨b2, o2 + k * 5 + 2, none⟩) hbw2] at d2
      rw [← hbel.cell (p := ⟨b1, o1 + k * 5 + 3, none⟩) hbw1] at c3
      rw [← hbel.cell (p := ⟨b2, o2 + k * 5 + 3, none⟩) hbw2] at d3
      rw [← hbel.cell (p := ⟨b1, o1 + k * 5 + 4, none⟩) hbw1] at c4
      rw [← hbel.cell (p := ⟨b2, o2 + k * 5 + 4, none⟩) hbw2] at d4
      generalize (eAt L k).K = K at c0 d0
      generalize (eAt L k).S = S at c1 d1
      generalize (eAt L k).V.K = VK at c2 d2
      generalize (eAt L k).V.N = VN at c3 d3
      generalize (eAt L k).V.S = VS at c4 d4
      go_wp2_with fail
      go_region_held3 (fun W => W.cell? ⟨b1, o1 + k * 5, none⟩ = some (.int .i64 K) ∧ W.cell? ⟨b1, o1 + k * 5 + 1, none⟩ = some (.string S) ∧ W.cell? ⟨b1, o1 + k * 5 + 2, none⟩ = some (.int .i64 VK) ∧ W.cell? ⟨b1, o1 + k * 5 + 3, none⟩ = some (.int .i64 VN) ∧ W.cell? ⟨b1, o1 + k * 5 + 4, none⟩ = some (.string VS) ∧ W.cell? ⟨b2, o2 + k * 5, none⟩ = some (.int .i64 K) ∧ W.cell? ⟨b2, o2 + k * 5 + 1, none⟩ = some (.string S) ∧ W.cell? ⟨b2, o2 + k * 5 + 2, none⟩ = some (.int .i64 VK) ∧ W.cell? ⟨b2, o2 + k * 5 + 3, none⟩ = some (.int .i64 VN) ∧ W.cell? ⟨b2, o2 + k * 5 + 4, none⟩ = some (.string VS) ∧ Below w.heap.size w W ∧ w.heap.size ≤ W.heap.size) (first | exact ⟨c0, c1, c2, c3, c4, d0, d1, d2, d3, d4, hbel.drew, hbel.size⟩ | exact keepArg (by assumption) (by assumption))
        (first | (go_at_call 100; refine (eqArg_same _ _ _ _ _ _).mono ?_; rintro e w2 ⟨rfl, hb⟩))
      all_goals
        obtain ⟨-, -, -, -, -, -, -, -, -, -, hB2, -⟩ : w2.cell? ⟨b1, o1 + k * 5, none⟩ = some (.int .i64 K) ∧ w2.cell? ⟨b1, o1 + k * 5 + 1, none⟩ = some (.string S) ∧ w2.cell? ⟨b1, o1 + k * 5 + 2, none⟩ = some (.int .i64 VK) ∧ w2.cell? ⟨b1, o1 + k * 5 + 3, none⟩ = some (.int .i64 VN) ∧ w2.cell? ⟨b1, o1 + k * 5 + 4, none⟩ = some (.string VS) ∧ w2.cell? ⟨b2, o2 + k * 5, none⟩ = some (.int .i64 K) ∧ w2.cell? ⟨b2, o2 + k * 5 + 1, none⟩ = some (.string S) ∧ w2.cell? ⟨b2, o2 + k * 5 + 2, none⟩ = some (.int .i64 VK) ∧ w2.cell? ⟨b2, o2 + k * 5 + 3, none⟩ = some (.int .i64 VN) ∧ w2.cell? ⟨b2, o2 + k * 5 + 4, none⟩ = some (.string VS) ∧ Below w.heap.size w w2 ∧ w.heap.size ≤ w2.heap.size := by assumption
        go_wp2
        go_roundw
        case rel => exact ⟨k + 1, by omega, by go_num, hB2⟩
        case measure => simp [intOf]; omega
    · go_wp2
      go_ret
      exact ⟨rfl, hbel⟩
end Go.Proofs.Ytcfhpcbkdpgboaa
/-
  The contracts of the laws' own helpers on patterns: toPat copies, szPat counts off, eqPat finds a pattern the same as itself.
-/
namespace Go.Proofs.Ytcfhpcbkdpgboaa
open Go.RowKit
set_option linter.unusedVariables false

set_option maxRecDepth 100000 in
set_option maxHeartbeats 1600000 in
theorem toPat_any (kd : ByteArray) (a : Option Addr) (cap : Nat) (L : List A5) (nt : Bool) (w : World) (hr : RdArg w a L) (hn : L.length ≤ 1048576) :
    Calls Try.prog 80 #[.agg #[.string kd, .slice a L.length cap, .bool nt]] w fun e w' =>
      ∃ g, e = .returned (.agg #[.string kd, .slice (some ⟨g, 0, none⟩) L.length L.length, .bool nt]) ∧ w.heap.size ≤ g ∧ OwnArg w' g L.length L ∧ Below w.heap.size w w' := by
  go_enter Try.func80, Try.ntmps80
  go_wp2_with fail
  have b0 := below_al w (.cells #[.string kd, .slice a L.length cap, .bool nt] 121)
  have b1 := b0.alloc b0.size (.cells #[.string ⟨#[]⟩, .slice none 0 0, .bool false] 47)
  have b2 := b1.alloc b1.size (.cells #[.string kd, .slice none 0 0, .bool false] 47)
  have hP := box_old (box_old (boxk_new w #[.string kd, .slice a L.length cap, .bool nt] 121) (by simp) (.cells #[.string ⟨#[]⟩, .slice none 0 0, .bool false] 47)) (by simp; omega) (.cells #[.string kd, .slice none 0 0, .bool false] 47)
  have hR := box_old (boxk_new (w.alloc (.cells #[.string kd, .slice a L.length cap, .bool nt] 121)) #[.string ⟨#[]⟩, .slice none 0 0, .bool false] 47) (by simp) (.cells #[.string kd, .slice none 0 0, .bool false] 47)
  have hX := boxk_new ((w.alloc (.cells #[.string kd, .slice a L.length cap, .bool nt] 121)).alloc (.cells #[.string ⟨#[]⟩, .slice none 0 0, .bool false] 47)) #[.string kd, .slice none 0 0, .bool false] 47
  simp only [World.size_alloc] at hR hX
  refine (toArgS_at a cap L _ (hr.below b2) hn).mono ?_
  rintro e w1 ⟨rfl, ho, hb⟩
  have HP := hide (box_below hP hb (by simp; omega))
  have HR := hide (box_below hR hb (by simp))
  have HX := hide (box_below hX hb (by simp))
  have hB : Below w.heap.size w w1 := b2.trans (hb.mono b2.size)
  have hO : OwnArg w1 _ _ L := OwnK.of A5.len (by decide) ho
  clear ho hb hR hX hP b0 b1 b2
  simp only [World.size_alloc] at hO ⊢
  have p2 := boxk_cell HP.out 2 _ rfl
  have x0 := boxk_cell HX.out 0 _ rfl
  have x1 := boxk_cell HX.out 1 _ rfl
  have x2 := boxk_cell HX.out 2 _ rfl
  have xf1 := boxk_frozen HX.out 1
  have xf2 := boxk_frozen HX.out 2
  obtain ⟨r0, r1, r2, rf0, rf1, rf2⟩ := box_cell HR.out
  have HX2 := hide (boxk_set HX.out 1 (.slice (some ⟨w.heap.size + 1 + 1 + 1, 0, none⟩) L.length L.length))
  have HX3 := hide (boxk_set HX2.out.1 2 (.bool nt))
  have HR2 := hide (box_gr (box_gr HR.out HX2.out.2 (by omega)) HX3.out.2 (by omega))
  have HB2 := hide (below_set (below_set hB HX2.out.2 (by omega)) HX3.out.2 (by omega))
  have hz := hO.lt
  have HO2 := hide ((hO.grown HX2.out.2 (by omega)).grown HX3.out.2 (by omega))
  clear hO hB
  go_wp2
  refine box_post HR2.out (fun w4 h4 gr => ?_)
  clear x0 x1 x2 xf1 xf2 r0 r1 r2 rf0 rf1 rf2 p2
  obtain ⟨c0, c1, c2, -, -, -⟩ := box_cell h4
  exact bodyPost_ret (v := .agg #[.string kd, .slice (some ⟨w.heap.size + 1 + 1 + 1, 0, none⟩) L.length L.length, .bool nt]) (by simp [results, Try.results80, go_sem, c0, c1, c2]) rfl
    ⟨_, rfl, by omega, HO2.out.grown gr (by omega), below_set HB2.out gr (by omega)⟩

set_option maxRecDepth 100000 in
set_option maxHeartbeats 1600000 in
theorem szPat_any (kd : ByteArray) (a : Option Addr) (cap : Nat) (L : List A5) (nt : Bool) (left : Int) (w : World) (hkd : kd.size ≤ maxLen) (hr : RdArg w a L) (hs : ∀ x ∈ L, x.fits) (hm : L.length ≤ maxLen) (h0 : 0 ≤ left) (h1 : left ≤ 1048576) :
    Calls Try.prog 77 #[.agg #[.string kd, .slice a L.length cap, .bool nt], .int .i64 left] w fun e w' =>
      (∃ r, e = .returned (.int .i64 r) ∧ (r = -1 ∨ (0 ≤ r ∧ r + (kd.size : Int) + (L.length : Int) ≤ left ∧ ∀ x ∈ L, x.small))) ∧ Below w.heap.size w w' := by
  unfold maxLen at hkd
  by_cases h2 : left - (kd.size : Int) < 0
  · go_enter Try.func77, Try.ntmps77
    go_wp2
    go_ret
    exact ⟨⟨-1, rfl, .inl rfl⟩, by go_grown⟩
  · go_enter Try.func77, Try.ntmps77
    go_wp2_with fail
    have b0 := below_al w (.cells #[.string kd, .slice a L.length cap, .bool nt] 121)
    refine (szArgS_any a cap L (left - kd.size) _ (hr.below b0) hs hm (by omega) (by omega)).mono ?_
    rintro e w1 ⟨⟨r, rfl, hr1⟩, hb1⟩
    have hB1 : Below w.heap.size w w1 := b0.trans (hb1.mono b0.size)
    clear hb1
    rcases hr1 with rfl | ⟨hr2, hr3, hsm⟩
    · go_wp2
      go_ret
      exact ⟨⟨-1, rfl, .inl rfl⟩, hB1⟩
    · have HSm := hide hsm
      clear hsm
      go_wp2
      go_ret
      exact ⟨⟨r, rfl, .inr ⟨hr2, by omega, HSm.out⟩⟩, hB1⟩

set_option maxRecDepth 100000 in
set_option maxHeartbeats 1600000 in
theorem eqPat_same (kd : ByteArray) (a b : Option Addr) (ca cb : Nat) (L : List A5) (nt : Bool) (w : World) (hr : RdArg w a L) (hq : RdArg w b L) (hn : L.length ≤ 1048580) :
    Calls Try.prog 83 #[.agg #[.string kd, .slice a L.length ca, .bool nt], .agg #[.string kd, .slice b L.length cb, .bool nt]] w fun e w' =>
      e = .returned (.bool true) ∧ Below w.heap.size w w' := by
  have k1 : (kd.toList == kd.toList) = true := by simp
  have k2 : (nt != nt) = false := by simp
  go_enter Try.func83, Try.ntmps83
  go_wp2_with fail
  have b0 := below_al w (.cells #[.string kd, .slice a L.length ca, .bool nt] 47)
  have b1 := b0.alloc b0.size (.cells #[.string kd, .slice b L.length cb, .bool nt] 47)
  have hP := box_old (boxk_new w #[.string kd, .slice a L.length ca, .bool nt] 47) (by simp) (.cells #[.string kd, .slice b L.length cb, .bool nt] 47)
  have hQ := boxk_new (w.alloc (.cells #[.string kd, .slice a L.length ca, .bool nt] 47)) #[.string kd, .slice b L.length cb, .bool nt] 47
  simp only [World.size_alloc] at hQ
  refine (eqArgS_same a b ca cb L _ (hr.below b1) (hq.below b1) (by omega)).mono ?_
  rintro e w1 ⟨rfl, hb⟩
  have hB : Below w.heap.size w w1 := b1.trans (hb.mono b1.size)
  have p2 := boxk_cell (box_below hP hb (by simp; omega)) 2 _ rfl
  have q2 := boxk_cell (box_below hQ hb (by simp)) 2 _ rfl
  clear hP hQ hb
  go_wp2
  go_ret
  exact ⟨rfl, hB⟩
end Go.Proofs.Ytcfhpcbkdpgboaa
