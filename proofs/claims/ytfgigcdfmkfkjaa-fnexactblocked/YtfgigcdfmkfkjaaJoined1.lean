/-
  Texts of this claim joined into one: RngOne, Plain, V3, Box, ValRow, Box2g, Box2, BoxK, Keep6, RowsE, RowOf, RowK, FactArg, BindRow, VEq, BindP, ArgRow, MatchP, ValE, Clone, BindOf, LawVal, LawEq, LawFact, LawBind, Src4, MatchI.
-/
import Derived.RangeFuncNested
import Derived.RangeFuncBound
import Derived.RangeFuncCalls
import Derived.RangeFuncLeaves
import Derived.Shelf.Abstract
import Derived.WalkKit
import Derived.OwnWalkIn
import Derived.TacticsInMore
import Derived.LoopNIn
import Derived.LoopIn
import Derived.ControlIn
import Derived.Test.YtfgigcdfmkfkjaaRows
import Derived.WalkSpells
import Derived.WalkLawsBesides
import Derived.OpenShut
import Derived.BigQuiet
import Derived.Deep.QuietTactic
import Derived.Lib.SmallJoins
import Derived.Deep.Slices
import Derived.Deep.Strs
import Derived.ProofKit
import Derived.ShutString
import Derived.ChangeOld
import Derived.Below
import Derived.Laws.Strings
import Derived.Deep.RegionWith
import Derived.Handy
import Derived.Laws.StructEq
import Derived.Test.YtfgigcdfmkfkjaaShelf
import Derived.Deep.RegionHeld3
import Derived.Deep.AppendLies
import Derived.ArgAppend
import Derived.OwnWalk
/-
  A range over a function whose body leaves at the first that comes: a contract of my own for the iterator (it may itself range over a function, and call the outer yield in that loop's body), and the statement's law.
-/
namespace Go.Proofs.Ytfgigcdfmkfkjaa
open Go.RowKit Go
set_option linter.unusedVariables false
variable {P : Program}

/-- what is handed to yield: a number and two lists -/
structure Tri where
  r : Int
  a1 : Option Addr
  n1 : Nat
  c1 : Nat
  a2 : Option Addr
  n2 : Nat
  c2 : Nat
def Tri.cs (x : Tri) : Array Value := #[.int .i64 x.r, .slice x.a1 x.n1 x.c1, .slice x.a2 x.n2 x.c2]
def Tri.val (x : Tri) : Value := .agg #[.int .i64 x.r, .slice x.a1 x.n1 x.c1, .slice x.a2 x.n2 x.c2]
/-- a fact of worlds that abides whatever turns no cells at or beyond B -/
abbrev Ab (B : Nat) (J : World → Prop) : Prop := OwnFrom B (fun (_ : Unit) W => J W)
theorem Ab.grown {B : Nat} {J : World → Prop} (h : Ab B J) {W W' : World} (hJ : J W) (hg : W.grownBy W' none) : J W' := h () W W' none hJ hg (fun _ e => by cases e)
theorem Ab.more {B B' : Nat} {J : World → Prop} (h : Ab B J) (hB : B ≤ B') : Ab B' J := fun s W W' row hJ hg hr => h s W W' row hJ hg (fun r e => ⟨Nat.le_trans hB (hr r e).1, (hr r e).2⟩)
theorem Ab.and {B : Nat} {J K : World → Prop} (h : Ab B J) (k : Ab B K) : Ab B (fun W => J W ∧ K W) := fun s W W' row hs hg hr => ⟨h s W W' row hs.1 hg hr, k s W W' row hs.2 hg hr⟩

/-- an iterator at the first that comes: Z: whether one comes -/
def Seq1 (P : Program) (g : Nat) (lb : Array Value) (Z : Prop) (w : World) : Prop :=
  ∀ (l : Nat) (J Jx : World → Prop) (W : World), Below w.heap.size w W → Ab W.heap.size J → Ab W.heap.size Jx →
    (∀ (m : Nat) (x : Tri) (W1 : World), J W1 → YieldAt Fence.wide m P l #[x.val] W1 fun e W' => e = .returned (.bool false) ∧ KeepsFrom W.heap.size W1 W' ∧ Jx W') →
    J W →
    Calls P g (#[.func (.yield l) #[] #[]] ++ lb) W fun e W' => (∃ v, e = .returned v) ∧ ((¬ Z ∧ J W') ∨ (Z ∧ Jx W'))

theorem wpFirst {g : Operand} {ps : Array Tmp} {assign body : Code} {Q : Exit → Act → World → Prop} {a : Act} {w : World}
    {gf : Nat} {lb : Array Value} (hg : a.eval g = .func (.func gf) #[] lb) (eg : ∀ args w, (callFunc gf args).run P w = .ok (.enter gf args) w)
    {Z : Prop} (hseq : Seq1 P gf lb Z w) (hps : ps.size = 1)
    (I Ix : World → Prop) (hI : Ab w.heap.size I) (hIx : Ab w.heap.size Ix) (h0 : I w) (Ax : Tri → Act → World → Prop) (hAx : ∀ x a', Ab w.heap.size (Ax x a'))
    (hassign : ∀ (l m : Nat) (x : Tri) (W : World) (K : Act → World → Prop), I W → (∀ a' W', KeepsFrom w.heap.size W W' → I W' → Ax x a' W' → K a' W') →
      assign.wpIn (Fence.wide.inRound l) m P (Exit.then K (fun _ _ _ => False)) { tmps := (ps.zip #[x.val]).foldl (fun t (p, v) => t.setIfInBounds p v) a.tmps, defers := [] } W)
    (hbody : ∀ (l m : Nat) (x : Tri) (a' : Act) (W : World), w.heap.size ≤ l → I W → Ax x a' W → body.wpIn (Fence.wide.inRound l) m P (fun e _ W' => e = .ret ∧ KeepsFrom w.heap.size W W' ∧ Ix W') a' W)
    (hdone : ∀ (D : Nat) (W : World), w.heap.size ≤ D → ¬ Z → I W → W.heap[D]? = some (.deferred (some [])) → Q .normal { a with defers := { target := .collected D, args := #[] } :: a.defers } W)
    (hstop : ∀ (D : Nat) (W : World), w.heap.size ≤ D → Z → Ix W → W.heap[D]? = some (.deferred (some [])) → Code.ret.wp P Q { a with defers := { target := .collected D, args := #[] } :: a.defers } W) :
    (Code.rangeFunc g ps assign body).wp P Q a w := by
  refine (wpIn_wide (n := 1)).1 (wpIn_rangeFunc ?_)
  intro fn hfn
  obtain ⟨rec, hrec⟩ : ∃ rec : LoopState → Option Code → Loop, rec = fun st pe => { state := st, pending := pe, fn, tmps := a.tmps, params := ps, assign, body, defers := w.heap.size } := ⟨_, rfl⟩
  obtain ⟨l, hl⟩ : ∃ l, l = w.heap.size + 1 := ⟨_, rfl⟩
  obtain ⟨W1, hW1⟩ : ∃ W1, (w.alloc (.deferred (some []))).alloc (.loop (rec .ready none)) = W1 := ⟨_, rfl⟩
  have hs1 : W1.heap.size = w.heap.size + 2 := by rw [← hW1]; simp
  have hL1 : W1.heap[l]? = some (.loop (rec .ready none)) := by
    rw [← hW1, hl]; have := World.alloc_heap_new (w.alloc (.deferred (some []))) (.loop (rec .ready none)); rwa [World.size_alloc] at this
  have hK1 : W1.heap[w.heap.size]? = some (.deferred (some [])) := by
    rw [← hW1]; exact (Below.heap_alloc _ _ _ (by simp)).trans (World.alloc_heap_new w _)
  have hI1 : I W1 := by rw [← hW1]; exact OwnFrom.alloc (s := ()) hI _ (OwnFrom.alloc (s := ()) hI _ h0)
  have hb1 : Below w.heap.size w W1 := by
    rw [← hW1]; exact ((Below.refl _ w).alloc (Nat.le_refl _) _).alloc (by simp) _
  refine ⟨l, [{ target := .collected w.heap.size, args := #[] }], W1, { target := .fn (.func gf) lb, args := #[.func (.yield l) #[] #[]] }, W1, gf,
    #[.func (.yield l) #[] #[]] ++ lb, W1, ?_, ?_, (fun _ _ => trivial), ?_, (fun h => by cases h), ?_⟩
  · rw [← hW1, hrec, hl]; exact run_enterLoop_outer _ _ _ _ _
  · simp only [resolve, hg]
    simp [go_sem]
  · simp [invoke, go_sem, eg]
  · -- what stands of the records through what the iterator does
    have hst : ∀ {A B : World} {row : Option Nat} {k : Nat} {o : Obj}, k < W1.heap.size → A.grownBy B row → (∀ r, row = some r → W1.heap.size ≤ r ∧ ∃ o : Obj, A.heap[r]? = some o ∧ o.isCells = false) → A.heap[k]? = some o → B.heap[k]? = some o := fun hk hg' hr ho => by
      rw [hg'.block _ (Array.getElem?_eq_some_iff.1 ho).1 (fun e => by have := (hr _ e.symm).1; omega)]; exact ho
    refine callsIn_wide.2 ((hseq l
      (fun W => I W ∧ W.heap[l]? = some (.loop (rec .ready none)) ∧ W.heap[w.heap.size]? = some (.deferred (some [])))
      (fun W => Ix W ∧ W.heap[l]? = some (.loop (rec .done (some .ret))) ∧ W.heap[w.heap.size]? = some (.deferred (some [])))
      W1 hb1
      (fun s A B row hs hg' hr => ⟨hI.more (by omega) () A B row hs.1 hg' hr, hst (by omega) hg' hr hs.2.1, hst (by omega) hg' hr hs.2.2⟩)
      (fun s A B row hs hg' hr => ⟨hIx.more (by omega) () A B row hs.1 hg' hr, hst (by omega) hg' hr hs.2.1, hst (by omega) hg' hr hs.2.2⟩)
      ?_ ⟨hI1, hL1, hK1⟩).mono ?_)
    · -- a round
      rintro m x W ⟨hi, hlp, hk⟩
      have hy := run_yield (P := P) (args := #[x.val]) hlp (by rw [hrec]; simp [hps])
      rw [hrec] at hy
      refine ⟨fn, _, assign, body, hy, roundIn_of_wpIn hfn (hassign l m x W _ hi ?_)⟩
      clear hy
      intro a' Wa hka hia hax
      have hla := hka.same _ _ (by omega) hlp rfl
      have hda := hka.same _ _ (Nat.le_refl _) hk rfl
      have hlt := (Array.getElem?_eq_some_iff.1 hla).1
      refine ⟨_, run_beginRound hla (by rw [hrec]), ?_⟩
      have hl2 : (Wa.putObj l (.loop { rec .ready none with state := .busy })).heap[l]? = some (.loop { rec .ready none with state := .busy }) := World.putObj_heap_same hlt
      have hk2 : (Wa.putObj l (.loop { rec .ready none with state := .busy })).heap[w.heap.size]? = some (.deferred (some [])) := (World.putObj_heap_other (by omega)).trans hda
      refine wpIn_mono (hbody l m x a' _ (by omega) (OwnFrom.putObj (s := ()) hI _ hia (by omega) hla rfl) (OwnFrom.putObj (s := ()) (hAx x a') _ hax (by omega) hla rfl)) ?_
      rintro e a3 W3 ⟨rfl, hk3, hx3⟩
      have hl3 := hk3.same _ _ (by omega) hl2 rfl
      have hd3 := hk3.same _ _ (Nat.le_refl _) hk2 rfl
      have hr := run_endRound (P := P) (some .ret) hl3
      refine ⟨_, _, hr, rfl, ?_, OwnFrom.putObj (s := ()) hIx _ hx3 (by omega) hl3 rfl, ?_, (World.putObj_heap_other (by omega)).trans hd3⟩
      · have m1 : KeepsFrom W1.heap.size W Wa := ⟨hka.size, fun k o hB h1 h2 => hka.same k o (by omega) h1 h2⟩
        have m2 : KeepsFrom W1.heap.size Wa (Wa.putObj l (.loop { rec .ready none with state := .busy })) := KeepsFrom.of_grownBy (grownBy_putObj' _ _ _) (fun j e => by cases e; omega)
        have m3 : KeepsFrom W1.heap.size (Wa.putObj l (.loop { rec .ready none with state := .busy })) W3 := ⟨hk3.size, fun k o hB h1 h2 => hk3.same k o (by omega) h1 h2⟩
        exact ((m1.trans m2).trans m3).trans (KeepsFrom.of_grownBy (grownBy_putObj' _ _ _) (fun j e => by cases e; omega))
      · have := World.putObj_heap_same (o := .loop { rec .ready none with state := if (some Code.ret).isNone then .ready else .done, pending := some .ret }) (Array.getElem?_eq_some_iff.1 hl3).1
        rw [hrec] at this ⊢
        exact this
    · -- behind the iterator
      rintro e W2 ⟨⟨v, rfl⟩, (⟨hz, hi, hlp, hk⟩ | ⟨hz, hi, hlp, hk⟩)⟩
      · exact ⟨none, _, by have := run_endLoop (P := P) hlp (by rw [hrec]; simp); rw [hrec] at this; exact this, hdone _ _ (Nat.le_refl _) hz (OwnFrom.putObj (s := ()) hI _ hi (by omega) hlp rfl) ((World.putObj_heap_other (by omega)).trans hk)⟩
      · exact ⟨some .ret, _, by have := run_endLoop (P := P) hlp (by rw [hrec]; simp); rw [hrec] at this; exact this, wpIn_wide.2 (hstop _ _ (Nat.le_refl _) hz (OwnFrom.putObj (s := ()) hIx _ hi (by omega) hlp rfl) ((World.putObj_heap_other (by omega)).trans hk))⟩
end Go.Proofs.Ytfgigcdfmkfkjaa
/-
  Small plain facts that the walks of this seat share: a fact kept from the walk, equal endings, a number between two bounds.
-/
namespace Go.Proofs.Ytfgigcdfmkfkjaa
open Go.RowKit
set_option linter.unusedVariables false

theorem hide {p : Prop} (h : p) : Hid p := h
theorem ret_bool {a b : Bool} (h : a = b) : Ending.returned (.bool a) = .returned (.bool b) := by rw [h]
theorem ret_int {k : IntKind} {a b : Int} (h : a = b) : Ending.returned (.int k a) = .returned (.int k b) := by rw [h]

def inB (x a b : Int) : Bool := decide (a ≤ x) && decide (x ≤ b)
theorem inB_t {x a b : Int} (h : a ≤ x ∧ x ≤ b) : inB x a b = true := by simp [inB, h.1, h.2]
theorem inB_f {x a b : Int} (h : ¬ (a ≤ x ∧ x ≤ b)) : inB x a b = false := by
  simp [inB]; omega
end Go.Proofs.Ytfgigcdfmkfkjaa
/-
  A value, plainly: its kind, number and text.
-/
namespace Go.Proofs.Ytfgigcdfmkfkjaa
open Go.RowKit
set_option linter.unusedVariables false

structure V3 where
  K : Int
  N : Int
  S : ByteArray
instance : Inhabited V3 := ⟨⟨0, 0, ⟨#[]⟩⟩⟩
def V3.agg (v : V3) : Value := .agg #[.int .i64 v.K, .int .i64 v.N, .string v.S]
theorem V3.ext' {a b : V3} (h1 : a.K = b.K) (h2 : a.N = b.N) (h3 : a.S = b.S) : a = b := by
  cases a; cases b; simp_all
end Go.Proofs.Ytfgigcdfmkfkjaa
/-
  A block of three cells (a value in memory): what it reads as, what a store of all three leaves.
-/
namespace Go.Proofs.Ytfgigcdfmkfkjaa
open Go.RowKit
set_option linter.unusedVariables false

theorem box_cell {w : World} {q : Nat} {c0 c1 c2 : Value} {T : TypeId} (h : w.heap[q]? = some (.cells #[c0, c1, c2] T (0, 0))) :
    w.cell? ⟨q, 0, none⟩ = some c0 ∧ w.cell? ⟨q, 1, none⟩ = some c1 ∧ w.cell? ⟨q, 2, none⟩ = some c2 ∧ w.frozen? ⟨q, 0, none⟩ = false ∧ w.frozen? ⟨q, 1, none⟩ = false ∧ w.frozen? ⟨q, 2, none⟩ = false := by
  refine ⟨?_, ?_, ?_, frozen_of_row w q 0 _ T h, frozen_of_row w q 1 _ T h, frozen_of_row w q 2 _ T h⟩
  · rw [cell_of_row w q 0 _ T (0, 0) h]; rfl
  · rw [cell_of_row w q 1 _ T (0, 0) h]; rfl
  · rw [cell_of_row w q 2 _ T (0, 0) h]; rfl
theorem box_set3 {w : World} {q : Nat} {c0 c1 c2 : Value} {T : TypeId} (h : w.heap[q]? = some (.cells #[c0, c1, c2] T (0, 0))) (a b c : Value) :
    (((w.setCell ⟨q, 0, none⟩ a).setCell ⟨q, 1, none⟩ b).setCell ⟨q, 2, none⟩ c).heap[q]? = some (.cells #[a, b, c] T (0, 0)) ∧
    w.grownBy (((w.setCell ⟨q, 0, none⟩ a).setCell ⟨q, 1, none⟩ b).setCell ⟨q, 2, none⟩ c) (some q) := by
  have h1 : (w.setCell ⟨q, 0, none⟩ a).heap[q]? = some (.cells #[a, c1, c2] T (0, 0)) := by rw [heap_setCell_same w q 0 _ T a h]; rfl
  have h2 : ((w.setCell ⟨q, 0, none⟩ a).setCell ⟨q, 1, none⟩ b).heap[q]? = some (.cells #[a, b, c2] T (0, 0)) := by rw [heap_setCell_same _ q 1 _ T b h1]; rfl
  refine ⟨by rw [heap_setCell_same _ q 2 _ T c h2]; rfl, ⟨rfl, rfl, rfl, by simp [World.setCell], fun k _ hk => ?_⟩⟩
  rw [heap_setCell_other _ ⟨q, 2, none⟩ k c (fun e => hk (by simp [e])), heap_setCell_other _ ⟨q, 1, none⟩ k b (fun e => hk (by simp [e])), heap_setCell_other w ⟨q, 0, none⟩ k a (fun e => hk (by simp [e]))]
theorem box_new (w : World) (c0 c1 c2 : Value) (T : TypeId) : (w.alloc (.cells #[c0, c1, c2] T)).heap[w.heap.size]? = some (.cells #[c0, c1, c2] T (0, 0)) := by rw [heap_alloc_new]
theorem box_old {w : World} {q : Nat} {o : Option Obj} (h : w.heap[q]? = o) (hq : q < w.heap.size) (x : Obj) : (w.alloc x).heap[q]? = o := by
  rw [← h]
  show (w.heap.push x)[q]? = _
  rw [Array.getElem?_push, if_neg (by omega)]
theorem box_below {B q : Nat} {w w' : World} {o : Option Obj} (h : w.heap[q]? = o) (hb : Below B w w') (hq : q < B) : w'.heap[q]? = o := by rw [hb.block q hq]; exact h
/-- at a return behind a store of all three cells: the world by what it holds -/
theorem box_post {P : Program} {f : Func} {Q : Ending → World → Prop} {x : Exit} {act : Act} {w : World} {q : Nat} {c0 c1 c2 a b c : Value} {T : TypeId} (h : w.heap[q]? = some (.cells #[c0, c1, c2] T (0, 0)))
    (k : ∀ w2, w2.heap[q]? = some (.cells #[a, b, c] T (0, 0)) → w.grownBy w2 (some q) → bodyPost P f Q x act w2) :
    bodyPost P f Q x act (((w.setCell ⟨q, 0, none⟩ a).setCell ⟨q, 1, none⟩ b).setCell ⟨q, 2, none⟩ c) :=
  k _ (box_set3 h a b c).1 (box_set3 h a b c).2
theorem below_set {w0 w w2 : World} {q : Nat} (hb : Below w0.heap.size w0 w) (gr : w.grownBy w2 (some q)) (hq : w0.heap.size ≤ q) : Below w0.heap.size w0 w2 :=
  hb.grown gr hb.size (fun k hk => by cases hk; exact hq)
end Go.Proofs.Ytfgigcdfmkfkjaa
/-
  Rows of values: what a slice of values reads as (RdV), what a call's own row of them holds (cells3).
-/
namespace Go.Proofs.Ytfgigcdfmkfkjaa
open Go.RowKit
set_option linter.unusedVariables false

def vAt (L : List V3) (i : Nat) : V3 := L.getD i default
theorem vAt_in {L : List V3} {i : Nat} (h : i < L.length) : vAt L i = L[i] := by simp [vAt, List.getD, h]
def cells3 (L : List V3) : List Value := L.flatMap fun v => [.int .i64 v.K, .int .i64 v.N, .string v.S]
theorem cells3_length (L : List V3) : (cells3 L).length = L.length * 3 := by
  induction L with
  | nil => rfl
  | cons v r ih => simp only [cells3, List.flatMap_cons, List.length_append] at ih ⊢; rw [ih]; simp; omega
theorem cells3_append (a b : List V3) : cells3 (a ++ b) = cells3 a ++ cells3 b := by simp [cells3]
theorem cells3_get : ∀ (L : List V3) (i : Nat), i < L.length → (cells3 L)[i * 3]? = some (.int .i64 (vAt L i).K) ∧ (cells3 L)[i * 3 + 1]? = some (.int .i64 (vAt L i).N) ∧ (cells3 L)[i * 3 + 2]? = some (.string (vAt L i).S)
  | [], i, h => absurd h (Nat.not_lt_zero _)
  | v :: r, 0, h => by simp [cells3, vAt]
  | v :: r, i + 1, h => by
    have ih := cells3_get r i (by simpa using h)
    have e : cells3 (v :: r) = .int .i64 v.K :: .int .i64 v.N :: .string v.S :: cells3 r := by simp [cells3]
    have ev : vAt (v :: r) (i + 1) = vAt r i := by simp [vAt, List.getD]
    rw [e, ev, show (i + 1) * 3 = i * 3 + 3 by omega, show i * 3 + 3 + 1 = i * 3 + 1 + 3 by omega, show i * 3 + 3 + 2 = i * 3 + 2 + 3 by omega]
    exact ih

/-- what the slice at 'a' reads as -/
def RdV (w : World) (a : Option Addr) (L : List V3) : Prop :=
  ∀ i, i < L.length → ∃ b off, a = some ⟨b, off, none⟩ ∧ w.cell? ⟨b, off + i * 3, none⟩ = some (.int .i64 (vAt L i).K) ∧ w.cell? ⟨b, off + i * 3 + 1, none⟩ = some (.int .i64 (vAt L i).N) ∧ w.cell? ⟨b, off + i * 3 + 2, none⟩ = some (.string (vAt L i).S)

theorem RdV.open {w : World} {a : Option Addr} {L : List V3} (h : RdV w a L) (hp : 0 < L.length) :
    ∃ b off, a = some ⟨b, off, none⟩ ∧ b < w.heap.size ∧ ∀ i, i < L.length → w.cell? ⟨b, off + i * 3, none⟩ = some (.int .i64 (vAt L i).K) ∧ w.cell? ⟨b, off + i * 3 + 1, none⟩ = some (.int .i64 (vAt L i).N) ∧ w.cell? ⟨b, off + i * 3 + 2, none⟩ = some (.string (vAt L i).S) := by
  obtain ⟨b, off, rfl, h0, -, -⟩ := h 0 hp
  refine ⟨b, off, rfl, World.block_lt_of_cell? w _ h0, fun i hi => ?_⟩
  obtain ⟨b2, off2, e, h1⟩ := h i hi
  simp only [Option.some.injEq, Addr.mk.injEq] at e
  rw [e.1, e.2.1]; exact h1
theorem RdV.below {w w' : World} {a : Option Addr} {L : List V3} (h : RdV w a L) (hb : Below w.heap.size w w') : RdV w' a L := by
  intro i hi
  obtain ⟨b, off, e, h0, h1, h2⟩ := h i hi
  have k : ∀ {p : Addr} {v : Value}, w.cell? p = some v → w'.cell? p = some v := fun {p v} h => by rw [hb.cell (World.block_lt_of_cell? w _ h)]; exact h
  exact ⟨b, off, e, k h0, k h1, k h2⟩
theorem RdV.heap {w w' : World} {a : Option Addr} {L : List V3} (h : RdV w a L) (hb : w'.heap = w.heap) : RdV w' a L := by
  intro i hi
  obtain ⟨b, off, e, h0, h1, h2⟩ := h i hi
  have k : ∀ {p : Addr}, w'.cell? p = w.cell? p := fun {p} => by simp [World.cell?, hb]
  exact ⟨b, off, e, by rw [k]; exact h0, by rw [k]; exact h1, by rw [k]; exact h2⟩
theorem RdV.nil (w : World) (a : Option Addr) : RdV w a [] := fun i hi => absurd hi (Nat.not_lt_zero _)
/-- what a call's own row of values reads as -/
theorem rdV_owns {w : World} {base n : Nat} {T : TypeId} {v : Value} {L : List V3} (h : w.ownsRow base T 3 v n (cells3 L)) :
    ∃ a cap, v = .slice a L.length cap ∧ RdV w a L ∧ n = L.length ∧ L.length ≤ cap ∧ (a = none → L.length = 0 ∧ cap = 0) := by
  have hn : n = L.length := by have := h.1; rw [cells3_length] at this; omega
  subst hn
  rcases h.2 with ⟨rfl, h0⟩ | ⟨g, cap, cur, rfl, hb, hg, hnc, hcm, hsz, htake⟩
  · exact ⟨none, 0, by rw [h0], fun i hi => by omega, rfl, by omega, fun _ => ⟨h0, rfl⟩⟩
  · refine ⟨_, cap, rfl, fun i hi => ⟨g, 0, rfl, ?_⟩, rfl, hnc, fun hh => by cases hh⟩
    obtain ⟨g0, g1, g2⟩ := cells3_get L i hi
    have e0 := h.cellAt (i * 3) (by omega)
    have e1 := h.cellAt (i * 3 + 1) (by omega)
    have e2 := h.cellAt (i * 3 + 2) (by omega)
    rw [Nat.zero_add]
    exact ⟨by rw [e0]; exact g0, by rw [e1]; exact g1, by rw [e2]; exact g2⟩
end Go.Proofs.Ytfgigcdfmkfkjaa
/-
  A block of two cells (a fact in memory), and rows of values of the calls' own, by their block.
-/
namespace Go.Proofs.Ytfgigcdfmkfkjaa
open Go.RowKit
set_option linter.unusedVariables false

theorem box2_cell {w : World} {q : Nat} {c0 c1 : Value} {T : TypeId} (h : w.heap[q]? = some (.cells #[c0, c1] T (0, 0))) :
    w.cell? ⟨q, 0, none⟩ = some c0 ∧ w.cell? ⟨q, 1, none⟩ = some c1 ∧ w.frozen? ⟨q, 0, none⟩ = false ∧ w.frozen? ⟨q, 1, none⟩ = false := by
  refine ⟨?_, ?_, frozen_of_row w q 0 _ T h, frozen_of_row w q 1 _ T h⟩
  · rw [cell_of_row w q 0 _ T (0, 0) h]; rfl
  · rw [cell_of_row w q 1 _ T (0, 0) h]; rfl
theorem box2_set {w : World} {q : Nat} {c0 c1 : Value} {T : TypeId} (h : w.heap[q]? = some (.cells #[c0, c1] T (0, 0))) (a b : Value) :
    ((w.setCell ⟨q, 0, none⟩ a).setCell ⟨q, 1, none⟩ b).heap[q]? = some (.cells #[a, b] T (0, 0)) ∧
    w.grownBy ((w.setCell ⟨q, 0, none⟩ a).setCell ⟨q, 1, none⟩ b) (some q) := by
  have h1 : (w.setCell ⟨q, 0, none⟩ a).heap[q]? = some (.cells #[a, c1] T (0, 0)) := by rw [heap_setCell_same w q 0 _ T a h]; rfl
  refine ⟨by rw [heap_setCell_same _ q 1 _ T b h1]; rfl, ⟨rfl, rfl, rfl, by simp [World.setCell], fun k _ hk => ?_⟩⟩
  rw [heap_setCell_other _ ⟨q, 1, none⟩ k b (fun e => hk (by simp [e])), heap_setCell_other w ⟨q, 0, none⟩ k a (fun e => hk (by simp [e]))]
theorem box2_set1 {w : World} {q : Nat} {c0 c1 : Value} {T : TypeId} (h : w.heap[q]? = some (.cells #[c0, c1] T (0, 0))) (b : Value) :
    (w.setCell ⟨q, 1, none⟩ b).heap[q]? = some (.cells #[c0, b] T (0, 0)) ∧ w.grownBy (w.setCell ⟨q, 1, none⟩ b) (some q) := by
  refine ⟨by rw [heap_setCell_same w q 1 _ T b h]; rfl, ⟨rfl, rfl, rfl, by simp [World.setCell], fun k _ hk => heap_setCell_other w ⟨q, 1, none⟩ k b (fun e => hk (by simp [e]))⟩⟩
theorem box2_set0 {w : World} {q : Nat} {c0 c1 : Value} {T : TypeId} (h : w.heap[q]? = some (.cells #[c0, c1] T (0, 0))) (b : Value) :
    (w.setCell ⟨q, 0, none⟩ b).heap[q]? = some (.cells #[b, c1] T (0, 0)) ∧ w.grownBy (w.setCell ⟨q, 0, none⟩ b) (some q) := by
  refine ⟨by rw [heap_setCell_same w q 0 _ T b h]; rfl, ⟨rfl, rfl, rfl, by simp [World.setCell], fun k _ hk => heap_setCell_other w ⟨q, 0, none⟩ k b (fun e => hk (by simp [e]))⟩⟩
theorem box2_new (w : World) (c0 c1 : Value) (T : TypeId) : (w.alloc (.cells #[c0, c1] T)).heap[w.heap.size]? = some (.cells #[c0, c1] T (0, 0)) := by rw [heap_alloc_new]
theorem box2_post {P : Program} {f : Func} {Q : Ending → World → Prop} {x : Exit} {act : Act} {w : World} {q : Nat} {c0 c1 a b : Value} {T : TypeId} (h : w.heap[q]? = some (.cells #[c0, c1] T (0, 0)))
    (k : ∀ w2, w2.heap[q]? = some (.cells #[a, b] T (0, 0)) → w.grownBy w2 (some q) → bodyPost P f Q x act w2) :
    bodyPost P f Q x act ((w.setCell ⟨q, 0, none⟩ a).setCell ⟨q, 1, none⟩ b) :=
  k _ (box2_set h a b).1 (box2_set h a b).2
theorem box_gr {w w' : World} {R q : Nat} {o : Obj} (h : w.heap[R]? = some o) (hg : w.grownBy w' (some q)) (hne : R ≠ q) : w'.heap[R]? = some o := by
  rw [hg.block R (Array.getElem?_eq_some_iff.1 h).1 (by simp; omega)]; exact h
end Go.Proofs.Ytfgigcdfmkfkjaa
/-
  A block of two cells (a fact in memory), and rows of values of the calls' own, by their block.
-/
namespace Go.Proofs.Ytfgigcdfmkfkjaa
open Go.RowKit
set_option linter.unusedVariables false

/-- block g holds the values L, at its head, and is written by nobody else -/
def OwnV (w : World) (g cap : Nat) (L : List V3) : Prop := w.ownsRow 0 105 3 (.slice (some ⟨g, 0, none⟩) L.length cap) L.length (cells3 L)
theorem OwnV.of {w : World} {base g cap n : Nat} {L : List V3} (h : w.ownsRow base 105 3 (.slice (some ⟨g, 0, none⟩) n cap) n (cells3 L)) : OwnV w g cap L := by
  have hn : n = L.length := by have := h.1; rw [cells3_length] at this; omega
  subst hn
  refine ⟨h.1, ?_⟩
  rcases h.2 with h2 | ⟨g, cap, cur, h1, hb, rest⟩
  · exact .inl h2
  · exact .inr ⟨g, cap, cur, h1, Nat.zero_le _, rest⟩
theorem OwnV.lt {w : World} {g cap : Nat} {L : List V3} (h : OwnV w g cap L) : g < w.heap.size := (World.ownsRow.lt h g rfl).2
theorem OwnV.later {w w' : World} {g cap : Nat} {L : List V3} (h : OwnV w g cap L) (hb : Below w.heap.size w w') : OwnV w' g cap L := by
  refine ⟨h.1, ?_⟩
  rcases h.2 with h2 | ⟨g, cap, cur, h1, hb', hh, rest⟩
  · exact .inl h2
  · exact .inr ⟨g, cap, cur, h1, hb', by rw [hb.block g (Array.getElem?_eq_some_iff.1 hh).1]; exact hh, rest⟩
theorem OwnV.grown {w w' : World} {g g' cap : Nat} {L : List V3} (h : OwnV w g cap L) (hg : w.grownBy w' (some g')) (hne : g ≠ g') : OwnV w' g cap L :=
  World.ownsRow.kept h hg (.inr (by simp [Value.ownBlock]; exact hne))
theorem OwnV.rd {w : World} {g cap : Nat} {L : List V3} (h : OwnV w g cap L) : RdV w (some ⟨g, 0, none⟩) L := by
  obtain ⟨a, c, e, hr, -⟩ := rdV_owns h
  simp only [Value.slice.injEq] at e
  rw [e.1]; exact hr
theorem OwnV.cap {w : World} {g cap : Nat} {L : List V3} (h : OwnV w g cap L) : L.length ≤ cap := by
  rcases h.2 with ⟨h1, _⟩ | ⟨g', cap', cur, h1, hb', hh, hnc, _⟩
  · simp at h1
  · simp only [Value.slice.injEq] at h1; omega
end Go.Proofs.Ytfgigcdfmkfkjaa
/-
  A block of some cells (a struct in memory): what it reads as, what a store leaves.
-/
namespace Go.Proofs.Ytfgigcdfmkfkjaa
open Go.RowKit
set_option linter.unusedVariables false

theorem boxk_new (w : World) (cs : Array Value) (T : TypeId) : (w.alloc (.cells cs T)).heap[w.heap.size]? = some (.cells cs T (0, 0)) := by rw [heap_alloc_new]
theorem boxk_cell {w : World} {q : Nat} {cs : Array Value} {T : TypeId} (h : w.heap[q]? = some (.cells cs T (0, 0))) (j : Nat) (c : Value) (hc : cs[j]? = some c) : w.cell? ⟨q, j, none⟩ = some c := by
  rw [cell_of_row w q j cs T (0, 0) h]; exact hc
theorem boxk_frozen {w : World} {q : Nat} {cs : Array Value} {T : TypeId} (h : w.heap[q]? = some (.cells cs T (0, 0))) (j : Nat) : w.frozen? ⟨q, j, none⟩ = false := frozen_of_row w q j _ T h
theorem boxk_set {w : World} {q : Nat} {cs : Array Value} {T : TypeId} (h : w.heap[q]? = some (.cells cs T (0, 0))) (j : Nat) (v : Value) :
    (w.setCell ⟨q, j, none⟩ v).heap[q]? = some (.cells (cs.setIfInBounds j v) T (0, 0)) ∧ w.grownBy (w.setCell ⟨q, j, none⟩ v) (some q) := by
  refine ⟨by rw [heap_setCell_same w q j _ T v h], ⟨rfl, rfl, rfl, by simp [World.setCell], fun k _ hk => heap_setCell_other w ⟨q, j, none⟩ k v (fun e => hk (by simp [e]))⟩⟩
theorem grown_tt {a b c : World} {row : Option Nat} (h : a.grownBy b row) (k : b.grownBy c row) : a.grownBy c row :=
  ⟨k.os.trans h.os, k.tape.trans h.tape, k.output.trans h.output, Nat.le_trans h.size k.size, fun i hi hne => (k.block i (Nat.lt_of_lt_of_le hi h.size) hne).trans (h.block i hi hne)⟩
theorem box4_set {w : World} {q : Nat} {c0 c1 c2 c3 : Value} {T : TypeId} (h : w.heap[q]? = some (.cells #[c0, c1, c2, c3] T (0, 0))) (v0 v1 v2 v3 : Value) :
    ((((w.setCell ⟨q, 0, none⟩ v0).setCell ⟨q, 1, none⟩ v1).setCell ⟨q, 2, none⟩ v2).setCell ⟨q, 3, none⟩ v3).heap[q]? = some (.cells #[v0, v1, v2, v3] T (0, 0)) ∧ w.grownBy ((((w.setCell ⟨q, 0, none⟩ v0).setCell ⟨q, 1, none⟩ v1).setCell ⟨q, 2, none⟩ v2).setCell ⟨q, 3, none⟩ v3) (some q) := by
  have h0 := boxk_set h 0 v0
  have h1 := boxk_set h0.1 1 v1
  have h2 := boxk_set h1.1 2 v2
  have h3 := boxk_set h2.1 3 v3
  exact ⟨h3.1, (grown_tt (grown_tt (grown_tt h0.2 h1.2) h2.2) h3.2)⟩
theorem box4_post {P : Program} {f : Func} {Q : Ending → World → Prop} {x : Exit} {act : Act} {w : World} {q : Nat} {c0 c1 c2 c3 v0 v1 v2 v3 : Value} {T : TypeId} (h : w.heap[q]? = some (.cells #[c0, c1, c2, c3] T (0, 0)))
    (k : ∀ w2, w2.heap[q]? = some (.cells #[v0, v1, v2, v3] T (0, 0)) → w.grownBy w2 (some q) → bodyPost P f Q x act w2) : bodyPost P f Q x act ((((w.setCell ⟨q, 0, none⟩ v0).setCell ⟨q, 1, none⟩ v1).setCell ⟨q, 2, none⟩ v2).setCell ⟨q, 3, none⟩ v3) :=
  k _ (box4_set h v0 v1 v2 v3).1 (box4_set h v0 v1 v2 v3).2
theorem box5_set {w : World} {q : Nat} {c0 c1 c2 c3 c4 : Value} {T : TypeId} (h : w.heap[q]? = some (.cells #[c0, c1, c2, c3, c4] T (0, 0))) (v0 v1 v2 v3 v4 : Value) :
    (((((w.setCell ⟨q, 0, none⟩ v0).setCell ⟨q, 1, none⟩ v1).setCell ⟨q, 2, none⟩ v2).setCell ⟨q, 3, none⟩ v3).setCell ⟨q, 4, none⟩ v4).heap[q]? = some (.cells #[v0, v1, v2, v3, v4] T (0, 0)) ∧ w.grownBy (((((w.setCell ⟨q, 0, none⟩ v0).setCell ⟨q, 1, none⟩ v1).setCell ⟨q, 2, none⟩ v2).setCell ⟨q, 3, none⟩ v3).setCell ⟨q, 4, none⟩ v4) (some q) := by
  have h0 := boxk_set h 0 v0
  have h1 := boxk_set h0.1 1 v1
  have h2 := boxk_set h1.1 2 v2
  have h3 := boxk_set h2.1 3 v3
  have h4 := boxk_set h3.1 4 v4
  exact ⟨h4.1, (grown_tt (grown_tt (grown_tt (grown_tt h0.2 h1.2) h2.2) h3.2) h4.2)⟩
theorem box5_post {P : Program} {f : Func} {Q : Ending → World → Prop} {x : Exit} {act : Act} {w : World} {q : Nat} {c0 c1 c2 c3 c4 v0 v1 v2 v3 v4 : Value} {T : TypeId} (h : w.heap[q]? = some (.cells #[c0, c1, c2, c3, c4] T (0, 0)))
    (k : ∀ w2, w2.heap[q]? = some (.cells #[v0, v1, v2, v3, v4] T (0, 0)) → w.grownBy w2 (some q) → bodyPost P f Q x act w2) : bodyPost P f Q x act (((((w.setCell ⟨q, 0, none⟩ v0).setCell ⟨q, 1, none⟩ v1).setCell ⟨q, 2, none⟩ v2).setCell ⟨q, 3, none⟩ v3).setCell ⟨q, 4, none⟩ v4) :=
  k _ (box5_set h v0 v1 v2 v3 v4).1 (box5_set h v0 v1 v2 v3 v4).2
end Go.Proofs.Ytfgigcdfmkfkjaa
/-
  Six cells (two values in memory) are kept where all that was there is.
-/
namespace Go.Proofs.Ytfgigcdfmkfkjaa
open Go.RowKit
set_option linter.unusedVariables false

theorem keep6 {W w' : World} {a0 a1 a2 a3 a4 a5 : Addr} {v0 v1 v2 v3 v4 v5 : Value} (hb : Below W.heap.size W w')
    (h : W.cell? a0 = some v0 ∧ W.cell? a1 = some v1 ∧ W.cell? a2 = some v2 ∧ W.cell? a3 = some v3 ∧ W.cell? a4 = some v4 ∧ W.cell? a5 = some v5) :
    w'.cell? a0 = some v0 ∧ w'.cell? a1 = some v1 ∧ w'.cell? a2 = some v2 ∧ w'.cell? a3 = some v3 ∧ w'.cell? a4 = some v4 ∧ w'.cell? a5 = some v5 := by
  obtain ⟨h0, h1, h2, h3, h4, h5⟩ := h
  have k : ∀ {a : Addr} {v : Value}, W.cell? a = some v → w'.cell? a = some v := fun {a v} h => by rw [hb.cell (World.block_lt_of_cell? W _ h)]; exact h
  exact ⟨k h0, k h1, k h2, k h3, k h4, k h5⟩

/-- two values in memory, and all that was there at the head -/
theorem keep7 {w0 W w' : World} {B : Nat} {a0 a1 a2 a3 a4 a5 : Addr} {v0 v1 v2 v3 v4 v5 : Value} (hb : Below W.heap.size W w')
    (h : W.cell? a0 = some v0 ∧ W.cell? a1 = some v1 ∧ W.cell? a2 = some v2 ∧ W.cell? a3 = some v3 ∧ W.cell? a4 = some v4 ∧ W.cell? a5 = some v5 ∧ Below B w0 W ∧ B ≤ W.heap.size) :
    w'.cell? a0 = some v0 ∧ w'.cell? a1 = some v1 ∧ w'.cell? a2 = some v2 ∧ w'.cell? a3 = some v3 ∧ w'.cell? a4 = some v4 ∧ w'.cell? a5 = some v5 ∧ Below B w0 w' ∧ B ≤ w'.heap.size := by
  obtain ⟨h0, h1, h2, h3, h4, h5, h6, h7⟩ := h
  have k : ∀ {a : Addr} {v : Value}, W.cell? a = some v → w'.cell? a = some v := fun {a v} h => by rw [hb.cell (World.block_lt_of_cell? W _ h)]; exact h
  exact ⟨k h0, k h1, k h2, k h3, k h4, k h5, h6.trans (hb.mono h7), Nat.le_trans h7 hb.size⟩

theorem below_al (w : World) (o : Obj) : Below w.heap.size w (w.alloc o) := (Below.refl _ _).alloc (Nat.le_refl _) _
theorem below_ald (w : World) (o : Obj) : Below w.heap.size w (w.alloc o).drew := (below_al w o).drew
/-- a store of three cells into a block that was made where the two values lay -/
theorem keep7s {w0 W W1 : World} {B : Nat} {a0 a1 a2 a3 a4 a5 : Addr} {v0 v1 v2 v3 v4 v5 x y z : Value}
    (h1 : W1.cell? a0 = some v0 ∧ W1.cell? a1 = some v1 ∧ W1.cell? a2 = some v2 ∧ W1.cell? a3 = some v3 ∧ W1.cell? a4 = some v4 ∧ W1.cell? a5 = some v5 ∧ Below B w0 W1 ∧ B ≤ W1.heap.size)
    (h : W.cell? a0 = some v0 ∧ W.cell? a1 = some v1 ∧ W.cell? a2 = some v2 ∧ W.cell? a3 = some v3 ∧ W.cell? a4 = some v4 ∧ W.cell? a5 = some v5 ∧ Below B w0 W ∧ B ≤ W.heap.size)
    (hq : ∃ c0 c1 c2 T, W.heap[W1.heap.size]? = some (.cells #[c0, c1, c2] T (0, 0))) :
    (((W.setCell ⟨W1.heap.size, 0, none⟩ x).setCell ⟨W1.heap.size, 1, none⟩ y).setCell ⟨W1.heap.size, 2, none⟩ z).cell? a0 = some v0 ∧ (((W.setCell ⟨W1.heap.size, 0, none⟩ x).setCell ⟨W1.heap.size, 1, none⟩ y).setCell ⟨W1.heap.size, 2, none⟩ z).cell? a1 = some v1 ∧ (((W.setCell ⟨W1.heap.size, 0, none⟩ x).setCell ⟨W1.heap.size, 1, none⟩ y).setCell ⟨W1.heap.size, 2, none⟩ z).cell? a2 = some v2 ∧ (((W.setCell ⟨W1.heap.size, 0, none⟩ x).setCell ⟨W1.heap.size, 1, none⟩ y).setCell ⟨W1.heap.size, 2, none⟩ z).cell? a3 = some v3 ∧ (((W.setCell ⟨W1.heap.size, 0, none⟩ x).setCell ⟨W1.heap.size, 1, none⟩ y).setCell ⟨W1.heap.size, 2, none⟩ z).cell? a4 = some v4 ∧ (((W.setCell ⟨W1.heap.size, 0, none⟩ x).setCell ⟨W1.heap.size, 1, none⟩ y).setCell ⟨W1.heap.size, 2, none⟩ z).cell? a5 = some v5 ∧ Below B w0 (((W.setCell ⟨W1.heap.size, 0, none⟩ x).setCell ⟨W1.heap.size, 1, none⟩ y).setCell ⟨W1.heap.size, 2, none⟩ z) ∧ B ≤ (((W.setCell ⟨W1.heap.size, 0, none⟩ x).setCell ⟨W1.heap.size, 1, none⟩ y).setCell ⟨W1.heap.size, 2, none⟩ z).heap.size := by
  obtain ⟨c0, c1, c2, T, hq⟩ := hq
  obtain ⟨-, g⟩ := box_set3 hq x y z
  generalize ((W.setCell ⟨W1.heap.size, 0, none⟩ x).setCell ⟨W1.heap.size, 1, none⟩ y).setCell ⟨W1.heap.size, 2, none⟩ z = Y at g ⊢
  obtain ⟨p0, p1, p2, p3, p4, p5, p6, p7⟩ := h1
  obtain ⟨h0, h1, h2, h3, h4, h5, h6, h7⟩ := h
  have k : ∀ {a : Addr} {u v : Value}, W1.cell? a = some u → W.cell? a = some v → Y.cell? a = some v := fun {a u v} p h => g.cell h (by have := World.block_lt_of_cell? W1 _ p; simp; omega)
  exact ⟨k p0 h0, k p1 h1, k p2 h2, k p3 h3, k p4 h4, k p5 h5, h6.grown g h7 (fun j hj => by cases hj; exact p7), Nat.le_trans h7 g.size⟩
theorem below_dr {w u : World} (k : Below w.drew.heap.size w.drew u) : Below w.heap.size w u := (Below.refl w.heap.size w).drew.trans k
theorem below_step {w u v : World} (h : Below w.heap.size w u) (k : Below u.heap.size u v) : Below w.heap.size w v := h.trans (k.mono h.size)
theorem below_end {w u : World} (h : Below w.heap.size w u) (o : Obj) : Below w.heap.size w (u.alloc o) := h.alloc h.size o
theorem box_step {w w' : World} {R : Nat} {o : Obj} (h : w.heap[R]? = some o) (hb : Below w.heap.size w w') : w'.heap[R]? = some o := box_below h hb (Array.getElem?_eq_some_iff.1 h).1
theorem box_newd (w : World) (c0 c1 c2 : Value) (T : TypeId) : (w.alloc (.cells #[c0, c1, c2] T)).drew.heap[w.heap.size]? = some (.cells #[c0, c1, c2] T (0, 0)) := box_new w c0 c1 c2 T
end Go.Proofs.Ytfgigcdfmkfkjaa
/-
  The tested program's rowsFrom: the iterator at no pattern (what is begun comes), at the first that comes.
-/
namespace Go.Proofs.Ytfgigcdfmkfkjaa
open Go.RowKit Go.Shelf Go
set_option linter.unusedVariables false
attribute [local go_sem] Oper.semAt_some

/-- a block of cells abides -/
theorem Ab.cells {B k : Nat} {cs : Array Value} {T : TypeId} {f : Nat × Nat} : Ab B (fun W => W.heap[k]? = some (.cells cs T f)) := fun s W W' row hs hg hr => by
  replace hs : W.heap[k]? = some (.cells cs T f) := hs
  show W'.heap[k]? = some (.cells cs T f)
  rw [hg.block k (Array.getElem?_eq_some_iff.1 hs).1 (fun e => by obtain ⟨-, o, h1, h2⟩ := hr _ e.symm; rw [hs] at h1; cases h1; cases h2)]; exact hs
theorem Ab.ex {B : Nat} {β : Type} {J : β → World → Prop} (h : ∀ b, Ab B (J b)) : Ab B (fun W => ∃ b, J b W) := fun s W W' row hs hg hr => by
  obtain ⟨b, hb⟩ := hs; exact ⟨b, h b s W W' row hb hg hr⟩
/-- the law where what comes is laid into a box -/
theorem wpFirstBox {P : Program} {g : Operand} {ps : Array Tmp} {assign body : Code} {Q : Exit → Act → World → Prop} {a : Act} {w : World} (sl : Nat) (T : TypeId)
    {gf : Nat} {lb : Array Value} (hg : a.eval g = .func (.func gf) #[] lb) (eg : ∀ args w, (callFunc gf args).run P w = .ok (.enter gf args) w)
    {Z : Prop} (hseq : Seq1 P gf lb Z w) (hps : ps.size = 1)
    (I Ix : World → Prop) (hI : Ab w.heap.size I) (hIx : Ab w.heap.size Ix) (h0 : I w)
    (hassign : ∀ (l m : Nat) (x : Tri) (W : World) (K : Act → World → Prop), I W → (∀ (B : Nat) W', KeepsFrom w.heap.size W W' → I W' → W'.heap[B]? = some (.cells #[.int .i64 x.r, .slice x.a1 x.n1 x.c1, .slice x.a2 x.n2 x.c2] T (0, 0)) → K { tmps := ((ps.zip #[x.val]).foldl (fun t (p, v) => t.setIfInBounds p v) a.tmps).setIfInBounds sl (.pointer (some ⟨B, 0, none⟩)), defers := [] } W') →
      assign.wpIn (Fence.wide.inRound l) m P (Exit.then K (fun _ _ _ => False)) { tmps := (ps.zip #[x.val]).foldl (fun t (p, v) => t.setIfInBounds p v) a.tmps, defers := [] } W)
    (hbody : ∀ (l m : Nat) (x : Tri) (B : Nat) (W : World), w.heap.size ≤ l → I W → W.heap[B]? = some (.cells #[.int .i64 x.r, .slice x.a1 x.n1 x.c1, .slice x.a2 x.n2 x.c2] T (0, 0)) → body.wpIn (Fence.wide.inRound l) m P (fun e _ W' => e = .ret ∧ KeepsFrom w.heap.size W W' ∧ Ix W') { tmps := ((ps.zip #[x.val]).foldl (fun t (p, v) => t.setIfInBounds p v) a.tmps).setIfInBounds sl (.pointer (some ⟨B, 0, none⟩)), defers := [] } W)
    (hdone : ∀ (D : Nat) (W : World), w.heap.size ≤ D → ¬ Z → I W → W.heap[D]? = some (.deferred (some [])) → Q .normal { a with defers := { target := .collected D, args := #[] } :: a.defers } W)
    (hstop : ∀ (D : Nat) (W : World), w.heap.size ≤ D → Z → Ix W → W.heap[D]? = some (.deferred (some [])) → Code.ret.wp P Q { a with defers := { target := .collected D, args := #[] } :: a.defers } W) :
    (Code.rangeFunc g ps assign body).wp P Q a w :=
  wpFirst hg eg hseq hps I Ix hI hIx h0 (fun x a' W => ∃ B, W.heap[B]? = some (.cells #[.int .i64 x.r, .slice x.a1 x.n1 x.c1, .slice x.a2 x.n2 x.c2] T (0, 0)) ∧ a' = { tmps := ((ps.zip #[x.val]).foldl (fun t (p, v) => t.setIfInBounds p v) a.tmps).setIfInBounds sl (.pointer (some ⟨B, 0, none⟩)), defers := [] })
    (fun x a' => Ab.ex fun B => Ab.cells.and (fun _ _ _ _ h _ _ => h))
    (fun l m x W K hi hK => hassign l m x W K hi (fun B W' h1 h2 h3 => hK _ W' h1 h2 ⟨B, h3, rfl⟩))
    (fun l m x a' W hl hi hx => by obtain ⟨B, h1, rfl⟩ := hx; exact hbody l m x B W hl hi h1) hdone hstop

theorem rows_boxes (w : World) (cs1 cs2 cs3 : Array Value) (T1 T2 T3 : TypeId) : (((w.alloc (.cells cs1 T1)).alloc (.cells cs2 T2)).alloc (.cells cs3 T3)).heap[w.heap.size + 1]? = some (.cells cs2 T2 (0, 0)) ∧
    (((w.alloc (.cells cs1 T1)).alloc (.cells cs2 T2)).alloc (.cells cs3 T3)).heap[w.heap.size]? = some (.cells cs1 T1 (0, 0)) ∧
    (((w.alloc (.cells cs1 T1)).alloc (.cells cs2 T2)).alloc (.cells cs3 T3)).heap[w.heap.size + 1 + 1]? = some (.cells cs3 T3 (0, 0)) ∧
    Below w.heap.size w (((w.alloc (.cells cs1 T1)).alloc (.cells cs2 T2)).alloc (.cells cs3 T3)) := by
  have h1 := boxk_new w cs1 T1
  have h2 := boxk_new (w.alloc (.cells cs1 T1)) cs2 T2
  have h3 := boxk_new ((w.alloc (.cells cs1 T1)).alloc (.cells cs2 T2)) cs3 T3
  have b1 := below_al w (.cells cs1 T1)
  have b2 := below_al (w.alloc (.cells cs1 T1)) (.cells cs2 T2)
  have b3 := below_al ((w.alloc (.cells cs1 T1)).alloc (.cells cs2 T2)) (.cells cs3 T3)
  have e1 := box_step (box_step h1 b2) b3
  have e2 := box_step h2 b3
  have b4 := b1.trans ((b2.trans (b3.mono b2.size)).mono b1.size)
  simp only [World.size_alloc] at e2 h3
  exact ⟨e2, e1, h3, b4⟩
set_option maxRecDepth 100000 in
/-- rowsFrom lays three boxes and hands the iterator back -/
theorem rowsFrom_any (v0 : Int) (a1 : Option Addr) (n1 c1 : Nat) (a2 : Option Addr) (n2 c2 : Nat) (al : Option Addr) (nl cl : Nat) (ai : Option Addr) (ni ci : Nat) (w : World) :
    Calls Try.prog 76 #[.agg #[.int .i64 v0, .slice a1 n1 c1, .slice a2 n2 c2], .slice al nl cl, .slice ai ni ci] w fun e w' =>
      e = .returned (.func (.func 113) #[] #[.pointer (some ⟨w.heap.size + 1, 0, none⟩), .pointer (some ⟨w.heap.size, 0, none⟩), .pointer (some ⟨w.heap.size + 1 + 1, 0, none⟩)]) ∧
      w' = ((w.alloc (.cells #[.int .i64 v0, .slice a1 n1 c1, .slice a2 n2 c2] 30)).alloc (.cells #[.slice al nl cl] 45)).alloc (.cells #[.slice ai ni ci] 51) := by
  go_enter Try.func76, Try.ntmps76
  go_wp2
  go_ret
  exact ⟨rfl, rfl⟩

set_option maxRecDepth 100000 in
set_option maxHeartbeats 1600000 in
theorem rowsEmpty (w : World) (bl bb bi : Nat) (al : Option Addr) (cl : Nat) (x : Tri) (hl : w.heap[bl]? = some (.cells #[.slice al 0 cl] 45 (0, 0))) (hb : w.heap[bb]? = some (.cells #[.int .i64 x.r, .slice x.a1 x.n1 x.c1, .slice x.a2 x.n2 x.c2] 30 (0, 0))) :
    Seq1 Try.prog 113 #[.pointer (some ⟨bl, 0, none⟩), .pointer (some ⟨bb, 0, none⟩), .pointer (some ⟨bi, 0, none⟩)] True w := by
  intro l J Jx W hW hJ hJx hY h0
  have hl1 := boxk_cell (box_below hl hW (Array.getElem?_eq_some_iff.1 hl).1) 0 _ rfl
  have hb1 := box_below hb hW (Array.getElem?_eq_some_iff.1 hb).1
  have ba := below_al W (.cells #[.func (.yield l) #[] #[]] 183)
  have c0 := boxk_cell (box_step hb1 ba) 0 _ rfl
  have c1 := boxk_cell (box_step hb1 ba) 1 _ rfl
  have c2 := boxk_cell (box_step hb1 ba) 2 _ rfl
  have hla := (ba.cell (World.block_lt_of_cell? W _ hl1)).trans hl1
  have hy0 := boxk_cell (boxk_new W #[.func (.yield l) #[] #[]] 183) 0 _ rfl
  obtain ⟨fn, tmps, assign, body, hy, hR⟩ := hY 4 x (W.alloc (.cells #[.func (.yield l) #[] #[]] 183)) (hJ.grown h0 (World.grownBy_alloc W _ none))
  unfold Tri.val at hy
  refine (callsIn_wide (n := 5)).1 ?_
  refine callsIn_of_wp_marks Try.func113 rfl trivial ?_ rfl
  simp only [Try.ntmps113, List.size_toArray, List.length_cons, List.length_nil, Nat.reduceAdd, Nat.reduceSub, Array.replicate_succ, Array.replicate_zero, List.push_toArray, List.append_toArray, List.nil_append, List.cons_append]
  gi_wp2
  refine hR.mono ?_
  rintro e W3 ⟨rfl, hk, hx⟩
  gi_wp2
  exact ⟨_, results_none rfl _ _ _, ⟨_, rfl⟩, .inr ⟨trivial, hx⟩⟩
end Go.Proofs.Ytfgigcdfmkfkjaa
/-
  Rows of elements of three cells each, whatever the element: their cells, one by one, and a store of one element.
-/
namespace Go.Proofs.Ytfgigcdfmkfkjaa
open Go.RowKit
set_option linter.unusedVariables false

def rowOf {α : Type} (f : α → List Value) (L : List α) : List Value := L.flatMap f
theorem rowOf_cons {α : Type} (f : α → List Value) (x : α) (L : List α) : rowOf f (x :: L) = f x ++ rowOf f L := by simp [rowOf]
theorem rowOf_append {α : Type} (f : α → List Value) (L M : List α) : rowOf f (L ++ M) = rowOf f L ++ rowOf f M := by simp [rowOf]
theorem rowOf_length {α : Type} {f : α → List Value} {k : Nat} (hk : ∀ x, (f x).length = k) : ∀ L : List α, (rowOf f L).length = L.length * k
  | [] => by simp [rowOf]
  | x :: r => by rw [rowOf_cons, List.length_append, hk, rowOf_length hk r, List.length_cons, Nat.succ_mul, Nat.add_comm]
theorem rowOf_get {α : Type} {f : α → List Value} {k : Nat} (hk : ∀ x, (f x).length = k) : ∀ (L : List α) (i j : Nat) (hi : i < L.length), j < k → (rowOf f L)[i * k + j]? = (f L[i])[j]?
  | [], i, j, hi, _ => absurd hi (Nat.not_lt_zero _)
  | x :: r, 0, j, hi, hj => by rw [rowOf_cons, Nat.zero_mul, Nat.zero_add, List.getElem?_append_left (by rw [hk]; exact hj)]; rfl
  | x :: r, i + 1, j, hi, hj => by
    rw [rowOf_cons, List.getElem?_append_right (by rw [hk, Nat.succ_mul]; omega), hk, show (i + 1) * k + j - k = i * k + j by rw [Nat.succ_mul]; omega]
    exact rowOf_get hk r i j (by simpa using hi) hj
theorem len3 {l : List Value} (h : l.length = 3) : ∃ a b c, l = [a, b, c] := by
  match l, h with
  | [a, b, c], _ => exact ⟨a, b, c, rfl⟩
theorem rowOf_set3 {α : Type} {f : α → List Value} (hk : ∀ x, (f x).length = 3) (x : α) (c0 c1 c2 : Value) (hx : f x = [c0, c1, c2]) : ∀ (L : List α) (i : Nat), i < L.length →
    (((rowOf f L).set (i * 3) c0).set (i * 3 + 1) c1).set (i * 3 + 2) c2 = rowOf f (L.set i x)
  | [], i, hi => absurd hi (Nat.not_lt_zero _)
  | y :: r, 0, hi => by
    obtain ⟨a, b, c, e⟩ := len3 (hk y)
    rw [rowOf_cons, e, List.set_cons_zero, rowOf_cons, hx]
    rfl
  | y :: r, i + 1, hi => by
    obtain ⟨a, b, c, e⟩ := len3 (hk y)
    have ih := rowOf_set3 hk x c0 c1 c2 hx r i (by simpa using hi)
    rw [rowOf_cons, e, List.set_cons_succ, rowOf_cons, ← ih, e]
    simp only [Nat.succ_mul]
    rfl
theorem rowOf_replicate {α : Type} {f : α → List Value} {x : α} {c0 c1 c2 : Value} (hx : f x = [c0, c1, c2]) (n : Nat) : (madeCells #[c0, c1, c2] (n * 3)).toList = rowOf f (List.replicate n x) := by
  induction n with
  | zero => simp [madeCells, rowOf]
  | succ n ih =>
    apply List.ext_getElem?
    intro j
    rw [List.replicate_succ, rowOf_cons, hx]
    by_cases hj : j < 3
    · match j, hj with
      | 0, _ => simp [madeCells, show 0 < (n + 1) * 3 by omega]
      | 1, _ => simp [madeCells, show 1 < (n + 1) * 3 by omega]
      | 2, _ => simp [madeCells, show 2 < (n + 1) * 3 by omega]
    · rw [List.getElem?_append_right (by simp; omega), ← ih]
      simp only [List.length_cons, List.length_nil]
      by_cases hl : j < (n + 1) * 3
      · have h1 : j - 3 < n * 3 := by omega
        have h2 : (j - 3) % 3 = j % 3 := by omega
        simp [madeCells, hl, h1, h2]
      · have h1 : ¬ j - 3 < n * 3 := by omega
        simp [madeCells, hl, h1]
end Go.Proofs.Ytfgigcdfmkfkjaa
/-
  Rows of elements of k cells each, whatever the element: what a slice of them reads as (RdK), what a call's own row of them holds (OwnK).
-/
namespace Go.Proofs.Ytfgigcdfmkfkjaa
open Go.RowKit
set_option linter.unusedVariables false

def eAt {α : Type} [Inhabited α] (L : List α) (i : Nat) : α := L.getD i default
theorem eAt_in {α : Type} [Inhabited α] {L : List α} {i : Nat} (h : i < L.length) : eAt L i = L[i] := by simp [eAt, List.getD, h]
/-- what the slice at 'a' reads as -/
def RdK {α : Type} [Inhabited α] (f : α → List Value) (k : Nat) (w : World) (a : Option Addr) (L : List α) : Prop :=
  ∀ i, i < L.length → ∃ b off, a = some ⟨b, off, none⟩ ∧ ∀ (j : Nat) c, (f (eAt L i))[j]? = some c → w.cell? ⟨b, off + i * k + j, none⟩ = some c

theorem RdK.open {α : Type} [Inhabited α] {f : α → List Value} {k : Nat} (hk : ∀ x, (f x).length = k) (h0 : 0 < k) {w : World} {a : Option Addr} {L : List α} (h : RdK f k w a L) (hp : 0 < L.length) :
    ∃ b off, a = some ⟨b, off, none⟩ ∧ b < w.heap.size ∧ ∀ i, i < L.length → ∀ (j : Nat) c, (f (eAt L i))[j]? = some c → w.cell? ⟨b, off + i * k + j, none⟩ = some c := by
  obtain ⟨b, off, rfl, hc⟩ := h 0 hp
  have hj : 0 < (f (eAt L 0)).length := by rw [hk]; exact h0
  refine ⟨b, off, rfl, World.block_lt_of_cell? w _ (hc 0 _ (List.getElem?_eq_getElem hj)), fun i hi => ?_⟩
  obtain ⟨b2, off2, e, h1⟩ := h i hi
  simp only [Option.some.injEq, Addr.mk.injEq] at e
  rw [e.1, e.2.1]; exact h1
theorem RdK.below {α : Type} [Inhabited α] {f : α → List Value} {k : Nat} {w w' : World} {a : Option Addr} {L : List α} (h : RdK f k w a L) (hb : Below w.heap.size w w') : RdK f k w' a L := by
  intro i hi
  obtain ⟨b, off, e, h0⟩ := h i hi
  refine ⟨b, off, e, fun j c hj => ?_⟩
  have h1 := h0 j c hj
  rw [hb.cell (World.block_lt_of_cell? w _ h1)]; exact h1
theorem RdK.heap {α : Type} [Inhabited α] {f : α → List Value} {k : Nat} {w w' : World} {a : Option Addr} {L : List α} (h : RdK f k w a L) (hb : w'.heap = w.heap) : RdK f k w' a L := by
  intro i hi
  obtain ⟨b, off, e, h0⟩ := h i hi
  exact ⟨b, off, e, fun j c hj => by rw [show ∀ p, w'.cell? p = w.cell? p from fun p => by simp [World.cell?, hb]]; exact h0 j c hj⟩
theorem RdK.nil {α : Type} [Inhabited α] (f : α → List Value) (k : Nat) (w : World) (a : Option Addr) : RdK f k w a [] := fun i hi => absurd hi (Nat.not_lt_zero _)
/-- a shorter part, from the head -/
theorem RdK.take {α : Type} [Inhabited α] {f : α → List Value} {k : Nat} {w : World} {a : Option Addr} {L M : List α} (h : RdK f k w a (L ++ M)) : RdK f k w a L := by
  intro i hi
  obtain ⟨b, off, e, h0⟩ := h i (by rw [List.length_append]; omega)
  have ev : eAt (L ++ M) i = eAt L i := by rw [eAt_in (by rw [List.length_append]; omega), eAt_in hi, List.getElem_append_left hi]
  rw [ev] at h0
  exact ⟨b, off, e, h0⟩
theorem ownsRow_below' {w w' : World} {base n size : Nat} {e : TypeId} {v : Value} {xs : List Value} (h : w.ownsRow base e size v n xs) (hb : Below w.heap.size w w') : w'.ownsRow base e size v n xs := by
  refine ⟨h.1, ?_⟩
  rcases h.2 with h2 | ⟨g, cap, cur, h1, hb', hh, rest⟩
  · exact .inl h2
  · exact .inr ⟨g, cap, cur, h1, hb', by rw [hb.block g (Array.getElem?_eq_some_iff.1 hh).1]; exact hh, rest⟩
/-- what a call's own row reads as -/
theorem rdK_owns {α : Type} [Inhabited α] {f : α → List Value} {k : Nat} (hk : ∀ x, (f x).length = k) (hp : 0 < k) {w : World} {base n : Nat} {T : TypeId} {v : Value} {L : List α} (h : w.ownsRow base T k v n (rowOf f L)) :
    ∃ a cap, v = .slice a L.length cap ∧ RdK f k w a L ∧ n = L.length ∧ L.length ≤ cap ∧ (a = none → L.length = 0 ∧ cap = 0) := by
  have hn : n = L.length := by have := h.1; rw [rowOf_length hk] at this; exact (Nat.eq_of_mul_eq_mul_right hp this).symm
  subst hn
  rcases h.2 with ⟨rfl, h0⟩ | ⟨g, cap, cur, rfl, hb, hg, hnc, hcm, hsz, htake⟩
  · exact ⟨none, 0, by rw [h0], fun i hi => by omega, rfl, by omega, fun _ => ⟨h0, rfl⟩⟩
  · refine ⟨_, cap, rfl, fun i hi => ⟨g, 0, rfl, fun j c hj => ?_⟩, rfl, hnc, fun hh => by cases hh⟩
    have hjk : j < k := by rw [← hk (eAt L i)]; exact (List.getElem?_eq_some_iff.1 hj).1
    have hlt : i * k + j < L.length * k := by
      have : (i + 1) * k ≤ L.length * k := Nat.mul_le_mul_right _ hi
      rw [Nat.succ_mul] at this
      omega
    rw [Nat.zero_add, h.cellAt (i * k + j) hlt, rowOf_get hk L i j hi hjk, ← eAt_in hi]
    exact hj
/-- block g holds the elements L, at its head, and is written by nobody else -/
def OwnK {α : Type} [Inhabited α] (T : TypeId) (f : α → List Value) (k : Nat) (w : World) (g cap : Nat) (L : List α) : Prop := w.ownsRow 0 T k (.slice (some ⟨g, 0, none⟩) L.length cap) L.length (rowOf f L)
theorem OwnK.of {α : Type} [Inhabited α] {T : TypeId} {f : α → List Value} {k : Nat} (hk : ∀ x, (f x).length = k) (hp : 0 < k) {w : World} {base g cap n : Nat} {L : List α} (h : w.ownsRow base T k (.slice (some ⟨g, 0, none⟩) n cap) n (rowOf f L)) : OwnK T f k w g cap L := by
  have hn : n = L.length := by have := h.1; rw [rowOf_length hk] at this; exact (Nat.eq_of_mul_eq_mul_right hp this).symm
  subst hn
  refine ⟨h.1, ?_⟩
  rcases h.2 with h2 | ⟨g, cap, cur, h1, hb, rest⟩
  · exact .inl h2
  · exact .inr ⟨g, cap, cur, h1, Nat.zero_le _, rest⟩
theorem OwnK.lt {α : Type} [Inhabited α] {T : TypeId} {f : α → List Value} {k : Nat} {w : World} {g cap : Nat} {L : List α} (h : OwnK T f k w g cap L) : g < w.heap.size := (World.ownsRow.lt h g rfl).2
theorem OwnK.later {α : Type} [Inhabited α] {T : TypeId} {f : α → List Value} {k : Nat} {w w' : World} {g cap : Nat} {L : List α} (h : OwnK T f k w g cap L) (hb : Below w.heap.size w w') : OwnK T f k w' g cap L := ownsRow_below' h hb
theorem OwnK.grown {α : Type} [Inhabited α] {T : TypeId} {f : α → List Value} {k : Nat} {w w' : World} {g g' cap : Nat} {L : List α} (h : OwnK T f k w g cap L) (hg : w.grownBy w' (some g')) (hne : g ≠ g') : OwnK T f k w' g cap L :=
  World.ownsRow.kept h hg (.inr (by simp [Value.ownBlock]; exact hne))
theorem OwnK.rd {α : Type} [Inhabited α] {T : TypeId} {f : α → List Value} {k : Nat} (hk : ∀ x, (f x).length = k) (hp : 0 < k) {w : World} {g cap : Nat} {L : List α} (h : OwnK T f k w g cap L) : RdK f k w (some ⟨g, 0, none⟩) L := by
  obtain ⟨a, c, e, hr, -⟩ := rdK_owns hk hp h
  simp only [Value.slice.injEq] at e
  rw [e.1]; exact hr
theorem OwnK.cap {α : Type} [Inhabited α] {T : TypeId} {f : α → List Value} {k : Nat} {w : World} {g cap : Nat} {L : List α} (h : OwnK T f k w g cap L) : L.length ≤ cap := by
  rcases h.2 with ⟨h1, _⟩ | ⟨g', cap', cur, h1, hb', hh, hnc, _⟩
  · simp at h1
  · simp only [Value.slice.injEq] at h1; omega

/-- the first i elements laid, the rest still z -/
def partK {α : Type} (L : List α) (z : α) (i : Nat) : List α := L.take i ++ List.replicate (L.length - i) z
theorem partK_length {α : Type} {L : List α} {z : α} {i : Nat} (h : i ≤ L.length) : (partK L z i).length = L.length := by simp [partK]; omega
theorem partK_zero {α : Type} (L : List α) (z : α) : partK L z 0 = List.replicate L.length z := by simp [partK]
theorem partK_end {α : Type} (L : List α) (z : α) : partK L z L.length = L := by simp [partK]
theorem partK_set {α : Type} [Inhabited α] {L : List α} {z : α} {i : Nat} (h : i < L.length) : (partK L z i).set i (eAt L i) = partK L z (i + 1) := by
  have h1 : partK L z i = L.take i ++ z :: List.replicate (L.length - (i + 1)) z := by
    unfold partK; rw [show L.length - i = (L.length - (i + 1)) + 1 by omega, List.replicate_succ]
  have h2 : partK L z (i + 1) = L.take i ++ eAt L i :: List.replicate (L.length - (i + 1)) z := by
    unfold partK; rw [List.take_succ_eq_append_getElem h, eAt_in h, List.append_assoc]; rfl
  rw [h1, h2, List.set_append_right _ _ (by rw [List.length_take]; omega), List.length_take, Nat.min_eq_left (by omega), Nat.sub_self]; rfl
/-- the first i elements as m has them, the rest as they were -/
def partL {α : Type} (m : Nat → α) (L : List α) (i : Nat) : List α := (List.range i).map m ++ L.drop i
theorem partL_length {α : Type} {m : Nat → α} {L : List α} {i : Nat} (h : i ≤ L.length) : (partL m L i).length = L.length := by simp [partL]; omega
theorem partL_end {α : Type} {m : Nat → α} {L : List α} {i : Nat} (h : L.length ≤ i) : partL m L i = (List.range i).map m := by unfold partL; rw [List.drop_eq_nil_of_le h, List.append_nil]
theorem partL_set {α : Type} {m : Nat → α} {L : List α} {i : Nat} (h : i < L.length) : (partL m L i).set i (m i) = partL m L (i + 1) := by
  unfold partL
  rw [List.set_append_right _ _ (by simp), List.length_map, List.length_range, Nat.sub_self, List.drop_eq_getElem_cons h, List.set_cons_zero, List.range_succ, List.map_append, List.append_assoc]
  rfl
theorem rowOf_made {α : Type} {f : α → List Value} {x : α} {cs : Array Value} (hx : f x = cs.toList) (hp : 0 < cs.size) (n : Nat) : (madeCells cs (n * cs.size)).toList = rowOf f (List.replicate n x) := by
  have hk : ∀ y ∈ List.replicate n x, f y = cs.toList := fun y hy => by rw [(List.mem_replicate.1 hy).2]; exact hx
  induction n with
  | zero => simp [madeCells, rowOf]
  | succ n ih =>
    apply List.ext_getElem?
    intro j
    rw [List.replicate_succ, rowOf_cons, hx]
    by_cases hj : j < cs.size
    · rw [List.getElem?_append_left (by simpa using hj)]
      have h1 : j < (n + 1) * cs.size := by rw [Nat.succ_mul]; omega
      simp [madeCells, h1, Nat.mod_eq_of_lt hj, hj]
    · rw [List.getElem?_append_right (by simp; omega), ← ih (fun y hy => hk y (by rw [List.replicate_succ]; exact List.mem_cons_of_mem _ hy))]
      have hl : cs.toList.length = cs.size := by simp
      rw [hl]
      by_cases h1 : j < (n + 1) * cs.size
      · have h2 : j - cs.size < n * cs.size := by rw [Nat.succ_mul] at h1; omega
        have h3 : (j - cs.size) % cs.size = j % cs.size := by
          rw [← Nat.mod_eq_sub_mod (by omega)]
        simp [madeCells, h1, h2, h3]
      · have h2 : ¬ j - cs.size < n * cs.size := by rw [Nat.succ_mul] at h1; omega
        simp [madeCells, h1, h2]
theorem grown_belowM {w w1 w2 : World} {g : Nat} (h : w.grownBy w1 (some g)) (hb : Below w1.heap.size w1 w2) : w.grownBy w2 (some g) :=
  ⟨hb.os.trans h.os, hb.tape.trans h.tape, hb.output.trans h.output, Nat.le_trans h.size hb.size, fun i hi hne => (hb.block i (Nat.lt_of_lt_of_le hi h.size)).trans (h.block i hi hne)⟩
end Go.Proofs.Ytfgigcdfmkfkjaa
/-
  A fact that came in: its kind, and what its list of values reads as.
-/
namespace Go.Proofs.Ytfgigcdfmkfkjaa
open Go.ChangeShapes Go.WideShapes Go.ChangeAt Go.RowKit Go.Joins Go.Deep
set_option linter.unusedVariables false
set_option maxRecDepth 100000

/-- a list of values that came in -/
def IsVals (w : World) (a : Option Addr) (len cap : Nat) (L : List V3) : Prop := L.length = len ∧ len ≤ maxLen ∧ RdV w a L ∧ ∀ v ∈ L, v.S.size ≤ maxLen

theorem three_cells {H : Type} {enc : TypeId × Value → H} {w : World} {base : Nat} {spare : Nat → Bool} {held : Bool} {n : Nat} {cs : List Value} {x : DataW H × List MemPlace}
    (h : DataW.trod enc Try.prog w base spare held n 118 cs = some x) :
    ∃ K N S, cs = [.int .i64 K, .int .i64 N, .string S] ∧ S.size ≤ maxLen := by
  obtain ⟨y0, y1, y2, m, -, hl, h0, h1, h2⟩ := trod_struct3 Try.underlying118 h
  have hc : Try.prog.cellsOf 118 = 3 := by kernel_rfl
  have hi : Try.prog.cellsOf 3 = 1 := by kernel_rfl
  have hs : Try.prog.cellsOf 9 = 1 := by kernel_rfl
  rw [hc] at hl
  match cs, hl with
  | [c0, c1, c2], _ =>
    simp only [hi, hs, List.drop_zero, List.drop_succ_cons, List.take_succ_cons, List.take_zero] at h0 h1 h2
    obtain ⟨K, eK, _, _⟩ := DataW.trod_int Try.underlying3 h0
    obtain ⟨N, eN, _, _⟩ := DataW.trod_int Try.underlying3 h1
    obtain ⟨S, eS, _, wS⟩ := DataW.trod_string Try.underlying9 h2
    simp only [List.cons.injEq, and_true] at eK eN eS
    exact ⟨K, N, S, by rw [eK, eN, eS], wS⟩

theorem vals_in {H : Type} {enc : TypeId × Value → H} {w : World} {spare : Nat → Bool} {held : Bool} {n : Nat} {v : Value} {x : DataW H × List MemPlace}
    (h : DataW.trod enc Try.prog w 0 spare held n 150 [v] = some x) : ∃ a len cap L, v = .slice a len cap ∧ IsVals w a len cap L := by
  have hc : Try.prog.cellsOf 118 = 3 := by kernel_rfl
  rcases open_slice Try.underlying150 h with ⟨h0, _⟩ | ⟨a, len, cap, m, n', D, Pl, h0, hb, hl, hm, hmm, _, hx⟩
  · simp only [List.cons.injEq, and_true] at h0
    exact ⟨none, 0, 0, [], h0, rfl, Nat.zero_le _, RdV.nil _ _, fun v hv => by cases hv⟩
  · simp only [List.cons.injEq, and_true] at h0
    have hlm : len ≤ m := by rw [hmm]; split <;> omega
    obtain ⟨F, hF⟩ := choose_lt (α := V3) (n := len) (p := fun i v => w.cells? 0 (a.add (i * 3)) 3 = some [.int .i64 v.K, .int .i64 v.N, .string v.S] ∧ v.S.size ≤ maxLen) (fun i hi => by
      obtain ⟨cs', h1, h2⟩ := hx i (by omega)
      rw [hc] at h1
      obtain ⟨K, N, S, rfl, hs⟩ := three_cells h2
      exact ⟨⟨K, N, S⟩, h1, hs⟩)
    refine ⟨some a, len, cap, (List.range len).map F, h0, by simp, Nat.le_trans hl hm, fun i hi => ?_, fun v hv => ?_⟩
    · have hi2 : i < len := by simpa using hi
      obtain ⟨_, _, hcell⟩ := World.cells?_some (hF i hi2).1
      obtain ⟨b, off, spot⟩ := a
      have e0 := hcell 0 (by omega)
      have e1 := hcell 1 (by omega)
      have e2 := hcell 2 (by omega)
      rw [add_add] at e0 e1 e2
      have hs : spot = none := by
        obtain ⟨_, _, hcell0⟩ := World.cells?_some (hF 0 (by omega)).1
        have e := hcell0 0 (by omega)
        rw [add_add] at e
        simp only [List.getElem?_cons_zero] at e
        simpa [Addr.add] using World.cell?_spot e
      subst hs
      have ev : vAt ((List.range len).map F) i = F i := by rw [vAt_in hi]; simp
      rw [ev]
      simp only [Addr.add_lit] at e0 e1 e2
      refine ⟨b, off, rfl, ?_, ?_, ?_⟩
      · simpa using e0
      · simpa [Nat.add_assoc] using e1
      · simpa [Nat.add_assoc] using e2
    · obtain ⟨i, hi, rfl⟩ := List.mem_map.1 hv
      exact (hF i (List.mem_range.1 hi)).2
end Go.Proofs.Ytfgigcdfmkfkjaa
/-
  Rows of Binds: what a slice of them reads as, what came in.
-/
namespace Go.Proofs.Ytfgigcdfmkfkjaa
open Go.ChangeShapes Go.WideShapes Go.ChangeAt Go.RowKit Go.Joins Go.Deep
set_option linter.unusedVariables false
set_option maxRecDepth 100000

structure B4 where
  N : ByteArray
  V : V3
instance : Inhabited B4 := ⟨⟨⟨#[]⟩, default⟩⟩
def B4.cs (x : B4) : List Value := [.string x.N, .int .i64 x.V.K, .int .i64 x.V.N, .string x.V.S]
theorem B4.len (x : B4) : x.cs.length = 4 := rfl
def B4.fits (x : B4) : Prop := x.N.size ≤ maxLen ∧ x.V.S.size ≤ maxLen
def B4.small (x : B4) : Prop := x.N.size ≤ 1048576 ∧ x.V.S.size ≤ 1048576
def B4.zero : B4 := ⟨⟨#[]⟩, ⟨0, 0, ⟨#[]⟩⟩⟩
abbrev RdBind (w : World) (a : Option Addr) (L : List B4) : Prop := RdK B4.cs 4 w a L
theorem RdBind.cells {w : World} {a : Option Addr} {L : List B4} (h : RdBind w a L) (hp : 0 < L.length) :
    ∃ b off, a = some ⟨b, off, none⟩ ∧ b < w.heap.size ∧ ∀ i, i < L.length → w.cell? ⟨b, off + i * 4, none⟩ = some (.string (eAt L i).N) ∧ w.cell? ⟨b, off + i * 4 + 1, none⟩ = some (.int .i64 (eAt L i).V.K) ∧ w.cell? ⟨b, off + i * 4 + 2, none⟩ = some (.int .i64 (eAt L i).V.N) ∧ w.cell? ⟨b, off + i * 4 + 3, none⟩ = some (.string (eAt L i).V.S) := by
  obtain ⟨b, off, e, hb, hc⟩ := RdK.open B4.len (by decide) h hp
  refine ⟨b, off, e, hb, fun i hi => ?_⟩
  have hc := hc i hi
  exact ⟨hc 0 _ rfl, hc 1 _ rfl, hc 2 _ rfl, hc 3 _ rfl⟩
def IsBinds (w : World) (a : Option Addr) (len cap : Nat) (L : List B4) : Prop := L.length = len ∧ len ≤ maxLen ∧ RdBind w a L ∧ ∀ x ∈ L, x.fits

theorem bind_cells {H : Type} {enc : TypeId × Value → H} {w : World} {base : Nat} {spare : Nat → Bool} {held : Bool} {n : Nat} {cs : List Value} {x : DataW H × List MemPlace}
    (h : DataW.trod enc Try.prog w base spare held n 120 cs = some x) : ∃ y : B4, cs = y.cs ∧ y.fits := by
  obtain ⟨y0, y1, m, -, hl, h0, h1⟩ := trod_struct2 Try.underlying120 h
  have hc : Try.prog.cellsOf 120 = 4 := by kernel_rfl
  have hi : Try.prog.cellsOf 3 = 1 := by kernel_rfl
  have hs : Try.prog.cellsOf 9 = 1 := by kernel_rfl
  have hv : Try.prog.cellsOf 118 = 3 := by kernel_rfl
  rw [hc] at hl
  match cs, hl with
  | [c0, c1, c2, c3], _ =>
    simp only [hs, hv, List.drop_zero, List.drop_succ_cons, List.take_succ_cons, List.take_zero] at h0 h1
    obtain ⟨N, eN, _, wN⟩ := DataW.trod_string Try.underlying9 h0
    obtain ⟨VK, VN, VS, eV, wVS⟩ := three_cells h1
    simp only [List.cons.injEq, and_true] at eN eV
    obtain ⟨e0, e1, e2⟩ := eV
    exact ⟨⟨N, ⟨VK, VN, VS⟩⟩, by rw [eN, e0, e1, e2]; rfl, wN, wVS⟩

theorem bind_in {H : Type} {enc : TypeId × Value → H} {w : World} {base b0 : Nat} {spare : Nat → Bool} {held : Bool} {r : Reach} {v : Value} {d : DataW H} {p : List MemPlace}
    (hv : Value.okWide Try.prog w r b0 120 v) (h : DataW.Trod enc Try.prog w base spare held 120 v d p) : ∃ (N : ByteArray) (VK : Int) (VN : Int) (VS : ByteArray), v = .agg #[.string N, .int .i64 VK, .int .i64 VN, .string VS] ∧ N.size ≤ maxLen ∧ VS.size ≤ maxLen := by
  obtain ⟨cs, rfl, hsz⟩ := okWide_struct Try.underlying120 hv
  obtain ⟨fuel, hf⟩ := h
  obtain ⟨y, e, hy⟩ := bind_cells hf
  refine ⟨y.N, y.V.K, y.V.N, y.V.S, ?_, hy⟩
  have e2 : cs.toList = y.cs := e
  rw [← Array.toArray_toList (xs := cs), e2]
  rfl
theorem binds_in {H : Type} {enc : TypeId × Value → H} {w : World} {spare : Nat → Bool} {held : Bool} {n : Nat} {v : Value} {x : DataW H × List MemPlace}
    (h : DataW.trod enc Try.prog w 0 spare held n 23 [v] = some x) : ∃ a len cap L, v = .slice a len cap ∧ IsBinds w a len cap L := by
  have hc : Try.prog.cellsOf 120 = 4 := by kernel_rfl
  rcases open_slice Try.underlying23 h with ⟨h0, _⟩ | ⟨a, len, cap, m, n', D, Pl, h0, hb, hl, hm, hmm, _, hx⟩
  · simp only [List.cons.injEq, and_true] at h0
    exact ⟨none, 0, 0, [], h0, rfl, Nat.zero_le _, RdK.nil _ _ _ _, fun v hv => by cases hv⟩
  · simp only [List.cons.injEq, and_true] at h0
    have hlm : len ≤ m := by rw [hmm]; split <;> omega
    obtain ⟨F, hF⟩ := choose_lt (α := B4) (n := len) (p := fun i v => w.cells? 0 (a.add (i * 4)) 4 = some v.cs ∧ v.fits) (fun i hi => by
      obtain ⟨cs', h1, h2⟩ := hx i (by omega)
      rw [hc] at h1
      obtain ⟨y, rfl, hs⟩ := bind_cells h2
      exact ⟨y, h1, hs⟩)
    refine ⟨some a, len, cap, (List.range len).map F, h0, by simp, Nat.le_trans hl hm, fun i hi => ?_, fun v hv => ?_⟩
    · have hi2 : i < len := by simpa using hi
      obtain ⟨_, _, hcell⟩ := World.cells?_some (hF i hi2).1
      obtain ⟨b, off, spot⟩ := a
      have hs : spot = none := by
        obtain ⟨_, _, hcell0⟩ := World.cells?_some (hF 0 (by omega)).1
        have e := hcell0 0 (by omega)
        rw [add_add] at e
        simp only [B4.cs, List.getElem?_cons_zero] at e
        simpa [Addr.add] using World.cell?_spot e
      subst hs
      have ev : eAt ((List.range len).map F) i = F i := by rw [eAt_in hi]; simp
      rw [ev]
      refine ⟨b, off, rfl, fun j c hj => ?_⟩
      have hjk : j < 4 := by rw [← (F i).len]; exact (List.getElem?_eq_some_iff.1 hj).1
      have e := hcell j hjk
      rw [add_add, Addr.add_lit, hj] at e
      simpa [Nat.add_assoc] using e
    · obtain ⟨i, hi, rfl⟩ := List.mem_map.1 hv
      exact (hF i (List.mem_range.1 hi)).2
theorem rowOf_set_B4 (x : B4) : ∀ (L : List B4) (i : Nat), i < L.length →
    (((((rowOf B4.cs L).set (i * 4) (.string x.N)).set (i * 4 + 1) (.int .i64 x.V.K)).set (i * 4 + 2) (.int .i64 x.V.N)).set (i * 4 + 3) (.string x.V.S)) = rowOf B4.cs (L.set i x)
  | [], i, hi => absurd hi (Nat.not_lt_zero _)
  | y :: r, 0, hi => by
    rw [List.set_cons_zero, rowOf_cons, rowOf_cons]
    rfl
  | y :: r, i + 1, hi => by
    have ih := rowOf_set_B4 x r i (by simpa using hi)
    rw [List.set_cons_succ, rowOf_cons, rowOf_cons, ← ih]
    simp only [Nat.succ_mul, B4.cs]
    rfl
abbrev OwnBind (w : World) (g cap : Nat) (L : List B4) : Prop := OwnK 107 B4.cs 4 w g cap L
theorem rdOwnBind {w : World} {g cap : Nat} {L : List B4} (h : OwnBind w g cap L) : RdBind w (some ⟨g, 0, none⟩) L := OwnK.rd B4.len (by decide) h
end Go.Proofs.Ytfgigcdfmkfkjaa
/-
  When two values are the same, plainly.
-/
namespace Go.Proofs.Ytfgigcdfmkfkjaa
open Go.RowKit
set_option linter.unusedVariables false

theorem toList_inj {S S' : ByteArray} (h : S.toList = S'.toList) : S = S' := by
  rw [ByteArray.toList_eq, ByteArray.toList_eq] at h
  cases S; cases S'
  simp at h
  rw [h]
theorem v3_cases (v u : V3) : v = u ∨ (v ≠ u ∧ ((v.K == u.K) = false ∨ ((v.K == u.K) = true ∧ (v.N == u.N) = false) ∨ ((v.K == u.K) = true ∧ (v.N == u.N) = true ∧ (v.S.toList == u.S.toList) = false))) := by
  by_cases h1 : v.K = u.K
  · by_cases h2 : v.N = u.N
    · by_cases h3 : v.S.toList = u.S.toList
      · left; exact V3.ext' h1 h2 (toList_inj h3)
      · right
        exact ⟨fun e => h3 (by rw [e]), .inr (.inr ⟨by simpa using h1, by simpa using h2, by simpa using h3⟩)⟩
    · right
      exact ⟨fun e => h2 (by rw [e]), .inr (.inl ⟨by simpa using h1, by simpa using h2⟩)⟩
  · right
    exact ⟨fun e => h1 (by rw [e]), .inl (by simpa using h1)⟩
instance : DecidableEq V3 := fun a b => by
  by_cases h : a.K = b.K ∧ a.N = b.N ∧ a.S = b.S
  · exact .isTrue (V3.ext' h.1 h.2.1 h.2.2)
  · exact .isFalse (fun e => h (by rw [e]; exact ⟨rfl, rfl, rfl⟩))

end Go.Proofs.Ytfgigcdfmkfkjaa
/-
  What is bound to a name, plainly.
-/
namespace Go.Proofs.Ytfgigcdfmkfkjaa
open Go.RowKit
set_option linter.unusedVariables false

/-- the value of the first of this name -/
def bindO : List B4 → ByteArray → Option V3
  | [], _ => none
  | x :: r, s => if x.N = s then some x.V else bindO r s
theorem bindO_at : ∀ {L : List B4} {s : ByteArray} {k : Nat}, k < L.length → (∀ j, j < k → (eAt L j).N ≠ s) → (eAt L k).N = s → bindO L s = some (eAt L k).V
  | [], _, k, h, _, _ => absurd h (Nat.not_lt_zero _)
  | x :: r, s, 0, _, _, h => by
    have h' : x.N = s := h
    unfold bindO; rw [if_pos h']; rfl
  | x :: r, s, k + 1, hk, hj, h => by
    have h0 : x.N ≠ s := hj 0 (by omega)
    unfold bindO
    rw [if_neg h0]
    exact bindO_at (by simpa using hk) (fun j hjk => hj (j + 1) (by omega)) h
theorem bindO_none : ∀ {L : List B4} {s : ByteArray}, (∀ j, j < L.length → (eAt L j).N ≠ s) → bindO L s = none
  | [], _, _ => rfl
  | x :: r, s, h => by
    have h0 : x.N ≠ s := h 0 (by simp)
    unfold bindO
    rw [if_neg h0]
    exact bindO_none (fun j hj => h (j + 1) (by simpa using hj))
/-- what BindOf answers -/
def bindA (o : Option V3) : Value := match o with
  | some v => .tuple #[.agg #[.int .i64 v.K, .int .i64 v.N, .string v.S], .bool true]
  | none => .tuple #[.agg #[.int .i64 0, .int .i64 0, .string ⟨#[]⟩], .bool false]
theorem bindO_mem : ∀ {L : List B4} {s : ByteArray} {v : V3}, bindO L s = some v → ∃ x ∈ L, x.N = s ∧ x.V = v
  | [], _, _, h => by cases h
  | x :: r, s, v, h => by
    unfold bindO at h
    by_cases hx : x.N = s
    · rw [if_pos hx] at h
      exact ⟨x, List.mem_cons_self, hx, by simpa using h⟩
    · rw [if_neg hx] at h
      obtain ⟨y, hy, e⟩ := bindO_mem h
      exact ⟨y, List.mem_cons_of_mem _ hy, e⟩
theorem bindA_form (o : Option V3) : ∃ (K N : Int) (S : ByteArray) (b : Bool), bindA o = .tuple #[.agg #[.int .i64 K, .int .i64 N, .string S], .bool b] := by
  cases o with
  | none => exact ⟨_, _, _, _, rfl⟩
  | some v => exact ⟨_, _, _, _, rfl⟩
end Go.Proofs.Ytfgigcdfmkfkjaa
/-
  Rows of Args: what a slice of them reads as, what came in.
-/
namespace Go.Proofs.Ytfgigcdfmkfkjaa
open Go.ChangeShapes Go.WideShapes Go.ChangeAt Go.RowKit Go.Joins Go.Deep
set_option linter.unusedVariables false
set_option maxRecDepth 100000

structure A5 where
  K : Int
  S : ByteArray
  V : V3
instance : Inhabited A5 := ⟨⟨0, ⟨#[]⟩, default⟩⟩
def A5.cs (x : A5) : List Value := [.int .i64 x.K, .string x.S, .int .i64 x.V.K, .int .i64 x.V.N, .string x.V.S]
theorem A5.len (x : A5) : x.cs.length = 5 := rfl
def A5.fits (x : A5) : Prop := x.S.size ≤ maxLen ∧ x.V.S.size ≤ maxLen
def A5.small (x : A5) : Prop := x.S.size ≤ 1048576 ∧ x.V.S.size ≤ 1048576
def A5.zero : A5 := ⟨0, ⟨#[]⟩, ⟨0, 0, ⟨#[]⟩⟩⟩
abbrev RdArg (w : World) (a : Option Addr) (L : List A5) : Prop := RdK A5.cs 5 w a L
theorem RdArg.cells {w : World} {a : Option Addr} {L : List A5} (h : RdArg w a L) (hp : 0 < L.length) :
    ∃ b off, a = some ⟨b, off, none⟩ ∧ b < w.heap.size ∧ ∀ i, i < L.length → w.cell? ⟨b, off + i * 5, none⟩ = some (.int .i64 (eAt L i).K) ∧ w.cell? ⟨b, off + i * 5 + 1, none⟩ = some (.string (eAt L i).S) ∧ w.cell? ⟨b, off + i * 5 + 2, none⟩ = some (.int .i64 (eAt L i).V.K) ∧ w.cell? ⟨b, off + i * 5 + 3, none⟩ = some (.int .i64 (eAt L i).V.N) ∧ w.cell? ⟨b, off + i * 5 + 4, none⟩ = some (.string (eAt L i).V.S) := by
  obtain ⟨b, off, e, hb, hc⟩ := RdK.open A5.len (by decide) h hp
  refine ⟨b, off, e, hb, fun i hi => ?_⟩
  have hc := hc i hi
  exact ⟨hc 0 _ rfl, hc 1 _ rfl, hc 2 _ rfl, hc 3 _ rfl, hc 4 _ rfl⟩
def IsArgs (w : World) (a : Option Addr) (len cap : Nat) (L : List A5) : Prop := L.length = len ∧ len ≤ maxLen ∧ RdArg w a L ∧ ∀ x ∈ L, x.fits

theorem arg_cells {H : Type} {enc : TypeId × Value → H} {w : World} {base : Nat} {spare : Nat → Bool} {held : Bool} {n : Nat} {cs : List Value} {x : DataW H × List MemPlace}
    (h : DataW.trod enc Try.prog w base spare held n 142 cs = some x) : ∃ y : A5, cs = y.cs ∧ y.fits := by
  obtain ⟨y0, y1, y2, m, -, hl, h0, h1, h2⟩ := trod_struct3 Try.underlying142 h
  have hc : Try.prog.cellsOf 142 = 5 := by kernel_rfl
  have hi : Try.prog.cellsOf 3 = 1 := by kernel_rfl
  have hs : Try.prog.cellsOf 9 = 1 := by kernel_rfl
  have hv : Try.prog.cellsOf 118 = 3 := by kernel_rfl
  rw [hc] at hl
  match cs, hl with
  | [c0, c1, c2, c3, c4], _ =>
    simp only [hi, hs, hv, List.drop_zero, List.drop_succ_cons, List.take_succ_cons, List.take_zero] at h0 h1 h2
    obtain ⟨K, eK, _, _⟩ := DataW.trod_int Try.underlying3 h0
    obtain ⟨S, eS, _, wS⟩ := DataW.trod_string Try.underlying9 h1
    obtain ⟨VK, VN, VS, eV, wVS⟩ := three_cells h2
    simp only [List.cons.injEq, and_true] at eK eS eV
    obtain ⟨e0, e1, e2⟩ := eV
    exact ⟨⟨K, S, ⟨VK, VN, VS⟩⟩, by rw [eK, eS, e0, e1, e2]; rfl, wS, wVS⟩

theorem arg_in {H : Type} {enc : TypeId × Value → H} {w : World} {base b0 : Nat} {spare : Nat → Bool} {held : Bool} {r : Reach} {v : Value} {d : DataW H} {p : List MemPlace}
    (hv : Value.okWide Try.prog w r b0 142 v) (h : DataW.Trod enc Try.prog w base spare held 142 v d p) : ∃ (K : Int) (S : ByteArray) (VK : Int) (VN : Int) (VS : ByteArray), v = .agg #[.int .i64 K, .string S, .int .i64 VK, .int .i64 VN, .string VS] ∧ S.size ≤ maxLen ∧ VS.size ≤ maxLen := by
  obtain ⟨cs, rfl, hsz⟩ := okWide_struct Try.underlying142 hv
  obtain ⟨fuel, hf⟩ := h
  obtain ⟨y, e, hy⟩ := arg_cells hf
  refine ⟨y.K, y.S, y.V.K, y.V.N, y.V.S, ?_, hy⟩
  have e2 : cs.toList = y.cs := e
  rw [← Array.toArray_toList (xs := cs), e2]
  rfl
theorem args_in {H : Type} {enc : TypeId × Value → H} {w : World} {spare : Nat → Bool} {held : Bool} {n : Nat} {v : Value} {x : DataW H × List MemPlace}
    (h : DataW.trod enc Try.prog w 0 spare held n 137 [v] = some x) : ∃ a len cap L, v = .slice a len cap ∧ IsArgs w a len cap L := by
  have hc : Try.prog.cellsOf 142 = 5 := by kernel_rfl
  rcases open_slice Try.underlying137 h with ⟨h0, _⟩ | ⟨a, len, cap, m, n', D, Pl, h0, hb, hl, hm, hmm, _, hx⟩
  · simp only [List.cons.injEq, and_true] at h0
    exact ⟨none, 0, 0, [], h0, rfl, Nat.zero_le _, RdK.nil _ _ _ _, fun v hv => by cases hv⟩
  · simp only [List.cons.injEq, and_true] at h0
    have hlm : len ≤ m := by rw [hmm]; split <;> omega
    obtain ⟨F, hF⟩ := choose_lt (α := A5) (n := len) (p := fun i v => w.cells? 0 (a.add (i * 5)) 5 = some v.cs ∧ v.fits) (fun i hi => by
      obtain ⟨cs', h1, h2⟩ := hx i (by omega)
      rw [hc] at h1
      obtain ⟨y, rfl, hs⟩ := arg_cells h2
      exact ⟨y, h1, hs⟩)
    refine ⟨some a, len, cap, (List.range len).map F, h0, by simp, Nat.le_trans hl hm, fun i hi => ?_, fun v hv => ?_⟩
    · have hi2 : i < len := by simpa using hi
      obtain ⟨_, _, hcell⟩ := World.cells?_some (hF i hi2).1
      obtain ⟨b, off, spot⟩ := a
      have hs : spot = none := by
        obtain ⟨_, _, hcell0⟩ := World.cells?_some (hF 0 (by omega)).1
        have e := hcell0 0 (by omega)
        rw [add_add] at e
        simp only [A5.cs, List.getElem?_cons_zero] at e
        simpa [Addr.add] using World.cell?_spot e
      subst hs
      have ev : eAt ((List.range len).map F) i = F i := by rw [eAt_in hi]; simp
      rw [ev]
      refine ⟨b, off, rfl, fun j c hj => ?_⟩
      have hjk : j < 5 := by rw [← (F i).len]; exact (List.getElem?_eq_some_iff.1 hj).1
      have e := hcell j hjk
      rw [add_add, Addr.add_lit, hj] at e
      simpa [Nat.add_assoc] using e
    · obtain ⟨i, hi, rfl⟩ := List.mem_map.1 hv
      exact (hF i (List.mem_range.1 hi)).2
theorem rowOf_set_A5 (x : A5) : ∀ (L : List A5) (i : Nat), i < L.length →
    ((((((rowOf A5.cs L).set (i * 5) (.int .i64 x.K)).set (i * 5 + 1) (.string x.S)).set (i * 5 + 2) (.int .i64 x.V.K)).set (i * 5 + 3) (.int .i64 x.V.N)).set (i * 5 + 4) (.string x.V.S)) = rowOf A5.cs (L.set i x)
  | [], i, hi => absurd hi (Nat.not_lt_zero _)
  | y :: r, 0, hi => by
    rw [List.set_cons_zero, rowOf_cons, rowOf_cons]
    rfl
  | y :: r, i + 1, hi => by
    have ih := rowOf_set_A5 x r i (by simpa using hi)
    rw [List.set_cons_succ, rowOf_cons, rowOf_cons, ← ih]
    simp only [Nat.succ_mul, A5.cs]
    rfl
abbrev OwnArg (w : World) (g cap : Nat) (L : List A5) : Prop := OwnK 157 A5.cs 5 w g cap L
theorem rdOwnArg {w : World} {g cap : Nat} {L : List A5} (h : OwnArg w g cap L) : RdArg w (some ⟨g, 0, none⟩) L := OwnK.rd A5.len (by decide) h
end Go.Proofs.Ytfgigcdfmkfkjaa
/-
  What a pattern binds, plainly.
-/
namespace Go.Proofs.Ytfgigcdfmkfkjaa
open Go.RowKit
set_option linter.unusedVariables false

/-- one argument held against one value -/
def stepM (M : List B4) (x : A5) (u : V3) : List B4 × Bool :=
  if x.K = 1 then (match bindO M x.S with
    | some v => (M, decide (v = u))
    | none => (M ++ [⟨x.S, u⟩], true))
  else if x.K = 2 then (M, decide (x.V = u)) else (M, true)
/-- behind k arguments -/
def matchK (L : List A5) (F : List V3) (M0 : List B4) : Nat → Option (List B4)
  | 0 => some M0
  | k + 1 => match matchK L F M0 k with
    | none => none
    | some M => if (stepM M (eAt L k) (vAt F k)).2 = true then some (stepM M (eAt L k) (vAt F k)).1 else none
/-- what MatchPat answers -/
def matchR (kd kd' : ByteArray) (L : List A5) (F : List V3) (M0 : List B4) : List B4 × Bool :=
  if kd = kd' ∧ L.length = F.length then (match matchK L F M0 L.length with
    | some M => (M, true)
    | none => (M0, false))
  else (M0, false)
theorem matchK_none {L : List A5} {F : List V3} {M0 : List B4} : ∀ {k j : Nat}, matchK L F M0 k = none → k ≤ j → matchK L F M0 j = none
  | k, 0, h, hj => by
    obtain rfl : k = 0 := by omega
    exact h
  | k, j + 1, h, hj => by
    by_cases hk : k = j + 1
    · rw [← hk]; exact h
    · show (match matchK L F M0 j with | none => none | some M => _) = none
      rw [matchK_none h (show k ≤ j by omega)]
theorem matchK_step {L : List A5} {F : List V3} {M0 M : List B4} {k : Nat} (h : matchK L F M0 k = some M) (hb : (stepM M (eAt L k) (vAt F k)).2 = true) : matchK L F M0 (k + 1) = some (stepM M (eAt L k) (vAt F k)).1 := by
  show (match matchK L F M0 k with | none => none | some M => _) = _
  rw [h]
  simp only
  rw [if_pos hb]
theorem matchK_fail {L : List A5} {F : List V3} {M0 M : List B4} {k : Nat} (h : matchK L F M0 k = some M) (hb : (stepM M (eAt L k) (vAt F k)).2 = false) : matchK L F M0 (k + 1) = none := by
  show (match matchK L F M0 k with | none => none | some M => _) = _
  rw [h]
  simp only
  rw [if_neg (by rw [hb]; simp)]
theorem matchR_kind {kd kd' : ByteArray} {L : List A5} {F : List V3} {M0 : List B4} (h : kd ≠ kd') : matchR kd kd' L F M0 = (M0, false) := by unfold matchR; rw [if_neg (fun e => h e.1)]
theorem matchR_len {kd kd' : ByteArray} {L : List A5} {F : List V3} {M0 : List B4} (h : L.length ≠ F.length) : matchR kd kd' L F M0 = (M0, false) := by unfold matchR; rw [if_neg (fun e => h e.2)]
theorem matchR_fail {kd : ByteArray} {L : List A5} {F : List V3} {M0 : List B4} {k : Nat} (hl : L.length = F.length) (hk : k ≤ L.length) (h : matchK L F M0 k = none) : matchR kd kd L F M0 = (M0, false) := by
  unfold matchR; rw [if_pos ⟨rfl, hl⟩, matchK_none h hk]
theorem matchR_yes {kd : ByteArray} {L : List A5} {F : List V3} {M0 M : List B4} (hl : L.length = F.length) (h : matchK L F M0 L.length = some M) : matchR kd kd L F M0 = (M, true) := by
  unfold matchR; rw [if_pos ⟨rfl, hl⟩, h]
theorem stepM_len (M : List B4) (x : A5) (u : V3) : (stepM M x u).1.length ≤ M.length + 1 := by
  unfold stepM
  split
  · split <;> simp
  · split <;> simp
theorem matchK_len {L : List A5} {F : List V3} {M0 : List B4} : ∀ {k : Nat} {M : List B4}, matchK L F M0 k = some M → M.length ≤ M0.length + k
  | 0, M, h => by
    have : M0 = M := by simpa [matchK] using h
    rw [this]; omega
  | k + 1, M, h => by
    cases hk : matchK L F M0 k with
    | none => rw [matchK_none hk (Nat.le_succ _)] at h; cases h
    | some M1 =>
      have h1 := matchK_len hk
      cases hb : (stepM M1 (eAt L k) (vAt F k)).2
      · rw [matchK_fail hk hb] at h; cases h
      · rw [matchK_step hk hb] at h
        have := stepM_len M1 (eAt L k) (vAt F k)
        simp only [Option.some.injEq] at h
        rw [← h]; omega
theorem stepM_small {M : List B4} {x : A5} {u : V3} (hM : ∀ y ∈ M, y.small) (hx : x.small) (hu : u.S.size ≤ 1048576) : ∀ y ∈ (stepM M x u).1, y.small := by
  unfold stepM
  split
  · split
    · exact hM
    · intro y hy
      rcases List.mem_append.1 hy with h | h
      · exact hM y h
      · simp only [List.mem_cons, List.not_mem_nil, or_false] at h
        rw [h]; exact ⟨hx.1, hu⟩
  · split <;> exact hM
theorem matchK_small {L : List A5} {F : List V3} {M0 : List B4} (hM : ∀ y ∈ M0, y.small) (hL : ∀ x ∈ L, x.small) (hF : ∀ u ∈ F, u.S.size ≤ 1048576) (hl : L.length = F.length) : ∀ {k : Nat} {M : List B4}, k ≤ L.length → matchK L F M0 k = some M → ∀ y ∈ M, y.small
  | 0, M, _, h => by
    have : M0 = M := by simpa [matchK] using h
    rw [← this]; exact hM
  | k + 1, M, hk, h => by
    cases h0 : matchK L F M0 k with
    | none => rw [matchK_none h0 (Nat.le_succ _)] at h; cases h
    | some M1 =>
      have h1 := matchK_small hM hL hF hl (by omega) h0
      cases hb : (stepM M1 (eAt L k) (vAt F k)).2
      · rw [matchK_fail h0 hb] at h; cases h
      · rw [matchK_step h0 hb] at h
        simp only [Option.some.injEq] at h
        rw [← h]
        refine stepM_small h1 ?_ ?_
        · rw [eAt_in (by omega)]; exact hL _ (List.getElem_mem _)
        · rw [vAt_in (by omega)]; exact hF _ (List.getElem_mem _)
theorem stepM_K1 {M : List B4} {S : ByteArray} {V u v : V3} (h : bindO M S = some v) : stepM M ⟨1, S, V⟩ u = (M, decide (v = u)) := by unfold stepM; rw [if_pos rfl, h]
theorem stepM_K1n {M : List B4} {S : ByteArray} {V u : V3} (h : bindO M S = none) : stepM M ⟨1, S, V⟩ u = (M ++ [⟨S, u⟩], true) := by unfold stepM; rw [if_pos rfl, h]
theorem stepM_K2 {M : List B4} {S : ByteArray} {V u : V3} : stepM M ⟨2, S, V⟩ u = (M, decide (V = u)) := by unfold stepM; rw [if_neg (show ¬ (2 : Int) = 1 by decide), if_pos rfl]
theorem stepM_no {M : List B4} {K : Int} {S : ByteArray} {V u : V3} (h1 : K ≠ 1) (h2 : K ≠ 2) : stepM M ⟨K, S, V⟩ u = (M, true) := by unfold stepM; rw [if_neg h1, if_neg h2]
theorem matchR_cases (kd kd' : ByteArray) (L : List A5) (F : List V3) (M0 : List B4) : matchR kd kd' L F M0 = (M0, false) ∨ (kd = kd' ∧ L.length = F.length ∧ ∃ M, matchK L F M0 L.length = some M ∧ matchR kd kd' L F M0 = (M, true)) := by
  by_cases h1 : kd = kd'
  · subst h1
    by_cases h2 : L.length = F.length
    · cases h : matchK L F M0 L.length with
      | none => exact .inl (matchR_fail h2 (Nat.le_refl _) h)
      | some M => exact .inr ⟨rfl, h2, M, rfl, matchR_yes h2 h⟩
    · exact .inl (matchR_len h2)
  · exact .inl (matchR_kind h1)
theorem matchR_small (kd kd' : ByteArray) {L : List A5} {F : List V3} {M0 : List B4} (hM : ∀ y ∈ M0, y.small) (hL : ∀ x ∈ L, x.small) (hF : ∀ u ∈ F, u.S.size ≤ 1048576) : ∀ y ∈ (matchR kd kd' L F M0).1, y.small := by
  rcases matchR_cases kd kd' L F M0 with h | ⟨-, hl, M, hM1, h⟩
  · rw [h]; exact hM
  · rw [h]; exact matchK_small hM hL hF hl (Nat.le_refl _) hM1
theorem matchR_len_le (kd kd' : ByteArray) (L : List A5) (F : List V3) (M0 : List B4) : (matchR kd kd' L F M0).1.length ≤ L.length + M0.length := by
  rcases matchR_cases kd kd' L F M0 with h | ⟨-, hl, M, hM1, h⟩
  · rw [h]; simp
  · rw [h]
    have := matchK_len hM1
    simp only
    omega
end Go.Proofs.Ytfgigcdfmkfkjaa
/-
  Small facts on empty texts and on boxes that a call has made.
-/
namespace Go.Proofs.Ytfgigcdfmkfkjaa
open Go.RowKit
set_option linter.unusedVariables false

theorem empty_of_size {S : ByteArray} (h : S.size = 0) : S = ⟨#[]⟩ := by
  cases S with
  | mk d =>
    have : d.size = 0 := h
    rw [Array.size_eq_zero_iff] at this
    rw [this]
theorem bcell {W w1 : World} (hb : Below W.heap.size W w1) : (∀ b o, b < W.heap.size → w1.cell? ⟨b, o, none⟩ = W.cell? ⟨b, o, none⟩) ∧ (∀ b o, b < W.heap.size → w1.frozen? ⟨b, o, none⟩ = W.frozen? ⟨b, o, none⟩) :=
  ⟨fun b o h => hb.cell (p := ⟨b, o, none⟩) h, fun b o h => hb.frozen (p := ⟨b, o, none⟩) h⟩
theorem below_box {w w' : World} {o : Obj} (hb : Below (w.alloc o).drew.heap.size (w.alloc o).drew w') : Below w.heap.size w w' :=
  (((Below.refl w.heap.size w).alloc (Nat.le_refl _) o).drew).trans (hb.mono (by simp))
theorem below_boxN (w : World) (o : Obj) (n : Nat) : Below w.heap.size w ((w.alloc o).drewN n) :=
  ((Below.refl w.heap.size w).alloc (Nat.le_refl _) o).trans ⟨rfl, rfl, rfl, Nat.le_refl _, fun _ _ => rfl⟩
theorem isEmpty_false {S : ByteArray} (h : S.size ≠ 0) : S.toList.isEmpty = false := by
  rw [ByteArray.toList_eq]
  cases hd : S.data.toList with
  | nil =>
    exfalso; apply h
    have e : S.data.toList.length = S.size := by rw [Array.length_toList]; rfl
    rw [hd] at e; simpa using e.symm
  | cons a r => rfl
end Go.Proofs.Ytfgigcdfmkfkjaa
/-
  A text copied, a value copied: the same.
-/
namespace Go.Proofs.Ytfgigcdfmkfkjaa
open Go.RowKit
set_option linter.unusedVariables false

set_option maxRecDepth 100000 in
theorem cloneS_any (s : ByteArray) (w : World) (hs : s.size ≤ 1048580) :
    Calls Try.prog 101 #[.string s] w fun e w' => e = .returned (.string s) ∧ Below w.heap.size w w' := by
  go_enter Try.func101, Try.ntmps101
  go_wp2_with fail
  refine (Try.stringslite_Clone s _ (by omega)).mono ?_
  rintro e w1 ⟨rfl, hb⟩
  go_wp2
  go_ret
  exact ⟨rfl, hb⟩
theorem two_boxes {w w' : World} {o : Obj} {cs : Array Value} {T : TypeId} (hb : Below ((w.alloc o).alloc (.cells cs T)).drew.heap.size ((w.alloc o).alloc (.cells cs T)).drew w') :
    w'.heap[w.heap.size + 1]? = some (.cells cs T (0, 0)) ∧ Below w.heap.size w w' := by
  have h0 := boxk_new (w.alloc o) cs T
  have b0 := below_al w o
  have b1 := b0.alloc b0.size (.cells cs T)
  rw [World.size_alloc] at h0
  refine ⟨box_below (w := ((w.alloc o).alloc (.cells cs T)).drew) h0 hb (by show _ < ((w.alloc o).alloc (.cells cs T)).heap.size; simp), b1.drew.trans (hb.mono ?_)⟩
  show _ ≤ ((w.alloc o).alloc (.cells cs T)).heap.size
  simp; omega
set_option maxRecDepth 100000 in
set_option maxHeartbeats 1600000 in
theorem copyVal_any (K N : Int) (S : ByteArray) (w : World) (hs : S.size ≤ 1048580) :
    Calls Try.prog 102 #[.agg #[.int .i64 K, .int .i64 N, .string S]] w fun e w' => e = .returned (.agg #[.int .i64 K, .int .i64 N, .string S]) ∧ Below w.heap.size w w' := by
  go_enter Try.func102, Try.ntmps102
  go_wp2
  go_region_with (go_at_call 101; refine (cloneS_any _ _ hs).mono ?_; rintro e w' ⟨rfl, hb⟩; obtain ⟨hc, hf⟩ := bcell hb)
  all_goals go_wp2
  all_goals
    obtain ⟨hR, hB⟩ := two_boxes hb
    clear hc hf hb
    refine box_post hR (fun w4 h4 gr => ?_)
    obtain ⟨c0, c1, c2, -, -, -⟩ := box_cell h4
    exact bodyPost_ret (v := .agg #[.int .i64 K, .int .i64 N, .string S]) (by simp [results, Try.results102, go_sem, c0, c1, c2]) rfl ⟨rfl, below_set hB gr (by omega)⟩
end Go.Proofs.Ytfgigcdfmkfkjaa
/-
  What both BindOfs answer: bindA.
-/
namespace Go.Proofs.Ytfgigcdfmkfkjaa
open Go.RowKit
set_option linter.unusedVariables false

theorem beq_ne {a b : ByteArray} (h : a ≠ b) : (a.toList == b.toList) = false := by
  simp only [beq_eq_false_iff_ne, ne_eq]
  exact fun e => h (toList_inj e)

set_option maxRecDepth 100000 in
set_option maxHeartbeats 1600000 in
theorem specBindOf_any (a : Option Addr) (cap : Nat) (L : List B4) (nm : ByteArray) (w : World) (hr : RdBind w a L) (hm : L.length ≤ 2097152) :
    Calls Try.prog 93 #[.slice a L.length cap, .string nm] w fun e w' => e = .returned (bindA (bindO L nm)) ∧ Below w.heap.size w w' := by
  obtain ⟨n, hN⟩ : ∃ n, n = L.length := ⟨_, rfl⟩
  rw [← hN] at hm ⊢
  have HN := hide hN
  clear hN
  have b0 := below_al w (.cells #[.int .i64 0, .int .i64 0, .string ⟨#[]⟩] 105)
  have HR := hide (boxk_new w #[.int .i64 0, .int .i64 0, .string ⟨#[]⟩] 105)
  have r1 := hr.below b0
  go_enter Try.func93, Try.ntmps93
  go_wp2
  generalize w.alloc (.cells #[.int .i64 0, .int .i64 0, .string ⟨#[]⟩] 105) = w0 at b0 HR r1
  obtain ⟨r0, rr1, rr2, rf0, rf1, rf2⟩ := box_cell HR.out
  go_loop [6] (fun i => ∃ (k : Nat), k ≤ n ∧ i = .int .i64 k ∧ (∀ j, j < k → (eAt L j).N ≠ nm)) (fun i => n - (intOf i).toNat)
  case atStart => exact ⟨0, Nat.zero_le _, rfl, fun j hj => absurd hj (Nat.not_lt_zero _)⟩
  case round =>
    obtain ⟨k, hk, rfl, hall⟩ := hrel
    have HA := hide hall
    clear hall
    by_cases hlt : k < n
    · obtain ⟨b, off, hab, hbw, hc⟩ := RdBind.cells r1 (by rw [← HN.out]; omega)
      obtain ⟨c0, c1, c2, c3⟩ := hc k (by rw [← HN.out]; exact hlt)
      clear hc
      subst hab
      by_cases he : (eAt L k).N = nm
      · have HV := hide (bindO_at (by rw [← HN.out]; exact hlt) HA.out he)
        rw [he] at c0
        have k1 : (nm.toList == nm.toList) = true := by simp
        clear he
        go_wp2
        refine box_post HR.out (fun w4 h4 gr => ?_)
        obtain ⟨d0, d1, d2, -, -, -⟩ := box_cell h4
        exact bodyPost_ret (v := bindA (some (eAt L k).V)) (by simp [bindA, results, Try.results93, go_sem, d0, d1, d2]) rfl ⟨by rw [HV.out], below_set b0 gr (Nat.le_refl _)⟩
      · have k1 := beq_ne he
        have HE := hide he
        clear he
        go_wp2
        go_round
        case rel => exact ⟨k + 1, by omega, by go_num, fun j hj => by
            by_cases hjk : j = k
            · rw [hjk]; exact HE.out
            · exact HA.out j (by omega)⟩
        case measure => simp [intOf]; omega
    · have HV : Hid (bindO L nm = none) := bindO_none (fun j hj => HA.out j (by rw [← HN.out] at hj; omega))
      go_wp2
      refine box_post HR.out (fun w4 h4 gr => ?_)
      obtain ⟨d0, d1, d2, -, -, -⟩ := box_cell h4
      exact bodyPost_ret (v := bindA none) (by simp [bindA, results, Try.results93, go_sem, d0, d1, d2]) rfl ⟨by rw [HV.out], below_set b0 gr (Nat.le_refl _)⟩

set_option maxRecDepth 100000 in
set_option maxHeartbeats 1600000 in
theorem implBindOf_any (a : Option Addr) (cap : Nat) (L : List B4) (nm : ByteArray) (w : World) (hr : RdBind w a L) (hs : ∀ x ∈ L, x.small) (hm : L.length ≤ 2097152) :
    Calls Try.prog 154 #[.slice a L.length cap, .string nm] w fun e w' => e = .returned (bindA (bindO L nm)) ∧ Below w.heap.size w w' := by
  obtain ⟨n, hN⟩ : ∃ n, n = L.length := ⟨_, rfl⟩
  rw [← hN] at hm ⊢
  have HN := hide hN
  have HS := hide hs
  clear hN hs
  have b0 := below_al w (.cells #[.int .i64 0, .int .i64 0, .string ⟨#[]⟩] 105)
  have HR := hide (boxk_new w #[.int .i64 0, .int .i64 0, .string ⟨#[]⟩] 105)
  have r1 := hr.below b0
  go_enter Try.func154, Try.ntmps154
  go_wp2
  generalize hW : w.alloc (.cells #[.int .i64 0, .int .i64 0, .string ⟨#[]⟩] 105) = w0 at b0 HR r1
  have hq : w.heap.size < w0.heap.size := by rw [← hW]; simp
  clear hW hr
  go_loopw [10] (fun i wr => ∃ (k : Nat), k ≤ n ∧ i = .int .i64 k ∧ (∀ j, j < k → (eAt L j).N ≠ nm) ∧ Below w0.heap.size w0 wr) (fun i _ => n - (intOf i).toNat)
  case atStart => exact ⟨0, Nat.zero_le _, rfl, fun j hj => absurd hj (Nat.not_lt_zero _), Below.refl _ _⟩
  case round =>
    obtain ⟨k, hk, rfl, hall, hbel⟩ := hrel
    have HA := hide hall
    clear hall
    have hB : Below w.heap.size w wr := b0.trans (hbel.mono b0.size)
    have HR1 := hide (box_below HR.out hbel hq)
    by_cases hlt : k < n
    · obtain ⟨b, off, hab, hbw, hc⟩ := RdBind.cells r1 (by rw [← HN.out]; omega)
      obtain ⟨c0, c1, c2, c3⟩ := hc k (by rw [← HN.out]; exact hlt)
      clear hc
      subst hab
      rw [← hbel.cell (p := ⟨b, off + k * 4, none⟩) hbw] at c0
      rw [← hbel.cell (p := ⟨b, off + k * 4 + 1, none⟩) hbw] at c1
      rw [← hbel.cell (p := ⟨b, off + k * 4 + 2, none⟩) hbw] at c2
      rw [← hbel.cell (p := ⟨b, off + k * 4 + 3, none⟩) hbw] at c3
      have hS : (eAt L k).small := by rw [eAt_in (by rw [← HN.out]; exact hlt)]; exact HS.out _ (List.getElem_mem _)
      by_cases he : (eAt L k).N = nm
      · have HV := hide (bindO_at (by rw [← HN.out]; exact hlt) HA.out he)
        rw [he] at c0
        have k1 : (nm.toList == nm.toList) = true := by simp
        clear he
        go_wp2_with fail
        refine (copyVal_any _ _ _ _ (by have := hS.2; omega)).mono ?_
        rintro e w2 ⟨rfl, hb2⟩
        have hqr := hbel.size
        have bA := hB.alloc hB.size (.cells #[.string nm, .int .i64 (eAt L k).V.K, .int .i64 (eAt L k).V.N, .string (eAt L k).V.S] 107)
        have HR2 := hide (box_below (box_old HR1.out (by omega) (.cells #[.string nm, .int .i64 (eAt L k).V.K, .int .i64 (eAt L k).V.N, .string (eAt L k).V.S] 107)) hb2 (by simp; omega))
        have B2 := bA.trans (hb2.mono bA.size)
        obtain ⟨q0, q1, q2, qf0, qf1, qf2⟩ := box_cell HR2.out
        clear hb2 bA c0 c1 c2 c3 hbel hB HR1
        go_wp2
        refine box_post HR2.out (fun w4 h4 gr => ?_)
        obtain ⟨d0, d1, d2, -, -, -⟩ := box_cell h4
        exact bodyPost_ret (v := bindA (some (eAt L k).V)) (by simp [bindA, results, Try.results154, go_sem, d0, d1, d2]) rfl ⟨by rw [HV.out], below_set B2 gr (Nat.le_refl _)⟩
      · have k1 := beq_ne he
        have HE := hide he
        clear he
        go_wp2
        go_roundw
        case rel => exact ⟨k + 1, by omega, by go_num, fun j hj => by
            by_cases hjk : j = k
            · rw [hjk]; exact HE.out
            · exact HA.out j (by omega), hbel.alloc hbel.size _⟩
        case measure => simp [intOf]; omega
    · have HV : Hid (bindO L nm = none) := bindO_none (fun j hj => HA.out j (by rw [← HN.out] at hj; omega))
      obtain ⟨q0, q1, q2, qf0, qf1, qf2⟩ := box_cell HR1.out
      go_wp2
      refine box_post HR1.out (fun w4 h4 gr => ?_)
      obtain ⟨d0, d1, d2, -, -, -⟩ := box_cell h4
      exact bodyPost_ret (v := bindA none) (by simp [bindA, results, Try.results154, go_sem, d0, d1, d2]) rfl ⟨by rw [HV.out], below_set hB gr (Nat.le_refl _)⟩
end Go.Proofs.Ytfgigcdfmkfkjaa
/-
  The contracts of the laws' own helpers on values: toVal copies, szVal counts the text's bytes off.
-/
namespace Go.Proofs.Ytfgigcdfmkfkjaa
open Go.RowKit
set_option linter.unusedVariables false

set_option maxHeartbeats 800000 in
theorem toVal_any (K N : Int) (S : ByteArray) (w : World) :
    Calls Try.prog 112 #[.agg #[.int .i64 K, .int .i64 N, .string S]] w fun e w' =>
      e = .returned (.agg #[.int .i64 K, .int .i64 N, .string S]) ∧ Below w.heap.size w w' := by
  go_enter Try.func112, Try.ntmps112
  go_wp2
  go_returns
  exact ⟨rfl, by go_grown⟩

set_option maxHeartbeats 800000 in
theorem szVal_any (K N : Int) (S : ByteArray) (left : Int) (w : World) (hs : S.size ≤ maxLen) (h0 : 0 ≤ left) (h1 : left ≤ 1048576) :
    Calls Try.prog 111 #[.agg #[.int .i64 K, .int .i64 N, .string S], .int .i64 left] w fun e w' =>
      e = .returned (.int .i64 (if left - (S.size : Int) < 0 then -1 else left - (S.size : Int))) ∧ Below w.heap.size w w' := by
  unfold maxLen at hs
  by_cases h : left - (S.size : Int) < 0
  · rw [if_pos h]
    go_enter Try.func111, Try.ntmps111
    go_wp2
    go_ret
    exact ⟨rfl, by go_grown⟩
  · rw [if_neg h]
    go_enter Try.func111, Try.ntmps111
    go_wp2
    go_ret
    exact ⟨rfl, by go_grown⟩
end Go.Proofs.Ytfgigcdfmkfkjaa
/-
  The contract of the laws' own comparison of values: a value is the same as itself.
-/
namespace Go.Proofs.Ytfgigcdfmkfkjaa
open Go.RowKit
set_option linter.unusedVariables false

set_option maxHeartbeats 800000 in
theorem eqVal_same (K N : Int) (S : ByteArray) (w : World) :
    Calls Try.prog 103 #[.agg #[.int .i64 K, .int .i64 N, .string S], .agg #[.int .i64 K, .int .i64 N, .string S]] w fun e w' =>
      e = .returned (.bool true) ∧ Below w.heap.size w w' := by
  have k1 : (K != K) = false := by simp
  have k2 : (N != N) = false := by simp
  have k3 : (S.toList == S.toList) = true := by simp
  go_enter Try.func103, Try.ntmps103
  go_wp2
  go_ret
  exact ⟨rfl, by go_grown⟩
end Go.Proofs.Ytfgigcdfmkfkjaa
/-
  The contracts of the laws' own helpers on rows of values and on facts.
-/
namespace Go.Proofs.Ytfgigcdfmkfkjaa
open Go.RowKit
set_option linter.unusedVariables false

theorem Try.info105 : (Try.prog.info? 105).map (fun i => (i.zero, i.size, i.bytes)) = some (some (.agg #[.int .i64 0, .int .i64 0, .string ⟨#[]⟩]), 3, 32) := by kernel_rfl

/-- the first k values copied, the rest still zero -/
def partV (L : List V3) (k : Nat) : List V3 := L.take k ++ List.replicate (L.length - k) ⟨0, 0, ⟨#[]⟩⟩
theorem partV_length {L : List V3} {k : Nat} (h : k ≤ L.length) : (partV L k).length = L.length := by simp [partV]; omega
theorem partV_zero (L : List V3) : partV L 0 = List.replicate L.length ⟨0, 0, ⟨#[]⟩⟩ := by simp [partV]
theorem partV_end (L : List V3) : partV L L.length = L := by simp [partV]
theorem cells3_set (L M : List V3) (v : V3) (x : V3) :
    (((cells3 (L ++ x :: M)).set (L.length * 3) (.int .i64 v.K)).set (L.length * 3 + 1) (.int .i64 v.N)).set (L.length * 3 + 2) (.string v.S) = cells3 (L ++ v :: M) := by
  have e : ∀ y : V3, cells3 (L ++ y :: M) = cells3 L ++ (.int .i64 y.K :: .int .i64 y.N :: .string y.S :: cells3 M) := fun y => by simp [cells3]
  have hl := cells3_length L
  rw [e, e, List.set_append_right _ _ (by omega), hl, Nat.sub_self, List.set_append_right _ _ (by omega), hl, List.set_append_right _ _ (by omega), hl]
  simp
theorem partV_set {L : List V3} {k : Nat} (h : k < L.length) :
    (((cells3 (partV L k)).set (k * 3) (.int .i64 (vAt L k).K)).set (k * 3 + 1) (.int .i64 (vAt L k).N)).set (k * 3 + 2) (.string (vAt L k).S) = cells3 (partV L (k + 1)) := by
  have h1 : partV L k = L.take k ++ ⟨0, 0, ⟨#[]⟩⟩ :: List.replicate (L.length - (k + 1)) ⟨0, 0, ⟨#[]⟩⟩ := by
    unfold partV; rw [show L.length - k = (L.length - (k + 1)) + 1 by omega, List.replicate_succ]
  have h2 : partV L (k + 1) = L.take k ++ vAt L k :: List.replicate (L.length - (k + 1)) ⟨0, 0, ⟨#[]⟩⟩ := by
    unfold partV; rw [List.take_succ_eq_append_getElem h, vAt_in h, List.append_assoc]; rfl
  have := cells3_set (L.take k) (List.replicate (L.length - (k + 1)) ⟨0, 0, ⟨#[]⟩⟩) (vAt L k) ⟨0, 0, ⟨#[]⟩⟩
  rw [List.length_take, Nat.min_eq_left (by omega)] at this
  rw [h1, h2]; exact this
theorem made3 (n : Nat) : (madeCells #[Value.int .i64 0, .int .i64 0, .string ⟨#[]⟩] (n * 3)).toList = cells3 (List.replicate n ⟨0, 0, ⟨#[]⟩⟩) := by
  have hl : (madeCells #[Value.int .i64 0, .int .i64 0, .string ⟨#[]⟩] (n * 3)).toList.length = n * 3 := by simp [madeCells]
  apply List.ext_getElem?
  intro j
  by_cases hj : j < n * 3
  · obtain ⟨i, r, rfl, hr⟩ : ∃ i r, j = i * 3 + r ∧ r < 3 := ⟨j / 3, j % 3, by omega, by omega⟩
    have hi : i < (List.replicate n (⟨0, 0, ⟨#[]⟩⟩ : V3)).length := by simp; omega
    obtain ⟨g0, g1, g2⟩ := cells3_get (List.replicate n ⟨0, 0, ⟨#[]⟩⟩) i hi
    have ev : vAt (List.replicate n (⟨0, 0, ⟨#[]⟩⟩ : V3)) i = ⟨0, 0, ⟨#[]⟩⟩ := by rw [vAt_in hi]; simp
    rw [ev] at g0 g1 g2
    match r, hr with
    | 0, _ => rw [Nat.add_zero, g0]; simp [madeCells, show i * 3 < n * 3 by omega]
    | 1, _ => rw [g1]; simp [madeCells, show i * 3 + 1 < n * 3 by omega, show (i * 3 + 1) % 3 = 1 by omega]
    | 2, _ => rw [g2]; simp [madeCells, show i * 3 + 2 < n * 3 by omega, show (i * 3 + 2) % 3 = 2 by omega]
  · rw [List.getElem?_eq_none (by omega), List.getElem?_eq_none (by rw [cells3_length]; simp; omega)]

theorem ownsRow_below {w w' : World} {base n size : Nat} {e : TypeId} {v : Value} {xs : List Value} (h : w.ownsRow base e size v n xs) (hb : Below w.heap.size w w') : w'.ownsRow base e size v n xs := by
  refine ⟨h.1, ?_⟩
  rcases h.2 with h2 | ⟨g, cap, cur, h1, hb', hh, rest⟩
  · exact .inl h2
  · exact .inr ⟨g, cap, cur, h1, hb', by rw [hb.block g (Array.getElem?_eq_some_iff.1 hh).1]; exact hh, rest⟩

set_option maxRecDepth 100000 in
set_option maxHeartbeats 1600000 in
theorem toValS_at (a : Option Addr) (cap : Nat) (L : List V3) (w : World) (hr : RdV w a L) (hn : L.length ≤ 1048576) :
    Calls Try.prog 153 #[.slice a L.length cap] w fun e w' =>
      e = .returned (.slice (some ⟨w.heap.size, 0, none⟩) L.length L.length) ∧ w'.ownsRow w.heap.size 105 3 (.slice (some ⟨w.heap.size, 0, none⟩) L.length L.length) L.length (cells3 L) ∧ Below w.heap.size w w' := by
  obtain ⟨i0, hi, hz0, hz1, hz2⟩ := info_parts Try.info105
  obtain ⟨n, hN⟩ : ∃ n, n = L.length := ⟨_, rfl⟩
  rw [← hN] at hn ⊢
  have HN := hide hN
  clear hN
  go_enter Try.func153, Try.ntmps153
  go_wp2_with (at_make; refine wpList_make_full _ rfl _ _ 87 rfl w.heap.size 105 i0 (.agg #[.int .i64 0, .int .i64 0, .string ⟨#[]⟩]) 3 Try.underlying87 hi hz0 hz1 _ _ _ _ n rfl rfl (by omega) (by omega) ?b2 ?b3 (Nat.le_refl _) ?_)
  case b2 => rw [hz2]; omega
  case b3 => unfold maxLen; omega
  intro w0 hown0 hgrow0
  rw [made3] at hown0
  go_wp2
  go_loopw [4] (fun i wr => ∃ k : Nat, k ≤ n ∧ i = .int .i64 k ∧ wr.ownsRow w.heap.size 105 3 (.slice (some ⟨w.heap.size, 0, none⟩) n n) n (cells3 (partV L k)) ∧ Below w.heap.size w wr)
    (fun i _ => n - (intOf i).toNat)
  case atStart =>
    refine ⟨0, Nat.zero_le _, rfl, ?_, (Below.refl _ _).grown hgrow0 (Nat.le_refl _) (fun k h => by cases h)⟩
    rw [partV_zero, ← HN.out]
    exact hown0
  case round =>
    obtain ⟨k, hk, rfl, hown, hbel⟩ := hrel
    by_cases hlt : k < n
    · obtain ⟨b, off, hab, hbw, hc⟩ := hr.open (by rw [← HN.out]; omega)
      obtain ⟨c0, c1, c2⟩ := hc k (by rw [← HN.out]; exact hlt)
      clear hc
      subst hab
      rw [← hbel.cell (p := ⟨b, off + k * 3, none⟩) hbw] at c0
      rw [← hbel.cell (p := ⟨b, off + k * 3 + 1, none⟩) hbw] at c1
      rw [← hbel.cell (p := ⟨b, off + k * 3 + 2, none⟩) hbw] at c2
      go_wp2_with fail
      refine (toVal_any _ _ _ _).mono ?_
      rintro e w2 ⟨rfl, hb2⟩
      have hown2 : w2.ownsRow w.heap.size 105 3 (.slice (some ⟨w.heap.size, 0, none⟩) n n) n (cells3 (partV L k)) := ownsRow_below hown hb2
      have hbel2 : Below w.heap.size w w2 := hbel.trans (hb2.mono hbel.size)
      have hlen : (cells3 (partV L k)).length = n * 3 := by rw [cells3_length, partV_length (by rw [← HN.out]; omega), ← HN.out]
      have hmem : ∀ j, j < 3 → ∃ u, w2.cell? ⟨w.heap.size, k * 3 + j, none⟩ = some u := fun j hj => by
        rw [hown2.cellAt (k * 3 + j) (by omega), List.getElem?_eq_getElem (by omega)]
        exact ⟨_, rfl⟩
      obtain ⟨u0, m0⟩ := hmem 0 (by omega)
      obtain ⟨u1, m1⟩ := hmem 1 (by omega)
      obtain ⟨u2, m2⟩ := hmem 2 (by omega)
      rw [Nat.add_zero] at m0
      have f0 := hown2.frozenAt (k * 3)
      have f1 := hown2.frozenAt (k * 3 + 1)
      have f2 := hown2.frozenAt (k * 3 + 2)
      have HO := hide (((hown2.stored (k * 3) (.int .i64 (vAt L k).K)).1.stored (k * 3 + 1) (.int .i64 (vAt L k).N)).1.stored (k * 3 + 2) (.string (vAt L k).S)).1
      have HB : Hid (Below w.heap.size w (((w2.setCell ⟨w.heap.size, k * 3, none⟩ (.int .i64 (vAt L k).K)).setCell ⟨w.heap.size, k * 3 + 1, none⟩ (.int .i64 (vAt L k).N)).setCell ⟨w.heap.size, k * 3 + 2, none⟩ (.string (vAt L k).S))) := ((hbel2.setCell (Nat.le_refl _) _).setCell (Nat.le_refl _) _).setCell (Nat.le_refl _) _
      rw [partV_set (by rw [← HN.out]; exact hlt)] at HO
      clear hmem hlen c0 c1 c2 hown hbel hb2
      generalize (vAt L k).K = K at HO HB ⊢
      generalize (vAt L k).N = N at HO HB ⊢
      generalize (vAt L k).S = S at HO HB ⊢
      clear hown2
      go_wp2
      go_roundw
      case rel => exact ⟨k + 1, by omega, by go_num, HO.out, HB.out⟩
      case measure => simp [intOf]; omega
    · have hkn : k = L.length := by rw [← HN.out]; omega
      have HK : Hid (wr.ownsRow w.heap.size 105 3 (.slice (some ⟨w.heap.size, 0, none⟩) n n) n (cells3 L)) := by
        have := hown
        rw [hkn, partV_end] at this
        exact this
      clear hkn hown
      go_wp2
      go_ret
      exact ⟨rfl, HK.out, hbel⟩

def szL (L : List V3) : Nat := L.length + (L.map fun v => v.S.size).sum
def sumS (L : List V3) (k : Nat) : Nat := ((L.take k).map fun v => v.S.size).sum
theorem sumS_step {L : List V3} {k : Nat} (h : k < L.length) : sumS L (k + 1) = sumS L k + (vAt L k).S.size := by
  unfold sumS; rw [List.take_succ_eq_append_getElem h, vAt_in h, List.map_append, List.sum_append]; simp only [List.map_cons, List.map_nil, List.sum_cons, List.sum_nil, Nat.add_zero]
theorem sumS_end (L : List V3) : sumS L L.length = (L.map fun v => v.S.size).sum := by unfold sumS; rw [List.take_length]
theorem mem_sum : ∀ {l : List Nat} {x : Nat}, x ∈ l → x ≤ l.sum
  | y :: r, x, h => by
    rw [List.sum_cons]
    rcases List.mem_cons.1 h with rfl | h
    · omega
    · have := mem_sum h; omega
theorem szL_mem {L : List V3} {v : V3} (h : v ∈ L) : v.S.size + L.length ≤ szL L := by
  unfold szL
  have : v.S.size ≤ (L.map fun v => v.S.size).sum := mem_sum (List.mem_map.2 ⟨v, h, rfl⟩)
  omega

set_option maxRecDepth 100000 in
set_option maxHeartbeats 1600000 in
theorem szValS_any (a : Option Addr) (cap : Nat) (L : List V3) (left : Int) (w : World) (hr : RdV w a L) (hs : ∀ v ∈ L, v.S.size ≤ maxLen) (hm : L.length ≤ maxLen) (h0 : 0 ≤ left) (h1 : left ≤ 1048576) :
    Calls Try.prog 151 #[.slice a L.length cap, .int .i64 left] w fun e w' =>
      (∃ r, e = .returned (.int .i64 r) ∧ (r = -1 ∨ (0 ≤ r ∧ r + (szL L : Int) = left))) ∧ Below w.heap.size w w' := by
  unfold maxLen at hm
  obtain ⟨n, hN⟩ : ∃ n, n = L.length := ⟨_, rfl⟩
  rw [← hN] at hm ⊢
  have HN := hide hN
  have HS := hide hs
  clear hN hs
  by_cases h2 : left - (n : Int) < 0
  · go_enter Try.func151, Try.ntmps151
    go_wp2
    go_ret
    exact ⟨⟨-1, rfl, .inl rfl⟩, Below.refl _ _⟩
  · go_enter Try.func151, Try.ntmps151
    go_wp2
    go_loopw [1, 5] (fun l i wr => ∃ (k : Nat) (lf : Int), k ≤ n ∧ i = .int .i64 k ∧ l = .int .i64 lf ∧ 0 ≤ lf ∧ lf + (sumS L k : Int) = left - n ∧ Below w.heap.size w wr) (fun _ i _ => n - (intOf i).toNat)
    case atStart => exact ⟨0, left - n, Nat.zero_le _, rfl, rfl, by omega, by simp [sumS], Below.refl _ _⟩
    case round =>
      obtain ⟨k, lf, hk, rfl, rfl, hlf, hsum, hbel⟩ := hrel
      by_cases hlt : k < n
      · obtain ⟨b, off, hab, hbw, hc⟩ := hr.open (by rw [← HN.out]; omega)
        obtain ⟨c0, c1, c2⟩ := hc k (by rw [← HN.out]; exact hlt)
        clear hc
        subst hab
        rw [← hbel.cell (p := ⟨b, off + k * 3, none⟩) hbw] at c0
        rw [← hbel.cell (p := ⟨b, off + k * 3 + 1, none⟩) hbw] at c1
        rw [← hbel.cell (p := ⟨b, off + k * 3 + 2, none⟩) hbw] at c2
        have hS : (vAt L k).S.size ≤ maxLen := by rw [vAt_in (by rw [← HN.out]; exact hlt)]; exact HS.out _ (List.getElem_mem _)
        have hst := sumS_step (L := L) (k := k) (by rw [← HN.out]; exact hlt)
        generalize (vAt L k).K = K at c0 ⊢
        generalize (vAt L k).N = N at c1 ⊢
        generalize (vAt L k).S = S at c2 hS hst ⊢
        go_wp2_with fail
        refine (szVal_any K N S lf _ hS hlf (by omega)).mono ?_
        rintro e w2 ⟨rfl, hb2⟩
        have hbel2 : Below w.heap.size w w2 := hbel.trans (hb2.mono hbel.size)
        clear hb2 c0 c1 c2 hbel
        by_cases h3 : lf - (S.size : Int) < 0
        · rw [if_pos h3]
          go_wp2
          go_ret
          exact ⟨⟨-1, rfl, .inl rfl⟩, hbel2⟩
        · rw [if_neg h3]
          go_wp2
          go_roundw
          case rel => exact ⟨k + 1, lf - S.size, by omega, by go_num, rfl, by omega, by rw [hst]; omega, hbel2⟩
          case measure => simp [intOf]; omega
      · have HK : Hid (lf + (szL L : Int) = left) := by
          unfold Hid szL
          have := sumS_end L
          have hkn : k = L.length := by rw [← HN.out]; omega
          rw [hkn] at hsum
          have := HN.out
          omega
        go_wp2
        go_ret
        exact ⟨⟨lf, rfl, .inr ⟨hlf, HK.out⟩⟩, hbel⟩

set_option maxRecDepth 100000 in
set_option maxHeartbeats 1600000 in
theorem szFact_any (kd : ByteArray) (a : Option Addr) (cap : Nat) (L : List V3) (left : Int) (w : World) (hkd : kd.size ≤ maxLen) (hr : RdV w a L) (hs : ∀ v ∈ L, v.S.size ≤ maxLen) (hm : L.length ≤ maxLen) (h0 : 0 ≤ left) (h1 : left ≤ 1048576) :
    Calls Try.prog 125 #[.agg #[.string kd, .slice a L.length cap], .int .i64 left] w fun e w' =>
      (∃ r, e = .returned (.int .i64 r) ∧ (r = -1 ∨ (0 ≤ r ∧ r + ((kd.size + szL L : Nat) : Int) = left))) ∧ Below w.heap.size w w' := by
  unfold maxLen at hkd
  by_cases h2 : left - (kd.size : Int) < 0
  · go_enter Try.func125, Try.ntmps125
    go_wp2
    go_ret
    exact ⟨⟨-1, rfl, .inl rfl⟩, by go_grown⟩
  · go_enter Try.func125, Try.ntmps125
    go_wp2_with fail
    refine (szValS_any a cap L (left - kd.size) _ (hr.below ((Below.refl _ _).alloc (Nat.le_refl _) _)) hs hm (by omega) (by omega)).mono ?_
    rintro e w1 ⟨⟨r, rfl, hr1⟩, hb1⟩
    have hB1 : Below w.heap.size w w1 := ((Below.refl w.heap.size w).alloc (Nat.le_refl _) _).trans (hb1.mono (by simp))
    clear hb1
    rcases hr1 with rfl | ⟨hr2, hr3⟩
    · go_wp2
      go_ret
      exact ⟨⟨-1, rfl, .inl rfl⟩, hB1⟩
    · go_wp2
      go_ret
      exact ⟨⟨r, rfl, .inr ⟨hr2, by omega⟩⟩, hB1⟩

theorem eqVal_any (K N : Int) (S : ByteArray) (w : World) (B : Nat) (h : w.heap.size = B) :
    Calls Try.prog 103 #[.agg #[.int .i64 K, .int .i64 N, .string S], .agg #[.int .i64 K, .int .i64 N, .string S]] w fun e w' =>
      e = .returned (.bool true) ∧ Below B w w' := by subst h; exact eqVal_same K N S w
set_option maxRecDepth 100000 in
set_option maxHeartbeats 1600000 in
theorem eqValS_same (a b : Option Addr) (ca cb : Nat) (L : List V3) (w : World) (hr : RdV w a L) (hq : RdV w b L) (hm : L.length ≤ 1048580) :
    Calls Try.prog 156 #[.slice a L.length ca, .slice b L.length cb] w fun e w' =>
      e = .returned (.bool true) ∧ Below w.heap.size w w' := by
  obtain ⟨n, hN⟩ : ∃ n, n = L.length := ⟨_, rfl⟩
  rw [← hN] at hm ⊢
  have HN := hide hN
  clear hN
  have hnn : ((n : Int) != (n : Int)) = false := by simp
  go_enter Try.func156, Try.ntmps156
  go_wp2
  go_loopw [5] (fun i wr => ∃ (k : Nat), k ≤ n ∧ i = .int .i64 k ∧ Below w.heap.size w wr) (fun i _ => n - (intOf i).toNat)
  case atStart => exact ⟨0, Nat.zero_le _, rfl, Below.refl _ _⟩
  case round =>
    obtain ⟨k, hk, rfl, hbel⟩ := hrel
    by_cases hlt : k < n
    · obtain ⟨b1, o1, e1, hbw1, hc1⟩ := hr.open (by rw [← HN.out]; omega)
      obtain ⟨b2, o2, e2, hbw2, hc2⟩ := hq.open (by rw [← HN.out]; omega)
      obtain ⟨c0, c1, c2⟩ := hc1 k (by rw [← HN.out]; exact hlt)
      obtain ⟨d0, d1, d2⟩ := hc2 k (by rw [← HN.out]; exact hlt)
      clear hc1 hc2
      subst e1 e2
      rw [← hbel.cell (p := ⟨b1, o1 + k * 3, none⟩) hbw1] at c0
      rw [← hbel.cell (p := ⟨b1, o1 + k * 3 + 1, none⟩) hbw1] at c1
      rw [← hbel.cell (p := ⟨b1, o1 + k * 3 + 2, none⟩) hbw1] at c2
      rw [← hbel.cell (p := ⟨b2, o2 + k * 3, none⟩) hbw2] at d0
      rw [← hbel.cell (p := ⟨b2, o2 + k * 3 + 1, none⟩) hbw2] at d1
      rw [← hbel.cell (p := ⟨b2, o2 + k * 3 + 2, none⟩) hbw2] at d2
      generalize (vAt L k).K = K at c0 d0
      generalize (vAt L k).N = N at c1 d1
      generalize (vAt L k).S = S at c2 d2
      go_wp2_with fail
      go_region_held3 (fun w' => w'.cell? ⟨b1, o1 + k * 3, none⟩ = some (.int .i64 K) ∧ w'.cell? ⟨b1, o1 + k * 3 + 1, none⟩ = some (.int .i64 N) ∧ w'.cell? ⟨b1, o1 + k * 3 + 2, none⟩ = some (.string S) ∧ w'.cell? ⟨b2, o2 + k * 3, none⟩ = some (.int .i64 K) ∧ w'.cell? ⟨b2, o2 + k * 3 + 1, none⟩ = some (.int .i64 N) ∧ w'.cell? ⟨b2, o2 + k * 3 + 2, none⟩ = some (.string S) ∧ Below w.heap.size w w' ∧ w.heap.size ≤ w'.heap.size) (first | exact ⟨c0, c1, c2, d0, d1, d2, hbel.drew, hbel.size⟩ | exact keep7 (by assumption) (by assumption))
        (first | (go_at_call 103; refine (eqVal_same _ _ _ _).mono ?_; rintro e w2 ⟨rfl, hb⟩))
      all_goals
        obtain ⟨-, -, -, -, -, -, hB2, -⟩ : w2.cell? ⟨b1, o1 + k * 3, none⟩ = some (.int .i64 K) ∧ w2.cell? ⟨b1, o1 + k * 3 + 1, none⟩ = some (.int .i64 N) ∧ w2.cell? ⟨b1, o1 + k * 3 + 2, none⟩ = some (.string S) ∧ w2.cell? ⟨b2, o2 + k * 3, none⟩ = some (.int .i64 K) ∧ w2.cell? ⟨b2, o2 + k * 3 + 1, none⟩ = some (.int .i64 N) ∧ w2.cell? ⟨b2, o2 + k * 3 + 2, none⟩ = some (.string S) ∧ Below w.heap.size w w2 ∧ w.heap.size ≤ w2.heap.size := by assumption
        go_wp2
        go_roundw
        case rel => exact ⟨k + 1, by omega, by go_num, hB2⟩
        case measure => simp [intOf]; omega
    · go_wp2
      go_ret
      exact ⟨rfl, hbel⟩
end Go.Proofs.Ytfgigcdfmkfkjaa
/-
  The contracts of the laws' own helpers on Binds: to copies, sz counts off, eq finds one the same as itself; so of rows of them.
-/
namespace Go.Proofs.Ytfgigcdfmkfkjaa
open Go.RowKit
set_option linter.unusedVariables false

theorem Try.info107 : (Try.prog.info? 107).map (fun i => (i.zero, i.size, i.bytes)) = some (some (.agg #[.string ⟨#[]⟩, .int .i64 0, .int .i64 0, .string ⟨#[]⟩]), 4, 48) := by kernel_rfl

set_option maxRecDepth 100000 in
set_option maxHeartbeats 1600000 in
theorem toBind_any (N : ByteArray) (VK : Int) (VN : Int) (VS : ByteArray) (w : World) :
    Calls Try.prog 75 #[.agg #[.string N, .int .i64 VK, .int .i64 VN, .string VS]] w fun e w' => e = .returned (.agg #[.string N, .int .i64 VK, .int .i64 VN, .string VS]) ∧ Below w.heap.size w w' := by
  go_enter Try.func75, Try.ntmps75
  go_wp2_with fail
  have b0 := below_al w (.cells #[.string N, .int .i64 VK, .int .i64 VN, .string VS] 120)
  have b1 := b0.alloc b0.size (.cells #[.string ⟨#[]⟩, .int .i64 0, .int .i64 0, .string ⟨#[]⟩] 107)
  have b2 := b1.alloc b1.size (.cells #[.string N, .int .i64 0, .int .i64 0, .string ⟨#[]⟩] 107)
  have hR := box_old (boxk_new (w.alloc (.cells #[.string N, .int .i64 VK, .int .i64 VN, .string VS] 120)) #[.string ⟨#[]⟩, .int .i64 0, .int .i64 0, .string ⟨#[]⟩] 107) (by simp) (.cells #[.string N, .int .i64 0, .int .i64 0, .string ⟨#[]⟩] 107)
  have hX := boxk_new ((w.alloc (.cells #[.string N, .int .i64 VK, .int .i64 VN, .string VS] 120)).alloc (.cells #[.string ⟨#[]⟩, .int .i64 0, .int .i64 0, .string ⟨#[]⟩] 107)) #[.string N, .int .i64 0, .int .i64 0, .string ⟨#[]⟩] 107
  simp only [World.size_alloc] at hR hX
  refine (toVal_any VK VN VS _).mono ?_
  rintro e w1 ⟨rfl, hb⟩
  have HR := hide (box_below hR hb (by simp))
  have HX := hide (box_below hX hb (by simp))
  have hB : Below w.heap.size w w1 := b2.trans (hb.mono b2.size)
  clear hb hR hX b0 b1 b2
  have x0 := boxk_cell HX.out 0 _ rfl
  have xf0 := boxk_frozen HX.out 0
  have r0 := boxk_cell HR.out 0 _ rfl
  have rf0 := boxk_frozen HR.out 0
  have x1 := boxk_cell HX.out 1 _ rfl
  have xf1 := boxk_frozen HX.out 1
  have r1 := boxk_cell HR.out 1 _ rfl
  have rf1 := boxk_frozen HR.out 1
  have x2 := boxk_cell HX.out 2 _ rfl
  have xf2 := boxk_frozen HX.out 2
  have r2 := boxk_cell HR.out 2 _ rfl
  have rf2 := boxk_frozen HR.out 2
  have x3 := boxk_cell HX.out 3 _ rfl
  have xf3 := boxk_frozen HX.out 3
  have r3 := boxk_cell HR.out 3 _ rfl
  have rf3 := boxk_frozen HR.out 3
  have HX2 := hide (boxk_set HX.out 1 (.int .i64 VK))
  have HX3 := hide (boxk_set HX2.out.1 2 (.int .i64 VN))
  have HX4 := hide (boxk_set HX3.out.1 3 (.string VS))
  have HR2 := hide (box_gr (box_gr (box_gr HR.out HX2.out.2 (by omega)) HX3.out.2 (by omega)) HX4.out.2 (by omega))
  have HB2 := hide (below_set (below_set (below_set hB HX2.out.2 (by omega)) HX3.out.2 (by omega)) HX4.out.2 (by omega))
  go_wp2
  refine box4_post HR2.out (fun w4 h4 gr => ?_)
  clear x0 xf0 r0 rf0 x1 xf1 r1 rf1 x2 xf2 r2 rf2 x3 xf3 r3 rf3
  have c0 := boxk_cell h4 0 _ rfl
  have c1 := boxk_cell h4 1 _ rfl
  have c2 := boxk_cell h4 2 _ rfl
  have c3 := boxk_cell h4 3 _ rfl
  exact bodyPost_ret (v := .agg #[.string N, .int .i64 VK, .int .i64 VN, .string VS]) (by simp [results, Try.results75, go_sem, c0, c1, c2, c3]) rfl ⟨rfl, below_set HB2.out gr (by omega)⟩

set_option maxRecDepth 100000 in
set_option maxHeartbeats 1600000 in
theorem szBind_any (N : ByteArray) (VK : Int) (VN : Int) (VS : ByteArray) (left : Int) (w : World) (hs : N.size ≤ maxLen) (hv : VS.size ≤ maxLen) (h0 : 0 ≤ left) (h1 : left ≤ 1048576) :
    Calls Try.prog 74 #[.agg #[.string N, .int .i64 VK, .int .i64 VN, .string VS], .int .i64 left] w fun e w' =>
      (∃ r, e = .returned (.int .i64 r) ∧ (r = -1 ∨ (0 ≤ r ∧ r + (N.size : Int) + (VS.size : Int) ≤ left))) ∧ Below w.heap.size w w' := by
  have hs0 := hs
  unfold maxLen at hs
  by_cases h2 : left - (N.size : Int) < 0
  · go_enter Try.func74, Try.ntmps74
    go_wp2
    go_ret
    exact ⟨⟨-1, rfl, .inl rfl⟩, by go_grown⟩
  · go_enter Try.func74, Try.ntmps74
    go_wp2_with fail
    have b0 := below_al w (.cells #[.string N, .int .i64 VK, .int .i64 VN, .string VS] 120)
    refine (szVal_any VK VN VS (left - (N.size : Int)) _ hv (by omega) (by omega)).mono ?_
    rintro e w1 ⟨rfl, hb1⟩
    have hB1 : Below w.heap.size w w1 := b0.trans (hb1.mono b0.size)
    clear hb1 b0
    by_cases h3 : left - (N.size : Int) - (VS.size : Int) < 0
    · rw [if_pos h3]
      go_wp2
      go_ret
      exact ⟨⟨-1, rfl, .inl rfl⟩, hB1⟩
    · rw [if_neg h3]
      go_wp2
      go_ret
      exact ⟨⟨_, rfl, .inr ⟨by omega, by omega⟩⟩, hB1⟩

set_option maxRecDepth 100000 in
set_option maxHeartbeats 1600000 in
theorem eqBind_same (N : ByteArray) (VK : Int) (VN : Int) (VS : ByteArray) (w : World) :
    Calls Try.prog 64 #[.agg #[.string N, .int .i64 VK, .int .i64 VN, .string VS], .agg #[.string N, .int .i64 VK, .int .i64 VN, .string VS]] w fun e w' => e = .returned (.bool true) ∧ Below w.heap.size w w' := by
  have kN : (N.toList == N.toList) = true := by simp
  go_enter Try.func64, Try.ntmps64
  go_wp2_with fail
  have b0 := below_al w (.cells #[.string N, .int .i64 VK, .int .i64 VN, .string VS] 107)
  have b1 := b0.alloc b0.size (.cells #[.string N, .int .i64 VK, .int .i64 VN, .string VS] 107)
  refine (eqVal_same VK VN VS _).mono ?_
  rintro e w1 ⟨rfl, hb⟩
  have hB : Below w.heap.size w w1 := b1.trans (hb.mono b1.size)
  go_wp2
  go_ret
  exact ⟨rfl, hB⟩

set_option maxRecDepth 100000 in
set_option maxHeartbeats 1600000 in
theorem toBindS_at (a : Option Addr) (cap : Nat) (L : List B4) (w : World) (hr : RdBind w a L) (hn : L.length ≤ 1048576) :
    Calls Try.prog 34 #[.slice a L.length cap] w fun e w' =>
      e = .returned (.slice (some ⟨w.heap.size, 0, none⟩) L.length L.length) ∧ w'.ownsRow w.heap.size 107 4 (.slice (some ⟨w.heap.size, 0, none⟩) L.length L.length) L.length (rowOf B4.cs L) ∧ Below w.heap.size w w' := by
  obtain ⟨i0, hi, hz0, hz1, hz2⟩ := info_parts Try.info107
  obtain ⟨n, hN⟩ : ∃ n, n = L.length := ⟨_, rfl⟩
  rw [← hN] at hn ⊢
  have HN := hide hN
  clear hN
  have hmade := rowOf_made (f := B4.cs) (x := B4.zero) (cs := #[.string ⟨#[]⟩, .int .i64 0, .int .i64 0, .string ⟨#[]⟩]) rfl (by decide) n
  go_enter Try.func34, Try.ntmps34
  go_wp2_with (at_make; refine wpList_make_full _ rfl _ _ 28 rfl w.heap.size 107 i0 (.agg #[.string ⟨#[]⟩, .int .i64 0, .int .i64 0, .string ⟨#[]⟩]) 4 Try.underlying28 hi hz0 hz1 _ _ _ _ n rfl rfl (by omega) (by omega) ?b2 ?b3 (Nat.le_refl _) ?_)
  case b2 => rw [hz2]; omega
  case b3 => unfold maxLen; omega
  intro w0 hown0 hgrow0
  have hown0' : w0.ownsRow w.heap.size 107 4 (.slice (some ⟨w.heap.size, 0, none⟩) n n) n (rowOf B4.cs (List.replicate n B4.zero)) := by rw [← hmade]; exact hown0
  clear hown0 hmade
  go_wp2
  go_loopw [4] (fun i wr => ∃ k : Nat, k ≤ n ∧ i = .int .i64 k ∧ wr.ownsRow w.heap.size 107 4 (.slice (some ⟨w.heap.size, 0, none⟩) n n) n (rowOf B4.cs (partK L B4.zero k)) ∧ Below w.heap.size w wr)
    (fun i _ => n - (intOf i).toNat)
  case atStart =>
    refine ⟨0, Nat.zero_le _, rfl, ?_, (Below.refl _ _).grown hgrow0 (Nat.le_refl _) (fun k h => by cases h)⟩
    rw [partK_zero, ← HN.out]
    exact hown0'
  case round =>
    obtain ⟨k, hk, rfl, hown, hbel⟩ := hrel
    by_cases hlt : k < n
    · obtain ⟨b, off, hab, hbw, hc⟩ := RdBind.cells hr (by rw [← HN.out]; omega)
      obtain ⟨c0, c1, c2, c3⟩ := hc k (by rw [← HN.out]; exact hlt)
      clear hc
      subst hab
      rw [← hbel.cell (p := ⟨b, off + k * 4, none⟩) hbw] at c0
      rw [← hbel.cell (p := ⟨b, off + k * 4 + 1, none⟩) hbw] at c1
      rw [← hbel.cell (p := ⟨b, off + k * 4 + 2, none⟩) hbw] at c2
      rw [← hbel.cell (p := ⟨b, off + k * 4 + 3, none⟩) hbw] at c3
      go_wp2_with fail
      refine (toBind_any _ _ _ _ _).mono ?_
      rintro e w2 ⟨rfl, hb2⟩
      have hown2 : w2.ownsRow w.heap.size 107 4 (.slice (some ⟨w.heap.size, 0, none⟩) n n) n (rowOf B4.cs (partK L B4.zero k)) := ownsRow_below' hown hb2
      have hbel2 : Below w.heap.size w w2 := hbel.trans (hb2.mono hbel.size)
      have hlen : (rowOf B4.cs (partK L B4.zero k)).length = n * 4 := by rw [rowOf_length B4.len, partK_length (by rw [← HN.out]; omega), ← HN.out]
      have hmem : ∀ j, j < 4 → ∃ u, w2.cell? ⟨w.heap.size, k * 4 + j, none⟩ = some u := fun j hj => by
        rw [hown2.cellAt (k * 4 + j) (by omega), List.getElem?_eq_getElem (by omega)]
        exact ⟨_, rfl⟩
      obtain ⟨u0, m0⟩ := hmem 0 (by omega)
      obtain ⟨u1, m1⟩ := hmem 1 (by omega)
      obtain ⟨u2, m2⟩ := hmem 2 (by omega)
      obtain ⟨u3, m3⟩ := hmem 3 (by omega)
      rw [Nat.add_zero] at m0
      have f0 := hown2.frozenAt (k * 4)
      have f1 := hown2.frozenAt (k * 4 + 1)
      have f2 := hown2.frozenAt (k * 4 + 2)
      have f3 := hown2.frozenAt (k * 4 + 3)
      have HO := hide ((((hown2.stored (k * 4) (.string (eAt L k).N)).1.stored (k * 4 + 1) (.int .i64 (eAt L k).V.K)).1.stored (k * 4 + 2) (.int .i64 (eAt L k).V.N)).1.stored (k * 4 + 3) (.string (eAt L k).V.S)).1
      have HB : Hid (Below w.heap.size w ((((w2.setCell ⟨w.heap.size, k * 4, none⟩ (.string (eAt L k).N)).setCell ⟨w.heap.size, k * 4 + 1, none⟩ (.int .i64 (eAt L k).V.K)).setCell ⟨w.heap.size, k * 4 + 2, none⟩ (.int .i64 (eAt L k).V.N)).setCell ⟨w.heap.size, k * 4 + 3, none⟩ (.string (eAt L k).V.S))) := ((((hbel2.setCell (Nat.le_refl _) _).setCell (Nat.le_refl _) _).setCell (Nat.le_refl _) _).setCell (Nat.le_refl _) _)
      rw [rowOf_set_B4 (eAt L k) _ k (by rw [partK_length (by rw [← HN.out]; omega), ← HN.out]; exact hlt), partK_set (by rw [← HN.out]; exact hlt)] at HO
      clear hmem hlen c0 c1 c2 c3 hown hbel hb2 hown2 hbel2
      go_wp2
      go_roundw
      case rel => exact ⟨k + 1, by omega, by go_num, HO.out, HB.out⟩
      case measure => simp [intOf]; omega
    · have HE : Hid (wr.ownsRow w.heap.size 107 4 (.slice (some ⟨w.heap.size, 0, none⟩) n n) n (rowOf B4.cs L)) := by
        have hkn : k = L.length := by rw [← HN.out]; omega
        rw [hkn, partK_end] at hown
        exact hown
      clear hown
      go_wp2
      go_ret
      exact ⟨rfl, HE.out, hbel⟩

set_option maxRecDepth 100000 in
set_option maxHeartbeats 1600000 in
theorem szBindS_any (a : Option Addr) (cap : Nat) (L : List B4) (left : Int) (w : World) (hr : RdBind w a L) (hs : ∀ x ∈ L, x.fits) (hm : L.length ≤ maxLen) (h0 : 0 ≤ left) (h1 : left ≤ 1048576) :
    Calls Try.prog 32 #[.slice a L.length cap, .int .i64 left] w fun e w' =>
      (∃ r, e = .returned (.int .i64 r) ∧ (r = -1 ∨ (0 ≤ r ∧ r + (L.length : Int) ≤ left ∧ ∀ x ∈ L, x.small))) ∧ Below w.heap.size w w' := by
  unfold maxLen at hm
  obtain ⟨n, hN⟩ : ∃ n, n = L.length := ⟨_, rfl⟩
  rw [← hN] at hm ⊢
  have HN := hide hN
  have HS := hide hs
  clear hN hs
  by_cases h2 : left - (n : Int) < 0
  · go_enter Try.func32, Try.ntmps32
    go_wp2
    go_ret
    exact ⟨⟨-1, rfl, .inl rfl⟩, Below.refl _ _⟩
  · go_enter Try.func32, Try.ntmps32
    go_wp2
    go_loopw [1, 5] (fun l i wr => ∃ (k : Nat) (lf : Int), k ≤ n ∧ i = .int .i64 k ∧ l = .int .i64 lf ∧ 0 ≤ lf ∧ lf ≤ left - n ∧ (∀ j, j < k → (eAt L j).small) ∧ Below w.heap.size w wr) (fun _ i _ => n - (intOf i).toNat)
    case atStart => exact ⟨0, left - n, Nat.zero_le _, rfl, rfl, by omega, Int.le_refl _, fun j hj => absurd hj (Nat.not_lt_zero _), Below.refl _ _⟩
    case round =>
      obtain ⟨k, lf, hk, rfl, rfl, hlf, hle, hsm, hbel⟩ := hrel
      have HSm := hide hsm
      clear hsm
      by_cases hlt : k < n
      · obtain ⟨b, off, hab, hbw, hc⟩ := RdBind.cells hr (by rw [← HN.out]; omega)
        obtain ⟨c0, c1, c2, c3⟩ := hc k (by rw [← HN.out]; exact hlt)
        clear hc
        subst hab
        rw [← hbel.cell (p := ⟨b, off + k * 4, none⟩) hbw] at c0
        rw [← hbel.cell (p := ⟨b, off + k * 4 + 1, none⟩) hbw] at c1
        rw [← hbel.cell (p := ⟨b, off + k * 4 + 2, none⟩) hbw] at c2
        rw [← hbel.cell (p := ⟨b, off + k * 4 + 3, none⟩) hbw] at c3
        have hS : (eAt L k).fits := by rw [eAt_in (by rw [← HN.out]; exact hlt)]; exact HS.out _ (List.getElem_mem _)
        obtain ⟨hS0, hS1⟩ := hS
        go_wp2_with fail
        refine (szBind_any _ _ _ _ lf _ hS0 hS1 hlf (by omega)).mono ?_
        rintro e w2 ⟨⟨r, rfl, hr2⟩, hb2⟩
        have hbel2 : Below w.heap.size w w2 := hbel.trans (hb2.mono hbel.size)
        clear hb2 c0 c1 c2 c3 hbel
        rcases hr2 with rfl | ⟨h3, h4⟩
        · go_wp2
          go_ret
          exact ⟨⟨-1, rfl, .inl rfl⟩, hbel2⟩
        · have HSk : Hid ((eAt L k).small) := ⟨by omega, by omega⟩
          have h5 : r ≤ lf := by omega
          clear h4
          go_wp2
          go_roundw
          case rel => exact ⟨k + 1, r, by omega, by go_num, rfl, h3, by omega, fun j hj => by
              by_cases hjk : j = k
              · rw [hjk]; exact HSk.out
              · exact HSm.out j (by omega), hbel2⟩
          case measure => simp [intOf]; omega
      · have HAll : Hid (∀ x ∈ L, x.small) := fun x hx => by
          obtain ⟨j, hj, rfl⟩ := List.getElem_of_mem hx
          rw [← eAt_in hj]
          exact HSm.out j (by rw [← HN.out] at hj; omega)
        go_wp2
        go_ret
        exact ⟨⟨lf, rfl, .inr ⟨hlf, by omega, HAll.out⟩⟩, hbel⟩

theorem toBindS_ex (a : Option Addr) (cap : Nat) (L : List B4) (w : World) (hr : RdBind w a L) (hn : L.length ≤ 1048576) :
    Calls Try.prog 34 #[.slice a L.length cap] w fun e w' =>
      ∃ g, e = .returned (.slice (some ⟨g, 0, none⟩) L.length L.length) ∧ w.heap.size ≤ g ∧ OwnBind w' g L.length L ∧ Below w.heap.size w w' :=
  (toBindS_at a cap L w hr hn).mono fun e w' h => ⟨w.heap.size, h.1, Nat.le_refl _, OwnK.of B4.len (by decide) h.2.1, h.2.2⟩

theorem keepBind {w0 W w' : World} {B : Nat} {p0 p1 p2 p3 p4 p5 p6 p7 : Addr} {v0 v1 v2 v3 v4 v5 v6 v7 : Value} (hb : Below W.heap.size W w')
    (h : W.cell? p0 = some v0 ∧ W.cell? p1 = some v1 ∧ W.cell? p2 = some v2 ∧ W.cell? p3 = some v3 ∧ W.cell? p4 = some v4 ∧ W.cell? p5 = some v5 ∧ W.cell? p6 = some v6 ∧ W.cell? p7 = some v7 ∧ Below B w0 W ∧ B ≤ W.heap.size) :
    w'.cell? p0 = some v0 ∧ w'.cell? p1 = some v1 ∧ w'.cell? p2 = some v2 ∧ w'.cell? p3 = some v3 ∧ w'.cell? p4 = some v4 ∧ w'.cell? p5 = some v5 ∧ w'.cell? p6 = some v6 ∧ w'.cell? p7 = some v7 ∧ Below B w0 w' ∧ B ≤ w'.heap.size := by
  obtain ⟨q0, q1, q2, q3, q4, q5, q6, q7, h6, h7⟩ := h
  have k : ∀ {a : Addr} {v : Value}, W.cell? a = some v → w'.cell? a = some v := fun {a v} h => by rw [hb.cell (World.block_lt_of_cell? W _ h)]; exact h
  exact ⟨k q0, k q1, k q2, k q3, k q4, k q5, k q6, k q7, h6.trans (hb.mono h7), Nat.le_trans h7 hb.size⟩
set_option maxRecDepth 100000 in
set_option maxHeartbeats 1600000 in
theorem eqBindS_same (a b : Option Addr) (ca cb : Nat) (L : List B4) (w : World) (hr : RdBind w a L) (hq : RdBind w b L) (hm : L.length ≤ 2097152) :
    Calls Try.prog 23 #[.slice a L.length ca, .slice b L.length cb] w fun e w' =>
      e = .returned (.bool true) ∧ Below w.heap.size w w' := by
  obtain ⟨n, hN⟩ : ∃ n, n = L.length := ⟨_, rfl⟩
  rw [← hN] at hm ⊢
  have HN := hide hN
  clear hN
  have hnn : ((n : Int) != (n : Int)) = false := by simp
  go_enter Try.func23, Try.ntmps23
  go_wp2
  go_loopw [5] (fun i wr => ∃ (k : Nat), k ≤ n ∧ i = .int .i64 k ∧ Below w.heap.size w wr) (fun i _ => n - (intOf i).toNat)
  case atStart => exact ⟨0, Nat.zero_le _, rfl, Below.refl _ _⟩
  case round =>
    obtain ⟨k, hk, rfl, hbel⟩ := hrel
    by_cases hlt : k < n
    · obtain ⟨b1, o1, e1, hbw1, hc1⟩ := RdBind.cells hr (by rw [← HN.out]; omega)
      obtain ⟨b2, o2, e2, hbw2, hc2⟩ := RdBind.cells hq (by rw [← HN.out]; omega)
      obtain ⟨c0, c1, c2, c3⟩ := hc1 k (by rw [← HN.out]; exact hlt)
      obtain ⟨d0, d1, d2, d3⟩ := hc2 k (by rw [← HN.out]; exact hlt)
      clear hc1 hc2
      subst e1 e2
      rw [← hbel.cell (p := ⟨b1, o1 + k * 4, none⟩) hbw1] at c0
      rw [← hbel.cell (p := ⟨b2, o2 + k * 4, none⟩) hbw2] at d0
      rw [← hbel.cell (p := ⟨b1, o1 + k * 4 + 1, none⟩) hbw1] at c1
      rw [← hbel.cell (p := ⟨b2, o2 + k * 4 + 1, none⟩) hbw2] at d1
      rw [← hbel.cell (p := ⟨b1, o1 + k * 4 + 2, none⟩) hbw1] at c2
      rw [← hbel.cell (p := ⟨b2, o2 + k * 4 + 2, none⟩) hbw2] at d2
      rw [← hbel.cell (p := ⟨b1, o1 + k * 4 + 3, none⟩) hbw1] at c3
      rw [← hbel.cell (p := ⟨b2, o2 + k * 4 + 3, none⟩) hbw2] at d3
      generalize (eAt L k).N = N at c0 d0
      generalize (eAt L k).V.K = VK at c1 d1
      generalize (eAt L k).V.N = VN at c2 d2
      generalize (eAt L k).V.S = VS at c3 d3
      go_wp2_with fail
      go_region_held3 (fun W => W.cell? ⟨b1, o1 + k * 4, none⟩ = some (.string N) ∧ W.cell? ⟨b1, o1 + k * 4 + 1, none⟩ = some (.int .i64 VK) ∧ W.cell? ⟨b1, o1 + k * 4 + 2, none⟩ = some (.int .i64 VN) ∧ W.cell? ⟨b1, o1 + k * 4 + 3, none⟩ = some (.string VS) ∧ W.cell? ⟨b2, o2 + k * 4, none⟩ = some (.string N) ∧ W.cell? ⟨b2, o2 + k * 4 + 1, none⟩ = some (.int .i64 VK) ∧ W.cell? ⟨b2, o2 + k * 4 + 2, none⟩ = some (.int .i64 VN) ∧ W.cell? ⟨b2, o2 + k * 4 + 3, none⟩ = some (.string VS) ∧ Below w.heap.size w W ∧ w.heap.size ≤ W.heap.size) (first | exact ⟨c0, c1, c2, c3, d0, d1, d2, d3, hbel.drew, hbel.size⟩ | exact keepBind (by assumption) (by assumption))
        (first | (go_at_call 64; refine (eqBind_same _ _ _ _ _).mono ?_; rintro e w2 ⟨rfl, hb⟩))
      all_goals
        obtain ⟨-, -, -, -, -, -, -, -, hB2, -⟩ : w2.cell? ⟨b1, o1 + k * 4, none⟩ = some (.string N) ∧ w2.cell? ⟨b1, o1 + k * 4 + 1, none⟩ = some (.int .i64 VK) ∧ w2.cell? ⟨b1, o1 + k * 4 + 2, none⟩ = some (.int .i64 VN) ∧ w2.cell? ⟨b1, o1 + k * 4 + 3, none⟩ = some (.string VS) ∧ w2.cell? ⟨b2, o2 + k * 4, none⟩ = some (.string N) ∧ w2.cell? ⟨b2, o2 + k * 4 + 1, none⟩ = some (.int .i64 VK) ∧ w2.cell? ⟨b2, o2 + k * 4 + 2, none⟩ = some (.int .i64 VN) ∧ w2.cell? ⟨b2, o2 + k * 4 + 3, none⟩ = some (.string VS) ∧ Below w.heap.size w w2 ∧ w.heap.size ≤ w2.heap.size := by assumption
        go_wp2
        go_roundw
        case rel => exact ⟨k + 1, by omega, by go_num, hB2⟩
        case measure => simp [intOf]; omega
    · go_wp2
      go_ret
      exact ⟨rfl, hbel⟩
end Go.Proofs.Ytfgigcdfmkfkjaa
/-
  A bind that was just laid, cell by cell.
-/
namespace Go.Proofs.Ytfgigcdfmkfkjaa
open Go.RowKit
set_option linter.unusedVariables false

theorem src4 (W : World) (x : B4) : ∀ j u, (x.cs)[j]? = some u → (W.alloc (.cells #[.string x.N, .int .i64 x.V.K, .int .i64 x.V.N, .string x.V.S] 107)).cell? ((⟨W.heap.size, 0, none⟩ : Addr).add j) = some u := by
  intro j u hj
  rw [Addr.add_lit, Nat.zero_add]
  have hb : (W.alloc (.cells #[.string x.N, .int .i64 x.V.K, .int .i64 x.V.N, .string x.V.S] 107)).heap[W.heap.size]? = some (.cells #[.string x.N, .int .i64 x.V.K, .int .i64 x.V.N, .string x.V.S] 107 (0, 0)) := by rw [heap_alloc_new]
  rw [cell_of_row _ _ j _ _ (0, 0) hb, ← hj]
  simp [B4.cs]
theorem one4 (x : B4) : ∀ u ∈ x.cs, u.oneCell' = true := by
  intro u hu
  simp only [B4.cs, List.mem_cons, List.not_mem_nil, or_false] at hu
  rcases hu with rfl | rfl | rfl | rfl <;> rfl
end Go.Proofs.Ytfgigcdfmkfkjaa
/-
  What the tested functions that hold an argument against a value answer: stepM.
-/
namespace Go.Proofs.Ytfgigcdfmkfkjaa
open Go.RowKit
set_option linter.unusedVariables false

theorem below_2boxN (w : World) (o p : Obj) (n : Nat) : Below w.heap.size w (((w.alloc o).alloc p).drewN n) :=
  (((Below.refl w.heap.size w).alloc (Nat.le_refl _) o).alloc (by simp) p).trans ⟨rfl, rfl, rfl, Nat.le_refl _, fun _ _ => rfl⟩

set_option maxRecDepth 100000 in
theorem clip_any (a : Option Addr) (cap : Nat) (M : List B4) (w : World) (hr : RdBind w a M) (hc : M.length ≤ cap) (hm : M.length ≤ 2097152) :
    Calls Try.prog 99 #[.slice a M.length cap] w fun e w' => (∃ a', e = .returned (.slice a' M.length M.length) ∧ RdBind w a' M) ∧ w' = w := by
  go_enter Try.func99, Try.ntmps99
  go_wp2
  go_ret
  exact ⟨⟨a, rfl, hr⟩, rfl⟩

/-- the list of binds on the way: the caller's own, without spare room, or one of the call's own -/
def BL (base : Nat) (W : World) (a : Option Addr) (cap : Nat) (M : List B4) : Prop :=
  RdBind W a M ∧ (cap = M.length ∧ (a = none → M.length = 0) ∨ W.ownsRow base 107 4 (.slice a M.length cap) M.length (rowOf B4.cs M))
theorem BL.below {base : Nat} {W W' : World} {a : Option Addr} {cap : Nat} {M : List B4} (h : BL base W a cap M) (hb : Below W.heap.size W W') : BL base W' a cap M :=
  ⟨h.1.below hb, h.2.imp id (fun h => ownsRow_below' h hb)⟩

set_option maxRecDepth 100000 in
set_option maxHeartbeats 1600000 in
theorem matchAny_any (K : Int) (S : ByteArray) (V u : V3) (v : Value) (w : World) :
    Calls Try.prog 133 #[.agg #[.int .i64 K, .string S, .int .i64 V.K, .int .i64 V.N, .string V.S], .agg #[.int .i64 u.K, .int .i64 u.N, .string u.S], v] w fun e w' =>
      e = .returned (.tuple #[v, .bool true]) ∧ Below w.heap.size w w' := by
  go_enter Try.func133, Try.ntmps133
  go_wp2
  go_returns
  exact ⟨rfl, by go_grown⟩

set_option maxRecDepth 100000 in
set_option maxHeartbeats 1600000 in
theorem matchVal_any (K : Int) (S : ByteArray) (V u : V3) (v : Value) (w : World) :
    Calls Try.prog 132 #[.agg #[.int .i64 K, .string S, .int .i64 V.K, .int .i64 V.N, .string V.S], .agg #[.int .i64 u.K, .int .i64 u.N, .string u.S], v] w fun e w' =>
      e = .returned (.tuple #[v, .bool (decide (V = u))]) ∧ Below w.heap.size w w' := by
  rcases v3_cases V u with rfl | ⟨hne, hv⟩
  · have k1 : (V.K == V.K) = true := by simp
    have k2 : (V.N == V.N) = true := by simp
    have k3 : (V.S.toList == V.S.toList) = true := by simp
    rw [decide_eq_true rfl]
    go_enter Try.func132, Try.ntmps132
    go_wp2
    go_quiet (fail)
    go_wp2
    go_returns
    exact ⟨rfl, below_2boxN _ _ _ _⟩
  · rw [decide_eq_false hne]
    clear hne
    rcases hv with k1 | ⟨k1, k2⟩ | ⟨k1, k2, k3⟩
    all_goals
      go_enter Try.func132, Try.ntmps132
      go_wp2
      go_quiet (fail)
      go_wp2
      go_returns
      exact ⟨rfl, below_2boxN _ _ _ _⟩

theorem ownsRow_lowK {w : World} {base base' size n : Nat} {e : TypeId} {v : Value} {xs : List Value} (h : w.ownsRow base e size v n xs) (hb : base' ≤ base) : w.ownsRow base' e size v n xs := by
  refine ⟨h.1, ?_⟩
  rcases h.2 with h2 | ⟨g, cap, cur, h1, hb', rest⟩
  · exact .inl h2
  · exact .inr ⟨g, cap, cur, h1, Nat.le_trans hb hb', rest⟩
def GivesM (e : Ending) (w' : World) (base : Nat) (w : World) (r : List B4 × Bool) : Prop := ∃ a' cap', e = .returned (.tuple #[.slice a' r.1.length cap', .bool r.2]) ∧ BL base w' a' cap' r.1 ∧ Below base w w'
theorem rdK_src {α : Type} [Inhabited α] {f : α → List Value} {k : Nat} (hk : ∀ x, (f x).length = k) (hp : 0 < k) {w : World} {b : Addr} {L : List α} (h : RdK f k w (some b) L) : ∀ j u, (rowOf f L)[j]? = some u → w.cell? (b.add j) = some u := by
  intro j u hj
  have hl : j < L.length * k := by rw [← rowOf_length hk]; exact (List.getElem?_eq_some_iff.1 hj).1
  have hi : j / k < L.length := (Nat.div_lt_iff_lt_mul hp).2 hl
  have hr : j % k < k := Nat.mod_lt _ hp
  have ej : j = (j / k) * k + j % k := (Nat.div_add_mod' j k).symm
  obtain ⟨b', off, e, hc⟩ := h (j / k) hi
  simp only [Option.some.injEq] at e
  subst e
  rw [ej, rowOf_get hk L (j / k) (j % k) hi hr, ← eAt_in hi] at hj
  have := hc (j % k) u hj
  rw [Addr.add_lit]
  rw [Nat.add_assoc, ← ej] at this
  exact this
set_option maxRecDepth 100000 in
set_option maxHeartbeats 3200000 in
theorem matchVar_any (S : ByteArray) (V u : V3) (a : Option Addr) (cap base : Nat) (M : List B4) (w : World) (hbase : base ≤ w.heap.size) (h : BL base w a cap M) (hs : ∀ x ∈ M, x.small) (hm : M.length ≤ 2000000) :
    Calls Try.prog 131 #[.agg #[.int .i64 1, .string S, .int .i64 V.K, .int .i64 V.N, .string V.S], .agg #[.int .i64 u.K, .int .i64 u.N, .string u.S], .slice a M.length cap] w fun e w' =>
      GivesM e w' base w (stepM M ⟨1, S, V⟩ u) := by
  obtain ⟨i0, hi, hz0, hz1, hz2⟩ := info_parts Try.info107
  have b0 := below_al w (.cells #[.int .i64 1, .string S, .int .i64 V.K, .int .i64 V.N, .string V.S] 157)
  have b1 := b0.alloc b0.size (.cells #[.int .i64 u.K, .int .i64 u.N, .string u.S] 105)
  have hA := box_old (boxk_new w #[.int .i64 1, .string S, .int .i64 V.K, .int .i64 V.N, .string V.S] 157) (by simp) (.cells #[.int .i64 u.K, .int .i64 u.N, .string u.S] 105)
  have hU := boxk_new (w.alloc (.cells #[.int .i64 1, .string S, .int .i64 V.K, .int .i64 V.N, .string V.S] 157)) #[.int .i64 u.K, .int .i64 u.N, .string u.S] 105
  simp only [World.size_alloc] at hU
  have h1 := h.below b1
  have hz : w.heap.size + 2 ≤ ((w.alloc (.cells #[.int .i64 1, .string S, .int .i64 V.K, .int .i64 V.N, .string V.S] 157)).alloc (.cells #[.int .i64 u.K, .int .i64 u.N, .string u.S] 105)).heap.size := by simp
  obtain ⟨n, hN⟩ : ∃ n, n = M.length := ⟨_, rfl⟩
  have HBO := hide (fun W (h : RdBind W a M) => implBindOf_any a cap M S W h hs (by omega))
  rw [← hN] at HBO hm ⊢
  have HN := hide hN
  clear hN hs h
  cases hb : bindO M S with
  | some v =>
    rw [hb] at HBO
    rw [stepM_K1 hb]
    clear hb
    simp only [bindA] at HBO
    obtain ⟨r, hr⟩ : ∃ r : Bool, r = decide (v = u) := ⟨_, rfl⟩
    rw [← hr]
    go_enter Try.func131, Try.ntmps131
    go_wp2_with fail
    refine (HBO.out _ h1.1).mono ?_
    generalize (w.alloc (.cells #[.int .i64 1, .string S, .int .i64 V.K, .int .i64 V.N, .string V.S] 157)).alloc (.cells #[.int .i64 u.K, .int .i64 u.N, .string u.S] 105) = w1 at b1 hA hU h1 hz
    rintro e w2 ⟨rfl, hb2⟩
    have HA := hide (box_below hA hb2 (by omega))
    have HU := hide (box_below hU hb2 (by omega))
    have h2 := h1.below hb2
    have hB2 : Below w.heap.size w w2 := b1.trans (hb2.mono b1.size)
    have hz2' : w.heap.size + 2 ≤ w2.heap.size := Nat.le_trans hz hb2.size
    clear hA hU h1 hb2 b0 b1 HBO
    obtain ⟨u0, u1, u2, -, -, -⟩ := box_cell (box_old HU.out (by omega) (.cells #[.int .i64 v.K, .int .i64 v.N, .string v.S] 105))
    obtain ⟨x0, x1, x2, -, -, -⟩ := box_cell (boxk_new w2 #[.int .i64 v.K, .int .i64 v.N, .string v.S] 105)
    have b3 := hB2.alloc hB2.size (.cells #[.int .i64 v.K, .int .i64 v.N, .string v.S] 105)
    have h3 := h2.below (below_al w2 (.cells #[.int .i64 v.K, .int .i64 v.N, .string v.S] 105))
    have HG : Hid (∀ n', GivesM (.returned (.tuple #[.slice a n cap, .bool r])) ((w2.alloc (.cells #[.int .i64 v.K, .int .i64 v.N, .string v.S] 105)).drewN n') base w (M, r)) := fun n' =>
      ⟨a, cap, by rw [HN.out], ⟨h3.1.heap rfl, h3.2⟩, (b3.mono hbase).trans ⟨rfl, rfl, rfl, Nat.le_refl _, fun _ _ => rfl⟩⟩
    clear h2 hB2
    rcases v3_cases v u with he | ⟨hne, hv⟩
    · obtain rfl : r = true := by rw [hr]; simpa using he
      subst he
      clear hr
      have k1 : (v.K == v.K) = true := by simp
      have k2 : (v.N == v.N) = true := by simp
      have k3 : (v.S.toList == v.S.toList) = true := by simp
      go_wp2
      go_quiet (fail)
      go_wp2
      go_returns
      exact HG.out _
    · obtain rfl : r = false := by rw [hr]; simpa using hne
      clear hr hne
      rcases hv with k1 | ⟨k1, k2⟩ | ⟨k1, k2, k3⟩
      all_goals
        go_wp2
        go_quiet (fail)
        go_wp2
        go_returns
        exact HG.out _
  | none =>
    rw [hb] at HBO
    rw [stepM_K1n hb]
    clear hb
    simp only [bindA] at HBO
    go_enter Try.func131, Try.ntmps131
    go_wp2_with fail
    refine (HBO.out _ h1.1).mono ?_
    generalize (w.alloc (.cells #[.int .i64 1, .string S, .int .i64 V.K, .int .i64 V.N, .string V.S] 157)).alloc (.cells #[.int .i64 u.K, .int .i64 u.N, .string u.S] 105) = w1 at b1 hA hU h1 hz
    rintro e w2 ⟨rfl, hb2⟩
    have HA := hide (box_below hA hb2 (by omega))
    have HU := hide (box_below hU hb2 (by omega))
    have h2 := h1.below hb2
    have hB2 : Below w.heap.size w w2 := b1.trans (hb2.mono b1.size)
    have hz2' : w.heap.size + 2 ≤ w2.heap.size := Nat.le_trans hz hb2.size
    clear hA hU h1 hb2 b0 b1 HBO
    have b3 := hB2.alloc hB2.size (.cells #[.int .i64 0, .int .i64 0, .string ⟨#[]⟩] 105)
    have hz3 : w.heap.size + 2 ≤ (w2.alloc (.cells #[.int .i64 0, .int .i64 0, .string ⟨#[]⟩] 105)).heap.size := by simp; omega
    have h3 := h2.below (below_al w2 (.cells #[.int .i64 0, .int .i64 0, .string ⟨#[]⟩] 105))
    have s1 := boxk_cell (box_old HA.out (by omega) (.cells #[.int .i64 0, .int .i64 0, .string ⟨#[]⟩] 105)) 1 _ rfl
    obtain ⟨u0, u1, u2, -, -, -⟩ := box_cell (box_old HU.out (by omega) (.cells #[.int .i64 0, .int .i64 0, .string ⟨#[]⟩] 105))
    have HZ0 := hide (by exact (rfl : w2.alloc (.cells #[.int .i64 0, .int .i64 0, .string ⟨#[]⟩] 105) = w2.alloc (.cells #[.int .i64 0, .int .i64 0, .string ⟨#[]⟩] 105)))
    obtain ⟨w3, hw3⟩ : ∃ w3, w3 = w2.alloc (.cells #[.int .i64 0, .int .i64 0, .string ⟨#[]⟩] 105) := ⟨_, rfl⟩
    have b4 := b3.alloc b3.size (.cells #[.string S, .int .i64 u.K, .int .i64 u.N, .string u.S] 107)
    have h4 := h3.below (below_al (w2.alloc (.cells #[.int .i64 0, .int .i64 0, .string ⟨#[]⟩] 105)) (.cells #[.string S, .int .i64 u.K, .int .i64 u.N, .string u.S] 107))
    have HSrc := hide (src4 (w2.alloc (.cells #[.int .i64 0, .int .i64 0, .string ⟨#[]⟩] 105)) ⟨S, u⟩)
    have HL : Hid ((rowOf B4.cs M).length = n * 4) := by unfold Hid; rw [rowOf_length B4.len, HN.out]
    have HApp : Hid (rowOf B4.cs M ++ B4.cs ⟨S, u⟩ = rowOf B4.cs (M ++ [⟨S, u⟩])) := by unfold Hid; rw [rowOf_append]; simp [rowOf]
    clear h2 hB2 h3 HZ0 hw3
    have hz5 : w.heap.size ≤ ((w2.alloc (.cells #[.int .i64 0, .int .i64 0, .string ⟨#[]⟩] 105)).alloc (.cells #[.string S, .int .i64 u.K, .int .i64 u.N, .string u.S] 107)).heap.size := b4.size
    rcases h4 with ⟨rd4, hcap | ho4⟩
    · obtain ⟨hc1, hc2⟩ := hcap
      have HNone : Hid (a = none → n = 0 ∧ cap = 0) := fun e => by have := hc2 e; rw [HN.out, hc1]; exact ⟨this, this⟩
      have hcn : cap = n := by rw [hc1, HN.out]
      subst hcn
      have HOld : Hid (∀ b, a = some b → ∀ j x, (rowOf B4.cs M)[j]? = some x → ((w2.alloc (.cells #[.int .i64 0, .int .i64 0, .string ⟨#[]⟩] 105)).alloc (.cells #[.string S, .int .i64 u.K, .int .i64 u.N, .string u.S] 107)).cell? (b.add j) = some x) := fun b e => by subst e; exact rdK_src B4.len (by decide) rd4
      clear hc1 hc2 rd4
      go_wp2_with (at_builtin; refine wpList_append_grows _ rfl (.tmp 22) (.tmp 27) 28 rfl 107 i0 (.agg #[.string ⟨#[]⟩, .int .i64 0, .int .i64 0, .string ⟨#[]⟩]) 4 48 Try.underlying28 hi hz0 hz1 hz2 rfl (by omega) a cap cap (rowOf B4.cs M) rfl HNone.out HL.out HOld.out ⟨(w2.alloc (.cells #[.int .i64 0, .int .i64 0, .string ⟨#[]⟩] 105)).heap.size, 0, none⟩ 1 1 (B4.cs ⟨S, u⟩) ?hx rfl HSrc.out (one4 _) (by omega) (by unfold maxLen; omega) (by omega) ?_)
      case hx => simp [Act.eval]
      intro v' w5 ho5 hg5
      rw [HApp.out] at ho5
      obtain ⟨a5, c5, rfl, rd5, hn5, -, -⟩ := rdK_owns B4.len (by decide) ho5
      have HG : Hid (GivesM (.returned (.tuple #[.slice a5 (M ++ [(⟨S, u⟩ : B4)]).length c5, .bool true])) w5 base w (M ++ [(⟨S, u⟩ : B4)], true)) := by
        refine ⟨a5, c5, rfl, ⟨rd5, .inr ?_⟩, (b4.mono hbase).grown hg5 (by omega) (fun k hk => by cases hk)⟩
        rw [hn5] at ho5
        exact ownsRow_lowK ho5 (by omega)
      clear ho5 hg5 rd5 hn5
      go_wp2
      go_returns
      exact HG.out
    · have HO4 := hide ho4
      have hn4 : (Value.slice a M.length cap) = .slice a n cap := by rw [HN.out]
      rw [hn4, ← HN.out] at HO4
      clear ho4 rd4 hn4
      go_wp2_with (at_builtin; refine wpList_append_lies _ rfl (.tmp 22) (.tmp 27) 28 rfl base 107 i0 (.agg #[.string ⟨#[]⟩, .int .i64 0, .int .i64 0, .string ⟨#[]⟩]) 4 48 Try.underlying28 hi hz0 hz1 hz2 rfl (by omega) (.slice a n cap) n (rowOf B4.cs M) rfl HO4.out ⟨(w2.alloc (.cells #[.int .i64 0, .int .i64 0, .string ⟨#[]⟩] 105)).heap.size, 0, none⟩ 1 1 (B4.cs ⟨S, u⟩) ?hx rfl HSrc.out (one4 _) (by omega) (by unfold maxLen; omega) (by omega) (by omega) _ rfl ?_)
      case hx => simp [Act.eval]
      intro g5 c5 w5 ho5 hg5 hat5 hlt5
      rw [HApp.out] at ho5
      obtain ⟨a5, c6, e5, rd5, hn5, -, -⟩ := rdK_owns B4.len (by decide) ho5
      simp only [Value.slice.injEq] at e5
      obtain ⟨rfl, e6, rfl⟩ := e5
      have HG : Hid (GivesM (.returned (.tuple #[.slice (some ⟨g5, 0, none⟩) (n + 1) c5, .bool true])) w5 base w (M ++ [(⟨S, u⟩ : B4)], true)) := by
        refine ⟨some ⟨g5, 0, none⟩, c5, by rw [hn5], ⟨rd5, .inr ?_⟩, (b4.mono hbase).grown hg5 (by omega) (fun k hk => (HO4.out.lt k hk).1)⟩
        rw [hn5] at ho5
        exact ho5
      clear ho5 hg5 rd5 hn5 e6 HO4 hat5 hlt5
      go_wp2
      go_returns
      exact HG.out
end Go.Proofs.Ytfgigcdfmkfkjaa
