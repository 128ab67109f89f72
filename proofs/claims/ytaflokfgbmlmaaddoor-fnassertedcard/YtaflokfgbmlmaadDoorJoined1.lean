/-
  Texts of this claim joined into one: RowOf, ItemRow, FactArg, StoreArg, ToFact, LawStore, ToStore, CopyF, KeepS, CopyI, CopyL, AssP, EqStore, IdP, IdOfS.
-/
import Derived.Test.YtaflokfgbmlmaadDoorJBox2
import Derived.Test.YtaflokfgbmlmaadDoorJValRow
import Derived.Lib.SmallJoins
import Derived.Deep.Slices
import Derived.Deep.Strs
import Derived.ProofKit
import Derived.OpenShut
import Derived.ShutString
import Derived.ChangeOld
import Derived.Below
import Derived.Test.YtaflokfgbmlmaadDoorJLawFact
import Derived.OwnWalk
import Derived.Deep.AppendLies
import Derived.Deep.Upon
import Derived.Deep.RegionWith
import Derived.Deep.RegionHeld3
import Derived.Test.YtaflokfgbmlmaadDoorJKeepF
import Derived.Test.YtaflokfgbmlmaadDoorJFactL
import Derived.Test.YtaflokfgbmlmaadDoorJFactSame
/-
  Rows of elements of three cells each, whatever the element: their cells, one by one, and a store of one element.
-/
namespace Go.Proofs.YtaflokfgbmlmaadDoor
open Go.RowKit
set_option linter.unusedVariables false

def rowOf {α : Type} (f : α → List Value) (L : List α) : List Value := L.flatMap f
theorem rowOf_cons {α : Type} (f : α → List Value) (x : α) (L : List α) : rowOf f (x :: L) = f x ++ rowOf f L := by simp [rowOf]
theorem rowOf_append {α : Type} (f : α → List Value) (L M : List α) : rowOf f (L ++ M) = rowOf f L ++ rowOf f M := by simp [rowOf]
theorem rowOf_length {α : Type} {f : α → List Value} {k : Nat} (hk : ∀ x, (f x).length = k) : ∀ L : List α, (rowOf f L).length = L.length * k
  | [] => by simp [rowOf]
  | x :: r => by rw [rowOf_cons, List.length_append, hk, rowOf_length hk r, List.length_cons, Nat.succ_mul, Nat.add_comm]
theorem rowOf_get {α : Type} {f : α → List Value} {k : Nat} (hk : ∀ x, (f x).length = k) : ∀ (L : List α) (i j : Nat) (hi : i < L.length), j < k → (rowOf f L)[i * k + j]? = (f L[i])[j]?
  | [], i, j, hi, _ => absurd hi (Nat.not_lt_zero _)
  | x :: r, 0, j, hi, hj => by rw [rowOf_cons, Nat.zero_mul, Nat.zero_add, List.getElem?_append_left (by rw [hk]; exact hj)]; rfl
  | x :: r, i + 1, j, hi, hj => by
    rw [rowOf_cons, List.getElem?_append_right (by rw [hk, Nat.succ_mul]; omega), hk, show (i + 1) * k + j - k = i * k + j by rw [Nat.succ_mul]; omega]
    exact rowOf_get hk r i j (by simpa using hi) hj
theorem len3 {l : List Value} (h : l.length = 3) : ∃ a b c, l = [a, b, c] := by
  match l, h with
  | [a, b, c], _ => exact ⟨a, b, c, rfl⟩
theorem rowOf_set3 {α : Type} {f : α → List Value} (hk : ∀ x, (f x).length = 3) (x : α) (c0 c1 c2 : Value) (hx : f x = [c0, c1, c2]) : ∀ (L : List α) (i : Nat), i < L.length →
    (((rowOf f L).set (i * 3) c0).set (i * 3 + 1) c1).set (i * 3 + 2) c2 = rowOf f (L.set i x)
  | [], i, hi => absurd hi (Nat.not_lt_zero _)
  | y :: r, 0, hi => by
    obtain ⟨a, b, c, e⟩ := len3 (hk y)
    rw [rowOf_cons, e, List.set_cons_zero, rowOf_cons, hx]
    rfl
  | y :: r, i + 1, hi => by
    obtain ⟨a, b, c, e⟩ := len3 (hk y)
    have ih := rowOf_set3 hk x c0 c1 c2 hx r i (by simpa using hi)
    rw [rowOf_cons, e, List.set_cons_succ, rowOf_cons, ← ih, e]
    simp only [Nat.succ_mul]
    rfl
theorem rowOf_replicate {α : Type} {f : α → List Value} {x : α} {c0 c1 c2 : Value} (hx : f x = [c0, c1, c2]) (n : Nat) : (madeCells #[c0, c1, c2] (n * 3)).toList = rowOf f (List.replicate n x) := by
  induction n with
  | zero => simp [madeCells, rowOf]
  | succ n ih =>
    apply List.ext_getElem?
    intro j
    rw [List.replicate_succ, rowOf_cons, hx]
    by_cases hj : j < 3
    · match j, hj with
      | 0, _ => simp [madeCells, show 0 < (n + 1) * 3 by omega]
      | 1, _ => simp [madeCells, show 1 < (n + 1) * 3 by omega]
      | 2, _ => simp [madeCells, show 2 < (n + 1) * 3 by omega]
    · rw [List.getElem?_append_right (by simp; omega), ← ih]
      simp only [List.length_cons, List.length_nil]
      by_cases hl : j < (n + 1) * 3
      · have h1 : j - 3 < n * 3 := by omega
        have h2 : (j - 3) % 3 = j % 3 := by omega
        simp [madeCells, hl, h1, h2]
      · have h1 : ¬ j - 3 < n * 3 := by omega
        simp [madeCells, hl, h1]
end Go.Proofs.YtaflokfgbmlmaadDoor
/-
  Items as they lie in memory (It), rows of them, and what a slice of items reads as (RdI).
-/
namespace Go.Proofs.YtaflokfgbmlmaadDoor
open Go.RowKit
set_option linter.unusedVariables false

/-- an item as it lies: its Id, its fact's kind, where the fact's values lie, and which they are -/
structure It where
  id : Int
  kd : ByteArray
  a : Option Addr
  cap : Nat
  L : List V3
instance : Inhabited It := ⟨⟨0, ⟨#[]⟩, none, 0, []⟩⟩
/-- an item, plainly -/
structure P4 where
  id : Int
  kd : ByteArray
  L : List V3
instance : Inhabited P4 := ⟨⟨0, ⟨#[]⟩, []⟩⟩
theorem P4.ext' {a b : P4} (h1 : a.id = b.id) (h2 : a.kd = b.kd) (h3 : a.L = b.L) : a = b := by cases a; cases b; simp_all
def It.pl (x : It) : P4 := ⟨x.id, x.kd, x.L⟩
def It.cells (x : It) : List Value := [.int .i64 x.id, .string x.kd, .slice x.a x.L.length x.cap]
theorem It.cells_length (x : It) : x.cells.length = 3 := rfl
def iAt (J : List It) (i : Nat) : It := J.getD i default
theorem iAt_in {J : List It} {i : Nat} (h : i < J.length) : iAt J i = J[i] := by simp [iAt, List.getD, h]
theorem iAt_set {J : List It} {k : Nat} (h : k < J.length) (x : It) (i : Nat) : iAt (J.set k x) i = if i = k then x else iAt J i := by
  unfold iAt List.getD
  rw [List.getElem?_set]
  by_cases e : k = i
  · subst e; rw [if_pos rfl, if_pos rfl, if_pos h]; rfl
  · rw [if_neg e, if_neg (fun h => e h.symm)]
theorem pl_ext {J K : List It} (hl : J.length = K.length) (h : ∀ i, i < J.length → (iAt J i).pl = (iAt K i).pl) : J.map It.pl = K.map It.pl := by
  apply List.ext_getElem (by simpa using hl)
  intro i h1 h2
  have hi : i < J.length := by simpa using h1
  have := h i hi
  rw [iAt_in hi, iAt_in (by omega)] at this
  simpa using this
theorem pl_len {J K : List It} (h : J.map It.pl = K.map It.pl) : J.length = K.length := by simpa using congrArg List.length h
theorem pl_at {J K : List It} (h : J.map It.pl = K.map It.pl) {i : Nat} (hi : i < J.length) : (iAt J i).id = (iAt K i).id ∧ (iAt J i).kd = (iAt K i).kd ∧ (iAt J i).L = (iAt K i).L := by
  have hk : i < K.length := by rw [← pl_len h]; exact hi
  have e : (J.map It.pl)[i]? = (K.map It.pl)[i]? := by rw [h]
  rw [List.getElem?_map, List.getElem?_map, List.getElem?_eq_getElem hi, List.getElem?_eq_getElem hk] at e
  simp only [Option.map_some, Option.some.injEq, It.pl, P4.mk.injEq] at e
  rw [iAt_in hi, iAt_in hk]
  exact e

/-- what the slice at 'a' reads as -/
def RdI (w : World) (a : Option Addr) (J : List It) : Prop :=
  ∀ i, i < J.length → ∃ b off, a = some ⟨b, off, none⟩ ∧ w.cell? ⟨b, off + i * 3, none⟩ = some (.int .i64 (iAt J i).id) ∧ w.cell? ⟨b, off + i * 3 + 1, none⟩ = some (.string (iAt J i).kd) ∧ w.cell? ⟨b, off + i * 3 + 2, none⟩ = some (.slice (iAt J i).a (iAt J i).L.length (iAt J i).cap) ∧ RdV w (iAt J i).a (iAt J i).L
theorem RdI.open {w : World} {a : Option Addr} {J : List It} (h : RdI w a J) (hp : 0 < J.length) :
    ∃ b off, a = some ⟨b, off, none⟩ ∧ b < w.heap.size ∧ ∀ i, i < J.length → w.cell? ⟨b, off + i * 3, none⟩ = some (.int .i64 (iAt J i).id) ∧ w.cell? ⟨b, off + i * 3 + 1, none⟩ = some (.string (iAt J i).kd) ∧ w.cell? ⟨b, off + i * 3 + 2, none⟩ = some (.slice (iAt J i).a (iAt J i).L.length (iAt J i).cap) ∧ RdV w (iAt J i).a (iAt J i).L := by
  obtain ⟨b, off, rfl, h0, -, -, -⟩ := h 0 hp
  refine ⟨b, off, rfl, World.block_lt_of_cell? w _ h0, fun i hi => ?_⟩
  obtain ⟨b2, off2, e, h1⟩ := h i hi
  simp only [Option.some.injEq, Addr.mk.injEq] at e
  rw [e.1, e.2.1]; exact h1
theorem RdI.below {w w' : World} {a : Option Addr} {J : List It} (h : RdI w a J) (hb : Below w.heap.size w w') : RdI w' a J := by
  intro i hi
  obtain ⟨b, off, e, h0, h1, h2, h3⟩ := h i hi
  have k : ∀ {p : Addr} {v : Value}, w.cell? p = some v → w'.cell? p = some v := fun {p v} h => by rw [hb.cell (World.block_lt_of_cell? w _ h)]; exact h
  exact ⟨b, off, e, k h0, k h1, k h2, h3.below hb⟩
theorem RdI.nil (w : World) (a : Option Addr) : RdI w a [] := fun i hi => absurd hi (Nat.not_lt_zero _)
/-- what a call's own row of items reads as -/
theorem rdI_owns {w : World} {base n : Nat} {T : TypeId} {a : Option Addr} {m cap : Nat} {J : List It} (h : w.ownsRow base T 3 (.slice a m cap) n (rowOf It.cells J)) (hv : ∀ i, i < J.length → RdV w (iAt J i).a (iAt J i).L) :
    RdI w a J ∧ n = J.length ∧ m = J.length := by
  have hn : n = J.length := by have := h.1; rw [rowOf_length It.cells_length] at this; omega
  subst hn
  rcases h.2 with ⟨h1, h0⟩ | ⟨g, cap', cur, h1, hb, hg, hnc, hcm, hsz, htake⟩
  · simp only [Value.slice.injEq] at h1
    exact ⟨fun i hi => by omega, rfl, by omega⟩
  · simp only [Value.slice.injEq] at h1
    obtain ⟨rfl, rfl, rfl⟩ := h1
    refine ⟨fun i hi => ⟨g, 0, rfl, ?_⟩, rfl, rfl⟩
    have e0 := h.cellAt (i * 3) (by omega)
    have e1 := h.cellAt (i * 3 + 1) (by omega)
    have e2 := h.cellAt (i * 3 + 2) (by omega)
    have g0 := rowOf_get It.cells_length J i 0 hi (by omega)
    have g1 := rowOf_get It.cells_length J i 1 hi (by omega)
    have g2 := rowOf_get It.cells_length J i 2 hi (by omega)
    rw [Nat.add_zero] at g0
    rw [Nat.zero_add, iAt_in hi]
    have := hv i hi
    rw [iAt_in hi] at this
    exact ⟨by rw [e0]; exact g0, by rw [e1]; exact g1, by rw [e2]; exact g2, this⟩
end Go.Proofs.YtaflokfgbmlmaadDoor
/-
  A fact that came in: its kind, and what its list of values reads as.
-/
namespace Go.Proofs.YtaflokfgbmlmaadDoor
open Go.ChangeShapes Go.WideShapes Go.ChangeAt Go.RowKit Go.Joins Go.Deep
set_option linter.unusedVariables false
set_option maxRecDepth 100000

/-- a list of values that came in -/
def IsVals (w : World) (a : Option Addr) (len cap : Nat) (L : List V3) : Prop := L.length = len ∧ len ≤ maxLen ∧ RdV w a L ∧ ∀ v ∈ L, v.S.size ≤ maxLen

theorem three_cells {H : Type} {enc : TypeId × Value → H} {w : World} {base : Nat} {spare : Nat → Bool} {held : Bool} {n : Nat} {cs : List Value} {x : DataW H × List MemPlace}
    (h : DataW.trod enc Tryd.prog w base spare held n 101 cs = some x) :
    ∃ K N S, cs = [.int .i64 K, .int .i64 N, .string S] ∧ S.size ≤ maxLen := by
  obtain ⟨y0, y1, y2, m, -, hl, h0, h1, h2⟩ := trod_struct3 Tryd.underlying101 h
  have hc : Tryd.prog.cellsOf 101 = 3 := by kernel_rfl
  have hi : Tryd.prog.cellsOf 3 = 1 := by kernel_rfl
  have hs : Tryd.prog.cellsOf 9 = 1 := by kernel_rfl
  rw [hc] at hl
  match cs, hl with
  | [c0, c1, c2], _ =>
    simp only [hi, hs, List.drop_zero, List.drop_succ_cons, List.take_succ_cons, List.take_zero] at h0 h1 h2
    obtain ⟨K, eK, _, _⟩ := DataW.trod_int Tryd.underlying3 h0
    obtain ⟨N, eN, _, _⟩ := DataW.trod_int Tryd.underlying3 h1
    obtain ⟨S, eS, _, wS⟩ := DataW.trod_string Tryd.underlying9 h2
    simp only [List.cons.injEq, and_true] at eK eN eS
    exact ⟨K, N, S, by rw [eK, eN, eS], wS⟩

theorem vals_in {H : Type} {enc : TypeId × Value → H} {w : World} {spare : Nat → Bool} {held : Bool} {n : Nat} {v : Value} {x : DataW H × List MemPlace}
    (h : DataW.trod enc Tryd.prog w 0 spare held n 33 [v] = some x) : ∃ a len cap L, v = .slice a len cap ∧ IsVals w a len cap L := by
  have hc : Tryd.prog.cellsOf 101 = 3 := by kernel_rfl
  rcases open_slice Tryd.underlying33 h with ⟨h0, _⟩ | ⟨a, len, cap, m, n', D, Pl, h0, hb, hl, hm, hmm, _, hx⟩
  · simp only [List.cons.injEq, and_true] at h0
    exact ⟨none, 0, 0, [], h0, rfl, Nat.zero_le _, RdV.nil _ _, fun v hv => by cases hv⟩
  · simp only [List.cons.injEq, and_true] at h0
    have hlm : len ≤ m := by rw [hmm]; split <;> omega
    obtain ⟨F, hF⟩ := choose_lt (α := V3) (n := len) (p := fun i v => w.cells? 0 (a.add (i * 3)) 3 = some [.int .i64 v.K, .int .i64 v.N, .string v.S] ∧ v.S.size ≤ maxLen) (fun i hi => by
      obtain ⟨cs', h1, h2⟩ := hx i (by omega)
      rw [hc] at h1
      obtain ⟨K, N, S, rfl, hs⟩ := three_cells h2
      exact ⟨⟨K, N, S⟩, h1, hs⟩)
    refine ⟨some a, len, cap, (List.range len).map F, h0, by simp, Nat.le_trans hl hm, fun i hi => ?_, fun v hv => ?_⟩
    · have hi2 : i < len := by simpa using hi
      obtain ⟨_, _, hcell⟩ := World.cells?_some (hF i hi2).1
      obtain ⟨b, off, spot⟩ := a
      have e0 := hcell 0 (by omega)
      have e1 := hcell 1 (by omega)
      have e2 := hcell 2 (by omega)
      rw [add_add] at e0 e1 e2
      have hs : spot = none := by
        obtain ⟨_, _, hcell0⟩ := World.cells?_some (hF 0 (by omega)).1
        have e := hcell0 0 (by omega)
        rw [add_add] at e
        simp only [List.getElem?_cons_zero] at e
        simpa [Addr.add] using World.cell?_spot e
      subst hs
      have ev : vAt ((List.range len).map F) i = F i := by rw [vAt_in hi]; simp
      rw [ev]
      simp only [Addr.add_lit] at e0 e1 e2
      refine ⟨b, off, rfl, ?_, ?_, ?_⟩
      · simpa using e0
      · simpa [Nat.add_assoc] using e1
      · simpa [Nat.add_assoc] using e2
    · obtain ⟨i, hi, rfl⟩ := List.mem_map.1 hv
      exact (hF i (List.mem_range.1 hi)).2
end Go.Proofs.YtaflokfgbmlmaadDoor
/-
  A store that came in: what its list of items reads as.
-/
namespace Go.Proofs.YtaflokfgbmlmaadDoor
open Go.ChangeShapes Go.WideShapes Go.ChangeAt Go.RowKit Go.Joins Go.Deep
set_option linter.unusedVariables false
set_option maxRecDepth 100000

/-- lengths that a machine may hold -/
def okI (x : It) : Prop := x.kd.size ≤ maxLen ∧ x.L.length ≤ maxLen ∧ ∀ v ∈ x.L, v.S.size ≤ maxLen
/-- a list of items that came in -/
def IsItems (w : World) (a : Option Addr) (len cap : Nat) (J : List It) : Prop := J.length = len ∧ len ≤ maxLen ∧ RdI w a J ∧ ∀ i, i < J.length → okI (iAt J i)

theorem item_cells {H : Type} {enc : TypeId × Value → H} {w : World} {spare : Nat → Bool} {held : Bool} {n : Nat} {cs : List Value} {x : DataW H × List MemPlace}
    (h : DataW.trod enc Tryd.prog w 0 spare held n 95 cs = some x) :
    ∃ y : It, cs = y.cells ∧ RdV w y.a y.L ∧ okI y := by
  obtain ⟨y0, y1, m, -, hl, h0, h1⟩ := trod_struct2 Tryd.underlying95 h
  have hc : Tryd.prog.cellsOf 95 = 3 := by kernel_rfl
  have hi : Tryd.prog.cellsOf 3 = 1 := by kernel_rfl
  have hf : Tryd.prog.cellsOf 35 = 2 := by kernel_rfl
  have hs : Tryd.prog.cellsOf 9 = 1 := by kernel_rfl
  have hv : Tryd.prog.cellsOf 33 = 1 := by kernel_rfl
  rw [hc] at hl
  match cs, hl with
  | [c0, c1, c2], _ =>
    simp only [hi, hf, List.drop_zero, List.drop_succ_cons, List.take_succ_cons, List.take_zero] at h0 h1
    obtain ⟨K, eK, _, _⟩ := DataW.trod_int Tryd.underlying3 h0
    obtain ⟨z0, z1, m', -, -, g0, g1⟩ := trod_struct2 Tryd.underlying35 h1
    simp only [hs, hv, List.drop_zero, List.drop_succ_cons, List.take_succ_cons, List.take_zero] at g0 g1
    obtain ⟨S, eS, _, wS⟩ := DataW.trod_string Tryd.underlying9 g0
    obtain ⟨a, len, cap, L, e2, hlen, hm, hr, hsz⟩ := vals_in g1
    simp only [List.cons.injEq, and_true] at eK eS
    exact ⟨⟨K, S, a, cap, L⟩, by rw [eK, eS, e2, ← hlen]; rfl, hr, wS, by rw [hlen]; exact hm, hsz⟩

theorem items_in {H : Type} {enc : TypeId × Value → H} {w : World} {spare : Nat → Bool} {held : Bool} {n : Nat} {v : Value} {x : DataW H × List MemPlace}
    (h : DataW.trod enc Tryd.prog w 0 spare held n 22 [v] = some x) : ∃ a len cap J, v = .slice a len cap ∧ IsItems w a len cap J := by
  have hc : Tryd.prog.cellsOf 95 = 3 := by kernel_rfl
  rcases open_slice Tryd.underlying22 h with ⟨h0, _⟩ | ⟨a, len, cap, m, n', D, Pl, h0, hb, hl, hm, hmm, _, hx⟩
  · simp only [List.cons.injEq, and_true] at h0
    exact ⟨none, 0, 0, [], h0, rfl, Nat.zero_le _, RdI.nil _ _, fun v hv => absurd hv (Nat.not_lt_zero _)⟩
  · simp only [List.cons.injEq, and_true] at h0
    have hlm : len ≤ m := by rw [hmm]; split <;> omega
    obtain ⟨F, hF⟩ := choose_lt (α := It) (n := len) (p := fun i y => w.cells? 0 (a.add (i * 3)) 3 = some y.cells ∧ RdV w y.a y.L ∧ okI y) (fun i hi => by
      obtain ⟨cs', h1, h2⟩ := hx i (by omega)
      rw [hc] at h1
      obtain ⟨y, rfl, hr, ho⟩ := item_cells h2
      exact ⟨y, h1, hr, ho⟩)
    have hat : ∀ i, i < len → iAt ((List.range len).map F) i = F i := fun i hi => by rw [iAt_in (by simpa using hi)]; simp
    refine ⟨some a, len, cap, (List.range len).map F, h0, by simp, Nat.le_trans hl hm, fun i hi => ?_, fun i hi => ?_⟩
    · have hi2 : i < len := by simpa using hi
      obtain ⟨_, _, hcell⟩ := World.cells?_some (hF i hi2).1
      obtain ⟨b, off, spot⟩ := a
      have e0 := hcell 0 (by omega)
      have e1 := hcell 1 (by omega)
      have e2 := hcell 2 (by omega)
      rw [add_add] at e0 e1 e2
      have hs : spot = none := by
        obtain ⟨_, _, hcell0⟩ := World.cells?_some (hF 0 (by omega)).1
        have e := hcell0 0 (by omega)
        rw [add_add] at e
        simp only [It.cells, List.getElem?_cons_zero] at e
        simpa [Addr.add] using World.cell?_spot e
      subst hs
      rw [hat i hi2]
      simp only [Addr.add_lit] at e0 e1 e2
      refine ⟨b, off, rfl, ?_, ?_, ?_, (hF i hi2).2.1⟩
      · simpa [It.cells] using e0
      · simpa [It.cells, Nat.add_assoc] using e1
      · simpa [It.cells, Nat.add_assoc] using e2
    · have hi2 : i < len := by simpa using hi
      rw [hat i hi2]; exact (hF i hi2).2.2
end Go.Proofs.YtaflokfgbmlmaadDoor
/-
  The contracts of the laws' own helpers on facts: toFact copies, eqFact finds a fact the same as itself.
-/
namespace Go.Proofs.YtaflokfgbmlmaadDoor
open Go.RowKit
set_option linter.unusedVariables false

set_option maxRecDepth 100000 in
set_option maxHeartbeats 1600000 in
theorem toFact_any (kd : ByteArray) (a : Option Addr) (cap : Nat) (L : List V3) (w : World) (hr : RdV w a L) (hn : L.length ≤ 1048576) :
    Calls Tryd.prog 14 #[.agg #[.string kd, .slice a L.length cap]] w fun e w' =>
      ∃ g, e = .returned (.agg #[.string kd, .slice (some ⟨g, 0, none⟩) L.length L.length]) ∧ w.heap.size ≤ g ∧ OwnV w' g L.length L ∧ Below w.heap.size w w' := by
  go_enter Tryd.func14, Tryd.ntmps14
  go_wp2_with fail
  have b0 := below_al w (.cells #[.string kd, .slice a L.length cap] 35)
  have b1 := b0.alloc b0.size (.cells #[.string ⟨#[]⟩, .slice none 0 0] 41)
  have b2 := b1.alloc b1.size (.cells #[.string kd, .slice none 0 0] 41)
  have hR := box_old (box2_new (w.alloc (.cells #[.string kd, .slice a L.length cap] 35)) (.string ⟨#[]⟩) (.slice none 0 0) 41) (by simp) (.cells #[.string kd, .slice none 0 0] 41)
  have hX := box2_new ((w.alloc (.cells #[.string kd, .slice a L.length cap] 35)).alloc (.cells #[.string ⟨#[]⟩, .slice none 0 0] 41)) (.string kd) (.slice none 0 0) 41
  simp only [World.size_alloc] at hR hX
  refine (toValS_at a cap L _ (hr.below b2) hn).mono ?_
  rintro e w1 ⟨rfl, ho, hb⟩
  have HR := hide (box_below hR hb (by simp))
  have HX := hide (box_below hX hb (by simp))
  have hB : Below w.heap.size w w1 := b2.trans (hb.mono b2.size)
  have hO := OwnV.of ho
  clear ho hb hR hX b0 b1 b2
  simp only [World.size_alloc] at hO ⊢
  obtain ⟨x0, x1, xf0, xf1⟩ := box2_cell HX.out
  obtain ⟨r0, r1, rf0, rf1⟩ := box2_cell HR.out
  have HX2 := hide (box2_set1 HX.out (.slice (some ⟨w.heap.size + 1 + 1 + 1, 0, none⟩) L.length L.length))
  have HR2 := hide (box_gr HR.out HX2.out.2 (by omega))
  go_wp2
  refine box2_post HR2.out (fun w4 h4 gr => ?_)
  clear x0 x1 xf0 xf1 r0 r1 rf0 rf1
  obtain ⟨c0, c1, -, -⟩ := box2_cell h4
  have hz := hO.lt
  exact bodyPost_ret (v := .agg #[.string kd, .slice (some ⟨w.heap.size + 1 + 1 + 1, 0, none⟩) L.length L.length]) (by simp [results, Tryd.results14, go_sem, c0, c1]) rfl
    ⟨_, rfl, by omega, (hO.grown HX2.out.2 (by omega)).grown gr (by omega), below_set (hB.grown HX2.out.2 hB.size (fun k hk => by cases hk; omega)) gr (by omega)⟩

set_option maxRecDepth 100000 in
set_option maxHeartbeats 1600000 in
theorem eqFact_same (kd : ByteArray) (a b : Option Addr) (ca cb : Nat) (L : List V3) (w : World) (hr : RdV w a L) (hq : RdV w b L) (hn : L.length ≤ 1048580) :
    Calls Tryd.prog 16 #[.agg #[.string kd, .slice a L.length ca], .agg #[.string kd, .slice b L.length cb]] w fun e w' =>
      e = .returned (.bool true) ∧ Below w.heap.size w w' := by
  have k1 : (kd.toList == kd.toList) = true := by simp
  go_enter Tryd.func16, Tryd.ntmps16
  go_wp2_with fail
  have b0 := below_al w (.cells #[.string kd, .slice a L.length ca] 41)
  have b1 := b0.alloc b0.size (.cells #[.string kd, .slice b L.length cb] 41)
  refine (eqValS_same a b ca cb L _ (hr.below b1) (hq.below b1) hn).mono ?_
  rintro e w1 ⟨rfl, hb⟩
  have hB : Below w.heap.size w w1 := b1.trans (hb.mono b1.size)
  go_wp2
  go_ret
  exact ⟨rfl, hB⟩
end Go.Proofs.YtaflokfgbmlmaadDoor
/-
  The contracts of the laws' own helpers on items and stores: how great they are, their copies, and that one is the same as itself.
-/
namespace Go.Proofs.YtaflokfgbmlmaadDoor
open Go.RowKit
set_option linter.unusedVariables false

def szI (x : It) : Nat := x.kd.size + szL x.L
def szJ (J : List It) (k : Nat) : Nat := ((J.take k).map szI).sum
theorem szJ_step {J : List It} {k : Nat} (h : k < J.length) : szJ J (k + 1) = szJ J k + szI (iAt J k) := by
  unfold szJ; rw [List.take_succ_eq_append_getElem h, iAt_in h, List.map_append, List.sum_append]; simp only [List.map_cons, List.map_nil, List.sum_cons, List.sum_nil, Nat.add_zero]
def szSt (J : List It) : Nat := J.length + (J.map szI).sum
theorem szJ_end (J : List It) : szJ J J.length = (J.map szI).sum := by unfold szJ; rw [List.take_length]
theorem szSt_mem {J : List It} {i : Nat} (hi : i < J.length) : szI (iAt J i) + J.length ≤ szSt J := by
  unfold szSt
  have : szI (iAt J i) ≤ (J.map szI).sum := mem_sum (List.mem_map.2 ⟨_, by rw [iAt_in hi]; exact List.getElem_mem hi, rfl⟩)
  omega

set_option maxRecDepth 100000 in
set_option maxHeartbeats 1600000 in
theorem szItem_any (id : Int) (kd : ByteArray) (a : Option Addr) (cap : Nat) (L : List V3) (left : Int) (w : World) (hkd : kd.size ≤ maxLen) (hr : RdV w a L) (hs : ∀ v ∈ L, v.S.size ≤ maxLen) (hm : L.length ≤ maxLen) (h0 : 0 ≤ left) (h1 : left ≤ 1048576) :
    Calls Tryd.prog 56 #[.agg #[.int .i64 id, .string kd, .slice a L.length cap], .int .i64 left] w fun e w' =>
      (∃ r, e = .returned (.int .i64 r) ∧ (r = -1 ∨ (0 ≤ r ∧ r + ((kd.size + szL L : Nat) : Int) = left))) ∧ Below w.heap.size w w' := by
  have b0 := below_al w (.cells #[.int .i64 id, .string kd, .slice a L.length cap] 95)
  go_enter Tryd.func56, Tryd.ntmps56
  go_wp2_with fail
  refine (szFact_any kd a cap L left _ hkd (hr.below b0) hs hm h0 h1).mono ?_
  rintro e w1 ⟨⟨r, rfl, hr1⟩, hb1⟩
  have hB1 : Below w.heap.size w w1 := b0.trans (hb1.mono b0.size)
  clear hb1 b0
  rcases hr1 with rfl | ⟨hr2, hr3⟩
  · go_wp2
    go_ret
    exact ⟨⟨-1, rfl, .inl rfl⟩, hB1⟩
  · have HR := hide hr3
    have h2 : ¬ (r < 0) := by omega
    clear hr3
    go_wp2
    go_ret
    exact ⟨⟨r, rfl, .inr ⟨hr2, HR.out⟩⟩, hB1⟩

set_option maxRecDepth 100000 in
set_option maxHeartbeats 1600000 in
theorem szItemS_any (a : Option Addr) (cap : Nat) (J : List It) (left : Int) (w : World) (hr : RdI w a J) (hs : ∀ i, i < J.length → okI (iAt J i)) (hm : J.length ≤ maxLen) (h0 : 0 ≤ left) (h1 : left ≤ 1048576) :
    Calls Tryd.prog 29 #[.slice a J.length cap, .int .i64 left] w fun e w' =>
      (∃ r, e = .returned (.int .i64 r) ∧ (r = -1 ∨ (0 ≤ r ∧ r + (szSt J : Int) = left))) ∧ Below w.heap.size w w' := by
  unfold maxLen at hm
  obtain ⟨n, hN⟩ : ∃ n, n = J.length := ⟨_, rfl⟩
  rw [← hN] at hm ⊢
  have HN := hide hN
  have HS := hide hs
  clear hN hs
  by_cases h2 : left - (n : Int) < 0
  · go_enter Tryd.func29, Tryd.ntmps29
    go_wp2
    go_ret
    exact ⟨⟨-1, rfl, .inl rfl⟩, Below.refl _ _⟩
  · go_enter Tryd.func29, Tryd.ntmps29
    go_wp2
    go_loopw [1, 5] (fun l i wr => ∃ (k : Nat) (lf : Int), k ≤ n ∧ i = .int .i64 k ∧ l = .int .i64 lf ∧ 0 ≤ lf ∧ lf + (szJ J k : Int) = left - n ∧ Below w.heap.size w wr) (fun _ i _ => n - (intOf i).toNat)
    case atStart => exact ⟨0, left - n, Nat.zero_le _, rfl, rfl, by omega, by simp [szJ], Below.refl _ _⟩
    case round =>
      obtain ⟨k, lf, hk, rfl, rfl, hlf, hsum, hbel⟩ := hrel
      by_cases hlt : k < n
      · obtain ⟨b, off, hab, hbw, hc⟩ := hr.open (by rw [← HN.out]; omega)
        obtain ⟨c0, c1, c2, hv⟩ := hc k (by rw [← HN.out]; exact hlt)
        have HV := hide (hv.below (hbel.mono (Nat.le_refl _)))
        clear hc hv
        subst hab
        rw [← hbel.cell (p := ⟨b, off + k * 3, none⟩) hbw] at c0
        rw [← hbel.cell (p := ⟨b, off + k * 3 + 1, none⟩) hbw] at c1
        rw [← hbel.cell (p := ⟨b, off + k * 3 + 2, none⟩) hbw] at c2
        have HK := hide (HS.out k (by rw [← HN.out]; exact hlt))
        have hst := szJ_step (J := J) (k := k) (by rw [← HN.out]; exact hlt)
        unfold szI at hst
        generalize iAt J k = x at c0 c1 c2 HV HK hst
        obtain ⟨id, kd, va, vc, L⟩ := x
        simp only at c0 c1 c2 HV HK hst
        go_wp2_with fail
        refine (szItem_any id kd va vc L lf _ HK.out.1 HV.out HK.out.2.2 HK.out.2.1 hlf (by omega)).mono ?_
        rintro e w2 ⟨⟨r, rfl, hr1⟩, hb2⟩
        have hbel2 : Below w.heap.size w w2 := hbel.trans (hb2.mono hbel.size)
        clear hb2 c0 c1 c2 hbel
        rcases hr1 with rfl | ⟨hr2, hr3⟩
        · go_wp2
          go_ret
          exact ⟨⟨-1, rfl, .inl rfl⟩, hbel2⟩
        · have HR : Hid (r + (szJ J (k + 1) : Int) = left - n) := by unfold Hid; rw [hst]; omega
          have h3 : ¬ (r < 0) := by omega
          clear hr3 hst hsum
          go_wp2
          go_roundw
          case rel => exact ⟨k + 1, r, by omega, by go_num, rfl, hr2, HR.out, hbel2⟩
          case measure => simp [intOf]; omega
      · have HK : Hid (lf + (szSt J : Int) = left) := by
          unfold Hid szSt
          have := szJ_end J
          have hkn : k = J.length := by rw [← HN.out]; omega
          rw [hkn] at hsum
          have := HN.out
          omega
        clear hsum
        go_wp2
        go_ret
        exact ⟨⟨lf, rfl, .inr ⟨hlf, HK.out⟩⟩, hbel⟩

set_option maxRecDepth 100000 in
set_option maxHeartbeats 1600000 in
theorem szStore_any (a : Option Addr) (cap : Nat) (J : List It) (nx : Int) (left : Int) (w : World) (hr : RdI w a J) (hs : ∀ i, i < J.length → okI (iAt J i)) (hm : J.length ≤ maxLen) (h0 : 0 ≤ left) (h1 : left ≤ 1048576) :
    Calls Tryd.prog 7 #[.agg #[.slice a J.length cap, .int .i64 nx], .int .i64 left] w fun e w' =>
      (∃ r, e = .returned (.int .i64 r) ∧ (r = -1 ∨ (0 ≤ r ∧ r + (szSt J : Int) = left))) ∧ Below w.heap.size w w' := by
  have b0 := below_al w (.cells #[.slice a J.length cap, .int .i64 nx] 24)
  go_enter Tryd.func7, Tryd.ntmps7
  go_wp2_with fail
  refine (szItemS_any a cap J left _ (hr.below b0) hs hm h0 h1).mono ?_
  rintro e w1 ⟨⟨r, rfl, hr1⟩, hb1⟩
  have hB1 : Below w.heap.size w w1 := b0.trans (hb1.mono b0.size)
  clear hb1 b0
  rcases hr1 with rfl | ⟨hr2, hr3⟩
  · go_wp2
    go_ret
    exact ⟨⟨-1, rfl, .inl rfl⟩, hB1⟩
  · have HR := hide hr3
    have h2 : ¬ (r < 0) := by omega
    clear hr3
    go_wp2
    go_ret
    exact ⟨⟨r, rfl, .inr ⟨hr2, HR.out⟩⟩, hB1⟩

end Go.Proofs.YtaflokfgbmlmaadDoor
/-
  The contracts of the laws' own copies of items and stores: what is copied lies in blocks of its own, no two lists in one.
-/
namespace Go.Proofs.YtaflokfgbmlmaadDoor
open Go.RowKit
set_option linter.unusedVariables false

theorem box_set12 {w : World} {q : Nat} {c0 c1 c2 : Value} {T : TypeId} (h : w.heap[q]? = some (.cells #[c0, c1, c2] T (0, 0))) (b c : Value) :
    ((w.setCell ⟨q, 1, none⟩ b).setCell ⟨q, 2, none⟩ c).heap[q]? = some (.cells #[c0, b, c] T (0, 0)) ∧ w.grownBy ((w.setCell ⟨q, 1, none⟩ b).setCell ⟨q, 2, none⟩ c) (some q) := by
  have h2 : (w.setCell ⟨q, 1, none⟩ b).heap[q]? = some (.cells #[c0, b, c2] T (0, 0)) := by rw [heap_setCell_same w q 1 _ T b h]; rfl
  refine ⟨by rw [heap_setCell_same _ q 2 _ T c h2]; rfl, ⟨rfl, rfl, rfl, by simp [World.setCell], fun k _ hk => ?_⟩⟩
  rw [heap_setCell_other _ ⟨q, 2, none⟩ k c (fun e => hk (by simp [e])), heap_setCell_other w ⟨q, 1, none⟩ k b (fun e => hk (by simp [e]))]

set_option maxRecDepth 100000 in
set_option maxHeartbeats 1600000 in
theorem toItem_any (id : Int) (kd : ByteArray) (a : Option Addr) (cap : Nat) (L : List V3) (w : World) (hr : RdV w a L) (hn : L.length ≤ 1048576) :
    Calls Tryd.prog 60 #[.agg #[.int .i64 id, .string kd, .slice a L.length cap]] w fun e w' =>
      ∃ g, e = .returned (.agg #[.int .i64 id, .string kd, .slice (some ⟨g, 0, none⟩) L.length L.length]) ∧ w.heap.size ≤ g ∧ OwnV w' g L.length L ∧ Below w.heap.size w w' := by
  go_enter Tryd.func60, Tryd.ntmps60
  go_wp2_with fail
  have b0 := below_al w (.cells #[.int .i64 id, .string kd, .slice a L.length cap] 95)
  have b1 := b0.alloc b0.size (.cells #[.int .i64 0, .string ⟨#[]⟩, .slice none 0 0] 54)
  have b2 := b1.alloc b1.size (.cells #[.int .i64 id, .string ⟨#[]⟩, .slice none 0 0] 54)
  have hR := box_old (box_new (w.alloc (.cells #[.int .i64 id, .string kd, .slice a L.length cap] 95)) (.int .i64 0) (.string ⟨#[]⟩) (.slice none 0 0) 54) (by simp) (.cells #[.int .i64 id, .string ⟨#[]⟩, .slice none 0 0] 54)
  have hX := box_new ((w.alloc (.cells #[.int .i64 id, .string kd, .slice a L.length cap] 95)).alloc (.cells #[.int .i64 0, .string ⟨#[]⟩, .slice none 0 0] 54)) (.int .i64 id) (.string ⟨#[]⟩) (.slice none 0 0) 54
  simp only [World.size_alloc] at hR hX
  refine (toFact_any kd a cap L _ (hr.below b2) hn).mono ?_
  rintro e w1 ⟨g, rfl, hg, hO, hb⟩
  have HR := hide (box_below hR hb (by simp))
  have HX := hide (box_below hX hb (by simp))
  have hB : Below w.heap.size w w1 := b2.trans (hb.mono b2.size)
  clear hb hR hX b0 b1 b2
  simp only [World.size_alloc] at hg
  obtain ⟨x0, x1, x2, xf0, xf1, xf2⟩ := box_cell HX.out
  obtain ⟨r0, r1, r2, rf0, rf1, rf2⟩ := box_cell HR.out
  have HX2 := hide (box_set12 HX.out (.string kd) (.slice (some ⟨g, 0, none⟩) L.length L.length))
  have HR2 := hide (box_gr HR.out HX2.out.2 (by omega))
  go_wp2
  refine box_post HR2.out (fun w4 h4 gr => ?_)
  clear x0 x1 x2 xf0 xf1 xf2 r0 r1 r2 rf0 rf1 rf2
  obtain ⟨c0, c1, c2, -, -, -⟩ := box_cell h4
  have hz := hO.lt
  exact bodyPost_ret (v := .agg #[.int .i64 id, .string kd, .slice (some ⟨g, 0, none⟩) L.length L.length]) (by simp [results, Tryd.results60, go_sem, c0, c1, c2]) rfl
    ⟨_, rfl, by omega, (hO.grown HX2.out.2 (by omega)).grown gr (by omega), below_set (hB.grown HX2.out.2 hB.size (fun k hk => by cases hk; omega)) gr (by omega)⟩

/-- a list of values in memory, or none -/
def LieV (a : Option Addr) (n cap : Nat) : Prop := (a = none ∧ n = 0 ∧ cap = 0) ∨ ∃ b off, a = some ⟨b, off, none⟩ ∧ n ≤ cap ∧ cap ≤ maxLen
theorem OwnV.lies {w : World} {g cap : Nat} {L : List V3} (h : OwnV w g cap L) : LieV (some ⟨g, 0, none⟩) L.length cap := by
  refine .inr ⟨g, 0, rfl, h.cap, ?_⟩
  rcases h.2 with ⟨h1, _⟩ | ⟨g', cap', cur, h1, hb', hh, hnc, hcm, _⟩
  · simp at h1
  · simp only [Value.slice.injEq] at h1
    omega
theorem LieV.nil : LieV none 0 0 := .inl ⟨rfl, rfl, rfl⟩
/-- block g holds the items K, at its head; the values of each item that has any lie in a block of their own -/
structure HoldsI (w : World) (lo g cp : Nat) (K : List It) : Prop where
  own : w.ownsRow 0 54 3 (.slice (some ⟨g, 0, none⟩) K.length cp) K.length (rowOf It.cells K)
  low : lo ≤ g
  vals : ∀ i, i < K.length → (iAt K i).L ≠ [] → ∃ q, (iAt K i).a = some ⟨q, 0, none⟩ ∧ lo ≤ q ∧ q ≠ g ∧ OwnV w q (iAt K i).cap (iAt K i).L
  apart : ∀ i j, i < j → j < K.length → (iAt K i).L ≠ [] → (iAt K j).L ≠ [] → (iAt K i).a ≠ (iAt K j).a
  lies : ∀ i, i < K.length → LieV (iAt K i).a (iAt K i).L.length (iAt K i).cap
theorem HoldsI.rd {w : World} {lo g cp : Nat} {K : List It} (h : HoldsI w lo g cp K) : RdI w (some ⟨g, 0, none⟩) K :=
  (rdI_owns h.own (fun i hi => by
    by_cases e : (iAt K i).L = []
    · rw [e]; exact RdV.nil _ _
    · obtain ⟨q, e, -, -, o⟩ := h.vals i hi e; rw [e]; exact o.rd)).1
theorem HoldsI.later {w w' : World} {lo g cp : Nat} {K : List It} (h : HoldsI w lo g cp K) (hb : Below w.heap.size w w') : HoldsI w' lo g cp K :=
  ⟨ownsRow_below h.own hb, h.low, fun i hi hne => by obtain ⟨q, e, h1, h2, o⟩ := h.vals i hi hne; exact ⟨q, e, h1, h2, o.later hb⟩, h.apart, h.lies⟩
theorem HoldsI.lt {w : World} {lo g cp : Nat} {K : List It} (h : HoldsI w lo g cp K) : g < w.heap.size := (World.ownsRow.lt h.own g rfl).2
theorem HoldsI.grown {w w' : World} {lo g cp q : Nat} {K : List It} (h : HoldsI w lo g cp K) (hg : w.grownBy w' (some q)) (hlo : q < lo) : HoldsI w' lo g cp K := by
  refine ⟨World.ownsRow.kept h.own hg (.inr ?_), h.low, fun i hi hne => ?_, h.apart, h.lies⟩
  · have := h.low
    simp [Value.ownBlock]; omega
  · obtain ⟨p, e, h1, h2, o⟩ := h.vals i hi hne
    exact ⟨p, e, h1, h2, o.grown hg (by omega)⟩
theorem HoldsI.weaken {w : World} {lo lo' g cp : Nat} {K : List It} (h : HoldsI w lo g cp K) (hl : lo' ≤ lo) : HoldsI w lo' g cp K :=
  ⟨h.own, Nat.le_trans hl h.low, fun i hi hne => by obtain ⟨p, e, h1, h2, o⟩ := h.vals i hi hne; exact ⟨p, e, Nat.le_trans hl h1, h2, o⟩, h.apart, h.lies⟩
theorem grown_tr {a b c : World} {row : Option Nat} (h : a.grownBy b row) (k : b.grownBy c row) : a.grownBy c row :=
  ⟨k.os.trans h.os, k.tape.trans h.tape, k.output.trans h.output, Nat.le_trans h.size k.size, fun i hi hne => (k.block i (Nat.lt_of_lt_of_le hi h.size) hne).trans (h.block i hi hne)⟩

/-- the first k items are copied -/
def Copied (w : World) (lo g : Nat) (J K : List It) (k : Nat) : Prop :=
  (∀ i, i < k → (iAt K i).pl = (iAt J i).pl ∧ ((iAt K i).L ≠ [] → ∃ q, (iAt K i).a = some ⟨q, 0, none⟩ ∧ lo ≤ q ∧ q ≠ g ∧ OwnV w q (iAt K i).cap (iAt K i).L) ∧ LieV (iAt K i).a (iAt K i).L.length (iAt K i).cap) ∧ ∀ i j, i < j → j < k → (iAt K i).L ≠ [] → (iAt K j).L ≠ [] → (iAt K i).a ≠ (iAt K j).a
theorem Copied.zero (w : World) (lo g : Nat) (J K : List It) : Copied w lo g J K 0 := ⟨fun i hi => absurd hi (Nat.not_lt_zero _), fun i j _ hj => absurd hj (Nat.not_lt_zero _)⟩
/-- one item more: its values are none, or lie in a block that is new -/
theorem Copied.more {w w1 w2 : World} {lo g : Nat} {J K K' : List It} {k : Nat} {x : It} (h : Copied w lo g J K k) (hb : Below w.heap.size w w1) (hg : w1.grownBy w2 (some g)) (hsame : ∀ i, i < k → iAt K' i = iAt K i) (hnew : iAt K' k = x) (hx : x.pl = (iAt J k).pl)
    (hq : x.L ≠ [] → ∃ q, x.a = some ⟨q, 0, none⟩ ∧ w.heap.size ≤ q ∧ OwnV w1 q x.cap x.L) (hli : LieV x.a x.L.length x.cap) (hlo : lo ≤ w.heap.size) (hgl : g < w.heap.size) : Copied w2 lo g J K' (k + 1) := by
  refine ⟨fun i hi => ?_, fun i j hij hj => ?_⟩
  · by_cases e : i = k
    · rw [e, hnew]
      exact ⟨hx, fun hne => by obtain ⟨q, h1, h2, o⟩ := hq hne; exact ⟨q, h1, by omega, by omega, o.grown hg (by omega)⟩, hli⟩
    · rw [hsame i (by omega)]
      obtain ⟨h2, h3, h4⟩ := h.1 i (by omega)
      exact ⟨h2, fun hne => by obtain ⟨p, h5, h6, h7, h8⟩ := h3 hne; exact ⟨p, h5, h6, h7, (h8.later hb).grown hg h7⟩, h4⟩
  · rw [hsame i (by omega)]
    intro hne
    by_cases e : j = k
    · rw [e, hnew]
      intro hne2
      obtain ⟨q, h1, h2, -⟩ := hq hne2
      obtain ⟨p, h3, -, -, h6⟩ := (h.1 i (by omega)).2.1 hne
      rw [h3, h1]
      have := h6.lt
      intro he
      simp only [Option.some.injEq, Addr.mk.injEq, and_true] at he
      omega
    · rw [hsame j (by omega)]
      exact h.2 i j hij (by omega) hne
theorem Copied.step {w w1 w2 : World} {lo g : Nat} {J K : List It} {k q : Nat} {x : It} (h : Copied w lo g J K k) (hb : Below w.heap.size w w1) (hg : w1.grownBy w2 (some g)) (hk : k < K.length) (hx : x.pl = (iAt J k).pl)
    (hq : x.a = some ⟨q, 0, none⟩) (h1 : w.heap.size ≤ q) (hlo : lo ≤ w.heap.size) (hgl : g < w.heap.size) (o : OwnV w1 q x.cap x.L) : Copied w2 lo g J (K.set k x) (k + 1) :=
  h.more hb hg (fun i hi => by rw [iAt_set hk, if_neg (by omega)]) (by rw [iAt_set hk, if_pos rfl]) hx (fun _ => ⟨q, hq, h1, o⟩) (by rw [hq]; exact o.lies) hlo hgl
theorem Copied.done {w : World} {lo g cp : Nat} {J K : List It} (h : Copied w lo g J K K.length) (hl : K.length = J.length) (hlo : lo ≤ g) (o : w.ownsRow lo 54 3 (.slice (some ⟨g, 0, none⟩) K.length cp) K.length (rowOf It.cells K)) : HoldsI w lo g cp K ∧ K.map It.pl = J.map It.pl := by
  refine ⟨⟨?_, hlo, fun i hi => (h.1 i hi).2.1, h.2, fun i hi => (h.1 i hi).2.2⟩, pl_ext hl (fun i hi => (h.1 i hi).1)⟩
  refine ⟨o.1, ?_⟩
  rcases o.2 with h2 | ⟨g, cap, cur, h1, hb, rest⟩
  · exact .inl h2
  · exact .inr ⟨g, cap, cur, h1, Nat.zero_le _, rest⟩

theorem Tryd.info54 : (Tryd.prog.info? 54).map (fun i => (i.zero, i.size, i.bytes)) = some (some (.agg #[.int .i64 0, .string ⟨#[]⟩, .slice none 0 0]), 3, 48) := by kernel_rfl
theorem It.zero_cells : It.cells ⟨0, ⟨#[]⟩, none, 0, []⟩ = [.int .i64 0, .string ⟨#[]⟩, .slice none 0 0] := rfl

set_option maxRecDepth 100000 in
set_option maxHeartbeats 3200000 in
theorem toItemS_any (a : Option Addr) (cap : Nat) (J : List It) (w : World) (hr : RdI w a J) (hn : J.length ≤ 1048576) (hl : ∀ i, i < J.length → (iAt J i).L.length ≤ 1048576) :
    Calls Tryd.prog 33 #[.slice a J.length cap] w fun e w' =>
      ∃ K g, e = .returned (.slice (some ⟨g, 0, none⟩) J.length J.length) ∧ HoldsI w' w.heap.size g J.length K ∧ K.map It.pl = J.map It.pl ∧ Below w.heap.size w w' := by
  obtain ⟨i0, hi, hz0, hz1, hz2⟩ := info_parts Tryd.info54
  obtain ⟨n, hN⟩ : ∃ n, n = J.length := ⟨_, rfl⟩
  rw [← hN] at hn ⊢
  have HN := hide hN
  have HL := hide hl
  clear hN hl
  go_enter Tryd.func33, Tryd.ntmps33
  go_wp2_with (at_make; refine wpList_make_full _ rfl _ _ 27 rfl w.heap.size 54 i0 (.agg #[.int .i64 0, .string ⟨#[]⟩, .slice none 0 0]) 3 Tryd.underlying27 hi hz0 hz1 _ _ _ _ n rfl rfl (by omega) (by omega) ?b2 ?b3 (Nat.le_refl _) ?_)
  case b2 => rw [hz2]; omega
  case b3 => unfold maxLen; omega
  intro w0 hown0 hgrow0
  rw [rowOf_replicate It.zero_cells] at hown0
  have hs0 : w.heap.size < w0.heap.size := (hown0.lt w.heap.size rfl).2
  have hb0 : Below w.heap.size w w0 := (Below.refl _ _).grown hgrow0 (Nat.le_refl _) (fun k h => by cases h)
  go_wp2
  go_loopw [4] (fun i wr => ∃ (k : Nat) (K : List It), k ≤ n ∧ i = .int .i64 k ∧ K.length = n ∧ wr.ownsRow w.heap.size 54 3 (.slice (some ⟨w.heap.size, 0, none⟩) n n) n (rowOf It.cells K) ∧ Copied wr w.heap.size w.heap.size J K k ∧ Below w.heap.size w wr ∧ w.heap.size < wr.heap.size)
    (fun i _ => n - (intOf i).toNat)
  case atStart => exact ⟨0, List.replicate n ⟨0, ⟨#[]⟩, none, 0, []⟩, Nat.zero_le _, rfl, by simp, hown0, Copied.zero _ _ _ _ _, hb0, hs0⟩
  case round =>
    clear hown0 hgrow0 hb0 hs0
    obtain ⟨k, K, hk, rfl, hKn, hown, hcop, hbel, hsz⟩ := hrel
    have HKn := hide hKn
    have HCop := hide hcop
    clear hKn hcop
    by_cases hlt : k < n
    · obtain ⟨b, off, hab, hbw, hc⟩ := hr.open (by rw [← HN.out]; omega)
      obtain ⟨c0, c1, c2, hv⟩ := hc k (by rw [← HN.out]; exact hlt)
      have HV := hide (hv.below hbel)
      clear hc hv
      subst hab
      rw [← hbel.cell (p := ⟨b, off + k * 3, none⟩) hbw] at c0
      rw [← hbel.cell (p := ⟨b, off + k * 3 + 1, none⟩) hbw] at c1
      rw [← hbel.cell (p := ⟨b, off + k * 3 + 2, none⟩) hbw] at c2
      have HK := hide (HL.out k (by rw [← HN.out]; exact hlt))
      obtain ⟨x, hx⟩ : ∃ x, x = iAt J k := ⟨_, rfl⟩
      rw [← hx] at c0 c1 c2 HV HK
      have HX := hide hx
      clear hx
      obtain ⟨id, kd, va, vc, L⟩ := x
      simp only at c0 c1 c2 HV HK
      go_wp2_with fail
      refine (toItem_any id kd va vc L _ HV.out HK.out).mono ?_
      rintro e w2 ⟨g, rfl, hg, o, hb2⟩
      have hown2 : w2.ownsRow w.heap.size 54 3 (.slice (some ⟨w.heap.size, 0, none⟩) n n) n (rowOf It.cells K) := ownsRow_below hown hb2
      have hbel2 : Below w.heap.size w w2 := hbel.trans (hb2.mono hbel.size)
      have hlen : (rowOf It.cells K).length = n * 3 := by rw [rowOf_length It.cells_length, HKn.out]
      have hmem : ∀ j, j < 3 → ∃ u, w2.cell? ⟨w.heap.size, k * 3 + j, none⟩ = some u := fun j hj => by
        rw [hown2.cellAt (k * 3 + j) (by omega), List.getElem?_eq_getElem (by omega)]
        exact ⟨_, rfl⟩
      obtain ⟨u0, m0⟩ := hmem 0 (by omega)
      obtain ⟨u1, m1⟩ := hmem 1 (by omega)
      obtain ⟨u2, m2⟩ := hmem 2 (by omega)
      rw [Nat.add_zero] at m0
      have f0 := hown2.frozenAt (k * 3)
      have f1 := hown2.frozenAt (k * 3 + 1)
      have f2 := hown2.frozenAt (k * 3 + 2)
      have s1 := hown2.stored (k * 3) (.int .i64 id)
      have s2 := s1.1.stored (k * 3 + 1) (.string kd)
      have s3 := s2.1.stored (k * 3 + 2) (.slice (some ⟨g, 0, none⟩) L.length L.length)
      have HO := hide s3.1
      have hset := rowOf_set3 It.cells_length ⟨id, kd, some ⟨g, 0, none⟩, L.length, L⟩ (.int .i64 id) (.string kd) (.slice (some ⟨g, 0, none⟩) L.length L.length) rfl K k (by rw [HKn.out]; exact hlt)
      rw [hset] at HO
      have HC := hide (HCop.out.step (x := ⟨id, kd, some ⟨g, 0, none⟩, L.length, L⟩) hb2 (grown_tr (grown_tr s1.2 s2.2) s3.2) (by rw [HKn.out]; exact hlt) (by rw [← HX.out]; rfl) rfl hg (Nat.le_of_lt hsz) hsz o)
      have HB : Hid (Below w.heap.size w (((w2.setCell ⟨w.heap.size, k * 3, none⟩ (.int .i64 id)).setCell ⟨w.heap.size, k * 3 + 1, none⟩ (.string kd)).setCell ⟨w.heap.size, k * 3 + 2, none⟩ (.slice (some ⟨g, 0, none⟩) L.length L.length))) := ((hbel2.setCell (Nat.le_refl _) _).setCell (Nat.le_refl _) _).setCell (Nat.le_refl _) _
      have HZ : Hid (w.heap.size < (((w2.setCell ⟨w.heap.size, k * 3, none⟩ (.int .i64 id)).setCell ⟨w.heap.size, k * 3 + 1, none⟩ (.string kd)).setCell ⟨w.heap.size, k * 3 + 2, none⟩ (.slice (some ⟨g, 0, none⟩) L.length L.length)).heap.size) := by
        have h1 := hb2.size
        have h2 := (grown_tr (grown_tr s1.2 s2.2) s3.2).size
        exact Nat.lt_of_lt_of_le (Nat.lt_of_lt_of_le hsz h1) h2
      have HLen : Hid ((K.set k ⟨id, kd, some ⟨g, 0, none⟩, L.length, L⟩).length = n) := by unfold Hid; rw [List.length_set, HKn.out]
      clear hmem hlen c0 c1 c2 hown hbel hb2 s1 s2 s3 hset hown2 hbel2 o HV HK HCop
      go_wp2
      go_roundw
      case rel => exact ⟨k + 1, _, by omega, by go_num, HLen.out, HO.out, HC.out, HB.out, HZ.out⟩
      case measure => simp [intOf]; omega
    · have hkn : k = K.length := by rw [HKn.out]; omega
      have HR : Hid (HoldsI wr w.heap.size w.heap.size n K ∧ K.map It.pl = J.map It.pl) := by
        refine Copied.done (hkn ▸ HCop.out) (by rw [HKn.out, HN.out]) (Nat.le_refl _) ?_
        rw [HKn.out]; exact hown
      clear hkn hown
      go_wp2
      go_ret
      exact ⟨K, _, rfl, HR.out.1, HR.out.2, hbel⟩

set_option maxRecDepth 100000 in
set_option maxHeartbeats 1600000 in
theorem toStore_any (a : Option Addr) (cap : Nat) (J : List It) (nx : Int) (w : World) (hr : RdI w a J) (hn : J.length ≤ 1048576) (hl : ∀ i, i < J.length → (iAt J i).L.length ≤ 1048576) :
    Calls Tryd.prog 9 #[.agg #[.slice a J.length cap, .int .i64 nx]] w fun e w' =>
      ∃ K g, e = .returned (.agg #[.slice (some ⟨g, 0, none⟩) J.length J.length, .int .i64 nx]) ∧ HoldsI w' w.heap.size g J.length K ∧ K.map It.pl = J.map It.pl ∧ Below w.heap.size w w' := by
  go_enter Tryd.func9, Tryd.ntmps9
  go_wp2_with fail
  have b0 := below_al w (.cells #[.slice a J.length cap, .int .i64 nx] 24)
  have b1 := b0.alloc b0.size (.cells #[.slice none 0 0, .int .i64 0] 29)
  have b2 := b1.alloc b1.size (.cells #[.slice none 0 0, .int .i64 0] 29)
  have hA := box_old (box_old (box2_new w (.slice a J.length cap) (.int .i64 nx) 24) (by simp) (.cells #[.slice none 0 0, .int .i64 0] 29)) (by simp; omega) (.cells #[.slice none 0 0, .int .i64 0] 29)
  have hR := box_old (box2_new (w.alloc (.cells #[.slice a J.length cap, .int .i64 nx] 24)) (.slice none 0 0) (.int .i64 0) 29) (by simp) (.cells #[.slice none 0 0, .int .i64 0] 29)
  have hX := box2_new ((w.alloc (.cells #[.slice a J.length cap, .int .i64 nx] 24)).alloc (.cells #[.slice none 0 0, .int .i64 0] 29)) (.slice none 0 0) (.int .i64 0) 29
  simp only [World.size_alloc] at hA hR hX
  refine (toItemS_any a cap J _ (hr.below b2) hn hl).mono ?_
  rintro e w1 ⟨K, g, rfl, hH, hpl, hb⟩
  have HA := hide (box_below hA hb (by simp; omega))
  have HR := hide (box_below hR hb (by simp))
  have HX := hide (box_below hX hb (by simp))
  have hB : Below w.heap.size w w1 := b2.trans (hb.mono b2.size)
  have hz : w.heap.size + 1 + 1 + 1 ≤ g := by have := hH.low; simp only [World.size_alloc] at this; exact this
  have HP := hide hpl
  have HH := hide hH
  clear hb hA hR hX b0 b1 b2 hpl hH
  obtain ⟨x0, x1, xf0, xf1⟩ := box2_cell HX.out
  obtain ⟨r0, r1, rf0, rf1⟩ := box2_cell HR.out
  obtain ⟨a0, a1, -, -⟩ := box2_cell HA.out
  have HX2 := hide (box2_set HX.out (.slice (some ⟨g, 0, none⟩) J.length J.length) (.int .i64 nx))
  have HR2 := hide (box_gr HR.out HX2.out.2 (by omega))
  go_wp2
  refine box2_post HR2.out (fun w4 h4 gr => ?_)
  clear x0 x1 xf0 xf1 r0 r1 rf0 rf1 a0 a1
  obtain ⟨c0, c1, -, -⟩ := box2_cell h4
  refine bodyPost_ret (v := .agg #[.slice (some ⟨g, 0, none⟩) J.length J.length, .int .i64 nx]) (by simp [results, Tryd.results9, go_sem, c0, c1]) rfl
    ⟨K, g, rfl, ?_, HP.out, below_set (hB.grown HX2.out.2 hB.size (fun k hk => by cases hk; omega)) gr (by omega)⟩
  have h1 := HH.out.grown HX2.out.2 (by simp)
  have h2 := h1.grown gr (by simp)
  exact h2.weaken (by simp; omega)
end Go.Proofs.YtaflokfgbmlmaadDoor
/-
  Copies of a fact: the model's and the tested one: the same values, in a row of the call's own.
-/
namespace Go.Proofs.YtaflokfgbmlmaadDoor
open Go.RowKit
set_option linter.unusedVariables false

theorem src_zero {P : Program} {w : World} {size : Nat} {t e : TypeId} (hk : P.underlying t = some (.slice e)) (ad : Option Addr) (c : Nat) : Src P size t (.slice ad 0 c) 0 [] w := by
  cases ad with
  | none => exact Src.ofNil w hk c
  | some a => exact Src.ofSlice w hk a 0 c [] (by simp) (fun j u h => by simp at h) (fun _ h => by cases h)
theorem wpList_append_zero {P : Program} {w : World} {ops : Array Oper} {rest : List Oper} {o : Oper} {a : Act} {Q : Exit → Act → World → Prop} (hgd : o.guard = none) (s x : Operand) (t : TypeId)
    (ho : o.op = .call { callee := .builtin .append, args := #[s, x], argTypes := #[t, t] }) (e : TypeId) (i : TypeInfo) (ht : P.underlying t = some (.slice e)) (hi : P.info? e = some i)
    (b : Option Addr) (n cap : Nat) (hs : a.eval s = .slice b n cap) (hle : n ≤ cap) (ad : Option Addr) (c : Nat) (hx : a.eval x = .slice ad 0 c)
    (h : wpList P ops Q rest (a.put o.dst (.slice b n cap)) w) : wpList P ops Q (o :: rest) a w := by
  refine wpList_plain hgd fun K hK => ?_
  have hrun := run_append_nothing w t t o.type e i ht hi b n cap hle (.slice ad 0 c) (src_zero ht ad c)
  unfold Oper.wp
  simp [execOp, ho, resolve, invoke, builtin, hs, hx, hrun, Result.andThen]
  exact hK _ _ h
theorem rdV_src {w : World} {b off : Nat} {L : List V3} (h : RdV w (some ⟨b, off, none⟩) L) : ∀ j u, (cells3 L)[j]? = some u → w.cell? ((⟨b, off, none⟩ : Addr).add j) = some u := by
  intro j u hj
  have hl : j < L.length * 3 := by rw [← cells3_length]; exact (List.getElem?_eq_some_iff.1 hj).1
  obtain ⟨i, r, rfl, hr⟩ : ∃ i r, j = i * 3 + r ∧ r < 3 := ⟨j / 3, j % 3, by omega, by omega⟩
  have hi : i < L.length := by omega
  obtain ⟨b', off', e, h0, h1, h2⟩ := h i hi
  simp only [Option.some.injEq, Addr.mk.injEq, and_true] at e
  obtain ⟨rfl, rfl⟩ := e
  obtain ⟨g0, g1, g2⟩ := cells3_get L i hi
  rw [Addr.add_lit]
  match r, hr with
  | 0, _ => rw [Nat.add_zero, g0] at hj; rw [Nat.add_zero, h0]; exact hj
  | 1, _ => rw [g1] at hj; rw [← Nat.add_assoc, h1]; exact hj
  | 2, _ => rw [g2] at hj; rw [← Nat.add_assoc, h2]; exact hj
theorem cells3_one (L : List V3) : ∀ u ∈ cells3 L, u.oneCell' = true := by
  intro u hu
  unfold cells3 at hu
  obtain ⟨v, -, hv⟩ := List.mem_flatMap.1 hu
  simp only [List.mem_cons, List.not_mem_nil, or_false] at hv
  rcases hv with rfl | rfl | rfl <;> rfl
/-- a row of these values, of the call's own -/
def NewV (w : World) (base : Nat) (a : Option Addr) (c : Nat) (L : List V3) : Prop := w.ownsRow base 85 3 (.slice a L.length c) L.length (cells3 L) ∧ LieV a L.length c
theorem NewV.rd {w : World} {base c : Nat} {a : Option Addr} {L : List V3} (h : NewV w base a c L) : RdV w a L := by
  obtain ⟨a', c', e, hr, _⟩ := rdV_owns h.1
  simp only [Value.slice.injEq] at e
  rw [e.1]; exact hr
theorem NewV.of {w : World} {base c g : Nat} {L : List V3} (h : w.ownsRow base 85 3 (.slice (some ⟨g, 0, none⟩) L.length c) L.length (cells3 L)) : NewV w base (some ⟨g, 0, none⟩) c L := ⟨h, (OwnV.of h).lies⟩
theorem NewV.later {w w' : World} {base c : Nat} {a : Option Addr} {L : List V3} (h : NewV w base a c L) (hb : Below w.heap.size w w') : NewV w' base a c L := ⟨ownsRow_below h.1 hb, h.2⟩
theorem NewV.low {w : World} {base base' c : Nat} {a : Option Addr} {L : List V3} (h : NewV w base a c L) (hb : base' ≤ base) : NewV w base' a c L := by
  refine ⟨⟨h.1.1, ?_⟩, h.2⟩
  rcases h.1.2 with h2 | ⟨g, cap, cur, h1, hb', rest⟩
  · exact .inl h2
  · exact .inr ⟨g, cap, cur, h1, by omega, rest⟩
theorem NewV.grown {w w' : World} {base c q : Nat} {a : Option Addr} {L : List V3} (h : NewV w base a c L) (hg : w.grownBy w' (some q)) (hq : q < base) : NewV w' base a c L := by
  refine ⟨World.ownsRow.kept h.1 hg (.inr (fun e => ?_)), h.2⟩
  have := (h.1.lt q e).1
  omega
theorem NewV.own {w : World} {base c : Nat} {a : Option Addr} {L : List V3} (h : NewV w base a c L) (hne : L ≠ []) : ∃ g, a = some ⟨g, 0, none⟩ ∧ base ≤ g ∧ OwnV w g c L := by
  rcases h.1.2 with ⟨h1, h0⟩ | ⟨g, cap, cur, h1, hb, rest⟩
  · exact absurd (List.eq_nil_of_length_eq_zero h0) hne
  · simp only [Value.slice.injEq] at h1
    obtain ⟨rfl, -, rfl⟩ := h1
    exact ⟨g, rfl, hb, OwnV.of h.1⟩
theorem NewV.nil (w : World) (base : Nat) : NewV w base none 0 [] := ⟨World.ownsRow_nil _ _ _ _, LieV.nil⟩
theorem empty_new (w : World) (base : Nat) (hb : base ≤ w.heap.size) : (w.alloc (.cells #[] 85)).ownsRow base 85 3 (.slice (some ⟨w.heap.size, 0, none⟩) 0 0) ([] : List V3).length (cells3 []) := World.ownsRow_lit w #[] 0 hb (Nat.zero_le _) rfl

set_option maxRecDepth 100000 in
set_option maxHeartbeats 1600000 in
theorem clone_any (a : Option Addr) (cap : Nat) (L : List V3) (w : World) (hr : RdV w a L) (hl : LieV a L.length cap) (hn : L.length ≤ 1048580) :
    Calls Tryd.prog 70 #[.slice a L.length cap] w fun e w' => ∃ a' c', e = .returned (.slice a' L.length c') ∧ NewV w' w.heap.size a' c' L ∧ Below w.heap.size w w' := by
  obtain ⟨i0, hi, hz0, hz1, hz2⟩ := info_parts Tryd.info85
  have HL := hide hl
  clear hl
  cases a with
  | none =>
    have hL : L = [] := by
      rcases HL.out with ⟨-, h0, -⟩ | ⟨b, off, e, -⟩
      · exact List.eq_nil_of_length_eq_zero h0
      · cases e
    have hc : cap = 0 := by
      rcases HL.out with ⟨-, -, h0⟩ | ⟨b, off, e, -⟩
      · exact h0
      · cases e
    subst hL hc
    have he : ∀ W : World, (binOp .eql 39 (.slice none 0 0) (.slice none 0 0)).run Tryd.prog W = .ok (.bool true) W := fun _ => rfl
    go_enter Tryd.func70, Tryd.ntmps70
    go_wp2
    go_ret
    exact ⟨none, 0, rfl, NewV.nil _ _, Below.refl _ _⟩
  | some ad =>
    have he : ∀ (W : World) (n c : Nat), (binOp .eql 39 (.slice (some ad) n c) (.slice none 0 0)).run Tryd.prog W = .ok (.bool false) W := fun _ _ _ => rfl
    have b0 := below_al w (.cells #[] 85)
    have HE := hide (empty_new w w.heap.size (Nat.le_refl _))
    by_cases hL : L = []
    · subst hL
      go_enter Tryd.func70, Tryd.ntmps70
      go_wp2_with (at_builtin; refine wpList_append_zero rfl (.tmp 5) (.tmp 6) 39 rfl 85 i0 Tryd.underlying39 hi (some ⟨w.heap.size, 0, none⟩) 0 0 rfl (Nat.le_refl _) (some ad) cap rfl ?_)
      go_ret
      exact ⟨_, _, rfl, NewV.of HE.out, b0⟩
    · obtain ⟨b, off, e0, hbw, -⟩ := hr.open (List.length_pos_iff.2 hL)
      simp only [Option.some.injEq] at e0
      subst e0
      have HSrc := hide (rdV_src (hr.below b0))
      have hpos : 0 < L.length := List.length_pos_iff.2 hL
      obtain ⟨n, hN⟩ : ∃ n, n = L.length := ⟨_, rfl⟩
      have hC := cells3_length L
      rw [← hN] at hn hpos hC ⊢
      have HN := hide hN
      have HC := hide hC
      clear hN hC hr hL
      go_enter Tryd.func70, Tryd.ntmps70
      go_wp2_with (at_builtin; refine wpList_append_lies _ rfl (.tmp 5) (.tmp 6) 39 rfl w.heap.size 85 i0 (.agg #[.int .i64 0, .int .i64 0, .string ⟨#[]⟩]) 3 32 Tryd.underlying39 hi hz0 hz1 hz2 rfl (by omega) (.slice (some ⟨w.heap.size, 0, none⟩) 0 0) 0 [] rfl HE.out ⟨b, off, none⟩ n cap (cells3 L) ?hx HC.out HSrc.out (cells3_one L) hpos (by unfold maxLen; omega) (by omega) b0.size _ rfl ?_)
      case hx => simp [Act.eval]
      intro g5 c5 w5 ho5 hg5 hat5 hlt5
      have HO5 : Hid (NewV w5 w.heap.size (some ⟨g5, 0, none⟩) c5 L) := by
        refine NewV.of ?_
        rw [← HN.out]
        simpa using ho5
      have B5 := b0.grown hg5 b0.size (fun k hk => (HE.out.lt k hk).1)
      clear ho5 hg5 hat5 hlt5
      go_wp2
      go_ret
      exact ⟨_, _, rfl, HO5.out, B5⟩

set_option maxRecDepth 100000 in
set_option maxHeartbeats 1600000 in
theorem l3Copy_any (kd : ByteArray) (a : Option Addr) (cap : Nat) (L : List V3) (w : World) (hr : RdV w a L) (hn : L.length ≤ 1048580) :
    Calls Tryd.prog 63 #[.agg #[.string kd, .slice a L.length cap]] w fun e w' => ∃ a' c', e = .returned (.agg #[.string kd, .slice a' L.length c']) ∧ NewV w' w.heap.size a' c' L ∧ Below w.heap.size w w' := by
  obtain ⟨i0, hi, hz0, hz1, hz2⟩ := info_parts Tryd.info85
  have b0 := below_al w (.cells #[.string kd, .slice a L.length cap] 41)
  have b1 := b0.alloc b0.size (.cells #[.string ⟨#[]⟩, .slice none 0 0] 41)
  have b2 := b1.alloc b1.size (.cells #[] 85)
  have hX := box_old (box_old (box2_new w (.string kd) (.slice a L.length cap) 41) (by simp) (.cells #[.string ⟨#[]⟩, .slice none 0 0] 41)) (by simp; omega) (.cells #[] 85)
  have hR := box_old (box2_new (w.alloc (.cells #[.string kd, .slice a L.length cap] 41)) (.string ⟨#[]⟩) (.slice none 0 0) 41) (by simp) (.cells #[] 85)
  have hE := empty_new ((w.alloc (.cells #[.string kd, .slice a L.length cap] 41)).alloc (.cells #[.string ⟨#[]⟩, .slice none 0 0] 41)) (w.heap.size + 1 + 1) (by simp)
  simp only [World.size_alloc] at hX hR hE
  by_cases hL : L = []
  · subst hL
    clear hX hR hE
    have HB := hide (((below_al w (.cells #[.string kd, .slice (some ⟨w.heap.size + 1 + 1, 0, none⟩) 0 0] 41)).alloc (by simp) (.cells #[.string kd, .slice (some ⟨w.heap.size + 1 + 1, 0, none⟩) 0 0] 41)).alloc (by simp; omega) (.cells #[] 85))
    have hE := empty_new ((w.alloc (.cells #[.string kd, .slice (some ⟨w.heap.size + 1 + 1, 0, none⟩) 0 0] 41)).alloc (.cells #[.string kd, .slice (some ⟨w.heap.size + 1 + 1, 0, none⟩) 0 0] 41)) w.heap.size (by simp; omega)
    simp only [World.size_alloc] at hE
    have HE := hide (NewV.of hE)
    clear hE b0 b1 b2
    go_enter Tryd.func63, Tryd.ntmps63
    go_wp2_with (at_builtin; refine wpList_append_zero rfl (.tmp 3) (.tmp 5) 39 rfl 85 i0 Tryd.underlying39 hi (some ⟨w.heap.size + 1 + 1, 0, none⟩) 0 0 rfl (Nat.le_refl _) a cap rfl ?_)
    exact bodyPost_ret (v := .agg #[.string kd, .slice (some ⟨w.heap.size + 1 + 1, 0, none⟩) 0 0]) (by simp [results, Tryd.results63, go_sem]) rfl ⟨_, _, rfl, HE.out, HB.out⟩
  · obtain ⟨b, off, e0, hbw, -⟩ := hr.open (List.length_pos_iff.2 hL)
    subst e0
    have HSrc := hide (rdV_src (hr.below b2))
    have hpos : 0 < L.length := List.length_pos_iff.2 hL
    obtain ⟨n, hN⟩ : ∃ n, n = L.length := ⟨_, rfl⟩
    have hC := cells3_length L
    rw [← hN] at hn hpos hC hX hR b0 b1 b2 HSrc hE ⊢
    have HN := hide hN
    have HC := hide hC
    have HX := hide hX
    have HR := hide hR
    have HE := hide hE
    have HB := hide b2
    have HZ : Hid (w.heap.size + 1 + 1 ≤ (((w.alloc (.cells #[.string kd, .slice (some ⟨b, off, none⟩) n cap] 41)).alloc (.cells #[.string ⟨#[]⟩, .slice none 0 0] 41)).alloc (.cells #[] 85)).heap.size) := by unfold Hid; simp
    clear hN hC hr hL hX hR hE b0 b1 b2
    go_enter Tryd.func63, Tryd.ntmps63
    go_wp2_with (at_builtin; refine wpList_append_lies _ rfl (.tmp 3) (.tmp 5) 39 rfl (w.heap.size + 1 + 1) 85 i0 (.agg #[.int .i64 0, .int .i64 0, .string ⟨#[]⟩]) 3 32 Tryd.underlying39 hi hz0 hz1 hz2 rfl (by omega) (.slice (some ⟨w.heap.size + 1 + 1, 0, none⟩) 0 0) 0 [] rfl HE.out ⟨b, off, none⟩ n cap (cells3 L) ?hx HC.out HSrc.out (cells3_one L) hpos (by unfold maxLen; omega) (by omega) HZ.out _ rfl ?_)
    case hx => simp [Act.eval]
    intro g5 c5 w5 ho5 hg5 hat5 hlt5
    have HV5 : Hid (NewV w5 (w.heap.size + 1 + 1) (some ⟨g5, 0, none⟩) c5 L) := by
      refine NewV.of ?_
      rw [← HN.out]
      simpa using ho5
    have B5 := HB.out.grown hg5 HB.out.size (fun k hk => Nat.le_trans (by omega) (HE.out.lt k hk).1)
    have HX5 := hide (box_gr HX.out hg5 (show w.heap.size ≠ w.heap.size + 1 + 1 by omega))
    have HR5 := hide (box_gr HR.out hg5 (show w.heap.size + 1 ≠ w.heap.size + 1 + 1 by omega))
    clear ho5 hg5 hat5 hlt5 HSrc HX HR HE HB HZ
    obtain ⟨x0, x1, xf0, xf1⟩ := box2_cell HX5.out
    obtain ⟨r0, r1, rf0, rf1⟩ := box2_cell HR5.out
    have HS := hide (box2_set1 HX5.out (.slice (some ⟨g5, 0, none⟩) n c5))
    have HR2 := hide (box_gr HR5.out HS.out.2 (by omega))
    go_wp2
    refine box2_post HR2.out (fun w4 h4 gr => ?_)
    clear x0 x1 xf0 xf1 r0 r1 rf0 rf1
    obtain ⟨c0, c1, -, -⟩ := box2_cell h4
    exact bodyPost_ret (v := .agg #[.string kd, .slice (some ⟨g5, 0, none⟩) n c5]) (by simp [results, Tryd.results63, go_sem, c0, c1]) rfl
      ⟨_, _, rfl, ((HV5.out.grown HS.out.2 (by omega)).grown gr (by omega)).low (by omega), below_set (B5.grown HS.out.2 B5.size (fun k hk => by cases hk; omega)) gr (by omega)⟩

theorem box_drew {w w' : World} {R : Nat} {o : Obj} (h : w.heap[R]? = some o) (hb : Below w.drew.heap.size w.drew w') : w'.heap[R]? = some o := box_step (w := w.drew) h hb

set_option maxRecDepth 100000 in
set_option maxHeartbeats 3200000 in
theorem copyFact_any (kd : ByteArray) (a : Option Addr) (cap : Nat) (L : List V3) (w : World) (hr : RdV w a L) (hl : LieV a L.length cap) (hn : L.length ≤ 1048580) :
    Calls Tryd.prog 44 #[.agg #[.string kd, .slice a L.length cap]] w fun e w' => ∃ a' c', e = .returned (.agg #[.string kd, .slice a' L.length c']) ∧ NewV w' w.heap.size a' c' L ∧ Below w.heap.size w w' := by
  have b0 := below_al w (.cells #[.string kd, .slice a L.length cap] 41)
  have b1 := b0.alloc b0.size (.cells #[.string ⟨#[]⟩, .slice none 0 0] 41)
  have hX := box_old (box2_new w (.string kd) (.slice a L.length cap) 41) (by simp) (.cells #[.string ⟨#[]⟩, .slice none 0 0] 41)
  have hR := box2_new (w.alloc (.cells #[.string kd, .slice a L.length cap] 41)) (.string ⟨#[]⟩) (.slice none 0 0) 41
  have hz : w.heap.size + 1 + 1 ≤ ((w.alloc (.cells #[.string kd, .slice a L.length cap] 41)).alloc (.cells #[.string ⟨#[]⟩, .slice none 0 0] 41)).heap.size := by simp
  simp only [World.size_alloc] at hX hR
  have HL := hide hl
  clear hl
  go_enter Tryd.func44, Tryd.ntmps44
  go_wp2_with fail
  have r1 := hr.below b1
  generalize (w.alloc (.cells #[.string kd, .slice a L.length cap] 41)).alloc (.cells #[.string ⟨#[]⟩, .slice none 0 0] 41) = w1 at b1 hX hR r1 hz ⊢
  have HX := hide hX
  have HR := hide hR
  obtain ⟨x0, x1, -, -⟩ := box2_cell hX
  have r1d : RdV w1.drew a L := r1.heap rfl
  clear b0 hX hR hr
  go_region_with (first | (go_at_call 70; refine (clone_any a cap L _ r1d HL.out hn).mono ?_; rintro e w2 ⟨a', c', rfl, hv, hb⟩; obtain ⟨y0, y1, -, -⟩ := box2_cell (box_drew HX.out hb); obtain ⟨z0, z1, zf0, zf1⟩ := box2_cell (box_drew HR.out hb)))
  all_goals
    have hB : Below w.heap.size w w2 := b1.trans ((below_dr hb).mono b1.size)
    have hR2 := box_drew HR.out hb
    go_wp2
    refine box2_post hR2 (fun w4 h4 gr => ?_)
    clear x0 x1 y0 y1 z0 z1 zf0 zf1
    obtain ⟨c0, c1, -, -⟩ := box2_cell h4
    exact bodyPost_ret (v := .agg #[.string kd, .slice a' L.length c']) (by simp [results, Tryd.results44, go_sem, c0, c1]) rfl
      ⟨_, _, rfl, (hv.grown gr (by simp; omega)).low (by simp; omega), below_set hB gr (by omega)⟩
end Go.Proofs.YtaflokfgbmlmaadDoor
/-
  Four cells in memory, and whatever else is kept where all that was there is.
-/
namespace Go.Proofs.YtaflokfgbmlmaadDoor
open Go.RowKit
set_option linter.unusedVariables false

theorem keep4 {P : World → Prop} {W w' : World} {p0 p1 p2 p3 : Addr} {v0 v1 v2 v3 : Value} (hP : ∀ {W W' : World}, P W → Below W.heap.size W W' → P W') (hb : Below W.heap.size W w')
    (h : W.cell? p0 = some v0 ∧ W.cell? p1 = some v1 ∧ W.cell? p2 = some v2 ∧ W.cell? p3 = some v3 ∧ P W) :
    w'.cell? p0 = some v0 ∧ w'.cell? p1 = some v1 ∧ w'.cell? p2 = some v2 ∧ w'.cell? p3 = some v3 ∧ P w' := by
  obtain ⟨h0, h1, h2, h3, h4⟩ := h
  have k : ∀ {a : Addr} {v : Value}, W.cell? a = some v → w'.cell? a = some v := fun {a v} h => by rw [hb.cell (World.block_lt_of_cell? W _ h)]; exact h
  exact ⟨k h0, k h1, k h2, k h3, hP h4 hb⟩
theorem kept0 {W w' : World} {p : Addr} {v : Value} (hb : Below W.heap.size W w') (h : W.cell? p = some v) : w'.cell? p = some v := by rw [hb.cell (World.block_lt_of_cell? W _ h)]; exact h

/-- a store and a fact as they came in, and all that was there at the head -/
structure SF (w : World) (a b : Option Addr) (J : List It) (M : List V3) (W : World) : Prop where
  rdI : RdI W a J
  rdV : RdV W b M
  bel : Below w.heap.size w W
theorem SF.keep {w W W' : World} {a b : Option Addr} {J : List It} {M : List V3} (h : SF w a b J M W) (hb : Below W.heap.size W W') : SF w a b J M W' :=
  ⟨h.rdI.below hb, h.rdV.below hb, h.bel.trans (hb.mono h.bel.size)⟩
theorem SF.drew {w W : World} {a b : Option Addr} {J : List It} {M : List V3} (h : SF w a b J M W) : SF w a b J M W.drew := h.keep ((Below.refl _ _).drew)
theorem SF.rdi {w W : World} {a b : Option Addr} {J : List It} {M : List V3} {p0 p1 p2 p3 : Addr} {v0 v1 v2 v3 : Value} (h : W.cell? p0 = some v0 ∧ W.cell? p1 = some v1 ∧ W.cell? p2 = some v2 ∧ W.cell? p3 = some v3 ∧ SF w a b J M W) : RdI W a J := h.2.2.2.2.rdI
theorem SF.rdv {w W : World} {a b : Option Addr} {J : List It} {M : List V3} {p0 p1 p2 p3 : Addr} {v0 v1 v2 v3 : Value} (h : W.cell? p0 = some v0 ∧ W.cell? p1 = some v1 ∧ W.cell? p2 = some v2 ∧ W.cell? p3 = some v3 ∧ SF w a b J M W) : RdV W b M := h.2.2.2.2.rdV
/-- a store as it came in, its copy, and all that was there at the head -/
structure SC (w : World) (a : Option Addr) (lo g cp : Nat) (J K : List It) (W : World) : Prop where
  rdI : RdI W a J
  copy : HoldsI W lo g cp K
  bel : Below w.heap.size w W
theorem SC.keep {w W W' : World} {a : Option Addr} {lo g cp : Nat} {J K : List It} (h : SC w a lo g cp J K W) (hb : Below W.heap.size W W') : SC w a lo g cp J K W' :=
  ⟨h.rdI.below hb, h.copy.later hb, h.bel.trans (hb.mono h.bel.size)⟩
theorem SC.drew {w W : World} {a : Option Addr} {lo g cp : Nat} {J K : List It} (h : SC w a lo g cp J K W) : SC w a lo g cp J K W.drew := h.keep ((Below.refl _ _).drew)
theorem SC.rdi {w W : World} {a : Option Addr} {lo g cp : Nat} {J K : List It} {p0 p1 p2 p3 : Addr} {v0 v1 v2 v3 : Value} (h : W.cell? p0 = some v0 ∧ W.cell? p1 = some v1 ∧ W.cell? p2 = some v2 ∧ W.cell? p3 = some v3 ∧ SC w a lo g cp J K W) : RdI W a J := h.2.2.2.2.rdI
theorem SC.cp {w W : World} {a : Option Addr} {lo g cp : Nat} {J K : List It} {p0 p1 p2 p3 : Addr} {v0 v1 v2 v3 : Value} (h : W.cell? p0 = some v0 ∧ W.cell? p1 = some v1 ∧ W.cell? p2 = some v2 ∧ W.cell? p3 = some v3 ∧ SC w a lo g cp J K W) : RdI W (some ⟨g, 0, none⟩) K := h.2.2.2.2.copy.rd

end Go.Proofs.YtaflokfgbmlmaadDoor
/-
  The tested program's copies of items and of stores: what is copied lies in blocks of its own, no two lists in one.
-/
namespace Go.Proofs.YtaflokfgbmlmaadDoor
open Go.RowKit
set_option linter.unusedVariables false

theorem ownsRow_sameB {w w' : World} {base n size : Nat} {T : TypeId} {v : Value} {xs : List Value} (h : w.ownsRow base T size v n xs) (hs : ∀ k, v.ownBlock = some k → w'.heap[k]? = w.heap[k]?) : w'.ownsRow base T size v n xs := by
  refine ⟨h.1, ?_⟩
  rcases h.2 with h2 | ⟨g, cap, cur, rfl, hb, hg, rest⟩
  · exact .inl h2
  · exact .inr ⟨g, cap, cur, rfl, hb, by rw [hs g rfl]; exact hg, rest⟩
/-- the row moves to another block: the copied lists lie in none of the two -/
theorem Copied.rebase {w w' : World} {lo g g' : Nat} {J K : List It} {k : Nat} (h : Copied w lo g J K k) (hk : ∀ q, q < w.heap.size → q ≠ g → w'.heap[q]? = w.heap[q]?) (hg : g' = g ∨ w.heap.size ≤ g') : Copied w' lo g' J K k := by
  refine ⟨fun i hi => ?_, h.2⟩
  obtain ⟨h1, h2, h3⟩ := h.1 i hi
  refine ⟨h1, fun hne => ?_, h3⟩
  obtain ⟨q, e, hl, hq, o⟩ := h2 hne
  have hlt := o.lt
  refine ⟨q, e, hl, by rcases hg with rfl | hg; exact hq; omega, ?_⟩
  exact ownsRow_sameB o (fun j hj => by simp only [Value.ownBlock, Option.some.injEq] at hj; rw [← hj]; exact hk q hlt hq)
theorem iAt_app_lt {K : List It} {x : It} {i : Nat} (h : i < K.length) : iAt (K ++ [x]) i = iAt K i := by
  rw [iAt_in (by simp; omega), iAt_in h]; simp [List.getElem_append_left h]
theorem iAt_app_eq (K : List It) (x : It) : iAt (K ++ [x]) K.length = x := by
  rw [iAt_in (by simp)]; simp
theorem rowI_app (K : List It) (x : It) : rowOf It.cells K ++ x.cells = rowOf It.cells (K ++ [x]) := by rw [rowOf_append]; simp [rowOf]
theorem srcI (W : World) (x : It) : ∀ j u, x.cells[j]? = some u → (W.alloc (.cells #[.int .i64 x.id, .string x.kd, .slice x.a x.L.length x.cap] 54)).cell? ((⟨W.heap.size, 0, none⟩ : Addr).add j) = some u := by
  obtain ⟨h0, h1, h2, -, -, -⟩ := box_cell (box_new W (.int .i64 x.id) (.string x.kd) (.slice x.a x.L.length x.cap) 54)
  intro j u hj
  rw [Addr.add_lit, Nat.zero_add]
  match j, hj with
  | 0, hj => rw [h0]; simpa [It.cells] using hj
  | 1, hj => rw [h1]; simpa [It.cells] using hj
  | 2, hj => rw [h2]; simpa [It.cells] using hj
theorem cell_far3 {w w' : World} {g b o : Nat} {v : Value} (hg : w.grownBy w' (some g)) (h : w.cell? ⟨b, o, none⟩ = some v) (hlt : b < w.heap.size) (hne : g < b) : w'.cell? ⟨b, o, none⟩ = some v := by
  rw [hg.cell_far ⟨b, o, none⟩ hlt (fun e => by have e2 : b = g := Option.some.inj e; omega)]; exact h
theorem oneI (x : It) : ∀ u ∈ x.cells, u.oneCell' = true := by
  intro u hu
  simp only [It.cells, List.mem_cons, List.not_mem_nil, or_false] at hu
  rcases hu with rfl | rfl | rfl <;> rfl

set_option maxRecDepth 100000 in
set_option maxHeartbeats 6400000 in
theorem copyItems_any (a : Option Addr) (n cap : Nat) (J : List It) (w : World) (hr : RdI w a J) (hJ : J.length = n) (hn : n ≤ 1048576) (hl : ∀ i, i < J.length → (iAt J i).L.length ≤ 1048580) (hli : ∀ i, i < J.length → LieV (iAt J i).a (iAt J i).L.length (iAt J i).cap) :
    Calls Tryd.prog 65 #[.slice a n cap] w fun e w' =>
      ∃ K g cp, e = .returned (.slice (some ⟨g, 0, none⟩) n cp) ∧ HoldsI w' w.heap.size g cp K ∧ K.map It.pl = J.map It.pl ∧ Below w.heap.size w w' := by
  obtain ⟨i0, hi, hz0, hz1, hz2⟩ := info_parts Tryd.info54
  have HJ := hide hJ
  have HL := hide hl
  have HLi := hide hli
  clear hJ hl hli
  go_enter Tryd.func65, Tryd.ntmps65
  go_wp2_with (at_make; refine wpList_make_own _ rfl _ _ 27 rfl w.heap.size 54 i0 (.agg #[.int .i64 0, .string ⟨#[]⟩, .slice none 0 0]) 3 Tryd.underlying27 hi hz0 hz1 _ _ _ (n + 1) rfl rfl ?b1 ?b2 ?b3 (Nat.le_refl _) ?_)
  case b1 => omega
  case b2 => rw [hz2]; omega
  case b3 => unfold maxLen; omega
  intro w0 hown0 hgrow0
  have hs0 : w.heap.size < w0.heap.size := (hown0.lt w.heap.size rfl).2
  have hb0 : Below w.heap.size w w0 := (Below.refl _ _).grown hgrow0 (Nat.le_refl _) (fun k h => by cases h)
  go_wp2
  go_loopw [3, 12] (fun v i wr => ∃ (k g cp : Nat) (K : List It), k ≤ n ∧ i = .int .i64 k ∧ v = .slice (some ⟨g, 0, none⟩) k cp ∧ K.length = k ∧ w.heap.size ≤ g ∧ g < wr.heap.size ∧ wr.ownsRow w.heap.size 54 3 (.slice (some ⟨g, 0, none⟩) k cp) k (rowOf It.cells K) ∧ Copied wr w.heap.size g J K k ∧ Below w.heap.size w wr)
    (fun _ i _ => n - (intOf i).toNat)
  case atStart => exact ⟨0, w.heap.size, n + 1, [], Nat.zero_le _, rfl, rfl, rfl, Nat.le_refl _, hs0, hown0, Copied.zero _ _ _ _ _, hb0⟩
  case round =>
    clear hown0 hgrow0 hb0 hs0
    obtain ⟨k, g, cp, K, hk, rfl, rfl, hKk, hgl, hgs, hown, hcop, hbel⟩ := hrel
    have HKk := hide hKk
    have HCop := hide hcop
    have HOwn := hide hown
    clear hKk hcop
    by_cases hlt : k < n
    · obtain ⟨b, off, hab, hbw, hc⟩ := (hr.below hbel).open (by rw [HJ.out]; omega)
      obtain ⟨c0, c1, c2, hv⟩ := hc k (by rw [HJ.out]; exact hlt)
      have HLk := hide (HL.out k (by rw [HJ.out]; exact hlt))
      have HLik := hide (HLi.out k (by rw [HJ.out]; exact hlt))
      clear hc hown
      subst hab
      obtain ⟨x, hx⟩ : ∃ x, x = iAt J k := ⟨_, rfl⟩
      rw [← hx] at c0 c1 c2 hv HLk HLik
      have HX := hide hx
      clear hx
      obtain ⟨id, kd, va, vc, L⟩ := x
      simp only at c0 c1 c2 hv HLk HLik
      have ba := below_al wr (.cells #[.int .i64 id, .string kd, .slice va L.length vc] 54)
      have hBox := box_new wr (.int .i64 id) (.string kd) (.slice va L.length vc) 54
      have hB1 : Below w.heap.size w (wr.alloc (.cells #[.int .i64 id, .string kd, .slice va L.length vc] 54)) := hbel.trans (ba.mono hbel.size)
      have hv1 := hv.below ba
      go_wp2_with fail
      generalize hw1 : wr.alloc (.cells #[.int .i64 id, .string kd, .slice va L.length vc] 54) = w1 at ba hBox hB1 hv1 ⊢
      clear hw1 c0 c1 c2 hv
      obtain ⟨x0, x1, x2, -, -, -⟩ := box_cell hBox
      have hX1 := (Array.getElem?_eq_some_iff.1 hBox).1
      have hv1d : RdV w1.drew va L := hv1.heap rfl
      have ba' : Below wr.heap.size wr w1.drew := ba.drew
      refine wp_region_held_drew (S := fun W => W.cell? ⟨wr.heap.size, 0, none⟩ = some (.int .i64 id) ∧ W.cell? ⟨wr.heap.size, 1, none⟩ = some (.string kd) ∧ W.cell? ⟨wr.heap.size, 2, none⟩ = some (.slice va L.length vc)) (by kernel_rfl) ⟨x0, x1, x2⟩ (fun hHeld => ?_)
      refine wpAnyH_take (i := 0) (oi := Oper.mk (some 16) _ _ _ _ _) (v := ?v1) rfl (by kernel_rfl) (by kernel_rfl) (by kernel_rfl) (fun _ _ _ h => h) (Or.inl ⟨by rfl, ?y1⟩) hHeld ?r1
      case y1 => (intro W hSW; obtain ⟨q0, q1, q2⟩ := hSW; go_simp; try with_reducible rfl)
      simp only [Act.put, List.setIfInBounds_toArray, List.set_cons_zero, List.set_cons_succ]
      refine wpAnyH_take (i := 1) (oi := Oper.mk (some 17) _ _ _ _ _) (v := ?v2) rfl (by kernel_rfl) (by kernel_rfl) (by kernel_rfl) (fun _ _ _ h => h) (Or.inl ⟨by rfl, ?y2⟩) hHeld ?r2
      case y2 => (intro W hSW; obtain ⟨q0, q1, q2⟩ := hSW; go_simp; try with_reducible rfl)
      simp only [Act.put, List.setIfInBounds_toArray, List.set_cons_zero, List.set_cons_succ]
      refine wpAnyH_take (i := 2) (oi := Oper.mk (some 18) _ _ _ _ _) (v := ?v3) rfl (by kernel_rfl) (by kernel_rfl) (by kernel_rfl) (fun _ _ _ h => h) (Or.inl ⟨by rfl, ?y3⟩) hHeld ?r3
      case y3 => (intro W hSW; obtain ⟨q0, q1, q2⟩ := hSW; go_simp; try with_reducible rfl)
      simp only [Act.put, List.setIfInBounds_toArray, List.set_cons_zero, List.set_cons_succ]
      refine wpAnyH_take (i := 3) (oi := Oper.mk (some 19) _ _ _ _ _) (v := ?v4) rfl (by kernel_rfl) (by kernel_rfl) (by kernel_rfl) (fun _ _ _ h => h) (Or.inl ⟨by rfl, ?y4⟩) hHeld ?r4
      case y4 => (intro W hSW; obtain ⟨q0, q1, q2⟩ := hSW; go_simp; try with_reducible rfl)
      simp only [Act.put, List.setIfInBounds_toArray, List.set_cons_zero, List.set_cons_succ]
      refine wpAnyH_take (i := 4) (oi := Oper.mk (some 20) _ _ _ _ _) (v := ?v5) rfl (by kernel_rfl) (by kernel_rfl) (by kernel_rfl) (fun _ _ _ h => h) (Or.inl ⟨by rfl, ?y5⟩) hHeld ?r5
      case y5 => (intro W hSW; obtain ⟨q0, q1, q2⟩ := hSW; go_simp; try with_reducible rfl)
      simp only [Act.put, List.setIfInBounds_toArray, List.set_cons_zero, List.set_cons_succ]
      refine wpAnyH_ready (rs := [5]) (by kernel_rfl) (by simp) (AllReadyH.cons (o := Oper.mk (some 21) _ _ _ _ _) rfl (fun Kk hK => ?_) AllReadyH.nil)
      go_simp
      refine (copyFact_any kd va vc L _ hv1d HLik.out HLk.out).mono ?_
      rintro e w2 ⟨a', c', rfl, hnew, b2⟩
      have hb12 : Below w1.heap.size w1 w2 := below_dr b2
      have hbr2 : Below wr.heap.size wr w2 := ba.trans (hb12.mono ba.size)
      obtain ⟨z0, z1, z2, -, -, -⟩ := box_cell (box_step hBox hb12)
      refine hK.out _ _ ⟨z0, z1, z2⟩ (fun hHeld => ?_)
      clear hK Kk
      refine wpAnyH_take (i := 6) (oi := Oper.mk (some 22) _ _ _ _ _) (v := ?v6) rfl (by kernel_rfl) (by kernel_rfl) (by kernel_rfl) (fun _ _ _ h => h) (Or.inl ⟨by rfl, ?y6⟩) hHeld ?r6
      case y6 => (intro W hSW; obtain ⟨q0, q1, q2⟩ := hSW; go_simp; try with_reducible rfl)
      simp only [Act.put, List.setIfInBounds_toArray, List.set_cons_zero, List.set_cons_succ]
      refine wpAnyH_ready (rs := [7]) (by kernel_rfl) (by simp) (AllReadyH.cons (o := Oper.mk (some 23) _ _ _ _ _) rfl (fun Kk hK => ?_) AllReadyH.nil)
      go_simp
      have ba3 := below_al w2 (.cells #[.int .i64 id, .string kd, .slice a' L.length c'] 54)
      obtain ⟨z0, z1, z2, -, -, -⟩ := box_cell (box_step (box_step hBox hb12) ba3)
      have hbr3 := hbr2.trans (ba3.mono hbr2.size)
      have hnew3 : NewV _ w1.heap.size a' c' L := hnew.later ba3
      have HSrc := hide (srcI w2 ⟨id, kd, a', c', L⟩)
      have HO3 := hide (ownsRow_below HOwn.out hbr3)
      have hB3 := hbel.trans (hbr3.mono hbel.size)
      have hX3 : w2.heap.size = w2.heap.size := rfl
      refine hK.out _ _ ⟨z0, z1, z2⟩ (fun hHeld => ?_)
      clear hK Kk
      refine wpAnyH_ready (rs := [8]) (by kernel_rfl) (by simp) (AllReadyH.cons (o := Oper.mk (some 24) _ _ _ _ _) rfl (fun Kk hK => ?_) AllReadyH.nil)
      refine step_append_lies _ rfl (.tmp 16) (.tmp 23) 27 rfl w.heap.size 54 i0 (.agg #[.int .i64 0, .string ⟨#[]⟩, .slice none 0 0]) 3 48 Tryd.underlying27 hi hz0 hz1 hz2 rfl (by omega) (.slice (some ⟨g, 0, none⟩) k cp) k (rowOf It.cells K) rfl HO3.out ⟨w2.heap.size, 0, none⟩ 1 1 (It.cells ⟨id, kd, a', c', L⟩) ?hx rfl HSrc.out (oneI _) (by omega) (by unfold maxLen; omega) (by omega) hB3.size _ rfl ?_
      case hx => simp [Act.eval]
      intro g5 c5 w5 ho5 hg5 hat5 hlt5
      have hwr3 : wr.heap.size < (w2.alloc (.cells #[.int .i64 id, .string kd, .slice a' L.length c'] 54)).heap.size := Nat.lt_of_lt_of_le hX1 (Nat.le_trans hb12.size ba3.size)
      have y0 := cell_far3 hg5 z0 hwr3 hgs
      have y1 := cell_far3 hg5 z1 hwr3 hgs
      have y2 := cell_far3 hg5 z2 hwr3 hgs
      have HC3 := hide ((HCop.out.more (K' := K ++ [⟨id, kd, a', c', L⟩]) (x := ⟨id, kd, a', c', L⟩) hbr3 (World.grownBy.refl _ _) (fun i hi => iAt_app_lt (by rw [HKk.out]; exact hi)) (by have e := iAt_app_eq K ⟨id, kd, a', c', L⟩; rw [HKk.out] at e; exact e) (by rw [← HX.out]; rfl) (fun hne => by obtain ⟨q, e, h1, o⟩ := hnew3.own hne; exact ⟨q, e, Nat.le_trans (Nat.le_of_lt hX1) h1, o⟩) hnew3.2 hbel.size hgs).rebase (g' := g5) (fun q hq hne => hg5.block q hq (fun e => hne (Option.some.inj e))) (by rcases hat5 with e | e; exact .inl (Option.some.inj e).symm; exact .inr (Nat.le_of_eq e.symm)))
      have hg5l : w.heap.size ≤ g5 := by
        rcases hat5 with e | e
        · have e2 : g = g5 := Option.some.inj e
          rw [← e2]; exact hgl
        · rw [e]; exact hB3.size
      have HB5 := hide (hB3.grown hg5 hB3.size (fun q e => by have e2 : g = q := Option.some.inj e; rw [← e2]; exact hgl))
      rw [rowI_app] at ho5
      have HO5 := hide ho5
      have HLen : Hid ((K ++ [(⟨id, kd, a', c', L⟩ : It)]).length = k + 1) := by unfold Hid; rw [List.length_append, HKk.out]; rfl
      refine hK.out _ _ ⟨y0, y1, y2⟩ (fun hHeld => ?_)
      clear hK Kk ho5 hg5 HSrc HO3 hB3 hbr3 hnew3 hnew ba3 hbr2 hb12 z0 z1 z2 y0 y1 y2 x0 x1 x2 hBox HCop HOwn hv1 hv1d ba ba' hB1 b2
      refine wpAnyH_take (i := 9) (oi := Oper.mk (some 3) _ _ _ _ _) (v := ?v9) rfl (by kernel_rfl) (by kernel_rfl) (by kernel_rfl) (fun _ _ _ h => h) (Or.inl ⟨by rfl, ?y9⟩) hHeld ?r9
      case y9 => (intro W hSW; obtain ⟨q0, q1, q2⟩ := hSW; go_simp; try with_reducible rfl)
      simp only [Act.put, List.setIfInBounds_toArray, List.set_cons_zero, List.set_cons_succ]
      refine wpAnyH_done (by kernel_rfl) ?_ _
      go_wp2
      go_roundw
      case rel => exact ⟨k + 1, g5, c5, _, by omega, by go_num, rfl, HLen.out, hg5l, hlt5, HO5.out, HC3.out, HB5.out⟩
      case measure => simp [intOf]; omega
    · have hkn : k = K.length := by rw [HKk.out]
      have HR : Hid (HoldsI wr w.heap.size g cp K ∧ K.map It.pl = J.map It.pl) := by
        refine Copied.done (hkn ▸ HCop.out) (by rw [HKk.out, HJ.out]; omega) hgl ?_
        rw [HKk.out]; exact hown
      have hkn2 : k = n := by omega
      subst hkn2
      clear hkn hown
      go_wp2
      go_ret
      exact ⟨K, g, cp, rfl, HR.out.1, HR.out.2, hbel⟩
end Go.Proofs.YtaflokfgbmlmaadDoor
/-
  The model's copy of a store: its items in a block of the call's own (none where there are none), their lists each in its own.
-/
namespace Go.Proofs.YtaflokfgbmlmaadDoor
open Go.RowKit
set_option linter.unusedVariables false

/-- as rebase, below lo nothing is asked -/
theorem Copied.rebase2 {w w' : World} {lo g g' : Nat} {J K : List It} {k : Nat} (h : Copied w lo g J K k) (hk : ∀ q, lo ≤ q → q < w.heap.size → q ≠ g → w'.heap[q]? = w.heap[q]?) (hg : g' = g ∨ w.heap.size ≤ g') : Copied w' lo g' J K k := by
  refine ⟨fun i hi => ?_, h.2⟩
  obtain ⟨h1, h2, h3⟩ := h.1 i hi
  refine ⟨h1, fun hne => ?_, h3⟩
  obtain ⟨q, e, hl, hq, o⟩ := h2 hne
  have hlt := o.lt
  refine ⟨q, e, hl, by rcases hg with rfl | hg; exact hq; omega, ?_⟩
  exact ownsRow_sameB o (fun j hj => by simp only [Value.ownBlock, Option.some.injEq] at hj; rw [← hj]; exact hk q hl hlt hq)
/-- a store's items, in a block of the call's own or none at all -/
def GivesS (w : World) (lo : Nat) (v : Value) (n : Nat) (K : List It) : Prop := (n = 0 ∧ K = [] ∧ v = .slice none 0 0) ∨ ∃ g cp, v = .slice (some ⟨g, 0, none⟩) n cp ∧ HoldsI w lo g cp K
theorem sI5 {w W : World} {b off n cap k : Nat} {nx : Int} {J : List It} {x : It} (hA : W.heap[w.heap.size]? = some (.cells #[.slice (some ⟨b, off, none⟩) n cap, .int .i64 nx] 29 (0, 0))) (hr : RdI w (some ⟨b, off, none⟩) J) (hB : Below w.heap.size w W) (hk : k < J.length) (hx : x = iAt J k) :
    W.cell? ⟨w.heap.size, 0, none⟩ = some (.slice (some ⟨b, off, none⟩) n cap) ∧ W.cell? ⟨b, off + k * 3, none⟩ = some (.int .i64 x.id) ∧ W.cell? ⟨b, off + k * 3 + 1, none⟩ = some (.string x.kd) ∧ W.cell? ⟨b, off + k * 3 + 2, none⟩ = some (.slice x.a x.L.length x.cap) := by
  obtain ⟨b2, off2, e, h0, h1, h2, -⟩ := hr.below hB k hk
  simp only [Option.some.injEq, Addr.mk.injEq] at e
  obtain ⟨rfl, rfl, -⟩ := e
  rw [hx]
  exact ⟨(box2_cell hA).1, h0, h1, h2⟩
theorem sI {w wr W : World} {b off n cap k q : Nat} {nx : Int} {J : List It} {x : It} {o : Obj} (hA : wr.heap[w.heap.size]? = some (.cells #[.slice (some ⟨b, off, none⟩) n cap, .int .i64 nx] 29 (0, 0))) (hO : wr.heap[q]? = some o) (hr : RdI w (some ⟨b, off, none⟩) J) (hk : k < J.length) (hb : Below wr.heap.size wr W) (hB : Below w.heap.size w W) (hx : x = iAt J k) :
    W.cell? ⟨w.heap.size, 0, none⟩ = some (.slice (some ⟨b, off, none⟩) n cap) ∧ W.cell? ⟨b, off + k * 3, none⟩ = some (.int .i64 x.id) ∧ W.cell? ⟨b, off + k * 3 + 1, none⟩ = some (.string x.kd) ∧ W.cell? ⟨b, off + k * 3 + 2, none⟩ = some (.slice x.a x.L.length x.cap) :=
  sI5 (box_step hA hb) hr hB hk hx

set_option maxRecDepth 100000 in
set_option maxHeartbeats 12800000 in
theorem l4Copy_any (a : Option Addr) (n cap : Nat) (nx : Int) (J : List It) (w : World) (hr : RdI w a J) (hJ : J.length = n) (hn : n ≤ 1048576) (hl : ∀ i, i < J.length → (iAt J i).L.length ≤ 1048580) :
    Calls Tryd.prog 37 #[.agg #[.slice a n cap, .int .i64 nx]] w fun e w' =>
      ∃ K v, e = .returned (.agg #[v, .int .i64 nx]) ∧ GivesS w' w.heap.size v n K ∧ K.map It.pl = J.map It.pl ∧ Below w.heap.size w w' := by
  obtain ⟨i0, hi, hz0, hz1, hz2⟩ := info_parts Tryd.info54
  have HJ := hide hJ
  have HL := hide hl
  clear hJ hl
  have b0 := below_al w (.cells #[.slice a n cap, .int .i64 nx] 29)
  have b1 := b0.alloc b0.size (.cells #[.slice none 0 0, .int .i64 0] 29)
  have b2 := b1.alloc b1.size (.cells #[.slice none 0 0, .int .i64 nx] 29)
  have hA := box_old (box_old (box2_new w (.slice a n cap) (.int .i64 nx) 29) (by simp) (.cells #[.slice none 0 0, .int .i64 0] 29)) (by simp; omega) (.cells #[.slice none 0 0, .int .i64 nx] 29)
  have hR := box_old (box2_new (w.alloc (.cells #[.slice a n cap, .int .i64 nx] 29)) (.slice none 0 0) (.int .i64 0) 29) (by simp) (.cells #[.slice none 0 0, .int .i64 nx] 29)
  have hO := box2_new ((w.alloc (.cells #[.slice a n cap, .int .i64 nx] 29)).alloc (.cells #[.slice none 0 0, .int .i64 0] 29)) (.slice none 0 0) (.int .i64 nx) 29
  simp only [World.size_alloc] at hA hR hO
  go_enter Tryd.func37, Tryd.ntmps37
  go_wp2
  generalize ((w.alloc (.cells #[.slice a n cap, .int .i64 nx] 29)).alloc (.cells #[.slice none 0 0, .int .i64 0] 29)).alloc (.cells #[.slice none 0 0, .int .i64 nx] 29) = w0 at b2 hA hR hO ⊢
  clear b0 b1
  go_loopw [4] (fun i wr => ∃ (k g : Nat) (v : Value) (K : List It), k ≤ n ∧ i = .int .i64 k ∧ K.length = k ∧ wr.heap[w.heap.size + 1 + 1]? = some (.cells #[v, .int .i64 nx] 29 (0, 0)) ∧ wr.heap[w.heap.size]? = some (.cells #[.slice a n cap, .int .i64 nx] 29 (0, 0)) ∧ wr.heap[w.heap.size + 1]? = some (.cells #[.slice none 0 0, .int .i64 0] 29 (0, 0)) ∧ ((k = 0 ∧ v = .slice none 0 0) ∨ ∃ cp, v = .slice (some ⟨g, 0, none⟩) k cp ∧ w.heap.size + 1 + 1 + 1 ≤ g) ∧ g < wr.heap.size ∧ wr.ownsRow (w.heap.size + 1 + 1 + 1) 54 3 v k (rowOf It.cells K) ∧ Copied wr (w.heap.size + 1 + 1 + 1) g J K k ∧ Below w.heap.size w wr)
    (fun i _ => n - (intOf i).toNat)
  case atStart => exact ⟨0, w.heap.size, .slice none 0 0, [], Nat.zero_le _, rfl, rfl, hO, hA, hR, Or.inl ⟨rfl, rfl⟩, (Array.getElem?_eq_some_iff.1 hA).1, World.ownsRow_nil _ _ _ _, Copied.zero _ _ _ _ _, b2⟩
  case round =>
    clear hO hA hR b2
    obtain ⟨k, g, v, K, hk, rfl, hKk, hO, hA, hR, hvg, hgs, hown, hcop, hbel⟩ := hrel
    have HKk := hide hKk
    have HCop := hide hcop
    have HOwn := hide hown
    have hlo : w.heap.size + 1 + 1 + 1 ≤ wr.heap.size := (Array.getElem?_eq_some_iff.1 hO).1
    have HOb : Hid (∀ q, v.ownBlock = some q → q = g ∧ w.heap.size + 1 + 1 + 1 ≤ q) := by
      intro q e
      rcases hvg with ⟨_, rfl⟩ | ⟨cp, rfl, hl⟩
      · cases e
      · cases e; exact ⟨rfl, hl⟩
    clear hKk hcop hown
    by_cases hlt : k < n
    · have HKn : Hid (k < J.length) := by unfold Hid; rw [HJ.out]; exact hlt
      obtain ⟨b, off, hab, hbw, -⟩ := hr.open (by rw [HJ.out]; omega)
      subst hab
      obtain ⟨b', off', e', c0, c1, c2, hv⟩ := hr.below hbel k HKn.out
      have HLk := hide (HL.out k HKn.out)
      clear b' off' e' c0 c1 c2 hvg
      obtain ⟨x, hx⟩ : ∃ x, x = iAt J k := ⟨_, rfl⟩
      have S0 := sI5 hA hr hbel HKn.out hx
      rw [← hx] at hv HLk
      have HX := hide hx
      clear hx
      obtain ⟨id, kd, va, vc, L⟩ := x
      simp only at S0 hv HLk
      obtain ⟨o0, -, -, -⟩ := box2_cell hO
      have hvd : RdV wr.drew va L := hv.heap rfl
      obtain ⟨s0, s1, s2, s3⟩ := S0
      go_wp2_with fail
      have S0 := And.intro s0 (And.intro s1 (And.intro s2 s3))
      clear s0 s1 s2 s3
      refine wp_region_held_drew (S := fun W => W.cell? ⟨w.heap.size, 0, none⟩ = some (.slice (some ⟨b, off, none⟩) n cap) ∧ W.cell? ⟨b, off + k * 3, none⟩ = some (.int .i64 id) ∧ W.cell? ⟨b, off + k * 3 + 1, none⟩ = some (.string kd) ∧ W.cell? ⟨b, off + k * 3 + 2, none⟩ = some (.slice va L.length vc)) (by kernel_rfl) S0 (fun hHeld => ?_)
      refine wpAnyH_take (i := 0) (oi := Oper.mk (some 15) _ _ _ _ _) (v := ?v1) rfl (by kernel_rfl) (by kernel_rfl) (by kernel_rfl) (fun _ _ _ h => h) (Or.inl ⟨by rfl, ?y1⟩) hHeld ?r1
      case y1 => (intro W hSW; obtain ⟨q0, q1, q2, q3⟩ := hSW; go_simp; try with_reducible rfl)
      simp only [Act.put, List.setIfInBounds_toArray, List.set_cons_zero, List.set_cons_succ]
      refine wpAnyH_take (i := 2) (oi := Oper.mk (some 17) _ _ _ _ _) (v := ?v2) rfl (by kernel_rfl) (by kernel_rfl) (by kernel_rfl) (fun _ _ _ h => h) (Or.inl ⟨by rfl, ?y2⟩) hHeld ?r2
      case y2 => (intro W hSW; obtain ⟨q0, q1, q2, q3⟩ := hSW; go_simp; try with_reducible rfl)
      simp only [Act.put, List.setIfInBounds_toArray, List.set_cons_zero, List.set_cons_succ]
      refine wpAnyH_take (i := 3) (oi := Oper.mk (some 18) _ _ _ _ _) (v := ?v3) rfl (by kernel_rfl) (by kernel_rfl) (by kernel_rfl) (fun _ _ _ h => h) (Or.inl ⟨by rfl, ?y3⟩) hHeld ?r3
      case y3 => (intro W hSW; obtain ⟨q0, q1, q2, q3⟩ := hSW; go_simp; try with_reducible rfl)
      simp only [Act.put, List.setIfInBounds_toArray, List.set_cons_zero, List.set_cons_succ]
      refine wpAnyH_take (i := 4) (oi := Oper.mk (some 19) _ _ _ _ _) (v := ?v4) rfl (by kernel_rfl) (by kernel_rfl) (by kernel_rfl) (fun _ _ _ h => h) (Or.inl ⟨by rfl, ?y4⟩) hHeld ?r4
      case y4 => (intro W hSW; obtain ⟨q0, q1, q2, q3⟩ := hSW; go_simp; try with_reducible rfl)
      simp only [Act.put, List.setIfInBounds_toArray, List.set_cons_zero, List.set_cons_succ]
      refine wpAnyH_take (i := 5) (oi := Oper.mk (some 20) _ _ _ _ _) (v := ?v5) rfl (by kernel_rfl) (by kernel_rfl) (by kernel_rfl) (fun _ _ _ h => h) (Or.inl ⟨by rfl, ?y5⟩) hHeld ?r5
      case y5 => (intro W hSW; obtain ⟨q0, q1, q2, q3⟩ := hSW; go_simp; try with_reducible rfl)
      simp only [Act.put, List.setIfInBounds_toArray, List.set_cons_zero, List.set_cons_succ]
      refine wpAnyH_take (i := 6) (oi := Oper.mk (some 21) _ _ _ _ _) (v := ?v6) rfl (by kernel_rfl) (by kernel_rfl) (by kernel_rfl) (fun _ _ _ h => h) (Or.inl ⟨by rfl, ?y6⟩) hHeld ?r6
      case y6 => (intro W hSW; obtain ⟨q0, q1, q2, q3⟩ := hSW; go_simp; try with_reducible rfl)
      simp only [Act.put, List.setIfInBounds_toArray, List.set_cons_zero, List.set_cons_succ]
      refine wpAnyH_take (i := 7) (oi := Oper.mk (some 22) _ _ _ _ _) (v := ?v7) rfl (by kernel_rfl) (by kernel_rfl) (by kernel_rfl) (fun _ _ _ h => h) (Or.inl ⟨by rfl, ?y7⟩) hHeld ?r7
      case y7 => (intro W hSW; obtain ⟨q0, q1, q2, q3⟩ := hSW; go_simp; try with_reducible rfl)
      simp only [Act.put, List.setIfInBounds_toArray, List.set_cons_zero, List.set_cons_succ]
      refine wpAnyH_take (i := 8) (oi := Oper.mk (some 23) _ _ _ _ _) (v := ?v8) rfl (by kernel_rfl) (by kernel_rfl) (by kernel_rfl) (fun _ _ _ h => h) (Or.inl ⟨by rfl, ?y8⟩) hHeld ?r8
      case y8 => (intro W hSW; obtain ⟨q0, q1, q2, q3⟩ := hSW; go_simp; try with_reducible rfl)
      simp only [Act.put, List.setIfInBounds_toArray, List.set_cons_zero, List.set_cons_succ]
      refine wpAnyH_take (i := 9) (oi := Oper.mk (some 24) _ _ _ _ _) (v := ?v9) rfl (by kernel_rfl) (by kernel_rfl) (by kernel_rfl) (fun _ _ _ h => h) (Or.inl ⟨by rfl, ?y9⟩) hHeld ?r9
      case y9 => (intro W hSW; obtain ⟨q0, q1, q2, q3⟩ := hSW; go_simp; try with_reducible rfl)
      simp only [Act.put, List.setIfInBounds_toArray, List.set_cons_zero, List.set_cons_succ]
      refine wpAnyH_take (i := 10) (oi := Oper.mk (some 25) _ _ _ _ _) (v := ?v10) rfl (by kernel_rfl) (by kernel_rfl) (by kernel_rfl) (fun _ _ _ h => h) (Or.inl ⟨by rfl, ?y10⟩) hHeld ?r10
      case y10 => (intro W hSW; obtain ⟨q0, q1, q2, q3⟩ := hSW; go_simp; try with_reducible rfl)
      simp only [Act.put, List.setIfInBounds_toArray, List.set_cons_zero, List.set_cons_succ]
      refine wpAnyH_take (i := 11) (oi := Oper.mk (some 26) _ _ _ _ _) (v := ?v11) rfl (by kernel_rfl) (by kernel_rfl) (by kernel_rfl) (fun _ _ _ h => h) (Or.inl ⟨by rfl, ?y11⟩) hHeld ?r11
      case y11 => (intro W hSW; obtain ⟨q0, q1, q2, q3⟩ := hSW; go_simp; try with_reducible rfl)
      simp only [Act.put, List.setIfInBounds_toArray, List.set_cons_zero, List.set_cons_succ]
      refine wpAnyH_take (i := 12) (oi := Oper.mk (some 27) _ _ _ _ _) (v := ?v12) rfl (by kernel_rfl) (by kernel_rfl) (by kernel_rfl) (fun _ _ _ h => h) (Or.inl ⟨by rfl, ?y12⟩) hHeld ?r12
      case y12 => (intro W hSW; obtain ⟨q0, q1, q2, q3⟩ := hSW; go_simp; try with_reducible rfl)
      simp only [Act.put, List.setIfInBounds_toArray, List.set_cons_zero, List.set_cons_succ]
      refine wpAnyH_take (i := 13) (oi := Oper.mk (some 28) _ _ _ _ _) (v := ?v13) rfl (by kernel_rfl) (by kernel_rfl) (by kernel_rfl) (fun _ _ _ h => h) (Or.inl ⟨by rfl, ?y13⟩) hHeld ?r13
      case y13 => (intro W hSW; obtain ⟨q0, q1, q2, q3⟩ := hSW; go_simp; try with_reducible rfl)
      simp only [Act.put, List.setIfInBounds_toArray, List.set_cons_zero, List.set_cons_succ]
      refine wpAnyH_ready (rs := [1, 14]) (by kernel_rfl) (by simp) (AllReadyH.cons (o := Oper.mk (some 16) _ _ _ _ _) rfl (fun Kk hK => ?_) (AllReadyH.cons (o := Oper.mk (some 29) _ _ _ _ _) rfl (fun Kk hK => ?_) AllReadyH.nil))
      · go_simp
        refine hK.out _ _ S0 (fun hHeld => ?_)
        clear hK Kk
        refine wpAnyH_ready (rs := [14]) (by kernel_rfl) (by simp) (AllReadyH.cons (o := Oper.mk (some 29) _ _ _ _ _) rfl (fun Kk hK => ?_) AllReadyH.nil)
        go_simp
        refine (l3Copy_any kd va vc L _ hvd HLk.out).mono ?_
        rintro e w2 ⟨a', c', rfl, hnew, b2⟩
        have hbr2 : Below wr.heap.size wr w2 := below_dr b2
        have hB2 := hbel.trans (hbr2.mono hbel.size)
        have hO2 := box_step hO hbr2
        have S2 := sI hA hO hr HKn.out hbr2 hB2 HX.out
        obtain ⟨o2, -, -, -⟩ := box2_cell hO2
        refine hK.out _ _ S2 (fun hHeld => ?_)
        clear hK Kk
        refine wpAnyH_take (i := 15) (oi := Oper.mk (some 30) _ _ _ _ _) (v := ?v14) rfl (by kernel_rfl) (by kernel_rfl) (by kernel_rfl) (fun _ _ _ h => h) (Or.inl ⟨by rfl, ?y14⟩) hHeld ?r14
        case y14 => (intro W hSW; obtain ⟨q0, q1, q2, q3⟩ := hSW; go_simp; try with_reducible rfl)
        simp only [Act.put, List.setIfInBounds_toArray, List.set_cons_zero, List.set_cons_succ]
        refine wpAnyH_ready (rs := [16]) (by kernel_rfl) (by simp) (AllReadyH.cons (o := Oper.mk (some 31) _ _ _ _ _) rfl (fun Kk hK => ?_) AllReadyH.nil)
        go_simp
        have ba3 := below_al w2 (.cells #[.int .i64 id, .string kd, .slice a' L.length c'] 54)
        have hbr3 := hbr2.trans (ba3.mono hbr2.size)
        have hB3 := hbel.trans (hbr3.mono hbel.size)
        have hnew3 : NewV _ wr.heap.size a' c' L := hnew.later ba3
        have HSrc := hide (srcI w2 ⟨id, kd, a', c', L⟩)
        have HO3 := hide (ownsRow_below HOwn.out hbr3)
        have hO3 := box_step hO hbr3
        have hA3 := box_step hA hbr3
        have hR3 := box_step hR hbr3
        have S3 := sI hA hO hr HKn.out hbr3 hB3 HX.out
        obtain ⟨o3, -, -, -⟩ := box2_cell hO3
        refine hK.out _ _ S3 (fun hHeld => ?_)
        clear hK Kk
        refine wpAnyH_ready (rs := [17]) (by kernel_rfl) (by simp) (AllReadyH.cons (o := Oper.mk (some 32) _ _ _ _ _) rfl (fun Kk hK => ?_) AllReadyH.nil)
        refine step_append_lies _ rfl (.tmp 16) (.tmp 31) 27 rfl (w.heap.size + 1 + 1 + 1) 54 i0 (.agg #[.int .i64 0, .string ⟨#[]⟩, .slice none 0 0]) 3 48 Tryd.underlying27 hi hz0 hz1 hz2 rfl (by omega) v k (rowOf It.cells K) rfl HO3.out ⟨w2.heap.size, 0, none⟩ 1 1 (It.cells ⟨id, kd, a', c', L⟩) ?hx rfl HSrc.out (oneI _) (by omega) (by unfold maxLen; omega) (by omega) (Nat.le_trans hlo hbr3.size) _ rfl ?_
        case hx => simp [Act.eval]
        intro g5 c5 w5 ho5 hg5 hat5 hlt5
        rw [rowI_app] at ho5
        have hB5 := hB3.grown hg5 hB3.size (fun q e => by have := HOb.out q e; omega)
        have far : ∀ q, q < w.heap.size + 1 + 1 + 1 → w5.heap[q]? = (w2.alloc (.cells #[.int .i64 id, .string kd, .slice a' L.length c'] 54)).heap[q]? := fun q hq => hg5.block q (Nat.lt_of_lt_of_le hq (Nat.le_trans hlo hbr3.size)) (fun e => by have := HOb.out q e.symm; omega)
        have hO5 := (far _ (by omega)).trans hO3
        have hA5 := (far _ (by omega)).trans hA3
        have hR5 := (far _ (by omega)).trans hR3
        have S5 := sI5 hA5 hr hB5 HKn.out HX.out
        obtain ⟨o5, o51, of0, of1⟩ := box2_cell hO5
        have hg5l : w.heap.size + 1 + 1 + 1 ≤ g5 := by
          rcases hat5 with e | e
          · exact (HOb.out g5 e).2
          · rw [e]; exact Nat.le_trans hlo hbr3.size
        have HC3 := hide (HCop.out.more (K' := K ++ [⟨id, kd, a', c', L⟩]) (x := ⟨id, kd, a', c', L⟩) hbr3 (World.grownBy.refl _ _) (fun i hi => iAt_app_lt (by rw [HKk.out]; exact hi)) (by have e := iAt_app_eq K ⟨id, kd, a', c', L⟩; rw [HKk.out] at e; exact e) (by rw [← HX.out]; rfl) (fun hne => by obtain ⟨q, e, h1, o⟩ := hnew3.own hne; exact ⟨q, e, h1, o⟩) hnew3.2 hlo hgs)
        have st := box2_set0 hO5 (.slice (some ⟨g5, 0, none⟩) (k + 1) c5)
        have HC6 := hide (HC3.out.rebase2 (w' := w5.setCell ⟨w.heap.size + 1 + 1, 0, none⟩ (.slice (some ⟨g5, 0, none⟩) (k + 1) c5)) (g' := g5) (fun q hq1 hq hne => (st.2.block q (Nat.lt_of_lt_of_le hq hg5.size) (fun e => by have e2 : q = w.heap.size + 1 + 1 := Option.some.inj e; omega)).trans (hg5.block q hq (fun e => hne (HOb.out q e.symm).1))) (by rcases hat5 with e | e; exact .inl (HOb.out g5 e).1; exact .inr (Nat.le_of_eq e.symm)))
        have HO6 := hide (ownsRow_sameB (w' := w5.setCell ⟨w.heap.size + 1 + 1, 0, none⟩ (.slice (some ⟨g5, 0, none⟩) (k + 1) c5)) ho5 (fun q e => by have e1 : g5 = q := Option.some.inj e; subst e1; exact st.2.block g5 hlt5 (fun e => by have e2 : g5 = w.heap.size + 1 + 1 := Option.some.inj e; omega)))
        have hB6 := below_set hB5 st.2 (by omega)
        have hA6 := box_gr hA5 st.2 (by omega)
        have hR6 := box_gr hR5 st.2 (by omega)
        have hO6 := st.1
        have S6 := sI5 hA6 hr hB6 HKn.out HX.out
        have hlt6 := Nat.lt_of_lt_of_le hlt5 st.2.size
        have HLen : Hid ((K ++ [(⟨id, kd, a', c', L⟩ : It)]).length = k + 1) := by unfold Hid; rw [List.length_append, HKk.out]; rfl
        refine hK.out _ _ S5 (fun hHeld => ?_)
        clear hK Kk
        refine wpAnyH_take (i := 18) (oi := Oper.mk (some 33) _ _ _ _ _) (v := ?v15) rfl (by kernel_rfl) (by kernel_rfl) (by kernel_rfl) (fun _ _ _ h => h) (Or.inl ⟨by rfl, ?y15⟩) hHeld ?r15
        case y15 => (intro W hSW; obtain ⟨q0, q1, q2, q3⟩ := hSW; go_simp; try with_reducible rfl)
        simp only [Act.put, List.setIfInBounds_toArray, List.set_cons_zero, List.set_cons_succ]
        refine wpAnyH_ready (rs := [19]) (by kernel_rfl) (by simp) (AllReadyH.cons (o := Oper.mk none _ _ _ _ _) rfl (fun Kk hK => ?_) AllReadyH.nil)
        go_simp
        refine hK.out _ _ S6 (fun hHeld => ?_)
        clear hK Kk
        refine wpAnyH_done (by kernel_rfl) ?_ _
        have HB6 := hide hB6
        have HA6 := hide hA6
        have HR6 := hide hR6
        have HP6 := hide hO6
        clear S2 S3 S5 S6 st hO6 hA6 hR6 hB6 o5 o51 of0 of1 hO5 hA5 hR5 far hB5 hHeld o3 hO3 hA3 hR3 ho5 hg5 HO3 HSrc hnew3 hB3 hbr3 ba3 o2 hO2 hB2 hbr2 hnew b2 HC3 HCop HOwn hO hA hR S0 o0 
        go_wp2
        go_roundw
        case rel => exact ⟨k + 1, g5, _, _, by omega, by go_num, HLen.out, HP6.out, HA6.out, HR6.out, Or.inr ⟨c5, rfl, hg5l⟩, hlt6, HO6.out, HC6.out, HB6.out⟩
        case measure => simp [intOf]; omega
      · go_simp
        refine (l3Copy_any kd va vc L _ hvd HLk.out).mono ?_
        rintro e w2 ⟨a', c', rfl, hnew, b2⟩
        have hbr2 : Below wr.heap.size wr w2 := below_dr b2
        have hB2 := hbel.trans (hbr2.mono hbel.size)
        have hO2 := box_step hO hbr2
        have S2 := sI hA hO hr HKn.out hbr2 hB2 HX.out
        obtain ⟨o2, -, -, -⟩ := box2_cell hO2
        refine hK.out _ _ S2 (fun hHeld => ?_)
        clear hK Kk
        refine wpAnyH_take (i := 15) (oi := Oper.mk (some 30) _ _ _ _ _) (v := ?v16) rfl (by kernel_rfl) (by kernel_rfl) (by kernel_rfl) (fun _ _ _ h => h) (Or.inl ⟨by rfl, ?y16⟩) hHeld ?r16
        case y16 => (intro W hSW; obtain ⟨q0, q1, q2, q3⟩ := hSW; go_simp; try with_reducible rfl)
        simp only [Act.put, List.setIfInBounds_toArray, List.set_cons_zero, List.set_cons_succ]
        refine wpAnyH_ready (rs := [1, 16]) (by kernel_rfl) (by simp) (AllReadyH.cons (o := Oper.mk (some 16) _ _ _ _ _) rfl (fun Kk hK => ?_) (AllReadyH.cons (o := Oper.mk (some 31) _ _ _ _ _) rfl (fun Kk hK => ?_) AllReadyH.nil))
        · go_simp
          refine hK.out _ _ S2 (fun hHeld => ?_)
          clear hK Kk
          refine wpAnyH_ready (rs := [16]) (by kernel_rfl) (by simp) (AllReadyH.cons (o := Oper.mk (some 31) _ _ _ _ _) rfl (fun Kk hK => ?_) AllReadyH.nil)
          go_simp
          have ba3 := below_al w2 (.cells #[.int .i64 id, .string kd, .slice a' L.length c'] 54)
          have hbr3 := hbr2.trans (ba3.mono hbr2.size)
          have hB3 := hbel.trans (hbr3.mono hbel.size)
          have hnew3 : NewV _ wr.heap.size a' c' L := hnew.later ba3
          have HSrc := hide (srcI w2 ⟨id, kd, a', c', L⟩)
          have HO3 := hide (ownsRow_below HOwn.out hbr3)
          have hO3 := box_step hO hbr3
          have hA3 := box_step hA hbr3
          have hR3 := box_step hR hbr3
          have S3 := sI hA hO hr HKn.out hbr3 hB3 HX.out
          obtain ⟨o3, -, -, -⟩ := box2_cell hO3
          refine hK.out _ _ S3 (fun hHeld => ?_)
          clear hK Kk
          refine wpAnyH_ready (rs := [17]) (by kernel_rfl) (by simp) (AllReadyH.cons (o := Oper.mk (some 32) _ _ _ _ _) rfl (fun Kk hK => ?_) AllReadyH.nil)
          refine step_append_lies _ rfl (.tmp 16) (.tmp 31) 27 rfl (w.heap.size + 1 + 1 + 1) 54 i0 (.agg #[.int .i64 0, .string ⟨#[]⟩, .slice none 0 0]) 3 48 Tryd.underlying27 hi hz0 hz1 hz2 rfl (by omega) v k (rowOf It.cells K) rfl HO3.out ⟨w2.heap.size, 0, none⟩ 1 1 (It.cells ⟨id, kd, a', c', L⟩) ?hx rfl HSrc.out (oneI _) (by omega) (by unfold maxLen; omega) (by omega) (Nat.le_trans hlo hbr3.size) _ rfl ?_
          case hx => simp [Act.eval]
          intro g5 c5 w5 ho5 hg5 hat5 hlt5
          rw [rowI_app] at ho5
          have hB5 := hB3.grown hg5 hB3.size (fun q e => by have := HOb.out q e; omega)
          have far : ∀ q, q < w.heap.size + 1 + 1 + 1 → w5.heap[q]? = (w2.alloc (.cells #[.int .i64 id, .string kd, .slice a' L.length c'] 54)).heap[q]? := fun q hq => hg5.block q (Nat.lt_of_lt_of_le hq (Nat.le_trans hlo hbr3.size)) (fun e => by have := HOb.out q e.symm; omega)
          have hO5 := (far _ (by omega)).trans hO3
          have hA5 := (far _ (by omega)).trans hA3
          have hR5 := (far _ (by omega)).trans hR3
          have S5 := sI5 hA5 hr hB5 HKn.out HX.out
          obtain ⟨o5, o51, of0, of1⟩ := box2_cell hO5
          have hg5l : w.heap.size + 1 + 1 + 1 ≤ g5 := by
            rcases hat5 with e | e
            · exact (HOb.out g5 e).2
            · rw [e]; exact Nat.le_trans hlo hbr3.size
          have HC3 := hide (HCop.out.more (K' := K ++ [⟨id, kd, a', c', L⟩]) (x := ⟨id, kd, a', c', L⟩) hbr3 (World.grownBy.refl _ _) (fun i hi => iAt_app_lt (by rw [HKk.out]; exact hi)) (by have e := iAt_app_eq K ⟨id, kd, a', c', L⟩; rw [HKk.out] at e; exact e) (by rw [← HX.out]; rfl) (fun hne => by obtain ⟨q, e, h1, o⟩ := hnew3.own hne; exact ⟨q, e, h1, o⟩) hnew3.2 hlo hgs)
          have st := box2_set0 hO5 (.slice (some ⟨g5, 0, none⟩) (k + 1) c5)
          have HC6 := hide (HC3.out.rebase2 (w' := w5.setCell ⟨w.heap.size + 1 + 1, 0, none⟩ (.slice (some ⟨g5, 0, none⟩) (k + 1) c5)) (g' := g5) (fun q hq1 hq hne => (st.2.block q (Nat.lt_of_lt_of_le hq hg5.size) (fun e => by have e2 : q = w.heap.size + 1 + 1 := Option.some.inj e; omega)).trans (hg5.block q hq (fun e => hne (HOb.out q e.symm).1))) (by rcases hat5 with e | e; exact .inl (HOb.out g5 e).1; exact .inr (Nat.le_of_eq e.symm)))
          have HO6 := hide (ownsRow_sameB (w' := w5.setCell ⟨w.heap.size + 1 + 1, 0, none⟩ (.slice (some ⟨g5, 0, none⟩) (k + 1) c5)) ho5 (fun q e => by have e1 : g5 = q := Option.some.inj e; subst e1; exact st.2.block g5 hlt5 (fun e => by have e2 : g5 = w.heap.size + 1 + 1 := Option.some.inj e; omega)))
          have hB6 := below_set hB5 st.2 (by omega)
          have hA6 := box_gr hA5 st.2 (by omega)
          have hR6 := box_gr hR5 st.2 (by omega)
          have hO6 := st.1
          have S6 := sI5 hA6 hr hB6 HKn.out HX.out
          have hlt6 := Nat.lt_of_lt_of_le hlt5 st.2.size
          have HLen : Hid ((K ++ [(⟨id, kd, a', c', L⟩ : It)]).length = k + 1) := by unfold Hid; rw [List.length_append, HKk.out]; rfl
          refine hK.out _ _ S5 (fun hHeld => ?_)
          clear hK Kk
          refine wpAnyH_take (i := 18) (oi := Oper.mk (some 33) _ _ _ _ _) (v := ?v17) rfl (by kernel_rfl) (by kernel_rfl) (by kernel_rfl) (fun _ _ _ h => h) (Or.inl ⟨by rfl, ?y17⟩) hHeld ?r17
          case y17 => (intro W hSW; obtain ⟨q0, q1, q2, q3⟩ := hSW; go_simp; try with_reducible rfl)
          simp only [Act.put, List.setIfInBounds_toArray, List.set_cons_zero, List.set_cons_succ]
          refine wpAnyH_ready (rs := [19]) (by kernel_rfl) (by simp) (AllReadyH.cons (o := Oper.mk none _ _ _ _ _) rfl (fun Kk hK => ?_) AllReadyH.nil)
          go_simp
          refine hK.out _ _ S6 (fun hHeld => ?_)
          clear hK Kk
          refine wpAnyH_done (by kernel_rfl) ?_ _
          have HB6 := hide hB6
          have HA6 := hide hA6
          have HR6 := hide hR6
          have HP6 := hide hO6
          clear S2 S3 S5 S6 st hO6 hA6 hR6 hB6 o5 o51 of0 of1 hO5 hA5 hR5 far hB5 hHeld o3 hO3 hA3 hR3 ho5 hg5 HO3 HSrc hnew3 hB3 hbr3 ba3 o2 hO2 hB2 hbr2 hnew b2 HC3 HCop HOwn hO hA hR S0 o0 
          go_wp2
          go_roundw
          case rel => exact ⟨k + 1, g5, _, _, by omega, by go_num, HLen.out, HP6.out, HA6.out, HR6.out, Or.inr ⟨c5, rfl, hg5l⟩, hlt6, HO6.out, HC6.out, HB6.out⟩
          case measure => simp [intOf]; omega
        · go_simp
          have ba3 := below_al w2 (.cells #[.int .i64 id, .string kd, .slice a' L.length c'] 54)
          have hbr3 := hbr2.trans (ba3.mono hbr2.size)
          have hB3 := hbel.trans (hbr3.mono hbel.size)
          have hnew3 : NewV _ wr.heap.size a' c' L := hnew.later ba3
          have HSrc := hide (srcI w2 ⟨id, kd, a', c', L⟩)
          have HO3 := hide (ownsRow_below HOwn.out hbr3)
          have hO3 := box_step hO hbr3
          have hA3 := box_step hA hbr3
          have hR3 := box_step hR hbr3
          have S3 := sI hA hO hr HKn.out hbr3 hB3 HX.out
          obtain ⟨o3, -, -, -⟩ := box2_cell hO3
          refine hK.out _ _ S3 (fun hHeld => ?_)
          clear hK Kk
          refine wpAnyH_ready (rs := [1]) (by kernel_rfl) (by simp) (AllReadyH.cons (o := Oper.mk (some 16) _ _ _ _ _) rfl (fun Kk hK => ?_) AllReadyH.nil)
          go_simp
          refine hK.out _ _ S3 (fun hHeld => ?_)
          clear hK Kk
          refine wpAnyH_ready (rs := [17]) (by kernel_rfl) (by simp) (AllReadyH.cons (o := Oper.mk (some 32) _ _ _ _ _) rfl (fun Kk hK => ?_) AllReadyH.nil)
          refine step_append_lies _ rfl (.tmp 16) (.tmp 31) 27 rfl (w.heap.size + 1 + 1 + 1) 54 i0 (.agg #[.int .i64 0, .string ⟨#[]⟩, .slice none 0 0]) 3 48 Tryd.underlying27 hi hz0 hz1 hz2 rfl (by omega) v k (rowOf It.cells K) rfl HO3.out ⟨w2.heap.size, 0, none⟩ 1 1 (It.cells ⟨id, kd, a', c', L⟩) ?hx rfl HSrc.out (oneI _) (by omega) (by unfold maxLen; omega) (by omega) (Nat.le_trans hlo hbr3.size) _ rfl ?_
          case hx => simp [Act.eval]
          intro g5 c5 w5 ho5 hg5 hat5 hlt5
          rw [rowI_app] at ho5
          have hB5 := hB3.grown hg5 hB3.size (fun q e => by have := HOb.out q e; omega)
          have far : ∀ q, q < w.heap.size + 1 + 1 + 1 → w5.heap[q]? = (w2.alloc (.cells #[.int .i64 id, .string kd, .slice a' L.length c'] 54)).heap[q]? := fun q hq => hg5.block q (Nat.lt_of_lt_of_le hq (Nat.le_trans hlo hbr3.size)) (fun e => by have := HOb.out q e.symm; omega)
          have hO5 := (far _ (by omega)).trans hO3
          have hA5 := (far _ (by omega)).trans hA3
          have hR5 := (far _ (by omega)).trans hR3
          have S5 := sI5 hA5 hr hB5 HKn.out HX.out
          obtain ⟨o5, o51, of0, of1⟩ := box2_cell hO5
          have hg5l : w.heap.size + 1 + 1 + 1 ≤ g5 := by
            rcases hat5 with e | e
            · exact (HOb.out g5 e).2
            · rw [e]; exact Nat.le_trans hlo hbr3.size
          have HC3 := hide (HCop.out.more (K' := K ++ [⟨id, kd, a', c', L⟩]) (x := ⟨id, kd, a', c', L⟩) hbr3 (World.grownBy.refl _ _) (fun i hi => iAt_app_lt (by rw [HKk.out]; exact hi)) (by have e := iAt_app_eq K ⟨id, kd, a', c', L⟩; rw [HKk.out] at e; exact e) (by rw [← HX.out]; rfl) (fun hne => by obtain ⟨q, e, h1, o⟩ := hnew3.own hne; exact ⟨q, e, h1, o⟩) hnew3.2 hlo hgs)
          have st := box2_set0 hO5 (.slice (some ⟨g5, 0, none⟩) (k + 1) c5)
          have HC6 := hide (HC3.out.rebase2 (w' := w5.setCell ⟨w.heap.size + 1 + 1, 0, none⟩ (.slice (some ⟨g5, 0, none⟩) (k + 1) c5)) (g' := g5) (fun q hq1 hq hne => (st.2.block q (Nat.lt_of_lt_of_le hq hg5.size) (fun e => by have e2 : q = w.heap.size + 1 + 1 := Option.some.inj e; omega)).trans (hg5.block q hq (fun e => hne (HOb.out q e.symm).1))) (by rcases hat5 with e | e; exact .inl (HOb.out g5 e).1; exact .inr (Nat.le_of_eq e.symm)))
          have HO6 := hide (ownsRow_sameB (w' := w5.setCell ⟨w.heap.size + 1 + 1, 0, none⟩ (.slice (some ⟨g5, 0, none⟩) (k + 1) c5)) ho5 (fun q e => by have e1 : g5 = q := Option.some.inj e; subst e1; exact st.2.block g5 hlt5 (fun e => by have e2 : g5 = w.heap.size + 1 + 1 := Option.some.inj e; omega)))
          have hB6 := below_set hB5 st.2 (by omega)
          have hA6 := box_gr hA5 st.2 (by omega)
          have hR6 := box_gr hR5 st.2 (by omega)
          have hO6 := st.1
          have S6 := sI5 hA6 hr hB6 HKn.out HX.out
          have hlt6 := Nat.lt_of_lt_of_le hlt5 st.2.size
          have HLen : Hid ((K ++ [(⟨id, kd, a', c', L⟩ : It)]).length = k + 1) := by unfold Hid; rw [List.length_append, HKk.out]; rfl
          refine hK.out _ _ S5 (fun hHeld => ?_)
          clear hK Kk
          refine wpAnyH_take (i := 18) (oi := Oper.mk (some 33) _ _ _ _ _) (v := ?v18) rfl (by kernel_rfl) (by kernel_rfl) (by kernel_rfl) (fun _ _ _ h => h) (Or.inl ⟨by rfl, ?y18⟩) hHeld ?r18
          case y18 => (intro W hSW; obtain ⟨q0, q1, q2, q3⟩ := hSW; go_simp; try with_reducible rfl)
          simp only [Act.put, List.setIfInBounds_toArray, List.set_cons_zero, List.set_cons_succ]
          refine wpAnyH_ready (rs := [19]) (by kernel_rfl) (by simp) (AllReadyH.cons (o := Oper.mk none _ _ _ _ _) rfl (fun Kk hK => ?_) AllReadyH.nil)
          go_simp
          refine hK.out _ _ S6 (fun hHeld => ?_)
          clear hK Kk
          refine wpAnyH_done (by kernel_rfl) ?_ _
          have HB6 := hide hB6
          have HA6 := hide hA6
          have HR6 := hide hR6
          have HP6 := hide hO6
          clear S2 S3 S5 S6 st hO6 hA6 hR6 hB6 o5 o51 of0 of1 hO5 hA5 hR5 far hB5 hHeld o3 hO3 hA3 hR3 ho5 hg5 HO3 HSrc hnew3 hB3 hbr3 ba3 o2 hO2 hB2 hbr2 hnew b2 HC3 HCop HOwn hO hA hR S0 o0 
          go_wp2
          go_roundw
          case rel => exact ⟨k + 1, g5, _, _, by omega, by go_num, HLen.out, HP6.out, HA6.out, HR6.out, Or.inr ⟨c5, rfl, hg5l⟩, hlt6, HO6.out, HC6.out, HB6.out⟩
          case measure => simp [intOf]; omega
    · have hkn : k = K.length := by rw [HKk.out]
      have hkn2 : k = n := by omega
      subst hkn2
      rcases hvg with ⟨hk0, rfl⟩ | ⟨cp, rfl, hgl⟩
      · have e1 : K = [] := List.eq_nil_of_length_eq_zero (by omega)
        have e2 : J = [] := List.eq_nil_of_length_eq_zero (by rw [HJ.out]; exact hk0)
        obtain ⟨z0, z1, zf0, zf1⟩ := box2_cell hR
        obtain ⟨o0, o1, -, -⟩ := box2_cell hO
        obtain ⟨a0, a1, -, -⟩ := box2_cell hA
        go_wp2
        refine box2_post hR (fun w4 h4 gr => ?_)
        clear z0 z1 zf0 zf1 o0 o1 a0 a1
        obtain ⟨d0, d1, -, -⟩ := box2_cell h4
        exact bodyPost_ret (v := .agg #[.slice none 0 0, .int .i64 nx]) (by simp [results, Tryd.results37, go_sem, d0, d1]) rfl ⟨K, .slice none 0 0, rfl, .inl ⟨hk0, e1, rfl⟩, by rw [e1, e2], below_set hbel gr (by omega)⟩
      · have HD := hide (Copied.done (cp := cp) (hkn ▸ HCop.out) (by rw [HKk.out, HJ.out]) hgl (by rw [HKk.out]; exact HOwn.out))
        clear hkn
        obtain ⟨z0, z1, zf0, zf1⟩ := box2_cell hR
        obtain ⟨o0, o1, -, -⟩ := box2_cell hO
        obtain ⟨a0, a1, -, -⟩ := box2_cell hA
        go_wp2
        refine box2_post hR (fun w4 h4 gr => ?_)
        clear z0 z1 zf0 zf1 o0 o1 a0 a1
        obtain ⟨d0, d1, -, -⟩ := box2_cell h4
        exact bodyPost_ret (v := .agg #[.slice (some ⟨g, 0, none⟩) k cp, .int .i64 nx]) (by simp [results, Tryd.results37, go_sem, d0, d1]) rfl ⟨K, _, rfl, .inr ⟨g, cp, rfl, (HD.out.1.grown gr (by omega)).weaken (by omega)⟩, HD.out.2, below_set hbel gr (by omega)⟩
end Go.Proofs.YtaflokfgbmlmaadDoor
/-
  What a store that is written into keeps: its box is no block of its rows; one item more.
-/
namespace Go.Proofs.YtaflokfgbmlmaadDoor
open Go.RowKit
set_option linter.unusedVariables false

/-- a block that holds a row of one type is no box of another -/
theorem row_ne_box {w : World} {base n size g cap p : Nat} {T T' : TypeId} {xs : List Value} {cs : Array Value} (h : w.ownsRow base T size (.slice (some ⟨g, 0, none⟩) n cap) n xs) (hp : w.heap[p]? = some (.cells cs T' (0, 0))) (hT : T ≠ T') : p ≠ g := by
  rintro rfl
  rcases h.2 with h2 | ⟨g', cap', cur, e, hb, hg, rest⟩
  · exact absurd h2 (by simp)
  · simp only [Value.slice.injEq, Option.some.injEq, Addr.mk.injEq] at e
    rw [← e.1.1, hp] at hg
    simp only [Option.some.injEq, Obj.cells.injEq] at hg
    exact hT hg.2.1.symm
theorem HoldsI.copied {w : World} {lo g cp : Nat} {K : List It} (h : HoldsI w lo g cp K) (x : It) : Copied w lo g (K ++ [x]) K K.length :=
  ⟨fun i hi => ⟨by rw [iAt_app_lt hi], h.vals i hi, h.lies i hi⟩, h.apart⟩
/-- as rebase, the box p is written too: no list lies in it -/
theorem Copied.rebase3 {w w' : World} {lo g g' p : Nat} {J K : List It} {k : Nat} {cs : Array Value} (h : Copied w lo g J K k) (hp : w.heap[p]? = some (.cells cs 29 (0, 0))) (hk : ∀ q, q < w.heap.size → q ≠ g → q ≠ p → w'.heap[q]? = w.heap[q]?) (hg : g' = g ∨ w.heap.size ≤ g') : Copied w' lo g' J K k := by
  refine ⟨fun i hi => ?_, h.2⟩
  obtain ⟨h1, h2, h3⟩ := h.1 i hi
  refine ⟨h1, fun hne => ?_, h3⟩
  obtain ⟨q, e, hl, hq, o⟩ := h2 hne
  have hlt := o.lt
  have hqp : p ≠ q := row_ne_box o hp (by decide)
  refine ⟨q, e, hl, by rcases hg with rfl | hg; exact hq; omega, ?_⟩
  exact ownsRow_sameB o (fun j hj => by simp only [Value.ownBlock, Option.some.injEq] at hj; rw [← hj]; exact hk q hlt hq (fun e => hqp e.symm))
end Go.Proofs.YtaflokfgbmlmaadDoor
/-
  The contracts of the laws' own comparison of items and stores: what is plainly the same is found the same.
-/
namespace Go.Proofs.YtaflokfgbmlmaadDoor
open Go.RowKit
set_option linter.unusedVariables false

set_option maxRecDepth 100000 in
set_option maxHeartbeats 1600000 in
theorem eqItem_same (id : Int) (kd : ByteArray) (a b : Option Addr) (ca cb : Nat) (L : List V3) (w : World) (hr : RdV w a L) (hq : RdV w b L) (hn : L.length ≤ 1048580) :
    Calls Tryd.prog 61 #[.agg #[.int .i64 id, .string kd, .slice a L.length ca], .agg #[.int .i64 id, .string kd, .slice b L.length cb]] w fun e w' =>
      e = .returned (.bool true) ∧ Below w.heap.size w w' := by
  have k1 : (id != id) = false := by simp
  have b0 := below_al w (.cells #[.int .i64 id, .string kd, .slice a L.length ca] 54)
  have b1 := b0.alloc b0.size (.cells #[.int .i64 id, .string kd, .slice b L.length cb] 54)
  go_enter Tryd.func61, Tryd.ntmps61
  go_wp2_with fail
  refine (eqFact_same kd a b ca cb L _ (hr.below b1) (hq.below b1) hn).mono ?_
  rintro e w1 ⟨rfl, hb⟩
  have hB : Below w.heap.size w w1 := b1.trans (hb.mono b1.size)
  go_wp2
  go_ret
  exact ⟨rfl, hB⟩
theorem eqItem_of (id id' : Int) (kd kd' : ByteArray) (a b : Option Addr) (ca cb : Nat) (L M : List V3) (w : World) (hr : RdV w a L) (hq : RdV w b M) (hn : L.length ≤ 1048580) (h1 : id = id') (h2 : kd = kd') (h3 : L = M) :
    Calls Tryd.prog 61 #[.agg #[.int .i64 id, .string kd, .slice a L.length ca], .agg #[.int .i64 id', .string kd', .slice b M.length cb]] w fun e w' =>
      e = .returned (.bool true) ∧ Below w.heap.size w w' := by subst h1 h2 h3; exact eqItem_same id kd a b ca cb L w hr hq hn
/-- two items in memory, their lists, and all that was there at the head -/
theorem keepI {w0 W w' : World} {B : Nat} {p0 p1 p2 p3 p4 p5 : Addr} {v0 v1 v2 v3 v4 v5 : Value} {a b : Option Addr} {L M : List V3} (hb : Below W.heap.size W w')
    (h : W.cell? p0 = some v0 ∧ W.cell? p1 = some v1 ∧ W.cell? p2 = some v2 ∧ W.cell? p3 = some v3 ∧ W.cell? p4 = some v4 ∧ W.cell? p5 = some v5 ∧ Two w0 B a b L M W) :
    w'.cell? p0 = some v0 ∧ w'.cell? p1 = some v1 ∧ w'.cell? p2 = some v2 ∧ w'.cell? p3 = some v3 ∧ w'.cell? p4 = some v4 ∧ w'.cell? p5 = some v5 ∧ Two w0 B a b L M w' := by
  obtain ⟨h0, h1, h2, h3, h4, h5, h6⟩ := h
  have k : ∀ {a : Addr} {v : Value}, W.cell? a = some v → w'.cell? a = some v := fun {a v} h => by rw [hb.cell (World.block_lt_of_cell? W _ h)]; exact h
  exact ⟨k h0, k h1, k h2, k h3, k h4, k h5, h6.keep hb⟩

set_option maxRecDepth 100000 in
set_option maxHeartbeats 3200000 in
theorem eqItemS_same (a b : Option Addr) (ca cb n : Nat) (J K : List It) (w : World) (hr : RdI w a J) (hq : RdI w b K) (hJ : J.length = n) (hpl : J.map It.pl = K.map It.pl) (hm : n ≤ 1048580) (hl : ∀ i, i < J.length → (iAt J i).L.length ≤ 1048580) :
    Calls Tryd.prog 35 #[.slice a n ca, .slice b n cb] w fun e w' =>
      e = .returned (.bool true) ∧ Below w.heap.size w w' := by
  have HJ := hide hJ
  have HK : Hid (K.length = n) := by unfold Hid; rw [← hJ, pl_len hpl]
  have HP := hide hpl
  have HL := hide hl
  clear hJ hpl hl
  have hnn : ((n : Int) != (n : Int)) = false := by simp
  go_enter Tryd.func35, Tryd.ntmps35
  go_wp2
  go_loopw [5] (fun i wr => ∃ (k : Nat), k ≤ n ∧ i = .int .i64 k ∧ Below w.heap.size w wr) (fun i _ => n - (intOf i).toNat)
  case atStart => exact ⟨0, Nat.zero_le _, rfl, Below.refl _ _⟩
  case round =>
    obtain ⟨k, hk, rfl, hbel⟩ := hrel
    by_cases hlt : k < n
    · obtain ⟨b1, o1, e1, hbw1, hc1⟩ := hr.open (by rw [HJ.out]; omega)
      obtain ⟨b2, o2, e2, hbw2, hc2⟩ := hq.open (by rw [HK.out]; omega)
      obtain ⟨c0, c1, c2, hv1⟩ := hc1 k (by rw [HJ.out]; exact hlt)
      obtain ⟨d0, d1, d2, hv2⟩ := hc2 k (by rw [HK.out]; exact hlt)
      have HP1 := pl_at HP.out (i := k) (by rw [HJ.out]; exact hlt)
      have HLk := hide (HL.out k (by rw [HJ.out]; exact hlt))
      replace hv1 := hv1.below hbel
      replace hv2 := hv2.below hbel
      clear hc1 hc2
      subst e1 e2
      rw [← hbel.cell (p := ⟨b1, o1 + k * 3, none⟩) hbw1] at c0
      rw [← hbel.cell (p := ⟨b1, o1 + k * 3 + 1, none⟩) hbw1] at c1
      rw [← hbel.cell (p := ⟨b1, o1 + k * 3 + 2, none⟩) hbw1] at c2
      rw [← hbel.cell (p := ⟨b2, o2 + k * 3, none⟩) hbw2] at d0
      rw [← hbel.cell (p := ⟨b2, o2 + k * 3 + 1, none⟩) hbw2] at d1
      rw [← hbel.cell (p := ⟨b2, o2 + k * 3 + 2, none⟩) hbw2] at d2
      generalize iAt J k = x at c0 c1 c2 hv1 HP1 HLk
      generalize iAt K k = y at d0 d1 d2 hv2 HP1
      obtain ⟨id, kd, va, vc, L⟩ := x
      obtain ⟨id', kd', vb, wc, M⟩ := y
      simp only at c0 c1 c2 hv1 d0 d1 d2 hv2 HP1 HLk
      obtain ⟨rfl, rfl, rfl⟩ := HP1
      have T0 : Two w w.heap.size va vb L L wr := ⟨hv1, hv2, hbel, hbel.size⟩
      clear hv1 hv2 hbel
      go_wp2_with fail
      go_region_held3 (fun W => W.cell? ⟨b1, o1 + k * 3, none⟩ = some (.int .i64 id) ∧ W.cell? ⟨b1, o1 + k * 3 + 1, none⟩ = some (.string kd) ∧ W.cell? ⟨b1, o1 + k * 3 + 2, none⟩ = some (.slice va L.length vc) ∧ W.cell? ⟨b2, o2 + k * 3, none⟩ = some (.int .i64 id) ∧ W.cell? ⟨b2, o2 + k * 3 + 1, none⟩ = some (.string kd) ∧ W.cell? ⟨b2, o2 + k * 3 + 2, none⟩ = some (.slice vb L.length wc) ∧ Two w w.heap.size va vb L L W) (first | exact ⟨c0, c1, c2, d0, d1, d2, T0.drew⟩ | exact keepI (by assumption) (by assumption))
        (first | (go_at_call 61; refine (eqItem_same _ _ _ _ _ _ _ _ T0.drew.1 T0.drew.2.1 HLk.out).mono ?_; rintro e w2 ⟨rfl, hb⟩))
      all_goals
        obtain ⟨-, -, -, -, -, -, T2⟩ : w2.cell? ⟨b1, o1 + k * 3, none⟩ = some (.int .i64 id) ∧ w2.cell? ⟨b1, o1 + k * 3 + 1, none⟩ = some (.string kd) ∧ w2.cell? ⟨b1, o1 + k * 3 + 2, none⟩ = some (.slice va L.length vc) ∧ w2.cell? ⟨b2, o2 + k * 3, none⟩ = some (.int .i64 id) ∧ w2.cell? ⟨b2, o2 + k * 3 + 1, none⟩ = some (.string kd) ∧ w2.cell? ⟨b2, o2 + k * 3 + 2, none⟩ = some (.slice vb L.length wc) ∧ Two w w.heap.size va vb L L w2 := by assumption
        have hB2 := T2.2.2.1
        go_wp2
        go_roundw
        case rel => exact ⟨k + 1, by omega, by go_num, hB2⟩
        case measure => simp [intOf]; omega
    · go_wp2
      go_ret
      exact ⟨rfl, hbel⟩

set_option maxRecDepth 100000 in
set_option maxHeartbeats 1600000 in
theorem eqStore_same (a b : Option Addr) (ca cb n : Nat) (nx : Int) (J K : List It) (w : World) (hr : RdI w a J) (hq : RdI w b K) (hJ : J.length = n) (hpl : J.map It.pl = K.map It.pl) (hm : n ≤ 1048580) (hl : ∀ i, i < J.length → (iAt J i).L.length ≤ 1048580) :
    Calls Tryd.prog 11 #[.agg #[.slice a n ca, .int .i64 nx], .agg #[.slice b n cb, .int .i64 nx]] w fun e w' =>
      e = .returned (.bool true) ∧ Below w.heap.size w w' := by
  have k1 : (nx != nx) = false := by simp
  have b0 := below_al w (.cells #[.slice a n ca, .int .i64 nx] 29)
  have b1 := b0.alloc b0.size (.cells #[.slice b n cb, .int .i64 nx] 29)
  have hA := box_old (box2_new w (.slice a n ca) (.int .i64 nx) 29) (by simp) (.cells #[.slice b n cb, .int .i64 nx] 29)
  have hC := box2_new (w.alloc (.cells #[.slice a n ca, .int .i64 nx] 29)) (.slice b n cb) (.int .i64 nx) 29
  simp only [World.size_alloc] at hA hC
  go_enter Tryd.func11, Tryd.ntmps11
  go_wp2_with fail
  refine (eqItemS_same a b ca cb n J K _ (hr.below b1) (hq.below b1) hJ hpl hm hl).mono ?_
  rintro e w1 ⟨rfl, hb⟩
  have hB : Below w.heap.size w w1 := b1.trans (hb.mono b1.size)
  obtain ⟨a0, a1, -, -⟩ := box2_cell (box_below hA hb (by simp; omega))
  obtain ⟨d0, d1, -, -⟩ := box2_cell (box_below hC hb (by simp))
  clear hA hC hb b0 b1 hr hq hpl hl
  go_wp2
  go_ret
  exact ⟨rfl, hB⟩
end Go.Proofs.YtaflokfgbmlmaadDoor
/-
  Plainly: the Id of the first item with a fact.
-/
namespace Go.Proofs.YtaflokfgbmlmaadDoor
open Go.RowKit
set_option linter.unusedVariables false

def It.same (x : It) (kd : ByteArray) (M : List V3) : Bool := sameF x.kd x.L kd M
/-- the Id of the first item with this fact -/
def idP : List P4 → ByteArray → List V3 → Int
  | [], _, _ => 0
  | p :: r, kd, M => if sameF p.kd p.L kd M then p.id else idP r kd M
theorem idP_hit {kd : ByteArray} {M : List V3} : ∀ {J : List It} {k : Nat}, k < J.length → (∀ j, j < k → (iAt J j).same kd M = false) → (iAt J k).same kd M = true → idP (J.map It.pl) kd M = (iAt J k).id
  | [], k, h, _, _ => absurd h (Nat.not_lt_zero _)
  | x :: r, 0, h, _, hs => by
    have e : iAt (x :: r) 0 = x := rfl
    rw [e] at hs ⊢
    show (if sameF x.kd x.L kd M then _ else _) = _
    rw [show sameF x.kd x.L kd M = true from hs]; rfl
  | x :: r, k + 1, h, hn, hs => by
    have e : ∀ j, iAt (x :: r) (j + 1) = iAt r j := fun j => by simp [iAt, List.getD]
    have h0 := hn 0 (by omega)
    have e0 : iAt (x :: r) 0 = x := rfl
    rw [e0] at h0
    show (if sameF x.kd x.L kd M then _ else idP (r.map It.pl) kd M) = _
    rw [show sameF x.kd x.L kd M = false from h0, if_neg (by simp), e]
    rw [e] at hs
    exact idP_hit (by simpa using h) (fun j hj => by have := hn (j + 1) (by omega); rw [e] at this; exact this) hs
theorem idP_none {kd : ByteArray} {M : List V3} : ∀ {J : List It}, (∀ j, j < J.length → (iAt J j).same kd M = false) → idP (J.map It.pl) kd M = 0
  | [], _ => rfl
  | x :: r, hn => by
    have e : ∀ j, iAt (x :: r) (j + 1) = iAt r j := fun j => by simp [iAt, List.getD]
    have h0 := hn 0 (by simp)
    have e0 : iAt (x :: r) 0 = x := rfl
    rw [e0] at h0
    show (if sameF x.kd x.L kd M then _ else idP (r.map It.pl) kd M) = _
    rw [show sameF x.kd x.L kd M = false from h0, if_neg (by simp)]
    exact idP_none (fun j hj => by have := hn (j + 1) (by simpa using hj); rw [e] at this; exact this)
end Go.Proofs.YtaflokfgbmlmaadDoor
/-
  What the model's IdOf answers: the Id of the first item with this fact, 0 where there is none.
-/
namespace Go.Proofs.YtaflokfgbmlmaadDoor
open Go.RowKit
set_option linter.unusedVariables false

set_option maxRecDepth 100000 in
set_option maxHeartbeats 3200000 in
theorem specIdOf_any (a b : Option Addr) (n cap cb : Nat) (nx : Int) (kd : ByteArray) (J : List It) (M : List V3) (w : World) (hr : RdI w a J) (hq : RdV w b M) (hJ : J.length = n) (hn : n ≤ 1048580) (hl : ∀ i, i < J.length → (iAt J i).L.length ≤ 1048580) (hm : M.length ≤ 1048580) :
    Calls Tryd.prog 32 #[.agg #[.slice a n cap, .int .i64 nx], .agg #[.string kd, .slice b M.length cb]] w fun e w' =>
      e = .returned (.int .i64 (idP (J.map It.pl) kd M)) ∧ Below w.heap.size w w' := by
  have HJ := hide hJ
  have HL := hide hl
  clear hJ hl
  have b0 := below_al w (.cells #[.slice a n cap, .int .i64 nx] 29)
  have b1 := b0.alloc b0.size (.cells #[.string kd, .slice b M.length cb] 41)
  have hA := box_old (box2_new w (.slice a n cap) (.int .i64 nx) 29) (by simp) (.cells #[.string kd, .slice b M.length cb] 41)
  have hC := box2_new (w.alloc (.cells #[.slice a n cap, .int .i64 nx] 29)) (.string kd) (.slice b M.length cb) 41
  simp only [World.size_alloc] at hA hC
  obtain ⟨x0, -, -, -⟩ := box2_cell hA
  obtain ⟨y0, y1, -, -⟩ := box2_cell hC
  replace hr := hr.below b1
  replace hq := hq.below b1
  have hz1 := (Array.getElem?_eq_some_iff.1 hA).1
  have hz2 := (Array.getElem?_eq_some_iff.1 hC).1
  go_enter Tryd.func32, Tryd.ntmps32
  go_wp2
  generalize (w.alloc (.cells #[.slice a n cap, .int .i64 nx] 29)).alloc (.cells #[.string kd, .slice b M.length cb] 41) = w1 at b1 hr hq x0 y0 y1 hz1 hz2 ⊢
  clear b0 hA hC
  go_loopw [5] (fun i wr => ∃ (k : Nat), k ≤ n ∧ i = .int .i64 k ∧ (∀ j, j < k → (iAt J j).same kd M = false) ∧ Below w1.heap.size w1 wr) (fun i _ => n - (intOf i).toNat)
  case atStart => exact ⟨0, Nat.zero_le _, rfl, fun j hj => absurd hj (Nat.not_lt_zero _), Below.refl _ _⟩
  case round =>
    obtain ⟨k, hk, rfl, hno, hbel⟩ := hrel
    have HNo := hide hno
    clear hno
    have hB : Below w.heap.size w wr := b1.trans (hbel.mono b1.size)
    rw [← hbel.cell (p := ⟨w.heap.size, 0, none⟩) hz1] at x0
    rw [← hbel.cell (p := ⟨w.heap.size + 1, 0, none⟩) hz2] at y0
    rw [← hbel.cell (p := ⟨w.heap.size + 1, 1, none⟩) hz2] at y1
    by_cases hlt : k < n
    · obtain ⟨b2, o2, e2, hbw2, hc2⟩ := hr.open (by rw [HJ.out]; omega)
      obtain ⟨c0, c1, c2, hv⟩ := hc2 k (by rw [HJ.out]; exact hlt)
      have HLk := hide (HL.out k (by rw [HJ.out]; exact hlt))
      replace hv := hv.below hbel
      have hq2 := hq.below hbel
      clear hc2
      subst e2
      rw [← hbel.cell (p := ⟨b2, o2 + k * 3, none⟩) hbw2] at c0
      rw [← hbel.cell (p := ⟨b2, o2 + k * 3 + 1, none⟩) hbw2] at c1
      rw [← hbel.cell (p := ⟨b2, o2 + k * 3 + 2, none⟩) hbw2] at c2
      obtain ⟨x, hx⟩ : ∃ x, x = iAt J k := ⟨_, rfl⟩
      rw [← hx] at c0 c1 c2 hv HLk
      have HX := hide hx
      clear hx
      obtain ⟨id, kd', va, vc, L⟩ := x
      simp only at c0 c1 c2 hv HLk
      have T0 : Two w w.heap.size va b L M wr := ⟨hv, hq2, hB, hB.size⟩
      clear hv hq2
      have HSm : Hid ((iAt J k).same kd M = sameF kd' L kd M) := by unfold Hid; rw [← HX.out]; rfl
      have HId : Hid ((iAt J k).id = id) := by unfold Hid; rw [← HX.out]
      cases hs : sameF kd' L kd M
      · have HS := hide hs
        clear hs
        go_wp2_with fail
        go_region_held3 (fun W => W.cell? ⟨w.heap.size, 0, none⟩ = some (.slice (some ⟨b2, o2, none⟩) n cap) ∧ W.cell? ⟨w.heap.size + 1, 0, none⟩ = some (.string kd) ∧ W.cell? ⟨w.heap.size + 1, 1, none⟩ = some (.slice b M.length cb) ∧ W.cell? ⟨b2, o2 + k * 3, none⟩ = some (.int .i64 id) ∧ W.cell? ⟨b2, o2 + k * 3 + 1, none⟩ = some (.string kd') ∧ W.cell? ⟨b2, o2 + k * 3 + 2, none⟩ = some (.slice va L.length vc) ∧ Two w w.heap.size va b L M W) (first | exact ⟨x0, y0, y1, c0, c1, c2, T0.drew⟩ | exact keepI (by assumption) (by assumption))
          (first | (go_at_call 59; refine (specSameFact_any _ _ _ _ _ _ _ _ _ T0.drew.1 T0.drew.2.1 HLk.out hm).mono ?_; rw [HS.out]; rintro e w2 ⟨rfl, hb⟩))
        all_goals
          have hb2 : Below w1.heap.size w1 w2 := hbel.trans ((below_dr hb).mono hbel.size)
          go_wp2
          go_roundw
          case rel => exact ⟨k + 1, by omega, by go_num, fun j hj => by
            by_cases hjk : j = k
            · rw [hjk, HSm.out]; exact HS.out
            · exact HNo.out j (by omega), hb2⟩
          case measure => simp [intOf]; omega
      · have HS := hide hs
        clear hs
        go_wp2_with fail
        go_region_held3 (fun W => W.cell? ⟨w.heap.size, 0, none⟩ = some (.slice (some ⟨b2, o2, none⟩) n cap) ∧ W.cell? ⟨w.heap.size + 1, 0, none⟩ = some (.string kd) ∧ W.cell? ⟨w.heap.size + 1, 1, none⟩ = some (.slice b M.length cb) ∧ W.cell? ⟨b2, o2 + k * 3, none⟩ = some (.int .i64 id) ∧ W.cell? ⟨b2, o2 + k * 3 + 1, none⟩ = some (.string kd') ∧ W.cell? ⟨b2, o2 + k * 3 + 2, none⟩ = some (.slice va L.length vc) ∧ Two w w.heap.size va b L M W) (first | exact ⟨x0, y0, y1, c0, c1, c2, T0.drew⟩ | exact keepI (by assumption) (by assumption))
          (first | (go_at_call 59; refine (specSameFact_any _ _ _ _ _ _ _ _ _ T0.drew.1 T0.drew.2.1 HLk.out hm).mono ?_; rw [HS.out]; rintro e w2 ⟨rfl, hb⟩))
        all_goals
          have hB2 : Below w.heap.size w w2 := hB.trans ((below_dr hb).mono hB.size)
          obtain ⟨z0, z1, z2, z3, z4, z5, -⟩ := keepI (below_dr hb) ⟨x0, y0, y1, c0, c1, c2, T0⟩
          have HI : Hid (idP (J.map It.pl) kd M = id) := by
            unfold Hid
            rw [idP_hit (k := k) (by rw [HJ.out]; exact hlt) HNo.out (by rw [HSm.out]; exact HS.out), HId.out]
          go_wp2
          go_ret
          exact ⟨ret_int HI.out.symm, hB2⟩
    · have HI : Hid (idP (J.map It.pl) kd M = 0) := idP_none (fun j hj => HNo.out j (by rw [HJ.out] at hj; omega))
      go_wp2
      go_ret
      exact ⟨ret_int HI.out.symm, hB⟩
end Go.Proofs.YtaflokfgbmlmaadDoor
