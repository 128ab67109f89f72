/-
  Items as they lie in memory (It), rows of them, and what a slice of items reads as (RdI).
-/
import Derived.Test.YtjiopefdfkjfkaaDoorRowOf
namespace Go.Proofs.YtjiopefdfkjfkaaDoor
open Go.RowKit
set_option linter.unusedVariables false

/-- an item as it lies: its Id, its fact's kind, where the fact's values lie, and which they are -/
structure It where
  id : Int
  kd : ByteArray
  a : Option Addr
  cap : Nat
  L : List V3
instance : Inhabited It := ⟨⟨0, ⟨#[]⟩, none, 0, []⟩⟩
/-- an item, plainly -/
structure P4 where
  id : Int
  kd : ByteArray
  L : List V3
instance : Inhabited P4 := ⟨⟨0, ⟨#[]⟩, []⟩⟩
theorem P4.ext' {a b : P4} (h1 : a.id = b.id) (h2 : a.kd = b.kd) (h3 : a.L = b.L) : a = b := by cases a; cases b; simp_all
def It.pl (x : It) : P4 := ⟨x.id, x.kd, x.L⟩
def It.cells (x : It) : List Value := [.int .i64 x.id, .string x.kd, .slice x.a x.L.length x.cap]
theorem It.cells_length (x : It) : x.cells.length = 3 := rfl
def iAt (J : List It) (i : Nat) : It := J.getD i default
theorem iAt_in {J : List It} {i : Nat} (h : i < J.length) : iAt J i = J[i] := by simp [iAt, List.getD, h]
theorem iAt_set {J : List It} {k : Nat} (h : k < J.length) (x : It) (i : Nat) : iAt (J.set k x) i = if i = k then x else iAt J i := by
  unfold iAt List.getD
  rw [List.getElem?_set]
  by_cases e : k = i
  · subst e; rw [if_pos rfl, if_pos rfl, if_pos h]; rfl
  · rw [if_neg e, if_neg (fun h => e h.symm)]
theorem pl_ext {J K : List It} (hl : J.length = K.length) (h : ∀ i, i < J.length → (iAt J i).pl = (iAt K i).pl) : J.map It.pl = K.map It.pl := by
  apply List.ext_getElem (by simpa using hl)
  intro i h1 h2
  have hi : i < J.length := by simpa using h1
  have := h i hi
  rw [iAt_in hi, iAt_in (by omega)] at this
  simpa using this
theorem pl_len {J K : List It} (h : J.map It.pl = K.map It.pl) : J.length = K.length := by simpa using congrArg List.length h
theorem pl_at {J K : List It} (h : J.map It.pl = K.map It.pl) {i : Nat} (hi : i < J.length) : (iAt J i).id = (iAt K i).id ∧ (iAt J i).kd = (iAt K i).kd ∧ (iAt J i).L = (iAt K i).L := by
  have hk : i < K.length := by rw [← pl_len h]; exact hi
  have e : (J.map It.pl)[i]? = (K.map It.pl)[i]? := by rw [h]
  rw [List.getElem?_map, List.getElem?_map, List.getElem?_eq_getElem hi, List.getElem?_eq_getElem hk] at e
  simp only [Option.map_some, Option.some.injEq, It.pl, P4.mk.injEq] at e
  rw [iAt_in hi, iAt_in hk]
  exact e

/-- what the slice at 'a' reads as -/
def RdI (w : World) (a : Option Addr) (J : List It) : Prop :=
  ∀ i, i < J.length → ∃ b off, a = some ⟨b, off, none⟩ ∧ w.cell? ⟨b, off + i * 3, none⟩ = some (.int .i64 (iAt J i).id) ∧ w.cell? ⟨b, off + i * 3 + 1, none⟩ = some (.string (iAt J i).kd) ∧ w.cell? ⟨b, off + i * 3 + 2, none⟩ = some (.slice (iAt J i).a (iAt J i).L.length (iAt J i).cap) ∧ RdV w (iAt J i).a (iAt J i).L
theorem RdI.open {w : World} {a : Option Addr} {J : List It} (h : RdI w a J) (hp : 0 < J.length) :
    ∃ b off, a = some ⟨b, off, none⟩ ∧ b < w.heap.size ∧ ∀ i, i < J.length → w.cell? ⟨b, off + i * 3, none⟩ = some (.int .i64 (iAt J i).id) ∧ w.cell? ⟨b, off + i * 3 + 1, none⟩ = some (.string (iAt J i).kd) ∧ w.cell? ⟨b, off + i * 3 + 2, none⟩ = some (.slice (iAt J i).a (iAt J i).L.length (iAt J i).cap) ∧ RdV w (iAt J i).a (iAt J i).L := by
  obtain ⟨b, off, rfl, h0, -, -, -⟩ := h 0 hp
  refine ⟨b, off, rfl, World.block_lt_of_cell? w _ h0, fun i hi => ?_⟩
  obtain ⟨b2, off2, e, h1⟩ := h i hi
  simp only [Option.some.injEq, Addr.mk.injEq] at e
  rw [e.1, e.2.1]; exact h1
theorem RdI.below {w w' : World} {a : Option Addr} {J : List It} (h : RdI w a J) (hb : Below w.heap.size w w') : RdI w' a J := by
  intro i hi
  obtain ⟨b, off, e, h0, h1, h2, h3⟩ := h i hi
  have k : ∀ {p : Addr} {v : Value}, w.cell? p = some v → w'.cell? p = some v := fun {p v} h => by rw [hb.cell (World.block_lt_of_cell? w _ h)]; exact h
  exact ⟨b, off, e, k h0, k h1, k h2, h3.below hb⟩
theorem RdI.nil (w : World) (a : Option Addr) : RdI w a [] := fun i hi => absurd hi (Nat.not_lt_zero _)
/-- what a call's own row of items reads as -/
theorem rdI_owns {w : World} {base n : Nat} {T : TypeId} {a : Option Addr} {m cap : Nat} {J : List It} (h : w.ownsRow base T 3 (.slice a m cap) n (rowOf It.cells J)) (hv : ∀ i, i < J.length → RdV w (iAt J i).a (iAt J i).L) :
    RdI w a J ∧ n = J.length ∧ m = J.length := by
  have hn : n = J.length := by have := h.1; rw [rowOf_length It.cells_length] at this; omega
  subst hn
  rcases h.2 with ⟨h1, h0⟩ | ⟨g, cap', cur, h1, hb, hg, hnc, hcm, hsz, htake⟩
  · simp only [Value.slice.injEq] at h1
    exact ⟨fun i hi => by omega, rfl, by omega⟩
  · simp only [Value.slice.injEq] at h1
    obtain ⟨rfl, rfl, rfl⟩ := h1
    refine ⟨fun i hi => ⟨g, 0, rfl, ?_⟩, rfl, rfl⟩
    have e0 := h.cellAt (i * 3) (by omega)
    have e1 := h.cellAt (i * 3 + 1) (by omega)
    have e2 := h.cellAt (i * 3 + 2) (by omega)
    have g0 := rowOf_get It.cells_length J i 0 hi (by omega)
    have g1 := rowOf_get It.cells_length J i 1 hi (by omega)
    have g2 := rowOf_get It.cells_length J i 2 hi (by omega)
    rw [Nat.add_zero] at g0
    rw [Nat.zero_add, iAt_in hi]
    have := hv i hi
    rw [iAt_in hi] at this
    exact ⟨by rw [e0]; exact g0, by rw [e1]; exact g1, by rw [e2]; exact g2, this⟩
end Go.Proofs.YtjiopefdfkjfkaaDoor
