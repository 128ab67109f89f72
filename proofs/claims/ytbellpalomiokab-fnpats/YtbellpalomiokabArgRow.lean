/-
  Rows of Args: what a slice of them reads as, what came in.
-/
import Derived.Test.YtbellpalomiokabRowK
import Derived.Test.YtbellpalomiokabFactArg
namespace Go.Proofs.Ytbellpalomiokab
open Go.ChangeShapes Go.WideShapes Go.ChangeAt Go.RowKit Go.Joins Go.Deep
set_option linter.unusedVariables false
set_option maxRecDepth 100000

structure A5 where
  K : Int
  S : ByteArray
  V : V3
instance : Inhabited A5 := ⟨⟨0, ⟨#[]⟩, default⟩⟩
def A5.cs (x : A5) : List Value := [.int .i64 x.K, .string x.S, .int .i64 x.V.K, .int .i64 x.V.N, .string x.V.S]
theorem A5.len (x : A5) : x.cs.length = 5 := rfl
def A5.fits (x : A5) : Prop := x.S.size ≤ maxLen ∧ x.V.S.size ≤ maxLen
def A5.small (x : A5) : Prop := x.S.size ≤ 1048576 ∧ x.V.S.size ≤ 1048576
def A5.zero : A5 := ⟨0, ⟨#[]⟩, ⟨0, 0, ⟨#[]⟩⟩⟩
abbrev RdArg (w : World) (a : Option Addr) (L : List A5) : Prop := RdK A5.cs 5 w a L
theorem RdArg.cells {w : World} {a : Option Addr} {L : List A5} (h : RdArg w a L) (hp : 0 < L.length) :
    ∃ b off, a = some ⟨b, off, none⟩ ∧ b < w.heap.size ∧ ∀ i, i < L.length → w.cell? ⟨b, off + i * 5, none⟩ = some (.int .i64 (eAt L i).K) ∧ w.cell? ⟨b, off + i * 5 + 1, none⟩ = some (.string (eAt L i).S) ∧ w.cell? ⟨b, off + i * 5 + 2, none⟩ = some (.int .i64 (eAt L i).V.K) ∧ w.cell? ⟨b, off + i * 5 + 3, none⟩ = some (.int .i64 (eAt L i).V.N) ∧ w.cell? ⟨b, off + i * 5 + 4, none⟩ = some (.string (eAt L i).V.S) := by
  obtain ⟨b, off, e, hb, hc⟩ := RdK.open A5.len (by decide) h hp
  refine ⟨b, off, e, hb, fun i hi => ?_⟩
  have hc := hc i hi
  exact ⟨hc 0 _ rfl, hc 1 _ rfl, hc 2 _ rfl, hc 3 _ rfl, hc 4 _ rfl⟩
def IsArgs (w : World) (a : Option Addr) (len cap : Nat) (L : List A5) : Prop := L.length = len ∧ len ≤ maxLen ∧ RdArg w a L ∧ ∀ x ∈ L, x.fits

theorem rowOf_set_A5 (x : A5) : ∀ (L : List A5) (i : Nat), i < L.length →
    ((((((rowOf A5.cs L).set (i * 5) (.int .i64 x.K)).set (i * 5 + 1) (.string x.S)).set (i * 5 + 2) (.int .i64 x.V.K)).set (i * 5 + 3) (.int .i64 x.V.N)).set (i * 5 + 4) (.string x.V.S)) = rowOf A5.cs (L.set i x)
  | [], i, hi => absurd hi (Nat.not_lt_zero _)
  | y :: r, 0, hi => by
    rw [List.set_cons_zero, rowOf_cons, rowOf_cons]
    rfl
  | y :: r, i + 1, hi => by
    have ih := rowOf_set_A5 x r i (by simpa using hi)
    rw [List.set_cons_succ, rowOf_cons, rowOf_cons, ← ih]
    simp only [Nat.succ_mul, A5.cs]
    rfl
abbrev OwnArg (w : World) (g cap : Nat) (L : List A5) : Prop := OwnK 49 A5.cs 5 w g cap L
theorem rdOwnArg {w : World} {g cap : Nat} {L : List A5} (h : OwnArg w g cap L) : RdArg w (some ⟨g, 0, none⟩) L := OwnK.rd A5.len (by decide) h
end Go.Proofs.Ytbellpalomiokab
