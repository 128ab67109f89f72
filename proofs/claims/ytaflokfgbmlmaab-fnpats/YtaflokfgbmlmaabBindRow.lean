/-
  Rows of Binds: what a slice of them reads as, what came in.
-/
import Derived.Test.YtaflokfgbmlmaabRowK
import Derived.Test.YtaflokfgbmlmaabFactArg
namespace Go.Proofs.Ytaflokfgbmlmaab
open Go.ChangeShapes Go.WideShapes Go.ChangeAt Go.RowKit Go.Joins Go.Deep
set_option linter.unusedVariables false
set_option maxRecDepth 100000

structure B4 where
  N : ByteArray
  V : V3
instance : Inhabited B4 := ⟨⟨⟨#[]⟩, default⟩⟩
def B4.cs (x : B4) : List Value := [.string x.N, .int .i64 x.V.K, .int .i64 x.V.N, .string x.V.S]
theorem B4.len (x : B4) : x.cs.length = 4 := rfl
def B4.fits (x : B4) : Prop := x.N.size ≤ maxLen ∧ x.V.S.size ≤ maxLen
def B4.small (x : B4) : Prop := x.N.size ≤ 1048576 ∧ x.V.S.size ≤ 1048576
def B4.zero : B4 := ⟨⟨#[]⟩, ⟨0, 0, ⟨#[]⟩⟩⟩
abbrev RdBind (w : World) (a : Option Addr) (L : List B4) : Prop := RdK B4.cs 4 w a L
theorem RdBind.cells {w : World} {a : Option Addr} {L : List B4} (h : RdBind w a L) (hp : 0 < L.length) :
    ∃ b off, a = some ⟨b, off, none⟩ ∧ b < w.heap.size ∧ ∀ i, i < L.length → w.cell? ⟨b, off + i * 4, none⟩ = some (.string (eAt L i).N) ∧ w.cell? ⟨b, off + i * 4 + 1, none⟩ = some (.int .i64 (eAt L i).V.K) ∧ w.cell? ⟨b, off + i * 4 + 2, none⟩ = some (.int .i64 (eAt L i).V.N) ∧ w.cell? ⟨b, off + i * 4 + 3, none⟩ = some (.string (eAt L i).V.S) := by
  obtain ⟨b, off, e, hb, hc⟩ := RdK.open B4.len (by decide) h hp
  refine ⟨b, off, e, hb, fun i hi => ?_⟩
  have hc := hc i hi
  exact ⟨hc 0 _ rfl, hc 1 _ rfl, hc 2 _ rfl, hc 3 _ rfl⟩
def IsBinds (w : World) (a : Option Addr) (len cap : Nat) (L : List B4) : Prop := L.length = len ∧ len ≤ maxLen ∧ RdBind w a L ∧ ∀ x ∈ L, x.fits

theorem rowOf_set_B4 (x : B4) : ∀ (L : List B4) (i : Nat), i < L.length →
    (((((rowOf B4.cs L).set (i * 4) (.string x.N)).set (i * 4 + 1) (.int .i64 x.V.K)).set (i * 4 + 2) (.int .i64 x.V.N)).set (i * 4 + 3) (.string x.V.S)) = rowOf B4.cs (L.set i x)
  | [], i, hi => absurd hi (Nat.not_lt_zero _)
  | y :: r, 0, hi => by
    rw [List.set_cons_zero, rowOf_cons, rowOf_cons]
    rfl
  | y :: r, i + 1, hi => by
    have ih := rowOf_set_B4 x r i (by simpa using hi)
    rw [List.set_cons_succ, rowOf_cons, rowOf_cons, ← ih]
    simp only [Nat.succ_mul, B4.cs]
    rfl
abbrev OwnBind (w : World) (g cap : Nat) (L : List B4) : Prop := OwnK 104 B4.cs 4 w g cap L
theorem rdOwnBind {w : World} {g cap : Nat} {L : List B4} (h : OwnBind w g cap L) : RdBind w (some ⟨g, 0, none⟩) L := OwnK.rd B4.len (by decide) h
end Go.Proofs.Ytaflokfgbmlmaab
