/-
  A fact that came in: its kind, and what its list of values reads as.
-/
import Derived.Test.YtcfhpcbkdpgboaaValRow
import Derived.Lib.SmallJoins
import Derived.Deep.Slices
import Derived.Deep.Strs
import Derived.ProofKit
import Derived.OpenShut
import Derived.ShutString
import Derived.ChangeOld
import Derived.Below
namespace Go.Proofs.Ytcfhpcbkdpgboaa
open Go.ChangeShapes Go.WideShapes Go.ChangeAt Go.RowKit Go.Joins Go.Deep
set_option linter.unusedVariables false
set_option maxRecDepth 100000

/-- a list of values that came in -/
def IsVals (w : World) (a : Option Addr) (len cap : Nat) (L : List V3) : Prop := L.length = len ∧ len ≤ maxLen ∧ RdV w a L ∧ ∀ v ∈ L, v.S.size ≤ maxLen

theorem three_cells {H : Type} {enc : TypeId × Value → H} {w : World} {base : Nat} {spare : Nat → Bool} {held : Bool} {n : Nat} {cs : List Value} {x : DataW H × List MemPlace}
    (h : DataW.trod enc Try.prog w base spare held n 123 cs = some x) :
    ∃ K N S, cs = [.int .i64 K, .int .i64 N, .string S] ∧ S.size ≤ maxLen := by
  obtain ⟨y0, y1, y2, m, -, hl, h0, h1, h2⟩ := trod_struct3 Try.underlying123 h
  have hc : Try.prog.cellsOf 123 = 3 := by kernel_rfl
  have hi : Try.prog.cellsOf 3 = 1 := by kernel_rfl
  have hs : Try.prog.cellsOf 9 = 1 := by kernel_rfl
  rw [hc] at hl
  match cs, hl with
  | [c0, c1, c2], _ =>
    simp only [hi, hs, List.drop_zero, List.drop_succ_cons, List.take_succ_cons, List.take_zero] at h0 h1 h2
    obtain ⟨K, eK, _, _⟩ := DataW.trod_int Try.underlying3 h0
    obtain ⟨N, eN, _, _⟩ := DataW.trod_int Try.underlying3 h1
    obtain ⟨S, eS, _, wS⟩ := DataW.trod_string Try.underlying9 h2
    simp only [List.cons.injEq, and_true] at eK eN eS
    exact ⟨K, N, S, by rw [eK, eN, eS], wS⟩

end Go.Proofs.Ytcfhpcbkdpgboaa
