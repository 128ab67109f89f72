/-
  A match as it lies in memory (ME), what it reads as, and a match that came in.
-/
import Derived.Test.YtfgigcdfmkfkjaaIntArg
import Derived.Test.YtfgigcdfmkfkjaaBindRow
namespace Go.Proofs.Ytfgigcdfmkfkjaa
open Go.ChangeShapes Go.WideShapes Go.ChangeAt Go.RowKit Go.Joins Go.Deep
set_option linter.unusedVariables false
set_option maxRecDepth 100000

structure ME where
  r : Int
  aI : Option Addr
  nI : Nat
  cI : Nat
  zs : List Int
  aB : Option Addr
  nB : Nat
  cB : Nat
  L : List B4
def ME.pl (x : ME) : Int × List Int × List B4 := (x.r, x.zs, x.L)
theorem ME.pl_inj {x y : ME} (h : x.pl = y.pl) : x.r = y.r ∧ x.zs = y.zs ∧ x.L = y.L := by simpa [ME.pl] using h
def ME.arr (x : ME) : Array Value := #[.int .i64 x.r, .slice x.aI x.nI x.cI, .slice x.aB x.nB x.cB]
/-- what a match reads as -/
structure RdMatch (w : World) (x : ME) : Prop where
  i : RdN w x.aI x.zs
  ni : x.zs.length = x.nI
  b : RdBind w x.aB x.L
  nb : x.L.length = x.nB
theorem RdMatch.below {w w' : World} {x : ME} (h : RdMatch w x) (hb : Below w.heap.size w w') : RdMatch w' x := ⟨h.i.below hb, h.ni, h.b.below hb, h.nb⟩
theorem RdMatch.heap {w w' : World} {x : ME} (h : RdMatch w x) (hb : w'.heap = w.heap) : RdMatch w' x := ⟨h.i.heap hb, h.ni, h.b.heap hb, h.nb⟩
def ME.ok (x : ME) : Prop := x.nI ≤ maxLen ∧ x.nB ≤ maxLen ∧ ∀ v ∈ x.L, v.fits
def ME.small (x : ME) : Prop := x.zs.length ≤ 1048576 ∧ x.L.length ≤ 1048576
theorem ME.small_of {x y : ME} (h : x.small) (e : y.pl = x.pl) : y.small := by
  obtain ⟨e1, e2, e3⟩ := ME.pl_inj e
  unfold ME.small at *
  rw [e2, e3]; exact h
theorem match_cells {H : Type} {enc : TypeId × Value → H} {w : World} {spare : Nat → Bool} {held : Bool} {n : Nat} {cs : List Value} {x : DataW H × List MemPlace}
    (h : DataW.trod enc Try.prog w 0 spare held n 25 cs = some x) : ∃ y : ME, cs = y.arr.toList ∧ RdMatch w y ∧ y.ok := by
  obtain ⟨y0, y1, y2, m, -, hl, h0, h1, h2⟩ := trod_struct3 Try.underlying25 h
  have hc : Try.prog.cellsOf 25 = 3 := by kernel_rfl
  have e0 : Try.prog.cellsOf 3 = 1 := by kernel_rfl
  have e1 : Try.prog.cellsOf 22 = 1 := by kernel_rfl
  have e2 : Try.prog.cellsOf 23 = 1 := by kernel_rfl
  rw [hc] at hl
  match cs, hl with
  | [c0, c1, c2], _ =>
    simp only [e0, e1, e2, List.drop_zero, List.drop_succ_cons, List.take_succ_cons, List.take_zero] at h0 h1 h2
    obtain ⟨K, qK, _, _⟩ := DataW.trod_int Try.underlying3 h0
    obtain ⟨aI, nI, cI, zs, qI, lI, mI, rI⟩ := ints_in h1
    obtain ⟨aB, nB, cB, L, qB, lB, mB, rB, okB⟩ := binds_in h2
    simp only [List.cons.injEq, and_true] at qK
    exact ⟨⟨K, aI, nI, cI, zs, aB, nB, cB, L⟩, by rw [qK, qI, qB]; rfl, ⟨rI, lI, rB, lB⟩, mI, mB, okB⟩
theorem match_in {H : Type} {enc : TypeId × Value → H} {w : World} {b0 : Nat} {spare : Nat → Bool} {held : Bool} {r : Reach} {v : Value} {d : DataW H} {p : List MemPlace}
    (hv : Value.okWide Try.prog w r b0 25 v) (h : DataW.Trod enc Try.prog w 0 spare held 25 v d p) : ∃ x : ME, v = .agg x.arr ∧ RdMatch w x ∧ x.ok := by
  obtain ⟨cs, rfl, hsz⟩ := okWide_struct Try.underlying25 hv
  obtain ⟨fuel, hf⟩ := h
  obtain ⟨y, e, hr, hy⟩ := match_cells hf
  refine ⟨y, ?_, hr, hy⟩
  have e2 : cs.toList = y.arr.toList := e
  rw [← Array.toArray_toList (xs := cs), e2]
end Go.Proofs.Ytfgigcdfmkfkjaa
