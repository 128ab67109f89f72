/-
  A store that came in: what its list of items reads as.
-/
import Derived.Test.YtjiopefdfkjfkaaDoorItemRow
import Derived.Test.YtjiopefdfkjfkaaDoorFactArg
namespace Go.Proofs.YtjiopefdfkjfkaaDoor
open Go.ChangeShapes Go.WideShapes Go.ChangeAt Go.RowKit Go.Joins Go.Deep
set_option linter.unusedVariables false
set_option maxRecDepth 100000

/-- lengths that a machine may hold -/
def okI (x : It) : Prop := x.kd.size ≤ maxLen ∧ x.L.length ≤ maxLen ∧ ∀ v ∈ x.L, v.S.size ≤ maxLen
/-- a list of items that came in -/
def IsItems (w : World) (a : Option Addr) (len cap : Nat) (J : List It) : Prop := J.length = len ∧ len ≤ maxLen ∧ RdI w a J ∧ ∀ i, i < J.length → okI (iAt J i)

theorem item_cells {H : Type} {enc : TypeId × Value → H} {w : World} {spare : Nat → Bool} {held : Bool} {n : Nat} {cs : List Value} {x : DataW H × List MemPlace}
    (h : DataW.trod enc Tryd.prog w 0 spare held n 146 cs = some x) :
    ∃ y : It, cs = y.cells ∧ RdV w y.a y.L ∧ okI y := by
  obtain ⟨y0, y1, m, -, hl, h0, h1⟩ := trod_struct2 Tryd.underlying146 h
  have hc : Tryd.prog.cellsOf 146 = 3 := by kernel_rfl
  have hi : Tryd.prog.cellsOf 3 = 1 := by kernel_rfl
  have hf : Tryd.prog.cellsOf 144 = 2 := by kernel_rfl
  have hs : Tryd.prog.cellsOf 9 = 1 := by kernel_rfl
  have hv : Tryd.prog.cellsOf 142 = 1 := by kernel_rfl
  rw [hc] at hl
  match cs, hl with
  | [c0, c1, c2], _ =>
    simp only [hi, hf, List.drop_zero, List.drop_succ_cons, List.take_succ_cons, List.take_zero] at h0 h1
    obtain ⟨K, eK, _, _⟩ := DataW.trod_int Tryd.underlying3 h0
    obtain ⟨z0, z1, m', -, -, g0, g1⟩ := trod_struct2 Tryd.underlying144 h1
    simp only [hs, hv, List.drop_zero, List.drop_succ_cons, List.take_succ_cons, List.take_zero] at g0 g1
    obtain ⟨S, eS, _, wS⟩ := DataW.trod_string Tryd.underlying9 g0
    obtain ⟨a, len, cap, L, e2, hlen, hm, hr, hsz⟩ := vals_in g1
    simp only [List.cons.injEq, and_true] at eK eS
    exact ⟨⟨K, S, a, cap, L⟩, by rw [eK, eS, e2, ← hlen]; rfl, hr, wS, by rw [hlen]; exact hm, hsz⟩

theorem items_in {H : Type} {enc : TypeId × Value → H} {w : World} {spare : Nat → Bool} {held : Bool} {n : Nat} {v : Value} {x : DataW H × List MemPlace}
    (h : DataW.trod enc Tryd.prog w 0 spare held n 63 [v] = some x) : ∃ a len cap J, v = .slice a len cap ∧ IsItems w a len cap J := by
  have hc : Tryd.prog.cellsOf 146 = 3 := by kernel_rfl
  rcases open_slice Tryd.underlying63 h with ⟨h0, _⟩ | ⟨a, len, cap, m, n', D, Pl, h0, hb, hl, hm, hmm, _, hx⟩
  · simp only [List.cons.injEq, and_true] at h0
    exact ⟨none, 0, 0, [], h0, rfl, Nat.zero_le _, RdI.nil _ _, fun v hv => absurd hv (Nat.not_lt_zero _)⟩
  · simp only [List.cons.injEq, and_true] at h0
    have hlm : len ≤ m := by rw [hmm]; split <;> omega
    obtain ⟨F, hF⟩ := choose_lt (α := It) (n := len) (p := fun i y => w.cells? 0 (a.add (i * 3)) 3 = some y.cells ∧ RdV w y.a y.L ∧ okI y) (fun i hi => by
      obtain ⟨cs', h1, h2⟩ := hx i (by omega)
      rw [hc] at h1
      obtain ⟨y, rfl, hr, ho⟩ := item_cells h2
      exact ⟨y, h1, hr, ho⟩)
    have hat : ∀ i, i < len → iAt ((List.range len).map F) i = F i := fun i hi => by rw [iAt_in (by simpa using hi)]; simp
    refine ⟨some a, len, cap, (List.range len).map F, h0, by simp, Nat.le_trans hl hm, fun i hi => ?_, fun i hi => ?_⟩
    · have hi2 : i < len := by simpa using hi
      obtain ⟨_, _, hcell⟩ := World.cells?_some (hF i hi2).1
      obtain ⟨b, off, spot⟩ := a
      have e0 := hcell 0 (by omega)
      have e1 := hcell 1 (by omega)
      have e2 := hcell 2 (by omega)
      rw [add_add] at e0 e1 e2
      have hs : spot = none := by
        obtain ⟨_, _, hcell0⟩ := World.cells?_some (hF 0 (by omega)).1
        have e := hcell0 0 (by omega)
        rw [add_add] at e
        simp only [It.cells, List.getElem?_cons_zero] at e
        simpa [Addr.add] using World.cell?_spot e
      subst hs
      rw [hat i hi2]
      simp only [Addr.add_lit] at e0 e1 e2
      refine ⟨b, off, rfl, ?_, ?_, ?_, (hF i hi2).2.1⟩
      · simpa [It.cells] using e0
      · simpa [It.cells, Nat.add_assoc] using e1
      · simpa [It.cells, Nat.add_assoc] using e2
    · have hi2 : i < len := by simpa using hi
      rw [hat i hi2]; exact (hF i hi2).2.2
end Go.Proofs.YtjiopefdfkjfkaaDoor
