/-
  A definition as it lies in memory (DE), what it reads as, and a definition that came in.
-/
import Derived.Test.YtcfhpcbkdpgboaaJRulesRow
namespace Go.Proofs.Ytcfhpcbkdpgboaa
open Go.ChangeShapes Go.WideShapes Go.ChangeAt Go.RowKit Go.Joins Go.Deep
set_option linter.unusedVariables false
set_option maxRecDepth 100000

structure DE where
  nm : ByteArray
  aR : Option Addr
  nR : Nat
  cR : Nat
  R : List RE
/-- a definition, plainly -/
structure DP where
  nm : ByteArray
  R : List RP
def DE.pl (x : DE) : DP := ⟨x.nm, x.R.map RE.pl⟩
theorem DE.pl_inj {x y : DE} (h : x.pl = y.pl) : x.nm = y.nm ∧ x.R.map RE.pl = y.R.map RE.pl := by simpa [DE.pl] using h
def DE.arr (x : DE) : Array Value := #[.string x.nm, .slice x.aR x.nR x.cR]
/-- what a definition reads as -/
structure RdDef (w : World) (x : DE) : Prop where
  r : RdRuleS w x.aR x.R
  nr : x.R.length = x.nR
theorem RdDef.below {w w' : World} {x : DE} (h : RdDef w x) (hb : Below w.heap.size w w') : RdDef w' x := ⟨h.r.below hb, h.nr⟩
theorem RdDef.heap {w w' : World} {x : DE} (h : RdDef w x) (hb : w'.heap = w.heap) : RdDef w' x := ⟨h.r.heap hb, h.nr⟩
def DE.ok (x : DE) : Prop := x.nm.size ≤ maxLen ∧ x.nR ≤ maxLen ∧ ∀ r ∈ x.R, r.ok
/-- how great a definition is -/
def DE.sz (x : DE) : Nat := x.nm.size + (x.R.length + (x.R.map RE.sz).sum)
def DE.small (x : DE) : Prop := x.sz ≤ 1048576 ∧ ∀ r ∈ x.R, r.small
theorem RE.sz_of {x y : RE} (e : y.pl = x.pl) : y.sz = x.sz := by
  obtain ⟨e1, e2, e3, e4, e5⟩ := RE.pl_inj e
  have f1 := map_len e3
  have f2 := map_len e5
  have f3 := totW_pl (wt := PE.sz) (p := PE.pl) (v := fun x => x.kd.size + x.L.length) (fun _ => rfl) e3
  have f4 := totW_pl (wt := QE.sz) (p := QE.pl) (v := fun x => x.nm.size + x.L.length + x.un.size) (fun _ => rfl) e5
  unfold RE.sz
  rw [e1, f1, f3, e4, f2, f4]
theorem DE.small_of {x y : DE} (h : x.small) (e : y.pl = x.pl) : y.small := by
  obtain ⟨e1, e2⟩ := DE.pl_inj e
  refine ⟨?_, small_rls e2 h.2⟩
  have h1 := h.1
  have f : y.R.map RE.sz = x.R.map RE.sz := map_ext (map_len e2) (fun i hi => RE.sz_of (map_at e2 hi))
  unfold DE.sz at *
  rw [e1, map_len e2, f]; exact h1
/-- a definition's rules lie in blocks of the calls' own, between two numbers -/
structure OwnDef (w : World) (lo hi : Nat) (x : DE) : Prop where
  own : ∃ g, x.aR = some ⟨g, 0, none⟩ ∧ OwnRuleS w lo hi g x.cR x.R x.R.length
  nr : x.R.length = x.nR
theorem OwnDef.rd {w : World} {lo hi : Nat} {x : DE} (h : OwnDef w lo hi x) : RdDef w x := by
  obtain ⟨g, e1, o1⟩ := h.own
  exact ⟨by rw [e1]; exact rdOwnRuleS o1, h.nr⟩
theorem OwnDef.later {w w' : World} {lo hi : Nat} {x : DE} (h : OwnDef w lo hi x) (hb : Below w.heap.size w w') : OwnDef w' lo hi x := by
  obtain ⟨g, e1, o1⟩ := h.own
  exact ⟨⟨g, e1, o1.later innRule hb⟩, h.nr⟩
theorem OwnDef.cap {w : World} {lo hi : Nat} {x : DE} (h : OwnDef w lo hi x) : x.nR ≤ x.cR := by
  obtain ⟨g, e1, o1⟩ := h.own
  have := OwnK.cap o1.own
  rw [← h.nr]; exact this
theorem def_cells {H : Type} {enc : TypeId × Value → H} {w : World} {spare : Nat → Bool} {held : Bool} {n : Nat} {cs : List Value} {x : DataW H × List MemPlace}
    (h : DataW.trod enc Try.prog w 0 spare held n 24 cs = some x) : ∃ y : DE, cs = y.arr.toList ∧ RdDef w y ∧ y.ok := by
  obtain ⟨y0, y1, m, -, hl, h0, h1⟩ := trod_struct2 Try.underlying24 h
  have hc : Try.prog.cellsOf 24 = 2 := by kernel_rfl
  have e0 : Try.prog.cellsOf 9 = 1 := by kernel_rfl
  have e1 : Try.prog.cellsOf 22 = 1 := by kernel_rfl
  rw [hc] at hl
  match cs, hl with
  | [c0, c1], _ =>
    simp only [e0, e1, List.drop_zero, List.drop_succ_cons, List.take_succ_cons, List.take_zero] at h0 h1
    obtain ⟨v0, q0, _, w0⟩ := DataW.trod_string Try.underlying9 h0
    obtain ⟨aR, nR, cR, R, qR, lR, mR, rR, okR⟩ := rules_in h1
    simp only [List.cons.injEq, and_true] at q0
    exact ⟨⟨v0, aR, nR, cR, R⟩, by rw [q0, qR]; rfl, ⟨rR, lR⟩, w0, mR, okR⟩
theorem def_in {H : Type} {enc : TypeId × Value → H} {w : World} {b0 : Nat} {spare : Nat → Bool} {held : Bool} {r : Reach} {v : Value} {d : DataW H} {p : List MemPlace}
    (hv : Value.okWide Try.prog w r b0 24 v) (h : DataW.Trod enc Try.prog w 0 spare held 24 v d p) : ∃ x : DE, v = .agg x.arr ∧ RdDef w x ∧ x.ok := by
  obtain ⟨cs, rfl, hsz⟩ := okWide_struct Try.underlying24 hv
  obtain ⟨fuel, hf⟩ := h
  obtain ⟨y, e, hr, hy⟩ := def_cells hf
  refine ⟨y, ?_, hr, hy⟩
  have e2 : cs.toList = y.arr.toList := e
  rw [← Array.toArray_toList (xs := cs), e2]
end Go.Proofs.Ytcfhpcbkdpgboaa
