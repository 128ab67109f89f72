/-
  Rows of Exprs: what a slice of them reads as, what came in.
-/
import Derived.Test.YtcfhpcbkdpgboaaArgRow
namespace Go.Proofs.Ytcfhpcbkdpgboaa
open Go.ChangeShapes Go.WideShapes Go.ChangeAt Go.RowKit Go.Joins Go.Deep
set_option linter.unusedVariables false
set_option maxRecDepth 100000

structure X11 where
  Op : ByteArray
  L : A5
  R : A5
instance : Inhabited X11 := ⟨⟨⟨#[]⟩, default, default⟩⟩
def X11.cs (x : X11) : List Value := [.string x.Op, .int .i64 x.L.K, .string x.L.S, .int .i64 x.L.V.K, .int .i64 x.L.V.N, .string x.L.V.S, .int .i64 x.R.K, .string x.R.S, .int .i64 x.R.V.K, .int .i64 x.R.V.N, .string x.R.V.S]
theorem X11.len (x : X11) : x.cs.length = 11 := rfl
def X11.fits (x : X11) : Prop := x.Op.size ≤ maxLen ∧ x.L.fits ∧ x.R.fits
def X11.small (x : X11) : Prop := x.Op.size ≤ 1048576 ∧ x.L.small ∧ x.R.small
def X11.zero : X11 := ⟨⟨#[]⟩, A5.zero, A5.zero⟩
abbrev RdExpr (w : World) (a : Option Addr) (L : List X11) : Prop := RdK X11.cs 11 w a L
theorem RdExpr.cells {w : World} {a : Option Addr} {L : List X11} (h : RdExpr w a L) (hp : 0 < L.length) :
    ∃ b off, a = some ⟨b, off, none⟩ ∧ b < w.heap.size ∧ ∀ i, i < L.length → w.cell? ⟨b, off + i * 11, none⟩ = some (.string (eAt L i).Op) ∧ w.cell? ⟨b, off + i * 11 + 1, none⟩ = some (.int .i64 (eAt L i).L.K) ∧ w.cell? ⟨b, off + i * 11 + 2, none⟩ = some (.string (eAt L i).L.S) ∧ w.cell? ⟨b, off + i * 11 + 3, none⟩ = some (.int .i64 (eAt L i).L.V.K) ∧ w.cell? ⟨b, off + i * 11 + 4, none⟩ = some (.int .i64 (eAt L i).L.V.N) ∧ w.cell? ⟨b, off + i * 11 + 5, none⟩ = some (.string (eAt L i).L.V.S) ∧ w.cell? ⟨b, off + i * 11 + 6, none⟩ = some (.int .i64 (eAt L i).R.K) ∧ w.cell? ⟨b, off + i * 11 + 7, none⟩ = some (.string (eAt L i).R.S) ∧ w.cell? ⟨b, off + i * 11 + 8, none⟩ = some (.int .i64 (eAt L i).R.V.K) ∧ w.cell? ⟨b, off + i * 11 + 9, none⟩ = some (.int .i64 (eAt L i).R.V.N) ∧ w.cell? ⟨b, off + i * 11 + 10, none⟩ = some (.string (eAt L i).R.V.S) := by
  obtain ⟨b, off, e, hb, hc⟩ := RdK.open X11.len (by decide) h hp
  refine ⟨b, off, e, hb, fun i hi => ?_⟩
  have hc := hc i hi
  exact ⟨hc 0 _ rfl, hc 1 _ rfl, hc 2 _ rfl, hc 3 _ rfl, hc 4 _ rfl, hc 5 _ rfl, hc 6 _ rfl, hc 7 _ rfl, hc 8 _ rfl, hc 9 _ rfl, hc 10 _ rfl⟩
def IsExprs (w : World) (a : Option Addr) (len cap : Nat) (L : List X11) : Prop := L.length = len ∧ len ≤ maxLen ∧ RdExpr w a L ∧ ∀ x ∈ L, x.fits

theorem expr_cells {H : Type} {enc : TypeId × Value → H} {w : World} {base : Nat} {spare : Nat → Bool} {held : Bool} {n : Nat} {cs : List Value} {x : DataW H × List MemPlace}
    (h : DataW.trod enc Try.prog w base spare held n 155 cs = some x) : ∃ y : X11, cs = y.cs ∧ y.fits := by
  obtain ⟨y0, y1, y2, m, -, hl, h0, h1, h2⟩ := trod_struct3 Try.underlying155 h
  have hc : Try.prog.cellsOf 155 = 11 := by kernel_rfl
  have hi : Try.prog.cellsOf 9 = 1 := by kernel_rfl
  have ha : Try.prog.cellsOf 125 = 5 := by kernel_rfl
  rw [hc] at hl
  match cs, hl with
  | [c0, c1, c2, c3, c4, c5, c6, c7, c8, c9, c10], _ =>
    simp only [hi, ha, List.drop_zero, List.drop_succ_cons, List.take_succ_cons, List.take_zero] at h0 h1 h2
    obtain ⟨O, eO, _, wO⟩ := DataW.trod_string Try.underlying9 h0
    obtain ⟨l, el, fl⟩ := arg_cells h1
    obtain ⟨r, er, fr⟩ := arg_cells h2
    simp only [A5.cs, List.cons.injEq, and_true] at eO el er
    obtain ⟨e1, e2, e3, e4, e5⟩ := el
    obtain ⟨e6, e7, e8, e9, e10⟩ := er
    exact ⟨⟨O, l, r⟩, by rw [eO, e1, e2, e3, e4, e5, e6, e7, e8, e9, e10]; rfl, wO, fl, fr⟩

theorem expr_in {H : Type} {enc : TypeId × Value → H} {w : World} {base b0 : Nat} {spare : Nat → Bool} {held : Bool} {r : Reach} {v : Value} {d : DataW H} {p : List MemPlace}
    (hv : Value.okWide Try.prog w r b0 155 v) (h : DataW.Trod enc Try.prog w base spare held 155 v d p) : ∃ x : X11, v = .agg #[.string x.Op, .int .i64 x.L.K, .string x.L.S, .int .i64 x.L.V.K, .int .i64 x.L.V.N, .string x.L.V.S, .int .i64 x.R.K, .string x.R.S, .int .i64 x.R.V.K, .int .i64 x.R.V.N, .string x.R.V.S] ∧ x.fits := by
  obtain ⟨cs, rfl, hsz⟩ := okWide_struct Try.underlying155 hv
  obtain ⟨fuel, hf⟩ := h
  obtain ⟨y, e, hy⟩ := expr_cells hf
  refine ⟨y, ?_, hy⟩
  have e2 : cs.toList = y.cs := e
  rw [← Array.toArray_toList (xs := cs), e2]
  rfl
theorem exprs_in {H : Type} {enc : TypeId × Value → H} {w : World} {spare : Nat → Bool} {held : Bool} {n : Nat} {v : Value} {x : DataW H × List MemPlace}
    (h : DataW.trod enc Try.prog w 0 spare held n 129 [v] = some x) : ∃ a len cap L, v = .slice a len cap ∧ IsExprs w a len cap L := by
  have hc : Try.prog.cellsOf 155 = 11 := by kernel_rfl
  rcases open_slice Try.underlying129 h with ⟨h0, _⟩ | ⟨a, len, cap, m, n', D, Pl, h0, hb, hl, hm, hmm, _, hx⟩
  · simp only [List.cons.injEq, and_true] at h0
    exact ⟨none, 0, 0, [], h0, rfl, Nat.zero_le _, RdK.nil _ _ _ _, fun v hv => by cases hv⟩
  · simp only [List.cons.injEq, and_true] at h0
    have hlm : len ≤ m := by rw [hmm]; split <;> omega
    obtain ⟨F, hF⟩ := choose_lt (α := X11) (n := len) (p := fun i v => w.cells? 0 (a.add (i * 11)) 11 = some v.cs ∧ v.fits) (fun i hi => by
      obtain ⟨cs', h1, h2⟩ := hx i (by omega)
      rw [hc] at h1
      obtain ⟨y, rfl, hs⟩ := expr_cells h2
      exact ⟨y, h1, hs⟩)
    refine ⟨some a, len, cap, (List.range len).map F, h0, by simp, Nat.le_trans hl hm, fun i hi => ?_, fun v hv => ?_⟩
    · have hi2 : i < len := by simpa using hi
      obtain ⟨_, _, hcell⟩ := World.cells?_some (hF i hi2).1
      obtain ⟨b, off, spot⟩ := a
      have hs : spot = none := by
        obtain ⟨_, _, hcell0⟩ := World.cells?_some (hF 0 (by omega)).1
        have e := hcell0 0 (by omega)
        rw [add_add] at e
        simp only [X11.cs, List.getElem?_cons_zero] at e
        simpa [Addr.add] using World.cell?_spot e
      subst hs
      have ev : eAt ((List.range len).map F) i = F i := by rw [eAt_in hi]; simp
      rw [ev]
      refine ⟨b, off, rfl, fun j c hj => ?_⟩
      have hjk : j < 11 := by rw [← (F i).len]; exact (List.getElem?_eq_some_iff.1 hj).1
      have e := hcell j hjk
      rw [add_add, Addr.add_lit, hj] at e
      simpa [Nat.add_assoc] using e
    · obtain ⟨i, hi, rfl⟩ := List.mem_map.1 hv
      exact (hF i (List.mem_range.1 hi)).2
theorem rowOf_set_X11 (x : X11) : ∀ (L : List X11) (i : Nat), i < L.length →
    ((((((((((((rowOf X11.cs L).set (i * 11) (.string x.Op)).set (i * 11 + 1) (.int .i64 x.L.K)).set (i * 11 + 2) (.string x.L.S)).set (i * 11 + 3) (.int .i64 x.L.V.K)).set (i * 11 + 4) (.int .i64 x.L.V.N)).set (i * 11 + 5) (.string x.L.V.S)).set (i * 11 + 6) (.int .i64 x.R.K)).set (i * 11 + 7) (.string x.R.S)).set (i * 11 + 8) (.int .i64 x.R.V.K)).set (i * 11 + 9) (.int .i64 x.R.V.N)).set (i * 11 + 10) (.string x.R.V.S)) = rowOf X11.cs (L.set i x)
  | [], i, hi => absurd hi (Nat.not_lt_zero _)
  | y :: r, 0, hi => by
    rw [List.set_cons_zero, rowOf_cons, rowOf_cons]
    rfl
  | y :: r, i + 1, hi => by
    have ih := rowOf_set_X11 x r i (by simpa using hi)
    rw [List.set_cons_succ, rowOf_cons, rowOf_cons, ← ih]
    simp only [Nat.succ_mul, X11.cs]
    rfl
abbrev OwnExpr (w : World) (g cap : Nat) (L : List X11) : Prop := OwnK 104 X11.cs 11 w g cap L
theorem rdOwnExpr {w : World} {g cap : Nat} {L : List X11} (h : OwnExpr w g cap L) : RdExpr w (some ⟨g, 0, none⟩) L := OwnK.rd X11.len (by decide) h
end Go.Proofs.Ytcfhpcbkdpgboaa
