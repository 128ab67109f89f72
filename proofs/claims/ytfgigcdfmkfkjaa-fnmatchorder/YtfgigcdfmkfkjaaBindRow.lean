/-
  Rows of Binds: what a slice of them reads as, what came in.
-/
import Derived.Test.YtfgigcdfmkfkjaaRowK
import Derived.Test.YtfgigcdfmkfkjaaFactArg
namespace Go.Proofs.Ytfgigcdfmkfkjaa
open Go.ChangeShapes Go.WideShapes Go.ChangeAt Go.RowKit Go.Joins Go.Deep
set_option linter.unusedVariables false
set_option maxRecDepth 100000

structure B4 where
  N : ByteArray
  V : V3
instance : Inhabited B4 := ⟨⟨⟨#[]⟩, default⟩⟩
def B4.cs (x : B4) : List Value := [.string x.N, .int .i64 x.V.K, .int .i64 x.V.N, .string x.V.S]
theorem B4.len (x : B4) : x.cs.length = 4 := rfl
def B4.fits (x : B4) : Prop := x.N.size ≤ maxLen ∧ x.V.S.size ≤ maxLen
def B4.small (x : B4) : Prop := x.N.size ≤ 1048576 ∧ x.V.S.size ≤ 1048576
def B4.zero : B4 := ⟨⟨#[]⟩, ⟨0, 0, ⟨#[]⟩⟩⟩
abbrev RdBind (w : World) (a : Option Addr) (L : List B4) : Prop := RdK B4.cs 4 w a L
theorem RdBind.cells {w : World} {a : Option Addr} {L : List B4} (h : RdBind w a L) (hp : 0 < L.length) :
    ∃ b off, a = some ⟨b, off, none⟩ ∧ b < w.heap.size ∧ ∀ i, i < L.length → w.cell? ⟨b, off + i * 4, none⟩ = some (.string (eAt L i).N) ∧ w.cell? ⟨b, off + i * 4 + 1, none⟩ = some (.int .i64 (eAt L i).V.K) ∧ w.cell? ⟨b, off + i * 4 + 2, none⟩ = some (.int .i64 (eAt L i).V.N) ∧ w.cell? ⟨b, off + i * 4 + 3, none⟩ = some (.string (eAt L i).V.S) := by
  obtain ⟨b, off, e, hb, hc⟩ := RdK.open B4.len (by decide) h hp
  refine ⟨b, off, e, hb, fun i hi => ?_⟩
  have hc := hc i hi
  exact ⟨hc 0 _ rfl, hc 1 _ rfl, hc 2 _ rfl, hc 3 _ rfl⟩
def IsBinds (w : World) (a : Option Addr) (len cap : Nat) (L : List B4) : Prop := L.length = len ∧ len ≤ maxLen ∧ RdBind w a L ∧ ∀ x ∈ L, x.fits

theorem bind_cells {H : Type} {enc : TypeId × Value → H} {w : World} {base : Nat} {spare : Nat → Bool} {held : Bool} {n : Nat} {cs : List Value} {x : DataW H × List MemPlace}
    (h : DataW.trod enc Try.prog w base spare held n 120 cs = some x) : ∃ y : B4, cs = y.cs ∧ y.fits := by
  obtain ⟨y0, y1, m, -, hl, h0, h1⟩ := trod_struct2 Try.underlying120 h
  have hc : Try.prog.cellsOf 120 = 4 := by kernel_rfl
  have hi : Try.prog.cellsOf 3 = 1 := by kernel_rfl
  have hs : Try.prog.cellsOf 9 = 1 := by kernel_rfl
  have hv : Try.prog.cellsOf 118 = 3 := by kernel_rfl
  rw [hc] at hl
  match cs, hl with
  | [c0, c1, c2, c3], _ =>
    simp only [hs, hv, List.drop_zero, List.drop_succ_cons, List.take_succ_cons, List.take_zero] at h0 h1
    obtain ⟨N, eN, _, wN⟩ := DataW.trod_string Try.underlying9 h0
    obtain ⟨VK, VN, VS, eV, wVS⟩ := three_cells h1
    simp only [List.cons.injEq, and_true] at eN eV
    obtain ⟨e0, e1, e2⟩ := eV
    exact ⟨⟨N, ⟨VK, VN, VS⟩⟩, by rw [eN, e0, e1, e2]; rfl, wN, wVS⟩

theorem bind_in {H : Type} {enc : TypeId × Value → H} {w : World} {base b0 : Nat} {spare : Nat → Bool} {held : Bool} {r : Reach} {v : Value} {d : DataW H} {p : List MemPlace}
    (hv : Value.okWide Try.prog w r b0 120 v) (h : DataW.Trod enc Try.prog w base spare held 120 v d p) : ∃ (N : ByteArray) (VK : Int) (VN : Int) (VS : ByteArray), v = .agg #[.string N, .int .i64 VK, .int .i64 VN, .string VS] ∧ N.size ≤ maxLen ∧ VS.size ≤ maxLen := by
  obtain ⟨cs, rfl, hsz⟩ := okWide_struct Try.underlying120 hv
  obtain ⟨fuel, hf⟩ := h
  obtain ⟨y, e, hy⟩ := bind_cells hf
  refine ⟨y.N, y.V.K, y.V.N, y.V.S, ?_, hy⟩
  have e2 : cs.toList = y.cs := e
  rw [← Array.toArray_toList (xs := cs), e2]
  rfl
theorem binds_in {H : Type} {enc : TypeId × Value → H} {w : World} {spare : Nat → Bool} {held : Bool} {n : Nat} {v : Value} {x : DataW H × List MemPlace}
    (h : DataW.trod enc Try.prog w 0 spare held n 23 [v] = some x) : ∃ a len cap L, v = .slice a len cap ∧ IsBinds w a len cap L := by
  have hc : Try.prog.cellsOf 120 = 4 := by kernel_rfl
  rcases open_slice Try.underlying23 h with ⟨h0, _⟩ | ⟨a, len, cap, m, n', D, Pl, h0, hb, hl, hm, hmm, _, hx⟩
  · simp only [List.cons.injEq, and_true] at h0
    exact ⟨none, 0, 0, [], h0, rfl, Nat.zero_le _, RdK.nil _ _ _ _, fun v hv => by cases hv⟩
  · simp only [List.cons.injEq, and_true] at h0
    have hlm : len ≤ m := by rw [hmm]; split <;> omega
    obtain ⟨F, hF⟩ := choose_lt (α := B4) (n := len) (p := fun i v => w.cells? 0 (a.add (i * 4)) 4 = some v.cs ∧ v.fits) (fun i hi => by
      obtain ⟨cs', h1, h2⟩ := hx i (by omega)
      rw [hc] at h1
      obtain ⟨y, rfl, hs⟩ := bind_cells h2
      exact ⟨y, h1, hs⟩)
    refine ⟨some a, len, cap, (List.range len).map F, h0, by simp, Nat.le_trans hl hm, fun i hi => ?_, fun v hv => ?_⟩
    · have hi2 : i < len := by simpa using hi
      obtain ⟨_, _, hcell⟩ := World.cells?_some (hF i hi2).1
      obtain ⟨b, off, spot⟩ := a
      have hs : spot = none := by
        obtain ⟨_, _, hcell0⟩ := World.cells?_some (hF 0 (by omega)).1
        have e := hcell0 0 (by omega)
        rw [add_add] at e
        simp only [B4.cs, List.getElem?_cons_zero] at e
        simpa [Addr.add] using World.cell?_spot e
      subst hs
      have ev : eAt ((List.range len).map F) i = F i := by rw [eAt_in hi]; simp
      rw [ev]
      refine ⟨b, off, rfl, fun j c hj => ?_⟩
      have hjk : j < 4 := by rw [← (F i).len]; exact (List.getElem?_eq_some_iff.1 hj).1
      have e := hcell j hjk
      rw [add_add, Addr.add_lit, hj] at e
      simpa [Nat.add_assoc] using e
    · obtain ⟨i, hi, rfl⟩ := List.mem_map.1 hv
      exact (hF i (List.mem_range.1 hi)).2
theorem rowOf_set_B4 (x : B4) : ∀ (L : List B4) (i : Nat), i < L.length →
    (((((rowOf B4.cs L).set (i * 4) (.string x.N)).set (i * 4 + 1) (.int .i64 x.V.K)).set (i * 4 + 2) (.int .i64 x.V.N)).set (i * 4 + 3) (.string x.V.S)) = rowOf B4.cs (L.set i x)
  | [], i, hi => absurd hi (Nat.not_lt_zero _)
  | y :: r, 0, hi => by
    rw [List.set_cons_zero, rowOf_cons, rowOf_cons]
    rfl
  | y :: r, i + 1, hi => by
    have ih := rowOf_set_B4 x r i (by simpa using hi)
    rw [List.set_cons_succ, rowOf_cons, rowOf_cons, ← ih]
    simp only [Nat.succ_mul, B4.cs]
    rfl
abbrev OwnBind (w : World) (g cap : Nat) (L : List B4) : Prop := OwnK 107 B4.cs 4 w g cap L
theorem rdOwnBind {w : World} {g cap : Nat} {L : List B4} (h : OwnBind w g cap L) : RdBind w (some ⟨g, 0, none⟩) L := OwnK.rd B4.len (by decide) h
end Go.Proofs.Ytfgigcdfmkfkjaa
