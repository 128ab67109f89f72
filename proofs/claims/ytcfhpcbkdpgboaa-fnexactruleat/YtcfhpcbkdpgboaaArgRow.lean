/-
  Rows of Args: what a slice of them reads as, what came in.
-/
import Derived.Test.YtcfhpcbkdpgboaaRowK
import Derived.Test.YtcfhpcbkdpgboaaFactArg
namespace Go.Proofs.Ytcfhpcbkdpgboaa
open Go.ChangeShapes Go.WideShapes Go.ChangeAt Go.RowKit Go.Joins Go.Deep
set_option linter.unusedVariables false
set_option maxRecDepth 100000

structure A5 where
  K : Int
  S : ByteArray
  V : V3
instance : Inhabited A5 := ⟨⟨0, ⟨#[]⟩, default⟩⟩
def A5.cs (x : A5) : List Value := [.int .i64 x.K, .string x.S, .int .i64 x.V.K, .int .i64 x.V.N, .string x.V.S]
theorem A5.len (x : A5) : x.cs.length = 5 := rfl
def A5.fits (x : A5) : Prop := x.S.size ≤ maxLen ∧ x.V.S.size ≤ maxLen
def A5.small (x : A5) : Prop := x.S.size ≤ 1048576 ∧ x.V.S.size ≤ 1048576
def A5.zero : A5 := ⟨0, ⟨#[]⟩, ⟨0, 0, ⟨#[]⟩⟩⟩
abbrev RdArg (w : World) (a : Option Addr) (L : List A5) : Prop := RdK A5.cs 5 w a L
theorem RdArg.cells {w : World} {a : Option Addr} {L : List A5} (h : RdArg w a L) (hp : 0 < L.length) :
    ∃ b off, a = some ⟨b, off, none⟩ ∧ b < w.heap.size ∧ ∀ i, i < L.length → w.cell? ⟨b, off + i * 5, none⟩ = some (.int .i64 (eAt L i).K) ∧ w.cell? ⟨b, off + i * 5 + 1, none⟩ = some (.string (eAt L i).S) ∧ w.cell? ⟨b, off + i * 5 + 2, none⟩ = some (.int .i64 (eAt L i).V.K) ∧ w.cell? ⟨b, off + i * 5 + 3, none⟩ = some (.int .i64 (eAt L i).V.N) ∧ w.cell? ⟨b, off + i * 5 + 4, none⟩ = some (.string (eAt L i).V.S) := by
  obtain ⟨b, off, e, hb, hc⟩ := RdK.open A5.len (by decide) h hp
  refine ⟨b, off, e, hb, fun i hi => ?_⟩
  have hc := hc i hi
  exact ⟨hc 0 _ rfl, hc 1 _ rfl, hc 2 _ rfl, hc 3 _ rfl, hc 4 _ rfl⟩
def IsArgs (w : World) (a : Option Addr) (len cap : Nat) (L : List A5) : Prop := L.length = len ∧ len ≤ maxLen ∧ RdArg w a L ∧ ∀ x ∈ L, x.fits

theorem arg_cells {H : Type} {enc : TypeId × Value → H} {w : World} {base : Nat} {spare : Nat → Bool} {held : Bool} {n : Nat} {cs : List Value} {x : DataW H × List MemPlace}
    (h : DataW.trod enc Try.prog w base spare held n 125 cs = some x) : ∃ y : A5, cs = y.cs ∧ y.fits := by
  obtain ⟨y0, y1, y2, m, -, hl, h0, h1, h2⟩ := trod_struct3 Try.underlying125 h
  have hc : Try.prog.cellsOf 125 = 5 := by kernel_rfl
  have hi : Try.prog.cellsOf 3 = 1 := by kernel_rfl
  have hs : Try.prog.cellsOf 9 = 1 := by kernel_rfl
  have hv : Try.prog.cellsOf 123 = 3 := by kernel_rfl
  rw [hc] at hl
  match cs, hl with
  | [c0, c1, c2, c3, c4], _ =>
    simp only [hi, hs, hv, List.drop_zero, List.drop_succ_cons, List.take_succ_cons, List.take_zero] at h0 h1 h2
    obtain ⟨K, eK, _, _⟩ := DataW.trod_int Try.underlying3 h0
    obtain ⟨S, eS, _, wS⟩ := DataW.trod_string Try.underlying9 h1
    obtain ⟨VK, VN, VS, eV, wVS⟩ := three_cells h2
    simp only [List.cons.injEq, and_true] at eK eS eV
    obtain ⟨e0, e1, e2⟩ := eV
    exact ⟨⟨K, S, ⟨VK, VN, VS⟩⟩, by rw [eK, eS, e0, e1, e2]; rfl, wS, wVS⟩

theorem arg_in {H : Type} {enc : TypeId × Value → H} {w : World} {base b0 : Nat} {spare : Nat → Bool} {held : Bool} {r : Reach} {v : Value} {d : DataW H} {p : List MemPlace}
    (hv : Value.okWide Try.prog w r b0 125 v) (h : DataW.Trod enc Try.prog w base spare held 125 v d p) : ∃ (K : Int) (S : ByteArray) (VK : Int) (VN : Int) (VS : ByteArray), v = .agg #[.int .i64 K, .string S, .int .i64 VK, .int .i64 VN, .string VS] ∧ S.size ≤ maxLen ∧ VS.size ≤ maxLen := by
  obtain ⟨cs, rfl, hsz⟩ := okWide_struct Try.underlying125 hv
  obtain ⟨fuel, hf⟩ := h
  obtain ⟨y, e, hy⟩ := arg_cells hf
  refine ⟨y.K, y.S, y.V.K, y.V.N, y.V.S, ?_, hy⟩
  have e2 : cs.toList = y.cs := e
  rw [← Array.toArray_toList (xs := cs), e2]
  rfl
theorem args_in {H : Type} {enc : TypeId × Value → H} {w : World} {spare : Nat → Bool} {held : Bool} {n : Nat} {v : Value} {x : DataW H × List MemPlace}
    (h : DataW.trod enc Try.prog w 0 spare held n 119 [v] = some x) : ∃ a len cap L, v = .slice a len cap ∧ IsArgs w a len cap L := by
  have hc : Try.prog.cellsOf 125 = 5 := by kernel_rfl
  rcases open_slice Try.underlying119 h with ⟨h0, _⟩ | ⟨a, len, cap, m, n', D, Pl, h0, hb, hl, hm, hmm, _, hx⟩
  · simp only [List.cons.injEq, and_true] at h0
    exact ⟨none, 0, 0, [], h0, rfl, Nat.zero_le _, RdK.nil _ _ _ _, fun v hv => by cases hv⟩
  · simp only [List.cons.injEq, and_true] at h0
    have hlm : len ≤ m := by rw [hmm]; split <;> omega
    obtain ⟨F, hF⟩ := choose_lt (α := A5) (n := len) (p := fun i v => w.cells? 0 (a.add (i * 5)) 5 = some v.cs ∧ v.fits) (fun i hi => by
      obtain ⟨cs', h1, h2⟩ := hx i (by omega)
      rw [hc] at h1
      obtain ⟨y, rfl, hs⟩ := arg_cells h2
      exact ⟨y, h1, hs⟩)
    refine ⟨some a, len, cap, (List.range len).map F, h0, by simp, Nat.le_trans hl hm, fun i hi => ?_, fun v hv => ?_⟩
    · have hi2 : i < len := by simpa using hi
      obtain ⟨_, _, hcell⟩ := World.cells?_some (hF i hi2).1
      obtain ⟨b, off, spot⟩ := a
      have hs : spot = none := by
        obtain ⟨_, _, hcell0⟩ := World.cells?_some (hF 0 (by omega)).1
        have e := hcell0 0 (by omega)
        rw [add_add] at e
        simp only [A5.cs, List.getElem?_cons_zero] at e
        simpa [Addr.add] using World.cell?_spot e
      subst hs
      have ev : eAt ((List.range len).map F) i = F i := by rw [eAt_in hi]; simp
      rw [ev]
      refine ⟨b, off, rfl, fun j c hj => ?_⟩
      have hjk : j < 5 := by rw [← (F i).len]; exact (List.getElem?_eq_some_iff.1 hj).1
      have e := hcell j hjk
      rw [add_add, Addr.add_lit, hj] at e
      simpa [Nat.add_assoc] using e
    · obtain ⟨i, hi, rfl⟩ := List.mem_map.1 hv
      exact (hF i (List.mem_range.1 hi)).2
theorem rowOf_set_A5 (x : A5) : ∀ (L : List A5) (i : Nat), i < L.length →
    ((((((rowOf A5.cs L).set (i * 5) (.int .i64 x.K)).set (i * 5 + 1) (.string x.S)).set (i * 5 + 2) (.int .i64 x.V.K)).set (i * 5 + 3) (.int .i64 x.V.N)).set (i * 5 + 4) (.string x.V.S)) = rowOf A5.cs (L.set i x)
  | [], i, hi => absurd hi (Nat.not_lt_zero _)
  | y :: r, 0, hi => by
    rw [List.set_cons_zero, rowOf_cons, rowOf_cons]
    rfl
  | y :: r, i + 1, hi => by
    have ih := rowOf_set_A5 x r i (by simpa using hi)
    rw [List.set_cons_succ, rowOf_cons, rowOf_cons, ← ih]
    simp only [Nat.succ_mul, A5.cs]
    rfl
abbrev OwnArg (w : World) (g cap : Nat) (L : List A5) : Prop := OwnK 77 A5.cs 5 w g cap L
theorem rdOwnArg {w : World} {g cap : Nat} {L : List A5} (h : OwnArg w g cap L) : RdArg w (some ⟨g, 0, none⟩) L := OwnK.rd A5.len (by decide) h
end Go.Proofs.Ytcfhpcbkdpgboaa
