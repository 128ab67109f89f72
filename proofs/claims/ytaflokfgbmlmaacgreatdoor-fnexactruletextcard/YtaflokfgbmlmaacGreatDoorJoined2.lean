/-
  Texts of this claim joined into one: ActsRow, CondRow, RuleRow, Word, AllB, Name, Text, Tok, TokI, TokS, Val, ArgOk, PatOk, May, Sign, CondOk, ExprOk, NamedX.
-/
import Derived.Test.YtaflokfgbmlmaacGreatDoorJoined1
import Derived.WalkKit
import Derived.WalkSpells
import Derived.WalkLawsBesides
import Derived.Deep.RegionWith
import Derived.Deep.QuietTactic
import Derived.BigQuiet
import Derived.Handy
import Derived.Laws.StructEq
import Derived.ChangeKeysEq
import Derived.Laws.EntriesVeiled
/-
  Rows of Acts, each with a list of its own: what a slice of them reads as, what came in.
-/
namespace Go.Proofs.YtaflokfgbmlmaacGreatDoor
open Go.ChangeShapes Go.WideShapes Go.ChangeAt Go.RowKit Go.Joins Go.Deep
set_option linter.unusedVariables false

set_option maxRecDepth 100000

structure QE where
  K : Int
  nm : ByteArray
  a : Option Addr
  cap : Nat
  L : List X11
  N : Int
  un : ByteArray
instance : Inhabited QE := ⟨⟨0, ⟨#[]⟩, none, 0, [], 0, ⟨#[]⟩⟩⟩
def QE.zero : QE := ⟨0, ⟨#[]⟩, none, 0, [], 0, ⟨#[]⟩⟩
/-- the same, plainly -/
structure QP where
  K : Int
  nm : ByteArray
  L : List X11
  N : Int
  un : ByteArray
instance : Inhabited QP := ⟨⟨0, ⟨#[]⟩, [], 0, ⟨#[]⟩⟩⟩
def QE.pl (x : QE) : QP := ⟨x.K, x.nm, x.L, x.N, x.un⟩
theorem QE.pl_inj {x y : QE} (h : x.pl = y.pl) : x.K = y.K ∧ x.nm = y.nm ∧ x.L = y.L ∧ x.N = y.N ∧ x.un = y.un := by simpa [QE.pl] using h
def QE.cs (x : QE) : List Value := [.int .i64 x.K, .string x.nm, .slice x.a x.L.length x.cap, .int .i64 x.N, .string x.un]
theorem QE.len (x : QE) : x.cs.length = 5 := rfl
def QE.ok (x : QE) : Prop := x.nm.size ≤ maxLen ∧ x.un.size ≤ maxLen ∧ x.L.length ≤ maxLen ∧ ∀ v ∈ x.L, v.fits
/-- how great one is -/
def QE.sz (x : QE) : Nat := x.nm.size + x.L.length + x.un.size
def QE.small (x : QE) : Prop := x.nm.size ≤ 1048576 ∧ x.un.size ≤ 1048576 ∧ x.L.length ≤ 1048576 ∧ ∀ v ∈ x.L, v.small
theorem QE.small_of {x y : QE} (h : x.small) (e : y.pl = x.pl) : y.small := by
  obtain ⟨e0, e1, e2, e3, e4⟩ := QE.pl_inj e
  unfold QE.small at *
  rw [e1, e2, e4]; exact h
/-- what the slice at 'a' reads as -/
def RdActS (w : World) (a : Option Addr) (J : List QE) : Prop := RdK QE.cs 5 w a J ∧ ∀ i, i < J.length → RdExpr w (eAt J i).a (eAt J i).L
theorem RdActS.cells {w : World} {a : Option Addr} {J : List QE} (h : RdActS w a J) (hp : 0 < J.length) :
    ∃ b off, a = some ⟨b, off, none⟩ ∧ b < w.heap.size ∧ ∀ i, i < J.length → w.cell? ⟨b, off + i * 5, none⟩ = some (.int .i64 (eAt J i).K) ∧ w.cell? ⟨b, off + i * 5 + 1, none⟩ = some (.string (eAt J i).nm) ∧ w.cell? ⟨b, off + i * 5 + 2, none⟩ = some (.slice (eAt J i).a (eAt J i).L.length (eAt J i).cap) ∧ w.cell? ⟨b, off + i * 5 + 3, none⟩ = some (.int .i64 (eAt J i).N) ∧ w.cell? ⟨b, off + i * 5 + 4, none⟩ = some (.string (eAt J i).un) ∧ RdExpr w (eAt J i).a (eAt J i).L := by
  obtain ⟨b, off, e, hb, hc⟩ := RdK.open QE.len (by decide) h.1 hp
  refine ⟨b, off, e, hb, fun i hi => ?_⟩
  have hc := hc i hi
  exact ⟨hc 0 _ rfl, hc 1 _ rfl, hc 2 _ rfl, hc 3 _ rfl, hc 4 _ rfl, h.2 i hi⟩
theorem RdActS.below {w w' : World} {a : Option Addr} {J : List QE} (h : RdActS w a J) (hb : Below w.heap.size w w') : RdActS w' a J := ⟨h.1.below hb, fun i hi => (h.2 i hi).below hb⟩
theorem RdActS.heap {w w' : World} {a : Option Addr} {J : List QE} (h : RdActS w a J) (hb : w'.heap = w.heap) : RdActS w' a J := ⟨h.1.heap hb, fun i hi => (h.2 i hi).heap hb⟩
theorem RdActS.nil (w : World) (a : Option Addr) : RdActS w a [] := ⟨RdK.nil _ _ _ _, fun i hi => absurd hi (Nat.not_lt_zero _)⟩
def IsActS (w : World) (a : Option Addr) (len cap : Nat) (J : List QE) : Prop := J.length = len ∧ len ≤ maxLen ∧ RdActS w a J ∧ ∀ x ∈ J, x.ok
abbrev InAct : World → Nat → Nat → QE → Prop := InK 112 X11.cs 11 QE.a QE.cap QE.L
theorem innAct : Inn (InAct) := inn_K _ _ _ _ _ _
abbrev OwnActS (w : World) (lo hi g cp : Nat) (K : List QE) (m : Nat) : Prop := OwnD 61 QE.cs 5 InAct w lo hi g cp K m
theorem rdOwnActS {w : World} {lo hi g cp : Nat} {K : List QE} (h : OwnActS w lo hi g cp K K.length) : RdActS w (some ⟨g, 0, none⟩) K :=
  ⟨OwnK.rd QE.len (by decide) h.own, fun i hi => by obtain ⟨s, e, q, h1, -, -, h4⟩ := h.at hi; rw [h1]; exact rdOwnExpr h4⟩
theorem act_cells' {H : Type} {enc : TypeId × Value → H} {w : World} {spare : Nat → Bool} {held : Bool} {n : Nat} {cs : List Value} {x : DataW H × List MemPlace}
    (h : DataW.trod enc Tryz.prog w 0 spare held n 79 cs = some x) : ∃ y : QE, cs = y.cs ∧ RdExpr w y.a y.L ∧ y.ok := by
  obtain ⟨y0, y1, y2, y3, y4, m, hl, h0, h1, h2, h3, h4⟩ := trod_struct5 Tryz.underlying79 h
  have hc : Tryz.prog.cellsOf 79 = 5 := by kernel_rfl
  have e0 : Tryz.prog.cellsOf 3 = 1 := by kernel_rfl
  have e1 : Tryz.prog.cellsOf 9 = 1 := by kernel_rfl
  have e2 : Tryz.prog.cellsOf 77 = 1 := by kernel_rfl
  rw [hc] at hl
  match cs, hl with
  | [c0, c1, c2, c3, c4], _ =>
    simp only [e0, e1, e2, List.drop_zero, List.drop_succ_cons, List.take_succ_cons, List.take_zero] at h0 h1 h2 h3 h4
    obtain ⟨v0, q0, _, _⟩ := DataW.trod_int Tryz.underlying3 h0
    obtain ⟨v1, q1, _, w1⟩ := DataW.trod_string Tryz.underlying9 h1
    obtain ⟨aa, len, cap, L, qL, hlen, hm, hr, hf⟩ := exprs_in h2
    obtain ⟨v3, q3, _, _⟩ := DataW.trod_int Tryz.underlying3 h3
    obtain ⟨v4, q4, _, w4⟩ := DataW.trod_string Tryz.underlying9 h4
    simp only [List.cons.injEq, and_true] at q0 q1 q3 q4
    exact ⟨⟨v0, v1, aa, cap, L, v3, v4⟩, by rw [q0, q1, q3, q4, qL, ← hlen]; rfl, hr, w1, w4, by rw [hlen]; exact hm, hf⟩
theorem acts_in {H : Type} {enc : TypeId × Value → H} {w : World} {spare : Nat → Bool} {held : Bool} {n : Nat} {v : Value} {x : DataW H × List MemPlace}
    (h : DataW.trod enc Tryz.prog w 0 spare held n 24 [v] = some x) : ∃ a len cap J, v = .slice a len cap ∧ IsActS w a len cap J := by
  have hc : Tryz.prog.cellsOf 79 = 5 := by kernel_rfl
  rcases open_slice Tryz.underlying24 h with ⟨h0, _⟩ | ⟨a, len, cap, m, n', D, Pl, h0, hb, hl, hm, hmm, _, hx⟩
  · simp only [List.cons.injEq, and_true] at h0
    exact ⟨none, 0, 0, [], h0, rfl, Nat.zero_le _, RdActS.nil _ _, fun v hv => by cases hv⟩
  · simp only [List.cons.injEq, and_true] at h0
    have hlm : len ≤ m := by rw [hmm]; split <;> omega
    obtain ⟨F, hF⟩ := choose_lt (α := QE) (n := len) (p := fun i v => w.cells? 0 (a.add (i * 5)) 5 = some v.cs ∧ RdExpr w v.a v.L ∧ v.ok) (fun i hi => by
      obtain ⟨cs', h1, h2⟩ := hx i (by omega)
      rw [hc] at h1
      obtain ⟨y, rfl, hs⟩ := act_cells' h2
      exact ⟨y, h1, hs⟩)
    refine ⟨some a, len, cap, (List.range len).map F, h0, by simp, Nat.le_trans hl hm, ⟨fun i hi => ?_, fun i hi => ?_⟩, fun v hv => ?_⟩
    · have hi2 : i < len := by simpa using hi
      obtain ⟨_, _, hcell⟩ := World.cells?_some (hF i hi2).1
      obtain ⟨b, off, spot⟩ := a
      have hs : spot = none := by
        obtain ⟨_, _, hcell0⟩ := World.cells?_some (hF 0 (by omega)).1
        have e := hcell0 0 (by omega)
        rw [add_add] at e
        simp only [QE.cs, List.getElem?_cons_zero] at e
        simpa [Addr.add] using World.cell?_spot e
      subst hs
      have ev : eAt ((List.range len).map F) i = F i := by rw [eAt_in hi]; simp
      rw [ev]
      refine ⟨b, off, rfl, fun j c hj => ?_⟩
      have hjk : j < 5 := by rw [← (F i).len]; exact (List.getElem?_eq_some_iff.1 hj).1
      have e := hcell j hjk
      rw [add_add, Addr.add_lit, hj] at e
      simpa [Nat.add_assoc] using e
    · have ev : eAt ((List.range len).map F) i = F i := by rw [eAt_in hi]; simp
      rw [ev]
      exact (hF i (by simpa using hi)).2.1
    · obtain ⟨i, hi, rfl⟩ := List.mem_map.1 hv
      exact (hF i (List.mem_range.1 hi)).2.2
theorem rowOf_set_QE (x : QE) : ∀ (L : List QE) (i : Nat), i < L.length →
    ((((((rowOf QE.cs L).set (i * 5) (.int .i64 x.K)).set (i * 5 + 1) (.string x.nm)).set (i * 5 + 2) (.slice x.a x.L.length x.cap)).set (i * 5 + 3) (.int .i64 x.N)).set (i * 5 + 4) (.string x.un)) = rowOf QE.cs (L.set i x)
  | [], i, hi => absurd hi (Nat.not_lt_zero _)
  | y :: r, 0, hi => by
    rw [List.set_cons_zero, rowOf_cons, rowOf_cons]
    rfl
  | y :: r, i + 1, hi => by
    have ih := rowOf_set_QE x r i (by simpa using hi)
    rw [List.set_cons_succ, rowOf_cons, rowOf_cons, ← ih]
    simp only [Nat.succ_mul, QE.cs]
    rfl
theorem rowOf_set_QE_K (v : Int) : ∀ (L : List QE) (i : Nat), i < L.length → (rowOf QE.cs L).set (i * 5) (.int .i64 v) = rowOf QE.cs (L.set i { eAt L i with K := v })
  | [], i, hi => absurd hi (Nat.not_lt_zero _)
  | y :: r, 0, hi => by
    rw [List.set_cons_zero, rowOf_cons, rowOf_cons]
    rfl
  | y :: r, i + 1, hi => by
    have ih := rowOf_set_QE_K v r i (by simpa using hi)
    rw [List.set_cons_succ, rowOf_cons, rowOf_cons, show eAt (y :: r) (i + 1) = eAt r i from rfl, ← ih]
    simp only [Nat.succ_mul, QE.cs]
    rfl
theorem rowOf_set_QE_nm (v : ByteArray) : ∀ (L : List QE) (i : Nat), i < L.length → (rowOf QE.cs L).set (i * 5 + 1) (.string v) = rowOf QE.cs (L.set i { eAt L i with nm := v })
  | [], i, hi => absurd hi (Nat.not_lt_zero _)
  | y :: r, 0, hi => by
    rw [List.set_cons_zero, rowOf_cons, rowOf_cons]
    rfl
  | y :: r, i + 1, hi => by
    have ih := rowOf_set_QE_nm v r i (by simpa using hi)
    rw [List.set_cons_succ, rowOf_cons, rowOf_cons, show eAt (y :: r) (i + 1) = eAt r i from rfl, ← ih]
    simp only [Nat.succ_mul, QE.cs]
    rfl
theorem rowOf_set_QE_N (v : Int) : ∀ (L : List QE) (i : Nat), i < L.length → (rowOf QE.cs L).set (i * 5 + 3) (.int .i64 v) = rowOf QE.cs (L.set i { eAt L i with N := v })
  | [], i, hi => absurd hi (Nat.not_lt_zero _)
  | y :: r, 0, hi => by
    rw [List.set_cons_zero, rowOf_cons, rowOf_cons]
    rfl
  | y :: r, i + 1, hi => by
    have ih := rowOf_set_QE_N v r i (by simpa using hi)
    rw [List.set_cons_succ, rowOf_cons, rowOf_cons, show eAt (y :: r) (i + 1) = eAt r i from rfl, ← ih]
    simp only [Nat.succ_mul, QE.cs]
    rfl
theorem rowOf_set_QE_un (v : ByteArray) : ∀ (L : List QE) (i : Nat), i < L.length → (rowOf QE.cs L).set (i * 5 + 4) (.string v) = rowOf QE.cs (L.set i { eAt L i with un := v })
  | [], i, hi => absurd hi (Nat.not_lt_zero _)
  | y :: r, 0, hi => by
    rw [List.set_cons_zero, rowOf_cons, rowOf_cons]
    rfl
  | y :: r, i + 1, hi => by
    have ih := rowOf_set_QE_un v r i (by simpa using hi)
    rw [List.set_cons_succ, rowOf_cons, rowOf_cons, show eAt (y :: r) (i + 1) = eAt r i from rfl, ← ih]
    simp only [Nat.succ_mul, QE.cs]
    rfl
end Go.Proofs.YtaflokfgbmlmaacGreatDoor
/-
  Rows of Conds: what a slice of them reads as, what came in.
-/
namespace Go.Proofs.YtaflokfgbmlmaacGreatDoor
open Go.ChangeShapes Go.WideShapes Go.ChangeAt Go.RowKit Go.Joins Go.Deep
set_option linter.unusedVariables false
set_option maxRecDepth 100000

structure C11 where
  Op : Int
  L : A5
  R : A5
instance : Inhabited C11 := ⟨⟨0, default, default⟩⟩
def C11.cs (x : C11) : List Value := [.int .i64 x.Op, .int .i64 x.L.K, .string x.L.S, .int .i64 x.L.V.K, .int .i64 x.L.V.N, .string x.L.V.S, .int .i64 x.R.K, .string x.R.S, .int .i64 x.R.V.K, .int .i64 x.R.V.N, .string x.R.V.S]
theorem C11.len (x : C11) : x.cs.length = 11 := rfl
def C11.fits (x : C11) : Prop := x.L.fits ∧ x.R.fits
def C11.small (x : C11) : Prop := x.L.small ∧ x.R.small
def C11.zero : C11 := ⟨0, A5.zero, A5.zero⟩
abbrev RdCond (w : World) (a : Option Addr) (L : List C11) : Prop := RdK C11.cs 11 w a L
theorem RdCond.cells {w : World} {a : Option Addr} {L : List C11} (h : RdCond w a L) (hp : 0 < L.length) :
    ∃ b off, a = some ⟨b, off, none⟩ ∧ b < w.heap.size ∧ ∀ i, i < L.length → w.cell? ⟨b, off + i * 11, none⟩ = some (.int .i64 (eAt L i).Op) ∧ w.cell? ⟨b, off + i * 11 + 1, none⟩ = some (.int .i64 (eAt L i).L.K) ∧ w.cell? ⟨b, off + i * 11 + 2, none⟩ = some (.string (eAt L i).L.S) ∧ w.cell? ⟨b, off + i * 11 + 3, none⟩ = some (.int .i64 (eAt L i).L.V.K) ∧ w.cell? ⟨b, off + i * 11 + 4, none⟩ = some (.int .i64 (eAt L i).L.V.N) ∧ w.cell? ⟨b, off + i * 11 + 5, none⟩ = some (.string (eAt L i).L.V.S) ∧ w.cell? ⟨b, off + i * 11 + 6, none⟩ = some (.int .i64 (eAt L i).R.K) ∧ w.cell? ⟨b, off + i * 11 + 7, none⟩ = some (.string (eAt L i).R.S) ∧ w.cell? ⟨b, off + i * 11 + 8, none⟩ = some (.int .i64 (eAt L i).R.V.K) ∧ w.cell? ⟨b, off + i * 11 + 9, none⟩ = some (.int .i64 (eAt L i).R.V.N) ∧ w.cell? ⟨b, off + i * 11 + 10, none⟩ = some (.string (eAt L i).R.V.S) := by
  obtain ⟨b, off, e, hb, hc⟩ := RdK.open C11.len (by decide) h hp
  refine ⟨b, off, e, hb, fun i hi => ?_⟩
  have hc := hc i hi
  exact ⟨hc 0 _ rfl, hc 1 _ rfl, hc 2 _ rfl, hc 3 _ rfl, hc 4 _ rfl, hc 5 _ rfl, hc 6 _ rfl, hc 7 _ rfl, hc 8 _ rfl, hc 9 _ rfl, hc 10 _ rfl⟩
def IsConds (w : World) (a : Option Addr) (len cap : Nat) (L : List C11) : Prop := L.length = len ∧ len ≤ maxLen ∧ RdCond w a L ∧ ∀ x ∈ L, x.fits

theorem cond_cells {H : Type} {enc : TypeId × Value → H} {w : World} {base : Nat} {spare : Nat → Bool} {held : Bool} {n : Nat} {cs : List Value} {x : DataW H × List MemPlace}
    (h : DataW.trod enc Tryz.prog w base spare held n 75 cs = some x) : ∃ y : C11, cs = y.cs ∧ y.fits := by
  obtain ⟨y0, y1, y2, m, -, hl, h0, h1, h2⟩ := trod_struct3 Tryz.underlying75 h
  have hc : Tryz.prog.cellsOf 75 = 11 := by kernel_rfl
  have hi : Tryz.prog.cellsOf 3 = 1 := by kernel_rfl
  have ha : Tryz.prog.cellsOf 73 = 5 := by kernel_rfl
  rw [hc] at hl
  match cs, hl with
  | [c0, c1, c2, c3, c4, c5, c6, c7, c8, c9, c10], _ =>
    simp only [hi, ha, List.drop_zero, List.drop_succ_cons, List.take_succ_cons, List.take_zero] at h0 h1 h2
    obtain ⟨O, eO, _, _⟩ := DataW.trod_int Tryz.underlying3 h0
    obtain ⟨l, el, fl⟩ := arg_cells h1
    obtain ⟨r, er, fr⟩ := arg_cells h2
    simp only [A5.cs, List.cons.injEq, and_true] at eO el er
    obtain ⟨e1, e2, e3, e4, e5⟩ := el
    obtain ⟨e6, e7, e8, e9, e10⟩ := er
    exact ⟨⟨O, l, r⟩, by rw [eO, e1, e2, e3, e4, e5, e6, e7, e8, e9, e10]; rfl, fl, fr⟩

theorem cond_in {H : Type} {enc : TypeId × Value → H} {w : World} {base b0 : Nat} {spare : Nat → Bool} {held : Bool} {r : Reach} {v : Value} {d : DataW H} {p : List MemPlace}
    (hv : Value.okWide Tryz.prog w r b0 75 v) (h : DataW.Trod enc Tryz.prog w base spare held 75 v d p) : ∃ x : C11, v = .agg #[.int .i64 x.Op, .int .i64 x.L.K, .string x.L.S, .int .i64 x.L.V.K, .int .i64 x.L.V.N, .string x.L.V.S, .int .i64 x.R.K, .string x.R.S, .int .i64 x.R.V.K, .int .i64 x.R.V.N, .string x.R.V.S] ∧ x.fits := by
  obtain ⟨cs, rfl, hsz⟩ := okWide_struct Tryz.underlying75 hv
  obtain ⟨fuel, hf⟩ := h
  obtain ⟨y, e, hy⟩ := cond_cells hf
  refine ⟨y, ?_, hy⟩
  have e2 : cs.toList = y.cs := e
  rw [← Array.toArray_toList (xs := cs), e2]
  rfl
theorem conds_in {H : Type} {enc : TypeId × Value → H} {w : World} {spare : Nat → Bool} {held : Bool} {n : Nat} {v : Value} {x : DataW H × List MemPlace}
    (h : DataW.trod enc Tryz.prog w 0 spare held n 23 [v] = some x) : ∃ a len cap L, v = .slice a len cap ∧ IsConds w a len cap L := by
  have hc : Tryz.prog.cellsOf 75 = 11 := by kernel_rfl
  rcases open_slice Tryz.underlying23 h with ⟨h0, _⟩ | ⟨a, len, cap, m, n', D, Pl, h0, hb, hl, hm, hmm, _, hx⟩
  · simp only [List.cons.injEq, and_true] at h0
    exact ⟨none, 0, 0, [], h0, rfl, Nat.zero_le _, RdK.nil _ _ _ _, fun v hv => by cases hv⟩
  · simp only [List.cons.injEq, and_true] at h0
    have hlm : len ≤ m := by rw [hmm]; split <;> omega
    obtain ⟨F, hF⟩ := choose_lt (α := C11) (n := len) (p := fun i v => w.cells? 0 (a.add (i * 11)) 11 = some v.cs ∧ v.fits) (fun i hi => by
      obtain ⟨cs', h1, h2⟩ := hx i (by omega)
      rw [hc] at h1
      obtain ⟨y, rfl, hs⟩ := cond_cells h2
      exact ⟨y, h1, hs⟩)
    refine ⟨some a, len, cap, (List.range len).map F, h0, by simp, Nat.le_trans hl hm, fun i hi => ?_, fun v hv => ?_⟩
    · have hi2 : i < len := by simpa using hi
      obtain ⟨_, _, hcell⟩ := World.cells?_some (hF i hi2).1
      obtain ⟨b, off, spot⟩ := a
      have hs : spot = none := by
        obtain ⟨_, _, hcell0⟩ := World.cells?_some (hF 0 (by omega)).1
        have e := hcell0 0 (by omega)
        rw [add_add] at e
        simp only [C11.cs, List.getElem?_cons_zero] at e
        simpa [Addr.add] using World.cell?_spot e
      subst hs
      have ev : eAt ((List.range len).map F) i = F i := by rw [eAt_in hi]; simp
      rw [ev]
      refine ⟨b, off, rfl, fun j c hj => ?_⟩
      have hjk : j < 11 := by rw [← (F i).len]; exact (List.getElem?_eq_some_iff.1 hj).1
      have e := hcell j hjk
      rw [add_add, Addr.add_lit, hj] at e
      simpa [Nat.add_assoc] using e
    · obtain ⟨i, hi, rfl⟩ := List.mem_map.1 hv
      exact (hF i (List.mem_range.1 hi)).2
theorem rowOf_set_C11 (x : C11) : ∀ (L : List C11) (i : Nat), i < L.length →
    ((((((((((((rowOf C11.cs L).set (i * 11) (.int .i64 x.Op)).set (i * 11 + 1) (.int .i64 x.L.K)).set (i * 11 + 2) (.string x.L.S)).set (i * 11 + 3) (.int .i64 x.L.V.K)).set (i * 11 + 4) (.int .i64 x.L.V.N)).set (i * 11 + 5) (.string x.L.V.S)).set (i * 11 + 6) (.int .i64 x.R.K)).set (i * 11 + 7) (.string x.R.S)).set (i * 11 + 8) (.int .i64 x.R.V.K)).set (i * 11 + 9) (.int .i64 x.R.V.N)).set (i * 11 + 10) (.string x.R.V.S)) = rowOf C11.cs (L.set i x)
  | [], i, hi => absurd hi (Nat.not_lt_zero _)
  | y :: r, 0, hi => by
    rw [List.set_cons_zero, rowOf_cons, rowOf_cons]
    rfl
  | y :: r, i + 1, hi => by
    have ih := rowOf_set_C11 x r i (by simpa using hi)
    rw [List.set_cons_succ, rowOf_cons, rowOf_cons, ← ih]
    simp only [Nat.succ_mul, C11.cs]
    rfl
abbrev OwnCond (w : World) (g cap : Nat) (L : List C11) : Prop := OwnK 56 C11.cs 11 w g cap L
theorem rdOwnCond {w : World} {g cap : Nat} {L : List C11} (h : OwnCond w g cap L) : RdCond w (some ⟨g, 0, none⟩) L := OwnK.rd C11.len (by decide) h
end Go.Proofs.YtaflokfgbmlmaacGreatDoor
/-
  A rule as it lies in memory (RE), what it reads as, and a rule that came in.
-/
namespace Go.Proofs.YtaflokfgbmlmaacGreatDoor
open Go.ChangeShapes Go.WideShapes Go.ChangeAt Go.RowKit Go.Joins Go.Deep
set_option linter.unusedVariables false
set_option maxRecDepth 100000

structure RE where
  nm : ByteArray
  sal : Int
  aP : Option Addr
  nP : Nat
  cP : Nat
  P : List PE
  aC : Option Addr
  nC : Nat
  cC : Nat
  C : List C11
  aA : Option Addr
  nA : Nat
  cA : Nat
  A : List QE
/-- a rule, plainly -/
structure RP where
  nm : ByteArray
  sal : Int
  P : List PP
  C : List C11
  A : List QP
def RE.pl (x : RE) : RP := ⟨x.nm, x.sal, x.P.map PE.pl, x.C, x.A.map QE.pl⟩
theorem RE.pl_inj {x y : RE} (h : x.pl = y.pl) : x.nm = y.nm ∧ x.sal = y.sal ∧ x.P.map PE.pl = y.P.map PE.pl ∧ x.C = y.C ∧ x.A.map QE.pl = y.A.map QE.pl := by simpa [RE.pl] using h
def RE.arr (x : RE) : Array Value := #[.string x.nm, .int .i64 x.sal, .slice x.aP x.nP x.cP, .slice x.aC x.nC x.cC, .slice x.aA x.nA x.cA]
/-- what a rule reads as -/
structure RdRule (w : World) (x : RE) : Prop where
  p : RdPatS w x.aP x.P
  c : RdCond w x.aC x.C
  a : RdActS w x.aA x.A
  np : x.P.length = x.nP
  nc : x.C.length = x.nC
  na : x.A.length = x.nA
theorem RdRule.below {w w' : World} {x : RE} (h : RdRule w x) (hb : Below w.heap.size w w') : RdRule w' x := ⟨h.p.below hb, h.c.below hb, h.a.below hb, h.np, h.nc, h.na⟩
theorem RdRule.heap {w w' : World} {x : RE} (h : RdRule w x) (hb : w'.heap = w.heap) : RdRule w' x := ⟨h.p.heap hb, h.c.heap hb, h.a.heap hb, h.np, h.nc, h.na⟩
def RE.ok (x : RE) : Prop := x.nm.size ≤ maxLen ∧ x.nP ≤ maxLen ∧ (∀ p ∈ x.P, p.ok) ∧ x.nC ≤ maxLen ∧ (∀ c ∈ x.C, c.fits) ∧ x.nA ≤ maxLen ∧ ∀ a ∈ x.A, a.ok
/-- how great a rule is -/
def RE.sz (x : RE) : Nat := x.nm.size + (x.P.length + (x.P.map PE.sz).sum) + x.C.length + (x.A.length + (x.A.map QE.sz).sum)
def RE.small (x : RE) : Prop := x.sz ≤ 1048576 ∧ (∀ p ∈ x.P, p.small) ∧ (∀ c ∈ x.C, c.small) ∧ ∀ a ∈ x.A, a.small
theorem mem_eAt {α : Type} [Inhabited α] {L : List α} {x : α} (h : x ∈ L) : ∃ i, i < L.length ∧ eAt L i = x := by
  obtain ⟨i, hi, rfl⟩ := List.getElem_of_mem h
  exact ⟨i, hi, eAt_in hi⟩
theorem eAt_mem {α : Type} [Inhabited α] {L : List α} {i : Nat} (h : i < L.length) : eAt L i ∈ L := by rw [eAt_in h]; exact List.getElem_mem h
theorem small_pls {K J : List PE} (h : K.map PE.pl = J.map PE.pl) (hs : ∀ p ∈ J, p.small) : ∀ p ∈ K, p.small := fun p hp => by
  obtain ⟨i, hi, rfl⟩ := mem_eAt hp
  exact PE.small_of (hs _ (eAt_mem (by rw [← map_len h]; exact hi))) (map_at h hi)
theorem small_qls {K J : List QE} (h : K.map QE.pl = J.map QE.pl) (hs : ∀ p ∈ J, p.small) : ∀ p ∈ K, p.small := fun p hp => by
  obtain ⟨i, hi, rfl⟩ := mem_eAt hp
  exact QE.small_of (hs _ (eAt_mem (by rw [← map_len h]; exact hi))) (map_at h hi)
theorem RE.small_of {x y : RE} (h : x.small) (e : y.pl = x.pl) : y.small := by
  obtain ⟨e1, e2, e3, e4, e5⟩ := RE.pl_inj e
  obtain ⟨h1, h2, h3, h4⟩ := h
  have f1 := map_len e3
  have f2 := map_len e5
  have f3 := totW_pl (wt := PE.sz) (p := PE.pl) (v := fun x => x.kd.size + x.L.length) (fun _ => rfl) e3
  have f4 := totW_pl (wt := QE.sz) (p := QE.pl) (v := fun x => x.nm.size + x.L.length + x.un.size) (fun _ => rfl) e5
  refine ⟨?_, small_pls e3 h2, by rw [e4]; exact h3, small_qls e5 h4⟩
  unfold RE.sz at *
  rw [e1, f1, f3, e4, f2, f4]; exact h1
/-- a rule's lists lie in blocks of the calls' own, between two numbers -/
structure OwnRule (w : World) (lo hi : Nat) (x : RE) : Prop where
  own : ∃ gP gC gA m1 m2, x.aP = some ⟨gP, 0, none⟩ ∧ OwnPatS w lo m1 gP x.cP x.P x.P.length ∧ x.aC = some ⟨gC, 0, none⟩ ∧ OwnCond w gC x.cC x.C ∧ m1 ≤ gC ∧ gC < m2 ∧ x.aA = some ⟨gA, 0, none⟩ ∧ OwnActS w m2 hi gA x.cA x.A x.A.length
  np : x.P.length = x.nP
  nc : x.C.length = x.nC
  na : x.A.length = x.nA
theorem OwnRule.rd {w : World} {lo hi : Nat} {x : RE} (h : OwnRule w lo hi x) : RdRule w x := by
  obtain ⟨gP, gC, gA, m1, m2, e1, o1, e2, o2, -, -, e3, o3⟩ := h.own
  exact ⟨by rw [e1]; exact rdOwnPatS o1, by rw [e2]; exact rdOwnCond o2, by rw [e3]; exact rdOwnActS o3, h.np, h.nc, h.na⟩
theorem OwnRule.top {w : World} {lo hi : Nat} {x : RE} (h : OwnRule w lo hi x) : hi ≤ w.heap.size := by
  obtain ⟨gP, gC, gA, m1, m2, e1, o1, e2, o2, -, -, e3, o3⟩ := h.own
  exact o3.top
theorem OwnRule.lohi {w : World} {lo hi : Nat} {x : RE} (h : OwnRule w lo hi x) : lo < hi := by
  obtain ⟨gP, gC, gA, m1, m2, e1, o1, e2, o2, h1, h2, e3, o3⟩ := h.own
  have := o1.low
  have := o1.lth
  have := o3.low
  have := o3.lth
  omega
theorem OwnRule.keep {w w' : World} {lo hi : Nat} {x : RE} (h : OwnRule w lo hi x) (hsz : w.heap.size ≤ w'.heap.size) (hs : ∀ q, lo ≤ q → q < hi → w'.heap[q]? = w.heap[q]?) : OwnRule w' lo hi x := by
  obtain ⟨gP, gC, gA, m1, m2, e1, o1, e2, o2, h1, h2, e3, o3⟩ := h.own
  have a1 := o1.low
  have a2 := o1.lth
  have a3 := o3.low
  have a4 := o3.lth
  exact ⟨⟨gP, gC, gA, m1, m2, e1, o1.keep innPat hsz (fun q q1 q2 => hs q q1 (by omega)), e2, o2.same (hs gC (by omega) (by omega)), h1, h2, e3, o3.keep innAct hsz (fun q q1 q2 => hs q (by omega) q2)⟩, h.np, h.nc, h.na⟩
theorem OwnRule.later {w w' : World} {lo hi : Nat} {x : RE} (h : OwnRule w lo hi x) (hb : Below w.heap.size w w') : OwnRule w' lo hi x :=
  h.keep hb.size (fun q _ hq => hb.block q (Nat.lt_of_lt_of_le hq h.top))
theorem OwnRule.grown {w w' : World} {lo hi p : Nat} {x : RE} (h : OwnRule w lo hi x) (hg : w.grownBy w' (some p)) (hp : p < lo ∨ hi ≤ p) : OwnRule w' lo hi x :=
  h.keep hg.size (fun q h1 h2 => hg.block q (Nat.lt_of_lt_of_le h2 h.top) (by simp; omega))
theorem OwnRule.weaken {w : World} {lo lo' hi hi' : Nat} {x : RE} (h : OwnRule w lo hi x) (hl : lo' ≤ lo) (hh : hi ≤ hi') (ht : hi' ≤ w.heap.size) : OwnRule w lo' hi' x := by
  obtain ⟨gP, gC, gA, m1, m2, e1, o1, e2, o2, h1, h2, e3, o3⟩ := h.own
  have := o3.top
  have := o3.low
  have := o3.lth
  exact ⟨⟨gP, gC, gA, m1, m2, e1, o1.weaken hl (Nat.le_refl _) o1.top, e2, o2, h1, h2, e3, o3.weaken (Nat.le_refl _) hh ht⟩, h.np, h.nc, h.na⟩

theorem rule_cells {H : Type} {enc : TypeId × Value → H} {w : World} {spare : Nat → Bool} {held : Bool} {n : Nat} {cs : List Value} {x : DataW H × List MemPlace}
    (h : DataW.trod enc Tryz.prog w 0 spare held n 26 cs = some x) : ∃ y : RE, cs = y.arr.toList ∧ RdRule w y ∧ y.ok := by
  obtain ⟨y0, y1, y2, y3, y4, m, hl, h0, h1, h2, h3, h4⟩ := trod_struct5 Tryz.underlying26 h
  have hc : Tryz.prog.cellsOf 26 = 5 := by kernel_rfl
  have e0 : Tryz.prog.cellsOf 9 = 1 := by kernel_rfl
  have e1 : Tryz.prog.cellsOf 3 = 1 := by kernel_rfl
  have e2 : Tryz.prog.cellsOf 22 = 1 := by kernel_rfl
  have e3 : Tryz.prog.cellsOf 23 = 1 := by kernel_rfl
  have e4 : Tryz.prog.cellsOf 24 = 1 := by kernel_rfl
  rw [hc] at hl
  match cs, hl with
  | [c0, c1, c2, c3, c4], _ =>
    simp only [e0, e1, e2, e3, e4, List.drop_zero, List.drop_succ_cons, List.take_succ_cons, List.take_zero] at h0 h1 h2 h3 h4
    obtain ⟨v0, q0, _, w0⟩ := DataW.trod_string Tryz.underlying9 h0
    obtain ⟨v1, q1, _, _⟩ := DataW.trod_int Tryz.underlying3 h1
    obtain ⟨aP, nP, cP, P, qP, lP, mP, rP, okP⟩ := pats_in h2
    obtain ⟨aC, nC, cC, C, qC, lC, mC, rC, okC⟩ := conds_in h3
    obtain ⟨aA, nA, cA, A, qA, lA, mA, rA, okA⟩ := acts_in h4
    simp only [List.cons.injEq, and_true] at q0 q1
    exact ⟨⟨v0, v1, aP, nP, cP, P, aC, nC, cC, C, aA, nA, cA, A⟩, by rw [q0, q1, qP, qC, qA]; rfl, ⟨rP, rC, rA, lP, lC, lA⟩, w0, mP, okP, mC, okC, mA, okA⟩
theorem rule_in {H : Type} {enc : TypeId × Value → H} {w : World} {b0 : Nat} {spare : Nat → Bool} {held : Bool} {r : Reach} {v : Value} {d : DataW H} {p : List MemPlace}
    (hv : Value.okWide Tryz.prog w r b0 26 v) (h : DataW.Trod enc Tryz.prog w 0 spare held 26 v d p) : ∃ x : RE, v = .agg x.arr ∧ RdRule w x ∧ x.ok := by
  obtain ⟨cs, rfl, hsz⟩ := okWide_struct Tryz.underlying26 hv
  obtain ⟨fuel, hf⟩ := h
  obtain ⟨y, e, hr, hy⟩ := rule_cells hf
  refine ⟨y, ?_, hr, hy⟩
  have e2 : cs.toList = y.arr.toList := e
  rw [← Array.toArray_toList (xs := cs), e2]
end Go.Proofs.YtaflokfgbmlmaacGreatDoor
/-
  What the functions on bytes of names answer, the tested ones and the model's alike: wordB of the byte, in the world as it was.
-/
namespace Go.Proofs.YtaflokfgbmlmaacGreatDoor
open Go.RowKit
set_option linter.unusedVariables false

set_option maxHeartbeats 400000 in
theorem l1In_any (x a b : Int) (w : World) :
    Calls Tryz.prog 33 #[.int .i64 x, .int .i64 a, .int .i64 b] w fun e w' => e = .returned (.bool (inB x a b)) ∧ w' = w := by
  by_cases h1 : a ≤ x
  · by_cases h2 : x ≤ b
    · rw [inB_t ⟨h1, h2⟩]
      go_enter Tryz.func33, Tryz.ntmps33
      go_wp2
      go_ret
      exact ⟨rfl, rfl⟩
    · rw [inB_f (by omega)]
      go_enter Tryz.func33, Tryz.ntmps33
      go_wp2
      go_ret
      exact ⟨rfl, rfl⟩
  · rw [inB_f (by omega)]
    go_enter Tryz.func33, Tryz.ntmps33
    go_wp2
    go_ret
    exact ⟨rfl, rfl⟩

set_option maxHeartbeats 400000 in
theorem isSmall_any (x : Int) (w : World) :
    Calls Tryz.prog 80 #[.int .u8 x] w fun e w' => e = .returned (.bool (inB x 97 122)) ∧ w' = w := by
  by_cases h1 : 97 ≤ x
  · by_cases h2 : x ≤ 122
    · rw [inB_t ⟨h1, h2⟩]
      go_enter Tryz.func80, Tryz.ntmps80
      go_wp2
      go_ret
      exact ⟨rfl, rfl⟩
    · rw [inB_f (by omega)]
      go_enter Tryz.func80, Tryz.ntmps80
      go_wp2
      go_ret
      exact ⟨rfl, rfl⟩
  · rw [inB_f (by omega)]
    go_enter Tryz.func80, Tryz.ntmps80
    go_wp2
    go_ret
    exact ⟨rfl, rfl⟩


def wordB (x : Int) : Bool := inB x 97 122 || inB x 48 57 || x == 95

set_option maxHeartbeats 400000 in
theorem isDigit_any (x : Int) (w : World) :
    Calls Tryz.prog 118 #[.int .u8 x] w fun e w' => e = .returned (.bool (inB x 48 57)) ∧ w' = w := by
  by_cases h1 : 48 ≤ x
  · by_cases h2 : x ≤ 57
    · rw [inB_t ⟨h1, h2⟩]
      go_enter Tryz.func118, Tryz.ntmps118
      go_wp2
      go_ret
      exact ⟨rfl, rfl⟩
    · rw [inB_f (by omega)]
      go_enter Tryz.func118, Tryz.ntmps118
      go_wp2
      go_ret
      exact ⟨rfl, rfl⟩
  · rw [inB_f (by omega)]
    go_enter Tryz.func118, Tryz.ntmps118
    go_wp2
    go_ret
    exact ⟨rfl, rfl⟩

set_option maxHeartbeats 400000 in
theorem l1Letter_any (x : Int) (w : World) (hl : 0 ≤ x) (hu : x ≤ 255) :
    Calls Tryz.prog 70 #[.int .u8 x] w fun e w' => e = .returned (.bool (wordB x)) ∧ w' = w := by
  cases ha : inB x 97 122 <;> cases hb : inB x 48 57 <;> cases hc : (x == 95)
  all_goals
    have hr : wordB x = (inB x 97 122 || inB x 48 57 || x == 95) := rfl
    rw [ha, hb, hc] at hr
    rw [hr]
    clear hr
    go_enter Tryz.func70, Tryz.ntmps70
    go_wp2_with (go_at_call 33; refine (l1In_any _ _ _ _).mono ?_; rintro e w' ⟨rfl, rfl⟩)
    go_ret
    exact ⟨rfl, rfl⟩

set_option maxHeartbeats 400000 in
theorem isWordByte_any (x : Int) (w : World) :
    Calls Tryz.prog 82 #[.int .u8 x] w fun e w' => e = .returned (.bool (wordB x)) ∧ w' = w := by
  cases ha : inB x 97 122 <;> cases hb : inB x 48 57 <;> cases hc : (x == 95)
  all_goals
    have hr : wordB x = (inB x 97 122 || inB x 48 57 || x == 95) := rfl
    rw [ha, hb, hc] at hr
    rw [hr]
    clear hr
    go_enter Tryz.func82, Tryz.ntmps82
    go_wp2_with (first | (go_at_call 80; refine (isSmall_any _ _).mono ?_; rintro e w' ⟨rfl, rfl⟩) | (go_at_call 118; refine (isDigit_any _ _).mono ?_; rintro e w' ⟨rfl, rfl⟩))
    go_ret
    exact ⟨rfl, rfl⟩

/-- the i-th byte as a number -/
def bat (s : ByteArray) (i : Nat) : Int := if h : i < s.size then ((s[i]'h).toNat : Int) else 0
theorem bat_in {s : ByteArray} {i : Nat} (h : i < s.size) : bat s i = ((s[i]'h).toNat : Int) := by simp [bat, h]

end Go.Proofs.YtaflokfgbmlmaacGreatDoor
/-
  What allBytes answers of a function value whose answers are known: allB, in the world as it was.
-/
namespace Go.Proofs.YtaflokfgbmlmaacGreatDoor
open Go.RowKit
set_option linter.unusedVariables false

def allB (P : Int → Bool) (s : ByteArray) : Bool := (List.range s.size).all (fun i => P (bat s i))
theorem allB_no {P : Int → Bool} {s : ByteArray} {i : Nat} (h : i < s.size) (hb : P (bat s i) = false) : allB P s = false := by
  unfold allB
  rw [← Bool.not_eq_true, List.all_eq_true]
  intro h2
  have := h2 i (by simpa using h)
  rw [hb] at this
  cases this
theorem allB_yes {P : Int → Bool} {s : ByteArray} (h : ∀ i, i < s.size → P (bat s i) = true) : allB P s = true := by
  unfold allB
  rw [List.all_eq_true]
  intro i hi
  exact h i (by simpa using hi)

set_option maxHeartbeats 800000 in
theorem allBytesWord_any (s : ByteArray) (w : World) (hs : s.size ≤ maxLen) :
    Calls Tryz.prog 81 #[.string s, .func (.func 82) #[] #[]] w fun e w' => e = .returned (.bool (allB wordB s)) ∧ w' = w := by
  unfold maxLen at hs
  go_enter Tryz.func81, Tryz.ntmps81
  go_wp2
  go_loop [8] (fun i => ∃ k : Nat, k ≤ s.size ∧ i = .int .i64 k ∧ ∀ j, j < k → wordB (bat s j) = true) (fun i => s.size - (intOf i).toNat)
  case atStart => exact ⟨0, Nat.zero_le _, rfl, fun j hj => absurd hj (Nat.not_lt_zero _)⟩
  case round =>
    obtain ⟨k, hk, rfl, hall⟩ := hrel
    have HA := hide hall
    clear hall
    by_cases hlt : k < s.size
    · have HB := hide (bat_in hlt)
      cases hw : wordB ((s[k]'hlt).toNat : Int)
      · have HN := hide (allB_no (P := wordB) hlt (by rw [HB.out, hw]))
        go_wp2_with (go_at_call 82; refine (isWordByte_any _ _).mono ?_; rintro e w' ⟨rfl, rfl⟩)
        go_ret
        exact ⟨ret_bool HN.out.symm, rfl⟩
      · have HW := hide hw
        go_wp2_with (go_at_call 82; refine (isWordByte_any _ _).mono ?_; rintro e w' ⟨rfl, rfl⟩)
        go_round
        case rel => exact ⟨k + 1, by omega, by go_num, fun j hj => by
          by_cases hjk : j = k
          · rw [hjk, HB.out, HW.out]
          · exact HA.out j (by omega)⟩
        case measure => simp [intOf]; omega
    · have HN := hide (allB_yes (P := wordB) fun i hi => HA.out i (by omega))
      go_wp2
      go_ret
      exact ⟨ret_bool HN.out.symm, rfl⟩
end Go.Proofs.YtaflokfgbmlmaacGreatDoor
/-
  What the functions on names answer, the tested one and the model alike: nameB of the text, in the world as it was.
-/
namespace Go.Proofs.YtaflokfgbmlmaacGreatDoor
open Go.RowKit
set_option linter.unusedVariables false

def headB (s : ByteArray) (i : Nat) : Bool := wordB (bat s i) && (i != 0 || inB (bat s i) 97 122)
def nameB (s : ByteArray) : Bool := (List.range s.size).all (headB s) && inB s.size 1 12

theorem nameB_no {s : ByteArray} {i : Nat} (h : i < s.size) (hb : headB s i = false) : nameB s = false := by
  unfold nameB
  rw [Bool.and_eq_false_iff]
  left
  rw [← Bool.not_eq_true, List.all_eq_true]
  intro h2
  have := h2 i (by simpa using h)
  rw [hb] at this
  cases this

theorem nameB_all {s : ByteArray} (h : ∀ i, i < s.size → headB s i = true) : nameB s = inB s.size 1 12 := by
  unfold nameB
  have : (List.range s.size).all (headB s) = true := by
    rw [List.all_eq_true]; intro i hi; exact h i (by simpa using hi)
  rw [this]; simp


set_option maxHeartbeats 800000 in
theorem specNameOk_any (s : ByteArray) (w : World) (hs : s.size ≤ maxLen) :
    Calls Tryz.prog 32 #[.string s] w fun e w' => e = .returned (.bool (nameB s)) ∧ w' = w := by
  unfold maxLen at hs
  go_enter Tryz.func32, Tryz.ntmps32
  go_wp2
  go_loop [3] (fun i => ∃ k : Nat, k ≤ s.size ∧ i = .int .i64 k ∧ ∀ j, j < k → headB s j = true) (fun i => s.size - (intOf i).toNat)
  case atStart => exact ⟨0, Nat.zero_le _, rfl, fun j hj => absurd hj (Nat.not_lt_zero _)⟩
  case round =>
    obtain ⟨k, hk, rfl, hall⟩ := hrel
    have HA := hide hall
    clear hall
    by_cases hlt : k < s.size
    · have hlb : 0 ≤ ((s[k]'hlt).toNat : Int) := by omega
      have hub : ((s[k]'hlt).toNat : Int) ≤ 255 := by have := (s[k]'hlt).toNat_lt; omega
      have HH : Hid (headB s k = (wordB ((s[k]'hlt).toNat : Int) && (k != 0 || inB ((s[k]'hlt).toNat : Int) 97 122))) := by
        unfold Hid headB; rw [bat_in hlt]
      cases hw : wordB ((s[k]'hlt).toNat : Int)
      · go_wp2_with (first | (go_at_call 70; refine (l1Letter_any _ _ (by omega) (by omega)).mono ?_; rintro e w' ⟨rfl, rfl⟩))
        rw [nameB_no hlt (by rw [HH.out, hw]; rfl)]
        go_ret
        exact ⟨rfl, rfl⟩
      · by_cases hk0 : 0 < k
        · go_wp2_with (first | (go_at_call 70; refine (l1Letter_any _ _ (by omega) (by omega)).mono ?_; rintro e w' ⟨rfl, rfl⟩))
          go_round
          case rel => exact ⟨k + 1, by omega, by go_num, fun j hj => by
            by_cases hjk : j = k
            · rw [hjk, HH.out, hw]; simp; omega
            · exact HA.out j (by omega)⟩
          case measure => simp [intOf]; omega
        · have h00 : 0 < s.size := by omega
          have hlb0 : 0 ≤ ((s[0]'h00).toNat : Int) := by omega
          have hub0 : ((s[0]'h00).toNat : Int) ≤ 255 := by have := (s[0]'h00).toNat_lt; omega
          have HK : Hid (∀ b, inB ((s[0]'h00).toNat : Int) 97 122 = b → headB s 0 = b) := by
            intro b hb
            have e : k = 0 := by omega
            subst e
            rw [HH.out, hw, hb]; simp
          clear HH
          cases hi : inB ((s[0]'h00).toNat : Int) 97 122
          · go_wp2_with (first | (go_at_call 70; refine (l1Letter_any _ _ (by omega) (by omega)).mono ?_; rintro e w' ⟨rfl, rfl⟩) | (go_at_call 33; refine (l1In_any _ _ _ _).mono ?_; rintro e w' ⟨rfl, rfl⟩))
            rw [nameB_no h00 (HK.out _ hi)]
            go_ret
            exact ⟨rfl, rfl⟩
          · go_wp2_with (first | (go_at_call 70; refine (l1Letter_any _ _ (by omega) (by omega)).mono ?_; rintro e w' ⟨rfl, rfl⟩) | (go_at_call 33; refine (l1In_any _ _ _ _).mono ?_; rintro e w' ⟨rfl, rfl⟩))
            go_round
            case rel => exact ⟨1, by omega, by go_num, fun j hj => by
              obtain rfl : j = 0 := by omega
              exact HK.out _ hi⟩
            case measure => simp [intOf]; omega
    · have HN := hide (nameB_all fun i hi => HA.out i (by omega))
      go_wp2_with (first | (go_at_call 33; refine (l1In_any _ _ _ _).mono ?_; rintro e w' ⟨rfl, rfl⟩))
      go_ret
      exact ⟨ret_bool HN.out.symm, rfl⟩

theorem nameB_size {s : ByteArray} (h : ¬ (1 ≤ s.size ∧ s.size ≤ 12)) : nameB s = false := by
  unfold nameB
  rw [Bool.and_eq_false_iff]
  right
  exact inB_f (by omega)

theorem nameB_tail {s : ByteArray} (h1 : 1 ≤ s.size) (h2 : s.size ≤ 12) (hi : inB (bat s 0) 97 122 = true) : nameB s = allB wordB s := by
  unfold nameB allB
  rw [inB_t (by omega), Bool.and_true]
  rw [Bool.eq_iff_iff, List.all_eq_true, List.all_eq_true]
  have e : ∀ i, headB s i = wordB (bat s i) := fun i => by
    unfold headB
    by_cases h0 : i = 0
    · subst h0; rw [hi]; simp
    · have : (i != 0) = true := by simpa using h0
      rw [this]; simp
  constructor
  · intro h i hm; rw [← e]; exact h i hm
  · intro h i hm; rw [e]; exact h i hm

set_option maxHeartbeats 800000 in
theorem implNameOk_any (s : ByteArray) (w : World) (hs : s.size ≤ maxLen) :
    Calls Tryz.prog 46 #[.string s] w fun e w' => e = .returned (.bool (nameB s)) ∧ w' = w := by
  have hs2 := hs
  unfold maxLen at hs2
  by_cases h1 : 1 ≤ s.size
  · by_cases h2 : s.size ≤ 12
    · have h0 : 0 < s.size := h1
      have HI : Hid (bat s 0 = ((s[0]'h0).toNat : Int)) := bat_in h0
      cases hi : inB ((s[0]'h0).toNat : Int) 97 122
      · rw [nameB_no h0 (by unfold headB; rw [HI.out, hi]; simp)]
        go_enter Tryz.func46, Tryz.ntmps46
        go_wp2_with (first | (go_at_call 80; refine (isSmall_any _ _).mono ?_; rintro e w' ⟨rfl, rfl⟩))
        go_ret
        exact ⟨rfl, rfl⟩
      · have HN := hide (nameB_tail h1 h2 (by rw [HI.out, hi]))
        go_enter Tryz.func46, Tryz.ntmps46
        go_wp2_with fail
        refine (isSmall_any _ _).mono ?_
        rintro e w' ⟨rfl, rfl⟩
        rw [hi]
        go_wp2_with fail
        refine (allBytesWord_any _ _ hs).mono ?_
        rintro e w' ⟨rfl, rfl⟩
        generalize allB wordB s = r at HN ⊢
        go_wp2
        go_ret
        exact ⟨ret_bool HN.out.symm, rfl⟩
    · rw [nameB_size (by omega)]
      go_enter Tryz.func46, Tryz.ntmps46
      go_wp2
      go_ret
      exact ⟨rfl, rfl⟩
  · rw [nameB_size (by omega)]
    go_enter Tryz.func46, Tryz.ntmps46
    go_wp2
    go_ret
    exact ⟨rfl, rfl⟩


end Go.Proofs.YtaflokfgbmlmaacGreatDoor
/-
  What the functions on a value's text answer, the tested one and the model alike: textB of the text, in the world as it was.
-/
namespace Go.Proofs.YtaflokfgbmlmaacGreatDoor
open Go.RowKit
set_option linter.unusedVariables false

/-- may a text be a value's? -/
def textB (s : ByteArray) : Bool := (List.range s.size).all (fun i => wordB (bat s i)) && decide (s.size ≤ 20)

theorem textB_no {s : ByteArray} {i : Nat} (h : i < s.size) (hb : wordB (bat s i) = false) : textB s = false := by
  unfold textB
  rw [Bool.and_eq_false_iff]
  left
  rw [← Bool.not_eq_true, List.all_eq_true]
  intro h2
  have := h2 i (by simpa using h)
  rw [hb] at this
  cases this
theorem textB_all {s : ByteArray} (h : ∀ i, i < s.size → wordB (bat s i) = true) : textB s = decide (s.size ≤ 20) := by
  unfold textB
  have : (List.range s.size).all (fun i => wordB (bat s i)) = true := by
    rw [List.all_eq_true]; intro i hi; exact h i (by simpa using hi)
  rw [this]; simp
theorem textB_size {s : ByteArray} (h : ¬ s.size ≤ 20) : textB s = false := by
  unfold textB
  rw [Bool.and_eq_false_iff]
  right
  simpa using h
theorem textB_le {s : ByteArray} (h : textB s = true) : s.size ≤ 20 := by
  by_cases h2 : s.size ≤ 20
  · exact h2
  · rw [textB_size h2] at h; cases h

set_option maxHeartbeats 800000 in
theorem l2Plain_any (s : ByteArray) (w : World) (hs : s.size ≤ maxLen) :
    Calls Tryz.prog 157 #[.string s] w fun e w' => e = .returned (.bool (textB s)) ∧ w' = w := by
  unfold maxLen at hs
  go_enter Tryz.func157, Tryz.ntmps157
  go_wp2
  go_loop [3] (fun i => ∃ k : Nat, k ≤ s.size ∧ i = .int .i64 k ∧ ∀ j, j < k → wordB (bat s j) = true) (fun i => s.size - (intOf i).toNat)
  case atStart => exact ⟨0, Nat.zero_le _, rfl, fun j hj => absurd hj (Nat.not_lt_zero _)⟩
  case round =>
    obtain ⟨k, hk, rfl, hall⟩ := hrel
    have HA := hide hall
    clear hall
    by_cases hlt : k < s.size
    · have hlb : 0 ≤ ((s[k]'hlt).toNat : Int) := by omega
      have hub : ((s[k]'hlt).toNat : Int) ≤ 255 := by have := (s[k]'hlt).toNat_lt; omega
      have HB := hide (bat_in hlt)
      cases hw : wordB ((s[k]'hlt).toNat : Int)
      · have HN := hide (textB_no hlt (by rw [HB.out, hw]))
        go_wp2_with (go_at_call 70; refine (l1Letter_any _ _ (by omega) (by omega)).mono ?_; rintro e w' ⟨rfl, rfl⟩)
        go_ret
        exact ⟨ret_bool HN.out.symm, rfl⟩
      · have HW := hide hw
        go_wp2_with (go_at_call 70; refine (l1Letter_any _ _ (by omega) (by omega)).mono ?_; rintro e w' ⟨rfl, rfl⟩)
        go_round
        case rel => exact ⟨k + 1, by omega, by go_num, fun j hj => by
          by_cases hjk : j = k
          · rw [hjk, HB.out, HW.out]
          · exact HA.out j (by omega)⟩
        case measure => simp [intOf]; omega
    · have HN := hide (textB_all fun i hi => HA.out i (by omega))
      go_wp2
      go_ret
      exact ⟨ret_bool (by rw [HN.out]; simp; omega), rfl⟩

theorem textB_tail {s : ByteArray} (h : s.size ≤ 20) : textB s = allB wordB s := by
  unfold textB allB
  rw [decide_eq_true h, Bool.and_true]

set_option maxHeartbeats 800000 in
theorem isTextOfVal_any (s : ByteArray) (w : World) (hs : s.size ≤ maxLen) :
    Calls Tryz.prog 152 #[.string s] w fun e w' => e = .returned (.bool (textB s)) ∧ w' = w := by
  have hs2 := hs
  unfold maxLen at hs2
  by_cases h2 : s.size ≤ 20
  · have HN := hide (textB_tail h2)
    go_enter Tryz.func152, Tryz.ntmps152
    go_wp2_with fail
    refine (allBytesWord_any _ _ hs).mono ?_
    rintro e w' ⟨rfl, rfl⟩
    generalize allB wordB s = r at HN ⊢
    go_wp2
    go_ret
    exact ⟨ret_bool HN.out.symm, rfl⟩
  · rw [textB_size h2]
    go_enter Tryz.func152, Tryz.ntmps152
    go_wp2
    go_ret
    exact ⟨rfl, rfl⟩
end Go.Proofs.YtaflokfgbmlmaacGreatDoor
/-
  When a token is right, plainly: variables, marks, tokB.
-/
namespace Go.Proofs.YtaflokfgbmlmaacGreatDoor
open Go.RowKit
set_option linter.unusedVariables false

def largeB (x : Int) : Bool := inB x 65 90
def varByteB (x : Int) : Bool := inB x 65 90 || wordB x
def varAt (s : ByteArray) (i : Nat) : Bool := inB (bat s i) 65 90 || (i != 0 && wordB (bat s i))
/-- is a text a variable? -/
def varB (s : ByteArray) : Bool := (List.range s.size).all (varAt s) && inB s.size 1 12
theorem varB_no {s : ByteArray} {i : Nat} (h : i < s.size) (hb : varAt s i = false) : varB s = false := by
  unfold varB
  rw [Bool.and_eq_false_iff]
  left
  rw [← Bool.not_eq_true, List.all_eq_true]
  intro h2
  have := h2 i (by simpa using h)
  rw [hb] at this
  cases this
theorem varB_all {s : ByteArray} (h : ∀ i, i < s.size → varAt s i = true) : varB s = inB s.size 1 12 := by
  unfold varB
  have : (List.range s.size).all (varAt s) = true := by
    rw [List.all_eq_true]; intro i hi; exact h i (by simpa using hi)
  rw [this]; simp
theorem varB_size {s : ByteArray} (h : ¬ (1 ≤ s.size ∧ s.size ≤ 12)) : varB s = false := by
  unfold varB
  rw [Bool.and_eq_false_iff]
  right
  exact inB_f (by omega)
theorem varB_tail {s : ByteArray} (h1 : 1 ≤ s.size) (h2 : s.size ≤ 12) (hi : inB (bat s 0) 65 90 = true) : varB s = allB varByteB s := by
  unfold varB allB
  rw [inB_t (by omega), Bool.and_true]
  rw [Bool.eq_iff_iff, List.all_eq_true, List.all_eq_true]
  have e : ∀ i, varAt s i = varByteB (bat s i) := fun i => by
    unfold varAt varByteB
    by_cases h0 : i = 0
    · subst h0; rw [hi]; simp
    · have : (i != 0) = true := by simpa using h0
      rw [this]; simp
  constructor
  · intro h i hm; rw [← e]; exact h i hm
  · intro h i hm; rw [e]; exact h i hm

/-- the marks of one byte -/
def ones : List UInt8 := [40, 41, 44, 46, 58, 45, 43, 61, 35, 60, 33, 95]
/-- is a text a mark? -/
def markB (s : ByteArray) : Bool := (s.toList == [45, 62]) || ones.any (fun c => s.toList == [c])

/-- is a token right? -/
def tokB (K N : Int) (S : ByteArray) : Bool :=
  if K = 1 then inB N 0 1000000000 && decide (S.size = 0)
  else decide (N = 0) && (if K = 2 then nameB S else if K = 3 then varB S else if K = 4 then textB S else if K = 5 then markB S else false)
theorem tokB_num (N : Int) (S : ByteArray) : tokB 1 N S = (inB N 0 1000000000 && decide (S.size = 0)) := by simp [tokB]
theorem tokB_n0 {K N : Int} (S : ByteArray) (hK : K ≠ 1) (hN : N ≠ 0) : tokB K N S = false := by simp [tokB, hK, hN]
/-- is a text one of its kind? -/
def wordOfB (K : Int) (S : ByteArray) : Bool := if K = 2 then nameB S else if K = 3 then varB S else if K = 4 then textB S else if K = 5 then markB S else false
theorem tokB_word {K : Int} (S : ByteArray) (hK : K ≠ 1) : tokB K 0 S = wordOfB K S := by simp [tokB, wordOfB, hK]
theorem tokB_or {K N : Int} (S : ByteArray) (hK : K ≠ 1) : tokB K N S = (decide (N = 0) && wordOfB K S) := by simp [tokB, wordOfB, hK]
theorem varB_le {s : ByteArray} (h : varB s = true) : s.size ≤ 12 := by
  by_cases h2 : 1 ≤ s.size ∧ s.size ≤ 12
  · exact h2.2
  · rw [varB_size h2] at h; cases h
theorem nameB_le {s : ByteArray} (h : nameB s = true) : s.size ≤ 12 := by
  by_cases h2 : 1 ≤ s.size ∧ s.size ≤ 12
  · exact h2.2
  · rw [nameB_size h2] at h; cases h
theorem toList_size (s : ByteArray) : s.toList.length = s.size := by
  rw [ByteArray.toList_eq]; exact Array.length_toList
theorem markB_le {s : ByteArray} (h : markB s = true) : s.size ≤ 2 := by
  unfold markB at h
  rw [Bool.or_eq_true, List.any_eq_true] at h
  rw [← toList_size]
  rcases h with h | ⟨c, _, h⟩
  · rw [beq_iff_eq] at h; rw [h]; simp
  · rw [beq_iff_eq] at h; rw [h]; simp
theorem wordOfB_le {K : Int} {S : ByteArray} (h : wordOfB K S = true) : S.size ≤ 20 := by
  unfold wordOfB at h
  split at h
  · have := nameB_le h; omega
  · split at h
    · have := varB_le h; omega
    · split at h
      · exact textB_le h
      · split at h
        · have := markB_le h; omega
        · cases h
end Go.Proofs.YtaflokfgbmlmaacGreatDoor
/-
  What the tested functions on tokens answer: tokB of the token.
-/
namespace Go.Proofs.YtaflokfgbmlmaacGreatDoor
open Go.RowKit
set_option linter.unusedVariables false

set_option maxHeartbeats 400000 in
theorem isLarge_any (x : Int) (w : World) :
    Calls Tryz.prog 150 #[.int .u8 x] w fun e w' => e = .returned (.bool (inB x 65 90)) ∧ w' = w := by
  by_cases h1 : 65 ≤ x
  · by_cases h2 : x ≤ 90
    · rw [inB_t ⟨h1, h2⟩]
      go_enter Tryz.func150, Tryz.ntmps150
      go_wp2
      go_ret
      exact ⟨rfl, rfl⟩
    · rw [inB_f (by omega)]
      go_enter Tryz.func150, Tryz.ntmps150
      go_wp2
      go_ret
      exact ⟨rfl, rfl⟩
  · rw [inB_f (by omega)]
    go_enter Tryz.func150, Tryz.ntmps150
    go_wp2
    go_ret
    exact ⟨rfl, rfl⟩

set_option maxHeartbeats 400000 in
theorem isVarByte_any (x : Int) (w : World) :
    Calls Tryz.prog 151 #[.int .u8 x] w fun e w' => e = .returned (.bool (varByteB x)) ∧ w' = w := by
  cases ha : inB x 65 90 <;> cases hb : wordB x
  all_goals
    have hr : varByteB x = (inB x 65 90 || wordB x) := rfl
    rw [ha, hb] at hr
    rw [hr]
    clear hr
    go_enter Tryz.func151, Tryz.ntmps151
    go_wp2_with (first | (go_at_call 150; refine (isLarge_any _ _).mono ?_; rintro e w' ⟨rfl, rfl⟩) | (go_at_call 82; refine (isWordByte_any _ _).mono ?_; rintro e w' ⟨rfl, rfl⟩))
    go_ret
    exact ⟨rfl, rfl⟩

set_option maxHeartbeats 800000 in
theorem allBytesVar_any (s : ByteArray) (w : World) (hs : s.size ≤ maxLen) :
    Calls Tryz.prog 81 #[.string s, .func (.func 151) #[] #[]] w fun e w' => e = .returned (.bool (allB varByteB s)) ∧ w' = w := by
  unfold maxLen at hs
  go_enter Tryz.func81, Tryz.ntmps81
  go_wp2
  go_loop [8] (fun i => ∃ k : Nat, k ≤ s.size ∧ i = .int .i64 k ∧ ∀ j, j < k → varByteB (bat s j) = true) (fun i => s.size - (intOf i).toNat)
  case atStart => exact ⟨0, Nat.zero_le _, rfl, fun j hj => absurd hj (Nat.not_lt_zero _)⟩
  case round =>
    obtain ⟨k, hk, rfl, hall⟩ := hrel
    have HA := hide hall
    clear hall
    by_cases hlt : k < s.size
    · have HB := hide (bat_in hlt)
      cases hw : varByteB ((s[k]'hlt).toNat : Int)
      · have HN := hide (allB_no (P := varByteB) hlt (by rw [HB.out, hw]))
        go_wp2_with (go_at_call 151; refine (isVarByte_any _ _).mono ?_; rintro e w' ⟨rfl, rfl⟩)
        go_ret
        exact ⟨ret_bool HN.out.symm, rfl⟩
      · have HW := hide hw
        go_wp2_with (go_at_call 151; refine (isVarByte_any _ _).mono ?_; rintro e w' ⟨rfl, rfl⟩)
        go_round
        case rel => exact ⟨k + 1, by omega, by go_num, fun j hj => by
          by_cases hjk : j = k
          · rw [hjk, HB.out, HW.out]
          · exact HA.out j (by omega)⟩
        case measure => simp [intOf]; omega
    · have HN := hide (allB_yes (P := varByteB) fun i hi => HA.out i (by omega))
      go_wp2
      go_ret
      exact ⟨ret_bool HN.out.symm, rfl⟩

set_option maxHeartbeats 800000 in
theorem isVar_any (s : ByteArray) (w : World) (hs : s.size ≤ maxLen) :
    Calls Tryz.prog 129 #[.string s] w fun e w' => e = .returned (.bool (varB s)) ∧ w' = w := by
  have hs2 := hs
  unfold maxLen at hs2
  by_cases h1 : 1 ≤ s.size
  · by_cases h2 : s.size ≤ 12
    · have h0 : 0 < s.size := h1
      have HI : Hid (bat s 0 = ((s[0]'h0).toNat : Int)) := bat_in h0
      cases hi : inB ((s[0]'h0).toNat : Int) 65 90
      · rw [varB_no h0 (by unfold varAt; rw [HI.out, hi]; simp)]
        go_enter Tryz.func129, Tryz.ntmps129
        go_wp2_with (first | (go_at_call 150; refine (isLarge_any _ _).mono ?_; rintro e w' ⟨rfl, rfl⟩))
        go_ret
        exact ⟨rfl, rfl⟩
      · have HN := hide (varB_tail h1 h2 (by rw [HI.out, hi]))
        go_enter Tryz.func129, Tryz.ntmps129
        go_wp2_with fail
        refine (isLarge_any _ _).mono ?_
        rintro e w' ⟨rfl, rfl⟩
        rw [hi]
        go_wp2_with fail
        refine (allBytesVar_any _ _ hs).mono ?_
        rintro e w' ⟨rfl, rfl⟩
        generalize allB varByteB s = r at HN ⊢
        go_wp2
        go_ret
        exact ⟨ret_bool HN.out.symm, rfl⟩
    · rw [varB_size (by omega)]
      go_enter Tryz.func129, Tryz.ntmps129
      go_wp2
      go_ret
      exact ⟨rfl, rfl⟩
  · rw [varB_size (by omega)]
    go_enter Tryz.func129, Tryz.ntmps129
    go_wp2
    go_ret
    exact ⟨rfl, rfl⟩

end Go.Proofs.YtaflokfgbmlmaacGreatDoor
/-
  What the model's functions on tokens answer: tokB of the token.
-/
namespace Go.Proofs.YtaflokfgbmlmaacGreatDoor
open Go.RowKit
set_option linter.unusedVariables false

set_option maxHeartbeats 400000 in
theorem l5Large_any (x : Int) (w : World) (hl : 0 ≤ x) (hu : x ≤ 255) :
    Calls Tryz.prog 156 #[.int .u8 x] w fun e w' => e = .returned (.bool (inB x 65 90)) ∧ w' = w := by
  cases ha : inB x 65 90
  all_goals
    go_enter Tryz.func156, Tryz.ntmps156
    go_wp2_with (go_at_call 33; refine (l1In_any _ _ _ _).mono ?_; rintro e w' ⟨rfl, rfl⟩)
    go_ret
    exact ⟨rfl, rfl⟩

set_option maxHeartbeats 1600000 in
theorem l5VarOk_any (s : ByteArray) (w : World) (hs : s.size ≤ maxLen) :
    Calls Tryz.prog 138 #[.string s] w fun e w' => e = .returned (.bool (varB s)) ∧ w' = w := by
  unfold maxLen at hs
  go_enter Tryz.func138, Tryz.ntmps138
  go_wp2
  go_loop [3] (fun i => ∃ k : Nat, k ≤ s.size ∧ i = .int .i64 k ∧ ∀ j, j < k → varAt s j = true) (fun i => s.size - (intOf i).toNat)
  case atStart => exact ⟨0, Nat.zero_le _, rfl, fun j hj => absurd hj (Nat.not_lt_zero _)⟩
  case round =>
    obtain ⟨k, hk, rfl, hall⟩ := hrel
    have HA := hide hall
    clear hall
    by_cases hlt : k < s.size
    · have hlb : 0 ≤ ((s[k]'hlt).toNat : Int) := by omega
      have hub : ((s[k]'hlt).toNat : Int) ≤ 255 := by have := (s[k]'hlt).toNat_lt; omega
      have HH : Hid (varAt s k = (inB ((s[k]'hlt).toNat : Int) 65 90 || (k != 0 && wordB ((s[k]'hlt).toNat : Int)))) := by
        unfold Hid varAt; rw [bat_in hlt]
      cases hw : inB ((s[k]'hlt).toNat : Int) 65 90
      · by_cases hk0 : 0 < k
        · have k0 : ((k : Int) == 0) = false := by simp; omega
          have k1 : (k != 0) = true := by simp; omega
          rw [hw, k1] at HH
          clear k1
          cases hv : wordB ((s[k]'hlt).toNat : Int)
          · rw [hv] at HH
            have HN := hide (varB_no hlt (by rw [HH.out]; rfl))
            go_wp2_with (first | (go_at_call 156; refine (l5Large_any _ _ (by omega) (by omega)).mono ?_; rintro e w' ⟨rfl, rfl⟩) | (go_at_call 70; refine (l1Letter_any _ _ (by omega) (by omega)).mono ?_; rintro e w' ⟨rfl, rfl⟩))
            go_ret
            exact ⟨ret_bool HN.out.symm, rfl⟩
          · rw [hv] at HH
            go_wp2_with (first | (go_at_call 156; refine (l5Large_any _ _ (by omega) (by omega)).mono ?_; rintro e w' ⟨rfl, rfl⟩) | (go_at_call 70; refine (l1Letter_any _ _ (by omega) (by omega)).mono ?_; rintro e w' ⟨rfl, rfl⟩))
            go_round
            case rel => exact ⟨k + 1, by omega, by go_num, fun j hj => by
              by_cases hjk : j = k
              · rw [hjk, HH.out]; rfl
              · exact HA.out j (by omega)⟩
            case measure => simp [intOf]; omega
        · obtain rfl : k = 0 := by omega
          rw [hw] at HH
          have HN := hide (varB_no hlt (by rw [HH.out]; rfl))
          go_wp2_with (first | (go_at_call 156; refine (l5Large_any _ _ (by omega) (by omega)).mono ?_; rintro e w' ⟨rfl, rfl⟩) | (go_at_call 70; refine (l1Letter_any _ _ (by omega) (by omega)).mono ?_; rintro e w' ⟨rfl, rfl⟩))
          go_ret
          exact ⟨ret_bool HN.out.symm, rfl⟩
      · rw [hw, Bool.true_or] at HH
        go_wp2_with (first | (go_at_call 156; refine (l5Large_any _ _ (by omega) (by omega)).mono ?_; rintro e w' ⟨rfl, rfl⟩))
        go_round
        case rel => exact ⟨k + 1, by omega, by go_num, fun j hj => by
          by_cases hjk : j = k
          · rw [hjk, HH.out]
          · exact HA.out j (by omega)⟩
        case measure => simp [intOf]; omega
    · have HN := hide (varB_all fun i hi => HA.out i (by omega))
      go_wp2_with (first | (go_at_call 33; refine (l1In_any _ _ _ _).mono ?_; rintro e w' ⟨rfl, rfl⟩))
      go_ret
      exact ⟨ret_bool HN.out.symm, rfl⟩

def lit12 : ByteArray := ⟨#[40, 41, 44, 46, 58, 45, 43, 61, 35, 60, 33, 95]⟩
theorem one_at {k : Nat} (h : k < 12) : ∃ c, ones[k]? = some c ∧ (ByteArray.extract ⟨#[40, 41, 44, 46, 58, 45, 43, 61, 35, 60, 33, 95]⟩ k (k + 1)).toList = [c] := by
  match k, h with
  | 0, _ => exact ⟨_, rfl, by decide +kernel⟩
  | 1, _ => exact ⟨_, rfl, by decide +kernel⟩
  | 2, _ => exact ⟨_, rfl, by decide +kernel⟩
  | 3, _ => exact ⟨_, rfl, by decide +kernel⟩
  | 4, _ => exact ⟨_, rfl, by decide +kernel⟩
  | 5, _ => exact ⟨_, rfl, by decide +kernel⟩
  | 6, _ => exact ⟨_, rfl, by decide +kernel⟩
  | 7, _ => exact ⟨_, rfl, by decide +kernel⟩
  | 8, _ => exact ⟨_, rfl, by decide +kernel⟩
  | 9, _ => exact ⟨_, rfl, by decide +kernel⟩
  | 10, _ => exact ⟨_, rfl, by decide +kernel⟩
  | 11, _ => exact ⟨_, rfl, by decide +kernel⟩

end Go.Proofs.YtaflokfgbmlmaacGreatDoor
/-
  What the functions on values answer: valB of the value, the tested ones and the model alike; nothing that was there has turned.
-/
namespace Go.Proofs.YtaflokfgbmlmaacGreatDoor
open Go.RowKit
set_option linter.unusedVariables false

/-- is a value right? -/
def valB (K N : Int) (S : ByteArray) : Bool := (K == 1 && inB N (-1000000000) 1000000000 && decide (S.size = 0)) || (K == 2 && textB S && N == 0)
theorem valB_num {N : Int} (S : ByteArray) (h : -1000000000 ≤ N ∧ N ≤ 1000000000) : valB 1 N S = decide (S.size = 0) := by
  simp [valB, inB_t h]
theorem valB_out {N : Int} (S : ByteArray) (h : ¬ (-1000000000 ≤ N ∧ N ≤ 1000000000)) : valB 1 N S = false := by
  simp [valB, inB_f h]
theorem valB_text (N : Int) (S : ByteArray) : valB 2 N S = (textB S && N == 0) := by
  simp [valB]
theorem valB_none {K : Int} (N : Int) (S : ByteArray) (h1 : K ≠ 1) (h2 : K ≠ 2) : valB K N S = false := by
  simp [valB, h1, h2]

set_option maxHeartbeats 400000 in
theorem asValNum_any (n : Int) (w : World) :
    Calls Tryz.prog 180 #[.int .i64 n] w fun e w' => e = .returned (.agg #[.int .i64 1, .int .i64 n, .string ⟨#[]⟩]) ∧ Below w.heap.size w w' := by
  go_enter Tryz.func180, Tryz.ntmps180
  go_wp2
  go_returns
  exact ⟨rfl, by go_grown⟩

set_option maxHeartbeats 400000 in
theorem asValText_any (s : ByteArray) (w : World) :
    Calls Tryz.prog 181 #[.string s] w fun e w' => e = .returned (.agg #[.int .i64 2, .int .i64 0, .string s]) ∧ Below w.heap.size w w' := by
  go_enter Tryz.func181, Tryz.ntmps181
  go_wp2
  go_returns
  exact ⟨rfl, by go_grown⟩

/-- what spokenOf answers -/
def spokV (K N : Int) (S : ByteArray) : Value :=
  if valB K N S then (if K = 1 then .iface 192 (.int .i64 N) else .iface 193 (.string S)) else .nilIface
theorem spokV_one {N : Int} {S : ByteArray} (h : valB 1 N S = true) : spokV 1 N S = .iface 192 (.int .i64 N) := by simp [spokV, h]
theorem spokV_two {N : Int} {S : ByteArray} (h : valB 2 N S = true) : spokV 2 N S = .iface 193 (.string S) := by simp [spokV, h]
theorem spokV_no {K N : Int} {S : ByteArray} (h : valB K N S = false) : spokV K N S = .nilIface := by simp [spokV, h]

set_option maxHeartbeats 1600000 in
theorem spokenOf_any (K N : Int) (S : ByteArray) (w : World) (hs : S.size ≤ maxLen) :
    Calls Tryz.prog 132 #[.agg #[.int .i64 K, .int .i64 N, .string S]] w fun e w' =>
      e = .returned (spokV K N S) ∧ Below w.heap.size w w' := by
  by_cases hK : K = 1
  · subst hK
    by_cases h1 : -1000000000 ≤ N
    · by_cases h2 : N ≤ 1000000000
      · by_cases hS : S.size = 0
        · rw [spokV_one (by rw [valB_num S ⟨h1, h2⟩]; simpa using hS)]
          obtain rfl := empty_of_size hS
          clear hS
          go_enter Tryz.func132, Tryz.ntmps132
          go_wp2
          go_region_with (go_at_call 180; refine (asValNum_any _ _).mono ?_; rintro e w' ⟨rfl, hb⟩; obtain ⟨hc, hf⟩ := bcell hb)
          all_goals go_wp2
          all_goals go_ret
          all_goals exact ⟨rfl, below_box hb⟩
        · rw [spokV_no (by rw [valB_num S ⟨h1, h2⟩]; simpa using hS)]
          have hE := isEmpty_false hS
          clear hS
          go_enter Tryz.func132, Tryz.ntmps132
          go_wp2
          go_region_with (go_at_call 180; refine (asValNum_any _ _).mono ?_; rintro e w' ⟨rfl, hb⟩; obtain ⟨hc, hf⟩ := bcell hb)
          all_goals go_wp2
          all_goals go_ret
          all_goals exact ⟨rfl, below_box hb⟩
      · rw [spokV_no (valB_out S (by omega))]
        go_enter Tryz.func132, Tryz.ntmps132
        go_wp2
        go_quiet (fail)
        go_wp2
        go_ret
        exact ⟨rfl, below_boxN _ _ _⟩
    · rw [spokV_no (valB_out S (by omega))]
      go_enter Tryz.func132, Tryz.ntmps132
      go_wp2
      go_quiet (fail)
      go_wp2
      go_ret
      exact ⟨rfl, below_boxN _ _ _⟩
  · have hk1 : (K == 1) = false := by simpa using hK
    by_cases hK2 : K = 2
    · subst hK2
      clear hk1 hK
      cases ht : textB S
      · rw [spokV_no (by rw [valB_text, ht]; rfl)]
        go_enter Tryz.func132, Tryz.ntmps132
        go_wp2_with (go_at_call 152; refine (isTextOfVal_any _ _ hs).mono ?_; rintro e w' ⟨rfl, rfl⟩)
        go_quiet (fail)
        go_wp2
        go_ret
        exact ⟨rfl, below_boxN _ _ _⟩
      · by_cases hN : N = 0
        · rw [spokV_two (by rw [valB_text, ht, hN]; rfl)]
          subst hN
          go_enter Tryz.func132, Tryz.ntmps132
          go_wp2_with (go_at_call 152; refine (isTextOfVal_any _ _ hs).mono ?_; rintro e w' ⟨rfl, rfl⟩)
          go_region_with (go_at_call 181; refine (asValText_any _ _).mono ?_; rintro e w' ⟨rfl, hb⟩; obtain ⟨hc, hf⟩ := bcell hb)
          all_goals go_wp2
          all_goals go_ret
          all_goals exact ⟨rfl, below_box hb⟩
        · rw [spokV_no (by rw [valB_text, ht]; simpa using hN)]
          have hn0 : ((0 : Int) == N) = false := by simp; omega
          clear hN
          go_enter Tryz.func132, Tryz.ntmps132
          go_wp2_with (go_at_call 152; refine (isTextOfVal_any _ _ hs).mono ?_; rintro e w' ⟨rfl, rfl⟩)
          go_region_with (go_at_call 181; refine (asValText_any _ _).mono ?_; rintro e w' ⟨rfl, hb⟩; obtain ⟨hc, hf⟩ := bcell hb)
          all_goals go_wp2
          all_goals go_ret
          all_goals exact ⟨rfl, below_box hb⟩
    · rw [spokV_no (valB_none N S hK hK2)]
      have hk2 : (K == 2) = false := by simpa using hK2
      clear hK hK2
      go_enter Tryz.func132, Tryz.ntmps132
      go_wp2
      go_quiet (fail)
      go_wp2
      go_ret
      exact ⟨rfl, below_boxN _ _ _⟩

theorem spokV_nil (K N : Int) (S : ByteArray) : (valB K N S = true ∧ ∃ t v, spokV K N S = .iface t v) ∨ (valB K N S = false ∧ spokV K N S = .nilIface) := by
  cases h : valB K N S
  · exact .inr ⟨rfl, spokV_no h⟩
  · left
    refine ⟨rfl, ?_⟩
    unfold spokV
    rw [h]
    by_cases hk : K = 1
    · exact ⟨_, _, by rw [if_pos rfl, if_pos hk]⟩
    · exact ⟨_, _, by rw [if_pos rfl, if_neg hk]⟩

set_option maxHeartbeats 1600000 in
theorem implValOk_any (K N : Int) (S : ByteArray) (w : World) (hs : S.size ≤ maxLen) :
    Calls Tryz.prog 130 #[.agg #[.int .i64 K, .int .i64 N, .string S]] w fun e w' =>
      e = .returned (.bool (valB K N S)) ∧ Below w.heap.size w w' := by
  go_enter Tryz.func130, Tryz.ntmps130
  go_wp2_with fail
  refine (spokenOf_any K N S _ hs).mono ?_
  rintro e w1 ⟨rfl, hb⟩
  have hb1 : Below w.heap.size w w1 := ((Below.refl w.heap.size w).alloc (Nat.le_refl _) _).trans (hb.mono (by simp))
  clear hb
  rcases spokV_nil K N S with ⟨h1, t, v, h2⟩ | ⟨h1, h2⟩
  · rw [h2]
    have H1 := hide h1
    clear h1 h2
    go_wp2
    go_ret
    exact ⟨ret_bool H1.out.symm, hb1⟩
  · rw [h2]
    have H1 := hide h1
    clear h1 h2
    go_wp2
    go_ret
    exact ⟨ret_bool H1.out.symm, hb1⟩

set_option maxHeartbeats 1600000 in
theorem specValOk_any (K N : Int) (S : ByteArray) (w : World) (hs : S.size ≤ maxLen) :
    Calls Tryz.prog 139 #[.agg #[.int .i64 K, .int .i64 N, .string S]] w fun e w' =>
      e = .returned (.bool (valB K N S)) ∧ w.grownBy w' none := by
  by_cases hK : K = 1
  · subst hK
    cases hi : inB N (-1000000000) 1000000000
    · have HV : Hid (valB 1 N S = false) := by unfold Hid valB; rw [hi]; simp
      go_enter Tryz.func139, Tryz.ntmps139
      go_wp2_with (go_at_call 33; refine (l1In_any _ _ _ _).mono ?_; rintro e w' ⟨rfl, rfl⟩)
      go_ret
      exact ⟨ret_bool HV.out.symm, World.grownBy_alloc _ _ _⟩
    · by_cases hS : S.size = 0
      · obtain rfl := empty_of_size hS
        have HV : Hid (valB 1 N ⟨#[]⟩ = true) := by unfold Hid valB; rw [hi]; rfl
        clear hS
        go_enter Tryz.func139, Tryz.ntmps139
        go_wp2_with (go_at_call 33; refine (l1In_any _ _ _ _).mono ?_; rintro e w' ⟨rfl, rfl⟩)
        go_ret
        exact ⟨ret_bool HV.out.symm, World.grownBy_alloc _ _ _⟩
      · have HV : Hid (valB 1 N S = false) := by unfold Hid valB; rw [hi]; simpa using hS
        have hE := isEmpty_false hS
        clear hS
        go_enter Tryz.func139, Tryz.ntmps139
        go_wp2_with (go_at_call 33; refine (l1In_any _ _ _ _).mono ?_; rintro e w' ⟨rfl, rfl⟩)
        go_ret
        exact ⟨ret_bool HV.out.symm, World.grownBy_alloc _ _ _⟩
  · have hk1 : (K == 1) = false := by simpa using hK
    by_cases hK2 : K = 2
    · subst hK2
      clear hk1 hK
      have HV := hide (valB_text N S)
      cases ht : textB S
      · rw [ht] at HV
        go_enter Tryz.func139, Tryz.ntmps139
        go_wp2_with (go_at_call 157; refine (l2Plain_any _ _ hs).mono ?_; rintro e w' ⟨rfl, rfl⟩)
        go_ret
        exact ⟨ret_bool HV.out.symm, World.grownBy_alloc _ _ _⟩
      · rw [ht] at HV
        go_enter Tryz.func139, Tryz.ntmps139
        go_wp2_with (go_at_call 157; refine (l2Plain_any _ _ hs).mono ?_; rintro e w' ⟨rfl, rfl⟩)
        go_ret
        exact ⟨ret_bool HV.out.symm, World.grownBy_alloc _ _ _⟩
    · have HV := hide (valB_none N S hK hK2)
      have hk2 : (K == 2) = false := by simpa using hK2
      clear hK hK2
      go_enter Tryz.func139, Tryz.ntmps139
      go_wp2
      go_ret
      exact ⟨ret_bool HV.out.symm, World.grownBy_alloc _ _ _⟩
end Go.Proofs.YtaflokfgbmlmaacGreatDoor
/-
  What the functions on an argument's rightness answer: argB, the tested one and the model alike.
-/
namespace Go.Proofs.YtaflokfgbmlmaacGreatDoor
open Go.RowKit
set_option linter.unusedVariables false
set_option maxRecDepth 100000

def zV : V3 := ⟨0, 0, ⟨#[]⟩⟩
/-- is an argument right? -/
def argB (K : Int) (S : ByteArray) (V : V3) : Bool :=
  if K = 1 then varB S && decide (V = zV) else if K = 2 then valB V.K V.N V.S && decide (S.size = 0) else if K = 3 then decide (S.size = 0) && decide (V = zV) else false
def A5.ok (x : A5) : Bool := argB x.K x.S x.V

theorem eqVs (v u : V3) (w : World) (d : Nat) : (Op.equalIn (d + 3) 52 (.agg #[.int .i64 v.K, .int .i64 v.N, .string v.S]) (.agg #[.int .i64 u.K, .int .i64 u.N, .string u.S])).run Tryz.prog w = .ok (decide (v = u)) w := by
  rcases v3_cases v u with rfl | ⟨hne, hv⟩
  · have k1 : (v.K == v.K) = true := by simp
    have k2 : (v.N == v.N) = true := by simp
    have k3 : (v.S.toList == v.S.toList) = true := by simp
    rw [decide_eq_true rfl]
    go_simp
  · rw [decide_eq_false hne]
    clear hne
    rcases hv with k1 | ⟨k1, k2⟩ | ⟨k1, k2, k3⟩ <;> go_simp
theorem eqA (K K' : Int) (S S' : ByteArray) (v u : V3) (w : World) (d : Nat) : (Op.equalIn (d + 5) 54 (.agg #[.int .i64 K, .string S, .int .i64 v.K, .int .i64 v.N, .string v.S]) (.agg #[.int .i64 K', .string S', .int .i64 u.K, .int .i64 u.N, .string u.S])).run Tryz.prog w = .ok (decide (K = K') && decide (S = S') && decide (v = u)) w := by
  have hv := fun w => eqVs v u w (d + 1)
  by_cases h1 : K = K'
  · subst h1
    have k1 : (K == K) = true := by simp
    by_cases h2 : S = S'
    · subst h2
      have k2 : (S.toList == S.toList) = true := by simp
      simp only [decide_true, Bool.true_and]
      generalize decide (v = u) = r at hv ⊢
      cases r <;> go_simp
    · have k2 : (S.toList == S'.toList) = false := by
        simp only [beq_eq_false_iff_ne, ne_eq]
        exact fun e => h2 (toList_inj e)
      simp only [decide_true, decide_eq_false h2, Bool.and_false, Bool.false_and]
      clear h2
      go_simp
  · have k1 : (K == K') = false := by simpa using h1
    simp only [decide_eq_false h1, Bool.false_and]
    clear h1
    go_simp
theorem eqA9 (K K' : Int) (S S' : ByteArray) (VK VN : Int) (VS : ByteArray) (UK UN : Int) (US : ByteArray) (b : Bool) (hb : (decide (K = K') && decide (S = S') && decide ((⟨VK, VN, VS⟩ : V3) = ⟨UK, UN, US⟩)) = b) (w : World) :
    (Op.equalIn 9999 54 (.agg #[.int .i64 K, .string S, .int .i64 VK, .int .i64 VN, .string VS]) (.agg #[.int .i64 K', .string S', .int .i64 UK, .int .i64 UN, .string US])).run Tryz.prog w = .ok b w := by
  rw [← hb]; exact eqA K K' S S' ⟨VK, VN, VS⟩ ⟨UK, UN, US⟩ w 9994
theorem eqV9 (VK VN : Int) (VS : ByteArray) (UK UN : Int) (US : ByteArray) (b : Bool) (hb : decide ((⟨VK, VN, VS⟩ : V3) = ⟨UK, UN, US⟩) = b) (w : World) :
    (Op.equalIn 9999 52 (.agg #[.int .i64 VK, .int .i64 VN, .string VS]) (.agg #[.int .i64 UK, .int .i64 UN, .string US])).run Tryz.prog w = .ok b w := by
  rw [← hb]; exact eqVs ⟨VK, VN, VS⟩ ⟨UK, UN, US⟩ w 9996
theorem below_gn' {w w' : World} (h : w.grownBy w' none) : Below w.heap.size w w' := (Below.refl _ _).grown h (Nat.le_refl _) (fun k hk => by cases hk)
theorem cell_gn {w w' : World} (h : w.grownBy w' none) {a : Addr} {v : Value} (hc : w.cell? a = some v) : w'.cell? a = some v := h.cell hc (by simp)
theorem dec_empty (S : ByteArray) : decide (S = (⟨#[]⟩ : ByteArray)) = decide (S.size = 0) := by
  rw [decide_eq_decide]
  exact ⟨fun h => by rw [h]; rfl, empty_of_size⟩
/-- a value is none, or it parts from none at its kind, its number or its text -/
theorem v_cases (VK VN : Int) (VS : ByteArray) : (VK = 0 ∧ VN = 0 ∧ VS = ⟨#[]⟩) ∨ (VK == 0) = false ∨ (VK = 0 ∧ (VN == 0) = false) ∨ (VK = 0 ∧ VN = 0 ∧ VS.size ≠ 0) := by
  by_cases h1 : VK = 0
  · by_cases h2 : VN = 0
    · by_cases h3 : VS.size = 0
      · exact .inl ⟨h1, h2, empty_of_size h3⟩
      · exact .inr (.inr (.inr ⟨h1, h2, h3⟩))
    · exact .inr (.inr (.inl ⟨h1, by simpa using h2⟩))
  · exact .inr (.inl (by simpa using h1))
theorem argB1 (S : ByteArray) (V : V3) : argB 1 S V = (varB S && decide (V = zV)) := by simp [argB]
theorem argB2 (S : ByteArray) (V : V3) : argB 2 S V = (valB V.K V.N V.S && decide (S.size = 0)) := by simp [argB]
theorem argB3 (S : ByteArray) (V : V3) : argB 3 S V = (decide (S.size = 0) && decide (V = zV)) := by simp [argB]
theorem argB_no {K : Int} (S : ByteArray) (V : V3) (h1 : K ≠ 1) (h2 : K ≠ 2) (h3 : K ≠ 3) : argB K S V = false := by simp [argB, h1, h2, h3]
theorem zV_K {VK VN : Int} {VS : ByteArray} (h : (VK == 0) = false) : decide ((⟨VK, VN, VS⟩ : V3) = zV) = false := by
  simp only [zV, V3.mk.injEq, decide_eq_false_iff_not]; intro e; simp [e.1] at h
theorem zV_N {VN : Int} {VS : ByteArray} (h : (VN == 0) = false) : decide ((⟨0, VN, VS⟩ : V3) = zV) = false := by
  simp only [zV, V3.mk.injEq, decide_eq_false_iff_not]; intro e; simp [e.2.1] at h
theorem zV_S {VS : ByteArray} (h : VS.size ≠ 0) : decide ((⟨0, 0, VS⟩ : V3) = zV) = false := by
  simp only [zV, V3.mk.injEq, decide_eq_false_iff_not]; intro e; rw [e.2.2] at h; exact h rfl
theorem zV_z : decide ((⟨0, 0, ⟨#[]⟩⟩ : V3) = zV) = true := by simp [zV]

set_option maxHeartbeats 3200000 in
theorem implArgOk_any (K : Int) (S : ByteArray) (VK VN : Int) (VS : ByteArray) (w : World) (hs : S.size ≤ maxLen) (hv : VS.size ≤ maxLen) :
    Calls Tryz.prog 94 #[.agg #[.int .i64 K, .string S, .int .i64 VK, .int .i64 VN, .string VS]] w fun e w' => e = .returned (.bool (argB K S ⟨VK, VN, VS⟩)) ∧ Below w.heap.size w w' := by
  have b0 := below_al w (.cells #[.int .i64 K, .string S, .int .i64 VK, .int .i64 VN, .string VS] 54)
  have e1 : (S.toList == S.toList) = true := by simp
  have e2 : (VS.toList == VS.toList) = true := by simp
  have e3 : (VK == VK) = true := by simp
  have e4 : (VN == VN) = true := by simp
  by_cases h1 : K = 1
  · subst h1
    rcases v_cases VK VN VS with ⟨rfl, rfl, rfl⟩ | kz | ⟨rfl, kz⟩ | ⟨rfl, rfl, kz⟩
    · have HR := hide (argB1 S ⟨0, 0, ⟨#[]⟩⟩)
      rw [zV_z] at HR
      go_enter Tryz.func94, Tryz.ntmps94
      go_wp2_with (go_at_call 129; refine (isVar_any _ _ hs).mono ?_; rintro e w' ⟨rfl, rfl⟩)
      go_ret
      exact ⟨ret_bool (by rw [HR.out]; simp), b0⟩
    · have HR := hide (argB1 S ⟨VK, VN, VS⟩)
      rw [(zV_K kz)] at HR
      go_enter Tryz.func94, Tryz.ntmps94
      go_wp2
      go_ret
      exact ⟨ret_bool (by rw [HR.out]; simp), b0⟩
    · have HR := hide (argB1 S ⟨0, VN, VS⟩)
      rw [(zV_N kz)] at HR
      go_enter Tryz.func94, Tryz.ntmps94
      go_wp2
      go_ret
      exact ⟨ret_bool (by rw [HR.out]; simp), b0⟩
    · have HR := hide (argB1 S ⟨0, 0, VS⟩)
      rw [(zV_S kz)] at HR
      have ke := isEmpty_false kz
      clear kz
      go_enter Tryz.func94, Tryz.ntmps94
      go_wp2
      go_ret
      exact ⟨ret_bool (by rw [HR.out]; simp), b0⟩
  · have k1 : (K == 1) = false := by simpa using h1
    by_cases h2 : K = 2
    · subst h2
      by_cases hz : S.size = 0
      · obtain rfl := empty_of_size hz
        have HR := hide (argB2 ⟨#[]⟩ ⟨VK, VN, VS⟩)
        go_enter Tryz.func94, Tryz.ntmps94
        go_wp2_with fail
        refine (implValOk_any _ _ _ _ hv).mono ?_
        rintro e w1 ⟨rfl, hb⟩
        have B1 : Below w.heap.size w w1 := b0.trans (hb.mono b0.size)
        go_wp2
        go_ret
        exact ⟨ret_bool (by rw [HR.out, decide_eq_true (show (⟨#[]⟩ : ByteArray).size = 0 from rfl)]; simp), B1⟩
      · have HR := hide (argB2 S ⟨VK, VN, VS⟩)
        rw [decide_eq_false hz] at HR
        have hE := isEmpty_false hz
        clear hz
        go_enter Tryz.func94, Tryz.ntmps94
        go_wp2
        go_ret
        exact ⟨ret_bool (by rw [HR.out]; simp), b0⟩
    · have k2 : (K == 2) = false := by simpa using h2
      by_cases h3 : K = 3
      · subst h3
        clear h1 h2 k1 k2
        by_cases hz : S.size = 0
        · obtain rfl := empty_of_size hz
          rcases v_cases VK VN VS with ⟨rfl, rfl, rfl⟩ | kz | ⟨rfl, kz⟩ | ⟨rfl, rfl, kz⟩
          · have HR := hide (argB3 ⟨#[]⟩ ⟨0, 0, ⟨#[]⟩⟩)
            rw [zV_z] at HR
            go_enter Tryz.func94, Tryz.ntmps94
            go_wp2
            go_ret
            exact ⟨ret_bool (by rw [HR.out, decide_eq_true (show (⟨#[]⟩ : ByteArray).size = 0 from rfl)]; rfl), b0⟩
          · have HR := hide (argB3 ⟨#[]⟩ ⟨VK, VN, VS⟩)
            rw [(zV_K kz)] at HR
            go_enter Tryz.func94, Tryz.ntmps94
            go_wp2
            go_ret
            exact ⟨ret_bool (by rw [HR.out, decide_eq_true (show (⟨#[]⟩ : ByteArray).size = 0 from rfl)]; rfl), b0⟩
          · have HR := hide (argB3 ⟨#[]⟩ ⟨0, VN, VS⟩)
            rw [(zV_N kz)] at HR
            go_enter Tryz.func94, Tryz.ntmps94
            go_wp2
            go_ret
            exact ⟨ret_bool (by rw [HR.out, decide_eq_true (show (⟨#[]⟩ : ByteArray).size = 0 from rfl)]; rfl), b0⟩
          · have HR := hide (argB3 ⟨#[]⟩ ⟨0, 0, VS⟩)
            rw [(zV_S kz)] at HR
            have ke := isEmpty_false kz
            clear kz
            go_enter Tryz.func94, Tryz.ntmps94
            go_wp2
            go_ret
            exact ⟨ret_bool (by rw [HR.out, decide_eq_true (show (⟨#[]⟩ : ByteArray).size = 0 from rfl)]; rfl), b0⟩
        · have HR := hide (argB3 S ⟨VK, VN, VS⟩)
          rw [decide_eq_false hz] at HR
          have hE := isEmpty_false hz
          clear hz
          go_enter Tryz.func94, Tryz.ntmps94
          go_wp2
          go_ret
          exact ⟨ret_bool (by rw [HR.out]; simp), b0⟩
      · have HR := hide (argB_no S ⟨VK, VN, VS⟩ h1 h2 h3)
        have k3 : (K == 3) = false := by simpa using h3
        clear h1 h2 h3
        go_enter Tryz.func94, Tryz.ntmps94
        go_wp2
        go_ret
        exact ⟨ret_bool HR.out.symm, b0⟩

set_option maxHeartbeats 3200000 in
theorem specArgOk_any (K : Int) (S : ByteArray) (VK VN : Int) (VS : ByteArray) (w : World) (hs : S.size ≤ maxLen) (hv : VS.size ≤ maxLen) :
    Calls Tryz.prog 112 #[.agg #[.int .i64 K, .string S, .int .i64 VK, .int .i64 VN, .string VS]] w fun e w' => e = .returned (.bool (argB K S ⟨VK, VN, VS⟩)) ∧ Below w.heap.size w w' := by
  have b0 := below_al w (.cells #[.int .i64 K, .string S, .int .i64 VK, .int .i64 VN, .string VS] 54)
  have e1 : (S.toList == S.toList) = true := by simp
  have e2 : (VS.toList == VS.toList) = true := by simp
  have e3 : (VK == VK) = true := by simp
  have e4 : (VN == VN) = true := by simp
  by_cases h1 : K = 1
  · subst h1
    rcases v_cases VK VN VS with ⟨rfl, rfl, rfl⟩ | kz | ⟨rfl, kz⟩ | ⟨rfl, rfl, kz⟩
    · have HR := hide (argB1 S ⟨0, 0, ⟨#[]⟩⟩)
      rw [zV_z] at HR
      cases hb : varB S
      all_goals
        go_enter Tryz.func112, Tryz.ntmps112
        go_wp2_with (go_at_call 138; refine (l5VarOk_any _ _ hs).mono ?_; rintro e w' ⟨rfl, rfl⟩; rw [hb])
        go_ret
        exact ⟨ret_bool (by rw [HR.out, hb]; rfl), b0⟩
    · have HR := hide (argB1 S ⟨VK, VN, VS⟩)
      rw [(zV_K kz)] at HR
      cases hb : varB S
      all_goals
        go_enter Tryz.func112, Tryz.ntmps112
        go_wp2_with (go_at_call 138; refine (l5VarOk_any _ _ hs).mono ?_; rintro e w' ⟨rfl, rfl⟩; rw [hb])
        go_ret
        exact ⟨ret_bool (by rw [HR.out, hb]; rfl), b0⟩
    · have HR := hide (argB1 S ⟨0, VN, VS⟩)
      rw [(zV_N kz)] at HR
      cases hb : varB S
      all_goals
        go_enter Tryz.func112, Tryz.ntmps112
        go_wp2_with (go_at_call 138; refine (l5VarOk_any _ _ hs).mono ?_; rintro e w' ⟨rfl, rfl⟩; rw [hb])
        go_ret
        exact ⟨ret_bool (by rw [HR.out, hb]; rfl), b0⟩
    · have HR := hide (argB1 S ⟨0, 0, VS⟩)
      rw [(zV_S kz)] at HR
      have ke := isEmpty_false kz
      clear kz
      cases hb : varB S
      all_goals
        go_enter Tryz.func112, Tryz.ntmps112
        go_wp2_with (go_at_call 138; refine (l5VarOk_any _ _ hs).mono ?_; rintro e w' ⟨rfl, rfl⟩; rw [hb])
        go_ret
        exact ⟨ret_bool (by rw [HR.out, hb]; rfl), b0⟩
  · have k1 : (K == 1) = false := by simpa using h1
    by_cases h2 : K = 2
    · subst h2
      have HR := hide (argB2 S ⟨VK, VN, VS⟩)
      obtain ⟨s0, hs0⟩ : ∃ s0, s0 = decide (S.size = 0) := ⟨_, rfl⟩
      have hE : S.toList.isEmpty = s0 := by
        rw [hs0]
        by_cases h : S.size = 0
        · rw [decide_eq_true h, empty_of_size h, ByteArray.toList_eq]; rfl
        · rw [isEmpty_false h, decide_eq_false h]
      rw [← hs0] at HR
      clear hs0 h1 k1
      rcases v_cases VK VN VS with ⟨rfl, rfl, rfl⟩ | kz | ⟨rfl, kz⟩ | ⟨rfl, rfl, kz⟩
      · cases hb : valB 0 0 ⟨#[]⟩
        all_goals
          go_enter Tryz.func112, Tryz.ntmps112
          go_wp2_with fail
          refine (specValOk_any _ _ _ _ hv).mono ?_
          rintro e w1 ⟨rfl, g1⟩
          rw [hb]
          have B1 : Below w.heap.size w w1 := b0.trans ((below_gn' g1).mono b0.size)
          have c1 := cell_gn g1 (boxk_cell (boxk_new w #[.int .i64 2, .string S, .int .i64 0, .int .i64 0, .string ⟨#[]⟩] 54) 1 _ rfl)
          go_wp2
          go_ret
          exact ⟨ret_bool (by rw [HR.out]; simp only [hb]; rfl), B1⟩
      · cases hb : valB VK VN VS
        all_goals
          go_enter Tryz.func112, Tryz.ntmps112
          go_wp2_with fail
          refine (specValOk_any _ _ _ _ hv).mono ?_
          rintro e w1 ⟨rfl, g1⟩
          rw [hb]
          have B1 : Below w.heap.size w w1 := b0.trans ((below_gn' g1).mono b0.size)
          have c1 := cell_gn g1 (boxk_cell (boxk_new w #[.int .i64 2, .string S, .int .i64 VK, .int .i64 VN, .string VS] 54) 1 _ rfl)
          go_wp2
          go_ret
          exact ⟨ret_bool (by rw [HR.out]; simp only [hb]; rfl), B1⟩
      · cases hb : valB 0 VN VS
        all_goals
          go_enter Tryz.func112, Tryz.ntmps112
          go_wp2_with fail
          refine (specValOk_any _ _ _ _ hv).mono ?_
          rintro e w1 ⟨rfl, g1⟩
          rw [hb]
          have B1 : Below w.heap.size w w1 := b0.trans ((below_gn' g1).mono b0.size)
          have c1 := cell_gn g1 (boxk_cell (boxk_new w #[.int .i64 2, .string S, .int .i64 0, .int .i64 VN, .string VS] 54) 1 _ rfl)
          go_wp2
          go_ret
          exact ⟨ret_bool (by rw [HR.out]; simp only [hb]; rfl), B1⟩
      · cases hb : valB 0 0 VS
        all_goals
          have ke := isEmpty_false kz
          go_enter Tryz.func112, Tryz.ntmps112
          go_wp2_with fail
          refine (specValOk_any _ _ _ _ hv).mono ?_
          rintro e w1 ⟨rfl, g1⟩
          rw [hb]
          have B1 : Below w.heap.size w w1 := b0.trans ((below_gn' g1).mono b0.size)
          have c1 := cell_gn g1 (boxk_cell (boxk_new w #[.int .i64 2, .string S, .int .i64 0, .int .i64 0, .string VS] 54) 1 _ rfl)
          go_wp2
          go_ret
          exact ⟨ret_bool (by rw [HR.out]; simp only [hb]; rfl), B1⟩
    · have k2 : (K == 2) = false := by simpa using h2
      by_cases h3 : K = 3
      · subst h3
        have HR := hide (argB3 S ⟨VK, VN, VS⟩)
        clear h1 h2 k1 k2
        by_cases hz : S.size = 0
        · obtain rfl := empty_of_size hz
          rcases v_cases VK VN VS with ⟨rfl, rfl, rfl⟩ | kz | ⟨rfl, kz⟩ | ⟨rfl, rfl, kz⟩
          · rw [zV_z] at HR
            go_enter Tryz.func112, Tryz.ntmps112
            go_wp2
            go_ret
            exact ⟨ret_bool (by rw [HR.out]; rfl), b0⟩
          · rw [(zV_K kz)] at HR
            go_enter Tryz.func112, Tryz.ntmps112
            go_wp2
            go_ret
            exact ⟨ret_bool (by rw [HR.out]; rfl), b0⟩
          · rw [(zV_N kz)] at HR
            go_enter Tryz.func112, Tryz.ntmps112
            go_wp2
            go_ret
            exact ⟨ret_bool (by rw [HR.out]; rfl), b0⟩
          · rw [(zV_S kz)] at HR
            have ke := isEmpty_false kz
            clear kz
            go_enter Tryz.func112, Tryz.ntmps112
            go_wp2
            go_ret
            exact ⟨ret_bool (by rw [HR.out]; rfl), b0⟩
        · rw [decide_eq_false hz] at HR
          have hE := isEmpty_false hz
          clear hz
          rcases v_cases VK VN VS with ⟨rfl, rfl, rfl⟩ | kz | ⟨rfl, kz⟩ | ⟨rfl, rfl, kz⟩
          · rw [zV_z] at HR
            go_enter Tryz.func112, Tryz.ntmps112
            go_wp2
            go_ret
            exact ⟨ret_bool (by rw [HR.out]; rfl), b0⟩
          · rw [(zV_K kz)] at HR
            go_enter Tryz.func112, Tryz.ntmps112
            go_wp2
            go_ret
            exact ⟨ret_bool (by rw [HR.out]; rfl), b0⟩
          · rw [(zV_N kz)] at HR
            go_enter Tryz.func112, Tryz.ntmps112
            go_wp2
            go_ret
            exact ⟨ret_bool (by rw [HR.out]; rfl), b0⟩
          · rw [(zV_S kz)] at HR
            have ke := isEmpty_false kz
            clear kz
            go_enter Tryz.func112, Tryz.ntmps112
            go_wp2
            go_ret
            exact ⟨ret_bool (by rw [HR.out]; rfl), b0⟩
      · have HR := hide (argB_no S ⟨VK, VN, VS⟩ h1 h2 h3)
        have k3 : (K == 3) = false := by simpa using h3
        clear h1 h2 h3
        rcases v_cases VK VN VS with ⟨rfl, rfl, rfl⟩ | kz | ⟨rfl, kz⟩ | ⟨rfl, rfl, kz⟩
        · go_enter Tryz.func112, Tryz.ntmps112
          go_wp2
          go_ret
          exact ⟨ret_bool HR.out.symm, b0⟩
        · go_enter Tryz.func112, Tryz.ntmps112
          go_wp2
          go_ret
          exact ⟨ret_bool HR.out.symm, b0⟩
        · go_enter Tryz.func112, Tryz.ntmps112
          go_wp2
          go_ret
          exact ⟨ret_bool HR.out.symm, b0⟩
        · have ke := isEmpty_false kz
          clear kz
          go_enter Tryz.func112, Tryz.ntmps112
          go_wp2
          go_ret
          exact ⟨ret_bool HR.out.symm, b0⟩
end Go.Proofs.YtaflokfgbmlmaacGreatDoor
/-
  What the functions on a pattern's rightness answer: patB, the tested one and the model alike.
-/
namespace Go.Proofs.YtaflokfgbmlmaacGreatDoor
open Go.RowKit
set_option linter.unusedVariables false

def patB (kd : ByteArray) (L : List A5) : Bool := nameB kd && decide (L.length ≤ 5) && L.all A5.ok
theorem allA_no {L : List A5} {k : Nat} (hk : k < L.length) (h : argB (eAt L k).K (eAt L k).S (eAt L k).V = false) : L.all A5.ok = false := by
  rw [Bool.eq_false_iff]
  intro ha
  have := List.all_eq_true.1 ha L[k] (List.getElem_mem hk)
  rw [← eAt_in hk] at this
  unfold A5.ok at this
  rw [h] at this; cases this
theorem allA_yes {L : List A5} (h : ∀ k, k < L.length → argB (eAt L k).K (eAt L k).S (eAt L k).V = true) : L.all A5.ok = true := by
  rw [List.all_eq_true]
  intro v hv
  obtain ⟨k, hk, rfl⟩ := List.getElem_of_mem hv
  rw [← eAt_in hk]; exact h k hk

set_option maxRecDepth 100000 in
set_option maxHeartbeats 1600000 in
theorem specPatOk_any (kd : ByteArray) (a : Option Addr) (cap : Nat) (L : List A5) (nt : Bool) (w : World) (hkd : kd.size ≤ maxLen) (hr : RdArg w a L) (hs : ∀ x ∈ L, x.fits) (hm : L.length ≤ 1048580) :
    Calls Tryz.prog 71 #[.agg #[.string kd, .slice a L.length cap, .bool nt]] w fun e w' =>
      e = .returned (.bool (patB kd L)) ∧ Below w.heap.size w w' := by
  have b0 := below_al w (.cells #[.string kd, .slice a L.length cap, .bool nt] 48)
  have hP := boxk_new w #[.string kd, .slice a L.length cap, .bool nt] 48
  have HF : Hid (patB kd L = (nameB kd && decide (L.length ≤ 5) && L.all A5.ok)) := rfl
  obtain ⟨n, hN⟩ : ∃ n, n = L.length := ⟨_, rfl⟩
  rw [← hN] at hm b0 hP HF ⊢
  have HN := hide hN
  have HS := hide hs
  have HP := hide hP
  clear hN hs hP
  go_enter Tryz.func71, Tryz.ntmps71
  go_wp2
  go_loopw [3] (fun i wr => ∃ (k : Nat), k ≤ n ∧ i = .int .i64 k ∧ (∀ j, j < k → argB (eAt L j).K (eAt L j).S (eAt L j).V = true) ∧ Below (w.alloc (.cells #[.string kd, .slice a n cap, .bool nt] 48)).heap.size (w.alloc (.cells #[.string kd, .slice a n cap, .bool nt] 48)) wr) (fun i _ => n - (intOf i).toNat)
  case atStart => exact ⟨0, Nat.zero_le _, rfl, fun j hj => absurd hj (Nat.not_lt_zero _), Below.refl _ _⟩
  case round =>
    obtain ⟨k, hk, rfl, hall, hbel⟩ := hrel
    have HA := hide hall
    clear hall
    have HP2 := hide (box_below HP.out hbel (by simp))
    have p0 := boxk_cell HP2.out 0 _ rfl
    have p1 := boxk_cell HP2.out 1 _ rfl
    by_cases hlt : k < n
    · obtain ⟨b, off, hab, hbw, hc⟩ := RdArg.cells (hr.below b0) (by rw [← HN.out]; omega)
      obtain ⟨c0, c1, c2, c3, c4⟩ := hc k (by rw [← HN.out]; exact hlt)
      clear hc
      subst hab
      rw [← hbel.cell (p := ⟨b, off + k * 5, none⟩) hbw] at c0
      rw [← hbel.cell (p := ⟨b, off + k * 5 + 1, none⟩) hbw] at c1
      rw [← hbel.cell (p := ⟨b, off + k * 5 + 2, none⟩) hbw] at c2
      rw [← hbel.cell (p := ⟨b, off + k * 5 + 3, none⟩) hbw] at c3
      rw [← hbel.cell (p := ⟨b, off + k * 5 + 4, none⟩) hbw] at c4
      have hS : (eAt L k).fits := by rw [eAt_in (by rw [← HN.out]; exact hlt)]; exact HS.out _ (List.getElem_mem _)
      obtain ⟨hS0, hS1⟩ := hS
      go_wp2_with fail
      refine (specArgOk_any _ _ _ _ _ _ hS0 hS1).mono ?_
      rintro e w2 ⟨rfl, hb2⟩
      have hbel2 := hbel.trans (hb2.mono hbel.size)
      clear hb2 hS0 hS1 c0 c1 c2 c3 c4 hbel p0 p1 HP2
      have hBe := b0.trans (hbel2.mono b0.size)
      cases hv : argB (eAt L k).K (eAt L k).S (eAt L k).V
      · have HV := hide (allA_no (by rw [← HN.out]; exact hlt) hv)
        clear hv
        go_wp2
        go_ret
        exact ⟨ret_bool (by rw [HF.out, HV.out, Bool.and_false]), hBe⟩
      · have HV := hide hv
        clear hv
        go_wp2
        go_roundw
        case rel => exact ⟨k + 1, by omega, by go_num, fun j hj => by
            by_cases hjk : j = k
            · rw [hjk]; exact HV.out
            · exact HA.out j (by omega), hbel2⟩
        case measure => simp [intOf]; omega
    · have HV : Hid (L.all A5.ok = true) := allA_yes (fun j hj => HA.out j (by rw [← HN.out] at hj; omega))
      have hBe := b0.trans (hbel.mono b0.size)
      have HD : Hid (decide ((n : Int) ≤ 5) = decide (n ≤ 5)) := by unfold Hid; exact decide_eq_decide.2 (by omega)
      rw [HV.out, Bool.and_true] at HF
      clear HP2
      cases hn : nameB kd
      · rw [hn] at HF
        go_wp2_with (go_at_call 32; refine (specNameOk_any _ _ hkd).mono ?_; rintro e w' ⟨rfl, rfl⟩; rw [hn])
        go_ret
        exact ⟨ret_bool HF.out.symm, hBe⟩
      · rw [hn] at HF
        go_wp2_with (go_at_call 32; refine (specNameOk_any _ _ hkd).mono ?_; rintro e w' ⟨rfl, rfl⟩; rw [hn])
        go_ret
        exact ⟨ret_bool (by rw [HF.out, Bool.true_and]; exact HD.out), hBe⟩

set_option maxRecDepth 100000 in
set_option maxHeartbeats 1600000 in
theorem listA_any (a : Option Addr) (cap : Nat) (L : List A5) (w : World) (hr : RdArg w a L) (hs : ∀ x ∈ L, x.fits) (hm : L.length ≤ 1048580) :
    Calls Tryz.prog 128 #[.slice a L.length cap, .int .i64 0, .int .i64 5, .func (.func 94) #[] #[]] w fun e w' =>
      e = .returned (.bool (decide (L.length ≤ 5) && L.all A5.ok)) ∧ Below w.heap.size w w' := by
  obtain ⟨n, hN⟩ : ∃ n, n = L.length := ⟨_, rfl⟩
  rw [← hN] at hm ⊢
  have HN := hide hN
  have HS := hide hs
  clear hN hs
  by_cases h5 : n ≤ 5
  · have HF : Hid ((decide (n ≤ 5) && L.all A5.ok) = L.all A5.ok) := by unfold Hid; rw [decide_eq_true h5]; rfl
    go_enter Tryz.func128, Tryz.ntmps128
    go_wp2
    go_loopw [23] (fun i wr => ∃ (k : Nat), k ≤ n ∧ i = .int .i64 k ∧ (∀ j, j < k → argB (eAt L j).K (eAt L j).S (eAt L j).V = true) ∧ Below w.heap.size w wr) (fun i _ => n - (intOf i).toNat)
    case atStart => exact ⟨0, Nat.zero_le _, rfl, fun j hj => absurd hj (Nat.not_lt_zero _), Below.refl _ _⟩
    case round =>
      obtain ⟨k, hk, rfl, hall, hbel⟩ := hrel
      have HA := hide hall
      clear hall
      by_cases hlt : k < n
      · obtain ⟨b, off, hab, hbw, hc⟩ := RdArg.cells hr (by rw [← HN.out]; omega)
        obtain ⟨c0, c1, c2, c3, c4⟩ := hc k (by rw [← HN.out]; exact hlt)
        clear hc
        subst hab
        rw [← hbel.cell (p := ⟨b, off + k * 5, none⟩) hbw] at c0
        rw [← hbel.cell (p := ⟨b, off + k * 5 + 1, none⟩) hbw] at c1
        rw [← hbel.cell (p := ⟨b, off + k * 5 + 2, none⟩) hbw] at c2
        rw [← hbel.cell (p := ⟨b, off + k * 5 + 3, none⟩) hbw] at c3
        rw [← hbel.cell (p := ⟨b, off + k * 5 + 4, none⟩) hbw] at c4
        have hS : (eAt L k).fits := by rw [eAt_in (by rw [← HN.out]; exact hlt)]; exact HS.out _ (List.getElem_mem _)
        obtain ⟨hS0, hS1⟩ := hS
        have hbel1 := hbel.alloc hbel.size (.cells #[.int .i64 (eAt L k).K, .string (eAt L k).S, .int .i64 (eAt L k).V.K, .int .i64 (eAt L k).V.N, .string (eAt L k).V.S] 54)
        go_wp2_with fail
        refine (implArgOk_any _ _ _ _ _ _ hS0 hS1).mono ?_
        rintro e w2 ⟨rfl, hb2⟩
        have hbel2 : Below w.heap.size w w2 := hbel1.trans (hb2.mono hbel1.size)
        clear hb2 hS0 hS1 c0 c1 c2 c3 c4 hbel hbel1
        cases hv : argB (eAt L k).K (eAt L k).S (eAt L k).V
        · have HV := hide (allA_no (by rw [← HN.out]; exact hlt) hv)
          clear hv
          go_wp2
          go_ret
          exact ⟨ret_bool (by rw [HF.out, HV.out]), hbel2⟩
        · have HV := hide hv
          clear hv
          go_wp2
          go_roundw
          case rel => exact ⟨k + 1, by omega, by go_num, fun j hj => by
              by_cases hjk : j = k
              · rw [hjk]; exact HV.out
              · exact HA.out j (by omega), hbel2⟩
          case measure => simp [intOf]; omega
      · have HV : Hid (L.all A5.ok = true) := allA_yes (fun j hj => HA.out j (by rw [← HN.out] at hj; omega))
        go_wp2
        go_ret
        exact ⟨ret_bool (by rw [HF.out, HV.out]), hbel⟩
  · have HF : Hid ((decide (n ≤ 5) && L.all A5.ok) = false) := by unfold Hid; rw [decide_eq_false h5]; rfl
    have hn : (5 : Int) < (n : Int) := by omega
    go_enter Tryz.func128, Tryz.ntmps128
    go_wp2
    go_ret
    exact ⟨ret_bool HF.out.symm, Below.refl _ _⟩

set_option maxRecDepth 100000 in
set_option maxHeartbeats 1600000 in
theorem namedA_any (kd : ByteArray) (a : Option Addr) (cap : Nat) (L : List A5) (w : World) (hkd : kd.size ≤ maxLen) (hr : RdArg w a L) (hs : ∀ x ∈ L, x.fits) (hm : L.length ≤ 1048580) :
    Calls Tryz.prog 93 #[.string kd, .slice a L.length cap, .func (.func 94) #[] #[]] w fun e w' =>
      e = .returned (.bool (patB kd L)) ∧ Below w.heap.size w w' := by
  have HF : Hid (patB kd L = (nameB kd && (decide (L.length ≤ 5) && L.all A5.ok))) := by unfold Hid patB; rw [Bool.and_assoc]
  cases hn : nameB kd
  · rw [hn] at HF
    go_enter Tryz.func93, Tryz.ntmps93
    go_wp2_with (go_at_call 46; refine (implNameOk_any _ _ hkd).mono ?_; rintro e w' ⟨rfl, rfl⟩)
    go_ret
    exact ⟨ret_bool HF.out.symm, Below.refl _ _⟩
  · rw [hn] at HF
    go_enter Tryz.func93, Tryz.ntmps93
    go_wp2_with fail
    refine (implNameOk_any _ _ hkd).mono ?_
    rintro e w' ⟨rfl, rfl⟩
    go_wp2_with fail
    refine (listA_any a cap L _ hr hs hm).mono ?_
    rintro e w1 ⟨rfl, hb⟩
    generalize (decide (L.length ≤ 5) && L.all A5.ok) = r at HF ⊢
    go_wp2
    go_ret
    exact ⟨ret_bool (by rw [HF.out]; rfl), hb⟩

set_option maxRecDepth 100000 in
set_option maxHeartbeats 1600000 in
theorem implPatOk_any (kd : ByteArray) (a : Option Addr) (cap : Nat) (L : List A5) (nt : Bool) (w : World) (hkd : kd.size ≤ maxLen) (hr : RdArg w a L) (hs : ∀ x ∈ L, x.fits) (hm : L.length ≤ 1048580) :
    Calls Tryz.prog 54 #[.agg #[.string kd, .slice a L.length cap, .bool nt]] w fun e w' =>
      e = .returned (.bool (patB kd L)) ∧ Below w.heap.size w w' := by
  have b0 := below_al w (.cells #[.string kd, .slice a L.length cap, .bool nt] 48)
  go_enter Tryz.func54, Tryz.ntmps54
  go_wp2_with fail
  refine (namedA_any kd a cap L _ hkd (hr.below b0) hs hm).mono ?_
  rintro e w1 ⟨rfl, hb⟩
  have hB : Below w.heap.size w w1 := b0.trans (hb.mono b0.size)
  go_wp2
  go_ret
  exact ⟨rfl, hB⟩
end Go.Proofs.YtaflokfgbmlmaacGreatDoor
/-
  What the tested program's question on an argument that may have a value answers: mayB.
-/
namespace Go.Proofs.YtaflokfgbmlmaacGreatDoor
open Go.RowKit
set_option linter.unusedVariables false

/-- an argument that may have a value -/
def mayB (K : Int) (S : ByteArray) (V : V3) : Bool := argB K S V && !decide (K = 3)

set_option maxRecDepth 100000 in
set_option maxHeartbeats 800000 in
theorem mayHaveVal_any (K : Int) (S : ByteArray) (VK VN : Int) (VS : ByteArray) (w : World) (hs : S.size ≤ maxLen) (hv : VS.size ≤ maxLen) :
    Calls Tryz.prog 97 #[.agg #[.int .i64 K, .string S, .int .i64 VK, .int .i64 VN, .string VS]] w fun e w' => e = .returned (.bool (mayB K S ⟨VK, VN, VS⟩)) ∧ Below w.heap.size w w' := by
  have hX := boxk_new w #[.int .i64 K, .string S, .int .i64 VK, .int .i64 VN, .string VS] 54
  have b0 := below_al w (.cells #[.int .i64 K, .string S, .int .i64 VK, .int .i64 VN, .string VS] 54)
  go_enter Tryz.func97, Tryz.ntmps97
  go_wp2_with fail
  refine (implArgOk_any K S VK VN VS _ hs hv).mono ?_
  rintro e w1 ⟨rfl, hb⟩
  have HX := hide (box_below hX hb (by simp))
  have hB : Below w.heap.size w w1 := b0.trans (hb.mono b0.size)
  clear hb hX b0
  have c0 := boxk_cell HX.out 0 _ rfl
  have hM : mayB K S ⟨VK, VN, VS⟩ = (argB K S ⟨VK, VN, VS⟩ && !decide (K = 3)) := rfl
  have HM := hide hM
  clear hM
  generalize argB K S ⟨VK, VN, VS⟩ = bb at HM
  cases bb
  · go_wp2
    go_ret
    exact ⟨by rw [HM.out]; rfl, hB⟩
  · by_cases h3 : K = 3
    · subst h3
      go_wp2
      go_ret
      exact ⟨by rw [HM.out]; rfl, hB⟩
    · have HD : Hid (decide (K = 3) = false) := by unfold Hid; simpa using h3
      have k3 : (K != 3) = true := by simpa using h3
      go_wp2
      go_ret
      exact ⟨by rw [HM.out, HD.out]; rfl, hB⟩

end Go.Proofs.YtaflokfgbmlmaacGreatDoor
/-
  What signOf answers: a sign's text and its function, or none.
-/
namespace Go.Proofs.YtaflokfgbmlmaacGreatDoor
open Go.RowKit
set_option linter.unusedVariables false

/-- a sign's text -/
def signT (Op : Int) : ByteArray := if Op = 1 then ⟨#[61]⟩ else if Op = 2 then ⟨#[35]⟩ else if Op = 3 then ⟨#[60]⟩ else ⟨#[]⟩
/-- a sign's function -/
def signF (Op : Int) : Value := if Op = 1 then .func (.func 98) #[] #[] else if Op = 2 then .func (.func 99) #[] #[] else if Op = 3 then .func (.func 100) #[] #[] else .nilFunc

theorem signF_no {Op : Int} (h : inB Op 1 3 = false) : signF Op = .nilFunc := by
  simp only [inB, Bool.and_eq_false_iff, decide_eq_false_iff_not] at h
  unfold signF
  rw [if_neg (by omega), if_neg (by omega), if_neg (by omega)]
theorem signF_yes {Op : Int} (h : inB Op 1 3 = true) : ∃ n, signF Op = .func (.func n) #[] #[] := by
  simp only [inB, Bool.and_eq_true, decide_eq_true_eq] at h
  unfold signF
  by_cases h1 : Op = 1
  · exact ⟨_, if_pos h1⟩
  · by_cases h2 : Op = 2
    · exact ⟨_, by rw [if_neg h1, if_pos h2]⟩
    · exact ⟨_, by rw [if_neg h1, if_neg h2, if_pos (by omega)]⟩

set_option maxRecDepth 100000 in
set_option maxHeartbeats 800000 in
theorem signOf_any (Op : Int) (w : World) :
    Calls Tryz.prog 58 #[.int .i64 Op] w fun e w' => e = .returned (.tuple #[.agg #[.string (signT Op), signF Op], .bool (inB Op 1 3)]) ∧ Below w.heap.size w w' := by
  by_cases h1 : Op = 1
  · subst h1
    rw [show signT 1 = ⟨#[61]⟩ from rfl, show signF 1 = .func (.func 98) #[] #[] from rfl, show inB 1 1 3 = true from rfl]
    go_enter Tryz.func58, Tryz.ntmps58
    go_wp2
    go_returns
    exact ⟨rfl, by go_grown⟩
  · by_cases h2 : Op = 2
    · subst h2
      rw [show signT 2 = ⟨#[35]⟩ from rfl, show signF 2 = .func (.func 99) #[] #[] from rfl, show inB 2 1 3 = true from rfl]
      clear h1
      go_enter Tryz.func58, Tryz.ntmps58
      go_wp2
      go_returns
      exact ⟨rfl, by go_grown⟩
    · by_cases h3 : Op = 3
      · subst h3
        rw [show signT 3 = ⟨#[60]⟩ from rfl, show signF 3 = .func (.func 100) #[] #[] from rfl, show inB 3 1 3 = true from rfl]
        clear h1 h2
        go_enter Tryz.func58, Tryz.ntmps58
        go_wp2
        go_returns
        exact ⟨rfl, by go_grown⟩
      · rw [show signT Op = ⟨#[]⟩ by simp [signT, h1, h2, h3], show signF Op = .nilFunc by simp [signF, h1, h2, h3]]
        have hb : inB Op 1 3 = false := by simp [inB]; omega
        rw [hb]
        clear hb
        by_cases h4 : Op < 1
        · clear h1 h2 h3
          go_enter Tryz.func58, Tryz.ntmps58
          go_wp2
          go_returns
          exact ⟨rfl, by go_grown⟩
        · have h5 : 3 < Op := by omega
          clear h1 h2 h3
          go_enter Tryz.func58, Tryz.ntmps58
          go_wp2
          go_returns
          exact ⟨rfl, by go_grown⟩
end Go.Proofs.YtaflokfgbmlmaacGreatDoor
/-
  What both CondOks answer: condB.
-/
namespace Go.Proofs.YtaflokfgbmlmaacGreatDoor
open Go.RowKit
set_option linter.unusedVariables false

/-- when a condition is right -/
def condB (Op : Int) (L R : A5) : Bool := inB Op 1 3 && (mayB L.K L.S L.V && mayB R.K R.S R.V)

set_option maxRecDepth 100000 in
set_option maxHeartbeats 800000 in
theorem implCondOk_any (Op : Int) (L R : A5) (w : World) (hl : L.fits) (hr : R.fits) :
    Calls Tryz.prog 57 #[.agg #[.int .i64 Op, .int .i64 L.K, .string L.S, .int .i64 L.V.K, .int .i64 L.V.N, .string L.V.S, .int .i64 R.K, .string R.S, .int .i64 R.V.K, .int .i64 R.V.N, .string R.V.S]] w fun e w' => e = .returned (.bool (condB Op L R)) ∧ Below w.heap.size w w' := by
  obtain ⟨LK, LS, LVK, LVN, LVS⟩ := L
  obtain ⟨RK, RS, RVK, RVN, RVS⟩ := R
  obtain ⟨l1, l2⟩ := hl
  obtain ⟨r1, r2⟩ := hr
  have HC : Hid (condB Op ⟨LK, LS, ⟨LVK, LVN, LVS⟩⟩ ⟨RK, RS, ⟨RVK, RVN, RVS⟩⟩ = (inB Op 1 3 && (mayB LK LS ⟨LVK, LVN, LVS⟩ && mayB RK RS ⟨RVK, RVN, RVS⟩))) := by unfold Hid; rfl
  have hX := boxk_new w #[.int .i64 Op, .int .i64 LK, .string LS, .int .i64 LVK, .int .i64 LVN, .string LVS, .int .i64 RK, .string RS, .int .i64 RVK, .int .i64 RVN, .string RVS] 56
  have b0 := below_al w (.cells #[.int .i64 Op, .int .i64 LK, .string LS, .int .i64 LVK, .int .i64 LVN, .string LVS, .int .i64 RK, .string RS, .int .i64 RVK, .int .i64 RVN, .string RVS] 56)
  go_enter Tryz.func57, Tryz.ntmps57
  go_wp2_with fail
  refine (signOf_any Op _).mono ?_
  rintro e w1 ⟨rfl, hb⟩
  have HX := hide (box_below hX hb (by simp))
  have hB : Below w.heap.size w w1 := b0.trans (hb.mono b0.size)
  clear hb hX b0
  by_cases hb : inB Op 1 3 = true
  · obtain ⟨fn, hf⟩ := signF_yes hb
    rw [hf, hb]
    rw [hb] at HC
    clear hf hb
    generalize signT Op = st
    have HX1 := hide (box_old HX.out (Array.getElem?_eq_some_iff.1 HX.out).1 (.cells #[.string st, .func (.func fn) #[] #[]] 106))
    have hB1 := hB.alloc hB.size (.cells #[.string st, .func (.func fn) #[] #[]] 106)
    have hlt := (Array.getElem?_eq_some_iff.1 HX.out).1
    have x1 := boxk_cell HX.out 1 _ rfl
    have x2 := boxk_cell HX.out 2 _ rfl
    have x3 := boxk_cell HX.out 3 _ rfl
    have x4 := boxk_cell HX.out 4 _ rfl
    have x5 := boxk_cell HX.out 5 _ rfl
    clear HX hB
    go_wp2_with fail
    refine (mayHaveVal_any LK LS LVK LVN LVS _ l1 l2).mono ?_
    rintro e w2 ⟨rfl, hb2⟩
    have HX2 := hide (box_step HX1.out hb2)
    have hB2 : Below w.heap.size w w2 := hB1.trans (hb2.mono hB1.size)
    clear hb2 HX1 hB1 x1 x2 x3 x4 x5 hlt
    generalize mayB LK LS ⟨LVK, LVN, LVS⟩ = bb at HC
    cases bb
    · go_wp2
      go_ret
      exact ⟨by rw [HC.out]; rfl, hB2⟩
    · have y1 := boxk_cell HX2.out 6 _ rfl
      have y2 := boxk_cell HX2.out 7 _ rfl
      have y3 := boxk_cell HX2.out 8 _ rfl
      have y4 := boxk_cell HX2.out 9 _ rfl
      have y5 := boxk_cell HX2.out 10 _ rfl
      go_wp2_with fail
      refine (mayHaveVal_any RK RS RVK RVN RVS _ r1 r2).mono ?_
      rintro e w3 ⟨rfl, hb3⟩
      have hB3 : Below w.heap.size w w3 := hB2.trans (hb3.mono hB2.size)
      clear hb3 HX2 hB2 y1 y2 y3 y4 y5
      generalize mayB RK RS ⟨RVK, RVN, RVS⟩ = bb at HC
      go_wp2
      go_ret
      exact ⟨by rw [HC.out]; rfl, hB3⟩
  · simp only [Bool.not_eq_true] at hb
    rw [signF_no hb, hb]
    rw [hb] at HC
    clear hb
    generalize signT Op = st
    have hB1 := hB.alloc hB.size (.cells #[.string st, .nilFunc] 106)
    clear HX hB
    go_wp2
    go_ret
    exact ⟨by rw [HC.out]; rfl, hB1⟩

set_option maxRecDepth 100000 in
set_option maxHeartbeats 1600000 in
theorem specCondOk_any (Op : Int) (L R : A5) (w : World) (hl : L.fits) (hr : R.fits) :
    Calls Tryz.prog 72 #[.agg #[.int .i64 Op, .int .i64 L.K, .string L.S, .int .i64 L.V.K, .int .i64 L.V.N, .string L.V.S, .int .i64 R.K, .string R.S, .int .i64 R.V.K, .int .i64 R.V.N, .string R.V.S]] w fun e w' => e = .returned (.bool (condB Op L R)) ∧ Below w.heap.size w w' := by
  obtain ⟨LK, LS, LVK, LVN, LVS⟩ := L
  obtain ⟨RK, RS, RVK, RVN, RVS⟩ := R
  obtain ⟨l1, l2⟩ := hl
  obtain ⟨r1, r2⟩ := hr
  have HC : Hid (condB Op ⟨LK, LS, ⟨LVK, LVN, LVS⟩⟩ ⟨RK, RS, ⟨RVK, RVN, RVS⟩⟩ = (inB Op 1 3 && ((argB LK LS ⟨LVK, LVN, LVS⟩ && !decide (LK = 3)) && (argB RK RS ⟨RVK, RVN, RVS⟩ && !decide (RK = 3))))) := by unfold Hid; rfl
  have hX := boxk_new w #[.int .i64 Op, .int .i64 LK, .string LS, .int .i64 LVK, .int .i64 LVN, .string LVS, .int .i64 RK, .string RS, .int .i64 RVK, .int .i64 RVN, .string RVS] 56
  have b0 := below_al w (.cells #[.int .i64 Op, .int .i64 LK, .string LS, .int .i64 LVK, .int .i64 LVN, .string LVS, .int .i64 RK, .string RS, .int .i64 RVK, .int .i64 RVN, .string RVS] 56)
  go_enter Tryz.func72, Tryz.ntmps72
  go_wp2_with fail
  refine (l1In_any _ _ _ _).mono ?_
  rintro e w1 ⟨rfl, rfl⟩
  generalize w.alloc (.cells #[.int .i64 Op, .int .i64 LK, .string LS, .int .i64 LVK, .int .i64 LVN, .string LVS, .int .i64 RK, .string RS, .int .i64 RVK, .int .i64 RVN, .string RVS] 56) = w1 at hX b0
  have HX := hide hX
  clear hX
  generalize inB Op 1 3 = bb at HC
  cases bb
  · go_wp2
    go_ret
    exact ⟨by rw [HC.out]; rfl, b0⟩
  · have x1 := boxk_cell HX.out 1 _ rfl
    have x2 := boxk_cell HX.out 2 _ rfl
    have x3 := boxk_cell HX.out 3 _ rfl
    have x4 := boxk_cell HX.out 4 _ rfl
    have x5 := boxk_cell HX.out 5 _ rfl
    go_wp2_with fail
    refine (specArgOk_any LK LS LVK LVN LVS _ l1 l2).mono ?_
    rintro e w2 ⟨rfl, hb2⟩
    have HX2 := hide (box_step HX.out hb2)
    have hB2 : Below w.heap.size w w2 := b0.trans (hb2.mono b0.size)
    clear hb2 HX b0 x1 x2 x3 x4 x5
    generalize argB LK LS ⟨LVK, LVN, LVS⟩ = bb at HC
    cases bb
    · go_wp2
      go_ret
      exact ⟨by rw [HC.out]; rfl, hB2⟩
    · have y1 := boxk_cell HX2.out 6 _ rfl
      have y2 := boxk_cell HX2.out 7 _ rfl
      have y3 := boxk_cell HX2.out 8 _ rfl
      have y4 := boxk_cell HX2.out 9 _ rfl
      have y5 := boxk_cell HX2.out 10 _ rfl
      go_wp2_with fail
      refine (specArgOk_any RK RS RVK RVN RVS _ r1 r2).mono ?_
      rintro e w3 ⟨rfl, hb3⟩
      have HX3 := hide (box_step HX2.out hb3)
      have hB3 : Below w.heap.size w w3 := hB2.trans (hb3.mono hB2.size)
      clear hb3 HX2 hB2 y1 y2 y3 y4 y5
      generalize argB RK RS ⟨RVK, RVN, RVS⟩ = bb at HC
      have z1 := boxk_cell HX3.out 1 _ rfl
      have z6 := boxk_cell HX3.out 6 _ rfl
      cases bb
      · have HC2 : Hid (condB Op ⟨LK, LS, ⟨LVK, LVN, LVS⟩⟩ ⟨RK, RS, ⟨RVK, RVN, RVS⟩⟩ = false) := by unfold Hid; rw [HC.out]; simp
        clear HC
        go_wp2
        go_ret
        exact ⟨by rw [HC2.out]; rfl, hB3⟩
      · by_cases k1 : LK = 3
        · subst k1
          have HC2 : Hid (condB Op ⟨3, LS, ⟨LVK, LVN, LVS⟩⟩ ⟨RK, RS, ⟨RVK, RVN, RVS⟩⟩ = false) := by unfold Hid; rw [HC.out]; simp
          clear HC
          go_wp2
          go_ret
          exact ⟨by rw [HC2.out]; rfl, hB3⟩
        · by_cases k2 : RK = 3
          · subst k2
            have HC2 : Hid (condB Op ⟨LK, LS, ⟨LVK, LVN, LVS⟩⟩ ⟨3, RS, ⟨RVK, RVN, RVS⟩⟩ = false) := by unfold Hid; rw [HC.out]; simp
            clear HC
            have j1 : (LK != 3) = true := by simpa using k1
            go_wp2
            go_ret
            exact ⟨by rw [HC2.out]; rfl, hB3⟩
          · have HC2 : Hid (condB Op ⟨LK, LS, ⟨LVK, LVN, LVS⟩⟩ ⟨RK, RS, ⟨RVK, RVN, RVS⟩⟩ = true) := by unfold Hid; rw [HC.out]; simp [k1, k2]
            clear HC
            have j1 : (LK != 3) = true := by simpa using k1
            have j2 : (RK != 3) = true := by simpa using k2
            go_wp2
            go_ret
            exact ⟨by rw [HC2.out]; rfl, hB3⟩
end Go.Proofs.YtaflokfgbmlmaacGreatDoor
/-
  What both ExprOks answer: exprB.
-/
namespace Go.Proofs.YtaflokfgbmlmaacGreatDoor
open Go.RowKit
set_option linter.unusedVariables false

/-- an argument that is none at all -/
def noArg (R : A5) : Bool := decide (R.K = 0) && decide (R.S.size = 0) && decide (R.V = zV)
/-- when a term is right -/
def exprB (Op : ByteArray) (L R : A5) : Bool :=
  if Op.size = 0 then mayB L.K L.S L.V && noArg R else if Op = ⟨#[43]⟩ ∨ Op = ⟨#[45]⟩ then mayB L.K L.S L.V && mayB R.K R.S R.V else false
def X11.ok (x : X11) : Bool := exprB x.Op x.L x.R
theorem exprB0 (L R : A5) : exprB ⟨#[]⟩ L R = (mayB L.K L.S L.V && noArg R) := rfl
theorem exprB1 (L R : A5) : exprB ⟨#[43]⟩ L R = (mayB L.K L.S L.V && mayB R.K R.S R.V) := by simp [exprB]; intro h; exact absurd h (by decide)
theorem exprB2 (L R : A5) : exprB ⟨#[45]⟩ L R = (mayB L.K L.S L.V && mayB R.K R.S R.V) := by simp [exprB]; intro h; exact absurd h (by decide)
/-- an operator: none, one of the two signs, or another text -/
theorem op_cases (Op : ByteArray) : Op = ⟨#[]⟩ ∨ Op = ⟨#[43]⟩ ∨ Op = ⟨#[45]⟩ ∨ (Op.toList.isEmpty = false ∧ (Op.toList == [43]) = false ∧ (Op.toList == [45]) = false ∧ Op.size ≠ 0 ∧ Op ≠ ⟨#[43]⟩ ∧ Op ≠ ⟨#[45]⟩) := by
  by_cases h0 : Op.size = 0
  · exact .inl (empty_of_size h0)
  · by_cases h1 : Op = ⟨#[43]⟩
    · exact .inr (.inl h1)
    · by_cases h2 : Op = ⟨#[45]⟩
      · exact .inr (.inr (.inl h2))
      · refine .inr (.inr (.inr ⟨isEmpty_false h0, ?_, ?_, h0, h1, h2⟩))
        · simp only [beq_eq_false_iff_ne, ne_eq]
          exact fun e => h1 (toList_inj (e.trans (by rw [ByteArray.toList_eq])))
        · simp only [beq_eq_false_iff_ne, ne_eq]
          exact fun e => h2 (toList_inj (e.trans (by rw [ByteArray.toList_eq])))
theorem exprB_no {Op : ByteArray} (L R : A5) (h0 : Op.size ≠ 0) (h1 : Op ≠ ⟨#[43]⟩) (h2 : Op ≠ ⟨#[45]⟩) : exprB Op L R = false := by
  unfold exprB; rw [if_neg h0, if_neg (fun h => h.elim h1 h2)]
/-- an argument is none at all, or it parts from none at one of its cells -/
theorem noArg_cases (K : Int) (S : ByteArray) (VK VN : Int) (VS : ByteArray) :
    (noArg ⟨K, S, ⟨VK, VN, VS⟩⟩ = true ∧ K = 0 ∧ S = ⟨#[]⟩ ∧ VK = 0 ∧ VN = 0 ∧ VS = ⟨#[]⟩) ∨ (noArg ⟨K, S, ⟨VK, VN, VS⟩⟩ = false ∧ (K == 0) = false) ∨ (noArg ⟨K, S, ⟨VK, VN, VS⟩⟩ = false ∧ K = 0 ∧ S.toList.isEmpty = false) ∨
    (noArg ⟨K, S, ⟨VK, VN, VS⟩⟩ = false ∧ K = 0 ∧ S = ⟨#[]⟩ ∧ (VK == 0) = false) ∨ (noArg ⟨K, S, ⟨VK, VN, VS⟩⟩ = false ∧ K = 0 ∧ S = ⟨#[]⟩ ∧ VK = 0 ∧ (VN == 0) = false) ∨ (noArg ⟨K, S, ⟨VK, VN, VS⟩⟩ = false ∧ K = 0 ∧ S = ⟨#[]⟩ ∧ VK = 0 ∧ VN = 0 ∧ VS.toList.isEmpty = false) := by
  unfold noArg
  by_cases h1 : K = 0
  · by_cases h2 : S.size = 0
    · obtain rfl := empty_of_size h2
      rcases v_cases VK VN VS with ⟨rfl, rfl, rfl⟩ | k | ⟨rfl, k⟩ | ⟨rfl, rfl, k⟩
      · exact .inl ⟨by rw [h1, zV_z]; rfl, h1, rfl, rfl, rfl, rfl⟩
      · exact .inr (.inr (.inr (.inl ⟨by simp only; rw [zV_K k, Bool.and_false], h1, rfl, k⟩)))
      · exact .inr (.inr (.inr (.inr (.inl ⟨by simp only; rw [zV_N k, Bool.and_false], h1, rfl, rfl, k⟩))))
      · exact .inr (.inr (.inr (.inr (.inr ⟨by simp only; rw [zV_S k, Bool.and_false], h1, rfl, rfl, rfl, isEmpty_false k⟩))))
    · exact .inr (.inr (.inl ⟨by simp only; rw [decide_eq_false h2, Bool.and_false, Bool.false_and], h1, isEmpty_false h2⟩))
  · exact .inr (.inl ⟨by simp only; rw [decide_eq_false h1, Bool.false_and, Bool.false_and], by simpa using h1⟩)

set_option maxRecDepth 100000 in
set_option maxHeartbeats 800000 in
theorem l8Given_any (K : Int) (S : ByteArray) (VK VN : Int) (VS : ByteArray) (w : World) (hs : S.size ≤ maxLen) (hv : VS.size ≤ maxLen) :
    Calls Tryz.prog 158 #[.agg #[.int .i64 K, .string S, .int .i64 VK, .int .i64 VN, .string VS]] w fun e w' => e = .returned (.bool (mayB K S ⟨VK, VN, VS⟩)) ∧ Below w.heap.size w w' := by
  have hX := boxk_new w #[.int .i64 K, .string S, .int .i64 VK, .int .i64 VN, .string VS] 54
  have b0 := below_al w (.cells #[.int .i64 K, .string S, .int .i64 VK, .int .i64 VN, .string VS] 54)
  go_enter Tryz.func158, Tryz.ntmps158
  go_wp2_with fail
  refine (specArgOk_any K S VK VN VS _ hs hv).mono ?_
  rintro e w1 ⟨rfl, hb⟩
  have HX := hide (box_below hX hb (by simp))
  have hB : Below w.heap.size w w1 := b0.trans (hb.mono b0.size)
  clear hb hX b0
  have c0 := boxk_cell HX.out 0 _ rfl
  have hM : mayB K S ⟨VK, VN, VS⟩ = (argB K S ⟨VK, VN, VS⟩ && !decide (K = 3)) := rfl
  have HM := hide hM
  clear hM
  generalize argB K S ⟨VK, VN, VS⟩ = bb at HM
  cases bb
  · go_wp2
    go_ret
    exact ⟨by rw [HM.out]; rfl, hB⟩
  · by_cases h3 : K = 3
    · subst h3
      go_wp2
      go_ret
      exact ⟨by rw [HM.out]; rfl, hB⟩
    · have HD : Hid (decide (K = 3) = false) := by unfold Hid; simpa using h3
      have k3 : (K != 3) = true := by simpa using h3
      go_wp2
      go_ret
      exact ⟨by rw [HM.out, HD.out]; rfl, hB⟩

set_option maxRecDepth 100000 in
set_option maxHeartbeats 1600000 in
theorem implExprOk_any (Op : ByteArray) (L R : A5) (w : World) (hl : L.fits) (hr : R.fits) :
    Calls Tryz.prog 105 #[.agg #[.string Op, .int .i64 L.K, .string L.S, .int .i64 L.V.K, .int .i64 L.V.N, .string L.V.S, .int .i64 R.K, .string R.S, .int .i64 R.V.K, .int .i64 R.V.N, .string R.V.S]] w fun e w' => e = .returned (.bool (exprB Op L R)) ∧ Below w.heap.size w w' := by
  obtain ⟨LK, LS, LVK, LVN, LVS⟩ := L
  obtain ⟨RK, RS, RVK, RVN, RVS⟩ := R
  obtain ⟨l1, l2⟩ := hl
  obtain ⟨r1, r2⟩ := hr
  have hX := boxk_new w #[.string Op, .int .i64 LK, .string LS, .int .i64 LVK, .int .i64 LVN, .string LVS, .int .i64 RK, .string RS, .int .i64 RVK, .int .i64 RVN, .string RVS] 112
  have b0 := below_al w (.cells #[.string Op, .int .i64 LK, .string LS, .int .i64 LVK, .int .i64 LVN, .string LVS, .int .i64 RK, .string RS, .int .i64 RVK, .int .i64 RVN, .string RVS] 112)
  rcases op_cases Op with rfl | rfl | rfl | ⟨k0, k1, k2, h0, h1, h2⟩
  · have HC := hide (exprB0 ⟨LK, LS, ⟨LVK, LVN, LVS⟩⟩ ⟨RK, RS, ⟨RVK, RVN, RVS⟩⟩)
    rcases noArg_cases RK RS RVK RVN RVS with ⟨hN, rfl, rfl, rfl, rfl, rfl⟩ | ⟨hN, k1⟩ | ⟨hN, rfl, k1⟩ | ⟨hN, rfl, rfl, k1⟩ | ⟨hN, rfl, rfl, rfl, k1⟩ | ⟨hN, rfl, rfl, rfl, rfl, k1⟩
    all_goals
      rw [hN] at HC
      clear hN
      go_enter Tryz.func105, Tryz.ntmps105
      go_wp2_with fail
      refine (mayHaveVal_any LK LS LVK LVN LVS _ l1 l2).mono ?_
      rintro e w2 ⟨rfl, hb2⟩
      have HX2 := hide (box_step hX hb2)
      have hB2 : Below w.heap.size w w2 := b0.trans (hb2.mono b0.size)
      clear hb2 hX b0
      generalize mayB LK LS ⟨LVK, LVN, LVS⟩ = bb at HC
      cases bb
      · go_wp2
        go_ret
        exact ⟨by rw [HC.out]; rfl, hB2⟩
      · have y1 := boxk_cell HX2.out 6 _ rfl
        have y2 := boxk_cell HX2.out 7 _ rfl
        have y3 := boxk_cell HX2.out 8 _ rfl
        have y4 := boxk_cell HX2.out 9 _ rfl
        have y5 := boxk_cell HX2.out 10 _ rfl
        go_wp2
        go_ret
        exact ⟨by rw [HC.out]; rfl, hB2⟩
  · have HC := hide (exprB1 ⟨LK, LS, ⟨LVK, LVN, LVS⟩⟩ ⟨RK, RS, ⟨RVK, RVN, RVS⟩⟩)
    go_enter Tryz.func105, Tryz.ntmps105
    go_wp2_with fail
    refine (mayHaveVal_any LK LS LVK LVN LVS _ l1 l2).mono ?_
    rintro e w2 ⟨rfl, hb2⟩
    have HX2 := hide (box_step hX hb2)
    have hB2 : Below w.heap.size w w2 := b0.trans (hb2.mono b0.size)
    clear hb2 hX b0
    generalize mayB LK LS ⟨LVK, LVN, LVS⟩ = bb at HC
    cases bb
    · go_wp2
      go_ret
      exact ⟨by rw [HC.out]; rfl, hB2⟩
    · have y1 := boxk_cell HX2.out 6 _ rfl
      have y2 := boxk_cell HX2.out 7 _ rfl
      have y3 := boxk_cell HX2.out 8 _ rfl
      have y4 := boxk_cell HX2.out 9 _ rfl
      have y5 := boxk_cell HX2.out 10 _ rfl
      go_wp2_with fail
      refine (mayHaveVal_any RK RS RVK RVN RVS _ r1 r2).mono ?_
      rintro e w3 ⟨rfl, hb3⟩
      have hB3 : Below w.heap.size w w3 := hB2.trans (hb3.mono hB2.size)
      clear hb3 HX2 hB2 y1 y2 y3 y4 y5
      generalize mayB RK RS ⟨RVK, RVN, RVS⟩ = bb at HC
      go_wp2
      go_ret
      exact ⟨by rw [HC.out]; rfl, hB3⟩
  · have HC := hide (exprB2 ⟨LK, LS, ⟨LVK, LVN, LVS⟩⟩ ⟨RK, RS, ⟨RVK, RVN, RVS⟩⟩)
    go_enter Tryz.func105, Tryz.ntmps105
    go_wp2_with fail
    refine (mayHaveVal_any LK LS LVK LVN LVS _ l1 l2).mono ?_
    rintro e w2 ⟨rfl, hb2⟩
    have HX2 := hide (box_step hX hb2)
    have hB2 : Below w.heap.size w w2 := b0.trans (hb2.mono b0.size)
    clear hb2 hX b0
    generalize mayB LK LS ⟨LVK, LVN, LVS⟩ = bb at HC
    cases bb
    · go_wp2
      go_ret
      exact ⟨by rw [HC.out]; rfl, hB2⟩
    · have y1 := boxk_cell HX2.out 6 _ rfl
      have y2 := boxk_cell HX2.out 7 _ rfl
      have y3 := boxk_cell HX2.out 8 _ rfl
      have y4 := boxk_cell HX2.out 9 _ rfl
      have y5 := boxk_cell HX2.out 10 _ rfl
      go_wp2_with fail
      refine (mayHaveVal_any RK RS RVK RVN RVS _ r1 r2).mono ?_
      rintro e w3 ⟨rfl, hb3⟩
      have hB3 : Below w.heap.size w w3 := hB2.trans (hb3.mono hB2.size)
      clear hb3 HX2 hB2 y1 y2 y3 y4 y5
      generalize mayB RK RS ⟨RVK, RVN, RVS⟩ = bb at HC
      go_wp2
      go_ret
      exact ⟨by rw [HC.out]; rfl, hB3⟩
  · have HC := hide (exprB_no ⟨LK, LS, ⟨LVK, LVN, LVS⟩⟩ ⟨RK, RS, ⟨RVK, RVN, RVS⟩⟩ h0 h1 h2)
    clear h0 h1 h2 hX
    go_enter Tryz.func105, Tryz.ntmps105
    go_wp2
    go_ret
    exact ⟨by rw [HC.out]; rfl, b0⟩

set_option maxRecDepth 100000 in
set_option maxHeartbeats 1600000 in
theorem specExprOk_any (Op : ByteArray) (L R : A5) (w : World) (hl : L.fits) (hr : R.fits) :
    Calls Tryz.prog 140 #[.agg #[.string Op, .int .i64 L.K, .string L.S, .int .i64 L.V.K, .int .i64 L.V.N, .string L.V.S, .int .i64 R.K, .string R.S, .int .i64 R.V.K, .int .i64 R.V.N, .string R.V.S]] w fun e w' => e = .returned (.bool (exprB Op L R)) ∧ Below w.heap.size w w' := by
  obtain ⟨LK, LS, LVK, LVN, LVS⟩ := L
  obtain ⟨RK, RS, RVK, RVN, RVS⟩ := R
  obtain ⟨l1, l2⟩ := hl
  obtain ⟨r1, r2⟩ := hr
  have hX := boxk_new w #[.string Op, .int .i64 LK, .string LS, .int .i64 LVK, .int .i64 LVN, .string LVS, .int .i64 RK, .string RS, .int .i64 RVK, .int .i64 RVN, .string RVS] 112
  have b0 := below_al w (.cells #[.string Op, .int .i64 LK, .string LS, .int .i64 LVK, .int .i64 LVN, .string LVS, .int .i64 RK, .string RS, .int .i64 RVK, .int .i64 RVN, .string RVS] 112)
  rcases op_cases Op with rfl | rfl | rfl | ⟨k0, k1, k2, h0, h1, h2⟩
  · have HC := hide (exprB0 ⟨LK, LS, ⟨LVK, LVN, LVS⟩⟩ ⟨RK, RS, ⟨RVK, RVN, RVS⟩⟩)
    rcases noArg_cases RK RS RVK RVN RVS with ⟨hN, rfl, rfl, rfl, rfl, rfl⟩ | ⟨hN, k1⟩ | ⟨hN, rfl, k1⟩ | ⟨hN, rfl, rfl, k1⟩ | ⟨hN, rfl, rfl, rfl, k1⟩ | ⟨hN, rfl, rfl, rfl, rfl, k1⟩
    all_goals
      rw [hN] at HC
      clear hN
      go_enter Tryz.func140, Tryz.ntmps140
      go_wp2_with fail
      refine (l8Given_any LK LS LVK LVN LVS _ l1 l2).mono ?_
      rintro e w2 ⟨rfl, hb2⟩
      have HX2 := hide (box_step hX hb2)
      have hB2 : Below w.heap.size w w2 := b0.trans (hb2.mono b0.size)
      clear hb2 hX b0
      generalize mayB LK LS ⟨LVK, LVN, LVS⟩ = bb at HC
      cases bb
      · go_wp2
        go_ret
        exact ⟨by rw [HC.out]; rfl, hB2⟩
      · have y1 := boxk_cell HX2.out 6 _ rfl
        have y2 := boxk_cell HX2.out 7 _ rfl
        have y3 := boxk_cell HX2.out 8 _ rfl
        have y4 := boxk_cell HX2.out 9 _ rfl
        have y5 := boxk_cell HX2.out 10 _ rfl
        go_wp2
        go_ret
        exact ⟨by rw [HC.out]; rfl, hB2⟩
  · have HC := hide (exprB1 ⟨LK, LS, ⟨LVK, LVN, LVS⟩⟩ ⟨RK, RS, ⟨RVK, RVN, RVS⟩⟩)
    go_enter Tryz.func140, Tryz.ntmps140
    go_wp2_with fail
    refine (l8Given_any LK LS LVK LVN LVS _ l1 l2).mono ?_
    rintro e w2 ⟨rfl, hb2⟩
    have HX2 := hide (box_step hX hb2)
    have hB2 : Below w.heap.size w w2 := b0.trans (hb2.mono b0.size)
    clear hb2 hX b0
    generalize mayB LK LS ⟨LVK, LVN, LVS⟩ = bb at HC
    cases bb
    · go_wp2
      go_ret
      exact ⟨by rw [HC.out]; rfl, hB2⟩
    · have y1 := boxk_cell HX2.out 6 _ rfl
      have y2 := boxk_cell HX2.out 7 _ rfl
      have y3 := boxk_cell HX2.out 8 _ rfl
      have y4 := boxk_cell HX2.out 9 _ rfl
      have y5 := boxk_cell HX2.out 10 _ rfl
      go_wp2_with fail
      refine (l8Given_any RK RS RVK RVN RVS _ r1 r2).mono ?_
      rintro e w3 ⟨rfl, hb3⟩
      have hB3 : Below w.heap.size w w3 := hB2.trans (hb3.mono hB2.size)
      clear hb3 HX2 hB2 y1 y2 y3 y4 y5
      generalize mayB RK RS ⟨RVK, RVN, RVS⟩ = bb at HC
      go_wp2
      go_ret
      exact ⟨by rw [HC.out]; rfl, hB3⟩
  · have HC := hide (exprB2 ⟨LK, LS, ⟨LVK, LVN, LVS⟩⟩ ⟨RK, RS, ⟨RVK, RVN, RVS⟩⟩)
    go_enter Tryz.func140, Tryz.ntmps140
    go_wp2_with fail
    refine (l8Given_any LK LS LVK LVN LVS _ l1 l2).mono ?_
    rintro e w2 ⟨rfl, hb2⟩
    have HX2 := hide (box_step hX hb2)
    have hB2 : Below w.heap.size w w2 := b0.trans (hb2.mono b0.size)
    clear hb2 hX b0
    generalize mayB LK LS ⟨LVK, LVN, LVS⟩ = bb at HC
    cases bb
    · go_wp2
      go_ret
      exact ⟨by rw [HC.out]; rfl, hB2⟩
    · have y1 := boxk_cell HX2.out 6 _ rfl
      have y2 := boxk_cell HX2.out 7 _ rfl
      have y3 := boxk_cell HX2.out 8 _ rfl
      have y4 := boxk_cell HX2.out 9 _ rfl
      have y5 := boxk_cell HX2.out 10 _ rfl
      go_wp2_with fail
      refine (l8Given_any RK RS RVK RVN RVS _ r1 r2).mono ?_
      rintro e w3 ⟨rfl, hb3⟩
      have hB3 : Below w.heap.size w w3 := hB2.trans (hb3.mono hB2.size)
      clear hb3 HX2 hB2 y1 y2 y3 y4 y5
      generalize mayB RK RS ⟨RVK, RVN, RVS⟩ = bb at HC
      go_wp2
      go_ret
      exact ⟨by rw [HC.out]; rfl, hB3⟩
  · have HC := hide (exprB_no ⟨LK, LS, ⟨LVK, LVN, LVS⟩⟩ ⟨RK, RS, ⟨RVK, RVN, RVS⟩⟩ h0 h1 h2)
    clear h0 h1 h2 hX
    go_enter Tryz.func140, Tryz.ntmps140
    go_wp2
    go_ret
    exact ⟨by rw [HC.out]; rfl, b0⟩

end Go.Proofs.YtaflokfgbmlmaacGreatDoor
/-
  A name with at most five terms: what the tested program's question and the model's answer: namedX.
-/
namespace Go.Proofs.YtaflokfgbmlmaacGreatDoor
open Go.RowKit
set_option linter.unusedVariables false

def namedX (nm : ByteArray) (L : List X11) : Bool := nameB nm && decide (L.length ≤ 5) && L.all X11.ok
theorem allX_no {L : List X11} {k : Nat} (hk : k < L.length) (h : exprB (eAt L k).Op (eAt L k).L (eAt L k).R = false) : L.all X11.ok = false := by
  rw [Bool.eq_false_iff]
  intro ha
  have := List.all_eq_true.1 ha L[k] (List.getElem_mem hk)
  rw [← eAt_in hk] at this
  unfold X11.ok at this
  rw [h] at this; cases this
theorem allX_yes {L : List X11} (h : ∀ k, k < L.length → exprB (eAt L k).Op (eAt L k).L (eAt L k).R = true) : L.all X11.ok = true := by
  rw [List.all_eq_true]
  intro v hv
  obtain ⟨k, hk, rfl⟩ := List.getElem_of_mem hv
  rw [← eAt_in hk]; exact h k hk

set_option maxRecDepth 100000 in
set_option maxHeartbeats 3200000 in
theorem l8Args_any (a : Option Addr) (cap : Nat) (L : List X11) (w : World) (hr : RdExpr w a L) (hs : ∀ x ∈ L, x.fits) (hm : L.length ≤ 1048580) :
    Calls Tryz.prog 113 #[.slice a L.length cap] w fun e w' =>
      e = .returned (.bool (L.all X11.ok && decide (L.length ≤ 5))) ∧ Below w.heap.size w w' := by
  obtain ⟨n, hN⟩ : ∃ n, n = L.length := ⟨_, rfl⟩
  rw [← hN] at hm ⊢
  have HN := hide hN
  have HS := hide hs
  clear hN hs
  go_enter Tryz.func113, Tryz.ntmps113
  go_wp2
  go_loopw [3] (fun i wr => ∃ (k : Nat), k ≤ n ∧ i = .int .i64 k ∧ (∀ j, j < k → exprB (eAt L j).Op (eAt L j).L (eAt L j).R = true) ∧ Below w.heap.size w wr) (fun i _ => n - (intOf i).toNat)
  case atStart => exact ⟨0, Nat.zero_le _, rfl, fun j hj => absurd hj (Nat.not_lt_zero _), Below.refl _ _⟩
  case round =>
    obtain ⟨k, hk, rfl, hall, hbel⟩ := hrel
    have HA := hide hall
    clear hall
    by_cases hlt : k < n
    · obtain ⟨b, off, hab, hbw, hc⟩ := RdExpr.cells hr (by rw [← HN.out]; omega)
      obtain ⟨c0, c1, c2, c3, c4, c5, c6, c7, c8, c9, c10⟩ := hc k (by rw [← HN.out]; exact hlt)
      clear hc
      subst hab
      rw [← hbel.cell (p := ⟨b, off + k * 11, none⟩) hbw] at c0
      rw [← hbel.cell (p := ⟨b, off + k * 11 + 1, none⟩) hbw] at c1
      rw [← hbel.cell (p := ⟨b, off + k * 11 + 2, none⟩) hbw] at c2
      rw [← hbel.cell (p := ⟨b, off + k * 11 + 3, none⟩) hbw] at c3
      rw [← hbel.cell (p := ⟨b, off + k * 11 + 4, none⟩) hbw] at c4
      rw [← hbel.cell (p := ⟨b, off + k * 11 + 5, none⟩) hbw] at c5
      rw [← hbel.cell (p := ⟨b, off + k * 11 + 6, none⟩) hbw] at c6
      rw [← hbel.cell (p := ⟨b, off + k * 11 + 7, none⟩) hbw] at c7
      rw [← hbel.cell (p := ⟨b, off + k * 11 + 8, none⟩) hbw] at c8
      rw [← hbel.cell (p := ⟨b, off + k * 11 + 9, none⟩) hbw] at c9
      rw [← hbel.cell (p := ⟨b, off + k * 11 + 10, none⟩) hbw] at c10
      have hS : (eAt L k).fits := by rw [eAt_in (by rw [← HN.out]; exact hlt)]; exact HS.out _ (List.getElem_mem _)
      obtain ⟨hS0, hS1, hS2⟩ := hS
      go_wp2_with fail
      refine (specExprOk_any _ (eAt L k).L (eAt L k).R _ hS1 hS2).mono ?_
      rintro e w2 ⟨rfl, hb2⟩
      have hbel2 : Below w.heap.size w w2 := hbel.trans (hb2.mono hbel.size)
      clear hb2 hS0 hS1 hS2 c0 c1 c2 c3 c4 c5 c6 c7 c8 c9 c10 hbel
      cases hv : exprB (eAt L k).Op (eAt L k).L (eAt L k).R
      · have HV := hide (allX_no (by rw [← HN.out]; exact hlt) hv)
        clear hv
        go_wp2
        go_ret
        exact ⟨ret_bool (by rw [HV.out]; rfl), hbel2⟩
      · have HV := hide hv
        clear hv
        go_wp2
        go_roundw
        case rel => exact ⟨k + 1, by omega, by go_num, fun j hj => by
            by_cases hjk : j = k
            · rw [hjk]; exact HV.out
            · exact HA.out j (by omega), hbel2⟩
        case measure => simp [intOf]; omega
    · have HV : Hid (L.all X11.ok = true) := allX_yes (fun j hj => HA.out j (by rw [← HN.out] at hj; omega))
      have HD : Hid (decide ((n : Int) ≤ 5) = decide (n ≤ 5)) := by unfold Hid; exact decide_eq_decide.2 (by omega)
      go_wp2
      go_ret
      exact ⟨ret_bool (by rw [HV.out, Bool.true_and]; exact HD.out), hbel⟩

set_option maxRecDepth 100000 in
set_option maxHeartbeats 3200000 in
theorem listX_any (a : Option Addr) (cap : Nat) (L : List X11) (w : World) (hr : RdExpr w a L) (hs : ∀ x ∈ L, x.fits) (hm : L.length ≤ 1048580) :
    Calls Tryz.prog 87 #[.slice a L.length cap, .int .i64 0, .int .i64 5, .func (.func 105) #[] #[]] w fun e w' =>
      e = .returned (.bool (decide (L.length ≤ 5) && L.all X11.ok)) ∧ Below w.heap.size w w' := by
  obtain ⟨n, hN⟩ : ∃ n, n = L.length := ⟨_, rfl⟩
  rw [← hN] at hm ⊢
  have HN := hide hN
  have HS := hide hs
  clear hN hs
  by_cases h5 : n ≤ 5
  · have HF : Hid ((decide (n ≤ 5) && L.all X11.ok) = L.all X11.ok) := by unfold Hid; rw [decide_eq_true h5]; rfl
    go_enter Tryz.func87, Tryz.ntmps87
    go_wp2
    go_loopw [23] (fun i wr => ∃ (k : Nat), k ≤ n ∧ i = .int .i64 k ∧ (∀ j, j < k → exprB (eAt L j).Op (eAt L j).L (eAt L j).R = true) ∧ Below w.heap.size w wr) (fun i _ => n - (intOf i).toNat)
    case atStart => exact ⟨0, Nat.zero_le _, rfl, fun j hj => absurd hj (Nat.not_lt_zero _), Below.refl _ _⟩
    case round =>
      obtain ⟨k, hk, rfl, hall, hbel⟩ := hrel
      have HA := hide hall
      clear hall
      by_cases hlt : k < n
      · obtain ⟨b, off, hab, hbw, hc⟩ := RdExpr.cells hr (by rw [← HN.out]; omega)
        obtain ⟨c0, c1, c2, c3, c4, c5, c6, c7, c8, c9, c10⟩ := hc k (by rw [← HN.out]; exact hlt)
        clear hc
        subst hab
        rw [← hbel.cell (p := ⟨b, off + k * 11, none⟩) hbw] at c0
        rw [← hbel.cell (p := ⟨b, off + k * 11 + 1, none⟩) hbw] at c1
        rw [← hbel.cell (p := ⟨b, off + k * 11 + 2, none⟩) hbw] at c2
        rw [← hbel.cell (p := ⟨b, off + k * 11 + 3, none⟩) hbw] at c3
        rw [← hbel.cell (p := ⟨b, off + k * 11 + 4, none⟩) hbw] at c4
        rw [← hbel.cell (p := ⟨b, off + k * 11 + 5, none⟩) hbw] at c5
        rw [← hbel.cell (p := ⟨b, off + k * 11 + 6, none⟩) hbw] at c6
        rw [← hbel.cell (p := ⟨b, off + k * 11 + 7, none⟩) hbw] at c7
        rw [← hbel.cell (p := ⟨b, off + k * 11 + 8, none⟩) hbw] at c8
        rw [← hbel.cell (p := ⟨b, off + k * 11 + 9, none⟩) hbw] at c9
        rw [← hbel.cell (p := ⟨b, off + k * 11 + 10, none⟩) hbw] at c10
        have hS : (eAt L k).fits := by rw [eAt_in (by rw [← HN.out]; exact hlt)]; exact HS.out _ (List.getElem_mem _)
        obtain ⟨hS0, hS1, hS2⟩ := hS
        have hbel1 := hbel.alloc hbel.size (.cells #[.string (eAt L k).Op, .int .i64 (eAt L k).L.K, .string (eAt L k).L.S, .int .i64 (eAt L k).L.V.K, .int .i64 (eAt L k).L.V.N, .string (eAt L k).L.V.S, .int .i64 (eAt L k).R.K, .string (eAt L k).R.S, .int .i64 (eAt L k).R.V.K, .int .i64 (eAt L k).R.V.N, .string (eAt L k).R.V.S] 112)
        go_wp2_with fail
        refine (implExprOk_any _ (eAt L k).L (eAt L k).R _ hS1 hS2).mono ?_
        rintro e w2 ⟨rfl, hb2⟩
        have hbel2 : Below w.heap.size w w2 := hbel1.trans (hb2.mono hbel1.size)
        clear hb2 hS0 hS1 hS2 c0 c1 c2 c3 c4 c5 c6 c7 c8 c9 c10 hbel hbel1
        cases hv : exprB (eAt L k).Op (eAt L k).L (eAt L k).R
        · have HV := hide (allX_no (by rw [← HN.out]; exact hlt) hv)
          clear hv
          go_wp2
          go_ret
          exact ⟨ret_bool (by rw [HF.out, HV.out]), hbel2⟩
        · have HV := hide hv
          clear hv
          go_wp2
          go_roundw
          case rel => exact ⟨k + 1, by omega, by go_num, fun j hj => by
              by_cases hjk : j = k
              · rw [hjk]; exact HV.out
              · exact HA.out j (by omega), hbel2⟩
          case measure => simp [intOf]; omega
      · have HV : Hid (L.all X11.ok = true) := allX_yes (fun j hj => HA.out j (by rw [← HN.out] at hj; omega))
        go_wp2
        go_ret
        exact ⟨ret_bool (by rw [HF.out, HV.out]), hbel⟩
  · have HF : Hid ((decide (n ≤ 5) && L.all X11.ok) = false) := by unfold Hid; rw [decide_eq_false h5]; rfl
    have hn : (5 : Int) < (n : Int) := by omega
    go_enter Tryz.func87, Tryz.ntmps87
    go_wp2
    go_ret
    exact ⟨ret_bool HF.out.symm, Below.refl _ _⟩

set_option maxRecDepth 100000 in
set_option maxHeartbeats 3200000 in
theorem namedX_any (kd : ByteArray) (a : Option Addr) (cap : Nat) (L : List X11) (w : World) (hkd : kd.size ≤ maxLen) (hr : RdExpr w a L) (hs : ∀ x ∈ L, x.fits) (hm : L.length ≤ 1048580) :
    Calls Tryz.prog 134 #[.string kd, .slice a L.length cap, .func (.func 105) #[] #[]] w fun e w' =>
      e = .returned (.bool (namedX kd L)) ∧ Below w.heap.size w w' := by
  have HF : Hid (namedX kd L = (nameB kd && (decide (L.length ≤ 5) && L.all X11.ok))) := by unfold Hid namedX; rw [Bool.and_assoc]
  cases hn : nameB kd
  · rw [hn] at HF
    go_enter Tryz.func134, Tryz.ntmps134
    go_wp2_with (go_at_call 46; refine (implNameOk_any _ _ hkd).mono ?_; rintro e w' ⟨rfl, rfl⟩)
    go_ret
    exact ⟨ret_bool HF.out.symm, Below.refl _ _⟩
  · rw [hn] at HF
    go_enter Tryz.func134, Tryz.ntmps134
    go_wp2_with fail
    refine (implNameOk_any _ _ hkd).mono ?_
    rintro e w' ⟨rfl, rfl⟩
    go_wp2_with fail
    refine (listX_any a cap L _ hr hs hm).mono ?_
    rintro e w1 ⟨rfl, hb⟩
    generalize (decide (L.length ≤ 5) && L.all X11.ok) = r at HF ⊢
    go_wp2
    go_ret
    exact ⟨ret_bool (by rw [HF.out]; rfl), hb⟩

end Go.Proofs.YtaflokfgbmlmaacGreatDoor
