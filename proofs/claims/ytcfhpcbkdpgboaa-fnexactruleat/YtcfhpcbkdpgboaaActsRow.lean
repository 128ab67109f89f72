/-
  Rows of Acts, each with a list of its own: what a slice of them reads as, what came in.
-/
import Derived.Test.YtcfhpcbkdpgboaaDeep
import Derived.Test.YtcfhpcbkdpgboaaActRow
namespace Go.Proofs.Ytcfhpcbkdpgboaa
open Go.ChangeShapes Go.WideShapes Go.ChangeAt Go.RowKit Go.Joins Go.Deep
set_option linter.unusedVariables false

set_option maxRecDepth 100000

structure QE where
  K : Int
  nm : ByteArray
  a : Option Addr
  cap : Nat
  L : List X11
  N : Int
  un : ByteArray
instance : Inhabited QE := ⟨⟨0, ⟨#[]⟩, none, 0, [], 0, ⟨#[]⟩⟩⟩
def QE.zero : QE := ⟨0, ⟨#[]⟩, none, 0, [], 0, ⟨#[]⟩⟩
/-- the same, plainly -/
structure QP where
  K : Int
  nm : ByteArray
  L : List X11
  N : Int
  un : ByteArray
instance : Inhabited QP := ⟨⟨0, ⟨#[]⟩, [], 0, ⟨#[]⟩⟩⟩
def QE.pl (x : QE) : QP := ⟨x.K, x.nm, x.L, x.N, x.un⟩
theorem QE.pl_inj {x y : QE} (h : x.pl = y.pl) : x.K = y.K ∧ x.nm = y.nm ∧ x.L = y.L ∧ x.N = y.N ∧ x.un = y.un := by simpa [QE.pl] using h
def QE.cs (x : QE) : List Value := [.int .i64 x.K, .string x.nm, .slice x.a x.L.length x.cap, .int .i64 x.N, .string x.un]
theorem QE.len (x : QE) : x.cs.length = 5 := rfl
def QE.ok (x : QE) : Prop := x.nm.size ≤ maxLen ∧ x.un.size ≤ maxLen ∧ x.L.length ≤ maxLen ∧ ∀ v ∈ x.L, v.fits
/-- how great one is -/
def QE.sz (x : QE) : Nat := x.nm.size + x.L.length + x.un.size
def QE.small (x : QE) : Prop := x.nm.size ≤ 1048576 ∧ x.un.size ≤ 1048576 ∧ x.L.length ≤ 1048576 ∧ ∀ v ∈ x.L, v.small
theorem QE.small_of {x y : QE} (h : x.small) (e : y.pl = x.pl) : y.small := by
  obtain ⟨e0, e1, e2, e3, e4⟩ := QE.pl_inj e
  unfold QE.small at *
  rw [e1, e2, e4]; exact h
/-- what the slice at 'a' reads as -/
def RdActS (w : World) (a : Option Addr) (J : List QE) : Prop := RdK QE.cs 5 w a J ∧ ∀ i, i < J.length → RdExpr w (eAt J i).a (eAt J i).L
theorem RdActS.cells {w : World} {a : Option Addr} {J : List QE} (h : RdActS w a J) (hp : 0 < J.length) :
    ∃ b off, a = some ⟨b, off, none⟩ ∧ b < w.heap.size ∧ ∀ i, i < J.length → w.cell? ⟨b, off + i * 5, none⟩ = some (.int .i64 (eAt J i).K) ∧ w.cell? ⟨b, off + i * 5 + 1, none⟩ = some (.string (eAt J i).nm) ∧ w.cell? ⟨b, off + i * 5 + 2, none⟩ = some (.slice (eAt J i).a (eAt J i).L.length (eAt J i).cap) ∧ w.cell? ⟨b, off + i * 5 + 3, none⟩ = some (.int .i64 (eAt J i).N) ∧ w.cell? ⟨b, off + i * 5 + 4, none⟩ = some (.string (eAt J i).un) ∧ RdExpr w (eAt J i).a (eAt J i).L := by
  obtain ⟨b, off, e, hb, hc⟩ := RdK.open QE.len (by decide) h.1 hp
  refine ⟨b, off, e, hb, fun i hi => ?_⟩
  have hc := hc i hi
  exact ⟨hc 0 _ rfl, hc 1 _ rfl, hc 2 _ rfl, hc 3 _ rfl, hc 4 _ rfl, h.2 i hi⟩
theorem RdActS.below {w w' : World} {a : Option Addr} {J : List QE} (h : RdActS w a J) (hb : Below w.heap.size w w') : RdActS w' a J := ⟨h.1.below hb, fun i hi => (h.2 i hi).below hb⟩
theorem RdActS.heap {w w' : World} {a : Option Addr} {J : List QE} (h : RdActS w a J) (hb : w'.heap = w.heap) : RdActS w' a J := ⟨h.1.heap hb, fun i hi => (h.2 i hi).heap hb⟩
theorem RdActS.nil (w : World) (a : Option Addr) : RdActS w a [] := ⟨RdK.nil _ _ _ _, fun i hi => absurd hi (Nat.not_lt_zero _)⟩
def IsActS (w : World) (a : Option Addr) (len cap : Nat) (J : List QE) : Prop := J.length = len ∧ len ≤ maxLen ∧ RdActS w a J ∧ ∀ x ∈ J, x.ok
abbrev InAct : World → Nat → Nat → QE → Prop := InK 104 X11.cs 11 QE.a QE.cap QE.L
theorem innAct : Inn (InAct) := inn_K _ _ _ _ _ _
abbrev OwnActS (w : World) (lo hi g cp : Nat) (K : List QE) (m : Nat) : Prop := OwnD 88 QE.cs 5 InAct w lo hi g cp K m
theorem rdOwnActS {w : World} {lo hi g cp : Nat} {K : List QE} (h : OwnActS w lo hi g cp K K.length) : RdActS w (some ⟨g, 0, none⟩) K :=
  ⟨OwnK.rd QE.len (by decide) h.own, fun i hi => by obtain ⟨s, e, q, h1, -, -, h4⟩ := h.at hi; rw [h1]; exact rdOwnExpr h4⟩
theorem act_cells' {H : Type} {enc : TypeId × Value → H} {w : World} {spare : Nat → Bool} {held : Bool} {n : Nat} {cs : List Value} {x : DataW H × List MemPlace}
    (h : DataW.trod enc Try.prog w 0 spare held n 131 cs = some x) : ∃ y : QE, cs = y.cs ∧ RdExpr w y.a y.L ∧ y.ok := by
  obtain ⟨y0, y1, y2, y3, y4, m, hl, h0, h1, h2, h3, h4⟩ := trod_struct5 Try.underlying131 h
  have hc : Try.prog.cellsOf 131 = 5 := by kernel_rfl
  have e0 : Try.prog.cellsOf 3 = 1 := by kernel_rfl
  have e1 : Try.prog.cellsOf 9 = 1 := by kernel_rfl
  have e2 : Try.prog.cellsOf 129 = 1 := by kernel_rfl
  rw [hc] at hl
  match cs, hl with
  | [c0, c1, c2, c3, c4], _ =>
    simp only [e0, e1, e2, List.drop_zero, List.drop_succ_cons, List.take_succ_cons, List.take_zero] at h0 h1 h2 h3 h4
    obtain ⟨v0, q0, _, _⟩ := DataW.trod_int Try.underlying3 h0
    obtain ⟨v1, q1, _, w1⟩ := DataW.trod_string Try.underlying9 h1
    obtain ⟨aa, len, cap, L, qL, hlen, hm, hr, hf⟩ := exprs_in h2
    obtain ⟨v3, q3, _, _⟩ := DataW.trod_int Try.underlying3 h3
    obtain ⟨v4, q4, _, w4⟩ := DataW.trod_string Try.underlying9 h4
    simp only [List.cons.injEq, and_true] at q0 q1 q3 q4
    exact ⟨⟨v0, v1, aa, cap, L, v3, v4⟩, by rw [q0, q1, q3, q4, qL, ← hlen]; rfl, hr, w1, w4, by rw [hlen]; exact hm, hf⟩
theorem acts_in {H : Type} {enc : TypeId × Value → H} {w : World} {spare : Nat → Bool} {held : Bool} {n : Nat} {v : Value} {x : DataW H × List MemPlace}
    (h : DataW.trod enc Try.prog w 0 spare held n 70 [v] = some x) : ∃ a len cap J, v = .slice a len cap ∧ IsActS w a len cap J := by
  have hc : Try.prog.cellsOf 131 = 5 := by kernel_rfl
  rcases open_slice Try.underlying70 h with ⟨h0, _⟩ | ⟨a, len, cap, m, n', D, Pl, h0, hb, hl, hm, hmm, _, hx⟩
  · simp only [List.cons.injEq, and_true] at h0
    exact ⟨none, 0, 0, [], h0, rfl, Nat.zero_le _, RdActS.nil _ _, fun v hv => by cases hv⟩
  · simp only [List.cons.injEq, and_true] at h0
    have hlm : len ≤ m := by rw [hmm]; split <;> omega
    obtain ⟨F, hF⟩ := choose_lt (α := QE) (n := len) (p := fun i v => w.cells? 0 (a.add (i * 5)) 5 = some v.cs ∧ RdExpr w v.a v.L ∧ v.ok) (fun i hi => by
      obtain ⟨cs', h1, h2⟩ := hx i (by omega)
      rw [hc] at h1
      obtain ⟨y, rfl, hs⟩ := act_cells' h2
      exact ⟨y, h1, hs⟩)
    refine ⟨some a, len, cap, (List.range len).map F, h0, by simp, Nat.le_trans hl hm, ⟨fun i hi => ?_, fun i hi => ?_⟩, fun v hv => ?_⟩
    · have hi2 : i < len := by simpa using hi
      obtain ⟨_, _, hcell⟩ := World.cells?_some (hF i hi2).1
      obtain ⟨b, off, spot⟩ := a
      have hs : spot = none := by
        obtain ⟨_, _, hcell0⟩ := World.cells?_some (hF 0 (by omega)).1
        have e := hcell0 0 (by omega)
        rw [add_add] at e
        simp only [QE.cs, List.getElem?_cons_zero] at e
        simpa [Addr.add] using World.cell?_spot e
      subst hs
      have ev : eAt ((List.range len).map F) i = F i := by rw [eAt_in hi]; simp
      rw [ev]
      refine ⟨b, off, rfl, fun j c hj => ?_⟩
      have hjk : j < 5 := by rw [← (F i).len]; exact (List.getElem?_eq_some_iff.1 hj).1
      have e := hcell j hjk
      rw [add_add, Addr.add_lit, hj] at e
      simpa [Nat.add_assoc] using e
    · have ev : eAt ((List.range len).map F) i = F i := by rw [eAt_in hi]; simp
      rw [ev]
      exact (hF i (by simpa using hi)).2.1
    · obtain ⟨i, hi, rfl⟩ := List.mem_map.1 hv
      exact (hF i (List.mem_range.1 hi)).2.2
theorem rowOf_set_QE (x : QE) : ∀ (L : List QE) (i : Nat), i < L.length →
    ((((((rowOf QE.cs L).set (i * 5) (.int .i64 x.K)).set (i * 5 + 1) (.string x.nm)).set (i * 5 + 2) (.slice x.a x.L.length x.cap)).set (i * 5 + 3) (.int .i64 x.N)).set (i * 5 + 4) (.string x.un)) = rowOf QE.cs (L.set i x)
  | [], i, hi => absurd hi (Nat.not_lt_zero _)
  | y :: r, 0, hi => by
    rw [List.set_cons_zero, rowOf_cons, rowOf_cons]
    rfl
  | y :: r, i + 1, hi => by
    have ih := rowOf_set_QE x r i (by simpa using hi)
    rw [List.set_cons_succ, rowOf_cons, rowOf_cons, ← ih]
    simp only [Nat.succ_mul, QE.cs]
    rfl
theorem rowOf_set_QE_K (v : Int) : ∀ (L : List QE) (i : Nat), i < L.length → (rowOf QE.cs L).set (i * 5) (.int .i64 v) = rowOf QE.cs (L.set i { eAt L i with K := v })
  | [], i, hi => absurd hi (Nat.not_lt_zero _)
  | y :: r, 0, hi => by
    rw [List.set_cons_zero, rowOf_cons, rowOf_cons]
    rfl
  | y :: r, i + 1, hi => by
    have ih := rowOf_set_QE_K v r i (by simpa using hi)
    rw [List.set_cons_succ, rowOf_cons, rowOf_cons, show eAt (y :: r) (i + 1) = eAt r i from rfl, ← ih]
    simp only [Nat.succ_mul, QE.cs]
    rfl
theorem rowOf_set_QE_nm (v : ByteArray) : ∀ (L : List QE) (i : Nat), i < L.length → (rowOf QE.cs L).set (i * 5 + 1) (.string v) = rowOf QE.cs (L.set i { eAt L i with nm := v })
  | [], i, hi => absurd hi (Nat.not_lt_zero _)
  | y :: r, 0, hi => by
    rw [List.set_cons_zero, rowOf_cons, rowOf_cons]
    rfl
  | y :: r, i + 1, hi => by
    have ih := rowOf_set_QE_nm v r i (by simpa using hi)
    rw [List.set_cons_succ, rowOf_cons, rowOf_cons, show eAt (y :: r) (i + 1) = eAt r i from rfl, ← ih]
    simp only [Nat.succ_mul, QE.cs]
    rfl
theorem rowOf_set_QE_N (v : Int) : ∀ (L : List QE) (i : Nat), i < L.length → (rowOf QE.cs L).set (i * 5 + 3) (.int .i64 v) = rowOf QE.cs (L.set i { eAt L i with N := v })
  | [], i, hi => absurd hi (Nat.not_lt_zero _)
  | y :: r, 0, hi => by
    rw [List.set_cons_zero, rowOf_cons, rowOf_cons]
    rfl
  | y :: r, i + 1, hi => by
    have ih := rowOf_set_QE_N v r i (by simpa using hi)
    rw [List.set_cons_succ, rowOf_cons, rowOf_cons, show eAt (y :: r) (i + 1) = eAt r i from rfl, ← ih]
    simp only [Nat.succ_mul, QE.cs]
    rfl
theorem rowOf_set_QE_un (v : ByteArray) : ∀ (L : List QE) (i : Nat), i < L.length → (rowOf QE.cs L).set (i * 5 + 4) (.string v) = rowOf QE.cs (L.set i { eAt L i with un := v })
  | [], i, hi => absurd hi (Nat.not_lt_zero _)
  | y :: r, 0, hi => by
    rw [List.set_cons_zero, rowOf_cons, rowOf_cons]
    rfl
  | y :: r, i + 1, hi => by
    have ih := rowOf_set_QE_un v r i (by simpa using hi)
    rw [List.set_cons_succ, rowOf_cons, rowOf_cons, show eAt (y :: r) (i + 1) = eAt r i from rfl, ← ih]
    simp only [Nat.succ_mul, QE.cs]
    rfl
end Go.Proofs.Ytcfhpcbkdpgboaa
