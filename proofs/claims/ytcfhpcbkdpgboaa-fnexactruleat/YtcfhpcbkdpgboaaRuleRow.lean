/-
  A rule as it lies in memory (RE), what it reads as, and a rule that came in.
-/
import Derived.Test.YtcfhpcbkdpgboaaPatsRow
import Derived.Test.YtcfhpcbkdpgboaaActsRow
import Derived.Test.YtcfhpcbkdpgboaaCondRow
namespace Go.Proofs.Ytcfhpcbkdpgboaa
open Go.ChangeShapes Go.WideShapes Go.ChangeAt Go.RowKit Go.Joins Go.Deep
set_option linter.unusedVariables false
set_option maxRecDepth 100000

structure RE where
  nm : ByteArray
  sal : Int
  aP : Option Addr
  nP : Nat
  cP : Nat
  P : List PE
  aC : Option Addr
  nC : Nat
  cC : Nat
  C : List C11
  aA : Option Addr
  nA : Nat
  cA : Nat
  A : List QE
/-- a rule, plainly -/
structure RP where
  nm : ByteArray
  sal : Int
  P : List PP
  C : List C11
  A : List QP
def RE.pl (x : RE) : RP := ⟨x.nm, x.sal, x.P.map PE.pl, x.C, x.A.map QE.pl⟩
theorem RE.pl_inj {x y : RE} (h : x.pl = y.pl) : x.nm = y.nm ∧ x.sal = y.sal ∧ x.P.map PE.pl = y.P.map PE.pl ∧ x.C = y.C ∧ x.A.map QE.pl = y.A.map QE.pl := by simpa [RE.pl] using h
def RE.arr (x : RE) : Array Value := #[.string x.nm, .int .i64 x.sal, .slice x.aP x.nP x.cP, .slice x.aC x.nC x.cC, .slice x.aA x.nA x.cA]
/-- what a rule reads as -/
structure RdRule (w : World) (x : RE) : Prop where
  p : RdPatS w x.aP x.P
  c : RdCond w x.aC x.C
  a : RdActS w x.aA x.A
  np : x.P.length = x.nP
  nc : x.C.length = x.nC
  na : x.A.length = x.nA
theorem RdRule.below {w w' : World} {x : RE} (h : RdRule w x) (hb : Below w.heap.size w w') : RdRule w' x := ⟨h.p.below hb, h.c.below hb, h.a.below hb, h.np, h.nc, h.na⟩
theorem RdRule.heap {w w' : World} {x : RE} (h : RdRule w x) (hb : w'.heap = w.heap) : RdRule w' x := ⟨h.p.heap hb, h.c.heap hb, h.a.heap hb, h.np, h.nc, h.na⟩
def RE.ok (x : RE) : Prop := x.nm.size ≤ maxLen ∧ x.nP ≤ maxLen ∧ (∀ p ∈ x.P, p.ok) ∧ x.nC ≤ maxLen ∧ (∀ c ∈ x.C, c.fits) ∧ x.nA ≤ maxLen ∧ ∀ a ∈ x.A, a.ok
/-- how great a rule is -/
def RE.sz (x : RE) : Nat := x.nm.size + (x.P.length + (x.P.map PE.sz).sum) + x.C.length + (x.A.length + (x.A.map QE.sz).sum)
def RE.small (x : RE) : Prop := x.sz ≤ 1048576 ∧ (∀ p ∈ x.P, p.small) ∧ (∀ c ∈ x.C, c.small) ∧ ∀ a ∈ x.A, a.small
theorem mem_eAt {α : Type} [Inhabited α] {L : List α} {x : α} (h : x ∈ L) : ∃ i, i < L.length ∧ eAt L i = x := by
  obtain ⟨i, hi, rfl⟩ := List.getElem_of_mem h
  exact ⟨i, hi, eAt_in hi⟩
theorem eAt_mem {α : Type} [Inhabited α] {L : List α} {i : Nat} (h : i < L.length) : eAt L i ∈ L := by rw [eAt_in h]; exact List.getElem_mem h
theorem small_pls {K J : List PE} (h : K.map PE.pl = J.map PE.pl) (hs : ∀ p ∈ J, p.small) : ∀ p ∈ K, p.small := fun p hp => by
  obtain ⟨i, hi, rfl⟩ := mem_eAt hp
  exact PE.small_of (hs _ (eAt_mem (by rw [← map_len h]; exact hi))) (map_at h hi)
theorem small_qls {K J : List QE} (h : K.map QE.pl = J.map QE.pl) (hs : ∀ p ∈ J, p.small) : ∀ p ∈ K, p.small := fun p hp => by
  obtain ⟨i, hi, rfl⟩ := mem_eAt hp
  exact QE.small_of (hs _ (eAt_mem (by rw [← map_len h]; exact hi))) (map_at h hi)
theorem RE.small_of {x y : RE} (h : x.small) (e : y.pl = x.pl) : y.small := by
  obtain ⟨e1, e2, e3, e4, e5⟩ := RE.pl_inj e
  obtain ⟨h1, h2, h3, h4⟩ := h
  have f1 := map_len e3
  have f2 := map_len e5
  have f3 := totW_pl (wt := PE.sz) (p := PE.pl) (v := fun x => x.kd.size + x.L.length) (fun _ => rfl) e3
  have f4 := totW_pl (wt := QE.sz) (p := QE.pl) (v := fun x => x.nm.size + x.L.length + x.un.size) (fun _ => rfl) e5
  refine ⟨?_, small_pls e3 h2, by rw [e4]; exact h3, small_qls e5 h4⟩
  unfold RE.sz at *
  rw [e1, f1, f3, e4, f2, f4]; exact h1
/-- a rule's lists lie in blocks of the calls' own, between two numbers -/
structure OwnRule (w : World) (lo hi : Nat) (x : RE) : Prop where
  own : ∃ gP gC gA m1 m2, x.aP = some ⟨gP, 0, none⟩ ∧ OwnPatS w lo m1 gP x.cP x.P x.P.length ∧ x.aC = some ⟨gC, 0, none⟩ ∧ OwnCond w gC x.cC x.C ∧ m1 ≤ gC ∧ gC < m2 ∧ x.aA = some ⟨gA, 0, none⟩ ∧ OwnActS w m2 hi gA x.cA x.A x.A.length
  np : x.P.length = x.nP
  nc : x.C.length = x.nC
  na : x.A.length = x.nA
theorem OwnRule.rd {w : World} {lo hi : Nat} {x : RE} (h : OwnRule w lo hi x) : RdRule w x := by
  obtain ⟨gP, gC, gA, m1, m2, e1, o1, e2, o2, -, -, e3, o3⟩ := h.own
  exact ⟨by rw [e1]; exact rdOwnPatS o1, by rw [e2]; exact rdOwnCond o2, by rw [e3]; exact rdOwnActS o3, h.np, h.nc, h.na⟩
theorem OwnRule.top {w : World} {lo hi : Nat} {x : RE} (h : OwnRule w lo hi x) : hi ≤ w.heap.size := by
  obtain ⟨gP, gC, gA, m1, m2, e1, o1, e2, o2, -, -, e3, o3⟩ := h.own
  exact o3.top
theorem OwnRule.lohi {w : World} {lo hi : Nat} {x : RE} (h : OwnRule w lo hi x) : lo < hi := by
  obtain ⟨gP, gC, gA, m1, m2, e1, o1, e2, o2, h1, h2, e3, o3⟩ := h.own
  have := o1.low
  have := o1.lth
  have := o3.low
  have := o3.lth
  omega
theorem OwnRule.keep {w w' : World} {lo hi : Nat} {x : RE} (h : OwnRule w lo hi x) (hsz : w.heap.size ≤ w'.heap.size) (hs : ∀ q, lo ≤ q → q < hi → w'.heap[q]? = w.heap[q]?) : OwnRule w' lo hi x := by
  obtain ⟨gP, gC, gA, m1, m2, e1, o1, e2, o2, h1, h2, e3, o3⟩ := h.own
  have a1 := o1.low
  have a2 := o1.lth
  have a3 := o3.low
  have a4 := o3.lth
  exact ⟨⟨gP, gC, gA, m1, m2, e1, o1.keep innPat hsz (fun q q1 q2 => hs q q1 (by omega)), e2, o2.same (hs gC (by omega) (by omega)), h1, h2, e3, o3.keep innAct hsz (fun q q1 q2 => hs q (by omega) q2)⟩, h.np, h.nc, h.na⟩
theorem OwnRule.later {w w' : World} {lo hi : Nat} {x : RE} (h : OwnRule w lo hi x) (hb : Below w.heap.size w w') : OwnRule w' lo hi x :=
  h.keep hb.size (fun q _ hq => hb.block q (Nat.lt_of_lt_of_le hq h.top))
theorem OwnRule.grown {w w' : World} {lo hi p : Nat} {x : RE} (h : OwnRule w lo hi x) (hg : w.grownBy w' (some p)) (hp : p < lo ∨ hi ≤ p) : OwnRule w' lo hi x :=
  h.keep hg.size (fun q h1 h2 => hg.block q (Nat.lt_of_lt_of_le h2 h.top) (by simp; omega))
theorem OwnRule.weaken {w : World} {lo lo' hi hi' : Nat} {x : RE} (h : OwnRule w lo hi x) (hl : lo' ≤ lo) (hh : hi ≤ hi') (ht : hi' ≤ w.heap.size) : OwnRule w lo' hi' x := by
  obtain ⟨gP, gC, gA, m1, m2, e1, o1, e2, o2, h1, h2, e3, o3⟩ := h.own
  have := o3.top
  have := o3.low
  have := o3.lth
  exact ⟨⟨gP, gC, gA, m1, m2, e1, o1.weaken hl (Nat.le_refl _) o1.top, e2, o2, h1, h2, e3, o3.weaken (Nat.le_refl _) hh ht⟩, h.np, h.nc, h.na⟩

theorem rule_cells {H : Type} {enc : TypeId × Value → H} {w : World} {spare : Nat → Bool} {held : Bool} {n : Nat} {cs : List Value} {x : DataW H × List MemPlace}
    (h : DataW.trod enc Try.prog w 0 spare held n 72 cs = some x) : ∃ y : RE, cs = y.arr.toList ∧ RdRule w y ∧ y.ok := by
  obtain ⟨y0, y1, y2, y3, y4, m, hl, h0, h1, h2, h3, h4⟩ := trod_struct5 Try.underlying72 h
  have hc : Try.prog.cellsOf 72 = 5 := by kernel_rfl
  have e0 : Try.prog.cellsOf 9 = 1 := by kernel_rfl
  have e1 : Try.prog.cellsOf 3 = 1 := by kernel_rfl
  have e2 : Try.prog.cellsOf 68 = 1 := by kernel_rfl
  have e3 : Try.prog.cellsOf 69 = 1 := by kernel_rfl
  have e4 : Try.prog.cellsOf 70 = 1 := by kernel_rfl
  rw [hc] at hl
  match cs, hl with
  | [c0, c1, c2, c3, c4], _ =>
    simp only [e0, e1, e2, e3, e4, List.drop_zero, List.drop_succ_cons, List.take_succ_cons, List.take_zero] at h0 h1 h2 h3 h4
    obtain ⟨v0, q0, _, w0⟩ := DataW.trod_string Try.underlying9 h0
    obtain ⟨v1, q1, _, _⟩ := DataW.trod_int Try.underlying3 h1
    obtain ⟨aP, nP, cP, P, qP, lP, mP, rP, okP⟩ := pats_in h2
    obtain ⟨aC, nC, cC, C, qC, lC, mC, rC, okC⟩ := conds_in h3
    obtain ⟨aA, nA, cA, A, qA, lA, mA, rA, okA⟩ := acts_in h4
    simp only [List.cons.injEq, and_true] at q0 q1
    exact ⟨⟨v0, v1, aP, nP, cP, P, aC, nC, cC, C, aA, nA, cA, A⟩, by rw [q0, q1, qP, qC, qA]; rfl, ⟨rP, rC, rA, lP, lC, lA⟩, w0, mP, okP, mC, okC, mA, okA⟩
theorem rule_in {H : Type} {enc : TypeId × Value → H} {w : World} {b0 : Nat} {spare : Nat → Bool} {held : Bool} {r : Reach} {v : Value} {d : DataW H} {p : List MemPlace}
    (hv : Value.okWide Try.prog w r b0 72 v) (h : DataW.Trod enc Try.prog w 0 spare held 72 v d p) : ∃ x : RE, v = .agg x.arr ∧ RdRule w x ∧ x.ok := by
  obtain ⟨cs, rfl, hsz⟩ := okWide_struct Try.underlying72 hv
  obtain ⟨fuel, hf⟩ := h
  obtain ⟨y, e, hr, hy⟩ := rule_cells hf
  refine ⟨y, ?_, hr, hy⟩
  have e2 : cs.toList = y.arr.toList := e
  rw [← Array.toArray_toList (xs := cs), e2]
end Go.Proofs.Ytcfhpcbkdpgboaa
