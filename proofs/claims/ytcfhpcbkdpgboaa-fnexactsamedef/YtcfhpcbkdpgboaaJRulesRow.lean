/-
  Rows of rules: what a slice of them reads as, what came in.
-/
import Derived.Test.YtcfhpcbkdpgboaaJoined1
namespace Go.Proofs.Ytcfhpcbkdpgboaa
open Go.ChangeShapes Go.WideShapes Go.ChangeAt Go.RowKit Go.Joins Go.Deep
set_option linter.unusedVariables false
set_option maxRecDepth 100000

instance : Inhabited RE := ⟨⟨⟨#[]⟩, 0, none, 0, 0, [], none, 0, 0, [], none, 0, 0, []⟩⟩
def RE.zero : RE := ⟨⟨#[]⟩, 0, none, 0, 0, [], none, 0, 0, [], none, 0, 0, []⟩
instance : Inhabited RP := ⟨⟨⟨#[]⟩, 0, [], [], []⟩⟩
def RE.cs (x : RE) : List Value := [.string x.nm, .int .i64 x.sal, .slice x.aP x.nP x.cP, .slice x.aC x.nC x.cC, .slice x.aA x.nA x.cA]
theorem RE.len (x : RE) : x.cs.length = 5 := rfl
theorem RE.arr_cs (x : RE) : x.arr.toList = x.cs := rfl
/-- what the slice at 'a' reads as -/
def RdRuleS (w : World) (a : Option Addr) (J : List RE) : Prop := RdK RE.cs 5 w a J ∧ ∀ i, i < J.length → RdRule w (eAt J i)
theorem RdRuleS.cells {w : World} {a : Option Addr} {J : List RE} (h : RdRuleS w a J) (hp : 0 < J.length) :
    ∃ b off, a = some ⟨b, off, none⟩ ∧ b < w.heap.size ∧ ∀ i, i < J.length → w.cell? ⟨b, off + i * 5, none⟩ = some (.string (eAt J i).nm) ∧ w.cell? ⟨b, off + i * 5 + 1, none⟩ = some (.int .i64 (eAt J i).sal) ∧ w.cell? ⟨b, off + i * 5 + 2, none⟩ = some (.slice (eAt J i).aP (eAt J i).nP (eAt J i).cP) ∧ w.cell? ⟨b, off + i * 5 + 3, none⟩ = some (.slice (eAt J i).aC (eAt J i).nC (eAt J i).cC) ∧ w.cell? ⟨b, off + i * 5 + 4, none⟩ = some (.slice (eAt J i).aA (eAt J i).nA (eAt J i).cA) ∧ RdRule w (eAt J i) := by
  obtain ⟨b, off, e, hb, hc⟩ := RdK.open RE.len (by decide) h.1 hp
  refine ⟨b, off, e, hb, fun i hi => ?_⟩
  have hc := hc i hi
  exact ⟨hc 0 _ rfl, hc 1 _ rfl, hc 2 _ rfl, hc 3 _ rfl, hc 4 _ rfl, h.2 i hi⟩
theorem RdRuleS.below {w w' : World} {a : Option Addr} {J : List RE} (h : RdRuleS w a J) (hb : Below w.heap.size w w') : RdRuleS w' a J := ⟨h.1.below hb, fun i hi => (h.2 i hi).below hb⟩
theorem RdRuleS.heap {w w' : World} {a : Option Addr} {J : List RE} (h : RdRuleS w a J) (hb : w'.heap = w.heap) : RdRuleS w' a J := ⟨h.1.heap hb, fun i hi => (h.2 i hi).heap hb⟩
theorem RdRuleS.nil (w : World) (a : Option Addr) : RdRuleS w a [] := ⟨RdK.nil _ _ _ _, fun i hi => absurd hi (Nat.not_lt_zero _)⟩
def IsRuleS (w : World) (a : Option Addr) (len cap : Nat) (J : List RE) : Prop := J.length = len ∧ len ≤ maxLen ∧ RdRuleS w a J ∧ ∀ x ∈ J, x.ok
theorem OwnD.keep2 {α : Type} [Inhabited α] {T : TypeId} {f : α → List Value} {k : Nat} {I : World → Nat → Nat → α → Prop} (hI : Inn I) {w w' : World} {lo hi g cp m : Nat} {K : List α} (h : OwnD T f k I w lo hi g cp K m) (hsz : hi ≤ w'.heap.size) (hs : ∀ q, lo ≤ q → q < hi → w'.heap[q]? = w.heap[q]?) : OwnD T f k I w' lo hi g cp K m := by
  obtain ⟨s, h1, h2⟩ := h.bnd
  have hl := h.low
  refine ⟨h.own.same (hs g hl h.lth), h.low, hsz, h.lth, s, h1, fun i hi => ⟨(h2 i hi).1, hI.same (h2 i hi).2 (fun q hq1 hq2 => hs q ?_ ?_)⟩⟩
  · have := h1 i (by omega); omega
  · have := h1 (i + 1) (by omega); omega
theorem OwnRule.keep2 {w w' : World} {lo hi : Nat} {x : RE} (h : OwnRule w lo hi x) (hs : ∀ q, lo ≤ q → q < hi → w'.heap[q]? = w.heap[q]?) : OwnRule w' lo hi x := by
  have ht := h.top
  have hlh := h.lohi
  have hz : hi ≤ w'.heap.size := by
    have e := hs (hi - 1) (by omega) (by omega)
    rw [Array.getElem?_eq_getElem (xs := w.heap) (by omega)] at e
    have := (Array.getElem?_eq_some_iff.1 e).1
    omega
  obtain ⟨gP, gC, gA, m1, m2, e1, o1, e2, o2, h1, h2, e3, o3⟩ := h.own
  have a1 := o1.low
  have a2 := o1.lth
  have a3 := o3.low
  have a4 := o3.lth
  exact ⟨⟨gP, gC, gA, m1, m2, e1, o1.keep2 innPat (by omega) (fun q q1 q2 => hs q q1 (by omega)), e2, o2.same (hs gC (by omega) (by omega)), h1, h2, e3, o3.keep2 innAct hz (fun q q1 q2 => hs q (by omega) q2)⟩, h.np, h.nc, h.na⟩
def InRule (w : World) (s e : Nat) (x : RE) : Prop := ∃ lo hi, s ≤ lo ∧ hi ≤ e ∧ OwnRule w lo hi x
theorem innRule : Inn InRule :=
  ⟨fun ⟨lo, hi, h1, h2, h3⟩ hs he => ⟨lo, hi, Nat.le_trans hs h1, Nat.le_trans h2 he, h3⟩, fun ⟨lo, hi, h1, h2, h3⟩ h => ⟨lo, hi, h1, h2, h3.keep2 (fun q q1 q2 => h q (Nat.le_trans h1 q1) (Nat.lt_of_lt_of_le q2 h2))⟩⟩
abbrev OwnRuleS (w : World) (lo hi g cp : Nat) (K : List RE) (m : Nat) : Prop := OwnD 40 RE.cs 5 InRule w lo hi g cp K m
theorem rdOwnRuleS {w : World} {lo hi g cp : Nat} {K : List RE} (h : OwnRuleS w lo hi g cp K K.length) : RdRuleS w (some ⟨g, 0, none⟩) K :=
  ⟨OwnK.rd RE.len (by decide) h.own, fun i hi => by obtain ⟨s, e, lo, hi, -, -, h4⟩ := h.at hi; exact h4.rd⟩
theorem rules_in {H : Type} {enc : TypeId × Value → H} {w : World} {spare : Nat → Bool} {held : Bool} {n : Nat} {v : Value} {x : DataW H × List MemPlace}
    (h : DataW.trod enc Try.prog w 0 spare held n 22 [v] = some x) : ∃ a len cap J, v = .slice a len cap ∧ IsRuleS w a len cap J := by
  have hc : Try.prog.cellsOf 72 = 5 := by kernel_rfl
  rcases open_slice Try.underlying22 h with ⟨h0, _⟩ | ⟨a, len, cap, m, n', D, Pl, h0, hb, hl, hm, hmm, _, hx⟩
  · simp only [List.cons.injEq, and_true] at h0
    exact ⟨none, 0, 0, [], h0, rfl, Nat.zero_le _, RdRuleS.nil _ _, fun v hv => by cases hv⟩
  · simp only [List.cons.injEq, and_true] at h0
    have hlm : len ≤ m := by rw [hmm]; split <;> omega
    obtain ⟨F, hF⟩ := choose_lt (α := RE) (n := len) (p := fun i v => w.cells? 0 (a.add (i * 5)) 5 = some v.cs ∧ RdRule w v ∧ v.ok) (fun i hi => by
      obtain ⟨cs', h1, h2⟩ := hx i (by omega)
      rw [hc] at h1
      obtain ⟨y, rfl, hs⟩ := rule_cells h2
      exact ⟨y, h1, hs⟩)
    refine ⟨some a, len, cap, (List.range len).map F, h0, by simp, Nat.le_trans hl hm, ⟨fun i hi => ?_, fun i hi => ?_⟩, fun v hv => ?_⟩
    · have hi2 : i < len := by simpa using hi
      obtain ⟨_, _, hcell⟩ := World.cells?_some (hF i hi2).1
      obtain ⟨b, off, spot⟩ := a
      have hs : spot = none := by
        obtain ⟨_, _, hcell0⟩ := World.cells?_some (hF 0 (by omega)).1
        have e := hcell0 0 (by omega)
        rw [add_add] at e
        simp only [RE.cs, List.getElem?_cons_zero] at e
        simpa [Addr.add] using World.cell?_spot e
      subst hs
      have ev : eAt ((List.range len).map F) i = F i := by rw [eAt_in hi]; simp
      rw [ev]
      refine ⟨b, off, rfl, fun j c hj => ?_⟩
      have hjk : j < 5 := by rw [← (F i).len]; exact (List.getElem?_eq_some_iff.1 hj).1
      have e := hcell j hjk
      rw [add_add, Addr.add_lit, hj] at e
      simpa [Nat.add_assoc] using e
    · have ev : eAt ((List.range len).map F) i = F i := by rw [eAt_in hi]; simp
      rw [ev]
      exact (hF i (by simpa using hi)).2.1
    · obtain ⟨i, hi, rfl⟩ := List.mem_map.1 hv
      exact (hF i (List.mem_range.1 hi)).2.2
theorem rowOf_set_RE (x : RE) : ∀ (L : List RE) (i : Nat), i < L.length →
    ((((((rowOf RE.cs L).set (i * 5) (.string x.nm)).set (i * 5 + 1) (.int .i64 x.sal)).set (i * 5 + 2) (.slice x.aP x.nP x.cP)).set (i * 5 + 3) (.slice x.aC x.nC x.cC)).set (i * 5 + 4) (.slice x.aA x.nA x.cA)) = rowOf RE.cs (L.set i x)
  | [], i, hi => absurd hi (Nat.not_lt_zero _)
  | y :: r, 0, hi => by
    rw [List.set_cons_zero, rowOf_cons, rowOf_cons]
    rfl
  | y :: r, i + 1, hi => by
    have ih := rowOf_set_RE x r i (by simpa using hi)
    rw [List.set_cons_succ, rowOf_cons, rowOf_cons, ← ih]
    simp only [Nat.succ_mul, RE.cs]
    rfl
theorem small_rls {K J : List RE} (h : K.map RE.pl = J.map RE.pl) (hs : ∀ p ∈ J, p.small) : ∀ p ∈ K, p.small := fun p hp => by
  obtain ⟨i, hi, rfl⟩ := mem_eAt hp
  exact RE.small_of (hs _ (eAt_mem (by rw [← map_len h]; exact hi))) (map_at h hi)
end Go.Proofs.Ytcfhpcbkdpgboaa
