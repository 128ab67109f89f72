/-
  The contracts of the draws of facts: some fact, whatever it is, of at most five values.
-/
import Derived.Test.YtaflokfgbmlmaabDrawS
import Derived.Test.YtaflokfgbmlmaabBox2
import Derived.Test.YtaflokfgbmlmaabLawFact
import Derived.Deep.AppendLies
import Derived.Deep.RegionLaw
namespace Go.Proofs.Ytaflokfgbmlmaab
open Go.RowKit
set_option linter.unusedVariables false

/-- a fact being drawn: its block F, its row of values -/
structure Drw (w0 : World) (B q F : Nat) (kd : ByteArray) (v : Value) (L : List V3) (W : World) : Prop where
  cur : Cur B W q
  box : W.heap[F]? = some (.cells #[.string kd, v] 29 (0, 0))
  row : W.ownsRow (F + 1) 63 3 v L.length (cells3 L)
  gr : w0.grownBy W (some q)
  far : q < w0.heap.size ∧ w0.heap.size < F
  res : W.heap[w0.heap.size]? = some (.cells #[.string ⟨#[]⟩, .slice none 0 0] 29 (0, 0))
  small : ∀ v ∈ L, v.S.size ≤ 21
theorem Drw.lt {w0 W : World} {B q F : Nat} {kd : ByteArray} {v : Value} {L : List V3} (h : Drw w0 B q F kd v L W) : F < W.heap.size := (Array.getElem?_eq_some_iff.1 h.box).1
theorem own_ne {W : World} {F q : Nat} {v : Value} {n : Nat} {xs : List Value} (h : W.ownsRow (F + 1) 63 3 v n xs) (hq : q ≤ F) : v.ownBlock = none ∨ v.ownBlock ≠ some q := by
  cases hv2 : v.ownBlock with
  | none => exact .inl rfl
  | some g => right; intro e; have := (h.lt g hv2).1; cases e; omega
theorem Drw.drew {w0 W : World} {B q F : Nat} {kd : ByteArray} {v : Value} {L : List V3} (h : Drw w0 B q F kd v L W) : Drw w0 B q F kd v L W.drew :=
  ⟨h.cur, h.box, h.row, ⟨h.gr.os, h.gr.tape, h.gr.output, h.gr.size, h.gr.block⟩, h.far, h.res, h.small⟩
theorem Drw.draws {w0 W W' : World} {B q F : Nat} {kd : ByteArray} {v : Value} {L : List V3} (h : Drw w0 B q F kd v L W) (c : Cur B W' q) (g : W.grownBy W' (some q)) : Drw w0 B q F kd v L W' :=
  ⟨c, box_grown h.box g (by have := h.far; omega), h.row.kept g (own_ne h.row (by have := h.far; omega)), grown_trans h.gr g, h.far, box_grown h.res g (by have := h.far; omega), h.small⟩
theorem Drw.alloc {w0 W : World} {B q F : Nat} {kd : ByteArray} {v : Value} {L : List V3} (h : Drw w0 B q F kd v L W) (o : Obj) : Drw w0 B q F kd v L (W.alloc o) :=
  ⟨h.cur.keep (World.grownBy_alloc W o none) (by simp) (by simp), box_alloc h.box o, h.row.alloc o, grown_trans h.gr (grown_alloc W o q), h.far, box_alloc h.res o, h.small⟩

theorem app3 (L : List V3) (u : V3) : cells3 L ++ [.int .i64 u.K, .int .i64 u.N, .string u.S] = cells3 (L ++ [u]) := by simp [cells3]
theorem news_src (W : World) (u : V3) : ∀ j x, ([.int .i64 u.K, .int .i64 u.N, .string u.S] : List Value)[j]? = some x → (W.alloc (.cells #[.int .i64 u.K, .int .i64 u.N, .string u.S] 63)).cell? ((⟨W.heap.size, 0, none⟩ : Addr).add j) = some x := by
  obtain ⟨h0, h1, h2, -, -, -⟩ := box_cell (box_new W (.int .i64 u.K) (.int .i64 u.N) (.string u.S) 63)
  intro j x hj
  rw [Addr.add_lit, Nat.zero_add]
  match j, hj with
  | 0, hj => rw [h0]; simpa using hj
  | 1, hj => rw [h1]; simpa using hj
  | 2, hj => rw [h2]; simpa using hj
theorem news_one (u : V3) : ∀ x ∈ ([.int .i64 u.K, .int .i64 u.N, .string u.S] : List Value), x.oneCell' = true := by
  intro x hx
  simp only [List.mem_cons, List.not_mem_nil, or_false] at hx
  rcases hx with rfl | rfl | rfl <;> rfl
/-- a value appended, and the row stored into the fact -/
theorem Drw.grew {w0 W W' : World} {B q F g cap : Nat} {kd : ByteArray} {v : Value} {L : List V3} {u : V3} (h : Drw w0 B q F kd v L W) (hu : u.S.size ≤ 21)
    (ho : W'.ownsRow (F + 1) 63 3 (.slice (some ⟨g, 0, none⟩) (L.length + 1) cap) (L.length + 1) (cells3 L ++ [.int .i64 u.K, .int .i64 u.N, .string u.S])) (hg : W.grownBy W' v.ownBlock) :
    W'.cell? ⟨F, 1, none⟩ = some v ∧ W'.frozen? ⟨F, 1, none⟩ = false ∧ Drw w0 B q F kd (.slice (some ⟨g, 0, none⟩) (L.length + 1) cap) (L ++ [u]) (W'.setCell ⟨F, 1, none⟩ (.slice (some ⟨g, 0, none⟩) (L.length + 1) cap)) := by
  have hF := h.lt
  have hne : v.ownBlock ≠ some F := by
    intro e
    have := (h.row.lt F e).1; omega
  have hb : W'.heap[F]? = some (.cells #[.string kd, v] 29 (0, 0)) := by rw [hg.block F hF (fun e => hne e.symm)]; exact h.box
  obtain ⟨-, c1, -, f1⟩ := box2_cell hb
  obtain ⟨hb2, gr2⟩ := box2_set1 hb (.slice (some ⟨g, 0, none⟩) (L.length + 1) cap)
  have hne2 : v.ownBlock ≠ some q := by
    intro e
    have := (h.row.lt q e).1
    have := h.far; omega
  have hgF : F + 1 ≤ g := (ho.lt g rfl).1
  have hne3 : v.ownBlock ≠ some w0.heap.size := by
    intro e
    have := (h.row.lt w0.heap.size e).1
    have := h.far; omega
  have hres : W'.heap[w0.heap.size]? = some (.cells #[.string ⟨#[]⟩, .slice none 0 0] 29 (0, 0)) := by rw [hg.block _ (Array.getElem?_eq_some_iff.1 h.res).1 (fun e => hne3 e.symm)]; exact h.res
  refine ⟨c1, f1, ?_, hb2, ?_, ?_, h.far, box_grown hres gr2 (by have := h.far; omega), ?_⟩
  · refine (h.cur.keep hg (fun e => hne2 e) (fun k hk => ?_)).keep gr2 (by have := h.far; simp; omega) (fun k hk => by cases hk; have := h.far; have := h.cur.1; omega)
    have := (h.row.lt k hk).1
    have := h.far; have := h.cur.1; omega
  · have := ho.kept gr2 (.inr (by simp [Value.ownBlock]; omega))
    rw [app3] at this
    rw [List.length_append]
    exact this
  · refine grown_more (grown_more h.gr hg (fun k hk => ?_)) gr2 (fun k hk => by cases hk; have := h.far; omega)
    have := (h.row.lt k hk).1
    have := h.far; omega
  · intro x hx
    rcases List.mem_append.1 hx with hx | hx
    · exact h.small x hx
    · simp only [List.mem_cons, List.not_mem_nil, or_false] at hx
      rw [hx]; exact hu

/-- some fact was drawn -/
def DrawnF (w : World) (B q : Nat) (e : Ending) (w' : World) : Prop := ∃ (kd : ByteArray) (v : Value) (L : List V3), e = .returned (.agg #[.string kd, v]) ∧ L.length ≤ 6 ∧ (kd.size ≤ 21 ∧ kd ≠ ⟨#[102, 117, 108, 108]⟩) ∧ (∀ u ∈ L, u.S.size ≤ 21) ∧ w'.ownsRow w.heap.size 63 3 v L.length (cells3 L) ∧ Cur B w' q ∧ w.grownBy w' (some q)

end Go.Proofs.Ytaflokfgbmlmaab
