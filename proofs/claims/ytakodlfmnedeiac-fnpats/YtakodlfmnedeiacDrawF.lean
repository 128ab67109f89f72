/-
  The contracts of the draws of facts: some fact, whatever it is, of at most five values.
-/
import Derived.Test.YtakodlfmnedeiacDrawV
import Derived.Test.YtakodlfmnedeiacBox2
import Derived.Test.YtakodlfmnedeiacLawFact
import Derived.Deep.AppendLies
import Derived.Deep.RegionLaw
namespace Go.Proofs.Ytakodlfmnedeiac
open Go.RowKit
set_option linter.unusedVariables false

set_option maxRecDepth 100000 in
set_option maxHeartbeats 1600000 in
theorem l3Small_any (B q : Nat) (w : World) (hc : Cur B w q) :
    Calls Try.prog 12 #[.pointer (some ⟨q, 0, none⟩)] w fun e w' => ∃ (v : V3), e = .returned (.agg #[.int .i64 v.K, .int .i64 v.N, .string v.S]) ∧ v.S.size ≤ 21 ∧ Cur B w' q ∧ w.grownBy w' (some q) := by
  have hq := hc.lt
  have hB := hc.1
  go_enter Try.func12, Try.ntmps12
  go_wp2_with fail
  refine (l1Once_any B q 2 _ (hc.keep (World.grownBy_alloc w _ none) (by simp) (by simp)) (by omega) (by omega)).mono ?_
  rintro e w1 ⟨b, rfl, c1, g1⟩
  have HR := hide (box_grown (box_new w (.int .i64 0) (.int .i64 0) (.string ⟨#[]⟩) 37) g1 (by omega))
  have G1 : w.grownBy w1 (some q) := grown_trans (grown_alloc w _ q) g1
  have z1 := G1.size
  have l1 := (Array.getElem?_eq_some_iff.1 HR.out).1
  clear g1
  cases b
  · go_wp2_with fail
    refine (l1Str_any B q w1.heap.size [⟨#[97]⟩, ⟨#[98]⟩] 2 _ (c1.keep (World.grownBy_alloc w1 _ none) (by simp) (by simp)) (by decide) (by decide) (by omega) (cells_strs w1 9 _)).mono ?_
    rintro e w2 ⟨s, rfl, hx, c2, g2⟩
    have HS : Hid (s.size ≤ 21) := by
      unfold Hid
      simp only [List.mem_cons, List.not_mem_nil, or_false] at hx
      rcases hx with rfl | rfl <;> decide
    have HR2 := hide (box_grown (box_alloc HR.out _) g2 (by omega))
    have G2 : w.grownBy w2 (some q) := grown_trans (grown_trans G1 (grown_alloc w1 _ q)) g2
    obtain ⟨a0, a1, a2, f0, f1, f2⟩ := box_cell HR2.out
    clear hx g2 HR c1
    go_wp2
    refine box_post HR2.out (fun w3 h3 gr => ?_)
    clear a0 a1 a2 f0 f1 f2
    obtain ⟨a0, a1, a2, -, -, -⟩ := box_cell h3
    refine bodyPost_ret (v := .agg #[.int .i64 2, .int .i64 0, .string s]) (by simp [results, Try.results12, go_sem, a0, a1, a2]) rfl ⟨⟨2, 0, s⟩, rfl, HS.out, c2.keep gr (by simp; omega) (by intro k hk; cases hk; omega), grown_more G2 gr (by intro k hk; cases hk; omega)⟩
  · go_wp2_with fail
    refine (l1Below_any B q 3 _ c1 (by omega) (by omega)).mono ?_
    rintro e w2 ⟨x, rfl, x0, x1, c2, g2⟩
    have HR2 := hide (box_grown HR.out g2 (by omega))
    have G2 : w.grownBy w2 (some q) := grown_trans G1 g2
    obtain ⟨a0, a1, a2, f0, f1, f2⟩ := box_cell HR2.out
    clear g2 HR c1
    go_wp2
    refine box_post HR2.out (fun w3 h3 gr => ?_)
    clear a0 a1 a2 f0 f1 f2
    obtain ⟨a0, a1, a2, -, -, -⟩ := box_cell h3
    refine bodyPost_ret (v := .agg #[.int .i64 1, .int .i64 (1 + x), .string ⟨#[]⟩]) (by simp [results, Try.results12, go_sem, a0, a1, a2]) rfl ⟨⟨1, 1 + x, ⟨#[]⟩⟩, rfl, (show (⟨#[]⟩ : ByteArray).size ≤ 21 by decide), c2.keep gr (by simp; omega) (by intro k hk; cases hk; omega), grown_more G2 gr (by intro k hk; cases hk; omega)⟩

/-- a fact being drawn: its block F, its row of values -/
structure Drw (w0 : World) (B q F : Nat) (kd : ByteArray) (v : Value) (L : List V3) (W : World) : Prop where
  cur : Cur B W q
  box : W.heap[F]? = some (.cells #[.string kd, v] 29 (0, 0))
  row : W.ownsRow (F + 1) 37 3 v L.length (cells3 L)
  gr : w0.grownBy W (some q)
  far : q < w0.heap.size ∧ w0.heap.size < F
  res : W.heap[w0.heap.size]? = some (.cells #[.string ⟨#[]⟩, .slice none 0 0] 29 (0, 0))
  small : ∀ v ∈ L, v.S.size ≤ 21
theorem Drw.lt {w0 W : World} {B q F : Nat} {kd : ByteArray} {v : Value} {L : List V3} (h : Drw w0 B q F kd v L W) : F < W.heap.size := (Array.getElem?_eq_some_iff.1 h.box).1
theorem own_ne {W : World} {F q : Nat} {v : Value} {n : Nat} {xs : List Value} (h : W.ownsRow (F + 1) 37 3 v n xs) (hq : q ≤ F) : v.ownBlock = none ∨ v.ownBlock ≠ some q := by
  cases hv2 : v.ownBlock with
  | none => exact .inl rfl
  | some g => right; intro e; have := (h.lt g hv2).1; cases e; omega
theorem Drw.drew {w0 W : World} {B q F : Nat} {kd : ByteArray} {v : Value} {L : List V3} (h : Drw w0 B q F kd v L W) : Drw w0 B q F kd v L W.drew :=
  ⟨h.cur, h.box, h.row, ⟨h.gr.os, h.gr.tape, h.gr.output, h.gr.size, h.gr.block⟩, h.far, h.res, h.small⟩
theorem Drw.draws {w0 W W' : World} {B q F : Nat} {kd : ByteArray} {v : Value} {L : List V3} (h : Drw w0 B q F kd v L W) (c : Cur B W' q) (g : W.grownBy W' (some q)) : Drw w0 B q F kd v L W' :=
  ⟨c, box_grown h.box g (by have := h.far; omega), h.row.kept g (own_ne h.row (by have := h.far; omega)), grown_trans h.gr g, h.far, box_grown h.res g (by have := h.far; omega), h.small⟩
theorem Drw.alloc {w0 W : World} {B q F : Nat} {kd : ByteArray} {v : Value} {L : List V3} (h : Drw w0 B q F kd v L W) (o : Obj) : Drw w0 B q F kd v L (W.alloc o) :=
  ⟨h.cur.keep (World.grownBy_alloc W o none) (by simp) (by simp), box_alloc h.box o, h.row.alloc o, grown_trans h.gr (grown_alloc W o q), h.far, box_alloc h.res o, h.small⟩

theorem app3 (L : List V3) (u : V3) : cells3 L ++ [.int .i64 u.K, .int .i64 u.N, .string u.S] = cells3 (L ++ [u]) := by simp [cells3]
theorem news_src (W : World) (u : V3) : ∀ j x, ([.int .i64 u.K, .int .i64 u.N, .string u.S] : List Value)[j]? = some x → (W.alloc (.cells #[.int .i64 u.K, .int .i64 u.N, .string u.S] 37)).cell? ((⟨W.heap.size, 0, none⟩ : Addr).add j) = some x := by
  obtain ⟨h0, h1, h2, -, -, -⟩ := box_cell (box_new W (.int .i64 u.K) (.int .i64 u.N) (.string u.S) 37)
  intro j x hj
  rw [Addr.add_lit, Nat.zero_add]
  match j, hj with
  | 0, hj => rw [h0]; simpa using hj
  | 1, hj => rw [h1]; simpa using hj
  | 2, hj => rw [h2]; simpa using hj
theorem news_one (u : V3) : ∀ x ∈ ([.int .i64 u.K, .int .i64 u.N, .string u.S] : List Value), x.oneCell' = true := by
  intro x hx
  simp only [List.mem_cons, List.not_mem_nil, or_false] at hx
  rcases hx with rfl | rfl | rfl <;> rfl
/-- a value appended, and the row stored into the fact -/
theorem Drw.grew {w0 W W' : World} {B q F g cap : Nat} {kd : ByteArray} {v : Value} {L : List V3} {u : V3} (h : Drw w0 B q F kd v L W) (hu : u.S.size ≤ 21)
    (ho : W'.ownsRow (F + 1) 37 3 (.slice (some ⟨g, 0, none⟩) (L.length + 1) cap) (L.length + 1) (cells3 L ++ [.int .i64 u.K, .int .i64 u.N, .string u.S])) (hg : W.grownBy W' v.ownBlock) :
    W'.cell? ⟨F, 1, none⟩ = some v ∧ W'.frozen? ⟨F, 1, none⟩ = false ∧ Drw w0 B q F kd (.slice (some ⟨g, 0, none⟩) (L.length + 1) cap) (L ++ [u]) (W'.setCell ⟨F, 1, none⟩ (.slice (some ⟨g, 0, none⟩) (L.length + 1) cap)) := by
  have hF := h.lt
  have hne : v.ownBlock ≠ some F := by
    intro e
    have := (h.row.lt F e).1; omega
  have hb : W'.heap[F]? = some (.cells #[.string kd, v] 29 (0, 0)) := by rw [hg.block F hF (fun e => hne e.symm)]; exact h.box
  obtain ⟨-, c1, -, f1⟩ := box2_cell hb
  obtain ⟨hb2, gr2⟩ := box2_set1 hb (.slice (some ⟨g, 0, none⟩) (L.length + 1) cap)
  have hne2 : v.ownBlock ≠ some q := by
    intro e
    have := (h.row.lt q e).1
    have := h.far; omega
  have hgF : F + 1 ≤ g := (ho.lt g rfl).1
  have hne3 : v.ownBlock ≠ some w0.heap.size := by
    intro e
    have := (h.row.lt w0.heap.size e).1
    have := h.far; omega
  have hres : W'.heap[w0.heap.size]? = some (.cells #[.string ⟨#[]⟩, .slice none 0 0] 29 (0, 0)) := by rw [hg.block _ (Array.getElem?_eq_some_iff.1 h.res).1 (fun e => hne3 e.symm)]; exact h.res
  refine ⟨c1, f1, ?_, hb2, ?_, ?_, h.far, box_grown hres gr2 (by have := h.far; omega), ?_⟩
  · refine (h.cur.keep hg (fun e => hne2 e) (fun k hk => ?_)).keep gr2 (by have := h.far; simp; omega) (fun k hk => by cases hk; have := h.far; have := h.cur.1; omega)
    have := (h.row.lt k hk).1
    have := h.far; have := h.cur.1; omega
  · have := ho.kept gr2 (.inr (by simp [Value.ownBlock]; omega))
    rw [app3] at this
    rw [List.length_append]
    exact this
  · refine grown_more (grown_more h.gr hg (fun k hk => ?_)) gr2 (fun k hk => by cases hk; have := h.far; omega)
    have := (h.row.lt k hk).1
    have := h.far; omega
  · intro x hx
    rcases List.mem_append.1 hx with hx | hx
    · exact h.small x hx
    · simp only [List.mem_cons, List.not_mem_nil, or_false] at hx
      rw [hx]; exact hu

/-- some fact was drawn -/
def DrawnF (w : World) (B q : Nat) (e : Ending) (w' : World) : Prop := ∃ (kd : ByteArray) (v : Value) (L : List V3), e = .returned (.agg #[.string kd, v]) ∧ L.length ≤ 6 ∧ w'.ownsRow w.heap.size 37 3 v L.length (cells3 L) ∧ Cur B w' q ∧ w.grownBy w' (some q)

end Go.Proofs.Ytakodlfmnedeiac
