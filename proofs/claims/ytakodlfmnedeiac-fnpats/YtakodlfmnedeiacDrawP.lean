/-
  The contracts of the draws of patterns and binds: some, whatever they are, with short texts.
-/
import Derived.Test.YtakodlfmnedeiacDrawF
import Derived.Test.YtakodlfmnedeiacLawPat
import Derived.Test.YtakodlfmnedeiacMatchI
namespace Go.Proofs.Ytakodlfmnedeiac
open Go.RowKit
set_option linter.unusedVariables false

theorem box3_set1 {w : World} {q : Nat} {c0 c1 c2 : Value} {T : TypeId} (h : w.heap[q]? = some (.cells #[c0, c1, c2] T (0, 0))) (u : Value) :
    (w.setCell ⟨q, 1, none⟩ u).heap[q]? = some (.cells #[c0, u, c2] T (0, 0)) ∧ w.grownBy (w.setCell ⟨q, 1, none⟩ u) (some q) := boxk_set h 1 u
theorem src5 (W : World) (x : A5) : ∀ j u, (x.cs)[j]? = some u → (W.alloc (.cells #[.int .i64 x.K, .string x.S, .int .i64 x.V.K, .int .i64 x.V.N, .string x.V.S] 41)).cell? ((⟨W.heap.size, 0, none⟩ : Addr).add j) = some u := by
  intro j u hj
  rw [Addr.add_lit, Nat.zero_add]
  have hb : (W.alloc (.cells #[.int .i64 x.K, .string x.S, .int .i64 x.V.K, .int .i64 x.V.N, .string x.V.S] 41)).heap[W.heap.size]? = some (.cells #[.int .i64 x.K, .string x.S, .int .i64 x.V.K, .int .i64 x.V.N, .string x.V.S] 41 (0, 0)) := by rw [heap_alloc_new]
  rw [cell_of_row _ _ j _ _ (0, 0) hb, ← hj]
  simp [A5.cs]
theorem one5 (x : A5) : ∀ u ∈ x.cs, u.oneCell' = true := by
  intro u hu
  simp only [A5.cs, List.mem_cons, List.not_mem_nil, or_false] at hu
  rcases hu with rfl | rfl | rfl | rfl | rfl <;> rfl
theorem below_grown {w w' : World} {q : Nat} (h : Below w.heap.size w w') : w.grownBy w' (some q) := ⟨h.os, h.tape, h.output, h.size, fun i hi _ => h.block i hi⟩

set_option maxRecDepth 100000 in
set_option maxHeartbeats 800000 in
theorem l6Var_any (s : ByteArray) (w : World) :
    Calls Try.prog 26 #[.string s] w fun e w' => e = .returned (.agg #[.int .i64 1, .string s, .int .i64 0, .int .i64 0, .string ⟨#[]⟩]) ∧ Below w.heap.size w w' := by
  go_enter Try.func26, Try.ntmps26
  go_wp2
  go_returns
  exact ⟨rfl, by go_grown⟩
set_option maxRecDepth 100000 in
set_option maxHeartbeats 800000 in
theorem l6Val_any (v : V3) (w : World) :
    Calls Try.prog 25 #[.agg #[.int .i64 v.K, .int .i64 v.N, .string v.S]] w fun e w' => e = .returned (.agg #[.int .i64 2, .string ⟨#[]⟩, .int .i64 v.K, .int .i64 v.N, .string v.S]) ∧ Below w.heap.size w w' := by
  go_enter Try.func25, Try.ntmps25
  go_wp2
  go_returns
  exact ⟨rfl, by go_grown⟩

/-- some argument was drawn -/
def DrawnA (w : World) (B q : Nat) (e : Ending) (w' : World) : Prop := ∃ x : A5, e = .returned (.agg #[.int .i64 x.K, .string x.S, .int .i64 x.V.K, .int .i64 x.V.N, .string x.V.S]) ∧ x.small ∧ Cur B w' q ∧ w.grownBy w' (some q)
theorem emp_small : (⟨#[]⟩ : ByteArray).size ≤ 1048576 := by decide

set_option maxRecDepth 100000 in
set_option maxHeartbeats 1600000 in
theorem l6Arg_any (B q : Nat) (w : World) (hc : Cur B w q) :
    Calls Try.prog 19 #[.pointer (some ⟨q, 0, none⟩)] w (DrawnA w B q) := by
  have hq := hc.lt
  have hB := hc.1
  go_enter Try.func19, Try.ntmps19
  go_wp2_with fail
  have c0 : Cur B (w.alloc (.cells #[.int .i64 0, .string ⟨#[]⟩, .int .i64 0, .int .i64 0, .string ⟨#[]⟩] 41)) q := hc.keep (World.grownBy_alloc w _ none) (by simp) (by simp)
  have hR := boxk_new w #[.int .i64 0, .string ⟨#[]⟩, .int .i64 0, .int .i64 0, .string ⟨#[]⟩] 41
  have G0 := grown_alloc w (.cells #[.int .i64 0, .string ⟨#[]⟩, .int .i64 0, .int .i64 0, .string ⟨#[]⟩] 41) q
  refine (l1Below_any B q 6 _ c0 (by omega) (by omega)).mono ?_
  rintro e w1 ⟨x, rfl, x0, x1, c1, g1⟩
  have HR := hide (box_grown hR g1 (by omega))
  have G1 : w.grownBy w1 (some q) := grown_trans G0 g1
  have z1 := G1.size
  have l1 := (Array.getElem?_eq_some_iff.1 HR.out).1
  clear g1 hR G0 c0
  by_cases h0 : x = 0
  · subst h0
    have r0 := boxk_cell HR.out 0 _ rfl
    have r1 := boxk_cell HR.out 1 _ rfl
    have r2 := boxk_cell HR.out 2 _ rfl
    have r3 := boxk_cell HR.out 3 _ rfl
    have r4 := boxk_cell HR.out 4 _ rfl
    have f0 := boxk_frozen HR.out 0
    have f1 := boxk_frozen HR.out 1
    have f2 := boxk_frozen HR.out 2
    have f3 := boxk_frozen HR.out 3
    have f4 := boxk_frozen HR.out 4
    go_wp2
    refine box5_post HR.out (fun w3 h3 gr => ?_)
    clear r0 r1 r2 r3 r4 f0 f1 f2 f3 f4
    have a0 := boxk_cell h3 0 _ rfl
    have a1 := boxk_cell h3 1 _ rfl
    have a2 := boxk_cell h3 2 _ rfl
    have a3 := boxk_cell h3 3 _ rfl
    have a4 := boxk_cell h3 4 _ rfl
    refine bodyPost_ret (v := .agg #[.int .i64 3, .string ⟨#[]⟩, .int .i64 0, .int .i64 0, .string ⟨#[]⟩]) (by simp [results, Try.results19, go_sem, a0, a1, a2, a3, a4]) rfl ⟨⟨3, ⟨#[]⟩, ⟨0, 0, ⟨#[]⟩⟩⟩, rfl, ⟨emp_small, emp_small⟩, c1.keep gr (by simp; omega) (by intro k hk; cases hk; omega), grown_more G1 gr (by intro k hk; cases hk; omega)⟩
  · have k0 : (x == 0) = false := by simpa using h0
    by_cases h1 : x = 1
    · subst h1
      clear h0 k0
      go_wp2_with fail
      refine (l3Small_any B q _ c1).mono ?_
      rintro e w2 ⟨v, rfl, hv, c2, g2⟩
      have HR2 := hide (box_grown HR.out g2 (by omega))
      have G2 : w.grownBy w2 (some q) := grown_trans G1 g2
      clear g2 HR c1 G1
      go_wp2_with fail
      refine (l6Val_any v _).mono ?_
      rintro e w3 ⟨rfl, hb3⟩
      have HR3 := hide (box_step HR2.out hb3)
      have G3 : w.grownBy w3 (some q) := grown_trans G2 (below_grown hb3)
      have c3 : Cur B w3 q := c2.keep (⟨hb3.os, hb3.tape, hb3.output, hb3.size, fun i hi _ => hb3.block i hi⟩ : w2.grownBy w3 none) (by simp) (by simp)
      clear hb3 HR2 c2 G2
      have r0 := boxk_cell HR3.out 0 _ rfl
      have r1 := boxk_cell HR3.out 1 _ rfl
      have r2 := boxk_cell HR3.out 2 _ rfl
      have r3 := boxk_cell HR3.out 3 _ rfl
      have r4 := boxk_cell HR3.out 4 _ rfl
      have f0 := boxk_frozen HR3.out 0
      have f1 := boxk_frozen HR3.out 1
      have f2 := boxk_frozen HR3.out 2
      have f3 := boxk_frozen HR3.out 3
      have f4 := boxk_frozen HR3.out 4
      go_wp2
      refine box5_post HR3.out (fun w4 h4 gr => ?_)
      clear r0 r1 r2 r3 r4 f0 f1 f2 f3 f4
      have a0 := boxk_cell h4 0 _ rfl
      have a1 := boxk_cell h4 1 _ rfl
      have a2 := boxk_cell h4 2 _ rfl
      have a3 := boxk_cell h4 3 _ rfl
      have a4 := boxk_cell h4 4 _ rfl
      refine bodyPost_ret (v := .agg #[.int .i64 2, .string ⟨#[]⟩, .int .i64 v.K, .int .i64 v.N, .string v.S]) (by simp [results, Try.results19, go_sem, a0, a1, a2, a3, a4]) rfl ⟨⟨2, ⟨#[]⟩, v⟩, rfl, ⟨emp_small, by show v.S.size ≤ 1048576; omega⟩, c3.keep gr (by simp; omega) (by intro k hk; cases hk; omega), grown_more G3 gr (by intro k hk; cases hk; omega)⟩
    · have k1 : (x == 1) = false := by simpa using h1
      clear h0 h1
      go_wp2_with fail
      refine (l1Str_any B q w1.heap.size [⟨#[88]⟩, ⟨#[89]⟩, ⟨#[90]⟩, ⟨#[88]⟩] 4 _ (c1.keep (World.grownBy_alloc w1 _ none) (by simp) (by simp)) (by decide) (by decide) (by omega) (cells_strs w1 9 _)).mono ?_
      rintro e w2 ⟨s, rfl, hx, c2, g2⟩
      have HS : Hid (s.size ≤ 1048576) := by
        unfold Hid
        simp only [List.mem_cons, List.not_mem_nil, or_false] at hx
        rcases hx with rfl | rfl | rfl | rfl <;> decide
      have HR2 := hide (box_grown (box_alloc HR.out _) g2 (by omega))
      have G2 : w.grownBy w2 (some q) := grown_trans (grown_trans G1 (grown_alloc w1 _ q)) g2
      clear hx g2 HR c1 G1
      go_wp2_with fail
      refine (l6Var_any s _).mono ?_
      rintro e w3 ⟨rfl, hb3⟩
      have HR3 := hide (box_step HR2.out hb3)
      have G3 : w.grownBy w3 (some q) := grown_trans G2 (below_grown hb3)
      have c3 : Cur B w3 q := c2.keep (⟨hb3.os, hb3.tape, hb3.output, hb3.size, fun i hi _ => hb3.block i hi⟩ : w2.grownBy w3 none) (by simp) (by simp)
      clear hb3 HR2 c2 G2
      have r0 := boxk_cell HR3.out 0 _ rfl
      have r1 := boxk_cell HR3.out 1 _ rfl
      have r2 := boxk_cell HR3.out 2 _ rfl
      have r3 := boxk_cell HR3.out 3 _ rfl
      have r4 := boxk_cell HR3.out 4 _ rfl
      have f0 := boxk_frozen HR3.out 0
      have f1 := boxk_frozen HR3.out 1
      have f2 := boxk_frozen HR3.out 2
      have f3 := boxk_frozen HR3.out 3
      have f4 := boxk_frozen HR3.out 4
      go_wp2
      refine box5_post HR3.out (fun w4 h4 gr => ?_)
      clear r0 r1 r2 r3 r4 f0 f1 f2 f3 f4
      have a0 := boxk_cell h4 0 _ rfl
      have a1 := boxk_cell h4 1 _ rfl
      have a2 := boxk_cell h4 2 _ rfl
      have a3 := boxk_cell h4 3 _ rfl
      have a4 := boxk_cell h4 4 _ rfl
      refine bodyPost_ret (v := .agg #[.int .i64 1, .string s, .int .i64 0, .int .i64 0, .string ⟨#[]⟩]) (by simp [results, Try.results19, go_sem, a0, a1, a2, a3, a4]) rfl ⟨⟨1, s, ⟨0, 0, ⟨#[]⟩⟩⟩, rfl, ⟨HS.out, emp_small⟩, c3.keep gr (by simp; omega) (by intro k hk; cases hk; omega), grown_more G3 gr (by intro k hk; cases hk; omega)⟩

/-- a pattern being drawn: its block F, its row of arguments -/
structure DrwP (w0 : World) (B q F : Nat) (kd : ByteArray) (nt : Bool) (v : Value) (L : List A5) (W : World) : Prop where
  cur : Cur B W q
  box : W.heap[F]? = some (.cells #[.string kd, v, .bool nt] 26 (0, 0))
  row : W.ownsRow (F + 1) 41 5 v L.length (rowOf A5.cs L)
  gr : w0.grownBy W (some q)
  far : q < w0.heap.size ∧ w0.heap.size < F
  res : W.heap[w0.heap.size]? = some (.cells #[.string ⟨#[]⟩, .slice none 0 0, .bool false] 26 (0, 0))
  small : ∀ v ∈ L, v.small
theorem DrwP.lt {w0 W : World} {B q F : Nat} {kd : ByteArray} {nt : Bool} {v : Value} {L : List A5} (h : DrwP w0 B q F kd nt v L W) : F < W.heap.size := (Array.getElem?_eq_some_iff.1 h.box).1
theorem own_neP {W : World} {F q : Nat} {v : Value} {n : Nat} {xs : List Value} (h : W.ownsRow (F + 1) 41 5 v n xs) (hq : q ≤ F) : v.ownBlock = none ∨ v.ownBlock ≠ some q := by
  cases hv2 : v.ownBlock with
  | none => exact .inl rfl
  | some g => right; intro e; have := (h.lt g hv2).1; cases e; omega
theorem DrwP.drew {w0 W : World} {B q F : Nat} {kd : ByteArray} {nt : Bool} {v : Value} {L : List A5} (h : DrwP w0 B q F kd nt v L W) : DrwP w0 B q F kd nt v L W.drew :=
  ⟨h.cur, h.box, h.row, ⟨h.gr.os, h.gr.tape, h.gr.output, h.gr.size, h.gr.block⟩, h.far, h.res, h.small⟩
theorem DrwP.draws {w0 W W' : World} {B q F : Nat} {kd : ByteArray} {nt : Bool} {v : Value} {L : List A5} (h : DrwP w0 B q F kd nt v L W) (c : Cur B W' q) (g : W.grownBy W' (some q)) : DrwP w0 B q F kd nt v L W' :=
  ⟨c, box_grown h.box g (by have := h.far; omega), h.row.kept g (own_neP h.row (by have := h.far; omega)), grown_trans h.gr g, h.far, box_grown h.res g (by have := h.far; omega), h.small⟩
theorem DrwP.alloc {w0 W : World} {B q F : Nat} {kd : ByteArray} {nt : Bool} {v : Value} {L : List A5} (h : DrwP w0 B q F kd nt v L W) (o : Obj) : DrwP w0 B q F kd nt v L (W.alloc o) :=
  ⟨h.cur.keep (World.grownBy_alloc W o none) (by simp) (by simp), box_alloc h.box o, h.row.alloc o, grown_trans h.gr (grown_alloc W o q), h.far, box_alloc h.res o, h.small⟩

/-- an argument appended, and the row stored into the pattern -/
theorem DrwP.grew {w0 W W' : World} {B q F g cap : Nat} {kd : ByteArray} {nt : Bool} {v : Value} {L : List A5} {u : A5} (h : DrwP w0 B q F kd nt v L W) (hu : u.small)
    (ho : W'.ownsRow (F + 1) 41 5 (.slice (some ⟨g, 0, none⟩) (L.length + 1) cap) (L.length + 1) (rowOf A5.cs L ++ u.cs)) (hg : W.grownBy W' v.ownBlock) :
    W'.cell? ⟨F, 1, none⟩ = some v ∧ W'.frozen? ⟨F, 1, none⟩ = false ∧ DrwP w0 B q F kd nt (.slice (some ⟨g, 0, none⟩) (L.length + 1) cap) (L ++ [u]) (W'.setCell ⟨F, 1, none⟩ (.slice (some ⟨g, 0, none⟩) (L.length + 1) cap)) := by
  have hF := h.lt
  have hne : v.ownBlock ≠ some F := by
    intro e
    have := (h.row.lt F e).1; omega
  have hb : W'.heap[F]? = some (.cells #[.string kd, v, .bool nt] 26 (0, 0)) := by rw [hg.block F hF (fun e => hne e.symm)]; exact h.box
  obtain ⟨-, c1, -, -, f1, -⟩ := box_cell hb
  obtain ⟨hb2, gr2⟩ := box3_set1 hb (.slice (some ⟨g, 0, none⟩) (L.length + 1) cap)
  have hne2 : v.ownBlock ≠ some q := by
    intro e
    have := (h.row.lt q e).1
    have := h.far; omega
  have hgF : F + 1 ≤ g := (ho.lt g rfl).1
  have hne3 : v.ownBlock ≠ some w0.heap.size := by
    intro e
    have := (h.row.lt w0.heap.size e).1
    have := h.far; omega
  have hres : W'.heap[w0.heap.size]? = some (.cells #[.string ⟨#[]⟩, .slice none 0 0, .bool false] 26 (0, 0)) := by rw [hg.block _ (Array.getElem?_eq_some_iff.1 h.res).1 (fun e => hne3 e.symm)]; exact h.res
  refine ⟨c1, f1, ?_, hb2, ?_, ?_, h.far, box_grown hres gr2 (by have := h.far; omega), ?_⟩
  · refine (h.cur.keep hg (fun e => hne2 e) (fun k hk => ?_)).keep gr2 (by have := h.far; simp; omega) (fun k hk => by cases hk; have := h.far; have := h.cur.1; omega)
    have := (h.row.lt k hk).1
    have := h.far; have := h.cur.1; omega
  · have := ho.kept gr2 (.inr (by simp [Value.ownBlock]; omega))
    rw [show rowOf A5.cs L ++ u.cs = rowOf A5.cs (L ++ [u]) by rw [rowOf_append]; simp [rowOf]] at this
    rw [List.length_append]
    exact this
  · refine grown_more (grown_more h.gr hg (fun k hk => ?_)) gr2 (fun k hk => by cases hk; have := h.far; omega)
    have := (h.row.lt k hk).1
    have := h.far; omega
  · intro x hx
    rcases List.mem_append.1 hx with hx | hx
    · exact h.small x hx
    · simp only [List.mem_cons, List.not_mem_nil, or_false] at hx
      rw [hx]; exact hu

/-- some pattern was drawn -/
def DrawnP (w : World) (B q : Nat) (nt : Bool) (e : Ending) (w' : World) : Prop := ∃ (kd : ByteArray) (v : Value) (L : List A5), e = .returned (.agg #[.string kd, v, .bool nt]) ∧ L.length ≤ 2 ∧ kd.size ≤ 21 ∧ (∀ x ∈ L, x.small) ∧ w'.ownsRow w.heap.size 41 5 v L.length (rowOf A5.cs L) ∧ Cur B w' q ∧ w.grownBy w' (some q)

set_option maxRecDepth 100000 in
set_option maxHeartbeats 3200000 in
theorem l6Draw_any (B q : Nat) (nt : Bool) (w : World) (hc : Cur B w q) :
    Calls Try.prog 11 #[.pointer (some ⟨q, 0, none⟩), .bool nt] w (DrawnP w B q nt) := by
  obtain ⟨i0, hi, hz0, hz1, hz2⟩ := info_parts Try.info41
  have hq := hc.lt
  have hB := hc.1
  go_enter Try.func11, Try.ntmps11
  go_wp2_with fail
  have G0 := grown_alloc w (.cells #[.string ⟨#[]⟩, .slice none 0 0, .bool false] 26) q
  have HR0 := hide (boxk_new w #[.string ⟨#[]⟩, .slice none 0 0, .bool false] 26)
  have c0 : Cur B (w.alloc (.cells #[.string ⟨#[]⟩, .slice none 0 0, .bool false] 26)) q := hc.keep (World.grownBy_alloc w _ none) (by simp) (by simp)
  have z0 : (w.alloc (.cells #[.string ⟨#[]⟩, .slice none 0 0, .bool false] 26)).heap.size = w.heap.size + 1 := by simp
  generalize w.alloc (.cells #[.string ⟨#[]⟩, .slice none 0 0, .bool false] 26) = w0 at G0 HR0 c0 z0 ⊢
  have l1 : w.heap.size < w0.heap.size := by omega
  rw [← z0]
  refine (l1Str_any B q w0.heap.size [⟨#[111, 114, 100, 101, 114]⟩, ⟨#[112, 97, 105, 100]⟩, ⟨#[105, 116, 101, 109]⟩, ⟨#[111, 114, 100, 101, 114]⟩] 4 _ (c0.keep (World.grownBy_alloc w0 _ none) (by simp) (by simp)) (by decide) (by decide) (by omega) (cells_strs w0 9 _)).mono ?_
  rintro e w1 ⟨kd, rfl, hx, c1, g1⟩
  have G1 : w.grownBy w1 (some q) := grown_trans (grown_trans G0 (grown_alloc w0 _ q)) g1
  have HR1 := hide (box_grown (box_alloc HR0.out _) g1 (by omega))
  have z1 : w.heap.size < w1.heap.size := (Array.getElem?_eq_some_iff.1 HR1.out).1
  have HK : Hid (kd.size ≤ 21) := by
    unfold Hid
    simp only [List.mem_cons, List.not_mem_nil, or_false] at hx
    rcases hx with rfl | rfl | rfl | rfl <;> decide
  clear hx g1 c0 G0 HR0
  have D0 : DrwP w B q w1.heap.size kd nt (.slice none 0 0) [] (w1.alloc (.cells #[.string kd, .slice none 0 0, .bool nt] 26)) := ⟨c1.keep (World.grownBy_alloc w1 _ none) (by simp) (by simp), boxk_new w1 _ _, World.ownsRow_nil _ _ _ _, grown_trans G1 (grown_alloc w1 _ q), ⟨hq, z1⟩, box_alloc HR1.out _, fun v hv => by cases hv⟩
  have d0 := boxk_cell D0.box 0 _ rfl
  cases hk : (kd.toList == [105, 116, 101, 109])
  · go_wp2
    obtain ⟨F, HF⟩ : ∃ F, Hid (w1.heap.size = F) := ⟨_, rfl⟩
    rw [HF.out] at D0 ⊢
    clear HF d0
    go_loopw [7] (fun i wr => ∃ (k : Nat) (v : Value) (L : List A5), L.length = k ∧ k ≤ 1 ∧ i = .int .i64 k ∧ DrwP w B q F kd nt v L wr) (fun i _ => (1 - intOf i).toNat)
    case atStart => exact ⟨0, _, [], rfl, by omega, rfl, D0⟩
    case round =>
      obtain ⟨k, v, L, rfl, hk2, rfl, D2⟩ := hrel
      clear D0
      by_cases hlt : (L.length : Int) < 1
      · obtain ⟨-, c1', -, -, f1', -⟩ := box_cell D2.box
        have HD := hide D2
        clear D2
        go_wp2_with fail
        go_region_law (first
          | (refine step_append_lies _ rfl (.tmp 22) (.tmp 25) 24 rfl (F + 1) 41 i0 (.agg #[.int .i64 0, .string ⟨#[]⟩, .int .i64 0, .int .i64 0, .string ⟨#[]⟩]) 5 56 Try.underlying24 hi hz0 hz1 hz2 rfl (by omega) v L.length (rowOf A5.cs L) (by simp [Act.eval]) (D3.alloc _).row ⟨w3.heap.size, 0, none⟩ 1 1 (A5.cs u) (by simp [Act.eval]) rfl (src5 w3 u) (one5 u) (by omega) (by unfold maxLen; omega) (by omega) (by have := D3.lt; simp; omega) _ rfl ?_; intro g cap w4 ho4 hg4 hat4 hlt4; obtain ⟨x1, y1, D4⟩ := (D3.alloc _).grew hu ho4 hg4)
          | (rw [if_pos (by simp [Region.wanted])]; go_simp; go_at_call 19; refine (l6Arg_any B q _ HD.out.drew.cur).mono ?_; rintro e w3 ⟨u, rfl, hu, c3, g3⟩; have D3 := HD.out.drew.draws c3 g3; obtain ⟨-, c3', -, -, f3', -⟩ := box_cell D3.box; obtain ⟨-, c3'', -, -, f3'', -⟩ := box_cell (D3.alloc (.cells #[.int .i64 u.K, .string u.S, .int .i64 u.V.K, .int .i64 u.V.N, .string u.V.S] 41)).box))
        all_goals
          have HD4 := hide D4
          clear c1' f1' c3' f3' c3'' f3'' x1 y1 D3 D4 HD
          go_wp2
          go_roundw
          case rel => exact ⟨L.length + 1, _, L ++ [u], by simp, by omega, by go_num, HD4.out⟩
          case measure => simp [intOf]; omega
      · obtain ⟨c0', c1', c2', -, -, -⟩ := box_cell D2.box
        obtain ⟨r0, r1, r2, rf0, rf1, rf2⟩ := box_cell D2.res
        obtain ⟨a, n, cp, hv⟩ : ∃ a n cp, v = .slice a n cp := by
          rcases D2.row.2 with ⟨h, _⟩ | ⟨g, cp, _, h, _⟩
          · exact ⟨_, _, _, h⟩
          · exact ⟨_, _, _, h⟩
        subst hv
        have HD := hide D2
        clear D2
        go_wp2
        refine box_post HD.out.res (fun w9 h9 gr => ?_)
        clear c0' c1' c2' r0 r1 r2 rf0 rf1 rf2
        obtain ⟨c0', c1', c2', -, -, -⟩ := box_cell h9
        have far := HD.out.far
        exact bodyPost_ret (v := .agg #[.string kd, .slice a n cp, .bool nt]) (by simp [results, Try.results11, go_sem, c0', c1', c2']) rfl ⟨kd, _, L, rfl, by omega, HK.out, HD.out.small, owns_base (HD.out.row.kept gr (own_neP HD.out.row (by omega))) (by omega), HD.out.cur.keep gr (by simp; omega) (fun k hk => by cases hk; omega), grown_more HD.out.gr gr (fun k hk => by cases hk; exact Nat.le_refl _)⟩
  · go_wp2
    obtain ⟨F, HF⟩ : ∃ F, Hid (w1.heap.size = F) := ⟨_, rfl⟩
    rw [HF.out] at D0 ⊢
    clear HF d0
    go_loopw [7] (fun i wr => ∃ (k : Nat) (v : Value) (L : List A5), L.length = k ∧ k ≤ 2 ∧ i = .int .i64 k ∧ DrwP w B q F kd nt v L wr) (fun i _ => (2 - intOf i).toNat)
    case atStart => exact ⟨0, _, [], rfl, by omega, rfl, D0⟩
    case round =>
      obtain ⟨k, v, L, rfl, hk2, rfl, D2⟩ := hrel
      clear D0
      by_cases hlt : (L.length : Int) < 2
      · obtain ⟨-, c1', -, -, f1', -⟩ := box_cell D2.box
        have HD := hide D2
        clear D2
        go_wp2_with fail
        go_region_law (first
          | (refine step_append_lies _ rfl (.tmp 22) (.tmp 25) 24 rfl (F + 1) 41 i0 (.agg #[.int .i64 0, .string ⟨#[]⟩, .int .i64 0, .int .i64 0, .string ⟨#[]⟩]) 5 56 Try.underlying24 hi hz0 hz1 hz2 rfl (by omega) v L.length (rowOf A5.cs L) (by simp [Act.eval]) (D3.alloc _).row ⟨w3.heap.size, 0, none⟩ 1 1 (A5.cs u) (by simp [Act.eval]) rfl (src5 w3 u) (one5 u) (by omega) (by unfold maxLen; omega) (by omega) (by have := D3.lt; simp; omega) _ rfl ?_; intro g cap w4 ho4 hg4 hat4 hlt4; obtain ⟨x1, y1, D4⟩ := (D3.alloc _).grew hu ho4 hg4)
          | (rw [if_pos (by simp [Region.wanted])]; go_simp; go_at_call 19; refine (l6Arg_any B q _ HD.out.drew.cur).mono ?_; rintro e w3 ⟨u, rfl, hu, c3, g3⟩; have D3 := HD.out.drew.draws c3 g3; obtain ⟨-, c3', -, -, f3', -⟩ := box_cell D3.box; obtain ⟨-, c3'', -, -, f3'', -⟩ := box_cell (D3.alloc (.cells #[.int .i64 u.K, .string u.S, .int .i64 u.V.K, .int .i64 u.V.N, .string u.V.S] 41)).box))
        all_goals
          have HD4 := hide D4
          clear c1' f1' c3' f3' c3'' f3'' x1 y1 D3 D4 HD
          go_wp2
          go_roundw
          case rel => exact ⟨L.length + 1, _, L ++ [u], by simp, by omega, by go_num, HD4.out⟩
          case measure => simp [intOf]; omega
      · obtain ⟨c0', c1', c2', -, -, -⟩ := box_cell D2.box
        obtain ⟨r0, r1, r2, rf0, rf1, rf2⟩ := box_cell D2.res
        obtain ⟨a, n, cp, hv⟩ : ∃ a n cp, v = .slice a n cp := by
          rcases D2.row.2 with ⟨h, _⟩ | ⟨g, cp, _, h, _⟩
          · exact ⟨_, _, _, h⟩
          · exact ⟨_, _, _, h⟩
        subst hv
        have HD := hide D2
        clear D2
        go_wp2
        refine box_post HD.out.res (fun w9 h9 gr => ?_)
        clear c0' c1' c2' r0 r1 r2 rf0 rf1 rf2
        obtain ⟨c0', c1', c2', -, -, -⟩ := box_cell h9
        have far := HD.out.far
        exact bodyPost_ret (v := .agg #[.string kd, .slice a n cp, .bool nt]) (by simp [results, Try.results11, go_sem, c0', c1', c2']) rfl ⟨kd, _, L, rfl, by omega, HK.out, HD.out.small, owns_base (HD.out.row.kept gr (own_neP HD.out.row (by omega))) (by omega), HD.out.cur.keep gr (by simp; omega) (fun k hk => by cases hk; omega), grown_more HD.out.gr gr (fun k hk => by cases hk; exact Nat.le_refl _)⟩

/-- some binds were drawn -/
def DrawnB (w : World) (B q : Nat) (e : Ending) (w' : World) : Prop := ∃ (g c : Nat) (L : List B4), e = .returned (.slice (some ⟨g, 0, none⟩) L.length c) ∧ L.length ≤ 3 ∧ (∀ x ∈ L, x.small) ∧ w'.ownsRow w.heap.size 49 4 (.slice (some ⟨g, 0, none⟩) L.length c) L.length (rowOf B4.cs L) ∧ Cur B w' q ∧ w.grownBy w' (some q)

set_option maxRecDepth 100000 in
set_option maxHeartbeats 3200000 in
theorem l6Binds_any (B q : Nat) (w : World) (hc : Cur B w q) :
    Calls Try.prog 13 #[.pointer (some ⟨q, 0, none⟩)] w (DrawnB w B q) := by
  obtain ⟨i0, hi, hz0, hz1, hz2⟩ := info_parts Try.info49
  have hq := hc.lt
  have hB := hc.1
  go_enter Try.func13, Try.ntmps13
  go_wp2_with fail
  have c0 : Cur B (w.alloc (.cells #[] 49)) q := hc.keep (World.grownBy_alloc w _ none) (by simp) (by simp)
  have ho0 := World.ownsRow_lit (base := w.heap.size) (e := 49) (size := 4) w #[] 0 (Nat.le_refl _) (Nat.zero_le _) rfl
  have G0 := grown_alloc w (.cells #[] 49) q
  have hs0 : w.heap.size < (w.alloc (.cells #[] 49)).heap.size := by simp
  refine (l1Below_any B q 3 _ c0 (by omega) (by omega)).mono ?_
  rintro e w1 ⟨x, rfl, x0, x1, c1, g1⟩
  have ho1 : w1.ownsRow w.heap.size 49 4 (.slice (some ⟨w.heap.size, 0, none⟩) 0 0) 0 [] := ho0.kept g1 (.inr (by simp [Value.ownBlock]; omega))
  have G1 : w.grownBy w1 (some q) := grown_trans G0 g1
  have hs1 := Nat.lt_of_lt_of_le hs0 g1.size
  clear g1 c0 ho0 G0 hs0
  obtain ⟨n, rfl⟩ := Int.eq_ofNat_of_zero_le x0
  have hn3 : n ≤ 3 := by omega
  go_wp2
  go_loopw [3, 4] (fun v i wr => ∃ (k g c : Nat) (L : List B4), k + L.length = n ∧ i = .int .i64 k ∧ v = .slice (some ⟨g, 0, none⟩) L.length c ∧ wr.ownsRow w.heap.size 49 4 (.slice (some ⟨g, 0, none⟩) L.length c) L.length (rowOf B4.cs L) ∧ (∀ x ∈ L, x.small) ∧ Cur B wr q ∧ w.grownBy wr (some q)) (fun _ i _ => (intOf i).toNat)
  case atStart => exact ⟨n, w.heap.size, 0, [], by simp, rfl, rfl, ho1, (fun x hx => by cases hx), c1, G1⟩
  case round =>
    obtain ⟨k, g, c, L, hkn, rfl, rfl, hown, hsm, cr, gr⟩ := hrel
    have HSm := hide hsm
    have HO := hide hown
    have HG := hide gr
    have hzr := gr.size
    have hqr := cr.lt
    clear ho1 c1 G1 hsm hown gr
    by_cases hlt : 0 < k
    · have hk1 : (0 : Int) < (k : Int) := by omega
      go_wp2_with fail
      refine (l1Str_any B q wr.heap.size [⟨#[88]⟩, ⟨#[89]⟩, ⟨#[87]⟩] 3 _ (cr.keep (World.grownBy_alloc wr _ none) (by simp) (by simp)) (by decide) (by decide) (by omega) (cells_strs wr 9 _)).mono ?_
      rintro e w2 ⟨s, rfl, hx, c2, g2⟩
      have HS : Hid (s.size ≤ 1048576) := by
        unfold Hid
        simp only [List.mem_cons, List.not_mem_nil, or_false] at hx
        rcases hx with rfl | rfl | rfl <;> decide
      have HO2 := hide ((HO.out.alloc (.cells (([⟨#[88]⟩, ⟨#[89]⟩, ⟨#[87]⟩] : List ByteArray).map Value.string).toArray 9)).kept g2 (.inr (by have := (HO.out.lt g rfl).1; simp [Value.ownBlock]; omega)))
      have HG2 := hide (grown_trans (grown_trans HG.out (grown_alloc wr _ q)) g2)
      clear hx g2 HO HG cr
      go_wp2_with fail
      refine (l3Small_any B q _ c2).mono ?_
      rintro e w3 ⟨u, rfl, hu, c3, g3⟩
      have HO3 := hide ((HO2.out.kept g3 (.inr (by have := (HO2.out.lt g rfl).1; simp [Value.ownBlock]; omega))).alloc (.cells #[.string s, .int .i64 u.K, .int .i64 u.N, .string u.S] 49))
      have HG3 := hide (grown_trans (grown_trans HG2.out g3) (grown_alloc w3 (.cells #[.string s, .int .i64 u.K, .int .i64 u.N, .string u.S] 49) q))
      have c4 : Cur B (w3.alloc (.cells #[.string s, .int .i64 u.K, .int .i64 u.N, .string u.S] 49)) q := c3.keep (World.grownBy_alloc w3 _ none) (by simp) (by simp)
      have HSrc := hide (src4 w3 ⟨s, u⟩)
      have HApp : Hid (rowOf B4.cs L ++ B4.cs ⟨s, u⟩ = rowOf B4.cs (L ++ [⟨s, u⟩])) := by unfold Hid; rw [rowOf_append]; simp [rowOf]
      have hz4 := HG3.out.size
      clear g3 HO2 HG2 c2 c3
      go_wp2_with (at_builtin; refine wpList_append_lies _ rfl (.tmp 12) (.tmp 19) 30 rfl w.heap.size 49 i0 (.agg #[.string ⟨#[]⟩, .int .i64 0, .int .i64 0, .string ⟨#[]⟩]) 4 48 Try.underlying30 hi hz0 hz1 hz2 rfl (by omega) (.slice (some ⟨g, 0, none⟩) L.length c) L.length (rowOf B4.cs L) rfl HO3.out ⟨w3.heap.size, 0, none⟩ 1 1 (B4.cs ⟨s, u⟩) ?hx rfl HSrc.out (one4 _) (by omega) (by unfold maxLen; omega) (by omega) hz4 _ rfl ?_)
      case hx => simp [Act.eval]
      intro g5 c5 w5 ho5 hg5 hat5 hlt5
      rw [HApp.out] at ho5
      have HO5 := hide ho5
      have hgb := (HO3.out.lt g rfl).1
      have c6 : Cur B w5 q := c4.keep hg5 (by simp [Value.ownBlock]; omega) (fun j hj => by have := (HO3.out.lt j hj).1; omega)
      have HG5 := hide (grown_more HG3.out hg5 (fun j hj => (HO3.out.lt j hj).1))
      clear ho5 hg5 hat5 hlt5 HO3 HG3 HSrc c4
      go_wp2
      go_roundw
      case rel => exact ⟨k - 1, g5, c5, L ++ [⟨s, u⟩], by simp; omega, by go_num, by simp, by rw [show (L ++ [(⟨s, u⟩ : B4)]).length = L.length + 1 by simp]; exact HO5.out, fun x hx => by
          rcases List.mem_append.1 hx with h | h
          · exact HSm.out x h
          · simp only [List.mem_cons, List.not_mem_nil, or_false] at h
            rw [h]; exact ⟨HS.out, by show u.S.size ≤ 1048576; omega⟩, c6, HG5.out⟩
      case measure => simp [intOf]; omega
    · obtain rfl : k = 0 := by omega
      have HD : Hid (DrawnB w B q (.returned (.slice (some ⟨g, 0, none⟩) L.length c)) wr) := ⟨g, c, L, rfl, by omega, HSm.out, HO.out, cr, HG.out⟩
      clear HO HG HSm cr
      go_wp2
      go_returns
      exact HD.out
end Go.Proofs.Ytakodlfmnedeiac
