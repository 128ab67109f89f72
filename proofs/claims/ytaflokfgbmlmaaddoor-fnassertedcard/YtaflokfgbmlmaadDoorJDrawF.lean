/-
  The contracts of the draws of facts: some fact, whatever it is, of at most five values.
-/
import Derived.Test.YtaflokfgbmlmaadDoorJDrawS
import Derived.Test.YtaflokfgbmlmaadDoorJBox2
import Derived.Test.YtaflokfgbmlmaadDoorJLawFact
import Derived.Deep.AppendLies
import Derived.Deep.RegionLaw
namespace Go.Proofs.YtaflokfgbmlmaadDoor
open Go.RowKit
set_option linter.unusedVariables false

/-- a fact being drawn: its block F, its row of values -/
structure Drw (w0 : World) (B q F : Nat) (kd : ByteArray) (v : Value) (L : List V3) (W : World) : Prop where
  cur : Cur B W q
  box : W.heap[F]? = some (.cells #[.string kd, v] 41 (0, 0))
  row : W.ownsRow (F + 1) 85 3 v L.length (cells3 L)
  gr : w0.grownBy W (some q)
  far : q < w0.heap.size ∧ w0.heap.size < F
  res : W.heap[w0.heap.size]? = some (.cells #[.string ⟨#[]⟩, .slice none 0 0] 41 (0, 0))
  small : ∀ v ∈ L, v.S.size ≤ 21
theorem Drw.lt {w0 W : World} {B q F : Nat} {kd : ByteArray} {v : Value} {L : List V3} (h : Drw w0 B q F kd v L W) : F < W.heap.size := (Array.getElem?_eq_some_iff.1 h.box).1
theorem own_ne {W : World} {F q : Nat} {v : Value} {n : Nat} {xs : List Value} (h : W.ownsRow (F + 1) 85 3 v n xs) (hq : q ≤ F) : v.ownBlock = none ∨ v.ownBlock ≠ some q := by
  cases hv2 : v.ownBlock with
  | none => exact .inl rfl
  | some g => right; intro e; have := (h.lt g hv2).1; cases e; omega
theorem Drw.drew {w0 W : World} {B q F : Nat} {kd : ByteArray} {v : Value} {L : List V3} (h : Drw w0 B q F kd v L W) : Drw w0 B q F kd v L W.drew :=
  ⟨h.cur, h.box, h.row, ⟨h.gr.os, h.gr.tape, h.gr.output, h.gr.size, h.gr.block⟩, h.far, h.res, h.small⟩
theorem Drw.draws {w0 W W' : World} {B q F : Nat} {kd : ByteArray} {v : Value} {L : List V3} (h : Drw w0 B q F kd v L W) (c : Cur B W' q) (g : W.grownBy W' (some q)) : Drw w0 B q F kd v L W' :=
  ⟨c, box_grown h.box g (by have := h.far; omega), h.row.kept g (own_ne h.row (by have := h.far; omega)), grown_trans h.gr g, h.far, box_grown h.res g (by have := h.far; omega), h.small⟩
theorem Drw.alloc {w0 W : World} {B q F : Nat} {kd : ByteArray} {v : Value} {L : List V3} (h : Drw w0 B q F kd v L W) (o : Obj) : Drw w0 B q F kd v L (W.alloc o) :=
  ⟨h.cur.keep (World.grownBy_alloc W o none) (by simp) (by simp), box_alloc h.box o, h.row.alloc o, grown_trans h.gr (grown_alloc W o q), h.far, box_alloc h.res o, h.small⟩

theorem app3 (L : List V3) (u : V3) : cells3 L ++ [.int .i64 u.K, .int .i64 u.N, .string u.S] = cells3 (L ++ [u]) := by simp [cells3]
theorem news_src (W : World) (u : V3) : ∀ j x, ([.int .i64 u.K, .int .i64 u.N, .string u.S] : List Value)[j]? = some x → (W.alloc (.cells #[.int .i64 u.K, .int .i64 u.N, .string u.S] 85)).cell? ((⟨W.heap.size, 0, none⟩ : Addr).add j) = some x := by
  obtain ⟨h0, h1, h2, -, -, -⟩ := box_cell (box_new W (.int .i64 u.K) (.int .i64 u.N) (.string u.S) 85)
  intro j x hj
  rw [Addr.add_lit, Nat.zero_add]
  match j, hj with
  | 0, hj => rw [h0]; simpa using hj
  | 1, hj => rw [h1]; simpa using hj
  | 2, hj => rw [h2]; simpa using hj
theorem news_one (u : V3) : ∀ x ∈ ([.int .i64 u.K, .int .i64 u.N, .string u.S] : List Value), x.oneCell' = true := by
  intro x hx
  simp only [List.mem_cons, List.not_mem_nil, or_false] at hx
  rcases hx with rfl | rfl | rfl <;> rfl
/-- a value appended, and the row stored into the fact -/
theorem Drw.grew {w0 W W' : World} {B q F g cap : Nat} {kd : ByteArray} {v : Value} {L : List V3} {u : V3} (h : Drw w0 B q F kd v L W) (hu : u.S.size ≤ 21)
    (ho : W'.ownsRow (F + 1) 85 3 (.slice (some ⟨g, 0, none⟩) (L.length + 1) cap) (L.length + 1) (cells3 L ++ [.int .i64 u.K, .int .i64 u.N, .string u.S])) (hg : W.grownBy W' v.ownBlock) :
    W'.cell? ⟨F, 1, none⟩ = some v ∧ W'.frozen? ⟨F, 1, none⟩ = false ∧ Drw w0 B q F kd (.slice (some ⟨g, 0, none⟩) (L.length + 1) cap) (L ++ [u]) (W'.setCell ⟨F, 1, none⟩ (.slice (some ⟨g, 0, none⟩) (L.length + 1) cap)) := by
  have hF := h.lt
  have hne : v.ownBlock ≠ some F := by
    intro e
    have := (h.row.lt F e).1; omega
  have hb : W'.heap[F]? = some (.cells #[.string kd, v] 41 (0, 0)) := by rw [hg.block F hF (fun e => hne e.symm)]; exact h.box
  obtain ⟨-, c1, -, f1⟩ := box2_cell hb
  obtain ⟨hb2, gr2⟩ := box2_set1 hb (.slice (some ⟨g, 0, none⟩) (L.length + 1) cap)
  have hne2 : v.ownBlock ≠ some q := by
    intro e
    have := (h.row.lt q e).1
    have := h.far; omega
  have hgF : F + 1 ≤ g := (ho.lt g rfl).1
  have hne3 : v.ownBlock ≠ some w0.heap.size := by
    intro e
    have := (h.row.lt w0.heap.size e).1
    have := h.far; omega
  have hres : W'.heap[w0.heap.size]? = some (.cells #[.string ⟨#[]⟩, .slice none 0 0] 41 (0, 0)) := by rw [hg.block _ (Array.getElem?_eq_some_iff.1 h.res).1 (fun e => hne3 e.symm)]; exact h.res
  refine ⟨c1, f1, ?_, hb2, ?_, ?_, h.far, box_grown hres gr2 (by have := h.far; omega), ?_⟩
  · refine (h.cur.keep hg (fun e => hne2 e) (fun k hk => ?_)).keep gr2 (by have := h.far; simp; omega) (fun k hk => by cases hk; have := h.far; have := h.cur.1; omega)
    have := (h.row.lt k hk).1
    have := h.far; have := h.cur.1; omega
  · have := ho.kept gr2 (.inr (by simp [Value.ownBlock]; omega))
    rw [app3] at this
    rw [List.length_append]
    exact this
  · refine grown_more (grown_more h.gr hg (fun k hk => ?_)) gr2 (fun k hk => by cases hk; have := h.far; omega)
    have := (h.row.lt k hk).1
    have := h.far; omega
  · intro x hx
    rcases List.mem_append.1 hx with hx | hx
    · exact h.small x hx
    · simp only [List.mem_cons, List.not_mem_nil, or_false] at hx
      rw [hx]; exact hu

/-- some fact was drawn -/
def DrawnF (w : World) (B q : Nat) (e : Ending) (w' : World) : Prop := ∃ (kd : ByteArray) (v : Value) (L : List V3), e = .returned (.agg #[.string kd, v]) ∧ L.length ≤ 6 ∧ (kd.size ≤ 21 ∧ kd ≠ ⟨#[102, 117, 108, 108]⟩) ∧ (∀ u ∈ L, u.S.size ≤ 21) ∧ w'.ownsRow w.heap.size 85 3 v L.length (cells3 L) ∧ Cur B w' q ∧ w.grownBy w' (some q)

set_option maxRecDepth 100000 in
set_option maxHeartbeats 3200000 in
theorem l3Draw_any (B q : Nat) (w : World) (hc : Cur B w q) :
    Calls Tryd.prog 77 #[.pointer (some ⟨q, 0, none⟩)] w (DrawnF w B q) := by
  obtain ⟨i0, hi, hz0, hz1, hz2⟩ := info_parts Tryd.info85
  have hq := hc.lt
  have hB := hc.1
  go_enter Tryd.func77, Tryd.ntmps77
  go_wp2_with fail
  have G0 := grown_alloc w (.cells #[.string ⟨#[]⟩, .slice none 0 0] 41) q
  have HR0 := hide (box2_new w (.string ⟨#[]⟩) (.slice none 0 0) 41)
  have c0 : Cur B (w.alloc (.cells #[.string ⟨#[]⟩, .slice none 0 0] 41)) q := hc.keep (World.grownBy_alloc w _ none) (by simp) (by simp)
  have z0 : (w.alloc (.cells #[.string ⟨#[]⟩, .slice none 0 0] 41)).heap.size = w.heap.size + 1 := by simp
  generalize w.alloc (.cells #[.string ⟨#[]⟩, .slice none 0 0] 41) = w0 at G0 HR0 c0 z0 ⊢
  have l1 : w.heap.size < w0.heap.size := by omega
  rw [← z0]
  refine (l1Str_any B q w0.heap.size [⟨#[111, 114, 100, 101, 114]⟩, ⟨#[112, 97, 105, 100]⟩, ⟨#[105, 116, 101, 109]⟩, ⟨#[111, 114, 100, 101, 114]⟩] 4 _ (c0.keep (World.grownBy_alloc w0 _ none) (by simp) (by simp)) (by decide) (by decide) (by omega) (cells_strs w0 9 _)).mono ?_
  rintro e w1 ⟨kd, rfl, hx, c1, g1⟩
  have HR1 := hide (box_grown (box_alloc HR0.out _) g1 (by omega))
  have G1 : w.grownBy w1 (some q) := grown_trans (grown_trans G0 (grown_alloc w0 _ q)) g1
  have z1 : w.heap.size < w1.heap.size := by have := g1.size; simp at this; omega
  have HKd : Hid (kd.size ≤ 21 ∧ kd ≠ ⟨#[102, 117, 108, 108]⟩) := by
    unfold Hid
    simp only [List.mem_cons, List.not_mem_nil, or_false] at hx
    rcases hx with rfl | rfl | rfl | rfl <;> decide
  clear hx g1 c0 G0 HR0
  cases hk : (kd.toList == [105, 116, 101, 109])
  · go_wp2_with fail
    have D0 : Drw w B q w1.heap.size kd (.slice none 0 0) [] (w1.alloc (.cells #[.string kd, .slice none 0 0] 41)) := ⟨c1.keep (World.grownBy_alloc w1 _ none) (by simp) (by simp), box2_new w1 _ _ _, World.ownsRow_nil _ _ _ _, grown_trans G1 (grown_alloc w1 _ q), ⟨hq, z1⟩, box_alloc HR1.out _, fun v hv => by cases hv⟩
    refine (l1Once_any B q 12 _ D0.cur (by omega) (by omega)).mono ?_
    rintro e w2 ⟨b, rfl, c2, g2⟩
    have D1 := D0.draws c2 g2
    clear g2 c2 D0 G1 HR1
    cases b
    · have D := D1
      clear D1
      go_wp2
      obtain ⟨F, HF⟩ : ∃ F, Hid (w1.heap.size = F) := ⟨_, rfl⟩
      rw [HF.out] at D ⊢
      clear HF
      go_loopw [5] (fun i wr => ∃ (k : Nat) (v : Value) (L : List V3), L.length = k ∧ (k : Int) ≤ 1 ∧ i = .int .i64 k ∧ Drw w B q F kd v L wr) (fun i _ => (1 - intOf i).toNat)
      case atStart => exact ⟨0, _, [], rfl, by omega, rfl, D⟩
      case round =>
        obtain ⟨k, v, L, rfl, hk, rfl, D2⟩ := hrel
        clear D
        by_cases hlt : (L.length : Int) < 1
        · obtain ⟨-, c1', -, f1'⟩ := box2_cell D2.box
          have HD := hide D2
          clear D2
          go_wp2_with fail
          go_region_law (first
            | (refine step_append_lies _ rfl (.tmp 23) (.tmp 26) 39 rfl (F + 1) 85 i0 (.agg #[.int .i64 0, .int .i64 0, .string ⟨#[]⟩]) 3 32 Tryd.underlying39 hi hz0 hz1 hz2 rfl (by omega) v L.length (cells3 L) (by simp [Act.eval]) (D3.alloc _).row ⟨w3.heap.size, 0, none⟩ 1 1 [.int .i64 u.K, .int .i64 u.N, .string u.S] (by simp [Act.eval]) rfl (news_src w3 u) (news_one u) (by omega) (by unfold maxLen; omega) (by omega) (by have := D3.lt; simp; omega) _ rfl ?_; intro g cap w4 ho4 hg4 hat4 hlt4; obtain ⟨x1, y1, D4⟩ := (D3.alloc _).grew hu ho4 hg4)
            | (rw [if_pos (by simp [Region.wanted])]; go_simp; go_at_call 91; refine (l3Small_any B q _ HD.out.drew.cur).mono ?_; rintro e w3 ⟨u, rfl, hu, c3, g3⟩; have D3 := HD.out.drew.draws c3 g3; obtain ⟨-, c3', -, f3'⟩ := box2_cell D3.box; obtain ⟨-, c3'', -, f3''⟩ := box2_cell (D3.alloc (.cells #[.int .i64 u.K, .int .i64 u.N, .string u.S] 85)).box))
          all_goals
            have HD4 := hide D4
            clear c1' f1' c3' f3' c3'' f3'' x1 y1 D3 D4 HD
            go_wp2
            go_roundw
            case rel => exact ⟨L.length + 1, _, L ++ [u], by simp, by omega, by go_num, HD4.out⟩
            case measure => simp [intOf]; omega
        · obtain ⟨c0', c1', -, -⟩ := box2_cell D2.box
          obtain ⟨r0, r1, rf0, rf1⟩ := box2_cell D2.res
          obtain ⟨a, n, cp, hv⟩ : ∃ a n cp, v = .slice a n cp := by
            rcases D2.row.2 with ⟨h, _⟩ | ⟨g, cp, _, h, _⟩
            · exact ⟨_, _, _, h⟩
            · exact ⟨_, _, _, h⟩
          subst hv
          have HD := hide D2
          clear D2
          go_wp2
          refine box2_post HD.out.res (fun w9 h9 gr => ?_)
          clear c0' c1' r0 r1 rf0 rf1
          obtain ⟨c0', c1', -, -⟩ := box2_cell h9
          have far := HD.out.far
          exact bodyPost_ret (v := .agg #[.string kd, .slice a n cp]) (by simp [results, Tryd.results77, go_sem, c0', c1']) rfl ⟨kd, _, L, rfl, by omega, HKd.out, HD.out.small, owns_base (HD.out.row.kept gr (own_ne HD.out.row (by omega))) (by omega), HD.out.cur.keep gr (by simp; omega) (fun k hk => by cases hk; omega), grown_more HD.out.gr gr (fun k hk => by cases hk; exact Nat.le_refl _)⟩
    · go_wp2_with fail
      refine (l1Below_any B q 6 _ D1.cur (by omega) (by omega)).mono ?_
      rintro e w3 ⟨N, rfl, x0, x1, c3, g3⟩
      have D := D1.draws c3 g3
      clear g3 c3 D1
      go_wp2
      obtain ⟨F, HF⟩ : ∃ F, Hid (w1.heap.size = F) := ⟨_, rfl⟩
      rw [HF.out] at D ⊢
      clear HF
      go_loopw [5] (fun i wr => ∃ (k : Nat) (v : Value) (L : List V3), L.length = k ∧ (k : Int) ≤ N ∧ i = .int .i64 k ∧ Drw w B q F kd v L wr) (fun i _ => (N - intOf i).toNat)
      case atStart => exact ⟨0, _, [], rfl, by omega, rfl, D⟩
      case round =>
        obtain ⟨k, v, L, rfl, hk, rfl, D2⟩ := hrel
        clear D
        by_cases hlt : (L.length : Int) < N
        · obtain ⟨-, c1', -, f1'⟩ := box2_cell D2.box
          have HD := hide D2
          clear D2
          go_wp2_with fail
          go_region_law (first
            | (refine step_append_lies _ rfl (.tmp 23) (.tmp 26) 39 rfl (F + 1) 85 i0 (.agg #[.int .i64 0, .int .i64 0, .string ⟨#[]⟩]) 3 32 Tryd.underlying39 hi hz0 hz1 hz2 rfl (by omega) v L.length (cells3 L) (by simp [Act.eval]) (D3.alloc _).row ⟨w3.heap.size, 0, none⟩ 1 1 [.int .i64 u.K, .int .i64 u.N, .string u.S] (by simp [Act.eval]) rfl (news_src w3 u) (news_one u) (by omega) (by unfold maxLen; omega) (by omega) (by have := D3.lt; simp; omega) _ rfl ?_; intro g cap w4 ho4 hg4 hat4 hlt4; obtain ⟨x1, y1, D4⟩ := (D3.alloc _).grew hu ho4 hg4)
            | (rw [if_pos (by simp [Region.wanted])]; go_simp; go_at_call 91; refine (l3Small_any B q _ HD.out.drew.cur).mono ?_; rintro e w3 ⟨u, rfl, hu, c3, g3⟩; have D3 := HD.out.drew.draws c3 g3; obtain ⟨-, c3', -, f3'⟩ := box2_cell D3.box; obtain ⟨-, c3'', -, f3''⟩ := box2_cell (D3.alloc (.cells #[.int .i64 u.K, .int .i64 u.N, .string u.S] 85)).box))
          all_goals
            have HD4 := hide D4
            clear c1' f1' c3' f3' c3'' f3'' x1 y1 D3 D4 HD
            go_wp2
            go_roundw
            case rel => exact ⟨L.length + 1, _, L ++ [u], by simp, by omega, by go_num, HD4.out⟩
            case measure => simp [intOf]; omega
        · obtain ⟨c0', c1', -, -⟩ := box2_cell D2.box
          obtain ⟨r0, r1, rf0, rf1⟩ := box2_cell D2.res
          obtain ⟨a, n, cp, hv⟩ : ∃ a n cp, v = .slice a n cp := by
            rcases D2.row.2 with ⟨h, _⟩ | ⟨g, cp, _, h, _⟩
            · exact ⟨_, _, _, h⟩
            · exact ⟨_, _, _, h⟩
          subst hv
          have HD := hide D2
          clear D2
          go_wp2
          refine box2_post HD.out.res (fun w9 h9 gr => ?_)
          clear c0' c1' r0 r1 rf0 rf1
          obtain ⟨c0', c1', -, -⟩ := box2_cell h9
          have far := HD.out.far
          exact bodyPost_ret (v := .agg #[.string kd, .slice a n cp]) (by simp [results, Tryd.results77, go_sem, c0', c1']) rfl ⟨kd, _, L, rfl, by omega, HKd.out, HD.out.small, owns_base (HD.out.row.kept gr (own_ne HD.out.row (by omega))) (by omega), HD.out.cur.keep gr (by simp; omega) (fun k hk => by cases hk; omega), grown_more HD.out.gr gr (fun k hk => by cases hk; exact Nat.le_refl _)⟩
  · go_wp2_with fail
    have D0 : Drw w B q w1.heap.size kd (.slice none 0 0) [] (w1.alloc (.cells #[.string kd, .slice none 0 0] 41)) := ⟨c1.keep (World.grownBy_alloc w1 _ none) (by simp) (by simp), box2_new w1 _ _ _, World.ownsRow_nil _ _ _ _, grown_trans G1 (grown_alloc w1 _ q), ⟨hq, z1⟩, box_alloc HR1.out _, fun v hv => by cases hv⟩
    refine (l1Once_any B q 12 _ D0.cur (by omega) (by omega)).mono ?_
    rintro e w2 ⟨b, rfl, c2, g2⟩
    have D1 := D0.draws c2 g2
    clear g2 c2 D0 G1 HR1
    cases b
    · have D := D1
      clear D1
      go_wp2
      obtain ⟨F, HF⟩ : ∃ F, Hid (w1.heap.size = F) := ⟨_, rfl⟩
      rw [HF.out] at D ⊢
      clear HF
      go_loopw [5] (fun i wr => ∃ (k : Nat) (v : Value) (L : List V3), L.length = k ∧ (k : Int) ≤ 2 ∧ i = .int .i64 k ∧ Drw w B q F kd v L wr) (fun i _ => (2 - intOf i).toNat)
      case atStart => exact ⟨0, _, [], rfl, by omega, rfl, D⟩
      case round =>
        obtain ⟨k, v, L, rfl, hk, rfl, D2⟩ := hrel
        clear D
        by_cases hlt : (L.length : Int) < 2
        · obtain ⟨-, c1', -, f1'⟩ := box2_cell D2.box
          have HD := hide D2
          clear D2
          go_wp2_with fail
          go_region_law (first
            | (refine step_append_lies _ rfl (.tmp 23) (.tmp 26) 39 rfl (F + 1) 85 i0 (.agg #[.int .i64 0, .int .i64 0, .string ⟨#[]⟩]) 3 32 Tryd.underlying39 hi hz0 hz1 hz2 rfl (by omega) v L.length (cells3 L) (by simp [Act.eval]) (D3.alloc _).row ⟨w3.heap.size, 0, none⟩ 1 1 [.int .i64 u.K, .int .i64 u.N, .string u.S] (by simp [Act.eval]) rfl (news_src w3 u) (news_one u) (by omega) (by unfold maxLen; omega) (by omega) (by have := D3.lt; simp; omega) _ rfl ?_; intro g cap w4 ho4 hg4 hat4 hlt4; obtain ⟨x1, y1, D4⟩ := (D3.alloc _).grew hu ho4 hg4)
            | (rw [if_pos (by simp [Region.wanted])]; go_simp; go_at_call 91; refine (l3Small_any B q _ HD.out.drew.cur).mono ?_; rintro e w3 ⟨u, rfl, hu, c3, g3⟩; have D3 := HD.out.drew.draws c3 g3; obtain ⟨-, c3', -, f3'⟩ := box2_cell D3.box; obtain ⟨-, c3'', -, f3''⟩ := box2_cell (D3.alloc (.cells #[.int .i64 u.K, .int .i64 u.N, .string u.S] 85)).box))
          all_goals
            have HD4 := hide D4
            clear c1' f1' c3' f3' c3'' f3'' x1 y1 D3 D4 HD
            go_wp2
            go_roundw
            case rel => exact ⟨L.length + 1, _, L ++ [u], by simp, by omega, by go_num, HD4.out⟩
            case measure => simp [intOf]; omega
        · obtain ⟨c0', c1', -, -⟩ := box2_cell D2.box
          obtain ⟨r0, r1, rf0, rf1⟩ := box2_cell D2.res
          obtain ⟨a, n, cp, hv⟩ : ∃ a n cp, v = .slice a n cp := by
            rcases D2.row.2 with ⟨h, _⟩ | ⟨g, cp, _, h, _⟩
            · exact ⟨_, _, _, h⟩
            · exact ⟨_, _, _, h⟩
          subst hv
          have HD := hide D2
          clear D2
          go_wp2
          refine box2_post HD.out.res (fun w9 h9 gr => ?_)
          clear c0' c1' r0 r1 rf0 rf1
          obtain ⟨c0', c1', -, -⟩ := box2_cell h9
          have far := HD.out.far
          exact bodyPost_ret (v := .agg #[.string kd, .slice a n cp]) (by simp [results, Tryd.results77, go_sem, c0', c1']) rfl ⟨kd, _, L, rfl, by omega, HKd.out, HD.out.small, owns_base (HD.out.row.kept gr (own_ne HD.out.row (by omega))) (by omega), HD.out.cur.keep gr (by simp; omega) (fun k hk => by cases hk; omega), grown_more HD.out.gr gr (fun k hk => by cases hk; exact Nat.le_refl _)⟩
    · go_wp2_with fail
      refine (l1Below_any B q 6 _ D1.cur (by omega) (by omega)).mono ?_
      rintro e w3 ⟨N, rfl, x0, x1, c3, g3⟩
      have D := D1.draws c3 g3
      clear g3 c3 D1
      go_wp2
      obtain ⟨F, HF⟩ : ∃ F, Hid (w1.heap.size = F) := ⟨_, rfl⟩
      rw [HF.out] at D ⊢
      clear HF
      go_loopw [5] (fun i wr => ∃ (k : Nat) (v : Value) (L : List V3), L.length = k ∧ (k : Int) ≤ N ∧ i = .int .i64 k ∧ Drw w B q F kd v L wr) (fun i _ => (N - intOf i).toNat)
      case atStart => exact ⟨0, _, [], rfl, by omega, rfl, D⟩
      case round =>
        obtain ⟨k, v, L, rfl, hk, rfl, D2⟩ := hrel
        clear D
        by_cases hlt : (L.length : Int) < N
        · obtain ⟨-, c1', -, f1'⟩ := box2_cell D2.box
          have HD := hide D2
          clear D2
          go_wp2_with fail
          go_region_law (first
            | (refine step_append_lies _ rfl (.tmp 23) (.tmp 26) 39 rfl (F + 1) 85 i0 (.agg #[.int .i64 0, .int .i64 0, .string ⟨#[]⟩]) 3 32 Tryd.underlying39 hi hz0 hz1 hz2 rfl (by omega) v L.length (cells3 L) (by simp [Act.eval]) (D3.alloc _).row ⟨w3.heap.size, 0, none⟩ 1 1 [.int .i64 u.K, .int .i64 u.N, .string u.S] (by simp [Act.eval]) rfl (news_src w3 u) (news_one u) (by omega) (by unfold maxLen; omega) (by omega) (by have := D3.lt; simp; omega) _ rfl ?_; intro g cap w4 ho4 hg4 hat4 hlt4; obtain ⟨x1, y1, D4⟩ := (D3.alloc _).grew hu ho4 hg4)
            | (rw [if_pos (by simp [Region.wanted])]; go_simp; go_at_call 91; refine (l3Small_any B q _ HD.out.drew.cur).mono ?_; rintro e w3 ⟨u, rfl, hu, c3, g3⟩; have D3 := HD.out.drew.draws c3 g3; obtain ⟨-, c3', -, f3'⟩ := box2_cell D3.box; obtain ⟨-, c3'', -, f3''⟩ := box2_cell (D3.alloc (.cells #[.int .i64 u.K, .int .i64 u.N, .string u.S] 85)).box))
          all_goals
            have HD4 := hide D4
            clear c1' f1' c3' f3' c3'' f3'' x1 y1 D3 D4 HD
            go_wp2
            go_roundw
            case rel => exact ⟨L.length + 1, _, L ++ [u], by simp, by omega, by go_num, HD4.out⟩
            case measure => simp [intOf]; omega
        · obtain ⟨c0', c1', -, -⟩ := box2_cell D2.box
          obtain ⟨r0, r1, rf0, rf1⟩ := box2_cell D2.res
          obtain ⟨a, n, cp, hv⟩ : ∃ a n cp, v = .slice a n cp := by
            rcases D2.row.2 with ⟨h, _⟩ | ⟨g, cp, _, h, _⟩
            · exact ⟨_, _, _, h⟩
            · exact ⟨_, _, _, h⟩
          subst hv
          have HD := hide D2
          clear D2
          go_wp2
          refine box2_post HD.out.res (fun w9 h9 gr => ?_)
          clear c0' c1' r0 r1 rf0 rf1
          obtain ⟨c0', c1', -, -⟩ := box2_cell h9
          have far := HD.out.far
          exact bodyPost_ret (v := .agg #[.string kd, .slice a n cp]) (by simp [results, Tryd.results77, go_sem, c0', c1']) rfl ⟨kd, _, L, rfl, by omega, HKd.out, HD.out.small, owns_base (HD.out.row.kept gr (own_ne HD.out.row (by omega))) (by omega), HD.out.cur.keep gr (by simp; omega) (fun k hk => by cases hk; omega), grown_more HD.out.gr gr (fun k hk => by cases hk; exact Nat.le_refl _)⟩
end Go.Proofs.YtaflokfgbmlmaadDoor
