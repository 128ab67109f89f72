/-
  The draws of matches: l11Match (a rule's place, at most three numbers), DrawSameMatch, DrawLessMatch.
-/
import Derived.Test.YtfgigcdfmkfkjaaMatchRow
import Derived.Test.YtfgigcdfmkfkjaaDrawB
import Derived.Test.YtfgigcdfmkfkjaaDrawV
import Derived.Test.YtfgigcdfmkfkjaaBoxK
import Derived.Deep.AppendLies
import Derived.Deep.RegionLaw
namespace Go.Proofs.Ytfgigcdfmkfkjaa
open Go.RowKit
set_option linter.unusedVariables false
set_option maxRecDepth 100000

theorem srcNm (W : World) (z : Int) : ∀ j u, ([.int .i64 z] : List Value)[j]? = some u → (W.alloc (.cells #[.int .i64 z] 3)).cell? ((⟨W.heap.size, 0, none⟩ : Addr).add j) = some u := by
  intro j u hj
  rw [Addr.add_lit, Nat.zero_add]
  match j, hj with
  | 0, hj => rw [boxk_cell (boxk_new W #[.int .i64 z] 3) 0 _ rfl]; simpa using hj
theorem oneNm (z : Int) : ∀ u ∈ ([.int .i64 z] : List Value), u.oneCell' = true := by
  intro u hu
  simp only [List.mem_cons, List.not_mem_nil, or_false] at hu
  rw [hu]; rfl
theorem valsN_app (zs : List Int) (z : Int) : valsN zs ++ [.int .i64 z] = valsN (zs ++ [z]) := by simp [valsN]
/-- a match being drawn: its block F, its row of numbers -/
structure Mdr (w0 : World) (B q F : Nat) (r : Int) (v : Value) (L : List Int) (W : World) : Prop where
  cur : Cur B W q
  box : W.heap[F]? = some (.cells #[.int .i64 r, v, .slice none 0 0] 30 (0, 0))
  row : W.ownsRow (F + 1) 3 1 v L.length (valsN L)
  gr : w0.grownBy W (some q)
  far : q < w0.heap.size ∧ w0.heap.size < F
  res : W.heap[w0.heap.size]? = some (.cells #[.int .i64 0, .slice none 0 0, .slice none 0 0] 30 (0, 0))
theorem Mdr.lt {w0 W : World} {B q F : Nat} {r : Int} {v : Value} {L : List Int} (h : Mdr w0 B q F r v L W) : F < W.heap.size := (Array.getElem?_eq_some_iff.1 h.box).1
theorem ownN_ne {W : World} {F q : Nat} {v : Value} {n : Nat} {xs : List Value} (h : W.ownsRow (F + 1) 3 1 v n xs) (hq : q ≤ F) : v.ownBlock = none ∨ v.ownBlock ≠ some q := by
  cases hv2 : v.ownBlock with
  | none => exact .inl rfl
  | some g => right; intro e; have := (h.lt g hv2).1; cases e; omega
theorem Mdr.drew {w0 W : World} {B q F : Nat} {r : Int} {v : Value} {L : List Int} (h : Mdr w0 B q F r v L W) : Mdr w0 B q F r v L W.drew :=
  ⟨h.cur, h.box, h.row, ⟨h.gr.os, h.gr.tape, h.gr.output, h.gr.size, h.gr.block⟩, h.far, h.res⟩
theorem Mdr.draws {w0 W W' : World} {B q F : Nat} {r : Int} {v : Value} {L : List Int} (h : Mdr w0 B q F r v L W) (c : Cur B W' q) (g : W.grownBy W' (some q)) : Mdr w0 B q F r v L W' :=
  ⟨c, box_grown h.box g (by have := h.far; omega), h.row.kept g (ownN_ne h.row (by have := h.far; omega)), grown_trans h.gr g, h.far, box_grown h.res g (by have := h.far; omega)⟩
theorem Mdr.alloc {w0 W : World} {B q F : Nat} {r : Int} {v : Value} {L : List Int} (h : Mdr w0 B q F r v L W) (o : Obj) : Mdr w0 B q F r v L (W.alloc o) :=
  ⟨h.cur.keep (World.grownBy_alloc W o none) (by simp) (by simp), box_alloc h.box o, h.row.alloc o, grown_trans h.gr (grown_alloc W o q), h.far, box_alloc h.res o⟩
theorem Mdr.grew {w0 W W' : World} {B q F g cap : Nat} {r : Int} {v : Value} {L : List Int} {u : Int} (h : Mdr w0 B q F r v L W)
    (ho : W'.ownsRow (F + 1) 3 1 (.slice (some ⟨g, 0, none⟩) (L.length + 1) cap) (L.length + 1) (valsN L ++ [.int .i64 u])) (hg : W.grownBy W' v.ownBlock) :
    W'.cell? ⟨F, 1, none⟩ = some v ∧ W'.frozen? ⟨F, 1, none⟩ = false ∧ Mdr w0 B q F r (.slice (some ⟨g, 0, none⟩) (L.length + 1) cap) (L ++ [u]) (W'.setCell ⟨F, 1, none⟩ (.slice (some ⟨g, 0, none⟩) (L.length + 1) cap)) := by
  have hF := h.lt
  have hne : v.ownBlock ≠ some F := by
    intro e
    have := (h.row.lt F e).1; omega
  have hb : W'.heap[F]? = some (.cells #[.int .i64 r, v, .slice none 0 0] 30 (0, 0)) := by rw [hg.block F hF (fun e => hne e.symm)]; exact h.box
  have c1 := boxk_cell hb 1 _ rfl
  have f1 := boxk_frozen hb 1
  obtain ⟨hb2, gr2⟩ := boxk_set hb 1 (.slice (some ⟨g, 0, none⟩) (L.length + 1) cap)
  have hne2 : v.ownBlock ≠ some q := by
    intro e
    have := (h.row.lt q e).1
    have := h.far; omega
  have hgF : F + 1 ≤ g := (ho.lt g rfl).1
  have hne3 : v.ownBlock ≠ some w0.heap.size := by
    intro e
    have := (h.row.lt w0.heap.size e).1
    have := h.far; omega
  have hres : W'.heap[w0.heap.size]? = some (.cells #[.int .i64 0, .slice none 0 0, .slice none 0 0] 30 (0, 0)) := by rw [hg.block _ (Array.getElem?_eq_some_iff.1 h.res).1 (fun e => hne3 e.symm)]; exact h.res
  refine ⟨c1, f1, ?_, hb2, ?_, ?_, h.far, box_grown hres gr2 (by have := h.far; omega)⟩
  · refine (h.cur.keep hg (fun e => hne2 e) (fun k hk => ?_)).keep gr2 (by have := h.far; simp; omega) (fun k hk => by cases hk; have := h.far; have := h.cur.1; omega)
    have := (h.row.lt k hk).1
    have := h.far; have := h.cur.1; omega
  · have := ho.kept gr2 (.inr (by simp [Value.ownBlock]; omega))
    rw [valsN_app] at this
    rw [List.length_append]
    exact this
  · refine grown_more (grown_more h.gr hg (fun k hk => ?_)) gr2 (fun k hk => by cases hk; have := h.far; omega)
    have := (h.row.lt k hk).1
    have := h.far; omega

/-- some match was drawn -/
def DrawnM (w : World) (B q : Nat) (e : Ending) (w' : World) : Prop := ∃ (r : Int) (v : Value) (L : List Int), e = .returned (.agg #[.int .i64 r, v, .slice none 0 0]) ∧ L.length ≤ 3 ∧ w'.ownsRow w.heap.size 3 1 v L.length (valsN L) ∧ Cur B w' q ∧ w.grownBy w' (some q)

set_option maxHeartbeats 3200000 in
theorem l11Match_any (B q : Nat) (w : World) (hc : Cur B w q) :
    Calls Try.prog 115 #[.pointer (some ⟨q, 0, none⟩)] w (DrawnM w B q) := by
  obtain ⟨i0, hi, hz0, hz1, hz2⟩ := info_parts infoInt
  have hq := hc.lt
  have hB := hc.1
  go_enter Try.func115, Try.ntmps115
  go_wp2_with fail
  have G0 := grown_alloc w (.cells #[.int .i64 0, .slice none 0 0, .slice none 0 0] 30) q
  have HR0 := hide (boxk_new w #[.int .i64 0, .slice none 0 0, .slice none 0 0] 30)
  have c0 : Cur B (w.alloc (.cells #[.int .i64 0, .slice none 0 0, .slice none 0 0] 30)) q := hc.keep (World.grownBy_alloc w _ none) (by simp) (by simp)
  have z0 : (w.alloc (.cells #[.int .i64 0, .slice none 0 0, .slice none 0 0] 30)).heap.size = w.heap.size + 1 := by simp
  generalize w.alloc (.cells #[.int .i64 0, .slice none 0 0, .slice none 0 0] 30) = w0 at G0 HR0 c0 z0 ⊢
  refine (l1Below_any B q 3 _ c0 (by omega) (by omega)).mono ?_
  rintro e w1 ⟨r, rfl, r0, r1, c1, g1⟩
  have HR1 := hide (box_grown HR0.out g1 (by omega))
  have G1 : w.grownBy w1 (some q) := grown_trans G0 g1
  have z1 : w.heap.size < w1.heap.size := by have := g1.size; omega
  have D0 : Mdr w B q w1.heap.size r (.slice none 0 0) [] (w1.alloc (.cells #[.int .i64 r, .slice none 0 0, .slice none 0 0] 30)) := ⟨c1.keep (World.grownBy_alloc w1 _ none) (by simp) (by simp), boxk_new w1 _ _, World.ownsRow_nil _ _ _ _, grown_trans G1 (grown_alloc w1 _ q), ⟨hq, z1⟩, box_alloc HR1.out _⟩
  clear g1 c0 G0 HR0 z0 HR1 G1 c1 r0 r1
  go_wp2_with fail
  refine (l1Below_any B q 4 _ D0.cur (by omega) (by omega)).mono ?_
  rintro e w2 ⟨x, rfl, x0, x1, c2, g2⟩
  have D := D0.draws c2 g2
  obtain ⟨n, rfl⟩ : ∃ n : Nat, x = (n : Int) := ⟨x.toNat, by omega⟩
  have hn3 : n ≤ 3 := by omega
  clear g2 c2 D0 x0 x1
  go_wp2
  obtain ⟨F, HF⟩ : ∃ F, Hid (w1.heap.size = F) := ⟨_, rfl⟩
  rw [HF.out] at D ⊢
  clear HF
  go_loopw [4] (fun i wr => ∃ (k : Nat) (v : Value) (L : List Int), L.length + k = n ∧ i = .int .i64 k ∧ Mdr w B q F r v L wr) (fun i _ => (intOf i).toNat)
  case atStart => exact ⟨n, _, [], by simp, rfl, D⟩
  case round =>
    obtain ⟨k, v, L, hlen, rfl, D2⟩ := hrel
    clear D
    by_cases hlt : 0 < k
    · have hlti : (0 : Int) < (k : Int) := by omega
      obtain ⟨m, rfl⟩ : ∃ m, k = m + 1 := ⟨k - 1, by omega⟩
      have c1' := boxk_cell D2.box 1 _ rfl
      have f1' := boxk_frozen D2.box 1
      have HD := hide D2
      clear D2
      go_wp2_with fail
      go_region_law (first
        | (refine step_append_lies _ rfl (.tmp 15) (.tmp 19) 22 rfl (F + 1) 3 i0 (.int .i64 0) 1 8 Try.underlying22 hi hz0 hz1 hz2 rfl (by omega) v L.length (valsN L) (by simp [Act.eval]) (D3.alloc _).row ⟨w3.heap.size, 0, none⟩ 1 1 [.int .i64 (1 + y)] (by simp [Act.eval]) rfl (srcNm w3 (1 + y)) (oneNm (1 + y)) (by omega) (by unfold maxLen; omega) (by omega) (by have := D3.lt; simp; omega) _ rfl ?_; intro g cap w4 ho4 hg4 hat4 hlt4; obtain ⟨x1, y1, D4⟩ := (D3.alloc _).grew ho4 hg4)
        | (rw [if_pos (by simp [Region.wanted])]; go_simp; go_at_call 139; refine (l1Below_any B q 3 _ HD.out.drew.cur (by omega) (by omega)).mono ?_; rintro e w3 ⟨y, rfl, y0, y2, c3, g3⟩; have hwy : IntKind.i64.wrap (1 + y) = 1 + y := by rw [IntKind.wrap_i64]; omega
           have D3 := HD.out.drew.draws c3 g3; have c3' := boxk_cell D3.box 1 _ rfl; have f3' := boxk_frozen D3.box 1; have c3'' := boxk_cell (D3.alloc (.cells #[.int .i64 (1 + y)] 3)).box 1 _ rfl; have f3'' := boxk_frozen (D3.alloc (.cells #[.int .i64 (1 + y)] 3)).box 1))
      all_goals
        have HD4 := hide D4
        have hw2 : IntKind.i64.wrap (((m + 1 : Nat) : Int) - 1) = (m : Int) := by rw [IntKind.wrap_i64]; omega
        clear c1' f1' c3' f3' c3'' f3'' x1 y1 D3 D4 HD
        go_wp2
        go_roundw
        case rel => exact ⟨m, _, L ++ [1 + y], by simp; omega, by go_num, HD4.out⟩
        case measure => first | (simp [intOf]; omega) | simp [intOf]
    · obtain rfl : k = 0 := by omega
      have hnl : ¬ ((0 : Int) < ((0 : Nat) : Int)) := by omega
      have c0' := boxk_cell D2.box 0 _ rfl
      have c1' := boxk_cell D2.box 1 _ rfl
      have c2' := boxk_cell D2.box 2 _ rfl
      have r0 := boxk_cell D2.res 0 _ rfl
      have r1 := boxk_cell D2.res 1 _ rfl
      have r2 := boxk_cell D2.res 2 _ rfl
      have rf0 := boxk_frozen D2.res 0
      have rf1 := boxk_frozen D2.res 1
      have rf2 := boxk_frozen D2.res 2
      obtain ⟨a, nn, cp, hv⟩ : ∃ a n cp, v = .slice a n cp := by
        rcases D2.row.2 with ⟨h, _⟩ | ⟨g, cp, _, h, _⟩
        · exact ⟨_, _, _, h⟩
        · exact ⟨_, _, _, h⟩
      subst hv
      have HD := hide D2
      have hL3 : L.length ≤ 3 := by omega
      clear D2 hlen
      go_wp2
      refine box_post HD.out.res (fun w9 h9 gr => ?_)
      clear c0' c1' c2' r0 r1 r2 rf0 rf1 rf2
      have c0' := boxk_cell h9 0 _ rfl
      have c1' := boxk_cell h9 1 _ rfl
      have c2' := boxk_cell h9 2 _ rfl
      have far := HD.out.far
      exact bodyPost_ret (v := .agg #[.int .i64 r, .slice a nn cp, .slice none 0 0]) (by simp [results, Try.results115, go_sem, c0', c1', c2']) rfl ⟨r, _, L, rfl, hL3, owns_base (HD.out.row.kept gr (ownN_ne HD.out.row (by omega))) (by omega), HD.out.cur.keep gr (by simp; omega) (fun k hk => by cases hk; omega), grown_more HD.out.gr gr (fun k hk => by cases hk; exact Nat.le_refl _)⟩
end Go.Proofs.Ytfgigcdfmkfkjaa
