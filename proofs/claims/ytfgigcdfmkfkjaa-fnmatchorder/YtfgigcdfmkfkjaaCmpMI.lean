/-
  The tested program's compareMatches, LessMatch and SameMatch: cmpP.
-/
import Derived.Test.YtfgigcdfmkfkjaaCmpM
import Derived.Test.YtfgigcdfmkfkjaaKeepM
namespace Go.Proofs.Ytfgigcdfmkfkjaa
open Go.RowKit
set_option linter.unusedVariables false
set_option maxRecDepth 100000

theorem rdN_lit (w : World) (T : TypeId) (x y z : Int) : RdN (w.alloc (.cells #[.int .i64 x, .int .i64 y, .int .i64 z] T)) (some ⟨w.heap.size, 0, none⟩) [x, y, z] := by
  intro i hi
  refine ⟨w.heap.size, 0, rfl, ?_⟩
  rw [Nat.zero_add]
  have hb := boxk_new w #[.int .i64 x, .int .i64 y, .int .i64 z] T
  simp only [List.length_cons, List.length_nil] at hi
  match i, hi with
  | 0, _ => exact boxk_cell hb 0 _ rfl
  | 1, _ => exact boxk_cell hb 1 _ rfl
  | 2, _ => exact boxk_cell hb 2 _ rfl
theorem rdN_litd (w : World) (T : TypeId) (x y z : Int) : RdN (w.alloc (.cells #[.int .i64 x, .int .i64 y, .int .i64 z] T)).drew (some ⟨w.heap.size, 0, none⟩) [x, y, z] := (rdN_lit w T x y z).heap rfl

set_option maxHeartbeats 3200000 in
theorem compareMatches_any (x y : ME) (w : World) (hx : RdMatch w x) (hy : RdMatch w y) (hlx : x.nI ≤ 1048580) (hly : y.nI ≤ 1048580) :
    Calls Try.prog 48 #[.agg #[.int .i64 x.r, .slice x.aI x.nI x.cI, .slice x.aB x.nB x.cB], .agg #[.int .i64 y.r, .slice y.aI y.nI y.cI, .slice y.aB y.nB y.cB]] w fun e w' => e = .returned (.int .i64 (cmpP x.pl y.pl)) ∧ Below w.heap.size w w' := by
  obtain ⟨hX, hY, b1⟩ := boxes2 w #[.int .i64 x.r, .slice x.aI x.nI x.cI, .slice x.aB x.nB x.cB] #[.int .i64 y.r, .slice y.aI y.nI y.cI, .slice y.aB y.nB y.cB] 30 30
  have hx1 := hx.below b1
  have hy1 := hy.below b1
  have S1 : ((w.alloc (.cells #[.int .i64 x.r, .slice x.aI x.nI x.cI, .slice x.aB x.nB x.cB] 30)).alloc (.cells #[.int .i64 y.r, .slice y.aI y.nI y.cI, .slice y.aB y.nB y.cB] 30)).cell? ⟨w.heap.size, 0, none⟩ = some (.int .i64 x.r) ∧ ((w.alloc (.cells #[.int .i64 x.r, .slice x.aI x.nI x.cI, .slice x.aB x.nB x.cB] 30)).alloc (.cells #[.int .i64 y.r, .slice y.aI y.nI y.cI, .slice y.aB y.nB y.cB] 30)).cell? ⟨w.heap.size, 1, none⟩ = some (.slice x.aI x.nI x.cI) ∧ ((w.alloc (.cells #[.int .i64 x.r, .slice x.aI x.nI x.cI, .slice x.aB x.nB x.cB] 30)).alloc (.cells #[.int .i64 y.r, .slice y.aI y.nI y.cI, .slice y.aB y.nB y.cB] 30)).cell? ⟨w.heap.size + 1, 0, none⟩ = some (.int .i64 y.r) ∧ ((w.alloc (.cells #[.int .i64 x.r, .slice x.aI x.nI x.cI, .slice x.aB x.nB x.cB] 30)).alloc (.cells #[.int .i64 y.r, .slice y.aI y.nI y.cI, .slice y.aB y.nB y.cB] 30)).cell? ⟨w.heap.size + 1, 1, none⟩ = some (.slice y.aI y.nI y.cI) ∧ TwoM w w.heap.size x y ((w.alloc (.cells #[.int .i64 x.r, .slice x.aI x.nI x.cI, .slice x.aB x.nB x.cB] 30)).alloc (.cells #[.int .i64 y.r, .slice y.aI y.nI y.cI, .slice y.aB y.nB y.cB] 30)) := ⟨boxk_cell hX 0 _ rfl, boxk_cell hX 1 _ rfl, boxk_cell hY 0 _ rfl, boxk_cell hY 1 _ rfl, hx1, hy1, b1, b1.size⟩
  have HO : Hid (cmpP x.pl y.pl = orL [Lib.compareInt x.r y.r, Lib.compareInt x.nI y.nI, cmpL x.zs y.zs]) := by unfold Hid cmpP ME.pl; simp only; rw [hx.ni, hy.ni]
  have HNx := hide hx.ni
  have HNy := hide hy.ni
  clear hX hY b1 hx1 hy1 hx hy
  go_enter Try.func48, Try.ntmps48
  go_wp2_with fail
  generalize (w.alloc (.cells #[.int .i64 x.r, .slice x.aI x.nI x.cI, .slice x.aB x.nB x.cB] 30)).alloc (.cells #[.int .i64 y.r, .slice y.aI y.nI y.cI, .slice y.aB y.nB y.cB] 30) = w1 at S1 ⊢
  obtain ⟨x0, x1, y0, y1, T1⟩ := S1
  go_region_held3 (fun W => W.cell? ⟨w.heap.size, 0, none⟩ = some (.int .i64 x.r) ∧ W.cell? ⟨w.heap.size, 1, none⟩ = some (.slice x.aI x.nI x.cI) ∧ W.cell? ⟨w.heap.size + 1, 0, none⟩ = some (.int .i64 y.r) ∧ W.cell? ⟨w.heap.size + 1, 1, none⟩ = some (.slice y.aI y.nI y.cI) ∧ TwoM w w.heap.size x y W) (first | exact ⟨x0, x1, y0, y1, T1.drew⟩ | exact keepM4 (by assumption) (by assumption) | exact keepM4 (below_ald _ _) ⟨x0, x1, y0, y1, T1⟩)
    (first | (go_at_call_of 86 x.r; refine (Try.cmp_Compare_int x.r y.r _).mono ?_; rintro e w2 ⟨rfl, rfl⟩) | (go_at_call_of 86 x.nI; refine (Try.cmp_Compare_int x.nI y.nI _).mono ?_; rintro e w2 ⟨rfl, rfl⟩) | (go_at_call 87; refine (sCompare_any x.aI y.aI x.nI y.nI x.cI y.cI x.zs y.zs _ (rdM4A (by assumption)).i (rdM4B (by assumption)).i HNx.out HNy.out hlx hly).mono ?_; rintro e w3 ⟨rfl, rfl⟩) | (go_at_call 85; refine (cmpOr_any _ 3 3 [Lib.compareInt x.r y.r, Lib.compareInt x.nI y.nI, cmpL x.zs y.zs] _ (rdN_litd w1 3 _ _ _) rfl (by omega)).mono ?_; rintro e w4 ⟨rfl, rfl⟩))
  all_goals
    go_wp2
    go_ret
    exact ⟨ret_int HO.out.symm, T1.2.2.1.trans ((below_ald w1 _).mono T1.2.2.2)⟩

set_option maxHeartbeats 1600000 in
theorem implLessMatch_any (x y : ME) (w : World) (hx : RdMatch w x) (hy : RdMatch w y) (hlx : x.nI ≤ 1048580) (hly : y.nI ≤ 1048580) :
    Calls Try.prog 15 #[.agg #[.int .i64 x.r, .slice x.aI x.nI x.cI, .slice x.aB x.nB x.cB], .agg #[.int .i64 y.r, .slice y.aI y.nI y.cI, .slice y.aB y.nB y.cB]] w fun e w' => (∃ t, e = .returned (.bool t) ∧ Hid (t = decide (cmpP x.pl y.pl < 0))) ∧ Below w.heap.size w w' := by
  obtain ⟨hX, hY, b1⟩ := boxes2 w #[.int .i64 x.r, .slice x.aI x.nI x.cI, .slice x.aB x.nB x.cB] #[.int .i64 y.r, .slice y.aI y.nI y.cI, .slice y.aB y.nB y.cB] 30 30
  have hx1 := hx.below b1
  have hy1 := hy.below b1
  have x0 := boxk_cell hX 0 _ rfl
  have x1 := boxk_cell hX 1 _ rfl
  have x2 := boxk_cell hX 2 _ rfl
  have y0 := boxk_cell hY 0 _ rfl
  have y1 := boxk_cell hY 1 _ rfl
  have y2 := boxk_cell hY 2 _ rfl
  clear hX hY
  go_enter Try.func15, Try.ntmps15
  go_wp2_with fail
  refine (compareMatches_any x y _ hx1 hy1 hlx hly).mono ?_
  rintro e w1 ⟨rfl, hb⟩
  have hB : Below w.heap.size w w1 := b1.trans (hb.mono b1.size)
  obtain ⟨c, hc⟩ : ∃ c, Hid (cmpP x.pl y.pl = c) := ⟨_, rfl⟩
  rw [hc.out]
  clear hb b1 x0 x1 x2 y0 y1 y2 hx1 hy1
  go_wp2
  go_ret
  exact ⟨⟨_, rfl, by unfold Hid; rw [hc.out]⟩, hB⟩

set_option maxHeartbeats 1600000 in
theorem implSameMatch_any (x y : ME) (w : World) (hx : RdMatch w x) (hy : RdMatch w y) (hlx : x.nI ≤ 1048580) (hly : y.nI ≤ 1048580) :
    Calls Try.prog 12 #[.agg #[.int .i64 x.r, .slice x.aI x.nI x.cI, .slice x.aB x.nB x.cB], .agg #[.int .i64 y.r, .slice y.aI y.nI y.cI, .slice y.aB y.nB y.cB]] w fun e w' => (∃ t, e = .returned (.bool t) ∧ Hid (t = decide (cmpP x.pl y.pl = 0))) ∧ Below w.heap.size w w' := by
  obtain ⟨hX, hY, b1⟩ := boxes2 w #[.int .i64 x.r, .slice x.aI x.nI x.cI, .slice x.aB x.nB x.cB] #[.int .i64 y.r, .slice y.aI y.nI y.cI, .slice y.aB y.nB y.cB] 30 30
  have hx1 := hx.below b1
  have hy1 := hy.below b1
  have x0 := boxk_cell hX 0 _ rfl
  have x1 := boxk_cell hX 1 _ rfl
  have x2 := boxk_cell hX 2 _ rfl
  have y0 := boxk_cell hY 0 _ rfl
  have y1 := boxk_cell hY 1 _ rfl
  have y2 := boxk_cell hY 2 _ rfl
  clear hX hY
  go_enter Try.func12, Try.ntmps12
  go_wp2_with fail
  refine (compareMatches_any x y _ hx1 hy1 hlx hly).mono ?_
  rintro e w1 ⟨rfl, hb⟩
  have hB : Below w.heap.size w w1 := b1.trans (hb.mono b1.size)
  obtain ⟨c, hc⟩ : ∃ c, Hid (cmpP x.pl y.pl = c) := ⟨_, rfl⟩
  rw [hc.out]
  clear hb b1 x0 x1 x2 y0 y1 y2 hx1 hy1
  by_cases h0 : c = 0
  · have k1 : (c == 0) = true := by simp [h0]
    have HD : Hid (true = decide (cmpP x.pl y.pl = 0)) := by unfold Hid; rw [hc.out]; simp [h0]
    clear h0
    go_wp2
    go_ret
    exact ⟨⟨_, rfl, HD⟩, hB⟩
  · have k1 : (c == 0) = false := by simp [h0]
    have HD : Hid (false = decide (cmpP x.pl y.pl = 0)) := by unfold Hid; rw [hc.out]; simp [h0]
    clear h0
    go_wp2
    go_ret
    exact ⟨⟨_, rfl, HD⟩, hB⟩
end Go.Proofs.Ytfgigcdfmkfkjaa
