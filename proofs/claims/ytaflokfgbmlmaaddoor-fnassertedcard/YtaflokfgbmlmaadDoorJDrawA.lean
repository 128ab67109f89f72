/-
  The contract of the draw of any value, right or not.
-/
import Derived.Test.YtaflokfgbmlmaadDoorJDrawV
namespace Go.Proofs.YtaflokfgbmlmaadDoor
open Go.RowKit
set_option linter.unusedVariables false

theorem box_set0 {w : World} {q : Nat} {c0 c1 c2 : Value} {T : TypeId} (h : w.heap[q]? = some (.cells #[c0, c1, c2] T (0, 0))) (u : Value) :
    (w.setCell ⟨q, 0, none⟩ u).heap[q]? = some (.cells #[u, c1, c2] T (0, 0)) ∧ w.grownBy (w.setCell ⟨q, 0, none⟩ u) (some q) := by
  refine ⟨by rw [heap_setCell_same w q 0 _ T u h]; rfl, ⟨rfl, rfl, rfl, by simp [World.setCell], fun k _ hk => heap_setCell_other w ⟨q, 0, none⟩ k u (fun e => hk (by simp [e]))⟩⟩
theorem box_set1 {w : World} {q : Nat} {c0 c1 c2 : Value} {T : TypeId} (h : w.heap[q]? = some (.cells #[c0, c1, c2] T (0, 0))) (u : Value) :
    (w.setCell ⟨q, 1, none⟩ u).heap[q]? = some (.cells #[c0, u, c2] T (0, 0)) ∧ w.grownBy (w.setCell ⟨q, 1, none⟩ u) (some q) := by
  refine ⟨by rw [heap_setCell_same w q 1 _ T u h]; rfl, ⟨rfl, rfl, rfl, by simp [World.setCell], fun k _ hk => heap_setCell_other w ⟨q, 1, none⟩ k u (fun e => hk (by simp [e]))⟩⟩
theorem box_set2 {w : World} {q : Nat} {c0 c1 c2 : Value} {T : TypeId} (h : w.heap[q]? = some (.cells #[c0, c1, c2] T (0, 0))) (u : Value) :
    (w.setCell ⟨q, 2, none⟩ u).heap[q]? = some (.cells #[c0, c1, u] T (0, 0)) ∧ w.grownBy (w.setCell ⟨q, 2, none⟩ u) (some q) := by
  refine ⟨by rw [heap_setCell_same w q 2 _ T u h]; rfl, ⟨rfl, rfl, rfl, by simp [World.setCell], fun k _ hk => heap_setCell_other w ⟨q, 2, none⟩ k u (fun e => hk (by simp [e]))⟩⟩

set_option maxRecDepth 100000 in
set_option maxHeartbeats 1600000 in
theorem l2Any_any (B q : Nat) (w : World) (hc : Cur B w q) :
    Calls Tryd.prog 78 #[.pointer (some ⟨q, 0, none⟩)] w fun e w' => ∃ (K N : Int) (S : ByteArray), e = .returned (.agg #[.int .i64 K, .int .i64 N, .string S]) ∧ S.size ≤ 21 ∧ Cur B w' q ∧ w.grownBy w' (some q) := by
  have hq := hc.lt
  have hB := hc.1
  go_enter Tryd.func78, Tryd.ntmps78
  go_wp2_with fail
  refine (l2Draw_any B q _ (hc.keep (World.grownBy_alloc w _ none) (by simp) (by simp))).mono ?_
  rintro e w1 ⟨K, N, S, rfl, hS, c1, g1⟩
  have HR := hide (box_grown (box_new w (.int .i64 0) (.int .i64 0) (.string ⟨#[]⟩) 85) g1 (by omega))
  have G1 : w.grownBy w1 (some q) := grown_trans (grown_alloc w _ q) g1
  have z1 := G1.size
  have l1 := (Array.getElem?_eq_some_iff.1 HR.out).1
  clear g1
  go_wp2_with fail
  refine (l1Below_any B q 10 _ (c1.keep (World.grownBy_alloc w1 _ none) (by simp) (by simp)) (by omega) (by omega)).mono ?_
  rintro e w2 ⟨x, rfl, x0, x1, c2, g2⟩
  have HR2 := hide (box_grown (box_alloc HR.out _) g2 (by omega))
  have HV2 := hide (box_grown (box_new w1 (.int .i64 K) (.int .i64 N) (.string S) 85) g2 (by omega))
  have G2 : w.grownBy w2 (some q) := grown_trans (grown_trans G1 (grown_alloc w1 _ q)) g2
  have z2 := G2.size
  obtain ⟨V, HVq⟩ : ∃ V, Hid (w1.heap.size = V) := ⟨_, rfl⟩
  have hV1 : w.heap.size < V := by rw [← HVq.out]; omega
  have hVq : V ≠ q := by rw [← HVq.out]; omega
  rw [HVq.out] at HV2 ⊢
  clear g2 HR c1 G1 z1 l1 HVq
  obtain ⟨v0, v1, v2, e0, e1, e2⟩ := box_cell HV2.out
  obtain ⟨a0, a1, a2, f0, f1, f2⟩ := box_cell HR2.out
  have hn1 : V ≠ w.heap.size := by omega
  have hn2 : w.heap.size ≠ V := by omega
  by_cases k0 : x = 0
  · have kk : (x == 0) = true := by simp [k0]
    clear k0
    go_wp2_with fail
    refine (l1Below_any B q 4 _ c2 (by omega) (by omega)).mono ?_
    rintro e w3 ⟨y, rfl, y0, y1, c3, g3⟩
    have HR3 := hide (box_grown HR2.out g3 (by omega))
    have HV3 := hide (box_grown HV2.out g3 (by omega))
    have G3 : w.grownBy w3 (some q) := grown_trans G2 g3
    clear a0 a1 a2 f0 f1 f2 v0 v1 v2 e0 e1 e2
    obtain ⟨v0, v1, v2, e0, e1, e2⟩ := box_cell HV3.out
    obtain ⟨a0, a1, a2, f0, f1, f2⟩ := box_cell HR3.out
    have HW := hide (box_set0 HV3.out (.int .i64 y))
    have HX := hide (box_grown HR3.out HW.out.2 (by omega))
    go_wp2
    refine box_post HX.out (fun w4 h4 gr => ?_)
    clear a0 a1 a2 f0 f1 f2 v0 v1 v2 e0 e1 e2
    obtain ⟨a0, a1, a2, -, -, -⟩ := box_cell h4
    refine bodyPost_ret (v := .agg #[.int .i64 y, .int .i64 N, .string S]) (by simp [results, Tryd.results78, go_sem, a0, a1, a2]) rfl ⟨_, _, _, rfl, hS, (c3.keep HW.out.2 (by simp; omega) (by intro k hk; cases hk; omega)).keep gr (by simp; omega) (by intro k hk; cases hk; omega), grown_more (grown_more G3 HW.out.2 (by intro k hk; cases hk; omega)) gr (by intro k hk; cases hk; omega)⟩
  have kk : (x == 0) = false := by simpa using k0
  by_cases k1 : x = 1
  · have kk1 : (x == 1) = true := by simp [k1]
    clear k0 k1
    go_wp2_with fail
    refine (l1Int_any B q w2.heap.size [1000000001, 5] 2 _ (c2.keep (World.grownBy_alloc w2 _ none) (by simp) (by simp)) (by decide) (by decide) (by have := c2.lt; omega) (cells_lit w2 3 _)).mono ?_
    rintro e w3 ⟨y, rfl, hy, c3, g3⟩
    clear hy
    have HR3 := hide (box_grown (box_alloc HR2.out _) g3 (by omega))
    have HV3 := hide (box_grown (box_alloc HV2.out _) g3 (by omega))
    have G3 : w.grownBy w3 (some q) := grown_trans (grown_trans G2 (grown_alloc w2 _ q)) g3
    clear a0 a1 a2 f0 f1 f2 v0 v1 v2 e0 e1 e2
    obtain ⟨v0, v1, v2, e0, e1, e2⟩ := box_cell HV3.out
    obtain ⟨a0, a1, a2, f0, f1, f2⟩ := box_cell HR3.out
    have HW := hide (box_set1 HV3.out (.int .i64 y))
    have HX := hide (box_grown HR3.out HW.out.2 (by omega))
    go_wp2
    refine box_post HX.out (fun w4 h4 gr => ?_)
    clear a0 a1 a2 f0 f1 f2 v0 v1 v2 e0 e1 e2
    obtain ⟨a0, a1, a2, -, -, -⟩ := box_cell h4
    refine bodyPost_ret (v := .agg #[.int .i64 K, .int .i64 y, .string S]) (by simp [results, Tryd.results78, go_sem, a0, a1, a2]) rfl ⟨_, _, _, rfl, hS, (c3.keep HW.out.2 (by simp; omega) (by intro k hk; cases hk; omega)).keep gr (by simp; omega) (by intro k hk; cases hk; omega), grown_more (grown_more G3 HW.out.2 (by intro k hk; cases hk; omega)) gr (by intro k hk; cases hk; omega)⟩
  have kk1 : (x == 1) = false := by simpa using k1
  by_cases k2 : x = 2
  · have kk2 : (x == 2) = true := by simp [k2]
    clear k0 k1 k2
    go_wp2_with fail
    refine (l1Str_any B q w2.heap.size [⟨#[65]⟩, ⟨#[97, 32, 98]⟩, ⟨#[116, 119, 101, 110, 116, 121, 111, 110, 101, 98, 121, 116, 101, 115, 116, 119, 101, 110, 116, 121, 111]⟩, ⟨#[120]⟩] 4 _ (c2.keep (World.grownBy_alloc w2 _ none) (by simp) (by simp)) (by decide) (by decide) (by have := c2.lt; omega) (cells_strs w2 9 _)).mono ?_
    rintro e w3 ⟨y, rfl, hy, c3, g3⟩
    have HS : Hid (y.size ≤ 21) := by
      unfold Hid
      simp only [List.mem_cons, List.not_mem_nil, or_false] at hy
      rcases hy with rfl | rfl | rfl | rfl <;> decide
    clear hy
    have HR3 := hide (box_grown (box_alloc HR2.out _) g3 (by omega))
    have HV3 := hide (box_grown (box_alloc HV2.out _) g3 (by omega))
    have G3 : w.grownBy w3 (some q) := grown_trans (grown_trans G2 (grown_alloc w2 _ q)) g3
    clear a0 a1 a2 f0 f1 f2 v0 v1 v2 e0 e1 e2
    obtain ⟨v0, v1, v2, e0, e1, e2⟩ := box_cell HV3.out
    obtain ⟨a0, a1, a2, f0, f1, f2⟩ := box_cell HR3.out
    have HW := hide (box_set2 HV3.out (.string y))
    have HX := hide (box_grown HR3.out HW.out.2 (by omega))
    go_wp2
    refine box_post HX.out (fun w4 h4 gr => ?_)
    clear a0 a1 a2 f0 f1 f2 v0 v1 v2 e0 e1 e2
    obtain ⟨a0, a1, a2, -, -, -⟩ := box_cell h4
    refine bodyPost_ret (v := .agg #[.int .i64 K, .int .i64 N, .string y]) (by simp [results, Tryd.results78, go_sem, a0, a1, a2]) rfl ⟨_, _, _, rfl, HS.out, (c3.keep HW.out.2 (by simp; omega) (by intro k hk; cases hk; omega)).keep gr (by simp; omega) (by intro k hk; cases hk; omega), grown_more (grown_more G3 HW.out.2 (by intro k hk; cases hk; omega)) gr (by intro k hk; cases hk; omega)⟩
  have kk2 : (x == 2) = false := by simpa using k2
  clear k0 k1 k2
  go_wp2
  refine box_post HR2.out (fun w4 h4 gr => ?_)
  clear a0 a1 a2 f0 f1 f2 v0 v1 v2 e0 e1 e2
  obtain ⟨a0, a1, a2, -, -, -⟩ := box_cell h4
  refine bodyPost_ret (v := .agg #[.int .i64 K, .int .i64 N, .string S]) (by simp [results, Tryd.results78, go_sem, a0, a1, a2]) rfl ⟨_, _, _, rfl, hS, c2.keep gr (by simp; omega) (by intro k hk; cases hk; omega), grown_more G2 gr (by intro k hk; cases hk; omega)⟩
end Go.Proofs.YtaflokfgbmlmaadDoor
