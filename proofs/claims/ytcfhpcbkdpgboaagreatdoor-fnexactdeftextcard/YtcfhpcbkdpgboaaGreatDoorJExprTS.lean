/-
  What the model answers for a term's text: exprT.
-/
import Derived.Test.YtcfhpcbkdpgboaaGreatDoorJoined4
namespace Go.Proofs.YtcfhpcbkdpgboaaGreatDoor
open Go.RowKit
set_option linter.unusedVariables false

set_option maxRecDepth 100000 in
set_option maxHeartbeats 3200000 in
theorem specExprText_any (Op : ByteArray) (L R : A5) (w : World) (hl : L.fits) (hr : R.fits) :
    Calls Tryz.prog 91 #[.agg #[.string Op, .int .i64 L.K, .string L.S, .int .i64 L.V.K, .int .i64 L.V.N, .string L.V.S, .int .i64 R.K, .string R.S, .int .i64 R.V.K, .int .i64 R.V.N, .string R.V.S]] w fun e w' => e = .returned (.string (exprT Op L R)) ∧ Below w.heap.size w w' := by
  obtain ⟨tx, htx⟩ : ∃ tx, tx = exprT Op L R := ⟨_, rfl⟩
  rw [← htx]
  have HCo := hide (fun W => specExprOk_any Op L R W hl hr)
  have hN : exprB Op L R = false → tx = ⟨#[]⟩ := fun h => by rw [htx, exprT_no h]
  have hO : exprB Op L R = true → Op.size = 0 → tx = L.tx ∧ L.tx.size ≤ 22 := fun h h0 => by
    obtain rfl := empty_of_size h0
    exact ⟨by rw [htx, exprT_one h], txA_size (exprB_left h)⟩
  have hY : exprB Op L R = true → Op.size ≠ 0 → tx = L.tx ++ ⟨#[32]⟩ ++ Op ++ ⟨#[32]⟩ ++ R.tx ∧ L.tx.size ≤ 22 ∧ R.tx.size ≤ 22 ∧ Op.size = 1 := fun h h0 => ⟨by rw [htx, exprT_two h h0], txA_size (exprB_left h), txA_size (exprB_right h h0).1, (exprB_right h h0).2⟩
  have HA1 := hide (fun W (h : exprB Op L R = true) => l6ArgText_any L.K L.S L.V W (exprB_left h))
  have HA2 := hide (fun W (h : exprB Op L R = true) (h0 : Op.size ≠ 0) => l6ArgText_any R.K R.S R.V W (exprB_right h h0).1)
  obtain ⟨cb, hcb⟩ : ∃ cb, cb = exprB Op L R := ⟨_, rfl⟩
  rw [← hcb] at hN hO hY HCo HA1 HA2
  rw [show argT L.K L.S L.V = L.tx from rfl] at HA1
  rw [show argT R.K R.S R.V = R.tx from rfl] at HA2
  generalize L.tx = y at hO hY HA1
  generalize R.tx = z at hY HA2
  clear htx hcb
  obtain ⟨LK, LS, LVK, LVN, LVS⟩ := L
  obtain ⟨RK, RS, RVK, RVN, RVS⟩ := R
  have hX := boxk_new w #[.string Op, .int .i64 LK, .string LS, .int .i64 LVK, .int .i64 LVN, .string LVS, .int .i64 RK, .string RS, .int .i64 RVK, .int .i64 RVN, .string RVS] 121
  have b0 := below_al w (.cells #[.string Op, .int .i64 LK, .string LS, .int .i64 LVK, .int .i64 LVN, .string LVS, .int .i64 RK, .string RS, .int .i64 RVK, .int .i64 RVN, .string RVS] 121)
  clear hl hr
  go_enter Tryz.func91, Tryz.ntmps91
  go_wp2_with fail
  refine (HCo.out _).mono ?_
  rintro e w1 ⟨rfl, hb⟩
  have HX := hide (box_below hX hb (by simp))
  have hB : Below w.heap.size w w1 := b0.trans (hb.mono b0.size)
  clear hb hX b0 HCo
  cases cb
  · have HN := hide (hN rfl)
    clear hN hY hO
    go_wp2
    go_ret
    exact ⟨by rw [HN.out]; rfl, hB⟩
  by_cases h0 : Op.size = 0
  · obtain ⟨hT, hy⟩ := hO rfl h0
    have HY := hide hT
    obtain rfl := empty_of_size h0
    clear hN hO hY hT
    have x0 := boxk_cell HX.out 0 _ rfl
    have x1 := boxk_cell HX.out 1 _ rfl
    have x2 := boxk_cell HX.out 2 _ rfl
    have x3 := boxk_cell HX.out 3 _ rfl
    have x4 := boxk_cell HX.out 4 _ rfl
    have x5 := boxk_cell HX.out 5 _ rfl
    have x6 := boxk_cell HX.out 6 _ rfl
    have x7 := boxk_cell HX.out 7 _ rfl
    have x8 := boxk_cell HX.out 8 _ rfl
    have x9 := boxk_cell HX.out 9 _ rfl
    have x10 := boxk_cell HX.out 10 _ rfl
    have HA3 := hide (fun W => HA1.out W rfl)
    clear HA1 HA2
    go_wp2_with fail
    refine (HA3.out _).mono ?_
    rintro e w2 ⟨rfl, hb2⟩
    have hB2 : Below w.heap.size w w2 := hB.trans (hb2.mono hB.size)
    go_wp2
    go_ret
    exact ⟨by rw [HY.out]; rfl, hB2⟩
  · obtain ⟨hT, hy, hz, ho⟩ := hY rfl h0
    have HY := hide hT
    have HA3 := hide (fun W => HA1.out W rfl)
    have HA4 := hide (fun W => HA2.out W rfl h0)
    clear HA1 HA2
    have k0 := isEmpty_false h0
    clear hN hO hY hT h0
    have n1 : ¬ 9223372036854775807 < y.size + 1 := by omega
    have m1 : y.size + 1 ≤ 9223372036854775807 := by omega
    have n2 : ¬ 9223372036854775807 < y.size + 1 + Op.size := by omega
    have m2 : y.size + 1 + Op.size ≤ 9223372036854775807 := by omega
    have n3 : ¬ 9223372036854775807 < y.size + 1 + Op.size + 1 := by omega
    have m3 : y.size + 1 + Op.size + 1 ≤ 9223372036854775807 := by omega
    have n4 : ¬ 9223372036854775807 < y.size + 1 + Op.size + 1 + z.size := by omega
    have m4 : y.size + 1 + Op.size + 1 + z.size ≤ 9223372036854775807 := by omega
    clear hy hz ho
    have x0 := boxk_cell HX.out 0 _ rfl
    go_wp2_with fail
    clear x0
    have X1 := hide (show w1.drew.heap[w.heap.size]? = _ from HX.out)
    have B1 := hide (show Below w.heap.size w w1.drew from hB.drew)
    have x0 := boxk_cell X1.out 0 _ rfl
    have x1 := boxk_cell X1.out 1 _ rfl
    have x2 := boxk_cell X1.out 2 _ rfl
    have x3 := boxk_cell X1.out 3 _ rfl
    have x4 := boxk_cell X1.out 4 _ rfl
    have x5 := boxk_cell X1.out 5 _ rfl
    have x6 := boxk_cell X1.out 6 _ rfl
    have x7 := boxk_cell X1.out 7 _ rfl
    have x8 := boxk_cell X1.out 8 _ rfl
    have x9 := boxk_cell X1.out 9 _ rfl
    have x10 := boxk_cell X1.out 10 _ rfl
    clear HX hB
    go_region_held3 (fun W => W.cell? ⟨w.heap.size, 0, none⟩ = some (.string Op) ∧ W.cell? ⟨w.heap.size, 1, none⟩ = some (.int .i64 LK) ∧ W.cell? ⟨w.heap.size, 2, none⟩ = some (.string LS) ∧ W.cell? ⟨w.heap.size, 3, none⟩ = some (.int .i64 LVK) ∧ W.cell? ⟨w.heap.size, 4, none⟩ = some (.int .i64 LVN) ∧ W.cell? ⟨w.heap.size, 5, none⟩ = some (.string LVS) ∧ W.cell? ⟨w.heap.size, 6, none⟩ = some (.int .i64 RK) ∧ W.cell? ⟨w.heap.size, 7, none⟩ = some (.string RS) ∧ W.cell? ⟨w.heap.size, 8, none⟩ = some (.int .i64 RVK) ∧ W.cell? ⟨w.heap.size, 9, none⟩ = some (.int .i64 RVN) ∧ W.cell? ⟨w.heap.size, 10, none⟩ = some (.string RVS)) (first | exact ⟨x0, x1, x2, x3, x4, x5, x6, x7, x8, x9, x10⟩ | exact ⟨boxk_cell (box_step X1.out b1) 0 _ rfl, boxk_cell (box_step X1.out b1) 1 _ rfl, boxk_cell (box_step X1.out b1) 2 _ rfl, boxk_cell (box_step X1.out b1) 3 _ rfl, boxk_cell (box_step X1.out b1) 4 _ rfl, boxk_cell (box_step X1.out b1) 5 _ rfl, boxk_cell (box_step X1.out b1) 6 _ rfl, boxk_cell (box_step X1.out b1) 7 _ rfl, boxk_cell (box_step X1.out b1) 8 _ rfl, boxk_cell (box_step X1.out b1) 9 _ rfl, boxk_cell (box_step X1.out b1) 10 _ rfl⟩ | exact ⟨boxk_cell (box_step (box_step X1.out b1) b2) 0 _ rfl, boxk_cell (box_step (box_step X1.out b1) b2) 1 _ rfl, boxk_cell (box_step (box_step X1.out b1) b2) 2 _ rfl, boxk_cell (box_step (box_step X1.out b1) b2) 3 _ rfl, boxk_cell (box_step (box_step X1.out b1) b2) 4 _ rfl, boxk_cell (box_step (box_step X1.out b1) b2) 5 _ rfl, boxk_cell (box_step (box_step X1.out b1) b2) 6 _ rfl, boxk_cell (box_step (box_step X1.out b1) b2) 7 _ rfl, boxk_cell (box_step (box_step X1.out b1) b2) 8 _ rfl, boxk_cell (box_step (box_step X1.out b1) b2) 9 _ rfl, boxk_cell (box_step (box_step X1.out b1) b2) 10 _ rfl⟩)
      (first | (go_at_call_of 50 LK; refine (HA3.out _).mono ?_; rintro e u1 ⟨rfl, b1⟩) | (go_at_call_of 50 RK; refine (HA4.out _).mono ?_; rintro e u2 ⟨rfl, b2⟩))
    all_goals
      have BE : Below w.heap.size w u2 := (B1.out.trans (b1.mono B1.out.size)).trans (b2.mono (B1.out.trans (b1.mono B1.out.size)).size)
      clear b1 b2 X1 B1 HA3 HA4
      go_wp2
      go_ret
      exact ⟨by rw [HY.out]; rfl, BE⟩
end Go.Proofs.YtcfhpcbkdpgboaaGreatDoor
