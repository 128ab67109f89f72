/-
  What the model answers for a condition's text: condT.
-/
import Derived.Test.YtcfhpcbkdpgboaaGreatDoorJoined4
import Derived.Deep.RegionHeld3
namespace Go.Proofs.YtcfhpcbkdpgboaaGreatDoor
open Go.RowKit
set_option linter.unusedVariables false

set_option maxRecDepth 100000 in
set_option maxHeartbeats 1600000 in
theorem specCondText_any (Op : Int) (L R : A5) (w : World) (hl : L.fits) (hr : R.fits) :
    Calls Tryz.prog 24 #[.agg #[.int .i64 Op, .int .i64 L.K, .string L.S, .int .i64 L.V.K, .int .i64 L.V.N, .string L.V.S, .int .i64 R.K, .string R.S, .int .i64 R.V.K, .int .i64 R.V.N, .string R.V.S]] w fun e w' => e = .returned (.string (condT Op L R)) ∧ Below w.heap.size w w' := by
  obtain ⟨tx, htx⟩ : ∃ tx, tx = condT Op L R := ⟨_, rfl⟩
  rw [← htx]
  have HCo := hide (fun W => specCondOk_any Op L R W hl hr)
  have hN : condB Op L R = false → tx = ⟨#[]⟩ := fun h => by rw [htx, condT_no h]
  have hY : condB Op L R = true → tx = L.tx ++ ⟨#[32]⟩ ++ signT Op ++ ⟨#[32]⟩ ++ R.tx ∧ inB Op 1 3 = true ∧ L.tx.size ≤ 22 ∧ R.tx.size ≤ 22 := fun h => ⟨by rw [htx, condT_yes h], (condB_open h).1, txA_size (condB_open h).2.1, txA_size (condB_open h).2.2⟩
  have HA1 := hide (fun W (h : condB Op L R = true) => l6ArgText_any L.K L.S L.V W (condB_open h).2.1)
  have HA2 := hide (fun W (h : condB Op L R = true) => l6ArgText_any R.K R.S R.V W (condB_open h).2.2)
  obtain ⟨cb, hcb⟩ : ∃ cb, cb = condB Op L R := ⟨_, rfl⟩
  rw [← hcb] at hN hY HCo HA1 HA2
  rw [show argT L.K L.S L.V = L.tx from rfl] at HA1
  rw [show argT R.K R.S R.V = R.tx from rfl] at HA2
  generalize L.tx = y at hY HA1
  generalize R.tx = z at hY HA2
  clear htx hcb
  obtain ⟨LK, LS, LVK, LVN, LVS⟩ := L
  obtain ⟨RK, RS, RVK, RVN, RVS⟩ := R
  have hX := boxk_new w #[.int .i64 Op, .int .i64 LK, .string LS, .int .i64 LVK, .int .i64 LVN, .string LVS, .int .i64 RK, .string RS, .int .i64 RVK, .int .i64 RVN, .string RVS] 65
  have b0 := below_al w (.cells #[.int .i64 Op, .int .i64 LK, .string LS, .int .i64 LVK, .int .i64 LVN, .string LVS, .int .i64 RK, .string RS, .int .i64 RVK, .int .i64 RVN, .string RVS] 65)
  clear hl hr
  go_enter Tryz.func24, Tryz.ntmps24
  go_wp2_with fail
  refine (HCo.out _).mono ?_
  rintro e w1 ⟨rfl, hb⟩
  have HX := hide (box_below hX hb (by simp))
  have hB : Below w.heap.size w w1 := b0.trans (hb.mono b0.size)
  clear hb hX b0 HCo
  cases cb
  · have HN := hide (hN rfl)
    clear hN hY HA1 HA2
    go_wp2
    go_ret
    exact ⟨by rw [HN.out]; rfl, hB⟩
  · obtain ⟨hT, hi, hy, hz⟩ := hY rfl
    have HY := hide hT
    have HA3 := hide (fun W => HA1.out W rfl)
    have HA4 := hide (fun W => HA2.out W rfl)
    clear hN hY hT HA1 HA2
    have HX3 := hide (box_old HX.out (Array.getElem?_eq_some_iff.1 HX.out).1 (.cells #[.string ⟨#[61]⟩, .string ⟨#[35]⟩, .string ⟨#[60]⟩] 9))
    have HS3 := hide (boxk_new w1 #[.string ⟨#[61]⟩, .string ⟨#[35]⟩, .string ⟨#[60]⟩] 9)
    have hB3 := hB.alloc hB.size (.cells #[.string ⟨#[61]⟩, .string ⟨#[35]⟩, .string ⟨#[60]⟩] 9)
    clear HX hB
    have n1 : ¬ 9223372036854775807 < y.size + 1 := by omega
    have m1 : y.size + 1 ≤ 9223372036854775807 := by omega
    have n2 : ¬ 9223372036854775807 < y.size + 1 + 1 := by omega
    have m2 : y.size + 1 + 1 ≤ 9223372036854775807 := by omega
    have n3 : ¬ 9223372036854775807 < y.size + 1 + 1 + 1 := by omega
    have m3 : y.size + 1 + 1 + 1 ≤ 9223372036854775807 := by omega
    have n4 : ¬ 9223372036854775807 < y.size + 1 + 1 + 1 + z.size := by omega
    have m4 : y.size + 1 + 1 + 1 + z.size ≤ 9223372036854775807 := by omega
    clear hy hz
    have hop : Op = 1 ∨ Op = 2 ∨ Op = 3 := by
      simp only [inB, Bool.and_eq_true, decide_eq_true_eq] at hi
      omega
    clear hi
    go_wp2_with fail
    generalize w1.alloc (.cells #[.string ⟨#[61]⟩, .string ⟨#[35]⟩, .string ⟨#[60]⟩] 9) = w3 at HX3 HS3 hB3
    have X1 := hide (show w3.drew.heap[w.heap.size]? = _ from HX3.out)
    have S1 := hide (show w3.drew.heap[w1.heap.size]? = _ from HS3.out)
    have B1 := hide (show Below w.heap.size w w3.drew from hB3.drew)
    clear HX3 HS3 hB3
    have hw0 : IntKind.i64.wrap 0 = 0 := rfl
    have hw1 : IntKind.i64.wrap 1 = 1 := rfl
    have hw2 : IntKind.i64.wrap 2 = 2 := rfl
    rcases hop with rfl | rfl | rfl
    · refine wp_region_held_drew (S := fun W => W.cell? ⟨w.heap.size, 0, none⟩ = some (.int .i64 1) ∧ W.cell? ⟨w.heap.size, 1, none⟩ = some (.int .i64 LK) ∧ W.cell? ⟨w.heap.size, 2, none⟩ = some (.string LS) ∧ W.cell? ⟨w.heap.size, 3, none⟩ = some (.int .i64 LVK) ∧ W.cell? ⟨w.heap.size, 4, none⟩ = some (.int .i64 LVN) ∧ W.cell? ⟨w.heap.size, 5, none⟩ = some (.string LVS) ∧ W.cell? ⟨w.heap.size, 6, none⟩ = some (.int .i64 RK) ∧ W.cell? ⟨w.heap.size, 7, none⟩ = some (.string RS) ∧ W.cell? ⟨w.heap.size, 8, none⟩ = some (.int .i64 RVK) ∧ W.cell? ⟨w.heap.size, 9, none⟩ = some (.int .i64 RVN) ∧ W.cell? ⟨w.heap.size, 10, none⟩ = some (.string RVS) ∧ W.cell? ⟨w1.heap.size, 0, none⟩ = some (.string ⟨#[61]⟩)) (by kernel_rfl) ⟨boxk_cell X1.out 0 _ rfl, boxk_cell X1.out 1 _ rfl, boxk_cell X1.out 2 _ rfl, boxk_cell X1.out 3 _ rfl, boxk_cell X1.out 4 _ rfl, boxk_cell X1.out 5 _ rfl, boxk_cell X1.out 6 _ rfl, boxk_cell X1.out 7 _ rfl, boxk_cell X1.out 8 _ rfl, boxk_cell X1.out 9 _ rfl, boxk_cell X1.out 10 _ rfl, boxk_cell S1.out 0 _ rfl⟩ (fun hHeld => ?_)
      refine wpAnyH_take (i := 0) (oi := Oper.mk (some 8) _ _ _ _ _) (v := ?v101) rfl (by kernel_rfl) (by kernel_rfl) (by kernel_rfl) (fun _ _ _ h => h) (Or.inl ⟨by rfl, ?y101⟩) hHeld ?r101
      case y101 => (intro W hSW; obtain ⟨q0, q1, q2, q3, q4, q5, q6, q7, q8, q9, q10, q11⟩ := hSW; go_simp; try with_reducible rfl)
      simp only [Act.put, List.setIfInBounds_toArray, List.set_cons_zero, List.set_cons_succ]
      refine wpAnyH_take (i := 1) (oi := Oper.mk (some 9) _ _ _ _ _) (v := ?v102) rfl (by kernel_rfl) (by kernel_rfl) (by kernel_rfl) (fun _ _ _ h => h) (Or.inl ⟨by rfl, ?y102⟩) hHeld ?r102
      case y102 => (intro W hSW; obtain ⟨q0, q1, q2, q3, q4, q5, q6, q7, q8, q9, q10, q11⟩ := hSW; go_simp; try with_reducible rfl)
      simp only [Act.put, List.setIfInBounds_toArray, List.set_cons_zero, List.set_cons_succ]
      refine wpAnyH_take (i := 4) (oi := Oper.mk (some 12) _ _ _ _ _) (v := ?v103) rfl (by kernel_rfl) (by kernel_rfl) (by kernel_rfl) (fun _ _ _ h => h) (Or.inl ⟨by rfl, ?y103⟩) hHeld ?r103
      case y103 => (intro W hSW; obtain ⟨q0, q1, q2, q3, q4, q5, q6, q7, q8, q9, q10, q11⟩ := hSW; go_simp; try with_reducible rfl)
      simp only [Act.put, List.setIfInBounds_toArray, List.set_cons_zero, List.set_cons_succ]
      refine wpAnyH_take (i := 5) (oi := Oper.mk (some 13) _ _ _ _ _) (v := ?v104) rfl (by kernel_rfl) (by kernel_rfl) (by kernel_rfl) (fun _ _ _ h => h) (Or.inl ⟨by rfl, ?y104⟩) hHeld ?r104
      case y104 => (intro W hSW; obtain ⟨q0, q1, q2, q3, q4, q5, q6, q7, q8, q9, q10, q11⟩ := hSW; go_simp; try with_reducible rfl)
      simp only [Act.put, List.setIfInBounds_toArray, List.set_cons_zero, List.set_cons_succ]
      refine wpAnyH_take (i := 6) (oi := Oper.mk (some 14) _ _ _ _ _) (v := ?v105) rfl (by kernel_rfl) (by kernel_rfl) (by kernel_rfl) (fun _ _ _ h => h) (Or.inl ⟨by rfl, ?y105⟩) hHeld ?r105
      case y105 => (intro W hSW; obtain ⟨q0, q1, q2, q3, q4, q5, q6, q7, q8, q9, q10, q11⟩ := hSW; go_simp; try with_reducible rfl)
      simp only [Act.put, List.setIfInBounds_toArray, List.set_cons_zero, List.set_cons_succ]
      refine wpAnyH_take (i := 7) (oi := Oper.mk (some 15) _ _ _ _ _) (v := ?v106) rfl (by kernel_rfl) (by kernel_rfl) (by kernel_rfl) (fun _ _ _ h => h) (Or.inl ⟨by rfl, ?y106⟩) hHeld ?r106
      case y106 => (intro W hSW; obtain ⟨q0, q1, q2, q3, q4, q5, q6, q7, q8, q9, q10, q11⟩ := hSW; go_simp; try with_reducible rfl)
      simp only [Act.put, List.setIfInBounds_toArray, List.set_cons_zero, List.set_cons_succ]
      refine wpAnyH_take (i := 8) (oi := Oper.mk (some 16) _ _ _ _ _) (v := ?v107) rfl (by kernel_rfl) (by kernel_rfl) (by kernel_rfl) (fun _ _ _ h => h) (Or.inl ⟨by rfl, ?y107⟩) hHeld ?r107
      case y107 => (intro W hSW; obtain ⟨q0, q1, q2, q3, q4, q5, q6, q7, q8, q9, q10, q11⟩ := hSW; go_simp; try with_reducible rfl)
      simp only [Act.put, List.setIfInBounds_toArray, List.set_cons_zero, List.set_cons_succ]
      refine wpAnyH_take (i := 9) (oi := Oper.mk (some 17) _ _ _ _ _) (v := ?v108) rfl (by kernel_rfl) (by kernel_rfl) (by kernel_rfl) (fun _ _ _ h => h) (Or.inl ⟨by rfl, ?y108⟩) hHeld ?r108
      case y108 => (intro W hSW; obtain ⟨q0, q1, q2, q3, q4, q5, q6, q7, q8, q9, q10, q11⟩ := hSW; go_simp; try with_reducible rfl)
      simp only [Act.put, List.setIfInBounds_toArray, List.set_cons_zero, List.set_cons_succ]
      refine wpAnyH_take (i := 12) (oi := Oper.mk (some 20) _ _ _ _ _) (v := ?v109) rfl (by kernel_rfl) (by kernel_rfl) (by kernel_rfl) (fun _ _ _ h => h) (Or.inl ⟨by rfl, ?y109⟩) hHeld ?r109
      case y109 => (intro W hSW; obtain ⟨q0, q1, q2, q3, q4, q5, q6, q7, q8, q9, q10, q11⟩ := hSW; go_simp; try with_reducible rfl)
      simp only [Act.put, List.setIfInBounds_toArray, List.set_cons_zero, List.set_cons_succ]
      refine wpAnyH_take (i := 13) (oi := Oper.mk (some 21) _ _ _ _ _) (v := ?v110) rfl (by kernel_rfl) (by kernel_rfl) (by kernel_rfl) (fun _ _ _ h => h) (Or.inl ⟨by rfl, ?y110⟩) hHeld ?r110
      case y110 => (intro W hSW; obtain ⟨q0, q1, q2, q3, q4, q5, q6, q7, q8, q9, q10, q11⟩ := hSW; go_simp; try with_reducible rfl)
      simp only [Act.put, List.setIfInBounds_toArray, List.set_cons_zero, List.set_cons_succ]
      refine wpAnyH_ready (rs := [2]) (by kernel_rfl) (by simp) (AllReadyH.cons (o := Oper.mk (some 10) _ _ _ _ _) rfl (fun Kk hK => ?_) AllReadyH.nil)
      go_simp
      refine (HA3.out _).mono ?_
      rintro e u1 ⟨rfl, b1⟩
      refine hK.out _ _ ⟨boxk_cell (box_step X1.out b1) 0 _ rfl, boxk_cell (box_step X1.out b1) 1 _ rfl, boxk_cell (box_step X1.out b1) 2 _ rfl, boxk_cell (box_step X1.out b1) 3 _ rfl, boxk_cell (box_step X1.out b1) 4 _ rfl, boxk_cell (box_step X1.out b1) 5 _ rfl, boxk_cell (box_step X1.out b1) 6 _ rfl, boxk_cell (box_step X1.out b1) 7 _ rfl, boxk_cell (box_step X1.out b1) 8 _ rfl, boxk_cell (box_step X1.out b1) 9 _ rfl, boxk_cell (box_step X1.out b1) 10 _ rfl, boxk_cell (box_step S1.out b1) 0 _ rfl⟩ (fun hHeld => ?_)
      clear hK Kk
      refine wpAnyH_take (i := 3) (oi := Oper.mk (some 11) _ _ _ _ _) (v := ?v111) rfl (by kernel_rfl) (by kernel_rfl) (by kernel_rfl) (fun _ _ _ h => h) (Or.inl ⟨by rfl, ?y111⟩) hHeld ?r111
      case y111 => (intro W hSW; obtain ⟨q0, q1, q2, q3, q4, q5, q6, q7, q8, q9, q10, q11⟩ := hSW; go_simp; try with_reducible rfl)
      simp only [Act.put, List.setIfInBounds_toArray, List.set_cons_zero, List.set_cons_succ]
      refine wpAnyH_take (i := 10) (oi := Oper.mk (some 18) _ _ _ _ _) (v := ?v112) rfl (by kernel_rfl) (by kernel_rfl) (by kernel_rfl) (fun _ _ _ h => h) (Or.inl ⟨by rfl, ?y112⟩) hHeld ?r112
      case y112 => (intro W hSW; obtain ⟨q0, q1, q2, q3, q4, q5, q6, q7, q8, q9, q10, q11⟩ := hSW; go_simp; try with_reducible rfl)
      simp only [Act.put, List.setIfInBounds_toArray, List.set_cons_zero, List.set_cons_succ]
      refine wpAnyH_take (i := 11) (oi := Oper.mk (some 19) _ _ _ _ _) (v := ?v113) rfl (by kernel_rfl) (by kernel_rfl) (by kernel_rfl) (fun _ _ _ h => h) (Or.inl ⟨by rfl, ?y113⟩) hHeld ?r113
      case y113 => (intro W hSW; obtain ⟨q0, q1, q2, q3, q4, q5, q6, q7, q8, q9, q10, q11⟩ := hSW; go_simp; try with_reducible rfl)
      simp only [Act.put, List.setIfInBounds_toArray, List.set_cons_zero, List.set_cons_succ]
      refine wpAnyH_ready (rs := [14]) (by kernel_rfl) (by simp) (AllReadyH.cons (o := Oper.mk (some 22) _ _ _ _ _) rfl (fun Kk hK => ?_) AllReadyH.nil)
      go_simp
      refine (HA4.out _).mono ?_
      rintro e u2 ⟨rfl, b2⟩
      refine hK.out _ _ ⟨boxk_cell (box_step (box_step X1.out b1) b2) 0 _ rfl, boxk_cell (box_step (box_step X1.out b1) b2) 1 _ rfl, boxk_cell (box_step (box_step X1.out b1) b2) 2 _ rfl, boxk_cell (box_step (box_step X1.out b1) b2) 3 _ rfl, boxk_cell (box_step (box_step X1.out b1) b2) 4 _ rfl, boxk_cell (box_step (box_step X1.out b1) b2) 5 _ rfl, boxk_cell (box_step (box_step X1.out b1) b2) 6 _ rfl, boxk_cell (box_step (box_step X1.out b1) b2) 7 _ rfl, boxk_cell (box_step (box_step X1.out b1) b2) 8 _ rfl, boxk_cell (box_step (box_step X1.out b1) b2) 9 _ rfl, boxk_cell (box_step (box_step X1.out b1) b2) 10 _ rfl, boxk_cell (box_step (box_step S1.out b1) b2) 0 _ rfl⟩ (fun hHeld => ?_)
      clear hK Kk
      refine wpAnyH_take (i := 15) (oi := Oper.mk (some 23) _ _ _ _ _) (v := ?v114) rfl (by kernel_rfl) (by kernel_rfl) (by kernel_rfl) (fun _ _ _ h => h) (Or.inl ⟨by rfl, ?y114⟩) hHeld ?r114
      case y114 => (intro W hSW; obtain ⟨q0, q1, q2, q3, q4, q5, q6, q7, q8, q9, q10, q11⟩ := hSW; go_simp; try with_reducible rfl)
      simp only [Act.put, List.setIfInBounds_toArray, List.set_cons_zero, List.set_cons_succ]
      refine wpAnyH_take (i := 16) (oi := Oper.mk (some 2) _ _ _ _ _) (v := ?v115) rfl (by kernel_rfl) (by kernel_rfl) (by kernel_rfl) (fun _ _ _ h => h) (Or.inl ⟨by rfl, ?y115⟩) hHeld ?r115
      case y115 => (intro W hSW; obtain ⟨q0, q1, q2, q3, q4, q5, q6, q7, q8, q9, q10, q11⟩ := hSW; go_simp; try with_reducible rfl)
      simp only [Act.put, List.setIfInBounds_toArray, List.set_cons_zero, List.set_cons_succ]
      refine wpAnyH_done (by kernel_rfl) ?_ _
      have BE : Below w.heap.size w u2 := (B1.out.trans (b1.mono B1.out.size)).trans (b2.mono (B1.out.trans (b1.mono B1.out.size)).size)
      clear hHeld b1 b2 X1 S1 B1 HA3 HA4
      go_wp2
      go_ret
      exact ⟨by rw [HY.out]; rfl, BE⟩
    · refine wp_region_held_drew (S := fun W => W.cell? ⟨w.heap.size, 0, none⟩ = some (.int .i64 2) ∧ W.cell? ⟨w.heap.size, 1, none⟩ = some (.int .i64 LK) ∧ W.cell? ⟨w.heap.size, 2, none⟩ = some (.string LS) ∧ W.cell? ⟨w.heap.size, 3, none⟩ = some (.int .i64 LVK) ∧ W.cell? ⟨w.heap.size, 4, none⟩ = some (.int .i64 LVN) ∧ W.cell? ⟨w.heap.size, 5, none⟩ = some (.string LVS) ∧ W.cell? ⟨w.heap.size, 6, none⟩ = some (.int .i64 RK) ∧ W.cell? ⟨w.heap.size, 7, none⟩ = some (.string RS) ∧ W.cell? ⟨w.heap.size, 8, none⟩ = some (.int .i64 RVK) ∧ W.cell? ⟨w.heap.size, 9, none⟩ = some (.int .i64 RVN) ∧ W.cell? ⟨w.heap.size, 10, none⟩ = some (.string RVS) ∧ W.cell? ⟨w1.heap.size, 1, none⟩ = some (.string ⟨#[35]⟩)) (by kernel_rfl) ⟨boxk_cell X1.out 0 _ rfl, boxk_cell X1.out 1 _ rfl, boxk_cell X1.out 2 _ rfl, boxk_cell X1.out 3 _ rfl, boxk_cell X1.out 4 _ rfl, boxk_cell X1.out 5 _ rfl, boxk_cell X1.out 6 _ rfl, boxk_cell X1.out 7 _ rfl, boxk_cell X1.out 8 _ rfl, boxk_cell X1.out 9 _ rfl, boxk_cell X1.out 10 _ rfl, boxk_cell S1.out 1 _ rfl⟩ (fun hHeld => ?_)
      refine wpAnyH_take (i := 0) (oi := Oper.mk (some 8) _ _ _ _ _) (v := ?v201) rfl (by kernel_rfl) (by kernel_rfl) (by kernel_rfl) (fun _ _ _ h => h) (Or.inl ⟨by rfl, ?y201⟩) hHeld ?r201
      case y201 => (intro W hSW; obtain ⟨q0, q1, q2, q3, q4, q5, q6, q7, q8, q9, q10, q11⟩ := hSW; go_simp; try with_reducible rfl)
      simp only [Act.put, List.setIfInBounds_toArray, List.set_cons_zero, List.set_cons_succ]
      refine wpAnyH_take (i := 1) (oi := Oper.mk (some 9) _ _ _ _ _) (v := ?v202) rfl (by kernel_rfl) (by kernel_rfl) (by kernel_rfl) (fun _ _ _ h => h) (Or.inl ⟨by rfl, ?y202⟩) hHeld ?r202
      case y202 => (intro W hSW; obtain ⟨q0, q1, q2, q3, q4, q5, q6, q7, q8, q9, q10, q11⟩ := hSW; go_simp; try with_reducible rfl)
      simp only [Act.put, List.setIfInBounds_toArray, List.set_cons_zero, List.set_cons_succ]
      refine wpAnyH_take (i := 4) (oi := Oper.mk (some 12) _ _ _ _ _) (v := ?v203) rfl (by kernel_rfl) (by kernel_rfl) (by kernel_rfl) (fun _ _ _ h => h) (Or.inl ⟨by rfl, ?y203⟩) hHeld ?r203
      case y203 => (intro W hSW; obtain ⟨q0, q1, q2, q3, q4, q5, q6, q7, q8, q9, q10, q11⟩ := hSW; go_simp; try with_reducible rfl)
      simp only [Act.put, List.setIfInBounds_toArray, List.set_cons_zero, List.set_cons_succ]
      refine wpAnyH_take (i := 5) (oi := Oper.mk (some 13) _ _ _ _ _) (v := ?v204) rfl (by kernel_rfl) (by kernel_rfl) (by kernel_rfl) (fun _ _ _ h => h) (Or.inl ⟨by rfl, ?y204⟩) hHeld ?r204
      case y204 => (intro W hSW; obtain ⟨q0, q1, q2, q3, q4, q5, q6, q7, q8, q9, q10, q11⟩ := hSW; go_simp; try with_reducible rfl)
      simp only [Act.put, List.setIfInBounds_toArray, List.set_cons_zero, List.set_cons_succ]
      refine wpAnyH_take (i := 6) (oi := Oper.mk (some 14) _ _ _ _ _) (v := ?v205) rfl (by kernel_rfl) (by kernel_rfl) (by kernel_rfl) (fun _ _ _ h => h) (Or.inl ⟨by rfl, ?y205⟩) hHeld ?r205
      case y205 => (intro W hSW; obtain ⟨q0, q1, q2, q3, q4, q5, q6, q7, q8, q9, q10, q11⟩ := hSW; go_simp; try with_reducible rfl)
      simp only [Act.put, List.setIfInBounds_toArray, List.set_cons_zero, List.set_cons_succ]
      refine wpAnyH_take (i := 7) (oi := Oper.mk (some 15) _ _ _ _ _) (v := ?v206) rfl (by kernel_rfl) (by kernel_rfl) (by kernel_rfl) (fun _ _ _ h => h) (Or.inl ⟨by rfl, ?y206⟩) hHeld ?r206
      case y206 => (intro W hSW; obtain ⟨q0, q1, q2, q3, q4, q5, q6, q7, q8, q9, q10, q11⟩ := hSW; go_simp; try with_reducible rfl)
      simp only [Act.put, List.setIfInBounds_toArray, List.set_cons_zero, List.set_cons_succ]
      refine wpAnyH_take (i := 8) (oi := Oper.mk (some 16) _ _ _ _ _) (v := ?v207) rfl (by kernel_rfl) (by kernel_rfl) (by kernel_rfl) (fun _ _ _ h => h) (Or.inl ⟨by rfl, ?y207⟩) hHeld ?r207
      case y207 => (intro W hSW; obtain ⟨q0, q1, q2, q3, q4, q5, q6, q7, q8, q9, q10, q11⟩ := hSW; go_simp; try with_reducible rfl)
      simp only [Act.put, List.setIfInBounds_toArray, List.set_cons_zero, List.set_cons_succ]
      refine wpAnyH_take (i := 9) (oi := Oper.mk (some 17) _ _ _ _ _) (v := ?v208) rfl (by kernel_rfl) (by kernel_rfl) (by kernel_rfl) (fun _ _ _ h => h) (Or.inl ⟨by rfl, ?y208⟩) hHeld ?r208
      case y208 => (intro W hSW; obtain ⟨q0, q1, q2, q3, q4, q5, q6, q7, q8, q9, q10, q11⟩ := hSW; go_simp; try with_reducible rfl)
      simp only [Act.put, List.setIfInBounds_toArray, List.set_cons_zero, List.set_cons_succ]
      refine wpAnyH_take (i := 12) (oi := Oper.mk (some 20) _ _ _ _ _) (v := ?v209) rfl (by kernel_rfl) (by kernel_rfl) (by kernel_rfl) (fun _ _ _ h => h) (Or.inl ⟨by rfl, ?y209⟩) hHeld ?r209
      case y209 => (intro W hSW; obtain ⟨q0, q1, q2, q3, q4, q5, q6, q7, q8, q9, q10, q11⟩ := hSW; go_simp; try with_reducible rfl)
      simp only [Act.put, List.setIfInBounds_toArray, List.set_cons_zero, List.set_cons_succ]
      refine wpAnyH_take (i := 13) (oi := Oper.mk (some 21) _ _ _ _ _) (v := ?v210) rfl (by kernel_rfl) (by kernel_rfl) (by kernel_rfl) (fun _ _ _ h => h) (Or.inl ⟨by rfl, ?y210⟩) hHeld ?r210
      case y210 => (intro W hSW; obtain ⟨q0, q1, q2, q3, q4, q5, q6, q7, q8, q9, q10, q11⟩ := hSW; go_simp; try with_reducible rfl)
      simp only [Act.put, List.setIfInBounds_toArray, List.set_cons_zero, List.set_cons_succ]
      refine wpAnyH_ready (rs := [2]) (by kernel_rfl) (by simp) (AllReadyH.cons (o := Oper.mk (some 10) _ _ _ _ _) rfl (fun Kk hK => ?_) AllReadyH.nil)
      go_simp
      refine (HA3.out _).mono ?_
      rintro e u1 ⟨rfl, b1⟩
      refine hK.out _ _ ⟨boxk_cell (box_step X1.out b1) 0 _ rfl, boxk_cell (box_step X1.out b1) 1 _ rfl, boxk_cell (box_step X1.out b1) 2 _ rfl, boxk_cell (box_step X1.out b1) 3 _ rfl, boxk_cell (box_step X1.out b1) 4 _ rfl, boxk_cell (box_step X1.out b1) 5 _ rfl, boxk_cell (box_step X1.out b1) 6 _ rfl, boxk_cell (box_step X1.out b1) 7 _ rfl, boxk_cell (box_step X1.out b1) 8 _ rfl, boxk_cell (box_step X1.out b1) 9 _ rfl, boxk_cell (box_step X1.out b1) 10 _ rfl, boxk_cell (box_step S1.out b1) 1 _ rfl⟩ (fun hHeld => ?_)
      clear hK Kk
      refine wpAnyH_take (i := 3) (oi := Oper.mk (some 11) _ _ _ _ _) (v := ?v211) rfl (by kernel_rfl) (by kernel_rfl) (by kernel_rfl) (fun _ _ _ h => h) (Or.inl ⟨by rfl, ?y211⟩) hHeld ?r211
      case y211 => (intro W hSW; obtain ⟨q0, q1, q2, q3, q4, q5, q6, q7, q8, q9, q10, q11⟩ := hSW; go_simp; try with_reducible rfl)
      simp only [Act.put, List.setIfInBounds_toArray, List.set_cons_zero, List.set_cons_succ]
      refine wpAnyH_take (i := 10) (oi := Oper.mk (some 18) _ _ _ _ _) (v := ?v212) rfl (by kernel_rfl) (by kernel_rfl) (by kernel_rfl) (fun _ _ _ h => h) (Or.inl ⟨by rfl, ?y212⟩) hHeld ?r212
      case y212 => (intro W hSW; obtain ⟨q0, q1, q2, q3, q4, q5, q6, q7, q8, q9, q10, q11⟩ := hSW; go_simp; try with_reducible rfl)
      simp only [Act.put, List.setIfInBounds_toArray, List.set_cons_zero, List.set_cons_succ]
      refine wpAnyH_take (i := 11) (oi := Oper.mk (some 19) _ _ _ _ _) (v := ?v213) rfl (by kernel_rfl) (by kernel_rfl) (by kernel_rfl) (fun _ _ _ h => h) (Or.inl ⟨by rfl, ?y213⟩) hHeld ?r213
      case y213 => (intro W hSW; obtain ⟨q0, q1, q2, q3, q4, q5, q6, q7, q8, q9, q10, q11⟩ := hSW; go_simp; try with_reducible rfl)
      simp only [Act.put, List.setIfInBounds_toArray, List.set_cons_zero, List.set_cons_succ]
      refine wpAnyH_ready (rs := [14]) (by kernel_rfl) (by simp) (AllReadyH.cons (o := Oper.mk (some 22) _ _ _ _ _) rfl (fun Kk hK => ?_) AllReadyH.nil)
      go_simp
      refine (HA4.out _).mono ?_
      rintro e u2 ⟨rfl, b2⟩
      refine hK.out _ _ ⟨boxk_cell (box_step (box_step X1.out b1) b2) 0 _ rfl, boxk_cell (box_step (box_step X1.out b1) b2) 1 _ rfl, boxk_cell (box_step (box_step X1.out b1) b2) 2 _ rfl, boxk_cell (box_step (box_step X1.out b1) b2) 3 _ rfl, boxk_cell (box_step (box_step X1.out b1) b2) 4 _ rfl, boxk_cell (box_step (box_step X1.out b1) b2) 5 _ rfl, boxk_cell (box_step (box_step X1.out b1) b2) 6 _ rfl, boxk_cell (box_step (box_step X1.out b1) b2) 7 _ rfl, boxk_cell (box_step (box_step X1.out b1) b2) 8 _ rfl, boxk_cell (box_step (box_step X1.out b1) b2) 9 _ rfl, boxk_cell (box_step (box_step X1.out b1) b2) 10 _ rfl, boxk_cell (box_step (box_step S1.out b1) b2) 1 _ rfl⟩ (fun hHeld => ?_)
      clear hK Kk
      refine wpAnyH_take (i := 15) (oi := Oper.mk (some 23) _ _ _ _ _) (v := ?v214) rfl (by kernel_rfl) (by kernel_rfl) (by kernel_rfl) (fun _ _ _ h => h) (Or.inl ⟨by rfl, ?y214⟩) hHeld ?r214
      case y214 => (intro W hSW; obtain ⟨q0, q1, q2, q3, q4, q5, q6, q7, q8, q9, q10, q11⟩ := hSW; go_simp; try with_reducible rfl)
      simp only [Act.put, List.setIfInBounds_toArray, List.set_cons_zero, List.set_cons_succ]
      refine wpAnyH_take (i := 16) (oi := Oper.mk (some 2) _ _ _ _ _) (v := ?v215) rfl (by kernel_rfl) (by kernel_rfl) (by kernel_rfl) (fun _ _ _ h => h) (Or.inl ⟨by rfl, ?y215⟩) hHeld ?r215
      case y215 => (intro W hSW; obtain ⟨q0, q1, q2, q3, q4, q5, q6, q7, q8, q9, q10, q11⟩ := hSW; go_simp; try with_reducible rfl)
      simp only [Act.put, List.setIfInBounds_toArray, List.set_cons_zero, List.set_cons_succ]
      refine wpAnyH_done (by kernel_rfl) ?_ _
      have BE : Below w.heap.size w u2 := (B1.out.trans (b1.mono B1.out.size)).trans (b2.mono (B1.out.trans (b1.mono B1.out.size)).size)
      clear hHeld b1 b2 X1 S1 B1 HA3 HA4
      go_wp2
      go_ret
      exact ⟨by rw [HY.out]; rfl, BE⟩
    · refine wp_region_held_drew (S := fun W => W.cell? ⟨w.heap.size, 0, none⟩ = some (.int .i64 3) ∧ W.cell? ⟨w.heap.size, 1, none⟩ = some (.int .i64 LK) ∧ W.cell? ⟨w.heap.size, 2, none⟩ = some (.string LS) ∧ W.cell? ⟨w.heap.size, 3, none⟩ = some (.int .i64 LVK) ∧ W.cell? ⟨w.heap.size, 4, none⟩ = some (.int .i64 LVN) ∧ W.cell? ⟨w.heap.size, 5, none⟩ = some (.string LVS) ∧ W.cell? ⟨w.heap.size, 6, none⟩ = some (.int .i64 RK) ∧ W.cell? ⟨w.heap.size, 7, none⟩ = some (.string RS) ∧ W.cell? ⟨w.heap.size, 8, none⟩ = some (.int .i64 RVK) ∧ W.cell? ⟨w.heap.size, 9, none⟩ = some (.int .i64 RVN) ∧ W.cell? ⟨w.heap.size, 10, none⟩ = some (.string RVS) ∧ W.cell? ⟨w1.heap.size, 2, none⟩ = some (.string ⟨#[60]⟩)) (by kernel_rfl) ⟨boxk_cell X1.out 0 _ rfl, boxk_cell X1.out 1 _ rfl, boxk_cell X1.out 2 _ rfl, boxk_cell X1.out 3 _ rfl, boxk_cell X1.out 4 _ rfl, boxk_cell X1.out 5 _ rfl, boxk_cell X1.out 6 _ rfl, boxk_cell X1.out 7 _ rfl, boxk_cell X1.out 8 _ rfl, boxk_cell X1.out 9 _ rfl, boxk_cell X1.out 10 _ rfl, boxk_cell S1.out 2 _ rfl⟩ (fun hHeld => ?_)
      refine wpAnyH_take (i := 0) (oi := Oper.mk (some 8) _ _ _ _ _) (v := ?v301) rfl (by kernel_rfl) (by kernel_rfl) (by kernel_rfl) (fun _ _ _ h => h) (Or.inl ⟨by rfl, ?y301⟩) hHeld ?r301
      case y301 => (intro W hSW; obtain ⟨q0, q1, q2, q3, q4, q5, q6, q7, q8, q9, q10, q11⟩ := hSW; go_simp; try with_reducible rfl)
      simp only [Act.put, List.setIfInBounds_toArray, List.set_cons_zero, List.set_cons_succ]
      refine wpAnyH_take (i := 1) (oi := Oper.mk (some 9) _ _ _ _ _) (v := ?v302) rfl (by kernel_rfl) (by kernel_rfl) (by kernel_rfl) (fun _ _ _ h => h) (Or.inl ⟨by rfl, ?y302⟩) hHeld ?r302
      case y302 => (intro W hSW; obtain ⟨q0, q1, q2, q3, q4, q5, q6, q7, q8, q9, q10, q11⟩ := hSW; go_simp; try with_reducible rfl)
      simp only [Act.put, List.setIfInBounds_toArray, List.set_cons_zero, List.set_cons_succ]
      refine wpAnyH_take (i := 4) (oi := Oper.mk (some 12) _ _ _ _ _) (v := ?v303) rfl (by kernel_rfl) (by kernel_rfl) (by kernel_rfl) (fun _ _ _ h => h) (Or.inl ⟨by rfl, ?y303⟩) hHeld ?r303
      case y303 => (intro W hSW; obtain ⟨q0, q1, q2, q3, q4, q5, q6, q7, q8, q9, q10, q11⟩ := hSW; go_simp; try with_reducible rfl)
      simp only [Act.put, List.setIfInBounds_toArray, List.set_cons_zero, List.set_cons_succ]
      refine wpAnyH_take (i := 5) (oi := Oper.mk (some 13) _ _ _ _ _) (v := ?v304) rfl (by kernel_rfl) (by kernel_rfl) (by kernel_rfl) (fun _ _ _ h => h) (Or.inl ⟨by rfl, ?y304⟩) hHeld ?r304
      case y304 => (intro W hSW; obtain ⟨q0, q1, q2, q3, q4, q5, q6, q7, q8, q9, q10, q11⟩ := hSW; go_simp; try with_reducible rfl)
      simp only [Act.put, List.setIfInBounds_toArray, List.set_cons_zero, List.set_cons_succ]
      refine wpAnyH_take (i := 6) (oi := Oper.mk (some 14) _ _ _ _ _) (v := ?v305) rfl (by kernel_rfl) (by kernel_rfl) (by kernel_rfl) (fun _ _ _ h => h) (Or.inl ⟨by rfl, ?y305⟩) hHeld ?r305
      case y305 => (intro W hSW; obtain ⟨q0, q1, q2, q3, q4, q5, q6, q7, q8, q9, q10, q11⟩ := hSW; go_simp; try with_reducible rfl)
      simp only [Act.put, List.setIfInBounds_toArray, List.set_cons_zero, List.set_cons_succ]
      refine wpAnyH_take (i := 7) (oi := Oper.mk (some 15) _ _ _ _ _) (v := ?v306) rfl (by kernel_rfl) (by kernel_rfl) (by kernel_rfl) (fun _ _ _ h => h) (Or.inl ⟨by rfl, ?y306⟩) hHeld ?r306
      case y306 => (intro W hSW; obtain ⟨q0, q1, q2, q3, q4, q5, q6, q7, q8, q9, q10, q11⟩ := hSW; go_simp; try with_reducible rfl)
      simp only [Act.put, List.setIfInBounds_toArray, List.set_cons_zero, List.set_cons_succ]
      refine wpAnyH_take (i := 8) (oi := Oper.mk (some 16) _ _ _ _ _) (v := ?v307) rfl (by kernel_rfl) (by kernel_rfl) (by kernel_rfl) (fun _ _ _ h => h) (Or.inl ⟨by rfl, ?y307⟩) hHeld ?r307
      case y307 => (intro W hSW; obtain ⟨q0, q1, q2, q3, q4, q5, q6, q7, q8, q9, q10, q11⟩ := hSW; go_simp; try with_reducible rfl)
      simp only [Act.put, List.setIfInBounds_toArray, List.set_cons_zero, List.set_cons_succ]
      refine wpAnyH_take (i := 9) (oi := Oper.mk (some 17) _ _ _ _ _) (v := ?v308) rfl (by kernel_rfl) (by kernel_rfl) (by kernel_rfl) (fun _ _ _ h => h) (Or.inl ⟨by rfl, ?y308⟩) hHeld ?r308
      case y308 => (intro W hSW; obtain ⟨q0, q1, q2, q3, q4, q5, q6, q7, q8, q9, q10, q11⟩ := hSW; go_simp; try with_reducible rfl)
      simp only [Act.put, List.setIfInBounds_toArray, List.set_cons_zero, List.set_cons_succ]
      refine wpAnyH_take (i := 12) (oi := Oper.mk (some 20) _ _ _ _ _) (v := ?v309) rfl (by kernel_rfl) (by kernel_rfl) (by kernel_rfl) (fun _ _ _ h => h) (Or.inl ⟨by rfl, ?y309⟩) hHeld ?r309
      case y309 => (intro W hSW; obtain ⟨q0, q1, q2, q3, q4, q5, q6, q7, q8, q9, q10, q11⟩ := hSW; go_simp; try with_reducible rfl)
      simp only [Act.put, List.setIfInBounds_toArray, List.set_cons_zero, List.set_cons_succ]
      refine wpAnyH_take (i := 13) (oi := Oper.mk (some 21) _ _ _ _ _) (v := ?v310) rfl (by kernel_rfl) (by kernel_rfl) (by kernel_rfl) (fun _ _ _ h => h) (Or.inl ⟨by rfl, ?y310⟩) hHeld ?r310
      case y310 => (intro W hSW; obtain ⟨q0, q1, q2, q3, q4, q5, q6, q7, q8, q9, q10, q11⟩ := hSW; go_simp; try with_reducible rfl)
      simp only [Act.put, List.setIfInBounds_toArray, List.set_cons_zero, List.set_cons_succ]
      refine wpAnyH_ready (rs := [2]) (by kernel_rfl) (by simp) (AllReadyH.cons (o := Oper.mk (some 10) _ _ _ _ _) rfl (fun Kk hK => ?_) AllReadyH.nil)
      go_simp
      refine (HA3.out _).mono ?_
      rintro e u1 ⟨rfl, b1⟩
      refine hK.out _ _ ⟨boxk_cell (box_step X1.out b1) 0 _ rfl, boxk_cell (box_step X1.out b1) 1 _ rfl, boxk_cell (box_step X1.out b1) 2 _ rfl, boxk_cell (box_step X1.out b1) 3 _ rfl, boxk_cell (box_step X1.out b1) 4 _ rfl, boxk_cell (box_step X1.out b1) 5 _ rfl, boxk_cell (box_step X1.out b1) 6 _ rfl, boxk_cell (box_step X1.out b1) 7 _ rfl, boxk_cell (box_step X1.out b1) 8 _ rfl, boxk_cell (box_step X1.out b1) 9 _ rfl, boxk_cell (box_step X1.out b1) 10 _ rfl, boxk_cell (box_step S1.out b1) 2 _ rfl⟩ (fun hHeld => ?_)
      clear hK Kk
      refine wpAnyH_take (i := 3) (oi := Oper.mk (some 11) _ _ _ _ _) (v := ?v311) rfl (by kernel_rfl) (by kernel_rfl) (by kernel_rfl) (fun _ _ _ h => h) (Or.inl ⟨by rfl, ?y311⟩) hHeld ?r311
      case y311 => (intro W hSW; obtain ⟨q0, q1, q2, q3, q4, q5, q6, q7, q8, q9, q10, q11⟩ := hSW; go_simp; try with_reducible rfl)
      simp only [Act.put, List.setIfInBounds_toArray, List.set_cons_zero, List.set_cons_succ]
      refine wpAnyH_take (i := 10) (oi := Oper.mk (some 18) _ _ _ _ _) (v := ?v312) rfl (by kernel_rfl) (by kernel_rfl) (by kernel_rfl) (fun _ _ _ h => h) (Or.inl ⟨by rfl, ?y312⟩) hHeld ?r312
      case y312 => (intro W hSW; obtain ⟨q0, q1, q2, q3, q4, q5, q6, q7, q8, q9, q10, q11⟩ := hSW; go_simp; try with_reducible rfl)
      simp only [Act.put, List.setIfInBounds_toArray, List.set_cons_zero, List.set_cons_succ]
      refine wpAnyH_take (i := 11) (oi := Oper.mk (some 19) _ _ _ _ _) (v := ?v313) rfl (by kernel_rfl) (by kernel_rfl) (by kernel_rfl) (fun _ _ _ h => h) (Or.inl ⟨by rfl, ?y313⟩) hHeld ?r313
      case y313 => (intro W hSW; obtain ⟨q0, q1, q2, q3, q4, q5, q6, q7, q8, q9, q10, q11⟩ := hSW; go_simp; try with_reducible rfl)
      simp only [Act.put, List.setIfInBounds_toArray, List.set_cons_zero, List.set_cons_succ]
      refine wpAnyH_ready (rs := [14]) (by kernel_rfl) (by simp) (AllReadyH.cons (o := Oper.mk (some 22) _ _ _ _ _) rfl (fun Kk hK => ?_) AllReadyH.nil)
      go_simp
      refine (HA4.out _).mono ?_
      rintro e u2 ⟨rfl, b2⟩
      refine hK.out _ _ ⟨boxk_cell (box_step (box_step X1.out b1) b2) 0 _ rfl, boxk_cell (box_step (box_step X1.out b1) b2) 1 _ rfl, boxk_cell (box_step (box_step X1.out b1) b2) 2 _ rfl, boxk_cell (box_step (box_step X1.out b1) b2) 3 _ rfl, boxk_cell (box_step (box_step X1.out b1) b2) 4 _ rfl, boxk_cell (box_step (box_step X1.out b1) b2) 5 _ rfl, boxk_cell (box_step (box_step X1.out b1) b2) 6 _ rfl, boxk_cell (box_step (box_step X1.out b1) b2) 7 _ rfl, boxk_cell (box_step (box_step X1.out b1) b2) 8 _ rfl, boxk_cell (box_step (box_step X1.out b1) b2) 9 _ rfl, boxk_cell (box_step (box_step X1.out b1) b2) 10 _ rfl, boxk_cell (box_step (box_step S1.out b1) b2) 2 _ rfl⟩ (fun hHeld => ?_)
      clear hK Kk
      refine wpAnyH_take (i := 15) (oi := Oper.mk (some 23) _ _ _ _ _) (v := ?v314) rfl (by kernel_rfl) (by kernel_rfl) (by kernel_rfl) (fun _ _ _ h => h) (Or.inl ⟨by rfl, ?y314⟩) hHeld ?r314
      case y314 => (intro W hSW; obtain ⟨q0, q1, q2, q3, q4, q5, q6, q7, q8, q9, q10, q11⟩ := hSW; go_simp; try with_reducible rfl)
      simp only [Act.put, List.setIfInBounds_toArray, List.set_cons_zero, List.set_cons_succ]
      refine wpAnyH_take (i := 16) (oi := Oper.mk (some 2) _ _ _ _ _) (v := ?v315) rfl (by kernel_rfl) (by kernel_rfl) (by kernel_rfl) (fun _ _ _ h => h) (Or.inl ⟨by rfl, ?y315⟩) hHeld ?r315
      case y315 => (intro W hSW; obtain ⟨q0, q1, q2, q3, q4, q5, q6, q7, q8, q9, q10, q11⟩ := hSW; go_simp; try with_reducible rfl)
      simp only [Act.put, List.setIfInBounds_toArray, List.set_cons_zero, List.set_cons_succ]
      refine wpAnyH_done (by kernel_rfl) ?_ _
      have BE : Below w.heap.size w u2 := (B1.out.trans (b1.mono B1.out.size)).trans (b2.mono (B1.out.trans (b1.mono B1.out.size)).size)
      clear hHeld b1 b2 X1 S1 B1 HA3 HA4
      go_wp2
      go_ret
      exact ⟨by rw [HY.out]; rfl, BE⟩
end Go.Proofs.YtcfhpcbkdpgboaaGreatDoor
