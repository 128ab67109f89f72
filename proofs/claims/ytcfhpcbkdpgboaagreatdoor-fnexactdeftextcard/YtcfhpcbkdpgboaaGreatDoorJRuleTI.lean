/-
  What the tested RuleText answers: ruleT.
-/
import Derived.Test.YtcfhpcbkdpgboaaGreatDoorJJoinsI
import Derived.Test.YtcfhpcbkdpgboaaGreatDoorJoined4
namespace Go.Proofs.YtcfhpcbkdpgboaaGreatDoor
open Go.RowKit
set_option linter.unusedVariables false

theorem itoaS_any (n : Int) (w : World) (h : -100 ≤ n ∧ n ≤ 100) (ht : Tab w) : Calls Tryz.prog 32 #[.int .i64 n] w fun e w' => e = .returned (.string (itoaB n)) ∧ Below w.heap.size w w' := by
  refine (Tryz.strconv_Itoa n (by omega) (by omega) w ht).mono ?_
  rintro e w1 ⟨rfl, k, os, rfl⟩
  exact ⟨rfl, Lib.below_grow w.heap.size w (Nat.le_refl _) k os⟩
theorem joins_size (x : RE) (h : ruleB x = true) : (itoaB x.sal).size ≤ 22 ∧ (joinT (x.P.map PE.txt)).size ≤ 2412 ∧ (joinT (x.C.map C11.txt)).size ≤ 2412 ∧ (joinT (x.A.map QE.txt)).size ≤ 2412 := by
  obtain ⟨h1, h2, h3, h4, h5⟩ := rule_open h
  have a1 := joinT_size (M := 400) (x.P.map PE.txt) (fun t ht => by obtain ⟨p, _, rfl⟩ := List.mem_map.1 ht; exact patT_size p)
  have a2 := joinT_size (M := 400) (x.C.map C11.txt) (fun t ht => by obtain ⟨p, _, rfl⟩ := List.mem_map.1 ht; exact condT_size p)
  have a3 := joinT_size (M := 400) (x.A.map QE.txt) (fun t ht => by obtain ⟨p, _, rfl⟩ := List.mem_map.1 ht; exact actT_size p)
  rw [List.length_map] at a1 a2 a3
  exact ⟨itoaB_size (by omega), by omega, by omega, by omega⟩

set_option maxRecDepth 100000 in
set_option maxHeartbeats 6400000 in
theorem implRuleText_any (x : RE) (w : World) (hr : RdRule w x) (hs : x.small) (hc : x.nP ≤ x.cP) (ht : Tab w) (hw : Wrd w) :
    Calls Tryz.prog 15 #[.agg #[.string x.nm, .int .i64 x.sal, .slice x.aP x.nP x.cP, .slice x.aC x.nC x.cC, .slice x.aA x.nA x.cA]] w fun e w' => e = .returned (.string (ruleT x)) ∧ Below w.heap.size w w' := by
  have b0 := below_al w (.cells #[.string x.nm, .int .i64 x.sal, .slice x.aP x.nP x.cP, .slice x.aC x.nC x.cC, .slice x.aA x.nA x.cA] 40)
  have hA0 := boxk_new w #[.string x.nm, .int .i64 x.sal, .slice x.aP x.nP x.cP, .slice x.aC x.nC x.cC, .slice x.aA x.nA x.cA] 40
  have HOk := hide (implRuleOk_any x (w.alloc (.cells #[.string x.nm, .int .i64 x.sal, .slice x.aP x.nP x.cP, .slice x.aC x.nC x.cC, .slice x.aA x.nA x.cA] 40)) (hr.below b0) hs hc)
  cases hv : ruleB x
  · rw [ruleT_no hv]
    rw [hv] at HOk
    go_enter Tryz.func15, Tryz.ntmps15
    go_wp2_with fail
    refine HOk.out.mono ?_
    rintro e w1 ⟨rfl, hb⟩
    have hB : Below w.heap.size w w1 := b0.trans (hb.mono b0.size)
    clear hb HOk hA0 b0
    go_wp2
    go_ret
    exact ⟨rfl, hB⟩
  · obtain ⟨hnm, hsal, hP, hC, hQ⟩ := rule_open hv
    obtain ⟨z1, z2, z3, z4⟩ := joins_size x hv
    obtain ⟨s1, s2, s3, s4⟩ := hs
    have hnP : x.nP ≤ 6 := by rw [← hr.np]; omega
    have hnC : x.nC ≤ 6 := by rw [← hr.nc]; omega
    have hnA : x.nA ≤ 6 := by rw [← hr.na]; omega
    rw [hv] at HOk
    have HT := hide (ruleT_yes hv)
    obtain ⟨tx, htx⟩ : ∃ tx, tx = ruleT x := ⟨_, rfl⟩
    rw [← htx] at HT ⊢
    obtain ⟨it, hit⟩ : ∃ it, it = itoaB x.sal := ⟨_, rfl⟩
    obtain ⟨yP, hyP⟩ : ∃ y, y = joinT (x.P.map PE.txt) := ⟨_, rfl⟩
    obtain ⟨yC, hyC⟩ : ∃ y, y = joinT (x.C.map C11.txt) := ⟨_, rfl⟩
    obtain ⟨yQ, hyQ⟩ : ∃ y, y = joinT (x.A.map QE.txt) := ⟨_, rfl⟩
    have HW : Hid (tx = ⟨#[114, 117, 108, 101, 32]⟩ ++ x.nm ++ ⟨#[32]⟩ ++ it ++ ⟨#[58, 32]⟩ ++ yP ++ (if x.C = [] then ⟨#[]⟩ else ⟨#[32, 43, 32]⟩ ++ yC) ++ ⟨#[32, 45, 62, 32]⟩ ++ yQ ++ ⟨#[46, 10]⟩) := by
      unfold Hid
      rw [HT.out, hit, hyP, hyC, hyQ]; rfl
    rw [← hit] at z1
    rw [← hyP] at z2
    rw [← hyC] at z3
    rw [← hyQ] at z4
    have HIt := hide hit
    have HyP := hide hyP
    have HyC := hide hyC
    have HyQ := hide hyQ
    clear htx HT hit hyP hyC hyQ hv
    have nn1 : ¬ 9223372036854775807 < 5 + x.nm.size := by omega
    have nm1 : 5 + x.nm.size ≤ 9223372036854775807 := by omega
    have nn2 : ¬ 9223372036854775807 < 5 + x.nm.size + 1 := by omega
    have nm2 : 5 + x.nm.size + 1 ≤ 9223372036854775807 := by omega
    have nk2 : ¬ 9223372036854775807 ≤ 5 + x.nm.size := by omega
    have nl2 : 5 + x.nm.size < 9223372036854775807 := by omega
    have nn3 : ¬ 9223372036854775807 < 5 + x.nm.size + 1 + it.size := by omega
    have nm3 : 5 + x.nm.size + 1 + it.size ≤ 9223372036854775807 := by omega
    have nn4 : ¬ 9223372036854775807 < 5 + x.nm.size + 1 + it.size + 2 := by omega
    have nm4 : 5 + x.nm.size + 1 + it.size + 2 ≤ 9223372036854775807 := by omega
    have nn5 : ¬ 9223372036854775807 < 5 + x.nm.size + 1 + it.size + 2 + yP.size := by omega
    have nm5 : 5 + x.nm.size + 1 + it.size + 2 + yP.size ≤ 9223372036854775807 := by omega
    go_enter Tryz.func15, Tryz.ntmps15
    go_wp2_with fail
    refine HOk.out.mono ?_
    rintro e w1 ⟨rfl, hb⟩
    have hA1 := box_step hA0 hb
    have hBB := b0.trans (hb.mono b0.size)
    clear hb HOk b0 hA0
    go_wp2
    have hA : w1.drew.heap[w.heap.size]? = some (.cells #[.string x.nm, .int .i64 x.sal, .slice x.aP x.nP x.cP, .slice x.aC x.nC x.cC, .slice x.aA x.nA x.cA] 40 (0, 0)) := hA1
    have hB1 := hBB.drew
    have hR1 : RdRule w1.drew x := (hr.below hBB).heap rfl
    have hT1 : Tab w1.drew := Tab.later ht hB1 (Nat.le_refl _)
    have hW1 : Wrd w1.drew := hw.later hB1
    clear hBB hA1
    refine wp_region_held_drew (S := fun W => W.cell? ⟨w.heap.size, 0, none⟩ = some (.string x.nm) ∧ W.cell? ⟨w.heap.size, 1, none⟩ = some (.int .i64 x.sal) ∧ W.cell? ⟨w.heap.size, 2, none⟩ = some (.slice x.aP x.nP x.cP) ∧ W.cell? ⟨w.heap.size, 3, none⟩ = some (.slice x.aC x.nC x.cC) ∧ W.cell? ⟨w.heap.size, 4, none⟩ = some (.slice x.aA x.nA x.cA)) (by kernel_rfl) ⟨boxk_cell hA 0 _ rfl, boxk_cell hA 1 _ rfl, boxk_cell hA 2 _ rfl, boxk_cell hA 3 _ rfl, boxk_cell hA 4 _ rfl⟩ (fun hHeld => ?_)
    refine wpAnyH_take (i := 0) (oi := Oper.mk (some 7) _ _ _ _ _) (v := ?v1) rfl (by kernel_rfl) (by kernel_rfl) (by kernel_rfl) (fun _ _ _ h => h) (Or.inl ⟨by rfl, ?y1⟩) hHeld ?r1
    case y1 => (intro W hSW; obtain ⟨q0, q1, q2, q3, q4⟩ := hSW; go_simp; try with_reducible rfl)
    simp only [Act.put, List.setIfInBounds_toArray, List.set_cons_zero, List.set_cons_succ]
    refine wpAnyH_take (i := 1) (oi := Oper.mk (some 8) _ _ _ _ _) (v := ?v2) rfl (by kernel_rfl) (by kernel_rfl) (by kernel_rfl) (fun _ _ _ h => h) (Or.inl ⟨by rfl, ?y2⟩) hHeld ?r2
    case y2 => (intro W hSW; obtain ⟨q0, q1, q2, q3, q4⟩ := hSW; go_simp; try with_reducible rfl)
    simp only [Act.put, List.setIfInBounds_toArray, List.set_cons_zero, List.set_cons_succ]
    refine wpAnyH_take (i := 2) (oi := Oper.mk (some 9) _ _ _ _ _) (v := ?v3) rfl (by kernel_rfl) (by kernel_rfl) (by kernel_rfl) (fun _ _ _ h => h) (Or.inl ⟨by rfl, ?y3⟩) hHeld ?r3
    case y3 => (intro W hSW; obtain ⟨q0, q1, q2, q3, q4⟩ := hSW; go_simp; try with_reducible rfl)
    simp only [Act.put, List.setIfInBounds_toArray, List.set_cons_zero, List.set_cons_succ]
    refine wpAnyH_take (i := 3) (oi := Oper.mk (some 10) _ _ _ _ _) (v := ?v4) rfl (by kernel_rfl) (by kernel_rfl) (by kernel_rfl) (fun _ _ _ h => h) (Or.inl ⟨by rfl, ?y4⟩) hHeld ?r4
    case y4 => (intro W hSW; obtain ⟨q0, q1, q2, q3, q4⟩ := hSW; go_simp; try with_reducible rfl)
    simp only [Act.put, List.setIfInBounds_toArray, List.set_cons_zero, List.set_cons_succ]
    refine wpAnyH_take (i := 4) (oi := Oper.mk (some 11) _ _ _ _ _) (v := ?v5) rfl (by kernel_rfl) (by kernel_rfl) (by kernel_rfl) (fun _ _ _ h => h) (Or.inl ⟨by rfl, ?y5⟩) hHeld ?r5
    case y5 => (intro W hSW; obtain ⟨q0, q1, q2, q3, q4⟩ := hSW; go_simp; try with_reducible rfl)
    simp only [Act.put, List.setIfInBounds_toArray, List.set_cons_zero, List.set_cons_succ]
    refine wpAnyH_take (i := 5) (oi := Oper.mk (some 12) _ _ _ _ _) (v := ?v6) rfl (by kernel_rfl) (by kernel_rfl) (by kernel_rfl) (fun _ _ _ h => h) (Or.inl ⟨by rfl, ?y6⟩) hHeld ?r6
    case y6 => (intro W hSW; obtain ⟨q0, q1, q2, q3, q4⟩ := hSW; go_simp; try with_reducible rfl)
    simp only [Act.put, List.setIfInBounds_toArray, List.set_cons_zero, List.set_cons_succ]
    refine wpAnyH_take (i := 9) (oi := Oper.mk (some 16) _ _ _ _ _) (v := ?v7) rfl (by kernel_rfl) (by kernel_rfl) (by kernel_rfl) (fun _ _ _ h => h) (Or.inl ⟨by rfl, ?y7⟩) hHeld ?r7
    case y7 => (intro W hSW; obtain ⟨q0, q1, q2, q3, q4⟩ := hSW; go_simp; try with_reducible rfl)
    simp only [Act.put, List.setIfInBounds_toArray, List.set_cons_zero, List.set_cons_succ]
    refine wpAnyH_take (i := 10) (oi := Oper.mk (some 17) _ _ _ _ _) (v := ?v8) rfl (by kernel_rfl) (by kernel_rfl) (by kernel_rfl) (fun _ _ _ h => h) (Or.inl ⟨by rfl, ?y8⟩) hHeld ?r8
    case y8 => (intro W hSW; obtain ⟨q0, q1, q2, q3, q4⟩ := hSW; go_simp; try with_reducible rfl)
    simp only [Act.put, List.setIfInBounds_toArray, List.set_cons_zero, List.set_cons_succ]
    refine wpAnyH_ready (rs := [6]) (by kernel_rfl) (by simp) (AllReadyH.cons (o := Oper.mk (some 13) _ _ _ _ _) rfl (fun Kk hK => ?_) AllReadyH.nil)
    go_simp
    refine (itoaS_any x.sal _ hsal hT1).mono ?_
    rintro e u1 ⟨rfl, hb⟩
    have A1 := box_step hA hb
    have R1 := hR1.below hb
    have T1 := Tab.later hT1 hb (Nat.le_refl _)
    have B1 := hB1.trans (hb.mono hB1.size)
    have W1 := hW1.later hb
    rw [← HIt.out]
    clear hb
    refine hK.out _ _ ⟨boxk_cell A1 0 _ rfl, boxk_cell A1 1 _ rfl, boxk_cell A1 2 _ rfl, boxk_cell A1 3 _ rfl, boxk_cell A1 4 _ rfl⟩ (fun hHeld => ?_)
    clear hK Kk
    refine wpAnyH_take (i := 7) (oi := Oper.mk (some 14) _ _ _ _ _) (v := ?v9) rfl (by kernel_rfl) (by kernel_rfl) (by kernel_rfl) (fun _ _ _ h => h) (Or.inl ⟨by rfl, ?y9⟩) hHeld ?r9
    case y9 => (intro W hSW; obtain ⟨q0, q1, q2, q3, q4⟩ := hSW; go_simp; try with_reducible rfl)
    simp only [Act.put, List.setIfInBounds_toArray, List.set_cons_zero, List.set_cons_succ]
    refine wpAnyH_take (i := 8) (oi := Oper.mk (some 15) _ _ _ _ _) (v := ?v10) rfl (by kernel_rfl) (by kernel_rfl) (by kernel_rfl) (fun _ _ _ h => h) (Or.inl ⟨by rfl, ?y10⟩) hHeld ?r10
    case y10 => (intro W hSW; obtain ⟨q0, q1, q2, q3, q4⟩ := hSW; go_simp; try with_reducible rfl)
    simp only [Act.put, List.setIfInBounds_toArray, List.set_cons_zero, List.set_cons_succ]
    refine wpAnyH_ready (rs := [11]) (by kernel_rfl) (by simp) (AllReadyH.cons (o := Oper.mk (some 18) _ _ _ _ _) rfl (fun Kk hK => ?_) AllReadyH.nil)
    go_simp
    refine (joinP_any x.aP x.cP x.nP x.P _ hr.np R1.p s2 hnP T1).mono ?_
    rintro e u2 ⟨rfl, hb⟩
    have A2 := box_step A1 hb
    have R2 := R1.below hb
    have T2 := Tab.later T1 hb (Nat.le_refl _)
    have B2 := B1.trans (hb.mono B1.size)
    have W2 := W1.later hb
    rw [← HyP.out]
    clear hb
    refine hK.out _ _ ⟨boxk_cell A2 0 _ rfl, boxk_cell A2 1 _ rfl, boxk_cell A2 2 _ rfl, boxk_cell A2 3 _ rfl, boxk_cell A2 4 _ rfl⟩ (fun hHeld => ?_)
    clear hK Kk
    refine wpAnyH_take (i := 12) (oi := Oper.mk (some 19) _ _ _ _ _) (v := ?v11) rfl (by kernel_rfl) (by kernel_rfl) (by kernel_rfl) (fun _ _ _ h => h) (Or.inl ⟨by rfl, ?y11⟩) hHeld ?r11
    case y11 => (intro W hSW; obtain ⟨q0, q1, q2, q3, q4⟩ := hSW; go_simp; try with_reducible rfl)
    simp only [Act.put, List.setIfInBounds_toArray, List.set_cons_zero, List.set_cons_succ]
    refine wpAnyH_take (i := 13) (oi := Oper.mk (some 3) _ _ _ _ _) (v := ?v12) rfl (by kernel_rfl) (by kernel_rfl) (by kernel_rfl) (fun _ _ _ h => h) (Or.inl ⟨by rfl, ?y12⟩) hHeld ?r12
    case y12 => (intro W hSW; obtain ⟨q0, q1, q2, q3, q4⟩ := hSW; go_simp; try with_reducible rfl)
    simp only [Act.put, List.setIfInBounds_toArray, List.set_cons_zero, List.set_cons_succ]
    refine wpAnyH_done (by kernel_rfl) ?_ _
    obtain ⟨s, hsx⟩ : ∃ s, s = ⟨#[114, 117, 108, 101, 32]⟩ ++ x.nm ++ ⟨#[32]⟩ ++ it ++ ⟨#[58, 32]⟩ ++ yP := ⟨_, rfl⟩
    have hsz : s.size ≤ 3000 := by
      rw [hsx]
      have c1 : (ByteArray.mk #[114, 117, 108, 101, 32]).size = 5 := rfl
      have c2 : (ByteArray.mk #[32]).size = 1 := rfl
      have c3 : (ByteArray.mk #[58, 32]).size = 2 := rfl
      simp only [ByteArray.size_append, c1, c2, c3]; omega
    rw [← hsx] at HW ⊢
    clear hsx
    have a3 := boxk_cell A2 3 _ rfl
    by_cases hC0 : x.C = []
    · have hn0 : x.nC = 0 := by rw [← hr.nc, hC0]; rfl
      have HW2 : Hid (tx = s ++ ⟨#[32, 45, 62, 32]⟩ ++ yQ ++ ⟨#[46, 10]⟩) := by unfold Hid; rw [HW.out, if_pos hC0, show s ++ (⟨#[]⟩ : ByteArray) = s from by apply ByteArray.ext; simp]
      rw [hn0] at a3
      have a4 := boxk_cell A2 4 _ rfl
      have nn6 : ¬ 9223372036854775807 < s.size + 4 := by omega
      have nm6 : s.size + 4 ≤ 9223372036854775807 := by omega
      have nn7 : ¬ 9223372036854775807 < s.size + 4 + yQ.size := by omega
      have nm7 : s.size + 4 + yQ.size ≤ 9223372036854775807 := by omega
      have nn8 : ¬ 9223372036854775807 < s.size + 4 + yQ.size + 2 := by omega
      have nm8 : s.size + 4 + yQ.size + 2 ≤ 9223372036854775807 := by omega
      go_wp2_with fail
      refine (joinQ_any x.aA x.cA x.nA x.A _ hr.na R2.a s4 hnA T2 W2).mono ?_
      rintro e w5 ⟨rfl, hb⟩
      have B5 := B2.trans (hb.mono B2.size)
      rw [← HyQ.out]
      go_wp2
      go_ret
      exact ⟨by rw [HW2.out]; rfl, B5⟩
    · have hn0 : 0 < x.nC := by rw [← hr.nc]; exact List.length_pos_iff.2 hC0
      have HW2 : Hid (tx = s ++ (⟨#[32, 43, 32]⟩ ++ yC) ++ ⟨#[32, 45, 62, 32]⟩ ++ yQ ++ ⟨#[46, 10]⟩) := by unfold Hid; rw [HW.out, if_neg hC0]
      clear hC0
      have nn9 : ¬ 9223372036854775807 < 3 + yC.size := by omega
      have nm9 : 3 + yC.size ≤ 9223372036854775807 := by omega
      have nn10 : ¬ 9223372036854775807 < s.size + (3 + yC.size) := by omega
      have nm10 : s.size + (3 + yC.size) ≤ 9223372036854775807 := by omega
      have nn11 : ¬ 9223372036854775807 < s.size + (3 + yC.size) + 4 := by omega
      have nm11 : s.size + (3 + yC.size) + 4 ≤ 9223372036854775807 := by omega
      have nn12 : ¬ 9223372036854775807 < s.size + (3 + yC.size) + 4 + yQ.size := by omega
      have nm12 : s.size + (3 + yC.size) + 4 + yQ.size ≤ 9223372036854775807 := by omega
      have nn13 : ¬ 9223372036854775807 < s.size + (3 + yC.size) + 4 + yQ.size + 2 := by omega
      have nm13 : s.size + (3 + yC.size) + 4 + yQ.size + 2 ≤ 9223372036854775807 := by omega
      go_wp2_with fail
      refine (joinC_any x.aC x.cC x.nC x.C _ hr.nc R2.c s3 hnC T2).mono ?_
      rintro e w4 ⟨rfl, hb⟩
      have A4 := box_step A2 hb
      have R4 := R2.below hb
      have T4 := Tab.later T2 hb (Nat.le_refl _)
      have B4 := B2.trans (hb.mono B2.size)
      have W4 := W2.later hb
      have a4 := boxk_cell A4 4 _ rfl
      rw [← HyC.out]
      clear hb a3
      go_wp2_with fail
      refine (joinQ_any x.aA x.cA x.nA x.A _ hr.na R4.a s4 hnA T4 W4).mono ?_
      rintro e w5 ⟨rfl, hb⟩
      have B5 := B4.trans (hb.mono B4.size)
      rw [← HyQ.out]
      go_wp2
      go_ret
      exact ⟨by rw [HW2.out]; rfl, B5⟩

end Go.Proofs.YtcfhpcbkdpgboaaGreatDoor
