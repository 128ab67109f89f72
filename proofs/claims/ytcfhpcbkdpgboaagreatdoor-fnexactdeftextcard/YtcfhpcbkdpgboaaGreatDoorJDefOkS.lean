/-
  What the model's DefOk answers: defB.
-/
import Derived.Test.YtcfhpcbkdpgboaaGreatDoorJoined4
import Derived.Test.YtcfhpcbkdpgboaaGreatDoorJRuleOkS
namespace Go.Proofs.YtcfhpcbkdpgboaaGreatDoor
open Go.RowKit
set_option linter.unusedVariables false

set_option maxRecDepth 100000 in
set_option maxHeartbeats 3200000 in
theorem specDefOk_any (x : DE) (w : World) (hr : RdDef w x) (hs : x.small) :
    Calls Tryz.prog 10 #[.agg #[.string x.nm, .slice x.aR x.nR x.cR]] w fun e w' => e = .returned (.bool (defB x)) ∧ Below w.heap.size w w' := by
  obtain ⟨dn, aR, n, cR, R⟩ := x
  obtain ⟨s1, s2⟩ := hs
  have hz : R.length = n := hr.nr
  have hrr : RdRuleS w aR R := hr.r
  unfold DE.sz at s1
  simp only at s1 s2 ⊢
  have hn : n ≤ 1048576 := by omega
  have hn2 : n ≤ 1048580 := by omega
  have hkd : dn.size ≤ maxLen := by unfold maxLen; omega
  have HS := hide s2
  have HZ := hide hz
  clear s1 s2 hr hz
  have b0 := below_al w (.cells #[.string dn, .slice aR n cR] 29)
  have hA := boxk_new w #[.string dn, .slice aR n cR] 29
  have hz1 : w.heap.size < (w.alloc (.cells #[.string dn, .slice aR n cR] 29)).heap.size := by simp
  go_enter Tryz.func10, Tryz.ntmps10
  go_wp2
  generalize w.alloc (.cells #[.string dn, .slice aR n cR] 29) = w1 at b0 hA hz1 ⊢
  go_loopw [3] (fun i wr => ∃ (k : Nat), k ≤ n ∧ i = .int .i64 k ∧ (∀ j, j < k → ruleB (eAt R j) = true ∧ ixOf R (eAt R j).nm = (j : Int)) ∧ Below w1.heap.size w1 wr) (fun i _ => n - (intOf i).toNat)
  case atStart => exact ⟨0, Nat.zero_le _, rfl, fun j hj => absurd hj (Nat.not_lt_zero _), Below.refl _ _⟩
  case round =>
    obtain ⟨k, hk, rfl, hall, hbel⟩ := hrel
    have HA := hide hall
    clear hall
    have HB1 := hide (b0.trans (hbel.mono b0.size))
    have HX := hide (box_below hA hbel hz1)
    have a0 := boxk_cell HX.out 0 _ rfl
    have a1 := boxk_cell HX.out 1 _ rfl
    by_cases hlt : k < n
    · have hlL : k < R.length := by rw [HZ.out]; exact hlt
      have HRd := hide (hrr.below HB1.out)
      obtain ⟨b, off, hab, hbw, hc⟩ := HRd.out.cells (by omega)
      obtain ⟨c0, c1, c2, c3, c4, hin⟩ := hc k hlL
      clear hc
      subst hab
      have hS := HS.out _ (eAt_mem hlL)
      have HNk : Hid (ruleB (eAt R k) = true → ixOf R (eAt R k).nm = (k : Int) → ∀ j, j < k + 1 → ruleB (eAt R j) = true ∧ ixOf R (eAt R j).nm = (j : Int)) := fun h h2 j hj => by
        by_cases e : j = k
        · rw [e]; exact ⟨h, h2⟩
        · exact HA.out j (by omega)
      have HNo1 : Hid (ruleB (eAt R k) = false → defB ⟨dn, some ⟨b, off, none⟩, n, cR, R⟩ = false) := fun h => by
        rw [Bool.eq_false_iff]; intro ht
        unfold defB at ht
        simp only [Bool.and_eq_true] at ht
        rw [all_eAt.1 ht.1.2 k hlL] at h; cases h
      have HNo : Hid (ixOf R (eAt R k).nm ≠ (k : Int) → defB ⟨dn, some ⟨b, off, none⟩, n, cR, R⟩ = false) := fun h => by
        rw [Bool.eq_false_iff]; intro ht
        unfold defB at ht
        simp only [Bool.and_eq_true] at ht
        have := ht.2
        unfold firstB at this
        rw [List.all_eq_true] at this
        exact h (of_decide_eq_true (this k (List.mem_range.2 hlL)))
      generalize eAt R k = y at c0 c1 c2 c3 c4 hin hS HNk HNo HNo1
      have Bd := hbel.drew
      have HRd : Hid (RdRuleS wr.drew (some ⟨b, off, none⟩) R) := HRd.out.heap rfl
      have hin : RdRule wr.drew y := hin.heap rfl
      clear hbel HB1 HX
      cases hv : ruleB y
      · have HV := hide (HNo1.out hv)
        clear HNo HNk HNo1
        go_wp2_with fail
        refine wp_region_held_drew (S := fun W => W.cell? ⟨w.heap.size, 0, none⟩ = some (.string dn) ∧ W.cell? ⟨w.heap.size, 1, none⟩ = some (.slice (some ⟨b, off, none⟩) n cR) ∧ W.cell? ⟨b, off + k * 5, none⟩ = some (.string y.nm) ∧ W.cell? ⟨b, off + k * 5 + 1, none⟩ = some (.int .i64 y.sal) ∧ W.cell? ⟨b, off + k * 5 + 2, none⟩ = some (.slice y.aP y.nP y.cP) ∧ W.cell? ⟨b, off + k * 5 + 3, none⟩ = some (.slice y.aC y.nC y.cC) ∧ W.cell? ⟨b, off + k * 5 + 4, none⟩ = some (.slice y.aA y.nA y.cA)) (by kernel_rfl) ⟨a0, a1, c0, c1, c2, c3, c4⟩ (fun hHeld => ?_)
        refine wpAnyH_take (i := 0) (oi := Oper.mk (some 11) _ _ _ _ _) (v := ?v1) rfl (by kernel_rfl) (by kernel_rfl) (by kernel_rfl) (fun _ _ _ h => h) (Or.inl ⟨by rfl, ?y1⟩) hHeld ?r1
        case y1 => (intro W hSW; obtain ⟨q0, q1, q2, q3, q4, q5, q6⟩ := hSW; go_simp; try with_reducible rfl)
        simp only [Act.put, List.setIfInBounds_toArray, List.set_cons_zero, List.set_cons_succ]
        refine wpAnyH_take (i := 1) (oi := Oper.mk (some 12) _ _ _ _ _) (v := ?v2) rfl (by kernel_rfl) (by kernel_rfl) (by kernel_rfl) (fun _ _ _ h => h) (Or.inl ⟨by rfl, ?y2⟩) hHeld ?r2
        case y2 => (intro W hSW; obtain ⟨q0, q1, q2, q3, q4, q5, q6⟩ := hSW; go_simp; try with_reducible rfl)
        simp only [Act.put, List.setIfInBounds_toArray, List.set_cons_zero, List.set_cons_succ]
        refine wpAnyH_take (i := 2) (oi := Oper.mk (some 13) _ _ _ _ _) (v := ?v3) rfl (by kernel_rfl) (by kernel_rfl) (by kernel_rfl) (fun _ _ _ h => h) (Or.inl ⟨by rfl, ?y3⟩) hHeld ?r3
        case y3 => (intro W hSW; obtain ⟨q0, q1, q2, q3, q4, q5, q6⟩ := hSW; go_simp; try with_reducible rfl)
        simp only [Act.put, List.setIfInBounds_toArray, List.set_cons_zero, List.set_cons_succ]
        refine wpAnyH_take (i := 3) (oi := Oper.mk (some 14) _ _ _ _ _) (v := ?v4) rfl (by kernel_rfl) (by kernel_rfl) (by kernel_rfl) (fun _ _ _ h => h) (Or.inl ⟨by rfl, ?y4⟩) hHeld ?r4
        case y4 => (intro W hSW; obtain ⟨q0, q1, q2, q3, q4, q5, q6⟩ := hSW; go_simp; try with_reducible rfl)
        simp only [Act.put, List.setIfInBounds_toArray, List.set_cons_zero, List.set_cons_succ]
        refine wpAnyH_take (i := 4) (oi := Oper.mk (some 15) _ _ _ _ _) (v := ?v5) rfl (by kernel_rfl) (by kernel_rfl) (by kernel_rfl) (fun _ _ _ h => h) (Or.inl ⟨by rfl, ?y5⟩) hHeld ?r5
        case y5 => (intro W hSW; obtain ⟨q0, q1, q2, q3, q4, q5, q6⟩ := hSW; go_simp; try with_reducible rfl)
        simp only [Act.put, List.setIfInBounds_toArray, List.set_cons_zero, List.set_cons_succ]
        refine wpAnyH_ready (rs := [5]) (by kernel_rfl) (by simp) (AllReadyH.cons (o := Oper.mk (some 16) _ _ _ _ _) rfl (fun Kk hK => ?_) AllReadyH.nil)
        go_simp
        refine (specRuleOk_any y _ hin hS).mono ?_
        rintro e u1 ⟨rfl, hb⟩
        rw [hv]
        have a0 := cell_step hb a0
        have a1 := cell_step hb a1
        have c0 := cell_step hb c0
        have c1 := cell_step hb c1
        have c2 := cell_step hb c2
        have c3 := cell_step hb c3
        have c4 := cell_step hb c4
        have B1 := Bd.trans (hb.mono Bd.size)
        have R1 := HRd.out.below hb
        clear hb
        refine hK.out _ _ ⟨a0, a1, c0, c1, c2, c3, c4⟩ (fun hHeld => ?_)
        clear hK Kk
        refine wpAnyH_take (i := 6) (oi := Oper.mk (some 17) _ _ _ _ _) (v := ?v6) rfl (by kernel_rfl) (by kernel_rfl) (by kernel_rfl) (fun _ _ _ h => h) (Or.inl ⟨by rfl, ?y6⟩) hHeld ?r6
        case y6 => (intro W hSW; obtain ⟨q0, q1, q2, q3, q4, q5, q6⟩ := hSW; go_simp; try with_reducible rfl)
        simp only [Act.put, List.setIfInBounds_toArray, List.set_cons_zero, List.set_cons_succ]
        refine wpAnyH_take (i := 7) (oi := Oper.mk (some 18) _ _ _ _ _) (v := ?v7) rfl (by kernel_rfl) (by kernel_rfl) (by kernel_rfl) (fun _ _ _ h => h) (Or.inl ⟨by rfl, ?y7⟩) hHeld ?r7
        case y7 => (intro W hSW; obtain ⟨q0, q1, q2, q3, q4, q5, q6⟩ := hSW; go_simp; try with_reducible rfl)
        simp only [Act.put, List.setIfInBounds_toArray, List.set_cons_zero, List.set_cons_succ]
        refine wpAnyH_take (i := 8) (oi := Oper.mk (some 19) _ _ _ _ _) (v := undef) rfl (by kernel_rfl) (by kernel_rfl) (by kernel_rfl) (fun _ _ _ h => h) (Or.inr ⟨by rfl, rfl⟩) hHeld ?_
        simp only [Act.put, List.setIfInBounds_toArray, List.set_cons_zero, List.set_cons_succ]
        refine wpAnyH_take (i := 9) (oi := Oper.mk (some 20) _ _ _ _ _) (v := undef) rfl (by kernel_rfl) (by kernel_rfl) (by kernel_rfl) (fun _ _ _ h => h) (Or.inr ⟨by rfl, rfl⟩) hHeld ?_
        simp only [Act.put, List.setIfInBounds_toArray, List.set_cons_zero, List.set_cons_succ]
        refine wpAnyH_take (i := 10) (oi := Oper.mk (some 21) _ _ _ _ _) (v := undef) rfl (by kernel_rfl) (by kernel_rfl) (by kernel_rfl) (fun _ _ _ h => h) (Or.inr ⟨by rfl, rfl⟩) hHeld ?_
        simp only [Act.put, List.setIfInBounds_toArray, List.set_cons_zero, List.set_cons_succ]
        refine wpAnyH_take (i := 11) (oi := Oper.mk (some 22) _ _ _ _ _) (v := undef) rfl (by kernel_rfl) (by kernel_rfl) (by kernel_rfl) (fun _ _ _ h => h) (Or.inr ⟨by rfl, rfl⟩) hHeld ?_
        simp only [Act.put, List.setIfInBounds_toArray, List.set_cons_zero, List.set_cons_succ]
        refine wpAnyH_take (i := 12) (oi := Oper.mk (some 23) _ _ _ _ _) (v := undef) rfl (by kernel_rfl) (by kernel_rfl) (by kernel_rfl) (fun _ _ _ h => h) (Or.inr ⟨by rfl, rfl⟩) hHeld ?_
        simp only [Act.put, List.setIfInBounds_toArray, List.set_cons_zero, List.set_cons_succ]
        refine wpAnyH_take (i := 13) (oi := Oper.mk (some 24) _ _ _ _ _) (v := undef) rfl (by kernel_rfl) (by kernel_rfl) (by kernel_rfl) (fun _ _ _ h => h) (Or.inr ⟨by rfl, rfl⟩) hHeld ?_
        simp only [Act.put, List.setIfInBounds_toArray, List.set_cons_zero, List.set_cons_succ]
        refine wpAnyH_take (i := 14) (oi := Oper.mk (some 25) _ _ _ _ _) (v := undef) rfl (by kernel_rfl) (by kernel_rfl) (by kernel_rfl) (fun _ _ _ h => h) (Or.inr ⟨by rfl, rfl⟩) hHeld ?_
        simp only [Act.put, List.setIfInBounds_toArray, List.set_cons_zero, List.set_cons_succ]
        refine wpAnyH_take (i := 15) (oi := Oper.mk (some 26) _ _ _ _ _) (v := undef) rfl (by kernel_rfl) (by kernel_rfl) (by kernel_rfl) (fun _ _ _ h => h) (Or.inr ⟨by rfl, rfl⟩) hHeld ?_
        simp only [Act.put, List.setIfInBounds_toArray, List.set_cons_zero, List.set_cons_succ]
        refine wpAnyH_take (i := 16) (oi := Oper.mk (some 27) _ _ _ _ _) (v := undef) rfl (by kernel_rfl) (by kernel_rfl) (by kernel_rfl) (fun _ _ _ h => h) (Or.inr ⟨by rfl, rfl⟩) hHeld ?_
        simp only [Act.put, List.setIfInBounds_toArray, List.set_cons_zero, List.set_cons_succ]
        refine wpAnyH_take (i := 17) (oi := Oper.mk (some 28) _ _ _ _ _) (v := undef) rfl (by kernel_rfl) (by kernel_rfl) (by kernel_rfl) (fun _ _ _ h => h) (Or.inr ⟨by rfl, rfl⟩) hHeld ?_
        simp only [Act.put, List.setIfInBounds_toArray, List.set_cons_zero, List.set_cons_succ]
        refine wpAnyH_take (i := 18) (oi := Oper.mk (some 29) _ _ _ _ _) (v := ?v8) rfl (by kernel_rfl) (by kernel_rfl) (by kernel_rfl) (fun _ _ _ h => h) (Or.inl ⟨by rfl, ?y8⟩) hHeld ?r8
        case y8 => (intro W hSW; obtain ⟨q0, q1, q2, q3, q4, q5, q6⟩ := hSW; go_simp; try with_reducible rfl)
        simp only [Act.put, List.setIfInBounds_toArray, List.set_cons_zero, List.set_cons_succ]
        refine wpAnyH_done (by kernel_rfl) ?_ _
        go_wp2
        go_ret
        exact ⟨ret_bool (by rw [HV.out]), b0.trans (B1.mono b0.size)⟩

      · have HNk := hide (HNk.out hv)
        clear HNo1
        go_wp2_with fail
        refine wp_region_held_drew (S := fun W => W.cell? ⟨w.heap.size, 0, none⟩ = some (.string dn) ∧ W.cell? ⟨w.heap.size, 1, none⟩ = some (.slice (some ⟨b, off, none⟩) n cR) ∧ W.cell? ⟨b, off + k * 5, none⟩ = some (.string y.nm) ∧ W.cell? ⟨b, off + k * 5 + 1, none⟩ = some (.int .i64 y.sal) ∧ W.cell? ⟨b, off + k * 5 + 2, none⟩ = some (.slice y.aP y.nP y.cP) ∧ W.cell? ⟨b, off + k * 5 + 3, none⟩ = some (.slice y.aC y.nC y.cC) ∧ W.cell? ⟨b, off + k * 5 + 4, none⟩ = some (.slice y.aA y.nA y.cA)) (by kernel_rfl) ⟨a0, a1, c0, c1, c2, c3, c4⟩ (fun hHeld => ?_)
        refine wpAnyH_take (i := 0) (oi := Oper.mk (some 11) _ _ _ _ _) (v := ?v9) rfl (by kernel_rfl) (by kernel_rfl) (by kernel_rfl) (fun _ _ _ h => h) (Or.inl ⟨by rfl, ?y9⟩) hHeld ?r9
        case y9 => (intro W hSW; obtain ⟨q0, q1, q2, q3, q4, q5, q6⟩ := hSW; go_simp; try with_reducible rfl)
        simp only [Act.put, List.setIfInBounds_toArray, List.set_cons_zero, List.set_cons_succ]
        refine wpAnyH_take (i := 1) (oi := Oper.mk (some 12) _ _ _ _ _) (v := ?v10) rfl (by kernel_rfl) (by kernel_rfl) (by kernel_rfl) (fun _ _ _ h => h) (Or.inl ⟨by rfl, ?y10⟩) hHeld ?r10
        case y10 => (intro W hSW; obtain ⟨q0, q1, q2, q3, q4, q5, q6⟩ := hSW; go_simp; try with_reducible rfl)
        simp only [Act.put, List.setIfInBounds_toArray, List.set_cons_zero, List.set_cons_succ]
        refine wpAnyH_take (i := 2) (oi := Oper.mk (some 13) _ _ _ _ _) (v := ?v11) rfl (by kernel_rfl) (by kernel_rfl) (by kernel_rfl) (fun _ _ _ h => h) (Or.inl ⟨by rfl, ?y11⟩) hHeld ?r11
        case y11 => (intro W hSW; obtain ⟨q0, q1, q2, q3, q4, q5, q6⟩ := hSW; go_simp; try with_reducible rfl)
        simp only [Act.put, List.setIfInBounds_toArray, List.set_cons_zero, List.set_cons_succ]
        refine wpAnyH_take (i := 3) (oi := Oper.mk (some 14) _ _ _ _ _) (v := ?v12) rfl (by kernel_rfl) (by kernel_rfl) (by kernel_rfl) (fun _ _ _ h => h) (Or.inl ⟨by rfl, ?y12⟩) hHeld ?r12
        case y12 => (intro W hSW; obtain ⟨q0, q1, q2, q3, q4, q5, q6⟩ := hSW; go_simp; try with_reducible rfl)
        simp only [Act.put, List.setIfInBounds_toArray, List.set_cons_zero, List.set_cons_succ]
        refine wpAnyH_take (i := 4) (oi := Oper.mk (some 15) _ _ _ _ _) (v := ?v13) rfl (by kernel_rfl) (by kernel_rfl) (by kernel_rfl) (fun _ _ _ h => h) (Or.inl ⟨by rfl, ?y13⟩) hHeld ?r13
        case y13 => (intro W hSW; obtain ⟨q0, q1, q2, q3, q4, q5, q6⟩ := hSW; go_simp; try with_reducible rfl)
        simp only [Act.put, List.setIfInBounds_toArray, List.set_cons_zero, List.set_cons_succ]
        refine wpAnyH_ready (rs := [5]) (by kernel_rfl) (by simp) (AllReadyH.cons (o := Oper.mk (some 16) _ _ _ _ _) rfl (fun Kk hK => ?_) AllReadyH.nil)
        go_simp
        refine (specRuleOk_any y _ hin hS).mono ?_
        rintro e u1 ⟨rfl, hb⟩
        rw [hv]
        have a0 := cell_step hb a0
        have a1 := cell_step hb a1
        have c0 := cell_step hb c0
        have c1 := cell_step hb c1
        have c2 := cell_step hb c2
        have c3 := cell_step hb c3
        have c4 := cell_step hb c4
        have B1 := Bd.trans (hb.mono Bd.size)
        have R1 := HRd.out.below hb
        clear hb
        refine hK.out _ _ ⟨a0, a1, c0, c1, c2, c3, c4⟩ (fun hHeld => ?_)
        clear hK Kk
        refine wpAnyH_take (i := 6) (oi := Oper.mk (some 17) _ _ _ _ _) (v := ?v14) rfl (by kernel_rfl) (by kernel_rfl) (by kernel_rfl) (fun _ _ _ h => h) (Or.inl ⟨by rfl, ?y14⟩) hHeld ?r14
        case y14 => (intro W hSW; obtain ⟨q0, q1, q2, q3, q4, q5, q6⟩ := hSW; go_simp; try with_reducible rfl)
        simp only [Act.put, List.setIfInBounds_toArray, List.set_cons_zero, List.set_cons_succ]
        refine wpAnyH_take (i := 7) (oi := Oper.mk (some 18) _ _ _ _ _) (v := ?v15) rfl (by kernel_rfl) (by kernel_rfl) (by kernel_rfl) (fun _ _ _ h => h) (Or.inl ⟨by rfl, ?y15⟩) hHeld ?r15
        case y15 => (intro W hSW; obtain ⟨q0, q1, q2, q3, q4, q5, q6⟩ := hSW; go_simp; try with_reducible rfl)
        simp only [Act.put, List.setIfInBounds_toArray, List.set_cons_zero, List.set_cons_succ]
        refine wpAnyH_take (i := 8) (oi := Oper.mk (some 19) _ _ _ _ _) (v := ?v16) rfl (by kernel_rfl) (by kernel_rfl) (by kernel_rfl) (fun _ _ _ h => h) (Or.inl ⟨by rfl, ?y16⟩) hHeld ?r16
        case y16 => (intro W hSW; obtain ⟨q0, q1, q2, q3, q4, q5, q6⟩ := hSW; go_simp; try with_reducible rfl)
        simp only [Act.put, List.setIfInBounds_toArray, List.set_cons_zero, List.set_cons_succ]
        refine wpAnyH_take (i := 9) (oi := Oper.mk (some 20) _ _ _ _ _) (v := ?v17) rfl (by kernel_rfl) (by kernel_rfl) (by kernel_rfl) (fun _ _ _ h => h) (Or.inl ⟨by rfl, ?y17⟩) hHeld ?r17
        case y17 => (intro W hSW; obtain ⟨q0, q1, q2, q3, q4, q5, q6⟩ := hSW; go_simp; try with_reducible rfl)
        simp only [Act.put, List.setIfInBounds_toArray, List.set_cons_zero, List.set_cons_succ]
        refine wpAnyH_take (i := 10) (oi := Oper.mk (some 21) _ _ _ _ _) (v := ?v18) rfl (by kernel_rfl) (by kernel_rfl) (by kernel_rfl) (fun _ _ _ h => h) (Or.inl ⟨by rfl, ?y18⟩) hHeld ?r18
        case y18 => (intro W hSW; obtain ⟨q0, q1, q2, q3, q4, q5, q6⟩ := hSW; go_simp; try with_reducible rfl)
        simp only [Act.put, List.setIfInBounds_toArray, List.set_cons_zero, List.set_cons_succ]
        refine wpAnyH_take (i := 11) (oi := Oper.mk (some 22) _ _ _ _ _) (v := ?v19) rfl (by kernel_rfl) (by kernel_rfl) (by kernel_rfl) (fun _ _ _ h => h) (Or.inl ⟨by rfl, ?y19⟩) hHeld ?r19
        case y19 => (intro W hSW; obtain ⟨q0, q1, q2, q3, q4, q5, q6⟩ := hSW; go_simp; try with_reducible rfl)
        simp only [Act.put, List.setIfInBounds_toArray, List.set_cons_zero, List.set_cons_succ]
        refine wpAnyH_take (i := 12) (oi := Oper.mk (some 23) _ _ _ _ _) (v := ?v20) rfl (by kernel_rfl) (by kernel_rfl) (by kernel_rfl) (fun _ _ _ h => h) (Or.inl ⟨by rfl, ?y20⟩) hHeld ?r20
        case y20 => (intro W hSW; obtain ⟨q0, q1, q2, q3, q4, q5, q6⟩ := hSW; go_simp; try with_reducible rfl)
        simp only [Act.put, List.setIfInBounds_toArray, List.set_cons_zero, List.set_cons_succ]
        refine wpAnyH_take (i := 13) (oi := Oper.mk (some 24) _ _ _ _ _) (v := ?v21) rfl (by kernel_rfl) (by kernel_rfl) (by kernel_rfl) (fun _ _ _ h => h) (Or.inl ⟨by rfl, ?y21⟩) hHeld ?r21
        case y21 => (intro W hSW; obtain ⟨q0, q1, q2, q3, q4, q5, q6⟩ := hSW; go_simp; try with_reducible rfl)
        simp only [Act.put, List.setIfInBounds_toArray, List.set_cons_zero, List.set_cons_succ]
        refine wpAnyH_take (i := 14) (oi := Oper.mk (some 25) _ _ _ _ _) (v := ?v22) rfl (by kernel_rfl) (by kernel_rfl) (by kernel_rfl) (fun _ _ _ h => h) (Or.inl ⟨by rfl, ?y22⟩) hHeld ?r22
        case y22 => (intro W hSW; obtain ⟨q0, q1, q2, q3, q4, q5, q6⟩ := hSW; go_simp; try with_reducible rfl)
        simp only [Act.put, List.setIfInBounds_toArray, List.set_cons_zero, List.set_cons_succ]
        refine wpAnyH_take (i := 16) (oi := Oper.mk (some 27) _ _ _ _ _) (v := ?v23) rfl (by kernel_rfl) (by kernel_rfl) (by kernel_rfl) (fun _ _ _ h => h) (Or.inl ⟨by rfl, ?y23⟩) hHeld ?r23
        case y23 => (intro W hSW; obtain ⟨q0, q1, q2, q3, q4, q5, q6⟩ := hSW; go_simp; try with_reducible rfl)
        simp only [Act.put, List.setIfInBounds_toArray, List.set_cons_zero, List.set_cons_succ]
        refine wpAnyH_ready (rs := [15]) (by kernel_rfl) (by simp) (AllReadyH.cons (o := Oper.mk (some 26) _ _ _ _ _) rfl (fun Kk hK => ?_) AllReadyH.nil)
        go_simp
        refine (specRuleAt_any ⟨dn, some ⟨b, off, none⟩, n, cR, R⟩ y.nm _ ⟨R1, HZ.out⟩ hn2).mono ?_
        rintro e u2 ⟨rfl, hb⟩
        have a0 := cell_step hb a0
        have a1 := cell_step hb a1
        have c0 := cell_step hb c0
        have c1 := cell_step hb c1
        have c2 := cell_step hb c2
        have c3 := cell_step hb c3
        have c4 := cell_step hb c4
        have B2 := B1.trans (hb.mono B1.size)
        clear hb
        generalize ixOf R y.nm = v at HNk HNo ⊢
        refine hK.out _ _ ⟨a0, a1, c0, c1, c2, c3, c4⟩ (fun hHeld => ?_)
        clear hK Kk
        refine wpAnyH_take (i := 17) (oi := Oper.mk (some 28) _ _ _ _ _) (v := ?v24) rfl (by kernel_rfl) (by kernel_rfl) (by kernel_rfl) (fun _ _ _ h => h) (Or.inl ⟨by rfl, ?y24⟩) hHeld ?r24
        case y24 => (intro W hSW; obtain ⟨q0, q1, q2, q3, q4, q5, q6⟩ := hSW; go_simp; try with_reducible rfl)
        simp only [Act.put, List.setIfInBounds_toArray, List.set_cons_zero, List.set_cons_succ]
        refine wpAnyH_take (i := 18) (oi := Oper.mk (some 29) _ _ _ _ _) (v := ?v25) rfl (by kernel_rfl) (by kernel_rfl) (by kernel_rfl) (fun _ _ _ h => h) (Or.inl ⟨by rfl, ?y25⟩) hHeld ?r25
        case y25 => (intro W hSW; obtain ⟨q0, q1, q2, q3, q4, q5, q6⟩ := hSW; go_simp; try with_reducible rfl)
        simp only [Act.put, List.setIfInBounds_toArray, List.set_cons_zero, List.set_cons_succ]
        refine wpAnyH_done (by kernel_rfl) ?_ _
        by_cases hv : v = (k : Int)
        · have HV := hide (HNk.out hv)
          have q1 : (v != (k : Int)) = false := by simpa using hv
          clear HNo HNk hv
          go_wp2
          go_roundw
          case rel => exact ⟨k + 1, by omega, by go_num, HV.out, B2⟩
          case measure => simp [intOf]; omega
        · have HV := hide (HNo.out hv)
          have q1 : (v != (k : Int)) = true := by simpa using hv
          clear HNo HNk hv
          go_wp2
          go_ret
          exact ⟨ret_bool (by rw [HV.out]), b0.trans (B2.mono b0.size)⟩

    · have HD : Hid (defB ⟨dn, aR, n, cR, R⟩ = (nameB dn && inB n 1 12)) := by
        unfold Hid defB
        have h1 : R.all ruleB = true := by
          rw [all_eAt]; intro j hj
          rw [HZ.out] at hj
          exact (HA.out j (by omega)).1
        have h2 : firstB R = true := by
          unfold firstB
          rw [List.all_eq_true]; intro j hj
          rw [List.mem_range, HZ.out] at hj
          exact decide_eq_true (HA.out j (by omega)).2
        simp only
        rw [h1, h2]; simp
      go_wp2_with fail
      refine (specNameOk_any _ _ hkd).mono ?_
      rintro e u ⟨rfl, rfl⟩
      cases h1 : nameB dn
      · have HV : Hid (defB ⟨dn, aR, n, cR, R⟩ = false) := by unfold Hid; rw [HD.out, h1]; rfl
        go_wp2
        go_ret
        exact ⟨ret_bool (by rw [HV.out]), HB1.out⟩
      · rw [h1, Bool.true_and] at HD
        clear h1
        go_wp2_with fail
        refine (l1In_any _ _ _ _).mono ?_
        rintro e w' ⟨rfl, rfl⟩
        go_wp2
        go_ret
        exact ⟨ret_bool (by rw [HD.out]), HB1.out⟩
end Go.Proofs.YtcfhpcbkdpgboaaGreatDoor
