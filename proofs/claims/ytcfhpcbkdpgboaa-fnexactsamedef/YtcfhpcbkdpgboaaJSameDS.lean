/-
  Whether two definitions are the same: the model's answer.
-/
import Derived.Test.YtcfhpcbkdpgboaaJSamePatsS
import Derived.Test.YtcfhpcbkdpgboaaJSameActsS
namespace Go.Proofs.Ytcfhpcbkdpgboaa
open Go.RowKit
set_option linter.unusedVariables false

set_option maxRecDepth 100000 in
set_option maxHeartbeats 3200000 in
theorem l10SameRule_any (x y : RE) (w : World) (hr : RdRule w x) (hq : RdRule w y) (hx : x.small) (hy : y.small) :
    Calls Try.prog 27 #[.agg #[.string x.nm, .int .i64 x.sal, .slice x.aP x.nP x.cP, .slice x.aC x.nC x.cC, .slice x.aA x.nA x.cA], .agg #[.string y.nm, .int .i64 y.sal, .slice y.aP y.nP y.cP, .slice y.aC y.nC y.cC, .slice y.aA y.nA y.cA]] w fun e w' => (∃ t : Bool, e = .returned (.bool t) ∧ (t = true ↔ x.pl = y.pl)) ∧ Below w.heap.size w w' := by
  obtain ⟨s1, s2, s3, s4⟩ := hx
  obtain ⟨z1, z2, z3, z4⟩ := hy
  unfold RE.sz at s1 z1
  have lP0 : x.nP ≤ 1048580 := by rw [← hr.np]; omega
  have lC0 : x.nC ≤ 1048580 := by rw [← hr.nc]; omega
  have lA0 : x.nA ≤ 1048580 := by rw [← hr.na]; omega
  have lP1 : y.nP ≤ 1048580 := by rw [← hq.np]; omega
  have lC1 : y.nC ≤ 1048580 := by rw [← hq.nc]; omega
  have lA1 : y.nA ≤ 1048580 := by rw [← hq.na]; omega
  clear s1 z1
  obtain ⟨hP, hQ, b0⟩ := boxes2 w #[.string x.nm, .int .i64 x.sal, .slice x.aP x.nP x.cP, .slice x.aC x.nC x.cC, .slice x.aA x.nA x.cA] #[.string y.nm, .int .i64 y.sal, .slice y.aP y.nP y.cP, .slice y.aC y.nC y.cC, .slice y.aA y.nA y.cA] 40 40
  have HP := hide hP
  have HQ := hide hQ
  clear hP hQ
  have hza : w.heap.size + 1 < ((w.alloc (.cells #[.string x.nm, .int .i64 x.sal, .slice x.aP x.nP x.cP, .slice x.aC x.nC x.cC, .slice x.aA x.nA x.cA] 40)).alloc (.cells #[.string y.nm, .int .i64 y.sal, .slice y.aP y.nP y.cP, .slice y.aC y.nC y.cC, .slice y.aA y.nA y.cA] 40)).heap.size := by simp
  have HNo : Hid (x.pl ≠ y.pl → ¬ (x.pl = y.pl)) := fun h => h
  by_cases h0 : x.nm = y.nm
  rotate_left
  · have k0 : (x.nm.toList == y.nm.toList) = false := neS h0
    have H0 := hide h0
    clear h0
    go_enter Try.func27, Try.ntmps27
    go_wp2
    go_ret
    exact ⟨⟨false, rfl, fun h => Bool.noConfusion h, fun e => by obtain ⟨e0, e1, e2, e3, e4⟩ := RE.pl_inj e; exact absurd True.intro (fun _ => H0.out e0)⟩, b0⟩
  have k0 : (x.nm.toList == y.nm.toList) = true := by rw [h0]; simp
  have H0 := hide h0
  clear h0
  by_cases h1 : x.sal = y.sal
  rotate_left
  · have k1 : (x.sal != y.sal) = true := by simpa using h1
    have H1 := hide h1
    clear h1
    go_enter Try.func27, Try.ntmps27
    go_wp2
    go_ret
    exact ⟨⟨false, rfl, fun h => Bool.noConfusion h, fun e => by obtain ⟨e0, e1, e2, e3, e4⟩ := RE.pl_inj e; exact absurd True.intro (fun _ => H1.out e1)⟩, b0⟩
  have k1 : (x.sal != y.sal) = false := by rw [h1]; simp
  have H1 := hide h1
  clear h1
  by_cases hnm : x.nC = y.nC
  rotate_left
  · have q1 : ((x.nC : Int) != (y.nC : Int)) = true := by simpa using (fun h : (x.nC : Int) = (y.nC : Int) => hnm (by omega))
    have HV : Hid (x.C ≠ y.C) := fun e => hnm (by rw [← hr.nc, ← hq.nc, e])
    clear hnm
    go_enter Try.func27, Try.ntmps27
    go_wp2
    go_ret
    exact ⟨⟨false, rfl, fun h => Bool.noConfusion h, fun e => by obtain ⟨e0, e1, e2, e3, e4⟩ := RE.pl_inj e; exact absurd True.intro (fun _ => HV.out e3)⟩, b0⟩
  have q1 : ((x.nC : Int) != (y.nC : Int)) = false := by rw [hnm]; simp
  obtain ⟨n, hn⟩ : ∃ n, n = x.nC := ⟨_, rfl⟩
  have HZ : Hid (x.C.length = n) := by unfold Hid; rw [hr.nc, hn]
  have HY : Hid (y.C.length = n) := by unfold Hid; rw [hq.nc, ← hnm, hn]
  have HNx : Hid (n = x.nC) := hn
  have hnl : n ≤ 1048580 := by omega
  clear hnm
  go_enter Try.func27, Try.ntmps27
  go_wp2
  generalize (w.alloc (.cells #[.string x.nm, .int .i64 x.sal, .slice x.aP x.nP x.cP, .slice x.aC x.nC x.cC, .slice x.aA x.nA x.cA] 40)).alloc (.cells #[.string y.nm, .int .i64 y.sal, .slice y.aP y.nP y.cP, .slice y.aC y.nC y.cC, .slice y.aA y.nA y.cA] 40) = w1 at b0 HP HQ hza ⊢
  go_loopw [5] (fun i wr => ∃ (k : Nat), k ≤ n ∧ i = .int .i64 k ∧ (∀ j, j < k → eAt x.C j = eAt y.C j) ∧ Below w1.heap.size w1 wr) (fun i _ => n - (intOf i).toNat)
  case atStart => exact ⟨0, Nat.zero_le _, rfl, fun j hj => absurd hj (Nat.not_lt_zero _), Below.refl _ _⟩
  case round =>
    obtain ⟨k, hk, rfl, hall, hbel⟩ := hrel
    have HA := hide hall
    clear hall
    have HB1 := hide (b0.trans (hbel.mono b0.size))
    have HP1 := hide (box_below HP.out hbel (by omega))
    have HQ1 := hide (box_below HQ.out hbel hza)
    have p3 := boxk_cell HP1.out 3 _ rfl
    have r3 := boxk_cell HQ1.out 3 _ rfl
    by_cases hlt : k < n
    rotate_left
    · have HCC : Hid (x.C = y.C) := eq_ext (by rw [HZ.out, HY.out]) (fun i hi => HA.out i (by rw [HZ.out] at hi; omega))
      have hge : ¬ ((k : Int) < (x.nC : Int)) := by rw [← HNx.out]; omega
      have p2 := boxk_cell HP1.out 2 _ rfl
      have r2 := boxk_cell HQ1.out 2 _ rfl
      have p4 := boxk_cell HP1.out 4 _ rfl
      have r4 := boxk_cell HQ1.out 4 _ rfl
      go_wp2_with fail
      refine (l10SamePats_any x.aP y.aP x.nP y.nP x.cP y.cP x.P y.P _ hr.np hq.np (hr.p.below HB1.out) (hq.p.below HB1.out) s2 z2 lP0 lP1).mono ?_
      rintro e w2 ⟨⟨t, rfl, t2⟩, hb⟩
      have T2 := hide t2
      clear t2
      have B2 := HB1.out.trans (hb.mono HB1.out.size)
      have HP2 := hide (box_step HP1.out hb)
      have HQ2 := hide (box_step HQ1.out hb)
      clear hb p2 r2 p3 r3 p4 r4
      have p4 := boxk_cell HP2.out 4 _ rfl
      have r4 := boxk_cell HQ2.out 4 _ rfl
      cases t
      · go_wp2
        go_ret
        exact ⟨⟨false, rfl, fun h => Bool.noConfusion h, fun e => by obtain ⟨e0, e1, e2, e3, e4⟩ := RE.pl_inj e; exact absurd (T2.out.2 e2) (by simp)⟩, B2⟩
      go_wp2_with fail
      refine (l10SameActs_any x.aA y.aA x.nA y.nA x.cA y.cA x.A y.A _ hr.na hq.na (hr.a.below B2) (hq.a.below B2) s4 z4 lA0 lA1).mono ?_
      rintro e w3 ⟨⟨t', rfl, t4⟩, hb⟩
      have T4 := hide t4
      clear t4
      have B3 := B2.trans (hb.mono B2.size)
      clear hb p4 r4
      go_wp2
      go_ret
      refine ⟨⟨t', rfl, fun h => ?_, fun e => by obtain ⟨e0, e1, e2, e3, e4⟩ := RE.pl_inj e; exact T4.out.2 e4⟩, B3⟩
      unfold RE.pl
      rw [H0.out, H1.out, T2.out.1 (by simp), HCC.out, T4.out.1 h]
    obtain ⟨b1, o1, e1, hbw1, hc1⟩ := RdCond.cells (hr.c.below HB1.out) (by rw [HZ.out]; omega)
    obtain ⟨b2, o2, e2, hbw2, hc2⟩ := RdCond.cells (hq.c.below HB1.out) (by rw [HY.out]; omega)
    obtain ⟨c0, c1, c2, c3, c4, c5, c6, c7, c8, c9, c10⟩ := hc1 k (by rw [HZ.out]; exact hlt)
    obtain ⟨d0, d1, d2, d3, d4, d5, d6, d7, d8, d9, d10⟩ := hc2 k (by rw [HY.out]; exact hlt)
    clear hc1 hc2
    rw [e1] at p3
    rw [e2] at r3
    clear e1 e2
    have hlti : (k : Int) < (x.nC : Int) := by rw [← HNx.out]; omega
    have hltx : k < x.nC := by rw [← HNx.out]; exact hlt
    have hlty : k < y.nC := by rw [← hq.nc, HY.out]; exact hlt
    have HNk : Hid (eAt x.C k = eAt y.C k → ∀ j, j < k + 1 → eAt x.C j = eAt y.C j) := fun h j hj => by
      by_cases e : j = k
      · rw [e]; exact h
      · exact HA.out j (by omega)
    have HNo1 : Hid (eAt x.C k ≠ eAt y.C k → x.C ≠ y.C) := fun h e => h (by rw [e])
    generalize eAt x.C k = u at c0 c1 c2 c3 c4 c5 c6 c7 c8 c9 c10 HNk HNo1
    generalize eAt y.C k = v at d0 d1 d2 d3 d4 d5 d6 d7 d8 d9 d10 HNk HNo1
    have HBd := hide hbel.drew
    have HBe := hide HB1.out.drew
    clear hbel HB1
    have hrun : ∀ W : World, (Op.equalIn 10000 79 (.agg #[.int .i64 u.Op, .int .i64 u.L.K, .string u.L.S, .int .i64 u.L.V.K, .int .i64 u.L.V.N, .string u.L.V.S, .int .i64 u.R.K, .string u.R.S, .int .i64 u.R.V.K, .int .i64 u.R.V.N, .string u.R.V.S]) (.agg #[.int .i64 v.Op, .int .i64 v.L.K, .string v.L.S, .int .i64 v.L.V.K, .int .i64 v.L.V.N, .string v.L.V.S, .int .i64 v.R.K, .string v.R.S, .int .i64 v.R.V.K, .int .i64 v.R.V.N, .string v.R.V.S])).run Try.prog W = .ok (eqCb u v) W := fun W => eqC_run u v W 9993
    have HIff := hide (eqCb_iff u v)
    generalize eqCb u v = t at hrun HIff
    cases t
    · have HV := hide (HNo1.out (fun e => Bool.noConfusion (HIff.out.2 e)))
      clear HNo1 HNk HIff
      go_wp2
      go_region_with (fail)
      all_goals
        go_wp2
        go_ret
        exact ⟨⟨false, rfl, fun h => Bool.noConfusion h, fun e => by obtain ⟨e0, e1, e2, e3, e4⟩ := RE.pl_inj e; exact absurd True.intro (fun _ => HV.out e3)⟩, HBe.out⟩
    · have HV := hide (HNk.out (HIff.out.1 rfl))
      clear HNo1 HNk HIff
      go_wp2
      go_region_with (fail)
      all_goals
        go_wp2
        go_roundw
        case rel => exact ⟨k + 1, by omega, by go_num, HV.out, HBd.out⟩
        case measure => simp [intOf]; omega

set_option maxRecDepth 100000 in
set_option maxHeartbeats 3200000 in
theorem specSameDef_any (x y : DE) (w : World) (hr : RdDef w x) (hq : RdDef w y) (hx : x.small) (hy : y.small) :
    Calls Try.prog 11 #[.agg #[.string x.nm, .slice x.aR x.nR x.cR], .agg #[.string y.nm, .slice y.aR y.nR y.cR]] w fun e w' => (∃ t : Bool, e = .returned (.bool t) ∧ (t = true ↔ x.pl = y.pl)) ∧ Below w.heap.size w w' := by
  obtain ⟨s1, s2⟩ := hx
  obtain ⟨u1, u2⟩ := hy
  unfold DE.sz at s1 u1
  have hn : x.nR ≤ 1048580 := by rw [← hr.nr]; omega
  clear s1 u1
  obtain ⟨dn, aR, n, cR, J⟩ := x
  obtain ⟨dn', aR', m, cR', K⟩ := y
  have HZ : Hid (J.length = n) := hr.nr
  have HY' : Hid (K.length = m) := hq.nr
  have hrr : RdRuleS w aR J := hr.r
  have hqq : RdRuleS w aR' K := hq.r
  have HS := hide s2
  have HS' := hide u2
  simp only at hn HS HS' ⊢
  clear s2 u2 hr hq
  obtain ⟨hP, hQ, b0⟩ := boxes2 w #[.string dn, .slice aR n cR] #[.string dn', .slice aR' m cR'] 29 29
  have HP := hide hP
  have HQ := hide hQ
  have hza : w.heap.size + 1 < ((w.alloc (.cells #[.string dn, .slice aR n cR] 29)).alloc (.cells #[.string dn', .slice aR' m cR'] 29)).heap.size := by simp
  clear hP hQ
  by_cases h0 : dn = dn'
  rotate_left
  · have k0 : (dn.toList == dn'.toList) = false := neS h0
    have H0 := hide h0
    clear h0
    go_enter Try.func11, Try.ntmps11
    go_wp2
    go_ret
    exact ⟨⟨false, rfl, fun h => Bool.noConfusion h, fun e => absurd (DE.pl_inj e).1 H0.out⟩, b0⟩
  have k0 : (dn.toList == dn'.toList) = true := by rw [h0]; simp
  have H0 := hide h0
  clear h0
  by_cases hnm : n = m
  rotate_left
  · have q1 : ((n : Int) != (m : Int)) = true := by simpa using (fun h : (n : Int) = (m : Int) => hnm (by omega))
    have HV : Hid (J.map RE.pl ≠ K.map RE.pl) := fun e => hnm (by rw [← HZ.out, ← HY'.out, map_len e])
    go_enter Try.func11, Try.ntmps11
    go_wp2
    go_ret
    exact ⟨⟨false, rfl, fun h => Bool.noConfusion h, fun e => absurd (DE.pl_inj e).2 HV.out⟩, b0⟩
  subst hnm
  have q1 : ((n : Int) != (n : Int)) = false := by simp
  go_enter Try.func11, Try.ntmps11
  go_wp2
  generalize (w.alloc (.cells #[.string dn, .slice aR n cR] 29)).alloc (.cells #[.string dn', .slice aR' n cR'] 29) = w1 at b0 HP HQ hza ⊢
  go_loopw [5] (fun i wr => ∃ (k : Nat), k ≤ n ∧ i = .int .i64 k ∧ (∀ j, j < k → (eAt J j).pl = (eAt K j).pl) ∧ Below w1.heap.size w1 wr) (fun i _ => n - (intOf i).toNat)
  case atStart => exact ⟨0, Nat.zero_le _, rfl, fun j hj => absurd hj (Nat.not_lt_zero _), Below.refl _ _⟩
  case round =>
    obtain ⟨k, hk, rfl, hall, hbel⟩ := hrel
    have HA := hide hall
    clear hall
    have HB1 := hide (b0.trans (hbel.mono b0.size))
    have HP1 := hide (box_below HP.out hbel (by omega))
    have HQ1 := hide (box_below HQ.out hbel hza)
    have p0 := boxk_cell HP1.out 0 _ rfl
    have p1 := boxk_cell HP1.out 1 _ rfl
    have r0 := boxk_cell HQ1.out 0 _ rfl
    have r1 := boxk_cell HQ1.out 1 _ rfl
    by_cases hlt : k < n
    rotate_left
    · have HV : Hid (J.map RE.pl = K.map RE.pl) := map_ext (by rw [HZ.out, HY'.out]) (fun i hi => HA.out i (by rw [HZ.out] at hi; omega))
      go_wp2
      go_ret
      exact ⟨⟨true, rfl, fun _ => by unfold DE.pl; simp only; rw [H0.out, HV.out], fun _ => rfl⟩, HB1.out⟩
    have hlJ : k < J.length := by rw [HZ.out]; exact hlt
    have hlK : k < K.length := by rw [HY'.out]; exact hlt
    have hS1 := HS.out _ (eAt_mem hlJ)
    have hS2 := HS'.out _ (eAt_mem hlK)
    have HNk : Hid ((eAt J k).pl = (eAt K k).pl → ∀ j, j < k + 1 → (eAt J j).pl = (eAt K j).pl) := fun h j hj => by
      by_cases e : j = k
      · rw [e]; exact h
      · exact HA.out j (by omega)
    have HNo : Hid ((eAt J k).pl ≠ (eAt K k).pl → J.map RE.pl ≠ K.map RE.pl) := fun h e => h (map_at e hlJ)
    obtain ⟨b1, o1, e1, hbw1, hc1⟩ := (hrr.below HB1.out).cells (by omega)
    obtain ⟨b2, o2, e2, hbw2, hc2⟩ := (hqq.below HB1.out).cells (by omega)
    obtain ⟨c0, c1, c2, c3, c4, hi1⟩ := hc1 k hlJ
    obtain ⟨d0, d1, d2, d3, d4, hi2⟩ := hc2 k hlK
    clear hc1 hc2
    subst e1 e2
    generalize eAt J k = x at c0 c1 c2 c3 c4 hi1 hS1 HNk HNo
    generalize eAt K k = y at d0 d1 d2 d3 d4 hi2 hS2 HNk HNo
    have Bd := hbel.drew
    have hi1 : RdRule wr.drew x := hi1.heap rfl
    have hi2 : RdRule wr.drew y := hi2.heap rfl
    clear hbel HB1 HP1 HQ1
    go_wp2_with fail
    refine wp_region_held_drew (S := fun W => W.cell? ⟨w.heap.size, 0, none⟩ = some (.string dn) ∧ W.cell? ⟨w.heap.size, 1, none⟩ = some (.slice (some ⟨b1, o1, none⟩) n cR) ∧ W.cell? ⟨w.heap.size + 1, 0, none⟩ = some (.string dn') ∧ W.cell? ⟨w.heap.size + 1, 1, none⟩ = some (.slice (some ⟨b2, o2, none⟩) n cR') ∧ W.cell? ⟨b1, o1 + k * 5, none⟩ = some (.string x.nm) ∧ W.cell? ⟨b1, o1 + k * 5 + 1, none⟩ = some (.int .i64 x.sal) ∧ W.cell? ⟨b1, o1 + k * 5 + 2, none⟩ = some (.slice x.aP x.nP x.cP) ∧ W.cell? ⟨b1, o1 + k * 5 + 3, none⟩ = some (.slice x.aC x.nC x.cC) ∧ W.cell? ⟨b1, o1 + k * 5 + 4, none⟩ = some (.slice x.aA x.nA x.cA) ∧ W.cell? ⟨b2, o2 + k * 5, none⟩ = some (.string y.nm) ∧ W.cell? ⟨b2, o2 + k * 5 + 1, none⟩ = some (.int .i64 y.sal) ∧ W.cell? ⟨b2, o2 + k * 5 + 2, none⟩ = some (.slice y.aP y.nP y.cP) ∧ W.cell? ⟨b2, o2 + k * 5 + 3, none⟩ = some (.slice y.aC y.nC y.cC) ∧ W.cell? ⟨b2, o2 + k * 5 + 4, none⟩ = some (.slice y.aA y.nA y.cA)) (by kernel_rfl) ⟨p0, p1, r0, r1, c0, c1, c2, c3, c4, d0, d1, d2, d3, d4⟩ (fun hHeld => ?_)
    refine wpAnyH_take (i := 0) (oi := Oper.mk (some 27) _ _ _ _ _) (v := ?v120) rfl (by kernel_rfl) (by kernel_rfl) (by kernel_rfl) (fun _ _ _ h => h) (Or.inl ⟨by rfl, ?y120⟩) hHeld ?r120
    case y120 => (intro W hSW; obtain ⟨q0, q1, q2, q3, q4, q5, q6, q7, q8, q9, q10, q11, q12, q13⟩ := hSW; go_simp; try with_reducible rfl)
    simp only [Act.put, List.setIfInBounds_toArray, List.set_cons_zero, List.set_cons_succ]
    refine wpAnyH_take (i := 1) (oi := Oper.mk (some 28) _ _ _ _ _) (v := ?v121) rfl (by kernel_rfl) (by kernel_rfl) (by kernel_rfl) (fun _ _ _ h => h) (Or.inl ⟨by rfl, ?y121⟩) hHeld ?r121
    case y121 => (intro W hSW; obtain ⟨q0, q1, q2, q3, q4, q5, q6, q7, q8, q9, q10, q11, q12, q13⟩ := hSW; go_simp; try with_reducible rfl)
    simp only [Act.put, List.setIfInBounds_toArray, List.set_cons_zero, List.set_cons_succ]
    refine wpAnyH_take (i := 2) (oi := Oper.mk (some 29) _ _ _ _ _) (v := ?v122) rfl (by kernel_rfl) (by kernel_rfl) (by kernel_rfl) (fun _ _ _ h => h) (Or.inl ⟨by rfl, ?y122⟩) hHeld ?r122
    case y122 => (intro W hSW; obtain ⟨q0, q1, q2, q3, q4, q5, q6, q7, q8, q9, q10, q11, q12, q13⟩ := hSW; go_simp; try with_reducible rfl)
    simp only [Act.put, List.setIfInBounds_toArray, List.set_cons_zero, List.set_cons_succ]
    refine wpAnyH_take (i := 3) (oi := Oper.mk (some 30) _ _ _ _ _) (v := ?v123) rfl (by kernel_rfl) (by kernel_rfl) (by kernel_rfl) (fun _ _ _ h => h) (Or.inl ⟨by rfl, ?y123⟩) hHeld ?r123
    case y123 => (intro W hSW; obtain ⟨q0, q1, q2, q3, q4, q5, q6, q7, q8, q9, q10, q11, q12, q13⟩ := hSW; go_simp; try with_reducible rfl)
    simp only [Act.put, List.setIfInBounds_toArray, List.set_cons_zero, List.set_cons_succ]
    refine wpAnyH_take (i := 4) (oi := Oper.mk (some 31) _ _ _ _ _) (v := ?v124) rfl (by kernel_rfl) (by kernel_rfl) (by kernel_rfl) (fun _ _ _ h => h) (Or.inl ⟨by rfl, ?y124⟩) hHeld ?r124
    case y124 => (intro W hSW; obtain ⟨q0, q1, q2, q3, q4, q5, q6, q7, q8, q9, q10, q11, q12, q13⟩ := hSW; go_simp; try with_reducible rfl)
    simp only [Act.put, List.setIfInBounds_toArray, List.set_cons_zero, List.set_cons_succ]
    refine wpAnyH_take (i := 5) (oi := Oper.mk (some 32) _ _ _ _ _) (v := ?v125) rfl (by kernel_rfl) (by kernel_rfl) (by kernel_rfl) (fun _ _ _ h => h) (Or.inl ⟨by rfl, ?y125⟩) hHeld ?r125
    case y125 => (intro W hSW; obtain ⟨q0, q1, q2, q3, q4, q5, q6, q7, q8, q9, q10, q11, q12, q13⟩ := hSW; go_simp; try with_reducible rfl)
    simp only [Act.put, List.setIfInBounds_toArray, List.set_cons_zero, List.set_cons_succ]
    refine wpAnyH_take (i := 6) (oi := Oper.mk (some 33) _ _ _ _ _) (v := ?v126) rfl (by kernel_rfl) (by kernel_rfl) (by kernel_rfl) (fun _ _ _ h => h) (Or.inl ⟨by rfl, ?y126⟩) hHeld ?r126
    case y126 => (intro W hSW; obtain ⟨q0, q1, q2, q3, q4, q5, q6, q7, q8, q9, q10, q11, q12, q13⟩ := hSW; go_simp; try with_reducible rfl)
    simp only [Act.put, List.setIfInBounds_toArray, List.set_cons_zero, List.set_cons_succ]
    refine wpAnyH_take (i := 7) (oi := Oper.mk (some 34) _ _ _ _ _) (v := ?v127) rfl (by kernel_rfl) (by kernel_rfl) (by kernel_rfl) (fun _ _ _ h => h) (Or.inl ⟨by rfl, ?y127⟩) hHeld ?r127
    case y127 => (intro W hSW; obtain ⟨q0, q1, q2, q3, q4, q5, q6, q7, q8, q9, q10, q11, q12, q13⟩ := hSW; go_simp; try with_reducible rfl)
    simp only [Act.put, List.setIfInBounds_toArray, List.set_cons_zero, List.set_cons_succ]
    refine wpAnyH_take (i := 8) (oi := Oper.mk (some 35) _ _ _ _ _) (v := ?v128) rfl (by kernel_rfl) (by kernel_rfl) (by kernel_rfl) (fun _ _ _ h => h) (Or.inl ⟨by rfl, ?y128⟩) hHeld ?r128
    case y128 => (intro W hSW; obtain ⟨q0, q1, q2, q3, q4, q5, q6, q7, q8, q9, q10, q11, q12, q13⟩ := hSW; go_simp; try with_reducible rfl)
    simp only [Act.put, List.setIfInBounds_toArray, List.set_cons_zero, List.set_cons_succ]
    refine wpAnyH_take (i := 9) (oi := Oper.mk (some 36) _ _ _ _ _) (v := ?v129) rfl (by kernel_rfl) (by kernel_rfl) (by kernel_rfl) (fun _ _ _ h => h) (Or.inl ⟨by rfl, ?y129⟩) hHeld ?r129
    case y129 => (intro W hSW; obtain ⟨q0, q1, q2, q3, q4, q5, q6, q7, q8, q9, q10, q11, q12, q13⟩ := hSW; go_simp; try with_reducible rfl)
    simp only [Act.put, List.setIfInBounds_toArray, List.set_cons_zero, List.set_cons_succ]
    refine wpAnyH_ready (rs := [10]) (by kernel_rfl) (by simp) (AllReadyH.cons (o := Oper.mk (some 37) _ _ _ _ _) rfl (fun Kk hK => ?_) AllReadyH.nil)
    go_simp
    refine (l10SameRule_any x y _ hi1 hi2 hS1 hS2).mono ?_
    rintro e w2 ⟨⟨t, rfl, ht'⟩, hb⟩
    have ht := hide ht'
    clear ht'
    have p0 := cellS hb p0
    have p1 := cellS hb p1
    have r0 := cellS hb r0
    have r1 := cellS hb r1
    have c0 := cellS hb c0
    have c1 := cellS hb c1
    have c2 := cellS hb c2
    have c3 := cellS hb c3
    have c4 := cellS hb c4
    have d0 := cellS hb d0
    have d1 := cellS hb d1
    have d2 := cellS hb d2
    have d3 := cellS hb d3
    have d4 := cellS hb d4
    have B2 := Bd.trans (hb.mono Bd.size)
    clear hb
    refine hK.out _ _ ⟨p0, p1, r0, r1, c0, c1, c2, c3, c4, d0, d1, d2, d3, d4⟩ (fun hHeld => ?_)
    clear hK Kk
    refine wpAnyH_take (i := 11) (oi := Oper.mk (some 38) _ _ _ _ _) (v := ?v130) rfl (by kernel_rfl) (by kernel_rfl) (by kernel_rfl) (fun _ _ _ h => h) (Or.inl ⟨by rfl, ?y130⟩) hHeld ?r130
    case y130 => (intro W hSW; obtain ⟨q0, q1, q2, q3, q4, q5, q6, q7, q8, q9, q10, q11, q12, q13⟩ := hSW; go_simp; try with_reducible rfl)
    simp only [Act.put, List.setIfInBounds_toArray, List.set_cons_zero, List.set_cons_succ]
    refine wpAnyH_done (by kernel_rfl) ?_ _
    cases t
    · have HV := hide (HNo.out (fun e => absurd (ht.out.2 e) (by simp)))
      clear HNo HNk ht
      go_wp2
      go_ret
      exact ⟨⟨false, rfl, fun h => Bool.noConfusion h, fun e => absurd (DE.pl_inj e).2 HV.out⟩, b0.trans (B2.mono b0.size)⟩
    · have HV := hide (HNk.out (ht.out.1 (by simp)))
      clear HNo HNk ht
      go_wp2
      go_roundw
      case rel => exact ⟨k + 1, by omega, by go_num, HV.out, B2⟩
      case measure => simp [intOf]; omega

end Go.Proofs.Ytcfhpcbkdpgboaa
