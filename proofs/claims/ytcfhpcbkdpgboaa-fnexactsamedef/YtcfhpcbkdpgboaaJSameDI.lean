/-
  Whether two definitions are the same: the tested program's answer.
-/
import Derived.Test.YtcfhpcbkdpgboaaJSameCell
import Derived.Test.YtcfhpcbkdpgboaaJSameArgS
import Derived.Test.YtcfhpcbkdpgboaaJSameCondS
import Derived.Test.YtcfhpcbkdpgboaaJSameExprS
namespace Go.Proofs.Ytcfhpcbkdpgboaa
open Go.RowKit
set_option linter.unusedVariables false

set_option maxRecDepth 100000 in
set_option maxHeartbeats 3200000 in
theorem samePat_any (x y : PE) (w : World) (hr : RdArg w x.a x.L) (hq : RdArg w y.a y.L) (hx : x.small) (hy : y.small) :
    Calls Try.prog 44 #[.agg #[.string x.kd, .slice x.a x.L.length x.cap, .bool x.nt], .agg #[.string y.kd, .slice y.a y.L.length y.cap, .bool y.nt]] w fun e w' => (∃ t : Bool, e = .returned (.bool t) ∧ (t = true ↔ x.pl = y.pl)) ∧ Below w.heap.size w w' := by
  have l1 := hx.2.1
  have l2 := hy.2.1
  obtain ⟨hP, hQ, b0⟩ := boxes2 w #[.string x.kd, .slice x.a x.L.length x.cap, .bool x.nt] #[.string y.kd, .slice y.a y.L.length y.cap, .bool y.nt] 47 47
  have HP := hide hP
  have HQ := hide hQ
  clear hP hQ
  by_cases h0 : x.kd = y.kd
  · have k0 : (x.kd.toList == y.kd.toList) = true := by rw [h0]; simp
    have H0 := hide h0
    clear h0
    go_enter Try.func44, Try.ntmps44
    have p0 := boxk_cell HP.out 0 _ rfl
    have q0 := boxk_cell HQ.out 0 _ rfl
    have p1 := boxk_cell HP.out 1 _ rfl
    have q1 := boxk_cell HQ.out 1 _ rfl
    have p2 := boxk_cell HP.out 2 _ rfl
    have q2 := boxk_cell HQ.out 2 _ rfl
    go_wp2_with fail
    refine (sameArgS_any x.a y.a x.L.length y.L.length x.cap y.cap x.L y.L _ rfl rfl (hr.below b0) (hq.below b0) (by omega) (by omega)).mono ?_
    rintro e w2 ⟨⟨t, rfl, t1⟩, hb⟩
    have T1 := hide t1
    clear t1
    have B2 := b0.trans (hb.mono b0.size)
    have HP2 := hide (box_step HP.out hb)
    have HQ2 := hide (box_step HQ.out hb)
    clear hb p0 q0 p1 q1 p2 q2
    have p0 := boxk_cell HP2.out 0 _ rfl
    have q0 := boxk_cell HQ2.out 0 _ rfl
    have p1 := boxk_cell HP2.out 1 _ rfl
    have q1 := boxk_cell HQ2.out 1 _ rfl
    have p2 := boxk_cell HP2.out 2 _ rfl
    have q2 := boxk_cell HQ2.out 2 _ rfl
    cases t
    · go_wp2
      go_ret
      exact ⟨⟨false, rfl, fun h => Bool.noConfusion h, fun e => by obtain ⟨e0, e1, e2⟩ := PE.pl_inj e; exact absurd (T1.out.2 e1) (by simp)⟩, B2⟩
    · skip
      by_cases h2 : x.nt = y.nt
      · have k2 : (x.nt == y.nt) = true := by rw [h2]; simp
        have H2 := hide h2
        clear h2
        go_wp2
        go_ret
        exact ⟨⟨true, rfl, fun _ => by unfold PE.pl; rw [H0.out, (T1.out.1 (by simp)), H2.out], fun _ => rfl⟩, B2⟩
      · have k2 : (x.nt == y.nt) = false := by simpa using h2
        have H2 := hide h2
        clear h2
        go_wp2
        go_ret
        exact ⟨⟨false, rfl, fun h => Bool.noConfusion h, fun e => by obtain ⟨e0, e1, e2⟩ := PE.pl_inj e; exact absurd e2 H2.out⟩, B2⟩
  · have k0 : (x.kd.toList == y.kd.toList) = false := neS h0
    have H0 := hide h0
    clear h0
    go_enter Try.func44, Try.ntmps44
    go_wp2
    go_ret
    exact ⟨⟨false, rfl, fun h => Bool.noConfusion h, fun e => by obtain ⟨e0, e1, e2⟩ := PE.pl_inj e; exact absurd e0 H0.out⟩, b0⟩

set_option maxRecDepth 100000 in
set_option maxHeartbeats 3200000 in
theorem sameAct_any (x y : QE) (w : World) (hr : RdExpr w x.a x.L) (hq : RdExpr w y.a y.L) (hx : x.small) (hy : y.small) :
    Calls Try.prog 47 #[.agg #[.int .i64 x.K, .string x.nm, .slice x.a x.L.length x.cap, .int .i64 x.N, .string x.un], .agg #[.int .i64 y.K, .string y.nm, .slice y.a y.L.length y.cap, .int .i64 y.N, .string y.un]] w fun e w' => (∃ t : Bool, e = .returned (.bool t) ∧ (t = true ↔ x.pl = y.pl)) ∧ Below w.heap.size w w' := by
  have l1 := hx.2.2.1
  have l2 := hy.2.2.1
  obtain ⟨hP, hQ, b0⟩ := boxes2 w #[.int .i64 x.K, .string x.nm, .slice x.a x.L.length x.cap, .int .i64 x.N, .string x.un] #[.int .i64 y.K, .string y.nm, .slice y.a y.L.length y.cap, .int .i64 y.N, .string y.un] 88 88
  have HP := hide hP
  have HQ := hide hQ
  clear hP hQ
  by_cases h0 : x.K = y.K
  · have k0 : (x.K == y.K) = true := by rw [h0]; simp
    have H0 := hide h0
    clear h0
    by_cases h1 : x.nm = y.nm
    · have k1 : (x.nm.toList == y.nm.toList) = true := by rw [h1]; simp
      have H1 := hide h1
      clear h1
      go_enter Try.func47, Try.ntmps47
      have p0 := boxk_cell HP.out 0 _ rfl
      have q0 := boxk_cell HQ.out 0 _ rfl
      have p1 := boxk_cell HP.out 1 _ rfl
      have q1 := boxk_cell HQ.out 1 _ rfl
      have p2 := boxk_cell HP.out 2 _ rfl
      have q2 := boxk_cell HQ.out 2 _ rfl
      have p3 := boxk_cell HP.out 3 _ rfl
      have q3 := boxk_cell HQ.out 3 _ rfl
      have p4 := boxk_cell HP.out 4 _ rfl
      have q4 := boxk_cell HQ.out 4 _ rfl
      go_wp2_with fail
      refine (sameExprS_any x.a y.a x.L.length y.L.length x.cap y.cap x.L y.L _ rfl rfl (hr.below b0) (hq.below b0) (by omega) (by omega)).mono ?_
      rintro e w3 ⟨⟨t, rfl, t2⟩, hb⟩
      have T2 := hide t2
      clear t2
      have B3 := b0.trans (hb.mono b0.size)
      have HP3 := hide (box_step HP.out hb)
      have HQ3 := hide (box_step HQ.out hb)
      clear hb p0 q0 p1 q1 p2 q2 p3 q3 p4 q4
      have p0 := boxk_cell HP3.out 0 _ rfl
      have q0 := boxk_cell HQ3.out 0 _ rfl
      have p1 := boxk_cell HP3.out 1 _ rfl
      have q1 := boxk_cell HQ3.out 1 _ rfl
      have p2 := boxk_cell HP3.out 2 _ rfl
      have q2 := boxk_cell HQ3.out 2 _ rfl
      have p3 := boxk_cell HP3.out 3 _ rfl
      have q3 := boxk_cell HQ3.out 3 _ rfl
      have p4 := boxk_cell HP3.out 4 _ rfl
      have q4 := boxk_cell HQ3.out 4 _ rfl
      cases t
      · go_wp2
        go_ret
        exact ⟨⟨false, rfl, fun h => Bool.noConfusion h, fun e => by obtain ⟨e0, e1, e2, e3, e4⟩ := QE.pl_inj e; exact absurd (T2.out.2 e2) (by simp)⟩, B3⟩
      · skip
        by_cases h3 : x.N = y.N
        · have k3 : (x.N == y.N) = true := by rw [h3]; simp
          have H3 := hide h3
          clear h3
          by_cases h4 : x.un = y.un
          · have k4 : (x.un.toList == y.un.toList) = true := by rw [h4]; simp
            have H4 := hide h4
            clear h4
            go_wp2
            go_ret
            exact ⟨⟨true, rfl, fun _ => by unfold QE.pl; rw [H0.out, H1.out, (T2.out.1 (by simp)), H3.out, H4.out], fun _ => rfl⟩, B3⟩
          · have k4 : (x.un.toList == y.un.toList) = false := neS h4
            have H4 := hide h4
            clear h4
            go_wp2
            go_ret
            exact ⟨⟨false, rfl, fun h => Bool.noConfusion h, fun e => by obtain ⟨e0, e1, e2, e3, e4⟩ := QE.pl_inj e; exact absurd e4 H4.out⟩, B3⟩
        · have k3 : (x.N == y.N) = false := by simpa using h3
          have H3 := hide h3
          clear h3
          go_wp2
          go_ret
          exact ⟨⟨false, rfl, fun h => Bool.noConfusion h, fun e => by obtain ⟨e0, e1, e2, e3, e4⟩ := QE.pl_inj e; exact absurd e3 H3.out⟩, B3⟩
    · have k1 : (x.nm.toList == y.nm.toList) = false := neS h1
      have H1 := hide h1
      clear h1
      go_enter Try.func47, Try.ntmps47
      go_wp2
      go_ret
      exact ⟨⟨false, rfl, fun h => Bool.noConfusion h, fun e => by obtain ⟨e0, e1, e2, e3, e4⟩ := QE.pl_inj e; exact absurd e1 H1.out⟩, b0⟩
  · have k0 : (x.K == y.K) = false := by simpa using h0
    have H0 := hide h0
    clear h0
    go_enter Try.func47, Try.ntmps47
    go_wp2
    go_ret
    exact ⟨⟨false, rfl, fun h => Bool.noConfusion h, fun e => by obtain ⟨e0, e1, e2, e3, e4⟩ := QE.pl_inj e; exact absurd e0 H0.out⟩, b0⟩

set_option maxRecDepth 100000 in
set_option maxHeartbeats 3200000 in
theorem sameRowPat_any (a b : Option Addr) (n m ca cb : Nat) (J K : List PE) (w : World) (hz : J.length = n) (hy : K.length = m) (hr : RdPatS w a J) (hq : RdPatS w b K) (hs : ∀ x ∈ J, x.small) (hs' : ∀ x ∈ K, x.small) (hn : n ≤ 1048580) (hm : m ≤ 1048580) :
    Calls Try.prog 43 #[.slice a n ca, .slice b m cb, .func (.func 44) #[] #[]] w fun e w' => (∃ t : Bool, e = .returned (.bool t) ∧ (t = true ↔ J.map PE.pl = K.map PE.pl)) ∧ Below w.heap.size w w' := by
  by_cases hnm : n = m
  · subst hnm
    have q1 : ((n : Int) != (n : Int)) = false := by simp
    have HZ := hide hz
    have HY := hide hy
    have HS := hide hs
    have HS' := hide hs'
    clear hz hy hs hs'
    go_enter Try.func43, Try.ntmps43
    go_wp2
    go_loopw [17] (fun i wr => ∃ (k : Nat), k ≤ n ∧ i = .int .i64 k ∧ (∀ j, j < k → (eAt J j).pl = (eAt K j).pl) ∧ Below w.heap.size w wr) (fun i _ => n - (intOf i).toNat)
    case atStart => exact ⟨0, Nat.zero_le _, rfl, fun j hj => absurd hj (Nat.not_lt_zero _), Below.refl _ _⟩
    case round =>
      obtain ⟨k, hk, rfl, hall, hbel⟩ := hrel
      have HA := hide hall
      clear hall
      by_cases hlt : k < n
      · have hlJ : k < J.length := by rw [HZ.out]; exact hlt
        have hlK : k < K.length := by rw [HY.out]; exact hlt
        obtain ⟨b1, o1, e1, hbw1, hc1⟩ := (hr.below hbel).cells (by omega)
        obtain ⟨b2, o2, e2, hbw2, hc2⟩ := (hq.below hbel).cells (by omega)
        obtain ⟨c0, c1, c2, hi1⟩ := hc1 k hlJ
        obtain ⟨d0, d1, d2, hi2⟩ := hc2 k hlK
        clear hc1 hc2
        subst e1 e2
        have hS1 := HS.out _ (eAt_mem hlJ)
        have hS2 := HS'.out _ (eAt_mem hlK)
        have HNk : Hid ((eAt J k).pl = (eAt K k).pl → ∀ j, j < k + 1 → (eAt J j).pl = (eAt K j).pl) := fun h j hj => by
          by_cases e : j = k
          · rw [e]; exact h
          · exact HA.out j (by omega)
        have HNo : Hid ((eAt J k).pl ≠ (eAt K k).pl → J.map PE.pl ≠ K.map PE.pl) := fun h e => h (map_at e hlJ)
        generalize eAt J k = x at c0 c1 c2 hi1 hS1 HNk HNo
        generalize eAt K k = y at d0 d1 d2 hi2 hS2 HNk HNo
        have hb2 := below_al wr (.cells #[.string x.kd, .slice x.a x.L.length x.cap, .bool x.nt] 47)
        have hb3 := below_al (wr.alloc (.cells #[.string x.kd, .slice x.a x.L.length x.cap, .bool x.nt] 47)) (.cells #[.string y.kd, .slice y.a y.L.length y.cap, .bool y.nt] 47)
        have hbb := hb2.trans (hb3.mono hb2.size)
        have HI1 := hide (hi1.below hbb)
        have HI2 := hide (hi2.below hbb)
        have d' : (wr.alloc (.cells #[.string x.kd, .slice x.a x.L.length x.cap, .bool x.nt] 47)).cell? ⟨b2, o2 + k * 3, none⟩ = some (.string y.kd) ∧ (wr.alloc (.cells #[.string x.kd, .slice x.a x.L.length x.cap, .bool x.nt] 47)).cell? ⟨b2, o2 + k * 3 + 1, none⟩ = some (.slice y.a y.L.length y.cap) ∧ (wr.alloc (.cells #[.string x.kd, .slice x.a x.L.length x.cap, .bool x.nt] 47)).cell? ⟨b2, o2 + k * 3 + 2, none⟩ = some (.bool y.nt) := ⟨cellS hb2 d0, cellS hb2 d1, cellS hb2 d2⟩
        have hbel1 := hbel.trans (hbb.mono hbel.size)
        clear hi1 hi2 hb2 hb3 hbb hbel
        obtain ⟨f0, f1, f2⟩ := d'
        go_wp2_with fail
        refine (samePat_any x y _ HI1.out HI2.out hS1 hS2).mono ?_
        rintro e w2 ⟨⟨t, rfl, ht⟩, hb4⟩
        have hbel2 : Below w.heap.size w w2 := hbel1.trans (hb4.mono hbel1.size)
        clear hb4 hbel1 HI1 HI2 c0 c1 c2 d0 d1 d2 f0 f1 f2
        cases t
        · have HV := hide (HNo.out (fun e => Bool.noConfusion (ht.2 e)))
          clear HNo HNk ht
          go_wp2
          go_ret
          exact ⟨⟨false, rfl, fun h => Bool.noConfusion h, fun e => absurd e HV.out⟩, hbel2⟩
        · have HV := hide (HNk.out (ht.1 rfl))
          clear HNo HNk ht
          go_wp2
          go_roundw
          case rel => exact ⟨k + 1, by omega, by go_num, HV.out, hbel2⟩
          case measure => simp [intOf]; omega
      · have HV : Hid (J.map PE.pl = K.map PE.pl) := map_ext (by rw [HZ.out, HY.out]) (fun i hi => HA.out i (by rw [HZ.out] at hi; omega))
        go_wp2
        go_ret
        exact ⟨⟨true, rfl, fun _ => HV.out, fun _ => rfl⟩, hbel⟩
  · have q1 : ((n : Int) != (m : Int)) = true := by simpa using (fun h : (n : Int) = (m : Int) => hnm (by omega))
    have HV : Hid (J.map PE.pl ≠ K.map PE.pl) := fun e => hnm (by rw [← hz, ← hy, map_len e])
    go_enter Try.func43, Try.ntmps43
    go_wp2
    go_ret
    exact ⟨⟨false, rfl, fun h => Bool.noConfusion h, fun e => absurd e HV.out⟩, Below.refl _ _⟩

set_option maxRecDepth 100000 in
set_option maxHeartbeats 3200000 in
theorem sameRowAct_any (a b : Option Addr) (n m ca cb : Nat) (J K : List QE) (w : World) (hz : J.length = n) (hy : K.length = m) (hr : RdActS w a J) (hq : RdActS w b K) (hs : ∀ x ∈ J, x.small) (hs' : ∀ x ∈ K, x.small) (hn : n ≤ 1048580) (hm : m ≤ 1048580) :
    Calls Try.prog 46 #[.slice a n ca, .slice b m cb, .func (.func 47) #[] #[]] w fun e w' => (∃ t : Bool, e = .returned (.bool t) ∧ (t = true ↔ J.map QE.pl = K.map QE.pl)) ∧ Below w.heap.size w w' := by
  by_cases hnm : n = m
  · subst hnm
    have q1 : ((n : Int) != (n : Int)) = false := by simp
    have HZ := hide hz
    have HY := hide hy
    have HS := hide hs
    have HS' := hide hs'
    clear hz hy hs hs'
    go_enter Try.func46, Try.ntmps46
    go_wp2
    go_loopw [17] (fun i wr => ∃ (k : Nat), k ≤ n ∧ i = .int .i64 k ∧ (∀ j, j < k → (eAt J j).pl = (eAt K j).pl) ∧ Below w.heap.size w wr) (fun i _ => n - (intOf i).toNat)
    case atStart => exact ⟨0, Nat.zero_le _, rfl, fun j hj => absurd hj (Nat.not_lt_zero _), Below.refl _ _⟩
    case round =>
      obtain ⟨k, hk, rfl, hall, hbel⟩ := hrel
      have HA := hide hall
      clear hall
      by_cases hlt : k < n
      · have hlJ : k < J.length := by rw [HZ.out]; exact hlt
        have hlK : k < K.length := by rw [HY.out]; exact hlt
        obtain ⟨b1, o1, e1, hbw1, hc1⟩ := (hr.below hbel).cells (by omega)
        obtain ⟨b2, o2, e2, hbw2, hc2⟩ := (hq.below hbel).cells (by omega)
        obtain ⟨c0, c1, c2, c3, c4, hi1⟩ := hc1 k hlJ
        obtain ⟨d0, d1, d2, d3, d4, hi2⟩ := hc2 k hlK
        clear hc1 hc2
        subst e1 e2
        have hS1 := HS.out _ (eAt_mem hlJ)
        have hS2 := HS'.out _ (eAt_mem hlK)
        have HNk : Hid ((eAt J k).pl = (eAt K k).pl → ∀ j, j < k + 1 → (eAt J j).pl = (eAt K j).pl) := fun h j hj => by
          by_cases e : j = k
          · rw [e]; exact h
          · exact HA.out j (by omega)
        have HNo : Hid ((eAt J k).pl ≠ (eAt K k).pl → J.map QE.pl ≠ K.map QE.pl) := fun h e => h (map_at e hlJ)
        generalize eAt J k = x at c0 c1 c2 c3 c4 hi1 hS1 HNk HNo
        generalize eAt K k = y at d0 d1 d2 d3 d4 hi2 hS2 HNk HNo
        have hb2 := below_al wr (.cells #[.int .i64 x.K, .string x.nm, .slice x.a x.L.length x.cap, .int .i64 x.N, .string x.un] 88)
        have hb3 := below_al (wr.alloc (.cells #[.int .i64 x.K, .string x.nm, .slice x.a x.L.length x.cap, .int .i64 x.N, .string x.un] 88)) (.cells #[.int .i64 y.K, .string y.nm, .slice y.a y.L.length y.cap, .int .i64 y.N, .string y.un] 88)
        have hbb := hb2.trans (hb3.mono hb2.size)
        have HI1 := hide (hi1.below hbb)
        have HI2 := hide (hi2.below hbb)
        have d' : (wr.alloc (.cells #[.int .i64 x.K, .string x.nm, .slice x.a x.L.length x.cap, .int .i64 x.N, .string x.un] 88)).cell? ⟨b2, o2 + k * 5, none⟩ = some (.int .i64 y.K) ∧ (wr.alloc (.cells #[.int .i64 x.K, .string x.nm, .slice x.a x.L.length x.cap, .int .i64 x.N, .string x.un] 88)).cell? ⟨b2, o2 + k * 5 + 1, none⟩ = some (.string y.nm) ∧ (wr.alloc (.cells #[.int .i64 x.K, .string x.nm, .slice x.a x.L.length x.cap, .int .i64 x.N, .string x.un] 88)).cell? ⟨b2, o2 + k * 5 + 2, none⟩ = some (.slice y.a y.L.length y.cap) ∧ (wr.alloc (.cells #[.int .i64 x.K, .string x.nm, .slice x.a x.L.length x.cap, .int .i64 x.N, .string x.un] 88)).cell? ⟨b2, o2 + k * 5 + 3, none⟩ = some (.int .i64 y.N) ∧ (wr.alloc (.cells #[.int .i64 x.K, .string x.nm, .slice x.a x.L.length x.cap, .int .i64 x.N, .string x.un] 88)).cell? ⟨b2, o2 + k * 5 + 4, none⟩ = some (.string y.un) := ⟨cellS hb2 d0, cellS hb2 d1, cellS hb2 d2, cellS hb2 d3, cellS hb2 d4⟩
        have hbel1 := hbel.trans (hbb.mono hbel.size)
        clear hi1 hi2 hb2 hb3 hbb hbel
        obtain ⟨f0, f1, f2, f3, f4⟩ := d'
        go_wp2_with fail
        refine (sameAct_any x y _ HI1.out HI2.out hS1 hS2).mono ?_
        rintro e w2 ⟨⟨t, rfl, ht⟩, hb4⟩
        have hbel2 : Below w.heap.size w w2 := hbel1.trans (hb4.mono hbel1.size)
        clear hb4 hbel1 HI1 HI2 c0 c1 c2 c3 c4 d0 d1 d2 d3 d4 f0 f1 f2 f3 f4
        cases t
        · have HV := hide (HNo.out (fun e => Bool.noConfusion (ht.2 e)))
          clear HNo HNk ht
          go_wp2
          go_ret
          exact ⟨⟨false, rfl, fun h => Bool.noConfusion h, fun e => absurd e HV.out⟩, hbel2⟩
        · have HV := hide (HNk.out (ht.1 rfl))
          clear HNo HNk ht
          go_wp2
          go_roundw
          case rel => exact ⟨k + 1, by omega, by go_num, HV.out, hbel2⟩
          case measure => simp [intOf]; omega
      · have HV : Hid (J.map QE.pl = K.map QE.pl) := map_ext (by rw [HZ.out, HY.out]) (fun i hi => HA.out i (by rw [HZ.out] at hi; omega))
        go_wp2
        go_ret
        exact ⟨⟨true, rfl, fun _ => HV.out, fun _ => rfl⟩, hbel⟩
  · have q1 : ((n : Int) != (m : Int)) = true := by simpa using (fun h : (n : Int) = (m : Int) => hnm (by omega))
    have HV : Hid (J.map QE.pl ≠ K.map QE.pl) := fun e => hnm (by rw [← hz, ← hy, map_len e])
    go_enter Try.func46, Try.ntmps46
    go_wp2
    go_ret
    exact ⟨⟨false, rfl, fun h => Bool.noConfusion h, fun e => absurd e HV.out⟩, Below.refl _ _⟩

set_option maxRecDepth 100000 in
set_option maxHeartbeats 3200000 in
theorem sameRule_any (x y : RE) (w : World) (hr : RdRule w x) (hq : RdRule w y) (hx : x.small) (hy : y.small) :
    Calls Try.prog 29 #[.agg #[.string x.nm, .int .i64 x.sal, .slice x.aP x.nP x.cP, .slice x.aC x.nC x.cC, .slice x.aA x.nA x.cA], .agg #[.string y.nm, .int .i64 y.sal, .slice y.aP y.nP y.cP, .slice y.aC y.nC y.cC, .slice y.aA y.nA y.cA]] w fun e w' => (∃ t : Bool, e = .returned (.bool t) ∧ (t = true ↔ x.pl = y.pl)) ∧ Below w.heap.size w w' := by
  obtain ⟨s1, s2, s3, s4⟩ := hx
  obtain ⟨z1, z2, z3, z4⟩ := hy
  unfold RE.sz at s1 z1
  have lP0 : x.nP ≤ 1048580 := by rw [← hr.np]; omega
  have lC0 : x.nC ≤ 1048580 := by rw [← hr.nc]; omega
  have lA0 : x.nA ≤ 1048580 := by rw [← hr.na]; omega
  have lP1 : y.nP ≤ 1048580 := by rw [← hq.np]; omega
  have lC1 : y.nC ≤ 1048580 := by rw [← hq.nc]; omega
  have lA1 : y.nA ≤ 1048580 := by rw [← hq.na]; omega
  clear s1 z1
  obtain ⟨hP, hQ, b0⟩ := boxes2 w #[.string x.nm, .int .i64 x.sal, .slice x.aP x.nP x.cP, .slice x.aC x.nC x.cC, .slice x.aA x.nA x.cA] #[.string y.nm, .int .i64 y.sal, .slice y.aP y.nP y.cP, .slice y.aC y.nC y.cC, .slice y.aA y.nA y.cA] 40 40
  have HP := hide hP
  have HQ := hide hQ
  clear hP hQ
  by_cases h0 : x.nm = y.nm
  · have k0 : (x.nm.toList == y.nm.toList) = true := by rw [h0]; simp
    have H0 := hide h0
    clear h0
    by_cases h1 : x.sal = y.sal
    · have k1 : (x.sal == y.sal) = true := by rw [h1]; simp
      have H1 := hide h1
      clear h1
      go_enter Try.func29, Try.ntmps29
      have p0 := boxk_cell HP.out 0 _ rfl
      have q0 := boxk_cell HQ.out 0 _ rfl
      have p1 := boxk_cell HP.out 1 _ rfl
      have q1 := boxk_cell HQ.out 1 _ rfl
      have p2 := boxk_cell HP.out 2 _ rfl
      have q2 := boxk_cell HQ.out 2 _ rfl
      have p3 := boxk_cell HP.out 3 _ rfl
      have q3 := boxk_cell HQ.out 3 _ rfl
      have p4 := boxk_cell HP.out 4 _ rfl
      have q4 := boxk_cell HQ.out 4 _ rfl
      go_wp2_with fail
      refine (sameRowPat_any x.aP y.aP x.nP y.nP x.cP y.cP x.P y.P _ hr.np hq.np (hr.p.below b0) (hq.p.below b0) s2 z2 lP0 lP1).mono ?_
      rintro e w3 ⟨⟨t, rfl, t2⟩, hb⟩
      have T2 := hide t2
      clear t2
      have B3 := b0.trans (hb.mono b0.size)
      have HP3 := hide (box_step HP.out hb)
      have HQ3 := hide (box_step HQ.out hb)
      clear hb p0 q0 p1 q1 p2 q2 p3 q3 p4 q4
      have p0 := boxk_cell HP3.out 0 _ rfl
      have q0 := boxk_cell HQ3.out 0 _ rfl
      have p1 := boxk_cell HP3.out 1 _ rfl
      have q1 := boxk_cell HQ3.out 1 _ rfl
      have p2 := boxk_cell HP3.out 2 _ rfl
      have q2 := boxk_cell HQ3.out 2 _ rfl
      have p3 := boxk_cell HP3.out 3 _ rfl
      have q3 := boxk_cell HQ3.out 3 _ rfl
      have p4 := boxk_cell HP3.out 4 _ rfl
      have q4 := boxk_cell HQ3.out 4 _ rfl
      cases t
      · go_wp2
        go_ret
        exact ⟨⟨false, rfl, fun h => Bool.noConfusion h, fun e => by obtain ⟨e0, e1, e2, e3, e4⟩ := RE.pl_inj e; exact absurd (T2.out.2 e2) (by simp)⟩, B3⟩
      · skip
        have p0 := boxk_cell HP3.out 0 _ rfl
        have q0 := boxk_cell HQ3.out 0 _ rfl
        have p1 := boxk_cell HP3.out 1 _ rfl
        have q1 := boxk_cell HQ3.out 1 _ rfl
        have p2 := boxk_cell HP3.out 2 _ rfl
        have q2 := boxk_cell HQ3.out 2 _ rfl
        have p3 := boxk_cell HP3.out 3 _ rfl
        have q3 := boxk_cell HQ3.out 3 _ rfl
        have p4 := boxk_cell HP3.out 4 _ rfl
        have q4 := boxk_cell HQ3.out 4 _ rfl
        go_wp2_with fail
        refine (sameCondS_any x.aC y.aC x.nC y.nC x.cC y.cC x.C y.C _ hr.nc hq.nc (hr.c.below B3) (hq.c.below B3) lC0 lC1).mono ?_
        rintro e w4 ⟨⟨t, rfl, t3⟩, hb⟩
        have T3 := hide t3
        clear t3
        have B4 := B3.trans (hb.mono B3.size)
        have HP4 := hide (box_step HP3.out hb)
        have HQ4 := hide (box_step HQ3.out hb)
        clear hb p0 q0 p1 q1 p2 q2 p3 q3 p4 q4
        have p0 := boxk_cell HP4.out 0 _ rfl
        have q0 := boxk_cell HQ4.out 0 _ rfl
        have p1 := boxk_cell HP4.out 1 _ rfl
        have q1 := boxk_cell HQ4.out 1 _ rfl
        have p2 := boxk_cell HP4.out 2 _ rfl
        have q2 := boxk_cell HQ4.out 2 _ rfl
        have p3 := boxk_cell HP4.out 3 _ rfl
        have q3 := boxk_cell HQ4.out 3 _ rfl
        have p4 := boxk_cell HP4.out 4 _ rfl
        have q4 := boxk_cell HQ4.out 4 _ rfl
        cases t
        · go_wp2
          go_ret
          exact ⟨⟨false, rfl, fun h => Bool.noConfusion h, fun e => by obtain ⟨e0, e1, e2, e3, e4⟩ := RE.pl_inj e; exact absurd (T3.out.2 e3) (by simp)⟩, B4⟩
        · skip
          have p0 := boxk_cell HP4.out 0 _ rfl
          have q0 := boxk_cell HQ4.out 0 _ rfl
          have p1 := boxk_cell HP4.out 1 _ rfl
          have q1 := boxk_cell HQ4.out 1 _ rfl
          have p2 := boxk_cell HP4.out 2 _ rfl
          have q2 := boxk_cell HQ4.out 2 _ rfl
          have p3 := boxk_cell HP4.out 3 _ rfl
          have q3 := boxk_cell HQ4.out 3 _ rfl
          have p4 := boxk_cell HP4.out 4 _ rfl
          have q4 := boxk_cell HQ4.out 4 _ rfl
          go_wp2_with fail
          refine (sameRowAct_any x.aA y.aA x.nA y.nA x.cA y.cA x.A y.A _ hr.na hq.na (hr.a.below B4) (hq.a.below B4) s4 z4 lA0 lA1).mono ?_
          rintro e w5 ⟨⟨t, rfl, t4⟩, hb⟩
          have T4 := hide t4
          clear t4
          have B5 := B4.trans (hb.mono B4.size)
          have HP5 := hide (box_step HP4.out hb)
          have HQ5 := hide (box_step HQ4.out hb)
          clear hb p0 q0 p1 q1 p2 q2 p3 q3 p4 q4
          have p0 := boxk_cell HP5.out 0 _ rfl
          have q0 := boxk_cell HQ5.out 0 _ rfl
          have p1 := boxk_cell HP5.out 1 _ rfl
          have q1 := boxk_cell HQ5.out 1 _ rfl
          have p2 := boxk_cell HP5.out 2 _ rfl
          have q2 := boxk_cell HQ5.out 2 _ rfl
          have p3 := boxk_cell HP5.out 3 _ rfl
          have q3 := boxk_cell HQ5.out 3 _ rfl
          have p4 := boxk_cell HP5.out 4 _ rfl
          have q4 := boxk_cell HQ5.out 4 _ rfl
          cases t
          · go_wp2
            go_ret
            exact ⟨⟨false, rfl, fun h => Bool.noConfusion h, fun e => by obtain ⟨e0, e1, e2, e3, e4⟩ := RE.pl_inj e; exact absurd (T4.out.2 e4) (by simp)⟩, B5⟩
          · skip
            go_wp2
            go_ret
            exact ⟨⟨true, rfl, fun _ => by unfold RE.pl; rw [H0.out, H1.out, (T2.out.1 (by simp)), (T3.out.1 (by simp)), (T4.out.1 (by simp))], fun _ => rfl⟩, B5⟩
    · have k1 : (x.sal == y.sal) = false := by simpa using h1
      have H1 := hide h1
      clear h1
      go_enter Try.func29, Try.ntmps29
      go_wp2
      go_ret
      exact ⟨⟨false, rfl, fun h => Bool.noConfusion h, fun e => by obtain ⟨e0, e1, e2, e3, e4⟩ := RE.pl_inj e; exact absurd e1 H1.out⟩, b0⟩
  · have k0 : (x.nm.toList == y.nm.toList) = false := neS h0
    have H0 := hide h0
    clear h0
    go_enter Try.func29, Try.ntmps29
    go_wp2
    go_ret
    exact ⟨⟨false, rfl, fun h => Bool.noConfusion h, fun e => by obtain ⟨e0, e1, e2, e3, e4⟩ := RE.pl_inj e; exact absurd e0 H0.out⟩, b0⟩

set_option maxRecDepth 100000 in
set_option maxHeartbeats 3200000 in
theorem sameRowRule_any (a b : Option Addr) (n m ca cb : Nat) (J K : List RE) (w : World) (hz : J.length = n) (hy : K.length = m) (hr : RdRuleS w a J) (hq : RdRuleS w b K) (hs : ∀ x ∈ J, x.small) (hs' : ∀ x ∈ K, x.small) (hn : n ≤ 1048580) (hm : m ≤ 1048580) :
    Calls Try.prog 28 #[.slice a n ca, .slice b m cb, .func (.func 29) #[] #[]] w fun e w' => (∃ t : Bool, e = .returned (.bool t) ∧ (t = true ↔ J.map RE.pl = K.map RE.pl)) ∧ Below w.heap.size w w' := by
  by_cases hnm : n = m
  · subst hnm
    have q1 : ((n : Int) != (n : Int)) = false := by simp
    have HZ := hide hz
    have HY := hide hy
    have HS := hide hs
    have HS' := hide hs'
    clear hz hy hs hs'
    go_enter Try.func28, Try.ntmps28
    go_wp2
    go_loopw [17] (fun i wr => ∃ (k : Nat), k ≤ n ∧ i = .int .i64 k ∧ (∀ j, j < k → (eAt J j).pl = (eAt K j).pl) ∧ Below w.heap.size w wr) (fun i _ => n - (intOf i).toNat)
    case atStart => exact ⟨0, Nat.zero_le _, rfl, fun j hj => absurd hj (Nat.not_lt_zero _), Below.refl _ _⟩
    case round =>
      obtain ⟨k, hk, rfl, hall, hbel⟩ := hrel
      have HA := hide hall
      clear hall
      by_cases hlt : k < n
      · have hlJ : k < J.length := by rw [HZ.out]; exact hlt
        have hlK : k < K.length := by rw [HY.out]; exact hlt
        obtain ⟨b1, o1, e1, hbw1, hc1⟩ := (hr.below hbel).cells (by omega)
        obtain ⟨b2, o2, e2, hbw2, hc2⟩ := (hq.below hbel).cells (by omega)
        obtain ⟨c0, c1, c2, c3, c4, hi1⟩ := hc1 k hlJ
        obtain ⟨d0, d1, d2, d3, d4, hi2⟩ := hc2 k hlK
        clear hc1 hc2
        subst e1 e2
        have hS1 := HS.out _ (eAt_mem hlJ)
        have hS2 := HS'.out _ (eAt_mem hlK)
        have HNk : Hid ((eAt J k).pl = (eAt K k).pl → ∀ j, j < k + 1 → (eAt J j).pl = (eAt K j).pl) := fun h j hj => by
          by_cases e : j = k
          · rw [e]; exact h
          · exact HA.out j (by omega)
        have HNo : Hid ((eAt J k).pl ≠ (eAt K k).pl → J.map RE.pl ≠ K.map RE.pl) := fun h e => h (map_at e hlJ)
        generalize eAt J k = x at c0 c1 c2 c3 c4 hi1 hS1 HNk HNo
        generalize eAt K k = y at d0 d1 d2 d3 d4 hi2 hS2 HNk HNo
        have hb2 := below_al wr (.cells #[.string x.nm, .int .i64 x.sal, .slice x.aP x.nP x.cP, .slice x.aC x.nC x.cC, .slice x.aA x.nA x.cA] 40)
        have hb3 := below_al (wr.alloc (.cells #[.string x.nm, .int .i64 x.sal, .slice x.aP x.nP x.cP, .slice x.aC x.nC x.cC, .slice x.aA x.nA x.cA] 40)) (.cells #[.string y.nm, .int .i64 y.sal, .slice y.aP y.nP y.cP, .slice y.aC y.nC y.cC, .slice y.aA y.nA y.cA] 40)
        have hbb := hb2.trans (hb3.mono hb2.size)
        have HI1 := hide (hi1.below hbb)
        have HI2 := hide (hi2.below hbb)
        have d' : (wr.alloc (.cells #[.string x.nm, .int .i64 x.sal, .slice x.aP x.nP x.cP, .slice x.aC x.nC x.cC, .slice x.aA x.nA x.cA] 40)).cell? ⟨b2, o2 + k * 5, none⟩ = some (.string y.nm) ∧ (wr.alloc (.cells #[.string x.nm, .int .i64 x.sal, .slice x.aP x.nP x.cP, .slice x.aC x.nC x.cC, .slice x.aA x.nA x.cA] 40)).cell? ⟨b2, o2 + k * 5 + 1, none⟩ = some (.int .i64 y.sal) ∧ (wr.alloc (.cells #[.string x.nm, .int .i64 x.sal, .slice x.aP x.nP x.cP, .slice x.aC x.nC x.cC, .slice x.aA x.nA x.cA] 40)).cell? ⟨b2, o2 + k * 5 + 2, none⟩ = some (.slice y.aP y.nP y.cP) ∧ (wr.alloc (.cells #[.string x.nm, .int .i64 x.sal, .slice x.aP x.nP x.cP, .slice x.aC x.nC x.cC, .slice x.aA x.nA x.cA] 40)).cell? ⟨b2, o2 + k * 5 + 3, none⟩ = some (.slice y.aC y.nC y.cC) ∧ (wr.alloc (.cells #[.string x.nm, .int .i64 x.sal, .slice x.aP x.nP x.cP, .slice x.aC x.nC x.cC, .slice x.aA x.nA x.cA] 40)).cell? ⟨b2, o2 + k * 5 + 4, none⟩ = some (.slice y.aA y.nA y.cA) := ⟨cellS hb2 d0, cellS hb2 d1, cellS hb2 d2, cellS hb2 d3, cellS hb2 d4⟩
        have hbel1 := hbel.trans (hbb.mono hbel.size)
        clear hi1 hi2 hb2 hb3 hbb hbel
        obtain ⟨f0, f1, f2, f3, f4⟩ := d'
        go_wp2_with fail
        refine (sameRule_any x y _ HI1.out HI2.out hS1 hS2).mono ?_
        rintro e w2 ⟨⟨t, rfl, ht⟩, hb4⟩
        have hbel2 : Below w.heap.size w w2 := hbel1.trans (hb4.mono hbel1.size)
        clear hb4 hbel1 HI1 HI2 c0 c1 c2 c3 c4 d0 d1 d2 d3 d4 f0 f1 f2 f3 f4
        cases t
        · have HV := hide (HNo.out (fun e => Bool.noConfusion (ht.2 e)))
          clear HNo HNk ht
          go_wp2
          go_ret
          exact ⟨⟨false, rfl, fun h => Bool.noConfusion h, fun e => absurd e HV.out⟩, hbel2⟩
        · have HV := hide (HNk.out (ht.1 rfl))
          clear HNo HNk ht
          go_wp2
          go_roundw
          case rel => exact ⟨k + 1, by omega, by go_num, HV.out, hbel2⟩
          case measure => simp [intOf]; omega
      · have HV : Hid (J.map RE.pl = K.map RE.pl) := map_ext (by rw [HZ.out, HY.out]) (fun i hi => HA.out i (by rw [HZ.out] at hi; omega))
        go_wp2
        go_ret
        exact ⟨⟨true, rfl, fun _ => HV.out, fun _ => rfl⟩, hbel⟩
  · have q1 : ((n : Int) != (m : Int)) = true := by simpa using (fun h : (n : Int) = (m : Int) => hnm (by omega))
    have HV : Hid (J.map RE.pl ≠ K.map RE.pl) := fun e => hnm (by rw [← hz, ← hy, map_len e])
    go_enter Try.func28, Try.ntmps28
    go_wp2
    go_ret
    exact ⟨⟨false, rfl, fun h => Bool.noConfusion h, fun e => absurd e HV.out⟩, Below.refl _ _⟩

set_option maxRecDepth 100000 in
set_option maxHeartbeats 3200000 in
theorem implSameDef_any (x y : DE) (w : World) (hr : RdDef w x) (hq : RdDef w y) (hx : x.small) (hy : y.small) :
    Calls Try.prog 12 #[.agg #[.string x.nm, .slice x.aR x.nR x.cR], .agg #[.string y.nm, .slice y.aR y.nR y.cR]] w fun e w' => (∃ t : Bool, e = .returned (.bool t) ∧ (t = true ↔ x.pl = y.pl)) ∧ Below w.heap.size w w' := by
  obtain ⟨s1, s2⟩ := hx
  obtain ⟨u1, u2⟩ := hy
  unfold DE.sz at s1 u1
  have lR0 : x.nR ≤ 1048580 := by rw [← hr.nr]; omega
  have lR1 : y.nR ≤ 1048580 := by rw [← hq.nr]; omega
  clear s1 u1
  obtain ⟨hP, hQ, b0⟩ := boxes2 w #[.string x.nm, .slice x.aR x.nR x.cR] #[.string y.nm, .slice y.aR y.nR y.cR] 29 29
  have HP := hide hP
  have HQ := hide hQ
  clear hP hQ
  by_cases h0 : x.nm = y.nm
  · have k0 : (x.nm.toList == y.nm.toList) = true := by rw [h0]; simp
    have H0 := hide h0
    clear h0
    go_enter Try.func12, Try.ntmps12
    have p0 := boxk_cell HP.out 0 _ rfl
    have q0 := boxk_cell HQ.out 0 _ rfl
    have p1 := boxk_cell HP.out 1 _ rfl
    have q1 := boxk_cell HQ.out 1 _ rfl
    go_wp2_with fail
    refine (sameRowRule_any x.aR y.aR x.nR y.nR x.cR y.cR x.R y.R _ hr.nr hq.nr (hr.r.below b0) (hq.r.below b0) s2 u2 lR0 lR1).mono ?_
    rintro e w2 ⟨⟨t, rfl, t1⟩, hb⟩
    have T1 := hide t1
    clear t1
    have B2 := b0.trans (hb.mono b0.size)
    have HP2 := hide (box_step HP.out hb)
    have HQ2 := hide (box_step HQ.out hb)
    clear hb p0 q0 p1 q1
    have p0 := boxk_cell HP2.out 0 _ rfl
    have q0 := boxk_cell HQ2.out 0 _ rfl
    have p1 := boxk_cell HP2.out 1 _ rfl
    have q1 := boxk_cell HQ2.out 1 _ rfl
    cases t
    · go_wp2
      go_ret
      exact ⟨⟨false, rfl, fun h => Bool.noConfusion h, fun e => by obtain ⟨e0, e1⟩ := DE.pl_inj e; exact absurd (T1.out.2 e1) (by simp)⟩, B2⟩
    · skip
      go_wp2
      go_ret
      exact ⟨⟨true, rfl, fun _ => by unfold DE.pl; rw [H0.out, (T1.out.1 (by simp))], fun _ => rfl⟩, B2⟩
  · have k0 : (x.nm.toList == y.nm.toList) = false := neS h0
    have H0 := hide h0
    clear h0
    go_enter Try.func12, Try.ntmps12
    go_wp2
    go_ret
    exact ⟨⟨false, rfl, fun h => Bool.noConfusion h, fun e => by obtain ⟨e0, e1⟩ := DE.pl_inj e; exact absurd e0 H0.out⟩, b0⟩

end Go.Proofs.Ytcfhpcbkdpgboaa
