/-
  The contracts of the laws' own helpers on rules: szRule counts off, toRule copies, eqRule finds a rule the same as its like, markRule writes into a rule's own blocks alone.
-/
import Derived.Test.YtfgigcdfmkfkjaaJoined2
import Derived.Test.YtfgigcdfmkfkjaaJoined4
import Derived.Test.YtfgigcdfmkfkjaaJLawCondS
import Derived.Test.YtfgigcdfmkfkjaaJMarkPatS
import Derived.Test.YtfgigcdfmkfkjaaJMarkActS
import Derived.Test.YtfgigcdfmkfkjaaJMarkCond
namespace Go.Proofs.Ytfgigcdfmkfkjaa
open Go.RowKit
set_option linter.unusedVariables false

set_option maxRecDepth 100000 in
set_option maxHeartbeats 1600000 in
theorem szRule_any (x : RE) (left : Int) (w : World) (hr : RdRule w x) (hs : x.ok) (h0 : 0 ≤ left) (h1 : left ≤ 1048576) :
    Calls Try.prog 16 #[.agg #[.string x.nm, .int .i64 x.sal, .slice x.aP x.nP x.cP, .slice x.aC x.nC x.cC, .slice x.aA x.nA x.cA], .int .i64 left] w fun e w' =>
      (∃ r, e = .returned (.int .i64 r) ∧ (r = -1 ∨ (0 ≤ r ∧ r + (x.sz : Int) ≤ left ∧ x.small))) ∧ Below w.heap.size w w' := by
  obtain ⟨s0, s1, s2, s3, s4, s5, s6⟩ := hs
  rw [← hr.np, ← hr.nc, ← hr.na]
  rw [← hr.np] at s1
  rw [← hr.nc] at s3
  rw [← hr.na] at s5
  have HSz : Hid (x.sz = x.nm.size + (x.P.length + (x.P.map PE.sz).sum) + x.C.length + (x.A.length + (x.A.map QE.sz).sum)) := rfl
  obtain ⟨nP, hP⟩ : ∃ n, n = x.P.length + (x.P.map PE.sz).sum := ⟨_, rfl⟩
  obtain ⟨nA, hA⟩ : ∃ n, n = x.A.length + (x.A.map QE.sz).sum := ⟨_, rfl⟩
  rw [← hP, ← hA] at HSz
  unfold maxLen at s0
  by_cases h2 : left - (x.nm.size : Int) < 0
  · go_enter Try.func16, Try.ntmps16
    go_wp2
    go_ret
    exact ⟨⟨-1, rfl, .inl rfl⟩, by go_grown⟩
  · have b0 := below_al w (.cells #[.string x.nm, .int .i64 x.sal, .slice x.aP x.P.length x.cP, .slice x.aC x.C.length x.cC, .slice x.aA x.A.length x.cA] 37)
    have hB := boxk_new w #[.string x.nm, .int .i64 x.sal, .slice x.aP x.P.length x.cP, .slice x.aC x.C.length x.cC, .slice x.aA x.A.length x.cA] 37
    go_enter Try.func16, Try.ntmps16
    go_wp2_with fail
    refine (szPatS_any x.aP x.cP x.P (left - x.nm.size) _ (hr.p.below b0) s2 s1 (by omega) (by omega)).mono ?_
    rintro e w1 ⟨⟨r, rfl, hr1⟩, hb1⟩
    have hB1 : Below w.heap.size w w1 := b0.trans (hb1.mono b0.size)
    have HX1 := hide (box_step hB hb1)
    clear hb1 b0 hB
    rcases hr1 with rfl | ⟨p1, p2, p3⟩
    · go_wp2
      go_ret
      exact ⟨⟨-1, rfl, .inl rfl⟩, hB1⟩
    · rw [← hP] at p2
      have a3 := boxk_cell HX1.out 3 _ rfl
      have HP3 := hide p3
      clear p3
      go_wp2_with fail
      refine (szCondS_any x.aC x.cC x.C r _ (hr.c.below hB1) s4 s3 p1 (by omega)).mono ?_
      rintro e w2 ⟨⟨r2, rfl, hr2⟩, hb2⟩
      have hB2 : Below w.heap.size w w2 := hB1.trans (hb2.mono hB1.size)
      have HX2 := hide (box_step HX1.out hb2)
      clear hb2 hB1 HX1 a3
      rcases hr2 with rfl | ⟨q1, q2, q3⟩
      · go_wp2
        go_ret
        exact ⟨⟨-1, rfl, .inl rfl⟩, hB2⟩
      · have a4 := boxk_cell HX2.out 4 _ rfl
        have HQ3 := hide q3
        clear q3
        go_wp2_with fail
        refine (szActS_any x.aA x.cA x.A r2 _ (hr.a.below hB2) s6 s5 q1 (by omega)).mono ?_
        rintro e w3 ⟨⟨r3, rfl, hr3⟩, hb3⟩
        have hB3 : Below w.heap.size w w3 := hB2.trans (hb3.mono hB2.size)
        clear hb3 hB2 HX2 a4
        rcases hr3 with rfl | ⟨t1, t2, t3⟩
        · go_wp2
          go_ret
          exact ⟨⟨-1, rfl, .inl rfl⟩, hB3⟩
        · rw [← hA] at t2
          have HF : Hid (r3 + (x.sz : Int) ≤ left ∧ x.small) := by
            have := HSz.out
            have h5 : r3 + (x.sz : Int) ≤ left := by omega
            exact ⟨h5, by omega, HP3.out, HQ3.out, t3⟩
          have h6 : ¬ (r3 < 0) := by omega
          clear t2 t3 p2 q2 hP hA HSz
          go_wp2
          go_ret
          exact ⟨⟨r3, rfl, .inr ⟨t1, HF.out.1, HF.out.2⟩⟩, hB3⟩

set_option maxRecDepth 100000 in
set_option maxHeartbeats 3200000 in
theorem toRule_any (x : RE) (w : World) (hr : RdRule w x) (hs : x.small) :
    Calls Try.prog 19 #[.agg #[.string x.nm, .int .i64 x.sal, .slice x.aP x.nP x.cP, .slice x.aC x.nC x.cC, .slice x.aA x.nA x.cA]] w fun e w' =>
      ∃ y : RE, e = .returned (.agg #[.string y.nm, .int .i64 y.sal, .slice y.aP y.nP y.cP, .slice y.aC y.nC y.cC, .slice y.aA y.nA y.cA]) ∧ OwnRule w' w.heap.size w'.heap.size y ∧ y.pl = x.pl ∧ Below w.heap.size w w' := by
  have HN := hide (And.intro hr.np (And.intro hr.nc hr.na))
  obtain ⟨s1, s2, s3, s4⟩ := hs
  unfold RE.sz at s1
  have l1 : x.P.length ≤ 1048576 := by omega
  have l2 : x.C.length ≤ 1048576 := by omega
  have l3 : x.A.length ≤ 1048576 := by omega
  have t1 : ∀ p ∈ x.P, p.L.length ≤ 1048576 := fun p hp => by have := s2 p hp; unfold PE.small at this; omega
  have t3 : ∀ p ∈ x.A, p.L.length ≤ 1048576 := fun p hp => by have := s4 p hp; unfold QE.small at this; omega
  clear s1 s2 s3 s4
  rw [← hr.np, ← hr.nc, ← hr.na]
  obtain ⟨hA, hR, hX, b2⟩ := boxes3 w #[.string x.nm, .int .i64 x.sal, .slice x.aP x.P.length x.cP, .slice x.aC x.C.length x.cC, .slice x.aA x.A.length x.cA] #[.string ⟨#[]⟩, .int .i64 0, .slice none 0 0, .slice none 0 0, .slice none 0 0] #[.string x.nm, .int .i64 x.sal, .slice none 0 0, .slice none 0 0, .slice none 0 0] 37 49 49
  go_enter Try.func19, Try.ntmps19
  go_wp2_with fail
  refine (toPatS_any x.aP x.cP x.P _ (hr.p.below b2) l1 t1).mono ?_
  rintro e w1 ⟨KP, gP, rfl, oP, plP, hb⟩
  have HA := hide (box_below hA hb (by simp; omega))
  have HR := hide (box_below hR hb (by simp))
  have HX := hide (box_below hX hb (by simp))
  have hB : Below w.heap.size w w1 := b2.trans (hb.mono b2.size)
  have hz : w.heap.size + 1 + 1 + 1 ≤ w1.heap.size := Nat.le_trans (by simp) hb.size
  simp only [World.size_alloc] at oP
  have HPl := hide plP
  clear hb hA hR hX b2 plP
  have a3 := boxk_cell HA.out 3 _ rfl
  have x2 := boxk_cell HX.out 2 _ rfl
  have xf2 := boxk_frozen HX.out 2
  have HX2 := hide (boxk_set HX.out 2 (.slice (some ⟨gP, 0, none⟩) x.P.length x.P.length))
  have HA2 := hide (box_gr HA.out HX2.out.2 (by omega))
  have HR2 := hide (box_gr HR.out HX2.out.2 (by omega))
  have HB2 := hide (below_set hB HX2.out.2 (by omega))
  have HP2 := hide (oP.grown innPat HX2.out.2 (.inl (by omega)))
  have hz2 := HX2.out.2.size
  have HXs := hide HX2.out.1
  go_wp2_with fail
  generalize w1.setCell ⟨w.heap.size + 1 + 1, 2, none⟩ (.slice (some ⟨gP, 0, none⟩) x.P.length x.P.length) = w2 at HA2 HR2 HB2 HP2 hz2 HXs ⊢
  clear HX2 HA HR HX hB oP a3 x2 xf2
  refine (toCondS_ex x.aC x.cC x.C _ (hr.c.below HB2.out) l2).mono ?_
  rintro e w3 ⟨gC, rfl, hgC, oC, hb⟩
  have HA3 := hide (box_step HA2.out hb)
  have HR3 := hide (box_step HR2.out hb)
  have HX3 := hide (box_step HXs.out hb)
  have HB3 := hide (HB2.out.trans (hb.mono HB2.out.size))
  have HP3 := hide (HP2.out.later innPat hb)
  have hz3 := hb.size
  clear hb HA2 HR2 HXs HB2 HP2
  have a4 := boxk_cell HA3.out 4 _ rfl
  have x3 := boxk_cell HX3.out 3 _ rfl
  have xf3 := boxk_frozen HX3.out 3
  have hlC := oC.lt
  have HX4 := hide (boxk_set HX3.out 3 (.slice (some ⟨gC, 0, none⟩) x.C.length x.C.length))
  have HA4 := hide (box_gr HA3.out HX4.out.2 (by omega))
  have HR4 := hide (box_gr HR3.out HX4.out.2 (by omega))
  have HB4 := hide (below_set HB3.out HX4.out.2 (by omega))
  have HP4 := hide (HP3.out.grown innPat HX4.out.2 (.inl (by omega)))
  have HC4 := hide (oC.grown HX4.out.2 (by omega))
  have hz4 := HX4.out.2.size
  have HXt := hide HX4.out.1
  go_wp2_with fail
  generalize w3.setCell ⟨w.heap.size + 1 + 1, 3, none⟩ (.slice (some ⟨gC, 0, none⟩) x.C.length x.C.length) = w4 at HA4 HR4 HB4 HP4 HC4 hz4 HXt ⊢
  clear HX4 HA3 HR3 HX3 HB3 HP3 oC a4 x3 xf3
  refine (toActS_any x.aA x.cA x.A _ (hr.a.below HB4.out) l3 t3).mono ?_
  rintro e w5 ⟨KA, gA, rfl, oA, plA, hb⟩
  have HR5 := hide (box_step HR4.out hb)
  have HX5 := hide (box_step HXt.out hb)
  have HB5 := hide (HB4.out.trans (hb.mono HB4.out.size))
  have HP5 := hide (HP4.out.later innPat hb)
  have HC5 := hide (HC4.out.later hb)
  have HPl2 := hide plA
  have hz5 := hb.size
  clear hb HA4 HR4 HXt HB4 HP4 HC4 plA
  have HX6 := hide (boxk_set HX5.out 4 (.slice (some ⟨gA, 0, none⟩) x.A.length x.A.length))
  have HR6 := hide (box_gr HR5.out HX6.out.2 (by omega))
  have HB6 := hide (below_set HB5.out HX6.out.2 (by omega))
  have HP6 := hide (HP5.out.grown innPat HX6.out.2 (.inl (by omega)))
  have HC6 := hide (HC5.out.grown HX6.out.2 (by omega))
  have HO6 := hide (oA.grown innAct HX6.out.2 (.inl (by omega)))
  have hz6 := HX6.out.2.size
  have x0 := boxk_cell HX5.out 0 _ rfl
  have x1 := boxk_cell HX5.out 1 _ rfl
  have x2 := boxk_cell HX5.out 2 _ rfl
  have x3 := boxk_cell HX5.out 3 _ rfl
  have x4 := boxk_cell HX5.out 4 _ rfl
  have xf4 := boxk_frozen HX5.out 4
  have r0 := boxk_cell HR5.out 0 _ rfl
  have r1 := boxk_cell HR5.out 1 _ rfl
  have r2 := boxk_cell HR5.out 2 _ rfl
  have r3 := boxk_cell HR5.out 3 _ rfl
  have r4 := boxk_cell HR5.out 4 _ rfl
  have rf0 := boxk_frozen HR5.out 0
  have rf1 := boxk_frozen HR5.out 1
  have rf2 := boxk_frozen HR5.out 2
  have rf3 := boxk_frozen HR5.out 3
  have rf4 := boxk_frozen HR5.out 4
  go_wp2
  refine box5_post HR6.out (fun w7 h7 gr => ?_)
  clear x0 x1 x2 x3 x4 xf4 r0 r1 r2 r3 r4 rf0 rf1 rf2 rf3 rf4
  have c0 := boxk_cell h7 0 _ rfl
  have c1 := boxk_cell h7 1 _ rfl
  have c2 := boxk_cell h7 2 _ rfl
  have c3 := boxk_cell h7 3 _ rfl
  have c4 := boxk_cell h7 4 _ rfl
  have hz7 := gr.size
  have lP := map_len HPl.out
  have lA := map_len HPl2.out
  have oP7 := HP6.out.grown innPat gr (.inl (by omega))
  have oC7 := HC6.out.grown gr (by omega)
  have oA7 := HO6.out.grown innAct gr (.inl (by omega))
  refine bodyPost_ret (v := .agg #[.string x.nm, .int .i64 x.sal, .slice (some ⟨gP, 0, none⟩) x.P.length x.P.length, .slice (some ⟨gC, 0, none⟩) x.C.length x.C.length, .slice (some ⟨gA, 0, none⟩) x.A.length x.A.length]) (by simp [results, Try.results19, go_sem, c0, c1, c2, c3, c4]) rfl
    ⟨⟨x.nm, x.sal, some ⟨gP, 0, none⟩, x.P.length, x.P.length, KP, some ⟨gC, 0, none⟩, x.C.length, x.C.length, x.C, some ⟨gA, 0, none⟩, x.A.length, x.A.length, KA⟩, rfl, ⟨⟨gP, gC, gA, w1.heap.size, w4.heap.size, rfl, ?_, rfl, oC7, by omega, by omega, rfl, ?_⟩, lP, rfl, lA⟩, ?_, below_set HB6.out gr (by omega)⟩
  · exact oP7.weaken (by omega) (Nat.le_refl _) oP7.top
  · exact oA7.weaken (Nat.le_refl _) (by omega) (Nat.le_refl _)
  · unfold RE.pl
    simp only
    rw [HPl.out, HPl2.out]

set_option maxRecDepth 100000 in
set_option maxHeartbeats 1600000 in
theorem eqRule_same (x y : RE) (w : World) (hx : RdRule w x) (hy : RdRule w y) (h : x.pl = y.pl) (hs : x.small) :
    Calls Try.prog 24 #[.agg #[.string x.nm, .int .i64 x.sal, .slice x.aP x.nP x.cP, .slice x.aC x.nC x.cC, .slice x.aA x.nA x.cA], .agg #[.string y.nm, .int .i64 y.sal, .slice y.aP y.nP y.cP, .slice y.aC y.nC y.cC, .slice y.aA y.nA y.cA]] w fun e w' =>
      e = .returned (.bool true) ∧ Below w.heap.size w w' := by
  obtain ⟨e1, e2, e3, e4, e5⟩ := RE.pl_inj h
  obtain ⟨s1, s2, s3, s4⟩ := hs
  unfold RE.sz at s1
  have l1 : x.nP ≤ 1048576 := by rw [← hx.np]; omega
  have l2 : x.C.length ≤ 1048576 := by omega
  have l3 : x.nA ≤ 1048576 := by rw [← hx.na]; omega
  have t1 : ∀ p ∈ x.P, p.L.length ≤ 1048576 := fun p hp => by have := s2 p hp; unfold PE.small at this; omega
  have t3 : ∀ p ∈ x.A, p.L.length ≤ 1048576 := fun p hp => by have := s4 p hp; unfold QE.small at this; omega
  have n1 : y.nP = x.nP := by rw [← hx.np, ← hy.np, map_len e3]
  have n2 : y.nC = x.C.length := by rw [← hy.nc, e4]
  have n3 : y.nA = x.nA := by rw [← hx.na, ← hy.na, map_len e5]
  rw [n1, n2, n3, ← hx.nc, ← e1, ← e2]
  have k0 : (x.nm.toList == x.nm.toList) = true := by simp
  have k1 : (x.sal != x.sal) = false := by simp
  have hyc := hy.c
  rw [← e4] at hyc
  have HP := hide e3
  have HA := hide e5
  clear s1 s2 s3 s4 h e1 e2 e3 e4 e5 n1 n2 n3
  go_enter Try.func24, Try.ntmps24
  go_wp2_with fail
  obtain ⟨hP, hQ, b1⟩ := boxes2 w #[.string x.nm, .int .i64 x.sal, .slice x.aP x.nP x.cP, .slice x.aC x.C.length x.cC, .slice x.aA x.nA x.cA] #[.string x.nm, .int .i64 x.sal, .slice y.aP x.nP y.cP, .slice y.aC x.C.length y.cC, .slice y.aA x.nA y.cA] 49 49
  refine (eqPatS_same x.aP y.aP x.cP y.cP x.nP x.P y.P _ (hx.p.below b1) (hy.p.below b1) hx.np HP.out (by omega) t1).mono ?_
  rintro e w1 ⟨rfl, hb⟩
  have hB1 : Below w.heap.size w w1 := b1.trans (hb.mono b1.size)
  have HP1 := hide (box_step hP hb)
  have HQ1 := hide (box_step hQ hb)
  clear hb hP hQ b1
  have p3 := boxk_cell HP1.out 3 _ rfl
  have q3 := boxk_cell HQ1.out 3 _ rfl
  go_wp2_with fail
  refine (eqCondS_same x.aC y.aC x.cC y.cC x.C _ (hx.c.below hB1) (hyc.below hB1) (by omega)).mono ?_
  rintro e w2 ⟨rfl, hb⟩
  have hB2 : Below w.heap.size w w2 := hB1.trans (hb.mono hB1.size)
  have HP2 := hide (box_step HP1.out hb)
  have HQ2 := hide (box_step HQ1.out hb)
  clear hb HP1 HQ1 hB1 p3 q3
  have p4 := boxk_cell HP2.out 4 _ rfl
  have q4 := boxk_cell HQ2.out 4 _ rfl
  go_wp2_with fail
  refine (eqActS_same x.aA y.aA x.cA y.cA x.nA x.A y.A _ (hx.a.below hB2) (hy.a.below hB2) hx.na HA.out (by omega) t3).mono ?_
  rintro e w3 ⟨rfl, hb⟩
  have hB3 : Below w.heap.size w w3 := hB2.trans (hb.mono hB2.size)
  clear hb HP2 HQ2 hB2 p4 q4
  go_wp2
  go_ret
  exact ⟨rfl, hB3⟩

set_option maxRecDepth 100000 in
set_option maxHeartbeats 1600000 in
theorem markRule_b (x : RE) (lo hi : Nat) (w : World) (ho : OwnRule w lo hi x) (hs : x.small) :
    Calls Try.prog 27 #[.agg #[.string x.nm, .int .i64 x.sal, .slice x.aP x.nP x.cP, .slice x.aC x.nC x.cC, .slice x.aA x.nA x.cA], .int .i64 1] w fun e w' =>
      (∃ r : Nat, e = .returned (.int .i64 (r : Int)) ∧ r ≤ 13000000) ∧ Out lo hi w w' := by
  obtain ⟨gP, gC, gA, m1, m2, e1, o1, e2, o2, g1, g2, e3, o3⟩ := ho.own
  obtain ⟨s1, s2, s3, s4⟩ := hs
  unfold RE.sz at s1
  have w1' := totW_mul (c := 5) PE.wt_sz x.P
  have w2' := totW_mul (c := 11) QE.wt_sz x.A
  have t1 : ∀ p ∈ x.P, p.L.length ≤ 1048576 := fun p hp => by have := s2 p hp; unfold PE.small at this; omega
  have t3 : ∀ p ∈ x.A, p.L.length ≤ 1048576 := fun p hp => by have := s4 p hp; unfold QE.small at this; omega
  rw [← ho.np, ← ho.nc, ← ho.na, e1, e2, e3]
  obtain ⟨sP, hP⟩ : ∃ s, s = (x.P.map PE.wt).sum := ⟨_, rfl⟩
  obtain ⟨sA, hA⟩ : ∃ s, s = (x.A.map QE.wt).sum := ⟨_, rfl⟩
  rw [← hP] at w1'
  rw [← hA] at w2'
  have a1 := o1.low
  have a2 := o1.lth
  have a3 := o3.low
  have a4 := o3.lth
  have a5 := o3.top
  have b0 := below_al w (.cells #[.string x.nm, .int .i64 x.sal, .slice (some ⟨gP, 0, none⟩) x.P.length x.cP, .slice (some ⟨gC, 0, none⟩) x.C.length x.cC, .slice (some ⟨gA, 0, none⟩) x.A.length x.cA] 49)
  have hB := boxk_new w #[.string x.nm, .int .i64 x.sal, .slice (some ⟨gP, 0, none⟩) x.P.length x.cP, .slice (some ⟨gC, 0, none⟩) x.C.length x.cC, .slice (some ⟨gA, 0, none⟩) x.A.length x.cA] 49
  have q1 := o1.later innPat b0
  have q2 := o2.later b0
  have q3 := o3.later innAct b0
  have O0 := (Out.refl lo hi w).below b0
  have hw : w.heap.size < (w.alloc (.cells #[.string x.nm, .int .i64 x.sal, .slice (some ⟨gP, 0, none⟩) x.P.length x.cP, .slice (some ⟨gC, 0, none⟩) x.C.length x.cC, .slice (some ⟨gA, 0, none⟩) x.A.length x.cA] 49)).heap.size := by simp
  clear o1 o2 o3 e1 e2 e3 s2 s3 s4
  go_enter Try.func27, Try.ntmps27
  go_wp2_with fail
  generalize w.alloc (.cells #[.string x.nm, .int .i64 x.sal, .slice (some ⟨gP, 0, none⟩) x.P.length x.cP, .slice (some ⟨gC, 0, none⟩) x.C.length x.cC, .slice (some ⟨gA, 0, none⟩) x.A.length x.cA] 49) = w0 at hB q1 q2 q3 O0 hw b0 ⊢
  refine (markPatS_any gP x.cP 1 lo m1 x.P w0 q1 (by omega) t1 (by rw [← hP]; omega)).mono ?_
  rintro e w1 ⟨⟨r1, rfl, hr1⟩, O1⟩
  rw [← hP] at hr1
  have HX1 : Hid (w1.heap[w.heap.size]? = some (.cells #[.string x.nm, .int .i64 x.sal, .slice (some ⟨gP, 0, none⟩) x.P.length x.cP, .slice (some ⟨gC, 0, none⟩) x.C.length x.cC, .slice (some ⟨gA, 0, none⟩) x.A.length x.cA] 49 (0, 0))) := by
    unfold Hid; rw [O1.blk w.heap.size hw (.inr (by omega))]; exact hB
  have q2' := q2.same (O1.blk gC (by omega) (.inr g1))
  have q3' := q3.keep innAct O1.size (fun q z1 z2 => O1.blk q (by omega) (.inr (by omega)))
  have OO1 := hide (O0.trans (O1.wide (Nat.le_refl _) (by omega)))
  have hz1 := O1.size
  have hl1 : r1 ≤ 6000000 := by omega
  have hl1' : r1 ≤ 1 + 6 * (x.P.length + (x.P.map PE.sz).sum) := by omega
  clear q1 q2 q3 O0 O1 hB hr1
  have c3 := boxk_cell HX1.out 3 _ rfl
  go_wp2_with fail
  refine (markCondS_any gC x.cC r1 x.C _ q2' (by omega) (by omega)).mono ?_
  rintro e w2 ⟨rfl, -, gr⟩
  have HX2 : Hid (w2.heap[w.heap.size]? = some (.cells #[.string x.nm, .int .i64 x.sal, .slice (some ⟨gP, 0, none⟩) x.P.length x.cP, .slice (some ⟨gC, 0, none⟩) x.C.length x.cC, .slice (some ⟨gA, 0, none⟩) x.A.length x.cA] 49 (0, 0))) := box_gr HX1.out gr (by omega)
  have q3'' := q3'.grown innAct gr (.inl g2)
  have OO2 := hide (OO1.out.grown gr (by omega) (by omega))
  obtain ⟨r2, hr2⟩ : ∃ r2, r2 = r1 + 11 * x.C.length := ⟨_, rfl⟩
  rw [← hr2]
  have hl2 : r2 ≤ 19000000 := by omega
  have hl2' : r2 ≤ 1 + 6 * (x.P.length + (x.P.map PE.sz).sum) + 11 * x.C.length := by omega
  have hz2 := gr.size
  clear q2' q3' OO1 gr HX1 c3 hr2
  have c4 := boxk_cell HX2.out 4 _ rfl
  go_wp2_with fail
  refine (markActS_any gA x.cA r2 m2 hi x.A _ q3'' (by omega) t3 (by rw [← hA]; omega)).mono ?_
  rintro e w3 ⟨⟨r3, rfl, hr3⟩, O3⟩
  have OO3 := hide (OO2.out.trans (O3.wide (by omega) (Nat.le_refl _)))
  have hl3 : r3 ≤ 13000000 := by omega
  clear q3'' OO2 O3 HX2 c4 hr3 hP hA
  go_wp2
  go_ret
  exact ⟨⟨r3, rfl, hl3⟩, OO3.out⟩
theorem markRule_any (x : RE) (lo hi : Nat) (w : World) (ho : OwnRule w lo hi x) (hs : x.small) :
    Calls Try.prog 27 #[.agg #[.string x.nm, .int .i64 x.sal, .slice x.aP x.nP x.cP, .slice x.aC x.nC x.cC, .slice x.aA x.nA x.cA], .int .i64 1] w fun e w' =>
      (∃ r : Nat, e = .returned (.int .i64 (r : Int))) ∧ Out lo hi w w' :=
  (markRule_b x lo hi w ho hs).mono fun e w' h => by
    obtain ⟨⟨r, h1, -⟩, h2⟩ := h
    exact ⟨⟨r, h1⟩, h2⟩
end Go.Proofs.Ytfgigcdfmkfkjaa
