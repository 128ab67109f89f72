/-
  Proved: for every two matches, the law on LessMatch answers true (the tested function answers as its model, and writes into no argument), and both matches read as they did. No condition.
-/
import Derived.Test.YtfgigcdfmkfkjaaCmpMI
import Derived.Test.YtfgigcdfmkfkjaaCmpMS
import Derived.Test.YtfgigcdfmkfkjaaRows
import Derived.ProofKit
import Derived.OpenShut
import Derived.ShutString
import Derived.ChangeOld
import Derived.Below
import Derived.Lib.SmallJoins
import Derived.Deep.RegionHeld3
namespace Go.Proofs.Ytfgigcdfmkfkjaa.ExLessM
open Go.ChangeShapes Go.WideShapes Go.ChangeAt Go.RowKit Go.Joins
open Go.ChangeMaps (open_string shut_string)
set_option linter.unusedVariables false

set_option maxRecDepth 100000 in
set_option maxHeartbeats 6400000 in
theorem walk (x y : ME) (w : World) (hr : RdMatch w x) (hs : x.ok) (hr' : RdMatch w y) (hs' : y.ok) :
    Calls Try.prog 4 #[.agg #[.int .i64 x.r, .slice x.aI x.nI x.cI, .slice x.aB x.nB x.cB], .agg #[.int .i64 y.r, .slice y.aI y.nI y.cI, .slice y.aB y.nB y.cB]] w fun e w' => e = .returned (.bool true) ∧ Below w.heap.size w w' := by
  obtain ⟨hX, hY, b1⟩ := boxes2 w #[.int .i64 x.r, .slice x.aI x.nI x.cI, .slice x.aB x.nB x.cB] #[.int .i64 y.r, .slice y.aI y.nI y.cI, .slice y.aB y.nB y.cB] 25 25
  have S1 : ((w.alloc (.cells #[.int .i64 x.r, .slice x.aI x.nI x.cI, .slice x.aB x.nB x.cB] 25)).alloc (.cells #[.int .i64 y.r, .slice y.aI y.nI y.cI, .slice y.aB y.nB y.cB] 25)).cell? ⟨w.heap.size, 0, none⟩ = some (.int .i64 x.r) ∧ ((w.alloc (.cells #[.int .i64 x.r, .slice x.aI x.nI x.cI, .slice x.aB x.nB x.cB] 25)).alloc (.cells #[.int .i64 y.r, .slice y.aI y.nI y.cI, .slice y.aB y.nB y.cB] 25)).cell? ⟨w.heap.size, 1, none⟩ = some (.slice x.aI x.nI x.cI) ∧ ((w.alloc (.cells #[.int .i64 x.r, .slice x.aI x.nI x.cI, .slice x.aB x.nB x.cB] 25)).alloc (.cells #[.int .i64 y.r, .slice y.aI y.nI y.cI, .slice y.aB y.nB y.cB] 25)).cell? ⟨w.heap.size, 2, none⟩ = some (.slice x.aB x.nB x.cB) ∧ ((w.alloc (.cells #[.int .i64 x.r, .slice x.aI x.nI x.cI, .slice x.aB x.nB x.cB] 25)).alloc (.cells #[.int .i64 y.r, .slice y.aI y.nI y.cI, .slice y.aB y.nB y.cB] 25)).cell? ⟨w.heap.size + 1, 0, none⟩ = some (.int .i64 y.r) ∧ ((w.alloc (.cells #[.int .i64 x.r, .slice x.aI x.nI x.cI, .slice x.aB x.nB x.cB] 25)).alloc (.cells #[.int .i64 y.r, .slice y.aI y.nI y.cI, .slice y.aB y.nB y.cB] 25)).cell? ⟨w.heap.size + 1, 1, none⟩ = some (.slice y.aI y.nI y.cI) ∧ ((w.alloc (.cells #[.int .i64 x.r, .slice x.aI x.nI x.cI, .slice x.aB x.nB x.cB] 25)).alloc (.cells #[.int .i64 y.r, .slice y.aI y.nI y.cI, .slice y.aB y.nB y.cB] 25)).cell? ⟨w.heap.size + 1, 2, none⟩ = some (.slice y.aB y.nB y.cB) ∧ TwoM w w.heap.size x y ((w.alloc (.cells #[.int .i64 x.r, .slice x.aI x.nI x.cI, .slice x.aB x.nB x.cB] 25)).alloc (.cells #[.int .i64 y.r, .slice y.aI y.nI y.cI, .slice y.aB y.nB y.cB] 25)) := ⟨boxk_cell hX 0 _ rfl, boxk_cell hX 1 _ rfl, boxk_cell hX 2 _ rfl, boxk_cell hY 0 _ rfl, boxk_cell hY 1 _ rfl, boxk_cell hY 2 _ rfl, hr.below b1, hr'.below b1, b1, b1.size⟩
  have HNx := hide hr.ni
  have HNy := hide hr'.ni
  clear hX hY b1 hr hr'
  go_enter Try.func4, Try.ntmps4
  go_wp2_with fail
  generalize (w.alloc (.cells #[.int .i64 x.r, .slice x.aI x.nI x.cI, .slice x.aB x.nB x.cB] 25)).alloc (.cells #[.int .i64 y.r, .slice y.aI y.nI y.cI, .slice y.aB y.nB y.cB] 25) = w1 at S1 ⊢
  refine (szMatch_any x 1048576 _ (rdMA S1) hs (by omega) (by omega)).mono ?_
  rintro e w2 ⟨⟨r, rfl, hr1⟩, hb2⟩
  have S2 := keepM hb2 S1
  clear hb2 S1
  rcases hr1 with rfl | ⟨hr2, hr3, hsm⟩
  · go_wp2
    go_ret
    exact ⟨rfl, S2.2.2.2.2.2.2.2.2.1⟩
  have HSm := hide hsm
  clear hsm
  obtain ⟨x0, x1, x2, y0, y1, y2, -⟩ := id S2
  go_wp2_with fail
  refine (szMatch_any y r _ (rdMB S2) hs' hr2 hr3).mono ?_
  rintro e w3 ⟨⟨r', rfl, hr1'⟩, hb3⟩
  have S3 := keepM hb3 S2
  clear hb3 S2 x0 x1 x2 y0 y1 y2
  rcases hr1' with rfl | ⟨hr2', hr3', hsm'⟩
  · go_wp2
    go_ret
    exact ⟨rfl, S3.2.2.2.2.2.2.2.2.1⟩
  have HSm' := hide hsm'
  clear hr3' hr2 hr3 hsm'
  obtain ⟨x0, x1, x2, y0, y1, y2, T3⟩ := id S3
  clear S3
  have HL : ∀ (z : ME) (W : World), RdMatch W z → z.pl = x.pl → z.nI ≤ 1048580 := fun z W h e => by
    have := (ME.small_of HSm.out e).1; rw [← h.ni]; omega
  have HL' : ∀ (z : ME) (W : World), RdMatch W z → z.pl = y.pl → z.nI ≤ 1048580 := fun z W h e => by
    have := (ME.small_of HSm'.out e).1; rw [← h.ni]; omega
  have HLx := hide HL
  have HLy := hide HL'
  clear HL HL'
  go_wp2_with fail
  go_region_held3 (fun W => W.cell? ⟨w.heap.size, 0, none⟩ = some (.int .i64 x.r) ∧ W.cell? ⟨w.heap.size, 1, none⟩ = some (.slice x.aI x.nI x.cI) ∧ W.cell? ⟨w.heap.size, 2, none⟩ = some (.slice x.aB x.nB x.cB) ∧ W.cell? ⟨w.heap.size + 1, 0, none⟩ = some (.int .i64 y.r) ∧ W.cell? ⟨w.heap.size + 1, 1, none⟩ = some (.slice y.aI y.nI y.cI) ∧ W.cell? ⟨w.heap.size + 1, 2, none⟩ = some (.slice y.aB y.nB y.cB) ∧ TwoM w w.heap.size x y W) (first | exact ⟨x0, x1, x2, y0, y1, y2, T3.drew⟩ | exact keepM (by assumption) (by assumption))
    (first | (go_at_call_of 11 x.r; refine (toMatch_any x _ (rdMA (by assumption)) HSm.out).mono ?_; rintro e w4 ⟨u4, rfl, o4, e4, hb4⟩) | (go_at_call_of 11 y.r; refine (toMatch_any y _ (rdMB (by assumption)) HSm'.out).mono ?_; rintro e w5 ⟨u5, rfl, o5, e5, hb5⟩) | (go_at_call 14; refine (specLessMatch_any u4 u5 _ (o4.below hb5) o5 (HLx.out u4 _ o4 e4) (HLy.out u5 _ o5 e5)).mono ?_; rintro e w6 ⟨⟨t, rfl, ht⟩, hb6⟩))
  have S6 : w6.cell? ⟨w.heap.size, 0, none⟩ = some (.int .i64 x.r) ∧ w6.cell? ⟨w.heap.size, 1, none⟩ = some (.slice x.aI x.nI x.cI) ∧ w6.cell? ⟨w.heap.size, 2, none⟩ = some (.slice x.aB x.nB x.cB) ∧ w6.cell? ⟨w.heap.size + 1, 0, none⟩ = some (.int .i64 y.r) ∧ w6.cell? ⟨w.heap.size + 1, 1, none⟩ = some (.slice y.aI y.nI y.cI) ∧ w6.cell? ⟨w.heap.size + 1, 2, none⟩ = some (.slice y.aB y.nB y.cB) ∧ TwoM w w.heap.size x y w6 := by assumption
  have HT : Hid (t = decide (cmpP x.pl y.pl < 0)) := by unfold Hid; rw [ht.out, e4, e5]
  clear o4 o5 hb4 hb5 hb6 x0 x1 x2 y0 y1 y2 T3 e4 e5 ht
  obtain ⟨x0, x1, x2, y0, y1, y2, -⟩ := id S6
  go_wp2_with fail
  refine (toMatch_any x _ (rdMA S6) HSm.out).mono ?_
  rintro e w7 ⟨u, rfl, o7, e7, hb7⟩
  have S7 := keepM hb7 S6
  clear hb7 S6 x0 x1 x2 y0 y1 y2
  have b8 := below_al w7 (.cells #[.int .i64 u.r, .slice u.aI u.nI u.cI, .slice u.aB u.nB u.cB] 30)
  have S8 := keepM b8 S7
  have o8 := o7.below b8
  have HX8 := hide (boxk_new w7 #[.int .i64 u.r, .slice u.aI u.nI u.cI, .slice u.aB u.nB u.cB] 30)
  obtain ⟨x0, x1, x2, y0, y1, y2, -⟩ := id S8
  go_wp2_with fail
  refine (toMatch_any y _ (rdMB S8) HSm'.out).mono ?_
  rintro e w9 ⟨v, rfl, o9, e9, hb9⟩
  have S9 := keepM hb9 S8
  have HX9 := hide (box_step HX8.out hb9)
  have p9 := o8.below hb9
  clear hb9 S8 HX8 o8 o7 S7 b8 x0 x1 x2 y0 y1 y2
  have b10 := below_al w9 (.cells #[.int .i64 v.r, .slice v.aI v.nI v.cI, .slice v.aB v.nB v.cB] 30)
  have S10 := keepM b10 S9
  have o10 := o9.below b10
  have p10 := p9.below b10
  have HX10 := hide (box_step HX9.out b10)
  have HY10 := hide (boxk_new w9 #[.int .i64 v.r, .slice v.aI v.nI v.cI, .slice v.aB v.nB v.cB] 30)
  have HE7 := hide e7
  have HE9 := hide e9
  have HSu := hide (ME.small_of HSm.out e7)
  have HSv := hide (ME.small_of HSm'.out e9)
  clear S9 o9 p9 HX9 b10 e7 e9
  have u0 := boxk_cell HX10.out 0 _ rfl
  have u1 := boxk_cell HX10.out 1 _ rfl
  have u2 := boxk_cell HX10.out 2 _ rfl
  have t0 := boxk_cell HY10.out 0 _ rfl
  have t1 := boxk_cell HY10.out 1 _ rfl
  have t2 := boxk_cell HY10.out 2 _ rfl
  go_wp2_with fail
  refine (implLessMatch_any u v _ p10 o10 (HLx.out u _ p10 HE7.out) (HLy.out v _ o10 HE9.out)).mono ?_
  rintro e w11 ⟨⟨t', rfl, ht'⟩, hb11⟩
  have S11 := keepM hb11 S10
  have HX11 := hide (box_step HX10.out hb11)
  have HY11 := hide (box_step HY10.out hb11)
  have p11 := p10.below hb11
  have o11 := o10.below hb11
  clear hb11 S10 HX10 HY10 p10 o10 u0 u1 u2 t0 t1 t2
  obtain rfl : t' = t := by rw [HT.out, ht'.out, HE7.out, HE9.out]
  have hbb : (t' != t') = false := by simp
  clear ht' HT
  obtain ⟨x0, x1, x2, y0, y1, y2, T11⟩ := id S11
  have u0 := boxk_cell HX11.out 0 _ rfl
  have u1 := boxk_cell HX11.out 1 _ rfl
  have u2 := boxk_cell HX11.out 2 _ rfl
  have t0 := boxk_cell HY11.out 0 _ rfl
  have t1 := boxk_cell HY11.out 1 _ rfl
  have t2 := boxk_cell HY11.out 2 _ rfl
  clear S11 HX11 HY11
  obtain ⟨X, HXq⟩ : ∃ X, Hid (w7.heap.size = X) := ⟨_, rfl⟩
  obtain ⟨Y, HYq⟩ : ∃ Y, Hid (w9.heap.size = Y) := ⟨_, rfl⟩
  rw [HXq.out] at u0 u1 u2 ⊢
  rw [HYq.out] at t0 t1 t2 ⊢
  have E11 : FourM w w.heap.size x y u v w11 := ⟨T11, p11, o11⟩
  clear T11 p11 o11 HXq HYq
  go_wp2_with fail
  go_region_held3 (fun W => W.cell? ⟨w.heap.size, 0, none⟩ = some (.int .i64 x.r) ∧ W.cell? ⟨w.heap.size, 1, none⟩ = some (.slice x.aI x.nI x.cI) ∧ W.cell? ⟨w.heap.size, 2, none⟩ = some (.slice x.aB x.nB x.cB) ∧ W.cell? ⟨w.heap.size + 1, 0, none⟩ = some (.int .i64 y.r) ∧ W.cell? ⟨w.heap.size + 1, 1, none⟩ = some (.slice y.aI y.nI y.cI) ∧ W.cell? ⟨w.heap.size + 1, 2, none⟩ = some (.slice y.aB y.nB y.cB) ∧ W.cell? ⟨X, 0, none⟩ = some (.int .i64 u.r) ∧ W.cell? ⟨X, 1, none⟩ = some (.slice u.aI u.nI u.cI) ∧ W.cell? ⟨X, 2, none⟩ = some (.slice u.aB u.nB u.cB) ∧ W.cell? ⟨Y, 0, none⟩ = some (.int .i64 v.r) ∧ W.cell? ⟨Y, 1, none⟩ = some (.slice v.aI v.nI v.cI) ∧ W.cell? ⟨Y, 2, none⟩ = some (.slice v.aB v.nB v.cB) ∧ FourM w w.heap.size x y u v W) (first | exact ⟨x0, x1, x2, y0, y1, y2, u0, u1, u2, t0, t1, t2, E11.drew⟩ | exact keepM12 (by assumption) (by assumption))
    (first | (go_at_call 11; refine (toMatch_any x _ (rdM1 (by assumption)) HSm.out).mono ?_; rintro e w12 ⟨u12, rfl, o12, e12, hb12⟩) | (go_at_call 13; refine (eqMatch_same u u12 _ (rdM3 (by assumption)) o12 (HE7.out.trans e12.symm) HSu.out).mono ?_; rintro e w13 ⟨rfl, hb13⟩))
  have S13 : w13.cell? ⟨w.heap.size, 0, none⟩ = some (.int .i64 x.r) ∧ w13.cell? ⟨w.heap.size, 1, none⟩ = some (.slice x.aI x.nI x.cI) ∧ w13.cell? ⟨w.heap.size, 2, none⟩ = some (.slice x.aB x.nB x.cB) ∧ w13.cell? ⟨w.heap.size + 1, 0, none⟩ = some (.int .i64 y.r) ∧ w13.cell? ⟨w.heap.size + 1, 1, none⟩ = some (.slice y.aI y.nI y.cI) ∧ w13.cell? ⟨w.heap.size + 1, 2, none⟩ = some (.slice y.aB y.nB y.cB) ∧ w13.cell? ⟨X, 0, none⟩ = some (.int .i64 u.r) ∧ w13.cell? ⟨X, 1, none⟩ = some (.slice u.aI u.nI u.cI) ∧ w13.cell? ⟨X, 2, none⟩ = some (.slice u.aB u.nB u.cB) ∧ w13.cell? ⟨Y, 0, none⟩ = some (.int .i64 v.r) ∧ w13.cell? ⟨Y, 1, none⟩ = some (.slice v.aI v.nI v.cI) ∧ w13.cell? ⟨Y, 2, none⟩ = some (.slice v.aB v.nB v.cB) ∧ FourM w w.heap.size x y u v w13 := by assumption
  clear x0 x1 x2 y0 y1 y2 u0 u1 u2 t0 t1 t2 E11 o12 hb12 hb13 e12
  obtain ⟨x0, x1, x2, y0, y1, y2, u0, u1, u2, t0, t1, t2, E13⟩ := id S13
  clear S13
  go_wp2_with fail
  go_region_held3 (fun W => W.cell? ⟨w.heap.size, 0, none⟩ = some (.int .i64 x.r) ∧ W.cell? ⟨w.heap.size, 1, none⟩ = some (.slice x.aI x.nI x.cI) ∧ W.cell? ⟨w.heap.size, 2, none⟩ = some (.slice x.aB x.nB x.cB) ∧ W.cell? ⟨w.heap.size + 1, 0, none⟩ = some (.int .i64 y.r) ∧ W.cell? ⟨w.heap.size + 1, 1, none⟩ = some (.slice y.aI y.nI y.cI) ∧ W.cell? ⟨w.heap.size + 1, 2, none⟩ = some (.slice y.aB y.nB y.cB) ∧ W.cell? ⟨X, 0, none⟩ = some (.int .i64 u.r) ∧ W.cell? ⟨X, 1, none⟩ = some (.slice u.aI u.nI u.cI) ∧ W.cell? ⟨X, 2, none⟩ = some (.slice u.aB u.nB u.cB) ∧ W.cell? ⟨Y, 0, none⟩ = some (.int .i64 v.r) ∧ W.cell? ⟨Y, 1, none⟩ = some (.slice v.aI v.nI v.cI) ∧ W.cell? ⟨Y, 2, none⟩ = some (.slice v.aB v.nB v.cB) ∧ FourM w w.heap.size x y u v W) (first | exact ⟨x0, x1, x2, y0, y1, y2, u0, u1, u2, t0, t1, t2, E13.drew⟩ | exact keepM12 (by assumption) (by assumption))
    (first | (go_at_call 11; refine (toMatch_any y _ (rdM2 (by assumption)) HSm'.out).mono ?_; rintro e w14 ⟨u14, rfl, o14, e14, hb14⟩) | (go_at_call 13; refine (eqMatch_same v u14 _ (rdM4 (by assumption)) o14 (HE9.out.trans e14.symm) HSv.out).mono ?_; rintro e w15 ⟨rfl, hb15⟩))
  obtain ⟨-, -, -, -, -, -, -, -, -, -, -, -, E15⟩ : w15.cell? ⟨w.heap.size, 0, none⟩ = some (.int .i64 x.r) ∧ w15.cell? ⟨w.heap.size, 1, none⟩ = some (.slice x.aI x.nI x.cI) ∧ w15.cell? ⟨w.heap.size, 2, none⟩ = some (.slice x.aB x.nB x.cB) ∧ w15.cell? ⟨w.heap.size + 1, 0, none⟩ = some (.int .i64 y.r) ∧ w15.cell? ⟨w.heap.size + 1, 1, none⟩ = some (.slice y.aI y.nI y.cI) ∧ w15.cell? ⟨w.heap.size + 1, 2, none⟩ = some (.slice y.aB y.nB y.cB) ∧ w15.cell? ⟨X, 0, none⟩ = some (.int .i64 u.r) ∧ w15.cell? ⟨X, 1, none⟩ = some (.slice u.aI u.nI u.cI) ∧ w15.cell? ⟨X, 2, none⟩ = some (.slice u.aB u.nB u.cB) ∧ w15.cell? ⟨Y, 0, none⟩ = some (.int .i64 v.r) ∧ w15.cell? ⟨Y, 1, none⟩ = some (.slice v.aI v.nI v.cI) ∧ w15.cell? ⟨Y, 2, none⟩ = some (.slice v.aB v.nB v.cB) ∧ FourM w w.heap.size x y u v w15 := by assumption
  go_wp2
  go_ret
  exact ⟨rfl, E15.1.2.2.1⟩

theorem own : ownKnob Try.prog.godebug = none := by kernel_rfl
theorem laidOut : laidOutB Try.prog = true := by kernel_rfl

set_option maxRecDepth 100000 in
theorem lifted (os : Os) (started : os.Started) (H : Type) (enc : TypeId × Value → H) :
    ReturnsInHanded {} Try.checked os 4 .any (Rows.fnExactLessMatchSpec.pre6 enc Try.prog Try.f4 Rows.fnExactLessMatchRow.domain false) (Rows.fnExactLessMatchSpec.post enc Try.prog Try.f4 false true false false) := by
  refine returnsInHanded_of_change (C := Try.checked) own started (by kernel_rfl) Try.func4
    (ChangeSpec.witness6 (enc := enc) (C := Try.checked) false ⟨#[], #[.agg #[.int .i64 0, .slice none 0 0, .slice none 0 0], .agg #[.int .i64 0, .slice none 0 0, .slice none 0 0]], []⟩ 8 (by kernel_rfl) (by kernel_rfl) (by kernel_rfl) (by kernel_rfl)) ?_
  intro W base args ds gs before hval0 hW hcnd _
  have hval : ∀ (j : Nat) t v, Try.f4.params[j]? = some t → args[j]? = some v → Value.okWide Try.prog W .any base t v := hval0
  have hW' := hW
  obtain ⟨p, q, hA0, hV, rfl, hfz, hnd⟩ := hW
  have hA : DataW.TrodAll enc Try.prog W 0 (fun _ => true) true Try.f4.params.toList args.toList ds p := hA0
  rw [Try.params4] at hA hval
  obtain ⟨v0, vs0, d0, ds0, p0, q0, hargs, rfl, rfl, h0, r0⟩ := trodAll_cons hA
  obtain ⟨v1, vs1, d1, ds1, p1, q1, rfl, rfl, rfl, h1, r1⟩ := trodAll_cons r0
  obtain ⟨rfl, rfl, rfl⟩ := trodAll_nil r1
  obtain rfl : args = #[v0, v1] := by cases args; simp_all
  obtain ⟨rfl, rfl⟩ := trodVars_none hV
  have k0 := h0
  have lt0 : ∀ x ∈ p0, x.block < W.heap.size := by obtain ⟨m, hm⟩ := k0; exact DataW.trod_lt m _ _ _ hm
  obtain ⟨X0, rfl, hR0, w0⟩ := match_in (hval 0 25 v0 rfl rfl) h0
  have k1 := h1
  have lt1 : ∀ x ∈ p1, x.block < W.heap.size := by obtain ⟨m, hm⟩ := k1; exact DataW.trod_lt m _ _ _ hm
  obtain ⟨X1, rfl, hR1, w1⟩ := match_in (hval 1 25 v1 rfl rfl) h1
  clear hA0 hval0
  refine (walk X0 X1 W hR0 w0 hR1 w1).mono fun e W' ⟨he, bel⟩ => ?_
  subst he
  exact ⟨_, rfl, _, _, _, [], _, [], hW', trodAll_mk1 (shut_bool Try.underlying4 _), (trodAll_cons_mk (Below.trod laidOut (by kernel_rfl) (of_decide_eq_true (by kernel_rfl)) k0 bel lt0) (trodAll_cons_mk (Below.trod laidOut (by kernel_rfl) (of_decide_eq_true (by kernel_rfl)) k1 bel lt1) trodAll_mk0)), rfl, bel.frame _, fun h => by cases h⟩

theorem over : Rows.fnExactLessMatchRow.holds Try.pinned (OpenSpec.ofChange Rows.fnExactLessMatchSpec) :=
  OpenClaim.holds_of_wide 4 Try.f4 rfl rfl rfl rfl rfl rfl rfl ⟨rfl, rfl, rfl, rfl, rfl⟩ rfl rfl rfl rfl rfl (by kernel_rfl) Try.func4 (by kernel_rfl)
    (of_decide_eq_true (by kernel_rfl)) (by unfold Func.isWrapper; first | (rw [if_pos (by decide +kernel)]; kernel_rfl) | (rw [if_neg (by decide +kernel)]; exact ⟨rfl, rfl⟩))
    (fun os started H enc _ => lifted os started H enc)
end Go.Proofs.Ytfgigcdfmkfkjaa.ExLessM
namespace Go.Proofs.Ytfgigcdfmkfkjaa
theorem fnExactLessMatch_holds : Rows.FnExactLessMatchSaid := ExLessM.over
#print axioms fnExactLessMatch_holds
end Go.Proofs.Ytfgigcdfmkfkjaa
