/-
  Proved: for every rule, the law on KindsOf answers true (the tested function answers as its model, writes into no argument, and its answer owns its memory), and the rule reads as it did. No condition.
-/
import Derived.Test.YtaflokfgbmlmaaaJoined2
import Derived.Test.YtaflokfgbmlmaaaJKeepR
import Derived.Test.YtaflokfgbmlmaaaRows
import Derived.Test.YtaflokfgbmlmaaaJMarkPat
import Derived.ProofKit
import Derived.OpenShut
import Derived.ShutString
import Derived.ChangeOld
import Derived.Below
import Derived.Lib.SmallJoins
import Derived.Deep.RegionHeld3
namespace Go.Proofs.Ytaflokfgbmlmaaa.ExKindsOf
open Go.ChangeShapes Go.WideShapes Go.ChangeAt Go.RowKit Go.Joins
open Go.ChangeMaps (open_string shut_string)
set_option linter.unusedVariables false

set_option maxRecDepth 100000 in
set_option maxHeartbeats 6400000 in
theorem walk (x : RE) (w : World) (hr : RdRule w x) (hs : x.ok) :
    Calls Try.prog 5 #[.agg #[.string x.nm, .int .i64 x.sal, .slice x.aP x.nP x.cP, .slice x.aC x.nC x.cC, .slice x.aA x.nA x.cA]] w fun e w' => e = .returned (.bool true) ∧ Below w.heap.size w w' := by
  go_enter Try.func5, Try.ntmps5
  go_wp2_with fail
  have b0 := below_al w (.cells #[.string x.nm, .int .i64 x.sal, .slice x.aP x.nP x.cP, .slice x.aC x.nC x.cC, .slice x.aA x.nA x.cA] 26)
  have hA := boxk_new w #[.string x.nm, .int .i64 x.sal, .slice x.aP x.nP x.cP, .slice x.aC x.nC x.cC, .slice x.aA x.nA x.cA] 26
  refine (szRule_any x 1048576 _ (hr.below b0) hs (by omega) (by omega)).mono ?_
  rintro e w1 ⟨⟨r, rfl, hr1⟩, hb1⟩
  have HA := hide (box_below hA hb1 (by simp))
  have hB1 : Below w.heap.size w w1 := b0.trans (hb1.mono b0.size)
  have hz1 : w.heap.size < w1.heap.size := Nat.lt_of_lt_of_le (by simp) hb1.size
  clear hb1 b0 hA
  rcases hr1 with rfl | ⟨hr2, hr3, hsm⟩
  · go_wp2
    go_ret
    exact ⟨rfl, hB1⟩
  · have HSm := hide hsm
    have HI : Hid (∀ (W : World) (y : RE), RdRule W y → y.pl = x.pl → Calls Try.prog 20 #[.agg #[.string y.nm, .int .i64 y.sal, .slice y.aP y.nP y.cP, .slice y.aC y.nC y.cC, .slice y.aA y.nA y.cA]] W fun e w' => GivesS e w' W.heap.size (kindsL [] x.P) ∧ Below W.heap.size W w') := fun W y h e => by
      rw [← kindsL_pl (RE.pl_inj e).2.2.1]; exact implKindsOf_any y W h (RE.small_of HSm.out e)
    have HSp : Hid (∀ (W : World) (y : RE), RdRule W y → y.pl = x.pl → Calls Try.prog 19 #[.agg #[.string y.nm, .int .i64 y.sal, .slice y.aP y.nP y.cP, .slice y.aC y.nC y.cC, .slice y.aA y.nA y.cA]] W fun e w' => GivesS e w' W.heap.size (kindsL [] x.P) ∧ Below W.heap.size W w') := fun W y h e => by
      rw [← kindsL_pl (RE.pl_inj e).2.2.1]; exact specKindsOf_any y W h (RE.small_of HSm.out e)
    have hvl : (kindsL [] x.P).length ≤ 1048576 := by
      have hsx := HSm.out.1
      unfold RE.sz at hsx
      have hl := kindsL_len [] x.P; simp only [List.length_nil] at hl; omega
    generalize kindsL [] x.P = l at HI HSp hvl
    clear hr3 hsm
    have a0 := boxk_cell HA.out 0 _ rfl
    have a1 := boxk_cell HA.out 1 _ rfl
    have a2 := boxk_cell HA.out 2 _ rfl
    have a3 := boxk_cell HA.out 3 _ rfl
    have a4 := boxk_cell HA.out 4 _ rfl
    go_wp2_with fail
    refine (toRule_any x _ (hr.below hB1) HSm.out).mono ?_
    rintro e w2 ⟨y2, rfl, o2, e2, hb2⟩
    have HA2 := hide (box_step HA.out hb2)
    have hB2 : Below w.heap.size w w2 := hB1.trans (hb2.mono hB1.size)
    have hz2 := hb2.size
    have E2 := hide e2
    clear hb2 HA hB1 a0 a1 a2 a3 a4 e2
    go_wp2_with fail
    refine (HSp.out _ y2 o2.rd E2.out).mono ?_
    rintro e w3 ⟨⟨v3, rfl, ow3⟩, hb3⟩
    obtain ⟨s3, c3, rfl, -, -⟩ := rdS_owns ow3
    have HV3 := hide (fun k hk => ow3.lt k hk)
    have HA3 := hide (box_step HA2.out hb3)
    have hB3 : Below w.heap.size w w3 := hB2.trans (hb3.mono hB2.size)
    have hz3 := hb3.size
    clear hb3 HA2 hB2 o2 E2
    have a0 := boxk_cell HA3.out 0 _ rfl
    have a1 := boxk_cell HA3.out 1 _ rfl
    have a2 := boxk_cell HA3.out 2 _ rfl
    have a3 := boxk_cell HA3.out 3 _ rfl
    have a4 := boxk_cell HA3.out 4 _ rfl
    go_wp2_with fail
    refine (toRule_any x _ (hr.below hB3) HSm.out).mono ?_
    rintro e w4 ⟨y4, rfl, o4, e4, hb4⟩
    have HA4 := hide (box_step HA3.out hb4)
    have hB4 : Below w.heap.size w w4 := hB3.trans (hb4.mono hB3.size)
    have hz4 := hb4.size
    have E4 := hide e4
    have HSm4 := hide (RE.small_of HSm.out e4)
    have ow4 := ownsRow_below' ow3 hb4
    clear hb4 HA3 hB3 a0 a1 a2 a3 a4 e4 ow3
    go_wp2_with fail
    have b5 := below_al w4 (.cells #[.string y4.nm, .int .i64 y4.sal, .slice y4.aP y4.nP y4.cP, .slice y4.aC y4.nC y4.cC, .slice y4.aA y4.nA y4.cA] 33)
    have o5 := o4.later b5
    have HA5 := hide (box_step HA4.out b5)
    have HX5 := hide (boxk_new w4 #[.string y4.nm, .int .i64 y4.sal, .slice y4.aP y4.nP y4.cP, .slice y4.aC y4.nC y4.cC, .slice y4.aA y4.nA y4.cA] 33)
    have hB5 := hB4.trans (b5.mono hB4.size)
    have hz5 : w4.heap.size < (w4.alloc (.cells #[.string y4.nm, .int .i64 y4.sal, .slice y4.aP y4.nP y4.cP, .slice y4.aC y4.nC y4.cC, .slice y4.aA y4.nA y4.cA] 33)).heap.size := by simp
    have ow5 := ownsRow_below' ow4 b5
    clear o4 HA4 hB4 b5 ow4
    refine (HI.out _ y4 o5.rd E4.out).mono ?_
    generalize w4.alloc (.cells #[.string y4.nm, .int .i64 y4.sal, .slice y4.aP y4.nP y4.cP, .slice y4.aC y4.nC y4.cC, .slice y4.aA y4.nA y4.cA] 33) = w5 at o5 HA5 HX5 hB5 hz5 ow5
    rintro e w6 ⟨⟨v6, rfl, og6⟩, hb6⟩
    obtain ⟨s6, c6, rfl, -, -⟩ := rdS_owns og6
    have ow6 := ownsRow_below' ow5 hb6
    have HG6 := hide (fun k hk => og6.lt k hk)
    have HA6 := hide (box_step HA5.out hb6)
    have HX6 := hide (box_step HX5.out hb6)
    have o6 := o5.later hb6
    have hB6 : Below w.heap.size w w6 := hB5.trans (hb6.mono hB5.size)
    have hz6 := hb6.size
    clear hb6 HA5 HX5 hB5 o5 ow5
    go_wp2_with fail
    refine (eqStringS_same _ _ _ _ _ l _ rfl (rdS_of og6) (rdS_of ow6) (by omega)).mono ?_
    rintro e w7 ⟨rfl, hb7⟩
    have HA7 := hide (box_step HA6.out hb7)
    have HX7 := hide (box_step HX6.out hb7)
    have o7 := o6.later hb7
    have ow7 := ownsRow_below' ow6 hb7
    have og7 := ownsRow_below' og6 hb7
    have hB7 : Below w.heap.size w w7 := hB6.trans (hb7.mono hB6.size)
    have hz7 := hb7.size
    clear hb7 HA6 HX6 hB6 o6 ow6 og6
    have a0 := boxk_cell HA7.out 0 _ rfl
    have a1 := boxk_cell HA7.out 1 _ rfl
    have a2 := boxk_cell HA7.out 2 _ rfl
    have a3 := boxk_cell HA7.out 3 _ rfl
    have a4 := boxk_cell HA7.out 4 _ rfl
    have x0 := boxk_cell HX7.out 0 _ rfl
    have x1 := boxk_cell HX7.out 1 _ rfl
    have x2 := boxk_cell HX7.out 2 _ rfl
    have x3 := boxk_cell HX7.out 3 _ rfl
    have x4 := boxk_cell HX7.out 4 _ rfl
    have T6 : TwoR w w.heap.size x y4 w7 := ⟨hr.below hB7, o7.rd, hB7, hB7.size⟩
    go_wp2_with fail
    go_region_held3 (fun W => W.cell? ⟨w.heap.size, 0, none⟩ = some (.string x.nm) ∧ W.cell? ⟨w.heap.size, 1, none⟩ = some (.int .i64 x.sal) ∧ W.cell? ⟨w.heap.size, 2, none⟩ = some (.slice x.aP x.nP x.cP) ∧ W.cell? ⟨w.heap.size, 3, none⟩ = some (.slice x.aC x.nC x.cC) ∧ W.cell? ⟨w.heap.size, 4, none⟩ = some (.slice x.aA x.nA x.cA) ∧ W.cell? ⟨w4.heap.size, 0, none⟩ = some (.string y4.nm) ∧ W.cell? ⟨w4.heap.size, 1, none⟩ = some (.int .i64 y4.sal) ∧ W.cell? ⟨w4.heap.size, 2, none⟩ = some (.slice y4.aP y4.nP y4.cP) ∧ W.cell? ⟨w4.heap.size, 3, none⟩ = some (.slice y4.aC y4.nC y4.cC) ∧ W.cell? ⟨w4.heap.size, 4, none⟩ = some (.slice y4.aA y4.nA y4.cA) ∧ TwoR w w.heap.size x y4 W) (first | exact ⟨a0, a1, a2, a3, a4, x0, x1, x2, x3, x4, T6.drew⟩ | exact keepR (by assumption) (by assumption))
      (first | (go_at_call 10; refine (toRule_any x _ (rdRA (by assumption)) HSm.out).mono ?_; rintro e w8 ⟨y8, rfl, o8, e8, hb8⟩) | (go_at_call 12; refine (eqRule_same y4 y8 _ (rdRB (by assumption)) o8.rd (E4.out.trans e8.symm) HSm4.out).mono ?_; rintro e w9 ⟨rfl, hb9⟩))
    have b9 : Below w7.heap.size w7 w9 := below_step (below_dr hb8) hb9
    have HA9 := hide (box_step HA7.out b9)
    have HX9 := hide (box_step HX7.out b9)
    have o9 := o7.later b9
    have ow9 := ownsRow_below' ow7 b9
    have og9 := ownsRow_below' og7 b9
    have hB9 : Below w.heap.size w w9 := hB7.trans (b9.mono hB7.size)
    have hz9 := b9.size
    clear b9 hb8 hb9 HA7 HX7 hB7 o7 ow7 og7 T6 o8 e8 a0 a1 a2 a3 a4 x0 x1 x2 x3 x4
    have x0 := boxk_cell HX9.out 0 _ rfl
    have x1 := boxk_cell HX9.out 1 _ rfl
    have x2 := boxk_cell HX9.out 2 _ rfl
    have x3 := boxk_cell HX9.out 3 _ rfl
    have x4 := boxk_cell HX9.out 4 _ rfl
    go_wp2_with fail
    refine (markRule_any y4 _ _ _ o9 HSm4.out).mono ?_
    rintro e w10 ⟨⟨r10, rfl⟩, ou10⟩
    have HA10 : Hid (w10.heap[w.heap.size]? = some (.cells #[.string x.nm, .int .i64 x.sal, .slice x.aP x.nP x.cP, .slice x.aC x.nC x.cC, .slice x.aA x.nA x.cA] 26 (0, 0))) := by unfold Hid; rw [ou10.blk w.heap.size (by omega) (.inl (by omega))]; exact HA9.out
    have ow10 := keptOut ow9 ou10 (fun k hk => by have := (HV3.out k hk).2; omega)
    have og10 := keptOut og9 ou10 (fun k hk => by have := (HG6.out k hk).1; omega)
    have hB10 : Below w.heap.size w w10 := hB9.trans ((ou10.bel (by omega)).mono (by omega))
    have hz10 := ou10.size
    have hr11 : ¬ ((r10 : Int) < 0) := by omega
    clear HA9 HX9 o9 ow9 og9 hB9 ou10 x0 x1 x2 x3 x4
    go_wp2_with fail
    refine (eqStringS_same _ _ _ _ _ l _ rfl (rdS_of og10) (rdS_of ow10) (by omega)).mono ?_
    rintro e w11 ⟨rfl, hb11⟩
    have HA11 := hide (box_step HA10.out hb11)
    have ow11 := ownsRow_below' ow10 hb11
    have og11 := ownsRow_below' og10 hb11
    have hB11 : Below w.heap.size w w11 := hB10.trans (hb11.mono hB10.size)
    have hz11 := hb11.size
    clear hb11 HA10 hB10 ow10 og10
    go_wp2_with fail
    refine (markStringS_row _ _ _ l _ og11 (by omega)).mono ?_
    rintro e w12 ⟨rfl, og12, gr12⟩
    obtain ⟨q, hq⟩ : ∃ q, q = 1 + l.length := ⟨_, rfl⟩
    rw [← hq]
    have HQ := hide hq
    clear hq
    have hq1 : ¬ ((q : Int) < 0) := by omega
    have hq2 : ((q : Int) != (q : Int)) = false := by simp
    have HA12 := hide (box_apart HA11.out gr12 (fun k hk => by have := (HG6.out k hk).1; omega))
    have ow12 := kept_apart ow11 gr12 w3.heap.size (fun k hk => (HV3.out k hk).2) (fun k hk => by have := (HG6.out k hk).1; omega)
    have hB12 : Below w.heap.size w w12 := hB11.grown gr12 hB11.size (fun k hk => by have := (HG6.out k hk).1; omega)
    clear gr12 HA11 hB11 ow11 og11
    go_wp2_with fail
    refine (heldStringS_1 _ _ _ _ (rdS_of og12) (by omega)).mono ?_
    rintro e w13 ⟨rfl, hb13⟩
    have HA13 := hide (box_step HA12.out hb13)
    have ow13 := ownsRow_below' ow12 hb13
    have og13 := ownsRow_below' og12 hb13
    have hB13 : Below w.heap.size w w13 := hB12.trans (hb13.mono hB12.size)
    clear hb13 HA12 hB12 ow12 og12
    rw [← HQ.out]
    have a0 := boxk_cell HA13.out 0 _ rfl
    have a1 := boxk_cell HA13.out 1 _ rfl
    have a2 := boxk_cell HA13.out 2 _ rfl
    have a3 := boxk_cell HA13.out 3 _ rfl
    have a4 := boxk_cell HA13.out 4 _ rfl
    go_wp2_with fail
    refine (toRule_any x _ (hr.below hB13) HSm.out).mono ?_
    rintro e w14 ⟨y14, rfl, o14, e14, hb14⟩
    have ow14 := ownsRow_below' ow13 hb14
    have og14 := ownsRow_below' og13 hb14
    have hB14 : Below w.heap.size w w14 := hB13.trans (hb14.mono hB13.size)
    have E14 := hide e14
    clear hb14 HA13 hB13 ow13 og13 a0 a1 a2 a3 a4 e14
    go_wp2_with fail
    refine (HI.out _ y14 o14.rd E14.out).mono ?_
    rintro e w15 ⟨⟨v15, rfl, oh15⟩, hb15⟩
    obtain ⟨s15, c15, rfl, -, -⟩ := rdS_owns oh15
    have ow15 := ownsRow_below' ow14 hb15
    have og15 := ownsRow_below' og14 hb15
    have hB15 : Below w.heap.size w w15 := hB14.trans (hb15.mono hB14.size)
    clear hb15 hB14 ow14 og14 o14
    go_wp2_with fail
    refine (eqStringS_same _ _ _ _ _ l _ rfl (rdS_of oh15) (rdS_of ow15) (by omega)).mono ?_
    rintro e w16 ⟨rfl, hb16⟩
    have og16 := ownsRow_below' og15 hb16
    have hB16 : Below w.heap.size w w16 := hB15.trans (hb16.mono hB15.size)
    clear hb16 hB15 ow15 og15 oh15
    go_wp2_with fail
    refine (heldStringS_1 _ _ _ _ (rdS_of og16) (by omega)).mono ?_
    rintro e w17 ⟨rfl, hb17⟩
    have hB17 : Below w.heap.size w w17 := hB16.trans (hb17.mono hB16.size)
    rw [← HQ.out]
    clear hb17 hB16 og16
    go_wp2
    go_ret
    exact ⟨rfl, hB17⟩

theorem own : ownKnob Try.prog.godebug = none := by kernel_rfl
theorem laidOut : laidOutB Try.prog = true := by kernel_rfl

set_option maxRecDepth 100000 in
theorem lifted (os : Os) (started : os.Started) (H : Type) (enc : TypeId × Value → H) :
    ReturnsInHanded {} Try.checked os 5 .any (Rows.fnExactKindsOfSpec.pre6 enc Try.prog Try.f5 Rows.fnExactKindsOfRow.domain false) (Rows.fnExactKindsOfSpec.post enc Try.prog Try.f5 false true false false) := by
  refine returnsInHanded_of_change (C := Try.checked) own started (by kernel_rfl) Try.func5
    (ChangeSpec.witness6 (enc := enc) (C := Try.checked) false ⟨#[], #[.agg #[.string ByteArray.empty, .int .i64 0, .slice none 0 0, .slice none 0 0, .slice none 0 0]], []⟩ 8 (by kernel_rfl) (by kernel_rfl) (by kernel_rfl) (by kernel_rfl)) ?_
  intro W base args ds gs before hval0 hW hcnd _
  have hval : ∀ (j : Nat) t v, Try.f5.params[j]? = some t → args[j]? = some v → Value.okWide Try.prog W .any base t v := hval0
  have hW' := hW
  obtain ⟨p, q, hA0, hV, rfl, hfz, hnd⟩ := hW
  have hA : DataW.TrodAll enc Try.prog W 0 (fun _ => true) true Try.f5.params.toList args.toList ds p := hA0
  rw [Try.params5] at hA hval
  obtain ⟨v0, vs0, d0, ds0, p0, q0, hargs, rfl, rfl, h0, r0⟩ := trodAll_cons hA
  obtain ⟨rfl, rfl, rfl⟩ := trodAll_nil r0
  obtain rfl : args = #[v0] := by cases args; simp_all
  obtain ⟨rfl, rfl⟩ := trodVars_none hV
  have k0 := h0
  have lt0 : ∀ x ∈ p0, x.block < W.heap.size := by obtain ⟨m, hm⟩ := k0; exact DataW.trod_lt m _ _ _ hm
  obtain ⟨X0, rfl, hR0, w0⟩ := rule_in (hval 0 26 v0 rfl rfl) h0
  clear hA0 hval0
  refine (walk X0 W hR0 w0).mono fun e W' ⟨he, bel⟩ => ?_
  subst he
  exact ⟨_, rfl, _, _, _, [], _, [], hW', trodAll_mk1 (shut_bool Try.underlying4 _), (trodAll_cons_mk (Below.trod laidOut (by kernel_rfl) (of_decide_eq_true (by kernel_rfl)) k0 bel lt0) trodAll_mk0), rfl, bel.frame _, fun h => by cases h⟩

theorem over : Rows.fnExactKindsOfRow.holds Try.pinned (OpenSpec.ofChange Rows.fnExactKindsOfSpec) :=
  OpenClaim.holds_of_wide 5 Try.f5 rfl rfl rfl rfl rfl rfl rfl ⟨rfl, rfl, rfl, rfl, rfl⟩ rfl rfl rfl rfl rfl (by kernel_rfl) Try.func5 (by kernel_rfl)
    (of_decide_eq_true (by kernel_rfl)) (by unfold Func.isWrapper; first | (rw [if_pos (by decide +kernel)]; kernel_rfl) | (rw [if_neg (by decide +kernel)]; exact ⟨rfl, rfl⟩))
    (fun os started H enc _ => lifted os started H enc)
end Go.Proofs.Ytaflokfgbmlmaaa.ExKindsOf
namespace Go.Proofs.Ytaflokfgbmlmaaa
theorem fnExactKindsOf_holds : Rows.FnExactKindsOfSaid := ExKindsOf.over
#print axioms fnExactKindsOf_holds
end Go.Proofs.Ytaflokfgbmlmaaa
