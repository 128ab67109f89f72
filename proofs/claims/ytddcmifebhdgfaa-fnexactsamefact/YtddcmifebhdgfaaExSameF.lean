/-
  Proved: for every two facts, the law on SameFact answers true (the tested function answers as its model and writes into no argument), and the facts read as they did. No condition.
-/
import Derived.Test.YtddcmifebhdgfaaFactSameI
import Derived.Test.YtddcmifebhdgfaaFactOk
import Derived.Test.YtddcmifebhdgfaaKeepG
import Derived.Test.YtddcmifebhdgfaaToFact
import Derived.Test.YtddcmifebhdgfaaFactArg
import Derived.Test.YtddcmifebhdgfaaKeepF
import Derived.Deep.RegionHeld3
namespace Go.Proofs.Ytddcmifebhdgfaa.ExSameF
open Go.ChangeShapes Go.WideShapes Go.ChangeAt Go.RowKit Go.Joins
open Go.ChangeMaps (open_string shut_string)
set_option linter.unusedVariables false

set_option maxRecDepth 100000 in
set_option maxHeartbeats 6400000 in
theorem walk (kd : ByteArray) (a : Option Addr) (len cap : Nat) (L : List V3) (kd' : ByteArray) (a' : Option Addr) (len' cap' : Nat) (M : List V3) (w : World) (hkd : kd.size ≤ maxLen) (hv : IsVals w a len cap L) (hkd' : kd'.size ≤ maxLen) (hv' : IsVals w a' len' cap' M) :
    Calls Try.prog 5 #[.agg #[.string kd, .slice a len cap], .agg #[.string kd', .slice a' len' cap']] w fun e w' => e = .returned (.bool true) ∧ Below w.heap.size w w' := by
  obtain ⟨rfl, hm, hr, hs⟩ := hv
  obtain ⟨rfl, hm', hr', hs'⟩ := hv'
  have b0 := below_al w (.cells #[.string kd, .slice a L.length cap] 32)
  have b1 := b0.alloc b0.size (.cells #[.string kd', .slice a' M.length cap'] 32)
  have T1 : Two w w.heap.size a a' L M ((w.alloc (.cells #[.string kd, .slice a L.length cap] 32)).alloc (.cells #[.string kd', .slice a' M.length cap'] 32)) := ⟨hr.below b1, hr'.below b1, b1, b1.size⟩
  have hX := box_old (box2_new w (.string kd) (.slice a L.length cap) 32) (by simp) (.cells #[.string kd', .slice a' M.length cap'] 32)
  have hY := box2_new (w.alloc (.cells #[.string kd, .slice a L.length cap] 32)) (.string kd') (.slice a' M.length cap') 32
  simp only [World.size_alloc] at hX hY
  have S1 : ((w.alloc (.cells #[.string kd, .slice a L.length cap] 32)).alloc (.cells #[.string kd', .slice a' M.length cap'] 32)).cell? ⟨w.heap.size, 0, none⟩ = some (.string kd) ∧ ((w.alloc (.cells #[.string kd, .slice a L.length cap] 32)).alloc (.cells #[.string kd', .slice a' M.length cap'] 32)).cell? ⟨w.heap.size, 1, none⟩ = some (.slice a L.length cap) ∧ ((w.alloc (.cells #[.string kd, .slice a L.length cap] 32)).alloc (.cells #[.string kd', .slice a' M.length cap'] 32)).cell? ⟨w.heap.size + 1, 0, none⟩ = some (.string kd') ∧ ((w.alloc (.cells #[.string kd, .slice a L.length cap] 32)).alloc (.cells #[.string kd', .slice a' M.length cap'] 32)).cell? ⟨w.heap.size + 1, 1, none⟩ = some (.slice a' M.length cap') ∧ Two w w.heap.size a a' L M ((w.alloc (.cells #[.string kd, .slice a L.length cap] 32)).alloc (.cells #[.string kd', .slice a' M.length cap'] 32)) := by
    obtain ⟨x0, x1, -, -⟩ := box2_cell hX
    obtain ⟨y0, y1, -, -⟩ := box2_cell hY
    exact ⟨x0, x1, y0, y1, T1⟩
  clear hX hY b0 b1 T1 hr hr'
  go_enter Try.func5, Try.ntmps5
  go_wp2_with fail
  generalize (w.alloc (.cells #[.string kd, .slice a L.length cap] 32)).alloc (.cells #[.string kd', .slice a' M.length cap'] 32) = w1 at S1 ⊢
  refine (szFact_any kd a cap L 1048576 _ hkd (rdA S1) hs hm (by omega) (by omega)).mono ?_
  rintro e w2 ⟨⟨r, rfl, hr1⟩, hb2⟩
  have S2 := keepF hb2 S1
  clear hb2 S1
  rcases hr1 with rfl | ⟨hr2, hr3⟩
  · go_wp2
    go_ret
    exact ⟨rfl, S2.2.2.2.2.2.2.1⟩
  have hn : L.length ≤ 1048576 := by unfold szL at hr3; omega
  have hrm : r ≤ 1048576 := by omega
  clear hr3
  obtain ⟨x0, x1, y0, y1, -⟩ := id S2
  go_wp2_with fail
  refine (szFact_any kd' a' cap' M r _ hkd' (rdB S2) hs' hm' hr2 hrm).mono ?_
  rintro e w3 ⟨⟨r', rfl, hr1'⟩, hb3⟩
  have S3 := keepF hb3 S2
  clear hb3 S2 x0 x1 y0 y1
  rcases hr1' with rfl | ⟨hr2', hr3'⟩
  · go_wp2
    go_ret
    exact ⟨rfl, S3.2.2.2.2.2.2.1⟩
  have hn' : M.length ≤ 1048576 := by unfold szL at hr3'; omega
  clear hr3' hr2 hrm
  obtain ⟨x0, x1, y0, y1, T3⟩ := id S3
  clear S3
  go_wp2_with fail
  go_region_held3 (fun W => W.cell? ⟨w.heap.size, 0, none⟩ = some (.string kd) ∧ W.cell? ⟨w.heap.size, 1, none⟩ = some (.slice a L.length cap) ∧ W.cell? ⟨w.heap.size + 1, 0, none⟩ = some (.string kd') ∧ W.cell? ⟨w.heap.size + 1, 1, none⟩ = some (.slice a' M.length cap') ∧ Two w w.heap.size a a' L M W) (first | exact ⟨x0, x1, y0, y1, T3.drew⟩ | exact keepF (by assumption) (by assumption))
    (first | (go_at_call_of 13 kd; refine (toFact_any kd a cap L _ (rdA (by assumption)) hn).mono ?_; rintro e w4 ⟨g4, rfl, hg4, o4, hb4⟩) | (go_at_call_of 13 kd'; refine (toFact_any kd' a' cap' M _ (rdB (by assumption)) hn').mono ?_; rintro e w5 ⟨g5, rfl, hg5, o5, hb5⟩) | (go_at_call 16; refine (specSameFact_any kd kd' _ _ _ _ L M _ (o4.later hb5).rd o5.rd (by omega) (by omega)).mono ?_; rintro e w6 ⟨rfl, hb6⟩))
  have S6 : w6.cell? ⟨w.heap.size, 0, none⟩ = some (.string kd) ∧ w6.cell? ⟨w.heap.size, 1, none⟩ = some (.slice a L.length cap) ∧ w6.cell? ⟨w.heap.size + 1, 0, none⟩ = some (.string kd') ∧ w6.cell? ⟨w.heap.size + 1, 1, none⟩ = some (.slice a' M.length cap') ∧ Two w w.heap.size a a' L M w6 := by assumption
  clear o4 o5 hb4 hb5 hb6 hg4 hg5 x0 x1 y0 y1 T3
  obtain ⟨x0, x1, y0, y1, -⟩ := id S6
  go_wp2_with fail
  refine (toFact_any kd a cap L _ (rdA S6) hn).mono ?_
  rintro e w7 ⟨g7, rfl, hg7, o7, hb7⟩
  have S7 := keepF hb7 S6
  clear hb7 S6 x0 x1 y0 y1
  have S8 := keepF (below_al w7 (.cells #[.string kd, .slice (some ⟨g7, 0, none⟩) L.length L.length] 26)) S7
  have o8 := o7.later (below_al w7 (.cells #[.string kd, .slice (some ⟨g7, 0, none⟩) L.length L.length] 26))
  have HX8 := hide (box2_new w7 (.string kd) (.slice (some ⟨g7, 0, none⟩) L.length L.length) 26)
  obtain ⟨x0, x1, y0, y1, -⟩ := id S8
  go_wp2_with fail
  refine (toFact_any kd' a' cap' M _ (rdB S8) hn').mono ?_
  rintro e w9 ⟨g9, rfl, hg9, o9, hb9⟩
  have S9 := keepF hb9 S8
  have HX9 := hide (box_step HX8.out hb9)
  have p9 := o8.later hb9
  clear hb9 S8 HX8 o8 o7 S7 x0 x1 y0 y1
  have S10 := keepF (below_al w9 (.cells #[.string kd', .slice (some ⟨g9, 0, none⟩) M.length M.length] 26)) S9
  have o10 := o9.later (below_al w9 (.cells #[.string kd', .slice (some ⟨g9, 0, none⟩) M.length M.length] 26))
  have p10 := p9.later (below_al w9 (.cells #[.string kd', .slice (some ⟨g9, 0, none⟩) M.length M.length] 26))
  have HX10 := hide (box_step HX9.out (below_al w9 (.cells #[.string kd', .slice (some ⟨g9, 0, none⟩) M.length M.length] 26)))
  have HY10 := hide (box2_new w9 (.string kd') (.slice (some ⟨g9, 0, none⟩) M.length M.length) 26)
  clear S9 o9 p9 HX9
  obtain ⟨u0, u1, -, -⟩ := box2_cell HX10.out
  obtain ⟨t0, t1, -, -⟩ := box2_cell HY10.out
  go_wp2_with fail
  refine (implSameFact_any kd kd' _ _ _ _ L M _ p10.rd o10.rd (by omega) (by omega) (.inr ⟨_, _, rfl, Nat.le_refl _, by unfold maxLen; omega⟩) (.inr ⟨_, _, rfl, Nat.le_refl _, by unfold maxLen; omega⟩)).mono ?_
  rintro e w11 ⟨rfl, hb11⟩
  have S11 := keepF hb11 S10
  have HX11 := hide (box_step HX10.out hb11)
  have HY11 := hide (box_step HY10.out hb11)
  have p11 := p10.later hb11
  have o11 := o10.later hb11
  clear hb11 S10 HX10 HY10 p10 o10 u0 u1 t0 t1
  generalize sameF kd L kd' M = bb
  have hbb : (bb != bb) = false := by simp
  obtain ⟨x0, x1, y0, y1, T11⟩ := id S11
  obtain ⟨u0, u1, -, -⟩ := box2_cell HX11.out
  obtain ⟨t0, t1, -, -⟩ := box2_cell HY11.out
  clear S11 HX11 HY11
  obtain ⟨X, HXq⟩ : ∃ X, Hid (w7.heap.size = X) := ⟨_, rfl⟩
  obtain ⟨Y, HYq⟩ : ∃ Y, Hid (w9.heap.size = Y) := ⟨_, rfl⟩
  rw [HXq.out] at u0 u1 ⊢
  rw [HYq.out] at t0 t1 ⊢
  have E11 : Eight w w.heap.size a a' (some ⟨g7, 0, none⟩) (some ⟨g9, 0, none⟩) L M w11 := ⟨T11, p11.rd, o11.rd⟩
  clear T11 p11 o11 HXq HYq
  go_wp2_with fail
  go_region_held3 (fun W => W.cell? ⟨w.heap.size, 0, none⟩ = some (.string kd) ∧ W.cell? ⟨w.heap.size, 1, none⟩ = some (.slice a L.length cap) ∧ W.cell? ⟨w.heap.size + 1, 0, none⟩ = some (.string kd') ∧ W.cell? ⟨w.heap.size + 1, 1, none⟩ = some (.slice a' M.length cap') ∧ W.cell? ⟨X, 0, none⟩ = some (.string kd) ∧ W.cell? ⟨X, 1, none⟩ = some (.slice (some ⟨g7, 0, none⟩) L.length L.length) ∧ W.cell? ⟨Y, 0, none⟩ = some (.string kd') ∧ W.cell? ⟨Y, 1, none⟩ = some (.slice (some ⟨g9, 0, none⟩) M.length M.length) ∧ Eight w w.heap.size a a' (some ⟨g7, 0, none⟩) (some ⟨g9, 0, none⟩) L M W) (first | exact ⟨x0, x1, y0, y1, u0, u1, t0, t1, E11.drew⟩ | exact keep9 (by assumption) (by assumption))
    (first | (go_at_call 13; refine (toFact_any _ _ _ _ _ (rdE1 (by assumption)) hn).mono ?_; rintro e w12 ⟨g12, rfl, hg12, o12, hb12⟩) | (go_at_call 15; refine (eqFact_same _ _ _ _ _ _ _ (rdE3 (by assumption)) o12.rd (by omega)).mono ?_; rintro e w13 ⟨rfl, hb13⟩))
  have S13 : w13.cell? ⟨w.heap.size, 0, none⟩ = some (.string kd) ∧ w13.cell? ⟨w.heap.size, 1, none⟩ = some (.slice a L.length cap) ∧ w13.cell? ⟨w.heap.size + 1, 0, none⟩ = some (.string kd') ∧ w13.cell? ⟨w.heap.size + 1, 1, none⟩ = some (.slice a' M.length cap') ∧ w13.cell? ⟨X, 0, none⟩ = some (.string kd) ∧ w13.cell? ⟨X, 1, none⟩ = some (.slice (some ⟨g7, 0, none⟩) L.length L.length) ∧ w13.cell? ⟨Y, 0, none⟩ = some (.string kd') ∧ w13.cell? ⟨Y, 1, none⟩ = some (.slice (some ⟨g9, 0, none⟩) M.length M.length) ∧ Eight w w.heap.size a a' (some ⟨g7, 0, none⟩) (some ⟨g9, 0, none⟩) L M w13 := by assumption
  clear x0 x1 y0 y1 u0 u1 t0 t1 E11 o12 hb12 hb13 hg12
  obtain ⟨x0, x1, y0, y1, u0, u1, t0, t1, E13⟩ := id S13
  clear S13
  go_wp2_with fail
  go_region_held3 (fun W => W.cell? ⟨w.heap.size, 0, none⟩ = some (.string kd) ∧ W.cell? ⟨w.heap.size, 1, none⟩ = some (.slice a L.length cap) ∧ W.cell? ⟨w.heap.size + 1, 0, none⟩ = some (.string kd') ∧ W.cell? ⟨w.heap.size + 1, 1, none⟩ = some (.slice a' M.length cap') ∧ W.cell? ⟨X, 0, none⟩ = some (.string kd) ∧ W.cell? ⟨X, 1, none⟩ = some (.slice (some ⟨g7, 0, none⟩) L.length L.length) ∧ W.cell? ⟨Y, 0, none⟩ = some (.string kd') ∧ W.cell? ⟨Y, 1, none⟩ = some (.slice (some ⟨g9, 0, none⟩) M.length M.length) ∧ Eight w w.heap.size a a' (some ⟨g7, 0, none⟩) (some ⟨g9, 0, none⟩) L M W) (first | exact ⟨x0, x1, y0, y1, u0, u1, t0, t1, E13.drew⟩ | exact keep9 (by assumption) (by assumption))
    (first | (go_at_call 13; refine (toFact_any _ _ _ _ _ (rdE2 (by assumption)) hn').mono ?_; rintro e w14 ⟨g14, rfl, hg14, o14, hb14⟩) | (go_at_call 15; refine (eqFact_same _ _ _ _ _ _ _ (rdE4 (by assumption)) o14.rd (by omega)).mono ?_; rintro e w15 ⟨rfl, hb15⟩))
  obtain ⟨-, -, -, -, -, -, -, -, E15⟩ : w15.cell? ⟨w.heap.size, 0, none⟩ = some (.string kd) ∧ w15.cell? ⟨w.heap.size, 1, none⟩ = some (.slice a L.length cap) ∧ w15.cell? ⟨w.heap.size + 1, 0, none⟩ = some (.string kd') ∧ w15.cell? ⟨w.heap.size + 1, 1, none⟩ = some (.slice a' M.length cap') ∧ w15.cell? ⟨X, 0, none⟩ = some (.string kd) ∧ w15.cell? ⟨X, 1, none⟩ = some (.slice (some ⟨g7, 0, none⟩) L.length L.length) ∧ w15.cell? ⟨Y, 0, none⟩ = some (.string kd') ∧ w15.cell? ⟨Y, 1, none⟩ = some (.slice (some ⟨g9, 0, none⟩) M.length M.length) ∧ Eight w w.heap.size a a' (some ⟨g7, 0, none⟩) (some ⟨g9, 0, none⟩) L M w15 := by assumption
  go_wp2
  go_ret
  exact ⟨rfl, E15.1.2.2.1⟩

theorem own : ownKnob Try.prog.godebug = none := by kernel_rfl
theorem laidOut : laidOutB Try.prog = true := by kernel_rfl

set_option maxRecDepth 100000 in
theorem lifted (os : Os) (started : os.Started) (H : Type) (enc : TypeId × Value → H) :
    ReturnsInHanded {} Try.checked os 5 .any (Rows.fnExactSameFactSpec.pre6 enc Try.prog Try.f5 Rows.fnExactSameFactRow.domain false) (Rows.fnExactSameFactSpec.post enc Try.prog Try.f5 false true false false) := by
  refine returnsInHanded_of_change (C := Try.checked) own started (by kernel_rfl) Try.func5
    (ChangeSpec.witness6 (enc := enc) (C := Try.checked) false ⟨#[], #[.agg #[.string ByteArray.empty, .slice none 0 0], .agg #[.string ByteArray.empty, .slice none 0 0]], []⟩ 8 (by kernel_rfl) (by kernel_rfl) (by kernel_rfl) (by kernel_rfl)) ?_
  intro W base args ds gs before hval0 hW hcnd _
  have hval : ∀ (j : Nat) t v, Try.f5.params[j]? = some t → args[j]? = some v → Value.okWide Try.prog W .any base t v := hval0
  have hW' := hW
  obtain ⟨p, q, hA0, hV, rfl, hfz, hnd⟩ := hW
  have hA : DataW.TrodAll enc Try.prog W 0 (fun _ => true) true Try.f5.params.toList args.toList ds p := hA0
  rw [Try.params5] at hA hval
  obtain ⟨v0, vs0, d0, ds0, p0, q0, hargs, rfl, rfl, h0, r0⟩ := trodAll_cons hA
  obtain ⟨v1, vs1, d1, ds1, p1, q1, rfl, rfl, rfl, h1, r1⟩ := trodAll_cons r0
  obtain ⟨rfl, rfl, rfl⟩ := trodAll_nil r1
  obtain rfl : args = #[v0, v1] := by cases args; simp_all
  obtain ⟨rfl, rfl⟩ := trodVars_none hV
  have k0 := h0
  have lt0 : ∀ x ∈ p0, x.block < W.heap.size := by obtain ⟨m, hm⟩ := k0; exact DataW.trod_lt m _ _ _ hm
  obtain ⟨c0a, c0b, y0a, y0b, m0, rfl, _, _, hy0a, hy0b⟩ := open_agg2 Try.underlying32 (by kernel_rfl) (by kernel_rfl) (hval 0 32 v0 rfl rfl) h0
  obtain ⟨S0, eS0, _, wS0⟩ := DataW.trod_string Try.underlying9 hy0a
  simp only [List.cons.injEq, and_true] at eS0
  subst eS0
  obtain ⟨a0, len0, cap0, L0, rfl, w0⟩ := vals_in hy0b
  have k1 := h1
  have lt1 : ∀ x ∈ p1, x.block < W.heap.size := by obtain ⟨m, hm⟩ := k1; exact DataW.trod_lt m _ _ _ hm
  obtain ⟨c1a, c1b, y1a, y1b, m1, rfl, _, _, hy1a, hy1b⟩ := open_agg2 Try.underlying32 (by kernel_rfl) (by kernel_rfl) (hval 1 32 v1 rfl rfl) h1
  obtain ⟨S1, eS1, _, wS1⟩ := DataW.trod_string Try.underlying9 hy1a
  simp only [List.cons.injEq, and_true] at eS1
  subst eS1
  obtain ⟨a1, len1, cap1, L1, rfl, w1⟩ := vals_in hy1b
  clear hA0 hval0
  refine (walk S0 a0 len0 cap0 L0 S1 a1 len1 cap1 L1 W wS0 w0 wS1 w1).mono fun e W' ⟨he, bel⟩ => ?_
  subst he
  exact ⟨_, rfl, _, _, _, [], _, [], hW', trodAll_mk1 (shut_bool Try.underlying4 _), (trodAll_cons_mk (Below.trod laidOut (by kernel_rfl) (of_decide_eq_true (by kernel_rfl)) k0 bel lt0) (trodAll_cons_mk (Below.trod laidOut (by kernel_rfl) (of_decide_eq_true (by kernel_rfl)) k1 bel lt1) trodAll_mk0)), rfl, bel.frame _, fun h => by cases h⟩

theorem over : Rows.fnExactSameFactRow.holds Try.pinned (OpenSpec.ofChange Rows.fnExactSameFactSpec) :=
  OpenClaim.holds_of_wide 5 Try.f5 rfl rfl rfl rfl rfl rfl rfl ⟨rfl, rfl, rfl, rfl, rfl⟩ rfl rfl rfl rfl rfl (by kernel_rfl) Try.func5 (by kernel_rfl)
    (of_decide_eq_true (by kernel_rfl)) (by unfold Func.isWrapper; first | (rw [if_pos (by decide +kernel)]; kernel_rfl) | (rw [if_neg (by decide +kernel)]; exact ⟨rfl, rfl⟩))
    (fun os started H enc _ => lifted os started H enc)
end Go.Proofs.Ytddcmifebhdgfaa.ExSameF
namespace Go.Proofs.Ytddcmifebhdgfaa
theorem fnExactSameFact_holds : Rows.FnExactSameFactSaid := ExSameF.over
#print axioms fnExactSameFact_holds
end Go.Proofs.Ytddcmifebhdgfaa
