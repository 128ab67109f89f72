/-
  What the model's Compute answers: compO.
-/
import Derived.Test.YtbellpalomiokabJoined1
import Derived.Test.YtbellpalomiokabJSubS
import Derived.Test.YtbellpalomiokabJoined2
namespace Go.Proofs.Ytbellpalomiokab
open Go.RowKit
set_option linter.unusedVariables false

set_option maxRecDepth 100000 in
set_option maxHeartbeats 3200000 in
theorem specCompute_any (x : X11) (a : Option Addr) (cap : Nat) (B : List B4) (w : World) (hx : x.small) (hr : RdBind w a B) (hs : ∀ y ∈ B, y.small) (hm : B.length ≤ 2097152) :
    Calls Try.prog 25 #[.agg #[.string x.Op, .int .i64 x.L.K, .string x.L.S, .int .i64 x.L.V.K, .int .i64 x.L.V.N, .string x.L.V.S, .int .i64 x.R.K, .string x.R.S, .int .i64 x.R.V.K, .int .i64 x.R.V.N, .string x.R.V.S], .slice a B.length cap] w fun e w' => e = .returned (bindA (compO x B)) ∧ Below w.heap.size w w' := by
  obtain ⟨Op, ⟨LK, LS, LVK, LVN, LVS⟩, ⟨RK, RS, RVK, RVN, RVS⟩⟩ := x
  obtain ⟨s0, ⟨l1, l2⟩, r1, r2⟩ := hx
  simp only at s0 l1 l2 r1 r2
  have HA := hide (argV_small (K := LK) (S := LS) (V := ⟨LVK, LVN, LVS⟩) l2 hs)
  have HB := hide (argV_small (K := RK) (S := RS) (V := ⟨RVK, RVN, RVS⟩) r2 hs)
  obtain ⟨hX, hR, b1⟩ := boxes2 w #[.string Op, .int .i64 LK, .string LS, .int .i64 LVK, .int .i64 LVN, .string LVS, .int .i64 RK, .string RS, .int .i64 RVK, .int .i64 RVN, .string RVS] #[.int .i64 0, .int .i64 0, .string ⟨#[]⟩] 57 45
  have rr := hr.below b1
  have HC : Hid (compO ⟨Op, ⟨LK, LS, ⟨LVK, LVN, LVS⟩⟩, ⟨RK, RS, ⟨RVK, RVN, RVS⟩⟩⟩ B = compV Op (argV LK LS ⟨LVK, LVN, LVS⟩ B) (argV RK RS ⟨RVK, RVN, RVS⟩ B)) := rfl
  clear hs hr
  go_enter Try.func25, Try.ntmps25
  go_wp2_with fail
  refine (specArgVal_any LK LS LVK LVN LVS a cap B _ rr hm).mono ?_
  rintro e w1 ⟨rfl, hb⟩
  have HX1 := hide (box_step hX hb)
  have HR1 := hide (box_step hR hb)
  have hB1 : Below w.heap.size w w1 := b1.trans (hb.mono b1.size)
  have rr1 := rr.below hb
  have z1 : w.heap.size + 1 < w1.heap.size := (Array.getElem?_eq_some_iff.1 HR1.out).1
  have z0 : w.heap.size < w1.heap.size := by omega
  clear hb hX hR b1 rr
  rw [bindA_oz]
  generalize argV LK LS ⟨LVK, LVN, LVS⟩ B = o at HC HA ⊢
  have HO := hide (show o = none ∨ o = some (oz o) by cases o <;> simp [oz])
  have HI := hide (show o = none ∧ o.isSome = false ∨ o = some (oz o) ∧ o.isSome = true by cases o <;> simp [oz])
  obtain ⟨⟨K, N, S⟩, hv⟩ : ∃ v, v = oz o := ⟨_, rfl⟩
  rw [← hv] at HA HI ⊢
  generalize o.isSome = bb at HI ⊢
  clear hv HO
  simp only at HA ⊢
  have y0 := boxk_cell HX1.out 0 _ rfl
  have y1 := boxk_cell HX1.out 6 _ rfl
  have y2 := boxk_cell HX1.out 7 _ rfl
  have y3 := boxk_cell HX1.out 8 _ rfl
  have y4 := boxk_cell HX1.out 9 _ rfl
  have y5 := boxk_cell HX1.out 10 _ rfl
  have BL := below_al w1 (.cells #[.int .i64 K, .int .i64 N, .string S] 45)
  have HX2 := hide (box_step HX1.out BL)
  have HR2 := hide (box_step HR1.out BL)
  have HL2 := hide (box_new w1 (.int .i64 K) (.int .i64 N) (.string S) 45)
  have hB2 := hB1.trans (BL.mono hB1.size)
  have rr2 := rr1.below BL
  clear BL rr1
  go_wp2_with fail
  refine (specArgVal_any RK RS RVK RVN RVS a cap B _ rr2 hm).mono ?_
  rintro e w3 ⟨rfl, hb⟩
  have HX3 := hide (box_step HX2.out hb)
  have HR3 := hide (box_step HR2.out hb)
  have HL3 := hide (box_step HL2.out hb)
  have hB3 : Below w.heap.size w w3 := hB2.trans (hb.mono hB2.size)
  have z3 : w1.heap.size < w3.heap.size := (Array.getElem?_eq_some_iff.1 HL3.out).1
  have z4 : w.heap.size < w3.heap.size := by omega
  have z5 : w.heap.size + 1 < w3.heap.size := by omega
  clear hb HX1 HR1 HX2 HR2 HL2 rr2 y0 y1 y2 y3 y4 y5 hB1 hB2
  rw [bindA_oz]
  generalize argV RK RS ⟨RVK, RVN, RVS⟩ B = p at HC HB ⊢
  have HJ := hide (show p = none ∧ p.isSome = false ∨ p = some (oz p) ∧ p.isSome = true by cases p <;> simp [oz])
  obtain ⟨⟨K', N', S'⟩, hu⟩ : ∃ u, u = oz p := ⟨_, rfl⟩
  rw [← hu] at HB HJ ⊢
  generalize p.isSome = bb' at HJ ⊢
  clear hu
  simp only at HB ⊢
  have y0 := boxk_cell HX3.out 0 _ rfl
  obtain ⟨t0, t1, t2, -, -, -⟩ := box_cell HL3.out
  obtain ⟨c0, c1, c2, f0, f1, f2⟩ := box_cell HR3.out
  have BL := below_al w3 (.cells #[.int .i64 K', .int .i64 N', .string S'] 45)
  have HR4 := hide (box_step HR3.out BL)
  have hB4 := hB3.trans (BL.mono hB3.size)
  clear BL HX3 HL3
  rcases HI.out with ⟨ho, rfl⟩ | ⟨ho, rfl⟩
  · have HC2 : Hid (compO ⟨Op, ⟨LK, LS, ⟨LVK, LVN, LVS⟩⟩, ⟨RK, RS, ⟨RVK, RVN, RVS⟩⟩⟩ B = none) := by unfold Hid; rw [HC.out, ho]; rfl
    clear HC ho HI HJ HA HB
    go_wp2
    refine box_post_al HR3.out (fun w6 h6 gr => ?_)
    obtain ⟨d0, d1, d2, -, -, -⟩ := box_cell h6
    exact bodyPost_ret (v := .tuple #[.agg #[.int .i64 0, .int .i64 0, .string ⟨#[]⟩], .bool false]) (by simp [results, Try.results25, go_sem, d0, d1, d2]) rfl ⟨by rw [HC2.out]; rfl, below_set hB3 gr (by omega)⟩
  · rw [ho] at HC
    clear ho HI
    by_cases h0 : Op.size = 0
    · obtain rfl := empty_of_size h0
      rw [compV0] at HC
      clear HJ HA HB
      go_wp2
      refine box_post_al HR3.out (fun w6 h6 gr => ?_)
      obtain ⟨d0, d1, d2, -, -, -⟩ := box_cell h6
      exact bodyPost_ret (v := .tuple #[.agg #[.int .i64 K, .int .i64 N, .string S], .bool true]) (by simp [results, Try.results25, go_sem, d0, d1, d2]) rfl ⟨by rw [HC.out]; rfl, below_set hB3 gr (by omega)⟩
    · have k0 := isEmpty_false h0
      rcases HJ.out with ⟨hp, rfl⟩ | ⟨hp, rfl⟩
      · have HC2 : Hid (compO ⟨Op, ⟨LK, LS, ⟨LVK, LVN, LVS⟩⟩, ⟨RK, RS, ⟨RVK, RVN, RVS⟩⟩⟩ B = none) := by
          unfold Hid; rw [HC.out, hp]
          show (if Op.size = 0 then some (⟨K, N, S⟩ : V3) else none) = none
          rw [if_neg h0]
        clear HC hp HJ HA HB h0
        go_wp2
        refine box_post_al HR3.out (fun w6 h6 gr => ?_)
        obtain ⟨d0, d1, d2, -, -, -⟩ := box_cell h6
        exact bodyPost_ret (v := .tuple #[.agg #[.int .i64 0, .int .i64 0, .string ⟨#[]⟩], .bool false]) (by simp [results, Try.results25, go_sem, d0, d1, d2]) rfl ⟨by rw [HC2.out]; rfl, below_set hB3 gr (by omega)⟩
      · rw [hp] at HC
        clear hp HJ
        rcases op_cases Op with rfl | rfl | rfl | ⟨e0, e1, e2, n0, n1, n2⟩
        · exact absurd rfl h0
        · rw [compV1] at HC
          clear k0 h0
          go_wp2_with fail
          refine (specAddVals_any K N S K' N' S' _ (by have := HA.out; unfold maxLen; omega) (by have := HB.out; unfold maxLen; omega)).mono ?_
          rintro e w5 ⟨rfl, hb⟩
          have HR5 := hide (box_step HR4.out hb)
          have hB5 : Below w.heap.size w w5 := hB4.trans (hb.mono hB4.size)
          clear hb HR4 hB4 c0 c1 c2 f0 f1 f2 t0 t1 t2 y0
          rw [show sumV K N S K' N' S' (numN K N S + numN K' N' S') = bindA (addO ⟨K, N, S⟩ ⟨K', N', S'⟩) from sumO_bind ⟨K, N, S⟩ ⟨K', N', S'⟩ _]
          change Hid (_ = addO ⟨K, N, S⟩ ⟨K', N', S'⟩) at HC
          generalize addO ⟨K, N, S⟩ ⟨K', N', S'⟩ = q at HC ⊢
          have HQ := hide (bindA_oz q)
          rw [bindA_oz]
          generalize (oz q).K = K2 at HQ ⊢
          generalize (oz q).N = N2 at HQ ⊢
          generalize (oz q).S = S2 at HQ ⊢
          generalize q.isSome = b2 at HQ ⊢
          obtain ⟨c0, c1, c2, f0, f1, f2⟩ := box_cell HR5.out
          go_wp2
          refine box_post HR5.out (fun w6 h6 gr => ?_)
          obtain ⟨d0, d1, d2, -, -, -⟩ := box_cell h6
          exact bodyPost_ret (v := .tuple #[.agg #[.int .i64 K2, .int .i64 N2, .string S2], .bool b2]) (by simp [results, Try.results25, go_sem, d0, d1, d2]) rfl ⟨by rw [HC.out, HQ.out], below_set hB5 gr (by omega)⟩
        · rw [compV2] at HC
          clear k0 h0
          go_wp2_with fail
          refine (specSubVals_any K N S K' N' S' _ (by have := HA.out; unfold maxLen; omega) (by have := HB.out; unfold maxLen; omega)).mono ?_
          rintro e w5 ⟨rfl, hb⟩
          have HR5 := hide (box_step HR4.out hb)
          have hB5 : Below w.heap.size w w5 := hB4.trans (hb.mono hB4.size)
          clear hb HR4 hB4 c0 c1 c2 f0 f1 f2 t0 t1 t2 y0
          rw [show sumV K N S K' N' S' (numN K N S - numN K' N' S') = bindA (subO ⟨K, N, S⟩ ⟨K', N', S'⟩) from sumO_bind ⟨K, N, S⟩ ⟨K', N', S'⟩ _]
          change Hid (_ = subO ⟨K, N, S⟩ ⟨K', N', S'⟩) at HC
          generalize subO ⟨K, N, S⟩ ⟨K', N', S'⟩ = q at HC ⊢
          have HQ := hide (bindA_oz q)
          rw [bindA_oz]
          generalize (oz q).K = K2 at HQ ⊢
          generalize (oz q).N = N2 at HQ ⊢
          generalize (oz q).S = S2 at HQ ⊢
          generalize q.isSome = b2 at HQ ⊢
          obtain ⟨c0, c1, c2, f0, f1, f2⟩ := box_cell HR5.out
          go_wp2
          refine box_post HR5.out (fun w6 h6 gr => ?_)
          obtain ⟨d0, d1, d2, -, -, -⟩ := box_cell h6
          exact bodyPost_ret (v := .tuple #[.agg #[.int .i64 K2, .int .i64 N2, .string S2], .bool b2]) (by simp [results, Try.results25, go_sem, d0, d1, d2]) rfl ⟨by rw [HC.out, HQ.out], below_set hB5 gr (by omega)⟩
        · rw [compV_no _ _ n0 n1 n2] at HC
          clear n0 n1 n2 e0 h0 HA HB
          go_wp2
          refine box_post_al HR3.out (fun w6 h6 gr => ?_)
          obtain ⟨d0, d1, d2, -, -, -⟩ := box_cell h6
          exact bodyPost_ret (v := .tuple #[.agg #[.int .i64 0, .int .i64 0, .string ⟨#[]⟩], .bool false]) (by simp [results, Try.results25, go_sem, d0, d1, d2]) rfl ⟨by rw [HC.out]; rfl, below_set hB3 gr (by omega)⟩
end Go.Proofs.Ytbellpalomiokab
