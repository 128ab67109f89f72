/-
  The contracts of the laws' own helpers on Conds: to copies, sz counts off, eq finds one the same as itself.
-/
import Derived.Test.YtfgigcdfmkfkjaaJoined2
import Derived.Test.YtfgigcdfmkfkjaaJoined4
import Derived.Handy
import Derived.Deep.DeepCutAuto
namespace Go.Proofs.Ytfgigcdfmkfkjaa
open Go.RowKit
set_option linter.unusedVariables false

theorem Try.info162 : (Try.prog.info? 162).map (fun i => (i.zero, i.size, i.bytes)) = some (some (.agg #[.int .i64 0, .int .i64 0, .string ⟨#[]⟩, .int .i64 0, .int .i64 0, .string ⟨#[]⟩, .int .i64 0, .string ⟨#[]⟩, .int .i64 0, .int .i64 0, .string ⟨#[]⟩]), 11, 120) := by kernel_rfl

set_option maxRecDepth 100000 in
set_option maxHeartbeats 3200000 in
theorem toCond_any (Op : Int) (LK : Int) (LS : ByteArray) (LVK : Int) (LVN : Int) (LVS : ByteArray) (RK : Int) (RS : ByteArray) (RVK : Int) (RVN : Int) (RVS : ByteArray) (w : World) :
    Calls Try.prog 95 #[.agg #[.int .i64 Op, .int .i64 LK, .string LS, .int .i64 LVK, .int .i64 LVN, .string LVS, .int .i64 RK, .string RS, .int .i64 RVK, .int .i64 RVN, .string RVS]] w fun e w' => e = .returned (.agg #[.int .i64 Op, .int .i64 LK, .string LS, .int .i64 LVK, .int .i64 LVN, .string LVS, .int .i64 RK, .string RS, .int .i64 RVK, .int .i64 RVN, .string RVS]) ∧ Below w.heap.size w w' := by
  go_enter Try.func95, Try.ntmps95
  go_wp2_with fail
  obtain ⟨hA, hR, hX, b2⟩ := boxes3 w #[.int .i64 Op, .int .i64 LK, .string LS, .int .i64 LVK, .int .i64 LVN, .string LVS, .int .i64 RK, .string RS, .int .i64 RVK, .int .i64 RVN, .string RVS] #[.int .i64 0, .int .i64 0, .string ⟨#[]⟩, .int .i64 0, .int .i64 0, .string ⟨#[]⟩, .int .i64 0, .string ⟨#[]⟩, .int .i64 0, .int .i64 0, .string ⟨#[]⟩] #[.int .i64 Op, .int .i64 0, .string ⟨#[]⟩, .int .i64 0, .int .i64 0, .string ⟨#[]⟩, .int .i64 0, .string ⟨#[]⟩, .int .i64 0, .int .i64 0, .string ⟨#[]⟩] 144 162 162
  refine (toArg_any LK LS LVK LVN LVS _).mono ?_
  rintro e w1 ⟨rfl, hb⟩
  have HA := hide (box_below hA hb (by simp; omega))
  have HR := hide (box_below hR hb (by simp))
  have HX := hide (box_below hX hb (by simp))
  have hB : Below w.heap.size w w1 := b2.trans (hb.mono b2.size)
  clear hb hR hX hA b2
  have x0 := boxk_cell HX.out 0 _ rfl
  have xf0 := boxk_frozen HX.out 0
  have x1 := boxk_cell HX.out 1 _ rfl
  have xf1 := boxk_frozen HX.out 1
  have x2 := boxk_cell HX.out 2 _ rfl
  have xf2 := boxk_frozen HX.out 2
  have x3 := boxk_cell HX.out 3 _ rfl
  have xf3 := boxk_frozen HX.out 3
  have x4 := boxk_cell HX.out 4 _ rfl
  have xf4 := boxk_frozen HX.out 4
  have x5 := boxk_cell HX.out 5 _ rfl
  have xf5 := boxk_frozen HX.out 5
  have x6 := boxk_cell HX.out 6 _ rfl
  have xf6 := boxk_frozen HX.out 6
  have x7 := boxk_cell HX.out 7 _ rfl
  have xf7 := boxk_frozen HX.out 7
  have x8 := boxk_cell HX.out 8 _ rfl
  have xf8 := boxk_frozen HX.out 8
  have x9 := boxk_cell HX.out 9 _ rfl
  have xf9 := boxk_frozen HX.out 9
  have x10 := boxk_cell HX.out 10 _ rfl
  have xf10 := boxk_frozen HX.out 10
  have a6 := boxk_cell HA.out 6 _ rfl
  have a7 := boxk_cell HA.out 7 _ rfl
  have a8 := boxk_cell HA.out 8 _ rfl
  have a9 := boxk_cell HA.out 9 _ rfl
  have a10 := boxk_cell HA.out 10 _ rfl
  have HL := hide (box11_setL HX.out (.int .i64 LK) (.string LS) (.int .i64 LVK) (.int .i64 LVN) (.string LVS))
  have HRs := hide (box_gr HR.out HL.out.2 (by omega))
  have HBs := hide (below_set hB HL.out.2 (by omega))
  have HXs := hide HL.out.1
  go_wp2_with fail
  refine (toArg_any RK RS RVK RVN RVS _).mono ?_
  clear x0 xf0 x1 xf1 x2 xf2 x3 xf3 x4 xf4 x5 xf5 x6 xf6 x7 xf7 x8 xf8 x9 xf9 x10 xf10 a6 a7 a8 a9 a10 HX HR HA hB HL
  generalize (((((w1.setCell ⟨w.heap.size + 1 + 1, 1, none⟩ (.int .i64 LK)).setCell ⟨w.heap.size + 1 + 1, 2, none⟩ (.string LS)).setCell ⟨w.heap.size + 1 + 1, 3, none⟩ (.int .i64 LVK)).setCell ⟨w.heap.size + 1 + 1, 4, none⟩ (.int .i64 LVN)).setCell ⟨w.heap.size + 1 + 1, 5, none⟩ (.string LVS)) = w2 at HRs HBs HXs
  rintro e w3 ⟨rfl, hb⟩
  have HR3 := hide (box_step HRs.out hb)
  have HX3 := hide (box_step HXs.out hb)
  have hB3 : Below w.heap.size w w3 := HBs.out.trans (hb.mono HBs.out.size)
  clear hb HRs HBs HXs
  have x0 := boxk_cell HX3.out 0 _ rfl
  have xf0 := boxk_frozen HX3.out 0
  have x1 := boxk_cell HX3.out 1 _ rfl
  have xf1 := boxk_frozen HX3.out 1
  have x2 := boxk_cell HX3.out 2 _ rfl
  have xf2 := boxk_frozen HX3.out 2
  have x3 := boxk_cell HX3.out 3 _ rfl
  have xf3 := boxk_frozen HX3.out 3
  have x4 := boxk_cell HX3.out 4 _ rfl
  have xf4 := boxk_frozen HX3.out 4
  have x5 := boxk_cell HX3.out 5 _ rfl
  have xf5 := boxk_frozen HX3.out 5
  have x6 := boxk_cell HX3.out 6 _ rfl
  have xf6 := boxk_frozen HX3.out 6
  have x7 := boxk_cell HX3.out 7 _ rfl
  have xf7 := boxk_frozen HX3.out 7
  have x8 := boxk_cell HX3.out 8 _ rfl
  have xf8 := boxk_frozen HX3.out 8
  have x9 := boxk_cell HX3.out 9 _ rfl
  have xf9 := boxk_frozen HX3.out 9
  have x10 := boxk_cell HX3.out 10 _ rfl
  have xf10 := boxk_frozen HX3.out 10
  have HX6 := hide (box11_setR HX3.out (.int .i64 RK) (.string RS) (.int .i64 RVK) (.int .i64 RVN) (.string RVS))
  have HR4 := hide (box_gr HR3.out HX6.out.2 (by omega))
  have HB4 := hide (below_set hB3 HX6.out.2 (by omega))
  have HX7 := hide HX6.out.1
  go_upto_region 5 with fail
  clear x0 xf0 x1 xf1 x2 xf2 x3 xf3 x4 xf4 x5 xf5 x6 xf6 x7 xf7 x8 xf8 x9 xf9 x10 xf10 HX6 HX3 HR3 hB3
  generalize (((((w3.setCell ⟨w.heap.size + 1 + 1, 6, none⟩ (.int .i64 RK)).setCell ⟨w.heap.size + 1 + 1, 7, none⟩ (.string RS)).setCell ⟨w.heap.size + 1 + 1, 8, none⟩ (.int .i64 RVK)).setCell ⟨w.heap.size + 1 + 1, 9, none⟩ (.int .i64 RVN)).setCell ⟨w.heap.size + 1 + 1, 10, none⟩ (.string RVS)) = w5 at HR4 HB4 HX7
  have x0 := boxk_cell HX7.out 0 _ rfl
  have r0 := boxk_cell HR4.out 0 _ rfl
  have rf0 := boxk_frozen HR4.out 0
  have x1 := boxk_cell HX7.out 1 _ rfl
  have r1 := boxk_cell HR4.out 1 _ rfl
  have rf1 := boxk_frozen HR4.out 1
  have x2 := boxk_cell HX7.out 2 _ rfl
  have r2 := boxk_cell HR4.out 2 _ rfl
  have rf2 := boxk_frozen HR4.out 2
  have x3 := boxk_cell HX7.out 3 _ rfl
  have r3 := boxk_cell HR4.out 3 _ rfl
  have rf3 := boxk_frozen HR4.out 3
  have x4 := boxk_cell HX7.out 4 _ rfl
  have r4 := boxk_cell HR4.out 4 _ rfl
  have rf4 := boxk_frozen HR4.out 4
  have x5 := boxk_cell HX7.out 5 _ rfl
  have r5 := boxk_cell HR4.out 5 _ rfl
  have rf5 := boxk_frozen HR4.out 5
  have x6 := boxk_cell HX7.out 6 _ rfl
  have r6 := boxk_cell HR4.out 6 _ rfl
  have rf6 := boxk_frozen HR4.out 6
  have x7 := boxk_cell HX7.out 7 _ rfl
  have r7 := boxk_cell HR4.out 7 _ rfl
  have rf7 := boxk_frozen HR4.out 7
  have x8 := boxk_cell HX7.out 8 _ rfl
  have r8 := boxk_cell HR4.out 8 _ rfl
  have rf8 := boxk_frozen HR4.out 8
  have x9 := boxk_cell HX7.out 9 _ rfl
  have r9 := boxk_cell HR4.out 9 _ rfl
  have rf9 := boxk_frozen HR4.out 9
  have x10 := boxk_cell HX7.out 10 _ rfl
  have r10 := boxk_cell HR4.out 10 _ rfl
  have rf10 := boxk_frozen HR4.out 10
  go_wp2
  refine box11_post HR4.out (fun w4 h4 gr => ?_)
  clear x0 r0 rf0 x1 r1 rf1 x2 r2 rf2 x3 r3 rf3 x4 r4 rf4 x5 r5 rf5 x6 r6 rf6 x7 r7 rf7 x8 r8 rf8 x9 r9 rf9 x10 r10 rf10
  have c0 := boxk_cell h4 0 _ rfl
  have c1 := boxk_cell h4 1 _ rfl
  have c2 := boxk_cell h4 2 _ rfl
  have c3 := boxk_cell h4 3 _ rfl
  have c4 := boxk_cell h4 4 _ rfl
  have c5 := boxk_cell h4 5 _ rfl
  have c6 := boxk_cell h4 6 _ rfl
  have c7 := boxk_cell h4 7 _ rfl
  have c8 := boxk_cell h4 8 _ rfl
  have c9 := boxk_cell h4 9 _ rfl
  have c10 := boxk_cell h4 10 _ rfl
  exact bodyPost_ret (v := .agg #[.int .i64 Op, .int .i64 LK, .string LS, .int .i64 LVK, .int .i64 LVN, .string LVS, .int .i64 RK, .string RS, .int .i64 RVK, .int .i64 RVN, .string RVS]) (by simp [results, Try.results95, go_sem, c0, c1, c2, c3, c4, c5, c6, c7, c8, c9, c10]) rfl ⟨rfl, below_set HB4.out gr (by omega)⟩

set_option maxRecDepth 100000 in
set_option maxHeartbeats 1600000 in
theorem szCond_any (Op : Int) (LK : Int) (LS : ByteArray) (LVK : Int) (LVN : Int) (LVS : ByteArray) (RK : Int) (RS : ByteArray) (RVK : Int) (RVN : Int) (RVS : ByteArray) (left : Int) (w : World) (s0 : LS.size ≤ maxLen) (s1 : LVS.size ≤ maxLen) (s2 : RS.size ≤ maxLen) (s3 : RVS.size ≤ maxLen) (h0 : 0 ≤ left) (h1 : left ≤ 1048576) :
    Calls Try.prog 89 #[.agg #[.int .i64 Op, .int .i64 LK, .string LS, .int .i64 LVK, .int .i64 LVN, .string LVS, .int .i64 RK, .string RS, .int .i64 RVK, .int .i64 RVN, .string RVS], .int .i64 left] w fun e w' =>
      (∃ r, e = .returned (.int .i64 r) ∧ (r = -1 ∨ (0 ≤ r ∧ r + (LS.size : Int) + (LVS.size : Int) + (RS.size : Int) + (RVS.size : Int) ≤ left))) ∧ Below w.heap.size w w' := by
  go_enter Try.func89, Try.ntmps89
  go_wp2_with fail
  have b0 := below_al w (.cells #[.int .i64 Op, .int .i64 LK, .string LS, .int .i64 LVK, .int .i64 LVN, .string LVS, .int .i64 RK, .string RS, .int .i64 RVK, .int .i64 RVN, .string RVS] 144)
  have hA := boxk_new w #[.int .i64 Op, .int .i64 LK, .string LS, .int .i64 LVK, .int .i64 LVN, .string LVS, .int .i64 RK, .string RS, .int .i64 RVK, .int .i64 RVN, .string RVS] 144
  refine (szArg_any LK LS LVK LVN LVS left _ s0 s1 h0 h1).mono ?_
  rintro e w1 ⟨⟨r, rfl, hr⟩, hb1⟩
  have HA1 := hide (box_below hA hb1 (by simp))
  have hB1 : Below w.heap.size w w1 := b0.trans (hb1.mono b0.size)
  clear hb1 b0 hA
  rcases hr with rfl | ⟨h2, h3⟩
  · go_wp2
    go_ret
    exact ⟨⟨-1, rfl, .inl rfl⟩, hB1⟩
  · have H3 := hide h3
    have h4 : r ≤ 1048576 := by omega
    clear h3
    have a6 := boxk_cell HA1.out 6 _ rfl
    have a7 := boxk_cell HA1.out 7 _ rfl
    have a8 := boxk_cell HA1.out 8 _ rfl
    have a9 := boxk_cell HA1.out 9 _ rfl
    have a10 := boxk_cell HA1.out 10 _ rfl
    go_wp2_with fail
    refine (szArg_any RK RS RVK RVN RVS r _ s2 s3 h2 h4).mono ?_
    rintro e w2 ⟨⟨r2, rfl, hr2⟩, hb2⟩
    have hB2 : Below w.heap.size w w2 := hB1.trans (hb2.mono hB1.size)
    clear hb2 hB1 HA1 a6 a7 a8 a9 a10
    rcases hr2 with rfl | ⟨h5, h6⟩
    · go_wp2
      go_ret
      exact ⟨⟨-1, rfl, .inl rfl⟩, hB2⟩
    · have H6 := hide h6
      clear h6
      go_wp2
      go_ret
      have := H3.out
      have := H6.out
      exact ⟨⟨_, rfl, .inr ⟨h5, by omega⟩⟩, hB2⟩

set_option maxRecDepth 100000 in
set_option maxHeartbeats 1600000 in
theorem eqCond_same (Op : Int) (LK : Int) (LS : ByteArray) (LVK : Int) (LVN : Int) (LVS : ByteArray) (RK : Int) (RS : ByteArray) (RVK : Int) (RVN : Int) (RVS : ByteArray) (w : World) :
    Calls Try.prog 105 #[.agg #[.int .i64 Op, .int .i64 LK, .string LS, .int .i64 LVK, .int .i64 LVN, .string LVS, .int .i64 RK, .string RS, .int .i64 RVK, .int .i64 RVN, .string RVS], .agg #[.int .i64 Op, .int .i64 LK, .string LS, .int .i64 LVK, .int .i64 LVN, .string LVS, .int .i64 RK, .string RS, .int .i64 RVK, .int .i64 RVN, .string RVS]] w fun e w' => e = .returned (.bool true) ∧ Below w.heap.size w w' := by
  have kO : (Op != Op) = false := by simp
  go_enter Try.func105, Try.ntmps105
  go_wp2_with fail
  obtain ⟨hA, hD, b1⟩ := boxes2 w #[.int .i64 Op, .int .i64 LK, .string LS, .int .i64 LVK, .int .i64 LVN, .string LVS, .int .i64 RK, .string RS, .int .i64 RVK, .int .i64 RVN, .string RVS] #[.int .i64 Op, .int .i64 LK, .string LS, .int .i64 LVK, .int .i64 LVN, .string LVS, .int .i64 RK, .string RS, .int .i64 RVK, .int .i64 RVN, .string RVS] 162 162
  refine (eqArg_same LK LS LVK LVN LVS _).mono ?_
  rintro e w1 ⟨rfl, hb⟩
  have HA := hide (box_below hA hb (by simp; omega))
  have HD := hide (box_below hD hb (by simp))
  have hB : Below w.heap.size w w1 := b1.trans (hb.mono b1.size)
  clear hb hA hD b1
  have a6 := boxk_cell HA.out 6 _ rfl
  have d6 := boxk_cell HD.out 6 _ rfl
  have a7 := boxk_cell HA.out 7 _ rfl
  have d7 := boxk_cell HD.out 7 _ rfl
  have a8 := boxk_cell HA.out 8 _ rfl
  have d8 := boxk_cell HD.out 8 _ rfl
  have a9 := boxk_cell HA.out 9 _ rfl
  have d9 := boxk_cell HD.out 9 _ rfl
  have a10 := boxk_cell HA.out 10 _ rfl
  have d10 := boxk_cell HD.out 10 _ rfl
  go_wp2_with fail
  refine (eqArg_same RK RS RVK RVN RVS _).mono ?_
  rintro e w2 ⟨rfl, hb⟩
  have hB2 : Below w.heap.size w w2 := hB.trans (hb.mono hB.size)
  go_wp2
  go_ret
  exact ⟨rfl, hB2⟩
end Go.Proofs.Ytfgigcdfmkfkjaa
