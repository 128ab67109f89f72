/-
  What the tested Holds answers: holdsO.
-/
import Derived.Test.YtlaoiagpoomldaaArgVal
import Derived.Test.YtlaoiagpoomldaaCondRow
import Derived.Test.YtlaoiagpoomldaaSign
import Derived.Test.YtlaoiagpoomldaaLessI
import Derived.Test.YtlaoiagpoomldaaVEq
import Derived.Test.YtlaoiagpoomldaaHoldsP
import Derived.Deep.DeepCutAuto
namespace Go.Proofs.Ytlaoiagpoomldaa
open Go.RowKit
set_option linter.unusedVariables false

set_option maxRecDepth 100000 in
set_option maxHeartbeats 800000 in
theorem sameVal_any (v u : V3) (w : World) :
    Calls Try.prog 48 #[.agg #[.int .i64 v.K, .int .i64 v.N, .string v.S], .agg #[.int .i64 u.K, .int .i64 u.N, .string u.S]] w fun e w' => e = .returned (.bool (decide (v = u))) ∧ Below w.heap.size w w' := by
  rcases v3_cases v u with rfl | ⟨hne, hv⟩
  · have k1 : (v.K == v.K) = true := by simp
    have k2 : (v.N == v.N) = true := by simp
    have k3 : (v.S.toList == v.S.toList) = true := by simp
    rw [decide_eq_true rfl]
    go_enter Try.func48, Try.ntmps48
    go_wp2
    go_ret
    exact ⟨rfl, by go_grown⟩
  · rw [decide_eq_false hne]
    clear hne
    rcases hv with k1 | ⟨k1, k2⟩ | ⟨k1, k2, k3⟩
    all_goals
      go_enter Try.func48, Try.ntmps48
      go_wp2
      go_ret
      exact ⟨rfl, by go_grown⟩
set_option maxRecDepth 100000 in
set_option maxHeartbeats 800000 in
theorem otherVal_any (v u : V3) (w : World) :
    Calls Try.prog 49 #[.agg #[.int .i64 v.K, .int .i64 v.N, .string v.S], .agg #[.int .i64 u.K, .int .i64 u.N, .string u.S]] w fun e w' => e = .returned (.bool (!decide (v = u))) ∧ Below w.heap.size w w' := by
  rcases v3_cases v u with rfl | ⟨hne, hv⟩
  · have k1 : (v.K == v.K) = true := by simp
    have k2 : (v.N == v.N) = true := by simp
    have k3 : (v.S.toList == v.S.toList) = true := by simp
    rw [decide_eq_true rfl]
    go_enter Try.func49, Try.ntmps49
    go_wp2
    go_ret
    exact ⟨rfl, by go_grown⟩
  · rw [decide_eq_false hne]
    clear hne
    rcases hv with k1 | ⟨k1, k2⟩ | ⟨k1, k2, k3⟩
    all_goals
      go_enter Try.func49, Try.ntmps49
      go_wp2
      go_ret
      exact ⟨rfl, by go_grown⟩

set_option maxRecDepth 100000 in
set_option maxHeartbeats 1600000 in
theorem implHolds_any (Op : Int) (L R : A5) (a : Option Addr) (cap : Nat) (M : List B4) (w : World) (hl : L.small) (hr : R.small) (hb : RdBind w a M) (hs : ∀ x ∈ M, x.small) (hm : M.length ≤ 2097152) :
    Calls Try.prog 21 #[.agg #[.int .i64 Op, .int .i64 L.K, .string L.S, .int .i64 L.V.K, .int .i64 L.V.N, .string L.V.S, .int .i64 R.K, .string R.S, .int .i64 R.V.K, .int .i64 R.V.N, .string R.V.S], .slice a M.length cap] w fun e w' => e = .returned (.bool (holdsO Op (argV L.K L.S L.V M) (argV R.K R.S R.V M))) ∧ Below w.heap.size w w' := by
  obtain ⟨LK, LS, LVK, LVN, LVS⟩ := L
  obtain ⟨RK, RS, RVK, RVN, RVS⟩ := R
  obtain ⟨l1, l2⟩ := hl
  obtain ⟨r1, r2⟩ := hr
  have hX := boxk_new w #[.int .i64 Op, .int .i64 LK, .string LS, .int .i64 LVK, .int .i64 LVN, .string LVS, .int .i64 RK, .string RS, .int .i64 RVK, .int .i64 RVN, .string RVS] 34
  have b0 := below_al w (.cells #[.int .i64 Op, .int .i64 LK, .string LS, .int .i64 LVK, .int .i64 LVN, .string LVS, .int .i64 RK, .string RS, .int .i64 RVK, .int .i64 RVN, .string RVS] 34)
  have m0 := hb.below b0
  have HS := hide hs
  clear hs hb
  show Calls _ _ _ _ fun e w' => e = .returned (.bool (holdsO Op (argV LK LS ⟨LVK, LVN, LVS⟩ M) (argV RK RS ⟨RVK, RVN, RVS⟩ M))) ∧ Below w.heap.size w w'
  obtain ⟨ov, hov⟩ : ∃ ov, ov = argV LK LS ⟨LVK, LVN, LVS⟩ M := ⟨_, rfl⟩
  obtain ⟨ou, hou⟩ : ∃ ou, ou = argV RK RS ⟨RVK, RVN, RVS⟩ M := ⟨_, rfl⟩
  rw [← hov, ← hou]
  have HOv := hide hov
  have HOu := hide hou
  clear hov hou
  go_enter Try.func21, Try.ntmps21
  go_wp2_with fail
  refine (implArgVal_any LK LS LVK LVN LVS _ _ M _ l2 m0 HS.out hm).mono ?_
  rintro e w1 ⟨rfl, hb1⟩
  have HX := hide (box_below hX hb1 (by simp))
  have m1 := m0.below hb1
  have hB1 : Below w.heap.size w w1 := b0.trans (hb1.mono b0.size)
  clear hb1 hX b0 m0
  obtain ⟨v, bb, e1, H1⟩ := bindA_two ov
  rw [← HOv.out, e1]
  have HH1 := hide H1
  clear e1 H1
  have HX1 := hide (box_old HX.out (Array.getElem?_eq_some_iff.1 HX.out).1 (.cells #[.int .i64 v.K, .int .i64 v.N, .string v.S] 30))
  have HV1 := hide (boxk_new w1 #[.int .i64 v.K, .int .i64 v.N, .string v.S] 30)
  have m2 := m1.below (below_al w1 (.cells #[.int .i64 v.K, .int .i64 v.N, .string v.S] 30))
  have hB2 := hB1.alloc hB1.size (.cells #[.int .i64 v.K, .int .i64 v.N, .string v.S] 30)
  have hlt := (Array.getElem?_eq_some_iff.1 HX.out).1
  have c6 := boxk_cell HX.out 6 _ rfl
  have c7 := boxk_cell HX.out 7 _ rfl
  have c8 := boxk_cell HX.out 8 _ rfl
  have c9 := boxk_cell HX.out 9 _ rfl
  have c10 := boxk_cell HX.out 10 _ rfl
  clear HX hB1 m1
  go_wp2_with fail
  refine (implArgVal_any RK RS RVK RVN RVS _ _ M _ r2 m2 HS.out hm).mono ?_
  rintro e w2 ⟨rfl, hb2⟩
  have HX2 := hide (box_step HX1.out hb2)
  have HV2 := hide (box_step HV1.out hb2)
  have hB3 : Below w.heap.size w w2 := hB2.trans (hb2.mono hB2.size)
  clear hb2 HX1 HV1 hB2 m2 c6 c7 c8 c9 c10 hlt
  obtain ⟨u, bc, e2, H2⟩ := bindA_two ou
  rw [← HOu.out, e2]
  have HH2 := hide H2
  clear e2 H2
  have l2x := (Array.getElem?_eq_some_iff.1 HX2.out).1
  have l2v := (Array.getElem?_eq_some_iff.1 HV2.out).1
  have HX3 := hide (box_old HX2.out l2x (.cells #[.int .i64 u.K, .int .i64 u.N, .string u.S] 30))
  have HV3 := hide (box_old HV2.out l2v (.cells #[.int .i64 u.K, .int .i64 u.N, .string u.S] 30))
  have HU3 := hide (boxk_new w2 #[.int .i64 u.K, .int .i64 u.N, .string u.S] 30)
  have hB4 := hB3.alloc hB3.size (.cells #[.int .i64 u.K, .int .i64 u.N, .string u.S] 30)
  have c0 := boxk_cell HX2.out 0 _ rfl
  clear HX2 HV2 hB3
  go_wp2_with fail
  refine (signOf_any Op _).mono ?_
  generalize w2.alloc (.cells #[.int .i64 u.K, .int .i64 u.N, .string u.S] 30) = w3 at HX3 HV3 HU3 hB4
  rintro e w4 ⟨rfl, hb4⟩
  have HV4 := hide (box_step HV3.out hb4)
  have HU4 := hide (box_step HU3.out hb4)
  have hB5 : Below w.heap.size w w4 := hB4.trans (hb4.mono hB4.size)
  clear hb4 HX3 HV3 HU3 hB4 c0 l2x l2v
  have l4v := (Array.getElem?_eq_some_iff.1 HV4.out).1
  have l4u := (Array.getElem?_eq_some_iff.1 HU4.out).1
  have p0 := boxk_cell HV4.out 0 _ rfl
  have p1 := boxk_cell HV4.out 1 _ rfl
  have p2 := boxk_cell HV4.out 2 _ rfl
  have q0 := boxk_cell HU4.out 0 _ rfl
  have q1 := boxk_cell HU4.out 1 _ rfl
  have q2 := boxk_cell HU4.out 2 _ rfl
  clear HOv HOu
  by_cases hi : inB Op 1 3 = true
  · obtain ⟨fn, hf⟩ := signF_yes hi
    rcases HH1.out with ⟨rfl, rfl⟩ | ⟨rfl, rfl⟩
    · rcases HH2.out with ⟨rfl, rfl⟩ | ⟨rfl, rfl⟩
      · have HO : Hid (holdsO Op (some v) (some u) = holdB Op v u) := by unfold Hid; rfl
        have hop : Op = 1 ∨ Op = 2 ∨ Op = 3 := by
          simp only [inB, Bool.and_eq_true, decide_eq_true_eq] at hi
          omega
        rcases hop with rfl | rfl | rfl
        · rw [show signF 1 = .func (.func 48) #[] #[] from rfl, show inB 1 1 3 = true from rfl]
          have hB6 := hB5.alloc hB5.size (.cells #[.string (signT 1), .func (.func 48) #[] #[]] 64)
          clear hi hf HV4 HU4 hB5
          go_wp2_with fail
          refine (sameVal_any v u _).mono ?_
          rintro e w5 ⟨rfl, hb5⟩
          have hB7 : Below w.heap.size w w5 := hB6.trans (hb5.mono hB6.size)
          clear hb5 hB6 p0 p1 p2 q0 q1 q2
          go_wp2
          go_ret
          exact ⟨by rw [HO.out, holdB1]; rfl, hB7⟩
        · rw [show signF 2 = .func (.func 49) #[] #[] from rfl, show inB 2 1 3 = true from rfl]
          have hB6 := hB5.alloc hB5.size (.cells #[.string (signT 2), .func (.func 49) #[] #[]] 64)
          clear hi hf HV4 HU4 hB5
          go_wp2_with fail
          refine (otherVal_any v u _).mono ?_
          rintro e w5 ⟨rfl, hb5⟩
          have hB7 : Below w.heap.size w w5 := hB6.trans (hb5.mono hB6.size)
          clear hb5 hB6 p0 p1 p2 q0 q1 q2
          go_wp2
          go_ret
          exact ⟨by rw [HO.out, holdB2]; rfl, hB7⟩
        · rw [show signF 3 = .func (.func 50) #[] #[] from rfl, show inB 3 1 3 = true from rfl]
          have hB6 := hB5.alloc hB5.size (.cells #[.string (signT 3), .func (.func 50) #[] #[]] 64)
          clear hi hf HV4 HU4 hB5
          go_wp2_with fail
          refine (implLessVal_any v.K v.N v.S u.K u.N u.S _).mono ?_
          rintro e w5 ⟨rfl, hb5⟩
          have hB7 : Below w.heap.size w w5 := hB6.trans (hb5.mono hB6.size)
          clear hb5 hB6 p0 p1 p2 q0 q1 q2
          go_wp2
          go_ret
          exact ⟨by rw [HO.out, holdB3]; rfl, hB7⟩
      · have HO : Hid (holdsO Op (some v) none = false) := by unfold Hid; rfl
        rw [hf, hi]
        have hB6 := hB5.alloc hB5.size (.cells #[.string (signT Op), .func (.func fn) #[] #[]] 64)
        clear hi hf HV4 HU4 hB5
        go_wp2
        go_ret
        exact ⟨by rw [HO.out]; rfl, hB6⟩
    · have HO : Hid (holdsO Op none ou = false) := by unfold Hid; exact holdsO_none _ _
      rw [hf, hi]
      have hB6 := hB5.alloc hB5.size (.cells #[.string (signT Op), .func (.func fn) #[] #[]] 64)
      clear hi hf HV4 HU4 hB5
      go_wp2
      go_ret
      exact ⟨by rw [HO.out]; rfl, hB6⟩
  · simp only [Bool.not_eq_true] at hi
    have HO : Hid (holdsO Op ov ou = false) := by
      unfold Hid
      simp only [inB, Bool.and_eq_false_iff, decide_eq_false_iff_not] at hi
      rcases ov with _ | v'
      · exact holdsO_none _ _
      · rcases ou with _ | u'
        · rfl
        · exact holdB_no _ _ (by omega) (by omega) (by omega)
    rw [signF_no hi, hi]
    have hB6 := hB5.alloc hB5.size (.cells #[.string (signT Op), .nilFunc] 64)
    clear hi HV4 HU4 hB5 HH1 HH2
    cases bb
    · go_wp2
      go_ret
      exact ⟨by rw [HO.out]; rfl, hB6⟩
    · cases bc
      · go_wp2
        go_ret
        exact ⟨by rw [HO.out]; rfl, hB6⟩
      · go_wp2
        go_ret
        exact ⟨by rw [HO.out]; rfl, hB6⟩
end Go.Proofs.Ytlaoiagpoomldaa
