/-
  What the model's Holds answers: holdsO.
-/
import Derived.Test.YtlaoiagpoomldaaArgVal
import Derived.Test.YtlaoiagpoomldaaCondRow
import Derived.Test.YtlaoiagpoomldaaLess
import Derived.Test.YtlaoiagpoomldaaVEq
import Derived.Test.YtlaoiagpoomldaaHoldsP
import Derived.Deep.DeepCutAuto
namespace Go.Proofs.Ytlaoiagpoomldaa
open Go.RowKit
set_option linter.unusedVariables false

set_option maxRecDepth 100000 in
set_option maxHeartbeats 1600000 in
theorem specHolds_any (Op : Int) (L R : A5) (a : Option Addr) (cap : Nat) (M : List B4) (w : World) (hb : RdBind w a M) (hm : M.length ≤ 2097152) :
    Calls Try.prog 20 #[.agg #[.int .i64 Op, .int .i64 L.K, .string L.S, .int .i64 L.V.K, .int .i64 L.V.N, .string L.V.S, .int .i64 R.K, .string R.S, .int .i64 R.V.K, .int .i64 R.V.N, .string R.V.S], .slice a M.length cap] w fun e w' => e = .returned (.bool (holdsO Op (argV L.K L.S L.V M) (argV R.K R.S R.V M))) ∧ Below w.heap.size w w' := by
  obtain ⟨LK, LS, LVK, LVN, LVS⟩ := L
  obtain ⟨RK, RS, RVK, RVN, RVS⟩ := R
  have hX := boxk_new w #[.int .i64 Op, .int .i64 LK, .string LS, .int .i64 LVK, .int .i64 LVN, .string LVS, .int .i64 RK, .string RS, .int .i64 RVK, .int .i64 RVN, .string RVS] 34
  have b0 := below_al w (.cells #[.int .i64 Op, .int .i64 LK, .string LS, .int .i64 LVK, .int .i64 LVN, .string LVS, .int .i64 RK, .string RS, .int .i64 RVK, .int .i64 RVN, .string RVS] 34)
  have m0 := hb.below b0
  clear hb
  show Calls _ _ _ _ fun e w' => e = .returned (.bool (holdsO Op (argV LK LS ⟨LVK, LVN, LVS⟩ M) (argV RK RS ⟨RVK, RVN, RVS⟩ M))) ∧ Below w.heap.size w w'
  obtain ⟨ov, hov⟩ : ∃ ov, ov = argV LK LS ⟨LVK, LVN, LVS⟩ M := ⟨_, rfl⟩
  obtain ⟨ou, hou⟩ : ∃ ou, ou = argV RK RS ⟨RVK, RVN, RVS⟩ M := ⟨_, rfl⟩
  rw [← hov, ← hou]
  have HOv := hide hov
  have HOu := hide hou
  clear hov hou
  go_enter Try.func20, Try.ntmps20
  go_wp2_with fail
  refine (specArgVal_any LK LS LVK LVN LVS _ _ M _ m0 hm).mono ?_
  rintro e w1 ⟨rfl, hb1⟩
  have HX := hide (box_below hX hb1 (by simp))
  have m1 := m0.below hb1
  have hB1 : Below w.heap.size w w1 := b0.trans (hb1.mono b0.size)
  clear hb1 hX b0 m0
  obtain ⟨v, bb, e1, H1⟩ := bindA_two ov
  rw [← HOv.out, e1]
  have HH1 := hide H1
  clear e1 H1
  have HX1 := hide (box_old HX.out (Array.getElem?_eq_some_iff.1 HX.out).1 (.cells #[.int .i64 v.K, .int .i64 v.N, .string v.S] 30))
  have HV1 := hide (boxk_new w1 #[.int .i64 v.K, .int .i64 v.N, .string v.S] 30)
  have m2 := m1.below (below_al w1 (.cells #[.int .i64 v.K, .int .i64 v.N, .string v.S] 30))
  have hB2 := hB1.alloc hB1.size (.cells #[.int .i64 v.K, .int .i64 v.N, .string v.S] 30)
  have hlt := (Array.getElem?_eq_some_iff.1 HX.out).1
  have c6 := boxk_cell HX.out 6 _ rfl
  have c7 := boxk_cell HX.out 7 _ rfl
  have c8 := boxk_cell HX.out 8 _ rfl
  have c9 := boxk_cell HX.out 9 _ rfl
  have c10 := boxk_cell HX.out 10 _ rfl
  clear HX hB1 m1
  go_wp2_with fail
  refine (specArgVal_any RK RS RVK RVN RVS _ _ M _ m2 hm).mono ?_
  rintro e w2 ⟨rfl, hb2⟩
  have HX2 := hide (box_step HX1.out hb2)
  have HV2 := hide (box_step HV1.out hb2)
  have hB3 : Below w.heap.size w w2 := hB2.trans (hb2.mono hB2.size)
  clear hb2 HX1 HV1 hB2 m2 c6 c7 c8 c9 c10 hlt
  obtain ⟨u, bc, e2, H2⟩ := bindA_two ou
  rw [← HOu.out, e2]
  have HH2 := hide H2
  clear e2 H2 HOv HOu
  have l2x := (Array.getElem?_eq_some_iff.1 HX2.out).1
  have l2v := (Array.getElem?_eq_some_iff.1 HV2.out).1
  have hB4 := hB3.alloc hB3.size (.cells #[.int .i64 u.K, .int .i64 u.N, .string u.S] 30)
  have c0 := boxk_cell HX2.out 0 _ rfl
  have p0 := boxk_cell HV2.out 0 _ rfl
  have p1 := boxk_cell HV2.out 1 _ rfl
  have p2 := boxk_cell HV2.out 2 _ rfl
  clear HX2 HV2 hB3
  rcases HH1.out with ⟨rfl, rfl⟩ | ⟨rfl, rfl⟩
  · rcases HH2.out with ⟨rfl, rfl⟩ | ⟨rfl, rfl⟩
    · have HO : Hid (holdsO Op (some v) (some u) = holdB Op v u) := by unfold Hid; rfl
      clear HH1 HH2
      by_cases h1 : Op = 1
      · subst h1
        rcases v3_cases v u with he | ⟨hne, hv⟩
        · subst he
          have k1 : (v.K == v.K) = true := by simp
          have k2 : (v.N == v.N) = true := by simp
          have k3 : (v.S.toList == v.S.toList) = true := by simp
          have HQ : Hid (holdB 1 v v = true) := by unfold Hid; rw [holdB1]; simp
          go_wp2
          go_ret
          exact ⟨by rw [HO.out, HQ.out]; rfl, hB4⟩
        · have HQ : Hid (holdB 1 v u = false) := by unfold Hid; rw [holdB1, decide_eq_false hne]
          clear hne
          rcases hv with k1 | ⟨k1, k2⟩ | ⟨k1, k2, k3⟩
          all_goals
            go_wp2
            go_ret
            exact ⟨by rw [HO.out, HQ.out]; rfl, hB4⟩
      · have j1 : (Op == 1) = false := by simpa using h1
        by_cases h2 : Op = 2
        · subst h2
          rcases v3_cases v u with he | ⟨hne, hv⟩
          · subst he
            have k1 : (v.K == v.K) = true := by simp
            have k2 : (v.N == v.N) = true := by simp
            have k3 : (v.S.toList == v.S.toList) = true := by simp
            have HQ : Hid (holdB 2 v v = false) := by unfold Hid; rw [holdB2]; simp
            go_wp2
            go_ret
            exact ⟨by rw [HO.out, HQ.out]; rfl, hB4⟩
          · have HQ : Hid (holdB 2 v u = true) := by unfold Hid; rw [holdB2, decide_eq_false hne]; rfl
            clear hne
            rcases hv with k1 | ⟨k1, k2⟩ | ⟨k1, k2, k3⟩
            all_goals
              go_wp2
              go_ret
              exact ⟨by rw [HO.out, HQ.out]; rfl, hB4⟩
        · have j2 : (Op == 2) = false := by simpa using h2
          by_cases h3 : Op = 3
          · subst h3
            have HQ : Hid (holdB 3 v u = lessB v.K v.N v.S u.K u.N u.S) := by unfold Hid; exact holdB3 _ _
            clear h1 h2 j1 j2
            go_wp2_with fail
            refine (specLessVal_any v.K v.N v.S u.K u.N u.S _).mono ?_
            rintro e w5 ⟨rfl, hb5⟩
            have hB7 : Below w.heap.size w w5 := hB4.trans (hb5.mono hB4.size)
            clear hb5 hB4 p0 p1 p2 c0
            go_wp2
            go_ret
            exact ⟨by rw [HO.out, HQ.out]; rfl, hB7⟩
          · have j3 : (Op == 3) = false := by simpa using h3
            have HQ : Hid (holdB Op v u = false) := by unfold Hid; exact holdB_no _ _ h1 h2 h3
            go_wp2
            go_ret
            exact ⟨by rw [HO.out, HQ.out]; rfl, hB4⟩
    · have HO : Hid (holdsO Op (some v) none = false) := by unfold Hid; rfl
      go_wp2
      go_ret
      exact ⟨by rw [HO.out]; rfl, hB4⟩
  · have HO : Hid (holdsO Op none ou = false) := by unfold Hid; exact holdsO_none _ _
    go_wp2
    go_ret
    exact ⟨by rw [HO.out]; rfl, hB4⟩
end Go.Proofs.Ytlaoiagpoomldaa
