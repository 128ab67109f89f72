/-
  What both CondOks answer: condB.
-/
import Derived.Test.YtlaoiagpoomldabDoorArgOk
import Derived.Test.YtlaoiagpoomldabDoorCondRow
import Derived.Test.YtlaoiagpoomldabDoorSign
namespace Go.Proofs.YtlaoiagpoomldabDoor
open Go.RowKit
set_option linter.unusedVariables false

/-- an argument that may have a value -/
def mayB (K : Int) (S : ByteArray) (V : V3) : Bool := argB K S V && !decide (K = 3)
/-- when a condition is right -/
def condB (Op : Int) (L R : A5) : Bool := inB Op 1 3 && (mayB L.K L.S L.V && mayB R.K R.S R.V)

set_option maxRecDepth 100000 in
set_option maxHeartbeats 800000 in
theorem mayHaveVal_any (K : Int) (S : ByteArray) (VK VN : Int) (VS : ByteArray) (w : World) (hs : S.size ≤ maxLen) (hv : VS.size ≤ maxLen) :
    Calls Tryd.prog 91 #[.agg #[.int .i64 K, .string S, .int .i64 VK, .int .i64 VN, .string VS]] w fun e w' => e = .returned (.bool (mayB K S ⟨VK, VN, VS⟩)) ∧ Below w.heap.size w w' := by
  have hX := boxk_new w #[.int .i64 K, .string S, .int .i64 VK, .int .i64 VN, .string VS] 32
  have b0 := below_al w (.cells #[.int .i64 K, .string S, .int .i64 VK, .int .i64 VN, .string VS] 32)
  go_enter Tryd.func91, Tryd.ntmps91
  go_wp2_with fail
  refine (implArgOk_any K S VK VN VS _ hs hv).mono ?_
  rintro e w1 ⟨rfl, hb⟩
  have HX := hide (box_below hX hb (by simp))
  have hB : Below w.heap.size w w1 := b0.trans (hb.mono b0.size)
  clear hb hX b0
  have c0 := boxk_cell HX.out 0 _ rfl
  have hM : mayB K S ⟨VK, VN, VS⟩ = (argB K S ⟨VK, VN, VS⟩ && !decide (K = 3)) := rfl
  have HM := hide hM
  clear hM
  generalize argB K S ⟨VK, VN, VS⟩ = bb at HM
  cases bb
  · go_wp2
    go_ret
    exact ⟨by rw [HM.out]; rfl, hB⟩
  · by_cases h3 : K = 3
    · subst h3
      go_wp2
      go_ret
      exact ⟨by rw [HM.out]; rfl, hB⟩
    · have HD : Hid (decide (K = 3) = false) := by unfold Hid; simpa using h3
      have k3 : (K != 3) = true := by simpa using h3
      go_wp2
      go_ret
      exact ⟨by rw [HM.out, HD.out]; rfl, hB⟩

set_option maxRecDepth 100000 in
set_option maxHeartbeats 800000 in
theorem implCondOk_any (Op : Int) (L R : A5) (w : World) (hl : L.fits) (hr : R.fits) :
    Calls Tryd.prog 44 #[.agg #[.int .i64 Op, .int .i64 L.K, .string L.S, .int .i64 L.V.K, .int .i64 L.V.N, .string L.V.S, .int .i64 R.K, .string R.S, .int .i64 R.V.K, .int .i64 R.V.N, .string R.V.S]] w fun e w' => e = .returned (.bool (condB Op L R)) ∧ Below w.heap.size w w' := by
  obtain ⟨LK, LS, LVK, LVN, LVS⟩ := L
  obtain ⟨RK, RS, RVK, RVN, RVS⟩ := R
  obtain ⟨l1, l2⟩ := hl
  obtain ⟨r1, r2⟩ := hr
  have HC : Hid (condB Op ⟨LK, LS, ⟨LVK, LVN, LVS⟩⟩ ⟨RK, RS, ⟨RVK, RVN, RVS⟩⟩ = (inB Op 1 3 && (mayB LK LS ⟨LVK, LVN, LVS⟩ && mayB RK RS ⟨RVK, RVN, RVS⟩))) := by unfold Hid; rfl
  have hX := boxk_new w #[.int .i64 Op, .int .i64 LK, .string LS, .int .i64 LVK, .int .i64 LVN, .string LVS, .int .i64 RK, .string RS, .int .i64 RVK, .int .i64 RVN, .string RVS] 34
  have b0 := below_al w (.cells #[.int .i64 Op, .int .i64 LK, .string LS, .int .i64 LVK, .int .i64 LVN, .string LVS, .int .i64 RK, .string RS, .int .i64 RVK, .int .i64 RVN, .string RVS] 34)
  go_enter Tryd.func44, Tryd.ntmps44
  go_wp2_with fail
  refine (signOf_any Op _).mono ?_
  rintro e w1 ⟨rfl, hb⟩
  have HX := hide (box_below hX hb (by simp))
  have hB : Below w.heap.size w w1 := b0.trans (hb.mono b0.size)
  clear hb hX b0
  by_cases hb : inB Op 1 3 = true
  · obtain ⟨fn, hf⟩ := signF_yes hb
    rw [hf, hb]
    rw [hb] at HC
    clear hf hb
    generalize signT Op = st
    have HX1 := hide (box_old HX.out (Array.getElem?_eq_some_iff.1 HX.out).1 (.cells #[.string st, .func (.func fn) #[] #[]] 82))
    have hB1 := hB.alloc hB.size (.cells #[.string st, .func (.func fn) #[] #[]] 82)
    have hlt := (Array.getElem?_eq_some_iff.1 HX.out).1
    have x1 := boxk_cell HX.out 1 _ rfl
    have x2 := boxk_cell HX.out 2 _ rfl
    have x3 := boxk_cell HX.out 3 _ rfl
    have x4 := boxk_cell HX.out 4 _ rfl
    have x5 := boxk_cell HX.out 5 _ rfl
    clear HX hB
    go_wp2_with fail
    refine (mayHaveVal_any LK LS LVK LVN LVS _ l1 l2).mono ?_
    rintro e w2 ⟨rfl, hb2⟩
    have HX2 := hide (box_step HX1.out hb2)
    have hB2 : Below w.heap.size w w2 := hB1.trans (hb2.mono hB1.size)
    clear hb2 HX1 hB1 x1 x2 x3 x4 x5 hlt
    generalize mayB LK LS ⟨LVK, LVN, LVS⟩ = bb at HC
    cases bb
    · go_wp2
      go_ret
      exact ⟨by rw [HC.out]; rfl, hB2⟩
    · have y1 := boxk_cell HX2.out 6 _ rfl
      have y2 := boxk_cell HX2.out 7 _ rfl
      have y3 := boxk_cell HX2.out 8 _ rfl
      have y4 := boxk_cell HX2.out 9 _ rfl
      have y5 := boxk_cell HX2.out 10 _ rfl
      go_wp2_with fail
      refine (mayHaveVal_any RK RS RVK RVN RVS _ r1 r2).mono ?_
      rintro e w3 ⟨rfl, hb3⟩
      have hB3 : Below w.heap.size w w3 := hB2.trans (hb3.mono hB2.size)
      clear hb3 HX2 hB2 y1 y2 y3 y4 y5
      generalize mayB RK RS ⟨RVK, RVN, RVS⟩ = bb at HC
      go_wp2
      go_ret
      exact ⟨by rw [HC.out]; rfl, hB3⟩
  · simp only [Bool.not_eq_true] at hb
    rw [signF_no hb, hb]
    rw [hb] at HC
    clear hb
    generalize signT Op = st
    have hB1 := hB.alloc hB.size (.cells #[.string st, .nilFunc] 82)
    clear HX hB
    go_wp2
    go_ret
    exact ⟨by rw [HC.out]; rfl, hB1⟩

set_option maxRecDepth 100000 in
set_option maxHeartbeats 1600000 in
theorem specCondOk_any (Op : Int) (L R : A5) (w : World) (hl : L.fits) (hr : R.fits) :
    Calls Tryd.prog 41 #[.agg #[.int .i64 Op, .int .i64 L.K, .string L.S, .int .i64 L.V.K, .int .i64 L.V.N, .string L.V.S, .int .i64 R.K, .string R.S, .int .i64 R.V.K, .int .i64 R.V.N, .string R.V.S]] w fun e w' => e = .returned (.bool (condB Op L R)) ∧ Below w.heap.size w w' := by
  obtain ⟨LK, LS, LVK, LVN, LVS⟩ := L
  obtain ⟨RK, RS, RVK, RVN, RVS⟩ := R
  obtain ⟨l1, l2⟩ := hl
  obtain ⟨r1, r2⟩ := hr
  have HC : Hid (condB Op ⟨LK, LS, ⟨LVK, LVN, LVS⟩⟩ ⟨RK, RS, ⟨RVK, RVN, RVS⟩⟩ = (inB Op 1 3 && ((argB LK LS ⟨LVK, LVN, LVS⟩ && !decide (LK = 3)) && (argB RK RS ⟨RVK, RVN, RVS⟩ && !decide (RK = 3))))) := by unfold Hid; rfl
  have hX := boxk_new w #[.int .i64 Op, .int .i64 LK, .string LS, .int .i64 LVK, .int .i64 LVN, .string LVS, .int .i64 RK, .string RS, .int .i64 RVK, .int .i64 RVN, .string RVS] 34
  have b0 := below_al w (.cells #[.int .i64 Op, .int .i64 LK, .string LS, .int .i64 LVK, .int .i64 LVN, .string LVS, .int .i64 RK, .string RS, .int .i64 RVK, .int .i64 RVN, .string RVS] 34)
  go_enter Tryd.func41, Tryd.ntmps41
  go_wp2_with fail
  refine (l1In_any _ _ _ _).mono ?_
  rintro e w1 ⟨rfl, rfl⟩
  generalize w.alloc (.cells #[.int .i64 Op, .int .i64 LK, .string LS, .int .i64 LVK, .int .i64 LVN, .string LVS, .int .i64 RK, .string RS, .int .i64 RVK, .int .i64 RVN, .string RVS] 34) = w1 at hX b0
  have HX := hide hX
  clear hX
  generalize inB Op 1 3 = bb at HC
  cases bb
  · go_wp2
    go_ret
    exact ⟨by rw [HC.out]; rfl, b0⟩
  · have x1 := boxk_cell HX.out 1 _ rfl
    have x2 := boxk_cell HX.out 2 _ rfl
    have x3 := boxk_cell HX.out 3 _ rfl
    have x4 := boxk_cell HX.out 4 _ rfl
    have x5 := boxk_cell HX.out 5 _ rfl
    go_wp2_with fail
    refine (specArgOk_any LK LS LVK LVN LVS _ l1 l2).mono ?_
    rintro e w2 ⟨rfl, hb2⟩
    have HX2 := hide (box_step HX.out hb2)
    have hB2 : Below w.heap.size w w2 := b0.trans (hb2.mono b0.size)
    clear hb2 HX b0 x1 x2 x3 x4 x5
    generalize argB LK LS ⟨LVK, LVN, LVS⟩ = bb at HC
    cases bb
    · go_wp2
      go_ret
      exact ⟨by rw [HC.out]; rfl, hB2⟩
    · have y1 := boxk_cell HX2.out 6 _ rfl
      have y2 := boxk_cell HX2.out 7 _ rfl
      have y3 := boxk_cell HX2.out 8 _ rfl
      have y4 := boxk_cell HX2.out 9 _ rfl
      have y5 := boxk_cell HX2.out 10 _ rfl
      go_wp2_with fail
      refine (specArgOk_any RK RS RVK RVN RVS _ r1 r2).mono ?_
      rintro e w3 ⟨rfl, hb3⟩
      have HX3 := hide (box_step HX2.out hb3)
      have hB3 : Below w.heap.size w w3 := hB2.trans (hb3.mono hB2.size)
      clear hb3 HX2 hB2 y1 y2 y3 y4 y5
      generalize argB RK RS ⟨RVK, RVN, RVS⟩ = bb at HC
      have z1 := boxk_cell HX3.out 1 _ rfl
      have z6 := boxk_cell HX3.out 6 _ rfl
      cases bb
      · have HC2 : Hid (condB Op ⟨LK, LS, ⟨LVK, LVN, LVS⟩⟩ ⟨RK, RS, ⟨RVK, RVN, RVS⟩⟩ = false) := by unfold Hid; rw [HC.out]; simp
        clear HC
        go_wp2
        go_ret
        exact ⟨by rw [HC2.out]; rfl, hB3⟩
      · by_cases k1 : LK = 3
        · subst k1
          have HC2 : Hid (condB Op ⟨3, LS, ⟨LVK, LVN, LVS⟩⟩ ⟨RK, RS, ⟨RVK, RVN, RVS⟩⟩ = false) := by unfold Hid; rw [HC.out]; simp
          clear HC
          go_wp2
          go_ret
          exact ⟨by rw [HC2.out]; rfl, hB3⟩
        · by_cases k2 : RK = 3
          · subst k2
            have HC2 : Hid (condB Op ⟨LK, LS, ⟨LVK, LVN, LVS⟩⟩ ⟨3, RS, ⟨RVK, RVN, RVS⟩⟩ = false) := by unfold Hid; rw [HC.out]; simp
            clear HC
            have j1 : (LK != 3) = true := by simpa using k1
            go_wp2
            go_ret
            exact ⟨by rw [HC2.out]; rfl, hB3⟩
          · have HC2 : Hid (condB Op ⟨LK, LS, ⟨LVK, LVN, LVS⟩⟩ ⟨RK, RS, ⟨RVK, RVN, RVS⟩⟩ = true) := by unfold Hid; rw [HC.out]; simp [k1, k2]
            clear HC
            have j1 : (LK != 3) = true := by simpa using k1
            have j2 : (RK != 3) = true := by simpa using k2
            go_wp2
            go_ret
            exact ⟨by rw [HC2.out]; rfl, hB3⟩
end Go.Proofs.YtlaoiagpoomldabDoor
