/-
  What both ExprOks answer: exprB.
-/
import Derived.Test.YtaflokfgbmlmaacDoorJoined2
namespace Go.Proofs.YtaflokfgbmlmaacDoor
open Go.RowKit
set_option linter.unusedVariables false

/-- an argument that is none at all -/
def noArg (R : A5) : Bool := decide (R.K = 0) && decide (R.S.size = 0) && decide (R.V = zV)
/-- when a term is right -/
def exprB (Op : ByteArray) (L R : A5) : Bool :=
  if Op.size = 0 then mayB L.K L.S L.V && noArg R else if Op = ⟨#[43]⟩ ∨ Op = ⟨#[45]⟩ then mayB L.K L.S L.V && mayB R.K R.S R.V else false
def X11.ok (x : X11) : Bool := exprB x.Op x.L x.R
theorem exprB0 (L R : A5) : exprB ⟨#[]⟩ L R = (mayB L.K L.S L.V && noArg R) := rfl
theorem exprB1 (L R : A5) : exprB ⟨#[43]⟩ L R = (mayB L.K L.S L.V && mayB R.K R.S R.V) := by simp [exprB]; intro h; exact absurd h (by decide)
theorem exprB2 (L R : A5) : exprB ⟨#[45]⟩ L R = (mayB L.K L.S L.V && mayB R.K R.S R.V) := by simp [exprB]; intro h; exact absurd h (by decide)
/-- an operator: none, one of the two signs, or another text -/
theorem op_cases (Op : ByteArray) : Op = ⟨#[]⟩ ∨ Op = ⟨#[43]⟩ ∨ Op = ⟨#[45]⟩ ∨ (Op.toList.isEmpty = false ∧ (Op.toList == [43]) = false ∧ (Op.toList == [45]) = false ∧ Op.size ≠ 0 ∧ Op ≠ ⟨#[43]⟩ ∧ Op ≠ ⟨#[45]⟩) := by
  by_cases h0 : Op.size = 0
  · exact .inl (empty_of_size h0)
  · by_cases h1 : Op = ⟨#[43]⟩
    · exact .inr (.inl h1)
    · by_cases h2 : Op = ⟨#[45]⟩
      · exact .inr (.inr (.inl h2))
      · refine .inr (.inr (.inr ⟨isEmpty_false h0, ?_, ?_, h0, h1, h2⟩))
        · simp only [beq_eq_false_iff_ne, ne_eq]
          exact fun e => h1 (toList_inj (e.trans (by rw [ByteArray.toList_eq])))
        · simp only [beq_eq_false_iff_ne, ne_eq]
          exact fun e => h2 (toList_inj (e.trans (by rw [ByteArray.toList_eq])))
theorem exprB_no {Op : ByteArray} (L R : A5) (h0 : Op.size ≠ 0) (h1 : Op ≠ ⟨#[43]⟩) (h2 : Op ≠ ⟨#[45]⟩) : exprB Op L R = false := by
  unfold exprB; rw [if_neg h0, if_neg (fun h => h.elim h1 h2)]
/-- an argument is none at all, or it parts from none at one of its cells -/
theorem noArg_cases (K : Int) (S : ByteArray) (VK VN : Int) (VS : ByteArray) :
    (noArg ⟨K, S, ⟨VK, VN, VS⟩⟩ = true ∧ K = 0 ∧ S = ⟨#[]⟩ ∧ VK = 0 ∧ VN = 0 ∧ VS = ⟨#[]⟩) ∨ (noArg ⟨K, S, ⟨VK, VN, VS⟩⟩ = false ∧ (K == 0) = false) ∨ (noArg ⟨K, S, ⟨VK, VN, VS⟩⟩ = false ∧ K = 0 ∧ S.toList.isEmpty = false) ∨
    (noArg ⟨K, S, ⟨VK, VN, VS⟩⟩ = false ∧ K = 0 ∧ S = ⟨#[]⟩ ∧ (VK == 0) = false) ∨ (noArg ⟨K, S, ⟨VK, VN, VS⟩⟩ = false ∧ K = 0 ∧ S = ⟨#[]⟩ ∧ VK = 0 ∧ (VN == 0) = false) ∨ (noArg ⟨K, S, ⟨VK, VN, VS⟩⟩ = false ∧ K = 0 ∧ S = ⟨#[]⟩ ∧ VK = 0 ∧ VN = 0 ∧ VS.toList.isEmpty = false) := by
  unfold noArg
  by_cases h1 : K = 0
  · by_cases h2 : S.size = 0
    · obtain rfl := empty_of_size h2
      rcases v_cases VK VN VS with ⟨rfl, rfl, rfl⟩ | k | ⟨rfl, k⟩ | ⟨rfl, rfl, k⟩
      · exact .inl ⟨by rw [h1, zV_z]; rfl, h1, rfl, rfl, rfl, rfl⟩
      · exact .inr (.inr (.inr (.inl ⟨by simp only; rw [zV_K k, Bool.and_false], h1, rfl, k⟩)))
      · exact .inr (.inr (.inr (.inr (.inl ⟨by simp only; rw [zV_N k, Bool.and_false], h1, rfl, rfl, k⟩))))
      · exact .inr (.inr (.inr (.inr (.inr ⟨by simp only; rw [zV_S k, Bool.and_false], h1, rfl, rfl, rfl, isEmpty_false k⟩))))
    · exact .inr (.inr (.inl ⟨by simp only; rw [decide_eq_false h2, Bool.and_false, Bool.false_and], h1, isEmpty_false h2⟩))
  · exact .inr (.inl ⟨by simp only; rw [decide_eq_false h1, Bool.false_and, Bool.false_and], by simpa using h1⟩)

set_option maxRecDepth 100000 in
set_option maxHeartbeats 800000 in
theorem l8Given_any (K : Int) (S : ByteArray) (VK VN : Int) (VS : ByteArray) (w : World) (hs : S.size ≤ maxLen) (hv : VS.size ≤ maxLen) :
    Calls Tryd.prog 58 #[.agg #[.int .i64 K, .string S, .int .i64 VK, .int .i64 VN, .string VS]] w fun e w' => e = .returned (.bool (mayB K S ⟨VK, VN, VS⟩)) ∧ Below w.heap.size w w' := by
  have hX := boxk_new w #[.int .i64 K, .string S, .int .i64 VK, .int .i64 VN, .string VS] 39
  have b0 := below_al w (.cells #[.int .i64 K, .string S, .int .i64 VK, .int .i64 VN, .string VS] 39)
  go_enter Tryd.func58, Tryd.ntmps58
  go_wp2_with fail
  refine (specArgOk_any K S VK VN VS _ hs hv).mono ?_
  rintro e w1 ⟨rfl, hb⟩
  have HX := hide (box_below hX hb (by simp))
  have hB : Below w.heap.size w w1 := b0.trans (hb.mono b0.size)
  clear hb hX b0
  have c0 := boxk_cell HX.out 0 _ rfl
  have hM : mayB K S ⟨VK, VN, VS⟩ = (argB K S ⟨VK, VN, VS⟩ && !decide (K = 3)) := rfl
  have HM := hide hM
  clear hM
  generalize argB K S ⟨VK, VN, VS⟩ = bb at HM
  cases bb
  · go_wp2
    go_ret
    exact ⟨by rw [HM.out]; rfl, hB⟩
  · by_cases h3 : K = 3
    · subst h3
      go_wp2
      go_ret
      exact ⟨by rw [HM.out]; rfl, hB⟩
    · have HD : Hid (decide (K = 3) = false) := by unfold Hid; simpa using h3
      have k3 : (K != 3) = true := by simpa using h3
      go_wp2
      go_ret
      exact ⟨by rw [HM.out, HD.out]; rfl, hB⟩

set_option maxRecDepth 100000 in
set_option maxHeartbeats 1600000 in
theorem implExprOk_any (Op : ByteArray) (L R : A5) (w : World) (hl : L.fits) (hr : R.fits) :
    Calls Tryd.prog 55 #[.agg #[.string Op, .int .i64 L.K, .string L.S, .int .i64 L.V.K, .int .i64 L.V.N, .string L.V.S, .int .i64 R.K, .string R.S, .int .i64 R.V.K, .int .i64 R.V.N, .string R.V.S]] w fun e w' => e = .returned (.bool (exprB Op L R)) ∧ Below w.heap.size w w' := by
  obtain ⟨LK, LS, LVK, LVN, LVS⟩ := L
  obtain ⟨RK, RS, RVK, RVN, RVS⟩ := R
  obtain ⟨l1, l2⟩ := hl
  obtain ⟨r1, r2⟩ := hr
  have hX := boxk_new w #[.string Op, .int .i64 LK, .string LS, .int .i64 LVK, .int .i64 LVN, .string LVS, .int .i64 RK, .string RS, .int .i64 RVK, .int .i64 RVN, .string RVS] 41
  have b0 := below_al w (.cells #[.string Op, .int .i64 LK, .string LS, .int .i64 LVK, .int .i64 LVN, .string LVS, .int .i64 RK, .string RS, .int .i64 RVK, .int .i64 RVN, .string RVS] 41)
  rcases op_cases Op with rfl | rfl | rfl | ⟨k0, k1, k2, h0, h1, h2⟩
  · have HC := hide (exprB0 ⟨LK, LS, ⟨LVK, LVN, LVS⟩⟩ ⟨RK, RS, ⟨RVK, RVN, RVS⟩⟩)
    rcases noArg_cases RK RS RVK RVN RVS with ⟨hN, rfl, rfl, rfl, rfl, rfl⟩ | ⟨hN, k1⟩ | ⟨hN, rfl, k1⟩ | ⟨hN, rfl, rfl, k1⟩ | ⟨hN, rfl, rfl, rfl, k1⟩ | ⟨hN, rfl, rfl, rfl, rfl, k1⟩
    all_goals
      rw [hN] at HC
      clear hN
      go_enter Tryd.func55, Tryd.ntmps55
      go_wp2_with fail
      refine (mayHaveVal_any LK LS LVK LVN LVS _ l1 l2).mono ?_
      rintro e w2 ⟨rfl, hb2⟩
      have HX2 := hide (box_step hX hb2)
      have hB2 : Below w.heap.size w w2 := b0.trans (hb2.mono b0.size)
      clear hb2 hX b0
      generalize mayB LK LS ⟨LVK, LVN, LVS⟩ = bb at HC
      cases bb
      · go_wp2
        go_ret
        exact ⟨by rw [HC.out]; rfl, hB2⟩
      · have y1 := boxk_cell HX2.out 6 _ rfl
        have y2 := boxk_cell HX2.out 7 _ rfl
        have y3 := boxk_cell HX2.out 8 _ rfl
        have y4 := boxk_cell HX2.out 9 _ rfl
        have y5 := boxk_cell HX2.out 10 _ rfl
        go_wp2
        go_ret
        exact ⟨by rw [HC.out]; rfl, hB2⟩
  · have HC := hide (exprB1 ⟨LK, LS, ⟨LVK, LVN, LVS⟩⟩ ⟨RK, RS, ⟨RVK, RVN, RVS⟩⟩)
    go_enter Tryd.func55, Tryd.ntmps55
    go_wp2_with fail
    refine (mayHaveVal_any LK LS LVK LVN LVS _ l1 l2).mono ?_
    rintro e w2 ⟨rfl, hb2⟩
    have HX2 := hide (box_step hX hb2)
    have hB2 : Below w.heap.size w w2 := b0.trans (hb2.mono b0.size)
    clear hb2 hX b0
    generalize mayB LK LS ⟨LVK, LVN, LVS⟩ = bb at HC
    cases bb
    · go_wp2
      go_ret
      exact ⟨by rw [HC.out]; rfl, hB2⟩
    · have y1 := boxk_cell HX2.out 6 _ rfl
      have y2 := boxk_cell HX2.out 7 _ rfl
      have y3 := boxk_cell HX2.out 8 _ rfl
      have y4 := boxk_cell HX2.out 9 _ rfl
      have y5 := boxk_cell HX2.out 10 _ rfl
      go_wp2_with fail
      refine (mayHaveVal_any RK RS RVK RVN RVS _ r1 r2).mono ?_
      rintro e w3 ⟨rfl, hb3⟩
      have hB3 : Below w.heap.size w w3 := hB2.trans (hb3.mono hB2.size)
      clear hb3 HX2 hB2 y1 y2 y3 y4 y5
      generalize mayB RK RS ⟨RVK, RVN, RVS⟩ = bb at HC
      go_wp2
      go_ret
      exact ⟨by rw [HC.out]; rfl, hB3⟩
  · have HC := hide (exprB2 ⟨LK, LS, ⟨LVK, LVN, LVS⟩⟩ ⟨RK, RS, ⟨RVK, RVN, RVS⟩⟩)
    go_enter Tryd.func55, Tryd.ntmps55
    go_wp2_with fail
    refine (mayHaveVal_any LK LS LVK LVN LVS _ l1 l2).mono ?_
    rintro e w2 ⟨rfl, hb2⟩
    have HX2 := hide (box_step hX hb2)
    have hB2 : Below w.heap.size w w2 := b0.trans (hb2.mono b0.size)
    clear hb2 hX b0
    generalize mayB LK LS ⟨LVK, LVN, LVS⟩ = bb at HC
    cases bb
    · go_wp2
      go_ret
      exact ⟨by rw [HC.out]; rfl, hB2⟩
    · have y1 := boxk_cell HX2.out 6 _ rfl
      have y2 := boxk_cell HX2.out 7 _ rfl
      have y3 := boxk_cell HX2.out 8 _ rfl
      have y4 := boxk_cell HX2.out 9 _ rfl
      have y5 := boxk_cell HX2.out 10 _ rfl
      go_wp2_with fail
      refine (mayHaveVal_any RK RS RVK RVN RVS _ r1 r2).mono ?_
      rintro e w3 ⟨rfl, hb3⟩
      have hB3 : Below w.heap.size w w3 := hB2.trans (hb3.mono hB2.size)
      clear hb3 HX2 hB2 y1 y2 y3 y4 y5
      generalize mayB RK RS ⟨RVK, RVN, RVS⟩ = bb at HC
      go_wp2
      go_ret
      exact ⟨by rw [HC.out]; rfl, hB3⟩
  · have HC := hide (exprB_no ⟨LK, LS, ⟨LVK, LVN, LVS⟩⟩ ⟨RK, RS, ⟨RVK, RVN, RVS⟩⟩ h0 h1 h2)
    clear h0 h1 h2 hX
    go_enter Tryd.func55, Tryd.ntmps55
    go_wp2
    go_ret
    exact ⟨by rw [HC.out]; rfl, b0⟩

set_option maxRecDepth 100000 in
set_option maxHeartbeats 1600000 in
theorem specExprOk_any (Op : ByteArray) (L R : A5) (w : World) (hl : L.fits) (hr : R.fits) :
    Calls Tryd.prog 19 #[.agg #[.string Op, .int .i64 L.K, .string L.S, .int .i64 L.V.K, .int .i64 L.V.N, .string L.V.S, .int .i64 R.K, .string R.S, .int .i64 R.V.K, .int .i64 R.V.N, .string R.V.S]] w fun e w' => e = .returned (.bool (exprB Op L R)) ∧ Below w.heap.size w w' := by
  obtain ⟨LK, LS, LVK, LVN, LVS⟩ := L
  obtain ⟨RK, RS, RVK, RVN, RVS⟩ := R
  obtain ⟨l1, l2⟩ := hl
  obtain ⟨r1, r2⟩ := hr
  have hX := boxk_new w #[.string Op, .int .i64 LK, .string LS, .int .i64 LVK, .int .i64 LVN, .string LVS, .int .i64 RK, .string RS, .int .i64 RVK, .int .i64 RVN, .string RVS] 41
  have b0 := below_al w (.cells #[.string Op, .int .i64 LK, .string LS, .int .i64 LVK, .int .i64 LVN, .string LVS, .int .i64 RK, .string RS, .int .i64 RVK, .int .i64 RVN, .string RVS] 41)
  rcases op_cases Op with rfl | rfl | rfl | ⟨k0, k1, k2, h0, h1, h2⟩
  · have HC := hide (exprB0 ⟨LK, LS, ⟨LVK, LVN, LVS⟩⟩ ⟨RK, RS, ⟨RVK, RVN, RVS⟩⟩)
    rcases noArg_cases RK RS RVK RVN RVS with ⟨hN, rfl, rfl, rfl, rfl, rfl⟩ | ⟨hN, k1⟩ | ⟨hN, rfl, k1⟩ | ⟨hN, rfl, rfl, k1⟩ | ⟨hN, rfl, rfl, rfl, k1⟩ | ⟨hN, rfl, rfl, rfl, rfl, k1⟩
    all_goals
      rw [hN] at HC
      clear hN
      go_enter Tryd.func19, Tryd.ntmps19
      go_wp2_with fail
      refine (l8Given_any LK LS LVK LVN LVS _ l1 l2).mono ?_
      rintro e w2 ⟨rfl, hb2⟩
      have HX2 := hide (box_step hX hb2)
      have hB2 : Below w.heap.size w w2 := b0.trans (hb2.mono b0.size)
      clear hb2 hX b0
      generalize mayB LK LS ⟨LVK, LVN, LVS⟩ = bb at HC
      cases bb
      · go_wp2
        go_ret
        exact ⟨by rw [HC.out]; rfl, hB2⟩
      · have y1 := boxk_cell HX2.out 6 _ rfl
        have y2 := boxk_cell HX2.out 7 _ rfl
        have y3 := boxk_cell HX2.out 8 _ rfl
        have y4 := boxk_cell HX2.out 9 _ rfl
        have y5 := boxk_cell HX2.out 10 _ rfl
        go_wp2
        go_ret
        exact ⟨by rw [HC.out]; rfl, hB2⟩
  · have HC := hide (exprB1 ⟨LK, LS, ⟨LVK, LVN, LVS⟩⟩ ⟨RK, RS, ⟨RVK, RVN, RVS⟩⟩)
    go_enter Tryd.func19, Tryd.ntmps19
    go_wp2_with fail
    refine (l8Given_any LK LS LVK LVN LVS _ l1 l2).mono ?_
    rintro e w2 ⟨rfl, hb2⟩
    have HX2 := hide (box_step hX hb2)
    have hB2 : Below w.heap.size w w2 := b0.trans (hb2.mono b0.size)
    clear hb2 hX b0
    generalize mayB LK LS ⟨LVK, LVN, LVS⟩ = bb at HC
    cases bb
    · go_wp2
      go_ret
      exact ⟨by rw [HC.out]; rfl, hB2⟩
    · have y1 := boxk_cell HX2.out 6 _ rfl
      have y2 := boxk_cell HX2.out 7 _ rfl
      have y3 := boxk_cell HX2.out 8 _ rfl
      have y4 := boxk_cell HX2.out 9 _ rfl
      have y5 := boxk_cell HX2.out 10 _ rfl
      go_wp2_with fail
      refine (l8Given_any RK RS RVK RVN RVS _ r1 r2).mono ?_
      rintro e w3 ⟨rfl, hb3⟩
      have hB3 : Below w.heap.size w w3 := hB2.trans (hb3.mono hB2.size)
      clear hb3 HX2 hB2 y1 y2 y3 y4 y5
      generalize mayB RK RS ⟨RVK, RVN, RVS⟩ = bb at HC
      go_wp2
      go_ret
      exact ⟨by rw [HC.out]; rfl, hB3⟩
  · have HC := hide (exprB2 ⟨LK, LS, ⟨LVK, LVN, LVS⟩⟩ ⟨RK, RS, ⟨RVK, RVN, RVS⟩⟩)
    go_enter Tryd.func19, Tryd.ntmps19
    go_wp2_with fail
    refine (l8Given_any LK LS LVK LVN LVS _ l1 l2).mono ?_
    rintro e w2 ⟨rfl, hb2⟩
    have HX2 := hide (box_step hX hb2)
    have hB2 : Below w.heap.size w w2 := b0.trans (hb2.mono b0.size)
    clear hb2 hX b0
    generalize mayB LK LS ⟨LVK, LVN, LVS⟩ = bb at HC
    cases bb
    · go_wp2
      go_ret
      exact ⟨by rw [HC.out]; rfl, hB2⟩
    · have y1 := boxk_cell HX2.out 6 _ rfl
      have y2 := boxk_cell HX2.out 7 _ rfl
      have y3 := boxk_cell HX2.out 8 _ rfl
      have y4 := boxk_cell HX2.out 9 _ rfl
      have y5 := boxk_cell HX2.out 10 _ rfl
      go_wp2_with fail
      refine (l8Given_any RK RS RVK RVN RVS _ r1 r2).mono ?_
      rintro e w3 ⟨rfl, hb3⟩
      have hB3 : Below w.heap.size w w3 := hB2.trans (hb3.mono hB2.size)
      clear hb3 HX2 hB2 y1 y2 y3 y4 y5
      generalize mayB RK RS ⟨RVK, RVN, RVS⟩ = bb at HC
      go_wp2
      go_ret
      exact ⟨by rw [HC.out]; rfl, hB3⟩
  · have HC := hide (exprB_no ⟨LK, LS, ⟨LVK, LVN, LVS⟩⟩ ⟨RK, RS, ⟨RVK, RVN, RVS⟩⟩ h0 h1 h2)
    clear h0 h1 h2 hX
    go_enter Tryd.func19, Tryd.ntmps19
    go_wp2
    go_ret
    exact ⟨by rw [HC.out]; rfl, b0⟩

end Go.Proofs.YtaflokfgbmlmaacDoor
