/-
  Texts of this claim joined into one: ExprOk, Clone, Box11, ExprT, FactOk, LawVal, LawEq, LawFact, FactT, PatOk, PatT, NamedX, ExprJ, ActRow, ActOk, Words, SumD.
-/
import Derived.Test.YtaflokfgbmlmaacDoorJoined1
import Derived.Test.YtaflokfgbmlmaacDoorShelf
import Derived.Handy
import Derived.Deep.RegionHeld3
import Derived.Lib.Join
import Derived.Deep.AppendLies
import Derived.OwnWalk
import Derived.Lib.SmallJoins
import Derived.Lib.LaidTab
/-
  What both ExprOks answer: exprB.
-/
namespace Go.Proofs.YtaflokfgbmlmaacDoor
open Go.RowKit
set_option linter.unusedVariables false

/-- an argument that is none at all -/
def noArg (R : A5) : Bool := decide (R.K = 0) && decide (R.S.size = 0) && decide (R.V = zV)
/-- when a term is right -/
def exprB (Op : ByteArray) (L R : A5) : Bool :=
  if Op.size = 0 then mayB L.K L.S L.V && noArg R else if Op = ⟨#[43]⟩ ∨ Op = ⟨#[45]⟩ then mayB L.K L.S L.V && mayB R.K R.S R.V else false
def X11.ok (x : X11) : Bool := exprB x.Op x.L x.R
theorem exprB0 (L R : A5) : exprB ⟨#[]⟩ L R = (mayB L.K L.S L.V && noArg R) := rfl
theorem exprB1 (L R : A5) : exprB ⟨#[43]⟩ L R = (mayB L.K L.S L.V && mayB R.K R.S R.V) := by simp [exprB]; intro h; exact absurd h (by decide)
theorem exprB2 (L R : A5) : exprB ⟨#[45]⟩ L R = (mayB L.K L.S L.V && mayB R.K R.S R.V) := by simp [exprB]; intro h; exact absurd h (by decide)
/-- an operator: none, one of the two signs, or another text -/
theorem op_cases (Op : ByteArray) : Op = ⟨#[]⟩ ∨ Op = ⟨#[43]⟩ ∨ Op = ⟨#[45]⟩ ∨ (Op.toList.isEmpty = false ∧ (Op.toList == [43]) = false ∧ (Op.toList == [45]) = false ∧ Op.size ≠ 0 ∧ Op ≠ ⟨#[43]⟩ ∧ Op ≠ ⟨#[45]⟩) := by
  by_cases h0 : Op.size = 0
  · exact .inl (empty_of_size h0)
  · by_cases h1 : Op = ⟨#[43]⟩
    · exact .inr (.inl h1)
    · by_cases h2 : Op = ⟨#[45]⟩
      · exact .inr (.inr (.inl h2))
      · refine .inr (.inr (.inr ⟨isEmpty_false h0, ?_, ?_, h0, h1, h2⟩))
        · simp only [beq_eq_false_iff_ne, ne_eq]
          exact fun e => h1 (toList_inj (e.trans (by rw [ByteArray.toList_eq])))
        · simp only [beq_eq_false_iff_ne, ne_eq]
          exact fun e => h2 (toList_inj (e.trans (by rw [ByteArray.toList_eq])))
theorem exprB_no {Op : ByteArray} (L R : A5) (h0 : Op.size ≠ 0) (h1 : Op ≠ ⟨#[43]⟩) (h2 : Op ≠ ⟨#[45]⟩) : exprB Op L R = false := by
  unfold exprB; rw [if_neg h0, if_neg (fun h => h.elim h1 h2)]
/-- an argument is none at all, or it parts from none at one of its cells -/
theorem noArg_cases (K : Int) (S : ByteArray) (VK VN : Int) (VS : ByteArray) :
    (noArg ⟨K, S, ⟨VK, VN, VS⟩⟩ = true ∧ K = 0 ∧ S = ⟨#[]⟩ ∧ VK = 0 ∧ VN = 0 ∧ VS = ⟨#[]⟩) ∨ (noArg ⟨K, S, ⟨VK, VN, VS⟩⟩ = false ∧ (K == 0) = false) ∨ (noArg ⟨K, S, ⟨VK, VN, VS⟩⟩ = false ∧ K = 0 ∧ S.toList.isEmpty = false) ∨
    (noArg ⟨K, S, ⟨VK, VN, VS⟩⟩ = false ∧ K = 0 ∧ S = ⟨#[]⟩ ∧ (VK == 0) = false) ∨ (noArg ⟨K, S, ⟨VK, VN, VS⟩⟩ = false ∧ K = 0 ∧ S = ⟨#[]⟩ ∧ VK = 0 ∧ (VN == 0) = false) ∨ (noArg ⟨K, S, ⟨VK, VN, VS⟩⟩ = false ∧ K = 0 ∧ S = ⟨#[]⟩ ∧ VK = 0 ∧ VN = 0 ∧ VS.toList.isEmpty = false) := by
  unfold noArg
  by_cases h1 : K = 0
  · by_cases h2 : S.size = 0
    · obtain rfl := empty_of_size h2
      rcases v_cases VK VN VS with ⟨rfl, rfl, rfl⟩ | k | ⟨rfl, k⟩ | ⟨rfl, rfl, k⟩
      · exact .inl ⟨by rw [h1, zV_z]; rfl, h1, rfl, rfl, rfl, rfl⟩
      · exact .inr (.inr (.inr (.inl ⟨by simp only; rw [zV_K k, Bool.and_false], h1, rfl, k⟩)))
      · exact .inr (.inr (.inr (.inr (.inl ⟨by simp only; rw [zV_N k, Bool.and_false], h1, rfl, rfl, k⟩))))
      · exact .inr (.inr (.inr (.inr (.inr ⟨by simp only; rw [zV_S k, Bool.and_false], h1, rfl, rfl, rfl, isEmpty_false k⟩))))
    · exact .inr (.inr (.inl ⟨by simp only; rw [decide_eq_false h2, Bool.and_false, Bool.false_and], h1, isEmpty_false h2⟩))
  · exact .inr (.inl ⟨by simp only; rw [decide_eq_false h1, Bool.false_and, Bool.false_and], by simpa using h1⟩)

set_option maxRecDepth 100000 in
set_option maxHeartbeats 800000 in
theorem l8Given_any (K : Int) (S : ByteArray) (VK VN : Int) (VS : ByteArray) (w : World) (hs : S.size ≤ maxLen) (hv : VS.size ≤ maxLen) :
    Calls Tryd.prog 58 #[.agg #[.int .i64 K, .string S, .int .i64 VK, .int .i64 VN, .string VS]] w fun e w' => e = .returned (.bool (mayB K S ⟨VK, VN, VS⟩)) ∧ Below w.heap.size w w' := by
  have hX := boxk_new w #[.int .i64 K, .string S, .int .i64 VK, .int .i64 VN, .string VS] 39
  have b0 := below_al w (.cells #[.int .i64 K, .string S, .int .i64 VK, .int .i64 VN, .string VS] 39)
  go_enter Tryd.func58, Tryd.ntmps58
  go_wp2_with fail
  refine (specArgOk_any K S VK VN VS _ hs hv).mono ?_
  rintro e w1 ⟨rfl, hb⟩
  have HX := hide (box_below hX hb (by simp))
  have hB : Below w.heap.size w w1 := b0.trans (hb.mono b0.size)
  clear hb hX b0
  have c0 := boxk_cell HX.out 0 _ rfl
  have hM : mayB K S ⟨VK, VN, VS⟩ = (argB K S ⟨VK, VN, VS⟩ && !decide (K = 3)) := rfl
  have HM := hide hM
  clear hM
  generalize argB K S ⟨VK, VN, VS⟩ = bb at HM
  cases bb
  · go_wp2
    go_ret
    exact ⟨by rw [HM.out]; rfl, hB⟩
  · by_cases h3 : K = 3
    · subst h3
      go_wp2
      go_ret
      exact ⟨by rw [HM.out]; rfl, hB⟩
    · have HD : Hid (decide (K = 3) = false) := by unfold Hid; simpa using h3
      have k3 : (K != 3) = true := by simpa using h3
      go_wp2
      go_ret
      exact ⟨by rw [HM.out, HD.out]; rfl, hB⟩

set_option maxRecDepth 100000 in
set_option maxHeartbeats 1600000 in
theorem implExprOk_any (Op : ByteArray) (L R : A5) (w : World) (hl : L.fits) (hr : R.fits) :
    Calls Tryd.prog 55 #[.agg #[.string Op, .int .i64 L.K, .string L.S, .int .i64 L.V.K, .int .i64 L.V.N, .string L.V.S, .int .i64 R.K, .string R.S, .int .i64 R.V.K, .int .i64 R.V.N, .string R.V.S]] w fun e w' => e = .returned (.bool (exprB Op L R)) ∧ Below w.heap.size w w' := by
  obtain ⟨LK, LS, LVK, LVN, LVS⟩ := L
  obtain ⟨RK, RS, RVK, RVN, RVS⟩ := R
  obtain ⟨l1, l2⟩ := hl
  obtain ⟨r1, r2⟩ := hr
  have hX := boxk_new w #[.string Op, .int .i64 LK, .string LS, .int .i64 LVK, .int .i64 LVN, .string LVS, .int .i64 RK, .string RS, .int .i64 RVK, .int .i64 RVN, .string RVS] 41
  have b0 := below_al w (.cells #[.string Op, .int .i64 LK, .string LS, .int .i64 LVK, .int .i64 LVN, .string LVS, .int .i64 RK, .string RS, .int .i64 RVK, .int .i64 RVN, .string RVS] 41)
  rcases op_cases Op with rfl | rfl | rfl | ⟨k0, k1, k2, h0, h1, h2⟩
  · have HC := hide (exprB0 ⟨LK, LS, ⟨LVK, LVN, LVS⟩⟩ ⟨RK, RS, ⟨RVK, RVN, RVS⟩⟩)
    rcases noArg_cases RK RS RVK RVN RVS with ⟨hN, rfl, rfl, rfl, rfl, rfl⟩ | ⟨hN, k1⟩ | ⟨hN, rfl, k1⟩ | ⟨hN, rfl, rfl, k1⟩ | ⟨hN, rfl, rfl, rfl, k1⟩ | ⟨hN, rfl, rfl, rfl, rfl, k1⟩
    all_goals
      rw [hN] at HC
      clear hN
      go_enter Tryd.func55, Tryd.ntmps55
      go_wp2_with fail
      refine (mayHaveVal_any LK LS LVK LVN LVS _ l1 l2).mono ?_
      rintro e w2 ⟨rfl, hb2⟩
      have HX2 := hide (box_step hX hb2)
      have hB2 : Below w.heap.size w w2 := b0.trans (hb2.mono b0.size)
      clear hb2 hX b0
      generalize mayB LK LS ⟨LVK, LVN, LVS⟩ = bb at HC
      cases bb
      · go_wp2
        go_ret
        exact ⟨by rw [HC.out]; rfl, hB2⟩
      · have y1 := boxk_cell HX2.out 6 _ rfl
        have y2 := boxk_cell HX2.out 7 _ rfl
        have y3 := boxk_cell HX2.out 8 _ rfl
        have y4 := boxk_cell HX2.out 9 _ rfl
        have y5 := boxk_cell HX2.out 10 _ rfl
        go_wp2
        go_ret
        exact ⟨by rw [HC.out]; rfl, hB2⟩
  · have HC := hide (exprB1 ⟨LK, LS, ⟨LVK, LVN, LVS⟩⟩ ⟨RK, RS, ⟨RVK, RVN, RVS⟩⟩)
    go_enter Tryd.func55, Tryd.ntmps55
    go_wp2_with fail
    refine (mayHaveVal_any LK LS LVK LVN LVS _ l1 l2).mono ?_
    rintro e w2 ⟨rfl, hb2⟩
    have HX2 := hide (box_step hX hb2)
    have hB2 : Below w.heap.size w w2 := b0.trans (hb2.mono b0.size)
    clear hb2 hX b0
    generalize mayB LK LS ⟨LVK, LVN, LVS⟩ = bb at HC
    cases bb
    · go_wp2
      go_ret
      exact ⟨by rw [HC.out]; rfl, hB2⟩
    · have y1 := boxk_cell HX2.out 6 _ rfl
      have y2 := boxk_cell HX2.out 7 _ rfl
      have y3 := boxk_cell HX2.out 8 _ rfl
      have y4 := boxk_cell HX2.out 9 _ rfl
      have y5 := boxk_cell HX2.out 10 _ rfl
      go_wp2_with fail
      refine (mayHaveVal_any RK RS RVK RVN RVS _ r1 r2).mono ?_
      rintro e w3 ⟨rfl, hb3⟩
      have hB3 : Below w.heap.size w w3 := hB2.trans (hb3.mono hB2.size)
      clear hb3 HX2 hB2 y1 y2 y3 y4 y5
      generalize mayB RK RS ⟨RVK, RVN, RVS⟩ = bb at HC
      go_wp2
      go_ret
      exact ⟨by rw [HC.out]; rfl, hB3⟩
  · have HC := hide (exprB2 ⟨LK, LS, ⟨LVK, LVN, LVS⟩⟩ ⟨RK, RS, ⟨RVK, RVN, RVS⟩⟩)
    go_enter Tryd.func55, Tryd.ntmps55
    go_wp2_with fail
    refine (mayHaveVal_any LK LS LVK LVN LVS _ l1 l2).mono ?_
    rintro e w2 ⟨rfl, hb2⟩
    have HX2 := hide (box_step hX hb2)
    have hB2 : Below w.heap.size w w2 := b0.trans (hb2.mono b0.size)
    clear hb2 hX b0
    generalize mayB LK LS ⟨LVK, LVN, LVS⟩ = bb at HC
    cases bb
    · go_wp2
      go_ret
      exact ⟨by rw [HC.out]; rfl, hB2⟩
    · have y1 := boxk_cell HX2.out 6 _ rfl
      have y2 := boxk_cell HX2.out 7 _ rfl
      have y3 := boxk_cell HX2.out 8 _ rfl
      have y4 := boxk_cell HX2.out 9 _ rfl
      have y5 := boxk_cell HX2.out 10 _ rfl
      go_wp2_with fail
      refine (mayHaveVal_any RK RS RVK RVN RVS _ r1 r2).mono ?_
      rintro e w3 ⟨rfl, hb3⟩
      have hB3 : Below w.heap.size w w3 := hB2.trans (hb3.mono hB2.size)
      clear hb3 HX2 hB2 y1 y2 y3 y4 y5
      generalize mayB RK RS ⟨RVK, RVN, RVS⟩ = bb at HC
      go_wp2
      go_ret
      exact ⟨by rw [HC.out]; rfl, hB3⟩
  · have HC := hide (exprB_no ⟨LK, LS, ⟨LVK, LVN, LVS⟩⟩ ⟨RK, RS, ⟨RVK, RVN, RVS⟩⟩ h0 h1 h2)
    clear h0 h1 h2 hX
    go_enter Tryd.func55, Tryd.ntmps55
    go_wp2
    go_ret
    exact ⟨by rw [HC.out]; rfl, b0⟩

set_option maxRecDepth 100000 in
set_option maxHeartbeats 1600000 in
theorem specExprOk_any (Op : ByteArray) (L R : A5) (w : World) (hl : L.fits) (hr : R.fits) :
    Calls Tryd.prog 19 #[.agg #[.string Op, .int .i64 L.K, .string L.S, .int .i64 L.V.K, .int .i64 L.V.N, .string L.V.S, .int .i64 R.K, .string R.S, .int .i64 R.V.K, .int .i64 R.V.N, .string R.V.S]] w fun e w' => e = .returned (.bool (exprB Op L R)) ∧ Below w.heap.size w w' := by
  obtain ⟨LK, LS, LVK, LVN, LVS⟩ := L
  obtain ⟨RK, RS, RVK, RVN, RVS⟩ := R
  obtain ⟨l1, l2⟩ := hl
  obtain ⟨r1, r2⟩ := hr
  have hX := boxk_new w #[.string Op, .int .i64 LK, .string LS, .int .i64 LVK, .int .i64 LVN, .string LVS, .int .i64 RK, .string RS, .int .i64 RVK, .int .i64 RVN, .string RVS] 41
  have b0 := below_al w (.cells #[.string Op, .int .i64 LK, .string LS, .int .i64 LVK, .int .i64 LVN, .string LVS, .int .i64 RK, .string RS, .int .i64 RVK, .int .i64 RVN, .string RVS] 41)
  rcases op_cases Op with rfl | rfl | rfl | ⟨k0, k1, k2, h0, h1, h2⟩
  · have HC := hide (exprB0 ⟨LK, LS, ⟨LVK, LVN, LVS⟩⟩ ⟨RK, RS, ⟨RVK, RVN, RVS⟩⟩)
    rcases noArg_cases RK RS RVK RVN RVS with ⟨hN, rfl, rfl, rfl, rfl, rfl⟩ | ⟨hN, k1⟩ | ⟨hN, rfl, k1⟩ | ⟨hN, rfl, rfl, k1⟩ | ⟨hN, rfl, rfl, rfl, k1⟩ | ⟨hN, rfl, rfl, rfl, rfl, k1⟩
    all_goals
      rw [hN] at HC
      clear hN
      go_enter Tryd.func19, Tryd.ntmps19
      go_wp2_with fail
      refine (l8Given_any LK LS LVK LVN LVS _ l1 l2).mono ?_
      rintro e w2 ⟨rfl, hb2⟩
      have HX2 := hide (box_step hX hb2)
      have hB2 : Below w.heap.size w w2 := b0.trans (hb2.mono b0.size)
      clear hb2 hX b0
      generalize mayB LK LS ⟨LVK, LVN, LVS⟩ = bb at HC
      cases bb
      · go_wp2
        go_ret
        exact ⟨by rw [HC.out]; rfl, hB2⟩
      · have y1 := boxk_cell HX2.out 6 _ rfl
        have y2 := boxk_cell HX2.out 7 _ rfl
        have y3 := boxk_cell HX2.out 8 _ rfl
        have y4 := boxk_cell HX2.out 9 _ rfl
        have y5 := boxk_cell HX2.out 10 _ rfl
        go_wp2
        go_ret
        exact ⟨by rw [HC.out]; rfl, hB2⟩
  · have HC := hide (exprB1 ⟨LK, LS, ⟨LVK, LVN, LVS⟩⟩ ⟨RK, RS, ⟨RVK, RVN, RVS⟩⟩)
    go_enter Tryd.func19, Tryd.ntmps19
    go_wp2_with fail
    refine (l8Given_any LK LS LVK LVN LVS _ l1 l2).mono ?_
    rintro e w2 ⟨rfl, hb2⟩
    have HX2 := hide (box_step hX hb2)
    have hB2 : Below w.heap.size w w2 := b0.trans (hb2.mono b0.size)
    clear hb2 hX b0
    generalize mayB LK LS ⟨LVK, LVN, LVS⟩ = bb at HC
    cases bb
    · go_wp2
      go_ret
      exact ⟨by rw [HC.out]; rfl, hB2⟩
    · have y1 := boxk_cell HX2.out 6 _ rfl
      have y2 := boxk_cell HX2.out 7 _ rfl
      have y3 := boxk_cell HX2.out 8 _ rfl
      have y4 := boxk_cell HX2.out 9 _ rfl
      have y5 := boxk_cell HX2.out 10 _ rfl
      go_wp2_with fail
      refine (l8Given_any RK RS RVK RVN RVS _ r1 r2).mono ?_
      rintro e w3 ⟨rfl, hb3⟩
      have hB3 : Below w.heap.size w w3 := hB2.trans (hb3.mono hB2.size)
      clear hb3 HX2 hB2 y1 y2 y3 y4 y5
      generalize mayB RK RS ⟨RVK, RVN, RVS⟩ = bb at HC
      go_wp2
      go_ret
      exact ⟨by rw [HC.out]; rfl, hB3⟩
  · have HC := hide (exprB2 ⟨LK, LS, ⟨LVK, LVN, LVS⟩⟩ ⟨RK, RS, ⟨RVK, RVN, RVS⟩⟩)
    go_enter Tryd.func19, Tryd.ntmps19
    go_wp2_with fail
    refine (l8Given_any LK LS LVK LVN LVS _ l1 l2).mono ?_
    rintro e w2 ⟨rfl, hb2⟩
    have HX2 := hide (box_step hX hb2)
    have hB2 : Below w.heap.size w w2 := b0.trans (hb2.mono b0.size)
    clear hb2 hX b0
    generalize mayB LK LS ⟨LVK, LVN, LVS⟩ = bb at HC
    cases bb
    · go_wp2
      go_ret
      exact ⟨by rw [HC.out]; rfl, hB2⟩
    · have y1 := boxk_cell HX2.out 6 _ rfl
      have y2 := boxk_cell HX2.out 7 _ rfl
      have y3 := boxk_cell HX2.out 8 _ rfl
      have y4 := boxk_cell HX2.out 9 _ rfl
      have y5 := boxk_cell HX2.out 10 _ rfl
      go_wp2_with fail
      refine (l8Given_any RK RS RVK RVN RVS _ r1 r2).mono ?_
      rintro e w3 ⟨rfl, hb3⟩
      have hB3 : Below w.heap.size w w3 := hB2.trans (hb3.mono hB2.size)
      clear hb3 HX2 hB2 y1 y2 y3 y4 y5
      generalize mayB RK RS ⟨RVK, RVN, RVS⟩ = bb at HC
      go_wp2
      go_ret
      exact ⟨by rw [HC.out]; rfl, hB3⟩
  · have HC := hide (exprB_no ⟨LK, LS, ⟨LVK, LVN, LVS⟩⟩ ⟨RK, RS, ⟨RVK, RVN, RVS⟩⟩ h0 h1 h2)
    clear h0 h1 h2 hX
    go_enter Tryd.func19, Tryd.ntmps19
    go_wp2
    go_ret
    exact ⟨by rw [HC.out]; rfl, b0⟩

end Go.Proofs.YtaflokfgbmlmaacDoor
/-
  A text copied, a value copied: the same.
-/
namespace Go.Proofs.YtaflokfgbmlmaacDoor
open Go.RowKit
set_option linter.unusedVariables false

set_option maxRecDepth 100000 in
theorem cloneS_any (s : ByteArray) (w : World) (hs : s.size ≤ 1048580) :
    Calls Tryd.prog 56 #[.string s] w fun e w' => e = .returned (.string s) ∧ Below w.heap.size w w' := by
  go_enter Tryd.func56, Tryd.ntmps56
  go_wp2_with fail
  refine (Tryd.stringslite_Clone s _ (by omega)).mono ?_
  rintro e w1 ⟨rfl, hb⟩
  go_wp2
  go_ret
  exact ⟨rfl, hb⟩
theorem two_boxes {w w' : World} {o : Obj} {cs : Array Value} {T : TypeId} (hb : Below ((w.alloc o).alloc (.cells cs T)).drew.heap.size ((w.alloc o).alloc (.cells cs T)).drew w') :
    w'.heap[w.heap.size + 1]? = some (.cells cs T (0, 0)) ∧ Below w.heap.size w w' := by
  have h0 := boxk_new (w.alloc o) cs T
  have b0 := below_al w o
  have b1 := b0.alloc b0.size (.cells cs T)
  rw [World.size_alloc] at h0
  refine ⟨box_below (w := ((w.alloc o).alloc (.cells cs T)).drew) h0 hb (by show _ < ((w.alloc o).alloc (.cells cs T)).heap.size; simp), b1.drew.trans (hb.mono ?_)⟩
  show _ ≤ ((w.alloc o).alloc (.cells cs T)).heap.size
  simp; omega
end Go.Proofs.YtaflokfgbmlmaacDoor
/-
  Boxes of eleven cells, and two or three boxes side by side: their cells set, what stands.
-/
namespace Go.Proofs.YtaflokfgbmlmaacDoor
open Go.RowKit
set_option linter.unusedVariables false

theorem boxes3 (w : World) (c1 c2 c3 : Array Value) (T1 T2 T3 : TypeId) : (((w.alloc (.cells c1 T1)).alloc (.cells c2 T2)).alloc (.cells c3 T3)).heap[w.heap.size]? = some (.cells c1 T1 (0, 0)) ∧ (((w.alloc (.cells c1 T1)).alloc (.cells c2 T2)).alloc (.cells c3 T3)).heap[w.heap.size + 1]? = some (.cells c2 T2 (0, 0)) ∧ (((w.alloc (.cells c1 T1)).alloc (.cells c2 T2)).alloc (.cells c3 T3)).heap[w.heap.size + 1 + 1]? = some (.cells c3 T3 (0, 0)) ∧ Below w.heap.size w (((w.alloc (.cells c1 T1)).alloc (.cells c2 T2)).alloc (.cells c3 T3)) := by
  have b0 := below_al w (.cells c1 T1)
  have b1 := b0.alloc b0.size (.cells c2 T2)
  have b2 := b1.alloc b1.size (.cells c3 T3)
  have hA := box_old (box_old (boxk_new w c1 T1) (by simp) (.cells c2 T2)) (by simp; omega) (.cells c3 T3)
  have hR := box_old (boxk_new (w.alloc (.cells c1 T1)) c2 T2) (by simp) (.cells c3 T3)
  have hX := boxk_new ((w.alloc (.cells c1 T1)).alloc (.cells c2 T2)) c3 T3
  simp only [World.size_alloc] at hR hX
  exact ⟨hA, hR, hX, b2⟩
theorem boxes2 (w : World) (c1 c2 : Array Value) (T1 T2 : TypeId) : ((w.alloc (.cells c1 T1)).alloc (.cells c2 T2)).heap[w.heap.size]? = some (.cells c1 T1 (0, 0)) ∧ ((w.alloc (.cells c1 T1)).alloc (.cells c2 T2)).heap[w.heap.size + 1]? = some (.cells c2 T2 (0, 0)) ∧ Below w.heap.size w ((w.alloc (.cells c1 T1)).alloc (.cells c2 T2)) := by
  have b0 := below_al w (.cells c1 T1)
  have b1 := b0.alloc b0.size (.cells c2 T2)
  have hA := box_old (boxk_new w c1 T1) (by simp) (.cells c2 T2)
  have hX := boxk_new (w.alloc (.cells c1 T1)) c2 T2
  simp only [World.size_alloc] at hX
  exact ⟨hA, hX, b1⟩
theorem box11_set {w : World} {q : Nat} {c0 c1 c2 c3 c4 c5 c6 c7 c8 c9 c10 : Value} {T : TypeId} (h : w.heap[q]? = some (.cells #[c0, c1, c2, c3, c4, c5, c6, c7, c8, c9, c10] T (0, 0))) (v0 v1 v2 v3 v4 v5 v6 v7 v8 v9 v10 : Value) :
    (((((((((((w.setCell ⟨q, 0, none⟩ v0).setCell ⟨q, 1, none⟩ v1).setCell ⟨q, 2, none⟩ v2).setCell ⟨q, 3, none⟩ v3).setCell ⟨q, 4, none⟩ v4).setCell ⟨q, 5, none⟩ v5).setCell ⟨q, 6, none⟩ v6).setCell ⟨q, 7, none⟩ v7).setCell ⟨q, 8, none⟩ v8).setCell ⟨q, 9, none⟩ v9).setCell ⟨q, 10, none⟩ v10).heap[q]? = some (.cells #[v0, v1, v2, v3, v4, v5, v6, v7, v8, v9, v10] T (0, 0)) ∧ w.grownBy (((((((((((w.setCell ⟨q, 0, none⟩ v0).setCell ⟨q, 1, none⟩ v1).setCell ⟨q, 2, none⟩ v2).setCell ⟨q, 3, none⟩ v3).setCell ⟨q, 4, none⟩ v4).setCell ⟨q, 5, none⟩ v5).setCell ⟨q, 6, none⟩ v6).setCell ⟨q, 7, none⟩ v7).setCell ⟨q, 8, none⟩ v8).setCell ⟨q, 9, none⟩ v9).setCell ⟨q, 10, none⟩ v10) (some q) := by
  have g0 := (boxk_set h 0 v0).2
  have h0 : (w.setCell ⟨q, 0, none⟩ v0).heap[q]? = some (.cells #[v0, c1, c2, c3, c4, c5, c6, c7, c8, c9, c10] T (0, 0)) := (boxk_set h 0 v0).1
  have g1 := (boxk_set h0 1 v1).2
  have h1 : ((w.setCell ⟨q, 0, none⟩ v0).setCell ⟨q, 1, none⟩ v1).heap[q]? = some (.cells #[v0, v1, c2, c3, c4, c5, c6, c7, c8, c9, c10] T (0, 0)) := (boxk_set h0 1 v1).1
  have g2 := (boxk_set h1 2 v2).2
  have h2 : (((w.setCell ⟨q, 0, none⟩ v0).setCell ⟨q, 1, none⟩ v1).setCell ⟨q, 2, none⟩ v2).heap[q]? = some (.cells #[v0, v1, v2, c3, c4, c5, c6, c7, c8, c9, c10] T (0, 0)) := (boxk_set h1 2 v2).1
  have g3 := (boxk_set h2 3 v3).2
  have h3 : ((((w.setCell ⟨q, 0, none⟩ v0).setCell ⟨q, 1, none⟩ v1).setCell ⟨q, 2, none⟩ v2).setCell ⟨q, 3, none⟩ v3).heap[q]? = some (.cells #[v0, v1, v2, v3, c4, c5, c6, c7, c8, c9, c10] T (0, 0)) := (boxk_set h2 3 v3).1
  have g4 := (boxk_set h3 4 v4).2
  have h4 : (((((w.setCell ⟨q, 0, none⟩ v0).setCell ⟨q, 1, none⟩ v1).setCell ⟨q, 2, none⟩ v2).setCell ⟨q, 3, none⟩ v3).setCell ⟨q, 4, none⟩ v4).heap[q]? = some (.cells #[v0, v1, v2, v3, v4, c5, c6, c7, c8, c9, c10] T (0, 0)) := (boxk_set h3 4 v4).1
  have g5 := (boxk_set h4 5 v5).2
  have h5 : ((((((w.setCell ⟨q, 0, none⟩ v0).setCell ⟨q, 1, none⟩ v1).setCell ⟨q, 2, none⟩ v2).setCell ⟨q, 3, none⟩ v3).setCell ⟨q, 4, none⟩ v4).setCell ⟨q, 5, none⟩ v5).heap[q]? = some (.cells #[v0, v1, v2, v3, v4, v5, c6, c7, c8, c9, c10] T (0, 0)) := (boxk_set h4 5 v5).1
  have g6 := (boxk_set h5 6 v6).2
  have h6 : (((((((w.setCell ⟨q, 0, none⟩ v0).setCell ⟨q, 1, none⟩ v1).setCell ⟨q, 2, none⟩ v2).setCell ⟨q, 3, none⟩ v3).setCell ⟨q, 4, none⟩ v4).setCell ⟨q, 5, none⟩ v5).setCell ⟨q, 6, none⟩ v6).heap[q]? = some (.cells #[v0, v1, v2, v3, v4, v5, v6, c7, c8, c9, c10] T (0, 0)) := (boxk_set h5 6 v6).1
  have g7 := (boxk_set h6 7 v7).2
  have h7 : ((((((((w.setCell ⟨q, 0, none⟩ v0).setCell ⟨q, 1, none⟩ v1).setCell ⟨q, 2, none⟩ v2).setCell ⟨q, 3, none⟩ v3).setCell ⟨q, 4, none⟩ v4).setCell ⟨q, 5, none⟩ v5).setCell ⟨q, 6, none⟩ v6).setCell ⟨q, 7, none⟩ v7).heap[q]? = some (.cells #[v0, v1, v2, v3, v4, v5, v6, v7, c8, c9, c10] T (0, 0)) := (boxk_set h6 7 v7).1
  have g8 := (boxk_set h7 8 v8).2
  have h8 : (((((((((w.setCell ⟨q, 0, none⟩ v0).setCell ⟨q, 1, none⟩ v1).setCell ⟨q, 2, none⟩ v2).setCell ⟨q, 3, none⟩ v3).setCell ⟨q, 4, none⟩ v4).setCell ⟨q, 5, none⟩ v5).setCell ⟨q, 6, none⟩ v6).setCell ⟨q, 7, none⟩ v7).setCell ⟨q, 8, none⟩ v8).heap[q]? = some (.cells #[v0, v1, v2, v3, v4, v5, v6, v7, v8, c9, c10] T (0, 0)) := (boxk_set h7 8 v8).1
  have g9 := (boxk_set h8 9 v9).2
  have h9 : ((((((((((w.setCell ⟨q, 0, none⟩ v0).setCell ⟨q, 1, none⟩ v1).setCell ⟨q, 2, none⟩ v2).setCell ⟨q, 3, none⟩ v3).setCell ⟨q, 4, none⟩ v4).setCell ⟨q, 5, none⟩ v5).setCell ⟨q, 6, none⟩ v6).setCell ⟨q, 7, none⟩ v7).setCell ⟨q, 8, none⟩ v8).setCell ⟨q, 9, none⟩ v9).heap[q]? = some (.cells #[v0, v1, v2, v3, v4, v5, v6, v7, v8, v9, c10] T (0, 0)) := (boxk_set h8 9 v9).1
  have g10 := (boxk_set h9 10 v10).2
  have h10 : (((((((((((w.setCell ⟨q, 0, none⟩ v0).setCell ⟨q, 1, none⟩ v1).setCell ⟨q, 2, none⟩ v2).setCell ⟨q, 3, none⟩ v3).setCell ⟨q, 4, none⟩ v4).setCell ⟨q, 5, none⟩ v5).setCell ⟨q, 6, none⟩ v6).setCell ⟨q, 7, none⟩ v7).setCell ⟨q, 8, none⟩ v8).setCell ⟨q, 9, none⟩ v9).setCell ⟨q, 10, none⟩ v10).heap[q]? = some (.cells #[v0, v1, v2, v3, v4, v5, v6, v7, v8, v9, v10] T (0, 0)) := (boxk_set h9 10 v10).1
  exact ⟨h10, (grown_tt (grown_tt (grown_tt (grown_tt (grown_tt (grown_tt (grown_tt (grown_tt (grown_tt (grown_tt g0 g1) g2) g3) g4) g5) g6) g7) g8) g9) g10)⟩
theorem box11_setL {w : World} {q : Nat} {c0 c1 c2 c3 c4 c5 c6 c7 c8 c9 c10 : Value} {T : TypeId} (h : w.heap[q]? = some (.cells #[c0, c1, c2, c3, c4, c5, c6, c7, c8, c9, c10] T (0, 0))) (v1 v2 v3 v4 v5 : Value) :
    (((((w.setCell ⟨q, 1, none⟩ v1).setCell ⟨q, 2, none⟩ v2).setCell ⟨q, 3, none⟩ v3).setCell ⟨q, 4, none⟩ v4).setCell ⟨q, 5, none⟩ v5).heap[q]? = some (.cells #[c0, v1, v2, v3, v4, v5, c6, c7, c8, c9, c10] T (0, 0)) ∧ w.grownBy (((((w.setCell ⟨q, 1, none⟩ v1).setCell ⟨q, 2, none⟩ v2).setCell ⟨q, 3, none⟩ v3).setCell ⟨q, 4, none⟩ v4).setCell ⟨q, 5, none⟩ v5) (some q) := by
  have g1 := (boxk_set h 1 v1).2
  have h1 : (w.setCell ⟨q, 1, none⟩ v1).heap[q]? = some (.cells #[c0, v1, c2, c3, c4, c5, c6, c7, c8, c9, c10] T (0, 0)) := (boxk_set h 1 v1).1
  have g2 := (boxk_set h1 2 v2).2
  have h2 : ((w.setCell ⟨q, 1, none⟩ v1).setCell ⟨q, 2, none⟩ v2).heap[q]? = some (.cells #[c0, v1, v2, c3, c4, c5, c6, c7, c8, c9, c10] T (0, 0)) := (boxk_set h1 2 v2).1
  have g3 := (boxk_set h2 3 v3).2
  have h3 : (((w.setCell ⟨q, 1, none⟩ v1).setCell ⟨q, 2, none⟩ v2).setCell ⟨q, 3, none⟩ v3).heap[q]? = some (.cells #[c0, v1, v2, v3, c4, c5, c6, c7, c8, c9, c10] T (0, 0)) := (boxk_set h2 3 v3).1
  have g4 := (boxk_set h3 4 v4).2
  have h4 : ((((w.setCell ⟨q, 1, none⟩ v1).setCell ⟨q, 2, none⟩ v2).setCell ⟨q, 3, none⟩ v3).setCell ⟨q, 4, none⟩ v4).heap[q]? = some (.cells #[c0, v1, v2, v3, v4, c5, c6, c7, c8, c9, c10] T (0, 0)) := (boxk_set h3 4 v4).1
  have g5 := (boxk_set h4 5 v5).2
  have h5 : (((((w.setCell ⟨q, 1, none⟩ v1).setCell ⟨q, 2, none⟩ v2).setCell ⟨q, 3, none⟩ v3).setCell ⟨q, 4, none⟩ v4).setCell ⟨q, 5, none⟩ v5).heap[q]? = some (.cells #[c0, v1, v2, v3, v4, v5, c6, c7, c8, c9, c10] T (0, 0)) := (boxk_set h4 5 v5).1
  exact ⟨h5, (grown_tt (grown_tt (grown_tt (grown_tt g1 g2) g3) g4) g5)⟩
theorem box11_setR {w : World} {q : Nat} {c0 c1 c2 c3 c4 c5 c6 c7 c8 c9 c10 : Value} {T : TypeId} (h : w.heap[q]? = some (.cells #[c0, c1, c2, c3, c4, c5, c6, c7, c8, c9, c10] T (0, 0))) (v6 v7 v8 v9 v10 : Value) :
    (((((w.setCell ⟨q, 6, none⟩ v6).setCell ⟨q, 7, none⟩ v7).setCell ⟨q, 8, none⟩ v8).setCell ⟨q, 9, none⟩ v9).setCell ⟨q, 10, none⟩ v10).heap[q]? = some (.cells #[c0, c1, c2, c3, c4, c5, v6, v7, v8, v9, v10] T (0, 0)) ∧ w.grownBy (((((w.setCell ⟨q, 6, none⟩ v6).setCell ⟨q, 7, none⟩ v7).setCell ⟨q, 8, none⟩ v8).setCell ⟨q, 9, none⟩ v9).setCell ⟨q, 10, none⟩ v10) (some q) := by
  have g6 := (boxk_set h 6 v6).2
  have h6 : (w.setCell ⟨q, 6, none⟩ v6).heap[q]? = some (.cells #[c0, c1, c2, c3, c4, c5, v6, c7, c8, c9, c10] T (0, 0)) := (boxk_set h 6 v6).1
  have g7 := (boxk_set h6 7 v7).2
  have h7 : ((w.setCell ⟨q, 6, none⟩ v6).setCell ⟨q, 7, none⟩ v7).heap[q]? = some (.cells #[c0, c1, c2, c3, c4, c5, v6, v7, c8, c9, c10] T (0, 0)) := (boxk_set h6 7 v7).1
  have g8 := (boxk_set h7 8 v8).2
  have h8 : (((w.setCell ⟨q, 6, none⟩ v6).setCell ⟨q, 7, none⟩ v7).setCell ⟨q, 8, none⟩ v8).heap[q]? = some (.cells #[c0, c1, c2, c3, c4, c5, v6, v7, v8, c9, c10] T (0, 0)) := (boxk_set h7 8 v8).1
  have g9 := (boxk_set h8 9 v9).2
  have h9 : ((((w.setCell ⟨q, 6, none⟩ v6).setCell ⟨q, 7, none⟩ v7).setCell ⟨q, 8, none⟩ v8).setCell ⟨q, 9, none⟩ v9).heap[q]? = some (.cells #[c0, c1, c2, c3, c4, c5, v6, v7, v8, v9, c10] T (0, 0)) := (boxk_set h8 9 v9).1
  have g10 := (boxk_set h9 10 v10).2
  have h10 : (((((w.setCell ⟨q, 6, none⟩ v6).setCell ⟨q, 7, none⟩ v7).setCell ⟨q, 8, none⟩ v8).setCell ⟨q, 9, none⟩ v9).setCell ⟨q, 10, none⟩ v10).heap[q]? = some (.cells #[c0, c1, c2, c3, c4, c5, v6, v7, v8, v9, v10] T (0, 0)) := (boxk_set h9 10 v10).1
  exact ⟨h10, (grown_tt (grown_tt (grown_tt (grown_tt g6 g7) g8) g9) g10)⟩
theorem box11_post {P : Program} {f : Func} {Q : Ending → World → Prop} {x : Exit} {act : Act} {w : World} {q : Nat} {c0 c1 c2 c3 c4 c5 c6 c7 c8 c9 c10 v0 v1 v2 v3 v4 v5 v6 v7 v8 v9 v10 : Value} {T : TypeId} (h : w.heap[q]? = some (.cells #[c0, c1, c2, c3, c4, c5, c6, c7, c8, c9, c10] T (0, 0)))
    (k : ∀ w2, w2.heap[q]? = some (.cells #[v0, v1, v2, v3, v4, v5, v6, v7, v8, v9, v10] T (0, 0)) → w.grownBy w2 (some q) → bodyPost P f Q x act w2) : bodyPost P f Q x act (((((((((((w.setCell ⟨q, 0, none⟩ v0).setCell ⟨q, 1, none⟩ v1).setCell ⟨q, 2, none⟩ v2).setCell ⟨q, 3, none⟩ v3).setCell ⟨q, 4, none⟩ v4).setCell ⟨q, 5, none⟩ v5).setCell ⟨q, 6, none⟩ v6).setCell ⟨q, 7, none⟩ v7).setCell ⟨q, 8, none⟩ v8).setCell ⟨q, 9, none⟩ v9).setCell ⟨q, 10, none⟩ v10) :=
  k _ (box11_set h v0 v1 v2 v3 v4 v5 v6 v7 v8 v9 v10).1 (box11_set h v0 v1 v2 v3 v4 v5 v6 v7 v8 v9 v10).2
end Go.Proofs.YtaflokfgbmlmaacDoor
/-
  A term's text: exprT, and what the tested function answers.
-/
namespace Go.Proofs.YtaflokfgbmlmaacDoor
open Go.RowKit
set_option linter.unusedVariables false

/-- a term's text -/
def exprT (Op : ByteArray) (L R : A5) : ByteArray := if exprB Op L R then (if Op.size = 0 then L.tx else L.tx ++ ⟨#[32]⟩ ++ Op ++ ⟨#[32]⟩ ++ R.tx) else ⟨#[]⟩
theorem exprT_no {Op : ByteArray} {L R : A5} (h : exprB Op L R = false) : exprT Op L R = ⟨#[]⟩ := by unfold exprT; rw [if_neg (by rw [h]; simp)]
theorem exprT_one {L R : A5} (h : exprB ⟨#[]⟩ L R = true) : exprT ⟨#[]⟩ L R = L.tx := by unfold exprT; rw [if_pos h, if_pos (by rfl)]
theorem exprT_two {Op : ByteArray} {L R : A5} (h : exprB Op L R = true) (h0 : Op.size ≠ 0) : exprT Op L R = L.tx ++ ⟨#[32]⟩ ++ Op ++ ⟨#[32]⟩ ++ R.tx := by unfold exprT; rw [if_pos h, if_neg h0]
theorem exprB_left {Op : ByteArray} {L R : A5} (h : exprB Op L R = true) : L.ok = true := by
  rcases op_cases Op with e | e | e | ⟨_, _, _, h0, h1, h2⟩
  · rw [e, exprB0] at h; simp only [mayB, Bool.and_eq_true] at h; exact h.1.1
  · rw [e, exprB1] at h; simp only [mayB, Bool.and_eq_true] at h; exact h.1.1
  · rw [e, exprB2] at h; simp only [mayB, Bool.and_eq_true] at h; exact h.1.1
  · rw [exprB_no L R h0 h1 h2] at h; cases h
theorem exprB_right {Op : ByteArray} {L R : A5} (h : exprB Op L R = true) (hn : Op.size ≠ 0) : R.ok = true ∧ Op.size = 1 := by
  rcases op_cases Op with e | e | e | ⟨_, _, _, h0, h1, h2⟩
  · rw [e] at hn; exact absurd rfl hn
  · rw [e, exprB1] at h; simp only [mayB, Bool.and_eq_true] at h; exact ⟨h.2.1, by rw [e]; rfl⟩
  · rw [e, exprB2] at h; simp only [mayB, Bool.and_eq_true] at h; exact ⟨h.2.1, by rw [e]; rfl⟩
  · rw [exprB_no L R h0 h1 h2] at h; cases h

set_option maxRecDepth 100000 in
set_option maxHeartbeats 3200000 in
theorem implExprText_any (Op : ByteArray) (L R : A5) (w : World) (hl : L.fits) (hr : R.fits) (ht : Tab w) :
    Calls Tryd.prog 18 #[.agg #[.string Op, .int .i64 L.K, .string L.S, .int .i64 L.V.K, .int .i64 L.V.N, .string L.V.S, .int .i64 R.K, .string R.S, .int .i64 R.V.K, .int .i64 R.V.N, .string R.V.S]] w fun e w' => e = .returned (.string (exprT Op L R)) ∧ Below w.heap.size w w' := by
  obtain ⟨tx, htx⟩ : ∃ tx, tx = exprT Op L R := ⟨_, rfl⟩
  rw [← htx]
  have HCo := hide (fun W => implExprOk_any Op L R W hl hr)
  have hN : exprB Op L R = false → tx = ⟨#[]⟩ := fun h => by rw [htx, exprT_no h]
  have hO : exprB Op L R = true → Op.size = 0 → tx = L.tx ∧ L.tx.size ≤ 22 := fun h h0 => by
    obtain rfl := empty_of_size h0
    exact ⟨by rw [htx, exprT_one h], txA_size (exprB_left h)⟩
  have hY : exprB Op L R = true → Op.size ≠ 0 → tx = L.tx ++ ⟨#[32]⟩ ++ Op ++ ⟨#[32]⟩ ++ R.tx ∧ L.tx.size ≤ 22 ∧ R.tx.size ≤ 22 ∧ Op.size = 1 := fun h h0 => ⟨by rw [htx, exprT_two h h0], txA_size (exprB_left h), txA_size (exprB_right h h0).1, (exprB_right h h0).2⟩
  have HA1 := hide (fun W (h : Tab W) => argText_any L.K L.S L.V W hl.1 hl.2 h)
  have HA2 := hide (fun W (h : Tab W) => argText_any R.K R.S R.V W hr.1 hr.2 h)
  obtain ⟨cb, hcb⟩ : ∃ cb, cb = exprB Op L R := ⟨_, rfl⟩
  rw [← hcb] at hN hO hY HCo
  rw [show argT L.K L.S L.V = L.tx from rfl] at HA1
  rw [show argT R.K R.S R.V = R.tx from rfl] at HA2
  generalize L.tx = y at hO hY HA1
  generalize R.tx = z at hY HA2
  have HTab := hide ht
  clear htx hcb ht
  obtain ⟨LK, LS, LVK, LVN, LVS⟩ := L
  obtain ⟨RK, RS, RVK, RVN, RVS⟩ := R
  have hX := boxk_new w #[.string Op, .int .i64 LK, .string LS, .int .i64 LVK, .int .i64 LVN, .string LVS, .int .i64 RK, .string RS, .int .i64 RVK, .int .i64 RVN, .string RVS] 41
  have b0 := below_al w (.cells #[.string Op, .int .i64 LK, .string LS, .int .i64 LVK, .int .i64 LVN, .string LVS, .int .i64 RK, .string RS, .int .i64 RVK, .int .i64 RVN, .string RVS] 41)
  clear hl hr
  go_enter Tryd.func18, Tryd.ntmps18
  go_wp2_with fail
  refine (HCo.out _).mono ?_
  rintro e w1 ⟨rfl, hb⟩
  have HX := hide (box_below hX hb (by simp))
  have hB : Below w.heap.size w w1 := b0.trans (hb.mono b0.size)
  clear hb hX b0 HCo
  cases cb
  · have HN := hide (hN rfl)
    clear hN hY hO
    go_wp2
    go_ret
    exact ⟨by rw [HN.out]; rfl, hB⟩
  by_cases h0 : Op.size = 0
  · obtain ⟨hT, hy⟩ := hO rfl h0
    have HY := hide hT
    obtain rfl := empty_of_size h0
    clear hN hO hY hT
    have x0 := boxk_cell HX.out 0 _ rfl
    have x1 := boxk_cell HX.out 1 _ rfl
    have x2 := boxk_cell HX.out 2 _ rfl
    have x3 := boxk_cell HX.out 3 _ rfl
    have x4 := boxk_cell HX.out 4 _ rfl
    have x5 := boxk_cell HX.out 5 _ rfl
    have x6 := boxk_cell HX.out 6 _ rfl
    have x7 := boxk_cell HX.out 7 _ rfl
    have x8 := boxk_cell HX.out 8 _ rfl
    have x9 := boxk_cell HX.out 9 _ rfl
    have x10 := boxk_cell HX.out 10 _ rfl
    have HT1 := hide (HTab.out.later hB (Nat.le_refl _))
    go_wp2_with fail
    refine (HA1.out _ HT1.out).mono ?_
    rintro e w2 ⟨rfl, hb2⟩
    have hB2 : Below w.heap.size w w2 := hB.trans (hb2.mono hB.size)
    clear hb2 hB x0 x1 x2 x3 x4 x5 x6 x7 x8 x9 x10 HX
    go_wp2_with fail
    refine (cloneS_any _ _ (by omega)).mono ?_
    rintro e w3 ⟨rfl, hb3⟩
    have hB3 : Below w.heap.size w w3 := hB2.trans (hb3.mono hB2.size)
    go_wp2
    go_ret
    exact ⟨by rw [HY.out]; rfl, hB3⟩
  · obtain ⟨hT, hy, hz, ho⟩ := hY rfl h0
    have HY := hide hT
    have k0 := isEmpty_false h0
    clear hN hO hY hT h0
    have n1 : ¬ 9223372036854775807 < y.size + 1 := by omega
    have m1 : y.size + 1 ≤ 9223372036854775807 := by omega
    have n2 : ¬ 9223372036854775807 < y.size + 1 + Op.size := by omega
    have m2 : y.size + 1 + Op.size ≤ 9223372036854775807 := by omega
    have n3 : ¬ 9223372036854775807 < y.size + 1 + Op.size + 1 := by omega
    have m3 : y.size + 1 + Op.size + 1 ≤ 9223372036854775807 := by omega
    have n4 : ¬ 9223372036854775807 < y.size + 1 + Op.size + 1 + z.size := by omega
    have m4 : y.size + 1 + Op.size + 1 + z.size ≤ 9223372036854775807 := by omega
    clear hy hz ho
    have x0 := boxk_cell HX.out 0 _ rfl
    go_wp2_with fail
    clear x0
    have HT1 := hide (show Tab w1.drew from HTab.out.later hB.drew (Nat.le_refl _))
    have X1 := hide (show w1.drew.heap[w.heap.size]? = _ from HX.out)
    have B1 := hide (show Below w.heap.size w w1.drew from hB.drew)
    have x0 := boxk_cell X1.out 0 _ rfl
    have x1 := boxk_cell X1.out 1 _ rfl
    have x2 := boxk_cell X1.out 2 _ rfl
    have x3 := boxk_cell X1.out 3 _ rfl
    have x4 := boxk_cell X1.out 4 _ rfl
    have x5 := boxk_cell X1.out 5 _ rfl
    have x6 := boxk_cell X1.out 6 _ rfl
    have x7 := boxk_cell X1.out 7 _ rfl
    have x8 := boxk_cell X1.out 8 _ rfl
    have x9 := boxk_cell X1.out 9 _ rfl
    have x10 := boxk_cell X1.out 10 _ rfl
    clear HX hB HTab
    go_region_held3 (fun W => W.cell? ⟨w.heap.size, 0, none⟩ = some (.string Op) ∧ W.cell? ⟨w.heap.size, 1, none⟩ = some (.int .i64 LK) ∧ W.cell? ⟨w.heap.size, 2, none⟩ = some (.string LS) ∧ W.cell? ⟨w.heap.size, 3, none⟩ = some (.int .i64 LVK) ∧ W.cell? ⟨w.heap.size, 4, none⟩ = some (.int .i64 LVN) ∧ W.cell? ⟨w.heap.size, 5, none⟩ = some (.string LVS) ∧ W.cell? ⟨w.heap.size, 6, none⟩ = some (.int .i64 RK) ∧ W.cell? ⟨w.heap.size, 7, none⟩ = some (.string RS) ∧ W.cell? ⟨w.heap.size, 8, none⟩ = some (.int .i64 RVK) ∧ W.cell? ⟨w.heap.size, 9, none⟩ = some (.int .i64 RVN) ∧ W.cell? ⟨w.heap.size, 10, none⟩ = some (.string RVS)) (first | exact ⟨x0, x1, x2, x3, x4, x5, x6, x7, x8, x9, x10⟩ | exact ⟨boxk_cell (box_step X1.out b1) 0 _ rfl, boxk_cell (box_step X1.out b1) 1 _ rfl, boxk_cell (box_step X1.out b1) 2 _ rfl, boxk_cell (box_step X1.out b1) 3 _ rfl, boxk_cell (box_step X1.out b1) 4 _ rfl, boxk_cell (box_step X1.out b1) 5 _ rfl, boxk_cell (box_step X1.out b1) 6 _ rfl, boxk_cell (box_step X1.out b1) 7 _ rfl, boxk_cell (box_step X1.out b1) 8 _ rfl, boxk_cell (box_step X1.out b1) 9 _ rfl, boxk_cell (box_step X1.out b1) 10 _ rfl⟩ | exact ⟨boxk_cell (box_step (box_step X1.out b1) b2) 0 _ rfl, boxk_cell (box_step (box_step X1.out b1) b2) 1 _ rfl, boxk_cell (box_step (box_step X1.out b1) b2) 2 _ rfl, boxk_cell (box_step (box_step X1.out b1) b2) 3 _ rfl, boxk_cell (box_step (box_step X1.out b1) b2) 4 _ rfl, boxk_cell (box_step (box_step X1.out b1) b2) 5 _ rfl, boxk_cell (box_step (box_step X1.out b1) b2) 6 _ rfl, boxk_cell (box_step (box_step X1.out b1) b2) 7 _ rfl, boxk_cell (box_step (box_step X1.out b1) b2) 8 _ rfl, boxk_cell (box_step (box_step X1.out b1) b2) 9 _ rfl, boxk_cell (box_step (box_step X1.out b1) b2) 10 _ rfl⟩)
      (first | (go_at_call_of 57 LK; refine (HA1.out _ ?_).mono ?_; (with_reducible exact HT1.out); rintro e u1 ⟨rfl, b1⟩) | (go_at_call_of 57 RK; refine (HA2.out _ ?_).mono ?_; (with_reducible exact HT1.out.later b1 (Nat.le_refl _)); rintro e u2 ⟨rfl, b2⟩))
    all_goals
      have BE : Below w.heap.size w u2 := (B1.out.trans (b1.mono B1.out.size)).trans (b2.mono (B1.out.trans (b1.mono B1.out.size)).size)
      clear b1 b2 X1 B1 HT1 HA1 HA2
      go_wp2
      go_ret
      exact ⟨by rw [HY.out]; rfl, BE⟩
end Go.Proofs.YtaflokfgbmlmaacDoor
/-
  What the functions on a fact's rightness answer: factB, the tested one and the model alike.
-/
namespace Go.Proofs.YtaflokfgbmlmaacDoor
open Go.RowKit
set_option linter.unusedVariables false

def factB (kd : ByteArray) (L : List V3) : Bool := nameB kd && decide (L.length ≤ 5) && L.all V3.ok
theorem all_no {L : List V3} {k : Nat} (hk : k < L.length) (h : valB (vAt L k).K (vAt L k).N (vAt L k).S = false) : L.all V3.ok = false := by
  rw [Bool.eq_false_iff]
  intro ha
  have := List.all_eq_true.1 ha L[k] (List.getElem_mem hk)
  rw [← vAt_in hk] at this
  unfold V3.ok at this
  rw [h] at this; cases this
theorem all_yes {L : List V3} (h : ∀ k, k < L.length → valB (vAt L k).K (vAt L k).N (vAt L k).S = true) : L.all V3.ok = true := by
  rw [List.all_eq_true]
  intro v hv
  obtain ⟨k, hk, rfl⟩ := List.getElem_of_mem hv
  rw [← vAt_in hk]; exact h k hk
theorem below_gn {w w' : World} (h : w.grownBy w' none) : Below w.heap.size w w' := (Below.refl _ _).grown h (Nat.le_refl _) (fun k hk => by cases hk)

set_option maxHeartbeats 1600000 in
theorem l3Vals_any (a : Option Addr) (cap : Nat) (L : List V3) (w : World) (hr : RdV w a L) (hs : ∀ v ∈ L, v.S.size ≤ maxLen) (hm : L.length ≤ 1048580) :
    Calls Tryd.prog 119 #[.slice a L.length cap] w fun e w' =>
      e = .returned (.bool (L.all V3.ok && decide (L.length ≤ 5))) ∧ Below w.heap.size w w' := by
  obtain ⟨n, hN⟩ : ∃ n, n = L.length := ⟨_, rfl⟩
  rw [← hN] at hm ⊢
  have HN := hide hN
  have HS := hide hs
  clear hN hs
  go_enter Tryd.func119, Tryd.ntmps119
  go_wp2
  go_loopw [3] (fun i wr => ∃ (k : Nat), k ≤ n ∧ i = .int .i64 k ∧ (∀ j, j < k → valB (vAt L j).K (vAt L j).N (vAt L j).S = true) ∧ Below w.heap.size w wr) (fun i _ => n - (intOf i).toNat)
  case atStart => exact ⟨0, Nat.zero_le _, rfl, fun j hj => absurd hj (Nat.not_lt_zero _), Below.refl _ _⟩
  case round =>
    obtain ⟨k, hk, rfl, hall, hbel⟩ := hrel
    have HA := hide hall
    clear hall
    by_cases hlt : k < n
    · obtain ⟨b, off, hab, hbw, hc⟩ := hr.open (by rw [← HN.out]; omega)
      obtain ⟨c0, c1, c2⟩ := hc k (by rw [← HN.out]; exact hlt)
      clear hc
      subst hab
      rw [← hbel.cell (p := ⟨b, off + k * 3, none⟩) hbw] at c0
      rw [← hbel.cell (p := ⟨b, off + k * 3 + 1, none⟩) hbw] at c1
      rw [← hbel.cell (p := ⟨b, off + k * 3 + 2, none⟩) hbw] at c2
      have hS : (vAt L k).S.size ≤ maxLen := by rw [vAt_in (by rw [← HN.out]; exact hlt)]; exact HS.out _ (List.getElem_mem _)
      go_wp2_with fail
      refine (specValOk_any _ _ _ _ hS).mono ?_
      rintro e w2 ⟨rfl, g2⟩
      have hbel2 : Below w.heap.size w w2 := hbel.trans ((below_gn g2).mono hbel.size)
      clear g2 hS c0 c1 c2 hbel
      cases hv : valB (vAt L k).K (vAt L k).N (vAt L k).S
      · have HV := hide (all_no (by rw [← HN.out]; exact hlt) hv)
        clear hv
        go_wp2
        go_ret
        exact ⟨ret_bool (by rw [HV.out]; rfl), hbel2⟩
      · have HV := hide hv
        clear hv
        go_wp2
        go_roundw
        case rel => exact ⟨k + 1, by omega, by go_num, fun j hj => by
            by_cases hjk : j = k
            · rw [hjk]; exact HV.out
            · exact HA.out j (by omega), hbel2⟩
        case measure => simp [intOf]; omega
    · have HV : Hid (L.all V3.ok = true) := all_yes (fun j hj => HA.out j (by rw [← HN.out] at hj; omega))
      have HD : Hid (decide ((n : Int) ≤ 5) = decide (n ≤ 5)) := by unfold Hid; exact decide_eq_decide.2 (by omega)
      go_wp2
      go_ret
      exact ⟨ret_bool (by rw [HV.out, Bool.true_and]; exact HD.out), hbel⟩

set_option maxHeartbeats 1600000 in
theorem specFactOk_any (kd : ByteArray) (a : Option Addr) (cap : Nat) (L : List V3) (w : World) (hkd : kd.size ≤ maxLen) (hr : RdV w a L) (hs : ∀ v ∈ L, v.S.size ≤ maxLen) (hm : L.length ≤ 1048580) :
    Calls Tryd.prog 76 #[.agg #[.string kd, .slice a L.length cap]] w fun e w' =>
      e = .returned (.bool (factB kd L)) ∧ Below w.heap.size w w' := by
  have HF : Hid (factB kd L = (nameB kd && (L.all V3.ok && decide (L.length ≤ 5)))) := by unfold Hid factB; rw [Bool.and_assoc, Bool.and_comm (decide _)]
  have b0 := below_al w (.cells #[.string kd, .slice a L.length cap] 71)
  cases hn : nameB kd
  · rw [hn] at HF
    go_enter Tryd.func76, Tryd.ntmps76
    go_wp2_with (go_at_call 52; refine (specNameOk_any _ _ hkd).mono ?_; rintro e w' ⟨rfl, rfl⟩)
    go_ret
    exact ⟨ret_bool HF.out.symm, b0⟩
  · rw [hn] at HF
    go_enter Tryd.func76, Tryd.ntmps76
    go_wp2_with fail
    refine (specNameOk_any _ _ hkd).mono ?_
    rintro e w' ⟨rfl, rfl⟩
    go_wp2_with fail
    refine (l3Vals_any a cap L _ (hr.below b0) hs hm).mono ?_
    rintro e w1 ⟨rfl, hb⟩
    have hB : Below w.heap.size w w1 := b0.trans (hb.mono b0.size)
    generalize (L.all V3.ok && decide (L.length ≤ 5)) = r at HF ⊢
    go_wp2
    go_ret
    exact ⟨ret_bool (by rw [HF.out]; rfl), hB⟩

set_option maxHeartbeats 1600000 in
theorem listV_any (a : Option Addr) (cap : Nat) (L : List V3) (w : World) (hr : RdV w a L) (hs : ∀ v ∈ L, v.S.size ≤ maxLen) (hm : L.length ≤ 1048580) :
    Calls Tryd.prog 132 #[.slice a L.length cap, .int .i64 0, .int .i64 5, .func (.func 72) #[] #[]] w fun e w' =>
      e = .returned (.bool (decide (L.length ≤ 5) && L.all V3.ok)) ∧ Below w.heap.size w w' := by
  obtain ⟨n, hN⟩ : ∃ n, n = L.length := ⟨_, rfl⟩
  rw [← hN] at hm ⊢
  have HN := hide hN
  have HS := hide hs
  clear hN hs
  by_cases h5 : n ≤ 5
  · have HF : Hid ((decide (n ≤ 5) && L.all V3.ok) = L.all V3.ok) := by unfold Hid; rw [decide_eq_true h5]; rfl
    go_enter Tryd.func132, Tryd.ntmps132
    go_wp2
    go_loopw [23] (fun i wr => ∃ (k : Nat), k ≤ n ∧ i = .int .i64 k ∧ (∀ j, j < k → valB (vAt L j).K (vAt L j).N (vAt L j).S = true) ∧ Below w.heap.size w wr) (fun i _ => n - (intOf i).toNat)
    case atStart => exact ⟨0, Nat.zero_le _, rfl, fun j hj => absurd hj (Nat.not_lt_zero _), Below.refl _ _⟩
    case round =>
      obtain ⟨k, hk, rfl, hall, hbel⟩ := hrel
      have HA := hide hall
      clear hall
      by_cases hlt : k < n
      · obtain ⟨b, off, hab, hbw, hc⟩ := hr.open (by rw [← HN.out]; omega)
        obtain ⟨c0, c1, c2⟩ := hc k (by rw [← HN.out]; exact hlt)
        clear hc
        subst hab
        rw [← hbel.cell (p := ⟨b, off + k * 3, none⟩) hbw] at c0
        rw [← hbel.cell (p := ⟨b, off + k * 3 + 1, none⟩) hbw] at c1
        rw [← hbel.cell (p := ⟨b, off + k * 3 + 2, none⟩) hbw] at c2
        have hS : (vAt L k).S.size ≤ maxLen := by rw [vAt_in (by rw [← HN.out]; exact hlt)]; exact HS.out _ (List.getElem_mem _)
        have hbel1 := hbel.alloc hbel.size (.cells #[.int .i64 (vAt L k).K, .int .i64 (vAt L k).N, .string (vAt L k).S] 37)
        go_wp2_with fail
        refine (implValOk_any _ _ _ _ hS).mono ?_
        rintro e w2 ⟨rfl, hb2⟩
        have hbel2 : Below w.heap.size w w2 := hbel1.trans (hb2.mono hbel1.size)
        clear hb2 hS c0 c1 c2 hbel hbel1
        cases hv : valB (vAt L k).K (vAt L k).N (vAt L k).S
        · have HV := hide (all_no (by rw [← HN.out]; exact hlt) hv)
          clear hv
          go_wp2
          go_ret
          exact ⟨ret_bool (by rw [HF.out, HV.out]), hbel2⟩
        · have HV := hide hv
          clear hv
          go_wp2
          go_roundw
          case rel => exact ⟨k + 1, by omega, by go_num, fun j hj => by
              by_cases hjk : j = k
              · rw [hjk]; exact HV.out
              · exact HA.out j (by omega), hbel2⟩
          case measure => simp [intOf]; omega
      · have HV : Hid (L.all V3.ok = true) := all_yes (fun j hj => HA.out j (by rw [← HN.out] at hj; omega))
        go_wp2
        go_ret
        exact ⟨ret_bool (by rw [HF.out, HV.out]), hbel⟩
  · have HF : Hid ((decide (n ≤ 5) && L.all V3.ok) = false) := by unfold Hid; rw [decide_eq_false h5]; rfl
    have hn : (5 : Int) < (n : Int) := by omega
    go_enter Tryd.func132, Tryd.ntmps132
    go_wp2
    go_ret
    exact ⟨ret_bool HF.out.symm, Below.refl _ _⟩

set_option maxHeartbeats 1600000 in
theorem namedV_any (kd : ByteArray) (a : Option Addr) (cap : Nat) (L : List V3) (w : World) (hkd : kd.size ≤ maxLen) (hr : RdV w a L) (hs : ∀ v ∈ L, v.S.size ≤ maxLen) (hm : L.length ≤ 1048580) :
    Calls Tryd.prog 121 #[.string kd, .slice a L.length cap, .func (.func 72) #[] #[]] w fun e w' =>
      e = .returned (.bool (factB kd L)) ∧ Below w.heap.size w w' := by
  have HF : Hid (factB kd L = (nameB kd && (decide (L.length ≤ 5) && L.all V3.ok))) := by unfold Hid factB; rw [Bool.and_assoc]
  cases hn : nameB kd
  · rw [hn] at HF
    go_enter Tryd.func121, Tryd.ntmps121
    go_wp2_with (go_at_call 51; refine (implNameOk_any _ _ hkd).mono ?_; rintro e w' ⟨rfl, rfl⟩)
    go_ret
    exact ⟨ret_bool HF.out.symm, Below.refl _ _⟩
  · rw [hn] at HF
    go_enter Tryd.func121, Tryd.ntmps121
    go_wp2_with fail
    refine (implNameOk_any _ _ hkd).mono ?_
    rintro e w' ⟨rfl, rfl⟩
    go_wp2_with fail
    refine (listV_any a cap L _ hr hs hm).mono ?_
    rintro e w1 ⟨rfl, hb⟩
    generalize (decide (L.length ≤ 5) && L.all V3.ok) = r at HF ⊢
    go_wp2
    go_ret
    exact ⟨ret_bool (by rw [HF.out]; rfl), hb⟩

set_option maxHeartbeats 1600000 in
theorem implFactOk_any (kd : ByteArray) (a : Option Addr) (cap : Nat) (L : List V3) (w : World) (hkd : kd.size ≤ maxLen) (hr : RdV w a L) (hs : ∀ v ∈ L, v.S.size ≤ maxLen) (hm : L.length ≤ 1048580) :
    Calls Tryd.prog 79 #[.agg #[.string kd, .slice a L.length cap]] w fun e w' =>
      e = .returned (.bool (factB kd L)) ∧ Below w.heap.size w w' := by
  have b0 := below_al w (.cells #[.string kd, .slice a L.length cap] 71)
  go_enter Tryd.func79, Tryd.ntmps79
  go_wp2_with fail
  refine (namedV_any kd a cap L _ hkd (hr.below b0) hs hm).mono ?_
  rintro e w1 ⟨rfl, hb⟩
  have hB : Below w.heap.size w w1 := b0.trans (hb.mono b0.size)
  go_wp2
  go_ret
  exact ⟨rfl, hB⟩
end Go.Proofs.YtaflokfgbmlmaacDoor
/-
  The contracts of the laws' own helpers on values: toVal copies, szVal counts the text's bytes off.
-/
namespace Go.Proofs.YtaflokfgbmlmaacDoor
open Go.RowKit
set_option linter.unusedVariables false

set_option maxHeartbeats 800000 in
theorem toVal_any (K N : Int) (S : ByteArray) (w : World) :
    Calls Tryd.prog 120 #[.agg #[.int .i64 K, .int .i64 N, .string S]] w fun e w' =>
      e = .returned (.agg #[.int .i64 K, .int .i64 N, .string S]) ∧ Below w.heap.size w w' := by
  go_enter Tryd.func120, Tryd.ntmps120
  go_wp2
  go_returns
  exact ⟨rfl, by go_grown⟩

set_option maxHeartbeats 800000 in
theorem szVal_any (K N : Int) (S : ByteArray) (left : Int) (w : World) (hs : S.size ≤ maxLen) (h0 : 0 ≤ left) (h1 : left ≤ 1048576) :
    Calls Tryd.prog 118 #[.agg #[.int .i64 K, .int .i64 N, .string S], .int .i64 left] w fun e w' =>
      e = .returned (.int .i64 (if left - (S.size : Int) < 0 then -1 else left - (S.size : Int))) ∧ Below w.heap.size w w' := by
  unfold maxLen at hs
  by_cases h : left - (S.size : Int) < 0
  · rw [if_pos h]
    go_enter Tryd.func118, Tryd.ntmps118
    go_wp2
    go_ret
    exact ⟨rfl, by go_grown⟩
  · rw [if_neg h]
    go_enter Tryd.func118, Tryd.ntmps118
    go_wp2
    go_ret
    exact ⟨rfl, by go_grown⟩
end Go.Proofs.YtaflokfgbmlmaacDoor
/-
  The contract of the laws' own comparison of values: a value is the same as itself.
-/
namespace Go.Proofs.YtaflokfgbmlmaacDoor
open Go.RowKit
set_option linter.unusedVariables false

set_option maxHeartbeats 800000 in
theorem eqVal_same (K N : Int) (S : ByteArray) (w : World) :
    Calls Tryd.prog 124 #[.agg #[.int .i64 K, .int .i64 N, .string S], .agg #[.int .i64 K, .int .i64 N, .string S]] w fun e w' =>
      e = .returned (.bool true) ∧ Below w.heap.size w w' := by
  have k1 : (K != K) = false := by simp
  have k2 : (N != N) = false := by simp
  have k3 : (S.toList == S.toList) = true := by simp
  go_enter Tryd.func124, Tryd.ntmps124
  go_wp2
  go_ret
  exact ⟨rfl, by go_grown⟩
end Go.Proofs.YtaflokfgbmlmaacDoor
/-
  The contracts of the laws' own helpers on rows of values and on facts.
-/
namespace Go.Proofs.YtaflokfgbmlmaacDoor
open Go.RowKit
set_option linter.unusedVariables false

theorem Tryd.info37 : (Tryd.prog.info? 37).map (fun i => (i.zero, i.size, i.bytes)) = some (some (.agg #[.int .i64 0, .int .i64 0, .string ⟨#[]⟩]), 3, 32) := by kernel_rfl

/-- the first k values copied, the rest still zero -/
def partV (L : List V3) (k : Nat) : List V3 := L.take k ++ List.replicate (L.length - k) ⟨0, 0, ⟨#[]⟩⟩
theorem partV_length {L : List V3} {k : Nat} (h : k ≤ L.length) : (partV L k).length = L.length := by simp [partV]; omega
theorem partV_zero (L : List V3) : partV L 0 = List.replicate L.length ⟨0, 0, ⟨#[]⟩⟩ := by simp [partV]
theorem partV_end (L : List V3) : partV L L.length = L := by simp [partV]
theorem cells3_set (L M : List V3) (v : V3) (x : V3) :
    (((cells3 (L ++ x :: M)).set (L.length * 3) (.int .i64 v.K)).set (L.length * 3 + 1) (.int .i64 v.N)).set (L.length * 3 + 2) (.string v.S) = cells3 (L ++ v :: M) := by
  have e : ∀ y : V3, cells3 (L ++ y :: M) = cells3 L ++ (.int .i64 y.K :: .int .i64 y.N :: .string y.S :: cells3 M) := fun y => by simp [cells3]
  have hl := cells3_length L
  rw [e, e, List.set_append_right _ _ (by omega), hl, Nat.sub_self, List.set_append_right _ _ (by omega), hl, List.set_append_right _ _ (by omega), hl]
  simp
theorem partV_set {L : List V3} {k : Nat} (h : k < L.length) :
    (((cells3 (partV L k)).set (k * 3) (.int .i64 (vAt L k).K)).set (k * 3 + 1) (.int .i64 (vAt L k).N)).set (k * 3 + 2) (.string (vAt L k).S) = cells3 (partV L (k + 1)) := by
  have h1 : partV L k = L.take k ++ ⟨0, 0, ⟨#[]⟩⟩ :: List.replicate (L.length - (k + 1)) ⟨0, 0, ⟨#[]⟩⟩ := by
    unfold partV; rw [show L.length - k = (L.length - (k + 1)) + 1 by omega, List.replicate_succ]
  have h2 : partV L (k + 1) = L.take k ++ vAt L k :: List.replicate (L.length - (k + 1)) ⟨0, 0, ⟨#[]⟩⟩ := by
    unfold partV; rw [List.take_succ_eq_append_getElem h, vAt_in h, List.append_assoc]; rfl
  have := cells3_set (L.take k) (List.replicate (L.length - (k + 1)) ⟨0, 0, ⟨#[]⟩⟩) (vAt L k) ⟨0, 0, ⟨#[]⟩⟩
  rw [List.length_take, Nat.min_eq_left (by omega)] at this
  rw [h1, h2]; exact this
theorem made3 (n : Nat) : (madeCells #[Value.int .i64 0, .int .i64 0, .string ⟨#[]⟩] (n * 3)).toList = cells3 (List.replicate n ⟨0, 0, ⟨#[]⟩⟩) := by
  have hl : (madeCells #[Value.int .i64 0, .int .i64 0, .string ⟨#[]⟩] (n * 3)).toList.length = n * 3 := by simp [madeCells]
  apply List.ext_getElem?
  intro j
  by_cases hj : j < n * 3
  · obtain ⟨i, r, rfl, hr⟩ : ∃ i r, j = i * 3 + r ∧ r < 3 := ⟨j / 3, j % 3, by omega, by omega⟩
    have hi : i < (List.replicate n (⟨0, 0, ⟨#[]⟩⟩ : V3)).length := by simp; omega
    obtain ⟨g0, g1, g2⟩ := cells3_get (List.replicate n ⟨0, 0, ⟨#[]⟩⟩) i hi
    have ev : vAt (List.replicate n (⟨0, 0, ⟨#[]⟩⟩ : V3)) i = ⟨0, 0, ⟨#[]⟩⟩ := by rw [vAt_in hi]; simp
    rw [ev] at g0 g1 g2
    match r, hr with
    | 0, _ => rw [Nat.add_zero, g0]; simp [madeCells, show i * 3 < n * 3 by omega]
    | 1, _ => rw [g1]; simp [madeCells, show i * 3 + 1 < n * 3 by omega, show (i * 3 + 1) % 3 = 1 by omega]
    | 2, _ => rw [g2]; simp [madeCells, show i * 3 + 2 < n * 3 by omega, show (i * 3 + 2) % 3 = 2 by omega]
  · rw [List.getElem?_eq_none (by omega), List.getElem?_eq_none (by rw [cells3_length]; simp; omega)]

theorem ownsRow_below {w w' : World} {base n size : Nat} {e : TypeId} {v : Value} {xs : List Value} (h : w.ownsRow base e size v n xs) (hb : Below w.heap.size w w') : w'.ownsRow base e size v n xs := by
  refine ⟨h.1, ?_⟩
  rcases h.2 with h2 | ⟨g, cap, cur, h1, hb', hh, rest⟩
  · exact .inl h2
  · exact .inr ⟨g, cap, cur, h1, hb', by rw [hb.block g (Array.getElem?_eq_some_iff.1 hh).1]; exact hh, rest⟩

set_option maxRecDepth 100000 in
set_option maxHeartbeats 1600000 in
theorem toValS_at (a : Option Addr) (cap : Nat) (L : List V3) (w : World) (hr : RdV w a L) (hn : L.length ≤ 1048576) :
    Calls Tryd.prog 78 #[.slice a L.length cap] w fun e w' =>
      e = .returned (.slice (some ⟨w.heap.size, 0, none⟩) L.length L.length) ∧ w'.ownsRow w.heap.size 37 3 (.slice (some ⟨w.heap.size, 0, none⟩) L.length L.length) L.length (cells3 L) ∧ Below w.heap.size w w' := by
  obtain ⟨i0, hi, hz0, hz1, hz2⟩ := info_parts Tryd.info37
  obtain ⟨n, hN⟩ : ∃ n, n = L.length := ⟨_, rfl⟩
  rw [← hN] at hn ⊢
  have HN := hide hN
  clear hN
  go_enter Tryd.func78, Tryd.ntmps78
  go_wp2_with (at_make; refine wpList_make_full _ rfl _ _ 69 rfl w.heap.size 37 i0 (.agg #[.int .i64 0, .int .i64 0, .string ⟨#[]⟩]) 3 Tryd.underlying69 hi hz0 hz1 _ _ _ _ n rfl rfl (by omega) (by omega) ?b2 ?b3 (Nat.le_refl _) ?_)
  case b2 => rw [hz2]; omega
  case b3 => unfold maxLen; omega
  intro w0 hown0 hgrow0
  rw [made3] at hown0
  go_wp2
  go_loopw [4] (fun i wr => ∃ k : Nat, k ≤ n ∧ i = .int .i64 k ∧ wr.ownsRow w.heap.size 37 3 (.slice (some ⟨w.heap.size, 0, none⟩) n n) n (cells3 (partV L k)) ∧ Below w.heap.size w wr)
    (fun i _ => n - (intOf i).toNat)
  case atStart =>
    refine ⟨0, Nat.zero_le _, rfl, ?_, (Below.refl _ _).grown hgrow0 (Nat.le_refl _) (fun k h => by cases h)⟩
    rw [partV_zero, ← HN.out]
    exact hown0
  case round =>
    obtain ⟨k, hk, rfl, hown, hbel⟩ := hrel
    by_cases hlt : k < n
    · obtain ⟨b, off, hab, hbw, hc⟩ := hr.open (by rw [← HN.out]; omega)
      obtain ⟨c0, c1, c2⟩ := hc k (by rw [← HN.out]; exact hlt)
      clear hc
      subst hab
      rw [← hbel.cell (p := ⟨b, off + k * 3, none⟩) hbw] at c0
      rw [← hbel.cell (p := ⟨b, off + k * 3 + 1, none⟩) hbw] at c1
      rw [← hbel.cell (p := ⟨b, off + k * 3 + 2, none⟩) hbw] at c2
      go_wp2_with fail
      refine (toVal_any _ _ _ _).mono ?_
      rintro e w2 ⟨rfl, hb2⟩
      have hown2 : w2.ownsRow w.heap.size 37 3 (.slice (some ⟨w.heap.size, 0, none⟩) n n) n (cells3 (partV L k)) := ownsRow_below hown hb2
      have hbel2 : Below w.heap.size w w2 := hbel.trans (hb2.mono hbel.size)
      have hlen : (cells3 (partV L k)).length = n * 3 := by rw [cells3_length, partV_length (by rw [← HN.out]; omega), ← HN.out]
      have hmem : ∀ j, j < 3 → ∃ u, w2.cell? ⟨w.heap.size, k * 3 + j, none⟩ = some u := fun j hj => by
        rw [hown2.cellAt (k * 3 + j) (by omega), List.getElem?_eq_getElem (by omega)]
        exact ⟨_, rfl⟩
      obtain ⟨u0, m0⟩ := hmem 0 (by omega)
      obtain ⟨u1, m1⟩ := hmem 1 (by omega)
      obtain ⟨u2, m2⟩ := hmem 2 (by omega)
      rw [Nat.add_zero] at m0
      have f0 := hown2.frozenAt (k * 3)
      have f1 := hown2.frozenAt (k * 3 + 1)
      have f2 := hown2.frozenAt (k * 3 + 2)
      have HO := hide (((hown2.stored (k * 3) (.int .i64 (vAt L k).K)).1.stored (k * 3 + 1) (.int .i64 (vAt L k).N)).1.stored (k * 3 + 2) (.string (vAt L k).S)).1
      have HB : Hid (Below w.heap.size w (((w2.setCell ⟨w.heap.size, k * 3, none⟩ (.int .i64 (vAt L k).K)).setCell ⟨w.heap.size, k * 3 + 1, none⟩ (.int .i64 (vAt L k).N)).setCell ⟨w.heap.size, k * 3 + 2, none⟩ (.string (vAt L k).S))) := ((hbel2.setCell (Nat.le_refl _) _).setCell (Nat.le_refl _) _).setCell (Nat.le_refl _) _
      rw [partV_set (by rw [← HN.out]; exact hlt)] at HO
      clear hmem hlen c0 c1 c2 hown hbel hb2
      generalize (vAt L k).K = K at HO HB ⊢
      generalize (vAt L k).N = N at HO HB ⊢
      generalize (vAt L k).S = S at HO HB ⊢
      clear hown2
      go_wp2
      go_roundw
      case rel => exact ⟨k + 1, by omega, by go_num, HO.out, HB.out⟩
      case measure => simp [intOf]; omega
    · have hkn : k = L.length := by rw [← HN.out]; omega
      have HK : Hid (wr.ownsRow w.heap.size 37 3 (.slice (some ⟨w.heap.size, 0, none⟩) n n) n (cells3 L)) := by
        have := hown
        rw [hkn, partV_end] at this
        exact this
      clear hkn hown
      go_wp2
      go_ret
      exact ⟨rfl, HK.out, hbel⟩

def szL (L : List V3) : Nat := L.length + (L.map fun v => v.S.size).sum
def sumS (L : List V3) (k : Nat) : Nat := ((L.take k).map fun v => v.S.size).sum
theorem sumS_step {L : List V3} {k : Nat} (h : k < L.length) : sumS L (k + 1) = sumS L k + (vAt L k).S.size := by
  unfold sumS; rw [List.take_succ_eq_append_getElem h, vAt_in h, List.map_append, List.sum_append]; simp only [List.map_cons, List.map_nil, List.sum_cons, List.sum_nil, Nat.add_zero]
theorem sumS_end (L : List V3) : sumS L L.length = (L.map fun v => v.S.size).sum := by unfold sumS; rw [List.take_length]
theorem mem_sum : ∀ {l : List Nat} {x : Nat}, x ∈ l → x ≤ l.sum
  | y :: r, x, h => by
    rw [List.sum_cons]
    rcases List.mem_cons.1 h with rfl | h
    · omega
    · have := mem_sum h; omega
theorem szL_mem {L : List V3} {v : V3} (h : v ∈ L) : v.S.size + L.length ≤ szL L := by
  unfold szL
  have : v.S.size ≤ (L.map fun v => v.S.size).sum := mem_sum (List.mem_map.2 ⟨v, h, rfl⟩)
  omega

set_option maxRecDepth 100000 in
set_option maxHeartbeats 1600000 in
theorem szValS_any (a : Option Addr) (cap : Nat) (L : List V3) (left : Int) (w : World) (hr : RdV w a L) (hs : ∀ v ∈ L, v.S.size ≤ maxLen) (hm : L.length ≤ maxLen) (h0 : 0 ≤ left) (h1 : left ≤ 1048576) :
    Calls Tryd.prog 75 #[.slice a L.length cap, .int .i64 left] w fun e w' =>
      (∃ r, e = .returned (.int .i64 r) ∧ (r = -1 ∨ (0 ≤ r ∧ r + (szL L : Int) = left))) ∧ Below w.heap.size w w' := by
  unfold maxLen at hm
  obtain ⟨n, hN⟩ : ∃ n, n = L.length := ⟨_, rfl⟩
  rw [← hN] at hm ⊢
  have HN := hide hN
  have HS := hide hs
  clear hN hs
  by_cases h2 : left - (n : Int) < 0
  · go_enter Tryd.func75, Tryd.ntmps75
    go_wp2
    go_ret
    exact ⟨⟨-1, rfl, .inl rfl⟩, Below.refl _ _⟩
  · go_enter Tryd.func75, Tryd.ntmps75
    go_wp2
    go_loopw [1, 5] (fun l i wr => ∃ (k : Nat) (lf : Int), k ≤ n ∧ i = .int .i64 k ∧ l = .int .i64 lf ∧ 0 ≤ lf ∧ lf + (sumS L k : Int) = left - n ∧ Below w.heap.size w wr) (fun _ i _ => n - (intOf i).toNat)
    case atStart => exact ⟨0, left - n, Nat.zero_le _, rfl, rfl, by omega, by simp [sumS], Below.refl _ _⟩
    case round =>
      obtain ⟨k, lf, hk, rfl, rfl, hlf, hsum, hbel⟩ := hrel
      by_cases hlt : k < n
      · obtain ⟨b, off, hab, hbw, hc⟩ := hr.open (by rw [← HN.out]; omega)
        obtain ⟨c0, c1, c2⟩ := hc k (by rw [← HN.out]; exact hlt)
        clear hc
        subst hab
        rw [← hbel.cell (p := ⟨b, off + k * 3, none⟩) hbw] at c0
        rw [← hbel.cell (p := ⟨b, off + k * 3 + 1, none⟩) hbw] at c1
        rw [← hbel.cell (p := ⟨b, off + k * 3 + 2, none⟩) hbw] at c2
        have hS : (vAt L k).S.size ≤ maxLen := by rw [vAt_in (by rw [← HN.out]; exact hlt)]; exact HS.out _ (List.getElem_mem _)
        have hst := sumS_step (L := L) (k := k) (by rw [← HN.out]; exact hlt)
        generalize (vAt L k).K = K at c0 ⊢
        generalize (vAt L k).N = N at c1 ⊢
        generalize (vAt L k).S = S at c2 hS hst ⊢
        go_wp2_with fail
        refine (szVal_any K N S lf _ hS hlf (by omega)).mono ?_
        rintro e w2 ⟨rfl, hb2⟩
        have hbel2 : Below w.heap.size w w2 := hbel.trans (hb2.mono hbel.size)
        clear hb2 c0 c1 c2 hbel
        by_cases h3 : lf - (S.size : Int) < 0
        · rw [if_pos h3]
          go_wp2
          go_ret
          exact ⟨⟨-1, rfl, .inl rfl⟩, hbel2⟩
        · rw [if_neg h3]
          go_wp2
          go_roundw
          case rel => exact ⟨k + 1, lf - S.size, by omega, by go_num, rfl, by omega, by rw [hst]; omega, hbel2⟩
          case measure => simp [intOf]; omega
      · have HK : Hid (lf + (szL L : Int) = left) := by
          unfold Hid szL
          have := sumS_end L
          have hkn : k = L.length := by rw [← HN.out]; omega
          rw [hkn] at hsum
          have := HN.out
          omega
        go_wp2
        go_ret
        exact ⟨⟨lf, rfl, .inr ⟨hlf, HK.out⟩⟩, hbel⟩

set_option maxRecDepth 100000 in
set_option maxHeartbeats 1600000 in
theorem szFact_any (kd : ByteArray) (a : Option Addr) (cap : Nat) (L : List V3) (left : Int) (w : World) (hkd : kd.size ≤ maxLen) (hr : RdV w a L) (hs : ∀ v ∈ L, v.S.size ≤ maxLen) (hm : L.length ≤ maxLen) (h0 : 0 ≤ left) (h1 : left ≤ 1048576) :
    Calls Tryd.prog 33 #[.agg #[.string kd, .slice a L.length cap], .int .i64 left] w fun e w' =>
      (∃ r, e = .returned (.int .i64 r) ∧ (r = -1 ∨ (0 ≤ r ∧ r + ((kd.size + szL L : Nat) : Int) = left))) ∧ Below w.heap.size w w' := by
  unfold maxLen at hkd
  by_cases h2 : left - (kd.size : Int) < 0
  · go_enter Tryd.func33, Tryd.ntmps33
    go_wp2
    go_ret
    exact ⟨⟨-1, rfl, .inl rfl⟩, by go_grown⟩
  · go_enter Tryd.func33, Tryd.ntmps33
    go_wp2_with fail
    refine (szValS_any a cap L (left - kd.size) _ (hr.below ((Below.refl _ _).alloc (Nat.le_refl _) _)) hs hm (by omega) (by omega)).mono ?_
    rintro e w1 ⟨⟨r, rfl, hr1⟩, hb1⟩
    have hB1 : Below w.heap.size w w1 := ((Below.refl w.heap.size w).alloc (Nat.le_refl _) _).trans (hb1.mono (by simp))
    clear hb1
    rcases hr1 with rfl | ⟨hr2, hr3⟩
    · go_wp2
      go_ret
      exact ⟨⟨-1, rfl, .inl rfl⟩, hB1⟩
    · go_wp2
      go_ret
      exact ⟨⟨r, rfl, .inr ⟨hr2, by omega⟩⟩, hB1⟩

theorem eqVal_any (K N : Int) (S : ByteArray) (w : World) (B : Nat) (h : w.heap.size = B) :
    Calls Tryd.prog 124 #[.agg #[.int .i64 K, .int .i64 N, .string S], .agg #[.int .i64 K, .int .i64 N, .string S]] w fun e w' =>
      e = .returned (.bool true) ∧ Below B w w' := by subst h; exact eqVal_same K N S w
set_option maxRecDepth 100000 in
set_option maxHeartbeats 1600000 in
theorem eqValS_same (a b : Option Addr) (ca cb : Nat) (L : List V3) (w : World) (hr : RdV w a L) (hq : RdV w b L) (hm : L.length ≤ 1048580) :
    Calls Tryd.prog 82 #[.slice a L.length ca, .slice b L.length cb] w fun e w' =>
      e = .returned (.bool true) ∧ Below w.heap.size w w' := by
  obtain ⟨n, hN⟩ : ∃ n, n = L.length := ⟨_, rfl⟩
  rw [← hN] at hm ⊢
  have HN := hide hN
  clear hN
  have hnn : ((n : Int) != (n : Int)) = false := by simp
  go_enter Tryd.func82, Tryd.ntmps82
  go_wp2
  go_loopw [5] (fun i wr => ∃ (k : Nat), k ≤ n ∧ i = .int .i64 k ∧ Below w.heap.size w wr) (fun i _ => n - (intOf i).toNat)
  case atStart => exact ⟨0, Nat.zero_le _, rfl, Below.refl _ _⟩
  case round =>
    obtain ⟨k, hk, rfl, hbel⟩ := hrel
    by_cases hlt : k < n
    · obtain ⟨b1, o1, e1, hbw1, hc1⟩ := hr.open (by rw [← HN.out]; omega)
      obtain ⟨b2, o2, e2, hbw2, hc2⟩ := hq.open (by rw [← HN.out]; omega)
      obtain ⟨c0, c1, c2⟩ := hc1 k (by rw [← HN.out]; exact hlt)
      obtain ⟨d0, d1, d2⟩ := hc2 k (by rw [← HN.out]; exact hlt)
      clear hc1 hc2
      subst e1 e2
      rw [← hbel.cell (p := ⟨b1, o1 + k * 3, none⟩) hbw1] at c0
      rw [← hbel.cell (p := ⟨b1, o1 + k * 3 + 1, none⟩) hbw1] at c1
      rw [← hbel.cell (p := ⟨b1, o1 + k * 3 + 2, none⟩) hbw1] at c2
      rw [← hbel.cell (p := ⟨b2, o2 + k * 3, none⟩) hbw2] at d0
      rw [← hbel.cell (p := ⟨b2, o2 + k * 3 + 1, none⟩) hbw2] at d1
      rw [← hbel.cell (p := ⟨b2, o2 + k * 3 + 2, none⟩) hbw2] at d2
      generalize (vAt L k).K = K at c0 d0
      generalize (vAt L k).N = N at c1 d1
      generalize (vAt L k).S = S at c2 d2
      go_wp2_with fail
      go_region_held3 (fun w' => w'.cell? ⟨b1, o1 + k * 3, none⟩ = some (.int .i64 K) ∧ w'.cell? ⟨b1, o1 + k * 3 + 1, none⟩ = some (.int .i64 N) ∧ w'.cell? ⟨b1, o1 + k * 3 + 2, none⟩ = some (.string S) ∧ w'.cell? ⟨b2, o2 + k * 3, none⟩ = some (.int .i64 K) ∧ w'.cell? ⟨b2, o2 + k * 3 + 1, none⟩ = some (.int .i64 N) ∧ w'.cell? ⟨b2, o2 + k * 3 + 2, none⟩ = some (.string S) ∧ Below w.heap.size w w' ∧ w.heap.size ≤ w'.heap.size) (first | exact ⟨c0, c1, c2, d0, d1, d2, hbel.drew, hbel.size⟩ | exact keep7 (by assumption) (by assumption))
        (first | (go_at_call 124; refine (eqVal_same _ _ _ _).mono ?_; rintro e w2 ⟨rfl, hb⟩))
      all_goals
        obtain ⟨-, -, -, -, -, -, hB2, -⟩ : w2.cell? ⟨b1, o1 + k * 3, none⟩ = some (.int .i64 K) ∧ w2.cell? ⟨b1, o1 + k * 3 + 1, none⟩ = some (.int .i64 N) ∧ w2.cell? ⟨b1, o1 + k * 3 + 2, none⟩ = some (.string S) ∧ w2.cell? ⟨b2, o2 + k * 3, none⟩ = some (.int .i64 K) ∧ w2.cell? ⟨b2, o2 + k * 3 + 1, none⟩ = some (.int .i64 N) ∧ w2.cell? ⟨b2, o2 + k * 3 + 2, none⟩ = some (.string S) ∧ Below w.heap.size w w2 ∧ w.heap.size ≤ w2.heap.size := by assumption
        go_wp2
        go_roundw
        case rel => exact ⟨k + 1, by omega, by go_num, hB2⟩
        case measure => simp [intOf]; omega
    · go_wp2
      go_ret
      exact ⟨rfl, hbel⟩
end Go.Proofs.YtaflokfgbmlmaacDoor
/-
  What the text of a fact is: its kind, and the texts of its values between brackets; the model's and the tested one alike.
-/
namespace Go.Proofs.YtaflokfgbmlmaacDoor
open Go.RowKit
set_option linter.unusedVariables false

/-- the texts with commas between -/
def joinV (L : List V3) : List UInt8 := Lib.join (L.map fun v => v.tx.data.toList) [44]
theorem joinV_nil : joinV [] = [] := rfl
theorem joinV_snoc (L : List V3) (v : V3) : joinV (L ++ [v]) = if L = [] then v.tx.data.toList else joinV L ++ (44 :: v.tx.data.toList) := by
  unfold joinV Lib.join
  induction L with
  | nil => simp [List.intercalate]
  | cons a r ih =>
    rw [if_neg (by simp)]
    cases r with
    | nil => simp [List.intercalate]
    | cons b s =>
      rw [if_neg (by simp)] at ih
      simp only [List.map_append, List.map_cons, List.map_nil, List.cons_append] at ih ⊢
      have e : ∀ (p q : List UInt8) (t : List (List UInt8)), List.intercalate [44] (p :: q :: t) = p ++ (44 :: List.intercalate [44] (q :: t)) := fun p q t => by simp [List.intercalate, List.intersperse]
      rw [e, e, ih]
      simp
theorem joinV_take {L : List V3} (h : ∀ v ∈ L, v.ok = true) : ∀ k, k ≤ L.length → (joinV (L.take k)).length ≤ 23 * k
  | 0, _ => by simp [joinV_nil]
  | k + 1, hk => by
    have ih := joinV_take h k (by omega)
    have h2 := tx_size (h L[k] (List.getElem_mem (by omega)))
    have e : L[k].tx.data.toList.length = L[k].tx.size := by rw [Array.length_toList]; rfl
    rw [List.take_succ_eq_append_getElem (by omega), joinV_snoc]
    split
    · omega
    · simp only [List.length_append, List.length_cons]; omega
def factT (kd : ByteArray) (L : List V3) : ByteArray := if factB kd L then kd ++ (⟨#[40]⟩ ++ ⟨(joinV L).toArray⟩ ++ ⟨#[41]⟩) else ⟨#[]⟩

theorem ok_at {L : List V3} (h : ∀ v ∈ L, v.ok = true) {k : Nat} (hk : k < L.length) : (vAt L k).ok = true := by rw [vAt_in hk]; exact h _ (List.getElem_mem hk)

set_option maxRecDepth 100000 in
set_option maxHeartbeats 1600000 in
theorem l3ValsText_any (a : Option Addr) (cap : Nat) (L : List V3) (w : World) (hr : RdV w a L) (h5 : L.length ≤ 5) (hok : ∀ v ∈ L, v.ok = true) :
    Calls Tryd.prog 77 #[.slice a L.length cap] w fun e w' =>
      e = .returned (.string (⟨#[40]⟩ ++ ⟨(joinV L).toArray⟩ ++ ⟨#[41]⟩)) ∧ Below w.heap.size w w' := by
  have HOk := hide hok
  clear hok
  obtain ⟨n, hN⟩ : ∃ n, n = L.length := ⟨_, rfl⟩
  rw [← hN] at h5 ⊢
  have HN := hide hN
  have c40 : (ByteArray.mk #[40]).size = 1 := rfl
  have c41 : (ByteArray.mk #[41]).size = 1 := rfl
  have c44 : (ByteArray.mk #[44]).size = 1 := rfl
  clear hN
  go_enter Tryd.func77, Tryd.ntmps77
  go_wp2
  go_loopw [3, 4] (fun s i wr => ∃ (k : Nat) (t : ByteArray), k ≤ n ∧ i = .int .i64 k ∧ s = .string t ∧ t.size ≤ 1 + 23 * k ∧ t = ⟨#[40]⟩ ++ ⟨(joinV (L.take k)).toArray⟩ ∧ Below w.heap.size w wr) (fun _ i _ => n - (intOf i).toNat)
  case atStart => exact ⟨0, ⟨#[40]⟩, Nat.zero_le _, rfl, rfl, by omega, by rw [List.take_zero, joinV_nil]; rfl, Below.refl _ _⟩
  case round =>
    obtain ⟨k, t, hk, rfl, rfl, hts, ht, hbel⟩ := hrel
    have HT := hide ht
    clear ht
    by_cases hlt : k < n
    · obtain ⟨b, off, hab, hbw, hc⟩ := hr.open (by rw [← HN.out]; omega)
      obtain ⟨c0, c1, c2⟩ := hc k (by rw [← HN.out]; exact hlt)
      clear hc
      subst hab
      rw [← hbel.cell (p := ⟨b, off + k * 3, none⟩) hbw] at c0
      rw [← hbel.cell (p := ⟨b, off + k * 3 + 1, none⟩) hbw] at c1
      rw [← hbel.cell (p := ⟨b, off + k * 3 + 2, none⟩) hbw] at c2
      have hv := ok_at HOk.out (show k < L.length by rw [← HN.out]; exact hlt)
      have hxs := tx_size hv
      have HTake : Hid (L.take (k + 1) = L.take k ++ [vAt L k]) := by unfold Hid; rw [List.take_succ_eq_append_getElem (by rw [← HN.out]; exact hlt), vAt_in]
      have HV := hide (fun W => l2Text_any (vAt L k).K (vAt L k).N (vAt L k).S W hv)
      rw [show textV (vAt L k).K (vAt L k).N (vAt L k).S = (vAt L k).tx from rfl] at HV
      by_cases h0 : k = 0
      · subst h0
        have HJ : Hid (t ++ (vAt L 0).tx = ⟨#[40]⟩ ++ ⟨(joinV (L.take 1)).toArray⟩) := by
          unfold Hid
          have h1 := HTake.out
          rw [Nat.zero_add, List.take_zero, List.nil_append] at h1
          rw [h1, HT.out, List.take_zero, joinV_nil]
          have e : joinV [vAt L 0] = (vAt L 0).tx.data.toList := by have := joinV_snoc [] (vAt L 0); simpa using this
          rw [e]
          apply ByteArray.ext; apply Array.toList_inj.1; simp
        simp only [Nat.zero_mul, Nat.add_zero] at c0 c1 c2
        generalize (vAt L 0).tx = x at hxs HV HJ
        have hts1 : t.size ≤ 1 := by omega
        clear hv hts
        go_wp2_with fail
        refine (HV.out _).mono ?_
        rintro e w2 ⟨rfl, hb2⟩
        have hbel2 : Below w.heap.size w w2 := hbel.trans (hb2.mono hbel.size)
        clear hb2 hbel c0 c1 c2
        go_wp2
        go_roundw
        case rel => exact ⟨1, t ++ x, by omega, by go_num, rfl, by rw [ByteArray.size_append]; omega, HJ.out, hbel2⟩
        case measure => simp [intOf]; omega
      · have hne : L.take k ≠ [] := fun e => by have := congrArg List.length e; rw [List.length_take, List.length_nil] at this; have := HN.out; omega
        have HJ : Hid (t ++ ⟨#[44]⟩ ++ (vAt L k).tx = ⟨#[40]⟩ ++ ⟨(joinV (L.take (k + 1))).toArray⟩) := by
          unfold Hid
          rw [HTake.out, joinV_snoc, if_neg hne, HT.out]
          apply ByteArray.ext; apply Array.toList_inj.1; simp
        generalize (vAt L k).tx = x at hxs HV HJ
        have hkp : (0 : Int) < (k : Int) := by omega
        clear hv hne h0
        go_wp2_with fail
        refine (HV.out _).mono ?_
        rintro e w2 ⟨rfl, hb2⟩
        have hbel2 : Below w.heap.size w w2 := hbel.trans (hb2.mono hbel.size)
        have hsz2 : (t ++ ⟨#[44]⟩ : ByteArray).size = t.size + 1 := by rw [ByteArray.size_append, c44]
        clear hb2 hbel c0 c1 c2
        go_wp2
        go_roundw
        case rel => exact ⟨k + 1, t ++ ⟨#[44]⟩ ++ x, by omega, by go_num, rfl, by rw [ByteArray.size_append, hsz2]; omega, HJ.out, hbel2⟩
        case measure => simp [intOf]; omega
    · obtain rfl : k = n := by omega
      have HT2 : Hid (t = ⟨#[40]⟩ ++ ⟨(joinV L).toArray⟩) := by
        have := HT.out
        rw [HN.out, List.take_length] at this
        exact this
      go_wp2
      go_ret
      exact ⟨by rw [← HT2.out]; rfl, hbel⟩
end Go.Proofs.YtaflokfgbmlmaacDoor
/-
  What the functions on a pattern's rightness answer: patB, the tested one and the model alike.
-/
namespace Go.Proofs.YtaflokfgbmlmaacDoor
open Go.RowKit
set_option linter.unusedVariables false

def patB (kd : ByteArray) (L : List A5) : Bool := nameB kd && decide (L.length ≤ 5) && L.all A5.ok
theorem allA_no {L : List A5} {k : Nat} (hk : k < L.length) (h : argB (eAt L k).K (eAt L k).S (eAt L k).V = false) : L.all A5.ok = false := by
  rw [Bool.eq_false_iff]
  intro ha
  have := List.all_eq_true.1 ha L[k] (List.getElem_mem hk)
  rw [← eAt_in hk] at this
  unfold A5.ok at this
  rw [h] at this; cases this
theorem allA_yes {L : List A5} (h : ∀ k, k < L.length → argB (eAt L k).K (eAt L k).S (eAt L k).V = true) : L.all A5.ok = true := by
  rw [List.all_eq_true]
  intro v hv
  obtain ⟨k, hk, rfl⟩ := List.getElem_of_mem hv
  rw [← eAt_in hk]; exact h k hk

set_option maxRecDepth 100000 in
set_option maxHeartbeats 1600000 in
theorem specPatOk_any (kd : ByteArray) (a : Option Addr) (cap : Nat) (L : List A5) (nt : Bool) (w : World) (hkd : kd.size ≤ maxLen) (hr : RdArg w a L) (hs : ∀ x ∈ L, x.fits) (hm : L.length ≤ 1048580) :
    Calls Tryd.prog 30 #[.agg #[.string kd, .slice a L.length cap, .bool nt]] w fun e w' =>
      e = .returned (.bool (patB kd L)) ∧ Below w.heap.size w w' := by
  have b0 := below_al w (.cells #[.string kd, .slice a L.length cap, .bool nt] 53)
  have hP := boxk_new w #[.string kd, .slice a L.length cap, .bool nt] 53
  have HF : Hid (patB kd L = (nameB kd && decide (L.length ≤ 5) && L.all A5.ok)) := rfl
  obtain ⟨n, hN⟩ : ∃ n, n = L.length := ⟨_, rfl⟩
  rw [← hN] at hm b0 hP HF ⊢
  have HN := hide hN
  have HS := hide hs
  have HP := hide hP
  clear hN hs hP
  go_enter Tryd.func30, Tryd.ntmps30
  go_wp2
  go_loopw [3] (fun i wr => ∃ (k : Nat), k ≤ n ∧ i = .int .i64 k ∧ (∀ j, j < k → argB (eAt L j).K (eAt L j).S (eAt L j).V = true) ∧ Below (w.alloc (.cells #[.string kd, .slice a n cap, .bool nt] 53)).heap.size (w.alloc (.cells #[.string kd, .slice a n cap, .bool nt] 53)) wr) (fun i _ => n - (intOf i).toNat)
  case atStart => exact ⟨0, Nat.zero_le _, rfl, fun j hj => absurd hj (Nat.not_lt_zero _), Below.refl _ _⟩
  case round =>
    obtain ⟨k, hk, rfl, hall, hbel⟩ := hrel
    have HA := hide hall
    clear hall
    have HP2 := hide (box_below HP.out hbel (by simp))
    have p0 := boxk_cell HP2.out 0 _ rfl
    have p1 := boxk_cell HP2.out 1 _ rfl
    by_cases hlt : k < n
    · obtain ⟨b, off, hab, hbw, hc⟩ := RdArg.cells (hr.below b0) (by rw [← HN.out]; omega)
      obtain ⟨c0, c1, c2, c3, c4⟩ := hc k (by rw [← HN.out]; exact hlt)
      clear hc
      subst hab
      rw [← hbel.cell (p := ⟨b, off + k * 5, none⟩) hbw] at c0
      rw [← hbel.cell (p := ⟨b, off + k * 5 + 1, none⟩) hbw] at c1
      rw [← hbel.cell (p := ⟨b, off + k * 5 + 2, none⟩) hbw] at c2
      rw [← hbel.cell (p := ⟨b, off + k * 5 + 3, none⟩) hbw] at c3
      rw [← hbel.cell (p := ⟨b, off + k * 5 + 4, none⟩) hbw] at c4
      have hS : (eAt L k).fits := by rw [eAt_in (by rw [← HN.out]; exact hlt)]; exact HS.out _ (List.getElem_mem _)
      obtain ⟨hS0, hS1⟩ := hS
      go_wp2_with fail
      refine (specArgOk_any _ _ _ _ _ _ hS0 hS1).mono ?_
      rintro e w2 ⟨rfl, hb2⟩
      have hbel2 := hbel.trans (hb2.mono hbel.size)
      clear hb2 hS0 hS1 c0 c1 c2 c3 c4 hbel p0 p1 HP2
      have hBe := b0.trans (hbel2.mono b0.size)
      cases hv : argB (eAt L k).K (eAt L k).S (eAt L k).V
      · have HV := hide (allA_no (by rw [← HN.out]; exact hlt) hv)
        clear hv
        go_wp2
        go_ret
        exact ⟨ret_bool (by rw [HF.out, HV.out, Bool.and_false]), hBe⟩
      · have HV := hide hv
        clear hv
        go_wp2
        go_roundw
        case rel => exact ⟨k + 1, by omega, by go_num, fun j hj => by
            by_cases hjk : j = k
            · rw [hjk]; exact HV.out
            · exact HA.out j (by omega), hbel2⟩
        case measure => simp [intOf]; omega
    · have HV : Hid (L.all A5.ok = true) := allA_yes (fun j hj => HA.out j (by rw [← HN.out] at hj; omega))
      have hBe := b0.trans (hbel.mono b0.size)
      have HD : Hid (decide ((n : Int) ≤ 5) = decide (n ≤ 5)) := by unfold Hid; exact decide_eq_decide.2 (by omega)
      rw [HV.out, Bool.and_true] at HF
      clear HP2
      cases hn : nameB kd
      · rw [hn] at HF
        go_wp2_with (go_at_call 52; refine (specNameOk_any _ _ hkd).mono ?_; rintro e w' ⟨rfl, rfl⟩; rw [hn])
        go_ret
        exact ⟨ret_bool HF.out.symm, hBe⟩
      · rw [hn] at HF
        go_wp2_with (go_at_call 52; refine (specNameOk_any _ _ hkd).mono ?_; rintro e w' ⟨rfl, rfl⟩; rw [hn])
        go_ret
        exact ⟨ret_bool (by rw [HF.out, Bool.true_and]; exact HD.out), hBe⟩

set_option maxRecDepth 100000 in
set_option maxHeartbeats 1600000 in
theorem listA_any (a : Option Addr) (cap : Nat) (L : List A5) (w : World) (hr : RdArg w a L) (hs : ∀ x ∈ L, x.fits) (hm : L.length ≤ 1048580) :
    Calls Tryd.prog 112 #[.slice a L.length cap, .int .i64 0, .int .i64 5, .func (.func 31) #[] #[]] w fun e w' =>
      e = .returned (.bool (decide (L.length ≤ 5) && L.all A5.ok)) ∧ Below w.heap.size w w' := by
  obtain ⟨n, hN⟩ : ∃ n, n = L.length := ⟨_, rfl⟩
  rw [← hN] at hm ⊢
  have HN := hide hN
  have HS := hide hs
  clear hN hs
  by_cases h5 : n ≤ 5
  · have HF : Hid ((decide (n ≤ 5) && L.all A5.ok) = L.all A5.ok) := by unfold Hid; rw [decide_eq_true h5]; rfl
    go_enter Tryd.func112, Tryd.ntmps112
    go_wp2
    go_loopw [23] (fun i wr => ∃ (k : Nat), k ≤ n ∧ i = .int .i64 k ∧ (∀ j, j < k → argB (eAt L j).K (eAt L j).S (eAt L j).V = true) ∧ Below w.heap.size w wr) (fun i _ => n - (intOf i).toNat)
    case atStart => exact ⟨0, Nat.zero_le _, rfl, fun j hj => absurd hj (Nat.not_lt_zero _), Below.refl _ _⟩
    case round =>
      obtain ⟨k, hk, rfl, hall, hbel⟩ := hrel
      have HA := hide hall
      clear hall
      by_cases hlt : k < n
      · obtain ⟨b, off, hab, hbw, hc⟩ := RdArg.cells hr (by rw [← HN.out]; omega)
        obtain ⟨c0, c1, c2, c3, c4⟩ := hc k (by rw [← HN.out]; exact hlt)
        clear hc
        subst hab
        rw [← hbel.cell (p := ⟨b, off + k * 5, none⟩) hbw] at c0
        rw [← hbel.cell (p := ⟨b, off + k * 5 + 1, none⟩) hbw] at c1
        rw [← hbel.cell (p := ⟨b, off + k * 5 + 2, none⟩) hbw] at c2
        rw [← hbel.cell (p := ⟨b, off + k * 5 + 3, none⟩) hbw] at c3
        rw [← hbel.cell (p := ⟨b, off + k * 5 + 4, none⟩) hbw] at c4
        have hS : (eAt L k).fits := by rw [eAt_in (by rw [← HN.out]; exact hlt)]; exact HS.out _ (List.getElem_mem _)
        obtain ⟨hS0, hS1⟩ := hS
        have hbel1 := hbel.alloc hbel.size (.cells #[.int .i64 (eAt L k).K, .string (eAt L k).S, .int .i64 (eAt L k).V.K, .int .i64 (eAt L k).V.N, .string (eAt L k).V.S] 39)
        go_wp2_with fail
        refine (implArgOk_any _ _ _ _ _ _ hS0 hS1).mono ?_
        rintro e w2 ⟨rfl, hb2⟩
        have hbel2 : Below w.heap.size w w2 := hbel1.trans (hb2.mono hbel1.size)
        clear hb2 hS0 hS1 c0 c1 c2 c3 c4 hbel hbel1
        cases hv : argB (eAt L k).K (eAt L k).S (eAt L k).V
        · have HV := hide (allA_no (by rw [← HN.out]; exact hlt) hv)
          clear hv
          go_wp2
          go_ret
          exact ⟨ret_bool (by rw [HF.out, HV.out]), hbel2⟩
        · have HV := hide hv
          clear hv
          go_wp2
          go_roundw
          case rel => exact ⟨k + 1, by omega, by go_num, fun j hj => by
              by_cases hjk : j = k
              · rw [hjk]; exact HV.out
              · exact HA.out j (by omega), hbel2⟩
          case measure => simp [intOf]; omega
      · have HV : Hid (L.all A5.ok = true) := allA_yes (fun j hj => HA.out j (by rw [← HN.out] at hj; omega))
        go_wp2
        go_ret
        exact ⟨ret_bool (by rw [HF.out, HV.out]), hbel⟩
  · have HF : Hid ((decide (n ≤ 5) && L.all A5.ok) = false) := by unfold Hid; rw [decide_eq_false h5]; rfl
    have hn : (5 : Int) < (n : Int) := by omega
    go_enter Tryd.func112, Tryd.ntmps112
    go_wp2
    go_ret
    exact ⟨ret_bool HF.out.symm, Below.refl _ _⟩

set_option maxRecDepth 100000 in
set_option maxHeartbeats 1600000 in
theorem namedA_any (kd : ByteArray) (a : Option Addr) (cap : Nat) (L : List A5) (w : World) (hkd : kd.size ≤ maxLen) (hr : RdArg w a L) (hs : ∀ x ∈ L, x.fits) (hm : L.length ≤ 1048580) :
    Calls Tryd.prog 70 #[.string kd, .slice a L.length cap, .func (.func 31) #[] #[]] w fun e w' =>
      e = .returned (.bool (patB kd L)) ∧ Below w.heap.size w w' := by
  have HF : Hid (patB kd L = (nameB kd && (decide (L.length ≤ 5) && L.all A5.ok))) := by unfold Hid patB; rw [Bool.and_assoc]
  cases hn : nameB kd
  · rw [hn] at HF
    go_enter Tryd.func70, Tryd.ntmps70
    go_wp2_with (go_at_call 51; refine (implNameOk_any _ _ hkd).mono ?_; rintro e w' ⟨rfl, rfl⟩)
    go_ret
    exact ⟨ret_bool HF.out.symm, Below.refl _ _⟩
  · rw [hn] at HF
    go_enter Tryd.func70, Tryd.ntmps70
    go_wp2_with fail
    refine (implNameOk_any _ _ hkd).mono ?_
    rintro e w' ⟨rfl, rfl⟩
    go_wp2_with fail
    refine (listA_any a cap L _ hr hs hm).mono ?_
    rintro e w1 ⟨rfl, hb⟩
    generalize (decide (L.length ≤ 5) && L.all A5.ok) = r at HF ⊢
    go_wp2
    go_ret
    exact ⟨ret_bool (by rw [HF.out]; rfl), hb⟩

set_option maxRecDepth 100000 in
set_option maxHeartbeats 1600000 in
theorem implPatOk_any (kd : ByteArray) (a : Option Addr) (cap : Nat) (L : List A5) (nt : Bool) (w : World) (hkd : kd.size ≤ maxLen) (hr : RdArg w a L) (hs : ∀ x ∈ L, x.fits) (hm : L.length ≤ 1048580) :
    Calls Tryd.prog 29 #[.agg #[.string kd, .slice a L.length cap, .bool nt]] w fun e w' =>
      e = .returned (.bool (patB kd L)) ∧ Below w.heap.size w w' := by
  have b0 := below_al w (.cells #[.string kd, .slice a L.length cap, .bool nt] 53)
  go_enter Tryd.func29, Tryd.ntmps29
  go_wp2_with fail
  refine (namedA_any kd a cap L _ hkd (hr.below b0) hs hm).mono ?_
  rintro e w1 ⟨rfl, hb⟩
  have hB : Below w.heap.size w w1 := b0.trans (hb.mono b0.size)
  go_wp2
  go_ret
  exact ⟨rfl, hB⟩
end Go.Proofs.YtaflokfgbmlmaacDoor
/-
  What the text of a pattern is: a sign where it is Not, its kind, and the texts of its arguments between brackets; the model's.
-/
namespace Go.Proofs.YtaflokfgbmlmaacDoor
open Go.RowKit
set_option linter.unusedVariables false

/-- the texts with a comma and a blank between -/
def joinA (L : List A5) : List UInt8 := Lib.join (L.map fun v => v.tx.data.toList) [44, 32]
theorem joinA_nil : joinA [] = [] := rfl
theorem joinA_snoc (L : List A5) (v : A5) : joinA (L ++ [v]) = if L = [] then v.tx.data.toList else joinA L ++ (44 :: 32 :: v.tx.data.toList) := by
  unfold joinA Lib.join
  induction L with
  | nil => simp [List.intercalate]
  | cons a r ih =>
    rw [if_neg (by simp)]
    cases r with
    | nil => simp [List.intercalate]
    | cons b s =>
      rw [if_neg (by simp)] at ih
      simp only [List.map_append, List.map_cons, List.map_nil, List.cons_append] at ih ⊢
      have e : ∀ (p q : List UInt8) (t : List (List UInt8)), List.intercalate [44, 32] (p :: q :: t) = p ++ (44 :: 32 :: List.intercalate [44, 32] (q :: t)) := fun p q t => by simp [List.intercalate, List.intersperse]
      rw [e, e, ih]
      simp
theorem joinA_take {L : List A5} (h : ∀ v ∈ L, v.ok = true) : ∀ k, k ≤ L.length → (joinA (L.take k)).length ≤ 24 * k
  | 0, _ => by simp [joinA_nil]
  | k + 1, hk => by
    have ih := joinA_take h k (by omega)
    have h2 := txA_size (h L[k] (List.getElem_mem (by omega)))
    have e : L[k].tx.data.toList.length = L[k].tx.size := by rw [Array.length_toList]; rfl
    rw [List.take_succ_eq_append_getElem (by omega), joinA_snoc]
    split
    · omega
    · simp only [List.length_append, List.length_cons]; omega
theorem joinA_le {L : List A5} (h : ∀ v ∈ L, v.ok = true) : (joinA L).length ≤ 24 * L.length := by
  have := joinA_take h L.length (Nat.le_refl _)
  rwa [List.take_length] at this
def notT (nt : Bool) (t : ByteArray) : ByteArray := if nt then ⟨#[33]⟩ ++ t else t
def patT (kd : ByteArray) (L : List A5) (nt : Bool) : ByteArray := if patB kd L then notT nt (kd ++ ⟨#[40]⟩) ++ ⟨(joinA L).toArray⟩ ++ ⟨#[41]⟩ else ⟨#[]⟩
theorem patT_no {kd : ByteArray} {L : List A5} {nt : Bool} (h : patB kd L = false) : patT kd L nt = ⟨#[]⟩ := by unfold patT; rw [if_neg (by rw [h]; simp)]
theorem patT_yes {kd : ByteArray} {L : List A5} {nt : Bool} (h : patB kd L = true) : patT kd L nt = notT nt (kd ++ ⟨#[40]⟩) ++ ⟨(joinA L).toArray⟩ ++ ⟨#[41]⟩ := by unfold patT; rw [if_pos h]
theorem patB_open {kd : ByteArray} {L : List A5} (h : patB kd L = true) : nameB kd = true ∧ L.length ≤ 5 ∧ ∀ v ∈ L, v.ok = true := by
  unfold patB at h
  simp only [Bool.and_eq_true, decide_eq_true_eq, List.all_eq_true] at h
  exact ⟨h.1.1, h.1.2, h.2⟩
theorem nameP_size {s : ByteArray} (h : nameB s = true) : s.size ≤ 12 := by
  unfold nameB inB at h
  simp only [Bool.and_eq_true, decide_eq_true_eq] at h
  omega

set_option maxRecDepth 100000 in
set_option maxHeartbeats 3200000 in
theorem specPatText_any (kd : ByteArray) (a : Option Addr) (cap : Nat) (L : List A5) (nt : Bool) (w : World) (hkd : kd.size ≤ maxLen) (hr : RdArg w a L) (hs : ∀ x ∈ L, x.fits) (hm : L.length ≤ 1048580) :
    Calls Tryd.prog 21 #[.agg #[.string kd, .slice a L.length cap, .bool nt]] w fun e w' =>
      e = .returned (.string (patT kd L nt)) ∧ Below w.heap.size w w' := by
  have b0 := below_al w (.cells #[.string kd, .slice a L.length cap, .bool nt] 53)
  have hP := boxk_new w #[.string kd, .slice a L.length cap, .bool nt] 53
  go_enter Tryd.func21, Tryd.ntmps21
  go_wp2_with fail
  refine (specPatOk_any kd a cap L nt _ hkd (hr.below b0) hs hm).mono ?_
  rintro e w1 ⟨rfl, hb1⟩
  have HP := hide (box_below hP hb1 (by simp))
  have hB1 : Below w.heap.size w w1 := b0.trans (hb1.mono b0.size)
  have hz1 : w.heap.size < w1.heap.size := Nat.lt_of_lt_of_le (by simp) hb1.size
  clear hb1 b0 hP
  cases hv : patB kd L
  · have HV := hide (patT_no (nt := nt) hv)
    clear hv
    go_wp2
    go_ret
    exact ⟨by rw [HV.out]; rfl, hB1⟩
  · obtain ⟨hn, h5, hok⟩ := patB_open hv
    have HV := hide (patT_yes (nt := nt) hv)
    have HOk := hide hok
    have hkn := nameP_size hn
    clear hv hok hn hm
    obtain ⟨n, hN⟩ : ∃ n, n = L.length := ⟨_, rfl⟩
    obtain ⟨p0, p1, p2, -, -, -⟩ := box_cell HP.out
    rw [← hN] at h5 HP p1 ⊢
    have HN := hide hN
    clear hN
    have c40 : (ByteArray.mk #[40]).size = 1 := rfl
    have c41 : (ByteArray.mk #[41]).size = 1 := rfl
    have c33 : (ByteArray.mk #[33]).size = 1 := rfl
    have c44 : (ByteArray.mk #[44, 32]).size = 2 := rfl
    obtain ⟨pre, hpre⟩ : ∃ pre, pre = notT nt (kd ++ ⟨#[40]⟩) := ⟨_, rfl⟩
    have hps : pre.size ≤ 14 := by
      rw [hpre]; unfold notT
      cases nt
      · simp only [Bool.false_eq_true, if_false, ByteArray.size_append, c40]; omega
      · simp only [if_true, ByteArray.size_append, c40, c33]; omega
    rw [← hpre] at HV
    have HPre := hide hpre
    have hk1 : (kd ++ ⟨#[40]⟩ : ByteArray).size = kd.size + 1 := by rw [ByteArray.size_append, c40]
    have HLoop : Hid (∀ (Q : Exit → Act → World → Prop), True) := fun _ => trivial
    clear hpre HLoop
    cases nt
    all_goals
      rw [show notT _ (kd ++ (⟨#[40]⟩ : ByteArray)) = _ from rfl] at HPre
      go_wp2
      go_loopw [3, 4] (fun s i wr => ∃ (k : Nat) (t : ByteArray), k ≤ n ∧ i = .int .i64 k ∧ s = .string t ∧ t.size ≤ 14 + 24 * k ∧ t = pre ++ ⟨(joinA (L.take k)).toArray⟩ ∧ Below w1.heap.size w1 wr) (fun _ i _ => n - (intOf i).toNat)
      case atStart =>
        refine ⟨0, pre, Nat.zero_le _, rfl, ?_, by omega, by rw [List.take_zero, joinA_nil]; apply ByteArray.ext; apply Array.toList_inj.1; simp, Below.refl _ _⟩
        rw [HPre.out]
        rfl
      case round =>
        clear p0 p1 p2
        obtain ⟨k, t, hk, rfl, rfl, hts, ht, hbel⟩ := hrel
        have HT := hide ht
        clear ht
        have hB : Below w.heap.size w wr := hB1.trans (hbel.mono hB1.size)
        have p1 := boxk_cell (box_below HP.out hbel hz1) 1 _ rfl
        by_cases hlt : k < n
        · obtain ⟨b, off, hab, hbw, hc⟩ := RdArg.cells (hr.below hB) (by rw [← HN.out]; omega)
          obtain ⟨c0, c1, c2, c3, c4⟩ := hc k (by rw [← HN.out]; exact hlt)
          clear hc
          subst hab
          have hv : (eAt L k).ok = true := by rw [eAt_in (by rw [← HN.out]; exact hlt)]; exact HOk.out _ (List.getElem_mem _)
          have hxs := txA_size hv
          have HTake : Hid (L.take (k + 1) = L.take k ++ [eAt L k]) := by unfold Hid; rw [List.take_succ_eq_append_getElem (by rw [← HN.out]; exact hlt), eAt_in]
          have HVx := hide (fun W => l6ArgText_any (eAt L k).K (eAt L k).S (eAt L k).V W hv)
          rw [show argT (eAt L k).K (eAt L k).S (eAt L k).V = (eAt L k).tx from rfl] at HVx
          by_cases h0 : k = 0
          · subst h0
            have HJ : Hid (t ++ (eAt L 0).tx = pre ++ ⟨(joinA (L.take 1)).toArray⟩) := by
              unfold Hid
              have h1 := HTake.out
              rw [Nat.zero_add, List.take_zero, List.nil_append] at h1
              rw [h1, HT.out, List.take_zero, joinA_nil]
              have e : joinA [eAt L 0] = (eAt L 0).tx.data.toList := by have := joinA_snoc [] (eAt L 0); simpa using this
              rw [e]
              apply ByteArray.ext; apply Array.toList_inj.1; simp
            simp only [Nat.zero_mul, Nat.add_zero] at c0 c1 c2 c3 c4
            generalize (eAt L 0).tx = x at hxs HVx HJ
            have hts1 : t.size ≤ 14 := by omega
            clear hv hts
            go_wp2_with fail
            refine (HVx.out _).mono ?_
            rintro e w2 ⟨rfl, hb2⟩
            have hbel2 : Below w1.heap.size w1 w2 := hbel.trans (hb2.mono hbel.size)
            clear hb2 hbel c0 c1 c2 c3 c4 p1 hB
            go_wp2
            go_roundw
            case rel => exact ⟨1, t ++ x, by omega, by go_num, rfl, by rw [ByteArray.size_append]; omega, HJ.out, hbel2⟩
            case measure => simp [intOf]; omega
          · have hne : L.take k ≠ [] := fun e => by have := congrArg List.length e; rw [List.length_take, List.length_nil] at this; have := HN.out; omega
            have HJ : Hid (t ++ ⟨#[44, 32]⟩ ++ (eAt L k).tx = pre ++ ⟨(joinA (L.take (k + 1))).toArray⟩) := by
              unfold Hid
              rw [HTake.out, joinA_snoc, if_neg hne, HT.out]
              apply ByteArray.ext; apply Array.toList_inj.1; simp
            generalize (eAt L k).tx = x at hxs HVx HJ
            have hkp : (0 : Int) < (k : Int) := by omega
            clear hv hne h0
            go_wp2_with fail
            refine (HVx.out _).mono ?_
            rintro e w2 ⟨rfl, hb2⟩
            have hbel2 : Below w1.heap.size w1 w2 := hbel.trans (hb2.mono hbel.size)
            have hsz2 : (t ++ ⟨#[44, 32]⟩ : ByteArray).size = t.size + 2 := by rw [ByteArray.size_append, c44]
            clear hb2 hbel c0 c1 c2 c3 c4 p1 hB
            go_wp2
            go_roundw
            case rel => exact ⟨k + 1, t ++ ⟨#[44, 32]⟩ ++ x, by omega, by go_num, rfl, by rw [ByteArray.size_append, hsz2]; omega, HJ.out, hbel2⟩
            case measure => simp [intOf]; omega
        · obtain rfl : k = n := by omega
          have HT2 : Hid (t = pre ++ ⟨(joinA L).toArray⟩) := by
            have := HT.out
            rw [HN.out, List.take_length] at this
            exact this
          go_wp2
          go_ret
          exact ⟨by rw [HV.out, ← HT2.out]; rfl, hB⟩
end Go.Proofs.YtaflokfgbmlmaacDoor
/-
  A name with at most five terms: what the tested program's question and the model's answer: namedX.
-/
namespace Go.Proofs.YtaflokfgbmlmaacDoor
open Go.RowKit
set_option linter.unusedVariables false

def namedX (nm : ByteArray) (L : List X11) : Bool := nameB nm && decide (L.length ≤ 5) && L.all X11.ok
theorem allX_no {L : List X11} {k : Nat} (hk : k < L.length) (h : exprB (eAt L k).Op (eAt L k).L (eAt L k).R = false) : L.all X11.ok = false := by
  rw [Bool.eq_false_iff]
  intro ha
  have := List.all_eq_true.1 ha L[k] (List.getElem_mem hk)
  rw [← eAt_in hk] at this
  unfold X11.ok at this
  rw [h] at this; cases this
theorem allX_yes {L : List X11} (h : ∀ k, k < L.length → exprB (eAt L k).Op (eAt L k).L (eAt L k).R = true) : L.all X11.ok = true := by
  rw [List.all_eq_true]
  intro v hv
  obtain ⟨k, hk, rfl⟩ := List.getElem_of_mem hv
  rw [← eAt_in hk]; exact h k hk

set_option maxRecDepth 100000 in
set_option maxHeartbeats 3200000 in
theorem l8Args_any (a : Option Addr) (cap : Nat) (L : List X11) (w : World) (hr : RdExpr w a L) (hs : ∀ x ∈ L, x.fits) (hm : L.length ≤ 1048580) :
    Calls Tryd.prog 53 #[.slice a L.length cap] w fun e w' =>
      e = .returned (.bool (L.all X11.ok && decide (L.length ≤ 5))) ∧ Below w.heap.size w w' := by
  obtain ⟨n, hN⟩ : ∃ n, n = L.length := ⟨_, rfl⟩
  rw [← hN] at hm ⊢
  have HN := hide hN
  have HS := hide hs
  clear hN hs
  go_enter Tryd.func53, Tryd.ntmps53
  go_wp2
  go_loopw [3] (fun i wr => ∃ (k : Nat), k ≤ n ∧ i = .int .i64 k ∧ (∀ j, j < k → exprB (eAt L j).Op (eAt L j).L (eAt L j).R = true) ∧ Below w.heap.size w wr) (fun i _ => n - (intOf i).toNat)
  case atStart => exact ⟨0, Nat.zero_le _, rfl, fun j hj => absurd hj (Nat.not_lt_zero _), Below.refl _ _⟩
  case round =>
    obtain ⟨k, hk, rfl, hall, hbel⟩ := hrel
    have HA := hide hall
    clear hall
    by_cases hlt : k < n
    · obtain ⟨b, off, hab, hbw, hc⟩ := RdExpr.cells hr (by rw [← HN.out]; omega)
      obtain ⟨c0, c1, c2, c3, c4, c5, c6, c7, c8, c9, c10⟩ := hc k (by rw [← HN.out]; exact hlt)
      clear hc
      subst hab
      rw [← hbel.cell (p := ⟨b, off + k * 11, none⟩) hbw] at c0
      rw [← hbel.cell (p := ⟨b, off + k * 11 + 1, none⟩) hbw] at c1
      rw [← hbel.cell (p := ⟨b, off + k * 11 + 2, none⟩) hbw] at c2
      rw [← hbel.cell (p := ⟨b, off + k * 11 + 3, none⟩) hbw] at c3
      rw [← hbel.cell (p := ⟨b, off + k * 11 + 4, none⟩) hbw] at c4
      rw [← hbel.cell (p := ⟨b, off + k * 11 + 5, none⟩) hbw] at c5
      rw [← hbel.cell (p := ⟨b, off + k * 11 + 6, none⟩) hbw] at c6
      rw [← hbel.cell (p := ⟨b, off + k * 11 + 7, none⟩) hbw] at c7
      rw [← hbel.cell (p := ⟨b, off + k * 11 + 8, none⟩) hbw] at c8
      rw [← hbel.cell (p := ⟨b, off + k * 11 + 9, none⟩) hbw] at c9
      rw [← hbel.cell (p := ⟨b, off + k * 11 + 10, none⟩) hbw] at c10
      have hS : (eAt L k).fits := by rw [eAt_in (by rw [← HN.out]; exact hlt)]; exact HS.out _ (List.getElem_mem _)
      obtain ⟨hS0, hS1, hS2⟩ := hS
      go_wp2_with fail
      refine (specExprOk_any _ (eAt L k).L (eAt L k).R _ hS1 hS2).mono ?_
      rintro e w2 ⟨rfl, hb2⟩
      have hbel2 : Below w.heap.size w w2 := hbel.trans (hb2.mono hbel.size)
      clear hb2 hS0 hS1 hS2 c0 c1 c2 c3 c4 c5 c6 c7 c8 c9 c10 hbel
      cases hv : exprB (eAt L k).Op (eAt L k).L (eAt L k).R
      · have HV := hide (allX_no (by rw [← HN.out]; exact hlt) hv)
        clear hv
        go_wp2
        go_ret
        exact ⟨ret_bool (by rw [HV.out]; rfl), hbel2⟩
      · have HV := hide hv
        clear hv
        go_wp2
        go_roundw
        case rel => exact ⟨k + 1, by omega, by go_num, fun j hj => by
            by_cases hjk : j = k
            · rw [hjk]; exact HV.out
            · exact HA.out j (by omega), hbel2⟩
        case measure => simp [intOf]; omega
    · have HV : Hid (L.all X11.ok = true) := allX_yes (fun j hj => HA.out j (by rw [← HN.out] at hj; omega))
      have HD : Hid (decide ((n : Int) ≤ 5) = decide (n ≤ 5)) := by unfold Hid; exact decide_eq_decide.2 (by omega)
      go_wp2
      go_ret
      exact ⟨ret_bool (by rw [HV.out, Bool.true_and]; exact HD.out), hbel⟩

set_option maxRecDepth 100000 in
set_option maxHeartbeats 3200000 in
theorem listX_any (a : Option Addr) (cap : Nat) (L : List X11) (w : World) (hr : RdExpr w a L) (hs : ∀ x ∈ L, x.fits) (hm : L.length ≤ 1048580) :
    Calls Tryd.prog 128 #[.slice a L.length cap, .int .i64 0, .int .i64 5, .func (.func 55) #[] #[]] w fun e w' =>
      e = .returned (.bool (decide (L.length ≤ 5) && L.all X11.ok)) ∧ Below w.heap.size w w' := by
  obtain ⟨n, hN⟩ : ∃ n, n = L.length := ⟨_, rfl⟩
  rw [← hN] at hm ⊢
  have HN := hide hN
  have HS := hide hs
  clear hN hs
  by_cases h5 : n ≤ 5
  · have HF : Hid ((decide (n ≤ 5) && L.all X11.ok) = L.all X11.ok) := by unfold Hid; rw [decide_eq_true h5]; rfl
    go_enter Tryd.func128, Tryd.ntmps128
    go_wp2
    go_loopw [23] (fun i wr => ∃ (k : Nat), k ≤ n ∧ i = .int .i64 k ∧ (∀ j, j < k → exprB (eAt L j).Op (eAt L j).L (eAt L j).R = true) ∧ Below w.heap.size w wr) (fun i _ => n - (intOf i).toNat)
    case atStart => exact ⟨0, Nat.zero_le _, rfl, fun j hj => absurd hj (Nat.not_lt_zero _), Below.refl _ _⟩
    case round =>
      obtain ⟨k, hk, rfl, hall, hbel⟩ := hrel
      have HA := hide hall
      clear hall
      by_cases hlt : k < n
      · obtain ⟨b, off, hab, hbw, hc⟩ := RdExpr.cells hr (by rw [← HN.out]; omega)
        obtain ⟨c0, c1, c2, c3, c4, c5, c6, c7, c8, c9, c10⟩ := hc k (by rw [← HN.out]; exact hlt)
        clear hc
        subst hab
        rw [← hbel.cell (p := ⟨b, off + k * 11, none⟩) hbw] at c0
        rw [← hbel.cell (p := ⟨b, off + k * 11 + 1, none⟩) hbw] at c1
        rw [← hbel.cell (p := ⟨b, off + k * 11 + 2, none⟩) hbw] at c2
        rw [← hbel.cell (p := ⟨b, off + k * 11 + 3, none⟩) hbw] at c3
        rw [← hbel.cell (p := ⟨b, off + k * 11 + 4, none⟩) hbw] at c4
        rw [← hbel.cell (p := ⟨b, off + k * 11 + 5, none⟩) hbw] at c5
        rw [← hbel.cell (p := ⟨b, off + k * 11 + 6, none⟩) hbw] at c6
        rw [← hbel.cell (p := ⟨b, off + k * 11 + 7, none⟩) hbw] at c7
        rw [← hbel.cell (p := ⟨b, off + k * 11 + 8, none⟩) hbw] at c8
        rw [← hbel.cell (p := ⟨b, off + k * 11 + 9, none⟩) hbw] at c9
        rw [← hbel.cell (p := ⟨b, off + k * 11 + 10, none⟩) hbw] at c10
        have hS : (eAt L k).fits := by rw [eAt_in (by rw [← HN.out]; exact hlt)]; exact HS.out _ (List.getElem_mem _)
        obtain ⟨hS0, hS1, hS2⟩ := hS
        have hbel1 := hbel.alloc hbel.size (.cells #[.string (eAt L k).Op, .int .i64 (eAt L k).L.K, .string (eAt L k).L.S, .int .i64 (eAt L k).L.V.K, .int .i64 (eAt L k).L.V.N, .string (eAt L k).L.V.S, .int .i64 (eAt L k).R.K, .string (eAt L k).R.S, .int .i64 (eAt L k).R.V.K, .int .i64 (eAt L k).R.V.N, .string (eAt L k).R.V.S] 41)
        go_wp2_with fail
        refine (implExprOk_any _ (eAt L k).L (eAt L k).R _ hS1 hS2).mono ?_
        rintro e w2 ⟨rfl, hb2⟩
        have hbel2 : Below w.heap.size w w2 := hbel1.trans (hb2.mono hbel1.size)
        clear hb2 hS0 hS1 hS2 c0 c1 c2 c3 c4 c5 c6 c7 c8 c9 c10 hbel hbel1
        cases hv : exprB (eAt L k).Op (eAt L k).L (eAt L k).R
        · have HV := hide (allX_no (by rw [← HN.out]; exact hlt) hv)
          clear hv
          go_wp2
          go_ret
          exact ⟨ret_bool (by rw [HF.out, HV.out]), hbel2⟩
        · have HV := hide hv
          clear hv
          go_wp2
          go_roundw
          case rel => exact ⟨k + 1, by omega, by go_num, fun j hj => by
              by_cases hjk : j = k
              · rw [hjk]; exact HV.out
              · exact HA.out j (by omega), hbel2⟩
          case measure => simp [intOf]; omega
      · have HV : Hid (L.all X11.ok = true) := allX_yes (fun j hj => HA.out j (by rw [← HN.out] at hj; omega))
        go_wp2
        go_ret
        exact ⟨ret_bool (by rw [HF.out, HV.out]), hbel⟩
  · have HF : Hid ((decide (n ≤ 5) && L.all X11.ok) = false) := by unfold Hid; rw [decide_eq_false h5]; rfl
    have hn : (5 : Int) < (n : Int) := by omega
    go_enter Tryd.func128, Tryd.ntmps128
    go_wp2
    go_ret
    exact ⟨ret_bool HF.out.symm, Below.refl _ _⟩

set_option maxRecDepth 100000 in
set_option maxHeartbeats 3200000 in
theorem namedX_any (kd : ByteArray) (a : Option Addr) (cap : Nat) (L : List X11) (w : World) (hkd : kd.size ≤ maxLen) (hr : RdExpr w a L) (hs : ∀ x ∈ L, x.fits) (hm : L.length ≤ 1048580) :
    Calls Tryd.prog 92 #[.string kd, .slice a L.length cap, .func (.func 55) #[] #[]] w fun e w' =>
      e = .returned (.bool (namedX kd L)) ∧ Below w.heap.size w w' := by
  have HF : Hid (namedX kd L = (nameB kd && (decide (L.length ≤ 5) && L.all X11.ok))) := by unfold Hid namedX; rw [Bool.and_assoc]
  cases hn : nameB kd
  · rw [hn] at HF
    go_enter Tryd.func92, Tryd.ntmps92
    go_wp2_with (go_at_call 51; refine (implNameOk_any _ _ hkd).mono ?_; rintro e w' ⟨rfl, rfl⟩)
    go_ret
    exact ⟨ret_bool HF.out.symm, Below.refl _ _⟩
  · rw [hn] at HF
    go_enter Tryd.func92, Tryd.ntmps92
    go_wp2_with fail
    refine (implNameOk_any _ _ hkd).mono ?_
    rintro e w' ⟨rfl, rfl⟩
    go_wp2_with fail
    refine (listX_any a cap L _ hr hs hm).mono ?_
    rintro e w1 ⟨rfl, hb⟩
    generalize (decide (L.length ≤ 5) && L.all X11.ok) = r at HF ⊢
    go_wp2
    go_ret
    exact ⟨ret_bool (by rw [HF.out]; rfl), hb⟩

end Go.Proofs.YtaflokfgbmlmaacDoor
/-
  The texts of terms, joined, behind a name: plainly, and what the tested program's functions answer.
-/
namespace Go.Proofs.YtaflokfgbmlmaacDoor
open Go.RowKit
set_option linter.unusedVariables false

def X11.tx (x : X11) : ByteArray := exprT x.Op x.L x.R
theorem txX_size {x : X11} (h : x.ok = true) : x.tx.size ≤ 47 := by
  have h' : exprB x.Op x.L x.R = true := h
  by_cases h0 : x.Op.size = 0
  · have e : x.Op = ⟨#[]⟩ := empty_of_size h0
    unfold X11.tx
    rw [e] at h' ⊢
    rw [exprT_one h']
    have := txA_size (exprB_left h')
    omega
  · unfold X11.tx
    rw [exprT_two h' h0]
    have h1 := txA_size (exprB_left h')
    have h2 := txA_size (exprB_right h' h0).1
    have h3 := (exprB_right h' h0).2
    have c32 : (ByteArray.mk #[32]).size = 1 := rfl
    simp only [ByteArray.size_append, c32]
    omega

/-- the texts with a comma and a blank between -/
def joinX (L : List X11) : List UInt8 := Lib.join (L.map fun v => v.tx.data.toList) [44, 32]
theorem joinX_nil : joinX [] = [] := rfl
theorem joinX_snoc (L : List X11) (v : X11) : joinX (L ++ [v]) = if L = [] then v.tx.data.toList else joinX L ++ (44 :: 32 :: v.tx.data.toList) := by
  unfold joinX Lib.join
  induction L with
  | nil => simp [List.intercalate]
  | cons a r ih =>
    rw [if_neg (by simp)]
    cases r with
    | nil => simp [List.intercalate]
    | cons b s =>
      rw [if_neg (by simp)] at ih
      simp only [List.map_append, List.map_cons, List.map_nil, List.cons_append] at ih ⊢
      have e : ∀ (p q : List UInt8) (t : List (List UInt8)), List.intercalate [44, 32] (p :: q :: t) = p ++ (44 :: 32 :: List.intercalate [44, 32] (q :: t)) := fun p q t => by simp [List.intercalate, List.intersperse]
      rw [e, e, ih]
      simp
theorem joinX_take {L : List X11} (h : ∀ v ∈ L, v.ok = true) : ∀ k, k ≤ L.length → (joinX (L.take k)).length ≤ 49 * k
  | 0, _ => by simp [joinX_nil]
  | k + 1, hk => by
    have ih := joinX_take h k (by omega)
    have h2 := txX_size (h L[k] (List.getElem_mem (by omega)))
    have e : L[k].tx.data.toList.length = L[k].tx.size := by rw [Array.length_toList]; rfl
    rw [List.take_succ_eq_append_getElem (by omega), joinX_snoc]
    split
    · omega
    · simp only [List.length_append, List.length_cons]; omega
theorem joinX_le {L : List X11} (h : ∀ v ∈ L, v.ok = true) : (joinX L).length ≤ 49 * L.length := by
  have := joinX_take h L.length (Nat.le_refl _)
  rwa [List.take_length] at this

/-- a name with terms behind it -/
def namedT (nm : ByteArray) (L : List X11) : ByteArray := nm ++ ⟨#[40]⟩ ++ ⟨(joinX L).toArray⟩ ++ ⟨#[41]⟩
theorem namedX_open {nm : ByteArray} {L : List X11} (h : namedX nm L = true) : nameB nm = true ∧ L.length ≤ 5 ∧ ∀ v ∈ L, v.ok = true := by
  unfold namedX at h
  simp only [Bool.and_eq_true, decide_eq_true_eq, List.all_eq_true] at h
  exact ⟨h.1.1, h.1.2, h.2⟩
theorem joinX_size {L : List X11} (h5 : L.length ≤ 5) (h : ∀ v ∈ L, v.ok = true) : (⟨(joinX L).toArray⟩ : ByteArray).size ≤ 245 := by
  have := joinX_le h
  show (joinX L).toArray.size ≤ 245
  simp only [List.size_toArray]
  omega
theorem namedT_size {nm : ByteArray} {L : List X11} (h : namedX nm L = true) : (namedT nm L).size ≤ 259 := by
  obtain ⟨h1, h2, h3⟩ := namedX_open h
  have c40 : (ByteArray.mk #[40]).size = 1 := rfl
  have c41 : (ByteArray.mk #[41]).size = 1 := rfl
  have := joinX_size h2 h3
  have := nameP_size h1
  unfold namedT
  simp only [ByteArray.size_append, c40, c41]
  omega

theorem infoSX : (Tryd.prog.info? 9).map (fun i => (i.zero, i.size, i.bytes)) = some (some (.string ⟨#[]⟩), 1, 16) := by kernel_rfl
def cellsX (L : List X11) : List Value := L.map fun v => .string v.tx
theorem cellsX_snoc (L : List X11) (v : X11) : cellsX L ++ [.string v.tx] = cellsX (L ++ [v]) := by simp [cellsX]
def txsX (L : List X11) : List ByteArray := L.map X11.tx
theorem txsX_join (L : List X11) : Lib.join ((txsX L).map (·.data.toList)) (ByteArray.mk #[44, 32]).data.toList = joinX L := by
  unfold txsX joinX
  rw [List.map_map]
  rfl
theorem own_txsX {W : World} {base g c n : Nat} {L : List X11} (h : W.ownsRow base 9 1 (.slice (some ⟨g, 0, none⟩) n c) n (cellsX L)) :
    ∀ (j : Nat) x, (txsX L)[j]? = some x → W.cell? ⟨g, 0 + j, none⟩ = some (.string x) := by
  intro j x hj
  have := h.cells (g := g) rfl j (.string x) (by unfold txsX at hj; unfold cellsX; rw [List.getElem?_map] at hj ⊢; cases hq : L[j]? with
    | none => rw [hq] at hj; cases hj
    | some v => rw [hq] at hj; simp at hj ⊢; exact hj)
  rwa [Addr.add_lit] at this
theorem own_ltX {W : World} {base g c n : Nat} {T : TypeId} {xs : List Value} (h : W.ownsRow base T 1 (.slice (some ⟨g, 0, none⟩) n c) n xs) : g < W.heap.size ∧ n ≤ c := by
  refine ⟨(h.lt g rfl).2, ?_⟩
  rcases h.2 with ⟨h1, _⟩ | ⟨g', cap', cur, h1, hb', hh, hnc, _⟩
  · simp at h1
  · simp only [Value.slice.injEq] at h1; omega
theorem ret_strX {a b : ByteArray} (h : a = b) : Ending.returned (.string a) = .returned (.string b) := by rw [h]
theorem src1X (W : World) (x : ByteArray) : ∀ j u, ([.string x] : List Value)[j]? = some u → (W.alloc (.cells #[.string x] 9)).cell? ((⟨W.heap.size, 0, none⟩ : Addr).add j) = some u := by
  intro j u hj
  rw [Addr.add_lit, Nat.zero_add]
  have hb : (W.alloc (.cells #[.string x] 9)).heap[W.heap.size]? = some (.cells #[.string x] 9 (0, 0)) := by rw [heap_alloc_new]
  match j, hj with
  | 0, hj => rw [cell_of_row _ _ 0 _ _ (0, 0) hb]; simpa using hj
theorem one1X (x : ByteArray) : ∀ u ∈ ([.string x] : List Value), u.oneCell' = true := by
  intro u hu
  simp only [List.mem_cons, List.not_mem_nil, or_false] at hu
  rw [hu]; rfl

set_option maxRecDepth 100000 in
set_option maxHeartbeats 3200000 in
theorem joinExprs_any (a : Option Addr) (cap : Nat) (L : List X11) (sep : ByteArray) (w : World) (hr : RdExpr w a L) (hs : ∀ v ∈ L, v.fits) (hm : L.length ≤ 5) (ht : Tab w) (hlen : (Lib.join ((txsX L).map (·.data.toList)) sep.data.toList).length ≤ 140737488355328) :
    Calls Tryd.prog 87 #[.slice a L.length cap, .func (.func 18) #[] #[], .string sep] w fun e w' =>
      e = .returned (.string ⟨(Lib.join ((txsX L).map (·.data.toList)) sep.data.toList).toArray⟩) ∧ Below w.heap.size w w' := by
  obtain ⟨i0, hi, hz0, hz1, hz2⟩ := info_parts infoSX
  have HTab := hide ht
  have HS := hide hs
  have HL := hide hlen
  clear ht hs hlen
  obtain ⟨n, hN⟩ : ∃ n, n = L.length := ⟨_, rfl⟩
  rw [← hN] at hm ⊢
  have HN := hide hN
  clear hN
  have hz3 : (i0.bytes * n) = 16 * n := by rw [hz2]
  go_enter Tryd.func87, Tryd.ntmps87
  go_wp2_with (at_make; refine wpList_make_own _ rfl _ _ 58 rfl w.heap.size 9 i0 (.string ⟨#[]⟩) 1 Tryd.underlying58 hi hz0 hz1 _ _ _ n rfl rfl (by omega) ?b2 ?b3 (Nat.le_refl _) ?_)
  case b2 => rw [hz2]; omega
  case b3 => unfold maxLen; omega
  intro w2 ho2 hg2
  have b2 : Below w.heap.size w w2 := below_gn' hg2
  clear hg2
  go_wp2
  go_loopw [7, 15] (fun v i wr => ∃ (k g c : Nat), k ≤ n ∧ i = .int .i64 k ∧ v = .slice (some ⟨g, 0, none⟩) k c ∧ wr.ownsRow w.heap.size 9 1 (.slice (some ⟨g, 0, none⟩) k c) k (cellsX (L.take k)) ∧ Below w.heap.size w wr) (fun _ i _ => n - (intOf i).toNat)
  case atStart => exact ⟨0, w.heap.size, n, Nat.zero_le _, rfl, rfl, by rw [List.take_zero]; exact ho2, b2⟩
  case round =>
    clear ho2 b2
    obtain ⟨k, g, c, hk, rfl, rfl, hown, hbel⟩ := hrel
    by_cases hlt : k < n
    · have hlL : k < L.length := by rw [← HN.out]; exact hlt
      obtain ⟨b, off, hab, hbw, hc⟩ := RdExpr.cells hr (by omega)
      obtain ⟨c0, c1, c2, c3, c4, c5, c6, c7, c8, c9, c10⟩ := hc k hlL
      clear hc
      subst hab
      rw [← hbel.cell (p := ⟨b, off + k * 11, none⟩) hbw] at c0
      rw [← hbel.cell (p := ⟨b, off + k * 11 + 1, none⟩) hbw] at c1
      rw [← hbel.cell (p := ⟨b, off + k * 11 + 2, none⟩) hbw] at c2
      rw [← hbel.cell (p := ⟨b, off + k * 11 + 3, none⟩) hbw] at c3
      rw [← hbel.cell (p := ⟨b, off + k * 11 + 4, none⟩) hbw] at c4
      rw [← hbel.cell (p := ⟨b, off + k * 11 + 5, none⟩) hbw] at c5
      rw [← hbel.cell (p := ⟨b, off + k * 11 + 6, none⟩) hbw] at c6
      rw [← hbel.cell (p := ⟨b, off + k * 11 + 7, none⟩) hbw] at c7
      rw [← hbel.cell (p := ⟨b, off + k * 11 + 8, none⟩) hbw] at c8
      rw [← hbel.cell (p := ⟨b, off + k * 11 + 9, none⟩) hbw] at c9
      rw [← hbel.cell (p := ⟨b, off + k * 11 + 10, none⟩) hbw] at c10
      have HTake : Hid (cellsX (L.take k) ++ [.string (eAt L k).tx] = cellsX (L.take (k + 1))) := by unfold Hid; rw [cellsX_snoc, List.take_succ_eq_append_getElem hlL, eAt_in]
      have hS : (eAt L k).fits := by rw [eAt_in hlL]; exact HS.out _ (List.getElem_mem _)
      rw [show (eAt L k).tx = exprT (eAt L k).Op (eAt L k).L (eAt L k).R from rfl] at HTake
      generalize eAt L k = x at c0 c1 c2 c3 c4 c5 c6 c7 c8 c9 c10 HTake hS
      obtain ⟨hSo, hS0, hS1⟩ := hS
      have bA : Below w.heap.size w (wr.alloc (.cells #[.string x.Op, .int .i64 x.L.K, .string x.L.S, .int .i64 x.L.V.K, .int .i64 x.L.V.N, .string x.L.V.S, .int .i64 x.R.K, .string x.R.S, .int .i64 x.R.V.K, .int .i64 x.R.V.N, .string x.R.V.S] 41)) := hbel.alloc hbel.size _
      have hoA := hown.alloc (.cells #[.string x.Op, .int .i64 x.L.K, .string x.L.S, .int .i64 x.L.V.K, .int .i64 x.L.V.N, .string x.L.V.S, .int .i64 x.R.K, .string x.R.S, .int .i64 x.R.V.K, .int .i64 x.R.V.N, .string x.R.V.S] 41)
      have HTA : Hid (Tab (wr.alloc (.cells #[.string x.Op, .int .i64 x.L.K, .string x.L.S, .int .i64 x.L.V.K, .int .i64 x.L.V.N, .string x.L.V.S, .int .i64 x.R.K, .string x.R.S, .int .i64 x.R.V.K, .int .i64 x.R.V.N, .string x.R.V.S] 41))) := HTab.out.later bA (Nat.le_refl _)
      go_wp2_with fail
      refine (implExprText_any x.Op x.L x.R _ hS0 hS1 HTA.out).mono ?_
      rintro e w3 ⟨rfl, hb3⟩
      generalize exprT x.Op x.L x.R = tx at HTake
      have bel3 : Below w.heap.size w w3 := bA.trans (hb3.mono bA.size)
      have HO4 := hide ((ownsRow_below' hoA hb3).alloc (.cells #[.string tx] 9))
      have HB4 := hide (bel3.alloc bel3.size (.cells #[.string tx] 9))
      have HSrc := hide (src1X w3 tx)
      clear hb3 hbel hown hoA bA HTA c0 c1 c2 c3 c4 c5 c6 c7 c8 c9 c10 bel3
      go_wp2_with (at_builtin; refine wpList_append_lies _ rfl (.tmp 19) (.tmp 23) 58 rfl w.heap.size 9 i0 (.string ⟨#[]⟩) 1 16 Tryd.underlying58 hi hz0 hz1 hz2 rfl (by omega) (.slice (some ⟨g, 0, none⟩) k c) k (cellsX (L.take k)) rfl HO4.out ⟨w3.heap.size, 0, none⟩ 1 1 [.string tx] ?hx rfl HSrc.out (one1X tx) (by omega) (by unfold maxLen; omega) (by omega) HB4.out.size _ rfl ?_)
      case hx => simp [Act.eval]
      intro g5 c5 w5 ho5 hg5 hat5 hlt5
      have HO5 : Hid (w5.ownsRow w.heap.size 9 1 (.slice (some ⟨g5, 0, none⟩) (k + 1) c5) (k + 1) (cellsX (L.take (k + 1)))) := by
        unfold Hid
        rw [← HTake.out]
        exact ho5
      have HB5 := hide (HB4.out.grown hg5 HB4.out.size (fun k hk => (HO4.out.lt k hk).1))
      clear ho5 hg5 hat5 hlt5 HO4 HSrc HB4
      go_wp2
      go_roundw
      case rel => exact ⟨k + 1, g5, c5, by omega, by go_num, rfl, HO5.out, HB5.out⟩
      case measure => simp [intOf]; omega
    · obtain rfl : k = n := by omega
      have HO : Hid (wr.ownsRow w.heap.size 9 1 (.slice (some ⟨g, 0, none⟩) k c) k (cellsX L)) := by
        have := hown
        rw [HN.out, List.take_length, ← HN.out] at this
        exact this
      have hcs := own_txsX HO.out
      obtain ⟨hgl, hkc⟩ := own_ltX HO.out
      have htl : (txsX L).length = k := by unfold txsX; rw [List.length_map, HN.out]
      have hjoin := Tryd.strings_Join g 0 c (txsX L) sep wr hcs hgl (by rw [htl]; omega) (by rw [htl]; exact hkc) HL.out
      rw [htl] at hjoin
      clear hown HO
      go_wp2_with fail
      refine hjoin.mono ?_
      rintro e w6 ⟨rfl, hb6⟩
      have B6 : Below w.heap.size w w6 := hbel.trans (hb6.mono hbel.size)
      go_wp2
      go_ret
      exact ⟨rfl, B6⟩

set_option maxRecDepth 100000 in
set_option maxHeartbeats 1600000 in
theorem namedTextX_any (kd : ByteArray) (a : Option Addr) (cap : Nat) (L : List X11) (sep y : ByteArray) (w : World) (hkd : kd.size ≤ 12) (hr : RdExpr w a L) (hs : ∀ x ∈ L, x.fits) (hm : L.length ≤ 5) (ht : Tab w) (hy : y = ⟨(Lib.join ((txsX L).map (·.data.toList)) sep.data.toList).toArray⟩) (hlen : y.size ≤ 1000) :
    Calls Tryd.prog 43 #[.string kd, .slice a L.length cap, .func (.func 18) #[] #[], .string sep] w fun e w' =>
      e = .returned (.string (kd ++ ⟨#[40]⟩ ++ y ++ ⟨#[41]⟩)) ∧ Below w.heap.size w w' := by
  have hl2 : (Lib.join ((txsX L).map (·.data.toList)) sep.data.toList).length ≤ 1000 := by
    rw [hy] at hlen
    have h2 : (Lib.join ((txsX L).map (·.data.toList)) sep.data.toList).toArray.size ≤ 1000 := hlen
    simpa using h2
  have hj := joinExprs_any a cap L sep w hr hs hm ht (by omega)
  rw [← hy] at hj
  have HJ := hide hj
  clear hj hy
  have c40 : (ByteArray.mk #[40]).size = 1 := rfl
  have c41 : (ByteArray.mk #[41]).size = 1 := rfl
  have n0 : ¬ 9223372036854775807 < kd.size + 1 := by omega
  have m0 : kd.size + 1 ≤ 9223372036854775807 := by omega
  have n1 : ¬ 9223372036854775807 < kd.size + 1 + y.size := by omega
  have m1 : kd.size + 1 + y.size ≤ 9223372036854775807 := by omega
  have n2 : ¬ 9223372036854775807 < kd.size + 1 + y.size + 1 := by omega
  have m2 : kd.size + 1 + y.size + 1 ≤ 9223372036854775807 := by omega
  have n4 : ¬ 9223372036854775807 ≤ kd.size := by omega
  have m4 : kd.size < 9223372036854775807 := by omega
  have n5 : ¬ 9223372036854775807 ≤ kd.size + 1 + y.size := by omega
  have m5 : kd.size + 1 + y.size < 9223372036854775807 := by omega
  clear c40 c41
  go_enter Tryd.func43, Tryd.ntmps43
  go_wp2_with fail
  refine HJ.out.mono ?_
  rintro e w6 ⟨rfl, hb6⟩
  go_wp2
  go_ret
  exact ⟨ret_strX (by simp only [ByteArray.append_assoc]), hb6⟩


end Go.Proofs.YtaflokfgbmlmaacDoor
/-
  An act as it came in.
-/
namespace Go.Proofs.YtaflokfgbmlmaacDoor
open Go.ChangeShapes Go.WideShapes Go.ChangeAt Go.RowKit Go.Joins Go.Deep
set_option linter.unusedVariables false
set_option maxRecDepth 100000

theorem array5 {α : Type} {cs : Array α} (h : cs.size = 5) : ∃ c0 c1 c2 c3 c4, cs = #[c0, c1, c2, c3, c4] := by
  obtain ⟨l⟩ := cs
  match l, h with
  | [c0, c1, c2, c3, c4], _ => exact ⟨c0, c1, c2, c3, c4, rfl⟩
theorem trod_struct5 {H : Type} {enc : TypeId × Value → H} {P : Program} {w : World} {base : Nat} {spare : Nat → Bool} {held : Bool} {t : TypeId} {f0 f1 f2 f3 f4 : Field} {fuel : Nat} {cs : List Value} {x : DataW H × List MemPlace} (ht : P.underlying t = some (.struct #[f0, f1, f2, f3, f4])) (h : DataW.trod enc P w base spare held fuel t cs = some x) :
    ∃ y0 y1 y2 y3 y4 n, cs.length = P.cellsOf t ∧ DataW.trod enc P w base spare held n f0.type ((cs.drop f0.offset).take (P.cellsOf f0.type)) = some y0 ∧
      DataW.trod enc P w base spare held n f1.type ((cs.drop f1.offset).take (P.cellsOf f1.type)) = some y1 ∧ DataW.trod enc P w base spare held n f2.type ((cs.drop f2.offset).take (P.cellsOf f2.type)) = some y2 ∧
      DataW.trod enc P w base spare held n f3.type ((cs.drop f3.offset).take (P.cellsOf f3.type)) = some y3 ∧ DataW.trod enc P w base spare held n f4.type ((cs.drop f4.offset).take (P.cellsOf f4.type)) = some y4 := by
  obtain ⟨xs, n, _, rfl, hl, hlen, hf⟩ := DataW.trod_struct ht h
  match xs, hlen with
  | [y0, y1, y2, y3, y4], _ => exact ⟨y0, y1, y2, y3, y4, n, hl, by simpa using hf 0 f0 rfl, by simpa using hf 1 f1 rfl, by simpa using hf 2 f2 rfl, by simpa using hf 3 f3 rfl, by simpa using hf 4 f4 rfl⟩
theorem act_in {H : Type} {enc : TypeId × Value → H} {w : World} {b0 : Nat} {spare : Nat → Bool} {held : Bool} {r : Reach} {v : Value} {d : DataW H} {p : List MemPlace}
    (hv : Value.okWide Tryd.prog w r b0 24 v) (h : DataW.Trod enc Tryd.prog w 0 spare held 24 v d p) :
    ∃ (K : Int) (nm : ByteArray) (a : Option Addr) (len cap : Nat) (L : List X11) (N : Int) (un : ByteArray), v = .agg #[.int .i64 K, .string nm, .slice a len cap, .int .i64 N, .string un] ∧ nm.size ≤ maxLen ∧ un.size ≤ maxLen ∧ IsExprs w a len cap L := by
  obtain ⟨cs, rfl, hsz⟩ := okWide_struct Tryd.underlying24 hv
  obtain ⟨c0, c1, c2, c3, c4, rfl⟩ := array5 (hsz.trans (by kernel_rfl))
  obtain ⟨fuel, hf⟩ := h
  obtain ⟨y0, y1, y2, y3, y4, n, _, h0, h1, h2, h3, h4⟩ := trod_struct5 Tryd.underlying24 hf
  have e0 : Tryd.prog.cellsOf 3 = 1 := by kernel_rfl
  have e1 : Tryd.prog.cellsOf 9 = 1 := by kernel_rfl
  have e2 : Tryd.prog.cellsOf 22 = 1 := by kernel_rfl
  simp only [e0, e1, e2, Value.cells, List.drop_zero, List.drop_succ_cons, List.take_succ_cons, List.take_zero] at h0 h1 h2 h3 h4
  obtain ⟨K, eK, _, _⟩ := DataW.trod_int Tryd.underlying3 h0
  obtain ⟨S, eS, _, wS⟩ := DataW.trod_string Tryd.underlying9 h1
  obtain ⟨N, eN, _, _⟩ := DataW.trod_int Tryd.underlying3 h3
  obtain ⟨U, eU, _, wU⟩ := DataW.trod_string Tryd.underlying9 h4
  obtain ⟨a, len, cap, L, eL, wL⟩ := exprs_in h2
  simp only [List.cons.injEq, and_true] at eK eS eN eU
  exact ⟨K, S, a, len, cap, L, N, U, by rw [eK, eS, eN, eU, eL], wS, wU, wL⟩
end Go.Proofs.YtaflokfgbmlmaacDoor
/-
  What both ActOks answer: actB.
-/
namespace Go.Proofs.YtaflokfgbmlmaacDoor
open Go.RowKit
set_option linter.unusedVariables false

/-- an act with neither a name nor terms -/
def bareX (nm : ByteArray) (L : List X11) : Bool := decide (nm.size = 0) && decide (L.length = 0)
/-- when an act is right -/
def actB (K : Int) (nm : ByteArray) (L : List X11) (N : Int) (un : ByteArray) : Bool :=
  if K = 1 then namedX nm L && decide (N = 0) && decide (un.size = 0)
  else if K = 2 then bareX nm L && inB N 0 7 && decide (un.size = 0)
  else if K = 3 then namedX nm L && decide (N = 0) && (decide (un.size = 0) || nameB un)
  else if K = 4 then namedX nm L && inB N 0 100000 && decide (un.size = 0)
  else if K = 5 ∨ K = 6 then bareX nm L && decide (N = 0) && decide (un.size = 0)
  else false
theorem actB1 (nm : ByteArray) (L : List X11) (N : Int) (un : ByteArray) : actB 1 nm L N un = (namedX nm L && decide (N = 0) && decide (un.size = 0)) := rfl
theorem actB2 (nm : ByteArray) (L : List X11) (N : Int) (un : ByteArray) : actB 2 nm L N un = (bareX nm L && inB N 0 7 && decide (un.size = 0)) := rfl
theorem actB3 (nm : ByteArray) (L : List X11) (N : Int) (un : ByteArray) : actB 3 nm L N un = (namedX nm L && decide (N = 0) && (decide (un.size = 0) || nameB un)) := rfl
theorem actB4 (nm : ByteArray) (L : List X11) (N : Int) (un : ByteArray) : actB 4 nm L N un = (namedX nm L && inB N 0 100000 && decide (un.size = 0)) := rfl
theorem actB5 (nm : ByteArray) (L : List X11) (N : Int) (un : ByteArray) : actB 5 nm L N un = (bareX nm L && decide (N = 0) && decide (un.size = 0)) := rfl
theorem actB6 (nm : ByteArray) (L : List X11) (N : Int) (un : ByteArray) : actB 6 nm L N un = (bareX nm L && decide (N = 0) && decide (un.size = 0)) := rfl
theorem actB_no {K : Int} (nm : ByteArray) (L : List X11) (N : Int) (un : ByteArray) (h1 : K ≠ 1) (h2 : K ≠ 2) (h3 : K ≠ 3) (h4 : K ≠ 4) (h5 : K ≠ 5) (h6 : K ≠ 6) : actB K nm L N un = false := by
  simp [actB, h1, h2, h3, h4, h5, h6]
theorem k_cases (K : Int) : K = 1 ∨ K = 2 ∨ K = 3 ∨ K = 4 ∨ K = 5 ∨ K = 6 ∨ ((K == 1) = false ∧ (K == 2) = false ∧ (K == 3) = false ∧ (K == 4) = false ∧ (K == 5) = false ∧ (K == 6) = false ∧ K ≠ 1 ∧ K ≠ 2 ∧ K ≠ 3 ∧ K ≠ 4 ∧ K ≠ 5 ∧ K ≠ 6) := by
  by_cases h1 : K = 1; · simp [h1]
  by_cases h2 : K = 2; · simp [h2]
  by_cases h3 : K = 3; · simp [h3]
  by_cases h4 : K = 4; · simp [h4]
  by_cases h5 : K = 5; · simp [h5]
  by_cases h6 : K = 6; · simp [h6]
  simp [h1, h2, h3, h4, h5, h6]
theorem emp_t (s : ByteArray) : s.toList.isEmpty = decide (s.size = 0) := by
  by_cases h : s.size = 0
  · rw [decide_eq_true h, empty_of_size h, ByteArray.toList_eq]; rfl
  · rw [isEmpty_false h, decide_eq_false h]
theorem eq0_t (N : Int) : (N == 0) = decide (N = 0) := by
  by_cases h : N = 0 <;> simp [h]
theorem len0_t (n : Nat) : ((n : Int) == 0) = decide (n = 0) := by
  by_cases h : n = 0
  · simp [h]
  · rw [decide_eq_false h]; simpa using h
theorem len0_z (n : Nat) : decide ((n : Int) = 0) = decide (n = 0) := decide_eq_decide.2 (by omega)

theorem isUpTo_any (n m : Int) (w : World) : Calls Tryd.prog 50 #[.int .i64 n, .int .i64 m] w fun e w' => e = .returned (.bool (inB n 0 m)) ∧ w' = w := by
  by_cases h1 : 0 ≤ n
  · have HI : Hid (inB n 0 m = decide (n ≤ m)) := by unfold Hid inB; rw [decide_eq_true h1, Bool.true_and]
    go_enter Tryd.func50, Tryd.ntmps50
    go_wp2
    go_ret
    exact ⟨ret_bool HI.out.symm, rfl⟩
  · have HI : Hid (inB n 0 m = false) := inB_f (by omega)
    go_enter Tryd.func50, Tryd.ntmps50
    go_wp2
    go_ret
    exact ⟨ret_bool HI.out.symm, rfl⟩

set_option maxRecDepth 100000 in
set_option maxHeartbeats 3200000 in
theorem asksFor_any (K : Int) (nm : ByteArray) (a : Option Addr) (cap : Nat) (L : List X11) (N : Int) (un : ByteArray) (w : World) (hkd : nm.size ≤ maxLen) (hr : RdExpr w a L) (hs : ∀ x ∈ L, x.fits) (hm : L.length ≤ 1048580) :
    Calls Tryd.prog 48 #[.agg #[.int .i64 K, .string nm, .slice a L.length cap, .int .i64 N, .string un]] w fun e w' => e = .returned (.bool (namedX nm L)) ∧ Below w.heap.size w w' := by
  have b0 := below_al w (.cells #[.int .i64 K, .string nm, .slice a L.length cap, .int .i64 N, .string un] 29)
  go_enter Tryd.func48, Tryd.ntmps48
  go_wp2_with fail
  refine (namedX_any nm a cap L _ hkd (hr.below b0) hs hm).mono ?_
  rintro e w1 ⟨rfl, hb⟩
  have hB : Below w.heap.size w w1 := b0.trans (hb.mono b0.size)
  go_wp2
  go_ret
  exact ⟨rfl, hB⟩

set_option maxRecDepth 100000 in
set_option maxHeartbeats 3200000 in
theorem asksForNothing_any (K : Int) (nm : ByteArray) (a : Option Addr) (cap : Nat) (L : List X11) (N : Int) (un : ByteArray) (w : World) (hm : L.length ≤ 1048580) :
    Calls Tryd.prog 49 #[.agg #[.int .i64 K, .string nm, .slice a L.length cap, .int .i64 N, .string un]] w fun e w' => e = .returned (.bool (bareX nm L)) ∧ Below w.heap.size w w' := by
  have b0 := below_al w (.cells #[.int .i64 K, .string nm, .slice a L.length cap, .int .i64 N, .string un] 29)
  have HB : Hid (bareX nm L = (decide (nm.size = 0) && decide (L.length = 0))) := rfl
  have hn := emp_t nm
  have hl := len0_t L.length
  generalize decide (nm.size = 0) = x at HB hn
  generalize decide (L.length = 0) = y at HB hl
  cases x
  all_goals
    go_enter Tryd.func49, Tryd.ntmps49
    go_wp2
    go_ret
    exact ⟨by rw [HB.out]; rfl, b0⟩

set_option maxRecDepth 100000 in
set_option maxHeartbeats 3200000 in
theorem implActOk_1 (nm : ByteArray) (a : Option Addr) (cap : Nat) (L : List X11) (N : Int) (un : ByteArray) (w : World) (hkd : nm.size ≤ maxLen) (hr : RdExpr w a L) (hs : ∀ x ∈ L, x.fits) (hm : L.length ≤ 1048580) (hun : un.size ≤ maxLen) :
    Calls Tryd.prog 16 #[.agg #[.int .i64 1, .string nm, .slice a L.length cap, .int .i64 N, .string un]] w fun e w' => e = .returned (.bool (actB 1 nm L N un)) ∧ Below w.heap.size w w' := by
  have b0 := below_al w (.cells #[.int .i64 1, .string nm, .slice a L.length cap, .int .i64 N, .string un] 29)
  have hX := boxk_new w #[.int .i64 1, .string nm, .slice a L.length cap, .int .i64 N, .string un] 29
  have HC := hide (actB1 nm L N un)
  go_enter Tryd.func16, Tryd.ntmps16
  go_wp2_with fail
  refine (asksFor_any 1 nm a cap L N un _ hkd (hr.below b0) hs hm).mono ?_
  rintro e w1 ⟨rfl, hb⟩
  have HX1 := hide (box_step hX hb)
  have hB1 : Below w.heap.size w w1 := b0.trans (hb.mono b0.size)
  have y3 := boxk_cell HX1.out 3 _ rfl
  have y4 := boxk_cell HX1.out 4 _ rfl
  clear hb b0 hX HX1
  generalize namedX nm L = bb at HC ⊢
  have HU := hide hun
  clear hun hkd hs hr
  cases bb
  · go_wp2
    go_ret
    exact ⟨by rw [HC.out]; rfl, hB1⟩
  · by_cases hN : N = 0
    · subst hN
      by_cases hU : un.size = 0
      · obtain rfl := empty_of_size hU
        have H2 : Hid (actB 1 nm L 0 ⟨#[]⟩ = true) := HC.out
        clear hU
        go_wp2
        go_ret
        exact ⟨by rw [H2.out]; rfl, hB1⟩
      · have H2 : Hid (actB 1 nm L 0 un = false) := by unfold Hid; rw [HC.out, decide_eq_false hU]; rfl
        have hE := isEmpty_false hU
        clear hU
        go_wp2
        go_ret
        exact ⟨by rw [H2.out]; rfl, hB1⟩
    · have H2 : Hid (actB 1 nm L N un = false) := by unfold Hid; rw [HC.out, decide_eq_false hN]; rfl
      have k0 : (N == 0) = false := by simpa using hN
      clear hN
      go_wp2
      go_ret
      exact ⟨by rw [H2.out]; rfl, hB1⟩

set_option maxRecDepth 100000 in
set_option maxHeartbeats 3200000 in
theorem implActOk_2 (nm : ByteArray) (a : Option Addr) (cap : Nat) (L : List X11) (N : Int) (un : ByteArray) (w : World) (hkd : nm.size ≤ maxLen) (hr : RdExpr w a L) (hs : ∀ x ∈ L, x.fits) (hm : L.length ≤ 1048580) (hun : un.size ≤ maxLen) :
    Calls Tryd.prog 16 #[.agg #[.int .i64 2, .string nm, .slice a L.length cap, .int .i64 N, .string un]] w fun e w' => e = .returned (.bool (actB 2 nm L N un)) ∧ Below w.heap.size w w' := by
  have b0 := below_al w (.cells #[.int .i64 2, .string nm, .slice a L.length cap, .int .i64 N, .string un] 29)
  have hX := boxk_new w #[.int .i64 2, .string nm, .slice a L.length cap, .int .i64 N, .string un] 29
  have HC := hide (actB2 nm L N un)
  go_enter Tryd.func16, Tryd.ntmps16
  go_wp2_with fail
  refine (asksForNothing_any 2 nm a cap L N un _ hm).mono ?_
  rintro e w1 ⟨rfl, hb⟩
  have HX1 := hide (box_step hX hb)
  have hB1 : Below w.heap.size w w1 := b0.trans (hb.mono b0.size)
  have y3 := boxk_cell HX1.out 3 _ rfl
  have y4 := boxk_cell HX1.out 4 _ rfl
  clear hb b0 hX HX1
  generalize bareX nm L = bb at HC ⊢
  have HU := hide hun
  clear hun hkd hs hr
  cases bb
  · go_wp2
    go_ret
    exact ⟨by rw [HC.out]; rfl, hB1⟩
  · cases hI : inB N 0 7
    · have H2 : Hid (actB 2 nm L N un = false) := by unfold Hid; rw [HC.out, hI]; rfl
      go_wp2_with (go_at_call 50; refine (isUpTo_any _ _ _).mono ?_; rintro e w' ⟨rfl, rfl⟩; rw [hI])
      go_ret
      exact ⟨by rw [H2.out]; rfl, hB1⟩
    · rw [hI] at HC
      by_cases hU : un.size = 0
      · obtain rfl := empty_of_size hU
        have H2 : Hid (actB 2 nm L N ⟨#[]⟩ = true) := HC.out
        clear hU
        go_wp2_with (go_at_call 50; refine (isUpTo_any _ _ _).mono ?_; rintro e w' ⟨rfl, rfl⟩; rw [hI])
        go_ret
        exact ⟨by rw [H2.out]; rfl, hB1⟩
      · have H2 : Hid (actB 2 nm L N un = false) := by unfold Hid; rw [HC.out, decide_eq_false hU]; rfl
        have hE := isEmpty_false hU
        clear hU
        go_wp2_with (go_at_call 50; refine (isUpTo_any _ _ _).mono ?_; rintro e w' ⟨rfl, rfl⟩; rw [hI])
        go_ret
        exact ⟨by rw [H2.out]; rfl, hB1⟩

set_option maxRecDepth 100000 in
set_option maxHeartbeats 3200000 in
theorem implActOk_3 (nm : ByteArray) (a : Option Addr) (cap : Nat) (L : List X11) (N : Int) (un : ByteArray) (w : World) (hkd : nm.size ≤ maxLen) (hr : RdExpr w a L) (hs : ∀ x ∈ L, x.fits) (hm : L.length ≤ 1048580) (hun : un.size ≤ maxLen) :
    Calls Tryd.prog 16 #[.agg #[.int .i64 3, .string nm, .slice a L.length cap, .int .i64 N, .string un]] w fun e w' => e = .returned (.bool (actB 3 nm L N un)) ∧ Below w.heap.size w w' := by
  have b0 := below_al w (.cells #[.int .i64 3, .string nm, .slice a L.length cap, .int .i64 N, .string un] 29)
  have hX := boxk_new w #[.int .i64 3, .string nm, .slice a L.length cap, .int .i64 N, .string un] 29
  have HC := hide (actB3 nm L N un)
  go_enter Tryd.func16, Tryd.ntmps16
  go_wp2_with fail
  refine (asksFor_any 3 nm a cap L N un _ hkd (hr.below b0) hs hm).mono ?_
  rintro e w1 ⟨rfl, hb⟩
  have HX1 := hide (box_step hX hb)
  have hB1 : Below w.heap.size w w1 := b0.trans (hb.mono b0.size)
  have y3 := boxk_cell HX1.out 3 _ rfl
  have y4 := boxk_cell HX1.out 4 _ rfl
  clear hb b0 hX HX1
  generalize namedX nm L = bb at HC ⊢
  have HU := hide hun
  clear hun hkd hs hr
  cases bb
  · go_wp2
    go_ret
    exact ⟨by rw [HC.out]; rfl, hB1⟩
  · by_cases hN : N = 0
    · subst hN
      by_cases hU : un.size = 0
      · obtain rfl := empty_of_size hU
        have H2 : Hid (actB 3 nm L 0 ⟨#[]⟩ = true) := HC.out
        clear hU
        go_wp2
        go_ret
        exact ⟨by rw [H2.out]; rfl, hB1⟩
      · have H2 : Hid (actB 3 nm L 0 un = nameB un) := by unfold Hid; rw [HC.out, decide_eq_false hU]; rfl
        have hE := isEmpty_false hU
        clear hU
        go_wp2_with (go_at_call 51; refine (implNameOk_any _ _ HU.out).mono ?_; rintro e w' ⟨rfl, rfl⟩)
        go_ret
        exact ⟨by rw [H2.out]; rfl, hB1⟩
    · have H2 : Hid (actB 3 nm L N un = false) := by unfold Hid; rw [HC.out, decide_eq_false hN]; rfl
      have k0 : (N == 0) = false := by simpa using hN
      clear hN
      go_wp2
      go_ret
      exact ⟨by rw [H2.out]; rfl, hB1⟩

set_option maxRecDepth 100000 in
set_option maxHeartbeats 3200000 in
theorem implActOk_4 (nm : ByteArray) (a : Option Addr) (cap : Nat) (L : List X11) (N : Int) (un : ByteArray) (w : World) (hkd : nm.size ≤ maxLen) (hr : RdExpr w a L) (hs : ∀ x ∈ L, x.fits) (hm : L.length ≤ 1048580) (hun : un.size ≤ maxLen) :
    Calls Tryd.prog 16 #[.agg #[.int .i64 4, .string nm, .slice a L.length cap, .int .i64 N, .string un]] w fun e w' => e = .returned (.bool (actB 4 nm L N un)) ∧ Below w.heap.size w w' := by
  have b0 := below_al w (.cells #[.int .i64 4, .string nm, .slice a L.length cap, .int .i64 N, .string un] 29)
  have hX := boxk_new w #[.int .i64 4, .string nm, .slice a L.length cap, .int .i64 N, .string un] 29
  have HC := hide (actB4 nm L N un)
  go_enter Tryd.func16, Tryd.ntmps16
  go_wp2_with fail
  refine (asksFor_any 4 nm a cap L N un _ hkd (hr.below b0) hs hm).mono ?_
  rintro e w1 ⟨rfl, hb⟩
  have HX1 := hide (box_step hX hb)
  have hB1 : Below w.heap.size w w1 := b0.trans (hb.mono b0.size)
  have y3 := boxk_cell HX1.out 3 _ rfl
  have y4 := boxk_cell HX1.out 4 _ rfl
  clear hb b0 hX HX1
  generalize namedX nm L = bb at HC ⊢
  have HU := hide hun
  clear hun hkd hs hr
  cases bb
  · go_wp2
    go_ret
    exact ⟨by rw [HC.out]; rfl, hB1⟩
  · cases hI : inB N 0 100000
    · have H2 : Hid (actB 4 nm L N un = false) := by unfold Hid; rw [HC.out, hI]; rfl
      go_wp2_with (go_at_call 50; refine (isUpTo_any _ _ _).mono ?_; rintro e w' ⟨rfl, rfl⟩; rw [hI])
      go_ret
      exact ⟨by rw [H2.out]; rfl, hB1⟩
    · rw [hI] at HC
      by_cases hU : un.size = 0
      · obtain rfl := empty_of_size hU
        have H2 : Hid (actB 4 nm L N ⟨#[]⟩ = true) := HC.out
        clear hU
        go_wp2_with (go_at_call 50; refine (isUpTo_any _ _ _).mono ?_; rintro e w' ⟨rfl, rfl⟩; rw [hI])
        go_ret
        exact ⟨by rw [H2.out]; rfl, hB1⟩
      · have H2 : Hid (actB 4 nm L N un = false) := by unfold Hid; rw [HC.out, decide_eq_false hU]; rfl
        have hE := isEmpty_false hU
        clear hU
        go_wp2_with (go_at_call 50; refine (isUpTo_any _ _ _).mono ?_; rintro e w' ⟨rfl, rfl⟩; rw [hI])
        go_ret
        exact ⟨by rw [H2.out]; rfl, hB1⟩

set_option maxRecDepth 100000 in
set_option maxHeartbeats 3200000 in
theorem implActOk_5 (nm : ByteArray) (a : Option Addr) (cap : Nat) (L : List X11) (N : Int) (un : ByteArray) (w : World) (hkd : nm.size ≤ maxLen) (hr : RdExpr w a L) (hs : ∀ x ∈ L, x.fits) (hm : L.length ≤ 1048580) (hun : un.size ≤ maxLen) :
    Calls Tryd.prog 16 #[.agg #[.int .i64 5, .string nm, .slice a L.length cap, .int .i64 N, .string un]] w fun e w' => e = .returned (.bool (actB 5 nm L N un)) ∧ Below w.heap.size w w' := by
  have b0 := below_al w (.cells #[.int .i64 5, .string nm, .slice a L.length cap, .int .i64 N, .string un] 29)
  have hX := boxk_new w #[.int .i64 5, .string nm, .slice a L.length cap, .int .i64 N, .string un] 29
  have HC := hide (actB5 nm L N un)
  go_enter Tryd.func16, Tryd.ntmps16
  go_wp2_with fail
  refine (asksForNothing_any 5 nm a cap L N un _ hm).mono ?_
  rintro e w1 ⟨rfl, hb⟩
  have HX1 := hide (box_step hX hb)
  have hB1 : Below w.heap.size w w1 := b0.trans (hb.mono b0.size)
  have y3 := boxk_cell HX1.out 3 _ rfl
  have y4 := boxk_cell HX1.out 4 _ rfl
  clear hb b0 hX HX1
  generalize bareX nm L = bb at HC ⊢
  have HU := hide hun
  clear hun hkd hs hr
  cases bb
  · go_wp2
    go_ret
    exact ⟨by rw [HC.out]; rfl, hB1⟩
  · by_cases hN : N = 0
    · subst hN
      by_cases hU : un.size = 0
      · obtain rfl := empty_of_size hU
        have H2 : Hid (actB 5 nm L 0 ⟨#[]⟩ = true) := HC.out
        clear hU
        go_wp2
        go_ret
        exact ⟨by rw [H2.out]; rfl, hB1⟩
      · have H2 : Hid (actB 5 nm L 0 un = false) := by unfold Hid; rw [HC.out, decide_eq_false hU]; rfl
        have hE := isEmpty_false hU
        clear hU
        go_wp2
        go_ret
        exact ⟨by rw [H2.out]; rfl, hB1⟩
    · have H2 : Hid (actB 5 nm L N un = false) := by unfold Hid; rw [HC.out, decide_eq_false hN]; rfl
      have k0 : (N == 0) = false := by simpa using hN
      clear hN
      go_wp2
      go_ret
      exact ⟨by rw [H2.out]; rfl, hB1⟩

set_option maxRecDepth 100000 in
set_option maxHeartbeats 3200000 in
theorem implActOk_6 (nm : ByteArray) (a : Option Addr) (cap : Nat) (L : List X11) (N : Int) (un : ByteArray) (w : World) (hkd : nm.size ≤ maxLen) (hr : RdExpr w a L) (hs : ∀ x ∈ L, x.fits) (hm : L.length ≤ 1048580) (hun : un.size ≤ maxLen) :
    Calls Tryd.prog 16 #[.agg #[.int .i64 6, .string nm, .slice a L.length cap, .int .i64 N, .string un]] w fun e w' => e = .returned (.bool (actB 6 nm L N un)) ∧ Below w.heap.size w w' := by
  have b0 := below_al w (.cells #[.int .i64 6, .string nm, .slice a L.length cap, .int .i64 N, .string un] 29)
  have hX := boxk_new w #[.int .i64 6, .string nm, .slice a L.length cap, .int .i64 N, .string un] 29
  have HC := hide (actB6 nm L N un)
  go_enter Tryd.func16, Tryd.ntmps16
  go_wp2_with fail
  refine (asksForNothing_any 6 nm a cap L N un _ hm).mono ?_
  rintro e w1 ⟨rfl, hb⟩
  have HX1 := hide (box_step hX hb)
  have hB1 : Below w.heap.size w w1 := b0.trans (hb.mono b0.size)
  have y3 := boxk_cell HX1.out 3 _ rfl
  have y4 := boxk_cell HX1.out 4 _ rfl
  clear hb b0 hX HX1
  generalize bareX nm L = bb at HC ⊢
  have HU := hide hun
  clear hun hkd hs hr
  cases bb
  · go_wp2
    go_ret
    exact ⟨by rw [HC.out]; rfl, hB1⟩
  · by_cases hN : N = 0
    · subst hN
      by_cases hU : un.size = 0
      · obtain rfl := empty_of_size hU
        have H2 : Hid (actB 6 nm L 0 ⟨#[]⟩ = true) := HC.out
        clear hU
        go_wp2
        go_ret
        exact ⟨by rw [H2.out]; rfl, hB1⟩
      · have H2 : Hid (actB 6 nm L 0 un = false) := by unfold Hid; rw [HC.out, decide_eq_false hU]; rfl
        have hE := isEmpty_false hU
        clear hU
        go_wp2
        go_ret
        exact ⟨by rw [H2.out]; rfl, hB1⟩
    · have H2 : Hid (actB 6 nm L N un = false) := by unfold Hid; rw [HC.out, decide_eq_false hN]; rfl
      have k0 : (N == 0) = false := by simpa using hN
      clear hN
      go_wp2
      go_ret
      exact ⟨by rw [H2.out]; rfl, hB1⟩

set_option maxRecDepth 100000 in
set_option maxHeartbeats 3200000 in
theorem implActOk_any (K : Int) (nm : ByteArray) (a : Option Addr) (cap : Nat) (L : List X11) (N : Int) (un : ByteArray) (w : World) (hkd : nm.size ≤ maxLen) (hr : RdExpr w a L) (hs : ∀ x ∈ L, x.fits) (hm : L.length ≤ 1048580) (hun : un.size ≤ maxLen) :
    Calls Tryd.prog 16 #[.agg #[.int .i64 K, .string nm, .slice a L.length cap, .int .i64 N, .string un]] w fun e w' => e = .returned (.bool (actB K nm L N un)) ∧ Below w.heap.size w w' := by
  rcases k_cases K with rfl | rfl | rfl | rfl | rfl | rfl | ⟨k1, k2, k3, k4, k5, k6, h1, h2, h3, h4, h5, h6⟩
  · exact implActOk_1 nm a cap L N un w hkd hr hs hm hun
  · exact implActOk_2 nm a cap L N un w hkd hr hs hm hun
  · exact implActOk_3 nm a cap L N un w hkd hr hs hm hun
  · exact implActOk_4 nm a cap L N un w hkd hr hs hm hun
  · exact implActOk_5 nm a cap L N un w hkd hr hs hm hun
  · exact implActOk_6 nm a cap L N un w hkd hr hs hm hun
  · have b0 := below_al w (.cells #[.int .i64 K, .string nm, .slice a L.length cap, .int .i64 N, .string un] 29)
    have HC := hide (actB_no nm L N un h1 h2 h3 h4 h5 h6)
    clear h1 h2 h3 h4 h5 h6
    go_enter Tryd.func16, Tryd.ntmps16
    go_wp2
    go_ret
    exact ⟨by rw [HC.out]; rfl, b0⟩

end Go.Proofs.YtaflokfgbmlmaacDoor
/-
  The program's own table of an act's words, as its initialiser lays it.
-/
namespace Go.Proofs.YtaflokfgbmlmaacDoor
open Go.RowKit
set_option linter.unusedVariables false

/-- the table of words reads as it is laid -/
def Wrd (w : World) : Prop := w.cell? ⟨0, 1, none⟩ = some (.string ⟨#[97, 115, 115, 101, 114, 116]⟩) ∧ w.cell? ⟨0, 2, none⟩ = some (.string ⟨#[100, 114, 111, 112]⟩) ∧ w.cell? ⟨0, 3, none⟩ = some (.string ⟨#[116, 97, 115, 107]⟩) ∧ w.cell? ⟨0, 4, none⟩ = some (.string ⟨#[116, 105, 109, 101, 114]⟩) ∧ w.cell? ⟨0, 5, none⟩ = some (.string ⟨#[100, 111, 110, 101]⟩) ∧ w.cell? ⟨0, 6, none⟩ = some (.string ⟨#[102, 97, 105, 108]⟩)
theorem Wrd.later {w w' : World} (h : Wrd w) (hb : Below w.heap.size w w') : Wrd w' := by
  have k : ∀ {a : Addr} {v : Value}, w.cell? a = some v → w'.cell? a = some v := fun {a v} h => by rw [hb.cell (World.block_lt_of_cell? w _ h)]; exact h
  exact ⟨k h.1, k h.2.1, k h.2.2.1, k h.2.2.2.1, k h.2.2.2.2.1, k h.2.2.2.2.2⟩

/-- An array of texts that reads as listed holds these texts, cell for cell. -/
theorem cells_of_texts {H : Type} {enc : TypeId × Value → H} {P : Program} {w : World} {base : Nat} {sp : Nat → Bool} {held : Bool} {fuel : Nat} {t e : TypeId} {n : Nat} {cs : List Value} {zs : List (List UInt8)} {p : List MemPlace}
    (ht : P.underlying t = some (.array n e)) (he : P.underlying e = some .string) (hce : P.cellsOf e = 1) (hct : P.cellsOf t = n)
    (h : DataW.trod enc P w base sp held fuel t cs = some (.agg (zs.map fun z => .lit (.string z)), p)) : cs = zs.map fun z => Value.string ⟨z.toArray⟩ := by
  cases fuel with
  | zero => simp [DataW.trod] at h
  | succ fuel =>
    simp only [DataW.trod, ht, hce, hct, Nat.mul_one] at h
    split at h
    · rename_i hl
      obtain ⟨xs, hm, hx⟩ := Option.map_eq_some_iff.1 h
      have hxs : xs.map (·.1) = zs.map fun z => (DataW.lit (.string z) : DataW H) := by
        have := congrArg Prod.fst hx
        simpa using this
      have hxl : xs.length = n := by simpa using Lib.mapM_length hm
      have hzl : zs.length = n := by
        have := congrArg List.length hxs
        simp at this
        omega
      apply List.ext_getElem?
      intro i
      by_cases hi : i < n
      · obtain ⟨b, hb, hf⟩ := Lib.mapM_at hm i i (by simp [hi])
        obtain ⟨z, hc, rfl, _⟩ := DataW.trod_string he hf
        have h1 : cs[i]? = some (.string z) := by
          have := congrArg (·[0]?) hc
          simpa [List.getElem?_take, List.getElem?_drop] using this
        have h2 : (xs.map (·.1))[i]? = some (DataW.lit (.string z.data.toList) : DataW H) := by simp [hb]
        rw [hxs] at h2
        simp only [List.getElem?_map, Option.map_eq_some_iff, DataW.lit.injEq, Lit.string.injEq] at h2
        obtain ⟨z', hz', e⟩ := h2
        simp [h1, hz', e]
      · rw [List.getElem?_eq_none (by omega), List.getElem?_eq_none (by simp; omega)]
    · cases h
theorem wrd_of_head {rest : List (String × DataW Unit)} {W : World} (h : laidMet Tryd.prog (("loop.example/g00282/impl.actWords", Rows.laid_loop_example_g00282_impl_actWords) :: rest) W) : Wrd W := by
  obtain ⟨ps, ⟨g', t', cs, fuel, p, q, hg', ht', hvar, hd, _, _⟩, _⟩ := h
  have hg : Tryd.prog.globalNamed "loop.example/g00282/impl.actWords" = some 0 := by kernel_rfl
  obtain rfl := Option.some.inj (hg.symm.trans hg')
  have hty : (Tryd.prog.globals[0]?).map (·.type) = some 78 := by kernel_rfl
  obtain rfl := Option.some.inj (hty.symm.trans ht')
  have hcs := cells_of_texts (zs := [[], [97, 115, 115, 101, 114, 116], [100, 114, 111, 112], [116, 97, 115, 107], [116, 105, 109, 101, 114], [100, 111, 110, 101], [102, 97, 105, 108]]) Tryd.underlying78 Tryd.underlying9 (by kernel_rfl) (by kernel_rfl) hd
  have hca : cs = _ := (Array.toArray_toList (xs := cs)).symm.trans (congrArg List.toArray hcs)
  rw [hca] at hvar
  have hc := fun i => World.var?_cell hg hvar i
  exact ⟨(hc 1).trans rfl, (hc 2).trans rfl, (hc 3).trans rfl, (hc 4).trans rfl, (hc 5).trans rfl, (hc 6).trans rfl⟩
end Go.Proofs.YtaflokfgbmlmaacDoor
/-
  Sums and differences of values, plainly.
-/
namespace Go.Proofs.YtaflokfgbmlmaacDoor
open Go.RowKit
set_option linter.unusedVariables false

/-- a value and whether it is one, as they are answered -/
def tupV (b : Bool) (n : Int) : Value := .tuple #[.agg #[.int .i64 (if b then 1 else 0), .int .i64 (if b then n else 0), .string ⟨#[]⟩], .bool b]
theorem tupV_no (n m : Int) : tupV false n = tupV false m := rfl
theorem tupV_open (b : Bool) (n : Int) : ∃ r1 r2 b', tupV b n = .tuple #[.agg #[.int .i64 r1, .int .i64 r2, .string ⟨#[]⟩], .bool b'] := ⟨_, _, _, rfl⟩
def isNum (K N : Int) (S : ByteArray) : Bool := K == 1 && valB K N S
def numN (K N : Int) (S : ByteArray) : Int := if isNum K N S then N else 0
theorem numN_in (K N : Int) (S : ByteArray) : -1000000000 ≤ numN K N S ∧ numN K N S ≤ 1000000000 := by
  unfold numN
  split
  · rename_i h
    simp only [isNum, Bool.and_eq_true, beq_iff_eq] at h
    obtain ⟨h1, h2⟩ := h
    subst h1
    by_cases hr : -1000000000 ≤ N ∧ N ≤ 1000000000
    · exact hr
    · rw [valB_out S hr] at h2; cases h2
  · omega
/-- what a sum or a difference n of two values answers -/
def sumV (K N : Int) (S : ByteArray) (K' N' : Int) (S' : ByteArray) (n : Int) : Value := tupV (isNum K N S && isNum K' N' S' && inB n (-1000000000) 1000000000) n
theorem sumV_eq {K N K' N' n m : Int} {S S' : ByteArray} (h : isNum K N S = true → isNum K' N' S' = true → n = m) : sumV K N S K' N' S' n = sumV K N S K' N' S' m := by
  unfold sumV
  cases h1 : isNum K N S
  · rfl
  · cases h2 : isNum K' N' S'
    · rfl
    · rw [h h1 h2]
theorem numN_of {K N : Int} {S : ByteArray} (h : isNum K N S = true) : numN K N S = N := by unfold numN; rw [if_pos h]
theorem valB_inB (n : Int) : valB 1 n ⟨#[]⟩ = inB n (-1000000000) 1000000000 := by
  have : (ByteArray.mk #[]).size = 0 := rfl
  simp [valB, this]
end Go.Proofs.YtaflokfgbmlmaacDoor
