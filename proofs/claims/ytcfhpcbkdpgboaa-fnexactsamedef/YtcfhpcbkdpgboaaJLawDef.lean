/-
  The contracts of the laws' own helpers on definitions: szDef counts off, toDef copies, eqDef finds a definition the same as its like.
-/
import Derived.Test.YtcfhpcbkdpgboaaJLawRuleS
import Derived.Test.YtcfhpcbkdpgboaaJDefRow
import Derived.Test.YtcfhpcbkdpgboaaJoined1
namespace Go.Proofs.Ytcfhpcbkdpgboaa
open Go.RowKit
set_option linter.unusedVariables false
set_option maxRecDepth 100000

set_option maxRecDepth 100000 in
set_option maxHeartbeats 1600000 in
theorem szDef_any (x : DE) (left : Int) (w : World) (hr : RdDef w x) (hs : x.ok) (h0 : 0 ≤ left) (h1 : left ≤ 1048576) :
    Calls Try.prog 6 #[.agg #[.string x.nm, .slice x.aR x.nR x.cR], .int .i64 left] w fun e w' =>
      (∃ r, e = .returned (.int .i64 r) ∧ (r = -1 ∨ (0 ≤ r ∧ r + (x.sz : Int) ≤ left ∧ x.small))) ∧ Below w.heap.size w w' := by
  obtain ⟨s0, s1, s2⟩ := hs
  rw [← hr.nr]
  rw [← hr.nr] at s1
  have HSz : Hid (x.sz = x.nm.size + (x.R.length + (x.R.map RE.sz).sum)) := rfl
  obtain ⟨nR, hR⟩ : ∃ n, n = x.R.length + (x.R.map RE.sz).sum := ⟨_, rfl⟩
  rw [← hR] at HSz
  unfold maxLen at s0
  by_cases h2 : left - (x.nm.size : Int) < 0
  · go_enter Try.func6, Try.ntmps6
    go_wp2
    go_ret
    exact ⟨⟨-1, rfl, .inl rfl⟩, by go_grown⟩
  · have b0 := below_al w (.cells #[.string x.nm, .slice x.aR x.R.length x.cR] 24)
    go_enter Try.func6, Try.ntmps6
    go_wp2_with fail
    refine (szRuleS_any x.aR x.cR x.R (left - x.nm.size) _ (hr.r.below b0) s2 s1 (by omega) (by omega)).mono ?_
    rintro e w1 ⟨⟨r, rfl, hr1⟩, hb1⟩
    have hB1 : Below w.heap.size w w1 := b0.trans (hb1.mono b0.size)
    clear hb1 b0
    rcases hr1 with rfl | ⟨p1, p2, p3⟩
    · go_wp2
      go_ret
      exact ⟨⟨-1, rfl, .inl rfl⟩, hB1⟩
    · rw [← hR] at p2
      have HF : Hid (r + (x.sz : Int) ≤ left ∧ x.small) := by
        have := HSz.out
        have h5 : r + (x.sz : Int) ≤ left := by omega
        exact ⟨h5, by omega, p3⟩
      have h6 : ¬ (r < 0) := by omega
      clear p2 p3 hR HSz
      go_wp2
      go_ret
      exact ⟨⟨r, rfl, .inr ⟨p1, HF.out.1, HF.out.2⟩⟩, hB1⟩

set_option maxRecDepth 100000 in
set_option maxHeartbeats 1600000 in
theorem toDef_any (x : DE) (w : World) (hr : RdDef w x) (hs : x.small) :
    Calls Try.prog 8 #[.agg #[.string x.nm, .slice x.aR x.nR x.cR]] w fun e w' =>
      ∃ y : DE, e = .returned (.agg #[.string y.nm, .slice y.aR y.nR y.cR]) ∧ OwnDef w' w.heap.size w'.heap.size y ∧ y.pl = x.pl ∧ Below w.heap.size w w' := by
  have HN := hide hr.nr
  obtain ⟨s1, s2⟩ := hs
  unfold DE.sz at s1
  have l1 : x.R.length ≤ 1048576 := by omega
  clear s1
  rw [← hr.nr]
  obtain ⟨hA, hR, hX, b2⟩ := boxes3 w #[.string x.nm, .slice x.aR x.R.length x.cR] #[.string ⟨#[]⟩, .slice none 0 0] #[.string x.nm, .slice none 0 0] 24 29 29
  go_enter Try.func8, Try.ntmps8
  go_wp2_with fail
  refine (toRuleS_any x.aR x.cR x.R _ (hr.r.below b2) l1 s2).mono ?_
  rintro e w1 ⟨KR, gR, rfl, oR, plR, hb⟩
  have HR := hide (box_below hR hb (by simp))
  have HX := hide (box_below hX hb (by simp))
  have hB : Below w.heap.size w w1 := b2.trans (hb.mono b2.size)
  have hz : w.heap.size + 1 + 1 + 1 ≤ w1.heap.size := Nat.le_trans (by simp) hb.size
  simp only [World.size_alloc] at oR
  have HPl := hide plR
  clear hb hA hR hX b2 plR
  have x1 := boxk_cell HX.out 1 _ rfl
  have xf1 := boxk_frozen HX.out 1
  have x0 := boxk_cell HX.out 0 _ rfl
  have HX2 := hide (boxk_set HX.out 1 (.slice (some ⟨gR, 0, none⟩) x.R.length x.R.length))
  have HR2 := hide (box_gr HR.out HX2.out.2 (by omega))
  have HB2 := hide (below_set hB HX2.out.2 (by omega))
  have HO2 := hide (oR.grown innRule HX2.out.2 (.inl (by omega)))
  have hz2 := HX2.out.2.size
  have r0 := boxk_cell HR.out 0 _ rfl
  have r1 := boxk_cell HR.out 1 _ rfl
  have rf0 := boxk_frozen HR.out 0
  have rf1 := boxk_frozen HR.out 1
  clear oR hB
  go_wp2
  refine box2_post HR2.out (fun w7 h7 gr => ?_)
  clear x0 x1 xf1 r0 r1 rf0 rf1
  have c0 := boxk_cell h7 0 _ rfl
  have c1 := boxk_cell h7 1 _ rfl
  have hz7 := gr.size
  have lR := map_len HPl.out
  have oR7 := HO2.out.grown innRule gr (.inl (by omega))
  refine bodyPost_ret (v := .agg #[.string x.nm, .slice (some ⟨gR, 0, none⟩) x.R.length x.R.length]) (by simp [results, Try.results8, go_sem, c0, c1]) rfl
    ⟨⟨x.nm, some ⟨gR, 0, none⟩, x.R.length, x.R.length, KR⟩, rfl, ⟨⟨gR, rfl, ?_⟩, lR⟩, ?_, below_set HB2.out gr (by omega)⟩
  · exact oR7.weaken (by omega) (by omega) (Nat.le_refl _)
  · unfold DE.pl
    simp only
    rw [HPl.out]

set_option maxRecDepth 100000 in
set_option maxHeartbeats 1600000 in
theorem eqDef_same (x y : DE) (w : World) (hx : RdDef w x) (hy : RdDef w y) (h : x.pl = y.pl) (hs : x.small) :
    Calls Try.prog 10 #[.agg #[.string x.nm, .slice x.aR x.nR x.cR], .agg #[.string y.nm, .slice y.aR y.nR y.cR]] w fun e w' =>
      e = .returned (.bool true) ∧ Below w.heap.size w w' := by
  obtain ⟨e1, e2⟩ := DE.pl_inj h
  obtain ⟨s1, s2⟩ := hs
  unfold DE.sz at s1
  have l1 : x.nR ≤ 1048576 := by rw [← hx.nr]; omega
  have n1 : y.nR = x.nR := by rw [← hx.nr, ← hy.nr, map_len e2]
  rw [n1, ← e1]
  have k0 : (x.nm.toList == x.nm.toList) = true := by simp
  have k1 : (x.nm.toList != x.nm.toList) = false := by simp
  have HP := hide e2
  clear s1 h e1 e2 n1
  go_enter Try.func10, Try.ntmps10
  go_wp2_with fail
  obtain ⟨hP, hQ, b1⟩ := boxes2 w #[.string x.nm, .slice x.aR x.nR x.cR] #[.string x.nm, .slice y.aR x.nR y.cR] 29 29
  refine (eqRuleS_same x.aR y.aR x.cR y.cR x.nR x.R y.R _ (hx.r.below b1) (hy.r.below b1) hx.nr HP.out (by omega) s2).mono ?_
  rintro e w1 ⟨rfl, hb⟩
  have hB1 : Below w.heap.size w w1 := b1.trans (hb.mono b1.size)
  clear hb hP hQ b1
  go_wp2
  go_ret
  exact ⟨rfl, hB1⟩
end Go.Proofs.Ytcfhpcbkdpgboaa
