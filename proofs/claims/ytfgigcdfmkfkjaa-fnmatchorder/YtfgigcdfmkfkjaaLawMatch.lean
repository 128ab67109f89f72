/-
  The contracts of the laws' own helpers on matches: szMatch counts off, toMatch copies, eqMatch finds a match the same as its like.
-/
import Derived.Test.YtfgigcdfmkfkjaaMatchRow
import Derived.Test.YtfgigcdfmkfkjaaLawBind
import Derived.Test.YtfgigcdfmkfkjaaBoxK
import Derived.Test.YtfgigcdfmkfkjaaBox11
namespace Go.Proofs.Ytfgigcdfmkfkjaa
open Go.RowKit
set_option linter.unusedVariables false
set_option maxRecDepth 100000

set_option maxHeartbeats 1600000 in
theorem szMatch_any (x : ME) (left : Int) (w : World) (hr : RdMatch w x) (hs : x.ok) (h0 : 0 ≤ left) (h1 : left ≤ 1048576) :
    Calls Try.prog 9 #[.agg #[.int .i64 x.r, .slice x.aI x.nI x.cI, .slice x.aB x.nB x.cB], .int .i64 left] w fun e w' =>
      (∃ r, e = .returned (.int .i64 r) ∧ (r = -1 ∨ (0 ≤ r ∧ r ≤ left ∧ x.small))) ∧ Below w.heap.size w w' := by
  obtain ⟨s0, s1, s2⟩ := hs
  rw [← hr.nb]
  rw [← hr.nb] at s1
  have HNI := hide hr.ni
  have b0 := below_al w (.cells #[.int .i64 x.r, .slice x.aI x.nI x.cI, .slice x.aB x.L.length x.cB] 25)
  have hA := boxk_new w #[.int .i64 x.r, .slice x.aI x.nI x.cI, .slice x.aB x.L.length x.cB] 25
  go_enter Try.func9, Try.ntmps9
  go_wp2_with fail
  refine (szIntS_any x.aI x.nI x.cI left _ s0 h0 h1).mono ?_
  rintro e w1 ⟨⟨r, rfl, hr1⟩, hb1⟩
  have hB1 : Below w.heap.size w w1 := b0.trans (hb1.mono b0.size)
  have HA := hide (box_step hA hb1)
  clear hb1 b0 hA
  rcases hr1 with rfl | ⟨p1, p2⟩
  · go_wp2
    go_ret
    exact ⟨⟨-1, rfl, .inl rfl⟩, hB1⟩
  · have a2 := boxk_cell HA.out 2 _ rfl
    go_wp2_with fail
    refine (szBindS_any x.aB x.cB x.L r _ (hr.b.below hB1) s2 s1 p1 (by omega)).mono ?_
    rintro e w2 ⟨⟨r', rfl, hr2⟩, hb2⟩
    have hB2 : Below w.heap.size w w2 := hB1.trans (hb2.mono hB1.size)
    clear hb2 hB1 a2 HA
    rcases hr2 with rfl | ⟨q1, q2, q3⟩
    · go_wp2
      go_ret
      exact ⟨⟨-1, rfl, .inl rfl⟩, hB2⟩
    · have HF : Hid (x.small) := ⟨by rw [HNI.out]; omega, by omega⟩
      have hle : r' ≤ left := by omega
      have hnn : ¬ (r' < 0) := by omega
      clear q2 q3
      go_wp2
      go_ret
      exact ⟨⟨r', rfl, .inr ⟨q1, hle, HF.out⟩⟩, hB2⟩

set_option maxHeartbeats 1600000 in
theorem toMatch_any (x : ME) (w : World) (hr : RdMatch w x) (hs : x.small) :
    Calls Try.prog 11 #[.agg #[.int .i64 x.r, .slice x.aI x.nI x.cI, .slice x.aB x.nB x.cB]] w fun e w' =>
      ∃ y : ME, e = .returned (.agg #[.int .i64 y.r, .slice y.aI y.nI y.cI, .slice y.aB y.nB y.cB]) ∧ RdMatch w' y ∧ y.pl = x.pl ∧ Below w.heap.size w w' := by
  have HN := hide hr.ni
  have HM := hide hr.nb
  obtain ⟨l1, l2⟩ := hs
  rw [← hr.nb]
  obtain ⟨hA, hR, hX, b2⟩ := boxes3 w #[.int .i64 x.r, .slice x.aI x.nI x.cI, .slice x.aB x.L.length x.cB] #[.int .i64 0, .slice none 0 0, .slice none 0 0] #[.int .i64 x.r, .slice none 0 0, .slice none 0 0] 25 30 30
  go_enter Try.func11, Try.ntmps11
  go_wp2_with fail
  refine (toIntS_at x.aI x.nI x.cI x.zs _ (hr.i.below b2) HN.out (by rw [← HN.out]; exact l1)).mono ?_
  rintro e w1 ⟨rfl, oI, hb⟩
  have HA := hide (box_below hA hb (by simp; omega))
  have HR := hide (box_below hR hb (by simp))
  have HX := hide (box_below hX hb (by simp))
  have hB : Below w.heap.size w w1 := b2.trans (hb.mono b2.size)
  have hz : w.heap.size + 1 + 1 + 1 ≤ w1.heap.size := Nat.le_trans (by simp) hb.size
  simp only [World.size_alloc] at oI ⊢
  obtain ⟨gI, hgI⟩ : ∃ gI, Hid (w.heap.size + 1 + 1 + 1 = gI) := ⟨_, rfl⟩
  rw [hgI.out] at oI ⊢
  have hgI2 : w.heap.size + 2 < gI := by have := hgI.out; omega
  have hgI3 : gI < w1.heap.size := (World.ownsRow.lt oI gI rfl).2
  clear hb hA hR hX b2
  have x1 := boxk_cell HX.out 1 _ rfl
  have xf1 := boxk_frozen HX.out 1
  have a2 := boxk_cell HA.out 2 _ rfl
  have HX2 := hide (boxk_set HX.out 1 (.slice (some ⟨gI, 0, none⟩) x.nI x.nI))
  have HR2 := hide (box_gr HR.out HX2.out.2 (by omega))
  have HA2 := hide (box_gr HA.out HX2.out.2 (by omega))
  have HB2 := hide (below_set hB HX2.out.2 (by omega))
  have HO2 := hide (World.ownsRow.kept oI HX2.out.2 (.inr (by simp [Value.ownBlock]; omega)))
  have HRb : Hid (RdBind (w1.setCell ⟨w.heap.size + 2, 1, none⟩ (.slice (some ⟨gI, 0, none⟩) x.nI x.nI)) x.aB x.L) := hr.b.below HB2.out
  clear oI hB
  go_wp2_with fail
  have HX2' := hide HX2.out.1
  have hz2 := HX2.out.2.size
  clear HX2 x1 xf1 a2 HX HR HA
  generalize w1.setCell ⟨w.heap.size + 2, 1, none⟩ (.slice (some ⟨gI, 0, none⟩) x.nI x.nI) = w2 at HX2' HR2 HA2 HB2 HO2 HRb hz2 ⊢
  refine (toBindS_ex x.aB x.cB x.L _ HRb.out l2).mono ?_
  rintro e w3 ⟨gB, rfl, hgB, oB, hb3⟩
  have HX3 := hide (box_step HX2'.out hb3)
  have HR3 := hide (box_step HR2.out hb3)
  have HB3 := hide (HB2.out.trans (hb3.mono HB2.out.size))
  have HO3 := hide (ownsRow_below' HO2.out hb3)
  have hz3 := hb3.size
  clear hb3 HX2' HR2 HA2 HB2 HO2 HRb
  have x2 := boxk_cell HX3.out 2 _ rfl
  have xf2 := boxk_frozen HX3.out 2
  have x0 := boxk_cell HX3.out 0 _ rfl
  have x1 := boxk_cell HX3.out 1 _ rfl
  have HX4 := hide (boxk_set HX3.out 2 (.slice (some ⟨gB, 0, none⟩) x.L.length x.L.length))
  have HR4 := hide (box_gr HR3.out HX4.out.2 (by omega))
  have HB4 := hide (below_set HB3.out HX4.out.2 (by omega))
  have HO4 := hide (World.ownsRow.kept HO3.out HX4.out.2 (.inr (by simp [Value.ownBlock]; omega)))
  have HOB4 := hide (oB.grown HX4.out.2 (by omega))
  have r0 := boxk_cell HR3.out 0 _ rfl
  have r1 := boxk_cell HR3.out 1 _ rfl
  have r2 := boxk_cell HR3.out 2 _ rfl
  have rf0 := boxk_frozen HR3.out 0
  have rf1 := boxk_frozen HR3.out 1
  have rf2 := boxk_frozen HR3.out 2
  clear oB HX3
  go_wp2
  refine box_post HR4.out (fun w7 h7 gr => ?_)
  clear x0 x1 x2 xf2 r0 r1 r2 rf0 rf1 rf2
  have c0 := boxk_cell h7 0 _ rfl
  have c1 := boxk_cell h7 1 _ rfl
  have c2 := boxk_cell h7 2 _ rfl
  have oI7 := World.ownsRow.kept HO4.out gr (.inr (by simp [Value.ownBlock]; omega))
  have oB7 := HOB4.out.grown gr (by omega)
  exact bodyPost_ret (v := .agg #[.int .i64 x.r, .slice (some ⟨gI, 0, none⟩) x.nI x.nI, .slice (some ⟨gB, 0, none⟩) x.L.length x.L.length]) (by simp [results, Try.results11, go_sem, c0, c1, c2]) rfl
    ⟨⟨x.r, some ⟨gI, 0, none⟩, x.nI, x.nI, x.zs, some ⟨gB, 0, none⟩, x.L.length, x.L.length, x.L⟩, rfl, ⟨rdN_of oI7, HN.out, rdOwnBind oB7, rfl⟩, rfl, below_set HB4.out gr (by omega)⟩

set_option maxHeartbeats 1600000 in
theorem eqMatch_same (x y : ME) (w : World) (hx : RdMatch w x) (hy : RdMatch w y) (h : x.pl = y.pl) (hs : x.small) :
    Calls Try.prog 13 #[.agg #[.int .i64 x.r, .slice x.aI x.nI x.cI, .slice x.aB x.nB x.cB], .agg #[.int .i64 y.r, .slice y.aI y.nI y.cI, .slice y.aB y.nB y.cB]] w fun e w' =>
      e = .returned (.bool true) ∧ Below w.heap.size w w' := by
  obtain ⟨e1, e2, e3⟩ := ME.pl_inj h
  obtain ⟨l1, l2⟩ := hs
  have n1 : y.nI = x.nI := by rw [← hx.ni, ← hy.ni, e2]
  have ryi : RdN w y.aI x.zs := by rw [e2]; exact hy.i
  have ryb : RdBind w y.aB x.L := by rw [e3]; exact hy.b
  have n2 : y.nB = x.L.length := by rw [← hy.nb, e3]
  have hl3 : x.nI ≤ 1048580 := by rw [← hx.ni]; omega
  rw [n1, n2, ← e1, ← hx.nb]
  have k0 : (x.r != x.r) = false := by simp
  obtain ⟨hP, hQ, b1⟩ := boxes2 w #[.int .i64 x.r, .slice x.aI x.nI x.cI, .slice x.aB x.L.length x.cB] #[.int .i64 x.r, .slice y.aI x.nI y.cI, .slice y.aB x.L.length y.cB] 30 30
  have HRI := hide hx.i
  have HRB := hide hx.b
  have HNI := hide hx.ni
  clear h e1 e2 e3 n1 n2 hx hy
  go_enter Try.func13, Try.ntmps13
  go_wp2_with fail
  refine (eqIntS_same x.aI y.aI x.nI x.cI y.cI x.zs _ HNI.out (HRI.out.below b1) (ryi.below b1) hl3).mono ?_
  rintro e w1 ⟨rfl, hb⟩
  have hB1 : Below w.heap.size w w1 := b1.trans (hb.mono b1.size)
  have HP := hide (box_step hP hb)
  have HQ := hide (box_step hQ hb)
  clear hb hP hQ b1
  have p2 := boxk_cell HP.out 2 _ rfl
  have q2 := boxk_cell HQ.out 2 _ rfl
  go_wp2_with fail
  refine (eqBindS_same x.aB y.aB x.cB y.cB x.L _ (HRB.out.below hB1) (ryb.below hB1) (by omega)).mono ?_
  rintro e w2 ⟨rfl, hb2⟩
  have hB2 : Below w.heap.size w w2 := hB1.trans (hb2.mono hB1.size)
  clear hb2 hB1 p2 q2
  go_wp2
  go_ret
  exact ⟨rfl, hB2⟩
end Go.Proofs.Ytfgigcdfmkfkjaa
