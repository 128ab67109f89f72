/-
  What the model's Assert answers.
-/
import Derived.Test.YtaflokfgbmlmaadDoorJoined2
import Derived.Test.YtaflokfgbmlmaadDoorJStoreS
namespace Go.Proofs.YtaflokfgbmlmaadDoor
open Go.RowKit
set_option linter.unusedVariables false

/-- Assert, plainly: the Id, Next, the items -/
noncomputable def asR (nx : Int) (J : List It) (kd : ByteArray) (M : List V3) : Int × Int × List P4 := if storeB nx J = true ∧ factB kd M = true then assP (J.map It.pl) nx kd M else (0, nx, J.map It.pl)
theorem GivesS.hv {w : World} {lo n : Nat} {v : Value} {K : List It} (h : GivesS w lo v n K) : ∃ va vc, v = .slice va n vc ∧ HV w lo n va vc K := by
  rcases h with ⟨rfl, rfl, rfl⟩ | ⟨g, cp, rfl, o⟩
  · exact ⟨none, 0, rfl, .inl ⟨rfl, rfl, rfl, rfl⟩⟩
  · exact ⟨_, cp, rfl, .inr ⟨g, rfl, o⟩⟩
theorem plK_len {J K : List It} (h : K.map It.pl = J.map It.pl) : K.length = J.length := by have := congrArg List.length h; simpa using this
theorem pl_L {J K : List It} {m : Nat} (h : K.map It.pl = J.map It.pl) (hl : ∀ i, i < J.length → (iAt J i).L.length ≤ m) : ∀ i, i < K.length → (iAt K i).L.length ≤ m := fun i hi => by
  have hj : i < J.length := by rw [← plK_len h]; exact hi
  have e : (K.map It.pl)[i]? = (J.map It.pl)[i]? := by rw [h]
  simp only [List.getElem?_map, List.getElem?_eq_getElem hi, List.getElem?_eq_getElem hj, Option.map_some, Option.some.injEq] at e
  have h2 := hl i hj
  rw [iAt_in hj] at h2
  rw [iAt_in hi]
  have e2 : (K[i]).L = (J[i]).L := congrArg P4.L e
  rw [e2]; exact h2

set_option maxRecDepth 100000 in
set_option maxHeartbeats 6400000 in
theorem specAssert_any (a b : Option Addr) (n cap cb : Nat) (nx : Int) (kd : ByteArray) (J : List It) (M : List V3) (w : World) (hr : RdI w a J) (hJ : J.length = n) (hn : n ≤ 1048576) (hs : ∀ i, i < J.length → okI (iAt J i)) (hl : ∀ i, i < J.length → (iAt J i).L.length ≤ 1048580)
    (hq : RdV w b M) (hkd : kd.size ≤ maxLen) (hsM : ∀ v ∈ M, v.S.size ≤ maxLen) (hm : M.length ≤ 1048580) :
    Calls Tryd.prog 13 #[.agg #[.slice a n cap, .int .i64 nx], .agg #[.string kd, .slice b M.length cb]] w fun e w' =>
      ∃ va vc K, e = .returned (.tuple #[.agg #[.slice va K.length vc, .int .i64 (asR nx J kd M).2.1], .int .i64 (asR nx J kd M).1, .bool (decide (0 < (asR nx J kd M).1))]) ∧ HV w' w.heap.size K.length va vc K ∧ K.map It.pl = (asR nx J kd M).2.2 ∧ Below w.heap.size w w' := by
  have HJ := hide hJ
  have HL := hide hl
  have HS := hide hs
  have HSM := hide hsM
  clear hJ hl hs hsM
  have b0 := below_al w (.cells #[.slice a n cap, .int .i64 nx] 29)
  have b1 := b0.alloc b0.size (.cells #[.string kd, .slice b M.length cb] 41)
  have b2 := b1.alloc b1.size (.cells #[.slice none 0 0, .int .i64 0] 29)
  have hA := box_old (box_old (box2_new w (.slice a n cap) (.int .i64 nx) 29) (by simp) (.cells #[.string kd, .slice b M.length cb] 41)) (by simp; omega) (.cells #[.slice none 0 0, .int .i64 0] 29)
  have hF := box_old (box2_new (w.alloc (.cells #[.slice a n cap, .int .i64 nx] 29)) (.string kd) (.slice b M.length cb) 41) (by simp) (.cells #[.slice none 0 0, .int .i64 0] 29)
  have hR := box2_new ((w.alloc (.cells #[.slice a n cap, .int .i64 nx] 29)).alloc (.cells #[.string kd, .slice b M.length cb] 41)) (.slice none 0 0) (.int .i64 0) 29
  simp only [World.size_alloc] at hA hF hR
  go_enter Tryd.func13, Tryd.ntmps13
  go_wp2_with fail
  generalize ((w.alloc (.cells #[.slice a n cap, .int .i64 nx] 29)).alloc (.cells #[.string kd, .slice b M.length cb] 41)).alloc (.cells #[.slice none 0 0, .int .i64 0] 29) = w0 at b2 hA hF hR ⊢
  clear b0 b1
  have hr0 := hr.below b2
  have hq0 := hq.below b2
  refine (l4Copy_any a n cap nx J _ hr0 HJ.out hn HL.out).mono ?_
  rintro e w1 ⟨K, v, rfl, hG, hpl, hb1⟩
  obtain ⟨va, vc, rfl, hV1⟩ := hG.hv
  have HPl := hide hpl
  have HKn : Hid (K.length = n) := by unfold Hid; rw [plK_len HPl.out, HJ.out]
  have ba := below_al w1 (.cells #[.slice va n vc, .int .i64 nx] 29)
  have hP2 := box2_new w1 (.slice va n vc) (.int .i64 nx) 29
  have hb2 := hb1.trans (ba.mono hb1.size)
  have hA2 := box_step hA hb2
  have hF2 := box_step hF hb2
  have hR2 := box_step hR hb2
  have hV2 := hV1.later ba
  have hr2 := hr0.below hb2
  have hq2 := hq0.below hb2
  have hB2 : Below w.heap.size w _ := b2.trans (hb2.mono b2.size)
  have hlo : w.heap.size + 1 + 1 + 1 ≤ w0.heap.size := (Array.getElem?_eq_some_iff.1 hR).1
  have hw1 := hb1.size
  clear hG hpl hV1
  obtain ⟨x0, x1, -, -⟩ := box2_cell hA2
  go_wp2_with fail
  generalize w1.alloc (.cells #[.slice va n vc, .int .i64 nx] 29) = w2 at ba hP2 hb2 hA2 hF2 hR2 hV2 hr2 hq2 hB2 ⊢
  clear x0 x1
  refine (specStoreOk_any a n cap nx J _ hr2 HJ.out (by omega) HS.out HL.out).mono ?_
  rintro e w3 ⟨rfl, hb3⟩
  have hP3 := box_step hP2 hb3
  have hF3 := box_step hF2 hb3
  have hR3 := box_step hR2 hb3
  have hV3 := hV2.later hb3
  have hq3 := hq2.below hb3
  have hB3 := hB2.trans (hb3.mono hB2.size)
  have hl3 : w0.heap.size ≤ w3.heap.size := Nat.le_trans hb2.size hb3.size
  clear hA2 hP2 hF2 hR2 hV2 hq2 hB2 hr2 hb3 ba hb2 hb1 hq0 hr0 hA hF hR b2
  obtain ⟨sb, hsb⟩ : ∃ sb, storeB nx J = sb := ⟨_, rfl⟩
  have HSb := hide hsb
  rw [hsb]
  clear hsb
  obtain ⟨p0, p1, -, -⟩ := box2_cell hP3
  obtain ⟨r0, r1, rf0, rf1⟩ := box2_cell hR3
  obtain ⟨f0, f1, -, -⟩ := box2_cell hF3
  cases sb
  · have HA : Hid (asR nx J kd M = (0, nx, J.map It.pl)) := by unfold Hid asR; rw [HSb.out]; simp
    go_wp2
    refine box2_post hR3 (fun w4 h4 gr => ?_)
    clear p0 p1 r0 r1 rf0 rf1 f0 f1
    obtain ⟨d0, d1, -, -⟩ := box2_cell h4
    exact bodyPost_ret (v := .tuple #[.agg #[.slice va n vc, .int .i64 nx], .int .i64 0, .bool false]) (by simp [results, Tryd.results13, go_sem, d0, d1]) rfl
      ⟨va, vc, K, by rw [HA.out, HKn.out]; rfl, by rw [HKn.out]; exact (hV3.grown gr (by omega)).weaken (by omega), by rw [HA.out]; exact HPl.out, below_set hB3 gr (by omega)⟩
  · have hnx := (storeB_iff.1 HSb.out).1
    go_wp2_with fail
    refine (specFactOk_any kd b cb M _ hkd hq3 HSM.out hm).mono ?_
    rintro e w4 ⟨rfl, hb4⟩
    have hP4 := box_step hP3 hb4
    have hF4 := box_step hF3 hb4
    have hR4 := box_step hR3 hb4
    have hV4 := hV3.later hb4
    have hq4 := hq3.below hb4
    have hB4 := hB3.trans (hb4.mono hB3.size)
    have hl4 : w0.heap.size ≤ w4.heap.size := Nat.le_trans hl3 hb4.size
    clear p0 p1 r0 r1 rf0 rf1 f0 f1 hP3 hF3 hR3 hV3 hq3 hB3 hb4 hl3
    obtain ⟨fb, hfb⟩ : ∃ fb, factB kd M = fb := ⟨_, rfl⟩
    have HFb := hide hfb
    rw [hfb]
    clear hfb
    obtain ⟨p0, p1, -, -⟩ := box2_cell hP4
    obtain ⟨r0, r1, rf0, rf1⟩ := box2_cell hR4
    obtain ⟨f0, f1, -, -⟩ := box2_cell hF4
    cases fb
    · have HA : Hid (asR nx J kd M = (0, nx, J.map It.pl)) := by unfold Hid asR; rw [HFb.out]; simp
      go_wp2
      refine box2_post hR4 (fun w5 h5 gr => ?_)
      clear p0 p1 r0 r1 rf0 rf1 f0 f1
      obtain ⟨d0, d1, -, -⟩ := box2_cell h5
      exact bodyPost_ret (v := .tuple #[.agg #[.slice va n vc, .int .i64 nx], .int .i64 0, .bool false]) (by simp [results, Tryd.results13, go_sem, d0, d1]) rfl
        ⟨va, vc, K, by rw [HA.out, HKn.out]; rfl, by rw [HKn.out]; exact (hV4.grown gr (by omega)).weaken (by omega), by rw [HA.out]; exact HPl.out, below_set hB4 gr (by omega)⟩
    · have HA : Hid (asR nx J kd M = assP (K.map It.pl) nx kd M) := by unfold Hid asR; rw [HSb.out, HFb.out, HPl.out]; simp
      go_wp2_with fail
      refine (l4Assert_any w1.heap.size w0.heap.size n vc cb va b nx kd K M _ hP4 hV4 HKn.out hn (pl_L HPl.out HL.out) hq4 hm hw1 hl4 (by omega)).mono ?_
      rw [← HA.out]
      obtain ⟨⟨r, nx', Kp⟩, hra⟩ : ∃ y, asR nx J kd M = y := ⟨_, rfl⟩
      rw [hra]
      rintro e w5 ⟨rfl, va', vc', K', hP5, hV5, hpl5, hb5⟩
      have hR5 := (hb5.block (w.heap.size + 1 + 1) (by omega)).trans hR4
      have hB5 := hB4.trans (hb5.mono (by omega))
      clear p0 p1 r0 r1 rf0 rf1 f0 f1 hP4 hF4 hR4 hV4 hq4 hB4 HA
      obtain ⟨p0, p1, -, -⟩ := box2_cell hP5
      obtain ⟨r0, r1, rf0, rf1⟩ := box2_cell hR5
      simp only at p0 p1 hpl5
      have HRa := hide hra
      clear hra
      by_cases h0 : 0 < r
      · go_wp2
        refine box2_post hR5 (fun w6 h6 gr => ?_)
        clear p0 p1 r0 r1 rf0 rf1
        obtain ⟨d0, d1, -, -⟩ := box2_cell h6
        exact bodyPost_ret (v := .tuple #[.agg #[.slice va' K'.length vc', .int .i64 nx'], .int .i64 r, .bool true]) (by simp [results, Tryd.results13, go_sem, d0, d1]) rfl
          ⟨va', vc', K', by rw [HRa.out, decide_eq_true h0], (hV5.grown gr (by omega)).weaken (by omega), by rw [HRa.out]; exact hpl5, below_set hB5 gr (by omega)⟩
      · have h0' : r ≤ 0 := by omega
        go_wp2
        refine box2_post hR5 (fun w6 h6 gr => ?_)
        clear p0 p1 r0 r1 rf0 rf1
        obtain ⟨d0, d1, -, -⟩ := box2_cell h6
        exact bodyPost_ret (v := .tuple #[.agg #[.slice va' K'.length vc', .int .i64 nx'], .int .i64 r, .bool false]) (by simp [results, Tryd.results13, go_sem, d0, d1, h0']) rfl
          ⟨va', vc', K', by rw [HRa.out, decide_eq_false (Int.not_lt.2 h0')], (hV5.grown gr (by omega)).weaken (by omega), by rw [HRa.out]; exact hpl5, below_set hB5 gr (by omega)⟩
end Go.Proofs.YtaflokfgbmlmaadDoor
