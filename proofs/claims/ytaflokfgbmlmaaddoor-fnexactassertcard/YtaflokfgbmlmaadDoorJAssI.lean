/-
  What the tested Assert answers: as the model's.
-/
import Derived.Test.YtaflokfgbmlmaadDoorJAssS
import Derived.Test.YtaflokfgbmlmaadDoorJoined2
import Derived.Test.YtaflokfgbmlmaadDoorJAssM
import Derived.Test.YtaflokfgbmlmaadDoorJCopySt
import Derived.Test.YtaflokfgbmlmaadDoorJStoreI
import Derived.Deep.DeepCutAuto
import Derived.Deep.RegionHeld3
namespace Go.Proofs.YtaflokfgbmlmaadDoor
open Go.RowKit
set_option linter.unusedVariables false

theorem box2_post_drew {P : Program} {f : Func} {Q : Ending → World → Prop} {x : Exit} {act : Act} {w : World} {q : Nat} {c0 c1 a b : Value} {T : TypeId} (h : w.heap[q]? = some (.cells #[c0, c1] T (0, 0)))
    (k : ∀ w2, w2.heap[q]? = some (.cells #[a, b] T (0, 0)) → w.grownBy w2 (some q) → bodyPost P f Q x act w2) :
    bodyPost P f Q x act ((w.setCell ⟨q, 0, none⟩ a).setCell ⟨q, 1, none⟩ b) :=
  k _ (box2_set h a b).1 (box2_set h a b).2
theorem cell_gr {w w' : World} {q x o : Nat} {v : Value} (hg : w.grownBy w' (some q)) (hc : w.cell? ⟨x, o, none⟩ = some v) (hx : x ≠ q) : w'.cell? ⟨x, o, none⟩ = some v := by
  rw [World.cell?_of_block (hg.block x (World.block_lt_of_cell? w _ hc) (fun e => hx (Option.some.inj e)))]; exact hc
theorem zItem (W : World) : (zeroValue 54).run Tryd.prog W = .ok (.agg #[.int .i64 0, .string ⟨#[]⟩, .slice none 0 0]) W := by kernel_rfl

set_option maxRecDepth 100000 in
set_option maxHeartbeats 12800000 in
theorem implAssert_any (a b : Option Addr) (n cap cb : Nat) (nx : Int) (kd : ByteArray) (J : List It) (M : List V3) (w : World) (hr : RdI w a J) (hJ : J.length = n) (hn : n ≤ 1048576) (hs : ∀ i, i < J.length → okI (iAt J i)) (hl : ∀ i, i < J.length → (iAt J i).L.length ≤ 1048580) (hli : ∀ i, i < J.length → LieV (iAt J i).a (iAt J i).L.length (iAt J i).cap)
    (hq : RdV w b M) (hkd : kd.size ≤ maxLen) (hsM : ∀ v ∈ M, v.S.size ≤ maxLen) (hm : M.length ≤ 1048580) (hlM : LieV b M.length cb) (ht : Tab w) :
    Calls Tryd.prog 15 #[.agg #[.slice a n cap, .int .i64 nx], .agg #[.string kd, .slice b M.length cb]] w fun e w' =>
      ∃ g vc K, e = .returned (.tuple #[.agg #[.slice (some ⟨g, 0, none⟩) K.length vc, .int .i64 (asR nx J kd M).2.1], .int .i64 (asR nx J kd M).1, .bool (decide (0 < (asR nx J kd M).1))]) ∧ HV w' w.heap.size K.length (some ⟨g, 0, none⟩) vc K ∧ K.map It.pl = (asR nx J kd M).2.2 ∧ Below w.heap.size w w' := by
  have HJ := hide hJ
  have HL := hide hl
  have HS := hide hs
  have HSM := hide hsM
  have HLi := hide hli
  have HTab := hide ht
  clear hJ hl hs hsM hli ht
  have b0 := below_al w (.cells #[.slice a n cap, .int .i64 nx] 29)
  have b1 := b0.alloc b0.size (.cells #[.string kd, .slice b M.length cb] 41)
  have b2 := b1.alloc b1.size (.cells #[.slice none 0 0, .int .i64 0] 29)
  have hA := box_old (box_old (box2_new w (.slice a n cap) (.int .i64 nx) 29) (by simp) (.cells #[.string kd, .slice b M.length cb] 41)) (by simp; omega) (.cells #[.slice none 0 0, .int .i64 0] 29)
  have hF := box_old (box2_new (w.alloc (.cells #[.slice a n cap, .int .i64 nx] 29)) (.string kd) (.slice b M.length cb) 41) (by simp) (.cells #[.slice none 0 0, .int .i64 0] 29)
  have hR := box2_new ((w.alloc (.cells #[.slice a n cap, .int .i64 nx] 29)).alloc (.cells #[.string kd, .slice b M.length cb] 41)) (.slice none 0 0) (.int .i64 0) 29
  simp only [World.size_alloc] at hA hF hR
  go_enter Tryd.func15, Tryd.ntmps15
  go_wp2_with fail
  generalize ((w.alloc (.cells #[.slice a n cap, .int .i64 nx] 29)).alloc (.cells #[.string kd, .slice b M.length cb] 41)).alloc (.cells #[.slice none 0 0, .int .i64 0] 29) = w0 at b2 hA hF hR ⊢
  clear b0 b1
  have hr0 := hr.below b2
  have hq0 := hq.below b2
  refine (copyStore_any a n cap nx J _ hr0 HJ.out hn HL.out HLi.out).mono ?_
  rintro e w1 ⟨K, g, vc, rfl, hH1, hpl, hb1⟩
  have HPl := hide hpl
  have HKn : Hid (K.length = n) := by unfold Hid; rw [plK_len HPl.out, HJ.out]
  have ba := below_al w1 (.cells #[.slice (some ⟨g, 0, none⟩) n vc, .int .i64 nx] 29)
  have hP2 := box2_new w1 (.slice (some ⟨g, 0, none⟩) n vc) (.int .i64 nx) 29
  have hb2 := hb1.trans (ba.mono hb1.size)
  have hA2 := box_step hA hb2
  have hF2 := box_step hF hb2
  have hR2 := box_step hR hb2
  have hV1 : HV w1 w0.heap.size n (some ⟨g, 0, none⟩) vc K := .inr ⟨g, rfl, hH1⟩
  have hV2 := hV1.later ba
  have hr2 := hr0.below hb2
  have hq2 := hq0.below hb2
  have hB2 : Below w.heap.size w _ := b2.trans (hb2.mono b2.size)
  have hlo : w.heap.size + 1 + 1 + 1 ≤ w0.heap.size := (Array.getElem?_eq_some_iff.1 hR).1
  have hw1 := hb1.size
  clear hpl hV1 hH1
  obtain ⟨x0, x1, -, -⟩ := box2_cell hA2
  go_wp2_with fail
  generalize w1.alloc (.cells #[.slice (some ⟨g, 0, none⟩) n vc, .int .i64 nx] 29) = w2 at ba hP2 hb2 hA2 hF2 hR2 hV2 hr2 hq2 hB2 ⊢
  clear x0 x1
  refine (implStoreOk_any a n cap nx J _ hr2 HJ.out (by omega) HS.out HL.out (HTab.out.later hB2 (Nat.le_refl _))).mono ?_
  rintro e w3 ⟨rfl, hb3⟩
  have hP3 := box_step hP2 hb3
  have hA3 := box_step hA2 hb3
  have hF3 := box_step hF2 hb3
  have hR3 := box_step hR2 hb3
  have hV3 := hV2.later hb3
  have hr3 := hr2.below hb3
  have hq3 := hq2.below hb3
  have hB3 := hB2.trans (hb3.mono hB2.size)
  have hl3 : w0.heap.size ≤ w3.heap.size := Nat.le_trans hb2.size hb3.size
  clear hA2 hP2 hF2 hR2 hV2 hq2 hB2 hr2 hb3 ba hb2 hb1 hq0 hr0 hA hF hR b2
  obtain ⟨sb, hsb⟩ : ∃ sb, storeB nx J = sb := ⟨_, rfl⟩
  have HSb := hide hsb
  rw [hsb]
  clear hsb
  obtain ⟨p0, p1, -, -⟩ := box2_cell hP3
  obtain ⟨r0, r1, rf0, rf1⟩ := box2_cell hR3
  obtain ⟨f0, f1, -, -⟩ := box2_cell hF3
  cases sb
  · have HA : Hid (asR nx J kd M = (0, nx, J.map It.pl)) := by unfold Hid asR; rw [HSb.out]; simp
    go_wp2
    refine box2_post hR3 (fun w4 h4 gr => ?_)
    clear p0 p1 r0 r1 rf0 rf1 f0 f1
    obtain ⟨d0, d1, -, -⟩ := box2_cell h4
    exact bodyPost_ret (v := .tuple #[.agg #[.slice (some ⟨g, 0, none⟩) n vc, .int .i64 nx], .int .i64 0, .bool false]) (by simp [results, Tryd.results15, go_sem, d0, d1]) rfl
      ⟨_, vc, K, by rw [HA.out, HKn.out]; rfl, by rw [HKn.out]; exact (hV3.grown gr (by omega)).weaken (by omega), by rw [HA.out]; exact HPl.out, below_set hB3 gr (by omega)⟩
  · have hnx := (storeB_iff.1 HSb.out).1
    go_wp2_with fail
    refine (implFactOk_any kd b cb M _ hkd hq3 HSM.out hm).mono ?_
    rintro e w4 ⟨rfl, hb4⟩
    have hP4 := box_step hP3 hb4
    have hA4 := box_step hA3 hb4
    have hF4 := box_step hF3 hb4
    have hR4 := box_step hR3 hb4
    have hV4 := hV3.later hb4
    have hr4 := hr3.below hb4
    have hq4 := hq3.below hb4
    have hB4 := hB3.trans (hb4.mono hB3.size)
    have hl4 : w0.heap.size ≤ w4.heap.size := Nat.le_trans hl3 hb4.size
    clear p0 p1 r0 r1 rf0 rf1 f0 f1 hP3 hA3 hF3 hR3 hV3 hr3 hq3 hB3 hb4 hl3
    obtain ⟨fb, hfb⟩ : ∃ fb, factB kd M = fb := ⟨_, rfl⟩
    have HFb := hide hfb
    rw [hfb]
    clear hfb
    obtain ⟨p0, p1, -, -⟩ := box2_cell hP4
    obtain ⟨r0, r1, rf0, rf1⟩ := box2_cell hR4
    obtain ⟨f0, f1, -, -⟩ := box2_cell hF4
    cases fb
    · have HA : Hid (asR nx J kd M = (0, nx, J.map It.pl)) := by unfold Hid asR; rw [HFb.out]; simp
      go_wp2
      refine box2_post hR4 (fun w5 h5 gr => ?_)
      clear p0 p1 r0 r1 rf0 rf1 f0 f1
      obtain ⟨d0, d1, -, -⟩ := box2_cell h5
      exact bodyPost_ret (v := .tuple #[.agg #[.slice (some ⟨g, 0, none⟩) n vc, .int .i64 nx], .int .i64 0, .bool false]) (by simp [results, Tryd.results15, go_sem, d0, d1]) rfl
        ⟨_, vc, K, by rw [HA.out, HKn.out]; rfl, by rw [HKn.out]; exact (hV4.grown gr (by omega)).weaken (by omega), by rw [HA.out]; exact HPl.out, below_set hB4 gr (by omega)⟩
    · have HA : Hid (asR nx J kd M = assP (J.map It.pl) nx kd M) := by unfold Hid asR; rw [HSb.out, HFb.out]; simp
      clear p0 p1 r0 r1 rf0 rf1 f0 f1
      have HOk : Hid (∀ i, i < J.length → factB (iAt J i).kd (iAt J i).L = true) := fun i hi => ((storeB_iff.1 HSb.out).2.1 i hi).2.2
      have s4 : ∀ {W : World}, Below w4.heap.size w4 W → W.cell? ⟨w.heap.size, 0, none⟩ = some (.slice a n cap) ∧ W.cell? ⟨w.heap.size + 1, 0, none⟩ = some (.string kd) ∧ W.cell? ⟨w.heap.size + 1, 1, none⟩ = some (.slice b M.length cb) := fun {W} h =>
        ⟨(box2_cell (box_step hA4 h)).1, (box2_cell (box_step hF4 h)).1, (box2_cell (box_step hF4 h)).2.1⟩
      have hn40 : n ≤ 40 := by rw [← HJ.out]; exact hnx.2.2
      have B0 : Below w4.heap.size w4 w4 := Below.refl _ _
      go_upto_region 4 with fail
      go_cut [8, 9] (fun i8 i9 W => ∃ X, i8 = .pointer (some ⟨X, 0, none⟩) ∧ i9 = .bool (decide (0 < idP (J.map It.pl) kd M)) ∧ w4.heap.size ≤ X ∧ (0 < idP (J.map It.pl) kd M → W.cell? ⟨X, 0, none⟩ = some (.int .i64 (idP (J.map It.pl) kd M))) ∧ Below w4.heap.size w4 W)
      case first =>
        refine wp_region_held_drew (S := fun W => W.cell? ⟨w.heap.size, 0, none⟩ = some (.slice a n cap) ∧ W.cell? ⟨w.heap.size + 1, 0, none⟩ = some (.string kd) ∧ W.cell? ⟨w.heap.size + 1, 1, none⟩ = some (.slice b M.length cb)) (by kernel_rfl) (s4 B0.drew) (fun hHeld => ?_)
        refine wpAnyH_take (i := 0) (oi := Oper.mk (some 22) _ _ _ _ _) (v := ?v1) rfl (by kernel_rfl) (by kernel_rfl) (by kernel_rfl) (fun _ _ _ h => h) (Or.inl ⟨by rfl, ?y1⟩) hHeld ?r1
        case y1 => (intro W hSW; obtain ⟨q0, q1, q2⟩ := hSW; go_simp; try with_reducible rfl)
        simp only [Act.put, List.setIfInBounds_toArray, List.set_cons_zero, List.set_cons_succ]
        refine wpAnyH_take (i := 1) (oi := Oper.mk (some 23) _ _ _ _ _) (v := ?v2) rfl (by kernel_rfl) (by kernel_rfl) (by kernel_rfl) (fun _ _ _ h => h) (Or.inl ⟨by rfl, ?y2⟩) hHeld ?r2
        case y2 => (intro W hSW; obtain ⟨q0, q1, q2⟩ := hSW; go_simp; try with_reducible rfl)
        simp only [Act.put, List.setIfInBounds_toArray, List.set_cons_zero, List.set_cons_succ]
        refine wpAnyH_take (i := 3) (oi := Oper.mk (some 25) _ _ _ _ _) (v := ?v3) rfl (by kernel_rfl) (by kernel_rfl) (by kernel_rfl) (fun _ _ _ h => h) (Or.inl ⟨by rfl, ?y3⟩) hHeld ?r3
        case y3 => (intro W hSW; obtain ⟨q0, q1, q2⟩ := hSW; go_simp; try with_reducible rfl)
        simp only [Act.put, List.setIfInBounds_toArray, List.set_cons_zero, List.set_cons_succ]
        refine wpAnyH_ready (rs := [2, 9]) (by kernel_rfl) (by simp) (AllReadyH.cons (o := Oper.mk (some 24) _ _ _ _ _) rfl (fun Kk hK => ?_) (AllReadyH.cons (o := Oper.mk (some 8) _ _ _ _ _) rfl (fun Kk hK => ?_) AllReadyH.nil))
        · go_simp
          refine (byText_any a n cap J _ (hr4.below B0.drew) HJ.out (by omega) HOk.out HS.out (HTab.out.later (hB4.trans (B0.drew.mono hB4.size)) (Nat.le_refl _))).mono ?_
          rintro e w11 ⟨Bm, D, rfl, om1, hmp, hb1⟩
          have B1 : Below w4.heap.size w4 w11 := B0.drew.trans (hb1.mono B0.drew.size)
          refine hK.out _ _ (s4 B1) (fun hHeld => ?_)
          clear hK Kk
          refine wpAnyH_ready (rs := [4, 9]) (by kernel_rfl) (by simp) (AllReadyH.cons (o := Oper.mk (some 26) _ _ _ _ _) rfl (fun Kk hK => ?_) (AllReadyH.cons (o := Oper.mk (some 8) _ _ _ _ _) rfl (fun Kk hK => ?_) AllReadyH.nil))
          · go_simp
            refine (implFactText_any kd b cb M _ hkd (hq4.below B1) HSM.out hm (HTab.out.later (hB4.trans (B1.mono hB4.size)) (Nat.le_refl _))).mono ?_
            rintro e w12 ⟨rfl, hb2⟩
            have B2 : Below w4.heap.size w4 w12 := B1.trans (hb2.mono B1.size)
            have om2 := ownsMap_below om1 hb2
            refine hK.out _ _ (s4 B2) (fun hHeld => ?_)
            clear hK Kk
            refine wpAnyH_ready (rs := [5, 9]) (by kernel_rfl) (by simp) (AllReadyH.cons (o := Oper.mk (some 27) _ _ _ _ _) rfl (fun Kk hK => ?_) (AllReadyH.cons (o := Oper.mk (some 8) _ _ _ _ _) rfl (fun Kk hK => ?_) AllReadyH.nil))
            · rcases look_text (zItem _) HSb.out HFb.out (by rw [HJ.out]; exact hmp) om2 with ⟨h0, ls, la, ll, lc, hrun⟩ | ⟨h0, lid, ls, la, ll, lc, hrun⟩
              · go_simp
                refine hK.out _ _ (s4 B2) (fun hHeld => ?_)
                clear hK Kk
                refine wpAnyH_take (i := 6) (oi := Oper.mk (some 21) _ _ _ _ _) (v := ?v4) rfl (by kernel_rfl) (by kernel_rfl) (by kernel_rfl) (fun _ _ _ h => h) (Or.inl ⟨by rfl, ?y4⟩) hHeld ?r4
                case y4 => (intro W hSW; obtain ⟨q0, q1, q2⟩ := hSW; go_simp; try with_reducible rfl)
                simp only [Act.put, List.setIfInBounds_toArray, List.set_cons_zero, List.set_cons_succ]
                refine wpAnyH_take (i := 7) (oi := Oper.mk (some 28) _ _ _ _ _) (v := ?v5) rfl (by kernel_rfl) (by kernel_rfl) (by kernel_rfl) (fun _ _ _ h => h) (Or.inl ⟨by rfl, ?y5⟩) hHeld ?r5
                case y5 => (intro W hSW; obtain ⟨q0, q1, q2⟩ := hSW; go_simp; try with_reducible rfl)
                simp only [Act.put, List.setIfInBounds_toArray, List.set_cons_zero, List.set_cons_succ]
                refine wpAnyH_take (i := 8) (oi := Oper.mk (some 29) _ _ _ _ _) (v := ?v6) rfl (by kernel_rfl) (by kernel_rfl) (by kernel_rfl) (fun _ _ _ h => h) (Or.inl ⟨by rfl, ?y6⟩) hHeld ?r6
                case y6 => (intro W hSW; obtain ⟨q0, q1, q2⟩ := hSW; go_simp; try with_reducible rfl)
                simp only [Act.put, List.setIfInBounds_toArray, List.set_cons_zero, List.set_cons_succ]
                refine wpAnyH_ready (rs := [9]) (by kernel_rfl) (by simp) (AllReadyH.cons (o := Oper.mk (some 8) _ _ _ _ _) rfl (fun Kk hK => ?_) AllReadyH.nil)
                have B3 := B2.alloc B2.size (.cells #[.int .i64 0, .string ⟨#[]⟩, .slice none 0 0] 54)
                have X3 := box_new w12 (.int .i64 0) (.string ⟨#[]⟩) (.slice none 0 0) 54
                have om3 := ownsMap_below om2 (below_al w12 (.cells #[.int .i64 0, .string ⟨#[]⟩, .slice none 0 0] 54))
                have hX3 : w4.heap.size ≤ w12.heap.size := B2.size
                go_simp
                refine hK.out _ _ (s4 B3) (fun hHeld => ?_)
                clear hK Kk
                refine wpAnyH_ready (rs := [10]) (by kernel_rfl) (by simp) (AllReadyH.cons (o := Oper.mk none _ _ _ _ _) rfl (fun Kk hK => ?_) AllReadyH.nil)
                have Be := B2.alloc B2.size (.cells #[.int .i64 (idP (J.map It.pl) kd M), .string ls, .slice la ll lc] 54)
                have ce := (box_cell (box_new w12 (.int .i64 (idP (J.map It.pl) kd M)) (.string ls) (.slice la ll lc) 54)).1
                go_simp
                refine hK.out _ _ (s4 Be) (fun hHeld => ?_)
                clear hK Kk
                refine wpAnyH_take (i := 11) (oi := Oper.mk (some 9) _ _ _ _ _) (v := ?v7) rfl (by kernel_rfl) (by kernel_rfl) (by kernel_rfl) (fun _ _ _ h => h) (Or.inl ⟨by rfl, ?y7⟩) hHeld ?r7
                case y7 => (intro W hSW; obtain ⟨q0, q1, q2⟩ := hSW; go_simp; try with_reducible rfl)
                simp only [Act.put, List.setIfInBounds_toArray, List.set_cons_zero, List.set_cons_succ]
                refine wpAnyH_done (by kernel_rfl) ?_ _
                clear hHeld
                go_wp2_with fail
                go_meet
                exact ⟨_, rfl, by first | rfl | (congr 1; symm; simp; omega), hX3, fun _ => ce, Be⟩
              · go_simp
                refine hK.out _ _ (s4 B2) (fun hHeld => ?_)
                clear hK Kk
                refine wpAnyH_take (i := 6) (oi := Oper.mk (some 21) _ _ _ _ _) (v := ?v8) rfl (by kernel_rfl) (by kernel_rfl) (by kernel_rfl) (fun _ _ _ h => h) (Or.inl ⟨by rfl, ?y8⟩) hHeld ?r8
                case y8 => (intro W hSW; obtain ⟨q0, q1, q2⟩ := hSW; go_simp; try with_reducible rfl)
                simp only [Act.put, List.setIfInBounds_toArray, List.set_cons_zero, List.set_cons_succ]
                refine wpAnyH_take (i := 7) (oi := Oper.mk (some 28) _ _ _ _ _) (v := ?v9) rfl (by kernel_rfl) (by kernel_rfl) (by kernel_rfl) (fun _ _ _ h => h) (Or.inl ⟨by rfl, ?y9⟩) hHeld ?r9
                case y9 => (intro W hSW; obtain ⟨q0, q1, q2⟩ := hSW; go_simp; try with_reducible rfl)
                simp only [Act.put, List.setIfInBounds_toArray, List.set_cons_zero, List.set_cons_succ]
                refine wpAnyH_take (i := 8) (oi := Oper.mk (some 29) _ _ _ _ _) (v := ?v10) rfl (by kernel_rfl) (by kernel_rfl) (by kernel_rfl) (fun _ _ _ h => h) (Or.inl ⟨by rfl, ?y10⟩) hHeld ?r10
                case y10 => (intro W hSW; obtain ⟨q0, q1, q2⟩ := hSW; go_simp; try with_reducible rfl)
                simp only [Act.put, List.setIfInBounds_toArray, List.set_cons_zero, List.set_cons_succ]
                refine wpAnyH_ready (rs := [9]) (by kernel_rfl) (by simp) (AllReadyH.cons (o := Oper.mk (some 8) _ _ _ _ _) rfl (fun Kk hK => ?_) AllReadyH.nil)
                have B3 := B2.alloc B2.size (.cells #[.int .i64 0, .string ⟨#[]⟩, .slice none 0 0] 54)
                have X3 := box_new w12 (.int .i64 0) (.string ⟨#[]⟩) (.slice none 0 0) 54
                have om3 := ownsMap_below om2 (below_al w12 (.cells #[.int .i64 0, .string ⟨#[]⟩, .slice none 0 0] 54))
                have hX3 : w4.heap.size ≤ w12.heap.size := B2.size
                go_simp
                refine hK.out _ _ (s4 B3) (fun hHeld => ?_)
                clear hK Kk
                refine wpAnyH_ready (rs := [10]) (by kernel_rfl) (by simp) (AllReadyH.cons (o := Oper.mk none _ _ _ _ _) rfl (fun Kk hK => ?_) AllReadyH.nil)
                have Be := B2.alloc B2.size (.cells #[.int .i64 lid, .string ls, .slice la ll lc] 54)
                have ce := (box_cell (box_new w12 (.int .i64 lid) (.string ls) (.slice la ll lc) 54)).1
                go_simp
                refine hK.out _ _ (s4 Be) (fun hHeld => ?_)
                clear hK Kk
                refine wpAnyH_take (i := 11) (oi := Oper.mk (some 9) _ _ _ _ _) (v := ?v11) rfl (by kernel_rfl) (by kernel_rfl) (by kernel_rfl) (fun _ _ _ h => h) (Or.inl ⟨by rfl, ?y11⟩) hHeld ?r11
                case y11 => (intro W hSW; obtain ⟨q0, q1, q2⟩ := hSW; go_simp; try with_reducible rfl)
                simp only [Act.put, List.setIfInBounds_toArray, List.set_cons_zero, List.set_cons_succ]
                refine wpAnyH_done (by kernel_rfl) ?_ _
                clear hHeld
                go_wp2_with fail
                go_meet
                exact ⟨_, rfl, by first | rfl | (congr 1; symm; simp; omega), hX3, fun h => by omega, Be⟩
            · have B3 := B2.alloc B2.size (.cells #[.int .i64 0, .string ⟨#[]⟩, .slice none 0 0] 54)
              have X3 := box_new w12 (.int .i64 0) (.string ⟨#[]⟩) (.slice none 0 0) 54
              have om3 := ownsMap_below om2 (below_al w12 (.cells #[.int .i64 0, .string ⟨#[]⟩, .slice none 0 0] 54))
              have hX3 : w4.heap.size ≤ w12.heap.size := B2.size
              go_simp
              refine hK.out _ _ (s4 B3) (fun hHeld => ?_)
              clear hK Kk
              refine wpAnyH_ready (rs := [5]) (by kernel_rfl) (by simp) (AllReadyH.cons (o := Oper.mk (some 27) _ _ _ _ _) rfl (fun Kk hK => ?_) AllReadyH.nil)
              rcases look_text (zItem _) HSb.out HFb.out (by rw [HJ.out]; exact hmp) om3 with ⟨h0, ls, la, ll, lc, hrun⟩ | ⟨h0, lid, ls, la, ll, lc, hrun⟩
              · go_simp
                refine hK.out _ _ (s4 B3) (fun hHeld => ?_)
                clear hK Kk
                refine wpAnyH_take (i := 6) (oi := Oper.mk (some 21) _ _ _ _ _) (v := ?v12) rfl (by kernel_rfl) (by kernel_rfl) (by kernel_rfl) (fun _ _ _ h => h) (Or.inl ⟨by rfl, ?y12⟩) hHeld ?r12
                case y12 => (intro W hSW; obtain ⟨q0, q1, q2⟩ := hSW; go_simp; try with_reducible rfl)
                simp only [Act.put, List.setIfInBounds_toArray, List.set_cons_zero, List.set_cons_succ]
                refine wpAnyH_take (i := 7) (oi := Oper.mk (some 28) _ _ _ _ _) (v := ?v13) rfl (by kernel_rfl) (by kernel_rfl) (by kernel_rfl) (fun _ _ _ h => h) (Or.inl ⟨by rfl, ?y13⟩) hHeld ?r13
                case y13 => (intro W hSW; obtain ⟨q0, q1, q2⟩ := hSW; go_simp; try with_reducible rfl)
                simp only [Act.put, List.setIfInBounds_toArray, List.set_cons_zero, List.set_cons_succ]
                refine wpAnyH_take (i := 8) (oi := Oper.mk (some 29) _ _ _ _ _) (v := ?v14) rfl (by kernel_rfl) (by kernel_rfl) (by kernel_rfl) (fun _ _ _ h => h) (Or.inl ⟨by rfl, ?y14⟩) hHeld ?r14
                case y14 => (intro W hSW; obtain ⟨q0, q1, q2⟩ := hSW; go_simp; try with_reducible rfl)
                simp only [Act.put, List.setIfInBounds_toArray, List.set_cons_zero, List.set_cons_succ]
                refine wpAnyH_ready (rs := [10]) (by kernel_rfl) (by simp) (AllReadyH.cons (o := Oper.mk none _ _ _ _ _) rfl (fun Kk hK => ?_) AllReadyH.nil)
                have Be := B2.alloc B2.size (.cells #[.int .i64 (idP (J.map It.pl) kd M), .string ls, .slice la ll lc] 54)
                have ce := (box_cell (box_new w12 (.int .i64 (idP (J.map It.pl) kd M)) (.string ls) (.slice la ll lc) 54)).1
                go_simp
                refine hK.out _ _ (s4 Be) (fun hHeld => ?_)
                clear hK Kk
                refine wpAnyH_take (i := 11) (oi := Oper.mk (some 9) _ _ _ _ _) (v := ?v15) rfl (by kernel_rfl) (by kernel_rfl) (by kernel_rfl) (fun _ _ _ h => h) (Or.inl ⟨by rfl, ?y15⟩) hHeld ?r15
                case y15 => (intro W hSW; obtain ⟨q0, q1, q2⟩ := hSW; go_simp; try with_reducible rfl)
                simp only [Act.put, List.setIfInBounds_toArray, List.set_cons_zero, List.set_cons_succ]
                refine wpAnyH_done (by kernel_rfl) ?_ _
                clear hHeld
                go_wp2_with fail
                go_meet
                exact ⟨_, rfl, by first | rfl | (congr 1; symm; simp; omega), hX3, fun _ => ce, Be⟩
              · go_simp
                refine hK.out _ _ (s4 B3) (fun hHeld => ?_)
                clear hK Kk
                refine wpAnyH_take (i := 6) (oi := Oper.mk (some 21) _ _ _ _ _) (v := ?v16) rfl (by kernel_rfl) (by kernel_rfl) (by kernel_rfl) (fun _ _ _ h => h) (Or.inl ⟨by rfl, ?y16⟩) hHeld ?r16
                case y16 => (intro W hSW; obtain ⟨q0, q1, q2⟩ := hSW; go_simp; try with_reducible rfl)
                simp only [Act.put, List.setIfInBounds_toArray, List.set_cons_zero, List.set_cons_succ]
                refine wpAnyH_take (i := 7) (oi := Oper.mk (some 28) _ _ _ _ _) (v := ?v17) rfl (by kernel_rfl) (by kernel_rfl) (by kernel_rfl) (fun _ _ _ h => h) (Or.inl ⟨by rfl, ?y17⟩) hHeld ?r17
                case y17 => (intro W hSW; obtain ⟨q0, q1, q2⟩ := hSW; go_simp; try with_reducible rfl)
                simp only [Act.put, List.setIfInBounds_toArray, List.set_cons_zero, List.set_cons_succ]
                refine wpAnyH_take (i := 8) (oi := Oper.mk (some 29) _ _ _ _ _) (v := ?v18) rfl (by kernel_rfl) (by kernel_rfl) (by kernel_rfl) (fun _ _ _ h => h) (Or.inl ⟨by rfl, ?y18⟩) hHeld ?r18
                case y18 => (intro W hSW; obtain ⟨q0, q1, q2⟩ := hSW; go_simp; try with_reducible rfl)
                simp only [Act.put, List.setIfInBounds_toArray, List.set_cons_zero, List.set_cons_succ]
                refine wpAnyH_ready (rs := [10]) (by kernel_rfl) (by simp) (AllReadyH.cons (o := Oper.mk none _ _ _ _ _) rfl (fun Kk hK => ?_) AllReadyH.nil)
                have Be := B2.alloc B2.size (.cells #[.int .i64 lid, .string ls, .slice la ll lc] 54)
                have ce := (box_cell (box_new w12 (.int .i64 lid) (.string ls) (.slice la ll lc) 54)).1
                go_simp
                refine hK.out _ _ (s4 Be) (fun hHeld => ?_)
                clear hK Kk
                refine wpAnyH_take (i := 11) (oi := Oper.mk (some 9) _ _ _ _ _) (v := ?v19) rfl (by kernel_rfl) (by kernel_rfl) (by kernel_rfl) (fun _ _ _ h => h) (Or.inl ⟨by rfl, ?y19⟩) hHeld ?r19
                case y19 => (intro W hSW; obtain ⟨q0, q1, q2⟩ := hSW; go_simp; try with_reducible rfl)
                simp only [Act.put, List.setIfInBounds_toArray, List.set_cons_zero, List.set_cons_succ]
                refine wpAnyH_done (by kernel_rfl) ?_ _
                clear hHeld
                go_wp2_with fail
                go_meet
                exact ⟨_, rfl, by first | rfl | (congr 1; symm; simp; omega), hX3, fun h => by omega, Be⟩
          · have B2 := B1.alloc B1.size (.cells #[.int .i64 0, .string ⟨#[]⟩, .slice none 0 0] 54)
            have X2 := box_new w11 (.int .i64 0) (.string ⟨#[]⟩) (.slice none 0 0) 54
            have om2 := ownsMap_below om1 (below_al w11 (.cells #[.int .i64 0, .string ⟨#[]⟩, .slice none 0 0] 54))
            have hX2 : w4.heap.size ≤ w11.heap.size := B1.size
            go_simp
            refine hK.out _ _ (s4 B2) (fun hHeld => ?_)
            clear hK Kk
            refine wpAnyH_ready (rs := [4]) (by kernel_rfl) (by simp) (AllReadyH.cons (o := Oper.mk (some 26) _ _ _ _ _) rfl (fun Kk hK => ?_) AllReadyH.nil)
            go_simp
            refine (implFactText_any kd b cb M _ hkd (hq4.below B2) HSM.out hm (HTab.out.later (hB4.trans (B2.mono hB4.size)) (Nat.le_refl _))).mono ?_
            rintro e w13 ⟨rfl, hb3⟩
            have B3 : Below w4.heap.size w4 w13 := B2.trans (hb3.mono B2.size)
            have om3 := ownsMap_below om2 hb3
            have X3 := box_step X2 hb3
            refine hK.out _ _ (s4 B3) (fun hHeld => ?_)
            clear hK Kk
            refine wpAnyH_ready (rs := [5]) (by kernel_rfl) (by simp) (AllReadyH.cons (o := Oper.mk (some 27) _ _ _ _ _) rfl (fun Kk hK => ?_) AllReadyH.nil)
            rcases look_text (zItem _) HSb.out HFb.out (by rw [HJ.out]; exact hmp) om3 with ⟨h0, ls, la, ll, lc, hrun⟩ | ⟨h0, lid, ls, la, ll, lc, hrun⟩
            · go_simp
              refine hK.out _ _ (s4 B3) (fun hHeld => ?_)
              clear hK Kk
              refine wpAnyH_take (i := 6) (oi := Oper.mk (some 21) _ _ _ _ _) (v := ?v20) rfl (by kernel_rfl) (by kernel_rfl) (by kernel_rfl) (fun _ _ _ h => h) (Or.inl ⟨by rfl, ?y20⟩) hHeld ?r20
              case y20 => (intro W hSW; obtain ⟨q0, q1, q2⟩ := hSW; go_simp; try with_reducible rfl)
              simp only [Act.put, List.setIfInBounds_toArray, List.set_cons_zero, List.set_cons_succ]
              refine wpAnyH_take (i := 7) (oi := Oper.mk (some 28) _ _ _ _ _) (v := ?v21) rfl (by kernel_rfl) (by kernel_rfl) (by kernel_rfl) (fun _ _ _ h => h) (Or.inl ⟨by rfl, ?y21⟩) hHeld ?r21
              case y21 => (intro W hSW; obtain ⟨q0, q1, q2⟩ := hSW; go_simp; try with_reducible rfl)
              simp only [Act.put, List.setIfInBounds_toArray, List.set_cons_zero, List.set_cons_succ]
              refine wpAnyH_take (i := 8) (oi := Oper.mk (some 29) _ _ _ _ _) (v := ?v22) rfl (by kernel_rfl) (by kernel_rfl) (by kernel_rfl) (fun _ _ _ h => h) (Or.inl ⟨by rfl, ?y22⟩) hHeld ?r22
              case y22 => (intro W hSW; obtain ⟨q0, q1, q2⟩ := hSW; go_simp; try with_reducible rfl)
              simp only [Act.put, List.setIfInBounds_toArray, List.set_cons_zero, List.set_cons_succ]
              refine wpAnyH_ready (rs := [10]) (by kernel_rfl) (by simp) (AllReadyH.cons (o := Oper.mk none _ _ _ _ _) rfl (fun Kk hK => ?_) AllReadyH.nil)
              obtain ⟨z0, z1, z2, y0, y1, y2⟩ := box_cell X3
              have st := box_set3 X3 (.int .i64 (idP (J.map It.pl) kd M)) (.string ls) (.slice la ll lc)
              have Be := B3.grown st.2 B3.size (fun q e => by have e2 := Option.some.inj e; rw [← e2]; exact hX2)
              have ce := (box_cell st.1).1
              go_simp
              refine hK.out _ _ (s4 Be) (fun hHeld => ?_)
              clear hK Kk
              refine wpAnyH_take (i := 11) (oi := Oper.mk (some 9) _ _ _ _ _) (v := ?v23) rfl (by kernel_rfl) (by kernel_rfl) (by kernel_rfl) (fun _ _ _ h => h) (Or.inl ⟨by rfl, ?y23⟩) hHeld ?r23
              case y23 => (intro W hSW; obtain ⟨q0, q1, q2⟩ := hSW; go_simp; try with_reducible rfl)
              simp only [Act.put, List.setIfInBounds_toArray, List.set_cons_zero, List.set_cons_succ]
              refine wpAnyH_done (by kernel_rfl) ?_ _
              clear hHeld
              go_wp2_with fail
              go_meet
              exact ⟨_, rfl, by first | rfl | (congr 1; symm; simp; omega), hX2, fun _ => ce, Be⟩
            · go_simp
              refine hK.out _ _ (s4 B3) (fun hHeld => ?_)
              clear hK Kk
              refine wpAnyH_take (i := 6) (oi := Oper.mk (some 21) _ _ _ _ _) (v := ?v24) rfl (by kernel_rfl) (by kernel_rfl) (by kernel_rfl) (fun _ _ _ h => h) (Or.inl ⟨by rfl, ?y24⟩) hHeld ?r24
              case y24 => (intro W hSW; obtain ⟨q0, q1, q2⟩ := hSW; go_simp; try with_reducible rfl)
              simp only [Act.put, List.setIfInBounds_toArray, List.set_cons_zero, List.set_cons_succ]
              refine wpAnyH_take (i := 7) (oi := Oper.mk (some 28) _ _ _ _ _) (v := ?v25) rfl (by kernel_rfl) (by kernel_rfl) (by kernel_rfl) (fun _ _ _ h => h) (Or.inl ⟨by rfl, ?y25⟩) hHeld ?r25
              case y25 => (intro W hSW; obtain ⟨q0, q1, q2⟩ := hSW; go_simp; try with_reducible rfl)
              simp only [Act.put, List.setIfInBounds_toArray, List.set_cons_zero, List.set_cons_succ]
              refine wpAnyH_take (i := 8) (oi := Oper.mk (some 29) _ _ _ _ _) (v := ?v26) rfl (by kernel_rfl) (by kernel_rfl) (by kernel_rfl) (fun _ _ _ h => h) (Or.inl ⟨by rfl, ?y26⟩) hHeld ?r26
              case y26 => (intro W hSW; obtain ⟨q0, q1, q2⟩ := hSW; go_simp; try with_reducible rfl)
              simp only [Act.put, List.setIfInBounds_toArray, List.set_cons_zero, List.set_cons_succ]
              refine wpAnyH_ready (rs := [10]) (by kernel_rfl) (by simp) (AllReadyH.cons (o := Oper.mk none _ _ _ _ _) rfl (fun Kk hK => ?_) AllReadyH.nil)
              obtain ⟨z0, z1, z2, y0, y1, y2⟩ := box_cell X3
              have st := box_set3 X3 (.int .i64 lid) (.string ls) (.slice la ll lc)
              have Be := B3.grown st.2 B3.size (fun q e => by have e2 := Option.some.inj e; rw [← e2]; exact hX2)
              have ce := (box_cell st.1).1
              go_simp
              refine hK.out _ _ (s4 Be) (fun hHeld => ?_)
              clear hK Kk
              refine wpAnyH_take (i := 11) (oi := Oper.mk (some 9) _ _ _ _ _) (v := ?v27) rfl (by kernel_rfl) (by kernel_rfl) (by kernel_rfl) (fun _ _ _ h => h) (Or.inl ⟨by rfl, ?y27⟩) hHeld ?r27
              case y27 => (intro W hSW; obtain ⟨q0, q1, q2⟩ := hSW; go_simp; try with_reducible rfl)
              simp only [Act.put, List.setIfInBounds_toArray, List.set_cons_zero, List.set_cons_succ]
              refine wpAnyH_done (by kernel_rfl) ?_ _
              clear hHeld
              go_wp2_with fail
              go_meet
              exact ⟨_, rfl, by first | rfl | (congr 1; symm; simp; omega), hX2, fun h => by omega, Be⟩
        · have B1 := B0.alloc B0.size (.cells #[.int .i64 0, .string ⟨#[]⟩, .slice none 0 0] 54)
          have X1 := box_new w4 (.int .i64 0) (.string ⟨#[]⟩) (.slice none 0 0) 54
          have hX1 : w4.heap.size ≤ w4.heap.size := B0.size
          go_simp
          refine hK.out _ _ (s4 B1.drew) (fun hHeld => ?_)
          clear hK Kk
          refine wpAnyH_ready (rs := [2]) (by kernel_rfl) (by simp) (AllReadyH.cons (o := Oper.mk (some 24) _ _ _ _ _) rfl (fun Kk hK => ?_) AllReadyH.nil)
          go_simp
          refine (byText_any a n cap J _ (hr4.below B1.drew) HJ.out (by omega) HOk.out HS.out (HTab.out.later (hB4.trans (B1.drew.mono hB4.size)) (Nat.le_refl _))).mono ?_
          rintro e w12 ⟨Bm, D, rfl, om2, hmp, hb2⟩
          have B2 : Below w4.heap.size w4 w12 := B1.drew.trans (hb2.mono B1.drew.size)
          have X2 := box_drw X1 hb2
          refine hK.out _ _ (s4 B2) (fun hHeld => ?_)
          clear hK Kk
          refine wpAnyH_ready (rs := [4]) (by kernel_rfl) (by simp) (AllReadyH.cons (o := Oper.mk (some 26) _ _ _ _ _) rfl (fun Kk hK => ?_) AllReadyH.nil)
          go_simp
          refine (implFactText_any kd b cb M _ hkd (hq4.below B2) HSM.out hm (HTab.out.later (hB4.trans (B2.mono hB4.size)) (Nat.le_refl _))).mono ?_
          rintro e w13 ⟨rfl, hb3⟩
          have B3 : Below w4.heap.size w4 w13 := B2.trans (hb3.mono B2.size)
          have om3 := ownsMap_below om2 hb3
          have X3 := box_step X2 hb3
          refine hK.out _ _ (s4 B3) (fun hHeld => ?_)
          clear hK Kk
          refine wpAnyH_ready (rs := [5]) (by kernel_rfl) (by simp) (AllReadyH.cons (o := Oper.mk (some 27) _ _ _ _ _) rfl (fun Kk hK => ?_) AllReadyH.nil)
          rcases look_text (zItem _) HSb.out HFb.out (by rw [HJ.out]; exact hmp) om3 with ⟨h0, ls, la, ll, lc, hrun⟩ | ⟨h0, lid, ls, la, ll, lc, hrun⟩
          · go_simp
            refine hK.out _ _ (s4 B3) (fun hHeld => ?_)
            clear hK Kk
            refine wpAnyH_take (i := 6) (oi := Oper.mk (some 21) _ _ _ _ _) (v := ?v28) rfl (by kernel_rfl) (by kernel_rfl) (by kernel_rfl) (fun _ _ _ h => h) (Or.inl ⟨by rfl, ?y28⟩) hHeld ?r28
            case y28 => (intro W hSW; obtain ⟨q0, q1, q2⟩ := hSW; go_simp; try with_reducible rfl)
            simp only [Act.put, List.setIfInBounds_toArray, List.set_cons_zero, List.set_cons_succ]
            refine wpAnyH_take (i := 7) (oi := Oper.mk (some 28) _ _ _ _ _) (v := ?v29) rfl (by kernel_rfl) (by kernel_rfl) (by kernel_rfl) (fun _ _ _ h => h) (Or.inl ⟨by rfl, ?y29⟩) hHeld ?r29
            case y29 => (intro W hSW; obtain ⟨q0, q1, q2⟩ := hSW; go_simp; try with_reducible rfl)
            simp only [Act.put, List.setIfInBounds_toArray, List.set_cons_zero, List.set_cons_succ]
            refine wpAnyH_take (i := 8) (oi := Oper.mk (some 29) _ _ _ _ _) (v := ?v30) rfl (by kernel_rfl) (by kernel_rfl) (by kernel_rfl) (fun _ _ _ h => h) (Or.inl ⟨by rfl, ?y30⟩) hHeld ?r30
            case y30 => (intro W hSW; obtain ⟨q0, q1, q2⟩ := hSW; go_simp; try with_reducible rfl)
            simp only [Act.put, List.setIfInBounds_toArray, List.set_cons_zero, List.set_cons_succ]
            refine wpAnyH_ready (rs := [10]) (by kernel_rfl) (by simp) (AllReadyH.cons (o := Oper.mk none _ _ _ _ _) rfl (fun Kk hK => ?_) AllReadyH.nil)
            obtain ⟨z0, z1, z2, y0, y1, y2⟩ := box_cell X3
            have st := box_set3 X3 (.int .i64 (idP (J.map It.pl) kd M)) (.string ls) (.slice la ll lc)
            have Be := B3.grown st.2 B3.size (fun q e => by have e2 := Option.some.inj e; rw [← e2]; exact hX1)
            have ce := (box_cell st.1).1
            go_simp
            refine hK.out _ _ (s4 Be) (fun hHeld => ?_)
            clear hK Kk
            refine wpAnyH_take (i := 11) (oi := Oper.mk (some 9) _ _ _ _ _) (v := ?v31) rfl (by kernel_rfl) (by kernel_rfl) (by kernel_rfl) (fun _ _ _ h => h) (Or.inl ⟨by rfl, ?y31⟩) hHeld ?r31
            case y31 => (intro W hSW; obtain ⟨q0, q1, q2⟩ := hSW; go_simp; try with_reducible rfl)
            simp only [Act.put, List.setIfInBounds_toArray, List.set_cons_zero, List.set_cons_succ]
            refine wpAnyH_done (by kernel_rfl) ?_ _
            clear hHeld
            go_wp2_with fail
            go_meet
            exact ⟨_, rfl, by first | rfl | (congr 1; symm; simp; omega), hX1, fun _ => ce, Be⟩
          · go_simp
            refine hK.out _ _ (s4 B3) (fun hHeld => ?_)
            clear hK Kk
            refine wpAnyH_take (i := 6) (oi := Oper.mk (some 21) _ _ _ _ _) (v := ?v32) rfl (by kernel_rfl) (by kernel_rfl) (by kernel_rfl) (fun _ _ _ h => h) (Or.inl ⟨by rfl, ?y32⟩) hHeld ?r32
            case y32 => (intro W hSW; obtain ⟨q0, q1, q2⟩ := hSW; go_simp; try with_reducible rfl)
            simp only [Act.put, List.setIfInBounds_toArray, List.set_cons_zero, List.set_cons_succ]
            refine wpAnyH_take (i := 7) (oi := Oper.mk (some 28) _ _ _ _ _) (v := ?v33) rfl (by kernel_rfl) (by kernel_rfl) (by kernel_rfl) (fun _ _ _ h => h) (Or.inl ⟨by rfl, ?y33⟩) hHeld ?r33
            case y33 => (intro W hSW; obtain ⟨q0, q1, q2⟩ := hSW; go_simp; try with_reducible rfl)
            simp only [Act.put, List.setIfInBounds_toArray, List.set_cons_zero, List.set_cons_succ]
            refine wpAnyH_take (i := 8) (oi := Oper.mk (some 29) _ _ _ _ _) (v := ?v34) rfl (by kernel_rfl) (by kernel_rfl) (by kernel_rfl) (fun _ _ _ h => h) (Or.inl ⟨by rfl, ?y34⟩) hHeld ?r34
            case y34 => (intro W hSW; obtain ⟨q0, q1, q2⟩ := hSW; go_simp; try with_reducible rfl)
            simp only [Act.put, List.setIfInBounds_toArray, List.set_cons_zero, List.set_cons_succ]
            refine wpAnyH_ready (rs := [10]) (by kernel_rfl) (by simp) (AllReadyH.cons (o := Oper.mk none _ _ _ _ _) rfl (fun Kk hK => ?_) AllReadyH.nil)
            obtain ⟨z0, z1, z2, y0, y1, y2⟩ := box_cell X3
            have st := box_set3 X3 (.int .i64 lid) (.string ls) (.slice la ll lc)
            have Be := B3.grown st.2 B3.size (fun q e => by have e2 := Option.some.inj e; rw [← e2]; exact hX1)
            have ce := (box_cell st.1).1
            go_simp
            refine hK.out _ _ (s4 Be) (fun hHeld => ?_)
            clear hK Kk
            refine wpAnyH_take (i := 11) (oi := Oper.mk (some 9) _ _ _ _ _) (v := ?v35) rfl (by kernel_rfl) (by kernel_rfl) (by kernel_rfl) (fun _ _ _ h => h) (Or.inl ⟨by rfl, ?y35⟩) hHeld ?r35
            case y35 => (intro W hSW; obtain ⟨q0, q1, q2⟩ := hSW; go_simp; try with_reducible rfl)
            simp only [Act.put, List.setIfInBounds_toArray, List.set_cons_zero, List.set_cons_succ]
            refine wpAnyH_done (by kernel_rfl) ?_ _
            clear hHeld
            go_wp2_with fail
            go_meet
            exact ⟨_, rfl, by first | rfl | (congr 1; symm; simp; omega), hX1, fun h => by omega, Be⟩
      case rest =>
      obtain ⟨X, rfl, rfl, hXl, hXc, hbc⟩ := hcut
      have hPc := box_step hP4 hbc
      have hAc := box_step hA4 hbc
      have hFc := box_step hF4 hbc
      have hRc := box_step hR4 hbc
      have hVc := hV4.later hbc
      have hqc := hq4.below hbc
      have hBc := hB4.trans (hbc.mono hB4.size)
      have hlc : w0.heap.size ≤ wc.heap.size := Nat.le_trans hl4 hbc.size
      clear hP4 hA4 hF4 hR4 hV4 hq4 hB4 hr4 s4 B0 HOk
      obtain ⟨r, hr⟩ : ∃ r, idP (J.map It.pl) kd M = r := ⟨_, rfl⟩
      have HR := hide hr
      rw [hr] at hXc ⊢
      clear hr
      obtain ⟨p0, p1, -, -⟩ := box2_cell hPc
      obtain ⟨a0, a1, -, -⟩ := box2_cell hAc
      by_cases h0 : 0 < r
      · have HE : Hid (asR nx J kd M = (r, nx, J.map It.pl)) := by rw [hide (HA.out)]; unfold Hid assP; rw [HR.out, if_pos h0]
        rw [decide_eq_true h0]
        have xc := hXc h0
        go_wp2_with fail
        have hbd : Below wc.heap.size wc wc.drew := (Below.refl _ _).drew
        have hRd := box_step hRc hbd
        have hBd := hBc.trans (hbd.mono hBc.size)
        have hVd := hVc.later hbd
        have hzd : wc.heap.size ≤ wc.drew.heap.size := hbd.size
        have hSd : wc.drew.cell? ⟨w1.heap.size, 0, none⟩ = some (.slice (some ⟨g, 0, none⟩) n vc) ∧ wc.drew.cell? ⟨w1.heap.size, 1, none⟩ = some (.int .i64 nx) ∧ wc.drew.cell? ⟨X, 0, none⟩ = some (.int .i64 r) := ⟨p0, p1, xc⟩
        refine wp_region_held_drew (S := fun W => W.cell? ⟨w1.heap.size, 0, none⟩ = some (.slice (some ⟨g, 0, none⟩) n vc) ∧ W.cell? ⟨w1.heap.size, 1, none⟩ = some (.int .i64 nx) ∧ W.cell? ⟨X, 0, none⟩ = some (.int .i64 r)) (by kernel_rfl) hSd (fun hHeld => ?_)
        generalize wc.drew = wd at hbd hRd hBd hVd hzd hSd hHeld ⊢
        obtain ⟨s0, s1, s2⟩ := hSd
        refine wpAnyH_take (i := 0) (oi := Oper.mk (some 31) _ _ _ _ _) (v := ?v36) rfl (by kernel_rfl) (by kernel_rfl) (by kernel_rfl) (fun _ _ _ h => h) (Or.inl ⟨by rfl, ?y36⟩) hHeld ?r36
        case y36 => (intro W hSW; obtain ⟨q0, q1, q2⟩ := hSW; go_simp; try with_reducible rfl)
        simp only [Act.put, List.setIfInBounds_toArray, List.set_cons_zero, List.set_cons_succ]
        refine wpAnyH_take (i := 1) (oi := Oper.mk (some 32) _ _ _ _ _) (v := ?v37) rfl (by kernel_rfl) (by kernel_rfl) (by kernel_rfl) (fun _ _ _ h => h) (Or.inl ⟨by rfl, ?y37⟩) hHeld ?r37
        case y37 => (intro W hSW; obtain ⟨q0, q1, q2⟩ := hSW; go_simp; try with_reducible rfl)
        simp only [Act.put, List.setIfInBounds_toArray, List.set_cons_zero, List.set_cons_succ]
        refine wpAnyH_take (i := 2) (oi := Oper.mk (some 33) _ _ _ _ _) (v := ?v38) rfl (by kernel_rfl) (by kernel_rfl) (by kernel_rfl) (fun _ _ _ h => h) (Or.inl ⟨by rfl, ?y38⟩) hHeld ?r38
        case y38 => (intro W hSW; obtain ⟨q0, q1, q2⟩ := hSW; go_simp; try with_reducible rfl)
        simp only [Act.put, List.setIfInBounds_toArray, List.set_cons_zero, List.set_cons_succ]
        refine wpAnyH_ready (rs := [3]) (by kernel_rfl) (by simp) (AllReadyH.cons (o := Oper.mk none _ _ _ _ _) rfl (fun Kk hK => ?_) AllReadyH.nil)
        obtain ⟨r0, r1, rf0, rf1⟩ := box2_cell hRd
        have st := box2_set hRd (.slice (some ⟨g, 0, none⟩) (n) vc) (.int .i64 (nx))
        go_simp
        refine hK.out _ _ ?sk (fun hHeld => ?_)
        case sk => exact ⟨cell_gr st.2 s0 (by omega), cell_gr st.2 s1 (by omega), cell_gr st.2 s2 (by omega)⟩
        clear hK Kk
        refine wpAnyH_take (i := 4) (oi := Oper.mk (some 5) _ _ _ _ _) (v := ?v39) rfl (by kernel_rfl) (by kernel_rfl) (by kernel_rfl) (fun _ _ _ h => h) (Or.inl ⟨by rfl, ?y39⟩) hHeld ?r39
        case y39 => (intro W hSW; obtain ⟨q0, q1, q2⟩ := hSW; go_simp; try with_reducible rfl)
        simp only [Act.put, List.setIfInBounds_toArray, List.set_cons_zero, List.set_cons_succ]
        refine wpAnyH_take (i := 5) (oi := Oper.mk (some 6) _ _ _ _ _) (v := ?v40) rfl (by kernel_rfl) (by kernel_rfl) (by kernel_rfl) (fun _ _ _ h => h) (Or.inl ⟨by rfl, ?y40⟩) hHeld ?r40
        case y40 => (intro W hSW; obtain ⟨q0, q1, q2⟩ := hSW; go_simp; try with_reducible rfl)
        simp only [Act.put, List.setIfInBounds_toArray, List.set_cons_zero, List.set_cons_succ]
        refine wpAnyH_done (by kernel_rfl) ?_ _
        clear hHeld
        go_wp2_with fail
        refine box2_post hRd (fun w5 h5 gr => ?_)
        clear r0 r1 rf0 rf1
        obtain ⟨d0, d1, -, -⟩ := box2_cell h5
        exact bodyPost_ret (v := .tuple #[.agg #[.slice (some ⟨g, 0, none⟩) n vc, .int .i64 nx], .int .i64 r, .bool true]) (by simp [results, Tryd.results15, go_sem, d0, d1]) rfl
          ⟨_, vc, K, by rw [HE.out, HKn.out, decide_eq_true h0], by rw [HKn.out]; exact (hVd.grown gr (by omega)).weaken (by omega), by rw [HE.out]; exact HPl.out, below_set hBd gr (by omega)⟩
      · rw [decide_eq_false h0]
        have HLn : Hid ((J.map It.pl).length = n) := by unfold Hid; rw [List.length_map, HJ.out]
        by_cases h40 : n = 40
        · have HE : Hid (asR nx J kd M = (0, nx, J.map It.pl)) := by rw [hide (HA.out)]; unfold Hid assP; rw [HR.out, if_neg h0, if_pos (Or.inl (by rw [HLn.out]; omega))]
          have k40 : ((n : Int) == 40) = true := by rw [h40]; rfl
          clear h40
          obtain ⟨r0, r1, rf0, rf1⟩ := box2_cell hRc
          go_wp2
          refine box2_post hRc (fun w5 h5 gr => ?_)
          clear p0 p1 r0 r1 rf0 rf1 a0 a1
          obtain ⟨d0, d1, -, -⟩ := box2_cell h5
          exact bodyPost_ret (v := .tuple #[.agg #[.slice (some ⟨g, 0, none⟩) n vc, .int .i64 nx], .int .i64 0, .bool false]) (by simp [results, Tryd.results15, go_sem, d0, d1]) rfl
            ⟨_, vc, K, by rw [HE.out, HKn.out]; rfl, by rw [HKn.out]; exact (hVc.grown gr (by omega)).weaken (by omega), by rw [HE.out]; exact HPl.out, below_set hBc gr (by omega)⟩
        have k40 : ((n : Int) == 40) = false := by simp; omega
        by_cases hmx : nx = 1000000
        · have HE : Hid (asR nx J kd M = (0, nx, J.map It.pl)) := by rw [hide (HA.out)]; unfold Hid assP; rw [HR.out, if_neg h0, if_pos (Or.inr (by omega))]
          have kmx : (nx == 1000000) = true := by simpa using hmx
          clear hmx
          obtain ⟨r0, r1, rf0, rf1⟩ := box2_cell hRc
          go_wp2
          refine box2_post hRc (fun w5 h5 gr => ?_)
          clear p0 p1 r0 r1 rf0 rf1 a0 a1
          obtain ⟨d0, d1, -, -⟩ := box2_cell h5
          exact bodyPost_ret (v := .tuple #[.agg #[.slice (some ⟨g, 0, none⟩) n vc, .int .i64 nx], .int .i64 0, .bool false]) (by simp [results, Tryd.results15, go_sem, d0, d1]) rfl
            ⟨_, vc, K, by rw [HE.out, HKn.out]; rfl, by rw [HKn.out]; exact (hVc.grown gr (by omega)).weaken (by omega), by rw [HE.out]; exact HPl.out, below_set hBc gr (by omega)⟩
        have kmx : (nx == 1000000) = false := by simpa using hmx
        have HE : Hid (asR nx J kd M = (nx, nx + 1, J.map It.pl ++ [⟨nx, kd, M⟩])) := by rw [hide (HA.out)]; unfold Hid assP; rw [HR.out, if_neg h0, if_neg (by rw [HLn.out]; omega)]
        obtain ⟨i0, hi, hz0, hz1, hz2⟩ := info_parts Tryd.info54
        obtain ⟨g2, hgs, hcop, hob, hown2, -, -⟩ := gi hVc HKn.out hPc
        have HCop := hide hcop
        have HOb := hide hob
        clear hcop hob
        have s9 : ∀ {W : World}, Below w0.heap.size wc W → W.cell? ⟨w.heap.size, 1, none⟩ = some (.int .i64 nx) ∧ W.cell? ⟨w.heap.size + 1, 0, none⟩ = some (.string kd) ∧ W.cell? ⟨w.heap.size + 1, 1, none⟩ = some (.slice b M.length cb) := fun {W} h =>
          ⟨(box2_cell ((h.block w.heap.size (by omega)).trans hAc)).2.1, (box2_cell ((h.block (w.heap.size + 1) (by omega)).trans hFc)).1, (box2_cell ((h.block (w.heap.size + 1) (by omega)).trans hFc)).2.1⟩
        have B0 : Below w0.heap.size wc wc := Below.refl _ _
        clear p0 p1 hXc
        go_upto_region 9 with fail
        go_cut [52] (fun _ W => ∃ g5 c5 a' c', W.heap[w1.heap.size]? = some (.cells #[.slice (some ⟨g5, 0, none⟩) (n + 1) c5, .int .i64 nx] 29 (0, 0)) ∧ HoldsI W w0.heap.size g5 c5 (K ++ [⟨nx, kd, a', c', M⟩]) ∧ Below w0.heap.size wc W)
        case first =>
          have hSd : wc.drew.cell? ⟨w.heap.size, 1, none⟩ = some (.int .i64 nx) ∧ wc.drew.cell? ⟨w.heap.size + 1, 0, none⟩ = some (.string kd) ∧ wc.drew.cell? ⟨w.heap.size + 1, 1, none⟩ = some (.slice b M.length cb) := s9 B0.drew
          refine wp_region_held_drew (S := fun W => W.cell? ⟨w.heap.size, 1, none⟩ = some (.int .i64 nx) ∧ W.cell? ⟨w.heap.size + 1, 0, none⟩ = some (.string kd) ∧ W.cell? ⟨w.heap.size + 1, 1, none⟩ = some (.slice b M.length cb)) (by kernel_rfl) hSd (fun hHeld => ?_)
          have hbd : Below wc.heap.size wc wc.drew := (Below.refl _ _).drew
          have hPd := box_step hPc hbd
          have hqd := hqc.below hbd
          have hOd := ownsRow_below hown2 hbd
          have hzd : wc.heap.size ≤ wc.drew.heap.size := hbd.size
          have hBd : Below w0.heap.size wc wc.drew := hbd.mono hlc
          have HCd : Hid (∀ x, Copied wc.drew w0.heap.size g2 (K ++ [x]) K n) := fun x => (HCop.out x)
          generalize wc.drew = wd at hbd hPd hqd hOd hzd hBd HCd hHeld hSd ⊢
          obtain ⟨op, -, -, -⟩ := box2_cell hPd
          refine wpAnyH_take (i := 0) (oi := Oper.mk (some 44) _ _ _ _ _) (v := ?v41) rfl (by kernel_rfl) (by kernel_rfl) (by kernel_rfl) (fun _ _ _ h => h) (Or.inl ⟨by rfl, ?y41⟩) hHeld ?r41
          case y41 => (intro W hSW; obtain ⟨q0, q1, q2⟩ := hSW; go_simp; try with_reducible rfl)
          simp only [Act.put, List.setIfInBounds_toArray, List.set_cons_zero, List.set_cons_succ]
          refine wpAnyH_take (i := 2) (oi := Oper.mk (some 46) _ _ _ _ _) (v := ?v42) rfl (by kernel_rfl) (by kernel_rfl) (by kernel_rfl) (fun _ _ _ h => h) (Or.inl ⟨by rfl, ?y42⟩) hHeld ?r42
          case y42 => (intro W hSW; obtain ⟨q0, q1, q2⟩ := hSW; go_simp; try with_reducible rfl)
          simp only [Act.put, List.setIfInBounds_toArray, List.set_cons_zero, List.set_cons_succ]
          refine wpAnyH_take (i := 3) (oi := Oper.mk (some 47) _ _ _ _ _) (v := ?v43) rfl (by kernel_rfl) (by kernel_rfl) (by kernel_rfl) (fun _ _ _ h => h) (Or.inl ⟨by rfl, ?y43⟩) hHeld ?r43
          case y43 => (intro W hSW; obtain ⟨q0, q1, q2⟩ := hSW; go_simp; try with_reducible rfl)
          simp only [Act.put, List.setIfInBounds_toArray, List.set_cons_zero, List.set_cons_succ]
          refine wpAnyH_take (i := 4) (oi := Oper.mk (some 48) _ _ _ _ _) (v := ?v44) rfl (by kernel_rfl) (by kernel_rfl) (by kernel_rfl) (fun _ _ _ h => h) (Or.inl ⟨by rfl, ?y44⟩) hHeld ?r44
          case y44 => (intro W hSW; obtain ⟨q0, q1, q2⟩ := hSW; go_simp; try with_reducible rfl)
          simp only [Act.put, List.setIfInBounds_toArray, List.set_cons_zero, List.set_cons_succ]
          refine wpAnyH_ready (rs := [1, 5]) (by kernel_rfl) (by simp) (AllReadyH.cons (o := Oper.mk (some 45) _ _ _ _ _) rfl (fun Kk hK => ?_) (AllReadyH.cons (o := Oper.mk (some 49) _ _ _ _ _) rfl (fun Kk hK => ?_) AllReadyH.nil))
          · go_simp
            refine hK.out _ _ hSd (fun hHeld => ?_)
            clear hK Kk
            refine wpAnyH_ready (rs := [5]) (by kernel_rfl) (by simp) (AllReadyH.cons (o := Oper.mk (some 49) _ _ _ _ _) rfl (fun Kk hK => ?_) AllReadyH.nil)
            go_simp
            refine (copyFact_any kd b cb M _ hqd hlM hm).mono ?_
            rintro e w3 ⟨a', c', rfl, hnew, hb3⟩
            have hP3 := box_step hPd hb3
            have B3 : Below w0.heap.size wc w3 := hBd.trans (hb3.mono (Nat.le_trans hlc hzd))
            obtain ⟨o3, -, -, -⟩ := box2_cell hP3
            refine hK.out _ _ (s9 B3) (fun hHeld => ?_)
            clear hK Kk
            refine wpAnyH_take (i := 6) (oi := Oper.mk (some 50) _ _ _ _ _) (v := ?v45) rfl (by kernel_rfl) (by kernel_rfl) (by kernel_rfl) (fun _ _ _ h => h) (Or.inl ⟨by rfl, ?y45⟩) hHeld ?r45
            case y45 => (intro W hSW; obtain ⟨q0, q1, q2⟩ := hSW; go_simp; try with_reducible rfl)
            simp only [Act.put, List.setIfInBounds_toArray, List.set_cons_zero, List.set_cons_succ]
            refine wpAnyH_ready (rs := [7]) (by kernel_rfl) (by simp) (AllReadyH.cons (o := Oper.mk (some 51) _ _ _ _ _) rfl (fun Kk hK => ?_) AllReadyH.nil)
            go_simp
            have ba4 := below_al w3 (.cells #[.int .i64 nx, .string kd, .slice a' M.length c'] 54)
            have hbr4 := hb3.trans (ba4.mono hb3.size)
            have hnew4 : NewV _ wd.heap.size a' c' M := hnew.later ba4
            have HSrc := hide (srcI w3 ⟨nx, kd, a', c', M⟩)
            have HO4 := hide (ownsRow_below hOd hbr4)
            have hP4 := box_step hPd hbr4
            have B4 : Below w0.heap.size wc _ := hBd.trans (hbr4.mono (Nat.le_trans hlc hzd))
            obtain ⟨o4, -, -, -⟩ := box2_cell hP4
            refine hK.out _ _ (s9 B4) (fun hHeld => ?_)
            clear hK Kk
            refine wpAnyH_ready (rs := [8]) (by kernel_rfl) (by simp) (AllReadyH.cons (o := Oper.mk (some 52) _ _ _ _ _) rfl (fun Kk hK => ?_) AllReadyH.nil)
            refine step_append_lies _ rfl (.tmp 45) (.tmp 51) 27 rfl 0 54 i0 (.agg #[.int .i64 0, .string ⟨#[]⟩, .slice none 0 0]) 3 48 Tryd.underlying27 hi hz0 hz1 hz2 rfl (by omega) (.slice (some ⟨g, 0, none⟩) n vc) n (rowOf It.cells K) rfl HO4.out ⟨w3.heap.size, 0, none⟩ 1 1 (It.cells ⟨nx, kd, a', c', M⟩) ?hx rfl HSrc.out (oneI _) (by omega) (by unfold maxLen; omega) (by omega) (Nat.zero_le _) _ rfl ?_
            case hx => simp [Act.eval]
            intro g5 c5 w5 ho5 hg5 hat5 hlt5
            rw [rowI_app] at ho5
            have hlo4 : w0.heap.size ≤ (w3.alloc (.cells #[.int .i64 nx, .string kd, .slice a' M.length c'] 54)).heap.size := Nat.le_trans hlc (Nat.le_trans hzd hbr4.size)
            have B5 : Below w0.heap.size wc w5 := B4.grown hg5 hlo4 (fun q e => (HOb.out q e).2.1)
            have hP5 := (hg5.block w1.heap.size (Array.getElem?_eq_some_iff.1 hP4).1 (fun e => (HOb.out w1.heap.size e.symm).2.2 rfl)).trans hP4
            obtain ⟨o5, o51, of0, of1⟩ := box2_cell hP5
            have hg5l : w0.heap.size ≤ g5 := by
              rcases hat5 with e | e
              · exact (HOb.out g5 e).2.1
              · rw [e]; exact hlo4
            have HC4 := hide ((HCd.out ⟨nx, kd, a', c', M⟩).more (K' := K ++ [⟨nx, kd, a', c', M⟩]) (x := ⟨nx, kd, a', c', M⟩) hbr4 (World.grownBy.refl _ _) (fun i hi => iAt_app_lt (by rw [HKn.out]; exact hi)) (by have e := iAt_app_eq K ⟨nx, kd, a', c', M⟩; rw [HKn.out] at e; exact e) (by have e := iAt_app_eq K ⟨nx, kd, a', c', M⟩; rw [HKn.out] at e; rw [e]) (fun hne => by obtain ⟨q, e, h1, o⟩ := hnew4.own hne; exact ⟨q, e, h1, o⟩) hnew4.2 (Nat.le_trans hlc hzd) (Nat.lt_of_lt_of_le hgs hzd))
            have HC5 := hide (HC4.out.rebase (w' := w5) (g' := g5) (fun q hq hne => hg5.block q hq (fun e => hne (HOb.out q e.symm).1)) (by rcases hat5 with e | e; exact .inl (HOb.out g5 e).1; exact .inr (Nat.le_of_eq e.symm)))
            have HLen : Hid ((K ++ [(⟨nx, kd, a', c', M⟩ : It)]).length = n + 1) := by unfold Hid; rw [List.length_append, HKn.out]; rfl
            have HD5 := hide (Copied.done (cp := c5) (by rw [HLen.out]; exact HC5.out) rfl hg5l (by rw [HLen.out]; exact ownsRow_up ho5 hg5l)).1
            have st := box2_set0 hP5 (.slice (some ⟨g5, 0, none⟩) (n + 1) c5)
            have HD6 := hide (HD5.out.other hP5 (fun q hq hne => st.2.block q hq (fun e => hne (Option.some.inj e))))
            have B6 := B5.grown st.2 (Nat.le_trans hlo4 hg5.size) (fun q e => by have e2 : w1.heap.size = q := Option.some.inj e; rw [← e2]; exact hw1)
            refine hK.out _ _ (s9 B5) (fun hHeld => ?_)
            clear hK Kk
            refine wpAnyH_take (i := 9) (oi := Oper.mk (some 53) _ _ _ _ _) (v := ?v46) rfl (by kernel_rfl) (by kernel_rfl) (by kernel_rfl) (fun _ _ _ h => h) (Or.inl ⟨by rfl, ?y46⟩) hHeld ?r46
            case y46 => (intro W hSW; obtain ⟨q0, q1, q2⟩ := hSW; go_simp; try with_reducible rfl)
            simp only [Act.put, List.setIfInBounds_toArray, List.set_cons_zero, List.set_cons_succ]
            refine wpAnyH_ready (rs := [10]) (by kernel_rfl) (by simp) (AllReadyH.cons (o := Oper.mk none _ _ _ _ _) rfl (fun Kk hK => ?_) AllReadyH.nil)
            go_simp
            refine hK.out _ _ (s9 B6) (fun hHeld => ?_)
            clear hK Kk
            refine wpAnyH_done (by kernel_rfl) ?_ _
            clear hHeld
            go_wp2_with fail
            go_meet
            exact ⟨g5, c5, a', c', st.1, HD6.out, B6⟩
          · go_simp
            refine (copyFact_any kd b cb M _ hqd hlM hm).mono ?_
            rintro e w3 ⟨a', c', rfl, hnew, hb3⟩
            have hP3 := box_step hPd hb3
            have B3 : Below w0.heap.size wc w3 := hBd.trans (hb3.mono (Nat.le_trans hlc hzd))
            obtain ⟨o3, -, -, -⟩ := box2_cell hP3
            refine hK.out _ _ (s9 B3) (fun hHeld => ?_)
            clear hK Kk
            refine wpAnyH_take (i := 6) (oi := Oper.mk (some 50) _ _ _ _ _) (v := ?v47) rfl (by kernel_rfl) (by kernel_rfl) (by kernel_rfl) (fun _ _ _ h => h) (Or.inl ⟨by rfl, ?y47⟩) hHeld ?r47
            case y47 => (intro W hSW; obtain ⟨q0, q1, q2⟩ := hSW; go_simp; try with_reducible rfl)
            simp only [Act.put, List.setIfInBounds_toArray, List.set_cons_zero, List.set_cons_succ]
            refine wpAnyH_ready (rs := [1, 7]) (by kernel_rfl) (by simp) (AllReadyH.cons (o := Oper.mk (some 45) _ _ _ _ _) rfl (fun Kk hK => ?_) (AllReadyH.cons (o := Oper.mk (some 51) _ _ _ _ _) rfl (fun Kk hK => ?_) AllReadyH.nil))
            · go_simp
              refine hK.out _ _ (s9 B3) (fun hHeld => ?_)
              clear hK Kk
              refine wpAnyH_ready (rs := [7]) (by kernel_rfl) (by simp) (AllReadyH.cons (o := Oper.mk (some 51) _ _ _ _ _) rfl (fun Kk hK => ?_) AllReadyH.nil)
              go_simp
              have ba4 := below_al w3 (.cells #[.int .i64 nx, .string kd, .slice a' M.length c'] 54)
              have hbr4 := hb3.trans (ba4.mono hb3.size)
              have hnew4 : NewV _ wd.heap.size a' c' M := hnew.later ba4
              have HSrc := hide (srcI w3 ⟨nx, kd, a', c', M⟩)
              have HO4 := hide (ownsRow_below hOd hbr4)
              have hP4 := box_step hPd hbr4
              have B4 : Below w0.heap.size wc _ := hBd.trans (hbr4.mono (Nat.le_trans hlc hzd))
              obtain ⟨o4, -, -, -⟩ := box2_cell hP4
              refine hK.out _ _ (s9 B4) (fun hHeld => ?_)
              clear hK Kk
              refine wpAnyH_ready (rs := [8]) (by kernel_rfl) (by simp) (AllReadyH.cons (o := Oper.mk (some 52) _ _ _ _ _) rfl (fun Kk hK => ?_) AllReadyH.nil)
              refine step_append_lies _ rfl (.tmp 45) (.tmp 51) 27 rfl 0 54 i0 (.agg #[.int .i64 0, .string ⟨#[]⟩, .slice none 0 0]) 3 48 Tryd.underlying27 hi hz0 hz1 hz2 rfl (by omega) (.slice (some ⟨g, 0, none⟩) n vc) n (rowOf It.cells K) rfl HO4.out ⟨w3.heap.size, 0, none⟩ 1 1 (It.cells ⟨nx, kd, a', c', M⟩) ?hx rfl HSrc.out (oneI _) (by omega) (by unfold maxLen; omega) (by omega) (Nat.zero_le _) _ rfl ?_
              case hx => simp [Act.eval]
              intro g5 c5 w5 ho5 hg5 hat5 hlt5
              rw [rowI_app] at ho5
              have hlo4 : w0.heap.size ≤ (w3.alloc (.cells #[.int .i64 nx, .string kd, .slice a' M.length c'] 54)).heap.size := Nat.le_trans hlc (Nat.le_trans hzd hbr4.size)
              have B5 : Below w0.heap.size wc w5 := B4.grown hg5 hlo4 (fun q e => (HOb.out q e).2.1)
              have hP5 := (hg5.block w1.heap.size (Array.getElem?_eq_some_iff.1 hP4).1 (fun e => (HOb.out w1.heap.size e.symm).2.2 rfl)).trans hP4
              obtain ⟨o5, o51, of0, of1⟩ := box2_cell hP5
              have hg5l : w0.heap.size ≤ g5 := by
                rcases hat5 with e | e
                · exact (HOb.out g5 e).2.1
                · rw [e]; exact hlo4
              have HC4 := hide ((HCd.out ⟨nx, kd, a', c', M⟩).more (K' := K ++ [⟨nx, kd, a', c', M⟩]) (x := ⟨nx, kd, a', c', M⟩) hbr4 (World.grownBy.refl _ _) (fun i hi => iAt_app_lt (by rw [HKn.out]; exact hi)) (by have e := iAt_app_eq K ⟨nx, kd, a', c', M⟩; rw [HKn.out] at e; exact e) (by have e := iAt_app_eq K ⟨nx, kd, a', c', M⟩; rw [HKn.out] at e; rw [e]) (fun hne => by obtain ⟨q, e, h1, o⟩ := hnew4.own hne; exact ⟨q, e, h1, o⟩) hnew4.2 (Nat.le_trans hlc hzd) (Nat.lt_of_lt_of_le hgs hzd))
              have HC5 := hide (HC4.out.rebase (w' := w5) (g' := g5) (fun q hq hne => hg5.block q hq (fun e => hne (HOb.out q e.symm).1)) (by rcases hat5 with e | e; exact .inl (HOb.out g5 e).1; exact .inr (Nat.le_of_eq e.symm)))
              have HLen : Hid ((K ++ [(⟨nx, kd, a', c', M⟩ : It)]).length = n + 1) := by unfold Hid; rw [List.length_append, HKn.out]; rfl
              have HD5 := hide (Copied.done (cp := c5) (by rw [HLen.out]; exact HC5.out) rfl hg5l (by rw [HLen.out]; exact ownsRow_up ho5 hg5l)).1
              have st := box2_set0 hP5 (.slice (some ⟨g5, 0, none⟩) (n + 1) c5)
              have HD6 := hide (HD5.out.other hP5 (fun q hq hne => st.2.block q hq (fun e => hne (Option.some.inj e))))
              have B6 := B5.grown st.2 (Nat.le_trans hlo4 hg5.size) (fun q e => by have e2 : w1.heap.size = q := Option.some.inj e; rw [← e2]; exact hw1)
              refine hK.out _ _ (s9 B5) (fun hHeld => ?_)
              clear hK Kk
              refine wpAnyH_take (i := 9) (oi := Oper.mk (some 53) _ _ _ _ _) (v := ?v48) rfl (by kernel_rfl) (by kernel_rfl) (by kernel_rfl) (fun _ _ _ h => h) (Or.inl ⟨by rfl, ?y48⟩) hHeld ?r48
              case y48 => (intro W hSW; obtain ⟨q0, q1, q2⟩ := hSW; go_simp; try with_reducible rfl)
              simp only [Act.put, List.setIfInBounds_toArray, List.set_cons_zero, List.set_cons_succ]
              refine wpAnyH_ready (rs := [10]) (by kernel_rfl) (by simp) (AllReadyH.cons (o := Oper.mk none _ _ _ _ _) rfl (fun Kk hK => ?_) AllReadyH.nil)
              go_simp
              refine hK.out _ _ (s9 B6) (fun hHeld => ?_)
              clear hK Kk
              refine wpAnyH_done (by kernel_rfl) ?_ _
              clear hHeld
              go_wp2_with fail
              go_meet
              exact ⟨g5, c5, a', c', st.1, HD6.out, B6⟩
            · go_simp
              have ba4 := below_al w3 (.cells #[.int .i64 nx, .string kd, .slice a' M.length c'] 54)
              have hbr4 := hb3.trans (ba4.mono hb3.size)
              have hnew4 : NewV _ wd.heap.size a' c' M := hnew.later ba4
              have HSrc := hide (srcI w3 ⟨nx, kd, a', c', M⟩)
              have HO4 := hide (ownsRow_below hOd hbr4)
              have hP4 := box_step hPd hbr4
              have B4 : Below w0.heap.size wc _ := hBd.trans (hbr4.mono (Nat.le_trans hlc hzd))
              obtain ⟨o4, -, -, -⟩ := box2_cell hP4
              refine hK.out _ _ (s9 B4) (fun hHeld => ?_)
              clear hK Kk
              refine wpAnyH_ready (rs := [1]) (by kernel_rfl) (by simp) (AllReadyH.cons (o := Oper.mk (some 45) _ _ _ _ _) rfl (fun Kk hK => ?_) AllReadyH.nil)
              go_simp
              refine hK.out _ _ (s9 B4) (fun hHeld => ?_)
              clear hK Kk
              refine wpAnyH_ready (rs := [8]) (by kernel_rfl) (by simp) (AllReadyH.cons (o := Oper.mk (some 52) _ _ _ _ _) rfl (fun Kk hK => ?_) AllReadyH.nil)
              refine step_append_lies _ rfl (.tmp 45) (.tmp 51) 27 rfl 0 54 i0 (.agg #[.int .i64 0, .string ⟨#[]⟩, .slice none 0 0]) 3 48 Tryd.underlying27 hi hz0 hz1 hz2 rfl (by omega) (.slice (some ⟨g, 0, none⟩) n vc) n (rowOf It.cells K) rfl HO4.out ⟨w3.heap.size, 0, none⟩ 1 1 (It.cells ⟨nx, kd, a', c', M⟩) ?hx rfl HSrc.out (oneI _) (by omega) (by unfold maxLen; omega) (by omega) (Nat.zero_le _) _ rfl ?_
              case hx => simp [Act.eval]
              intro g5 c5 w5 ho5 hg5 hat5 hlt5
              rw [rowI_app] at ho5
              have hlo4 : w0.heap.size ≤ (w3.alloc (.cells #[.int .i64 nx, .string kd, .slice a' M.length c'] 54)).heap.size := Nat.le_trans hlc (Nat.le_trans hzd hbr4.size)
              have B5 : Below w0.heap.size wc w5 := B4.grown hg5 hlo4 (fun q e => (HOb.out q e).2.1)
              have hP5 := (hg5.block w1.heap.size (Array.getElem?_eq_some_iff.1 hP4).1 (fun e => (HOb.out w1.heap.size e.symm).2.2 rfl)).trans hP4
              obtain ⟨o5, o51, of0, of1⟩ := box2_cell hP5
              have hg5l : w0.heap.size ≤ g5 := by
                rcases hat5 with e | e
                · exact (HOb.out g5 e).2.1
                · rw [e]; exact hlo4
              have HC4 := hide ((HCd.out ⟨nx, kd, a', c', M⟩).more (K' := K ++ [⟨nx, kd, a', c', M⟩]) (x := ⟨nx, kd, a', c', M⟩) hbr4 (World.grownBy.refl _ _) (fun i hi => iAt_app_lt (by rw [HKn.out]; exact hi)) (by have e := iAt_app_eq K ⟨nx, kd, a', c', M⟩; rw [HKn.out] at e; exact e) (by have e := iAt_app_eq K ⟨nx, kd, a', c', M⟩; rw [HKn.out] at e; rw [e]) (fun hne => by obtain ⟨q, e, h1, o⟩ := hnew4.own hne; exact ⟨q, e, h1, o⟩) hnew4.2 (Nat.le_trans hlc hzd) (Nat.lt_of_lt_of_le hgs hzd))
              have HC5 := hide (HC4.out.rebase (w' := w5) (g' := g5) (fun q hq hne => hg5.block q hq (fun e => hne (HOb.out q e.symm).1)) (by rcases hat5 with e | e; exact .inl (HOb.out g5 e).1; exact .inr (Nat.le_of_eq e.symm)))
              have HLen : Hid ((K ++ [(⟨nx, kd, a', c', M⟩ : It)]).length = n + 1) := by unfold Hid; rw [List.length_append, HKn.out]; rfl
              have HD5 := hide (Copied.done (cp := c5) (by rw [HLen.out]; exact HC5.out) rfl hg5l (by rw [HLen.out]; exact ownsRow_up ho5 hg5l)).1
              have st := box2_set0 hP5 (.slice (some ⟨g5, 0, none⟩) (n + 1) c5)
              have HD6 := hide (HD5.out.other hP5 (fun q hq hne => st.2.block q hq (fun e => hne (Option.some.inj e))))
              have B6 := B5.grown st.2 (Nat.le_trans hlo4 hg5.size) (fun q e => by have e2 : w1.heap.size = q := Option.some.inj e; rw [← e2]; exact hw1)
              refine hK.out _ _ (s9 B5) (fun hHeld => ?_)
              clear hK Kk
              refine wpAnyH_take (i := 9) (oi := Oper.mk (some 53) _ _ _ _ _) (v := ?v49) rfl (by kernel_rfl) (by kernel_rfl) (by kernel_rfl) (fun _ _ _ h => h) (Or.inl ⟨by rfl, ?y49⟩) hHeld ?r49
              case y49 => (intro W hSW; obtain ⟨q0, q1, q2⟩ := hSW; go_simp; try with_reducible rfl)
              simp only [Act.put, List.setIfInBounds_toArray, List.set_cons_zero, List.set_cons_succ]
              refine wpAnyH_ready (rs := [10]) (by kernel_rfl) (by simp) (AllReadyH.cons (o := Oper.mk none _ _ _ _ _) rfl (fun Kk hK => ?_) AllReadyH.nil)
              go_simp
              refine hK.out _ _ (s9 B6) (fun hHeld => ?_)
              clear hK Kk
              refine wpAnyH_done (by kernel_rfl) ?_ _
              clear hHeld
              go_wp2_with fail
              go_meet
              exact ⟨g5, c5, a', c', st.1, HD6.out, B6⟩
        case rest =>
        obtain ⟨g5, c5, a', c', hPe, hHe, hbe⟩ := hcut
        clear a0 a1
        have hAe := (hbe.block w.heap.size (by omega)).trans hAc
        have hRe := (hbe.block (w.heap.size + 1 + 1) (by omega)).trans hRc
        have hBe := hBc.trans (hbe.mono (by omega))
        obtain ⟨p0, p1, pf0, pf1⟩ := box2_cell hPe
        have st2 := box2_set1 hPe (.int .i64 (nx + 1))
        have hHf := hHe.other hPe (w' := wc.setCell ⟨w1.heap.size, 1, none⟩ (.int .i64 (nx + 1))) (fun q hq hne => st2.2.block q hq (fun e => hne (Option.some.inj e)))
        have hAf := box_gr hAe st2.2 (by omega)
        have hRf := box_gr hRe st2.2 (by omega)
        have hBf := hBe.grown st2.2 hBe.size (fun q e => by have e2 : w1.heap.size = q := Option.some.inj e; omega)
        have HLen : Hid ((K ++ [(⟨nx, kd, a', c', M⟩ : It)]).length = n + 1) := by unfold Hid; rw [List.length_append, HKn.out]; rfl
        have hVf : HV (wc.setCell ⟨w1.heap.size, 1, none⟩ (.int .i64 (nx + 1))) w0.heap.size (n + 1) (some ⟨g5, 0, none⟩) c5 (K ++ [⟨nx, kd, a', c', M⟩]) := .inr ⟨g5, rfl, hHf⟩
        have hPf := st2.1
        have hnx1 : nx + 1 ≤ 1000001 := by omega
        clear hPc hAc hFc hRc hVc hqc hBc hbc HCop HOb hown2 s9 B0 hbe hAe hRe hBe hHe hHf
        go_upto_region 11 with fail
        generalize wc.setCell ⟨w1.heap.size, 1, none⟩ (.int .i64 (nx + 1)) = wf at st2 hAf hRf hBf hVf hPf ⊢
        clear p0 p1 pf0 pf1 st2
        obtain ⟨p0, p1, -, -⟩ := box2_cell hPf
        obtain ⟨a0, a1, -, -⟩ := box2_cell hAf
        have hbd : Below wf.heap.size wf wf.drew := (Below.refl _ _).drew
        have hRd := box_step hRf hbd
        have hBd := hBf.trans (hbd.mono hBf.size)
        have hVd := hVf.later hbd
        have hzd : wf.heap.size ≤ wf.drew.heap.size := hbd.size
        have hSd : wf.drew.cell? ⟨w1.heap.size, 0, none⟩ = some (.slice (some ⟨g5, 0, none⟩) (n + 1) c5) ∧ wf.drew.cell? ⟨w1.heap.size, 1, none⟩ = some (.int .i64 (nx + 1)) ∧ wf.drew.cell? ⟨w.heap.size, 1, none⟩ = some (.int .i64 nx) := ⟨p0, p1, a1⟩
        refine wp_region_held_drew (S := fun W => W.cell? ⟨w1.heap.size, 0, none⟩ = some (.slice (some ⟨g5, 0, none⟩) (n + 1) c5) ∧ W.cell? ⟨w1.heap.size, 1, none⟩ = some (.int .i64 (nx + 1)) ∧ W.cell? ⟨w.heap.size, 1, none⟩ = some (.int .i64 nx)) (by kernel_rfl) hSd (fun hHeld => ?_)
        generalize wf.drew = wd at hbd hRd hBd hVd hzd hSd hHeld ⊢
        obtain ⟨s0, s1, s2⟩ := hSd
        refine wpAnyH_take (i := 0) (oi := Oper.mk (some 58) _ _ _ _ _) (v := ?v50) rfl (by kernel_rfl) (by kernel_rfl) (by kernel_rfl) (fun _ _ _ h => h) (Or.inl ⟨by rfl, ?y50⟩) hHeld ?r50
        case y50 => (intro W hSW; obtain ⟨q0, q1, q2⟩ := hSW; go_simp; try with_reducible rfl)
        simp only [Act.put, List.setIfInBounds_toArray, List.set_cons_zero, List.set_cons_succ]
        refine wpAnyH_take (i := 1) (oi := Oper.mk (some 59) _ _ _ _ _) (v := ?v51) rfl (by kernel_rfl) (by kernel_rfl) (by kernel_rfl) (fun _ _ _ h => h) (Or.inl ⟨by rfl, ?y51⟩) hHeld ?r51
        case y51 => (intro W hSW; obtain ⟨q0, q1, q2⟩ := hSW; go_simp; try with_reducible rfl)
        simp only [Act.put, List.setIfInBounds_toArray, List.set_cons_zero, List.set_cons_succ]
        refine wpAnyH_take (i := 2) (oi := Oper.mk (some 60) _ _ _ _ _) (v := ?v52) rfl (by kernel_rfl) (by kernel_rfl) (by kernel_rfl) (fun _ _ _ h => h) (Or.inl ⟨by rfl, ?y52⟩) hHeld ?r52
        case y52 => (intro W hSW; obtain ⟨q0, q1, q2⟩ := hSW; go_simp; try with_reducible rfl)
        simp only [Act.put, List.setIfInBounds_toArray, List.set_cons_zero, List.set_cons_succ]
        refine wpAnyH_ready (rs := [3]) (by kernel_rfl) (by simp) (AllReadyH.cons (o := Oper.mk none _ _ _ _ _) rfl (fun Kk hK => ?_) AllReadyH.nil)
        obtain ⟨r0, r1, rf0, rf1⟩ := box2_cell hRd
        have st := box2_set hRd (.slice (some ⟨g5, 0, none⟩) (n + 1) c5) (.int .i64 (nx + 1))
        go_simp
        refine hK.out _ _ ?sk (fun hHeld => ?_)
        case sk => exact ⟨cell_gr st.2 s0 (by omega), cell_gr st.2 s1 (by omega), cell_gr st.2 s2 (by omega)⟩
        clear hK Kk
        refine wpAnyH_take (i := 4) (oi := Oper.mk (some 5) _ _ _ _ _) (v := ?v53) rfl (by kernel_rfl) (by kernel_rfl) (by kernel_rfl) (fun _ _ _ h => h) (Or.inl ⟨by rfl, ?y53⟩) hHeld ?r53
        case y53 => (intro W hSW; obtain ⟨q0, q1, q2⟩ := hSW; go_simp; try with_reducible rfl)
        simp only [Act.put, List.setIfInBounds_toArray, List.set_cons_zero, List.set_cons_succ]
        refine wpAnyH_take (i := 5) (oi := Oper.mk (some 6) _ _ _ _ _) (v := ?v54) rfl (by kernel_rfl) (by kernel_rfl) (by kernel_rfl) (fun _ _ _ h => h) (Or.inl ⟨by rfl, ?y54⟩) hHeld ?r54
        case y54 => (intro W hSW; obtain ⟨q0, q1, q2⟩ := hSW; go_simp; try with_reducible rfl)
        simp only [Act.put, List.setIfInBounds_toArray, List.set_cons_zero, List.set_cons_succ]
        refine wpAnyH_done (by kernel_rfl) ?_ _
        clear hHeld
        go_wp2_with fail
        refine box2_post hRd (fun w5 h5 gr => ?_)
        clear r0 r1 rf0 rf1
        obtain ⟨d0, d1, -, -⟩ := box2_cell h5
        exact bodyPost_ret (v := .tuple #[.agg #[.slice (some ⟨g5, 0, none⟩) (n + 1) c5, .int .i64 (nx + 1)], .int .i64 nx, .bool true]) (by simp [results, Tryd.results15, go_sem, d0, d1]) rfl
          ⟨_, c5, K ++ [⟨nx, kd, a', c', M⟩], by rw [HE.out, HLen.out, decide_eq_true (by omega)], by rw [HLen.out]; exact (hVd.grown gr (by omega)).weaken (by omega), by rw [HE.out, List.map_append, HPl.out]; rfl, below_set hBd gr (by omega)⟩
end Go.Proofs.YtaflokfgbmlmaadDoor
