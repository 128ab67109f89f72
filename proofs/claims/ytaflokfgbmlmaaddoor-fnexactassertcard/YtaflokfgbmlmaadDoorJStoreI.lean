/-
  What the tested StoreOk answers: storeB.
-/
import Derived.Test.YtaflokfgbmlmaadDoorJByText
namespace Go.Proofs.YtaflokfgbmlmaadDoor
open Go.RowKit
set_option linter.unusedVariables false

theorem ok_right {J : List It} {nx : Int} (h0 : 1 ≤ nx ∧ nx ≤ 1000000 ∧ J.length ≤ 40) (h : ∀ k, k < J.length → okAt J nx k) {D : DataW Unit} (hm : MapOf J J.length D) : (((Maps.size D : Nat) : Int) == ((J.length : Nat) : Int)) = storeB nx J := by
  have hd := texts_dist (J := J) (fun k hk => (h k hk).2.2)
  rw [Bool.eq_iff_iff, storeB_iff]
  constructor
  · intro e
    have e2 : Maps.size D = J.length := by have h := beq_iff_eq.1 e; omega
    exact ⟨h0, h, hd.1 (hm.all.1 e2)⟩
  · intro hr
    have : Maps.size D = J.length := hm.all.2 (hd.2 hr.2.2)
    simp [this]

set_option maxRecDepth 100000 in
set_option maxHeartbeats 6400000 in
theorem itemsOk_any (a : Option Addr) (n cap : Nat) (nx : Int) (J : List It) (w : World) (hr : RdI w a J) (hJ : J.length = n) (h0 : 1 ≤ nx ∧ nx ≤ 1000000 ∧ n ≤ 40) (hs : ∀ i, i < J.length → okI (iAt J i)) (hl : ∀ i, i < J.length → (iAt J i).L.length ≤ 1048580) (ht : Tab w) :
    Calls Tryd.prog 34 #[.slice a n cap, .int .i64 nx] w fun e w' => e = .returned (.bool (storeB nx J)) ∧ Below w.heap.size w w' := by
  have HJ := hide hJ
  have HS := hide hs
  have HL := hide hl
  have HTab := hide ht
  have H0 := hide h0
  have hn := h0.2.2
  clear hJ hs hl ht h0
  go_enter Tryd.func34, Tryd.ntmps34
  go_wp2
  go_loopw [5, 10] (fun l i wr => ∃ (k : Nat), k ≤ n ∧ i = .int .i64 k ∧ l = .int .i64 (prevId J k) ∧ (∀ j, j < k → okAt J nx j) ∧ Below w.heap.size w wr) (fun _ i _ => n - (intOf i).toNat)
  case atStart => exact ⟨0, Nat.zero_le _, rfl, rfl, fun j hj => absurd hj (Nat.not_lt_zero _), Below.refl _ _⟩
  case round =>
    obtain ⟨k, hk, rfl, rfl, hok, hbel⟩ := hrel
    have HOk := hide hok
    clear hok
    by_cases hlt : k < n
    · obtain ⟨b2, o2, e2, hbw2, hc2⟩ := (hr.below hbel).open (by rw [HJ.out]; omega)
      obtain ⟨c0, c1, c2, hv⟩ := hc2 k (by rw [HJ.out]; exact hlt)
      have hkJ : k < J.length := by rw [HJ.out]; exact hlt
      have HSk := hide (HS.out k hkJ)
      have HLk := hide (HL.out k hkJ)
      have HW : Hid (¬ okAt J nx k → storeB nx J = false) := wrong_at hkJ
      have HOkk : Hid (prevId J k < (iAt J k).id → (iAt J k).id < nx → factB (iAt J k).kd (iAt J k).L = true → okAt J nx k) := fun h1 h2 h3 => ⟨h1, h2, h3⟩
      have HNo : Hid (¬ (prevId J k < (iAt J k).id ∧ (iAt J k).id < nx ∧ factB (iAt J k).kd (iAt J k).L = true) → ¬ okAt J nx k) := fun h1 h2 => h1 h2
      have HPrev : Hid (prevId J (k + 1) = (iAt J k).id) := by unfold Hid prevId; rw [if_neg (by omega)]; rfl
      clear hc2 hkJ
      subst e2
      obtain ⟨p, hp⟩ : ∃ p, p = prevId J k := ⟨_, rfl⟩
      rw [← hp] at HOkk HNo ⊢
      clear hp
      generalize iAt J k = x at c0 c1 c2 hv HSk HLk HOkk HNo HPrev
      obtain ⟨id, kd, va, vc, L⟩ := x
      simp only at c0 c1 c2 hv HSk HLk HOkk HNo HPrev
      have ba := below_al wr (.cells #[.int .i64 id, .string kd, .slice va L.length vc] 54)
      have HBox := hide (box_new wr (.int .i64 id) (.string kd) (.slice va L.length vc) 54)
      have hB1 : Below w.heap.size w (wr.alloc (.cells #[.int .i64 id, .string kd, .slice va L.length vc] 54)) := hbel.trans (ba.mono hbel.size)
      by_cases h1 : id ≤ p
      · have HF := hide (HW.out (HNo.out (fun h => by omega)))
        go_wp2
        go_ret
        exact ⟨ret_bool HF.out.symm, hB1⟩
      · by_cases h2 : nx ≤ id
        · have HF := hide (HW.out (HNo.out (fun h => by omega)))
          go_wp2
          go_ret
          exact ⟨ret_bool HF.out.symm, hB1⟩
        · go_wp2_with fail
          refine (implFactOk_any kd va vc L _ HSk.out.1 (hv.below ba) HSk.out.2.2 HLk.out).mono ?_
          rintro e w2 ⟨rfl, hb2⟩
          have hB2 : Below w.heap.size w w2 := hB1.trans (hb2.mono hB1.size)
          obtain ⟨y0, -, -, -, -, -⟩ := box_cell (box_below HBox.out hb2 (by simp))
          clear hb2 ba hB1 c0 c1 c2 hv
          cases hf : factB kd L
          · have HF := hide (HW.out (HNo.out (fun h => by rw [hf] at h; exact absurd h.2.2 (by simp))))
            clear hf
            go_wp2
            go_ret
            exact ⟨ret_bool HF.out.symm, hB2⟩
          · have HO2 := hide (HOkk.out (by omega) (by omega) hf)
            clear hf
            go_wp2
            go_roundw
            case rel => exact ⟨k + 1, by omega, by go_num, by rw [HPrev.out], fun j hj => by
              by_cases hjk : j = k
              · rw [hjk]; exact HO2.out
              · exact HOk.out j (by omega), hB2⟩
            case measure => simp [intOf]; omega
    · obtain rfl : k = n := by omega
      have HAll : Hid (∀ j, j < J.length → okAt J nx j) := fun j hj => HOk.out j (by rw [HJ.out] at hj; exact hj)
      have hr2 := hr.below hbel
      have ht2 := HTab.out.later hbel (Nat.le_refl _)
      go_wp2_with fail
      refine (byText_any a k cap J wr hr2 HJ.out (by omega) (fun i hi => (HAll.out i hi).2.2) HS.out ht2).mono ?_
      rintro e w2 ⟨B, D, rfl, hown, hmap, hb2⟩
      have hB2 : Below w.heap.size w w2 := hbel.trans (hb2.mono hbel.size)
      have HR : Hid ((((Maps.size D : Nat) : Int) == ((k : Nat) : Int)) = storeB nx J) := by
        have := HJ.out
        unfold Hid
        rw [← this] at hmap ⊢
        exact ok_right (by rw [this]; exact H0.out) HAll.out hmap
      have hlen := fun ty => hown.len (t := 73) Tryd.underlying73 ty
      clear hmap hown hb2
      go_wp2
      go_ret
      exact ⟨ret_bool HR.out, hB2⟩

set_option maxRecDepth 100000 in
set_option maxHeartbeats 6400000 in
theorem implStoreOk_any (a : Option Addr) (n cap : Nat) (nx : Int) (J : List It) (w : World) (hr : RdI w a J) (hJ : J.length = n) (hn : n ≤ 1048580) (hs : ∀ i, i < J.length → okI (iAt J i)) (hl : ∀ i, i < J.length → (iAt J i).L.length ≤ 1048580) (ht : Tab w) :
    Calls Tryd.prog 10 #[.agg #[.slice a n cap, .int .i64 nx]] w fun e w' => e = .returned (.bool (storeB nx J)) ∧ Below w.heap.size w w' := by
  have b0 := below_al w (.cells #[.slice a n cap, .int .i64 nx] 29)
  have HNo : Hid (¬ (1 ≤ nx ∧ nx ≤ 1000000 ∧ n ≤ 40) → storeB nx J = false) := fun h => storeB_no (fun hr => h (by rw [← hJ]; exact hr.1))
  by_cases h1 : 1 ≤ nx
  · by_cases h2 : nx ≤ 1000000
    · by_cases h3 : n ≤ 40
      · obtain ⟨r, hR⟩ : ∃ r, storeB nx J = r := ⟨_, rfl⟩
        have HR := hide hR
        clear hR
        go_enter Tryd.func10, Tryd.ntmps10
        go_wp2_with fail
        refine (itemsOk_any a n cap nx J _ (hr.below b0) hJ ⟨h1, h2, h3⟩ hs hl (ht.later b0 (Nat.le_refl _))).mono ?_
        rw [HR.out]
        rintro e w1 ⟨rfl, hb⟩
        have hB : Below w.heap.size w w1 := b0.trans (hb.mono b0.size)
        go_wp2
        go_ret
        exact ⟨ret_bool HR.out.symm, hB⟩
      · have HF := hide (HNo.out (by omega))
        have h4 : ¬ ((n : Int) ≤ 40) := by omega
        go_enter Tryd.func10, Tryd.ntmps10
        go_wp2
        go_ret
        exact ⟨ret_bool HF.out.symm, b0⟩
    · have HF := hide (HNo.out (by omega))
      go_enter Tryd.func10, Tryd.ntmps10
      go_wp2
      go_ret
      exact ⟨ret_bool HF.out.symm, b0⟩
  · have HF := hide (HNo.out (by omega))
    go_enter Tryd.func10, Tryd.ntmps10
    go_wp2
    go_ret
    exact ⟨ret_bool HF.out.symm, b0⟩
end Go.Proofs.YtaflokfgbmlmaadDoor
