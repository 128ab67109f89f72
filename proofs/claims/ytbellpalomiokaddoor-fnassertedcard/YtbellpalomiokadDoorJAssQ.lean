/-
  Plainly: what asserting leaves is right, is found, and is left alone when asserted again.
-/
import Derived.Test.YtbellpalomiokadDoorJAssS
import Derived.Test.YtbellpalomiokadDoorJFactOf
namespace Go.Proofs.YtbellpalomiokadDoor
open Go.RowKit
set_option linter.unusedVariables false

theorem sameF_eq {kd kd' : ByteArray} {L M : List V3} (h : sameF kd L kd' M = true) : kd = kd' ∧ L = M := by
  unfold sameF at h
  simpa using h
theorem sameF_self (kd : ByteArray) (L : List V3) : sameF kd L kd L = true := by simp [sameF]
/-- a fact that is found stands at some item; one that isn't stands at none -/
theorem idP_cases {J : List It} (hid : ∀ k, k < J.length → 1 ≤ (iAt J k).id) (kd : ByteArray) (M : List V3) :
    (idP (J.map It.pl) kd M = 0 ∧ ∀ k, k < J.length → (iAt J k).same kd M = false) ∨ ∃ k, k < J.length ∧ idP (J.map It.pl) kd M = (iAt J k).id ∧ (iAt J k).kd = kd ∧ (iAt J k).L = M := by
  by_cases h : ∃ k, k < J.length ∧ (iAt J k).same kd M = true
  · right
    have key : ∀ n k, k ≤ n → k < J.length → (iAt J k).same kd M = true → ∃ m, m < J.length ∧ (iAt J m).same kd M = true ∧ ∀ q, q < m → (iAt J q).same kd M = false := by
      intro n
      induction n with
      | zero => intro k hk hl hs; exact ⟨k, hl, hs, fun q hq => by omega⟩
      | succ n ih =>
        intro k hk hl hs
        by_cases e : ∃ q, q < k ∧ (iAt J q).same kd M = true
        · obtain ⟨q, hq, hqs⟩ := e
          exact ih q (by omega) (by omega) hqs
        · exact ⟨k, hl, hs, fun q hq => by
            cases h2 : (iAt J q).same kd M
            · rfl
            · exact absurd ⟨q, hq, h2⟩ e⟩
    obtain ⟨k, hk, hs⟩ := h
    obtain ⟨m, hm, hms, hmn⟩ := key k k (Nat.le_refl _) hk hs
    have e := sameF_eq (show sameF (iAt J m).kd (iAt J m).L kd M = true from hms)
    exact ⟨m, hm, idP_hit hm hmn hms, e.1, e.2⟩
  · left
    have h2 : ∀ k, k < J.length → (iAt J k).same kd M = false := fun k hk => by
      cases h3 : (iAt J k).same kd M
      · rfl
      · exact absurd ⟨k, hk, h3⟩ h
    exact ⟨idP_none h2, h2⟩
/-- where the numbers ascend each is found at its own item -/
theorem facP_own {J : List It} {nx : Int} (h : ∀ k, k < J.length → okAt J nx k) {k : Nat} (hk : k < J.length) : facP (J.map It.pl) (iAt J k).id = some ((iAt J k).kd, (iAt J k).L) :=
  facP_hit hk (fun j hj e => by have := (ids_up (Nat.le_refl _) h).2 j k hj hk; omega) rfl
/-- one item more at the end -/
theorem right_more {J K : List It} {nx : Int} {kd : ByteArray} {M : List V3} (hr : Right nx J) (hf : factB kd M = true) (hn : nx < 1000000) (hl : J.length < 40) (hno : ∀ k, k < J.length → (iAt J k).same kd M = false) (hK : K.map It.pl = J.map It.pl ++ [⟨nx, kd, M⟩]) :
    Right (nx + 1) K := by
  have hlen : K.length = J.length + 1 := by have := congrArg List.length hK; simpa using this
  have hat : ∀ i, i < J.length → (iAt K i).pl = (iAt J i).pl := fun i hi => by
    have h1 : (K.map It.pl)[i]? = some (iAt K i).pl := by rw [List.getElem?_map, List.getElem?_eq_getElem (by omega), iAt_in (by omega)]; rfl
    have h2 : (J.map It.pl ++ [(⟨nx, kd, M⟩ : P4)])[i]? = some (iAt J i).pl := by rw [List.getElem?_append_left (by simpa using hi), List.getElem?_map, List.getElem?_eq_getElem hi, iAt_in hi]; rfl
    rw [hK, h2] at h1
    exact (Option.some.inj h1).symm
  have hend : (iAt K J.length).pl = ⟨nx, kd, M⟩ := by
    have h1 : (K.map It.pl)[J.length]? = some (iAt K J.length).pl := by rw [List.getElem?_map, List.getElem?_eq_getElem (by omega), iAt_in (by omega)]; rfl
    have h2 : (J.map It.pl ++ [(⟨nx, kd, M⟩ : P4)])[J.length]? = some ⟨nx, kd, M⟩ := by rw [List.getElem?_append_right (by simp)]; simp
    rw [hK, h2] at h1
    exact (Option.some.inj h1).symm
  have e1 : ∀ i, i < J.length → (iAt K i).id = (iAt J i).id ∧ (iAt K i).kd = (iAt J i).kd ∧ (iAt K i).L = (iAt J i).L := fun i hi => ⟨congrArg P4.id (hat i hi), congrArg P4.kd (hat i hi), congrArg P4.L (hat i hi)⟩
  have f1 : (iAt K J.length).id = nx := congrArg P4.id hend
  have f2 : (iAt K J.length).kd = kd := congrArg P4.kd hend
  have f3 : (iAt K J.length).L = M := congrArg P4.L hend
  obtain ⟨⟨r1, r2, r3⟩, r4, r5⟩ := hr
  refine ⟨⟨by omega, by omega, by omega⟩, fun k hk => ?_, fun i j hij hj => ?_⟩
  · by_cases hkJ : k < J.length
    · obtain ⟨h1, h2, h3⟩ := r4 k hkJ
      obtain ⟨a1, a2, a3⟩ := e1 k hkJ
      have ep : prevId K k = prevId J k := by
        unfold prevId; split
        · rfl
        · exact (e1 (k - 1) (by omega)).1
      exact ⟨by rw [ep, a1]; exact h1, by rw [a1]; omega, by rw [a2, a3]; exact h3⟩
    · obtain rfl : k = J.length := by omega
      refine ⟨?_, by rw [f1]; omega, by rw [f2, f3]; exact hf⟩
      rw [f1]
      unfold prevId
      split
      · omega
      · rw [(e1 (J.length - 1) (by omega)).1]
        exact (r4 (J.length - 1) (by omega)).2.1
  · by_cases hjJ : j < J.length
    · have := r5 i j hij hjJ
      obtain ⟨a1, a2, a3⟩ := e1 i (by omega)
      obtain ⟨c1, c2, c3⟩ := e1 j hjJ
      unfold It.same at *
      rw [a2, a3, c2, c3]; exact this
    · obtain rfl : j = J.length := by omega
      have := hno i hij
      obtain ⟨a1, a2, a3⟩ := e1 i hij
      unfold It.same at *
      rw [a2, a3, f2, f3]; exact this
/-- what asserting leaves, where it may be -/
theorem asserted_all {J K : List It} {nx : Int} {kd : ByteArray} {M : List V3} (hpos : 0 < (asR nx J kd M).1) (hK : K.map It.pl = (asR nx J kd M).2.2) :
    storeB (asR nx J kd M).2.1 K = true ∧ factB kd M = true ∧ asR (asR nx J kd M).2.1 K kd M = ((asR nx J kd M).1, (asR nx J kd M).2.1, K.map It.pl) ∧ facP (K.map It.pl) (asR nx J kd M).1 = some (kd, M) ∧ idP (K.map It.pl) kd M = (asR nx J kd M).1 ∧ K.length ≤ J.length + 1 ∧ (∀ i, i < J.length → facP (K.map It.pl) (iAt J i).id = some ((iAt J i).kd, (iAt J i).L)) := by
  by_cases hc : storeB nx J = true ∧ factB kd M = true
  · have eA : asR nx J kd M = assP (J.map It.pl) nx kd M := by unfold asR; rw [if_pos hc]
    rw [eA] at hpos hK ⊢
    have hR := storeB_iff.1 hc.1
    have hids := ids_up (Nat.le_refl J.length) hR.2.1
    rcases idP_cases hids.1 kd M with ⟨h0, hno⟩ | ⟨k, hk, hid, hkd, hL⟩
    · have hge : ¬ (40 ≤ (J.map It.pl).length ∨ 1000000 ≤ nx) := fun hx => by
        unfold assP at hpos
        rw [h0, if_neg (by omega), if_pos hx] at hpos
        simp at hpos
      have eP : assP (J.map It.pl) nx kd M = (nx, nx + 1, J.map It.pl ++ [⟨nx, kd, M⟩]) := by unfold assP; rw [h0, if_neg (by omega), if_neg hge]
      rw [eP] at hK ⊢
      rw [List.length_map] at hge
      have hK' : K.map It.pl = J.map It.pl ++ [⟨nx, kd, M⟩] := hK
      have hRK : Right (nx + 1) K := right_more hR hc.2 (by omega) (by omega) hno hK'
      have hlen : K.length = J.length + 1 := by have := congrArg List.length hK'; simpa using this
      have hend : (iAt K J.length).pl = ⟨nx, kd, M⟩ := by
        have h1 : (K.map It.pl)[J.length]? = some (iAt K J.length).pl := by rw [List.getElem?_map, List.getElem?_eq_getElem (by omega), iAt_in (by omega)]; rfl
        rw [hK'] at h1
        rw [List.getElem?_append_right (by simp)] at h1
        simp only [List.length_map, Nat.sub_self, List.getElem?_cons_zero] at h1
        exact (Option.some.inj h1).symm
      have hat : ∀ i, i < J.length → (iAt K i).pl = (iAt J i).pl := fun i hi => by
        have h1 : (K.map It.pl)[i]? = some (iAt K i).pl := by rw [List.getElem?_map, List.getElem?_eq_getElem (by omega), iAt_in (by omega)]; rfl
        rw [hK', List.getElem?_append_left (by simpa using hi), List.getElem?_map, List.getElem?_eq_getElem hi] at h1
        rw [iAt_in hi]
        exact (Option.some.inj h1).symm
      have f1 : (iAt K J.length).id = nx := congrArg P4.id hend
      have f2 : (iAt K J.length).kd = kd := congrArg P4.kd hend
      have f3 : (iAt K J.length).L = M := congrArg P4.L hend
      have hidK : idP (K.map It.pl) kd M = nx := by
        have := idP_own hRK.2.2 (k := J.length) (by omega)
        rw [f1, f2, f3] at this
        exact this
      have hnx0 := hR.1.1
      refine ⟨storeB_yes hRK, hc.2, ?_, ?_, hidK, by omega, fun i hi => ?_⟩
      · have : asR (nx + 1) K kd M = assP (K.map It.pl) (nx + 1) kd M := by unfold asR; rw [if_pos ⟨storeB_yes hRK, hc.2⟩]
        show asR (nx + 1) K kd M = _
        rw [this]
        unfold assP
        rw [hidK, if_pos (by omega)]
      · have := facP_own hRK.2.1 (k := J.length) (by omega)
        rw [f1, f2, f3] at this
        exact this
      · have := facP_own hRK.2.1 (k := i) (by omega)
        rw [show (iAt K i).id = (iAt J i).id from congrArg P4.id (hat i hi), show (iAt K i).kd = (iAt J i).kd from congrArg P4.kd (hat i hi), show (iAt K i).L = (iAt J i).L from congrArg P4.L (hat i hi)] at this
        exact this
    · have hip : 0 < idP (J.map It.pl) kd M := by have := hids.1 k hk; omega
      have eP : assP (J.map It.pl) nx kd M = (idP (J.map It.pl) kd M, nx, J.map It.pl) := by unfold assP; rw [if_pos hip]
      rw [eP] at hK ⊢
      have hK' : K.map It.pl = J.map It.pl := hK
      have hlen : K.length = J.length := by have := congrArg List.length hK'; simpa using this
      have hsK : storeB nx K = true := by rw [storeB_pl hK']; exact hc.1
      refine ⟨hsK, hc.2, ?_, ?_, by rw [hK'], by omega, fun i hi => by rw [hK']; exact facP_own hR.2.1 hi⟩
      · have : asR nx K kd M = assP (K.map It.pl) nx kd M := by unfold asR; rw [if_pos ⟨hsK, hc.2⟩]
        show asR nx K kd M = _
        rw [this, hK', eP]
      · rw [hK']
        show facP (J.map It.pl) (idP (J.map It.pl) kd M) = _
        rw [hid, facP_own hR.2.1 hk, hkd, hL]
  · exfalso
    unfold asR at hpos
    rw [if_neg hc] at hpos
    simp at hpos
/-- what is refused stays as it was -/
theorem refused {J : List It} {nx : Int} {kd : ByteArray} {M : List V3} (hpos : ¬ 0 < (asR nx J kd M).1) : (asR nx J kd M).1 = 0 ∧ (asR nx J kd M).2.1 = nx ∧ (asR nx J kd M).2.2 = J.map It.pl := by
  by_cases hc : storeB nx J = true ∧ factB kd M = true
  · have eA : asR nx J kd M = assP (J.map It.pl) nx kd M := by unfold asR; rw [if_pos hc]
    rw [eA] at hpos ⊢
    have hR := storeB_iff.1 hc.1
    unfold assP at hpos ⊢
    by_cases h1 : 0 < idP (J.map It.pl) kd M
    · rw [if_pos h1] at hpos; exact absurd h1 hpos
    · rw [if_neg h1] at hpos ⊢
      by_cases h2 : 40 ≤ (J.map It.pl).length ∨ 1000000 ≤ nx
      · rw [if_pos h2]; exact ⟨rfl, rfl, rfl⟩
      · rw [if_neg h2] at hpos
        exact absurd (show (0 : Int) < nx by have := hR.1.1; omega) hpos
  · unfold asR
    rw [if_neg hc]
    exact ⟨rfl, rfl, rfl⟩
end Go.Proofs.YtbellpalomiokadDoor
