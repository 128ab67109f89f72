/-
  What the sameness of facts answers, the model's and the tested one alike: sameF.
-/
import Derived.Test.YtaflokfgbmlmaadDoorJEq15
import Derived.Test.YtaflokfgbmlmaadDoorJKeepF
import Derived.Laws.StructEq
import Derived.ChangeKeysEq
import Derived.Deep.RegionHeld3
import Derived.Deep.RegionLaw
namespace Go.Proofs.YtaflokfgbmlmaadDoor
open Go.RowKit
set_option linter.unusedVariables false

theorem below_dn {w u : World} {n : Nat} (k : Below (w.drewN n).heap.size (w.drewN n) u) : Below w.heap.size w u :=
  (show Below w.heap.size w (w.drewN n) from ⟨rfl, rfl, rfl, Nat.le_refl _, fun _ _ => rfl⟩).trans k

set_option maxRecDepth 100000 in
set_option maxHeartbeats 1600000 in
theorem sameVals_any (a b : Option Addr) (ca cb : Nat) (L M : List V3) (w : World) (hr : RdV w a L) (hq : RdV w b M) (hn : L.length ≤ 1048580) (hm : M.length ≤ 1048580) :
    Calls Tryd.prog 82 #[.slice a L.length ca, .slice b M.length cb] w fun e w' =>
      e = .returned (.bool (decide (L = M))) ∧ Below w.heap.size w w' := by
  by_cases hlm : L.length = M.length
  · obtain ⟨n, hN⟩ : ∃ n, n = L.length := ⟨_, rfl⟩
    rw [← hlm, ← hN]
    rw [← hN] at hn
    have HN := hide hN
    have HM := hide (hN.trans hlm)
    clear hN hlm hm
    have h2 : ((n : Int) != (n : Int)) = false := by simp
    go_enter Tryd.func82, Tryd.ntmps82
    go_wp2
    go_loopw [5] (fun i wr => ∃ (k nd : Nat), k ≤ n ∧ i = .int .i64 k ∧ wr = w.drewN nd ∧ (∀ j, j < k → vAt L j = vAt M j)) (fun i _ => n - (intOf i).toNat)
    case atStart => exact ⟨0, 0, Nat.zero_le _, rfl, rfl, fun j hj => absurd hj (Nat.not_lt_zero _)⟩
    case round =>
      obtain ⟨k, nd, hk, rfl, rfl, hall⟩ := hrel
      have HA := hide hall
      clear hall
      by_cases hlt : k < n
      · obtain ⟨b1, o1, e1, -, hc1⟩ := hr.open (by rw [← HN.out]; omega)
        obtain ⟨b2, o2, e2, -, hc2⟩ := hq.open (by rw [← HM.out]; omega)
        obtain ⟨c0, c1, c2⟩ := hc1 k (by rw [← HN.out]; exact hlt)
        obtain ⟨d0, d1, d2⟩ := hc2 k (by rw [← HM.out]; exact hlt)
        have l1 : (k : Int) < (n : Int) := by omega
        clear hc1 hc2
        subst e1 e2
        rcases v3_cases (vAt L k) (vAt M k) with hv | ⟨hne, hv⟩
        · have HV := hide hv
          rw [← hv] at d0 d1 d2
          clear hv
          have k1 : ((vAt L k).K == (vAt L k).K) = true := by simp
          have k2 : ((vAt L k).N == (vAt L k).N) = true := by simp
          have k3 : ((vAt L k).S.toList == (vAt L k).S.toList) = true := by simp
          go_wp2
          go_quiet (fail)
          go_wp2
          go_roundw
          case rel => exact ⟨k + 1, _, by omega, by go_num, rfl, fun j hj => by
            by_cases hjk : j = k
            · rw [hjk]; exact HV.out
            · exact HA.out j (by omega)⟩
          case measure => simp [intOf]; omega
        · have HE : Hid (decide (L = M) = false) := decide_eq_false (ne_of_at hne)
          clear hne
          rcases hv with k1 | ⟨k1, k2⟩ | ⟨k1, k2, k3⟩
          all_goals
            go_wp2
            go_quiet (fail)
            go_wp2
            go_ret
            exact ⟨ret_bool HE.out.symm, below_dn (below_dn (Below.refl _ _))⟩
      · have HE : Hid (decide (L = M) = true) := decide_eq_true (eq_of_at (HN.out.symm.trans HM.out) (fun j hj => HA.out j (by rw [← HN.out] at hj; omega)))
        go_wp2
        go_ret
        exact ⟨ret_bool HE.out.symm, below_dn (Below.refl _ _)⟩
  · have HE : Hid (decide (L = M) = false) := decide_eq_false (fun e => hlm (by rw [e]))
    have h2 : ((L.length : Int) != (M.length : Int)) = true := by simp; omega
    go_enter Tryd.func82, Tryd.ntmps82
    go_wp2
    go_ret
    exact ⟨ret_bool HE.out.symm, Below.refl _ _⟩

set_option maxRecDepth 100000 in
set_option maxHeartbeats 1600000 in
theorem equalVals_any (a b : Option Addr) (ca cb : Nat) (L M : List V3) (w : World) (hr : RdV w a L) (hq : RdV w b M) (hn : L.length ≤ 1048580) (hm : M.length ≤ 1048580) :
    Calls Tryd.prog 53 #[.slice a L.length ca, .slice b M.length cb] w fun e w' =>
      e = .returned (.bool (decide (L = M))) ∧ Below w.heap.size w w' := by
  by_cases hlm : L.length = M.length
  · obtain ⟨n, hN⟩ : ∃ n, n = L.length := ⟨_, rfl⟩
    rw [← hlm, ← hN]
    rw [← hN] at hn
    have HN := hide hN
    have HM := hide (hN.trans hlm)
    clear hN hlm hm
    have h2 : ((n : Int) != (n : Int)) = false := by simp
    go_enter Tryd.func53, Tryd.ntmps53
    go_wp2
    go_loopw [13] (fun i wr => ∃ (k nd : Nat), k ≤ n ∧ i = .int .i64 k ∧ wr = w.drewN nd ∧ (∀ j, j < k → vAt L j = vAt M j)) (fun i _ => n - (intOf i).toNat)
    case atStart => exact ⟨0, 0, Nat.zero_le _, rfl, rfl, fun j hj => absurd hj (Nat.not_lt_zero _)⟩
    case round =>
      obtain ⟨k, nd, hk, rfl, rfl, hall⟩ := hrel
      have HA := hide hall
      clear hall
      by_cases hlt : k < n
      · obtain ⟨b1, o1, e1, -, hc1⟩ := hr.open (by rw [← HN.out]; omega)
        obtain ⟨b2, o2, e2, -, hc2⟩ := hq.open (by rw [← HM.out]; omega)
        obtain ⟨c0, c1, c2⟩ := hc1 k (by rw [← HN.out]; exact hlt)
        obtain ⟨d0, d1, d2⟩ := hc2 k (by rw [← HM.out]; exact hlt)
        have l1 : (k : Int) < (n : Int) := by omega
        clear hc1 hc2
        subst e1 e2
        rcases v3_cases (vAt L k) (vAt M k) with hv | ⟨hne, hv⟩
        · have HV := hide hv
          rw [← hv] at d0 d1 d2
          clear hv
          have k1 : ((vAt L k).K == (vAt L k).K) = true := by simp
          have k2 : ((vAt L k).N == (vAt L k).N) = true := by simp
          have k3 : ((vAt L k).S.toList == (vAt L k).S.toList) = true := by simp
          go_wp2
          go_quiet (fail)
          go_wp2
          go_roundw
          case rel => exact ⟨k + 1, _, by omega, by go_num, rfl, fun j hj => by
            by_cases hjk : j = k
            · rw [hjk]; exact HV.out
            · exact HA.out j (by omega)⟩
          case measure => simp [intOf]; omega
        · have HE : Hid (decide (L = M) = false) := decide_eq_false (ne_of_at hne)
          clear hne
          rcases hv with k1 | ⟨k1, k2⟩ | ⟨k1, k2, k3⟩
          all_goals
            go_wp2
            go_quiet (fail)
            go_wp2
            go_ret
            exact ⟨ret_bool HE.out.symm, below_dn (below_dn (Below.refl _ _))⟩
      · have HE : Hid (decide (L = M) = true) := decide_eq_true (eq_of_at (HN.out.symm.trans HM.out) (fun j hj => HA.out j (by rw [← HN.out] at hj; omega)))
        go_wp2
        go_ret
        exact ⟨ret_bool HE.out.symm, below_dn (Below.refl _ _)⟩
  · have HE : Hid (decide (L = M) = false) := decide_eq_false (fun e => hlm (by rw [e]))
    have h2 : ((L.length : Int) != (M.length : Int)) = true := by simp; omega
    go_enter Tryd.func53, Tryd.ntmps53
    go_wp2
    go_ret
    exact ⟨ret_bool HE.out.symm, Below.refl _ _⟩

set_option maxRecDepth 100000 in
set_option maxHeartbeats 1600000 in
theorem specSameFact_any (kd kd' : ByteArray) (a b : Option Addr) (ca cb : Nat) (L M : List V3) (w : World) (hr : RdV w a L) (hq : RdV w b M) (hn : L.length ≤ 1048580) (hm : M.length ≤ 1048580) :
    Calls Tryd.prog 59 #[.agg #[.string kd, .slice a L.length ca], .agg #[.string kd', .slice b M.length cb]] w fun e w' =>
      e = .returned (.bool (sameF kd L kd' M)) ∧ Below w.heap.size w w' := by
  have b0 := below_al w (.cells #[.string kd, .slice a L.length ca] 41)
  have b1 := b0.alloc b0.size (.cells #[.string kd', .slice b M.length cb] 41)
  cases h1 : (kd.toList == kd'.toList)
  · have HE : Hid (sameF kd L kd' M = false) := by
      unfold Hid sameF
      rw [decide_eq_false (fun e => by rw [e] at h1; simp at h1)]; rfl
    go_enter Tryd.func59, Tryd.ntmps59
    go_wp2
    go_ret
    exact ⟨ret_bool HE.out.symm, b1⟩
  · have HE : Hid (sameF kd L kd' M = decide (L = M)) := by
      unfold Hid sameF
      rw [decide_eq_true (toList_inj (by simpa using h1))]; rfl
    go_enter Tryd.func59, Tryd.ntmps59
    go_wp2_with fail
    refine (sameVals_any a b ca cb L M _ (hr.below b1) (hq.below b1) hn hm).mono ?_
    rintro e w2 ⟨rfl, hb2⟩
    have hB2 : Below w.heap.size w w2 := b1.trans (hb2.mono b1.size)
    generalize decide (L = M) = r at HE ⊢
    go_wp2
    go_ret
    exact ⟨ret_bool HE.out.symm, hB2⟩

/-- what lies beyond five -/
theorem RdV.drop {w : World} {b off : Nat} {L : List V3} (h : RdV w (some ⟨b, off, none⟩) L) (k : Nat) : RdV w (some ⟨b, off + k * 3, none⟩) (L.drop k) := by
  intro i hi
  have hi2 : k + i < L.length := by simp at hi; omega
  obtain ⟨b', off', e, h0, h1, h2⟩ := h (k + i) hi2
  simp only [Option.some.injEq, Addr.mk.injEq, and_true] at e
  obtain ⟨rfl, rfl⟩ := e
  have ev : vAt (L.drop k) i = vAt L (k + i) := by rw [vAt_in hi, vAt_in hi2]; simp
  rw [ev]
  exact ⟨b, off + k * 3, rfl, by rw [← h0]; congr 2; omega, by rw [← h1]; congr 2; omega, by rw [← h2]; congr 2; omega⟩

/-- a list of values in memory, or none -/
def LiesV (a : Option Addr) (n cap : Nat) : Prop := (a = none ∧ n = 0 ∧ cap = 0) ∨ ∃ b off, a = some ⟨b, off, none⟩ ∧ n ≤ cap ∧ cap ≤ maxLen

/-- a row of these values is answered -/
def GivesV (e : Ending) (w : World) (D : List V3) : Prop := ∃ a' cap', e = .returned (.slice a' D.length cap') ∧ RdV w a' D
theorem gives_nil {w : World} {a : Option Addr} {cap : Nat} {D : List V3} (h : D = []) : GivesV (.returned (.slice a 0 cap)) w D := by subst h; exact ⟨_, _, rfl, RdV.nil _ _⟩
theorem gives_row {w : World} {a : Option Addr} {n cap : Nat} {D : List V3} (h : D.length = n) (hr : RdV w a D) : GivesV (.returned (.slice a n cap)) w D := by subst h; exact ⟨_, _, rfl, hr⟩

set_option maxRecDepth 100000 in
set_option maxHeartbeats 1600000 in
theorem fieldsBeyond_any (kd : ByteArray) (a : Option Addr) (cap : Nat) (L : List V3) (w : World) (hr : RdV w a L) (hl : LiesV a L.length cap) :
    Calls Tryd.prog 54 #[.agg #[.string kd, .slice a L.length cap]] w fun e w' =>
      GivesV e w' (L.drop 5) ∧ Below w.heap.size w w' := by
  have b0 := below_al w (.cells #[.string kd, .slice a L.length cap] 41)
  have HR := hide (hr.below b0)
  rcases hl with ⟨rfl, h0, rfl⟩ | ⟨b, off, rfl, hc, hm⟩
  · have HL : Hid (L = []) := List.eq_nil_of_length_eq_zero h0
    rw [h0] at b0 ⊢
    clear hr HR
    go_enter Tryd.func54, Tryd.ntmps54
    go_wp2
    go_ret
    exact ⟨gives_nil (by rw [HL.out]; rfl), b0⟩
  · unfold maxLen at hm
    have HD := hide (HR.out.drop 5)
    have HLen : Hid ((L.drop 5).length = L.length - 5) := by unfold Hid; simp
    obtain ⟨n, hN⟩ : ∃ n, n = L.length := ⟨_, rfl⟩
    rw [← hN] at hc b0 HD HLen ⊢
    have HN := hide hN
    clear hr hN HR
    by_cases h5 : n ≤ 5
    · have HE : Hid (L.drop 5 = []) := List.eq_nil_of_length_eq_zero (by rw [HLen.out]; omega)
      go_enter Tryd.func54, Tryd.ntmps54
      go_wp2
      all_goals go_ret
      all_goals exact ⟨gives_nil HE.out, below_al _ _⟩
    · go_enter Tryd.func54, Tryd.ntmps54
      go_wp2
      all_goals go_ret
      all_goals first | exact ⟨gives_row HLen.out HD.out, below_al _ _⟩ | exact ⟨gives_nil (List.eq_nil_of_length_eq_zero (by rw [HLen.out]; omega)), below_al _ _⟩

theorem pad5_inj {L M : List V3} (hl : L.length = M.length) : (pad5 L = pad5 M ∧ L.drop 5 = M.drop 5) ↔ L = M := by
  constructor
  · rintro ⟨h1, h2⟩
    unfold pad5 at h1
    rw [hl] at h1
    have := List.append_cancel_right h1
    rw [← List.take_append_drop 5 L, ← List.take_append_drop 5 M, this, h2]
  · rintro rfl; exact ⟨rfl, rfl⟩
end Go.Proofs.YtaflokfgbmlmaadDoor
