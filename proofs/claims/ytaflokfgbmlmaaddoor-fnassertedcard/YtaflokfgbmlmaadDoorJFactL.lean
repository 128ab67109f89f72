/-
  The order of facts, plainly.
-/
import Derived.Test.YtaflokfgbmlmaadDoorJLess
import Derived.Test.YtaflokfgbmlmaadDoorJOrder
import Derived.Test.YtaflokfgbmlmaadDoorJValRow
import Derived.Test.YtaflokfgbmlmaadDoorJVEq
namespace Go.Proofs.YtaflokfgbmlmaadDoor
open Go.RowKit
set_option linter.unusedVariables false

def V3.less (v u : V3) : Bool := lessB v.K v.N v.S u.K u.N u.S
/-- the first that are unlike decide -/
def lessL : List V3 → List V3 → Bool
  | v :: r, u :: s => if v = u then lessL r s else v.less u
  | _, _ => false
def lessF (kd : ByteArray) (L : List V3) (kd' : ByteArray) (M : List V3) : Bool :=
  if kd.toList != kd'.toList then Op.bytesLess kd.toList kd'.toList else if ((L.length : Int) != (M.length : Int)) then decide ((L.length : Int) < (M.length : Int)) else lessL L M
def sameF (kd : ByteArray) (L : List V3) (kd' : ByteArray) (M : List V3) : Bool := decide (kd = kd') && decide (L = M)

theorem lessL_at : ∀ {L M : List V3} {k : Nat}, k < L.length → k < M.length → (∀ j, j < k → vAt L j = vAt M j) → vAt L k ≠ vAt M k → lessL L M = (vAt L k).less (vAt M k)
  | [], _, k, h, _, _, _ => absurd h (Nat.not_lt_zero _)
  | _ :: _, [], k, _, h, _, _ => absurd h (Nat.not_lt_zero _)
  | v :: r, u :: s, 0, _, _, _, hne => by
    have hne' : v ≠ u := hne
    show (if v = u then _ else _) = _
    rw [if_neg hne']; rfl
  | v :: r, u :: s, k + 1, h, h', hall, hne => by
    have h0 : v = u := hall 0 (by omega)
    show (if v = u then _ else _) = _
    rw [if_pos h0]
    exact lessL_at (L := r) (M := s) (k := k) (by simpa using h) (by simpa using h') (fun j hj => hall (j + 1) (by omega)) hne
theorem lessL_none : ∀ {L M : List V3}, (∀ j, j < L.length → vAt L j = vAt M j) → lessL L M = false
  | [], _, _ => rfl
  | _ :: _, [], _ => rfl
  | v :: r, u :: s, h => by
    have h0 : v = u := h 0 (by simp)
    show (if v = u then _ else _) = _
    rw [if_pos h0]
    exact lessL_none (L := r) (M := s) (fun j hj => h (j + 1) (by simpa using hj))
theorem eq_of_at {L M : List V3} (hl : L.length = M.length) (h : ∀ j, j < L.length → vAt L j = vAt M j) : L = M := by
  apply List.ext_getElem hl
  intro i h1 h2
  have := h i h1
  rw [vAt_in h1, vAt_in h2] at this
  exact this
theorem ne_of_at {L M : List V3} {k : Nat} (h : vAt L k ≠ vAt M k) : L ≠ M := fun e => h (by rw [e])

theorem cmpS_zero (a b : ByteArray) : cmpS a b = 0 ↔ a.toList = b.toList := by
  unfold cmpS
  rcases bl_tri a.toList b.toList with ⟨h1, h2, h3⟩ | ⟨h1, h2⟩
  · rw [h2, h1]; simp
  · rcases h2 with ⟨h2, h3⟩ | ⟨h2, h3⟩
    · rw [h2]; simp [h1]
    · rw [h2]; simp [h1]
def cmpV (v u : V3) : Int := orI (cmpI v.K u.K) (cmpI v.N u.N) (cmpS v.S u.S)
theorem cmpV_zero (v u : V3) : cmpV v u = 0 ↔ v = u := by
  have h1 := (cmpI_neg v.K u.K).2
  have h2 := (cmpI_neg v.N u.N).2
  have h3 := cmpS_zero v.S u.S
  unfold cmpV orI
  constructor
  · intro h
    by_cases e1 : cmpI v.K u.K = 0
    · rw [e1] at h
      simp only [bne_self_eq_false, Bool.false_eq_true, if_false] at h
      by_cases e2 : cmpI v.N u.N = 0
      · rw [e2] at h
        simp only [bne_self_eq_false, Bool.false_eq_true, if_false] at h
        exact V3.ext' (h1.1 e1) (h2.1 e2) (toList_inj (h3.1 h))
      · rw [if_pos (by simpa using e2)] at h; exact absurd h e2
    · rw [if_pos (by simpa using e1)] at h; exact absurd h e1
  · rintro rfl
    rw [h1.2 rfl, h2.2 rfl, h3.2 rfl]; rfl
theorem cmpV_less (v u : V3) : decide (cmpV v u < 0) = v.less u := less_of _ _ _ _ _ _

/-- the compare of facts is below 0 just where one is less -/
theorem lessF_of (kd kd' : ByteArray) (L M : List V3) (r : Int) (hr : L.length = M.length → decide (r < 0) = lessL L M) :
    decide (orI (cmpS kd kd') (cmpI L.length M.length) r < 0) = lessF kd L kd' M := by
  have hz := cmpS_zero kd kd'
  have hn := cmpS_neg kd kd'
  unfold orI lessF
  by_cases e1 : kd.toList = kd'.toList
  · rw [hz.2 e1]
    simp only [bne_self_eq_false, Bool.false_eq_true, if_false, e1]
    rw [cmpI_bne]
    by_cases e2 : L.length = M.length
    · have : ((L.length : Int) != (M.length : Int)) = false := by simp [e2]
      rw [this]; exact hr e2
    · have : ((L.length : Int) != (M.length : Int)) = true := by simp; omega
      rw [this]
      simp only [if_true]
      exact decide_eq_decide.2 (cmpI_neg _ _).1
  · have h1 : (cmpS kd kd' != 0) = true := by simpa using fun h => e1 (hz.1 h)
    have h2 : (kd.toList != kd'.toList) = true := by simpa using e1
    rw [h1, h2]
    simp only [if_true]
    cases hb : Op.bytesLess kd.toList kd'.toList
    · rw [hb] at hn; simpa using hn
    · rw [hb] at hn; simpa using hn
end Go.Proofs.YtaflokfgbmlmaadDoor
