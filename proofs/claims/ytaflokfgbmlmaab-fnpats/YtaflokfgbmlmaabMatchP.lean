/-
  What a pattern binds, plainly.
-/
import Derived.Test.YtaflokfgbmlmaabBindP
import Derived.Test.YtaflokfgbmlmaabArgRow
namespace Go.Proofs.Ytaflokfgbmlmaab
open Go.RowKit
set_option linter.unusedVariables false

/-- one argument held against one value -/
def stepM (M : List B4) (x : A5) (u : V3) : List B4 × Bool :=
  if x.K = 1 then (match bindO M x.S with
    | some v => (M, decide (v = u))
    | none => (M ++ [⟨x.S, u⟩], true))
  else if x.K = 2 then (M, decide (x.V = u)) else (M, true)
/-- behind k arguments -/
def matchK (L : List A5) (F : List V3) (M0 : List B4) : Nat → Option (List B4)
  | 0 => some M0
  | k + 1 => match matchK L F M0 k with
    | none => none
    | some M => if (stepM M (eAt L k) (vAt F k)).2 = true then some (stepM M (eAt L k) (vAt F k)).1 else none
/-- what MatchPat answers -/
def matchR (kd kd' : ByteArray) (L : List A5) (F : List V3) (M0 : List B4) : List B4 × Bool :=
  if kd = kd' ∧ L.length = F.length then (match matchK L F M0 L.length with
    | some M => (M, true)
    | none => (M0, false))
  else (M0, false)
theorem matchK_none {L : List A5} {F : List V3} {M0 : List B4} : ∀ {k j : Nat}, matchK L F M0 k = none → k ≤ j → matchK L F M0 j = none
  | k, 0, h, hj => by
    obtain rfl : k = 0 := by omega
    exact h
  | k, j + 1, h, hj => by
    by_cases hk : k = j + 1
    · rw [← hk]; exact h
    · show (match matchK L F M0 j with | none => none | some M => _) = none
      rw [matchK_none h (show k ≤ j by omega)]
theorem matchK_step {L : List A5} {F : List V3} {M0 M : List B4} {k : Nat} (h : matchK L F M0 k = some M) (hb : (stepM M (eAt L k) (vAt F k)).2 = true) : matchK L F M0 (k + 1) = some (stepM M (eAt L k) (vAt F k)).1 := by
  show (match matchK L F M0 k with | none => none | some M => _) = _
  rw [h]
  simp only
  rw [if_pos hb]
theorem matchK_fail {L : List A5} {F : List V3} {M0 M : List B4} {k : Nat} (h : matchK L F M0 k = some M) (hb : (stepM M (eAt L k) (vAt F k)).2 = false) : matchK L F M0 (k + 1) = none := by
  show (match matchK L F M0 k with | none => none | some M => _) = _
  rw [h]
  simp only
  rw [if_neg (by rw [hb]; simp)]
theorem matchR_kind {kd kd' : ByteArray} {L : List A5} {F : List V3} {M0 : List B4} (h : kd ≠ kd') : matchR kd kd' L F M0 = (M0, false) := by unfold matchR; rw [if_neg (fun e => h e.1)]
theorem matchR_len {kd kd' : ByteArray} {L : List A5} {F : List V3} {M0 : List B4} (h : L.length ≠ F.length) : matchR kd kd' L F M0 = (M0, false) := by unfold matchR; rw [if_neg (fun e => h e.2)]
theorem matchR_fail {kd : ByteArray} {L : List A5} {F : List V3} {M0 : List B4} {k : Nat} (hl : L.length = F.length) (hk : k ≤ L.length) (h : matchK L F M0 k = none) : matchR kd kd L F M0 = (M0, false) := by
  unfold matchR; rw [if_pos ⟨rfl, hl⟩, matchK_none h hk]
theorem matchR_yes {kd : ByteArray} {L : List A5} {F : List V3} {M0 M : List B4} (hl : L.length = F.length) (h : matchK L F M0 L.length = some M) : matchR kd kd L F M0 = (M, true) := by
  unfold matchR; rw [if_pos ⟨rfl, hl⟩, h]
theorem stepM_len (M : List B4) (x : A5) (u : V3) : (stepM M x u).1.length ≤ M.length + 1 := by
  unfold stepM
  split
  · split <;> simp
  · split <;> simp
theorem matchK_len {L : List A5} {F : List V3} {M0 : List B4} : ∀ {k : Nat} {M : List B4}, matchK L F M0 k = some M → M.length ≤ M0.length + k
  | 0, M, h => by
    have : M0 = M := by simpa [matchK] using h
    rw [this]; omega
  | k + 1, M, h => by
    cases hk : matchK L F M0 k with
    | none => rw [matchK_none hk (Nat.le_succ _)] at h; cases h
    | some M1 =>
      have h1 := matchK_len hk
      cases hb : (stepM M1 (eAt L k) (vAt F k)).2
      · rw [matchK_fail hk hb] at h; cases h
      · rw [matchK_step hk hb] at h
        have := stepM_len M1 (eAt L k) (vAt F k)
        simp only [Option.some.injEq] at h
        rw [← h]; omega
theorem stepM_small {M : List B4} {x : A5} {u : V3} (hM : ∀ y ∈ M, y.small) (hx : x.small) (hu : u.S.size ≤ 1048576) : ∀ y ∈ (stepM M x u).1, y.small := by
  unfold stepM
  split
  · split
    · exact hM
    · intro y hy
      rcases List.mem_append.1 hy with h | h
      · exact hM y h
      · simp only [List.mem_cons, List.not_mem_nil, or_false] at h
        rw [h]; exact ⟨hx.1, hu⟩
  · split <;> exact hM
theorem matchK_small {L : List A5} {F : List V3} {M0 : List B4} (hM : ∀ y ∈ M0, y.small) (hL : ∀ x ∈ L, x.small) (hF : ∀ u ∈ F, u.S.size ≤ 1048576) (hl : L.length = F.length) : ∀ {k : Nat} {M : List B4}, k ≤ L.length → matchK L F M0 k = some M → ∀ y ∈ M, y.small
  | 0, M, _, h => by
    have : M0 = M := by simpa [matchK] using h
    rw [← this]; exact hM
  | k + 1, M, hk, h => by
    cases h0 : matchK L F M0 k with
    | none => rw [matchK_none h0 (Nat.le_succ _)] at h; cases h
    | some M1 =>
      have h1 := matchK_small hM hL hF hl (by omega) h0
      cases hb : (stepM M1 (eAt L k) (vAt F k)).2
      · rw [matchK_fail h0 hb] at h; cases h
      · rw [matchK_step h0 hb] at h
        simp only [Option.some.injEq] at h
        rw [← h]
        refine stepM_small h1 ?_ ?_
        · rw [eAt_in (by omega)]; exact hL _ (List.getElem_mem _)
        · rw [vAt_in (by omega)]; exact hF _ (List.getElem_mem _)
theorem stepM_K1 {M : List B4} {S : ByteArray} {V u v : V3} (h : bindO M S = some v) : stepM M ⟨1, S, V⟩ u = (M, decide (v = u)) := by unfold stepM; rw [if_pos rfl, h]
theorem stepM_K1n {M : List B4} {S : ByteArray} {V u : V3} (h : bindO M S = none) : stepM M ⟨1, S, V⟩ u = (M ++ [⟨S, u⟩], true) := by unfold stepM; rw [if_pos rfl, h]
theorem stepM_K2 {M : List B4} {S : ByteArray} {V u : V3} : stepM M ⟨2, S, V⟩ u = (M, decide (V = u)) := by unfold stepM; rw [if_neg (show ¬ (2 : Int) = 1 by decide), if_pos rfl]
theorem stepM_no {M : List B4} {K : Int} {S : ByteArray} {V u : V3} (h1 : K ≠ 1) (h2 : K ≠ 2) : stepM M ⟨K, S, V⟩ u = (M, true) := by unfold stepM; rw [if_neg h1, if_neg h2]
theorem matchR_cases (kd kd' : ByteArray) (L : List A5) (F : List V3) (M0 : List B4) : matchR kd kd' L F M0 = (M0, false) ∨ (kd = kd' ∧ L.length = F.length ∧ ∃ M, matchK L F M0 L.length = some M ∧ matchR kd kd' L F M0 = (M, true)) := by
  by_cases h1 : kd = kd'
  · subst h1
    by_cases h2 : L.length = F.length
    · cases h : matchK L F M0 L.length with
      | none => exact .inl (matchR_fail h2 (Nat.le_refl _) h)
      | some M => exact .inr ⟨rfl, h2, M, rfl, matchR_yes h2 h⟩
    · exact .inl (matchR_len h2)
  · exact .inl (matchR_kind h1)
theorem matchR_small (kd kd' : ByteArray) {L : List A5} {F : List V3} {M0 : List B4} (hM : ∀ y ∈ M0, y.small) (hL : ∀ x ∈ L, x.small) (hF : ∀ u ∈ F, u.S.size ≤ 1048576) : ∀ y ∈ (matchR kd kd' L F M0).1, y.small := by
  rcases matchR_cases kd kd' L F M0 with h | ⟨-, hl, M, hM1, h⟩
  · rw [h]; exact hM
  · rw [h]; exact matchK_small hM hL hF hl (Nat.le_refl _) hM1
theorem matchR_len_le (kd kd' : ByteArray) (L : List A5) (F : List V3) (M0 : List B4) : (matchR kd kd' L F M0).1.length ≤ L.length + M0.length := by
  rcases matchR_cases kd kd' L F M0 with h | ⟨-, hl, M, hM1, h⟩
  · rw [h]; simp
  · rw [h]
    have := matchK_len hM1
    simp only
    omega
end Go.Proofs.Ytaflokfgbmlmaab
