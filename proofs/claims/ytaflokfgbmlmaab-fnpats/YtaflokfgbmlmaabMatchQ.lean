/-
  What is bound stays bound: held again, a pattern that has matched binds nothing new; plainly.
-/
import Derived.Test.YtaflokfgbmlmaabMatchP
namespace Go.Proofs.Ytaflokfgbmlmaab
open Go.RowKit
set_option linter.unusedVariables false

theorem bindO_append : ∀ {M N : List B4} {s : ByteArray} {v : V3}, bindO M s = some v → bindO (M ++ N) s = some v
  | [], _, _, _, h => by cases h
  | x :: r, N, s, v, h => by
    show bindO (x :: (r ++ N)) s = some v
    unfold bindO at h ⊢
    by_cases hx : x.N = s
    · rw [if_pos hx] at h ⊢; exact h
    · rw [if_neg hx] at h ⊢; exact bindO_append h
theorem bindO_last : ∀ {M : List B4} {s : ByteArray} {u : V3}, bindO M s = none → bindO (M ++ [⟨s, u⟩]) s = some u
  | [], s, u, _ => by show bindO [⟨s, u⟩] s = some u; unfold bindO; rw [if_pos rfl]
  | x :: r, s, u, h => by
    show bindO (x :: (r ++ [⟨s, u⟩])) s = some u
    unfold bindO at h ⊢
    by_cases hx : x.N = s
    · rw [if_pos hx] at h; cases h
    · rw [if_neg hx] at h ⊢; exact bindO_last h
/-- this argument fits this value where M is bound -/
def FitsM (M : List B4) (x : A5) (u : V3) : Prop := (x.K = 1 → bindO M x.S = some u) ∧ (x.K = 2 → x.V = u)
theorem FitsM.more {M : List B4} {x : A5} {u : V3} (h : FitsM M x u) (N : List B4) : FitsM (M ++ N) x u := ⟨fun hk => bindO_append (h.1 hk), h.2⟩
theorem stepM_fit {M : List B4} {x : A5} {u : V3} (h : (stepM M x u).2 = true) : (∃ N, (stepM M x u).1 = M ++ N) ∧ FitsM (stepM M x u).1 x u := by
  obtain ⟨K, S, V⟩ := x
  by_cases h1 : K = 1
  · subst h1
    cases hb : bindO M S with
    | some v =>
      rw [stepM_K1 hb] at h ⊢
      have hv : v = u := by simpa using h
      exact ⟨⟨[], by simp⟩, fun _ => by rw [← hv]; exact hb, fun e => by cases e⟩
    | none =>
      rw [stepM_K1n hb]
      exact ⟨⟨_, rfl⟩, fun _ => bindO_last hb, fun e => by cases e⟩
  · by_cases h2 : K = 2
    · subst h2
      rw [stepM_K2] at h ⊢
      exact ⟨⟨[], by simp⟩, (fun e => by cases e), fun _ => by simpa using h⟩
    · rw [stepM_no h1 h2]
      exact ⟨⟨[], by simp⟩, fun e => absurd e h1, fun e => absurd e h2⟩
theorem stepM_again {M : List B4} {x : A5} {u : V3} (h : FitsM M x u) : stepM M x u = (M, true) := by
  obtain ⟨K, S, V⟩ := x
  by_cases h1 : K = 1
  · subst h1
    rw [stepM_K1 (h.1 rfl)]; simp
  · by_cases h2 : K = 2
    · subst h2
      have e : V = u := h.2 rfl
      rw [stepM_K2, e]; simp
    · exact stepM_no h1 h2
theorem matchK_fits {L : List A5} {F : List V3} {M0 : List B4} : ∀ {k : Nat} {M : List B4}, matchK L F M0 k = some M → (∃ N, M = M0 ++ N) ∧ ∀ j, j < k → FitsM M (eAt L j) (vAt F j)
  | 0, M, h => by
    have : M0 = M := by simpa [matchK] using h
    exact ⟨⟨[], by rw [this]; simp⟩, fun j hj => absurd hj (Nat.not_lt_zero _)⟩
  | k + 1, M, h => by
    cases hk : matchK L F M0 k with
    | none => rw [matchK_none hk (Nat.le_succ _)] at h; cases h
    | some M1 =>
      obtain ⟨⟨N1, e1⟩, hf⟩ := matchK_fits hk
      cases hb : (stepM M1 (eAt L k) (vAt F k)).2
      · rw [matchK_fail hk hb] at h; cases h
      · rw [matchK_step hk hb] at h
        simp only [Option.some.injEq] at h
        obtain ⟨⟨N2, e2⟩, hs⟩ := stepM_fit hb
        rw [h] at e2 hs
        refine ⟨⟨N1 ++ N2, by rw [e2, e1, List.append_assoc]⟩, fun j hj => ?_⟩
        by_cases hjk : j = k
        · rw [hjk]; exact hs
        · rw [e2]; exact (hf j (by omega)).more N2
theorem matchK_again {L : List A5} {F : List V3} {M : List B4} {n : Nat} (h : ∀ j, j < n → FitsM M (eAt L j) (vAt F j)) : ∀ k, k ≤ n → matchK L F M k = some M
  | 0, _ => rfl
  | k + 1, hk => by
    have ih := matchK_again h k (by omega)
    have hs := stepM_again (h k (by omega))
    rw [matchK_step ih (by rw [hs]), hs]
end Go.Proofs.Ytaflokfgbmlmaab
