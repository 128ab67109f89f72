/-
  When two values are the same, plainly.
-/
import Derived.Test.YtcfhpcbkdpgboaaV3
import Derived.Laws.Strings
namespace Go.Proofs.Ytcfhpcbkdpgboaa
open Go.RowKit
set_option linter.unusedVariables false

theorem toList_inj {S S' : ByteArray} (h : S.toList = S'.toList) : S = S' := by
  rw [ByteArray.toList_eq, ByteArray.toList_eq] at h
  cases S; cases S'
  simp at h
  rw [h]
theorem v3_cases (v u : V3) : v = u ∨ (v ≠ u ∧ ((v.K == u.K) = false ∨ ((v.K == u.K) = true ∧ (v.N == u.N) = false) ∨ ((v.K == u.K) = true ∧ (v.N == u.N) = true ∧ (v.S.toList == u.S.toList) = false))) := by
  by_cases h1 : v.K = u.K
  · by_cases h2 : v.N = u.N
    · by_cases h3 : v.S.toList = u.S.toList
      · left; exact V3.ext' h1 h2 (toList_inj h3)
      · right
        exact ⟨fun e => h3 (by rw [e]), .inr (.inr ⟨by simpa using h1, by simpa using h2, by simpa using h3⟩)⟩
    · right
      exact ⟨fun e => h2 (by rw [e]), .inr (.inl ⟨by simpa using h1, by simpa using h2⟩)⟩
  · right
    exact ⟨fun e => h1 (by rw [e]), .inl (by simpa using h1)⟩
instance : DecidableEq V3 := fun a b => by
  by_cases h : a.K = b.K ∧ a.N = b.N ∧ a.S = b.S
  · exact .isTrue (V3.ext' h.1 h.2.1 h.2.2)
  · exact .isFalse (fun e => h (by rw [e]; exact ⟨rfl, rfl, rfl⟩))

end Go.Proofs.Ytcfhpcbkdpgboaa
