/-
  The order of values, plainly: of two unlike ones one is less, of two like ones none.
-/
import Derived.Test.YtaflokfgbmlmaadDoorJLess
import Derived.Test.YtaflokfgbmlmaadDoorJVEq
namespace Go.Proofs.YtaflokfgbmlmaadDoor
open Go.RowKit
set_option linter.unusedVariables false

theorem bl_tri : ∀ x y : List UInt8, (x = y ∧ Op.bytesLess x y = false ∧ Op.bytesLess y x = false) ∨ (x ≠ y ∧ ((Op.bytesLess x y = true ∧ Op.bytesLess y x = false) ∨ (Op.bytesLess x y = false ∧ Op.bytesLess y x = true)))
  | [], [] => .inl ⟨rfl, rfl, rfl⟩
  | [], b :: y => .inr ⟨by simp, .inl ⟨rfl, rfl⟩⟩
  | a :: x, [] => .inr ⟨by simp, .inr ⟨rfl, rfl⟩⟩
  | a :: x, b :: y => by
    have ih := bl_tri x y
    by_cases h1 : a = b
    · subst h1
      have hl : ¬ a < a := UInt8.lt_irrefl a
      rcases ih with ⟨rfl, h2, h3⟩ | ⟨hne, h⟩
      · left
        refine ⟨rfl, ?_, ?_⟩ <;> simp [Op.bytesLess, hl, h2]
      · right
        refine ⟨by simpa using hne, ?_⟩
        rcases h with ⟨h2, h3⟩ | ⟨h2, h3⟩
        · left; constructor <;> simp [Op.bytesLess, hl, h2, h3]
        · right; constructor <;> simp [Op.bytesLess, hl, h2, h3]
    · right
      have h1' : ¬ b = a := fun e => h1 e.symm
      refine ⟨by simp [h1], ?_⟩
      rcases Nat.lt_or_ge a.toNat b.toNat with hlt | hge
      · left
        have l1 : a < b := UInt8.lt_iff_toNat_lt.2 hlt
        have l2 : ¬ b < a := fun h => by have := UInt8.lt_iff_toNat_lt.1 h; omega
        constructor
        · simp [Op.bytesLess, l1]
        · simp [Op.bytesLess, l2, h1']
      · right
        have hne : a.toNat ≠ b.toNat := fun e => h1 (UInt8.toNat_inj.1 e)
        have l1 : b < a := UInt8.lt_iff_toNat_lt.2 (by omega)
        have l2 : ¬ a < b := fun h => by have := UInt8.lt_iff_toNat_lt.1 h; omega
        constructor
        · simp [Op.bytesLess, l2, h1]
        · simp [Op.bytesLess, l1]


/-- two values are the same and none is less; or they differ and just one is -/
theorem order_cases (K N : Int) (S : ByteArray) (K' N' : Int) (S' : ByteArray) :
    (K = K' ∧ N = N' ∧ S = S' ∧ lessB K N S K' N' S' = false) ∨
    (((K == K') = false ∨ ((K == K') = true ∧ (N == N') = false) ∨ ((K == K') = true ∧ (N == N') = true ∧ (S.toList == S'.toList) = false)) ∧ ((lessB K N S K' N' S' = true ∧ lessB K' N' S' K N S = false) ∨ (lessB K N S K' N' S' = false ∧ lessB K' N' S' K N S = true))) := by
  unfold lessB
  by_cases hK : K = K'
  · subst hK
    by_cases hN : N = N'
    · subst hN
      rcases bl_tri S.toList S'.toList with ⟨h1, h2, h3⟩ | ⟨h1, h2⟩
      · left
        exact ⟨rfl, rfl, toList_inj h1, by simp [h2]⟩
      · right
        exact ⟨.inr (.inr ⟨by simp, by simp, by simpa using h1⟩), by simpa using h2⟩
    · right
      have h1 : (N != N') = true := by simpa using hN
      have h2 : (N' != N) = true := by simpa using fun e => hN e.symm
      refine ⟨.inr (.inl ⟨by simp, by simpa using hN⟩), ?_⟩
      rw [h1, h2]
      simp
      omega
  · right
    have h1 : (K != K') = true := by simpa using hK
    have h2 : (K' != K) = true := by simpa using fun e => hK e.symm
    refine ⟨.inl (by simpa using hK), ?_⟩
    rw [h1, h2]
    simp
    omega
end Go.Proofs.YtaflokfgbmlmaadDoor
