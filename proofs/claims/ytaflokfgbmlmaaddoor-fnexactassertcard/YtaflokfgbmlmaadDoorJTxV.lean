/-
  The text of a value that is right is short.
-/
import Derived.Test.YtaflokfgbmlmaadDoorJValT
import Derived.Test.YtaflokfgbmlmaadDoorJoined2
namespace Go.Proofs.YtaflokfgbmlmaadDoor
open Go.RowKit
set_option linter.unusedVariables false

def V3.tx (v : V3) : ByteArray := textV v.K v.N v.S
theorem tx_size {v : V3} (h : v.ok = true) : v.tx.size ≤ 22 := by
  obtain ⟨K, N, S⟩ := v
  have h' : valB K N S = true := h
  show (textV K N S).size ≤ 22
  by_cases hk : K = 1
  · subst hk
    have hN : -1000000000 ≤ N ∧ N ≤ 1000000000 := by
      by_cases hN : -1000000000 ≤ N ∧ N ≤ 1000000000
      · exact hN
      · rw [valB_out S hN] at h'; cases h'
    rw [textV_num h']
    show (Lib.itoa N).toArray.size ≤ 22
    simp only [List.size_toArray]
    by_cases hn : N < 0
    · rw [itoa_neg hn]; have := nDigits_10 N.natAbs (by omega); simp only [List.length_cons]; rw [Lib.decDigits_length]; omega
    · rw [itoa_pos hn]; have := nDigits_10 N.toNat (by omega); rw [Lib.decDigits_length]; omega
  · have hS := valB_texts h' hk
    rw [textV_text h' hk]
    have e1 : (⟨#[39]⟩ : ByteArray).size = 1 := rfl
    simp only [ByteArray.size_append, e1]; omega
end Go.Proofs.YtaflokfgbmlmaadDoor
