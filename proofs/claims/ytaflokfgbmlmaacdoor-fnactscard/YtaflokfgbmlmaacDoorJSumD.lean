/-
  Sums and differences of values, plainly.
-/
import Derived.Test.YtaflokfgbmlmaacDoorJoined2
namespace Go.Proofs.YtaflokfgbmlmaacDoor
open Go.RowKit
set_option linter.unusedVariables false

/-- a value and whether it is one, as they are answered -/
def tupV (b : Bool) (n : Int) : Value := .tuple #[.agg #[.int .i64 (if b then 1 else 0), .int .i64 (if b then n else 0), .string ⟨#[]⟩], .bool b]
theorem tupV_no (n m : Int) : tupV false n = tupV false m := rfl
theorem tupV_open (b : Bool) (n : Int) : ∃ r1 r2 b', tupV b n = .tuple #[.agg #[.int .i64 r1, .int .i64 r2, .string ⟨#[]⟩], .bool b'] := ⟨_, _, _, rfl⟩
def isNum (K N : Int) (S : ByteArray) : Bool := K == 1 && valB K N S
def numN (K N : Int) (S : ByteArray) : Int := if isNum K N S then N else 0
theorem numN_in (K N : Int) (S : ByteArray) : -1000000000 ≤ numN K N S ∧ numN K N S ≤ 1000000000 := by
  unfold numN
  split
  · rename_i h
    simp only [isNum, Bool.and_eq_true, beq_iff_eq] at h
    obtain ⟨h1, h2⟩ := h
    subst h1
    by_cases hr : -1000000000 ≤ N ∧ N ≤ 1000000000
    · exact hr
    · rw [valB_out S hr] at h2; cases h2
  · omega
/-- what a sum or a difference n of two values answers -/
def sumV (K N : Int) (S : ByteArray) (K' N' : Int) (S' : ByteArray) (n : Int) : Value := tupV (isNum K N S && isNum K' N' S' && inB n (-1000000000) 1000000000) n
theorem sumV_eq {K N K' N' n m : Int} {S S' : ByteArray} (h : isNum K N S = true → isNum K' N' S' = true → n = m) : sumV K N S K' N' S' n = sumV K N S K' N' S' m := by
  unfold sumV
  cases h1 : isNum K N S
  · rfl
  · cases h2 : isNum K' N' S'
    · rfl
    · rw [h h1 h2]
theorem numN_of {K N : Int} {S : ByteArray} (h : isNum K N S = true) : numN K N S = N := by unfold numN; rw [if_pos h]
theorem valB_inB (n : Int) : valB 1 n ⟨#[]⟩ = inB n (-1000000000) 1000000000 := by
  have : (ByteArray.mk #[]).size = 0 := rfl
  simp [valB, this]
end Go.Proofs.YtaflokfgbmlmaacDoor
