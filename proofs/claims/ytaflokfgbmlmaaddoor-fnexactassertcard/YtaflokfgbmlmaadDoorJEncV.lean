/-
  Values as bytes, plainly: what PutVal writes behind.
-/
import Derived.Test.YtaflokfgbmlmaadDoorJEncT
namespace Go.Proofs.YtaflokfgbmlmaadDoor
open Go.RowKit
set_option linter.unusedVariables false

def encV (K N : Int) (S : ByteArray) : List UInt8 := encN K ++ (if K = 1 then encN N else encT S)
theorem encV_num (N : Int) (S : ByteArray) : encV 1 N S = encN 1 ++ encN N := by simp [encV]
theorem encV_text {K : Int} (N : Int) (S : ByteArray) (h : K ≠ 1) : encV K N S = encN K ++ encT S := by simp [encV, h]
theorem encV_length (K N : Int) (S : ByteArray) : (encV K N S).length ≤ 12 + S.size := by
  have h1 := encN_length K
  have h2 := encN_length N
  have h3 := encT_length S
  unfold encV
  split <;> simp <;> omega
theorem encV_pos (K N : Int) (S : ByteArray) : 0 < (encV K N S).length := by
  have h1 := encN_pos K
  unfold encV
  simp; omega
end Go.Proofs.YtaflokfgbmlmaadDoor
