/-
  What the model's l2Whole answers: wholeL of the text, in the world as it was.
-/
import Derived.Test.YtaflokfgbmlmaadDoorJWord
import Derived.Test.YtaflokfgbmlmaadDoorJValP
namespace Go.Proofs.YtaflokfgbmlmaadDoor
open Go.RowKit Go.Lib
set_option linter.unusedVariables false

theorem decFrom_app : ∀ (a b : List UInt8) (acc : Nat), decFrom acc (a ++ b) = match decFrom acc a with
    | some m => decFrom m b
    | none => none
  | [], b, acc => rfl
  | c :: r, b, acc => by
    simp only [List.cons_append, decFrom]
    cases digitVal c with
    | none => rfl
    | some d => exact decFrom_app r b _

theorem whole_bad {l : List UInt8} (h : l.length < 1 ∨ 10 < l.length ∨ (1 < l.length ∧ l.head? = some 48)) : wholeL l = -1 := by
  unfold wholeL; rw [if_pos h]
theorem whole_go {l : List UInt8} (h : ¬ (l.length < 1 ∨ 10 < l.length ∨ (1 < l.length ∧ l.head? = some 48))) {m : Nat} (hm : decFrom 0 l = some m) : wholeL l = (m : Int) := by
  unfold wholeL; rw [if_neg h, hm]
theorem whole_none {l : List UInt8} (hm : decFrom 0 l = none) : wholeL l = -1 := by
  unfold wholeL; split
  · rfl
  · rw [hm]
theorem take_step {l : List UInt8} {k : Nat} (hk : k < l.length) : l.take (k + 1) = l.take k ++ [l[k]] := by
  rw [List.take_succ_eq_append_getElem hk]
theorem dec_step {l : List UInt8} {k m : Nat} (hk : k < l.length) (h : decFrom 0 (l.take k) = some m) (h1 : 48 ≤ l[k].toNat) (h2 : l[k].toNat ≤ 57) : decFrom 0 (l.take (k + 1)) = some (m * 10 + (l[k].toNat - 48)) := by
  rw [take_step hk, decFrom_snoc, h]
  simp [digitVal, h1, h2]
theorem dec_stop {l : List UInt8} {k m : Nat} (hk : k < l.length) (h : decFrom 0 (l.take k) = some m) (h1 : ¬ (48 ≤ l[k].toNat ∧ l[k].toNat ≤ 57)) : decFrom 0 l = none := by
  have e : decFrom 0 (l.take (k + 1)) = none := by
    rw [take_step hk, decFrom_snoc, h]
    simp only [digitVal, if_neg h1]
  have := decFrom_app (l.take (k + 1)) (l.drop (k + 1)) 0
  rw [List.take_append_drop, e] at this
  exact this
theorem pow_small {k m : Nat} (hk : k ≤ 9) (h : m < 10 ^ k) : m < 1000000000 := Nat.lt_of_lt_of_le h (Nat.pow_le_pow_right (by omega) hk)

end Go.Proofs.YtaflokfgbmlmaadDoor
