/-
  What both ActOks answer: actB.
-/
import Derived.Test.YtaflokfgbmlmaaaJNamedX
import Derived.Test.YtaflokfgbmlmaaaJoined2
import Derived.Test.YtaflokfgbmlmaaaJoined1
namespace Go.Proofs.Ytaflokfgbmlmaaa
open Go.RowKit
set_option linter.unusedVariables false

/-- an act with neither a name nor terms -/
def bareX (nm : ByteArray) (L : List X11) : Bool := decide (nm.size = 0) && decide (L.length = 0)
/-- when an act is right -/
def actB (K : Int) (nm : ByteArray) (L : List X11) (N : Int) (un : ByteArray) : Bool :=
  if K = 1 then namedX nm L && decide (N = 0) && decide (un.size = 0)
  else if K = 2 then bareX nm L && inB N 0 7 && decide (un.size = 0)
  else if K = 3 then namedX nm L && decide (N = 0) && (decide (un.size = 0) || nameB un)
  else if K = 4 then namedX nm L && inB N 0 100000 && decide (un.size = 0)
  else if K = 5 ∨ K = 6 then bareX nm L && decide (N = 0) && decide (un.size = 0)
  else false
theorem actB1 (nm : ByteArray) (L : List X11) (N : Int) (un : ByteArray) : actB 1 nm L N un = (namedX nm L && decide (N = 0) && decide (un.size = 0)) := rfl
theorem actB2 (nm : ByteArray) (L : List X11) (N : Int) (un : ByteArray) : actB 2 nm L N un = (bareX nm L && inB N 0 7 && decide (un.size = 0)) := rfl
theorem actB3 (nm : ByteArray) (L : List X11) (N : Int) (un : ByteArray) : actB 3 nm L N un = (namedX nm L && decide (N = 0) && (decide (un.size = 0) || nameB un)) := rfl
theorem actB4 (nm : ByteArray) (L : List X11) (N : Int) (un : ByteArray) : actB 4 nm L N un = (namedX nm L && inB N 0 100000 && decide (un.size = 0)) := rfl
theorem actB5 (nm : ByteArray) (L : List X11) (N : Int) (un : ByteArray) : actB 5 nm L N un = (bareX nm L && decide (N = 0) && decide (un.size = 0)) := rfl
theorem actB6 (nm : ByteArray) (L : List X11) (N : Int) (un : ByteArray) : actB 6 nm L N un = (bareX nm L && decide (N = 0) && decide (un.size = 0)) := rfl
theorem actB_no {K : Int} (nm : ByteArray) (L : List X11) (N : Int) (un : ByteArray) (h1 : K ≠ 1) (h2 : K ≠ 2) (h3 : K ≠ 3) (h4 : K ≠ 4) (h5 : K ≠ 5) (h6 : K ≠ 6) : actB K nm L N un = false := by
  simp [actB, h1, h2, h3, h4, h5, h6]
theorem k_cases (K : Int) : K = 1 ∨ K = 2 ∨ K = 3 ∨ K = 4 ∨ K = 5 ∨ K = 6 ∨ ((K == 1) = false ∧ (K == 2) = false ∧ (K == 3) = false ∧ (K == 4) = false ∧ (K == 5) = false ∧ (K == 6) = false ∧ K ≠ 1 ∧ K ≠ 2 ∧ K ≠ 3 ∧ K ≠ 4 ∧ K ≠ 5 ∧ K ≠ 6) := by
  by_cases h1 : K = 1; · simp [h1]
  by_cases h2 : K = 2; · simp [h2]
  by_cases h3 : K = 3; · simp [h3]
  by_cases h4 : K = 4; · simp [h4]
  by_cases h5 : K = 5; · simp [h5]
  by_cases h6 : K = 6; · simp [h6]
  simp [h1, h2, h3, h4, h5, h6]
theorem emp_t (s : ByteArray) : s.toList.isEmpty = decide (s.size = 0) := by
  by_cases h : s.size = 0
  · rw [decide_eq_true h, empty_of_size h, ByteArray.toList_eq]; rfl
  · rw [isEmpty_false h, decide_eq_false h]
theorem eq0_t (N : Int) : (N == 0) = decide (N = 0) := by
  by_cases h : N = 0 <;> simp [h]
theorem len0_t (n : Nat) : ((n : Int) == 0) = decide (n = 0) := by
  by_cases h : n = 0
  · simp [h]
  · rw [decide_eq_false h]; simpa using h
theorem len0_z (n : Nat) : decide ((n : Int) = 0) = decide (n = 0) := decide_eq_decide.2 (by omega)

end Go.Proofs.Ytaflokfgbmlmaaa
