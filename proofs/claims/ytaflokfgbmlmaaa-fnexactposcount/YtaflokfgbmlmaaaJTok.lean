/-
  When a token is right, plainly: variables, marks, tokB.
-/
import Derived.Test.YtaflokfgbmlmaaaJName
import Derived.Test.YtaflokfgbmlmaaaJText
import Derived.Test.YtaflokfgbmlmaaaJoined1
namespace Go.Proofs.Ytaflokfgbmlmaaa
open Go.RowKit
set_option linter.unusedVariables false

def largeB (x : Int) : Bool := inB x 65 90
def varByteB (x : Int) : Bool := inB x 65 90 || wordB x
def varAt (s : ByteArray) (i : Nat) : Bool := inB (bat s i) 65 90 || (i != 0 && wordB (bat s i))
/-- is a text a variable? -/
def varB (s : ByteArray) : Bool := (List.range s.size).all (varAt s) && inB s.size 1 12
theorem varB_no {s : ByteArray} {i : Nat} (h : i < s.size) (hb : varAt s i = false) : varB s = false := by
  unfold varB
  rw [Bool.and_eq_false_iff]
  left
  rw [← Bool.not_eq_true, List.all_eq_true]
  intro h2
  have := h2 i (by simpa using h)
  rw [hb] at this
  cases this
theorem varB_all {s : ByteArray} (h : ∀ i, i < s.size → varAt s i = true) : varB s = inB s.size 1 12 := by
  unfold varB
  have : (List.range s.size).all (varAt s) = true := by
    rw [List.all_eq_true]; intro i hi; exact h i (by simpa using hi)
  rw [this]; simp
theorem varB_size {s : ByteArray} (h : ¬ (1 ≤ s.size ∧ s.size ≤ 12)) : varB s = false := by
  unfold varB
  rw [Bool.and_eq_false_iff]
  right
  exact inB_f (by omega)
theorem varB_tail {s : ByteArray} (h1 : 1 ≤ s.size) (h2 : s.size ≤ 12) (hi : inB (bat s 0) 65 90 = true) : varB s = allB varByteB s := by
  unfold varB allB
  rw [inB_t (by omega), Bool.and_true]
  rw [Bool.eq_iff_iff, List.all_eq_true, List.all_eq_true]
  have e : ∀ i, varAt s i = varByteB (bat s i) := fun i => by
    unfold varAt varByteB
    by_cases h0 : i = 0
    · subst h0; rw [hi]; simp
    · have : (i != 0) = true := by simpa using h0
      rw [this]; simp
  constructor
  · intro h i hm; rw [← e]; exact h i hm
  · intro h i hm; rw [e]; exact h i hm

/-- the marks of one byte -/
def ones : List UInt8 := [40, 41, 44, 46, 58, 45, 43, 61, 35, 60, 33, 95]
/-- is a text a mark? -/
def markB (s : ByteArray) : Bool := (s.toList == [45, 62]) || ones.any (fun c => s.toList == [c])

/-- is a token right? -/
def tokB (K N : Int) (S : ByteArray) : Bool :=
  if K = 1 then inB N 0 1000000000 && decide (S.size = 0)
  else decide (N = 0) && (if K = 2 then nameB S else if K = 3 then varB S else if K = 4 then textB S else if K = 5 then markB S else false)
theorem tokB_num (N : Int) (S : ByteArray) : tokB 1 N S = (inB N 0 1000000000 && decide (S.size = 0)) := by simp [tokB]
theorem tokB_n0 {K N : Int} (S : ByteArray) (hK : K ≠ 1) (hN : N ≠ 0) : tokB K N S = false := by simp [tokB, hK, hN]
/-- is a text one of its kind? -/
def wordOfB (K : Int) (S : ByteArray) : Bool := if K = 2 then nameB S else if K = 3 then varB S else if K = 4 then textB S else if K = 5 then markB S else false
theorem tokB_word {K : Int} (S : ByteArray) (hK : K ≠ 1) : tokB K 0 S = wordOfB K S := by simp [tokB, wordOfB, hK]
theorem tokB_or {K N : Int} (S : ByteArray) (hK : K ≠ 1) : tokB K N S = (decide (N = 0) && wordOfB K S) := by simp [tokB, wordOfB, hK]
theorem varB_le {s : ByteArray} (h : varB s = true) : s.size ≤ 12 := by
  by_cases h2 : 1 ≤ s.size ∧ s.size ≤ 12
  · exact h2.2
  · rw [varB_size h2] at h; cases h
theorem nameB_le {s : ByteArray} (h : nameB s = true) : s.size ≤ 12 := by
  by_cases h2 : 1 ≤ s.size ∧ s.size ≤ 12
  · exact h2.2
  · rw [nameB_size h2] at h; cases h
theorem toList_size (s : ByteArray) : s.toList.length = s.size := by
  rw [ByteArray.toList_eq]; exact Array.length_toList
theorem markB_le {s : ByteArray} (h : markB s = true) : s.size ≤ 2 := by
  unfold markB at h
  rw [Bool.or_eq_true, List.any_eq_true] at h
  rw [← toList_size]
  rcases h with h | ⟨c, _, h⟩
  · rw [beq_iff_eq] at h; rw [h]; simp
  · rw [beq_iff_eq] at h; rw [h]; simp
theorem wordOfB_le {K : Int} {S : ByteArray} (h : wordOfB K S = true) : S.size ≤ 20 := by
  unfold wordOfB at h
  split at h
  · have := nameB_le h; omega
  · split at h
    · have := varB_le h; omega
    · split at h
      · exact textB_le h
      · split at h
        · have := markB_le h; omega
        · cases h
end Go.Proofs.Ytaflokfgbmlmaaa
