/-
  What ParseVal answers, plainly: a number's one text (numV), or a text between two quotes; and that reading loosely, then writing and comparing, answers the same (number part).
-/
import Derived.Test.YtaflokfgbmlmaadDoorJValT
namespace Go.Proofs.YtaflokfgbmlmaadDoor
open Go.Lib
set_option linter.unusedVariables false

theorem valB_whole (n : Int) : valB 1 n ⟨#[]⟩ = numOk n := by
  have : (ByteArray.mk #[]).size = 0 := rfl
  simp [valB, inB, numOk, this]
theorem valB_zero : valB 0 0 ⟨#[]⟩ = false := by simp [valB]

/-- a text's list and the text -/
theorem eq_mk {s : ByteArray} {l : List UInt8} : (⟨l.toArray⟩ : ByteArray) = s ↔ l = s.data.toList := by
  constructor
  · rintro rfl; simp
  · intro h; apply ByteArray.ext; rw [h]

/-- the number that a loose reading answers stands the test just where the text is that number's one text -/
theorem loose_ok {s : ByteArray} {n : Int} (h : atoiAll s.data.toList = .ok n) :
    (valB 1 n ⟨#[]⟩ = true ∧ textV 1 n ⟨#[]⟩ = s) ↔ numV s.data.toList = some n := by
  constructor
  · rintro ⟨hv, ht⟩
    rw [textV_num hv, eq_mk] at ht
    rw [← ht]
    exact numV_itoa (by rw [← valB_whole]; exact hv)
  · intro hn
    obtain ⟨hk, e⟩ := numV_some hn
    have hv : valB 1 n ⟨#[]⟩ = true := by rw [valB_whole]; exact hk
    exact ⟨hv, by rw [textV_num hv, eq_mk]; exact e.symm⟩
theorem loose_only {s : ByteArray} {n m : Int} (h : atoiAll s.data.toList = .ok n) (hm : numV s.data.toList = some m) : m = n := by
  obtain ⟨hk, e⟩ := numV_some hm
  have := atoi_itoa hk
  rw [← e, h] at this
  exact (by injection this with h; exact h.symm)
theorem loose_none {s : ByteArray} (h : ∀ n, atoiAll s.data.toList ≠ .ok n) : numV s.data.toList = none := by
  cases hn : numV s.data.toList with
  | none => rfl
  | some m =>
    obtain ⟨hk, e⟩ := numV_some hn
    exact absurd (by rw [e]; exact atoi_itoa hk) (h m)
end Go.Proofs.YtaflokfgbmlmaadDoor
