/-
  What ParseVal answers, the tested one and the model's alike: parseO.
-/
import Derived.Test.YtaflokfgbmlmaadDoorJoined1
import Derived.Test.YtaflokfgbmlmaadDoorJParseS
namespace Go.Proofs.YtaflokfgbmlmaadDoor
open Go.RowKit Go.Lib
set_option linter.unusedVariables false

def quotedB (s : ByteArray) : Bool := decide (2 ≤ s.size) && (bat s 0 == 39) && (bat s (s.size - 1) == 39)
/-- the value that a text is read as -/
def parseO (s : ByteArray) : Option V3 :=
  if quotedB s then (if valB 2 0 (s.extract 1 (s.size - 1)) then some ⟨2, 0, s.extract 1 (s.size - 1)⟩ else none)
  else (numV s.data.toList).map fun n => ⟨1, n, ⟨#[]⟩⟩
/-- the answer, as the call gives it -/
def ansO : Option V3 → Value
  | some v => .tuple #[.agg #[.int .i64 v.K, .int .i64 v.N, .string v.S], .bool true]
  | none => .tuple #[.agg #[.int .i64 0, .int .i64 0, .string ⟨#[]⟩], .bool false]
theorem ansV_f (K N : Int) (S : ByteArray) : ansV false K N S = ansO none := rfl
theorem ansV_t (K N : Int) (S : ByteArray) : ansV true K N S = ansO (some ⟨K, N, S⟩) := rfl
theorem parseO_q {s : ByteArray} (h : quotedB s = true) : ansO (parseO s) = ansV (valB 2 0 (s.extract 1 (s.size - 1))) 2 0 (s.extract 1 (s.size - 1)) := by
  unfold parseO; rw [if_pos h]
  cases valB 2 0 (s.extract 1 (s.size - 1)) <;> rfl
theorem parseO_n {s : ByteArray} (h : quotedB s = false) : ansO (parseO s) = ansN (numV s.data.toList) := by
  unfold parseO; rw [if_neg (by simp [h])]
  cases numV s.data.toList <;> rfl
theorem quotedB_iff {s : ByteArray} : quotedB s = true ↔ 2 ≤ s.size ∧ bat s 0 = 39 ∧ bat s (s.size - 1) = 39 := by
  simp [quotedB, and_assoc]

theorem inner_of {s : ByteArray} (h1 : 2 ≤ s.size) (h0 : bat s 0 = 39) (h2 : bat s (s.size - 1) = 39) : (⟨#[39]⟩ ++ s.extract 1 (s.size - 1) ++ ⟨#[39]⟩ : ByteArray) = s := by
  have e : (s.extract 1 (s.size - 1)).size = s.size - 2 := by rw [ByteArray.size_extract]; omega
  have e1 : (⟨#[39]⟩ : ByteArray).size = 1 := rfl
  apply ByteArray.ext_getElem
  · simp only [ByteArray.size_append, e, e1]; omega
  · intro i hi hi'
    rw [bat_in (by omega)] at h0 h2
    have x0 : (s[0]'(by omega)) = 39 := UInt8.toNat_inj.1 (by have : (39 : UInt8).toNat = 39 := rfl; omega)
    have x2 : (s[s.size - 1]'(by omega)) = 39 := UInt8.toNat_inj.1 (by have : (39 : UInt8).toNat = 39 := rfl; omega)
    by_cases ha : i = 0
    · subst ha
      rw [ByteArray.getElem_append_left (by simp only [ByteArray.size_append, e, e1]; omega), ByteArray.getElem_append_left (by rw [e1]; omega), x0]; rfl
    · by_cases hb : i = s.size - 1
      · subst hb
        rw [ByteArray.getElem_append_right (by simp only [ByteArray.size_append, e, e1]; omega), x2]
        have : s.size - 1 - (⟨#[39]⟩ ++ s.extract 1 (s.size - 1) : ByteArray).size = 0 := by simp only [ByteArray.size_append, e, e1]; omega
        simp only [this]; rfl
      · rw [ByteArray.getElem_append_left (by simp only [ByteArray.size_append, e, e1]; omega), ByteArray.getElem_append_right (by rw [e1]; omega), ByteArray.getElem_extract]
        congr 1
        rw [e1]; omega
theorem inner_last {s S : ByteArray} (h : (⟨#[39]⟩ ++ S ++ ⟨#[39]⟩ : ByteArray) = s) : bat s (s.size - 1) = 39 := by
  subst h
  have e1 : (⟨#[39]⟩ : ByteArray).size = 1 := rfl
  rw [bat_in (by simp only [ByteArray.size_append, e1]; omega)]
  rw [ByteArray.getElem_append_right (by simp only [ByteArray.size_append, e1]; omega)]
  have : (⟨#[39]⟩ ++ S ++ ⟨#[39]⟩ : ByteArray).size - 1 - (⟨#[39]⟩ ++ S : ByteArray).size = 0 := by simp only [ByteArray.size_append, e1]; omega
  simp only [this]; rfl

end Go.Proofs.YtaflokfgbmlmaadDoor
