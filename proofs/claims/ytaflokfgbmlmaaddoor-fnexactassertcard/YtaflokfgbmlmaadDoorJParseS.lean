/-
  What the model's ParseVal answers, by the text's form: between two quotes, behind a minus, else.
-/
import Derived.Test.YtaflokfgbmlmaadDoorJWhole
import Derived.Test.YtaflokfgbmlmaadDoorJParseI
namespace Go.Proofs.YtaflokfgbmlmaadDoor
open Go.RowKit Go.Lib
set_option linter.unusedVariables false

theorem below_al2 (w : World) (o : Obj) : Below w.heap.size w (w.alloc o) := (Below.refl _ _).alloc (Nat.le_refl _) _
theorem below_none {w w' : World} (h : w.grownBy w' none) : Below w.heap.size w w' := (Below.refl _ _).grown h (Nat.le_refl _) (fun k hk => by cases hk)

theorem decFrom_lt : ∀ (l : List UInt8) (acc u : Nat), decFrom acc l = some u → u < (acc + 1) * 10 ^ l.length
  | [], acc, u, h => by simp [decFrom] at h; subst h; simp
  | c :: r, acc, u, h => by
    simp only [decFrom] at h
    cases hd : digitVal c with
    | none => rw [hd] at h; simp at h
    | some d =>
      rw [hd] at h
      have h10 := (digitVal_some hd).2
      have ih := decFrom_lt r (acc * 10 + d) u h
      refine Nat.lt_of_lt_of_le ih ?_
      rw [List.length_cons, Nat.pow_succ, Nat.mul_comm (10 ^ r.length) 10, ← Nat.mul_assoc]
      exact Nat.mul_le_mul_right _ (by omega)
theorem wholeL_bd (l : List UInt8) : -1 ≤ wholeL l ∧ wholeL l < 10000000000 := by
  unfold wholeL
  split
  · omega
  · rename_i hc
    have hlen : l.length ≤ 10 := by omega
    cases hd : decFrom 0 l with
    | none => simp only []; omega
    | some u =>
      have := decFrom_lt l 0 u hd
      have h2 : 10 ^ l.length ≤ 10 ^ 10 := Nat.pow_le_pow_right (by omega) hlen
      simp only []
      omega
/-- the answer, of a number or none -/
def ansN : Option Int → Value
  | some n => ansV true 1 n ⟨#[]⟩
  | none => ansV false 1 0 ⟨#[]⟩
theorem numV_minus {l : List UInt8} {m : Int} (h1 : 1 < l.length) (h0 : l.head? = some 45) (hm : wholeL l.tail = m) : numV l = if 0 ≤ -m then none else if numOk (-m) then some (-m) else none := by
  unfold numV; rw [if_pos ⟨h1, h0⟩, hm]
theorem numV_plain {l : List UInt8} {m : Int} (h1 : ¬ (1 < l.length ∧ l.head? = some 45)) (hm : wholeL l = m) : numV l = if m < 0 then none else if numOk m then some m else none := by
  unfold numV; rw [if_neg h1, hm]
theorem ansN_of {n : Int} {o : Option Int} (h : o = if numOk n then some n else none) : ansV (valB 1 n ⟨#[]⟩) 1 n ⟨#[]⟩ = ansN o := by
  rw [valB_whole, h]
  cases numOk n <;> rfl
theorem head_of {s : ByteArray} (h : 0 < s.size) : s.data.toList.head? = some (s[0]'h) := by
  have hl : s.data.toList.length = s.size := by rw [Array.length_toList]; rfl
  rw [List.head?_eq_getElem?, List.getElem?_eq_getElem (by omega)]
  simp [ByteArray.getElem_eq_getElem_data]
theorem tail_of (s : ByteArray) : (s.extract 1 s.size).data.toList = s.data.toList.tail := by
  have hl : s.data.toList.length = s.size := by rw [Array.length_toList]; rfl
  rw [ByteArray.data_extract, Array.toList_extract, List.extract_eq_take_drop, List.take_of_length_le (by simp), List.drop_one]

end Go.Proofs.YtaflokfgbmlmaadDoor
