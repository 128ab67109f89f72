/-
  What the order of values answers, the tested one and the model's alike: lessB; nothing that was there has turned.
-/
import Derived.Test.YtaflokfgbmlmaadDoorJCmp
import Derived.Test.YtaflokfgbmlmaadDoorJBox
import Derived.Deep.RegionHeld3
namespace Go.Proofs.YtaflokfgbmlmaadDoor
open Go.RowKit
set_option linter.unusedVariables false

def lessB (K N : Int) (S : ByteArray) (K' N' : Int) (S' : ByteArray) : Bool :=
  if K != K' then decide (K < K') else if N != N' then decide (N < N') else Op.bytesLess S.toList S'.toList

theorem new3 (w : World) (o1 o2 : Obj) (a b c : Value) (T : TypeId) : (((w.alloc o1).alloc o2).alloc (.cells #[a, b, c] T)).drew.heap[w.heap.size + 1 + 1]? = some (.cells #[a, b, c] T (0, 0)) := by
  have := box_new ((w.alloc o1).alloc o2) a b c T
  simp only [World.size_alloc] at this
  exact this
theorem new3_0 (w : World) (o1 o2 : Obj) (a b c : Value) (T : TypeId) : (((w.alloc o1).alloc o2).alloc (.cells #[a, b, c] T)).drew.cell? ⟨w.heap.size + 1 + 1, 0, none⟩ = some a := (box_cell (new3 w o1 o2 a b c T)).1
theorem new3_1 (w : World) (o1 o2 : Obj) (a b c : Value) (T : TypeId) : (((w.alloc o1).alloc o2).alloc (.cells #[a, b, c] T)).drew.cell? ⟨w.heap.size + 1 + 1, 1, none⟩ = some b := (box_cell (new3 w o1 o2 a b c T)).2.1
theorem new3_2 (w : World) (o1 o2 : Obj) (a b c : Value) (T : TypeId) : (((w.alloc o1).alloc o2).alloc (.cells #[a, b, c] T)).drew.cell? ⟨w.heap.size + 1 + 1, 2, none⟩ = some c := (box_cell (new3 w o1 o2 a b c T)).2.2.1

theorem cmpI_neg (x y : Int) : (cmpI x y < 0 ↔ x < y) ∧ (cmpI x y = 0 ↔ x = y) := by
  unfold cmpI
  by_cases h1 : x < y
  · rw [if_pos h1]; omega
  · rw [if_neg h1]
    by_cases h2 : y < x
    · rw [if_pos h2]; omega
    · rw [if_neg h2]; omega
theorem cmpS_neg (a b : ByteArray) : (cmpS a b < 0) ↔ Op.bytesLess a.toList b.toList = true := by
  unfold cmpS
  cases Op.bytesLess a.toList b.toList
  · simp only [Bool.false_eq_true, if_false, iff_false]
    split <;> omega
  · simp
theorem cmpI_bne (x y : Int) : (cmpI x y != 0) = (x != y) := by
  have h := (cmpI_neg x y).2
  by_cases e : x = y
  · have h0 := h.2 e; rw [h0]; simp [e]
  · have h0 : cmpI x y ≠ 0 := fun h1 => e (h.1 h1)
    rw [bne_iff_ne.2 h0, bne_iff_ne.2 e]
theorem less_of (K N : Int) (S : ByteArray) (K' N' : Int) (S' : ByteArray) : decide (orI (cmpI K K') (cmpI N N') (cmpS S S') < 0) = lessB K N S K' N' S' := by
  have h1 := (cmpI_neg K K').1
  have h2 := (cmpI_neg N N').1
  have h3 := cmpS_neg S S'
  unfold orI lessB
  rw [cmpI_bne, cmpI_bne]
  cases (K != K')
  · cases (N != N')
    · cases hb : Op.bytesLess S.toList S'.toList
      · rw [hb] at h3; simpa using h3
      · rw [hb] at h3; simpa using h3
    · simpa using h2
  · simpa using h1

end Go.Proofs.YtaflokfgbmlmaadDoor
