/-
  Texts in bytes, plainly: what GetText reads. And a slice of bytes turned into a text.
-/
import Derived.Test.YtaflokfgbmlmaadDoorJNum
import Derived.Laws.IdiomStrings
namespace Go.Proofs.YtaflokfgbmlmaadDoor
open Go.RowKit
set_option linter.unusedVariables false

/-- what GetText answers -/
def textR (bs : List UInt8) (x : Int) : ByteArray × Int × Bool :=
  if (numR bs x).2.2 = false ∨ (numR bs x).1 < 0 ∨ (bs.length : Int) - (numR bs x).2.1 < (numR bs x).1 then (ByteArray.empty, 0, false)
  else (⟨((bs.drop (numR bs x).2.1.toNat).take (numR bs x).1.toNat).toArray⟩, (numR bs x).2.1 + (numR bs x).1, true)
theorem textR_no {bs : List UInt8} {x : Int} (h : (numR bs x).2.2 = false ∨ (numR bs x).1 < 0 ∨ (bs.length : Int) - (numR bs x).2.1 < (numR bs x).1) : textR bs x = (ByteArray.empty, 0, false) := by
  unfold textR; rw [if_pos h]
theorem textR_yes (bs : List UInt8) (x : Int) (P N : Nat) (h : ¬ ((numR bs x).2.2 = false ∨ (numR bs x).1 < 0 ∨ (bs.length : Int) - (numR bs x).2.1 < (numR bs x).1)) (hP : (numR bs x).2.1 = P) (hN : (numR bs x).1 = N) :
    textR bs x = (⟨((bs.drop P).take N).toArray⟩, (P : Int) + N, true) := by
  unfold textR; rw [if_neg h, hP, hN]; rfl
theorem ret_text {bs : List UInt8} {x : Int} {s : ByteArray} {y : Int} {z : Bool} (h : textR bs x = (s, y, z)) :
    Ending.returned (.tuple #[.string s, .int .i64 y, .bool z]) = .returned (.tuple #[.string (textR bs x).1, .int .i64 (textR bs x).2.1, .bool (textR bs x).2.2]) := by rw [h]

theorem conv_part {b off P N : Nat} {bs : List UInt8} {w : World} (h : P + N ≤ bs.length) (hc : ∀ i, i < bs.length → w.cell? ⟨b, off + i, none⟩ = some (.int .u8 (byteAt bs i))) (c' : Nat) :
    (convert 47 9 (.slice (some ⟨b, off + P, none⟩) N c')).run Tryd.prog w = .ok (.string ⟨((bs.drop P).take N).toArray⟩) w := by
  have hl : ((bs.drop P).take N).length = N := by simp; omega
  have := run_convert_bytes_back (P := Tryd.prog) w 47 9 5 ⟨b, off + P, none⟩ c' ((bs.drop P).take N) Tryd.underlying47 Tryd.underlying5 Tryd.underlying9 (fun j hj => by
    have hj2 : j < N := by omega
    rw [Addr.add_lit, Nat.add_assoc, hc (P + j) (by omega)]
    unfold byteAt
    simp [List.getD, show P + j < bs.length by omega])
  rw [hl] at this
  exact this

end Go.Proofs.YtaflokfgbmlmaadDoor
