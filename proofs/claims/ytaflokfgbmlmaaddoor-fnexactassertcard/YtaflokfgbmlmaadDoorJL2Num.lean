/-
  What the model's text of a number is: itoa of the number; nothing that was there has turned.
-/
import Derived.Test.YtaflokfgbmlmaadDoorJoined2
import Derived.Test.YtaflokfgbmlmaadDoorJoined1
import Derived.Test.YtaflokfgbmlmaadDoorJValP
import Derived.Lib.ItoaLen
import Derived.Laws.IdiomStrings
namespace Go.Proofs.YtaflokfgbmlmaadDoor
open Go.RowKit
set_option linter.unusedVariables false

theorem conv_one (q : Nat) (c : UInt8) (d : Int) (hd : d = (c.toNat : Int)) (W : World) (h : W.cell? ⟨q, 0, none⟩ = some (.int .u8 d)) :
    (convert 47 9 (.slice (some ⟨q, 0, none⟩) 1 1)).run Tryd.prog W = .ok (.string ⟨#[c]⟩) W := by
  subst hd
  have := run_convert_bytes_back (P := Tryd.prog) W 47 9 5 ⟨q, 0, none⟩ 1 [c] Tryd.underlying47 Tryd.underlying5 Tryd.underlying9 (fun j hj => by
    obtain rfl : j = 0 := by simpa using hj
    rw [Addr.add_lit, Nat.add_zero, h]
    simp)
  simpa using this
theorem digit_byte {d : Nat} (h : d < 10) : ∃ c : UInt8, 48 + (d : Int) = (c.toNat : Int) ∧ UInt8.ofNat (48 + d) = c := ⟨_, by simp; omega, rfl⟩
theorem dec_snoc {u : Nat} (h : ¬ u < 10) : (⟨(Lib.decDigits (u / 10)).toArray⟩ : ByteArray) ++ ⟨#[UInt8.ofNat (48 + u % 10)]⟩ = ⟨(Lib.decDigits u).toArray⟩ := by
  rw [show Lib.decDigits u = Lib.decDigits (u / 10) ++ [UInt8.ofNat (48 + u % 10)] by rw [Lib.decDigits, dif_neg h]]
  apply ByteArray.ext
  rw [ByteArray.data_append]
  simp

theorem dec_size {u : Nat} (h : u ≤ 1000000000) : (⟨(Lib.decDigits u).toArray⟩ : ByteArray).size ≤ 10 := by
  have h1 := Lib.decDigits_length u
  have h2 := nDigits_10 u h
  show (Lib.decDigits u).toArray.size ≤ 10
  simp; omega

theorem below_d {w w' : World} (hb : Below w.drew.heap.size w.drew w') : Below w.heap.size w w' := ((Below.refl w.heap.size w).drew).trans hb
theorem below_da {w w' : World} (hb : Below w.drew.heap.size w.drew w') (o : Obj) : Below w.heap.size w (w'.alloc o) := (below_d hb).alloc (below_d hb).size _

end Go.Proofs.YtaflokfgbmlmaadDoor
