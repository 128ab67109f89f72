/-
  Facts in bytes, plainly: what GetFact reads.
-/
import Derived.Test.YtaflokfgbmlmaabValR
import Derived.Test.YtaflokfgbmlmaabFactOk
namespace Go.Proofs.Ytaflokfgbmlmaab
open Go.RowKit
set_option linter.unusedVariables false

/-- so many values, one behind the other -/
def valsR (bs : List UInt8) : Nat → Int → Option (List V3 × Int)
  | 0, x => some ([], x)
  | n + 1, x => if (valR bs x).2.2.2.2 then (valsR bs n (valR bs x).2.2.2.1).map fun r => (⟨(valR bs x).1, (valR bs x).2.1, (valR bs x).2.2.1⟩ :: r.1, r.2) else none
theorem valsR_yes {bs : List UInt8} {n : Nat} {x K N q : Int} {S : ByteArray} (h : valR bs x = (K, N, S, q, true)) : valsR bs (n + 1) x = (valsR bs n q).map fun r => (⟨K, N, S⟩ :: r.1, r.2) := by
  simp only [valsR, h, if_true]
theorem valsR_no {bs : List UInt8} {n : Nat} {x K N q : Int} {S : ByteArray} (h : valR bs x = (K, N, S, q, false)) : valsR bs (n + 1) x = none := by
  simp only [valsR, h, Bool.false_eq_true, if_false]
theorem valR_S (bs : List UInt8) (x : Int) : (valR bs x).2.2.1.size ≤ bs.length := by
  have h0 : (ByteArray.mk #[]).size = 0 := rfl
  unfold valR
  split
  · show (ByteArray.mk #[]).size ≤ _; omega
  · split
    · split
      · show (ByteArray.mk #[]).size ≤ _; omega
      · show (ByteArray.mk #[]).size ≤ _; omega
    · split
      · exact textR_size _ _
      · show (ByteArray.mk #[]).size ≤ _; omega
/-- a count of values, and these -/
def fieldsR (bs : List UInt8) (x : Int) : Option (List V3 × Int) :=
  if (numR bs x).2.2 && inB (numR bs x).1 0 5 then valsR bs (numR bs x).1.toNat (numR bs x).2.1 else none
theorem fieldsR_yes {bs : List UInt8} {x n p : Int} (h : numR bs x = (n, p, true)) (hn : inB n 0 5 = true) : fieldsR bs x = valsR bs n.toNat p := by
  unfold fieldsR; rw [h, hn]; rfl
theorem fieldsR_out {bs : List UInt8} {x n p : Int} (h : numR bs x = (n, p, true)) (hn : inB n 0 5 = false) : fieldsR bs x = none := by
  unfold fieldsR; rw [h, hn]; rfl
theorem fieldsR_no {bs : List UInt8} {x n p : Int} (h : numR bs x = (n, p, false)) : fieldsR bs x = none := by
  unfold fieldsR; rw [h]; rfl
/-- a kind, and values behind it, that are a fact -/
def factR (bs : List UInt8) (x : Int) : Option (ByteArray × List V3 × Int) :=
  if (textR bs x).2.2 then (match fieldsR bs (textR bs x).2.1 with
    | some (L, q) => if factB (textR bs x).1 L then some ((textR bs x).1, L, q) else none
    | none => none) else none
theorem factR_text {bs : List UInt8} {x p : Int} {kd : ByteArray} (h : textR bs x = (kd, p, false)) : factR bs x = none := by
  unfold factR; rw [h]; rfl
theorem factR_none {bs : List UInt8} {x p : Int} {kd : ByteArray} {b : Bool} (h : textR bs x = (kd, p, b)) (h2 : fieldsR bs p = none) : factR bs x = none := by
  unfold factR; rw [h]; simp [h2]
theorem factR_bad {bs : List UInt8} {x p q : Int} {kd : ByteArray} {b : Bool} {L : List V3} (h : textR bs x = (kd, p, b)) (h2 : fieldsR bs p = some (L, q)) (h3 : factB kd L = false) : factR bs x = none := by
  unfold factR; rw [h]; simp [h2, h3]
theorem factR_yes {bs : List UInt8} {x p q : Int} {kd : ByteArray} {L : List V3} (h : textR bs x = (kd, p, true)) (h2 : fieldsR bs p = some (L, q)) (h3 : factB kd L = true) : factR bs x = some (kd, L, q) := by
  unfold factR; rw [h]; simp [h2, h3]

/-- the values that a reader answers, and whether they are all that was to be read -/
def GetsV (bs : List UInt8) (x : Int) (base : Nat) (e : Ending) (w : World) : Prop := ∃ (v : Value) (q : Int) (b : Bool) (L : List V3),
  e = .returned (.tuple #[v, .int .i64 q, .bool b]) ∧ w.ownsRow base 63 3 v L.length (cells3 L) ∧ L.length ≤ 5 ∧ (∀ u ∈ L, u.S.size ≤ bs.length) ∧ fieldsR bs x = if b then some (L, q) else none
/-- reading goes on: k values are read, the rest is to come -/
def Going (bs : List UInt8) (n : Nat) (x0 : Int) (L : List V3) (x : Int) : Prop := valsR bs n x0 = (valsR bs (n - L.length) x).map fun r => (L ++ r.1, r.2)
theorem going_0 (bs : List UInt8) (n : Nat) (x0 : Int) : Going bs n x0 [] x0 := by
  unfold Going; simp
theorem going_step {bs : List UInt8} {n : Nat} {x0 x K N q : Int} {S : ByteArray} {L : List V3} (h : Going bs n x0 L x) (hl : L.length < n) (hv : valR bs x = (K, N, S, q, true)) : Going bs n x0 (L ++ [⟨K, N, S⟩]) q := by
  unfold Going at *
  obtain ⟨m, hm⟩ : ∃ m, n - L.length = m + 1 := ⟨n - L.length - 1, by omega⟩
  rw [h, hm, valsR_yes hv]
  have : n - (L ++ [(⟨K, N, S⟩ : V3)]).length = m := by simp; omega
  rw [this, Option.map_map]
  congr 1
  funext r
  simp
theorem going_no {bs : List UInt8} {n : Nat} {x0 x K N q : Int} {S : ByteArray} {L : List V3} (h : Going bs n x0 L x) (hl : L.length < n) (hv : valR bs x = (K, N, S, q, false)) : valsR bs n x0 = none := by
  unfold Going at h
  obtain ⟨m, hm⟩ : ∃ m, n - L.length = m + 1 := ⟨n - L.length - 1, by omega⟩
  rw [h, hm, valsR_no hv]; rfl
theorem going_end {bs : List UInt8} {n : Nat} {x0 x : Int} {L : List V3} (h : Going bs n x0 L x) (hl : L.length = n) : valsR bs n x0 = some (L, x) := by
  unfold Going at h
  rw [h, hl, Nat.sub_self]; simp [valsR]
end Go.Proofs.Ytaflokfgbmlmaab
