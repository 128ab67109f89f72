/-
  What the text of a fact is: its kind, and the texts of its values between brackets; the model's and the tested one alike.
-/
import Derived.Test.YtaflokfgbmlmaadDoorJTxV
import Derived.Test.YtaflokfgbmlmaadDoorJoined2
import Derived.Test.YtaflokfgbmlmaadDoorJoined1
import Derived.Lib.Join
import Derived.Deep.AppendLies
import Derived.Deep.RegionHeld3
namespace Go.Proofs.YtaflokfgbmlmaadDoor
open Go.RowKit
set_option linter.unusedVariables false

/-- the texts with commas between -/
def joinV (L : List V3) : List UInt8 := Lib.join (L.map fun v => v.tx.data.toList) [44]
theorem joinV_nil : joinV [] = [] := rfl
theorem joinV_snoc (L : List V3) (v : V3) : joinV (L ++ [v]) = if L = [] then v.tx.data.toList else joinV L ++ (44 :: v.tx.data.toList) := by
  unfold joinV Lib.join
  induction L with
  | nil => simp [List.intercalate]
  | cons a r ih =>
    rw [if_neg (by simp)]
    cases r with
    | nil => simp [List.intercalate]
    | cons b s =>
      rw [if_neg (by simp)] at ih
      simp only [List.map_append, List.map_cons, List.map_nil, List.cons_append] at ih ⊢
      have e : ∀ (p q : List UInt8) (t : List (List UInt8)), List.intercalate [44] (p :: q :: t) = p ++ (44 :: List.intercalate [44] (q :: t)) := fun p q t => by simp [List.intercalate, List.intersperse]
      rw [e, e, ih]
      simp
theorem joinV_take {L : List V3} (h : ∀ v ∈ L, v.ok = true) : ∀ k, k ≤ L.length → (joinV (L.take k)).length ≤ 23 * k
  | 0, _ => by simp [joinV_nil]
  | k + 1, hk => by
    have ih := joinV_take h k (by omega)
    have h2 := tx_size (h L[k] (List.getElem_mem (by omega)))
    have e : L[k].tx.data.toList.length = L[k].tx.size := by rw [Array.length_toList]; rfl
    rw [List.take_succ_eq_append_getElem (by omega), joinV_snoc]
    split
    · omega
    · simp only [List.length_append, List.length_cons]; omega
def factT (kd : ByteArray) (L : List V3) : ByteArray := if factB kd L then kd ++ (⟨#[40]⟩ ++ ⟨(joinV L).toArray⟩ ++ ⟨#[41]⟩) else ⟨#[]⟩

theorem ok_at {L : List V3} (h : ∀ v ∈ L, v.ok = true) {k : Nat} (hk : k < L.length) : (vAt L k).ok = true := by rw [vAt_in hk]; exact h _ (List.getElem_mem hk)

end Go.Proofs.YtaflokfgbmlmaadDoor
