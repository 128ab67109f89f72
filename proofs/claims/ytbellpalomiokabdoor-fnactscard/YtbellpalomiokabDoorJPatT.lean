/-
  What the text of a pattern is: a sign where it is Not, its kind, and the texts of its arguments between brackets; the model's.
-/
import Derived.Test.YtbellpalomiokabDoorJFactT
import Derived.Test.YtbellpalomiokabDoorJArgT
import Derived.Test.YtbellpalomiokabDoorJPatOk
import Derived.Test.YtbellpalomiokabDoorJoined1
namespace Go.Proofs.YtbellpalomiokabDoor
open Go.RowKit
set_option linter.unusedVariables false

/-- the texts with a comma and a blank between -/
def joinA (L : List A5) : List UInt8 := Lib.join (L.map fun v => v.tx.data.toList) [44, 32]
theorem joinA_nil : joinA [] = [] := rfl
theorem joinA_snoc (L : List A5) (v : A5) : joinA (L ++ [v]) = if L = [] then v.tx.data.toList else joinA L ++ (44 :: 32 :: v.tx.data.toList) := by
  unfold joinA Lib.join
  induction L with
  | nil => simp [List.intercalate]
  | cons a r ih =>
    rw [if_neg (by simp)]
    cases r with
    | nil => simp [List.intercalate]
    | cons b s =>
      rw [if_neg (by simp)] at ih
      simp only [List.map_append, List.map_cons, List.map_nil, List.cons_append] at ih ⊢
      have e : ∀ (p q : List UInt8) (t : List (List UInt8)), List.intercalate [44, 32] (p :: q :: t) = p ++ (44 :: 32 :: List.intercalate [44, 32] (q :: t)) := fun p q t => by simp [List.intercalate, List.intersperse]
      rw [e, e, ih]
      simp
theorem joinA_take {L : List A5} (h : ∀ v ∈ L, v.ok = true) : ∀ k, k ≤ L.length → (joinA (L.take k)).length ≤ 24 * k
  | 0, _ => by simp [joinA_nil]
  | k + 1, hk => by
    have ih := joinA_take h k (by omega)
    have h2 := txA_size (h L[k] (List.getElem_mem (by omega)))
    have e : L[k].tx.data.toList.length = L[k].tx.size := by rw [Array.length_toList]; rfl
    rw [List.take_succ_eq_append_getElem (by omega), joinA_snoc]
    split
    · omega
    · simp only [List.length_append, List.length_cons]; omega
theorem joinA_le {L : List A5} (h : ∀ v ∈ L, v.ok = true) : (joinA L).length ≤ 24 * L.length := by
  have := joinA_take h L.length (Nat.le_refl _)
  rwa [List.take_length] at this
def notT (nt : Bool) (t : ByteArray) : ByteArray := if nt then ⟨#[33]⟩ ++ t else t
def patT (kd : ByteArray) (L : List A5) (nt : Bool) : ByteArray := if patB kd L then notT nt (kd ++ ⟨#[40]⟩) ++ ⟨(joinA L).toArray⟩ ++ ⟨#[41]⟩ else ⟨#[]⟩
theorem patT_no {kd : ByteArray} {L : List A5} {nt : Bool} (h : patB kd L = false) : patT kd L nt = ⟨#[]⟩ := by unfold patT; rw [if_neg (by rw [h]; simp)]
theorem patT_yes {kd : ByteArray} {L : List A5} {nt : Bool} (h : patB kd L = true) : patT kd L nt = notT nt (kd ++ ⟨#[40]⟩) ++ ⟨(joinA L).toArray⟩ ++ ⟨#[41]⟩ := by unfold patT; rw [if_pos h]
theorem patB_open {kd : ByteArray} {L : List A5} (h : patB kd L = true) : nameB kd = true ∧ L.length ≤ 5 ∧ ∀ v ∈ L, v.ok = true := by
  unfold patB at h
  simp only [Bool.and_eq_true, decide_eq_true_eq, List.all_eq_true] at h
  exact ⟨h.1.1, h.1.2, h.2⟩
theorem nameP_size {s : ByteArray} (h : nameB s = true) : s.size ≤ 12 := by
  unfold nameB inB at h
  simp only [Bool.and_eq_true, decide_eq_true_eq] at h
  omega

end Go.Proofs.YtbellpalomiokabDoor
