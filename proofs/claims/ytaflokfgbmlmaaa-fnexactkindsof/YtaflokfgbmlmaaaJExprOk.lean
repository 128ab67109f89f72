/-
  What both ExprOks answer: exprB.
-/
import Derived.Test.YtaflokfgbmlmaaaJMay
import Derived.Test.YtaflokfgbmlmaaaJoined2
namespace Go.Proofs.Ytaflokfgbmlmaaa
open Go.RowKit
set_option linter.unusedVariables false

/-- an argument that is none at all -/
def noArg (R : A5) : Bool := decide (R.K = 0) && decide (R.S.size = 0) && decide (R.V = zV)
/-- when a term is right -/
def exprB (Op : ByteArray) (L R : A5) : Bool :=
  if Op.size = 0 then mayB L.K L.S L.V && noArg R else if Op = ⟨#[43]⟩ ∨ Op = ⟨#[45]⟩ then mayB L.K L.S L.V && mayB R.K R.S R.V else false
def X11.ok (x : X11) : Bool := exprB x.Op x.L x.R
theorem exprB0 (L R : A5) : exprB ⟨#[]⟩ L R = (mayB L.K L.S L.V && noArg R) := rfl
theorem exprB1 (L R : A5) : exprB ⟨#[43]⟩ L R = (mayB L.K L.S L.V && mayB R.K R.S R.V) := by simp [exprB]; intro h; exact absurd h (by decide)
theorem exprB2 (L R : A5) : exprB ⟨#[45]⟩ L R = (mayB L.K L.S L.V && mayB R.K R.S R.V) := by simp [exprB]; intro h; exact absurd h (by decide)
/-- an operator: none, one of the two signs, or another text -/
theorem op_cases (Op : ByteArray) : Op = ⟨#[]⟩ ∨ Op = ⟨#[43]⟩ ∨ Op = ⟨#[45]⟩ ∨ (Op.toList.isEmpty = false ∧ (Op.toList == [43]) = false ∧ (Op.toList == [45]) = false ∧ Op.size ≠ 0 ∧ Op ≠ ⟨#[43]⟩ ∧ Op ≠ ⟨#[45]⟩) := by
  by_cases h0 : Op.size = 0
  · exact .inl (empty_of_size h0)
  · by_cases h1 : Op = ⟨#[43]⟩
    · exact .inr (.inl h1)
    · by_cases h2 : Op = ⟨#[45]⟩
      · exact .inr (.inr (.inl h2))
      · refine .inr (.inr (.inr ⟨isEmpty_false h0, ?_, ?_, h0, h1, h2⟩))
        · simp only [beq_eq_false_iff_ne, ne_eq]
          exact fun e => h1 (toList_inj (e.trans (by rw [ByteArray.toList_eq])))
        · simp only [beq_eq_false_iff_ne, ne_eq]
          exact fun e => h2 (toList_inj (e.trans (by rw [ByteArray.toList_eq])))
theorem exprB_no {Op : ByteArray} (L R : A5) (h0 : Op.size ≠ 0) (h1 : Op ≠ ⟨#[43]⟩) (h2 : Op ≠ ⟨#[45]⟩) : exprB Op L R = false := by
  unfold exprB; rw [if_neg h0, if_neg (fun h => h.elim h1 h2)]
/-- an argument is none at all, or it parts from none at one of its cells -/
theorem noArg_cases (K : Int) (S : ByteArray) (VK VN : Int) (VS : ByteArray) :
    (noArg ⟨K, S, ⟨VK, VN, VS⟩⟩ = true ∧ K = 0 ∧ S = ⟨#[]⟩ ∧ VK = 0 ∧ VN = 0 ∧ VS = ⟨#[]⟩) ∨ (noArg ⟨K, S, ⟨VK, VN, VS⟩⟩ = false ∧ (K == 0) = false) ∨ (noArg ⟨K, S, ⟨VK, VN, VS⟩⟩ = false ∧ K = 0 ∧ S.toList.isEmpty = false) ∨
    (noArg ⟨K, S, ⟨VK, VN, VS⟩⟩ = false ∧ K = 0 ∧ S = ⟨#[]⟩ ∧ (VK == 0) = false) ∨ (noArg ⟨K, S, ⟨VK, VN, VS⟩⟩ = false ∧ K = 0 ∧ S = ⟨#[]⟩ ∧ VK = 0 ∧ (VN == 0) = false) ∨ (noArg ⟨K, S, ⟨VK, VN, VS⟩⟩ = false ∧ K = 0 ∧ S = ⟨#[]⟩ ∧ VK = 0 ∧ VN = 0 ∧ VS.toList.isEmpty = false) := by
  unfold noArg
  by_cases h1 : K = 0
  · by_cases h2 : S.size = 0
    · obtain rfl := empty_of_size h2
      rcases v_cases VK VN VS with ⟨rfl, rfl, rfl⟩ | k | ⟨rfl, k⟩ | ⟨rfl, rfl, k⟩
      · exact .inl ⟨by rw [h1, zV_z]; rfl, h1, rfl, rfl, rfl, rfl⟩
      · exact .inr (.inr (.inr (.inl ⟨by simp only; rw [zV_K k, Bool.and_false], h1, rfl, k⟩)))
      · exact .inr (.inr (.inr (.inr (.inl ⟨by simp only; rw [zV_N k, Bool.and_false], h1, rfl, rfl, k⟩))))
      · exact .inr (.inr (.inr (.inr (.inr ⟨by simp only; rw [zV_S k, Bool.and_false], h1, rfl, rfl, rfl, isEmpty_false k⟩))))
    · exact .inr (.inr (.inl ⟨by simp only; rw [decide_eq_false h2, Bool.and_false, Bool.false_and], h1, isEmpty_false h2⟩))
  · exact .inr (.inl ⟨by simp only; rw [decide_eq_false h1, Bool.false_and, Bool.false_and], by simpa using h1⟩)

end Go.Proofs.Ytaflokfgbmlmaaa
