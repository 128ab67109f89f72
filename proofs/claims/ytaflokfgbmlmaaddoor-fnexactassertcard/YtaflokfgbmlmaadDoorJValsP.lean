/-
  Values come back of their bytes and of their texts, plainly.
-/
import Derived.Test.YtaflokfgbmlmaadDoorJDec
import Derived.Test.YtaflokfgbmlmaadDoorJEncV
import Derived.Test.YtaflokfgbmlmaadDoorJValR
import Derived.Test.YtaflokfgbmlmaadDoorJParse
namespace Go.Proofs.YtaflokfgbmlmaadDoor
open Go.RowKit Go.Lib
set_option linter.unusedVariables false

theorem clamp_id {n : Int} (h : -1000000000 ≤ n ∧ n ≤ 1000000000) : clampN n = n := by unfold clampN; rw [if_neg (by omega), if_neg (by omega)]
theorem valB_one {N : Int} {S : ByteArray} (h : valB 1 N S = true) : (-1000000000 ≤ N ∧ N ≤ 1000000000) ∧ S = ⟨#[]⟩ := by
  by_cases hN : -1000000000 ≤ N ∧ N ≤ 1000000000
  · rw [valB_num S hN, decide_eq_true_iff] at h
    exact ⟨hN, empty_of_size h⟩
  · rw [valB_out S hN] at h; cases h
theorem valB_two {K N : Int} {S : ByteArray} (h : valB K N S = true) (hk : K ≠ 1) : K = 2 ∧ N = 0 ∧ S.size ≤ 20 := by
  by_cases h2 : K = 2
  · subst h2
    rw [valB_text, Bool.and_eq_true] at h
    exact ⟨rfl, by simpa using h.2, textB_le h.1⟩
  · rw [valB_none N S hk h2] at h; cases h

/-- a value that was put comes back, whatever stands ahead -/
theorem val_back (bs : List UInt8) (K N : Int) (S : ByteArray) (h : valB K N S = true) :
    valR (bs ++ encV K N S) (bs.length : Int) = (K, N, S, ((bs ++ encV K N S).length : Int), true) := by
  by_cases hk : K = 1
  · subst hk
    obtain ⟨hN, rfl⟩ := valB_one h
    rw [encV_num]
    have h1 := num_back bs (encN N) 1
    rw [clamp_id (by omega), List.append_assoc] at h1
    have h2 := num_back (bs ++ encN 1) [] N
    rw [clamp_id hN, List.append_nil, List.append_assoc] at h2
    rw [valR_num h1 h2, h]
    rfl
  · obtain ⟨rfl, rfl, hS⟩ := valB_two h hk
    rw [encV_text _ _ (by decide)]
    have h1 := num_back bs (encT S) 2
    rw [clamp_id (by omega), List.append_assoc] at h1
    have h2 := encT_back (bs ++ encN 2) S (by omega)
    rw [show (bs ++ encN 2 ++ (encN S.size ++ S.data.toList)) = bs ++ (encN 2 ++ encT S) by rw [List.append_assoc]; rfl] at h2
    rw [valR_text h1 (by decide) h2, h]
    rfl

theorem parse_back (K N : Int) (S : ByteArray) (h : valB K N S = true) : parseO (textV K N S) = some ⟨K, N, S⟩ := by
  by_cases hk : K = 1
  · subst hk
    obtain ⟨hN, rfl⟩ := valB_one h
    have hn := numV_itoa (n := N) (numOk_iff.2 hN)
    rw [textV_num h]
    have hq : quotedB ⟨(itoa N).toArray⟩ = false := by
      rw [Bool.eq_false_iff]
      intro hq
      obtain ⟨h1, h0, -⟩ := quotedB_iff.1 hq
      cases hl : itoa N with
      | nil => rw [hl] at h1; exact absurd h1 (by decide)
      | cons c r =>
        rw [hl] at hn h0
        rw [bat_in (by show 0 < (c :: r).toArray.size; simp)] at h0
        have hc : c.toNat = 39 := by
          have : ((ByteArray.mk (c :: r).toArray)[0]'(by show 0 < (c :: r).toArray.size; simp)) = c := by simp [ByteArray.getElem_eq_getElem_data]
          rw [this] at h0; omega
        rw [numV_head hc] at hn; cases hn
    unfold parseO
    rw [if_neg (by simp [hq])]
    show (numV ((itoa N).toArray).toList).map _ = _
    rw [List.toList_toArray, hn]; rfl
  · obtain ⟨rfl, rfl, hS⟩ := valB_two h hk
    rw [textV_text h hk]
    have e1 : (⟨#[39]⟩ : ByteArray).size = 1 := rfl
    have hsz : (⟨#[39]⟩ ++ S ++ ⟨#[39]⟩ : ByteArray).size = S.size + 2 := by simp only [ByteArray.size_append, e1]; omega
    have hq : quotedB (⟨#[39]⟩ ++ S ++ ⟨#[39]⟩) = true := by
      refine quotedB_iff.2 ⟨by omega, ?_, inner_last rfl⟩
      rw [bat_in (by omega), ByteArray.getElem_append_left (by simp only [ByteArray.size_append, e1]; omega), ByteArray.getElem_append_left (by rw [e1]; omega)]; rfl
    have hi : (⟨#[39]⟩ ++ S ++ ⟨#[39]⟩ : ByteArray).extract 1 ((⟨#[39]⟩ ++ S ++ ⟨#[39]⟩ : ByteArray).size - 1) = S := by
      apply ByteArray.ext_getElem
      · rw [ByteArray.size_extract, hsz]; omega
      · intro i hi hi'
        rw [ByteArray.getElem_extract, ByteArray.getElem_append_left (by simp only [ByteArray.size_append, e1]; omega), ByteArray.getElem_append_right (by rw [e1]; omega)]
        congr 1
        rw [e1]; omega
    unfold parseO
    rw [if_pos hq, hi, h]; rfl
theorem textV_size {K N : Int} {S : ByteArray} (h : valB K N S = true) : (textV K N S).size ≤ 22 := by
  by_cases hk : K = 1
  · subst hk
    obtain ⟨hN, rfl⟩ := valB_one h
    rw [textV_num h]
    show (itoa N).toArray.size ≤ 22
    simp only [List.size_toArray]
    by_cases hn : N < 0
    · rw [itoa_neg hn]; have := nDigits_10 N.natAbs (by omega); simp only [List.length_cons]; rw [decDigits_length]; omega
    · rw [itoa_pos hn]; have := nDigits_10 N.toNat (by omega); rw [decDigits_length]; omega
  · obtain ⟨rfl, rfl, hS⟩ := valB_two h hk
    rw [textV_text h hk]
    have e1 : (⟨#[39]⟩ : ByteArray).size = 1 := rfl
    simp only [ByteArray.size_append, e1]; omega
end Go.Proofs.YtaflokfgbmlmaadDoor
