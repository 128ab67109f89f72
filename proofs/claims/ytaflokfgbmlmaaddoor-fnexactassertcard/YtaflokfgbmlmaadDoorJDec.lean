/-
  Numbers and texts come back of their bytes, plainly: what numR and textR read behind what encN and encT write. No program is spoken of here.
-/
import Derived.Test.YtaflokfgbmlmaadDoorJEnc
import Derived.Test.YtaflokfgbmlmaadDoorJTextR
namespace Go.Proofs.YtaflokfgbmlmaadDoor
open Go.RowKit
set_option linter.unusedVariables false

theorem encG_fit : ∀ f m g, m < 128 ^ (g + 1) → (encG f m).length ≤ g + 1
  | 0, m, g, h => by simp [encG]
  | f + 1, m, 0, h => by simp at h; rw [encG_small (by omega)]; simp
  | f + 1, m, g + 1, h => by
    by_cases hs : m < 128
    · rw [encG_small hs]; simp
    · rw [encG_big hs]
      have := encG_fit f (m / 128) g (by rw [Nat.pow_succ] at h; exact Nat.div_lt_of_lt_mul (by omega))
      simp; omega
theorem byteAt_ofNat {m : Nat} (h : m < 256) (r : List UInt8) : byteAt (UInt8.ofNat m :: r) 0 = (m : Int) := by
  unfold byteAt; simp [List.getD]; omega
theorem byteAt_cons (c : UInt8) (r : List UInt8) (i : Nat) : byteAt (c :: r) (i + 1) = byteAt r i := by
  unfold byteAt; simp [List.getD]
theorem byteAt_append (a b : List UInt8) (i : Nat) : byteAt (a ++ b) (a.length + i) = byteAt b i := by
  unfold byteAt; simp [List.getD, List.getElem?_append_right]

/-- the groups of m stand at A + k: the scan finds their last one, they add up to m, and their last one is 0 only where m is -/
theorem scan_enc (L : List UInt8) (A : Nat) : ∀ f m k F, m < 128 ^ (f + 1) → (encG f m).length ≤ F →
    (∀ j, j < (encG f m).length → byteAt L (A + k + j) = byteAt (encG f m) j) → A + k + (encG f m).length ≤ L.length →
    scanN L A F k = some (k + (encG f m).length - 1) ∧ accN L A (k + (encG f m).length) = accN L A k + m * 128 ^ k ∧ (byteAt L (A + (k + (encG f m).length - 1)) = 0 → m = 0)
  | f, m, k, F, hm, hF, hb, hl => by
    by_cases hs : m < 128
    · rw [encG_small hs] at hF hb hl ⊢
      simp at hF hl ⊢
      have h0 := hb 0 (by simp)
      rw [Nat.add_zero, byteAt_ofNat (by omega)] at h0
      obtain ⟨F', rfl⟩ : ∃ F', F = F' + 1 := ⟨F - 1, by omega⟩
      refine ⟨?_, ?_, ?_⟩
      · rw [scanN, if_pos (by omega), if_pos (by omega)]
      · show accN L A k + (byteAt L (A + k)).toNat % 128 * 128 ^ k = _
        rw [h0, Int.toNat_natCast, Nat.mod_eq_of_lt hs]
      · intro h; rw [h0] at h; omega
    · cases f with
      | zero => simp at hm; omega
      | succ f =>
        rw [encG_big hs] at hF hb hl ⊢
        simp only [List.length_cons] at hF hb hl ⊢
        have h0 := hb 0 (by omega)
        rw [Nat.add_zero, byteAt_ofNat (by omega)] at h0
        obtain ⟨F', rfl⟩ : ∃ F', F = F' + 1 := ⟨F - 1, by omega⟩
        have hp := encG_pos f (m / 128)
        have ih := scan_enc L A f (m / 128) (k + 1) F' (by rw [Nat.pow_succ] at hm; exact Nat.div_lt_of_lt_mul (by omega)) (by omega)
          (fun j hj => by
            have := hb (j + 1) (by omega)
            rw [byteAt_cons] at this
            rw [← this, show A + (k + 1) + j = A + k + (j + 1) by omega])
          (by omega)
        obtain ⟨i1, i2, i3⟩ := ih
        refine ⟨?_, ?_, ?_⟩
        · rw [scanN, if_pos (by omega), if_neg (by omega), i1]
          congr 1; omega
        · rw [show k + ((encG f (m / 128)).length + 1) = k + 1 + (encG f (m / 128)).length by omega, i2]
          show accN L A k + (byteAt L (A + k)).toNat % 128 * 128 ^ k + m / 128 * 128 ^ (k + 1) = _
          rw [h0, Nat.pow_succ]
          have e : (((m % 128 + 128 : Nat) : Int)).toNat % 128 = m % 128 := by omega
          rw [e, show m / 128 * (128 ^ k * 128) = (m / 128 * 128) * 128 ^ k by rw [Nat.mul_assoc, Nat.mul_comm 128 (128 ^ k)], Nat.add_assoc, ← Nat.add_mul]
          rw [show m % 128 + m / 128 * 128 = m by omega]
        · intro h
          rw [show k + ((encG f (m / 128)).length + 1) - 1 = k + 1 + (encG f (m / 128)).length - 1 by omega] at h
          have := i3 h
          omega

/-- cut by one byte no number stands there -/
theorem scan_cut (L : List UInt8) (A : Nat) : ∀ f m k F, m < 128 ^ (f + 1) →
    (∀ j, j + 1 < (encG f m).length → byteAt L (A + k + j) = byteAt (encG f m) j) → A + k + (encG f m).length = L.length + 1 → scanN L A F k = none
  | f, m, k, 0, hm, hb, hl => rfl
  | f, m, k, F + 1, hm, hb, hl => by
    by_cases hs : m < 128
    · rw [encG_small hs] at hl
      simp at hl
      rw [scanN, if_neg (by omega)]
    · cases f with
      | zero => simp at hm; omega
      | succ f =>
        rw [encG_big hs] at hb hl
        simp only [List.length_cons] at hb hl
        have hp := encG_pos f (m / 128)
        have h0 := hb 0 (by omega)
        rw [Nat.add_zero, byteAt_ofNat (by omega)] at h0
        rw [scanN, if_pos (by omega), if_neg (by omega)]
        exact scan_cut L A f (m / 128) (k + 1) F (by rw [Nat.pow_succ] at hm; exact Nat.div_lt_of_lt_mul (by omega))
          (fun j hj => by
            have := hb (j + 1) (by omega)
            rw [byteAt_cons] at this
            rw [← this, show A + (k + 1) + j = A + k + (j + 1) by omega])
          (by omega)

theorem unf_fold (n : Int) : unfN (foldN n) = n := by
  by_cases h : n < 0
  · have := foldN_neg h
    rw [unfN_odd (by omega)]; omega
  · have := foldN_pos h
    rw [unfN_even (by omega)]; omega

/-- a number that was put comes back, whatever stands behind it -/
theorem num_back (bs tl : List UInt8) (n : Int) : numR (bs ++ encN n ++ tl) (bs.length : Int) = (clampN n, ((bs ++ encN n).length : Int), true) := by
  have hm := foldN_le (clampN_in n)
  have hf := encG_fit 5 (foldN (clampN n)) 4 (by omega)
  have hp := encG_pos 5 (foldN (clampN n))
  have hs := scan_enc (bs ++ encN n ++ tl) bs.length 5 (foldN (clampN n)) 0 5 (by omega) hf
    (fun j hj => by
      rw [Nat.add_zero, List.append_assoc, byteAt_append]
      unfold byteAt encN
      simp [List.getD, List.getElem?_append_left hj])
    (by simp [encN])
  simp only [Nat.zero_add, Nat.pow_zero, Nat.mul_one] at hs
  obtain ⟨h1, h2, h3⟩ := hs
  rw [numR_some h1, show (encG 5 (foldN (clampN n))).length - 1 + 1 = (encG 5 (foldN (clampN n))).length by omega, h2]
  have e : accN (bs ++ encN n ++ tl) bs.length 0 = 0 := rfl
  rw [e, Nat.zero_add, unf_fold]
  rw [if_neg]
  · simp [encN]; omega
  · rintro (⟨ha, hb⟩ | hb)
    · have := h3 hb
      rw [this, encG_small (by omega)] at ha
      simp at ha
    · omega
theorem num_cut (bs : List UInt8) (n : Int) : (numR ((bs ++ encN n).take ((bs ++ encN n).length - 1)) (bs.length : Int)).2.2 = false := by
  have hm := foldN_le (clampN_in n)
  have hp := encG_pos 5 (foldN (clampN n))
  have hl : ((bs ++ encN n).take ((bs ++ encN n).length - 1)).length = bs.length + (encG 5 (foldN (clampN n))).length - 1 := by
    simp [encN]
  rw [numR_none (scan_cut _ bs.length 5 (foldN (clampN n)) 0 5 (by omega) (fun j hj => by
    rw [Nat.add_zero]
    have e := byteAt_append bs (encN n) j
    unfold byteAt at e ⊢
    rw [← show encN n = encG 5 (foldN (clampN n)) from rfl, ← e]
    simp only [List.getD]
    rw [List.getElem?_take, if_pos (by simp [encN]; omega)]) (by rw [hl]; omega))]

theorem encT_back (bs : List UInt8) (s : ByteArray) (hs : s.size ≤ 1000000000) :
    textR (bs ++ (encN s.size ++ s.data.toList)) (bs.length : Int) = (s, ((bs ++ (encN s.size ++ s.data.toList)).length : Int), true) := by
  have e : s.data.toList.length = s.size := by rw [Array.length_toList]; rfl
  have hc : clampN (s.size : Int) = s.size := by unfold clampN; rw [if_neg (by omega), if_neg (by omega)]
  have hn := num_back bs s.data.toList s.size
  rw [hc, List.append_assoc] at hn
  rw [textR_yes (bs ++ (encN s.size ++ s.data.toList)) bs.length (bs ++ encN s.size).length s.size (by rw [hn]; simp; omega) (by rw [hn]) (by rw [hn])]
  rw [← List.append_assoc, List.drop_left' rfl, List.take_of_length_le (by omega)]
  simp; omega
end Go.Proofs.YtaflokfgbmlmaadDoor
