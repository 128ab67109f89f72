/-
  Plainly: what is read as a number, a text or a value has just the bytes that are put for it.
-/
import Derived.Test.YtofdbnkeddcdjaaDoorDec
import Derived.Test.YtofdbnkeddcdjaaDoorValR
import Derived.Test.YtofdbnkeddcdjaaDoorEncV
namespace Go.Proofs.YtofdbnkeddcdjaaDoor
open Go.RowKit
set_option linter.unusedVariables false

theorem accN_shift (bs : List UInt8) (A : Nat) : ∀ k, accN bs A (k + 1) = (byteAt bs A).toNat % 128 + 128 * accN bs (A + 1) k
  | 0 => by simp [accN]
  | k + 1 => by
    have ih := accN_shift bs A k
    show accN bs A (k + 1) + (byteAt bs (A + (k + 1))).toNat % 128 * 128 ^ (k + 1) = _
    rw [ih]
    show _ = (byteAt bs A).toNat % 128 + 128 * (accN bs (A + 1) k + (byteAt bs (A + 1 + k)).toNat % 128 * 128 ^ k)
    rw [show A + (k + 1) = A + 1 + k by omega, Nat.pow_succ, Nat.mul_add, Nat.add_assoc]
    congr 2
    rw [Nat.mul_comm (128 ^ k) 128, ← Nat.mul_assoc, ← Nat.mul_assoc, Nat.mul_comm _ 128]
theorem byteAt_get {bs : List UInt8} {i : Nat} (h : i < bs.length) : byteAt bs i = ((bs[i]).toNat : Int) := by unfold byteAt; simp [List.getD, h]
theorem scanN_is {bs : List UInt8} {A k : Nat} : ∀ {f k0 : Nat}, scanN bs A f k0 = some k → k0 ≤ k ∧ k < k0 + f ∧ (∀ j, k0 ≤ j → j < k → 128 ≤ byteAt bs (A + j)) ∧ byteAt bs (A + k) < 128 ∧ A + k < bs.length
  | 0, k0, h => by cases h
  | f + 1, k0, h => by
    unfold scanN at h
    split at h
    · rename_i h1
      split at h
      · rename_i h2
        simp only [Option.some.injEq] at h
        subst h
        exact ⟨Nat.le_refl _, by omega, fun j hj hj2 => by omega, h2, h1⟩
      · rename_i h2
        obtain ⟨a1, a2, a3, a4, a5⟩ := scanN_is h
        refine ⟨by omega, by omega, fun j hj hj2 => ?_, a4, a5⟩
        by_cases e : j = k0
        · rw [e]; omega
        · exact a3 j (by omega) hj2
    · cases h
theorem accN_pos {bs : List UInt8} {A k : Nat} (h1 : byteAt bs (A + k) < 128) (h2 : byteAt bs (A + k) ≠ 0) (h3 : A + k < bs.length) : 1 ≤ accN bs A (k + 1) := by
  have e0 : accN bs A (k + 1) = accN bs A k + (byteAt bs (A + k)).toNat % 128 * 128 ^ k := rfl
  have e : 1 ≤ (byteAt bs (A + k)).toNat % 128 := by
    rw [byteAt_get h3] at h1 h2 ⊢
    omega
  have hp : 1 ≤ 128 ^ k := Nat.pow_pos (by omega)
  have := Nat.mul_le_mul e hp
  rw [e0]
  omega
/-- the groups that were read are the groups that are put -/
theorem canonG {bs : List UInt8} (k : Nat) : ∀ (f A : Nat), k ≤ f → (∀ j, j < k → 128 ≤ byteAt bs (A + j)) → byteAt bs (A + k) < 128 → A + k < bs.length → (k = 0 ∨ byteAt bs (A + k) ≠ 0) → encG f (accN bs A (k + 1)) = (bs.drop A).take (k + 1) := by
  induction k with
  | zero =>
    intro f A hf hb hl hA hz
    have hA0 : A < bs.length := by simpa using hA
    rw [Nat.add_zero, byteAt_get hA0] at hl
    have e : accN bs A (0 + 1) = (bs[A]).toNat := by
      rw [accN_shift, byteAt_get hA0]
      show ((bs[A]).toNat : Int).toNat % 128 + 128 * 0 = _
      omega
    rw [e, encG_small (by omega), List.drop_eq_getElem_cons hA0, List.take_succ_cons, List.take_zero, UInt8.ofNat_toNat]
  | succ k ih =>
    intro f A hf hb hl hA hz
    obtain ⟨g, rfl⟩ : ∃ g, f = g + 1 := ⟨f - 1, by omega⟩
    have hA0 : A < bs.length := by omega
    have hne : byteAt bs (A + (k + 1)) ≠ 0 := by rcases hz with h | h; omega; exact h
    have e1 : A + (k + 1) = A + 1 + k := by omega
    rw [e1] at hl hA hne
    have hpos := accN_pos hl hne hA
    have ih2 := ih g (A + 1) (by omega) (fun j hj => by have := hb (j + 1) (by omega); rw [show A + 1 + j = A + (j + 1) by omega]; exact this) hl hA (.inr hne)
    have hb0 := hb 0 (by omega)
    rw [Nat.add_zero, byteAt_get hA0] at hb0
    have hlt : (bs[A]).toNat < 256 := (bs[A]).toNat_lt
    obtain ⟨M, hM⟩ : ∃ M, accN bs (A + 1) (k + 1) = M := ⟨_, rfl⟩
    rw [accN_shift, byteAt_get hA0, hM]
    rw [hM] at hpos ih2
    rw [encG_big (by omega)]
    have m1 : (((bs[A]).toNat : Int).toNat % 128 + 128 * M) % 128 + 128 = (bs[A]).toNat := by omega
    have m2 : (((bs[A]).toNat : Int).toNat % 128 + 128 * M) / 128 = M := by omega
    rw [m1, m2, ih2, List.drop_eq_getElem_cons hA0, List.take_succ_cons, UInt8.ofNat_toNat]
theorem fold_unf {m : Nat} (h : m ≤ 2000000000) : foldN (clampN (unfN m)) = m := by
  have hc : clampN (unfN m) = unfN m := by unfold clampN unfN; split <;> split <;> (try split) <;> omega
  rw [hc]
  unfold foldN unfN
  split <;> split <;> omega

/-- the bytes from one place to another -/
def seg (bs : List UInt8) (A B : Nat) : List UInt8 := (bs.drop A).take (B - A)
theorem seg_join {bs : List UInt8} {A B C : Nat} (h1 : A ≤ B) (h2 : B ≤ C) : seg bs A B ++ seg bs B C = seg bs A C := by
  unfold seg
  rw [show C - A = (B - A) + (C - B) by omega, List.take_add, List.drop_drop, show A + (B - A) = B by omega]
theorem seg_length {bs : List UInt8} {A B : Nat} (h : B ≤ bs.length) (hAB : A ≤ B) : (seg bs A B).length = B - A := by unfold seg; simp; omega
theorem num_canon {bs : List UInt8} {x n q : Int} (h : numR bs x = (n, q, true)) : ∃ A B : Nat, x = A ∧ q = B ∧ A ≤ B ∧ B ≤ bs.length ∧ seg bs A B = encN n := by
  by_cases h0 : x < 0
  · rw [numR_neg h0] at h; simp at h
  · obtain ⟨A, rfl⟩ := Int.eq_ofNat_of_zero_le (show 0 ≤ x by omega)
    cases hs : scanN bs A 5 0 with
    | none => rw [numR_none hs] at h; simp at h
    | some k =>
      rw [numR_some hs] at h
      split at h
      · simp at h
      · rename_i hc
        simp only [Prod.mk.injEq, and_true] at h
        obtain ⟨-, hk, hb, hl, hA⟩ := scanN_is hs
        have hz : k = 0 ∨ byteAt bs (A + k) ≠ 0 := by
          by_cases e : k = 0
          · exact .inl e
          · right; intro e2; exact hc (.inl ⟨e, e2⟩)
        have hm : accN bs A (k + 1) ≤ 2000000000 := by
          by_cases e : accN bs A (k + 1) ≤ 2000000000
          · exact e
          · exact absurd (.inr (by omega)) hc
        refine ⟨A, A + k + 1, rfl, by rw [← h.2]; omega, by omega, by omega, ?_⟩
        have := canonG (bs := bs) k 5 A (by omega) (fun j hj => hb j (Nat.zero_le _) hj) hl hA hz
        unfold seg encN
        rw [← h.1, fold_unf hm, this, show A + k + 1 - A = k + 1 by omega]
theorem text_canon {bs : List UInt8} {x q : Int} {s : ByteArray} (h : textR bs x = (s, q, true)) : ∃ A B : Nat, x = A ∧ q = B ∧ A ≤ B ∧ B ≤ bs.length ∧ seg bs A B = encT s := by
  unfold textR at h
  split at h
  · simp at h
  · rename_i hc
    obtain ⟨n, p, b, hn⟩ : ∃ n p b, numR bs x = (n, p, b) := ⟨_, _, _, rfl⟩
    rw [hn] at hc h
    simp only [not_or, Bool.not_eq_false] at hc
    obtain ⟨rfl, h1, h2⟩ := hc
    obtain ⟨A, P, rfl, rfl, hAP, hPl, he⟩ := num_canon hn
    obtain ⟨N, rfl⟩ := Int.eq_ofNat_of_zero_le (show 0 ≤ n by omega)
    simp only [Prod.mk.injEq, and_true, Int.toNat_natCast] at h
    obtain ⟨hs, hq⟩ := h
    refine ⟨A, P + N, rfl, by rw [← hq]; omega, by omega, by omega, ?_⟩
    have hsl : s.data.toList = seg bs P (P + N) := by rw [← hs]; unfold seg; rw [show P + N - P = N by omega]
    have hsz : s.size = N := by
      have e : s.data.toList.length = s.size := by rw [Array.length_toList]; rfl
      rw [← e, hsl, seg_length (by omega) (by omega)]; omega
    unfold encT
    rw [hsz, hsl, ← he, seg_join hAP (by omega)]
theorem val_canon {bs : List UInt8} {x K N q : Int} {S : ByteArray} (h : valR bs x = (K, N, S, q, true)) : valB K N S = true ∧ ∃ A B : Nat, x = A ∧ q = B ∧ A ≤ B ∧ B ≤ bs.length ∧ seg bs A B = encV K N S := by
  obtain ⟨k, p, b, hn⟩ : ∃ k p b, numR bs x = (k, p, b) := ⟨_, _, _, rfl⟩
  cases b
  · rw [valR_no (by rw [hn])] at h; simp at h
  · obtain ⟨A, P, rfl, rfl, hAP, hPl, he⟩ := num_canon hn
    by_cases hk : k = 1
    · subst hk
      obtain ⟨m, r, c, h2⟩ : ∃ m r c, numR bs (P : Int) = (m, r, c) := ⟨_, _, _, rfl⟩
      rw [valR_num hn h2] at h
      split at h
      · rename_i hc
        rw [Bool.and_eq_true] at hc
        obtain ⟨rfl, hv⟩ := hc
        simp only [Prod.mk.injEq, and_true] at h
        obtain ⟨rfl, rfl, rfl, rfl⟩ := h
        obtain ⟨P', B, e1, rfl, hPB, hB, he2⟩ := num_canon h2
        obtain rfl : P = P' := by omega
        exact ⟨hv, A, B, rfl, rfl, by omega, hB, by rw [encV_num, ← he, ← he2, seg_join hAP hPB]⟩
      · simp at h
    · obtain ⟨s, r, c, h2⟩ : ∃ s r c, textR bs (P : Int) = (s, r, c) := ⟨_, _, _, rfl⟩
      rw [valR_text hn hk h2] at h
      split at h
      · rename_i hc
        rw [Bool.and_eq_true] at hc
        obtain ⟨rfl, hv⟩ := hc
        simp only [Prod.mk.injEq, and_true] at h
        obtain ⟨rfl, rfl, rfl, rfl⟩ := h
        obtain ⟨P', B, e1, rfl, hPB, hB, he2⟩ := text_canon h2
        obtain rfl : P = P' := by omega
        exact ⟨hv, A, B, rfl, rfl, by omega, hB, by rw [encV_text _ _ hk, ← he, ← he2, seg_join hAP hPB]⟩
      · simp at h
end Go.Proofs.YtofdbnkeddcdjaaDoor
