/-
  What the functions on a value's text answer, the tested one and the model alike: textB of the text, in the world as it was.
-/
import Derived.Test.YtaflokfgbmlmaaaJAllB
namespace Go.Proofs.Ytaflokfgbmlmaaa
open Go.RowKit
set_option linter.unusedVariables false

/-- may a text be a value's? -/
def textB (s : ByteArray) : Bool := (List.range s.size).all (fun i => wordB (bat s i)) && decide (s.size ≤ 20)

theorem textB_no {s : ByteArray} {i : Nat} (h : i < s.size) (hb : wordB (bat s i) = false) : textB s = false := by
  unfold textB
  rw [Bool.and_eq_false_iff]
  left
  rw [← Bool.not_eq_true, List.all_eq_true]
  intro h2
  have := h2 i (by simpa using h)
  rw [hb] at this
  cases this
theorem textB_all {s : ByteArray} (h : ∀ i, i < s.size → wordB (bat s i) = true) : textB s = decide (s.size ≤ 20) := by
  unfold textB
  have : (List.range s.size).all (fun i => wordB (bat s i)) = true := by
    rw [List.all_eq_true]; intro i hi; exact h i (by simpa using hi)
  rw [this]; simp
theorem textB_size {s : ByteArray} (h : ¬ s.size ≤ 20) : textB s = false := by
  unfold textB
  rw [Bool.and_eq_false_iff]
  right
  simpa using h
theorem textB_le {s : ByteArray} (h : textB s = true) : s.size ≤ 20 := by
  by_cases h2 : s.size ≤ 20
  · exact h2
  · rw [textB_size h2] at h; cases h

set_option maxHeartbeats 800000 in
theorem l2Plain_any (s : ByteArray) (w : World) (hs : s.size ≤ maxLen) :
    Calls Try.prog 85 #[.string s] w fun e w' => e = .returned (.bool (textB s)) ∧ w' = w := by
  unfold maxLen at hs
  go_enter Try.func85, Try.ntmps85
  go_wp2
  go_loop [3] (fun i => ∃ k : Nat, k ≤ s.size ∧ i = .int .i64 k ∧ ∀ j, j < k → wordB (bat s j) = true) (fun i => s.size - (intOf i).toNat)
  case atStart => exact ⟨0, Nat.zero_le _, rfl, fun j hj => absurd hj (Nat.not_lt_zero _)⟩
  case round =>
    obtain ⟨k, hk, rfl, hall⟩ := hrel
    have HA := hide hall
    clear hall
    by_cases hlt : k < s.size
    · have hlb : 0 ≤ ((s[k]'hlt).toNat : Int) := by omega
      have hub : ((s[k]'hlt).toNat : Int) ≤ 255 := by have := (s[k]'hlt).toNat_lt; omega
      have HB := hide (bat_in hlt)
      cases hw : wordB ((s[k]'hlt).toNat : Int)
      · have HN := hide (textB_no hlt (by rw [HB.out, hw]))
        go_wp2_with (go_at_call 70; refine (l1Letter_any _ _ (by omega) (by omega)).mono ?_; rintro e w' ⟨rfl, rfl⟩)
        go_ret
        exact ⟨ret_bool HN.out.symm, rfl⟩
      · have HW := hide hw
        go_wp2_with (go_at_call 70; refine (l1Letter_any _ _ (by omega) (by omega)).mono ?_; rintro e w' ⟨rfl, rfl⟩)
        go_round
        case rel => exact ⟨k + 1, by omega, by go_num, fun j hj => by
          by_cases hjk : j = k
          · rw [hjk, HB.out, HW.out]
          · exact HA.out j (by omega)⟩
        case measure => simp [intOf]; omega
    · have HN := hide (textB_all fun i hi => HA.out i (by omega))
      go_wp2
      go_ret
      exact ⟨ret_bool (by rw [HN.out]; simp; omega), rfl⟩

theorem textB_tail {s : ByteArray} (h : s.size ≤ 20) : textB s = allB wordB s := by
  unfold textB allB
  rw [decide_eq_true h, Bool.and_true]

set_option maxHeartbeats 800000 in
theorem isTextOfVal_any (s : ByteArray) (w : World) (hs : s.size ≤ maxLen) :
    Calls Try.prog 96 #[.string s] w fun e w' => e = .returned (.bool (textB s)) ∧ w' = w := by
  have hs2 := hs
  unfold maxLen at hs2
  by_cases h2 : s.size ≤ 20
  · have HN := hide (textB_tail h2)
    go_enter Try.func96, Try.ntmps96
    go_wp2_with fail
    refine (allBytesWord_any _ _ hs).mono ?_
    rintro e w' ⟨rfl, rfl⟩
    generalize allB wordB s = r at HN ⊢
    go_wp2
    go_ret
    exact ⟨ret_bool HN.out.symm, rfl⟩
  · rw [textB_size h2]
    go_enter Try.func96, Try.ntmps96
    go_wp2
    go_ret
    exact ⟨rfl, rfl⟩
end Go.Proofs.Ytaflokfgbmlmaaa
