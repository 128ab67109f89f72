/-
  What the model's functions on tokens answer: tokB of the token.
-/
import Derived.Test.YtaflokfgbmlmaaaJTok
import Derived.Test.YtaflokfgbmlmaaaJoined1
namespace Go.Proofs.Ytaflokfgbmlmaaa
open Go.RowKit
set_option linter.unusedVariables false

set_option maxHeartbeats 400000 in
theorem l5Large_any (x : Int) (w : World) (hl : 0 ≤ x) (hu : x ≤ 255) :
    Calls Try.prog 84 #[.int .u8 x] w fun e w' => e = .returned (.bool (inB x 65 90)) ∧ w' = w := by
  cases ha : inB x 65 90
  all_goals
    go_enter Try.func84, Try.ntmps84
    go_wp2_with (go_at_call 71; refine (l1In_any _ _ _ _).mono ?_; rintro e w' ⟨rfl, rfl⟩)
    go_ret
    exact ⟨rfl, rfl⟩

set_option maxHeartbeats 1600000 in
theorem l5VarOk_any (s : ByteArray) (w : World) (hs : s.size ≤ maxLen) :
    Calls Try.prog 68 #[.string s] w fun e w' => e = .returned (.bool (varB s)) ∧ w' = w := by
  unfold maxLen at hs
  go_enter Try.func68, Try.ntmps68
  go_wp2
  go_loop [3] (fun i => ∃ k : Nat, k ≤ s.size ∧ i = .int .i64 k ∧ ∀ j, j < k → varAt s j = true) (fun i => s.size - (intOf i).toNat)
  case atStart => exact ⟨0, Nat.zero_le _, rfl, fun j hj => absurd hj (Nat.not_lt_zero _)⟩
  case round =>
    obtain ⟨k, hk, rfl, hall⟩ := hrel
    have HA := hide hall
    clear hall
    by_cases hlt : k < s.size
    · have hlb : 0 ≤ ((s[k]'hlt).toNat : Int) := by omega
      have hub : ((s[k]'hlt).toNat : Int) ≤ 255 := by have := (s[k]'hlt).toNat_lt; omega
      have HH : Hid (varAt s k = (inB ((s[k]'hlt).toNat : Int) 65 90 || (k != 0 && wordB ((s[k]'hlt).toNat : Int)))) := by
        unfold Hid varAt; rw [bat_in hlt]
      cases hw : inB ((s[k]'hlt).toNat : Int) 65 90
      · by_cases hk0 : 0 < k
        · have k0 : ((k : Int) == 0) = false := by simp; omega
          have k1 : (k != 0) = true := by simp; omega
          rw [hw, k1] at HH
          clear k1
          cases hv : wordB ((s[k]'hlt).toNat : Int)
          · rw [hv] at HH
            have HN := hide (varB_no hlt (by rw [HH.out]; rfl))
            go_wp2_with (first | (go_at_call 84; refine (l5Large_any _ _ (by omega) (by omega)).mono ?_; rintro e w' ⟨rfl, rfl⟩) | (go_at_call 70; refine (l1Letter_any _ _ (by omega) (by omega)).mono ?_; rintro e w' ⟨rfl, rfl⟩))
            go_ret
            exact ⟨ret_bool HN.out.symm, rfl⟩
          · rw [hv] at HH
            go_wp2_with (first | (go_at_call 84; refine (l5Large_any _ _ (by omega) (by omega)).mono ?_; rintro e w' ⟨rfl, rfl⟩) | (go_at_call 70; refine (l1Letter_any _ _ (by omega) (by omega)).mono ?_; rintro e w' ⟨rfl, rfl⟩))
            go_round
            case rel => exact ⟨k + 1, by omega, by go_num, fun j hj => by
              by_cases hjk : j = k
              · rw [hjk, HH.out]; rfl
              · exact HA.out j (by omega)⟩
            case measure => simp [intOf]; omega
        · obtain rfl : k = 0 := by omega
          rw [hw] at HH
          have HN := hide (varB_no hlt (by rw [HH.out]; rfl))
          go_wp2_with (first | (go_at_call 84; refine (l5Large_any _ _ (by omega) (by omega)).mono ?_; rintro e w' ⟨rfl, rfl⟩) | (go_at_call 70; refine (l1Letter_any _ _ (by omega) (by omega)).mono ?_; rintro e w' ⟨rfl, rfl⟩))
          go_ret
          exact ⟨ret_bool HN.out.symm, rfl⟩
      · rw [hw, Bool.true_or] at HH
        go_wp2_with (first | (go_at_call 84; refine (l5Large_any _ _ (by omega) (by omega)).mono ?_; rintro e w' ⟨rfl, rfl⟩))
        go_round
        case rel => exact ⟨k + 1, by omega, by go_num, fun j hj => by
          by_cases hjk : j = k
          · rw [hjk, HH.out]
          · exact HA.out j (by omega)⟩
        case measure => simp [intOf]; omega
    · have HN := hide (varB_all fun i hi => HA.out i (by omega))
      go_wp2_with (first | (go_at_call 71; refine (l1In_any _ _ _ _).mono ?_; rintro e w' ⟨rfl, rfl⟩))
      go_ret
      exact ⟨ret_bool HN.out.symm, rfl⟩

def lit12 : ByteArray := ⟨#[40, 41, 44, 46, 58, 45, 43, 61, 35, 60, 33, 95]⟩
theorem one_at {k : Nat} (h : k < 12) : ∃ c, ones[k]? = some c ∧ (ByteArray.extract ⟨#[40, 41, 44, 46, 58, 45, 43, 61, 35, 60, 33, 95]⟩ k (k + 1)).toList = [c] := by
  match k, h with
  | 0, _ => exact ⟨_, rfl, by decide +kernel⟩
  | 1, _ => exact ⟨_, rfl, by decide +kernel⟩
  | 2, _ => exact ⟨_, rfl, by decide +kernel⟩
  | 3, _ => exact ⟨_, rfl, by decide +kernel⟩
  | 4, _ => exact ⟨_, rfl, by decide +kernel⟩
  | 5, _ => exact ⟨_, rfl, by decide +kernel⟩
  | 6, _ => exact ⟨_, rfl, by decide +kernel⟩
  | 7, _ => exact ⟨_, rfl, by decide +kernel⟩
  | 8, _ => exact ⟨_, rfl, by decide +kernel⟩
  | 9, _ => exact ⟨_, rfl, by decide +kernel⟩
  | 10, _ => exact ⟨_, rfl, by decide +kernel⟩
  | 11, _ => exact ⟨_, rfl, by decide +kernel⟩

end Go.Proofs.Ytaflokfgbmlmaaa
