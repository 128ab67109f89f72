/-
  What the model's small functions on places in a text answer.
-/
import Derived.Test.YtfgcflfnpeapaaaGreatDoorLexP
import Derived.Test.YtfgcflfnpeapaaaGreatDoorTokS
namespace Go.Proofs.YtfgcflfnpeapaaaGreatDoor
open Go.RowKit
set_option linter.unusedVariables false

set_option maxHeartbeats 1600000 in
theorem l5Digits_any (s : ByteArray) (k0 : Nat) (w : World) (hs : s.size ≤ 1048576) (hk0 : k0 ≤ s.size) :
    Calls Tryz.prog 40 #[.string s, .int .i64 (k0 : Int)] w fun e w' => e = .returned (.int .i64 (runN digB s k0 : Nat)) ∧ w' = w := by
  obtain ⟨R, hR⟩ : ∃ R, runN digB s k0 = R := ⟨_, rfl⟩
  have HR := hide hR
  rw [hR]
  clear hR
  go_enter Tryz.func40, Tryz.ntmps40
  go_wp2
  go_loop [1] (fun i => ∃ k : Nat, k ≤ s.size ∧ i = .int .i64 k ∧ runN digB s k = R) (fun i => s.size - (intOf i).toNat)
  case atStart => exact ⟨k0, hk0, rfl, HR.out⟩
  case round =>
    obtain ⟨k, hk, rfl, hrun⟩ := hrel
    have HU := hide hrun
    clear hrun
    by_cases hlt : k < s.size
    · have HB := hide (bat_in hlt)
      have hlt' : ((k : Int) < (s.size : Int)) := by omega
      have hlb : 0 ≤ ((s[k]'hlt).toNat : Int) := by omega
      have hub : ((s[k]'hlt).toNat : Int) ≤ 255 := by have := (s[k]'hlt).toNat_lt; omega
      cases hd : inB ((s[k]'hlt).toNat : Int) 48 57
      · have HE : Hid (runN digB s k = k) := runN_no hlt (by unfold digB; rw [HB.out, hd])
        go_wp2_with (go_at_call 39; refine (l1In_any _ _ _ _).mono ?_; rintro e w' ⟨rfl, rfl⟩)
        go_ret
        exact ⟨by rw [← HU.out, HE.out]; rfl, rfl⟩
      · have HE : Hid (runN digB s k = runN digB s (k + 1)) := runN_yes hlt (by unfold digB; rw [HB.out, hd])
        go_wp2_with (go_at_call 39; refine (l1In_any _ _ _ _).mono ?_; rintro e w' ⟨rfl, rfl⟩)
        go_round
        case rel => exact ⟨k + 1, by omega, by go_num, by rw [← HE.out]; exact HU.out⟩
        case measure => simp [intOf]; omega
    · have HE : Hid (runN digB s k = k) := runN_end (by omega)
      have hlt' : ¬ ((k : Int) < (s.size : Int)) := by omega
      go_wp2
      go_ret
      exact ⟨by rw [← HU.out, HE.out]; rfl, rfl⟩

set_option maxHeartbeats 1600000 in
theorem l5Quote_any (s : ByteArray) (k0 : Nat) (w : World) (hs : s.size ≤ 1048576) (hk0 : k0 ≤ s.size) :
    Calls Tryz.prog 44 #[.string s, .int .i64 (k0 : Int)] w fun e w' => e = .returned (.int .i64 (runN notQ s k0 : Nat)) ∧ w' = w := by
  obtain ⟨R, hR⟩ : ∃ R, runN notQ s k0 = R := ⟨_, rfl⟩
  have HR := hide hR
  rw [hR]
  clear hR
  go_enter Tryz.func44, Tryz.ntmps44
  go_wp2
  go_loop [1] (fun i => ∃ k : Nat, k ≤ s.size ∧ i = .int .i64 k ∧ runN notQ s k = R) (fun i => s.size - (intOf i).toNat)
  case atStart => exact ⟨k0, hk0, rfl, HR.out⟩
  case round =>
    obtain ⟨k, hk, rfl, hrun⟩ := hrel
    have HU := hide hrun
    clear hrun
    by_cases hlt : k < s.size
    · have HB := hide (bat_in hlt)
      have hlt' : ((k : Int) < (s.size : Int)) := by omega
      cases hd : (((s[k]'hlt).toNat : Int) != 39)
      · have HE : Hid (runN notQ s k = k) := runN_no hlt (by unfold notQ; rw [HB.out, hd])
        go_wp2
        go_ret
        exact ⟨by rw [← HU.out, HE.out]; rfl, rfl⟩
      · have HE : Hid (runN notQ s k = runN notQ s (k + 1)) := runN_yes hlt (by unfold notQ; rw [HB.out, hd])
        go_wp2
        go_round
        case rel => exact ⟨k + 1, by omega, by go_num, by rw [← HE.out]; exact HU.out⟩
        case measure => simp [intOf]; omega
    · have HE : Hid (runN notQ s k = k) := runN_end (by omega)
      have hlt' : ¬ ((k : Int) < (s.size : Int)) := by omega
      go_wp2
      go_ret
      exact ⟨by rw [← HU.out, HE.out]; rfl, rfl⟩

set_option maxHeartbeats 1600000 in
theorem l5RunW_any (s : ByteArray) (k0 : Nat) (w : World) (hs : s.size ≤ 1048576) (hk0 : k0 ≤ s.size) :
    Calls Tryz.prog 42 #[.string s, .int .i64 (k0 : Int), .bool false] w fun e w' => e = .returned (.int .i64 (runN wordB s k0 : Nat)) ∧ w' = w := by
  obtain ⟨R, hR⟩ : ∃ R, runN wordB s k0 = R := ⟨_, rfl⟩
  have HR := hide hR
  rw [hR]
  clear hR
  go_enter Tryz.func42, Tryz.ntmps42
  go_wp2
  go_loop [1] (fun i => ∃ k : Nat, k ≤ s.size ∧ i = .int .i64 k ∧ runN wordB s k = R) (fun i => s.size - (intOf i).toNat)
  case atStart => exact ⟨k0, hk0, rfl, HR.out⟩
  case round =>
    obtain ⟨k, hk, rfl, hrun⟩ := hrel
    have HU := hide hrun
    clear hrun
    by_cases hlt : k < s.size
    · have HB := hide (bat_in hlt)
      have hlt' : ((k : Int) < (s.size : Int)) := by omega
      have hlb : 0 ≤ ((s[k]'hlt).toNat : Int) := by omega
      have hub : ((s[k]'hlt).toNat : Int) ≤ 255 := by have := (s[k]'hlt).toNat_lt; omega
      cases hd : wordB ((s[k]'hlt).toNat : Int)
      · have HE : Hid (runN wordB s k = k) := runN_no hlt (by rw [HB.out, hd])
        go_wp2_with (first | (go_at_call 66; refine (l1Letter_any _ _ (by omega) (by omega)).mono ?_; rintro e w' ⟨rfl, rfl⟩))
        go_ret
        exact ⟨by rw [← HU.out, HE.out]; rfl, rfl⟩
      · have HE : Hid (runN wordB s k = runN wordB s (k + 1)) := runN_yes hlt (by rw [HB.out, hd])
        go_wp2_with (first | (go_at_call 66; refine (l1Letter_any _ _ (by omega) (by omega)).mono ?_; rintro e w' ⟨rfl, rfl⟩))
        go_round
        case rel => exact ⟨k + 1, by omega, by go_num, by rw [← HE.out]; exact HU.out⟩
        case measure => simp [intOf]; omega
    · have HE : Hid (runN wordB s k = k) := runN_end (by omega)
      have hlt' : ¬ ((k : Int) < (s.size : Int)) := by omega
      go_wp2
      go_ret
      exact ⟨by rw [← HU.out, HE.out]; rfl, rfl⟩

set_option maxHeartbeats 1600000 in
theorem l5RunV_any (s : ByteArray) (k0 : Nat) (w : World) (hs : s.size ≤ 1048576) (hk0 : k0 ≤ s.size) :
    Calls Tryz.prog 42 #[.string s, .int .i64 (k0 : Int), .bool true] w fun e w' => e = .returned (.int .i64 (runN varByteB s k0 : Nat)) ∧ w' = w := by
  obtain ⟨R, hR⟩ : ∃ R, runN varByteB s k0 = R := ⟨_, rfl⟩
  have HR := hide hR
  rw [hR]
  clear hR
  go_enter Tryz.func42, Tryz.ntmps42
  go_wp2
  go_loop [1] (fun i => ∃ k : Nat, k ≤ s.size ∧ i = .int .i64 k ∧ runN varByteB s k = R) (fun i => s.size - (intOf i).toNat)
  case atStart => exact ⟨k0, hk0, rfl, HR.out⟩
  case round =>
    obtain ⟨k, hk, rfl, hrun⟩ := hrel
    have HU := hide hrun
    clear hrun
    by_cases hlt : k < s.size
    · have HB := hide (bat_in hlt)
      have hlt' : ((k : Int) < (s.size : Int)) := by omega
      have hlb : 0 ≤ ((s[k]'hlt).toNat : Int) := by omega
      have hub : ((s[k]'hlt).toNat : Int) ≤ 255 := by have := (s[k]'hlt).toNat_lt; omega
      have HV : Hid (varByteB (bat s k) = (inB ((s[k]'hlt).toNat : Int) 65 90 || wordB ((s[k]'hlt).toNat : Int))) := by unfold Hid varByteB; rw [HB.out]
      cases hd : wordB ((s[k]'hlt).toNat : Int) <;> cases hl : inB ((s[k]'hlt).toNat : Int) 65 90
      · have HE : Hid (runN varByteB s k = k) := runN_no hlt (by rw [HV.out, hd, hl]; rfl)
        go_wp2_with (first | (go_at_call 66; refine (l1Letter_any _ _ (by omega) (by omega)).mono ?_; rintro e w' ⟨rfl, rfl⟩) | (go_at_call 43; refine (l5Large_any _ _ (by omega) (by omega)).mono ?_; rintro e w' ⟨rfl, rfl⟩))
        go_ret
        exact ⟨by rw [← HU.out, HE.out]; rfl, rfl⟩
      all_goals
        have HE : Hid (runN varByteB s k = runN varByteB s (k + 1)) := runN_yes hlt (by rw [HV.out, hd, hl]; rfl)
        go_wp2_with (first | (go_at_call 66; refine (l1Letter_any _ _ (by omega) (by omega)).mono ?_; rintro e w' ⟨rfl, rfl⟩) | (go_at_call 43; refine (l5Large_any _ _ (by omega) (by omega)).mono ?_; rintro e w' ⟨rfl, rfl⟩))
        go_round
        case rel => exact ⟨k + 1, by omega, by go_num, by rw [← HE.out]; exact HU.out⟩
        case measure => simp [intOf]; omega
    · have HE : Hid (runN varByteB s k = k) := runN_end (by omega)
      have hlt' : ¬ ((k : Int) < (s.size : Int)) := by omega
      go_wp2
      go_ret
      exact ⟨by rw [← HU.out, HE.out]; rfl, rfl⟩
end Go.Proofs.YtfgcflfnpeapaaaGreatDoor
