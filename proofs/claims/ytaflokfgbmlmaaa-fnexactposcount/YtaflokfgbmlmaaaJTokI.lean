/-
  What the tested functions on tokens answer: tokB of the token.
-/
import Derived.Test.YtaflokfgbmlmaaaJTok
import Derived.Test.YtaflokfgbmlmaaaJoined1
namespace Go.Proofs.Ytaflokfgbmlmaaa
open Go.RowKit
set_option linter.unusedVariables false

set_option maxHeartbeats 400000 in
theorem isLarge_any (x : Int) (w : World) :
    Calls Try.prog 89 #[.int .u8 x] w fun e w' => e = .returned (.bool (inB x 65 90)) ∧ w' = w := by
  by_cases h1 : 65 ≤ x
  · by_cases h2 : x ≤ 90
    · rw [inB_t ⟨h1, h2⟩]
      go_enter Try.func89, Try.ntmps89
      go_wp2
      go_ret
      exact ⟨rfl, rfl⟩
    · rw [inB_f (by omega)]
      go_enter Try.func89, Try.ntmps89
      go_wp2
      go_ret
      exact ⟨rfl, rfl⟩
  · rw [inB_f (by omega)]
    go_enter Try.func89, Try.ntmps89
    go_wp2
    go_ret
    exact ⟨rfl, rfl⟩

set_option maxHeartbeats 400000 in
theorem isVarByte_any (x : Int) (w : World) :
    Calls Try.prog 90 #[.int .u8 x] w fun e w' => e = .returned (.bool (varByteB x)) ∧ w' = w := by
  cases ha : inB x 65 90 <;> cases hb : wordB x
  all_goals
    have hr : varByteB x = (inB x 65 90 || wordB x) := rfl
    rw [ha, hb] at hr
    rw [hr]
    clear hr
    go_enter Try.func90, Try.ntmps90
    go_wp2_with (first | (go_at_call 89; refine (isLarge_any _ _).mono ?_; rintro e w' ⟨rfl, rfl⟩) | (go_at_call 88; refine (isWordByte_any _ _).mono ?_; rintro e w' ⟨rfl, rfl⟩))
    go_ret
    exact ⟨rfl, rfl⟩

set_option maxHeartbeats 800000 in
theorem allBytesVar_any (s : ByteArray) (w : World) (hs : s.size ≤ maxLen) :
    Calls Try.prog 87 #[.string s, .func (.func 90) #[] #[]] w fun e w' => e = .returned (.bool (allB varByteB s)) ∧ w' = w := by
  unfold maxLen at hs
  go_enter Try.func87, Try.ntmps87
  go_wp2
  go_loop [8] (fun i => ∃ k : Nat, k ≤ s.size ∧ i = .int .i64 k ∧ ∀ j, j < k → varByteB (bat s j) = true) (fun i => s.size - (intOf i).toNat)
  case atStart => exact ⟨0, Nat.zero_le _, rfl, fun j hj => absurd hj (Nat.not_lt_zero _)⟩
  case round =>
    obtain ⟨k, hk, rfl, hall⟩ := hrel
    have HA := hide hall
    clear hall
    by_cases hlt : k < s.size
    · have HB := hide (bat_in hlt)
      cases hw : varByteB ((s[k]'hlt).toNat : Int)
      · have HN := hide (allB_no (P := varByteB) hlt (by rw [HB.out, hw]))
        go_wp2_with (go_at_call 90; refine (isVarByte_any _ _).mono ?_; rintro e w' ⟨rfl, rfl⟩)
        go_ret
        exact ⟨ret_bool HN.out.symm, rfl⟩
      · have HW := hide hw
        go_wp2_with (go_at_call 90; refine (isVarByte_any _ _).mono ?_; rintro e w' ⟨rfl, rfl⟩)
        go_round
        case rel => exact ⟨k + 1, by omega, by go_num, fun j hj => by
          by_cases hjk : j = k
          · rw [hjk, HB.out, HW.out]
          · exact HA.out j (by omega)⟩
        case measure => simp [intOf]; omega
    · have HN := hide (allB_yes (P := varByteB) fun i hi => HA.out i (by omega))
      go_wp2
      go_ret
      exact ⟨ret_bool HN.out.symm, rfl⟩

set_option maxHeartbeats 800000 in
theorem isVar_any (s : ByteArray) (w : World) (hs : s.size ≤ maxLen) :
    Calls Try.prog 74 #[.string s] w fun e w' => e = .returned (.bool (varB s)) ∧ w' = w := by
  have hs2 := hs
  unfold maxLen at hs2
  by_cases h1 : 1 ≤ s.size
  · by_cases h2 : s.size ≤ 12
    · have h0 : 0 < s.size := h1
      have HI : Hid (bat s 0 = ((s[0]'h0).toNat : Int)) := bat_in h0
      cases hi : inB ((s[0]'h0).toNat : Int) 65 90
      · rw [varB_no h0 (by unfold varAt; rw [HI.out, hi]; simp)]
        go_enter Try.func74, Try.ntmps74
        go_wp2_with (first | (go_at_call 89; refine (isLarge_any _ _).mono ?_; rintro e w' ⟨rfl, rfl⟩))
        go_ret
        exact ⟨rfl, rfl⟩
      · have HN := hide (varB_tail h1 h2 (by rw [HI.out, hi]))
        go_enter Try.func74, Try.ntmps74
        go_wp2_with fail
        refine (isLarge_any _ _).mono ?_
        rintro e w' ⟨rfl, rfl⟩
        rw [hi]
        go_wp2_with fail
        refine (allBytesVar_any _ _ hs).mono ?_
        rintro e w' ⟨rfl, rfl⟩
        generalize allB varByteB s = r at HN ⊢
        go_wp2
        go_ret
        exact ⟨ret_bool HN.out.symm, rfl⟩
    · rw [varB_size (by omega)]
      go_enter Try.func74, Try.ntmps74
      go_wp2
      go_ret
      exact ⟨rfl, rfl⟩
  · rw [varB_size (by omega)]
    go_enter Try.func74, Try.ntmps74
    go_wp2
    go_ret
    exact ⟨rfl, rfl⟩

end Go.Proofs.Ytaflokfgbmlmaaa
