/-
  What the tested functions on tokens answer: tokB of the token.
-/
import Derived.Test.YtfgcflfnpeapaaaGreatDoorTok
import Derived.Test.YtfgcflfnpeapaaaGreatDoorKeep6
namespace Go.Proofs.YtfgcflfnpeapaaaGreatDoor
open Go.RowKit
set_option linter.unusedVariables false

set_option maxHeartbeats 400000 in
theorem isLarge_any (x : Int) (w : World) :
    Calls Tryz.prog 32 #[.int .u8 x] w fun e w' => e = .returned (.bool (inB x 65 90)) ∧ w' = w := by
  by_cases h1 : 65 ≤ x
  · by_cases h2 : x ≤ 90
    · rw [inB_t ⟨h1, h2⟩]
      go_enter Tryz.func32, Tryz.ntmps32
      go_wp2
      go_ret
      exact ⟨rfl, rfl⟩
    · rw [inB_f (by omega)]
      go_enter Tryz.func32, Tryz.ntmps32
      go_wp2
      go_ret
      exact ⟨rfl, rfl⟩
  · rw [inB_f (by omega)]
    go_enter Tryz.func32, Tryz.ntmps32
    go_wp2
    go_ret
    exact ⟨rfl, rfl⟩

set_option maxHeartbeats 400000 in
theorem isVarByte_any (x : Int) (w : World) :
    Calls Tryz.prog 34 #[.int .u8 x] w fun e w' => e = .returned (.bool (varByteB x)) ∧ w' = w := by
  cases ha : inB x 65 90 <;> cases hb : wordB x
  all_goals
    have hr : varByteB x = (inB x 65 90 || wordB x) := rfl
    rw [ha, hb] at hr
    rw [hr]
    clear hr
    go_enter Tryz.func34, Tryz.ntmps34
    go_wp2_with (first | (go_at_call 32; refine (isLarge_any _ _).mono ?_; rintro e w' ⟨rfl, rfl⟩) | (go_at_call 33; refine (isWordByte_any _ _).mono ?_; rintro e w' ⟨rfl, rfl⟩))
    go_ret
    exact ⟨rfl, rfl⟩

set_option maxHeartbeats 800000 in
theorem allBytesVar_any (s : ByteArray) (w : World) (hs : s.size ≤ maxLen) :
    Calls Tryz.prog 67 #[.string s, .func (.func 34) #[] #[]] w fun e w' => e = .returned (.bool (allB varByteB s)) ∧ w' = w := by
  unfold maxLen at hs
  go_enter Tryz.func67, Tryz.ntmps67
  go_wp2
  go_loop [8] (fun i => ∃ k : Nat, k ≤ s.size ∧ i = .int .i64 k ∧ ∀ j, j < k → varByteB (bat s j) = true) (fun i => s.size - (intOf i).toNat)
  case atStart => exact ⟨0, Nat.zero_le _, rfl, fun j hj => absurd hj (Nat.not_lt_zero _)⟩
  case round =>
    obtain ⟨k, hk, rfl, hall⟩ := hrel
    have HA := hide hall
    clear hall
    by_cases hlt : k < s.size
    · have HB := hide (bat_in hlt)
      cases hw : varByteB ((s[k]'hlt).toNat : Int)
      · have HN := hide (allB_no (P := varByteB) hlt (by rw [HB.out, hw]))
        go_wp2_with (go_at_call 34; refine (isVarByte_any _ _).mono ?_; rintro e w' ⟨rfl, rfl⟩)
        go_ret
        exact ⟨ret_bool HN.out.symm, rfl⟩
      · have HW := hide hw
        go_wp2_with (go_at_call 34; refine (isVarByte_any _ _).mono ?_; rintro e w' ⟨rfl, rfl⟩)
        go_round
        case rel => exact ⟨k + 1, by omega, by go_num, fun j hj => by
          by_cases hjk : j = k
          · rw [hjk, HB.out, HW.out]
          · exact HA.out j (by omega)⟩
        case measure => simp [intOf]; omega
    · have HN := hide (allB_yes (P := varByteB) fun i hi => HA.out i (by omega))
      go_wp2
      go_ret
      exact ⟨ret_bool HN.out.symm, rfl⟩

set_option maxHeartbeats 800000 in
theorem isVar_any (s : ByteArray) (w : World) (hs : s.size ≤ maxLen) :
    Calls Tryz.prog 50 #[.string s] w fun e w' => e = .returned (.bool (varB s)) ∧ w' = w := by
  have hs2 := hs
  unfold maxLen at hs2
  by_cases h1 : 1 ≤ s.size
  · by_cases h2 : s.size ≤ 12
    · have h0 : 0 < s.size := h1
      have HI : Hid (bat s 0 = ((s[0]'h0).toNat : Int)) := bat_in h0
      cases hi : inB ((s[0]'h0).toNat : Int) 65 90
      · rw [varB_no h0 (by unfold varAt; rw [HI.out, hi]; simp)]
        go_enter Tryz.func50, Tryz.ntmps50
        go_wp2_with (first | (go_at_call 32; refine (isLarge_any _ _).mono ?_; rintro e w' ⟨rfl, rfl⟩))
        go_ret
        exact ⟨rfl, rfl⟩
      · have HN := hide (varB_tail h1 h2 (by rw [HI.out, hi]))
        go_enter Tryz.func50, Tryz.ntmps50
        go_wp2_with fail
        refine (isLarge_any _ _).mono ?_
        rintro e w' ⟨rfl, rfl⟩
        rw [hi]
        go_wp2_with fail
        refine (allBytesVar_any _ _ hs).mono ?_
        rintro e w' ⟨rfl, rfl⟩
        generalize allB varByteB s = r at HN ⊢
        go_wp2
        go_ret
        exact ⟨ret_bool HN.out.symm, rfl⟩
    · rw [varB_size (by omega)]
      go_enter Tryz.func50, Tryz.ntmps50
      go_wp2
      go_ret
      exact ⟨rfl, rfl⟩
  · rw [varB_size (by omega)]
    go_enter Tryz.func50, Tryz.ntmps50
    go_wp2
    go_ret
    exact ⟨rfl, rfl⟩

set_option maxHeartbeats 1600000 in
theorem isMark_any (s : ByteArray) (w : World) :
    Calls Tryz.prog 52 #[.string s] w fun e w' => e = .returned (.bool (markB s)) ∧ w' = w := by
  go_enter Tryz.func52, Tryz.ntmps52
  go_wp2
  all_goals go_ret
  all_goals refine ⟨ret_bool ?_, rfl⟩
  all_goals simp_all [markB, ones]

set_option maxHeartbeats 1600000 in
theorem isWordOf_any (K : Int) (S : ByteArray) (w : World) (hs : S.size ≤ maxLen) :
    Calls Tryz.prog 23 #[.int .i64 K, .string S] w fun e w' => e = .returned (.bool (wordOfB K S)) ∧ w' = w := by
  obtain ⟨r, hr⟩ : ∃ r, wordOfB K S = r := ⟨_, rfl⟩
  rw [hr]
  by_cases h2 : K = 2
  · subst h2
    have e : nameB S = r := by rw [← hr]; simp [wordOfB]
    have HE := hide e
    clear e hr
    go_enter Tryz.func23, Tryz.ntmps23
    go_wp2_with (go_at_call 49; refine (implNameOk_any _ _ hs).mono ?_; rintro e w' ⟨rfl, rfl⟩; rw [HE.out])
    go_ret
    exact ⟨rfl, rfl⟩
  · by_cases h3 : K = 3
    · subst h3
      have e : varB S = r := by rw [← hr]; simp [wordOfB]
      have HE := hide e
      clear e hr
      go_enter Tryz.func23, Tryz.ntmps23
      go_wp2_with (go_at_call 50; refine (isVar_any _ _ hs).mono ?_; rintro e w' ⟨rfl, rfl⟩; rw [HE.out])
      go_ret
      exact ⟨rfl, rfl⟩
    · by_cases h4 : K = 4
      · subst h4
        have e : textB S = r := by rw [← hr]; simp [wordOfB]
        have HE := hide e
        clear e hr
        go_enter Tryz.func23, Tryz.ntmps23
        go_wp2_with (go_at_call 51; refine (isTextOfVal_any _ _ hs).mono ?_; rintro e w' ⟨rfl, rfl⟩; rw [HE.out])
        go_ret
        exact ⟨rfl, rfl⟩
      · by_cases h5 : K = 5
        · subst h5
          have e : markB S = r := by rw [← hr]; simp [wordOfB]
          have HE := hide e
          clear e hr
          go_enter Tryz.func23, Tryz.ntmps23
          go_wp2_with (go_at_call 52; refine (isMark_any _ _).mono ?_; rintro e w' ⟨rfl, rfl⟩; rw [HE.out])
          go_ret
          exact ⟨rfl, rfl⟩
        · have e : r = false := by rw [← hr]; simp [wordOfB, h2, h3, h4, h5]
          subst e
          have k2 : (K == 2) = false := by simpa using h2
          have k3 : (K == 3) = false := by simpa using h3
          have k4 : (K == 4) = false := by simpa using h4
          have k5 : (K == 5) = false := by simpa using h5
          clear hr h2 h3 h4 h5
          go_enter Tryz.func23, Tryz.ntmps23
          go_wp2
          go_ret
          exact ⟨rfl, rfl⟩

set_option maxHeartbeats 1600000 in
theorem implTokenOk_any (K N : Int) (S : ByteArray) (w : World) (hs : S.size ≤ maxLen) :
    Calls Tryz.prog 9 #[.agg #[.int .i64 K, .int .i64 N, .string S]] w fun e w' =>
      e = .returned (.bool (tokB K N S)) ∧ Below w.heap.size w w' := by
  have b0 := below_al w (.cells #[.int .i64 K, .int .i64 N, .string S] 31)
  by_cases hK : K = 1
  · subst hK
    have HV := hide (tokB_num N S)
    by_cases hS : S.size = 0
    · obtain rfl := empty_of_size hS
      rw [decide_eq_true hS, Bool.and_true] at HV
      clear hS
      by_cases h1 : 0 ≤ N
      · by_cases h2 : N ≤ 1000000000
        · rw [inB_t ⟨h1, h2⟩] at HV
          go_enter Tryz.func9, Tryz.ntmps9
          go_wp2
          go_ret
          exact ⟨ret_bool HV.out.symm, b0⟩
        · rw [inB_f (by omega)] at HV
          go_enter Tryz.func9, Tryz.ntmps9
          go_wp2
          go_ret
          exact ⟨ret_bool HV.out.symm, b0⟩
      · rw [inB_f (by omega)] at HV
        go_enter Tryz.func9, Tryz.ntmps9
        go_wp2
        go_ret
        exact ⟨ret_bool HV.out.symm, b0⟩
    · rw [decide_eq_false hS, Bool.and_false] at HV
      have hE := isEmpty_false hS
      clear hS
      go_enter Tryz.func9, Tryz.ntmps9
      go_wp2
      go_ret
      exact ⟨ret_bool HV.out.symm, b0⟩
  · have hk1 : (K == 1) = false := by simpa using hK
    by_cases hN : N = 0
    · subst hN
      have HV := hide (tokB_word S hK)
      generalize tokB K 0 S = r at HV ⊢
      clear hK
      go_enter Tryz.func9, Tryz.ntmps9
      go_wp2_with (go_at_call 23; refine (isWordOf_any _ _ _ hs).mono ?_; rintro e w' ⟨rfl, rfl⟩; rw [← HV.out])
      go_ret
      exact ⟨rfl, b0⟩
    · have HV := hide (tokB_n0 S hK hN)
      have hn0 : (N == 0) = false := by simpa using hN
      clear hK hN
      go_enter Tryz.func9, Tryz.ntmps9
      go_wp2
      go_ret
      exact ⟨ret_bool HV.out.symm, b0⟩
end Go.Proofs.YtfgcflfnpeapaaaGreatDoor
