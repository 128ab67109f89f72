/-
  What the model's functions on tokens answer: tokB of the token.
-/
import Derived.Test.YtfgcflfnpeapaaaGreatDoorTok
import Derived.Test.YtfgcflfnpeapaaaGreatDoorKeep6
namespace Go.Proofs.YtfgcflfnpeapaaaGreatDoor
open Go.RowKit
set_option linter.unusedVariables false

set_option maxHeartbeats 400000 in
theorem l5Large_any (x : Int) (w : World) (hl : 0 ≤ x) (hu : x ≤ 255) :
    Calls Tryz.prog 43 #[.int .u8 x] w fun e w' => e = .returned (.bool (inB x 65 90)) ∧ w' = w := by
  cases ha : inB x 65 90
  all_goals
    go_enter Tryz.func43, Tryz.ntmps43
    go_wp2_with (go_at_call 39; refine (l1In_any _ _ _ _).mono ?_; rintro e w' ⟨rfl, rfl⟩)
    go_ret
    exact ⟨rfl, rfl⟩

set_option maxHeartbeats 1600000 in
theorem l5VarOk_any (s : ByteArray) (w : World) (hs : s.size ≤ maxLen) :
    Calls Tryz.prog 47 #[.string s] w fun e w' => e = .returned (.bool (varB s)) ∧ w' = w := by
  unfold maxLen at hs
  go_enter Tryz.func47, Tryz.ntmps47
  go_wp2
  go_loop [3] (fun i => ∃ k : Nat, k ≤ s.size ∧ i = .int .i64 k ∧ ∀ j, j < k → varAt s j = true) (fun i => s.size - (intOf i).toNat)
  case atStart => exact ⟨0, Nat.zero_le _, rfl, fun j hj => absurd hj (Nat.not_lt_zero _)⟩
  case round =>
    obtain ⟨k, hk, rfl, hall⟩ := hrel
    have HA := hide hall
    clear hall
    by_cases hlt : k < s.size
    · have hlb : 0 ≤ ((s[k]'hlt).toNat : Int) := by omega
      have hub : ((s[k]'hlt).toNat : Int) ≤ 255 := by have := (s[k]'hlt).toNat_lt; omega
      have HH : Hid (varAt s k = (inB ((s[k]'hlt).toNat : Int) 65 90 || (k != 0 && wordB ((s[k]'hlt).toNat : Int)))) := by
        unfold Hid varAt; rw [bat_in hlt]
      cases hw : inB ((s[k]'hlt).toNat : Int) 65 90
      · by_cases hk0 : 0 < k
        · have k0 : ((k : Int) == 0) = false := by simp; omega
          have k1 : (k != 0) = true := by simp; omega
          rw [hw, k1] at HH
          clear k1
          cases hv : wordB ((s[k]'hlt).toNat : Int)
          · rw [hv] at HH
            have HN := hide (varB_no hlt (by rw [HH.out]; rfl))
            go_wp2_with (first | (go_at_call 43; refine (l5Large_any _ _ (by omega) (by omega)).mono ?_; rintro e w' ⟨rfl, rfl⟩) | (go_at_call 66; refine (l1Letter_any _ _ (by omega) (by omega)).mono ?_; rintro e w' ⟨rfl, rfl⟩))
            go_ret
            exact ⟨ret_bool HN.out.symm, rfl⟩
          · rw [hv] at HH
            go_wp2_with (first | (go_at_call 43; refine (l5Large_any _ _ (by omega) (by omega)).mono ?_; rintro e w' ⟨rfl, rfl⟩) | (go_at_call 66; refine (l1Letter_any _ _ (by omega) (by omega)).mono ?_; rintro e w' ⟨rfl, rfl⟩))
            go_round
            case rel => exact ⟨k + 1, by omega, by go_num, fun j hj => by
              by_cases hjk : j = k
              · rw [hjk, HH.out]; rfl
              · exact HA.out j (by omega)⟩
            case measure => simp [intOf]; omega
        · obtain rfl : k = 0 := by omega
          rw [hw] at HH
          have HN := hide (varB_no hlt (by rw [HH.out]; rfl))
          go_wp2_with (first | (go_at_call 43; refine (l5Large_any _ _ (by omega) (by omega)).mono ?_; rintro e w' ⟨rfl, rfl⟩) | (go_at_call 66; refine (l1Letter_any _ _ (by omega) (by omega)).mono ?_; rintro e w' ⟨rfl, rfl⟩))
          go_ret
          exact ⟨ret_bool HN.out.symm, rfl⟩
      · rw [hw, Bool.true_or] at HH
        go_wp2_with (first | (go_at_call 43; refine (l5Large_any _ _ (by omega) (by omega)).mono ?_; rintro e w' ⟨rfl, rfl⟩))
        go_round
        case rel => exact ⟨k + 1, by omega, by go_num, fun j hj => by
          by_cases hjk : j = k
          · rw [hjk, HH.out]
          · exact HA.out j (by omega)⟩
        case measure => simp [intOf]; omega
    · have HN := hide (varB_all fun i hi => HA.out i (by omega))
      go_wp2_with (first | (go_at_call 39; refine (l1In_any _ _ _ _).mono ?_; rintro e w' ⟨rfl, rfl⟩))
      go_ret
      exact ⟨ret_bool HN.out.symm, rfl⟩

def lit12 : ByteArray := ⟨#[40, 41, 44, 46, 58, 45, 43, 61, 35, 60, 33, 95]⟩
theorem one_at {k : Nat} (h : k < 12) : ∃ c, ones[k]? = some c ∧ (ByteArray.extract ⟨#[40, 41, 44, 46, 58, 45, 43, 61, 35, 60, 33, 95]⟩ k (k + 1)).toList = [c] := by
  match k, h with
  | 0, _ => exact ⟨_, rfl, by decide +kernel⟩
  | 1, _ => exact ⟨_, rfl, by decide +kernel⟩
  | 2, _ => exact ⟨_, rfl, by decide +kernel⟩
  | 3, _ => exact ⟨_, rfl, by decide +kernel⟩
  | 4, _ => exact ⟨_, rfl, by decide +kernel⟩
  | 5, _ => exact ⟨_, rfl, by decide +kernel⟩
  | 6, _ => exact ⟨_, rfl, by decide +kernel⟩
  | 7, _ => exact ⟨_, rfl, by decide +kernel⟩
  | 8, _ => exact ⟨_, rfl, by decide +kernel⟩
  | 9, _ => exact ⟨_, rfl, by decide +kernel⟩
  | 10, _ => exact ⟨_, rfl, by decide +kernel⟩
  | 11, _ => exact ⟨_, rfl, by decide +kernel⟩

set_option maxHeartbeats 1600000 in
theorem l5MarkOk_any (s : ByteArray) (w : World) :
    Calls Tryz.prog 45 #[.string s] w fun e w' => e = .returned (.bool (markB s)) ∧ w' = w := by
  cases h2 : (s.toList == [45, 62])
  · go_enter Tryz.func45, Tryz.ntmps45
    go_wp2
    go_loop [3] (fun i => ∃ k : Nat, k ≤ 12 ∧ i = .int .i64 k ∧ ∀ j c, j < k → ones[j]? = some c → (s.toList == [c]) = false) (fun i => 12 - (intOf i).toNat)
    case atStart => exact ⟨0, Nat.zero_le _, rfl, fun j c hj => absurd hj (Nat.not_lt_zero _)⟩
    case round =>
      obtain ⟨k, hk, rfl, hall⟩ := hrel
      have HA := hide hall
      clear hall
      by_cases hlt : k < 12
      · obtain ⟨c, hc, he⟩ := one_at hlt
        have HC := hide hc
        clear hc
        cases hw : (s.toList == [c])
        · have hw2 : (s.toList == (ByteArray.extract ⟨#[40, 41, 44, 46, 58, 45, 43, 61, 35, 60, 33, 95]⟩ k (k + 1)).toList) = false := by rw [he]; exact hw
          have HW := hide hw
          clear hw he
          go_wp2
          go_round
          case rel => exact ⟨k + 1, by omega, by go_num, fun j c2 hj h3 => by
            by_cases hjk : j = k
            · rw [hjk, HC.out] at h3
              obtain rfl := Option.some.inj h3
              exact HW.out
            · exact HA.out j c2 (by omega) h3⟩
          case measure => simp [intOf]; omega
        · have hw2 : (s.toList == (ByteArray.extract ⟨#[40, 41, 44, 46, 58, 45, 43, 61, 35, 60, 33, 95]⟩ k (k + 1)).toList) = true := by rw [he]; exact hw
          have HN : Hid (markB s = true) := by
            unfold Hid markB
            rw [Bool.or_eq_true, List.any_eq_true]
            exact .inr ⟨c, List.mem_of_getElem? HC.out, hw⟩
          clear hw he
          go_wp2
          go_ret
          exact ⟨ret_bool HN.out.symm, rfl⟩
      · have HN : Hid (markB s = false) := by
          unfold Hid markB
          rw [h2, Bool.false_or, ← Bool.not_eq_true, List.any_eq_true]
          rintro ⟨c, hm, hc⟩
          obtain ⟨j, hj, e⟩ := List.getElem_of_mem hm
          have := HA.out j c (by simp [ones] at hj; omega) (by rw [List.getElem?_eq_getElem hj, e])
          rw [this] at hc
          cases hc
        go_wp2
        go_ret
        exact ⟨ret_bool HN.out.symm, rfl⟩
  · have HN : Hid (markB s = true) := by unfold Hid markB; rw [h2]; rfl
    go_enter Tryz.func45, Tryz.ntmps45
    go_wp2
    go_ret
    exact ⟨ret_bool HN.out.symm, rfl⟩

set_option maxHeartbeats 1600000 in
theorem specTokenOk_any (K N : Int) (S : ByteArray) (w : World) (hs : S.size ≤ maxLen) :
    Calls Tryz.prog 22 #[.agg #[.int .i64 K, .int .i64 N, .string S]] w fun e w' =>
      e = .returned (.bool (tokB K N S)) ∧ w.grownBy w' none := by
  by_cases hK : K = 1
  · subst hK
    have HV := hide (tokB_num N S)
    cases hi : inB N 0 1000000000
    · rw [hi, Bool.false_and] at HV
      go_enter Tryz.func22, Tryz.ntmps22
      go_wp2_with (go_at_call 39; refine (l1In_any _ _ _ _).mono ?_; rintro e w' ⟨rfl, rfl⟩)
      go_ret
      exact ⟨ret_bool HV.out.symm, World.grownBy_alloc _ _ _⟩
    · rw [hi, Bool.true_and] at HV
      by_cases hS : S.size = 0
      · rw [decide_eq_true hS] at HV
        obtain rfl := empty_of_size hS
        clear hS
        go_enter Tryz.func22, Tryz.ntmps22
        go_wp2_with (go_at_call 39; refine (l1In_any _ _ _ _).mono ?_; rintro e w' ⟨rfl, rfl⟩)
        go_ret
        exact ⟨ret_bool HV.out.symm, World.grownBy_alloc _ _ _⟩
      · rw [decide_eq_false hS] at HV
        have hE := isEmpty_false hS
        clear hS
        go_enter Tryz.func22, Tryz.ntmps22
        go_wp2_with (go_at_call 39; refine (l1In_any _ _ _ _).mono ?_; rintro e w' ⟨rfl, rfl⟩)
        go_ret
        exact ⟨ret_bool HV.out.symm, World.grownBy_alloc _ _ _⟩
  · have hk1 : (K == 1) = false := by simpa using hK
    have HV := hide (tokB_or (N := N) S hK)
    clear hK
    by_cases h2 : K = 2
    · subst h2
      have e2 : wordOfB 2 S = nameB S := by simp [wordOfB]
      rw [e2] at HV
      clear e2
      cases hn : nameB S
      · rw [hn, Bool.and_false] at HV
        go_enter Tryz.func22, Tryz.ntmps22
        go_wp2_with (go_at_call 46; refine (specNameOk_any _ _ hs).mono ?_; rintro e w' ⟨rfl, rfl⟩)
        go_ret
        exact ⟨ret_bool HV.out.symm, World.grownBy_alloc _ _ _⟩
      · rw [hn, Bool.and_true] at HV
        by_cases hN : N = 0
        · subst hN
          rw [decide_eq_true rfl] at HV
          go_enter Tryz.func22, Tryz.ntmps22
          go_wp2_with (go_at_call 46; refine (specNameOk_any _ _ hs).mono ?_; rintro e w' ⟨rfl, rfl⟩)
          go_ret
          exact ⟨ret_bool HV.out.symm, World.grownBy_alloc _ _ _⟩
        · rw [decide_eq_false hN] at HV
          have hn0 : (N == 0) = false := by simpa using hN
          clear hN
          go_enter Tryz.func22, Tryz.ntmps22
          go_wp2_with (go_at_call 46; refine (specNameOk_any _ _ hs).mono ?_; rintro e w' ⟨rfl, rfl⟩)
          go_ret
          exact ⟨ret_bool HV.out.symm, World.grownBy_alloc _ _ _⟩
    · have k2 : (K == 2) = false := by simpa using h2
      by_cases h3 : K = 3
      · subst h3
        have e3 : wordOfB 3 S = varB S := by simp [wordOfB]
        rw [e3] at HV
        clear e3
        cases hn : varB S
        · rw [hn, Bool.and_false] at HV
          go_enter Tryz.func22, Tryz.ntmps22
          go_wp2_with (go_at_call 47; refine (l5VarOk_any _ _ hs).mono ?_; rintro e w' ⟨rfl, rfl⟩)
          go_ret
          exact ⟨ret_bool HV.out.symm, World.grownBy_alloc _ _ _⟩
        · rw [hn, Bool.and_true] at HV
          by_cases hN : N = 0
          · subst hN
            rw [decide_eq_true rfl] at HV
            go_enter Tryz.func22, Tryz.ntmps22
            go_wp2_with (go_at_call 47; refine (l5VarOk_any _ _ hs).mono ?_; rintro e w' ⟨rfl, rfl⟩)
            go_ret
            exact ⟨ret_bool HV.out.symm, World.grownBy_alloc _ _ _⟩
          · rw [decide_eq_false hN] at HV
            have hn0 : (N == 0) = false := by simpa using hN
            clear hN
            go_enter Tryz.func22, Tryz.ntmps22
            go_wp2_with (go_at_call 47; refine (l5VarOk_any _ _ hs).mono ?_; rintro e w' ⟨rfl, rfl⟩)
            go_ret
            exact ⟨ret_bool HV.out.symm, World.grownBy_alloc _ _ _⟩
      · have k3 : (K == 3) = false := by simpa using h3
        by_cases h4 : K = 4
        · subst h4
          have e4 : wordOfB 4 S = textB S := by simp [wordOfB]
          rw [e4] at HV
          clear e4
          cases hn : textB S
          · rw [hn, Bool.and_false] at HV
            go_enter Tryz.func22, Tryz.ntmps22
            go_wp2_with (go_at_call 48; refine (l2Plain_any _ _ hs).mono ?_; rintro e w' ⟨rfl, rfl⟩)
            go_ret
            exact ⟨ret_bool HV.out.symm, World.grownBy_alloc _ _ _⟩
          · rw [hn, Bool.and_true] at HV
            by_cases hN : N = 0
            · subst hN
              rw [decide_eq_true rfl] at HV
              go_enter Tryz.func22, Tryz.ntmps22
              go_wp2_with (go_at_call 48; refine (l2Plain_any _ _ hs).mono ?_; rintro e w' ⟨rfl, rfl⟩)
              go_ret
              exact ⟨ret_bool HV.out.symm, World.grownBy_alloc _ _ _⟩
            · rw [decide_eq_false hN] at HV
              have hn0 : (N == 0) = false := by simpa using hN
              clear hN
              go_enter Tryz.func22, Tryz.ntmps22
              go_wp2_with (go_at_call 48; refine (l2Plain_any _ _ hs).mono ?_; rintro e w' ⟨rfl, rfl⟩)
              go_ret
              exact ⟨ret_bool HV.out.symm, World.grownBy_alloc _ _ _⟩
        · have k4 : (K == 4) = false := by simpa using h4
          by_cases h5 : K = 5
          · subst h5
            have e5 : wordOfB 5 S = markB S := by simp [wordOfB]
            rw [e5] at HV
            clear e5
            cases hn : markB S
            · rw [hn, Bool.and_false] at HV
              go_enter Tryz.func22, Tryz.ntmps22
              go_wp2_with (go_at_call 45; refine (l5MarkOk_any _ _).mono ?_; rintro e w' ⟨rfl, rfl⟩)
              go_ret
              exact ⟨ret_bool HV.out.symm, World.grownBy_alloc _ _ _⟩
            · rw [hn, Bool.and_true] at HV
              by_cases hN : N = 0
              · subst hN
                rw [decide_eq_true rfl] at HV
                go_enter Tryz.func22, Tryz.ntmps22
                go_wp2_with (go_at_call 45; refine (l5MarkOk_any _ _).mono ?_; rintro e w' ⟨rfl, rfl⟩)
                go_ret
                exact ⟨ret_bool HV.out.symm, World.grownBy_alloc _ _ _⟩
              · rw [decide_eq_false hN] at HV
                have hn0 : (N == 0) = false := by simpa using hN
                clear hN
                go_enter Tryz.func22, Tryz.ntmps22
                go_wp2_with (go_at_call 45; refine (l5MarkOk_any _ _).mono ?_; rintro e w' ⟨rfl, rfl⟩)
                go_ret
                exact ⟨ret_bool HV.out.symm, World.grownBy_alloc _ _ _⟩
          · have k5 : (K == 5) = false := by simpa using h5
            have e : wordOfB K S = false := by simp [wordOfB, h2, h3, h4, h5]
            rw [e, Bool.and_false] at HV
            clear e h2 h3 h4 h5
            go_enter Tryz.func22, Tryz.ntmps22
            go_wp2
            go_ret
            exact ⟨ret_bool HV.out.symm, World.grownBy_alloc _ _ _⟩
end Go.Proofs.YtfgcflfnpeapaaaGreatDoor
