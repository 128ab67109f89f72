/-
  What the model's l2Whole answers: wholeL of the text, in the world as it was.
-/
import Derived.Test.YtfgigcdfmkfkjacDoorJWord
import Derived.Test.YtfgigcdfmkfkjacDoorJValP
namespace Go.Proofs.YtfgigcdfmkfkjacDoor
open Go.RowKit Go.Lib
set_option linter.unusedVariables false

theorem decFrom_app : ∀ (a b : List UInt8) (acc : Nat), decFrom acc (a ++ b) = match decFrom acc a with
    | some m => decFrom m b
    | none => none
  | [], b, acc => rfl
  | c :: r, b, acc => by
    simp only [List.cons_append, decFrom]
    cases digitVal c with
    | none => rfl
    | some d => exact decFrom_app r b _

theorem whole_bad {l : List UInt8} (h : l.length < 1 ∨ 10 < l.length ∨ (1 < l.length ∧ l.head? = some 48)) : wholeL l = -1 := by
  unfold wholeL; rw [if_pos h]
theorem whole_go {l : List UInt8} (h : ¬ (l.length < 1 ∨ 10 < l.length ∨ (1 < l.length ∧ l.head? = some 48))) {m : Nat} (hm : decFrom 0 l = some m) : wholeL l = (m : Int) := by
  unfold wholeL; rw [if_neg h, hm]
theorem whole_none {l : List UInt8} (hm : decFrom 0 l = none) : wholeL l = -1 := by
  unfold wholeL; split
  · rfl
  · rw [hm]
theorem take_step {l : List UInt8} {k : Nat} (hk : k < l.length) : l.take (k + 1) = l.take k ++ [l[k]] := by
  rw [List.take_succ_eq_append_getElem hk]
theorem dec_step {l : List UInt8} {k m : Nat} (hk : k < l.length) (h : decFrom 0 (l.take k) = some m) (h1 : 48 ≤ l[k].toNat) (h2 : l[k].toNat ≤ 57) : decFrom 0 (l.take (k + 1)) = some (m * 10 + (l[k].toNat - 48)) := by
  rw [take_step hk, decFrom_snoc, h]
  simp [digitVal, h1, h2]
theorem dec_stop {l : List UInt8} {k m : Nat} (hk : k < l.length) (h : decFrom 0 (l.take k) = some m) (h1 : ¬ (48 ≤ l[k].toNat ∧ l[k].toNat ≤ 57)) : decFrom 0 l = none := by
  have e : decFrom 0 (l.take (k + 1)) = none := by
    rw [take_step hk, decFrom_snoc, h]
    simp only [digitVal, if_neg h1]
  have := decFrom_app (l.take (k + 1)) (l.drop (k + 1)) 0
  rw [List.take_append_drop, e] at this
  exact this
theorem pow_small {k m : Nat} (hk : k ≤ 9) (h : m < 10 ^ k) : m < 1000000000 := Nat.lt_of_lt_of_le h (Nat.pow_le_pow_right (by omega) hk)

set_option maxRecDepth 100000 in
set_option maxHeartbeats 1600000 in
theorem l2Whole_any (s : ByteArray) (w : World) (hs : s.size ≤ maxLen) :
    Calls Tryd.prog 19 #[.string s] w fun e w' => e = .returned (.int .i64 (wholeL s.data.toList)) ∧ w' = w := by
  unfold maxLen at hs
  have hl : s.data.toList.length = s.size := by rw [Array.length_toList]; rfl
  by_cases h1 : 1 ≤ s.size ∧ s.size ≤ 10
  · obtain ⟨h1a, h1b⟩ := h1
    have hd : s.data.toList.head? = some (s[0]'(by omega)) := by
      rw [List.head?_eq_getElem?, List.getElem?_eq_getElem (by omega)]
      simp [ByteArray.getElem_eq_getElem_data]
    by_cases h2 : 1 < s.size ∧ (s[0]'(by omega)) = 48
    · obtain ⟨h2a, h2b⟩ := h2
      have HW := hide (whole_bad (l := s.data.toList) (.inr (.inr ⟨by omega, by rw [hd, h2b]⟩)))
      clear hd
      have h2c : ((s[0]'(by omega)).toNat : Int) = 48 := by rw [h2b]; rfl
      go_enter Tryd.func19, Tryd.ntmps19
      go_wp2_with (go_at_call 31; refine (l1In_any _ _ _ _).mono ?_; rw [inB_t (by omega)]; rintro e w' ⟨rfl, rfl⟩)
      go_ret
      exact ⟨ret_int HW.out.symm, rfl⟩
    · have hgood : ¬ (s.data.toList.length < 1 ∨ 10 < s.data.toList.length ∨ (1 < s.data.toList.length ∧ s.data.toList.head? = some 48)) := by
        rintro (h | h | ⟨h, h'⟩)
        · omega
        · omega
        · exact h2 ⟨by omega, by rw [hd] at h'; exact Option.some.inj h'⟩
      have HG := hide (fun m => whole_go hgood (m := m))
      have h2c : s.size = 1 ∨ ((s[0]'(by omega)).toNat : Int) ≠ 48 := by
        by_cases h : s.size = 1
        · exact .inl h
        · exact .inr (fun h' => h2 ⟨by omega, UInt8.toNat_inj.1 (by have : (48 : UInt8).toNat = 48 := rfl; omega)⟩)
      clear hd hgood h2
      by_cases hone : s.size = 1
      · have hn1 : ¬ ((1 : Int) < (s.size : Int)) := by omega
        clear h2c
        go_enter Tryd.func19, Tryd.ntmps19
        go_wp2_with (go_at_call 31; refine (l1In_any _ _ _ _).mono ?_; rw [inB_t (by omega)]; rintro e w' ⟨rfl, rfl⟩)
        go_loop [3, 4] (fun n i => ∃ m k : Nat, k ≤ s.size ∧ n = .int .i64 m ∧ i = .int .i64 k ∧ m < 10 ^ k ∧ decFrom 0 (s.data.toList.take k) = some m) (fun n i => s.size - (intOf i).toNat)
        case atStart => exact ⟨0, 0, Nat.zero_le _, rfl, rfl, by decide, by simp [decFrom]⟩
        case round =>
          obtain ⟨m, k, hk, rfl, rfl, hm, hdec⟩ := hrel
          by_cases hlt : k < s.size
          · have hx : (s.data.toList[k]'(by omega)) = (s[k]'hlt) := by simp [ByteArray.getElem_eq_getElem_data]
            have hlb : 0 ≤ ((s[k]'hlt).toNat : Int) := by omega
            have hub : ((s[k]'hlt).toNat : Int) ≤ 255 := by have := (s[k]'hlt).toNat_lt; omega
            by_cases h3 : 48 ≤ (s[k]'hlt).toNat ∧ (s[k]'hlt).toNat ≤ 57
            · have HD := hide (dec_step (by omega) hdec (by rw [hx]; exact h3.1) (by rw [hx]; exact h3.2))
              rw [hx] at HD
              have HP := hide hm
              have hsm := pow_small (by omega) hm
              obtain ⟨h3a, h3b⟩ := h3
              clear hdec hx hm
              go_wp2_with (go_at_call 31; refine (l1In_any _ _ _ _).mono ?_; rw [inB_t (by omega)]; rintro e w' ⟨rfl, rfl⟩)
              go_round
              case rel => exact ⟨m * 10 + ((s[k]'hlt).toNat - 48), k + 1, by omega, by go_num, by go_num, by have := HP.out; rw [Nat.pow_succ]; omega, HD.out⟩
              case measure => simp [intOf]; omega
            · have HN := hide (whole_none (dec_stop (by omega) hdec (by rw [hx]; exact h3)))
              clear hdec hx hm
              go_wp2_with (go_at_call 31; refine (l1In_any _ _ _ _).mono ?_; rw [inB_f (by omega)]; rintro e w' ⟨rfl, rfl⟩)
              go_ret
              exact ⟨ret_int HN.out.symm, rfl⟩
          · have HN := hide (HG.out m (by rw [List.take_of_length_le (by omega)] at hdec; exact hdec))
            clear hdec hm
            go_wp2
            go_ret
            exact ⟨ret_int HN.out.symm, rfl⟩
      · have hn1 : (1 : Int) < (s.size : Int) := by omega
        have hne : (((s[0]'(by omega)).toNat : Int) == 48) = false := by simp; rcases h2c with h | h; exact absurd h hone; omega
        clear h2c
        go_enter Tryd.func19, Tryd.ntmps19
        go_wp2_with (go_at_call 31; refine (l1In_any _ _ _ _).mono ?_; rw [inB_t (by omega)]; rintro e w' ⟨rfl, rfl⟩)
        go_loop [3, 4] (fun n i => ∃ m k : Nat, k ≤ s.size ∧ n = .int .i64 m ∧ i = .int .i64 k ∧ m < 10 ^ k ∧ decFrom 0 (s.data.toList.take k) = some m) (fun n i => s.size - (intOf i).toNat)
        case atStart => exact ⟨0, 0, Nat.zero_le _, rfl, rfl, by decide, by simp [decFrom]⟩
        case round =>
          obtain ⟨m, k, hk, rfl, rfl, hm, hdec⟩ := hrel
          by_cases hlt : k < s.size
          · have hx : (s.data.toList[k]'(by omega)) = (s[k]'hlt) := by simp [ByteArray.getElem_eq_getElem_data]
            have hlb : 0 ≤ ((s[k]'hlt).toNat : Int) := by omega
            have hub : ((s[k]'hlt).toNat : Int) ≤ 255 := by have := (s[k]'hlt).toNat_lt; omega
            by_cases h3 : 48 ≤ (s[k]'hlt).toNat ∧ (s[k]'hlt).toNat ≤ 57
            · have HD := hide (dec_step (by omega) hdec (by rw [hx]; exact h3.1) (by rw [hx]; exact h3.2))
              rw [hx] at HD
              have HP := hide hm
              have hsm := pow_small (by omega) hm
              obtain ⟨h3a, h3b⟩ := h3
              clear hdec hx hm
              go_wp2_with (go_at_call 31; refine (l1In_any _ _ _ _).mono ?_; rw [inB_t (by omega)]; rintro e w' ⟨rfl, rfl⟩)
              go_round
              case rel => exact ⟨m * 10 + ((s[k]'hlt).toNat - 48), k + 1, by omega, by go_num, by go_num, by have := HP.out; rw [Nat.pow_succ]; omega, HD.out⟩
              case measure => simp [intOf]; omega
            · have HN := hide (whole_none (dec_stop (by omega) hdec (by rw [hx]; exact h3)))
              clear hdec hx hm
              go_wp2_with (go_at_call 31; refine (l1In_any _ _ _ _).mono ?_; rw [inB_f (by omega)]; rintro e w' ⟨rfl, rfl⟩)
              go_ret
              exact ⟨ret_int HN.out.symm, rfl⟩
          · have HN := hide (HG.out m (by rw [List.take_of_length_le (by omega)] at hdec; exact hdec))
            clear hdec hm
            go_wp2
            go_ret
            exact ⟨ret_int HN.out.symm, rfl⟩
  · have HW := hide (whole_bad (l := s.data.toList) (by omega))
    go_enter Tryd.func19, Tryd.ntmps19
    go_wp2_with (go_at_call 31; refine (l1In_any _ _ _ _).mono ?_; rw [inB_f (by omega)]; rintro e w' ⟨rfl, rfl⟩)
    go_ret
    exact ⟨ret_int HW.out.symm, rfl⟩
end Go.Proofs.YtfgigcdfmkfkjacDoor
