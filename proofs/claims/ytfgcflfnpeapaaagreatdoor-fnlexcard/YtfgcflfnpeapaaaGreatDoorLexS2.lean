/-
  What the model's l5Pass answers.
-/
import Derived.Test.YtfgcflfnpeapaaaGreatDoorLexP
import Derived.Test.YtfgcflfnpeapaaaGreatDoorTokS
namespace Go.Proofs.YtfgcflfnpeapaaaGreatDoor
open Go.RowKit
set_option linter.unusedVariables false

set_option maxHeartbeats 3200000 in
theorem l5Pass_any (s : ByteArray) (k0 : Nat) (w : World) (hs : s.size ≤ 1048576) (hk0 : k0 ≤ s.size) :
    Calls Tryz.prog 20 #[.string s, .int .i64 (k0 : Int)] w fun e w' => e = .returned (.int .i64 (passN s false k0 : Nat)) ∧ w' = w := by
  obtain ⟨R, hR⟩ : ∃ R, passN s false k0 = R := ⟨_, rfl⟩
  have HR := hide hR
  rw [hR]
  clear hR
  go_enter Tryz.func20, Tryz.ntmps20
  go_wp2
  go_loop [1] (fun i => ∃ k : Nat, k ≤ s.size ∧ i = .int .i64 k ∧ passN s false k = R) (fun i => s.size - (intOf i).toNat)
  case atStart => exact ⟨k0, hk0, rfl, HR.out⟩
  case round =>
    obtain ⟨k, hk, rfl, hrun⟩ := hrel
    have HU := hide hrun
    clear hrun
    by_cases hlt : k < s.size
    · have HB := hide (bat_in hlt)
      have hlt' : ((k : Int) < (s.size : Int)) := by omega
      by_cases hbl : bat s k = 32 ∨ bat s k = 9 ∨ bat s k = 10 ∨ bat s k = 13
      · have HE := hide (passN_blank hlt hbl)
        rw [HB.out] at hbl
        obtain ⟨c, hc⟩ : ∃ c : Int, ((s[k]'hlt).toNat : Int) = c := ⟨_, rfl⟩
        rw [hc] at hbl
        rcases hbl with rfl | rfl | rfl | rfl
        all_goals
          go_wp2
          go_round
          case rel => exact ⟨k + 1, by omega, by go_num, by rw [← HE.out]; exact HU.out⟩
          case measure => simp [intOf]; omega
      · have q1 : (((s[k]'hlt).toNat : Int) == 32) = false := by rw [← HB.out]; simp; omega
        have q2 : (((s[k]'hlt).toNat : Int) == 9) = false := by rw [← HB.out]; simp; omega
        have q3 : (((s[k]'hlt).toNat : Int) == 10) = false := by rw [← HB.out]; simp; omega
        have q4 : (((s[k]'hlt).toNat : Int) == 13) = false := by rw [← HB.out]; simp; omega
        by_cases h37 : bat s k = 37
        · have q5 : (((s[k]'hlt).toNat : Int) == 37) = true := by rw [← HB.out]; simpa using h37
          have HE : Hid (passN s true k = R) := by
            unfold Hid
            rw [passN_in hlt (by omega), ← passN_rem hlt h37]; exact HU.out
          have H37 := hide h37
          clear h37 hbl
          go_wp2
          go_loop [1] (fun i => ∃ m : Nat, k ≤ m ∧ m ≤ s.size ∧ i = .int .i64 m ∧ passN s true m = R) (fun i => s.size - (intOf i).toNat)
          case atStart => exact ⟨k, Nat.le_refl _, hk, rfl, HE.out⟩
          case round =>
            obtain ⟨m, hkm, hm, rfl, hrun⟩ := hrel
            have HM := hide hrun
            clear hrun q1 q2 q3 q4 q5 HE
            by_cases hmt : m < s.size
            · have HBm := hide (bat_in hmt)
              have hmt' : ((m : Int) < (s.size : Int)) := by omega
              by_cases h10 : bat s m = 10
              · have p5 : (((s[m]'hmt).toNat : Int) != 10) = false := by rw [← HBm.out, h10]; rfl
                have HE := hide (passN_out hmt h10)
                have hne : k ≠ m := by rintro rfl; have := H37.out; omega
                clear h10
                go_wp2
                go_round
                case rel => exact ⟨m, hm, rfl, by rw [← HE.out]; exact HM.out⟩
                case measure => simp [intOf]; omega
              · have p5 : (((s[m]'hmt).toNat : Int) != 10) = true := by rw [← HBm.out]; simpa using h10
                have HE := hide (passN_in hmt h10)
                clear h10
                go_wp2
                go_round
                case rel => exact ⟨m + 1, by omega, by omega, by go_num, by rw [← HE.out]; exact HM.out⟩
                case measure => simp [intOf]; omega
            · have hmt' : ¬ ((m : Int) < (s.size : Int)) := by omega
              have HE : Hid (passN s true m = passN s false m) := by unfold Hid; rw [passN_end (by omega), passN_end (by omega)]
              go_wp2
              go_round
              case rel => exact ⟨m, hm, rfl, by rw [← HE.out]; exact HM.out⟩
              case measure => simp [intOf]; omega
        · have q5 : (((s[k]'hlt).toNat : Int) == 37) = false := by rw [← HB.out]; simpa using h37
          have HE := hide (passN_stop hlt hbl h37)
          clear h37 hbl
          go_wp2
          go_ret
          exact ⟨by rw [← HU.out, HE.out]; rfl, rfl⟩
    · have HE := hide (passN_end (s := s) (b := false) (k := k) (by omega))
      have hlt' : ¬ ((k : Int) < (s.size : Int)) := by omega
      have hks : k = s.size := by omega
      go_wp2
      go_ret
      exact ⟨by rw [← HU.out, HE.out, ← hks]; rfl, rfl⟩
end Go.Proofs.YtfgcflfnpeapaaaGreatDoor
