/-
  What the readers of numbers answer, the tested one and the model alike: numR, in the world as it was.
-/
import Derived.Test.YtaflokfgbmlmaabNum
import Derived.Test.YtaflokfgbmlmaabWord
import Derived.Laws.Bits128
namespace Go.Proofs.Ytaflokfgbmlmaab
open Go.RowKit
set_option linter.unusedVariables false

set_option maxHeartbeats 1600000 in
theorem specGetNum_in (b off cap A n : Nat) (bs : List UInt8) (w : World) (hc : ∀ i, i < bs.length → w.cell? ⟨b, off + i, none⟩ = some (.int .u8 (byteAt bs i))) (hl : n = bs.length) (hn : n ≤ 1048580) (hA : A < n) :
    Calls Try.prog 92 #[.slice (some ⟨b, off, none⟩) n cap, .int .i64 (A : Int)] w fun e w' =>
      e = .returned (.tuple #[.int .i64 (numR bs A).1, .int .i64 (numR bs A).2.1, .bool (numR bs A).2.2]) ∧ w' = w := by
  have HN := hide hl
  have HC := hide hc
  clear hl hc
  go_enter Try.func92, Try.ntmps92
  go_wp2
  go_loop [7, 8] (fun m i => ∃ k : Nat, k ≤ 5 ∧ i = .int .i64 k ∧ m = .int .i64 (accN bs A k : Nat) ∧ scanN bs A 5 0 = scanN bs A (5 - k) k) (fun _ i => 5 - (intOf i).toNat)
  case atStart => exact ⟨0, Nat.zero_le _, rfl, rfl, rfl⟩
  case round =>
    obtain ⟨k, hk, rfl, rfl, hs⟩ := hrel
    have HS := hide hs
    clear hs
    have hm := accN_lt bs A k
    have hp := pow128_le hk
    have HM : Hid (accN bs A (k + 1) = accN bs A k + (byteAt bs (A + k)).toNat % 128 * 128 ^ k) := rfl
    by_cases h5 : k < 5
    · by_cases hlt : A + k < n
      · have h1 : w.cell? ⟨b, off + (A + k), none⟩ = some (.int .u8 (byteAt bs (A + k))) := HC.out _ (by rw [← HN.out]; exact hlt)
        have x1 := byteAt_lo bs (A + k)
        have x2 := byteAt_hi bs (A + k)
        have HX : Hid ((byteAt bs (A + k) < 128 → numR bs (A : Int) = if (k ≠ 0 ∧ byteAt bs (A + k) = 0) ∨ 2000000000 < accN bs A (k + 1) then (0, 0, false) else (unfN (accN bs A (k + 1)), (A : Int) + k + 1, true)) ∧
            (¬ byteAt bs (A + k) < 128 → scanN bs A (5 - k) k = scanN bs A (5 - (k + 1)) (k + 1))) :=
          ⟨fun h => numR_some (HS.out.trans (scanN_last h5 (by rw [← HN.out]; exact hlt) h)), fun h => scanN_more h5 (by rw [← HN.out]; exact hlt) h⟩
        generalize byteAt bs (A + k) = c at h1 x1 x2 HM HX ⊢
        generalize accN bs A k = m at hm HM ⊢
        have hor := or_step hm h5 x1 x2
        rw [← HM.out] at hor
        have hM := accN_lt bs A (k + 1)
        have hP := pow128_le (k := k + 1) (by omega)
        obtain ⟨M, HE⟩ : ∃ M, Hid (accN bs A (k + 1) = M) := ⟨_, rfl⟩
        rw [HE.out] at hor hM HX
        clear HM
        have h127 := i64_and127 c
        by_cases hbig : 127 < c
        · go_wp2
          go_round
          case rel => exact ⟨k + 1, by omega, by go_num, by rw [HE.out], HS.out.trans (HX.out.2 (by omega))⟩
          case measure => simp [intOf]; omega
        · have HF := hide (HX.out.1 (by omega))
          clear HX
          have hA0 := i64_and_nat M 1 (by omega) (by omega)
          rw [Nat.and_one_is_mod] at hA0
          have hUI := unfN_in M
          by_cases hodd : M % 2 = 1
          · have hA : bits .and .i64 (M : Int) 1 = 1 := by rw [hodd] at hA0; exact hA0
            have HU := hide (unfN_odd hodd)
            rw [HU.out] at hUI HF
            clear hA0 hodd
            by_cases hz : 0 < k ∧ c ≤ 0
            · obtain ⟨hz1, hz2⟩ := hz
              have HG := hide (HF.out.trans (if_pos (Or.inl ⟨by omega, by omega⟩)))
              clear hUI
              go_wp2
              go_ret3
              exact ⟨ret_num HG.out, rfl⟩
            · by_cases hbg : 2000000000 < M
              · have hI : inB (-((M : Int) / 2) - 1) (-1000000000) 1000000000 = false := by rw [hUI]; simp [hbg]
                have HG := hide (HF.out.trans (if_pos (Or.inr hbg)))
                clear hUI
                by_cases hk0 : 0 < k
                all_goals
                  go_wp2_with (first | (go_at_call 48; refine (l1In_any _ _ _ _).mono ?_; rintro e w' ⟨rfl, rfl⟩))
                  go_ret3
                  exact ⟨ret_num HG.out, rfl⟩
              · have hI : inB (-((M : Int) / 2) - 1) (-1000000000) 1000000000 = true := by rw [hUI]; simp [hbg]
                have HG := hide (HF.out.trans (if_neg (fun h => by rcases h with ⟨h, h'⟩ | h <;> omega)))
                clear hUI
                by_cases hk0 : 0 < k
                all_goals
                  go_wp2_with (first | (go_at_call 48; refine (l1In_any _ _ _ _).mono ?_; rintro e w' ⟨rfl, rfl⟩))
                  go_ret3
                  exact ⟨ret_num HG.out, rfl⟩
          · have hA : bits .and .i64 (M : Int) 1 = 0 := by rw [show M % 2 = 0 by omega] at hA0; exact hA0
            have HU := hide (unfN_even hodd)
            rw [HU.out] at hUI HF
            clear hA0 hodd
            by_cases hz : 0 < k ∧ c ≤ 0
            · obtain ⟨hz1, hz2⟩ := hz
              have HG := hide (HF.out.trans (if_pos (Or.inl ⟨by omega, by omega⟩)))
              clear hUI
              go_wp2
              go_ret3
              exact ⟨ret_num HG.out, rfl⟩
            · by_cases hbg : 2000000000 < M
              · have hI : inB ((M : Int) / 2) (-1000000000) 1000000000 = false := by rw [hUI]; simp [hbg]
                have HG := hide (HF.out.trans (if_pos (Or.inr hbg)))
                clear hUI
                by_cases hk0 : 0 < k
                all_goals
                  go_wp2_with (first | (go_at_call 48; refine (l1In_any _ _ _ _).mono ?_; rintro e w' ⟨rfl, rfl⟩))
                  go_ret3
                  exact ⟨ret_num HG.out, rfl⟩
              · have hI : inB ((M : Int) / 2) (-1000000000) 1000000000 = true := by rw [hUI]; simp [hbg]
                have HG := hide (HF.out.trans (if_neg (fun h => by rcases h with ⟨h, h'⟩ | h <;> omega)))
                clear hUI
                by_cases hk0 : 0 < k
                all_goals
                  go_wp2_with (first | (go_at_call 48; refine (l1In_any _ _ _ _).mono ?_; rintro e w' ⟨rfl, rfl⟩))
                  go_ret3
                  exact ⟨ret_num HG.out, rfl⟩
      · have HR := hide (numR_none (HS.out.trans (scanN_end h5 (by rw [← HN.out]; exact hlt))))
        go_wp2
        go_ret3
        exact ⟨ret_num HR.out, rfl⟩
    · obtain rfl : k = 5 := by omega
      have HR := hide (numR_none (HS.out))
      go_wp2
      go_ret3
      exact ⟨ret_num HR.out, rfl⟩

set_option maxHeartbeats 1600000 in
theorem specGetNum_out (a : Option Addr) (cap n : Nat) (x : Int) (bs : List UInt8) (w : World) (hl : n = bs.length) (hn : n ≤ 1048580) (hx : x < 0 ∨ (n : Int) ≤ x) :
    Calls Try.prog 92 #[.slice a n cap, .int .i64 x] w fun e w' => e = .returned (.tuple #[.int .i64 0, .int .i64 0, .bool false]) ∧ w' = w := by
  clear hl
  by_cases h0 : 0 ≤ x
  all_goals
    go_enter Try.func92, Try.ntmps92
    go_wp2
    refine wp_loop_rounds 1 ?_
    rw [rounds_succ]
    go_wp2
    go_ret3
    exact ⟨rfl, rfl⟩

theorem specGetNum_any (a : Option Addr) (cap : Nat) (x : Int) (bs : List UInt8) (w : World) (hr : Rd w a bs) (hn : bs.length ≤ 1048580) :
    Calls Try.prog 92 #[.slice a bs.length cap, .int .i64 x] w fun e w' =>
      e = .returned (.tuple #[.int .i64 (numR bs x).1, .int .i64 (numR bs x).2.1, .bool (numR bs x).2.2]) ∧ w' = w := by
  by_cases h0 : 0 ≤ x
  · by_cases h1 : x < bs.length
    · obtain ⟨A, rfl⟩ := Int.eq_ofNat_of_zero_le h0
      obtain ⟨b, off, rfl, _, hc⟩ := hr.open (by omega)
      exact specGetNum_in b off cap A bs.length bs w hc rfl hn (by omega)
    · rw [numR_past (by omega)]
      exact specGetNum_out a cap bs.length x bs w rfl hn (by omega)
  · rw [numR_neg (by omega)]
    exact specGetNum_out a cap bs.length x bs w rfl hn (by omega)
end Go.Proofs.Ytaflokfgbmlmaab
