/-
  What the tested reader of numbers answers: numR, in the world as it was.
-/
import Derived.Test.YtaflokfgbmlmaabNum
import Derived.Laws.Bits128
namespace Go.Proofs.Ytaflokfgbmlmaab
open Go.RowKit
set_option linter.unusedVariables false

set_option maxHeartbeats 400000 in
theorem unfoldSign_any (M : Nat) (w : World) (h : M ≤ 2000000000) :
    Calls Try.prog 117 #[.int .i64 (M : Int)] w fun e w' => e = .returned (.int .i64 (unfN M)) ∧ w' = w := by
  by_cases hodd : M % 2 = 1
  · have h1 : (((M : Int) % 2) == 1) = true := by simp; omega
    have HU := hide (unfN_odd hodd)
    clear hodd
    go_enter Try.func117, Try.ntmps117
    go_wp2
    go_ret
    exact ⟨ret_int (by
      have HO : (M : Int) % 2 = 1 := by simpa using h1
      rw [HU.out, Int.tdiv_eq_ediv_of_nonneg (by omega), IntWalk.wrap64_in _ (by omega)]
      omega), rfl⟩
  · have h1 : (((M : Int) % 2) == 1) = false := by simp; omega
    have HU := hide (unfN_even hodd)
    clear hodd
    go_enter Try.func117, Try.ntmps117
    go_wp2
    go_ret
    exact ⟨ret_int (by rw [HU.out]), rfl⟩

set_option maxHeartbeats 1600000 in
theorem getGroups_in (b off cap A n : Nat) (bs : List UInt8) (w : World) (hc : ∀ i, i < bs.length → w.cell? ⟨b, off + i, none⟩ = some (.int .u8 (byteAt bs i))) (hl : n = bs.length) (hn : n ≤ 1048580) (hcap : n ≤ cap) (hA : A < n) :
    Calls Try.prog 116 #[.slice (some ⟨b, off, none⟩) n cap, .int .i64 (A : Int)] w fun e w' =>
      e = .returned (.tuple #[.int .i64 (grpR bs A).1, .int .i64 (grpR bs A).2.1, .bool (grpR bs A).2.2]) ∧ w' = w := by
  have HN := hide hl
  have HC := hide hc
  clear hl hc
  by_cases h5 : A + 5 < n
  all_goals
    go_enter Try.func116, Try.ntmps116
    go_wp2
    go_loop [7, 27] (fun m i => ∃ k : Nat, k ≤ 5 ∧ A + k ≤ n ∧ i = .int .i64 k ∧ m = .int .i64 (accN bs A k : Nat) ∧ scanN bs A 5 0 = scanN bs A (5 - k) k) (fun _ i => 5 - (intOf i).toNat)
    case atStart => exact ⟨0, Nat.zero_le _, by omega, rfl, rfl, rfl⟩
    case round =>
      obtain ⟨k, hk, hkn, rfl, rfl, hs⟩ := hrel
      have HS := hide hs
      clear hs
      have hm := accN_lt bs A k
      have hp := pow128_le hk
      have HM : Hid (accN bs A (k + 1) = accN bs A k + (byteAt bs (A + k)).toNat % 128 * 128 ^ k) := rfl
      by_cases hin : k < 5 ∧ A + k < n
      · obtain ⟨hk5, hlt⟩ := hin
        have h1 : w.cell? ⟨b, off + A + k, none⟩ = some (.int .u8 (byteAt bs (A + k))) := by rw [Nat.add_assoc]; exact HC.out _ (by rw [← HN.out]; exact hlt)
        have x1 := byteAt_lo bs (A + k)
        have x2 := byteAt_hi bs (A + k)
        have HX : Hid ((byteAt bs (A + k) < 128 → grpR bs A = (((accN bs A (k + 1) : Nat) : Int), (A : Int) + k + 1, k == 0 || byteAt bs (A + k) != 0)) ∧
            (¬ byteAt bs (A + k) < 128 → scanN bs A (5 - k) k = scanN bs A (5 - (k + 1)) (k + 1))) :=
          ⟨fun h => grpR_some (HS.out.trans (scanN_last hk5 (by rw [← HN.out]; exact hlt) h)), fun h => scanN_more hk5 (by rw [← HN.out]; exact hlt) h⟩
        generalize byteAt bs (A + k) = c at h1 x1 x2 HM HX ⊢
        generalize accN bs A k = m at hm HM ⊢
        have hor := or_step hm hk5 x1 x2
        rw [← HM.out] at hor
        have hM := accN_lt bs A (k + 1)
        have hP := pow128_le (k := k + 1) (by omega)
        obtain ⟨M, HE⟩ : ∃ M, Hid (accN bs A (k + 1) = M) := ⟨_, rfl⟩
        rw [HE.out] at hor hM HX
        clear HM
        have h127 := u8_and127 c x1 x2
        by_cases hbig : c < 128
        · have HF := hide (HX.out.1 hbig)
          clear HX
          by_cases hk0 : 0 < k
          · have hk1 : ((k : Int) == 0) = false := by simp; omega
            have hk2 : (k == 0) = false := by simp; omega
            cases hq : (c != 0)
            · have HG : Hid (grpR bs A = ((M : Int), (A : Int) + k + 1, false)) := by
                unfold Hid; rw [HF.out, hq, hk2]; rfl
              clear HF hk2
              go_wp2
              go_ret3
              exact ⟨ret_grp HG.out, rfl⟩
            · have HG : Hid (grpR bs A = ((M : Int), (A : Int) + k + 1, true)) := by
                unfold Hid; rw [HF.out, hq, hk2]; rfl
              clear HF hk2
              go_wp2
              go_ret3
              exact ⟨ret_grp HG.out, rfl⟩
          · have HG : Hid (grpR bs A = ((M : Int), (A : Int) + 1, true)) := by
              unfold Hid
              obtain rfl : k = 0 := by omega
              rw [HF.out]; simp
            clear HF
            go_wp2
            go_ret3
            exact ⟨ret_grp HG.out, rfl⟩
        · go_wp2
          go_round
          case rel => exact ⟨k + 1, by omega, by omega, by go_num, by rw [HE.out], HS.out.trans (HX.out.2 (by omega))⟩
          case measure => simp [intOf]; omega
      · have HR := hide (grpR_none (HS.out.trans (by
          by_cases hk5 : k < 5
          · exact scanN_end hk5 (by rw [← HN.out]; omega)
          · rw [show k = 5 by omega]; rfl)))
        go_wp2
        go_ret3
        exact ⟨ret_grp HR.out, rfl⟩

set_option maxHeartbeats 1600000 in
theorem getGroups_out (a : Option Addr) (cap n : Nat) (x : Int) (w : World) (hn : n ≤ 1048580) (hx : x < 0 ∨ (n : Int) < x) :
    Calls Try.prog 116 #[.slice a n cap, .int .i64 x] w fun e w' => e = .returned (.tuple #[.int .i64 0, .int .i64 0, .bool false]) ∧ w' = w := by
  by_cases h0 : 0 ≤ x
  all_goals
    go_enter Try.func116, Try.ntmps116
    go_wp2
    go_ret3
    exact ⟨rfl, rfl⟩

set_option maxHeartbeats 1600000 in
theorem getGroups_end (a : Option Addr) (cap n : Nat) (w : World) (hn : n ≤ 1048580) (hcap : n ≤ cap) (ha : a = none → n = 0 ∧ cap = 0) :
    Calls Try.prog 116 #[.slice a n cap, .int .i64 (n : Int)] w fun e w' => e = .returned (.tuple #[.int .i64 0, .int .i64 0, .bool false]) ∧ w' = w := by
  cases a with
  | none =>
    obtain ⟨rfl, rfl⟩ := ha rfl
    go_enter Try.func116, Try.ntmps116
    go_wp2
    refine wp_loop_rounds 1 ?_
    rw [rounds_succ]
    go_wp2
    go_ret3
    exact ⟨rfl, rfl⟩
  | some p =>
    go_enter Try.func116, Try.ntmps116
    go_wp2
    all_goals
      refine wp_loop_rounds 1 ?_
      rw [rounds_succ]
      go_wp2
      go_ret3
      exact ⟨rfl, rfl⟩

theorem ret_none {bs : List UInt8} {x : Int} (h : numR bs x = (0, 0, false)) :
    Ending.returned (.tuple #[.int .i64 0, .int .i64 0, .bool false]) = .returned (.tuple #[.int .i64 (numR bs x).1, .int .i64 (numR bs x).2.1, .bool (numR bs x).2.2]) := by rw [h]

set_option maxHeartbeats 1600000 in
theorem implGetNum_any (a : Option Addr) (cap : Nat) (x : Int) (bs : List UInt8) (w : World) (hr : Rd w a bs) (hn : bs.length ≤ 1048580) (hcap : bs.length ≤ cap) (ha : a = none → bs.length = 0 ∧ cap = 0) :
    Calls Try.prog 94 #[.slice a bs.length cap, .int .i64 x] w fun e w' =>
      e = .returned (.tuple #[.int .i64 (numR bs x).1, .int .i64 (numR bs x).2.1, .bool (numR bs x).2.2]) ∧ w' = w := by
  by_cases h0 : x < 0 ∨ (bs.length : Int) < x
  · have HR : Hid (numR bs x = (0, 0, false)) := by
      rcases h0 with h | h
      · exact numR_neg h
      · exact numR_past (by omega)
    go_enter Try.func94, Try.ntmps94
    go_wp2_with fail
    refine (getGroups_out a cap bs.length x w hn h0).mono ?_
    rintro e w' ⟨rfl, rfl⟩
    go_wp2
    go_ret3
    exact ⟨ret_none HR.out, rfl⟩
  · by_cases h1 : x = bs.length
    · have HR : Hid (numR bs x = (0, 0, false)) := numR_past (by omega)
      subst h1
      go_enter Try.func94, Try.ntmps94
      go_wp2_with fail
      refine (getGroups_end a cap bs.length w hn hcap ha).mono ?_
      rintro e w' ⟨rfl, rfl⟩
      go_wp2
      go_ret3
      exact ⟨ret_none HR.out, rfl⟩
    · obtain ⟨A, rfl⟩ := Int.eq_ofNat_of_zero_le (show 0 ≤ x by omega)
      obtain ⟨b, off, rfl, _, hc⟩ := hr.open (by omega)
      obtain ⟨M, hM, hg, hnr⟩ := numR_grp bs A
      have HC := getGroups_in b off cap A bs.length bs w hc rfl hn hcap (by omega)
      have HN := hide hnr
      clear hnr hc
      rw [hg] at HC
      generalize (grpR bs A).2.1 = y at HC HN
      generalize (grpR bs A).2.2 = z at HC HN
      clear hg
      cases z with
      | false =>
        have HR := hide (HN.out.trans (if_pos (Or.inl rfl)))
        go_enter Try.func94, Try.ntmps94
        go_wp2_with fail
        refine HC.mono ?_
        rintro e w' ⟨rfl, rfl⟩
        go_wp2
        go_ret3
        exact ⟨ret_none HR.out, rfl⟩
      | true =>
        by_cases hbg : 2000000000 < M
        · have HR := hide (HN.out.trans (if_pos (Or.inr hbg)))
          go_enter Try.func94, Try.ntmps94
          go_wp2_with fail
          refine HC.mono ?_
          rintro e w' ⟨rfl, rfl⟩
          go_wp2
          go_ret3
          exact ⟨ret_none HR.out, rfl⟩
        · have HR := hide (HN.out.trans (if_neg (fun h => by rcases h with h | h; exact Bool.noConfusion h; omega)))
          go_enter Try.func94, Try.ntmps94
          go_wp2_with fail
          refine HC.mono ?_
          rintro e w' ⟨rfl, rfl⟩
          go_wp2_with (go_at_call 117; refine (unfoldSign_any _ _ (by omega)).mono ?_; rintro e w' ⟨rfl, rfl⟩)
          go_ret3
          exact ⟨ret_num HR.out, rfl⟩
end Go.Proofs.Ytaflokfgbmlmaab
