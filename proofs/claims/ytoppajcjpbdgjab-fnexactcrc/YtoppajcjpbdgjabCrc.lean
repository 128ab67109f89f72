/-
  What the model's sum answers: the bytes' sum, in the world as it was.
-/
import Derived.Test.YtoppajcjpbdgjabCrcD
namespace Go.Proofs.Ytoppajcjpbdgjab
open Go.RowKit
set_option linter.unusedVariables false

set_option maxHeartbeats 800000 in
theorem specCrc_any (a : Option Addr) (cap : Nat) (bs : List UInt8) (w : World) (hr : Rd w a bs) (hn : bs.length ≤ 1048580) :
    Calls Try.prog 21 #[.slice a bs.length cap] w fun e w' => e = .returned (.int .i64 (crcN bs : Nat)) ∧ w' = w := by
  obtain ⟨n, hN⟩ : ∃ n, n = bs.length := ⟨_, rfl⟩
  rw [← hN] at hn ⊢
  have HN := hide hN
  clear hN
  go_enter Try.func21, Try.ntmps21
  go_wp2
  go_loop [3, 4] (fun x i => ∃ k : Nat, k ≤ n ∧ i = .int .i64 k ∧ x = .int .i64 (crcTo bs k : Nat)) (fun _ i => n - (intOf i).toNat)
  case atStart => exact ⟨0, Nat.zero_le _, rfl, rfl⟩
  case round =>
    obtain ⟨k, hk, rfl, rfl⟩ := hrel
    have hX := crcTo_lt bs k
    have HX : Hid (crcTo bs (k + 1) = cbyte (crcTo bs k) (byteAt bs k).toNat) := rfl
    by_cases hlt : k < n
    · obtain ⟨b, off, hab, hbw, hc⟩ := hr.open (by rw [← HN.out]; omega)
      have h1 := hc k (by rw [← HN.out]; exact hlt)
      clear hc
      subst hab
      have x1 := byteAt_lo bs k
      have x2 := byteAt_hi bs k
      generalize crcTo bs k = X at hX HX ⊢
      have h2 : bits .xor .i64 (X : Int) (byteAt bs k) = ((X ^^^ (byteAt bs k).toNat : Nat) : Int) := by
        have := i64_xor_nat X (byteAt bs k).toNat (by omega) (by omega)
        rw [Int.toNat_of_nonneg x1] at this
        exact this
      have hY : X ^^^ (byteAt bs k).toNat < 4294967296 := cxor_lt hX (by omega)
      have HY : Hid (crcTo bs (k + 1) = cstepN 8 (X ^^^ (byteAt bs k).toNat)) := HX.out
      generalize X ^^^ (byteAt bs k).toNat = Y at h2 hY HY ⊢
      go_wp2
      go_loop [3, 5] (fun x i => ∃ j : Nat, j ≤ 8 ∧ i = .int .i64 j ∧ x = .int .i64 (cstepN j Y : Nat)) (fun _ i => 8 - (intOf i).toNat)
      case atStart => exact ⟨0, Nat.zero_le _, rfl, rfl⟩
      case round =>
        obtain ⟨j, hj, rfl, rfl⟩ := hrel
        have hZ := cstepN_lt hY j
        have HZ : Hid (cstepN (j + 1) Y = cstep (cstepN j Y)) := rfl
        by_cases hj8 : j < 8
        · generalize cstepN j Y = Z at hZ HZ ⊢
          have hA0 := i64_and_nat Z 1 (by omega) (by omega)
          rw [Nat.and_one_is_mod] at hA0
          by_cases hodd : Z % 2 = 1
          · have hA : bits .and .i64 (Z : Int) 1 = 1 := by rw [hodd] at hA0; exact hA0
            have hS : bits .xor .i64 ((Z : Int) / 2) 2197175160 = ((Z / 2 ^^^ 2197175160 : Nat) : Int) := by
              have := i64_xor_nat (Z / 2) 2197175160 (by omega) (by omega)
              rw [Int.natCast_ediv] at this
              exact this
            have HC : Hid (cstep Z = Z / 2 ^^^ 2197175160) := by unfold Hid cstep; rw [if_pos hodd]
            clear hA0 hodd
            go_wp2
            go_round
            case rel => exact ⟨j + 1, by omega, by go_num, by rw [HZ.out, HC.out]⟩
            case measure => simp [intOf]; omega
          · have hA : bits .and .i64 (Z : Int) 1 = 0 := by rw [show Z % 2 = 0 by omega] at hA0; exact hA0
            have HC : Hid (cstep Z = Z / 2) := by unfold Hid cstep; rw [if_neg hodd]
            clear hA0 hodd
            go_wp2
            go_round
            case rel => exact ⟨j + 1, by omega, by go_num, by rw [HZ.out, HC.out]; go_num⟩
            case measure => simp [intOf]; omega
        · have hj9 : j = 8 := by omega
          have HE : Hid (cstepN j Y = crcTo bs (k + 1)) := by unfold Hid; rw [hj9, HY.out]
          clear hj9
          go_wp2
          go_round
          case rel => exact ⟨k + 1, by omega, by go_num, by rw [HE.out]⟩
          case measure => simp [intOf]; omega
    · have hkn : k = bs.length := by rw [← HN.out]; omega
      have hX2 := i64_xor_nat (crcTo bs k) 4294967295 (by omega) (by omega)
      have HE : Hid (crcTo bs k ^^^ 4294967295 = crcN bs) := by unfold Hid crcN; rw [hkn]
      clear hkn
      go_wp2
      go_ret
      exact ⟨ret_int (by rw [← HE.out]; exact hX2), rfl⟩

end Go.Proofs.Ytoppajcjpbdgjab
