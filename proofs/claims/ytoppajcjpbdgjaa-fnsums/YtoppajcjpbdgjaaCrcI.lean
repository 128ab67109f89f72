/-
  What the tested sum answers: the bytes' sum, in the world as it was.
-/
import Derived.Test.YtoppajcjpbdgjaaCrcD
namespace Go.Proofs.Ytoppajcjpbdgjaa
open Go.RowKit
set_option linter.unusedVariables false

set_option maxHeartbeats 800000 in
theorem turnByte_any (X : Nat) (c : Int) (w : World) (hX : X < 4294967296) (x1 : 0 ≤ c) (x2 : c ≤ 255) :
    Calls Try.prog 33 #[.int .u32 (X : Int), .int .u8 c] w fun e w' => e = .returned (.int .u32 (cbyte X c.toNat : Nat)) ∧ w' = w := by
  have h2 : bits .xor .u32 (X : Int) c = ((X ^^^ c.toNat : Nat) : Int) := by
    have := u32_xor_nat X c.toNat (by omega) (by omega)
    rw [Int.toNat_of_nonneg x1] at this
    exact this
  have hY : X ^^^ c.toNat < 4294967296 := cxor_lt hX (by omega)
  have HY : Hid (cbyte X c.toNat = cstepN 8 (X ^^^ c.toNat)) := rfl
  generalize X ^^^ c.toNat = Y at h2 hY HY
  rw [HY.out]
  go_enter Try.func33, Try.ntmps33
  go_wp2
  go_loop [0, 10] (fun x i => ∃ j : Nat, j ≤ 8 ∧ i = .int .i64 j ∧ x = .int .u32 (cstepN j Y : Nat)) (fun _ i => 8 - (intOf i).toNat)
  case atStart => exact ⟨0, Nat.zero_le _, rfl, rfl⟩
  case round =>
    obtain ⟨j, hj, rfl, rfl⟩ := hrel
    have hZ := cstepN_lt hY j
    have HZ : Hid (cstepN (j + 1) Y = cstep (cstepN j Y)) := rfl
    by_cases hj8 : j < 8
    · generalize cstepN j Y = Z at hZ HZ ⊢
      have hA0 := u32_and_nat Z 1 (by omega) (by omega)
      rw [Nat.and_one_is_mod] at hA0
      by_cases hodd : Z % 2 = 1
      · have hA : bits .and .u32 (Z : Int) 1 = 1 := by rw [hodd] at hA0; exact hA0
        have hS : bits .xor .u32 ((Z : Int) / 2) 2197175160 = ((Z / 2 ^^^ 2197175160 : Nat) : Int) := by
          have := u32_xor_nat (Z / 2) 2197175160 (by omega) (by omega)
          rw [Int.natCast_ediv] at this
          exact this
        have HC : Hid (cstep Z = Z / 2 ^^^ 2197175160) := by unfold Hid cstep; rw [if_pos hodd]
        clear hA0 hodd
        go_wp2
        go_round
        case rel => exact ⟨j + 1, by omega, by go_num, by rw [HZ.out, HC.out]⟩
        case measure => simp [intOf]; omega
      · have hA : bits .and .u32 (Z : Int) 1 = 0 := by rw [show Z % 2 = 0 by omega] at hA0; exact hA0
        have HC : Hid (cstep Z = Z / 2) := by unfold Hid cstep; rw [if_neg hodd]
        clear hA0 hodd
        go_wp2
        go_round
        case rel => exact ⟨j + 1, by omega, by go_num, by rw [HZ.out, HC.out]; go_num⟩
        case measure => simp [intOf]; omega
    · have hj9 : j = 8 := by omega
      have HE : Hid (cstepN j Y = cstepN 8 Y) := by unfold Hid; rw [hj9]
      clear hj9
      go_wp2
      go_ret
      exact ⟨ret_int (by rw [HE.out]), rfl⟩

theorem xor_all_lt (x : Nat) (h : x < 4294967296) : x ^^^ 4294967295 < 4294967296 := cxor_lt h (by omega)

set_option maxHeartbeats 800000 in
theorem implCrc_any (a : Option Addr) (cap : Nat) (bs : List UInt8) (w : World) (hr : Rd w a bs) (hn : bs.length ≤ 1048580) :
    Calls Try.prog 15 #[.slice a bs.length cap] w fun e w' => e = .returned (.int .i64 (crcN bs : Nat)) ∧ w' = w := by
  obtain ⟨n, hN⟩ : ∃ n, n = bs.length := ⟨_, rfl⟩
  rw [← hN] at hn ⊢
  have HN := hide hN
  clear hN
  go_enter Try.func15, Try.ntmps15
  go_wp2
  go_loop [3, 8] (fun x i => ∃ k : Nat, k ≤ n ∧ i = .int .i64 k ∧ x = .int .u32 (crcTo bs k : Nat)) (fun _ i => n - (intOf i).toNat)
  case atStart => exact ⟨0, Nat.zero_le _, rfl, rfl⟩
  case round =>
    obtain ⟨k, hk, rfl, rfl⟩ := hrel
    have hX := crcTo_lt bs k
    have HX : Hid (crcTo bs (k + 1) = cbyte (crcTo bs k) (byteAt bs k).toNat) := rfl
    by_cases hlt : k < n
    · obtain ⟨b, off, hab, hbw, hc⟩ := hr.open (by rw [← HN.out]; omega)
      have h1 := hc k (by rw [← HN.out]; exact hlt)
      clear hc
      subst hab
      have x1 := byteAt_lo bs k
      have x2 := byteAt_hi bs k
      go_wp2_with (go_at_call 33; refine (turnByte_any _ _ _ hX x1 x2).mono ?_; rintro e w' ⟨rfl, rfl⟩)
      go_round
      case rel => exact ⟨k + 1, by omega, by go_num, by rw [HX.out]⟩
      case measure => simp [intOf]; omega
    · have hkn : k = bs.length := by rw [← HN.out]; omega
      have hX2 : bits .xor .u32 IntKind.u32.max ((crcTo bs k : Nat) : Int) = ((crcTo bs k ^^^ 4294967295 : Nat) : Int) := by
        rw [Nat.xor_comm, show IntKind.u32.max = (4294967295 : Int) by decide]; exact u32_xor_nat 4294967295 (crcTo bs k) (by omega) (by omega)
      have hX3 := xor_all_lt (crcTo bs k) hX
      have HE : Hid (crcTo bs k ^^^ 4294967295 = crcN bs) := by unfold Hid crcN; rw [hkn]
      clear hkn
      generalize crcTo bs k ^^^ 4294967295 = R at hX2 hX3 HE
      generalize crcTo bs k = X at hX2 hX HX ⊢
      go_wp2
      go_ret
      exact ⟨ret_int (by rw [← HE.out]; exact IntWalk.wrap64_in _ (by omega)), rfl⟩
end Go.Proofs.Ytoppajcjpbdgjaa
