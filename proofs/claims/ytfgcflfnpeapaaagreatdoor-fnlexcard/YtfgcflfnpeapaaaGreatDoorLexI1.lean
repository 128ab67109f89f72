/-
  What the tested passOver answers.
-/
import Derived.Test.YtfgcflfnpeapaaaGreatDoorLexP
import Derived.Test.YtfgcflfnpeapaaaGreatDoorTokI
import Derived.Test.YtfgcflfnpeapaaaGreatDoorGotos
namespace Go.Proofs.YtfgcflfnpeapaaaGreatDoor
open Go.RowKit
set_option linter.unusedVariables false

set_option maxHeartbeats 400000 in
theorem byteAt_any (s : ByteArray) (k : Nat) (w : World) (hs : s.size ≤ 1048576) :
    Calls Tryz.prog 28 #[.string s, .int .i64 (k : Int)] w fun e w' => e = .returned (.int .u8 (bat s k)) ∧ w' = w := by
  by_cases h : k < s.size
  · have HB := hide (bat_in h)
    have h' : ¬ ((s.size : Int) ≤ (k : Int)) := by omega
    go_enter Tryz.func28, Tryz.ntmps28
    go_wp2
    go_ret
    exact ⟨by rw [HB.out]; rfl, rfl⟩
  · have HB := hide (bat_out (s := s) (k := k) (by omega))
    have h' : ((s.size : Int) ≤ (k : Int)) := by omega
    go_enter Tryz.func28, Tryz.ntmps28
    go_wp2
    go_ret
    exact ⟨by rw [HB.out]; rfl, rfl⟩

def blankI (x : Int) : Bool := x == 32 || x == 9 || x == 10 || x == 13
set_option maxHeartbeats 400000 in
theorem isBlank_any (x : Int) (w : World) :
    Calls Tryz.prog 29 #[.int .u8 x] w fun e w' => e = .returned (.bool (blankI x)) ∧ w' = w := by
  have hr : blankI x = (x == 32 || x == 9 || x == 10 || x == 13) := rfl
  cases h1 : (x == 32) <;> cases h2 : (x == 9) <;> cases h3 : (x == 10) <;> cases h4 : (x == 13)
  all_goals
    rw [h1, h2, h3, h4] at hr
    rw [hr]
    clear hr
    go_enter Tryz.func29, Tryz.ntmps29
    go_wp2
    go_ret
    exact ⟨rfl, rfl⟩
theorem blankI_iff {x : Int} : blankI x = true ↔ (x = 32 ∨ x = 9 ∨ x = 10 ∨ x = 13) := by simp [blankI]; omega

theorem in_of {s : ByteArray} {k : Nat} (h : bat s k ≠ 0) : k < s.size := by
  by_cases h2 : k < s.size
  · exact h2
  · exact absurd (bat_out (by omega)) h
theorem cast1 (k : Nat) : ((k : Int) + 1) = ((k + 1 : Nat) : Int) := by omega

set_option maxRecDepth 100000 in
set_option maxHeartbeats 3200000 in
theorem passOver_any (s : ByteArray) (k0 : Nat) (w : World) (hs : s.size ≤ 1048576) (hk0 : k0 ≤ s.size) :
    Calls Tryz.prog 17 #[.string s, .int .i64 (k0 : Int)] w fun e w' => e = .returned (.int .i64 ((passN s false k0 : Nat) : Int)) ∧ w' = w := by
  obtain ⟨R, hR⟩ : ∃ R, passN s false k0 = R := ⟨_, rfl⟩
  have HR := hide hR
  clear hR
  go_enter Tryz.func17, Tryz.ntmps17
  go_wp2
  refine wp_scope_gotos (fun l a' w' => w' = w ∧ ∃ (k : Nat) (u5 u6 u7 u8 u9 u10 u11 u12 u13 u14 u15 u16 u17 u18 u19 u20 u21 u22 u23 u24 u25 u26 u27 u28 u29 : Value), a' = { tmps := #[.string s, .int .i64 (k : Int), undef, undef, .int .i64 0, u5, u6, u7, u8, u9, u10, u11, u12, u13, u14, u15, u16, u17, u18, u19, u20, u21, u22, u23, u24, u25, u26, u27, u28, u29], defers := [] } ∧ ((l = 0 ∧ k ≤ s.size ∧ passN s false k = R) ∨ (l = 1 ∧ k < s.size ∧ passN s true (k + 1) = R))) (fun l a' _ => 2 * (s.size - (intOf (a'.tmps.getD 1 undef)).toNat) - l) ?_ ?_ ?_
  · rintro l a' w' ⟨-, k, u5, u6, u7, u8, u9, u10, u11, u12, u13, u14, u15, u16, u17, u18, u19, u20, u21, u22, u23, u24, u25, u26, u27, u28, u29, rfl, ⟨rfl, -, -⟩ | ⟨rfl, -, -⟩⟩ <;> rfl
  · go_wp2
    go_step3
    go_wp2_with fail
    refine (byteAt_any s k0 _ hs).mono ?_
    rintro e w' ⟨rfl, rfl⟩
    go_wp2_with fail
    refine (isBlank_any _ _).mono ?_
    rintro e w' ⟨rfl, rfl⟩
    cases hb : blankI (bat s k0)
    · by_cases h37 : bat s k0 = 37
      · have hlt := in_of (s := s) (k := k0) (by omega)
        have HE := hide (passN_rem hlt h37)
        have hq : (bat s k0 == 37) = true := by simpa using h37
        clear h37 hb
        go_wp2
        go_step3
        exact ⟨rfl, k0, _, _, _, _, _, _, _, _, _, _, _, _, _, _, _, _, _, _, _, _, _, _, _, _, _, rfl, .inr ⟨rfl, hlt, by rw [← HE.out]; exact HR.out⟩⟩
      · have HE : Hid (passN s false k0 = k0) := by
          by_cases hlt : k0 < s.size
          · exact passN_stop hlt (fun h => by rw [blankI_iff.2 h] at hb; cases hb) h37
          · unfold Hid; rw [passN_end (by omega)]; omega
        have hq : (bat s k0 == 37) = false := by simpa using h37
        clear h37 hb
        go_wp2
        refine jumps_ret ?_
        go_ret
        exact ⟨by rw [HE.out]; rfl, rfl⟩
    · have hb2 := blankI_iff.1 hb
      have hlt := in_of (s := s) (k := k0) (by omega)
      have HE := hide (passN_blank hlt hb2)
      clear hb2 hb
      go_wp2
      go_step3
      exact ⟨rfl, k0 + 1, _, _, _, _, _, _, _, _, _, _, _, _, _, _, _, _, _, _, _, _, _, _, _, _, _, rfl, .inl ⟨rfl, by omega, by rw [← HE.out]; exact HR.out⟩⟩
  · rintro l a' w' rest ⟨rfl, k, u5, u6, u7, u8, u9, u10, u11, u12, u13, u14, u15, u16, u17, u18, u19, u20, u21, u22, u23, u24, u25, u26, u27, u28, u29, rfl, ⟨rfl, hk, hpk⟩ | ⟨rfl, hk, hpk⟩⟩ hfind
    · cases hfind
      have HP := hide hpk
      clear hpk
      go_wp2_with fail
      refine (byteAt_any s k _ hs).mono ?_
      rintro e w' ⟨rfl, rfl⟩
      go_wp2_with fail
      refine (isBlank_any _ _).mono ?_
      rintro e w' ⟨rfl, rfl⟩
      cases hb : blankI (bat s k)
      · by_cases h37 : bat s k = 37
        · have hlt := in_of (s := s) (k := k) (by omega)
          have HE := hide (passN_rem hlt h37)
          have hq : (bat s k == 37) = true := by simpa using h37
          clear h37 hb
          go_wp2
          go_step3
          exact ⟨⟨rfl, k, _, _, _, _, _, _, _, _, _, _, _, _, _, _, _, _, _, _, _, _, _, _, _, _, _, rfl, .inr ⟨rfl, hlt, by rw [← HE.out]; exact HP.out⟩⟩, by simp [intOf]; omega⟩
        · have HE : Hid (passN s false k = k) := by
            by_cases hlt : k < s.size
            · exact passN_stop hlt (fun h => by rw [blankI_iff.2 h] at hb; cases hb) h37
            · unfold Hid; rw [passN_end (by omega)]; omega
          have hq : (bat s k == 37) = false := by simpa using h37
          clear h37 hb
          go_wp2
          refine jumps_ret ?_
          go_ret
          exact ⟨by rw [HR.out, ← HP.out, HE.out]; rfl, rfl⟩
      · have hb2 := blankI_iff.1 hb
        have hlt := in_of (s := s) (k := k) (by omega)
        have HE := hide (passN_blank hlt hb2)
        clear hb2 hb
        go_wp2
        go_step3
        exact ⟨⟨rfl, k + 1, _, _, _, _, _, _, _, _, _, _, _, _, _, _, _, _, _, _, _, _, _, _, _, _, _, rfl, .inl ⟨rfl, by omega, by rw [← HE.out]; exact HP.out⟩⟩, by simp [intOf]; omega⟩
    · cases hfind
      have HP := hide hpk
      clear hpk
      by_cases hlt : k + 1 < s.size
      · have hlt' : ((k : Int) + 1) < (s.size : Int) := by omega
        have HB := hide (bat_in hlt)
        by_cases h10 : bat s (k + 1) = 10
        · have hq : (((s[k + 1]'hlt).toNat : Int) != 10) = false := by rw [← HB.out, h10]; rfl
          have HE := hide (passN_out hlt h10)
          clear h10
          go_wp2
          go_step3
          exact ⟨⟨rfl, k + 1, _, _, _, _, _, _, _, _, _, _, _, _, _, _, _, _, _, _, _, _, _, _, _, _, _, rfl, .inl ⟨rfl, by omega, by rw [← HE.out]; exact HP.out⟩⟩, by simp [intOf]; omega⟩
        · have hq : (((s[k + 1]'hlt).toNat : Int) != 10) = true := by rw [← HB.out]; simpa using h10
          have HE := hide (passN_in hlt h10)
          clear h10
          go_wp2
          go_step3
          exact ⟨⟨rfl, k + 1, _, _, _, _, _, _, _, _, _, _, _, _, _, _, _, _, _, _, _, _, _, _, _, _, _, rfl, .inr ⟨rfl, hlt, by rw [← HE.out]; exact HP.out⟩⟩, by simp [intOf]; omega⟩
      · have hlt' : ¬ (((k : Int) + 1) < (s.size : Int)) := by omega
        have HE : Hid (passN s true (k + 1) = passN s false (k + 1)) := by unfold Hid; rw [passN_end (by omega), passN_end (by omega)]
        go_wp2
        go_step3
        exact ⟨⟨rfl, k + 1, _, _, _, _, _, _, _, _, _, _, _, _, _, _, _, _, _, _, _, _, _, _, _, _, _, rfl, .inl ⟨rfl, by omega, by rw [← HE.out]; exact HP.out⟩⟩, by simp [intOf]; omega⟩
end Go.Proofs.YtfgcflfnpeapaaaGreatDoor
