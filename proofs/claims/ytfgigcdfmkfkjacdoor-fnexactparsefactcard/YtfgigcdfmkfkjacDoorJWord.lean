/-
  What the functions on bytes of names answer, the tested ones and the model's alike: wordB of the byte, in the world as it was.
-/
import Derived.Test.YtfgigcdfmkfkjacDoorJPlain
import Derived.WalkKit
import Derived.WalkSpells
import Derived.WalkLawsBesides
namespace Go.Proofs.YtfgigcdfmkfkjacDoor
open Go.RowKit
set_option linter.unusedVariables false

set_option maxHeartbeats 400000 in
theorem l1In_any (x a b : Int) (w : World) :
    Calls Tryd.prog 31 #[.int .i64 x, .int .i64 a, .int .i64 b] w fun e w' => e = .returned (.bool (inB x a b)) ∧ w' = w := by
  by_cases h1 : a ≤ x
  · by_cases h2 : x ≤ b
    · rw [inB_t ⟨h1, h2⟩]
      go_enter Tryd.func31, Tryd.ntmps31
      go_wp2
      go_ret
      exact ⟨rfl, rfl⟩
    · rw [inB_f (by omega)]
      go_enter Tryd.func31, Tryd.ntmps31
      go_wp2
      go_ret
      exact ⟨rfl, rfl⟩
  · rw [inB_f (by omega)]
    go_enter Tryd.func31, Tryd.ntmps31
    go_wp2
    go_ret
    exact ⟨rfl, rfl⟩

set_option maxHeartbeats 400000 in
theorem isSmall_any (x : Int) (w : World) :
    Calls Tryd.prog 51 #[.int .u8 x] w fun e w' => e = .returned (.bool (inB x 97 122)) ∧ w' = w := by
  by_cases h1 : 97 ≤ x
  · by_cases h2 : x ≤ 122
    · rw [inB_t ⟨h1, h2⟩]
      go_enter Tryd.func51, Tryd.ntmps51
      go_wp2
      go_ret
      exact ⟨rfl, rfl⟩
    · rw [inB_f (by omega)]
      go_enter Tryd.func51, Tryd.ntmps51
      go_wp2
      go_ret
      exact ⟨rfl, rfl⟩
  · rw [inB_f (by omega)]
    go_enter Tryd.func51, Tryd.ntmps51
    go_wp2
    go_ret
    exact ⟨rfl, rfl⟩


def wordB (x : Int) : Bool := inB x 97 122 || inB x 48 57 || x == 95

set_option maxHeartbeats 400000 in
theorem isDigit_any (x : Int) (w : World) :
    Calls Tryd.prog 63 #[.int .u8 x] w fun e w' => e = .returned (.bool (inB x 48 57)) ∧ w' = w := by
  by_cases h1 : 48 ≤ x
  · by_cases h2 : x ≤ 57
    · rw [inB_t ⟨h1, h2⟩]
      go_enter Tryd.func63, Tryd.ntmps63
      go_wp2
      go_ret
      exact ⟨rfl, rfl⟩
    · rw [inB_f (by omega)]
      go_enter Tryd.func63, Tryd.ntmps63
      go_wp2
      go_ret
      exact ⟨rfl, rfl⟩
  · rw [inB_f (by omega)]
    go_enter Tryd.func63, Tryd.ntmps63
    go_wp2
    go_ret
    exact ⟨rfl, rfl⟩

set_option maxHeartbeats 400000 in
theorem l1Letter_any (x : Int) (w : World) (hl : 0 ≤ x) (hu : x ≤ 255) :
    Calls Tryd.prog 33 #[.int .u8 x] w fun e w' => e = .returned (.bool (wordB x)) ∧ w' = w := by
  cases ha : inB x 97 122 <;> cases hb : inB x 48 57 <;> cases hc : (x == 95)
  all_goals
    have hr : wordB x = (inB x 97 122 || inB x 48 57 || x == 95) := rfl
    rw [ha, hb, hc] at hr
    rw [hr]
    clear hr
    go_enter Tryd.func33, Tryd.ntmps33
    go_wp2_with (go_at_call 31; refine (l1In_any _ _ _ _).mono ?_; rintro e w' ⟨rfl, rfl⟩)
    go_ret
    exact ⟨rfl, rfl⟩

set_option maxHeartbeats 400000 in
theorem isWordByte_any (x : Int) (w : World) :
    Calls Tryd.prog 53 #[.int .u8 x] w fun e w' => e = .returned (.bool (wordB x)) ∧ w' = w := by
  cases ha : inB x 97 122 <;> cases hb : inB x 48 57 <;> cases hc : (x == 95)
  all_goals
    have hr : wordB x = (inB x 97 122 || inB x 48 57 || x == 95) := rfl
    rw [ha, hb, hc] at hr
    rw [hr]
    clear hr
    go_enter Tryd.func53, Tryd.ntmps53
    go_wp2_with (first | (go_at_call 51; refine (isSmall_any _ _).mono ?_; rintro e w' ⟨rfl, rfl⟩) | (go_at_call 63; refine (isDigit_any _ _).mono ?_; rintro e w' ⟨rfl, rfl⟩))
    go_ret
    exact ⟨rfl, rfl⟩

/-- the i-th byte as a number -/
def bat (s : ByteArray) (i : Nat) : Int := if h : i < s.size then ((s[i]'h).toNat : Int) else 0
theorem bat_in {s : ByteArray} {i : Nat} (h : i < s.size) : bat s i = ((s[i]'h).toNat : Int) := by simp [bat, h]

end Go.Proofs.YtfgigcdfmkfkjacDoor
