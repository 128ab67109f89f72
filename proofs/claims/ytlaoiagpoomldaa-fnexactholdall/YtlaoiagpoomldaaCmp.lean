/-
  What the orders of numbers, texts and values answer.
-/
import Derived.Test.YtlaoiagpoomldaaPlain
import Derived.Deep.RegionWith
import Derived.Deep.QuietTactic
import Derived.BigQuiet
import Derived.Handy
namespace Go.Proofs.Ytlaoiagpoomldaa
open Go.RowKit
set_option linter.unusedVariables false

def cmpI (x y : Int) : Int := if x < y then -1 else if y < x then 1 else 0
def cmpS (a b : ByteArray) : Int := if Op.bytesLess a.toList b.toList then -1 else if a.toList == b.toList then 0 else 1
def orI (a b c : Int) : Int := if a != 0 then a else if b != 0 then b else c

set_option maxHeartbeats 800000 in
theorem cmpInt_any (x y : Int) (w : World) :
    Calls Try.prog 72 #[.int .i64 x, .int .i64 y] w fun e w' => e = .returned (.int .i64 (cmpI x y)) ∧ w' = w := by
  by_cases h1 : x < y
  · have HC : Hid (cmpI x y = -1) := by unfold Hid cmpI; rw [if_pos h1]
    go_enter Try.func72, Try.ntmps72
    go_wp2
    go_ret
    exact ⟨ret_int HC.out.symm, rfl⟩
  · by_cases h2 : y < x
    · have HC : Hid (cmpI x y = 1) := by unfold Hid cmpI; rw [if_neg h1, if_pos h2]
      go_enter Try.func72, Try.ntmps72
      go_wp2
      go_ret
      exact ⟨ret_int HC.out.symm, rfl⟩
    · have HC : Hid (cmpI x y = 0) := by unfold Hid cmpI; rw [if_neg h1, if_neg h2]
      go_enter Try.func72, Try.ntmps72
      go_wp2
      go_ret
      exact ⟨ret_int HC.out.symm, rfl⟩

set_option maxHeartbeats 800000 in
theorem cmpString_any (x y : ByteArray) (w : World) :
    Calls Try.prog 73 #[.string x, .string y] w fun e w' => e = .returned (.int .i64 (cmpS x y)) ∧ w' = w := by
  have HC : Hid (cmpS x y = if Op.bytesLess x.toList y.toList then -1 else if x.toList == y.toList then 0 else 1) := rfl
  cases h1 : Op.bytesLess x.toList y.toList
  · cases h2 : (x.toList == y.toList)
    all_goals
      rw [h1, h2] at HC
      go_enter Try.func73, Try.ntmps73
      go_wp2
      go_ret
      exact ⟨ret_int HC.out.symm, rfl⟩
  · rw [h1] at HC
    go_enter Try.func73, Try.ntmps73
    go_wp2
    go_ret
    exact ⟨ret_int HC.out.symm, rfl⟩

set_option maxHeartbeats 800000 in
theorem cmpOr_any (q : Nat) (a b c : Int) (w : World) (h0 : w.cell? ⟨q, 0, none⟩ = some (.int .i64 a)) (h1 : w.cell? ⟨q, 1, none⟩ = some (.int .i64 b)) (h2 : w.cell? ⟨q, 2, none⟩ = some (.int .i64 c)) :
    Calls Try.prog 71 #[.slice (some ⟨q, 0, none⟩) 3 3] w fun e w' => e = .returned (.int .i64 (orI a b c)) ∧ w' = w := by
  have HC : Hid (orI a b c = if a != 0 then a else if b != 0 then b else c) := rfl
  cases ha : (a != 0)
  · cases hb : (b != 0)
    · cases hc : (c != 0)
      · have HZ : Hid (c = 0) := by unfold Hid; simpa using hc
        rw [ha, hb] at HC
        go_enter Try.func71, Try.ntmps71
        go_wp2
        go_rounds 4
        go_ret
        exact ⟨ret_int (by rw [HC.out, HZ.out]; rfl), rfl⟩
      · rw [ha, hb] at HC
        go_enter Try.func71, Try.ntmps71
        go_wp2
        go_rounds 4
        go_ret
        exact ⟨ret_int (by rw [HC.out]; rfl), rfl⟩
    · rw [ha, hb] at HC
      go_enter Try.func71, Try.ntmps71
      go_wp2
      go_rounds 3
      go_ret
      exact ⟨ret_int (by rw [HC.out]; rfl), rfl⟩
  · rw [ha] at HC
    go_enter Try.func71, Try.ntmps71
    go_wp2
    go_rounds 2
    go_ret
    exact ⟨ret_int (by rw [HC.out]; rfl), rfl⟩
end Go.Proofs.Ytlaoiagpoomldaa
