/-
  The contracts of the laws' own helpers on values: toVal copies, szVal counts the text's bytes off.
-/
import Derived.Test.YtfgigcdfmkfkjaaBox
import Derived.Handy
namespace Go.Proofs.Ytfgigcdfmkfkjaa
open Go.RowKit
set_option linter.unusedVariables false

set_option maxHeartbeats 800000 in
theorem toVal_any (K N : Int) (S : ByteArray) (w : World) :
    Calls Try.prog 112 #[.agg #[.int .i64 K, .int .i64 N, .string S]] w fun e w' =>
      e = .returned (.agg #[.int .i64 K, .int .i64 N, .string S]) ∧ Below w.heap.size w w' := by
  go_enter Try.func112, Try.ntmps112
  go_wp2
  go_returns
  exact ⟨rfl, by go_grown⟩

set_option maxHeartbeats 800000 in
theorem szVal_any (K N : Int) (S : ByteArray) (left : Int) (w : World) (hs : S.size ≤ maxLen) (h0 : 0 ≤ left) (h1 : left ≤ 1048576) :
    Calls Try.prog 111 #[.agg #[.int .i64 K, .int .i64 N, .string S], .int .i64 left] w fun e w' =>
      e = .returned (.int .i64 (if left - (S.size : Int) < 0 then -1 else left - (S.size : Int))) ∧ Below w.heap.size w w' := by
  unfold maxLen at hs
  by_cases h : left - (S.size : Int) < 0
  · rw [if_pos h]
    go_enter Try.func111, Try.ntmps111
    go_wp2
    go_ret
    exact ⟨rfl, by go_grown⟩
  · rw [if_neg h]
    go_enter Try.func111, Try.ntmps111
    go_wp2
    go_ret
    exact ⟨rfl, by go_grown⟩
end Go.Proofs.Ytfgigcdfmkfkjaa
