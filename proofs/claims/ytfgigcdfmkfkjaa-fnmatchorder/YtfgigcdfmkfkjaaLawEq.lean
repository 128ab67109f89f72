/-
  The contract of the laws' own comparison of values: a value is the same as itself.
-/
import Derived.Test.YtfgigcdfmkfkjaaBox
import Derived.Handy
namespace Go.Proofs.Ytfgigcdfmkfkjaa
open Go.RowKit
set_option linter.unusedVariables false

set_option maxHeartbeats 800000 in
theorem eqVal_same (K N : Int) (S : ByteArray) (w : World) :
    Calls Try.prog 103 #[.agg #[.int .i64 K, .int .i64 N, .string S], .agg #[.int .i64 K, .int .i64 N, .string S]] w fun e w' =>
      e = .returned (.bool true) ∧ Below w.heap.size w w' := by
  have k1 : (K != K) = false := by simp
  have k2 : (N != N) = false := by simp
  have k3 : (S.toList == S.toList) = true := by simp
  go_enter Try.func103, Try.ntmps103
  go_wp2
  go_ret
  exact ⟨rfl, by go_grown⟩
end Go.Proofs.Ytfgigcdfmkfkjaa
