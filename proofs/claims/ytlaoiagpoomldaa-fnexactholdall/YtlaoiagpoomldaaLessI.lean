/-
  What the tested order of values answers: lessB.
-/
import Derived.Test.YtlaoiagpoomldaaLess
namespace Go.Proofs.Ytlaoiagpoomldaa
open Go.RowKit
set_option linter.unusedVariables false

set_option maxHeartbeats 800000 in
theorem implLessVal_any (K N : Int) (S : ByteArray) (K' N' : Int) (S' : ByteArray) (w : World) :
    Calls Try.prog 50 #[.agg #[.int .i64 K, .int .i64 N, .string S], .agg #[.int .i64 K', .int .i64 N', .string S']] w fun e w' =>
      e = .returned (.bool (lessB K N S K' N' S')) ∧ Below w.heap.size w w' := by
  have HL := hide (less_of K N S K' N' S')
  go_enter Try.func50, Try.ntmps50
  go_wp2_with fail
  refine (compareVals_any K N S K' N' S' _).mono ?_
  rintro e w1 ⟨rfl, hb1⟩
  have hB1 : Below w.heap.size w w1 := (((Below.refl w.heap.size w).alloc (Nat.le_refl _) _).alloc (by simp) _).trans (hb1.mono (by simp; omega))
  clear hb1
  generalize orI (cmpI K K') (cmpI N N') (cmpS S S') = r at HL ⊢
  go_wp2
  go_ret
  exact ⟨ret_bool HL.out, hB1⟩

end Go.Proofs.Ytlaoiagpoomldaa
