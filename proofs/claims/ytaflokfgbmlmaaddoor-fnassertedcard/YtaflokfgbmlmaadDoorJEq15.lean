/-
  Five values held against five: the same just where each is.
-/
import Derived.Test.YtaflokfgbmlmaadDoorJFixed
import Derived.Test.YtaflokfgbmlmaadDoorJFactL
import Derived.Laws.StructEq
import Derived.ChangeKeysEq
namespace Go.Proofs.YtaflokfgbmlmaadDoor
open Go.RowKit
set_option linter.unusedVariables false
set_option maxRecDepth 100000

theorem eqV (v u : V3) (w : World) : (Op.equalIn 9998 85 (.agg #[.int .i64 v.K, .int .i64 v.N, .string v.S]) (.agg #[.int .i64 u.K, .int .i64 u.N, .string u.S])).run Tryd.prog w = .ok (decide (v = u)) w := by
  rcases v3_cases v u with rfl | ⟨hne, hv⟩
  · have k1 : (v.K == v.K) = true := by simp
    have k2 : (v.N == v.N) = true := by simp
    have k3 : (v.S.toList == v.S.toList) = true := by simp
    rw [decide_eq_true rfl]
    go_simp
  · rw [decide_eq_false hne]
    clear hne
    rcases hv with k1 | ⟨k1, k2⟩ | ⟨k1, k2, k3⟩ <;> go_simp
theorem part0 (v0 v1 v2 v3 v4 : V3) (w : World) : (part 85 #[.int .i64 v0.K, .int .i64 v0.N, .string v0.S, .int .i64 v1.K, .int .i64 v1.N, .string v1.S, .int .i64 v2.K, .int .i64 v2.N, .string v2.S, .int .i64 v3.K, .int .i64 v3.N, .string v3.S, .int .i64 v4.K, .int .i64 v4.N, .string v4.S] (0 * 3)).run Tryd.prog w = .ok (.agg #[.int .i64 v0.K, .int .i64 v0.N, .string v0.S]) w := by go_simp
theorem part1 (v0 v1 v2 v3 v4 : V3) (w : World) : (part 85 #[.int .i64 v0.K, .int .i64 v0.N, .string v0.S, .int .i64 v1.K, .int .i64 v1.N, .string v1.S, .int .i64 v2.K, .int .i64 v2.N, .string v2.S, .int .i64 v3.K, .int .i64 v3.N, .string v3.S, .int .i64 v4.K, .int .i64 v4.N, .string v4.S] (1 * 3)).run Tryd.prog w = .ok (.agg #[.int .i64 v1.K, .int .i64 v1.N, .string v1.S]) w := by go_simp
theorem part2 (v0 v1 v2 v3 v4 : V3) (w : World) : (part 85 #[.int .i64 v0.K, .int .i64 v0.N, .string v0.S, .int .i64 v1.K, .int .i64 v1.N, .string v1.S, .int .i64 v2.K, .int .i64 v2.N, .string v2.S, .int .i64 v3.K, .int .i64 v3.N, .string v3.S, .int .i64 v4.K, .int .i64 v4.N, .string v4.S] (2 * 3)).run Tryd.prog w = .ok (.agg #[.int .i64 v2.K, .int .i64 v2.N, .string v2.S]) w := by go_simp
theorem part3 (v0 v1 v2 v3 v4 : V3) (w : World) : (part 85 #[.int .i64 v0.K, .int .i64 v0.N, .string v0.S, .int .i64 v1.K, .int .i64 v1.N, .string v1.S, .int .i64 v2.K, .int .i64 v2.N, .string v2.S, .int .i64 v3.K, .int .i64 v3.N, .string v3.S, .int .i64 v4.K, .int .i64 v4.N, .string v4.S] (3 * 3)).run Tryd.prog w = .ok (.agg #[.int .i64 v3.K, .int .i64 v3.N, .string v3.S]) w := by go_simp
theorem part4 (v0 v1 v2 v3 v4 : V3) (w : World) : (part 85 #[.int .i64 v0.K, .int .i64 v0.N, .string v0.S, .int .i64 v1.K, .int .i64 v1.N, .string v1.S, .int .i64 v2.K, .int .i64 v2.N, .string v2.S, .int .i64 v3.K, .int .i64 v3.N, .string v3.S, .int .i64 v4.K, .int .i64 v4.N, .string v4.S] (4 * 3)).run Tryd.prog w = .ok (.agg #[.int .i64 v4.K, .int .i64 v4.N, .string v4.S]) w := by go_simp
theorem same5 (v0 v1 v2 v3 v4 u0 u1 u2 u3 u4 : V3) : decide ([v0, v1, v2, v3, v4] = [u0, u1, u2, u3, u4]) = (decide (v0 = u0) && (decide (v1 = u1) && (decide (v2 = u2) && (decide (v3 = u3) && decide (v4 = u4))))) := by
  simp [Bool.decide_and]
theorem eq15 (v0 v1 v2 v3 v4 u0 u1 u2 u3 u4 : V3) (w : World) :
    (Op.equalIn 9999 86 (.agg #[.int .i64 v0.K, .int .i64 v0.N, .string v0.S, .int .i64 v1.K, .int .i64 v1.N, .string v1.S, .int .i64 v2.K, .int .i64 v2.N, .string v2.S, .int .i64 v3.K, .int .i64 v3.N, .string v3.S, .int .i64 v4.K, .int .i64 v4.N, .string v4.S]) (.agg #[.int .i64 u0.K, .int .i64 u0.N, .string u0.S, .int .i64 u1.K, .int .i64 u1.N, .string u1.S, .int .i64 u2.K, .int .i64 u2.N, .string u2.S, .int .i64 u3.K, .int .i64 u3.N, .string u3.S, .int .i64 u4.K, .int .i64 u4.N, .string u4.S])).run Tryd.prog w = .ok (decide ([v0, v1, v2, v3, v4] = [u0, u1, u2, u3, u4])) w := by
  obtain ⟨i0, hi, -, -, -⟩ := info_parts Tryd.info85
  rw [show (9999 : Nat) = 9998 + 1 from rfl, run_equalIn_array w 9998 _ _ Tryd.underlying86 hi, show Tryd.prog.cellsOf 85 = 3 by kernel_rfl, show List.range 5 = [0, 1, 2, 3, 4] from rfl, same5]
  simp only [Op.eqItems, Sem.run_bind, part0, eqV, Result.andThen_ok]
  cases decide (v0 = u0) <;> simp only [Bool.not_false, Bool.not_true, if_true, Bool.false_eq_true, if_false, Sem.run_pure, Bool.false_and, Bool.true_and, Sem.run_bind, part1, eqV, Result.andThen_ok]
  cases decide (v1 = u1) <;> simp only [Bool.not_false, Bool.not_true, if_true, Bool.false_eq_true, if_false, Sem.run_pure, Bool.false_and, Bool.true_and, Sem.run_bind, part2, eqV, Result.andThen_ok]
  cases decide (v2 = u2) <;> simp only [Bool.not_false, Bool.not_true, if_true, Bool.false_eq_true, if_false, Sem.run_pure, Bool.false_and, Bool.true_and, Sem.run_bind, part3, eqV, Result.andThen_ok]
  cases decide (v3 = u3) <;> simp only [Bool.not_false, Bool.not_true, if_true, Bool.false_eq_true, if_false, Sem.run_pure, Bool.false_and, Bool.true_and, Sem.run_bind, part4, eqV, Result.andThen_ok]
  cases decide (v4 = u4) <;> simp only [Bool.not_false, Bool.not_true, if_true, Bool.false_eq_true, if_false, Sem.run_pure]
end Go.Proofs.YtaflokfgbmlmaadDoor
