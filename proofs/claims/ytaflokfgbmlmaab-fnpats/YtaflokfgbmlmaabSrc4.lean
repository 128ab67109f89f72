/-
  A bind that was just laid, cell by cell.
-/
import Derived.Test.YtaflokfgbmlmaabLawBind
import Derived.Deep.AppendLies
namespace Go.Proofs.Ytaflokfgbmlmaab
open Go.RowKit
set_option linter.unusedVariables false

theorem src4 (W : World) (x : B4) : ∀ j u, (x.cs)[j]? = some u → (W.alloc (.cells #[.string x.N, .int .i64 x.V.K, .int .i64 x.V.N, .string x.V.S] 104)).cell? ((⟨W.heap.size, 0, none⟩ : Addr).add j) = some u := by
  intro j u hj
  rw [Addr.add_lit, Nat.zero_add]
  have hb : (W.alloc (.cells #[.string x.N, .int .i64 x.V.K, .int .i64 x.V.N, .string x.V.S] 104)).heap[W.heap.size]? = some (.cells #[.string x.N, .int .i64 x.V.K, .int .i64 x.V.N, .string x.V.S] 104 (0, 0)) := by rw [heap_alloc_new]
  rw [cell_of_row _ _ j _ _ (0, 0) hb, ← hj]
  simp [B4.cs]
theorem one4 (x : B4) : ∀ u ∈ x.cs, u.oneCell' = true := by
  intro u hu
  simp only [B4.cs, List.mem_cons, List.not_mem_nil, or_false] at hu
  rcases hu with rfl | rfl | rfl | rfl <;> rfl
end Go.Proofs.Ytaflokfgbmlmaab
