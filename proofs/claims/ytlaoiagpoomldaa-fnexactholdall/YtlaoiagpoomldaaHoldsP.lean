/-
  When a condition holds, plainly.
-/
import Derived.Test.YtlaoiagpoomldaaBindP
import Derived.Test.YtlaoiagpoomldaaCmp
import Derived.Test.YtlaoiagpoomldaaLess
import Derived.Test.YtlaoiagpoomldaaVEq
namespace Go.Proofs.Ytlaoiagpoomldaa
set_option linter.unusedVariables false

/-- whether a sign holds of two values -/
def holdB (Op : Int) (a b : V3) : Bool := if Op = 1 then decide (a = b) else if Op = 2 then !decide (a = b) else if Op = 3 then lessB a.K a.N a.S b.K b.N b.S else false
/-- whether a condition holds, of what its two arguments are -/
def holdsO (Op : Int) (o p : Option V3) : Bool := match o, p with
  | some a, some b => holdB Op a b
  | _, _ => false
theorem holdsO_none (Op : Int) (p : Option V3) : holdsO Op none p = false := by cases p <;> rfl
theorem holdsO_none2 (Op : Int) (o : Option V3) : holdsO Op o none = false := by cases o <;> rfl
theorem holdB1 (a b : V3) : holdB 1 a b = decide (a = b) := by simp [holdB]
theorem holdB2 (a b : V3) : holdB 2 a b = !decide (a = b) := by simp [holdB]
theorem holdB3 (a b : V3) : holdB 3 a b = lessB a.K a.N a.S b.K b.N b.S := by simp [holdB]
theorem holdB_no {Op : Int} (a b : V3) (h1 : Op ≠ 1) (h2 : Op ≠ 2) (h3 : Op ≠ 3) : holdB Op a b = false := by simp [holdB, h1, h2, h3]
theorem bindA_two (o : Option V3) : ∃ (v : V3) (b : Bool), bindA o = .tuple #[.agg #[.int .i64 v.K, .int .i64 v.N, .string v.S], .bool b] ∧ ((b = true ∧ o = some v) ∨ (b = false ∧ o = none)) := by
  cases o with
  | none => exact ⟨⟨0, 0, ⟨#[]⟩⟩, false, rfl, .inr ⟨rfl, rfl⟩⟩
  | some v => exact ⟨v, true, rfl, .inl ⟨rfl, rfl⟩⟩
end Go.Proofs.Ytlaoiagpoomldaa
