/-
  A value, plainly: its kind, number and text.
-/
import Derived.Test.YtfgigcdfmkfkjaaPlain
namespace Go.Proofs.Ytfgigcdfmkfkjaa
open Go.RowKit
set_option linter.unusedVariables false

structure V3 where
  K : Int
  N : Int
  S : ByteArray
instance : Inhabited V3 := ⟨⟨0, 0, ⟨#[]⟩⟩⟩
def V3.agg (v : V3) : Value := .agg #[.int .i64 v.K, .int .i64 v.N, .string v.S]
theorem V3.ext' {a b : V3} (h1 : a.K = b.K) (h2 : a.N = b.N) (h3 : a.S = b.S) : a = b := by
  cases a; cases b; simp_all
end Go.Proofs.Ytfgigcdfmkfkjaa
