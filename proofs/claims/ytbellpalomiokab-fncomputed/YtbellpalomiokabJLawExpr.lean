/-
  The contracts of the laws' own helpers on Exprs: to copies, sz counts off, eq finds one the same as itself.
-/
import Derived.Test.YtbellpalomiokabJoined1
import Derived.Test.YtbellpalomiokabJLawArg
import Derived.Test.YtbellpalomiokabJoined2
import Derived.Handy
import Derived.Deep.DeepCutAuto
namespace Go.Proofs.Ytbellpalomiokab
open Go.RowKit
set_option linter.unusedVariables false

theorem Try.info57 : (Try.prog.info? 57).map (fun i => (i.zero, i.size, i.bytes)) = some (some (.agg #[.string ⟨#[]⟩, .int .i64 0, .string ⟨#[]⟩, .int .i64 0, .int .i64 0, .string ⟨#[]⟩, .int .i64 0, .string ⟨#[]⟩, .int .i64 0, .int .i64 0, .string ⟨#[]⟩]), 11, 128) := by kernel_rfl

end Go.Proofs.Ytbellpalomiokab
