/-
  No cell of these rows narrows 'for every input' (looked for: loops, veiled, ifaces, maps, wideKeys, modest, calm, conditions, laid).
  DERIVED. THE GIVEN ROWS OF THIS SEAT. 6 by the template 'for every input the law returns true; each argument reads behind the call as it read before'; 0 by the template 'total and deterministic' (their statements: YtfgigcdfmkfkjaaTotals.lean).
  GIVEN WITH THE SEED: the statements are not yours to turn. If you find one false, say at which input.
  Laid BY PROGRAM, IN A SANDBOX (cutbox-rows.mjs): the forced cells as the released guide's own fill.sh prints them over the translation 9e7a36001a46862a… (all of the seat's roots in one cut). By AI agents, Wed Nov 11 2026. No macro, syntax, notation, axiom, sorry.
-/
import Derived.Test.YtfgigcdfmkfkjaaChecked
import GoSem.Claim
import GoSem.ClaimJoined
import GoSem.ClaimMapViews
import Derived.JoinedTies
import Derived.KernelRfl
namespace Go.Proofs.Ytfgigcdfmkfkjaa
/- THE CELL 'sum', in the pinned program and in every row, IS THE sha256 OF THE DUMP (.gsa) THAT YtfgigcdfmkfkjaaProg.lean LOADS. Nothing in Lean hashes anything: it is a label: what it is worth is what the hold of that sum in a sandbox is worth. -/
noncomputable def Try.pinned : Pinned := { name := "ytfgigcdfmkfkjaa", sum := "9e7a36001a46862a17e07a6db2223ebd38b3bb13c3a7de47f9d8281456f6b67e", checked := Try.checked }
namespace Rows
def none {H : Type} : Left H := { results := [], args := [] }

/-- 'laws.FnExactSameMatch': WHATEVER THE INPUT: true; the input reads as it did. -/
def fnExactSameMatchSpec : ChangeSpec := { name := "fnExactSameMatch", fn := fun _ => fun
  | [d1, d2] => { results := [.lit (.bool true)], args := [d1, d2] }
  | _ => none }
def fnExactSameMatchRow : OpenClaim := { program := "ytfgigcdfmkfkjaa", sum := "9e7a36001a46862a17e07a6db2223ebd38b3bb13c3a7de47f9d8281456f6b67e", func := "loop.example/g00282/laws.FnExactSameMatch", spec := "fnExactSameMatch", apart := false }
def FnExactSameMatchSaid : Prop := fnExactSameMatchRow.holds Try.pinned (OpenSpec.ofChange fnExactSameMatchSpec)

/-- ITS FALSE NEIGHBOUR: 'it returns false'. Refute it at one input. -/
def fnExactSameMatchWrong : ChangeSpec := { name := "fnExactSameMatch", fn := fun _ => fun
  | [d1, d2] => { results := [.lit (.bool false)], args := [d1, d2] }
  | _ => none }
def FnExactSameMatchWrongFalsely : Prop := fnExactSameMatchRow.holds Try.pinned (OpenSpec.ofChange fnExactSameMatchWrong)

/-- 'laws.FnExactLessMatch': WHATEVER THE INPUT: true; the input reads as it did. -/
def fnExactLessMatchSpec : ChangeSpec := { name := "fnExactLessMatch", fn := fun _ => fun
  | [d1, d2] => { results := [.lit (.bool true)], args := [d1, d2] }
  | _ => none }
def fnExactLessMatchRow : OpenClaim := { program := "ytfgigcdfmkfkjaa", sum := "9e7a36001a46862a17e07a6db2223ebd38b3bb13c3a7de47f9d8281456f6b67e", func := "loop.example/g00282/laws.FnExactLessMatch", spec := "fnExactLessMatch", apart := false }
def FnExactLessMatchSaid : Prop := fnExactLessMatchRow.holds Try.pinned (OpenSpec.ofChange fnExactLessMatchSpec)

/-- ITS FALSE NEIGHBOUR: 'it returns false'. Refute it at one input. -/
def fnExactLessMatchWrong : ChangeSpec := { name := "fnExactLessMatch", fn := fun _ => fun
  | [d1, d2] => { results := [.lit (.bool false)], args := [d1, d2] }
  | _ => none }
def FnExactLessMatchWrongFalsely : Prop := fnExactLessMatchRow.holds Try.pinned (OpenSpec.ofChange fnExactLessMatchWrong)

/-- 'laws.FnExactBindsFor': WHATEVER THE INPUT: true; the input reads as it did. -/
def fnExactBindsForSpec : ChangeSpec := { name := "fnExactBindsFor", fn := fun _ => fun
  | [d1, d2, d3] => { results := [.lit (.bool true)], args := [d1, d2, d3] }
  | _ => none }
def fnExactBindsForRow : OpenClaim := { program := "ytfgigcdfmkfkjaa", sum := "9e7a36001a46862a17e07a6db2223ebd38b3bb13c3a7de47f9d8281456f6b67e", func := "loop.example/g00282/laws.FnExactBindsFor", spec := "fnExactBindsFor", unfollowed := true, recurses := true, apart := false }
def FnExactBindsForSaid : Prop := fnExactBindsForRow.holds Try.pinned (OpenSpec.ofChange fnExactBindsForSpec)

/-- ITS FALSE NEIGHBOUR: 'it returns false'. Refute it at one input. -/
def fnExactBindsForWrong : ChangeSpec := { name := "fnExactBindsFor", fn := fun _ => fun
  | [d1, d2, d3] => { results := [.lit (.bool false)], args := [d1, d2, d3] }
  | _ => none }
def FnExactBindsForWrongFalsely : Prop := fnExactBindsForRow.holds Try.pinned (OpenSpec.ofChange fnExactBindsForWrong)

/-- 'laws.FnExactBlocked': WHATEVER THE INPUT: true; the input reads as it did. -/
def fnExactBlockedSpec : ChangeSpec := { name := "fnExactBlocked", fn := fun _ => fun
  | [d1, d2, d3] => { results := [.lit (.bool true)], args := [d1, d2, d3] }
  | _ => none }
def fnExactBlockedRow : OpenClaim := { program := "ytfgigcdfmkfkjaa", sum := "9e7a36001a46862a17e07a6db2223ebd38b3bb13c3a7de47f9d8281456f6b67e", func := "loop.example/g00282/laws.FnExactBlocked", spec := "fnExactBlocked", unfollowed := true, recurses := true, apart := false }
def FnExactBlockedSaid : Prop := fnExactBlockedRow.holds Try.pinned (OpenSpec.ofChange fnExactBlockedSpec)

/-- ITS FALSE NEIGHBOUR: 'it returns false'. Refute it at one input. -/
def fnExactBlockedWrong : ChangeSpec := { name := "fnExactBlocked", fn := fun _ => fun
  | [d1, d2, d3] => { results := [.lit (.bool false)], args := [d1, d2, d3] }
  | _ => none }
def FnExactBlockedWrongFalsely : Prop := fnExactBlockedRow.holds Try.pinned (OpenSpec.ofChange fnExactBlockedWrong)

/-- 'laws.FnMatchOrder': WHATEVER THE INPUT: true; the input reads as it did. -/
def fnMatchOrderSpec : ChangeSpec := { name := "fnMatchOrder", fn := fun _ => fun
  | [d] => { results := [.lit (.bool true)], args := [d] }
  | _ => none }
def fnMatchOrderRow : OpenClaim := { program := "ytfgigcdfmkfkjaa", sum := "9e7a36001a46862a17e07a6db2223ebd38b3bb13c3a7de47f9d8281456f6b67e", func := "loop.example/g00282/laws.FnMatchOrder", spec := "fnMatchOrder", apart := false }
def FnMatchOrderSaid : Prop := fnMatchOrderRow.holds Try.pinned (OpenSpec.ofChange fnMatchOrderSpec)

/-- ITS FALSE NEIGHBOUR: 'it returns false'. Refute it at one input. -/
def fnMatchOrderWrong : ChangeSpec := { name := "fnMatchOrder", fn := fun _ => fun
  | [d] => { results := [.lit (.bool false)], args := [d] }
  | _ => none }
def FnMatchOrderWrongFalsely : Prop := fnMatchOrderRow.holds Try.pinned (OpenSpec.ofChange fnMatchOrderWrong)

/-- 'laws.FnRuleVars': WHATEVER THE INPUT: true; the input reads as it did. -/
def fnRuleVarsSpec : ChangeSpec := { name := "fnRuleVars", fn := fun _ => fun
  | [d] => { results := [.lit (.bool true)], args := [d] }
  | _ => none }
def fnRuleVarsRow : OpenClaim := { program := "ytfgigcdfmkfkjaa", sum := "9e7a36001a46862a17e07a6db2223ebd38b3bb13c3a7de47f9d8281456f6b67e", func := "loop.example/g00282/laws.FnRuleVars", spec := "fnRuleVars", apart := false }
def FnRuleVarsSaid : Prop := fnRuleVarsRow.holds Try.pinned (OpenSpec.ofChange fnRuleVarsSpec)

/-- ITS FALSE NEIGHBOUR: 'it returns false'. Refute it at one input. -/
def fnRuleVarsWrong : ChangeSpec := { name := "fnRuleVars", fn := fun _ => fun
  | [d] => { results := [.lit (.bool false)], args := [d] }
  | _ => none }
def FnRuleVarsWrongFalsely : Prop := fnRuleVarsRow.holds Try.pinned (OpenSpec.ofChange fnRuleVarsWrong)

/- THE SECOND FORM. 'bulk': how many values and letters a reading holds, each counted each time it is reached (what is shared counts as often as it is met; a slice's spare places count too). A statement '..UptoSaid' is the law's where the arguments, and the package variables that the reading takes, are together of bulk at most 1048576: NARROWER than '..Said'. Prove '..Said' where nothing that the law and all that it calls make is longer than what came in: it says more and counts as full. Else prove '..UptoSaid'. A law counts once. -/
mutual
def uptoBulk {H : Type} : DataW H → Nat
  | .lit (.string bytes) => bytes.length + 1
  | .lit _ => 1
  | .nil => 1
  | .ptr d => uptoBulk d + 1
  | .slice elems spare => uptoBulkAll elems + uptoBulkAll spare + 1
  | .agg parts => uptoBulkAll parts + 1
  | .iface _ d => uptoBulk d + 1
  | .map entries => uptoBulkEntries entries + 1
  | .held _ => 1
def uptoBulkAll {H : Type} : List (DataW H) → Nat
  | [] => 0
  | d :: r => uptoBulk d + uptoBulkAll r
def uptoBulkEntries {H : Type} : List (Lit × DataW H) → Nat
  | [] => 0
  | x :: r => uptoBulkEntry x + uptoBulkEntries r
def uptoBulkEntry {H : Type} : Lit × DataW H → Nat
  | (.string bytes, d) => bytes.length + uptoBulk d + 1
  | (_, d) => uptoBulk d + 1
 end
def uptoSmall : (H : Type) → List (DataW H) → Bool := fun _ ds => decide (uptoBulkAll ds ≤ 1048576)
def OpenSpec.upto (s : _root_.Go.ChangeSpec) : _root_.Go.OpenSpec := { _root_.Go.OpenSpec.ofChange s with cond := some uptoSmall }

/-- 'laws.FnExactSameMatch', WHERE WHAT IT READS IS OF BULK AT MOST 1048576: true; the input reads as it did. -/
def fnExactSameMatchUptoRow : OpenClaim := { program := "ytfgigcdfmkfkjaa", sum := "9e7a36001a46862a17e07a6db2223ebd38b3bb13c3a7de47f9d8281456f6b67e", func := "loop.example/g00282/laws.FnExactSameMatch", spec := "fnExactSameMatch", apart := false, narrowed := true }
def FnExactSameMatchUptoSaid : Prop := fnExactSameMatchUptoRow.holds Try.pinned (OpenSpec.upto fnExactSameMatchSpec)

/-- 'laws.FnExactLessMatch', WHERE WHAT IT READS IS OF BULK AT MOST 1048576: true; the input reads as it did. -/
def fnExactLessMatchUptoRow : OpenClaim := { program := "ytfgigcdfmkfkjaa", sum := "9e7a36001a46862a17e07a6db2223ebd38b3bb13c3a7de47f9d8281456f6b67e", func := "loop.example/g00282/laws.FnExactLessMatch", spec := "fnExactLessMatch", apart := false, narrowed := true }
def FnExactLessMatchUptoSaid : Prop := fnExactLessMatchUptoRow.holds Try.pinned (OpenSpec.upto fnExactLessMatchSpec)

/-- 'laws.FnExactBindsFor', WHERE WHAT IT READS IS OF BULK AT MOST 1048576: true; the input reads as it did. -/
def fnExactBindsForUptoRow : OpenClaim := { program := "ytfgigcdfmkfkjaa", sum := "9e7a36001a46862a17e07a6db2223ebd38b3bb13c3a7de47f9d8281456f6b67e", func := "loop.example/g00282/laws.FnExactBindsFor", spec := "fnExactBindsFor", unfollowed := true, recurses := true, apart := false, narrowed := true }
def FnExactBindsForUptoSaid : Prop := fnExactBindsForUptoRow.holds Try.pinned (OpenSpec.upto fnExactBindsForSpec)

/-- 'laws.FnExactBlocked', WHERE WHAT IT READS IS OF BULK AT MOST 1048576: true; the input reads as it did. -/
def fnExactBlockedUptoRow : OpenClaim := { program := "ytfgigcdfmkfkjaa", sum := "9e7a36001a46862a17e07a6db2223ebd38b3bb13c3a7de47f9d8281456f6b67e", func := "loop.example/g00282/laws.FnExactBlocked", spec := "fnExactBlocked", unfollowed := true, recurses := true, apart := false, narrowed := true }
def FnExactBlockedUptoSaid : Prop := fnExactBlockedUptoRow.holds Try.pinned (OpenSpec.upto fnExactBlockedSpec)

/-- 'laws.FnMatchOrder', WHERE WHAT IT READS IS OF BULK AT MOST 1048576: true; the input reads as it did. -/
def fnMatchOrderUptoRow : OpenClaim := { program := "ytfgigcdfmkfkjaa", sum := "9e7a36001a46862a17e07a6db2223ebd38b3bb13c3a7de47f9d8281456f6b67e", func := "loop.example/g00282/laws.FnMatchOrder", spec := "fnMatchOrder", apart := false, narrowed := true }
def FnMatchOrderUptoSaid : Prop := fnMatchOrderUptoRow.holds Try.pinned (OpenSpec.upto fnMatchOrderSpec)

/-- 'laws.FnRuleVars', WHERE WHAT IT READS IS OF BULK AT MOST 1048576: true; the input reads as it did. -/
def fnRuleVarsUptoRow : OpenClaim := { program := "ytfgigcdfmkfkjaa", sum := "9e7a36001a46862a17e07a6db2223ebd38b3bb13c3a7de47f9d8281456f6b67e", func := "loop.example/g00282/laws.FnRuleVars", spec := "fnRuleVars", apart := false, narrowed := true }
def FnRuleVarsUptoSaid : Prop := fnRuleVarsUptoRow.holds Try.pinned (OpenSpec.upto fnRuleVarsSpec)

end Rows
end Go.Proofs.Ytfgigcdfmkfkjaa
