/-
  No cell of these rows narrows 'for every input' (looked for: loops, veiled, ifaces, maps, wideKeys, modest, calm, conditions, laid).
  DERIVED. THE GIVEN ROWS OF THIS SEAT. 5 by the template 'for every input the law returns true; each argument reads behind the call as it read before'; 0 by the template 'total and deterministic' (their statements: YtaflokfgbmlmaabTotals.lean).
  GIVEN WITH THE SEED: the statements are not yours to turn. If you find one false, say at which input.
  Laid BY PROGRAM, IN A SANDBOX (cutbox-rows.mjs): the forced cells as the released guide's own fill.sh prints them over the translation c1912586a5f2481f… (all of the seat's roots in one cut). By AI agents, Wed Nov 11 2026. No macro, syntax, notation, axiom, sorry.
-/
import Derived.Test.YtaflokfgbmlmaabChecked
import GoSem.Claim
import GoSem.ClaimJoined
import GoSem.ClaimMapViews
import Derived.JoinedTies
import Derived.KernelRfl
namespace Go.Proofs.Ytaflokfgbmlmaab
/- THE CELL 'sum', in the pinned program and in every row, IS THE sha256 OF THE DUMP (.gsa) THAT YtaflokfgbmlmaabProg.lean LOADS. Nothing in Lean hashes anything: it is a label: what it is worth is what the hold of that sum in a sandbox is worth. -/
noncomputable def Try.pinned : Pinned := { name := "ytaflokfgbmlmaab", sum := "c1912586a5f2481f4488691886d6d629dea2d72a8550d5bdcaeb7d5f2310908b", checked := Try.checked }
namespace Rows
def none {H : Type} : Left H := { results := [], args := [] }

/-- 'laws.FnExactFactOk': WHATEVER THE INPUT: true; the input reads as it did. -/
def fnExactFactOkSpec : ChangeSpec := { name := "fnExactFactOk", fn := fun _ => fun
  | [d] => { results := [.lit (.bool true)], args := [d] }
  | _ => none }
def fnExactFactOkRow : OpenClaim := { program := "ytaflokfgbmlmaab", sum := "c1912586a5f2481f4488691886d6d629dea2d72a8550d5bdcaeb7d5f2310908b", func := "loop.example/g00282/laws.FnExactFactOk", spec := "fnExactFactOk", unfollowed := true, recurses := true, apart := false }
def FnExactFactOkSaid : Prop := fnExactFactOkRow.holds Try.pinned (OpenSpec.ofChange fnExactFactOkSpec)

/-- ITS FALSE NEIGHBOUR: 'it returns false'. Refute it at one input. -/
def fnExactFactOkWrong : ChangeSpec := { name := "fnExactFactOk", fn := fun _ => fun
  | [d] => { results := [.lit (.bool false)], args := [d] }
  | _ => none }
def FnExactFactOkWrongFalsely : Prop := fnExactFactOkRow.holds Try.pinned (OpenSpec.ofChange fnExactFactOkWrong)

/-- 'laws.FnExactActOk': WHATEVER THE INPUT: true; the input reads as it did. -/
def fnExactActOkSpec : ChangeSpec := { name := "fnExactActOk", fn := fun _ => fun
  | [d] => { results := [.lit (.bool true)], args := [d] }
  | _ => none }
def fnExactActOkRow : OpenClaim := { program := "ytaflokfgbmlmaab", sum := "c1912586a5f2481f4488691886d6d629dea2d72a8550d5bdcaeb7d5f2310908b", func := "loop.example/g00282/laws.FnExactActOk", spec := "fnExactActOk", unfollowed := true, recurses := true, apart := false }
def FnExactActOkSaid : Prop := fnExactActOkRow.holds Try.pinned (OpenSpec.ofChange fnExactActOkSpec)

/-- ITS FALSE NEIGHBOUR: 'it returns false'. Refute it at one input. -/
def fnExactActOkWrong : ChangeSpec := { name := "fnExactActOk", fn := fun _ => fun
  | [d] => { results := [.lit (.bool false)], args := [d] }
  | _ => none }
def FnExactActOkWrongFalsely : Prop := fnExactActOkRow.holds Try.pinned (OpenSpec.ofChange fnExactActOkWrong)

/-- 'laws.FnExactGetFact': WHATEVER THE INPUT: true; the input reads as it did. -/
def fnExactGetFactSpec : ChangeSpec := { name := "fnExactGetFact", fn := fun _ => fun
  | [d1, d2] => { results := [.lit (.bool true)], args := [d1, d2] }
  | _ => none }
def fnExactGetFactRow : OpenClaim := { program := "ytaflokfgbmlmaab", sum := "c1912586a5f2481f4488691886d6d629dea2d72a8550d5bdcaeb7d5f2310908b", func := "loop.example/g00282/laws.FnExactGetFact", spec := "fnExactGetFact", unfollowed := true, recurses := true, apart := false }
def FnExactGetFactSaid : Prop := fnExactGetFactRow.holds Try.pinned (OpenSpec.ofChange fnExactGetFactSpec)

/-- ITS FALSE NEIGHBOUR: 'it returns false'. Refute it at one input. -/
def fnExactGetFactWrong : ChangeSpec := { name := "fnExactGetFact", fn := fun _ => fun
  | [d1, d2] => { results := [.lit (.bool false)], args := [d1, d2] }
  | _ => none }
def FnExactGetFactWrongFalsely : Prop := fnExactGetFactRow.holds Try.pinned (OpenSpec.ofChange fnExactGetFactWrong)

/-- 'laws.FnPats': WHATEVER THE INPUT: true; the input reads as it did. -/
def fnPatsSpec : ChangeSpec := { name := "fnPats", fn := fun _ => fun
  | [d] => { results := [.lit (.bool true)], args := [d] }
  | _ => none }
def fnPatsRow : OpenClaim := { program := "ytaflokfgbmlmaab", sum := "c1912586a5f2481f4488691886d6d629dea2d72a8550d5bdcaeb7d5f2310908b", func := "loop.example/g00282/laws.FnPats", spec := "fnPats", unfollowed := true, recurses := true, apart := false }
def FnPatsSaid : Prop := fnPatsRow.holds Try.pinned (OpenSpec.ofChange fnPatsSpec)

/-- ITS FALSE NEIGHBOUR: 'it returns false'. Refute it at one input. -/
def fnPatsWrong : ChangeSpec := { name := "fnPats", fn := fun _ => fun
  | [d] => { results := [.lit (.bool false)], args := [d] }
  | _ => none }
def FnPatsWrongFalsely : Prop := fnPatsRow.holds Try.pinned (OpenSpec.ofChange fnPatsWrong)

/-- 'laws.FnRuleVars': WHATEVER THE INPUT: true; the input reads as it did. -/
def fnRuleVarsSpec : ChangeSpec := { name := "fnRuleVars", fn := fun _ => fun
  | [d] => { results := [.lit (.bool true)], args := [d] }
  | _ => none }
def fnRuleVarsRow : OpenClaim := { program := "ytaflokfgbmlmaab", sum := "c1912586a5f2481f4488691886d6d629dea2d72a8550d5bdcaeb7d5f2310908b", func := "loop.example/g00282/laws.FnRuleVars", spec := "fnRuleVars", apart := false }
def FnRuleVarsSaid : Prop := fnRuleVarsRow.holds Try.pinned (OpenSpec.ofChange fnRuleVarsSpec)

/-- ITS FALSE NEIGHBOUR: 'it returns false'. Refute it at one input. -/
def fnRuleVarsWrong : ChangeSpec := { name := "fnRuleVars", fn := fun _ => fun
  | [d] => { results := [.lit (.bool false)], args := [d] }
  | _ => none }
def FnRuleVarsWrongFalsely : Prop := fnRuleVarsRow.holds Try.pinned (OpenSpec.ofChange fnRuleVarsWrong)

/- THE SECOND FORM. 'bulk': how many values and letters a reading holds, each counted each time it is reached (what is shared counts as often as it is met; a slice's spare places count too). A statement '..UptoSaid' is the law's where the arguments, and the package variables that the reading takes, are together of bulk at most 1048576: NARROWER than '..Said'. Prove '..Said' where nothing that the law and all that it calls make is longer than what came in: it says more and counts as full. Else prove '..UptoSaid'. A law counts once. -/
mutual
def uptoBulk {H : Type} : DataW H → Nat
  | .lit (.string bytes) => bytes.length + 1
  | .lit _ => 1
  | .nil => 1
  | .ptr d => uptoBulk d + 1
  | .slice elems spare => uptoBulkAll elems + uptoBulkAll spare + 1
  | .agg parts => uptoBulkAll parts + 1
  | .iface _ d => uptoBulk d + 1
  | .map entries => uptoBulkEntries entries + 1
  | .held _ => 1
def uptoBulkAll {H : Type} : List (DataW H) → Nat
  | [] => 0
  | d :: r => uptoBulk d + uptoBulkAll r
def uptoBulkEntries {H : Type} : List (Lit × DataW H) → Nat
  | [] => 0
  | x :: r => uptoBulkEntry x + uptoBulkEntries r
def uptoBulkEntry {H : Type} : Lit × DataW H → Nat
  | (.string bytes, d) => bytes.length + uptoBulk d + 1
  | (_, d) => uptoBulk d + 1
 end
def uptoSmall : (H : Type) → List (DataW H) → Bool := fun _ ds => decide (uptoBulkAll ds ≤ 1048576)
def OpenSpec.upto (s : _root_.Go.ChangeSpec) : _root_.Go.OpenSpec := { _root_.Go.OpenSpec.ofChange s with cond := some uptoSmall }

/-- 'laws.FnExactFactOk', WHERE WHAT IT READS IS OF BULK AT MOST 1048576: true; the input reads as it did. -/
def fnExactFactOkUptoRow : OpenClaim := { program := "ytaflokfgbmlmaab", sum := "c1912586a5f2481f4488691886d6d629dea2d72a8550d5bdcaeb7d5f2310908b", func := "loop.example/g00282/laws.FnExactFactOk", spec := "fnExactFactOk", unfollowed := true, recurses := true, apart := false, narrowed := true }
def FnExactFactOkUptoSaid : Prop := fnExactFactOkUptoRow.holds Try.pinned (OpenSpec.upto fnExactFactOkSpec)

/-- 'laws.FnExactActOk', WHERE WHAT IT READS IS OF BULK AT MOST 1048576: true; the input reads as it did. -/
def fnExactActOkUptoRow : OpenClaim := { program := "ytaflokfgbmlmaab", sum := "c1912586a5f2481f4488691886d6d629dea2d72a8550d5bdcaeb7d5f2310908b", func := "loop.example/g00282/laws.FnExactActOk", spec := "fnExactActOk", unfollowed := true, recurses := true, apart := false, narrowed := true }
def FnExactActOkUptoSaid : Prop := fnExactActOkUptoRow.holds Try.pinned (OpenSpec.upto fnExactActOkSpec)

/-- 'laws.FnExactGetFact', WHERE WHAT IT READS IS OF BULK AT MOST 1048576: true; the input reads as it did. -/
def fnExactGetFactUptoRow : OpenClaim := { program := "ytaflokfgbmlmaab", sum := "c1912586a5f2481f4488691886d6d629dea2d72a8550d5bdcaeb7d5f2310908b", func := "loop.example/g00282/laws.FnExactGetFact", spec := "fnExactGetFact", unfollowed := true, recurses := true, apart := false, narrowed := true }
def FnExactGetFactUptoSaid : Prop := fnExactGetFactUptoRow.holds Try.pinned (OpenSpec.upto fnExactGetFactSpec)

/-- 'laws.FnPats', WHERE WHAT IT READS IS OF BULK AT MOST 1048576: true; the input reads as it did. -/
def fnPatsUptoRow : OpenClaim := { program := "ytaflokfgbmlmaab", sum := "c1912586a5f2481f4488691886d6d629dea2d72a8550d5bdcaeb7d5f2310908b", func := "loop.example/g00282/laws.FnPats", spec := "fnPats", unfollowed := true, recurses := true, apart := false, narrowed := true }
def FnPatsUptoSaid : Prop := fnPatsUptoRow.holds Try.pinned (OpenSpec.upto fnPatsSpec)

/-- 'laws.FnRuleVars', WHERE WHAT IT READS IS OF BULK AT MOST 1048576: true; the input reads as it did. -/
def fnRuleVarsUptoRow : OpenClaim := { program := "ytaflokfgbmlmaab", sum := "c1912586a5f2481f4488691886d6d629dea2d72a8550d5bdcaeb7d5f2310908b", func := "loop.example/g00282/laws.FnRuleVars", spec := "fnRuleVars", apart := false, narrowed := true }
def FnRuleVarsUptoSaid : Prop := fnRuleVarsUptoRow.holds Try.pinned (OpenSpec.upto fnRuleVarsSpec)

end Rows
end Go.Proofs.Ytaflokfgbmlmaab
