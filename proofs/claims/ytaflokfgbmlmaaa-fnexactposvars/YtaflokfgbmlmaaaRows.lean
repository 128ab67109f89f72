/-
  No cell of these rows narrows 'for every input' (looked for: loops, veiled, ifaces, maps, wideKeys, modest, calm, conditions, laid).
  DERIVED. THE GIVEN ROWS OF THIS SEAT. 5 by the template 'for every input the law returns true; each argument reads behind the call as it read before'; 0 by the template 'total and deterministic' (their statements: YtaflokfgbmlmaaaTotals.lean).
  GIVEN WITH THE SEED: the statements are not yours to turn. If you find one false, say at which input.
  Laid BY PROGRAM, IN A SANDBOX (cutbox-rows.mjs): the forced cells as the released guide's own fill.sh prints them over the translation b6efa7c84ba19cf0… (all of the seat's roots in one cut). By AI agents, Wed Nov 11 2026. No macro, syntax, notation, axiom, sorry.
-/
import Derived.Test.YtaflokfgbmlmaaaChecked
import GoSem.Claim
import GoSem.ClaimJoined
import GoSem.ClaimMapViews
import Derived.JoinedTies
import Derived.KernelRfl
namespace Go.Proofs.Ytaflokfgbmlmaaa
/- THE CELL 'sum', in the pinned program and in every row, IS THE sha256 OF THE DUMP (.gsa) THAT YtaflokfgbmlmaaaProg.lean LOADS. Nothing in Lean hashes anything: it is a label: what it is worth is what the hold of that sum in a sandbox is worth. -/
noncomputable def Try.pinned : Pinned := { name := "ytaflokfgbmlmaaa", sum := "b6efa7c84ba19cf01f7e98ae5ab1190b599ceae7a94181fb910ab469838dab18", checked := Try.checked }
namespace Rows
def none {H : Type} : Left H := { results := [], args := [] }

/-- 'laws.FnExactPosCount': WHATEVER THE INPUT: true; the input reads as it did. -/
def fnExactPosCountSpec : ChangeSpec := { name := "fnExactPosCount", fn := fun _ => fun
  | [d] => { results := [.lit (.bool true)], args := [d] }
  | _ => none }
def fnExactPosCountRow : OpenClaim := { program := "ytaflokfgbmlmaaa", sum := "b6efa7c84ba19cf01f7e98ae5ab1190b599ceae7a94181fb910ab469838dab18", func := "loop.example/g00282/laws.FnExactPosCount", spec := "fnExactPosCount", apart := false }
def FnExactPosCountSaid : Prop := fnExactPosCountRow.holds Try.pinned (OpenSpec.ofChange fnExactPosCountSpec)

/-- ITS FALSE NEIGHBOUR: 'it returns false'. Refute it at one input. -/
def fnExactPosCountWrong : ChangeSpec := { name := "fnExactPosCount", fn := fun _ => fun
  | [d] => { results := [.lit (.bool false)], args := [d] }
  | _ => none }
def FnExactPosCountWrongFalsely : Prop := fnExactPosCountRow.holds Try.pinned (OpenSpec.ofChange fnExactPosCountWrong)

/-- 'laws.FnExactPosVars': WHATEVER THE INPUT: true; the input reads as it did. -/
def fnExactPosVarsSpec : ChangeSpec := { name := "fnExactPosVars", fn := fun _ => fun
  | [d] => { results := [.lit (.bool true)], args := [d] }
  | _ => none }
def fnExactPosVarsRow : OpenClaim := { program := "ytaflokfgbmlmaaa", sum := "b6efa7c84ba19cf01f7e98ae5ab1190b599ceae7a94181fb910ab469838dab18", func := "loop.example/g00282/laws.FnExactPosVars", spec := "fnExactPosVars", apart := false }
def FnExactPosVarsSaid : Prop := fnExactPosVarsRow.holds Try.pinned (OpenSpec.ofChange fnExactPosVarsSpec)

/-- ITS FALSE NEIGHBOUR: 'it returns false'. Refute it at one input. -/
def fnExactPosVarsWrong : ChangeSpec := { name := "fnExactPosVars", fn := fun _ => fun
  | [d] => { results := [.lit (.bool false)], args := [d] }
  | _ => none }
def FnExactPosVarsWrongFalsely : Prop := fnExactPosVarsRow.holds Try.pinned (OpenSpec.ofChange fnExactPosVarsWrong)

/-- 'laws.FnExactKindsOf': WHATEVER THE INPUT: true; the input reads as it did. -/
def fnExactKindsOfSpec : ChangeSpec := { name := "fnExactKindsOf", fn := fun _ => fun
  | [d] => { results := [.lit (.bool true)], args := [d] }
  | _ => none }
def fnExactKindsOfRow : OpenClaim := { program := "ytaflokfgbmlmaaa", sum := "b6efa7c84ba19cf01f7e98ae5ab1190b599ceae7a94181fb910ab469838dab18", func := "loop.example/g00282/laws.FnExactKindsOf", spec := "fnExactKindsOf", apart := false }
def FnExactKindsOfSaid : Prop := fnExactKindsOfRow.holds Try.pinned (OpenSpec.ofChange fnExactKindsOfSpec)

/-- ITS FALSE NEIGHBOUR: 'it returns false'. Refute it at one input. -/
def fnExactKindsOfWrong : ChangeSpec := { name := "fnExactKindsOf", fn := fun _ => fun
  | [d] => { results := [.lit (.bool false)], args := [d] }
  | _ => none }
def FnExactKindsOfWrongFalsely : Prop := fnExactKindsOfRow.holds Try.pinned (OpenSpec.ofChange fnExactKindsOfWrong)

/-- 'laws.FnExactVarsOf': WHATEVER THE INPUT: true; the input reads as it did. -/
def fnExactVarsOfSpec : ChangeSpec := { name := "fnExactVarsOf", fn := fun _ => fun
  | [d] => { results := [.lit (.bool true)], args := [d] }
  | _ => none }
def fnExactVarsOfRow : OpenClaim := { program := "ytaflokfgbmlmaaa", sum := "b6efa7c84ba19cf01f7e98ae5ab1190b599ceae7a94181fb910ab469838dab18", func := "loop.example/g00282/laws.FnExactVarsOf", spec := "fnExactVarsOf", apart := false }
def FnExactVarsOfSaid : Prop := fnExactVarsOfRow.holds Try.pinned (OpenSpec.ofChange fnExactVarsOfSpec)

/-- ITS FALSE NEIGHBOUR: 'it returns false'. Refute it at one input. -/
def fnExactVarsOfWrong : ChangeSpec := { name := "fnExactVarsOf", fn := fun _ => fun
  | [d] => { results := [.lit (.bool false)], args := [d] }
  | _ => none }
def FnExactVarsOfWrongFalsely : Prop := fnExactVarsOfRow.holds Try.pinned (OpenSpec.ofChange fnExactVarsOfWrong)

/-- 'laws.FnExactPatOk': WHATEVER THE INPUT: true; the input reads as it did. -/
def fnExactPatOkSpec : ChangeSpec := { name := "fnExactPatOk", fn := fun _ => fun
  | [d] => { results := [.lit (.bool true)], args := [d] }
  | _ => none }
def fnExactPatOkRow : OpenClaim := { program := "ytaflokfgbmlmaaa", sum := "b6efa7c84ba19cf01f7e98ae5ab1190b599ceae7a94181fb910ab469838dab18", func := "loop.example/g00282/laws.FnExactPatOk", spec := "fnExactPatOk", unfollowed := true, recurses := true, apart := false }
def FnExactPatOkSaid : Prop := fnExactPatOkRow.holds Try.pinned (OpenSpec.ofChange fnExactPatOkSpec)

/-- ITS FALSE NEIGHBOUR: 'it returns false'. Refute it at one input. -/
def fnExactPatOkWrong : ChangeSpec := { name := "fnExactPatOk", fn := fun _ => fun
  | [d] => { results := [.lit (.bool false)], args := [d] }
  | _ => none }
def FnExactPatOkWrongFalsely : Prop := fnExactPatOkRow.holds Try.pinned (OpenSpec.ofChange fnExactPatOkWrong)

/- THE SECOND FORM. 'bulk': how many values and letters a reading holds, each counted each time it is reached (what is shared counts as often as it is met; a slice's spare places count too). A statement '..UptoSaid' is the law's where the arguments, and the package variables that the reading takes, are together of bulk at most 1048576: NARROWER than '..Said'. Prove '..Said' where nothing that the law and all that it calls make is longer than what came in: it says more and counts as full. Else prove '..UptoSaid'. A law counts once. -/
mutual
def uptoBulk {H : Type} : DataW H → Nat
  | .lit (.string bytes) => bytes.length + 1
  | .lit _ => 1
  | .nil => 1
  | .ptr d => uptoBulk d + 1
  | .slice elems spare => uptoBulkAll elems + uptoBulkAll spare + 1
  | .agg parts => uptoBulkAll parts + 1
  | .iface _ d => uptoBulk d + 1
  | .map entries => uptoBulkEntries entries + 1
  | .held _ => 1
def uptoBulkAll {H : Type} : List (DataW H) → Nat
  | [] => 0
  | d :: r => uptoBulk d + uptoBulkAll r
def uptoBulkEntries {H : Type} : List (Lit × DataW H) → Nat
  | [] => 0
  | x :: r => uptoBulkEntry x + uptoBulkEntries r
def uptoBulkEntry {H : Type} : Lit × DataW H → Nat
  | (.string bytes, d) => bytes.length + uptoBulk d + 1
  | (_, d) => uptoBulk d + 1
 end
def uptoSmall : (H : Type) → List (DataW H) → Bool := fun _ ds => decide (uptoBulkAll ds ≤ 1048576)
def OpenSpec.upto (s : _root_.Go.ChangeSpec) : _root_.Go.OpenSpec := { _root_.Go.OpenSpec.ofChange s with cond := some uptoSmall }

/-- 'laws.FnExactPosCount', WHERE WHAT IT READS IS OF BULK AT MOST 1048576: true; the input reads as it did. -/
def fnExactPosCountUptoRow : OpenClaim := { program := "ytaflokfgbmlmaaa", sum := "b6efa7c84ba19cf01f7e98ae5ab1190b599ceae7a94181fb910ab469838dab18", func := "loop.example/g00282/laws.FnExactPosCount", spec := "fnExactPosCount", apart := false, narrowed := true }
def FnExactPosCountUptoSaid : Prop := fnExactPosCountUptoRow.holds Try.pinned (OpenSpec.upto fnExactPosCountSpec)

/-- 'laws.FnExactPosVars', WHERE WHAT IT READS IS OF BULK AT MOST 1048576: true; the input reads as it did. -/
def fnExactPosVarsUptoRow : OpenClaim := { program := "ytaflokfgbmlmaaa", sum := "b6efa7c84ba19cf01f7e98ae5ab1190b599ceae7a94181fb910ab469838dab18", func := "loop.example/g00282/laws.FnExactPosVars", spec := "fnExactPosVars", apart := false, narrowed := true }
def FnExactPosVarsUptoSaid : Prop := fnExactPosVarsUptoRow.holds Try.pinned (OpenSpec.upto fnExactPosVarsSpec)

/-- 'laws.FnExactKindsOf', WHERE WHAT IT READS IS OF BULK AT MOST 1048576: true; the input reads as it did. -/
def fnExactKindsOfUptoRow : OpenClaim := { program := "ytaflokfgbmlmaaa", sum := "b6efa7c84ba19cf01f7e98ae5ab1190b599ceae7a94181fb910ab469838dab18", func := "loop.example/g00282/laws.FnExactKindsOf", spec := "fnExactKindsOf", apart := false, narrowed := true }
def FnExactKindsOfUptoSaid : Prop := fnExactKindsOfUptoRow.holds Try.pinned (OpenSpec.upto fnExactKindsOfSpec)

/-- 'laws.FnExactVarsOf', WHERE WHAT IT READS IS OF BULK AT MOST 1048576: true; the input reads as it did. -/
def fnExactVarsOfUptoRow : OpenClaim := { program := "ytaflokfgbmlmaaa", sum := "b6efa7c84ba19cf01f7e98ae5ab1190b599ceae7a94181fb910ab469838dab18", func := "loop.example/g00282/laws.FnExactVarsOf", spec := "fnExactVarsOf", apart := false, narrowed := true }
def FnExactVarsOfUptoSaid : Prop := fnExactVarsOfUptoRow.holds Try.pinned (OpenSpec.upto fnExactVarsOfSpec)

/-- 'laws.FnExactPatOk', WHERE WHAT IT READS IS OF BULK AT MOST 1048576: true; the input reads as it did. -/
def fnExactPatOkUptoRow : OpenClaim := { program := "ytaflokfgbmlmaaa", sum := "b6efa7c84ba19cf01f7e98ae5ab1190b599ceae7a94181fb910ab469838dab18", func := "loop.example/g00282/laws.FnExactPatOk", spec := "fnExactPatOk", unfollowed := true, recurses := true, apart := false, narrowed := true }
def FnExactPatOkUptoSaid : Prop := fnExactPatOkUptoRow.holds Try.pinned (OpenSpec.upto fnExactPatOkSpec)

end Rows
end Go.Proofs.Ytaflokfgbmlmaaa
