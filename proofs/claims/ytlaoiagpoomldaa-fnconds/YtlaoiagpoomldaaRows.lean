/-
  No cell of these rows narrows 'for every input' (looked for: loops, veiled, ifaces, maps, wideKeys, modest, calm, conditions, laid).
  DERIVED. THE GIVEN ROWS OF THIS SEAT. 5 by the template 'for every input the law returns true; each argument reads behind the call as it read before'; 0 by the template 'total and deterministic' (their statements: YtlaoiagpoomldaaTotals.lean).
  GIVEN WITH THE SEED: the statements are not yours to turn. If you find one false, say at which input.
  Laid BY PROGRAM, IN A SANDBOX (cutbox-rows.mjs): the forced cells as the released guide's own fill.sh prints them over the translation 9f8d68c556587fe0… (all of the seat's roots in one cut). By AI agents, Wed Nov 11 2026. No macro, syntax, notation, axiom, sorry.
-/
import Derived.Test.YtlaoiagpoomldaaChecked
import GoSem.Claim
import GoSem.ClaimJoined
import GoSem.ClaimMapViews
import Derived.JoinedTies
import Derived.KernelRfl
namespace Go.Proofs.Ytlaoiagpoomldaa
/- THE CELL 'sum', in the pinned program and in every row, IS THE sha256 OF THE DUMP (.gsa) THAT YtlaoiagpoomldaaProg.lean LOADS. Nothing in Lean hashes anything: it is a label: what it is worth is what the hold of that sum in a sandbox is worth. -/
noncomputable def Try.pinned : Pinned := { name := "ytlaoiagpoomldaa", sum := "9f8d68c556587fe03e5ef91d362ae91f0337ced810b18634189f4ecad5792f82", checked := Try.checked }
namespace Rows
def none {H : Type} : Left H := { results := [], args := [] }

/-- 'laws.FnExactCondOk': WHATEVER THE INPUT: true; the input reads as it did. -/
def fnExactCondOkSpec : ChangeSpec := { name := "fnExactCondOk", fn := fun _ => fun
  | [d] => { results := [.lit (.bool true)], args := [d] }
  | _ => none }
def fnExactCondOkRow : OpenClaim := { program := "ytlaoiagpoomldaa", sum := "9f8d68c556587fe03e5ef91d362ae91f0337ced810b18634189f4ecad5792f82", func := "loop.example/g00282/laws.FnExactCondOk", spec := "fnExactCondOk", unfollowed := true, recurses := true, apart := false }
def FnExactCondOkSaid : Prop := fnExactCondOkRow.holds Try.pinned (OpenSpec.ofChange fnExactCondOkSpec)

/-- ITS FALSE NEIGHBOUR: 'it returns false'. Refute it at one input. -/
def fnExactCondOkWrong : ChangeSpec := { name := "fnExactCondOk", fn := fun _ => fun
  | [d] => { results := [.lit (.bool false)], args := [d] }
  | _ => none }
def FnExactCondOkWrongFalsely : Prop := fnExactCondOkRow.holds Try.pinned (OpenSpec.ofChange fnExactCondOkWrong)

/-- 'laws.FnExactArgVal': WHATEVER THE INPUT: true; the input reads as it did. -/
def fnExactArgValSpec : ChangeSpec := { name := "fnExactArgVal", fn := fun _ => fun
  | [d1, d2] => { results := [.lit (.bool true)], args := [d1, d2] }
  | _ => none }
def fnExactArgValRow : OpenClaim := { program := "ytlaoiagpoomldaa", sum := "9f8d68c556587fe03e5ef91d362ae91f0337ced810b18634189f4ecad5792f82", func := "loop.example/g00282/laws.FnExactArgVal", spec := "fnExactArgVal", apart := false }
def FnExactArgValSaid : Prop := fnExactArgValRow.holds Try.pinned (OpenSpec.ofChange fnExactArgValSpec)

/-- ITS FALSE NEIGHBOUR: 'it returns false'. Refute it at one input. -/
def fnExactArgValWrong : ChangeSpec := { name := "fnExactArgVal", fn := fun _ => fun
  | [d1, d2] => { results := [.lit (.bool false)], args := [d1, d2] }
  | _ => none }
def FnExactArgValWrongFalsely : Prop := fnExactArgValRow.holds Try.pinned (OpenSpec.ofChange fnExactArgValWrong)

/-- 'laws.FnExactHolds': WHATEVER THE INPUT: true; the input reads as it did. -/
def fnExactHoldsSpec : ChangeSpec := { name := "fnExactHolds", fn := fun _ => fun
  | [d1, d2] => { results := [.lit (.bool true)], args := [d1, d2] }
  | _ => none }
def fnExactHoldsRow : OpenClaim := { program := "ytlaoiagpoomldaa", sum := "9f8d68c556587fe03e5ef91d362ae91f0337ced810b18634189f4ecad5792f82", func := "loop.example/g00282/laws.FnExactHolds", spec := "fnExactHolds", unfollowed := true, recurses := true, apart := false }
def FnExactHoldsSaid : Prop := fnExactHoldsRow.holds Try.pinned (OpenSpec.ofChange fnExactHoldsSpec)

/-- ITS FALSE NEIGHBOUR: 'it returns false'. Refute it at one input. -/
def fnExactHoldsWrong : ChangeSpec := { name := "fnExactHolds", fn := fun _ => fun
  | [d1, d2] => { results := [.lit (.bool false)], args := [d1, d2] }
  | _ => none }
def FnExactHoldsWrongFalsely : Prop := fnExactHoldsRow.holds Try.pinned (OpenSpec.ofChange fnExactHoldsWrong)

/-- 'laws.FnExactHoldAll': WHATEVER THE INPUT: true; the input reads as it did. -/
def fnExactHoldAllSpec : ChangeSpec := { name := "fnExactHoldAll", fn := fun _ => fun
  | [d1, d2] => { results := [.lit (.bool true)], args := [d1, d2] }
  | _ => none }
def fnExactHoldAllRow : OpenClaim := { program := "ytlaoiagpoomldaa", sum := "9f8d68c556587fe03e5ef91d362ae91f0337ced810b18634189f4ecad5792f82", func := "loop.example/g00282/laws.FnExactHoldAll", spec := "fnExactHoldAll", unfollowed := true, recurses := true, apart := false }
def FnExactHoldAllSaid : Prop := fnExactHoldAllRow.holds Try.pinned (OpenSpec.ofChange fnExactHoldAllSpec)

/-- ITS FALSE NEIGHBOUR: 'it returns false'. Refute it at one input. -/
def fnExactHoldAllWrong : ChangeSpec := { name := "fnExactHoldAll", fn := fun _ => fun
  | [d1, d2] => { results := [.lit (.bool false)], args := [d1, d2] }
  | _ => none }
def FnExactHoldAllWrongFalsely : Prop := fnExactHoldAllRow.holds Try.pinned (OpenSpec.ofChange fnExactHoldAllWrong)

/-- 'laws.FnConds': WHATEVER THE INPUT: true; the input reads as it did. -/
def fnCondsSpec : ChangeSpec := { name := "fnConds", fn := fun _ => fun
  | [d] => { results := [.lit (.bool true)], args := [d] }
  | _ => none }
def fnCondsRow : OpenClaim := { program := "ytlaoiagpoomldaa", sum := "9f8d68c556587fe03e5ef91d362ae91f0337ced810b18634189f4ecad5792f82", func := "loop.example/g00282/laws.FnConds", spec := "fnConds", unfollowed := true, recurses := true, apart := false }
def FnCondsSaid : Prop := fnCondsRow.holds Try.pinned (OpenSpec.ofChange fnCondsSpec)

/-- ITS FALSE NEIGHBOUR: 'it returns false'. Refute it at one input. -/
def fnCondsWrong : ChangeSpec := { name := "fnConds", fn := fun _ => fun
  | [d] => { results := [.lit (.bool false)], args := [d] }
  | _ => none }
def FnCondsWrongFalsely : Prop := fnCondsRow.holds Try.pinned (OpenSpec.ofChange fnCondsWrong)

/- THE SECOND FORM. 'bulk': how many values and letters a reading holds, each counted each time it is reached (what is shared counts as often as it is met; a slice's spare places count too). A statement '..UptoSaid' is the law's where the arguments, and the package variables that the reading takes, are together of bulk at most 1048576: NARROWER than '..Said'. Prove '..Said' where nothing that the law and all that it calls make is longer than what came in: it says more and counts as full. Else prove '..UptoSaid'. A law counts once. -/
mutual
def uptoBulk {H : Type} : DataW H → Nat
  | .lit (.string bytes) => bytes.length + 1
  | .lit _ => 1
  | .nil => 1
  | .ptr d => uptoBulk d + 1
  | .slice elems spare => uptoBulkAll elems + uptoBulkAll spare + 1
  | .agg parts => uptoBulkAll parts + 1
  | .iface _ d => uptoBulk d + 1
  | .map entries => uptoBulkEntries entries + 1
  | .held _ => 1
def uptoBulkAll {H : Type} : List (DataW H) → Nat
  | [] => 0
  | d :: r => uptoBulk d + uptoBulkAll r
def uptoBulkEntries {H : Type} : List (Lit × DataW H) → Nat
  | [] => 0
  | x :: r => uptoBulkEntry x + uptoBulkEntries r
def uptoBulkEntry {H : Type} : Lit × DataW H → Nat
  | (.string bytes, d) => bytes.length + uptoBulk d + 1
  | (_, d) => uptoBulk d + 1
 end
def uptoSmall : (H : Type) → List (DataW H) → Bool := fun _ ds => decide (uptoBulkAll ds ≤ 1048576)
def OpenSpec.upto (s : _root_.Go.ChangeSpec) : _root_.Go.OpenSpec := { _root_.Go.OpenSpec.ofChange s with cond := some uptoSmall }

/-- 'laws.FnExactCondOk', WHERE WHAT IT READS IS OF BULK AT MOST 1048576: true; the input reads as it did. -/
def fnExactCondOkUptoRow : OpenClaim := { program := "ytlaoiagpoomldaa", sum := "9f8d68c556587fe03e5ef91d362ae91f0337ced810b18634189f4ecad5792f82", func := "loop.example/g00282/laws.FnExactCondOk", spec := "fnExactCondOk", unfollowed := true, recurses := true, apart := false, narrowed := true }
def FnExactCondOkUptoSaid : Prop := fnExactCondOkUptoRow.holds Try.pinned (OpenSpec.upto fnExactCondOkSpec)

/-- 'laws.FnExactArgVal', WHERE WHAT IT READS IS OF BULK AT MOST 1048576: true; the input reads as it did. -/
def fnExactArgValUptoRow : OpenClaim := { program := "ytlaoiagpoomldaa", sum := "9f8d68c556587fe03e5ef91d362ae91f0337ced810b18634189f4ecad5792f82", func := "loop.example/g00282/laws.FnExactArgVal", spec := "fnExactArgVal", apart := false, narrowed := true }
def FnExactArgValUptoSaid : Prop := fnExactArgValUptoRow.holds Try.pinned (OpenSpec.upto fnExactArgValSpec)

/-- 'laws.FnExactHolds', WHERE WHAT IT READS IS OF BULK AT MOST 1048576: true; the input reads as it did. -/
def fnExactHoldsUptoRow : OpenClaim := { program := "ytlaoiagpoomldaa", sum := "9f8d68c556587fe03e5ef91d362ae91f0337ced810b18634189f4ecad5792f82", func := "loop.example/g00282/laws.FnExactHolds", spec := "fnExactHolds", unfollowed := true, recurses := true, apart := false, narrowed := true }
def FnExactHoldsUptoSaid : Prop := fnExactHoldsUptoRow.holds Try.pinned (OpenSpec.upto fnExactHoldsSpec)

/-- 'laws.FnExactHoldAll', WHERE WHAT IT READS IS OF BULK AT MOST 1048576: true; the input reads as it did. -/
def fnExactHoldAllUptoRow : OpenClaim := { program := "ytlaoiagpoomldaa", sum := "9f8d68c556587fe03e5ef91d362ae91f0337ced810b18634189f4ecad5792f82", func := "loop.example/g00282/laws.FnExactHoldAll", spec := "fnExactHoldAll", unfollowed := true, recurses := true, apart := false, narrowed := true }
def FnExactHoldAllUptoSaid : Prop := fnExactHoldAllUptoRow.holds Try.pinned (OpenSpec.upto fnExactHoldAllSpec)

/-- 'laws.FnConds', WHERE WHAT IT READS IS OF BULK AT MOST 1048576: true; the input reads as it did. -/
def fnCondsUptoRow : OpenClaim := { program := "ytlaoiagpoomldaa", sum := "9f8d68c556587fe03e5ef91d362ae91f0337ced810b18634189f4ecad5792f82", func := "loop.example/g00282/laws.FnConds", spec := "fnConds", unfollowed := true, recurses := true, apart := false, narrowed := true }
def FnCondsUptoSaid : Prop := fnCondsUptoRow.holds Try.pinned (OpenSpec.upto fnCondsSpec)

end Rows
end Go.Proofs.Ytlaoiagpoomldaa
