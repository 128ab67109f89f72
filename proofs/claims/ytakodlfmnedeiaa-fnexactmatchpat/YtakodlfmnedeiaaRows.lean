/-
  No cell of these rows narrows 'for every input' (looked for: loops, veiled, ifaces, maps, wideKeys, modest, calm, conditions, laid).
  DERIVED. THE GIVEN ROWS OF THIS SEAT. 5 by the template 'for every input the law returns true; each argument reads behind the call as it read before'; 0 by the template 'total and deterministic' (their statements: YtakodlfmnedeiaaTotals.lean).
  GIVEN WITH THE SEED: the statements are not yours to turn. If you find one false, say at which input.
  Laid BY PROGRAM, IN A SANDBOX (cutbox-rows.mjs): the forced cells as the released guide's own fill.sh prints them over the translation e5f3313a9a0a6093… (all of the seat's roots in one cut). By AI agents, Wed Nov 11 2026. No macro, syntax, notation, axiom, sorry.
-/
import Derived.Test.YtakodlfmnedeiaaChecked
import GoSem.Claim
import GoSem.ClaimJoined
import GoSem.ClaimMapViews
import Derived.JoinedTies
import Derived.KernelRfl
namespace Go.Proofs.Ytakodlfmnedeiaa
/- THE CELL 'sum', in the pinned program and in every row, IS THE sha256 OF THE DUMP (.gsa) THAT YtakodlfmnedeiaaProg.lean LOADS. Nothing in Lean hashes anything: it is a label: what it is worth is what the hold of that sum in a sandbox is worth. -/
noncomputable def Try.pinned : Pinned := { name := "ytakodlfmnedeiaa", sum := "e5f3313a9a0a6093d6f57b794b2a5483bba9c6a7b9398ac2eac8145c57d90ac2", checked := Try.checked }
namespace Rows
def none {H : Type} : Left H := { results := [], args := [] }

/-- 'laws.FnExactArgOk': WHATEVER THE INPUT: true; the input reads as it did. -/
def fnExactArgOkSpec : ChangeSpec := { name := "fnExactArgOk", fn := fun _ => fun
  | [d] => { results := [.lit (.bool true)], args := [d] }
  | _ => none }
def fnExactArgOkRow : OpenClaim := { program := "ytakodlfmnedeiaa", sum := "e5f3313a9a0a6093d6f57b794b2a5483bba9c6a7b9398ac2eac8145c57d90ac2", func := "loop.example/g00282/laws.FnExactArgOk", spec := "fnExactArgOk", unfollowed := true, recurses := true, apart := false }
def FnExactArgOkSaid : Prop := fnExactArgOkRow.holds Try.pinned (OpenSpec.ofChange fnExactArgOkSpec)

/-- ITS FALSE NEIGHBOUR: 'it returns false'. Refute it at one input. -/
def fnExactArgOkWrong : ChangeSpec := { name := "fnExactArgOk", fn := fun _ => fun
  | [d] => { results := [.lit (.bool false)], args := [d] }
  | _ => none }
def FnExactArgOkWrongFalsely : Prop := fnExactArgOkRow.holds Try.pinned (OpenSpec.ofChange fnExactArgOkWrong)

/-- 'laws.FnExactPatOk': WHATEVER THE INPUT: true; the input reads as it did. -/
def fnExactPatOkSpec : ChangeSpec := { name := "fnExactPatOk", fn := fun _ => fun
  | [d] => { results := [.lit (.bool true)], args := [d] }
  | _ => none }
def fnExactPatOkRow : OpenClaim := { program := "ytakodlfmnedeiaa", sum := "e5f3313a9a0a6093d6f57b794b2a5483bba9c6a7b9398ac2eac8145c57d90ac2", func := "loop.example/g00282/laws.FnExactPatOk", spec := "fnExactPatOk", unfollowed := true, recurses := true, apart := false }
def FnExactPatOkSaid : Prop := fnExactPatOkRow.holds Try.pinned (OpenSpec.ofChange fnExactPatOkSpec)

/-- ITS FALSE NEIGHBOUR: 'it returns false'. Refute it at one input. -/
def fnExactPatOkWrong : ChangeSpec := { name := "fnExactPatOk", fn := fun _ => fun
  | [d] => { results := [.lit (.bool false)], args := [d] }
  | _ => none }
def FnExactPatOkWrongFalsely : Prop := fnExactPatOkRow.holds Try.pinned (OpenSpec.ofChange fnExactPatOkWrong)

/-- 'laws.FnExactVarsOf': WHATEVER THE INPUT: true; the input reads as it did. -/
def fnExactVarsOfSpec : ChangeSpec := { name := "fnExactVarsOf", fn := fun _ => fun
  | [d] => { results := [.lit (.bool true)], args := [d] }
  | _ => none }
def fnExactVarsOfRow : OpenClaim := { program := "ytakodlfmnedeiaa", sum := "e5f3313a9a0a6093d6f57b794b2a5483bba9c6a7b9398ac2eac8145c57d90ac2", func := "loop.example/g00282/laws.FnExactVarsOf", spec := "fnExactVarsOf", apart := false }
def FnExactVarsOfSaid : Prop := fnExactVarsOfRow.holds Try.pinned (OpenSpec.ofChange fnExactVarsOfSpec)

/-- ITS FALSE NEIGHBOUR: 'it returns false'. Refute it at one input. -/
def fnExactVarsOfWrong : ChangeSpec := { name := "fnExactVarsOf", fn := fun _ => fun
  | [d] => { results := [.lit (.bool false)], args := [d] }
  | _ => none }
def FnExactVarsOfWrongFalsely : Prop := fnExactVarsOfRow.holds Try.pinned (OpenSpec.ofChange fnExactVarsOfWrong)

/-- 'laws.FnExactBindOf': WHATEVER THE INPUT: true; the input reads as it did. -/
def fnExactBindOfSpec : ChangeSpec := { name := "fnExactBindOf", fn := fun _ => fun
  | [d1, d2] => { results := [.lit (.bool true)], args := [d1, d2] }
  | _ => none }
def fnExactBindOfRow : OpenClaim := { program := "ytakodlfmnedeiaa", sum := "e5f3313a9a0a6093d6f57b794b2a5483bba9c6a7b9398ac2eac8145c57d90ac2", func := "loop.example/g00282/laws.FnExactBindOf", spec := "fnExactBindOf", apart := false }
def FnExactBindOfSaid : Prop := fnExactBindOfRow.holds Try.pinned (OpenSpec.ofChange fnExactBindOfSpec)

/-- ITS FALSE NEIGHBOUR: 'it returns false'. Refute it at one input. -/
def fnExactBindOfWrong : ChangeSpec := { name := "fnExactBindOf", fn := fun _ => fun
  | [d1, d2] => { results := [.lit (.bool false)], args := [d1, d2] }
  | _ => none }
def FnExactBindOfWrongFalsely : Prop := fnExactBindOfRow.holds Try.pinned (OpenSpec.ofChange fnExactBindOfWrong)

/-- 'laws.FnExactMatchPat': WHATEVER THE INPUT: true; the input reads as it did. -/
def fnExactMatchPatSpec : ChangeSpec := { name := "fnExactMatchPat", fn := fun _ => fun
  | [d1, d2, d3] => { results := [.lit (.bool true)], args := [d1, d2, d3] }
  | _ => none }
def fnExactMatchPatRow : OpenClaim := { program := "ytakodlfmnedeiaa", sum := "e5f3313a9a0a6093d6f57b794b2a5483bba9c6a7b9398ac2eac8145c57d90ac2", func := "loop.example/g00282/laws.FnExactMatchPat", spec := "fnExactMatchPat", unfollowed := true, recurses := true, apart := false }
def FnExactMatchPatSaid : Prop := fnExactMatchPatRow.holds Try.pinned (OpenSpec.ofChange fnExactMatchPatSpec)

/-- ITS FALSE NEIGHBOUR: 'it returns false'. Refute it at one input. -/
def fnExactMatchPatWrong : ChangeSpec := { name := "fnExactMatchPat", fn := fun _ => fun
  | [d1, d2, d3] => { results := [.lit (.bool false)], args := [d1, d2, d3] }
  | _ => none }
def FnExactMatchPatWrongFalsely : Prop := fnExactMatchPatRow.holds Try.pinned (OpenSpec.ofChange fnExactMatchPatWrong)

/- THE SECOND FORM. 'bulk': how many values and letters a reading holds, each counted each time it is reached (what is shared counts as often as it is met; a slice's spare places count too). A statement '..UptoSaid' is the law's where the arguments, and the package variables that the reading takes, are together of bulk at most 1048576: NARROWER than '..Said'. Prove '..Said' where nothing that the law and all that it calls make is longer than what came in: it says more and counts as full. Else prove '..UptoSaid'. A law counts once. -/
mutual
def uptoBulk {H : Type} : DataW H → Nat
  | .lit (.string bytes) => bytes.length + 1
  | .lit _ => 1
  | .nil => 1
  | .ptr d => uptoBulk d + 1
  | .slice elems spare => uptoBulkAll elems + uptoBulkAll spare + 1
  | .agg parts => uptoBulkAll parts + 1
  | .iface _ d => uptoBulk d + 1
  | .map entries => uptoBulkEntries entries + 1
  | .held _ => 1
def uptoBulkAll {H : Type} : List (DataW H) → Nat
  | [] => 0
  | d :: r => uptoBulk d + uptoBulkAll r
def uptoBulkEntries {H : Type} : List (Lit × DataW H) → Nat
  | [] => 0
  | x :: r => uptoBulkEntry x + uptoBulkEntries r
def uptoBulkEntry {H : Type} : Lit × DataW H → Nat
  | (.string bytes, d) => bytes.length + uptoBulk d + 1
  | (_, d) => uptoBulk d + 1
 end
def uptoSmall : (H : Type) → List (DataW H) → Bool := fun _ ds => decide (uptoBulkAll ds ≤ 1048576)
def OpenSpec.upto (s : _root_.Go.ChangeSpec) : _root_.Go.OpenSpec := { _root_.Go.OpenSpec.ofChange s with cond := some uptoSmall }

/-- 'laws.FnExactArgOk', WHERE WHAT IT READS IS OF BULK AT MOST 1048576: true; the input reads as it did. -/
def fnExactArgOkUptoRow : OpenClaim := { program := "ytakodlfmnedeiaa", sum := "e5f3313a9a0a6093d6f57b794b2a5483bba9c6a7b9398ac2eac8145c57d90ac2", func := "loop.example/g00282/laws.FnExactArgOk", spec := "fnExactArgOk", unfollowed := true, recurses := true, apart := false, narrowed := true }
def FnExactArgOkUptoSaid : Prop := fnExactArgOkUptoRow.holds Try.pinned (OpenSpec.upto fnExactArgOkSpec)

/-- 'laws.FnExactPatOk', WHERE WHAT IT READS IS OF BULK AT MOST 1048576: true; the input reads as it did. -/
def fnExactPatOkUptoRow : OpenClaim := { program := "ytakodlfmnedeiaa", sum := "e5f3313a9a0a6093d6f57b794b2a5483bba9c6a7b9398ac2eac8145c57d90ac2", func := "loop.example/g00282/laws.FnExactPatOk", spec := "fnExactPatOk", unfollowed := true, recurses := true, apart := false, narrowed := true }
def FnExactPatOkUptoSaid : Prop := fnExactPatOkUptoRow.holds Try.pinned (OpenSpec.upto fnExactPatOkSpec)

/-- 'laws.FnExactVarsOf', WHERE WHAT IT READS IS OF BULK AT MOST 1048576: true; the input reads as it did. -/
def fnExactVarsOfUptoRow : OpenClaim := { program := "ytakodlfmnedeiaa", sum := "e5f3313a9a0a6093d6f57b794b2a5483bba9c6a7b9398ac2eac8145c57d90ac2", func := "loop.example/g00282/laws.FnExactVarsOf", spec := "fnExactVarsOf", apart := false, narrowed := true }
def FnExactVarsOfUptoSaid : Prop := fnExactVarsOfUptoRow.holds Try.pinned (OpenSpec.upto fnExactVarsOfSpec)

/-- 'laws.FnExactBindOf', WHERE WHAT IT READS IS OF BULK AT MOST 1048576: true; the input reads as it did. -/
def fnExactBindOfUptoRow : OpenClaim := { program := "ytakodlfmnedeiaa", sum := "e5f3313a9a0a6093d6f57b794b2a5483bba9c6a7b9398ac2eac8145c57d90ac2", func := "loop.example/g00282/laws.FnExactBindOf", spec := "fnExactBindOf", apart := false, narrowed := true }
def FnExactBindOfUptoSaid : Prop := fnExactBindOfUptoRow.holds Try.pinned (OpenSpec.upto fnExactBindOfSpec)

/-- 'laws.FnExactMatchPat', WHERE WHAT IT READS IS OF BULK AT MOST 1048576: true; the input reads as it did. -/
def fnExactMatchPatUptoRow : OpenClaim := { program := "ytakodlfmnedeiaa", sum := "e5f3313a9a0a6093d6f57b794b2a5483bba9c6a7b9398ac2eac8145c57d90ac2", func := "loop.example/g00282/laws.FnExactMatchPat", spec := "fnExactMatchPat", unfollowed := true, recurses := true, apart := false, narrowed := true }
def FnExactMatchPatUptoSaid : Prop := fnExactMatchPatUptoRow.holds Try.pinned (OpenSpec.upto fnExactMatchPatSpec)

end Rows
end Go.Proofs.Ytakodlfmnedeiaa
