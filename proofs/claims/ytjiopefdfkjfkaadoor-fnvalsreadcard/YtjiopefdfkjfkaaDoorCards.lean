/-
  DERIVED. GIVEN WITH THE SEED: THE CARDS: each row of YtjiopefdfkjfkaaDoorRows.lean that lists a variable, with what it lists TIED to the program's text (the seventh form; the later family's looks); each row that meets fmt, with fmt's text TOLD by the authors' own Lean function (tested against real Go, not proved from fmt's source: count such statements apart). THE CARD IS WHAT COUNTS. Prove the row's statement (the work); the ties are given (YtjiopefdfkjfkaaDoorTie.lean); close each card by the builder's one call (the guide's Derived/Test/ToyasCard.lean, 'card_holds'). Laid BY PROGRAM, IN A SANDBOX (cutbox-door.mjs). By AI agents, Wed Nov 11 2026. No macro, syntax, notation, axiom, sorry.
-/
import Derived.Test.YtjiopefdfkjfkaaDoorRows
import GoSem.ClaimSeven
namespace Go.Proofs.YtjiopefdfkjfkaaDoor
namespace Rows

/-- THE TIED CARD OF 'laws.FnValsRead'. -/
def fnValsReadCard : Claim7 := { stood := { row := fnValsReadRow, standIns := [], harness := (true, "fef74b067d30bd521c6776d99ee25709dd1b4f7b6fbeaabcc9cae4c2aeb8c3c6"), looks := true }, kinds := [], alts := [], laidByText := true, laidKinds := [.data, .data, .data, .sentinel, .sentinel], laidTests := true, laidLooks := .later }
def FnValsReadCardSaid : Prop := Claim7.holds Tryd.pinned (.plain (OpenSpec.ofChange fnValsReadSpec)) fnValsReadCard

/-- THE TIED CARD OF 'laws.FnAsserted'. -/
def fnAssertedCard : Claim7 := { stood := { row := fnAssertedRow, standIns := [], harness := (true, "fef74b067d30bd521c6776d99ee25709dd1b4f7b6fbeaabcc9cae4c2aeb8c3c6"), looks := true }, kinds := [], alts := [], laidByText := true, laidKinds := [.data, .data, .data], laidTests := true, laidLooks := .later }
def FnAssertedCardSaid : Prop := Claim7.holds Tryd.pinned (.plain (OpenSpec.ofChange fnAssertedSpec)) fnAssertedCard

/-- THE TIED CARD OF 'laws.FnKinds'. -/
def fnKindsCard : Claim7 := { stood := { row := fnKindsRow, standIns := [], harness := (true, "fef74b067d30bd521c6776d99ee25709dd1b4f7b6fbeaabcc9cae4c2aeb8c3c6"), looks := true }, kinds := [], alts := [], laidByText := true, laidKinds := [.data, .data, .data], laidTests := true, laidLooks := .later }
def FnKindsCardSaid : Prop := Claim7.holds Tryd.pinned (.plain (OpenSpec.ofChange fnKindsSpec)) fnKindsCard

/-- THE TIED CARD OF 'laws.FnExactParseFact'. -/
def fnExactParseFactCard : Claim7 := { stood := { row := fnExactParseFactRow, standIns := [], harness := (true, "fef74b067d30bd521c6776d99ee25709dd1b4f7b6fbeaabcc9cae4c2aeb8c3c6"), looks := true }, kinds := [], alts := [], laidByText := true, laidKinds := [.data, .data, .data, .data, .sentinel, .sentinel, .pinned], laidTests := true, laidLooks := .later }
def FnExactParseFactCardSaid : Prop := Claim7.holds Tryd.pinned (.plain (OpenSpec.ofChange fnExactParseFactSpec)) fnExactParseFactCard

/-- THE TIED CARD OF 'laws.FnExactStoreOk'. -/
def fnExactStoreOkCard : Claim7 := { stood := { row := fnExactStoreOkRow, standIns := [], harness := (true, "fef74b067d30bd521c6776d99ee25709dd1b4f7b6fbeaabcc9cae4c2aeb8c3c6"), looks := true }, kinds := [], alts := [], laidByText := true, laidKinds := [.data, .data, .data], laidTests := true, laidLooks := .later }
def FnExactStoreOkCardSaid : Prop := Claim7.holds Tryd.pinned (.plain (OpenSpec.ofChange fnExactStoreOkSpec)) fnExactStoreOkCard

/-- THE SECOND FORM's CARD OF 'laws.FnValsRead'. -/
def fnValsReadUptoCard : Claim7 := { stood := { row := fnValsReadUptoRow, standIns := [], harness := (true, "fef74b067d30bd521c6776d99ee25709dd1b4f7b6fbeaabcc9cae4c2aeb8c3c6"), looks := true }, kinds := [], alts := [], laidByText := true, laidKinds := [.data, .data, .data, .sentinel, .sentinel], laidTests := true, laidLooks := .later }
def FnValsReadUptoCardSaid : Prop := Claim7.holds Tryd.pinned (.plain (OpenSpec.upto fnValsReadSpec)) fnValsReadUptoCard

/-- THE SECOND FORM's CARD OF 'laws.FnAsserted'. -/
def fnAssertedUptoCard : Claim7 := { stood := { row := fnAssertedUptoRow, standIns := [], harness := (true, "fef74b067d30bd521c6776d99ee25709dd1b4f7b6fbeaabcc9cae4c2aeb8c3c6"), looks := true }, kinds := [], alts := [], laidByText := true, laidKinds := [.data, .data, .data], laidTests := true, laidLooks := .later }
def FnAssertedUptoCardSaid : Prop := Claim7.holds Tryd.pinned (.plain (OpenSpec.upto fnAssertedSpec)) fnAssertedUptoCard

/-- THE SECOND FORM's CARD OF 'laws.FnKinds'. -/
def fnKindsUptoCard : Claim7 := { stood := { row := fnKindsUptoRow, standIns := [], harness := (true, "fef74b067d30bd521c6776d99ee25709dd1b4f7b6fbeaabcc9cae4c2aeb8c3c6"), looks := true }, kinds := [], alts := [], laidByText := true, laidKinds := [.data, .data, .data], laidTests := true, laidLooks := .later }
def FnKindsUptoCardSaid : Prop := Claim7.holds Tryd.pinned (.plain (OpenSpec.upto fnKindsSpec)) fnKindsUptoCard

/-- THE SECOND FORM's CARD OF 'laws.FnExactParseFact'. -/
def fnExactParseFactUptoCard : Claim7 := { stood := { row := fnExactParseFactUptoRow, standIns := [], harness := (true, "fef74b067d30bd521c6776d99ee25709dd1b4f7b6fbeaabcc9cae4c2aeb8c3c6"), looks := true }, kinds := [], alts := [], laidByText := true, laidKinds := [.data, .data, .data, .data, .sentinel, .sentinel, .pinned], laidTests := true, laidLooks := .later }
def FnExactParseFactUptoCardSaid : Prop := Claim7.holds Tryd.pinned (.plain (OpenSpec.upto fnExactParseFactSpec)) fnExactParseFactUptoCard

/-- THE SECOND FORM's CARD OF 'laws.FnExactStoreOk'. -/
def fnExactStoreOkUptoCard : Claim7 := { stood := { row := fnExactStoreOkUptoRow, standIns := [], harness := (true, "fef74b067d30bd521c6776d99ee25709dd1b4f7b6fbeaabcc9cae4c2aeb8c3c6"), looks := true }, kinds := [], alts := [], laidByText := true, laidKinds := [.data, .data, .data], laidTests := true, laidLooks := .later }
def FnExactStoreOkUptoCardSaid : Prop := Claim7.holds Tryd.pinned (.plain (OpenSpec.upto fnExactStoreOkSpec)) fnExactStoreOkUptoCard
end Rows
end Go.Proofs.YtjiopefdfkjfkaaDoor
