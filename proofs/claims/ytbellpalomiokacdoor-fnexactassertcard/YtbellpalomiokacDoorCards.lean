/-
  DERIVED. GIVEN WITH THE SEED: THE CARDS: each row of YtbellpalomiokacDoorRows.lean that lists a variable, with what it lists TIED to the program's text (the seventh form; the later family's looks); each row that meets fmt, with fmt's text TOLD by the authors' own Lean function (tested against real Go, not proved from fmt's source: count such statements apart). THE CARD IS WHAT COUNTS. Prove the row's statement (the work); the ties are given (YtbellpalomiokacDoorTie.lean); close each card by the builder's one call (the guide's Derived/Test/ToyasCard.lean, 'card_holds'). Laid BY PROGRAM, IN A SANDBOX (cutbox-door.mjs). By AI agents, Wed Nov 11 2026. No macro, syntax, notation, axiom, sorry.
-/
import Derived.Test.YtbellpalomiokacDoorRows
import GoSem.ClaimSeven
namespace Go.Proofs.YtbellpalomiokacDoor
namespace Rows

/-- THE TIED CARD OF 'laws.FnExactFactText'. -/
def fnExactFactTextCard : Claim7 := { stood := { row := fnExactFactTextRow, standIns := [], harness := (true, "5280b805c05f2d773b6335df5d6500abbf055737fc3cbe18531cc10780177db4"), looks := true }, kinds := [], alts := [], laidByText := true, laidKinds := [.data, .data, .data], laidTests := true, laidLooks := .later }
def FnExactFactTextCardSaid : Prop := Claim7.holds Tryd.pinned (.plain (OpenSpec.ofChange fnExactFactTextSpec)) fnExactFactTextCard

/-- THE TIED CARD OF 'laws.FnExactPatText'. -/
def fnExactPatTextCard : Claim7 := { stood := { row := fnExactPatTextRow, standIns := [], harness := (true, "5280b805c05f2d773b6335df5d6500abbf055737fc3cbe18531cc10780177db4"), looks := true }, kinds := [], alts := [], laidByText := true, laidKinds := [.data, .data, .data], laidTests := true, laidLooks := .later }
def FnExactPatTextCardSaid : Prop := Claim7.holds Tryd.pinned (.plain (OpenSpec.ofChange fnExactPatTextSpec)) fnExactPatTextCard

/-- THE TIED CARD OF 'laws.FnPatTexts'. -/
def fnPatTextsCard : Claim7 := { stood := { row := fnPatTextsRow, standIns := [], harness := (true, "5280b805c05f2d773b6335df5d6500abbf055737fc3cbe18531cc10780177db4"), looks := true }, kinds := [], alts := [], laidByText := true, laidKinds := [.data, .data, .data], laidTests := true, laidLooks := .later }
def FnPatTextsCardSaid : Prop := Claim7.holds Tryd.pinned (.plain (OpenSpec.ofChange fnPatTextsSpec)) fnPatTextsCard

/-- THE TIED CARD OF 'laws.FnExactStoreOk'. -/
def fnExactStoreOkCard : Claim7 := { stood := { row := fnExactStoreOkRow, standIns := [], harness := (true, "5280b805c05f2d773b6335df5d6500abbf055737fc3cbe18531cc10780177db4"), looks := true }, kinds := [], alts := [], laidByText := true, laidKinds := [.data, .data, .data], laidTests := true, laidLooks := .later }
def FnExactStoreOkCardSaid : Prop := Claim7.holds Tryd.pinned (.plain (OpenSpec.ofChange fnExactStoreOkSpec)) fnExactStoreOkCard

/-- THE TIED CARD OF 'laws.FnExactAssert'. -/
def fnExactAssertCard : Claim7 := { stood := { row := fnExactAssertRow, standIns := [], harness := (true, "5280b805c05f2d773b6335df5d6500abbf055737fc3cbe18531cc10780177db4"), looks := true }, kinds := [], alts := [], laidByText := true, laidKinds := [.data, .data, .data], laidTests := true, laidLooks := .later }
def FnExactAssertCardSaid : Prop := Claim7.holds Tryd.pinned (.plain (OpenSpec.ofChange fnExactAssertSpec)) fnExactAssertCard

/-- THE TIED CARD OF 'laws.FnExactParseFact'. -/
def fnExactParseFactCard : Claim7 := { stood := { row := fnExactParseFactRow, standIns := [], harness := (true, "5280b805c05f2d773b6335df5d6500abbf055737fc3cbe18531cc10780177db4"), looks := true }, kinds := [], alts := [], laidByText := true, laidKinds := [.data, .data, .data, .data, .sentinel, .sentinel, .pinned], laidTests := true, laidLooks := .later }
def FnExactParseFactCardSaid : Prop := Claim7.holds Tryd.pinned (.plain (OpenSpec.ofChange fnExactParseFactSpec)) fnExactParseFactCard

/-- THE SECOND FORM's CARD OF 'laws.FnExactFactText'. -/
def fnExactFactTextUptoCard : Claim7 := { stood := { row := fnExactFactTextUptoRow, standIns := [], harness := (true, "5280b805c05f2d773b6335df5d6500abbf055737fc3cbe18531cc10780177db4"), looks := true }, kinds := [], alts := [], laidByText := true, laidKinds := [.data, .data, .data], laidTests := true, laidLooks := .later }
def FnExactFactTextUptoCardSaid : Prop := Claim7.holds Tryd.pinned (.plain (OpenSpec.upto fnExactFactTextSpec)) fnExactFactTextUptoCard

/-- THE SECOND FORM's CARD OF 'laws.FnExactPatText'. -/
def fnExactPatTextUptoCard : Claim7 := { stood := { row := fnExactPatTextUptoRow, standIns := [], harness := (true, "5280b805c05f2d773b6335df5d6500abbf055737fc3cbe18531cc10780177db4"), looks := true }, kinds := [], alts := [], laidByText := true, laidKinds := [.data, .data, .data], laidTests := true, laidLooks := .later }
def FnExactPatTextUptoCardSaid : Prop := Claim7.holds Tryd.pinned (.plain (OpenSpec.upto fnExactPatTextSpec)) fnExactPatTextUptoCard

/-- THE SECOND FORM's CARD OF 'laws.FnPatTexts'. -/
def fnPatTextsUptoCard : Claim7 := { stood := { row := fnPatTextsUptoRow, standIns := [], harness := (true, "5280b805c05f2d773b6335df5d6500abbf055737fc3cbe18531cc10780177db4"), looks := true }, kinds := [], alts := [], laidByText := true, laidKinds := [.data, .data, .data], laidTests := true, laidLooks := .later }
def FnPatTextsUptoCardSaid : Prop := Claim7.holds Tryd.pinned (.plain (OpenSpec.upto fnPatTextsSpec)) fnPatTextsUptoCard

/-- THE SECOND FORM's CARD OF 'laws.FnExactStoreOk'. -/
def fnExactStoreOkUptoCard : Claim7 := { stood := { row := fnExactStoreOkUptoRow, standIns := [], harness := (true, "5280b805c05f2d773b6335df5d6500abbf055737fc3cbe18531cc10780177db4"), looks := true }, kinds := [], alts := [], laidByText := true, laidKinds := [.data, .data, .data], laidTests := true, laidLooks := .later }
def FnExactStoreOkUptoCardSaid : Prop := Claim7.holds Tryd.pinned (.plain (OpenSpec.upto fnExactStoreOkSpec)) fnExactStoreOkUptoCard

/-- THE SECOND FORM's CARD OF 'laws.FnExactAssert'. -/
def fnExactAssertUptoCard : Claim7 := { stood := { row := fnExactAssertUptoRow, standIns := [], harness := (true, "5280b805c05f2d773b6335df5d6500abbf055737fc3cbe18531cc10780177db4"), looks := true }, kinds := [], alts := [], laidByText := true, laidKinds := [.data, .data, .data], laidTests := true, laidLooks := .later }
def FnExactAssertUptoCardSaid : Prop := Claim7.holds Tryd.pinned (.plain (OpenSpec.upto fnExactAssertSpec)) fnExactAssertUptoCard

/-- THE SECOND FORM's CARD OF 'laws.FnExactParseFact'. -/
def fnExactParseFactUptoCard : Claim7 := { stood := { row := fnExactParseFactUptoRow, standIns := [], harness := (true, "5280b805c05f2d773b6335df5d6500abbf055737fc3cbe18531cc10780177db4"), looks := true }, kinds := [], alts := [], laidByText := true, laidKinds := [.data, .data, .data, .data, .sentinel, .sentinel, .pinned], laidTests := true, laidLooks := .later }
def FnExactParseFactUptoCardSaid : Prop := Claim7.holds Tryd.pinned (.plain (OpenSpec.upto fnExactParseFactSpec)) fnExactParseFactUptoCard
end Rows
end Go.Proofs.YtbellpalomiokacDoor
