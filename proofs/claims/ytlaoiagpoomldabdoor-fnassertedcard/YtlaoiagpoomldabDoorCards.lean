/-
  DERIVED. GIVEN WITH THE SEED: THE CARDS: each row of YtlaoiagpoomldabDoorRows.lean that lists a variable, with what it lists TIED to the program's text (the seventh form; the later family's looks); each row that meets fmt, with fmt's text TOLD by the authors' own Lean function (tested against real Go, not proved from fmt's source: count such statements apart). THE CARD IS WHAT COUNTS. Prove the row's statement (the work); the ties are given (YtlaoiagpoomldabDoorTie.lean); close each card by the builder's one call (the guide's Derived/Test/ToyasCard.lean, 'card_holds'). Laid BY PROGRAM, IN A SANDBOX (cutbox-door.mjs). By AI agents, Wed Nov 11 2026. No macro, syntax, notation, axiom, sorry.
-/
import Derived.Test.YtlaoiagpoomldabDoorRows
import GoSem.ClaimSeven
namespace Go.Proofs.YtlaoiagpoomldabDoor
namespace Rows

/-- THE TIED CARD OF 'laws.FnExactCondText'. -/
def fnExactCondTextCard : Claim7 := { stood := { row := fnExactCondTextRow, standIns := [], harness := (true, "aa83d0b9ffa96f64bc82a75ba15cbdb47bbaa7a5b254d0a6e3662a4f26d8a2ae"), looks := true }, kinds := [], alts := [], laidByText := true, laidKinds := [.data, .data, .data], laidTests := true, laidLooks := .later }
def FnExactCondTextCardSaid : Prop := Claim7.holds Tryd.pinned (.plain (OpenSpec.ofChange fnExactCondTextSpec)) fnExactCondTextCard

/-- THE TIED CARD OF 'laws.FnPatTexts'. -/
def fnPatTextsCard : Claim7 := { stood := { row := fnPatTextsRow, standIns := [], harness := (true, "aa83d0b9ffa96f64bc82a75ba15cbdb47bbaa7a5b254d0a6e3662a4f26d8a2ae"), looks := true }, kinds := [], alts := [], laidByText := true, laidKinds := [.data, .data, .data], laidTests := true, laidLooks := .later }
def FnPatTextsCardSaid : Prop := Claim7.holds Tryd.pinned (.plain (OpenSpec.ofChange fnPatTextsSpec)) fnPatTextsCard

/-- THE TIED CARD OF 'laws.FnAsserted'. -/
def fnAssertedCard : Claim7 := { stood := { row := fnAssertedRow, standIns := [], harness := (true, "aa83d0b9ffa96f64bc82a75ba15cbdb47bbaa7a5b254d0a6e3662a4f26d8a2ae"), looks := true }, kinds := [], alts := [], laidByText := true, laidKinds := [.data, .data, .data], laidTests := true, laidLooks := .later }
def FnAssertedCardSaid : Prop := Claim7.holds Tryd.pinned (.plain (OpenSpec.ofChange fnAssertedSpec)) fnAssertedCard

/-- THE TIED CARD OF 'laws.FnKinds'. -/
def fnKindsCard : Claim7 := { stood := { row := fnKindsRow, standIns := [], harness := (true, "aa83d0b9ffa96f64bc82a75ba15cbdb47bbaa7a5b254d0a6e3662a4f26d8a2ae"), looks := true }, kinds := [], alts := [], laidByText := true, laidKinds := [.data, .data, .data], laidTests := true, laidLooks := .later }
def FnKindsCardSaid : Prop := Claim7.holds Tryd.pinned (.plain (OpenSpec.ofChange fnKindsSpec)) fnKindsCard

/-- THE TIED CARD OF 'laws.FnExactParseFact'. -/
def fnExactParseFactCard : Claim7 := { stood := { row := fnExactParseFactRow, standIns := [], harness := (true, "aa83d0b9ffa96f64bc82a75ba15cbdb47bbaa7a5b254d0a6e3662a4f26d8a2ae"), looks := true }, kinds := [], alts := [], laidByText := true, laidKinds := [.data, .data, .data, .data, .sentinel, .sentinel, .pinned], laidTests := true, laidLooks := .later }
def FnExactParseFactCardSaid : Prop := Claim7.holds Tryd.pinned (.plain (OpenSpec.ofChange fnExactParseFactSpec)) fnExactParseFactCard

/-- THE SECOND FORM's CARD OF 'laws.FnExactCondText'. -/
def fnExactCondTextUptoCard : Claim7 := { stood := { row := fnExactCondTextUptoRow, standIns := [], harness := (true, "aa83d0b9ffa96f64bc82a75ba15cbdb47bbaa7a5b254d0a6e3662a4f26d8a2ae"), looks := true }, kinds := [], alts := [], laidByText := true, laidKinds := [.data, .data, .data], laidTests := true, laidLooks := .later }
def FnExactCondTextUptoCardSaid : Prop := Claim7.holds Tryd.pinned (.plain (OpenSpec.upto fnExactCondTextSpec)) fnExactCondTextUptoCard

/-- THE SECOND FORM's CARD OF 'laws.FnPatTexts'. -/
def fnPatTextsUptoCard : Claim7 := { stood := { row := fnPatTextsUptoRow, standIns := [], harness := (true, "aa83d0b9ffa96f64bc82a75ba15cbdb47bbaa7a5b254d0a6e3662a4f26d8a2ae"), looks := true }, kinds := [], alts := [], laidByText := true, laidKinds := [.data, .data, .data], laidTests := true, laidLooks := .later }
def FnPatTextsUptoCardSaid : Prop := Claim7.holds Tryd.pinned (.plain (OpenSpec.upto fnPatTextsSpec)) fnPatTextsUptoCard

/-- THE SECOND FORM's CARD OF 'laws.FnAsserted'. -/
def fnAssertedUptoCard : Claim7 := { stood := { row := fnAssertedUptoRow, standIns := [], harness := (true, "aa83d0b9ffa96f64bc82a75ba15cbdb47bbaa7a5b254d0a6e3662a4f26d8a2ae"), looks := true }, kinds := [], alts := [], laidByText := true, laidKinds := [.data, .data, .data], laidTests := true, laidLooks := .later }
def FnAssertedUptoCardSaid : Prop := Claim7.holds Tryd.pinned (.plain (OpenSpec.upto fnAssertedSpec)) fnAssertedUptoCard

/-- THE SECOND FORM's CARD OF 'laws.FnKinds'. -/
def fnKindsUptoCard : Claim7 := { stood := { row := fnKindsUptoRow, standIns := [], harness := (true, "aa83d0b9ffa96f64bc82a75ba15cbdb47bbaa7a5b254d0a6e3662a4f26d8a2ae"), looks := true }, kinds := [], alts := [], laidByText := true, laidKinds := [.data, .data, .data], laidTests := true, laidLooks := .later }
def FnKindsUptoCardSaid : Prop := Claim7.holds Tryd.pinned (.plain (OpenSpec.upto fnKindsSpec)) fnKindsUptoCard

/-- THE SECOND FORM's CARD OF 'laws.FnExactParseFact'. -/
def fnExactParseFactUptoCard : Claim7 := { stood := { row := fnExactParseFactUptoRow, standIns := [], harness := (true, "aa83d0b9ffa96f64bc82a75ba15cbdb47bbaa7a5b254d0a6e3662a4f26d8a2ae"), looks := true }, kinds := [], alts := [], laidByText := true, laidKinds := [.data, .data, .data, .data, .sentinel, .sentinel, .pinned], laidTests := true, laidLooks := .later }
def FnExactParseFactUptoCardSaid : Prop := Claim7.holds Tryd.pinned (.plain (OpenSpec.upto fnExactParseFactSpec)) fnExactParseFactUptoCard
end Rows
end Go.Proofs.YtlaoiagpoomldabDoor
