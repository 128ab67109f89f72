/-
  DERIVED. GIVEN WITH THE SEED: THE CARDS: each row of YtaflokfgbmlmaacDoorRows.lean that lists a variable, with what it lists TIED to the program's text (the seventh form; the later family's looks); each row that meets fmt, with fmt's text TOLD by the authors' own Lean function (tested against real Go, not proved from fmt's source: count such statements apart). THE CARD IS WHAT COUNTS. Prove the row's statement (the work); the ties are given (YtaflokfgbmlmaacDoorTie.lean); close each card by the builder's one call (the guide's Derived/Test/ToyasCard.lean, 'card_holds'). Laid BY PROGRAM, IN A SANDBOX (cutbox-door.mjs). By AI agents, Wed Nov 11 2026. No macro, syntax, notation, axiom, sorry.
-/
import Derived.Test.YtaflokfgbmlmaacDoorRows
import GoSem.ClaimSeven
namespace Go.Proofs.YtaflokfgbmlmaacDoor
namespace Rows

/-- THE TIED CARD OF 'laws.FnExactActText'. -/
def fnExactActTextCard : Claim7 := { stood := { row := fnExactActTextRow, standIns := [], harness := (true, "4bce9ce4e72d325b4a98612ef593df1257abf11b15e5d4d5fa1cd79cdad0831c"), looks := true }, kinds := [], alts := [], laidByText := true, laidKinds := [.data, .data, .data, .data], laidTests := true, laidLooks := .later }
def FnExactActTextCardSaid : Prop := Claim7.holds Tryd.pinned (.plain (OpenSpec.ofChange fnExactActTextSpec)) fnExactActTextCard

/-- THE TIED CARD OF 'laws.FnActs'. -/
def fnActsCard : Claim7 := { stood := { row := fnActsRow, standIns := [], harness := (true, "4bce9ce4e72d325b4a98612ef593df1257abf11b15e5d4d5fa1cd79cdad0831c"), looks := true }, kinds := [], alts := [], laidByText := true, laidKinds := [.data, .data, .data, .data], laidTests := true, laidLooks := .later }
def FnActsCardSaid : Prop := Claim7.holds Tryd.pinned (.plain (OpenSpec.ofChange fnActsSpec)) fnActsCard

/-- THE TIED CARD OF 'laws.FnExactPatText'. -/
def fnExactPatTextCard : Claim7 := { stood := { row := fnExactPatTextRow, standIns := [], harness := (true, "4bce9ce4e72d325b4a98612ef593df1257abf11b15e5d4d5fa1cd79cdad0831c"), looks := true }, kinds := [], alts := [], laidByText := true, laidKinds := [.data, .data, .data], laidTests := true, laidLooks := .later }
def FnExactPatTextCardSaid : Prop := Claim7.holds Tryd.pinned (.plain (OpenSpec.ofChange fnExactPatTextSpec)) fnExactPatTextCard

/-- THE TIED CARD OF 'laws.FnPatTexts'. -/
def fnPatTextsCard : Claim7 := { stood := { row := fnPatTextsRow, standIns := [], harness := (true, "4bce9ce4e72d325b4a98612ef593df1257abf11b15e5d4d5fa1cd79cdad0831c"), looks := true }, kinds := [], alts := [], laidByText := true, laidKinds := [.data, .data, .data], laidTests := true, laidLooks := .later }
def FnPatTextsCardSaid : Prop := Claim7.holds Tryd.pinned (.plain (OpenSpec.ofChange fnPatTextsSpec)) fnPatTextsCard

/-- THE TIED CARD OF 'laws.FnExactFactText'. -/
def fnExactFactTextCard : Claim7 := { stood := { row := fnExactFactTextRow, standIns := [], harness := (true, "4bce9ce4e72d325b4a98612ef593df1257abf11b15e5d4d5fa1cd79cdad0831c"), looks := true }, kinds := [], alts := [], laidByText := true, laidKinds := [.data, .data, .data], laidTests := true, laidLooks := .later }
def FnExactFactTextCardSaid : Prop := Claim7.holds Tryd.pinned (.plain (OpenSpec.ofChange fnExactFactTextSpec)) fnExactFactTextCard

/-- THE SECOND FORM's CARD OF 'laws.FnExactActText'. -/
def fnExactActTextUptoCard : Claim7 := { stood := { row := fnExactActTextUptoRow, standIns := [], harness := (true, "4bce9ce4e72d325b4a98612ef593df1257abf11b15e5d4d5fa1cd79cdad0831c"), looks := true }, kinds := [], alts := [], laidByText := true, laidKinds := [.data, .data, .data, .data], laidTests := true, laidLooks := .later }
def FnExactActTextUptoCardSaid : Prop := Claim7.holds Tryd.pinned (.plain (OpenSpec.upto fnExactActTextSpec)) fnExactActTextUptoCard

/-- THE SECOND FORM's CARD OF 'laws.FnActs'. -/
def fnActsUptoCard : Claim7 := { stood := { row := fnActsUptoRow, standIns := [], harness := (true, "4bce9ce4e72d325b4a98612ef593df1257abf11b15e5d4d5fa1cd79cdad0831c"), looks := true }, kinds := [], alts := [], laidByText := true, laidKinds := [.data, .data, .data, .data], laidTests := true, laidLooks := .later }
def FnActsUptoCardSaid : Prop := Claim7.holds Tryd.pinned (.plain (OpenSpec.upto fnActsSpec)) fnActsUptoCard

/-- THE SECOND FORM's CARD OF 'laws.FnExactPatText'. -/
def fnExactPatTextUptoCard : Claim7 := { stood := { row := fnExactPatTextUptoRow, standIns := [], harness := (true, "4bce9ce4e72d325b4a98612ef593df1257abf11b15e5d4d5fa1cd79cdad0831c"), looks := true }, kinds := [], alts := [], laidByText := true, laidKinds := [.data, .data, .data], laidTests := true, laidLooks := .later }
def FnExactPatTextUptoCardSaid : Prop := Claim7.holds Tryd.pinned (.plain (OpenSpec.upto fnExactPatTextSpec)) fnExactPatTextUptoCard

/-- THE SECOND FORM's CARD OF 'laws.FnPatTexts'. -/
def fnPatTextsUptoCard : Claim7 := { stood := { row := fnPatTextsUptoRow, standIns := [], harness := (true, "4bce9ce4e72d325b4a98612ef593df1257abf11b15e5d4d5fa1cd79cdad0831c"), looks := true }, kinds := [], alts := [], laidByText := true, laidKinds := [.data, .data, .data], laidTests := true, laidLooks := .later }
def FnPatTextsUptoCardSaid : Prop := Claim7.holds Tryd.pinned (.plain (OpenSpec.upto fnPatTextsSpec)) fnPatTextsUptoCard

/-- THE SECOND FORM's CARD OF 'laws.FnExactFactText'. -/
def fnExactFactTextUptoCard : Claim7 := { stood := { row := fnExactFactTextUptoRow, standIns := [], harness := (true, "4bce9ce4e72d325b4a98612ef593df1257abf11b15e5d4d5fa1cd79cdad0831c"), looks := true }, kinds := [], alts := [], laidByText := true, laidKinds := [.data, .data, .data], laidTests := true, laidLooks := .later }
def FnExactFactTextUptoCardSaid : Prop := Claim7.holds Tryd.pinned (.plain (OpenSpec.upto fnExactFactTextSpec)) fnExactFactTextUptoCard
end Rows
end Go.Proofs.YtaflokfgbmlmaacDoor
