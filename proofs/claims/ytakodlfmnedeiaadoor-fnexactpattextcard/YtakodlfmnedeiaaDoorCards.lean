/-
  DERIVED. GIVEN WITH THE SEED: THE CARDS: each row of YtakodlfmnedeiaaDoorRows.lean that lists a variable, with what it lists TIED to the program's text (the seventh form; the later family's looks); each row that meets fmt, with fmt's text TOLD by the authors' own Lean function (tested against real Go, not proved from fmt's source: count such statements apart). THE CARD IS WHAT COUNTS. Prove the row's statement (the work); the ties are given (YtakodlfmnedeiaaDoorTie.lean); close each card by the builder's one call (the guide's Derived/Test/ToyasCard.lean, 'card_holds'). Laid BY PROGRAM, IN A SANDBOX (cutbox-door.mjs). By AI agents, Wed Nov 11 2026. No macro, syntax, notation, axiom, sorry.
-/
import Derived.Test.YtakodlfmnedeiaaDoorRows
import GoSem.ClaimSeven
namespace Go.Proofs.YtakodlfmnedeiaaDoor
namespace Rows

/-- THE TIED CARD OF 'laws.FnExactPatText'. -/
def fnExactPatTextCard : Claim7 := { stood := { row := fnExactPatTextRow, standIns := [], harness := (true, "39a154d2ff5b4b8cc65e82b7db44995ae1f5a4fae5c75d8b86ffbdedb0991b4f"), looks := true }, kinds := [], alts := [], laidByText := true, laidKinds := [.data, .data, .data], laidTests := true, laidLooks := .later }
def FnExactPatTextCardSaid : Prop := Claim7.holds Tryd.pinned (.plain (OpenSpec.ofChange fnExactPatTextSpec)) fnExactPatTextCard

/-- THE SECOND FORM's CARD OF 'laws.FnExactPatText'. -/
def fnExactPatTextUptoCard : Claim7 := { stood := { row := fnExactPatTextUptoRow, standIns := [], harness := (true, "39a154d2ff5b4b8cc65e82b7db44995ae1f5a4fae5c75d8b86ffbdedb0991b4f"), looks := true }, kinds := [], alts := [], laidByText := true, laidKinds := [.data, .data, .data], laidTests := true, laidLooks := .later }
def FnExactPatTextUptoCardSaid : Prop := Claim7.holds Tryd.pinned (.plain (OpenSpec.upto fnExactPatTextSpec)) fnExactPatTextUptoCard
end Rows
end Go.Proofs.YtakodlfmnedeiaaDoor
