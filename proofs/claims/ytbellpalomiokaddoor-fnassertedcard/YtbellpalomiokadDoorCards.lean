/-
  DERIVED. GIVEN WITH THE SEED: THE CARDS: each row of YtbellpalomiokadDoorRows.lean that lists a variable, with what it lists TIED to the program's text (the seventh form; the later family's looks); each row that meets fmt, with fmt's text TOLD by the authors' own Lean function (tested against real Go, not proved from fmt's source: count such statements apart). THE CARD IS WHAT COUNTS. Prove the row's statement (the work); the ties are given (YtbellpalomiokadDoorTie.lean); close each card by the builder's one call (the guide's Derived/Test/ToyasCard.lean, 'card_holds'). Laid BY PROGRAM, IN A SANDBOX (cutbox-door.mjs). By AI agents, Wed Nov 11 2026. No macro, syntax, notation, axiom, sorry.
-/
import Derived.Test.YtbellpalomiokadDoorRows
import GoSem.ClaimSeven
namespace Go.Proofs.YtbellpalomiokadDoor
namespace Rows

/-- THE TIED CARD OF 'laws.FnAsserted'. -/
def fnAssertedCard : Claim7 := { stood := { row := fnAssertedRow, standIns := [], harness := (true, "929a2efdce30a61dc35a5e59f9f2acac42592915a2fb721a1f4e7ac69d24b2ca"), looks := true }, kinds := [], alts := [], laidByText := true, laidKinds := [.data, .data, .data], laidTests := true, laidLooks := .later }
def FnAssertedCardSaid : Prop := Claim7.holds Tryd.pinned (.plain (OpenSpec.ofChange fnAssertedSpec)) fnAssertedCard

/-- THE TIED CARD OF 'laws.FnKinds'. -/
def fnKindsCard : Claim7 := { stood := { row := fnKindsRow, standIns := [], harness := (true, "929a2efdce30a61dc35a5e59f9f2acac42592915a2fb721a1f4e7ac69d24b2ca"), looks := true }, kinds := [], alts := [], laidByText := true, laidKinds := [.data, .data, .data], laidTests := true, laidLooks := .later }
def FnKindsCardSaid : Prop := Claim7.holds Tryd.pinned (.plain (OpenSpec.ofChange fnKindsSpec)) fnKindsCard

/-- THE SECOND FORM's CARD OF 'laws.FnAsserted'. -/
def fnAssertedUptoCard : Claim7 := { stood := { row := fnAssertedUptoRow, standIns := [], harness := (true, "929a2efdce30a61dc35a5e59f9f2acac42592915a2fb721a1f4e7ac69d24b2ca"), looks := true }, kinds := [], alts := [], laidByText := true, laidKinds := [.data, .data, .data], laidTests := true, laidLooks := .later }
def FnAssertedUptoCardSaid : Prop := Claim7.holds Tryd.pinned (.plain (OpenSpec.upto fnAssertedSpec)) fnAssertedUptoCard

/-- THE SECOND FORM's CARD OF 'laws.FnKinds'. -/
def fnKindsUptoCard : Claim7 := { stood := { row := fnKindsUptoRow, standIns := [], harness := (true, "929a2efdce30a61dc35a5e59f9f2acac42592915a2fb721a1f4e7ac69d24b2ca"), looks := true }, kinds := [], alts := [], laidByText := true, laidKinds := [.data, .data, .data], laidTests := true, laidLooks := .later }
def FnKindsUptoCardSaid : Prop := Claim7.holds Tryd.pinned (.plain (OpenSpec.upto fnKindsSpec)) fnKindsUptoCard
end Rows
end Go.Proofs.YtbellpalomiokadDoor
