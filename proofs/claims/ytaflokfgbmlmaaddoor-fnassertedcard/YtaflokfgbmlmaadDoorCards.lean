/-
  DERIVED. GIVEN WITH THE SEED: THE CARDS: each row of YtaflokfgbmlmaadDoorRows.lean that lists a variable, with what it lists TIED to the program's text (the seventh form; the later family's looks); each row that meets fmt, with fmt's text TOLD by the authors' own Lean function (tested against real Go, not proved from fmt's source: count such statements apart). THE CARD IS WHAT COUNTS. Prove the row's statement (the work); the ties are given (YtaflokfgbmlmaadDoorTie.lean); close each card by the builder's one call (the guide's Derived/Test/ToyasCard.lean, 'card_holds'). Laid BY PROGRAM, IN A SANDBOX (cutbox-door.mjs). By AI agents, Wed Nov 11 2026. No macro, syntax, notation, axiom, sorry.
-/
import Derived.Test.YtaflokfgbmlmaadDoorRows
import GoSem.ClaimSeven
namespace Go.Proofs.YtaflokfgbmlmaadDoor
namespace Rows

/-- THE TIED CARD OF 'laws.FnExactStoreOk'. -/
def fnExactStoreOkCard : Claim7 := { stood := { row := fnExactStoreOkRow, standIns := [], harness := (true, "900e51789f2141a8387d868144d30c11587395dc56392acdbdf86d0038e92bd3"), looks := true }, kinds := [], alts := [], laidByText := true, laidKinds := [.data, .data, .data], laidTests := true, laidLooks := .later }
def FnExactStoreOkCardSaid : Prop := Claim7.holds Tryd.pinned (.plain (OpenSpec.ofChange fnExactStoreOkSpec)) fnExactStoreOkCard

/-- THE TIED CARD OF 'laws.FnExactAssert'. -/
def fnExactAssertCard : Claim7 := { stood := { row := fnExactAssertRow, standIns := [], harness := (true, "900e51789f2141a8387d868144d30c11587395dc56392acdbdf86d0038e92bd3"), looks := true }, kinds := [], alts := [], laidByText := true, laidKinds := [.data, .data, .data], laidTests := true, laidLooks := .later }
def FnExactAssertCardSaid : Prop := Claim7.holds Tryd.pinned (.plain (OpenSpec.ofChange fnExactAssertSpec)) fnExactAssertCard

/-- THE TIED CARD OF 'laws.FnAsserted'. -/
def fnAssertedCard : Claim7 := { stood := { row := fnAssertedRow, standIns := [], harness := (true, "900e51789f2141a8387d868144d30c11587395dc56392acdbdf86d0038e92bd3"), looks := true }, kinds := [], alts := [], laidByText := true, laidKinds := [.data, .data, .data], laidTests := true, laidLooks := .later }
def FnAssertedCardSaid : Prop := Claim7.holds Tryd.pinned (.plain (OpenSpec.ofChange fnAssertedSpec)) fnAssertedCard

/-- THE TIED CARD OF 'laws.FnKinds'. -/
def fnKindsCard : Claim7 := { stood := { row := fnKindsRow, standIns := [], harness := (true, "900e51789f2141a8387d868144d30c11587395dc56392acdbdf86d0038e92bd3"), looks := true }, kinds := [], alts := [], laidByText := true, laidKinds := [.data, .data, .data], laidTests := true, laidLooks := .later }
def FnKindsCardSaid : Prop := Claim7.holds Tryd.pinned (.plain (OpenSpec.ofChange fnKindsSpec)) fnKindsCard

/-- THE SECOND FORM's CARD OF 'laws.FnExactStoreOk'. -/
def fnExactStoreOkUptoCard : Claim7 := { stood := { row := fnExactStoreOkUptoRow, standIns := [], harness := (true, "900e51789f2141a8387d868144d30c11587395dc56392acdbdf86d0038e92bd3"), looks := true }, kinds := [], alts := [], laidByText := true, laidKinds := [.data, .data, .data], laidTests := true, laidLooks := .later }
def FnExactStoreOkUptoCardSaid : Prop := Claim7.holds Tryd.pinned (.plain (OpenSpec.upto fnExactStoreOkSpec)) fnExactStoreOkUptoCard

/-- THE SECOND FORM's CARD OF 'laws.FnExactAssert'. -/
def fnExactAssertUptoCard : Claim7 := { stood := { row := fnExactAssertUptoRow, standIns := [], harness := (true, "900e51789f2141a8387d868144d30c11587395dc56392acdbdf86d0038e92bd3"), looks := true }, kinds := [], alts := [], laidByText := true, laidKinds := [.data, .data, .data], laidTests := true, laidLooks := .later }
def FnExactAssertUptoCardSaid : Prop := Claim7.holds Tryd.pinned (.plain (OpenSpec.upto fnExactAssertSpec)) fnExactAssertUptoCard

/-- THE SECOND FORM's CARD OF 'laws.FnAsserted'. -/
def fnAssertedUptoCard : Claim7 := { stood := { row := fnAssertedUptoRow, standIns := [], harness := (true, "900e51789f2141a8387d868144d30c11587395dc56392acdbdf86d0038e92bd3"), looks := true }, kinds := [], alts := [], laidByText := true, laidKinds := [.data, .data, .data], laidTests := true, laidLooks := .later }
def FnAssertedUptoCardSaid : Prop := Claim7.holds Tryd.pinned (.plain (OpenSpec.upto fnAssertedSpec)) fnAssertedUptoCard

/-- THE SECOND FORM's CARD OF 'laws.FnKinds'. -/
def fnKindsUptoCard : Claim7 := { stood := { row := fnKindsUptoRow, standIns := [], harness := (true, "900e51789f2141a8387d868144d30c11587395dc56392acdbdf86d0038e92bd3"), looks := true }, kinds := [], alts := [], laidByText := true, laidKinds := [.data, .data, .data], laidTests := true, laidLooks := .later }
def FnKindsUptoCardSaid : Prop := Claim7.holds Tryd.pinned (.plain (OpenSpec.upto fnKindsSpec)) fnKindsUptoCard
end Rows
end Go.Proofs.YtaflokfgbmlmaadDoor
