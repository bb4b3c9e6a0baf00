/-
  DERIVED. GIVEN WITH THE SEED: THE CARDS: each row of YtkigenldiinioabGreatDoorRows.lean that lists a variable, with what it lists TIED to the program's text (the seventh form; the later family's looks); each row that meets fmt, with fmt's text TOLD by the authors' own Lean function (tested against real Go, not proved from fmt's source: count such statements apart). THE CARD IS WHAT COUNTS. Prove the row's statement (the work); the ties are given (YtkigenldiinioabGreatDoorTie.lean); close each card by the builder's one call (the guide's Derived/Test/ToyasCard.lean, 'card_holds'). Laid BY PROGRAM, IN A SANDBOX (cutbox-door.mjs). By AI agents, Wed Nov 11 2026. No macro, syntax, notation, axiom, sorry.
-/
import Derived.Test.YtkigenldiinioabGreatDoorRows
import GoSem.ClaimSeven
namespace Go.Proofs.YtkigenldiinioabGreatDoor
namespace Rows

/-- THE TIED CARD OF 'codicillaw07.BtreeSides'. -/
def btreeSidesCard : Claim7 := { stood := { row := btreeSidesRow, standIns := [], harness := (true, "2f679c9cce45a5f12d18cb694e08a2c8ee2df2b095bc5f0b703b6e6cdb835ce3"), looks := true }, kinds := [], alts := [], laidByText := true, laidKinds := [.data, .data, .data, .data, .sentinel, .sentinel, .pinned], laidTests := true, laidLooks := .later }
def BtreeSidesCardSaid : Prop := Claim7.holds Tryz.pinned (.plain (OpenSpec.ofChange btreeSidesSpec)) btreeSidesCard

/-- THE TIED CARD OF 'codicillaw07.BtreeRising'. -/
def btreeRisingCard : Claim7 := { stood := { row := btreeRisingRow, standIns := [], harness := (true, "2f679c9cce45a5f12d18cb694e08a2c8ee2df2b095bc5f0b703b6e6cdb835ce3"), looks := true }, kinds := [], alts := [], laidByText := true, laidKinds := [.data, .data, .data, .data, .sentinel, .sentinel, .pinned], laidTests := true, laidLooks := .later }
def BtreeRisingCardSaid : Prop := Claim7.holds Tryz.pinned (.plain (OpenSpec.ofChange btreeRisingSpec)) btreeRisingCard

/-- THE SECOND FORM's CARD OF 'codicillaw07.BtreeSides'. -/
def btreeSidesUptoCard : Claim7 := { stood := { row := btreeSidesUptoRow, standIns := [], harness := (true, "2f679c9cce45a5f12d18cb694e08a2c8ee2df2b095bc5f0b703b6e6cdb835ce3"), looks := true }, kinds := [], alts := [], laidByText := true, laidKinds := [.data, .data, .data, .data, .sentinel, .sentinel, .pinned], laidTests := true, laidLooks := .later }
def BtreeSidesUptoCardSaid : Prop := Claim7.holds Tryz.pinned (.plain (OpenSpec.upto btreeSidesSpec)) btreeSidesUptoCard

/-- THE SECOND FORM's CARD OF 'codicillaw07.BtreeRising'. -/
def btreeRisingUptoCard : Claim7 := { stood := { row := btreeRisingUptoRow, standIns := [], harness := (true, "2f679c9cce45a5f12d18cb694e08a2c8ee2df2b095bc5f0b703b6e6cdb835ce3"), looks := true }, kinds := [], alts := [], laidByText := true, laidKinds := [.data, .data, .data, .data, .sentinel, .sentinel, .pinned], laidTests := true, laidLooks := .later }
def BtreeRisingUptoCardSaid : Prop := Claim7.holds Tryz.pinned (.plain (OpenSpec.upto btreeRisingSpec)) btreeRisingUptoCard
end Rows
end Go.Proofs.YtkigenldiinioabGreatDoor
