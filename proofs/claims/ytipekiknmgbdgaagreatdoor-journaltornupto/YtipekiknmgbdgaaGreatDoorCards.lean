/-
  DERIVED. GIVEN WITH THE SEED: THE CARDS: each row of YtipekiknmgbdgaaGreatDoorRows.lean that lists a variable, with what it lists TIED to the program's text (the seventh form; the later family's looks); each row that meets fmt, with fmt's text TOLD by the authors' own Lean function (tested against real Go, not proved from fmt's source: count such statements apart). THE CARD IS WHAT COUNTS. Prove the row's statement (the work); the ties are given (YtipekiknmgbdgaaGreatDoorTie.lean); close each card by the builder's one call (the guide's Derived/Test/ToyasCard.lean, 'card_holds'). Laid BY PROGRAM, IN A SANDBOX (cutbox-door.mjs). By AI agents, Wed Nov 11 2026. No macro, syntax, notation, axiom, sorry.
-/
import Derived.Test.YtipekiknmgbdgaaGreatDoorRows
import GoSem.ClaimSeven
namespace Go.Proofs.YtipekiknmgbdgaaGreatDoor
namespace Rows

/-- THE TIED CARD OF 'codicillaw06.JournalBack'. -/
def journalBackCard : Claim7 := { stood := { row := journalBackRow, standIns := [], harness := (true, "f87fd4982cdd54375b7ff2b4b9c8503180bdf172c012a7969a81512afd2d1ee0"), looks := false }, kinds := [], alts := [], laidByText := true, laidKinds := [.data, .data, .pinned], laidTests := true, laidLooks := .later }
def JournalBackCardSaid : Prop := Claim7.holds Tryz.pinned (.plain (OpenSpec.ofChange journalBackSpec)) journalBackCard

/-- THE TIED CARD OF 'codicillaw06.JournalTorn'. -/
def journalTornCard : Claim7 := { stood := { row := journalTornRow, standIns := [], harness := (true, "f87fd4982cdd54375b7ff2b4b9c8503180bdf172c012a7969a81512afd2d1ee0"), looks := false }, kinds := [], alts := [], laidByText := true, laidKinds := [.data, .data, .pinned], laidTests := true, laidLooks := .later }
def JournalTornCardSaid : Prop := Claim7.holds Tryz.pinned (.plain (OpenSpec.ofChange journalTornSpec)) journalTornCard

/-- THE TIED CARD OF 'codicillaw06.JournalChained'. -/
def journalChainedCard : Claim7 := { stood := { row := journalChainedRow, standIns := [], harness := (true, "f87fd4982cdd54375b7ff2b4b9c8503180bdf172c012a7969a81512afd2d1ee0"), looks := false }, kinds := [], alts := [], laidByText := true, laidKinds := [.data, .data, .pinned], laidTests := true, laidLooks := .later }
def JournalChainedCardSaid : Prop := Claim7.holds Tryz.pinned (.plain (OpenSpec.ofChange journalChainedSpec)) journalChainedCard

/-- THE TIED CARD OF 'codicillaw06.JournalHeads'. -/
def journalHeadsCard : Claim7 := { stood := { row := journalHeadsRow, standIns := [], harness := (true, "f87fd4982cdd54375b7ff2b4b9c8503180bdf172c012a7969a81512afd2d1ee0"), looks := false }, kinds := [], alts := [], laidByText := true, laidKinds := [.data, .data, .pinned], laidTests := true, laidLooks := .later }
def JournalHeadsCardSaid : Prop := Claim7.holds Tryz.pinned (.plain (OpenSpec.ofChange journalHeadsSpec)) journalHeadsCard

/-- THE TIED CARD OF 'codicillaw06.JournalOwn'. -/
def journalOwnCard : Claim7 := { stood := { row := journalOwnRow, standIns := [], harness := (true, "f87fd4982cdd54375b7ff2b4b9c8503180bdf172c012a7969a81512afd2d1ee0"), looks := false }, kinds := [], alts := [], laidByText := true, laidKinds := [.data, .data, .pinned], laidTests := true, laidLooks := .later }
def JournalOwnCardSaid : Prop := Claim7.holds Tryz.pinned (.plain (OpenSpec.ofChange journalOwnSpec)) journalOwnCard

/-- THE SECOND FORM's CARD OF 'codicillaw06.JournalBack'. -/
def journalBackUptoCard : Claim7 := { stood := { row := journalBackUptoRow, standIns := [], harness := (true, "f87fd4982cdd54375b7ff2b4b9c8503180bdf172c012a7969a81512afd2d1ee0"), looks := false }, kinds := [], alts := [], laidByText := true, laidKinds := [.data, .data, .pinned], laidTests := true, laidLooks := .later }
def JournalBackUptoCardSaid : Prop := Claim7.holds Tryz.pinned (.plain (OpenSpec.upto journalBackSpec)) journalBackUptoCard

/-- THE SECOND FORM's CARD OF 'codicillaw06.JournalTorn'. -/
def journalTornUptoCard : Claim7 := { stood := { row := journalTornUptoRow, standIns := [], harness := (true, "f87fd4982cdd54375b7ff2b4b9c8503180bdf172c012a7969a81512afd2d1ee0"), looks := false }, kinds := [], alts := [], laidByText := true, laidKinds := [.data, .data, .pinned], laidTests := true, laidLooks := .later }
def JournalTornUptoCardSaid : Prop := Claim7.holds Tryz.pinned (.plain (OpenSpec.upto journalTornSpec)) journalTornUptoCard

/-- THE SECOND FORM's CARD OF 'codicillaw06.JournalChained'. -/
def journalChainedUptoCard : Claim7 := { stood := { row := journalChainedUptoRow, standIns := [], harness := (true, "f87fd4982cdd54375b7ff2b4b9c8503180bdf172c012a7969a81512afd2d1ee0"), looks := false }, kinds := [], alts := [], laidByText := true, laidKinds := [.data, .data, .pinned], laidTests := true, laidLooks := .later }
def JournalChainedUptoCardSaid : Prop := Claim7.holds Tryz.pinned (.plain (OpenSpec.upto journalChainedSpec)) journalChainedUptoCard

/-- THE SECOND FORM's CARD OF 'codicillaw06.JournalHeads'. -/
def journalHeadsUptoCard : Claim7 := { stood := { row := journalHeadsUptoRow, standIns := [], harness := (true, "f87fd4982cdd54375b7ff2b4b9c8503180bdf172c012a7969a81512afd2d1ee0"), looks := false }, kinds := [], alts := [], laidByText := true, laidKinds := [.data, .data, .pinned], laidTests := true, laidLooks := .later }
def JournalHeadsUptoCardSaid : Prop := Claim7.holds Tryz.pinned (.plain (OpenSpec.upto journalHeadsSpec)) journalHeadsUptoCard

/-- THE SECOND FORM's CARD OF 'codicillaw06.JournalOwn'. -/
def journalOwnUptoCard : Claim7 := { stood := { row := journalOwnUptoRow, standIns := [], harness := (true, "f87fd4982cdd54375b7ff2b4b9c8503180bdf172c012a7969a81512afd2d1ee0"), looks := false }, kinds := [], alts := [], laidByText := true, laidKinds := [.data, .data, .pinned], laidTests := true, laidLooks := .later }
def JournalOwnUptoCardSaid : Prop := Claim7.holds Tryz.pinned (.plain (OpenSpec.upto journalOwnSpec)) journalOwnUptoCard
end Rows
end Go.Proofs.YtipekiknmgbdgaaGreatDoor
