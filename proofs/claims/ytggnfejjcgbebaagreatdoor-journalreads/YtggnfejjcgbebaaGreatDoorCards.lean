/-
  DERIVED. GIVEN WITH THE SEED: THE CARDS: each row of YtggnfejjcgbebaaGreatDoorRows.lean that lists a variable, with what it lists TIED to the program's text (the seventh form; the later family's looks); each row that meets fmt, with fmt's text TOLD by the authors' own Lean function (tested against real Go, not proved from fmt's source: count such statements apart). THE CARD IS WHAT COUNTS. Prove the row's statement (the work); the ties are given (YtggnfejjcgbebaaGreatDoorTie.lean); close each card by the builder's one call (the guide's Derived/Test/ToyasCard.lean, 'card_holds'). Laid BY PROGRAM, IN A SANDBOX (cutbox-door.mjs). By AI agents, Wed Nov 11 2026. No macro, syntax, notation, axiom, sorry.
-/
import Derived.Test.YtggnfejjcgbebaaGreatDoorRows
import GoSem.ClaimSeven
namespace Go.Proofs.YtggnfejjcgbebaaGreatDoor
namespace Rows

/-- THE TIED CARD OF 'codicillaw06.JournalBlocks'. -/
def journalBlocksCard : Claim7 := { stood := { row := journalBlocksRow, standIns := [], harness := (true, "6b0b5573fe12dd0831dd2a9ebd55b1c2bc60ac46f941d120b9bddbe47ddb9343"), looks := false }, kinds := [], alts := [], laidByText := true, laidKinds := [.data, .data, .pinned], laidTests := true, laidLooks := .later }
def JournalBlocksCardSaid : Prop := Claim7.holds Tryz.pinned (.plain (OpenSpec.ofChange journalBlocksSpec)) journalBlocksCard

/-- THE TIED CARD OF 'codicillaw06.JournalReads'. -/
def journalReadsCard : Claim7 := { stood := { row := journalReadsRow, standIns := [], harness := (true, "6b0b5573fe12dd0831dd2a9ebd55b1c2bc60ac46f941d120b9bddbe47ddb9343"), looks := false }, kinds := [], alts := [], laidByText := true, laidKinds := [.data, .data, .pinned], laidTests := true, laidLooks := .later }
def JournalReadsCardSaid : Prop := Claim7.holds Tryz.pinned (.plain (OpenSpec.ofChange journalReadsSpec)) journalReadsCard

/-- THE SECOND FORM's CARD OF 'codicillaw06.JournalBlocks'. -/
def journalBlocksUptoCard : Claim7 := { stood := { row := journalBlocksUptoRow, standIns := [], harness := (true, "6b0b5573fe12dd0831dd2a9ebd55b1c2bc60ac46f941d120b9bddbe47ddb9343"), looks := false }, kinds := [], alts := [], laidByText := true, laidKinds := [.data, .data, .pinned], laidTests := true, laidLooks := .later }
def JournalBlocksUptoCardSaid : Prop := Claim7.holds Tryz.pinned (.plain (OpenSpec.upto journalBlocksSpec)) journalBlocksUptoCard

/-- THE SECOND FORM's CARD OF 'codicillaw06.JournalReads'. -/
def journalReadsUptoCard : Claim7 := { stood := { row := journalReadsUptoRow, standIns := [], harness := (true, "6b0b5573fe12dd0831dd2a9ebd55b1c2bc60ac46f941d120b9bddbe47ddb9343"), looks := false }, kinds := [], alts := [], laidByText := true, laidKinds := [.data, .data, .pinned], laidTests := true, laidLooks := .later }
def JournalReadsUptoCardSaid : Prop := Claim7.holds Tryz.pinned (.plain (OpenSpec.upto journalReadsSpec)) journalReadsUptoCard
end Rows
end Go.Proofs.YtggnfejjcgbebaaGreatDoor
