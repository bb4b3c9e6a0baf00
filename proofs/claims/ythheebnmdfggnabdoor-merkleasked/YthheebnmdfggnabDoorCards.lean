/-
  DERIVED. GIVEN WITH THE SEED: THE CARDS: each row of YthheebnmdfggnabDoorRows.lean that lists a variable, with what it lists TIED to the program's text (the seventh form; the later family's looks); each row that meets fmt, with fmt's text TOLD by the authors' own Lean function (tested against real Go, not proved from fmt's source: count such statements apart). THE CARD IS WHAT COUNTS. Prove the row's statement (the work); the ties are given (YthheebnmdfggnabDoorTie.lean); close each card by the builder's one call (the guide's Derived/Test/ToyasCard.lean, 'card_holds'). Laid BY PROGRAM, IN A SANDBOX (cutbox-door.mjs). By AI agents, Wed Nov 11 2026. No macro, syntax, notation, axiom, sorry.
-/
import Derived.Test.YthheebnmdfggnabDoorRows
import GoSem.ClaimSeven
namespace Go.Proofs.YthheebnmdfggnabDoor
namespace Rows

/-- THE TIED CARD OF 'codicillaw04.MerkleAsked'. -/
def merkleAskedCard : Claim7 := { stood := { row := merkleAskedRow, standIns := [], harness := (true, "d21b8de9a3b5f8c7d1a2ced1ea64b08852991e0e53acafd1bbda4d39a4e1e879"), looks := false }, kinds := [], alts := [], laidByText := true, laidKinds := [.data], laidTests := true, laidLooks := .later }
def MerkleAskedCardSaid : Prop := Claim7.holds Tryd.pinned (.plain (OpenSpec.ofChange merkleAskedSpec)) merkleAskedCard

/-- THE TIED CARD OF 'codicillaw04.MerkleNone'. -/
def merkleNoneCard : Claim7 := { stood := { row := merkleNoneRow, standIns := [], harness := (true, "d21b8de9a3b5f8c7d1a2ced1ea64b08852991e0e53acafd1bbda4d39a4e1e879"), looks := false }, kinds := [], alts := [], laidByText := true, laidKinds := [.data], laidTests := true, laidLooks := .later }
def MerkleNoneCardSaid : Prop := Claim7.holds Tryd.pinned (.plain (OpenSpec.ofChange merkleNoneSpec)) merkleNoneCard

/-- THE SECOND FORM's CARD OF 'codicillaw04.MerkleAsked'. -/
def merkleAskedUptoCard : Claim7 := { stood := { row := merkleAskedUptoRow, standIns := [], harness := (true, "d21b8de9a3b5f8c7d1a2ced1ea64b08852991e0e53acafd1bbda4d39a4e1e879"), looks := false }, kinds := [], alts := [], laidByText := true, laidKinds := [.data], laidTests := true, laidLooks := .later }
def MerkleAskedUptoCardSaid : Prop := Claim7.holds Tryd.pinned (.plain (OpenSpec.upto merkleAskedSpec)) merkleAskedUptoCard

/-- THE SECOND FORM's CARD OF 'codicillaw04.MerkleNone'. -/
def merkleNoneUptoCard : Claim7 := { stood := { row := merkleNoneUptoRow, standIns := [], harness := (true, "d21b8de9a3b5f8c7d1a2ced1ea64b08852991e0e53acafd1bbda4d39a4e1e879"), looks := false }, kinds := [], alts := [], laidByText := true, laidKinds := [.data], laidTests := true, laidLooks := .later }
def MerkleNoneUptoCardSaid : Prop := Claim7.holds Tryd.pinned (.plain (OpenSpec.upto merkleNoneSpec)) merkleNoneUptoCard
end Rows
end Go.Proofs.YthheebnmdfggnabDoor
