/-
  DERIVED. GIVEN WITH THE SEED: THE CARDS: each row of YthheebnmdfggnaaGreatDoorRows.lean that lists a variable, with what it lists TIED to the program's text (the seventh form; the later family's looks); each row that meets fmt, with fmt's text TOLD by the authors' own Lean function (tested against real Go, not proved from fmt's source: count such statements apart). THE CARD IS WHAT COUNTS. Prove the row's statement (the work); the ties are given (YthheebnmdfggnaaGreatDoorTie.lean); close each card by the builder's one call (the guide's Derived/Test/ToyasCard.lean, 'card_holds'). Laid BY PROGRAM, IN A SANDBOX (cutbox-door.mjs). By AI agents, Wed Nov 11 2026. No macro, syntax, notation, axiom, sorry.
-/
import Derived.Test.YthheebnmdfggnaaGreatDoorRows
import GoSem.ClaimSeven
namespace Go.Proofs.YthheebnmdfggnaaGreatDoor
namespace Rows

/-- THE TIED CARD OF 'codicillaw04.MerkleTrees'. -/
def merkleTreesCard : Claim7 := { stood := { row := merkleTreesRow, standIns := [], harness := (true, "dbd16507bbbf35460f3fc0937f4899cde298df45c3d6caa7fa59b57cf2e8dce0"), looks := false }, kinds := [], alts := [], laidByText := true, laidKinds := [.data], laidTests := true, laidLooks := .later }
def MerkleTreesCardSaid : Prop := Claim7.holds Tryz.pinned (.plain (OpenSpec.ofChange merkleTreesSpec)) merkleTreesCard

/-- THE SECOND FORM's CARD OF 'codicillaw04.MerkleTrees'. -/
def merkleTreesUptoCard : Claim7 := { stood := { row := merkleTreesUptoRow, standIns := [], harness := (true, "dbd16507bbbf35460f3fc0937f4899cde298df45c3d6caa7fa59b57cf2e8dce0"), looks := false }, kinds := [], alts := [], laidByText := true, laidKinds := [.data], laidTests := true, laidLooks := .later }
def MerkleTreesUptoCardSaid : Prop := Claim7.holds Tryz.pinned (.plain (OpenSpec.upto merkleTreesSpec)) merkleTreesUptoCard
end Rows
end Go.Proofs.YthheebnmdfggnaaGreatDoor
