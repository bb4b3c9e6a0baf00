/-
  DERIVED. GIVEN WITH THE SEED: THE CARDS: each row of YthheebnmdfggnaaDoorRows.lean that lists a variable, with what it lists TIED to the program's text (the seventh form; the later family's looks); each row that meets fmt, with fmt's text TOLD by the authors' own Lean function (tested against real Go, not proved from fmt's source: count such statements apart). THE CARD IS WHAT COUNTS. Prove the row's statement (the work); the ties are given (YthheebnmdfggnaaDoorTie.lean); close each card by the builder's one call (the guide's Derived/Test/ToyasCard.lean, 'card_holds'). Laid BY PROGRAM, IN A SANDBOX (cutbox-door.mjs). By AI agents, Wed Nov 11 2026. No macro, syntax, notation, axiom, sorry.
-/
import Derived.Test.YthheebnmdfggnaaDoorRows
import GoSem.ClaimSeven
namespace Go.Proofs.YthheebnmdfggnaaDoor
namespace Rows

/-- THE TIED CARD OF 'codicillaw04.MerklePeaks'. -/
def merklePeaksCard : Claim7 := { stood := { row := merklePeaksRow, standIns := [], harness := (true, "a4dba43edd5ac123058648f2b4285365f64c2b65d57c33279d687cdb0abf0eee"), looks := false }, kinds := [], alts := [], laidByText := true, laidKinds := [.data], laidTests := true, laidLooks := .later }
def MerklePeaksCardSaid : Prop := Claim7.holds Tryd.pinned (.plain (OpenSpec.ofChange merklePeaksSpec)) merklePeaksCard

/-- THE TIED CARD OF 'codicillaw04.MerkleShown'. -/
def merkleShownCard : Claim7 := { stood := { row := merkleShownRow, standIns := [], harness := (true, "a4dba43edd5ac123058648f2b4285365f64c2b65d57c33279d687cdb0abf0eee"), looks := false }, kinds := [], alts := [], laidByText := true, laidKinds := [.data], laidTests := true, laidLooks := .later }
def MerkleShownCardSaid : Prop := Claim7.holds Tryd.pinned (.plain (OpenSpec.ofChange merkleShownSpec)) merkleShownCard

/-- THE TIED CARD OF 'codicillaw04.MerkleGrown'. -/
def merkleGrownCard : Claim7 := { stood := { row := merkleGrownRow, standIns := [], harness := (true, "a4dba43edd5ac123058648f2b4285365f64c2b65d57c33279d687cdb0abf0eee"), looks := false }, kinds := [], alts := [], laidByText := true, laidKinds := [.data], laidTests := true, laidLooks := .later }
def MerkleGrownCardSaid : Prop := Claim7.holds Tryd.pinned (.plain (OpenSpec.ofChange merkleGrownSpec)) merkleGrownCard

/-- THE TIED CARD OF 'codicillaw04.MerkleAdds'. -/
def merkleAddsCard : Claim7 := { stood := { row := merkleAddsRow, standIns := [], harness := (true, "a4dba43edd5ac123058648f2b4285365f64c2b65d57c33279d687cdb0abf0eee"), looks := false }, kinds := [], alts := [], laidByText := true, laidKinds := [.data], laidTests := true, laidLooks := .later }
def MerkleAddsCardSaid : Prop := Claim7.holds Tryd.pinned (.plain (OpenSpec.ofChange merkleAddsSpec)) merkleAddsCard

/-- THE TIED CARD OF 'codicillaw04.MerkleOne'. -/
def merkleOneCard : Claim7 := { stood := { row := merkleOneRow, standIns := [], harness := (true, "a4dba43edd5ac123058648f2b4285365f64c2b65d57c33279d687cdb0abf0eee"), looks := false }, kinds := [], alts := [], laidByText := true, laidKinds := [.data], laidTests := true, laidLooks := .later }
def MerkleOneCardSaid : Prop := Claim7.holds Tryd.pinned (.plain (OpenSpec.ofChange merkleOneSpec)) merkleOneCard

/-- THE SECOND FORM's CARD OF 'codicillaw04.MerklePeaks'. -/
def merklePeaksUptoCard : Claim7 := { stood := { row := merklePeaksUptoRow, standIns := [], harness := (true, "a4dba43edd5ac123058648f2b4285365f64c2b65d57c33279d687cdb0abf0eee"), looks := false }, kinds := [], alts := [], laidByText := true, laidKinds := [.data], laidTests := true, laidLooks := .later }
def MerklePeaksUptoCardSaid : Prop := Claim7.holds Tryd.pinned (.plain (OpenSpec.upto merklePeaksSpec)) merklePeaksUptoCard

/-- THE SECOND FORM's CARD OF 'codicillaw04.MerkleShown'. -/
def merkleShownUptoCard : Claim7 := { stood := { row := merkleShownUptoRow, standIns := [], harness := (true, "a4dba43edd5ac123058648f2b4285365f64c2b65d57c33279d687cdb0abf0eee"), looks := false }, kinds := [], alts := [], laidByText := true, laidKinds := [.data], laidTests := true, laidLooks := .later }
def MerkleShownUptoCardSaid : Prop := Claim7.holds Tryd.pinned (.plain (OpenSpec.upto merkleShownSpec)) merkleShownUptoCard

/-- THE SECOND FORM's CARD OF 'codicillaw04.MerkleGrown'. -/
def merkleGrownUptoCard : Claim7 := { stood := { row := merkleGrownUptoRow, standIns := [], harness := (true, "a4dba43edd5ac123058648f2b4285365f64c2b65d57c33279d687cdb0abf0eee"), looks := false }, kinds := [], alts := [], laidByText := true, laidKinds := [.data], laidTests := true, laidLooks := .later }
def MerkleGrownUptoCardSaid : Prop := Claim7.holds Tryd.pinned (.plain (OpenSpec.upto merkleGrownSpec)) merkleGrownUptoCard

/-- THE SECOND FORM's CARD OF 'codicillaw04.MerkleAdds'. -/
def merkleAddsUptoCard : Claim7 := { stood := { row := merkleAddsUptoRow, standIns := [], harness := (true, "a4dba43edd5ac123058648f2b4285365f64c2b65d57c33279d687cdb0abf0eee"), looks := false }, kinds := [], alts := [], laidByText := true, laidKinds := [.data], laidTests := true, laidLooks := .later }
def MerkleAddsUptoCardSaid : Prop := Claim7.holds Tryd.pinned (.plain (OpenSpec.upto merkleAddsSpec)) merkleAddsUptoCard

/-- THE SECOND FORM's CARD OF 'codicillaw04.MerkleOne'. -/
def merkleOneUptoCard : Claim7 := { stood := { row := merkleOneUptoRow, standIns := [], harness := (true, "a4dba43edd5ac123058648f2b4285365f64c2b65d57c33279d687cdb0abf0eee"), looks := false }, kinds := [], alts := [], laidByText := true, laidKinds := [.data], laidTests := true, laidLooks := .later }
def MerkleOneUptoCardSaid : Prop := Claim7.holds Tryd.pinned (.plain (OpenSpec.upto merkleOneSpec)) merkleOneUptoCard
end Rows
end Go.Proofs.YthheebnmdfggnaaDoor
