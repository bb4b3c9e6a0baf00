/-
  DERIVED. GIVEN WITH THE SEED: THE CARDS: each row of YtkigenldiinioaaGreatDoorRows.lean that lists a variable, with what it lists TIED to the program's text (the seventh form; the later family's looks); each row that meets fmt, with fmt's text TOLD by the authors' own Lean function (tested against real Go, not proved from fmt's source: count such statements apart). THE CARD IS WHAT COUNTS. Prove the row's statement (the work); the ties are given (YtkigenldiinioaaGreatDoorTie.lean); close each card by the builder's one call (the guide's Derived/Test/ToyasCard.lean, 'card_holds'). Laid BY PROGRAM, IN A SANDBOX (cutbox-door.mjs). By AI agents, Wed Nov 11 2026. No macro, syntax, notation, axiom, sorry.
-/
import Derived.Test.YtkigenldiinioaaGreatDoorRows
import GoSem.ClaimSeven
namespace Go.Proofs.YtkigenldiinioaaGreatDoor
namespace Rows

/-- THE TIED CARD OF 'codicillaw07.BtreeDoes'. -/
def btreeDoesCard : Claim7 := { stood := { row := btreeDoesRow, standIns := [], harness := (true, "c00984094dd4490ee816fb2d6f3ccef2a2338eaf98b472146082047b9985fbae"), looks := true }, kinds := [], alts := [], laidByText := true, laidKinds := [.data, .data, .data, .data, .sentinel, .sentinel, .pinned], laidTests := true, laidLooks := .later }
def BtreeDoesCardSaid : Prop := Claim7.holds Tryz.pinned (.plain (OpenSpec.ofChange btreeDoesSpec)) btreeDoesCard

/-- THE TIED CARD OF 'codicillaw07.BtreeShallow'. -/
def btreeShallowCard : Claim7 := { stood := { row := btreeShallowRow, standIns := [], harness := (true, "c00984094dd4490ee816fb2d6f3ccef2a2338eaf98b472146082047b9985fbae"), looks := true }, kinds := [], alts := [], laidByText := true, laidKinds := [.data, .data, .data, .data, .sentinel, .sentinel, .pinned], laidTests := true, laidLooks := .later }
def BtreeShallowCardSaid : Prop := Claim7.holds Tryz.pinned (.plain (OpenSpec.ofChange btreeShallowSpec)) btreeShallowCard

/-- THE TIED CARD OF 'codicillaw07.BtreeParts'. -/
def btreePartsCard : Claim7 := { stood := { row := btreePartsRow, standIns := [], harness := (true, "c00984094dd4490ee816fb2d6f3ccef2a2338eaf98b472146082047b9985fbae"), looks := true }, kinds := [], alts := [], laidByText := true, laidKinds := [.data, .data, .data, .data, .sentinel, .sentinel, .pinned], laidTests := true, laidLooks := .later }
def BtreePartsCardSaid : Prop := Claim7.holds Tryz.pinned (.plain (OpenSpec.ofChange btreePartsSpec)) btreePartsCard

/-- THE TIED CARD OF 'codicillaw07.BtreeAlike'. -/
def btreeAlikeCard : Claim7 := { stood := { row := btreeAlikeRow, standIns := [], harness := (true, "c00984094dd4490ee816fb2d6f3ccef2a2338eaf98b472146082047b9985fbae"), looks := true }, kinds := [], alts := [], laidByText := true, laidKinds := [.data, .data, .data, .data, .sentinel, .sentinel, .pinned], laidTests := true, laidLooks := .later }
def BtreeAlikeCardSaid : Prop := Claim7.holds Tryz.pinned (.plain (OpenSpec.ofChange btreeAlikeSpec)) btreeAlikeCard

/-- THE TIED CARD OF 'codicillaw07.BtreeNone'. -/
def btreeNoneCard : Claim7 := { stood := { row := btreeNoneRow, standIns := [], harness := (true, "c00984094dd4490ee816fb2d6f3ccef2a2338eaf98b472146082047b9985fbae"), looks := true }, kinds := [], alts := [], laidByText := true, laidKinds := [.data, .data, .data, .data, .sentinel, .sentinel, .pinned], laidTests := true, laidLooks := .later }
def BtreeNoneCardSaid : Prop := Claim7.holds Tryz.pinned (.plain (OpenSpec.ofChange btreeNoneSpec)) btreeNoneCard

/-- THE TIED CARD OF 'codicillaw07.BtreeOwn'. -/
def btreeOwnCard : Claim7 := { stood := { row := btreeOwnRow, standIns := [], harness := (true, "c00984094dd4490ee816fb2d6f3ccef2a2338eaf98b472146082047b9985fbae"), looks := true }, kinds := [], alts := [], laidByText := true, laidKinds := [.data, .data, .data, .data, .sentinel, .sentinel, .pinned], laidTests := true, laidLooks := .later }
def BtreeOwnCardSaid : Prop := Claim7.holds Tryz.pinned (.plain (OpenSpec.ofChange btreeOwnSpec)) btreeOwnCard

/-- THE SECOND FORM's CARD OF 'codicillaw07.BtreeDoes'. -/
def btreeDoesUptoCard : Claim7 := { stood := { row := btreeDoesUptoRow, standIns := [], harness := (true, "c00984094dd4490ee816fb2d6f3ccef2a2338eaf98b472146082047b9985fbae"), looks := true }, kinds := [], alts := [], laidByText := true, laidKinds := [.data, .data, .data, .data, .sentinel, .sentinel, .pinned], laidTests := true, laidLooks := .later }
def BtreeDoesUptoCardSaid : Prop := Claim7.holds Tryz.pinned (.plain (OpenSpec.upto btreeDoesSpec)) btreeDoesUptoCard

/-- THE SECOND FORM's CARD OF 'codicillaw07.BtreeShallow'. -/
def btreeShallowUptoCard : Claim7 := { stood := { row := btreeShallowUptoRow, standIns := [], harness := (true, "c00984094dd4490ee816fb2d6f3ccef2a2338eaf98b472146082047b9985fbae"), looks := true }, kinds := [], alts := [], laidByText := true, laidKinds := [.data, .data, .data, .data, .sentinel, .sentinel, .pinned], laidTests := true, laidLooks := .later }
def BtreeShallowUptoCardSaid : Prop := Claim7.holds Tryz.pinned (.plain (OpenSpec.upto btreeShallowSpec)) btreeShallowUptoCard

/-- THE SECOND FORM's CARD OF 'codicillaw07.BtreeParts'. -/
def btreePartsUptoCard : Claim7 := { stood := { row := btreePartsUptoRow, standIns := [], harness := (true, "c00984094dd4490ee816fb2d6f3ccef2a2338eaf98b472146082047b9985fbae"), looks := true }, kinds := [], alts := [], laidByText := true, laidKinds := [.data, .data, .data, .data, .sentinel, .sentinel, .pinned], laidTests := true, laidLooks := .later }
def BtreePartsUptoCardSaid : Prop := Claim7.holds Tryz.pinned (.plain (OpenSpec.upto btreePartsSpec)) btreePartsUptoCard

/-- THE SECOND FORM's CARD OF 'codicillaw07.BtreeAlike'. -/
def btreeAlikeUptoCard : Claim7 := { stood := { row := btreeAlikeUptoRow, standIns := [], harness := (true, "c00984094dd4490ee816fb2d6f3ccef2a2338eaf98b472146082047b9985fbae"), looks := true }, kinds := [], alts := [], laidByText := true, laidKinds := [.data, .data, .data, .data, .sentinel, .sentinel, .pinned], laidTests := true, laidLooks := .later }
def BtreeAlikeUptoCardSaid : Prop := Claim7.holds Tryz.pinned (.plain (OpenSpec.upto btreeAlikeSpec)) btreeAlikeUptoCard

/-- THE SECOND FORM's CARD OF 'codicillaw07.BtreeNone'. -/
def btreeNoneUptoCard : Claim7 := { stood := { row := btreeNoneUptoRow, standIns := [], harness := (true, "c00984094dd4490ee816fb2d6f3ccef2a2338eaf98b472146082047b9985fbae"), looks := true }, kinds := [], alts := [], laidByText := true, laidKinds := [.data, .data, .data, .data, .sentinel, .sentinel, .pinned], laidTests := true, laidLooks := .later }
def BtreeNoneUptoCardSaid : Prop := Claim7.holds Tryz.pinned (.plain (OpenSpec.upto btreeNoneSpec)) btreeNoneUptoCard

/-- THE SECOND FORM's CARD OF 'codicillaw07.BtreeOwn'. -/
def btreeOwnUptoCard : Claim7 := { stood := { row := btreeOwnUptoRow, standIns := [], harness := (true, "c00984094dd4490ee816fb2d6f3ccef2a2338eaf98b472146082047b9985fbae"), looks := true }, kinds := [], alts := [], laidByText := true, laidKinds := [.data, .data, .data, .data, .sentinel, .sentinel, .pinned], laidTests := true, laidLooks := .later }
def BtreeOwnUptoCardSaid : Prop := Claim7.holds Tryz.pinned (.plain (OpenSpec.upto btreeOwnSpec)) btreeOwnUptoCard
end Rows
end Go.Proofs.YtkigenldiinioaaGreatDoor
