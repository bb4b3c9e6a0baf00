/-
  DERIVED. GIVEN WITH THE SEED: THE CARDS: each row of YtbogggnnmbjlfabDoorRows.lean that lists a variable, with what it lists TIED to the program's text (the seventh form; the later family's looks); each row that meets fmt, with fmt's text TOLD by the authors' own Lean function (tested against real Go, not proved from fmt's source: count such statements apart). THE CARD IS WHAT COUNTS. Prove the row's statement (the work); the ties are given (YtbogggnnmbjlfabDoorTie.lean); close each card by the builder's one call (the guide's Derived/Test/ToyasCard.lean, 'card_holds'). Laid BY PROGRAM, IN A SANDBOX (cutbox-door.mjs). By AI agents, Wed Nov 11 2026. No macro, syntax, notation, axiom, sorry.
-/
import Derived.Test.YtbogggnnmbjlfabDoorRows
import GoSem.ClaimSeven
namespace Go.Proofs.YtbogggnnmbjlfabDoor
namespace Rows

/-- THE TIED CARD OF 'codicillaw03.BinLists'. -/
def binListsCard : Claim7 := { stood := { row := binListsRow, standIns := [], harness := (true, "15f181c14731eb41fabc887df3e52ce0a3238bd41741b1099f6d0b250802b89a"), looks := false }, kinds := [], alts := [], laidByText := true, laidKinds := [.data, .pinned], laidTests := true, laidLooks := .later }
def BinListsCardSaid : Prop := Claim7.holds Tryd.pinned (.plain (OpenSpec.ofChange binListsSpec)) binListsCard

/-- THE TIED CARD OF 'codicillaw03.BinOrder'. -/
def binOrderCard : Claim7 := { stood := { row := binOrderRow, standIns := [], harness := (true, "15f181c14731eb41fabc887df3e52ce0a3238bd41741b1099f6d0b250802b89a"), looks := false }, kinds := [], alts := [], laidByText := true, laidKinds := [.data, .pinned], laidTests := true, laidLooks := .later }
def BinOrderCardSaid : Prop := Claim7.holds Tryd.pinned (.plain (OpenSpec.ofChange binOrderSpec)) binOrderCard

/-- THE TIED CARD OF 'codicillaw03.BinSizes'. -/
def binSizesCard : Claim7 := { stood := { row := binSizesRow, standIns := [], harness := (true, "15f181c14731eb41fabc887df3e52ce0a3238bd41741b1099f6d0b250802b89a"), looks := false }, kinds := [], alts := [], laidByText := true, laidKinds := [.data, .pinned], laidTests := true, laidLooks := .later }
def BinSizesCardSaid : Prop := Claim7.holds Tryd.pinned (.plain (OpenSpec.ofChange binSizesSpec)) binSizesCard

/-- THE SECOND FORM's CARD OF 'codicillaw03.BinLists'. -/
def binListsUptoCard : Claim7 := { stood := { row := binListsUptoRow, standIns := [], harness := (true, "15f181c14731eb41fabc887df3e52ce0a3238bd41741b1099f6d0b250802b89a"), looks := false }, kinds := [], alts := [], laidByText := true, laidKinds := [.data, .pinned], laidTests := true, laidLooks := .later }
def BinListsUptoCardSaid : Prop := Claim7.holds Tryd.pinned (.plain (OpenSpec.upto binListsSpec)) binListsUptoCard

/-- THE SECOND FORM's CARD OF 'codicillaw03.BinOrder'. -/
def binOrderUptoCard : Claim7 := { stood := { row := binOrderUptoRow, standIns := [], harness := (true, "15f181c14731eb41fabc887df3e52ce0a3238bd41741b1099f6d0b250802b89a"), looks := false }, kinds := [], alts := [], laidByText := true, laidKinds := [.data, .pinned], laidTests := true, laidLooks := .later }
def BinOrderUptoCardSaid : Prop := Claim7.holds Tryd.pinned (.plain (OpenSpec.upto binOrderSpec)) binOrderUptoCard

/-- THE SECOND FORM's CARD OF 'codicillaw03.BinSizes'. -/
def binSizesUptoCard : Claim7 := { stood := { row := binSizesUptoRow, standIns := [], harness := (true, "15f181c14731eb41fabc887df3e52ce0a3238bd41741b1099f6d0b250802b89a"), looks := false }, kinds := [], alts := [], laidByText := true, laidKinds := [.data, .pinned], laidTests := true, laidLooks := .later }
def BinSizesUptoCardSaid : Prop := Claim7.holds Tryd.pinned (.plain (OpenSpec.upto binSizesSpec)) binSizesUptoCard
end Rows
end Go.Proofs.YtbogggnnmbjlfabDoor
