/-
  DERIVED. GIVEN WITH THE SEED: THE CARDS: each row of YtcoaipcgpfpfiaaGreatDoorRows.lean that lists a variable, with what it lists TIED to the program's text (the seventh form; the later family's looks); each row that meets fmt, with fmt's text TOLD by the authors' own Lean function (tested against real Go, not proved from fmt's source: count such statements apart). THE CARD IS WHAT COUNTS. Prove the row's statement (the work); the ties are given (YtcoaipcgpfpfiaaGreatDoorTie.lean); close each card by the builder's one call (the guide's Derived/Test/ToyasCard.lean, 'card_holds'). Laid BY PROGRAM, IN A SANDBOX (cutbox-door.mjs). By AI agents, Wed Nov 11 2026. No macro, syntax, notation, axiom, sorry.
-/
import Derived.Test.YtcoaipcgpfpfiaaGreatDoorRows
import GoSem.ClaimSeven
namespace Go.Proofs.YtcoaipcgpfpfiaaGreatDoor
namespace Rows

/-- THE TIED CARD OF 'codiciltop.TopLeaves'. -/
def topLeavesCard : Claim7 := { stood := { row := topLeavesRow, standIns := [], harness := (true, "9e452c1ea4530018cd41090eed0f3239072f31416db7e356259cac7583309acc"), looks := false }, kinds := [], alts := [], laidByText := true, laidKinds := [.data, .data, .pinned], laidTests := true, laidLooks := .later }
def TopLeavesCardSaid : Prop := Claim7.holds Tryz.pinned (.plain (OpenSpec.ofChange topLeavesSpec)) topLeavesCard

/-- THE SECOND FORM's CARD OF 'codiciltop.TopLeaves'. -/
def topLeavesUptoCard : Claim7 := { stood := { row := topLeavesUptoRow, standIns := [], harness := (true, "9e452c1ea4530018cd41090eed0f3239072f31416db7e356259cac7583309acc"), looks := false }, kinds := [], alts := [], laidByText := true, laidKinds := [.data, .data, .pinned], laidTests := true, laidLooks := .later }
def TopLeavesUptoCardSaid : Prop := Claim7.holds Tryz.pinned (.plain (OpenSpec.upto topLeavesSpec)) topLeavesUptoCard
end Rows
end Go.Proofs.YtcoaipcgpfpfiaaGreatDoor
