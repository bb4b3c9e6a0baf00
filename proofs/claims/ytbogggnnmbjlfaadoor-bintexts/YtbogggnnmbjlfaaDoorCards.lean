/-
  DERIVED. GIVEN WITH THE SEED: THE CARDS: each row of YtbogggnnmbjlfaaDoorRows.lean that lists a variable, with what it lists TIED to the program's text (the seventh form; the later family's looks); each row that meets fmt, with fmt's text TOLD by the authors' own Lean function (tested against real Go, not proved from fmt's source: count such statements apart). THE CARD IS WHAT COUNTS. Prove the row's statement (the work); the ties are given (YtbogggnnmbjlfaaDoorTie.lean); close each card by the builder's one call (the guide's Derived/Test/ToyasCard.lean, 'card_holds'). Laid BY PROGRAM, IN A SANDBOX (cutbox-door.mjs). By AI agents, Wed Nov 11 2026. No macro, syntax, notation, axiom, sorry.
-/
import Derived.Test.YtbogggnnmbjlfaaDoorRows
import GoSem.ClaimSeven
namespace Go.Proofs.YtbogggnnmbjlfaaDoor
namespace Rows

/-- THE TIED CARD OF 'codicillaw02.ValueParts'. -/
def valuePartsCard : Claim7 := { stood := { row := valuePartsRow, standIns := [], harness := (true, "ec89137b4bc29e4248403037613a46e7eaacce81b976e47a799bacc9aebe148b"), looks := true }, kinds := [], alts := [], laidByText := true, laidKinds := [.data, .data, .data, .data, .sentinel, .sentinel, .pinned], laidTests := true, laidLooks := .later }
def ValuePartsCardSaid : Prop := Claim7.holds Tryd.pinned (.plain (OpenSpec.ofChange valuePartsSpec)) valuePartsCard

/-- THE TIED CARD OF 'codicillaw02.ValueOwn'. -/
def valueOwnCard : Claim7 := { stood := { row := valueOwnRow, standIns := [], harness := (true, "ec89137b4bc29e4248403037613a46e7eaacce81b976e47a799bacc9aebe148b"), looks := true }, kinds := [], alts := [], laidByText := true, laidKinds := [.data, .data, .data, .data, .sentinel, .sentinel, .pinned], laidTests := true, laidLooks := .later }
def ValueOwnCardSaid : Prop := Claim7.holds Tryd.pinned (.plain (OpenSpec.ofChange valueOwnSpec)) valueOwnCard

/-- THE TIED CARD OF 'codicillaw03.BinTexts'. -/
def binTextsCard : Claim7 := { stood := { row := binTextsRow, standIns := [], harness := (true, "ec89137b4bc29e4248403037613a46e7eaacce81b976e47a799bacc9aebe148b"), looks := true }, kinds := [], alts := [], laidByText := true, laidKinds := [.data, .pinned], laidTests := true, laidLooks := .later }
def BinTextsCardSaid : Prop := Claim7.holds Tryd.pinned (.plain (OpenSpec.ofChange binTextsSpec)) binTextsCard

/-- THE TIED CARD OF 'codicillaw03.BinNumbers'. -/
def binNumbersCard : Claim7 := { stood := { row := binNumbersRow, standIns := [], harness := (true, "ec89137b4bc29e4248403037613a46e7eaacce81b976e47a799bacc9aebe148b"), looks := true }, kinds := [], alts := [], laidByText := true, laidKinds := [.data, .pinned], laidTests := true, laidLooks := .later }
def BinNumbersCardSaid : Prop := Claim7.holds Tryd.pinned (.plain (OpenSpec.ofChange binNumbersSpec)) binNumbersCard

/-- THE TIED CARD OF 'codicillaw03.BinBack'. -/
def binBackCard : Claim7 := { stood := { row := binBackRow, standIns := [], harness := (true, "ec89137b4bc29e4248403037613a46e7eaacce81b976e47a799bacc9aebe148b"), looks := true }, kinds := [], alts := [], laidByText := true, laidKinds := [.data, .pinned], laidTests := true, laidLooks := .later }
def BinBackCardSaid : Prop := Claim7.holds Tryd.pinned (.plain (OpenSpec.ofChange binBackSpec)) binBackCard

/-- THE TIED CARD OF 'codicillaw03.BinAlike'. -/
def binAlikeCard : Claim7 := { stood := { row := binAlikeRow, standIns := [], harness := (true, "ec89137b4bc29e4248403037613a46e7eaacce81b976e47a799bacc9aebe148b"), looks := true }, kinds := [], alts := [], laidByText := true, laidKinds := [.data, .pinned], laidTests := true, laidLooks := .later }
def BinAlikeCardSaid : Prop := Claim7.holds Tryd.pinned (.plain (OpenSpec.ofChange binAlikeSpec)) binAlikeCard

/-- THE SECOND FORM's CARD OF 'codicillaw02.ValueParts'. -/
def valuePartsUptoCard : Claim7 := { stood := { row := valuePartsUptoRow, standIns := [], harness := (true, "ec89137b4bc29e4248403037613a46e7eaacce81b976e47a799bacc9aebe148b"), looks := true }, kinds := [], alts := [], laidByText := true, laidKinds := [.data, .data, .data, .data, .sentinel, .sentinel, .pinned], laidTests := true, laidLooks := .later }
def ValuePartsUptoCardSaid : Prop := Claim7.holds Tryd.pinned (.plain (OpenSpec.upto valuePartsSpec)) valuePartsUptoCard

/-- THE SECOND FORM's CARD OF 'codicillaw02.ValueOwn'. -/
def valueOwnUptoCard : Claim7 := { stood := { row := valueOwnUptoRow, standIns := [], harness := (true, "ec89137b4bc29e4248403037613a46e7eaacce81b976e47a799bacc9aebe148b"), looks := true }, kinds := [], alts := [], laidByText := true, laidKinds := [.data, .data, .data, .data, .sentinel, .sentinel, .pinned], laidTests := true, laidLooks := .later }
def ValueOwnUptoCardSaid : Prop := Claim7.holds Tryd.pinned (.plain (OpenSpec.upto valueOwnSpec)) valueOwnUptoCard

/-- THE SECOND FORM's CARD OF 'codicillaw03.BinTexts'. -/
def binTextsUptoCard : Claim7 := { stood := { row := binTextsUptoRow, standIns := [], harness := (true, "ec89137b4bc29e4248403037613a46e7eaacce81b976e47a799bacc9aebe148b"), looks := true }, kinds := [], alts := [], laidByText := true, laidKinds := [.data, .pinned], laidTests := true, laidLooks := .later }
def BinTextsUptoCardSaid : Prop := Claim7.holds Tryd.pinned (.plain (OpenSpec.upto binTextsSpec)) binTextsUptoCard

/-- THE SECOND FORM's CARD OF 'codicillaw03.BinNumbers'. -/
def binNumbersUptoCard : Claim7 := { stood := { row := binNumbersUptoRow, standIns := [], harness := (true, "ec89137b4bc29e4248403037613a46e7eaacce81b976e47a799bacc9aebe148b"), looks := true }, kinds := [], alts := [], laidByText := true, laidKinds := [.data, .pinned], laidTests := true, laidLooks := .later }
def BinNumbersUptoCardSaid : Prop := Claim7.holds Tryd.pinned (.plain (OpenSpec.upto binNumbersSpec)) binNumbersUptoCard

/-- THE SECOND FORM's CARD OF 'codicillaw03.BinBack'. -/
def binBackUptoCard : Claim7 := { stood := { row := binBackUptoRow, standIns := [], harness := (true, "ec89137b4bc29e4248403037613a46e7eaacce81b976e47a799bacc9aebe148b"), looks := true }, kinds := [], alts := [], laidByText := true, laidKinds := [.data, .pinned], laidTests := true, laidLooks := .later }
def BinBackUptoCardSaid : Prop := Claim7.holds Tryd.pinned (.plain (OpenSpec.upto binBackSpec)) binBackUptoCard

/-- THE SECOND FORM's CARD OF 'codicillaw03.BinAlike'. -/
def binAlikeUptoCard : Claim7 := { stood := { row := binAlikeUptoRow, standIns := [], harness := (true, "ec89137b4bc29e4248403037613a46e7eaacce81b976e47a799bacc9aebe148b"), looks := true }, kinds := [], alts := [], laidByText := true, laidKinds := [.data, .pinned], laidTests := true, laidLooks := .later }
def BinAlikeUptoCardSaid : Prop := Claim7.holds Tryd.pinned (.plain (OpenSpec.upto binAlikeSpec)) binAlikeUptoCard
end Rows
end Go.Proofs.YtbogggnnmbjlfaaDoor
