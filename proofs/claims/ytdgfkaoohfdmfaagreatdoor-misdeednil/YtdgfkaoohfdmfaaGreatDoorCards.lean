/-
  DERIVED. GIVEN WITH THE SEED: THE CARDS: each row of YtdgfkaoohfdmfaaGreatDoorRows.lean that lists a variable, with what it lists TIED to the program's text (the seventh form; the later family's looks); each row that meets fmt, with fmt's text TOLD by the authors' own Lean function (tested against real Go, not proved from fmt's source: count such statements apart). THE CARD IS WHAT COUNTS. Prove the row's statement (the work); the ties are given (YtdgfkaoohfdmfaaGreatDoorTie.lean); close each card by the builder's one call (the guide's Derived/Test/ToyasCard.lean, 'card_holds'). Laid BY PROGRAM, IN A SANDBOX (cutbox-door.mjs). By AI agents, Wed Nov 11 2026. No macro, syntax, notation, axiom, sorry.
-/
import Derived.Test.YtdgfkaoohfdmfaaGreatDoorRows
import GoSem.ClaimSeven
namespace Go.Proofs.YtdgfkaoohfdmfaaGreatDoor
namespace Rows

/-- THE TIED CARD OF 'assentlaw11.MisdeedNil'. -/
def misdeedNilCard : Claim7 := { stood := { row := misdeedNilRow, standIns := [], harness := (true, "56c387e66e78536cb2f35798325b23123402b4c2397e320e080f13fd0b987dfc"), looks := false }, kinds := [], alts := [], laidByText := true, laidKinds := [.data], laidTests := true, laidLooks := .later }
def MisdeedNilCardSaid : Prop := Claim7.holds Tryz.pinned (.plain (OpenSpec.ofChange misdeedNilSpec)) misdeedNilCard

/-- THE TIED CARD OF 'assentlaw11.MisdeedVerifies'. -/
def misdeedVerifiesCard : Claim7 := { stood := { row := misdeedVerifiesRow, standIns := [], harness := (true, "56c387e66e78536cb2f35798325b23123402b4c2397e320e080f13fd0b987dfc"), looks := false }, kinds := [], alts := [], laidByText := true, laidKinds := [.data, .data], laidTests := true, laidLooks := .later }
def MisdeedVerifiesCardSaid : Prop := Claim7.holds Tryz.pinned (.plain (OpenSpec.ofChange misdeedVerifiesSpec)) misdeedVerifiesCard

/-- THE TIED CARD OF 'assentlaw11.MisdeedPicks'. -/
def misdeedPicksCard : Claim7 := { stood := { row := misdeedPicksRow, standIns := [], harness := (true, "56c387e66e78536cb2f35798325b23123402b4c2397e320e080f13fd0b987dfc"), looks := false }, kinds := [], alts := [], laidByText := true, laidKinds := [.data, .data], laidTests := true, laidLooks := .later }
def MisdeedPicksCardSaid : Prop := Claim7.holds Tryz.pinned (.plain (OpenSpec.ofChange misdeedPicksSpec)) misdeedPicksCard

/-- THE TIED CARD OF 'assentlaw11.MisdeedPools'. -/
def misdeedPoolsCard : Claim7 := { stood := { row := misdeedPoolsRow, standIns := [], harness := (true, "56c387e66e78536cb2f35798325b23123402b4c2397e320e080f13fd0b987dfc"), looks := false }, kinds := [], alts := [], laidByText := true, laidKinds := [.data, .data], laidTests := true, laidLooks := .later }
def MisdeedPoolsCardSaid : Prop := Claim7.holds Tryz.pinned (.plain (OpenSpec.ofChange misdeedPoolsSpec)) misdeedPoolsCard

/-- THE SECOND FORM's CARD OF 'assentlaw11.MisdeedNil'. -/
def misdeedNilUptoCard : Claim7 := { stood := { row := misdeedNilUptoRow, standIns := [], harness := (true, "56c387e66e78536cb2f35798325b23123402b4c2397e320e080f13fd0b987dfc"), looks := false }, kinds := [], alts := [], laidByText := true, laidKinds := [.data], laidTests := true, laidLooks := .later }
def MisdeedNilUptoCardSaid : Prop := Claim7.holds Tryz.pinned (.plain (OpenSpec.upto misdeedNilSpec)) misdeedNilUptoCard

/-- THE SECOND FORM's CARD OF 'assentlaw11.MisdeedVerifies'. -/
def misdeedVerifiesUptoCard : Claim7 := { stood := { row := misdeedVerifiesUptoRow, standIns := [], harness := (true, "56c387e66e78536cb2f35798325b23123402b4c2397e320e080f13fd0b987dfc"), looks := false }, kinds := [], alts := [], laidByText := true, laidKinds := [.data, .data], laidTests := true, laidLooks := .later }
def MisdeedVerifiesUptoCardSaid : Prop := Claim7.holds Tryz.pinned (.plain (OpenSpec.upto misdeedVerifiesSpec)) misdeedVerifiesUptoCard

/-- THE SECOND FORM's CARD OF 'assentlaw11.MisdeedPicks'. -/
def misdeedPicksUptoCard : Claim7 := { stood := { row := misdeedPicksUptoRow, standIns := [], harness := (true, "56c387e66e78536cb2f35798325b23123402b4c2397e320e080f13fd0b987dfc"), looks := false }, kinds := [], alts := [], laidByText := true, laidKinds := [.data, .data], laidTests := true, laidLooks := .later }
def MisdeedPicksUptoCardSaid : Prop := Claim7.holds Tryz.pinned (.plain (OpenSpec.upto misdeedPicksSpec)) misdeedPicksUptoCard

/-- THE SECOND FORM's CARD OF 'assentlaw11.MisdeedPools'. -/
def misdeedPoolsUptoCard : Claim7 := { stood := { row := misdeedPoolsUptoRow, standIns := [], harness := (true, "56c387e66e78536cb2f35798325b23123402b4c2397e320e080f13fd0b987dfc"), looks := false }, kinds := [], alts := [], laidByText := true, laidKinds := [.data, .data], laidTests := true, laidLooks := .later }
def MisdeedPoolsUptoCardSaid : Prop := Claim7.holds Tryz.pinned (.plain (OpenSpec.upto misdeedPoolsSpec)) misdeedPoolsUptoCard
end Rows
end Go.Proofs.YtdgfkaoohfdmfaaGreatDoor
