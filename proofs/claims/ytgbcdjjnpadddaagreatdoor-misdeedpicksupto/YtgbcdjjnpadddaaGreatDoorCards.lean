/-
  DERIVED. GIVEN WITH THE SEED: THE CARDS: each row of YtgbcdjjnpadddaaGreatDoorRows.lean that lists a variable, with what it lists TIED to the program's text (the seventh form; the later family's looks); each row that meets fmt, with fmt's text TOLD by the authors' own Lean function (tested against real Go, not proved from fmt's source: count such statements apart). THE CARD IS WHAT COUNTS. Prove the row's statement (the work); the ties are given (YtgbcdjjnpadddaaGreatDoorTie.lean); close each card by the builder's one call (the guide's Derived/Test/ToyasCard.lean, 'card_holds'). Laid BY PROGRAM, IN A SANDBOX (cutbox-door.mjs). By AI agents, Wed Nov 11 2026. No macro, syntax, notation, axiom, sorry.
-/
import Derived.Test.YtgbcdjjnpadddaaGreatDoorRows
import GoSem.ClaimSeven
namespace Go.Proofs.YtgbcdjjnpadddaaGreatDoor
namespace Rows

/-- THE TIED CARD OF 'assentlaw11.MisdeedPicks'. -/
def misdeedPicksCard : Claim7 := { stood := { row := misdeedPicksRow, standIns := [], harness := (true, "f4960fce6e319433d9eb5c4439413632bba8bea849d10c89ac4316aaecd85933"), looks := false }, kinds := [], alts := [], laidByText := true, laidKinds := [.data, .data], laidTests := true, laidLooks := .later }
def MisdeedPicksCardSaid : Prop := Claim7.holds Tryz.pinned (.plain (OpenSpec.ofChange misdeedPicksSpec)) misdeedPicksCard

/-- THE TIED CARD OF 'assentlaw11.MisdeedPools'. -/
def misdeedPoolsCard : Claim7 := { stood := { row := misdeedPoolsRow, standIns := [], harness := (true, "f4960fce6e319433d9eb5c4439413632bba8bea849d10c89ac4316aaecd85933"), looks := false }, kinds := [], alts := [], laidByText := true, laidKinds := [.data, .data], laidTests := true, laidLooks := .later }
def MisdeedPoolsCardSaid : Prop := Claim7.holds Tryz.pinned (.plain (OpenSpec.ofChange misdeedPoolsSpec)) misdeedPoolsCard

/-- THE SECOND FORM's CARD OF 'assentlaw11.MisdeedPicks'. -/
def misdeedPicksUptoCard : Claim7 := { stood := { row := misdeedPicksUptoRow, standIns := [], harness := (true, "f4960fce6e319433d9eb5c4439413632bba8bea849d10c89ac4316aaecd85933"), looks := false }, kinds := [], alts := [], laidByText := true, laidKinds := [.data, .data], laidTests := true, laidLooks := .later }
def MisdeedPicksUptoCardSaid : Prop := Claim7.holds Tryz.pinned (.plain (OpenSpec.upto misdeedPicksSpec)) misdeedPicksUptoCard

/-- THE SECOND FORM's CARD OF 'assentlaw11.MisdeedPools'. -/
def misdeedPoolsUptoCard : Claim7 := { stood := { row := misdeedPoolsUptoRow, standIns := [], harness := (true, "f4960fce6e319433d9eb5c4439413632bba8bea849d10c89ac4316aaecd85933"), looks := false }, kinds := [], alts := [], laidByText := true, laidKinds := [.data, .data], laidTests := true, laidLooks := .later }
def MisdeedPoolsUptoCardSaid : Prop := Claim7.holds Tryz.pinned (.plain (OpenSpec.upto misdeedPoolsSpec)) misdeedPoolsUptoCard
end Rows
end Go.Proofs.YtgbcdjjnpadddaaGreatDoor
