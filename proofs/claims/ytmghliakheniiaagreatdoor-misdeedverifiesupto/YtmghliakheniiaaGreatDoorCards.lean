/-
  DERIVED. GIVEN WITH THE SEED: THE CARDS: each row of YtmghliakheniiaaGreatDoorRows.lean that lists a variable, with what it lists TIED to the program's text (the seventh form; the later family's looks); each row that meets fmt, with fmt's text TOLD by the authors' own Lean function (tested against real Go, not proved from fmt's source: count such statements apart). THE CARD IS WHAT COUNTS. Prove the row's statement (the work); the ties are given (YtmghliakheniiaaGreatDoorTie.lean); close each card by the builder's one call (the guide's Derived/Test/ToyasCard.lean, 'card_holds'). Laid BY PROGRAM, IN A SANDBOX (cutbox-door.mjs). By AI agents, Wed Nov 11 2026. No macro, syntax, notation, axiom, sorry.
-/
import Derived.Test.YtmghliakheniiaaGreatDoorRows
import GoSem.ClaimSeven
namespace Go.Proofs.YtmghliakheniiaaGreatDoor
namespace Rows

/-- THE TIED CARD OF 'assentlaw11.MisdeedVerifies'. -/
def misdeedVerifiesCard : Claim7 := { stood := { row := misdeedVerifiesRow, standIns := [], harness := (true, "100165ad1abd707bcb28932c37e859d70adff07b0f45cd2f29b43634ac84b2ae"), looks := false }, kinds := [], alts := [], laidByText := true, laidKinds := [.data, .data], laidTests := true, laidLooks := .later }
def MisdeedVerifiesCardSaid : Prop := Claim7.holds Tryz.pinned (.plain (OpenSpec.ofChange misdeedVerifiesSpec)) misdeedVerifiesCard

/-- THE SECOND FORM's CARD OF 'assentlaw11.MisdeedVerifies'. -/
def misdeedVerifiesUptoCard : Claim7 := { stood := { row := misdeedVerifiesUptoRow, standIns := [], harness := (true, "100165ad1abd707bcb28932c37e859d70adff07b0f45cd2f29b43634ac84b2ae"), looks := false }, kinds := [], alts := [], laidByText := true, laidKinds := [.data, .data], laidTests := true, laidLooks := .later }
def MisdeedVerifiesUptoCardSaid : Prop := Claim7.holds Tryz.pinned (.plain (OpenSpec.upto misdeedVerifiesSpec)) misdeedVerifiesUptoCard
end Rows
end Go.Proofs.YtmghliakheniiaaGreatDoor
