/-
  DERIVED. GIVEN WITH THE SEED: THE CARDS: each row of YtaoigopjfelgpaaGreatDoorRows.lean that lists a variable, with what it lists TIED to the program's text (the seventh form; the later family's looks); each row that meets fmt, with fmt's text TOLD by the authors' own Lean function (tested against real Go, not proved from fmt's source: count such statements apart). THE CARD IS WHAT COUNTS. Prove the row's statement (the work); the ties are given (YtaoigopjfelgpaaGreatDoorTie.lean); close each card by the builder's one call (the guide's Derived/Test/ToyasCard.lean, 'card_holds'). Laid BY PROGRAM, IN A SANDBOX (cutbox-door.mjs). By AI agents, Wed Nov 11 2026. No macro, syntax, notation, axiom, sorry.
-/
import Derived.Test.YtaoigopjfelgpaaGreatDoorRows
import GoSem.ClaimSeven
namespace Go.Proofs.YtaoigopjfelgpaaGreatDoor
namespace Rows

/-- THE TIED CARD OF 'assentlaw08.LedgerFresh'. -/
def ledgerFreshCard : Claim7 := { stood := { row := ledgerFreshRow, standIns := [], harness := (true, "3cb39d1970dfb71125be0e4bbb9a01cc2ed6c0b434bee7d13475a78f6c58b6f4"), looks := false }, kinds := [], alts := [], laidByText := true, laidKinds := [.data, .data], laidTests := true, laidLooks := .later }
def LedgerFreshCardSaid : Prop := Claim7.holds Tryz.pinned (.plain (OpenSpec.ofChange ledgerFreshSpec)) ledgerFreshCard

/-- THE SECOND FORM's CARD OF 'assentlaw08.LedgerFresh'. -/
def ledgerFreshUptoCard : Claim7 := { stood := { row := ledgerFreshUptoRow, standIns := [], harness := (true, "3cb39d1970dfb71125be0e4bbb9a01cc2ed6c0b434bee7d13475a78f6c58b6f4"), looks := false }, kinds := [], alts := [], laidByText := true, laidKinds := [.data, .data], laidTests := true, laidLooks := .later }
def LedgerFreshUptoCardSaid : Prop := Claim7.holds Tryz.pinned (.plain (OpenSpec.upto ledgerFreshSpec)) ledgerFreshUptoCard
end Rows
end Go.Proofs.YtaoigopjfelgpaaGreatDoor
