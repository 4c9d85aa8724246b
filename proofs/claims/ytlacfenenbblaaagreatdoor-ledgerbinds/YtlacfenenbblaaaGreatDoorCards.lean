/-
  DERIVED. GIVEN WITH THE SEED: THE CARDS: each row of YtlacfenenbblaaaGreatDoorRows.lean that lists a variable, with what it lists TIED to the program's text (the seventh form; the later family's looks); each row that meets fmt, with fmt's text TOLD by the authors' own Lean function (tested against real Go, not proved from fmt's source: count such statements apart). THE CARD IS WHAT COUNTS. Prove the row's statement (the work); the ties are given (YtlacfenenbblaaaGreatDoorTie.lean); close each card by the builder's one call (the guide's Derived/Test/ToyasCard.lean, 'card_holds'). Laid BY PROGRAM, IN A SANDBOX (cutbox-door.mjs). By AI agents, Wed Nov 11 2026. No macro, syntax, notation, axiom, sorry.
-/
import Derived.Test.YtlacfenenbblaaaGreatDoorRows
import GoSem.ClaimSeven
namespace Go.Proofs.YtlacfenenbblaaaGreatDoor
namespace Rows

/-- THE TIED CARD OF 'assentlaw08.LedgerBinds'. -/
def ledgerBindsCard : Claim7 := { stood := { row := ledgerBindsRow, standIns := [], harness := (true, "c4bf49c15bd0ce99da62771c14473400a15789f554033aebd1920a7e8a2892d1"), looks := false }, kinds := [], alts := [], laidByText := true, laidKinds := [.data, .data], laidTests := true, laidLooks := .later }
def LedgerBindsCardSaid : Prop := Claim7.holds Tryz.pinned (.plain (OpenSpec.ofChange ledgerBindsSpec)) ledgerBindsCard

/-- THE SECOND FORM's CARD OF 'assentlaw08.LedgerBinds'. -/
def ledgerBindsUptoCard : Claim7 := { stood := { row := ledgerBindsUptoRow, standIns := [], harness := (true, "c4bf49c15bd0ce99da62771c14473400a15789f554033aebd1920a7e8a2892d1"), looks := false }, kinds := [], alts := [], laidByText := true, laidKinds := [.data, .data], laidTests := true, laidLooks := .later }
def LedgerBindsUptoCardSaid : Prop := Claim7.holds Tryz.pinned (.plain (OpenSpec.upto ledgerBindsSpec)) ledgerBindsUptoCard
end Rows
end Go.Proofs.YtlacfenenbblaaaGreatDoor
