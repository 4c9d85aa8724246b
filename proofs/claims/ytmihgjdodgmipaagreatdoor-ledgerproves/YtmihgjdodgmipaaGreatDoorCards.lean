/-
  DERIVED. GIVEN WITH THE SEED: THE CARDS: each row of YtmihgjdodgmipaaGreatDoorRows.lean that lists a variable, with what it lists TIED to the program's text (the seventh form; the later family's looks); each row that meets fmt, with fmt's text TOLD by the authors' own Lean function (tested against real Go, not proved from fmt's source: count such statements apart). THE CARD IS WHAT COUNTS. Prove the row's statement (the work); the ties are given (YtmihgjdodgmipaaGreatDoorTie.lean); close each card by the builder's one call (the guide's Derived/Test/ToyasCard.lean, 'card_holds'). Laid BY PROGRAM, IN A SANDBOX (cutbox-door.mjs). By AI agents, Wed Nov 11 2026. No macro, syntax, notation, axiom, sorry.
-/
import Derived.Test.YtmihgjdodgmipaaGreatDoorRows
import GoSem.ClaimSeven
namespace Go.Proofs.YtmihgjdodgmipaaGreatDoor
namespace Rows

/-- THE TIED CARD OF 'assentlaw08.LedgerProves'. -/
def ledgerProvesCard : Claim7 := { stood := { row := ledgerProvesRow, standIns := [], harness := (true, "a02dde6cb11dd1d1616ab5cd0afe6964d066310eaee44a957bf527bf18711992"), looks := false }, kinds := [], alts := [], laidByText := true, laidKinds := [.data, .data], laidTests := true, laidLooks := .later }
def LedgerProvesCardSaid : Prop := Claim7.holds Tryz.pinned (.plain (OpenSpec.ofChange ledgerProvesSpec)) ledgerProvesCard

/-- THE SECOND FORM's CARD OF 'assentlaw08.LedgerProves'. -/
def ledgerProvesUptoCard : Claim7 := { stood := { row := ledgerProvesUptoRow, standIns := [], harness := (true, "a02dde6cb11dd1d1616ab5cd0afe6964d066310eaee44a957bf527bf18711992"), looks := false }, kinds := [], alts := [], laidByText := true, laidKinds := [.data, .data], laidTests := true, laidLooks := .later }
def LedgerProvesUptoCardSaid : Prop := Claim7.holds Tryz.pinned (.plain (OpenSpec.upto ledgerProvesSpec)) ledgerProvesUptoCard
end Rows
end Go.Proofs.YtmihgjdodgmipaaGreatDoor
