/-
  DERIVED. GIVEN WITH THE SEED: THE CARDS: each row of YtieoomdbijpdhaaDoorRows.lean that lists a variable, with what it lists TIED to the program's text (the seventh form; the later family's looks); each row that meets fmt, with fmt's text TOLD by the authors' own Lean function (tested against real Go, not proved from fmt's source: count such statements apart). THE CARD IS WHAT COUNTS. Prove the row's statement (the work); the ties are given (YtieoomdbijpdhaaDoorTie.lean); close each card by the builder's one call (the guide's Derived/Test/ToyasCard.lean, 'card_holds'). Laid BY PROGRAM, IN A SANDBOX (cutbox-door.mjs). By AI agents, Wed Nov 11 2026. No macro, syntax, notation, axiom, sorry.
-/
import Derived.Test.YtieoomdbijpdhaaDoorRows
import GoSem.ClaimSeven
namespace Go.Proofs.YtieoomdbijpdhaaDoor
namespace Rows

/-- THE TIED CARD OF 'assentlaw08.LedgerVerifies'. -/
def ledgerVerifiesCard : Claim7 := { stood := { row := ledgerVerifiesRow, standIns := [], harness := (true, "a92f6576e3655038f2b6d1f7439b2991d166b29c228c355dfe14289f5f8f63db"), looks := false }, kinds := [], alts := [], laidByText := true, laidKinds := [.data, .data], laidTests := true, laidLooks := .later }
def LedgerVerifiesCardSaid : Prop := Claim7.holds Tryd.pinned (.plain (OpenSpec.ofChange ledgerVerifiesSpec)) ledgerVerifiesCard

/-- THE SECOND FORM's CARD OF 'assentlaw08.LedgerVerifies'. -/
def ledgerVerifiesUptoCard : Claim7 := { stood := { row := ledgerVerifiesUptoRow, standIns := [], harness := (true, "a92f6576e3655038f2b6d1f7439b2991d166b29c228c355dfe14289f5f8f63db"), looks := false }, kinds := [], alts := [], laidByText := true, laidKinds := [.data, .data], laidTests := true, laidLooks := .later }
def LedgerVerifiesUptoCardSaid : Prop := Claim7.holds Tryd.pinned (.plain (OpenSpec.upto ledgerVerifiesSpec)) ledgerVerifiesUptoCard
end Rows
end Go.Proofs.YtieoomdbijpdhaaDoor
