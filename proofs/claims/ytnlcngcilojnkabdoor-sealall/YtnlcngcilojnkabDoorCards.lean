/-
  DERIVED. GIVEN WITH THE SEED: THE CARDS: each row of YtnlcngcilojnkabDoorRows.lean that lists a variable, with what it lists TIED to the program's text (the seventh form; the later family's looks); each row that meets fmt, with fmt's text TOLD by the authors' own Lean function (tested against real Go, not proved from fmt's source: count such statements apart). THE CARD IS WHAT COUNTS. Prove the row's statement (the work); the ties are given (YtnlcngcilojnkabDoorTie.lean); close each card by the builder's one call (the guide's Derived/Test/ToyasCard.lean, 'card_holds'). Laid BY PROGRAM, IN A SANDBOX (cutbox-door.mjs). By AI agents, Wed Nov 11 2026. No macro, syntax, notation, axiom, sorry.
-/
import Derived.Test.YtnlcngcilojnkabDoorRows
import GoSem.ClaimSeven
namespace Go.Proofs.YtnlcngcilojnkabDoor
namespace Rows

/-- THE TIED CARD OF 'assentlaw03.SealAll'. -/
def sealAllCard : Claim7 := { stood := { row := sealAllRow, standIns := [], harness := (true, "49d4f33f2e1ba640bffca654fd398a8469c41eb259988bc3db8041358a7abb0e"), looks := false }, kinds := [], alts := [], laidByText := true, laidKinds := [.data, .data], laidTests := true, laidLooks := .later }
def SealAllCardSaid : Prop := Claim7.holds Tryd.pinned (.plain (OpenSpec.ofChange sealAllSpec)) sealAllCard

/-- THE TIED CARD OF 'assentlaw03.SealEnters'. -/
def sealEntersCard : Claim7 := { stood := { row := sealEntersRow, standIns := [], harness := (true, "49d4f33f2e1ba640bffca654fd398a8469c41eb259988bc3db8041358a7abb0e"), looks := false }, kinds := [], alts := [], laidByText := true, laidKinds := [.data, .data], laidTests := true, laidLooks := .later }
def SealEntersCardSaid : Prop := Claim7.holds Tryd.pinned (.plain (OpenSpec.ofChange sealEntersSpec)) sealEntersCard

/-- THE TIED CARD OF 'assentlaw03.SealSigns'. -/
def sealSignsCard : Claim7 := { stood := { row := sealSignsRow, standIns := [], harness := (true, "49d4f33f2e1ba640bffca654fd398a8469c41eb259988bc3db8041358a7abb0e"), looks := false }, kinds := [], alts := [], laidByText := true, laidKinds := [.data, .data], laidTests := true, laidLooks := .later }
def SealSignsCardSaid : Prop := Claim7.holds Tryd.pinned (.plain (OpenSpec.ofChange sealSignsSpec)) sealSignsCard

/-- THE TIED CARD OF 'assentlaw03.SealChecks'. -/
def sealChecksCard : Claim7 := { stood := { row := sealChecksRow, standIns := [], harness := (true, "49d4f33f2e1ba640bffca654fd398a8469c41eb259988bc3db8041358a7abb0e"), looks := false }, kinds := [], alts := [], laidByText := true, laidKinds := [.data, .data], laidTests := true, laidLooks := .later }
def SealChecksCardSaid : Prop := Claim7.holds Tryd.pinned (.plain (OpenSpec.ofChange sealChecksSpec)) sealChecksCard

/-- THE TIED CARD OF 'assentlaw03.SealTells'. -/
def sealTellsCard : Claim7 := { stood := { row := sealTellsRow, standIns := [], harness := (true, "49d4f33f2e1ba640bffca654fd398a8469c41eb259988bc3db8041358a7abb0e"), looks := false }, kinds := [], alts := [], laidByText := true, laidKinds := [.data, .data], laidTests := true, laidLooks := .later }
def SealTellsCardSaid : Prop := Claim7.holds Tryd.pinned (.plain (OpenSpec.ofChange sealTellsSpec)) sealTellsCard

/-- THE TIED CARD OF 'assentlaw03.SealOwn'. -/
def sealOwnCard : Claim7 := { stood := { row := sealOwnRow, standIns := [], harness := (true, "49d4f33f2e1ba640bffca654fd398a8469c41eb259988bc3db8041358a7abb0e"), looks := false }, kinds := [], alts := [], laidByText := true, laidKinds := [.data, .data], laidTests := true, laidLooks := .later }
def SealOwnCardSaid : Prop := Claim7.holds Tryd.pinned (.plain (OpenSpec.ofChange sealOwnSpec)) sealOwnCard

/-- THE SECOND FORM's CARD OF 'assentlaw03.SealAll'. -/
def sealAllUptoCard : Claim7 := { stood := { row := sealAllUptoRow, standIns := [], harness := (true, "49d4f33f2e1ba640bffca654fd398a8469c41eb259988bc3db8041358a7abb0e"), looks := false }, kinds := [], alts := [], laidByText := true, laidKinds := [.data, .data], laidTests := true, laidLooks := .later }
def SealAllUptoCardSaid : Prop := Claim7.holds Tryd.pinned (.plain (OpenSpec.upto sealAllSpec)) sealAllUptoCard

/-- THE SECOND FORM's CARD OF 'assentlaw03.SealEnters'. -/
def sealEntersUptoCard : Claim7 := { stood := { row := sealEntersUptoRow, standIns := [], harness := (true, "49d4f33f2e1ba640bffca654fd398a8469c41eb259988bc3db8041358a7abb0e"), looks := false }, kinds := [], alts := [], laidByText := true, laidKinds := [.data, .data], laidTests := true, laidLooks := .later }
def SealEntersUptoCardSaid : Prop := Claim7.holds Tryd.pinned (.plain (OpenSpec.upto sealEntersSpec)) sealEntersUptoCard

/-- THE SECOND FORM's CARD OF 'assentlaw03.SealSigns'. -/
def sealSignsUptoCard : Claim7 := { stood := { row := sealSignsUptoRow, standIns := [], harness := (true, "49d4f33f2e1ba640bffca654fd398a8469c41eb259988bc3db8041358a7abb0e"), looks := false }, kinds := [], alts := [], laidByText := true, laidKinds := [.data, .data], laidTests := true, laidLooks := .later }
def SealSignsUptoCardSaid : Prop := Claim7.holds Tryd.pinned (.plain (OpenSpec.upto sealSignsSpec)) sealSignsUptoCard

/-- THE SECOND FORM's CARD OF 'assentlaw03.SealChecks'. -/
def sealChecksUptoCard : Claim7 := { stood := { row := sealChecksUptoRow, standIns := [], harness := (true, "49d4f33f2e1ba640bffca654fd398a8469c41eb259988bc3db8041358a7abb0e"), looks := false }, kinds := [], alts := [], laidByText := true, laidKinds := [.data, .data], laidTests := true, laidLooks := .later }
def SealChecksUptoCardSaid : Prop := Claim7.holds Tryd.pinned (.plain (OpenSpec.upto sealChecksSpec)) sealChecksUptoCard

/-- THE SECOND FORM's CARD OF 'assentlaw03.SealTells'. -/
def sealTellsUptoCard : Claim7 := { stood := { row := sealTellsUptoRow, standIns := [], harness := (true, "49d4f33f2e1ba640bffca654fd398a8469c41eb259988bc3db8041358a7abb0e"), looks := false }, kinds := [], alts := [], laidByText := true, laidKinds := [.data, .data], laidTests := true, laidLooks := .later }
def SealTellsUptoCardSaid : Prop := Claim7.holds Tryd.pinned (.plain (OpenSpec.upto sealTellsSpec)) sealTellsUptoCard

/-- THE SECOND FORM's CARD OF 'assentlaw03.SealOwn'. -/
def sealOwnUptoCard : Claim7 := { stood := { row := sealOwnUptoRow, standIns := [], harness := (true, "49d4f33f2e1ba640bffca654fd398a8469c41eb259988bc3db8041358a7abb0e"), looks := false }, kinds := [], alts := [], laidByText := true, laidKinds := [.data, .data], laidTests := true, laidLooks := .later }
def SealOwnUptoCardSaid : Prop := Claim7.holds Tryd.pinned (.plain (OpenSpec.upto sealOwnSpec)) sealOwnUptoCard
end Rows
end Go.Proofs.YtnlcngcilojnkabDoor
