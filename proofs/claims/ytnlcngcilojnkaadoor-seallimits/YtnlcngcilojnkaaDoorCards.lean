/-
  DERIVED. GIVEN WITH THE SEED: THE CARDS: each row of YtnlcngcilojnkaaDoorRows.lean that lists a variable, with what it lists TIED to the program's text (the seventh form; the later family's looks); each row that meets fmt, with fmt's text TOLD by the authors' own Lean function (tested against real Go, not proved from fmt's source: count such statements apart). THE CARD IS WHAT COUNTS. Prove the row's statement (the work); the ties are given (YtnlcngcilojnkaaDoorTie.lean); close each card by the builder's one call (the guide's Derived/Test/ToyasCard.lean, 'card_holds'). Laid BY PROGRAM, IN A SANDBOX (cutbox-door.mjs). By AI agents, Wed Nov 11 2026. No macro, syntax, notation, axiom, sorry.
-/
import Derived.Test.YtnlcngcilojnkaaDoorRows
import GoSem.ClaimSeven
namespace Go.Proofs.YtnlcngcilojnkaaDoor
namespace Rows

/-- THE TIED CARD OF 'assentlaw03.SealLimits'. -/
def sealLimitsCard : Claim7 := { stood := { row := sealLimitsRow, standIns := [], harness := (true, "b4e3e9600443d658bf6433fce7215457943770697f95bd4ef30dd40502fa04e6"), looks := false }, kinds := [], alts := [], laidByText := true, laidKinds := [.data], laidTests := true, laidLooks := .later }
def SealLimitsCardSaid : Prop := Claim7.holds Tryd.pinned (.plain (OpenSpec.ofChange sealLimitsSpec)) sealLimitsCard

/-- THE TIED CARD OF 'assentlaw03.SealStrange'. -/
def sealStrangeCard : Claim7 := { stood := { row := sealStrangeRow, standIns := [], harness := (true, "b4e3e9600443d658bf6433fce7215457943770697f95bd4ef30dd40502fa04e6"), looks := false }, kinds := [], alts := [], laidByText := true, laidKinds := [.data], laidTests := true, laidLooks := .later }
def SealStrangeCardSaid : Prop := Claim7.holds Tryd.pinned (.plain (OpenSpec.ofChange sealStrangeSpec)) sealStrangeCard

/-- THE TIED CARD OF 'assentlaw03.SealTurns'. -/
def sealTurnsCard : Claim7 := { stood := { row := sealTurnsRow, standIns := [], harness := (true, "b4e3e9600443d658bf6433fce7215457943770697f95bd4ef30dd40502fa04e6"), looks := false }, kinds := [], alts := [], laidByText := true, laidKinds := [.data, .data], laidTests := true, laidLooks := .later }
def SealTurnsCardSaid : Prop := Claim7.holds Tryd.pinned (.plain (OpenSpec.ofChange sealTurnsSpec)) sealTurnsCard

/-- THE TIED CARD OF 'assentlaw03.SealNil'. -/
def sealNilCard : Claim7 := { stood := { row := sealNilRow, standIns := [], harness := (true, "b4e3e9600443d658bf6433fce7215457943770697f95bd4ef30dd40502fa04e6"), looks := false }, kinds := [], alts := [], laidByText := true, laidKinds := [.data], laidTests := true, laidLooks := .later }
def SealNilCardSaid : Prop := Claim7.holds Tryd.pinned (.plain (OpenSpec.ofChange sealNilSpec)) sealNilCard

/-- THE TIED CARD OF 'assentlaw03.SealTruth'. -/
def sealTruthCard : Claim7 := { stood := { row := sealTruthRow, standIns := [], harness := (true, "b4e3e9600443d658bf6433fce7215457943770697f95bd4ef30dd40502fa04e6"), looks := false }, kinds := [], alts := [], laidByText := true, laidKinds := [.data], laidTests := true, laidLooks := .later }
def SealTruthCardSaid : Prop := Claim7.holds Tryd.pinned (.plain (OpenSpec.ofChange sealTruthSpec)) sealTruthCard

/-- THE TIED CARD OF 'assentlaw03.SealOnce'. -/
def sealOnceCard : Claim7 := { stood := { row := sealOnceRow, standIns := [], harness := (true, "b4e3e9600443d658bf6433fce7215457943770697f95bd4ef30dd40502fa04e6"), looks := false }, kinds := [], alts := [], laidByText := true, laidKinds := [.data], laidTests := true, laidLooks := .later }
def SealOnceCardSaid : Prop := Claim7.holds Tryd.pinned (.plain (OpenSpec.ofChange sealOnceSpec)) sealOnceCard

/-- THE SECOND FORM's CARD OF 'assentlaw03.SealLimits'. -/
def sealLimitsUptoCard : Claim7 := { stood := { row := sealLimitsUptoRow, standIns := [], harness := (true, "b4e3e9600443d658bf6433fce7215457943770697f95bd4ef30dd40502fa04e6"), looks := false }, kinds := [], alts := [], laidByText := true, laidKinds := [.data], laidTests := true, laidLooks := .later }
def SealLimitsUptoCardSaid : Prop := Claim7.holds Tryd.pinned (.plain (OpenSpec.upto sealLimitsSpec)) sealLimitsUptoCard

/-- THE SECOND FORM's CARD OF 'assentlaw03.SealStrange'. -/
def sealStrangeUptoCard : Claim7 := { stood := { row := sealStrangeUptoRow, standIns := [], harness := (true, "b4e3e9600443d658bf6433fce7215457943770697f95bd4ef30dd40502fa04e6"), looks := false }, kinds := [], alts := [], laidByText := true, laidKinds := [.data], laidTests := true, laidLooks := .later }
def SealStrangeUptoCardSaid : Prop := Claim7.holds Tryd.pinned (.plain (OpenSpec.upto sealStrangeSpec)) sealStrangeUptoCard

/-- THE SECOND FORM's CARD OF 'assentlaw03.SealTurns'. -/
def sealTurnsUptoCard : Claim7 := { stood := { row := sealTurnsUptoRow, standIns := [], harness := (true, "b4e3e9600443d658bf6433fce7215457943770697f95bd4ef30dd40502fa04e6"), looks := false }, kinds := [], alts := [], laidByText := true, laidKinds := [.data, .data], laidTests := true, laidLooks := .later }
def SealTurnsUptoCardSaid : Prop := Claim7.holds Tryd.pinned (.plain (OpenSpec.upto sealTurnsSpec)) sealTurnsUptoCard

/-- THE SECOND FORM's CARD OF 'assentlaw03.SealNil'. -/
def sealNilUptoCard : Claim7 := { stood := { row := sealNilUptoRow, standIns := [], harness := (true, "b4e3e9600443d658bf6433fce7215457943770697f95bd4ef30dd40502fa04e6"), looks := false }, kinds := [], alts := [], laidByText := true, laidKinds := [.data], laidTests := true, laidLooks := .later }
def SealNilUptoCardSaid : Prop := Claim7.holds Tryd.pinned (.plain (OpenSpec.upto sealNilSpec)) sealNilUptoCard

/-- THE SECOND FORM's CARD OF 'assentlaw03.SealTruth'. -/
def sealTruthUptoCard : Claim7 := { stood := { row := sealTruthUptoRow, standIns := [], harness := (true, "b4e3e9600443d658bf6433fce7215457943770697f95bd4ef30dd40502fa04e6"), looks := false }, kinds := [], alts := [], laidByText := true, laidKinds := [.data], laidTests := true, laidLooks := .later }
def SealTruthUptoCardSaid : Prop := Claim7.holds Tryd.pinned (.plain (OpenSpec.upto sealTruthSpec)) sealTruthUptoCard

/-- THE SECOND FORM's CARD OF 'assentlaw03.SealOnce'. -/
def sealOnceUptoCard : Claim7 := { stood := { row := sealOnceUptoRow, standIns := [], harness := (true, "b4e3e9600443d658bf6433fce7215457943770697f95bd4ef30dd40502fa04e6"), looks := false }, kinds := [], alts := [], laidByText := true, laidKinds := [.data], laidTests := true, laidLooks := .later }
def SealOnceUptoCardSaid : Prop := Claim7.holds Tryd.pinned (.plain (OpenSpec.upto sealOnceSpec)) sealOnceUptoCard
end Rows
end Go.Proofs.YtnlcngcilojnkaaDoor
