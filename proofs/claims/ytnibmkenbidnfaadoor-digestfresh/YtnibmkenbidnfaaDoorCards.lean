/-
  DERIVED. GIVEN WITH THE SEED: THE CARDS: each row of YtnibmkenbidnfaaDoorRows.lean that lists a variable, with what it lists TIED to the program's text (the seventh form; the later family's looks); each row that meets fmt, with fmt's text TOLD by the authors' own Lean function (tested against real Go, not proved from fmt's source: count such statements apart). THE CARD IS WHAT COUNTS. Prove the row's statement (the work); the ties are given (YtnibmkenbidnfaaDoorTie.lean); close each card by the builder's one call (the guide's Derived/Test/ToyasCard.lean, 'card_holds'). Laid BY PROGRAM, IN A SANDBOX (cutbox-door.mjs). By AI agents, Wed Nov 11 2026. No macro, syntax, notation, axiom, sorry.
-/
import Derived.Test.YtnibmkenbidnfaaDoorRows
import GoSem.ClaimSeven
namespace Go.Proofs.YtnibmkenbidnfaaDoor
namespace Rows

/-- THE TIED CARD OF 'assentlaw02.DigestNone'. -/
def digestNoneCard : Claim7 := { stood := { row := digestNoneRow, standIns := [], harness := (true, "0c7db1e99e01b238f159755f0328a9de0abbc6454fe562d09476a2eb567108cd"), looks := false }, kinds := [], alts := [], laidByText := true, laidKinds := [.data], laidTests := true, laidLooks := .later }
def DigestNoneCardSaid : Prop := Claim7.holds Tryd.pinned (.plain (OpenSpec.ofChange digestNoneSpec)) digestNoneCard

/-- THE TIED CARD OF 'assentlaw02.DigestInners'. -/
def digestInnersCard : Claim7 := { stood := { row := digestInnersRow, standIns := [], harness := (true, "0c7db1e99e01b238f159755f0328a9de0abbc6454fe562d09476a2eb567108cd"), looks := false }, kinds := [], alts := [], laidByText := true, laidKinds := [.data, .data], laidTests := true, laidLooks := .later }
def DigestInnersCardSaid : Prop := Claim7.holds Tryd.pinned (.plain (OpenSpec.ofChange digestInnersSpec)) digestInnersCard

/-- THE TIED CARD OF 'assentlaw02.DigestPieces'. -/
def digestPiecesCard : Claim7 := { stood := { row := digestPiecesRow, standIns := [], harness := (true, "0c7db1e99e01b238f159755f0328a9de0abbc6454fe562d09476a2eb567108cd"), looks := false }, kinds := [], alts := [], laidByText := true, laidKinds := [.data, .data], laidTests := true, laidLooks := .later }
def DigestPiecesCardSaid : Prop := Claim7.holds Tryd.pinned (.plain (OpenSpec.ofChange digestPiecesSpec)) digestPiecesCard

/-- THE TIED CARD OF 'assentlaw02.DigestSums'. -/
def digestSumsCard : Claim7 := { stood := { row := digestSumsRow, standIns := [], harness := (true, "0c7db1e99e01b238f159755f0328a9de0abbc6454fe562d09476a2eb567108cd"), looks := false }, kinds := [], alts := [], laidByText := true, laidKinds := [.data, .data], laidTests := true, laidLooks := .later }
def DigestSumsCardSaid : Prop := Claim7.holds Tryd.pinned (.plain (OpenSpec.ofChange digestSumsSpec)) digestSumsCard

/-- THE TIED CARD OF 'assentlaw02.DigestFresh'. -/
def digestFreshCard : Claim7 := { stood := { row := digestFreshRow, standIns := [], harness := (true, "0c7db1e99e01b238f159755f0328a9de0abbc6454fe562d09476a2eb567108cd"), looks := false }, kinds := [], alts := [], laidByText := true, laidKinds := [.data, .data], laidTests := true, laidLooks := .later }
def DigestFreshCardSaid : Prop := Claim7.holds Tryd.pinned (.plain (OpenSpec.ofChange digestFreshSpec)) digestFreshCard

/-- THE TIED CARD OF 'assentlaw02.DigestPaths'. -/
def digestPathsCard : Claim7 := { stood := { row := digestPathsRow, standIns := [], harness := (true, "0c7db1e99e01b238f159755f0328a9de0abbc6454fe562d09476a2eb567108cd"), looks := false }, kinds := [], alts := [], laidByText := true, laidKinds := [.data, .data], laidTests := true, laidLooks := .later }
def DigestPathsCardSaid : Prop := Claim7.holds Tryd.pinned (.plain (OpenSpec.ofChange digestPathsSpec)) digestPathsCard

/-- THE SECOND FORM's CARD OF 'assentlaw02.DigestNone'. -/
def digestNoneUptoCard : Claim7 := { stood := { row := digestNoneUptoRow, standIns := [], harness := (true, "0c7db1e99e01b238f159755f0328a9de0abbc6454fe562d09476a2eb567108cd"), looks := false }, kinds := [], alts := [], laidByText := true, laidKinds := [.data], laidTests := true, laidLooks := .later }
def DigestNoneUptoCardSaid : Prop := Claim7.holds Tryd.pinned (.plain (OpenSpec.upto digestNoneSpec)) digestNoneUptoCard

/-- THE SECOND FORM's CARD OF 'assentlaw02.DigestInners'. -/
def digestInnersUptoCard : Claim7 := { stood := { row := digestInnersUptoRow, standIns := [], harness := (true, "0c7db1e99e01b238f159755f0328a9de0abbc6454fe562d09476a2eb567108cd"), looks := false }, kinds := [], alts := [], laidByText := true, laidKinds := [.data, .data], laidTests := true, laidLooks := .later }
def DigestInnersUptoCardSaid : Prop := Claim7.holds Tryd.pinned (.plain (OpenSpec.upto digestInnersSpec)) digestInnersUptoCard

/-- THE SECOND FORM's CARD OF 'assentlaw02.DigestPieces'. -/
def digestPiecesUptoCard : Claim7 := { stood := { row := digestPiecesUptoRow, standIns := [], harness := (true, "0c7db1e99e01b238f159755f0328a9de0abbc6454fe562d09476a2eb567108cd"), looks := false }, kinds := [], alts := [], laidByText := true, laidKinds := [.data, .data], laidTests := true, laidLooks := .later }
def DigestPiecesUptoCardSaid : Prop := Claim7.holds Tryd.pinned (.plain (OpenSpec.upto digestPiecesSpec)) digestPiecesUptoCard

/-- THE SECOND FORM's CARD OF 'assentlaw02.DigestSums'. -/
def digestSumsUptoCard : Claim7 := { stood := { row := digestSumsUptoRow, standIns := [], harness := (true, "0c7db1e99e01b238f159755f0328a9de0abbc6454fe562d09476a2eb567108cd"), looks := false }, kinds := [], alts := [], laidByText := true, laidKinds := [.data, .data], laidTests := true, laidLooks := .later }
def DigestSumsUptoCardSaid : Prop := Claim7.holds Tryd.pinned (.plain (OpenSpec.upto digestSumsSpec)) digestSumsUptoCard

/-- THE SECOND FORM's CARD OF 'assentlaw02.DigestFresh'. -/
def digestFreshUptoCard : Claim7 := { stood := { row := digestFreshUptoRow, standIns := [], harness := (true, "0c7db1e99e01b238f159755f0328a9de0abbc6454fe562d09476a2eb567108cd"), looks := false }, kinds := [], alts := [], laidByText := true, laidKinds := [.data, .data], laidTests := true, laidLooks := .later }
def DigestFreshUptoCardSaid : Prop := Claim7.holds Tryd.pinned (.plain (OpenSpec.upto digestFreshSpec)) digestFreshUptoCard

/-- THE SECOND FORM's CARD OF 'assentlaw02.DigestPaths'. -/
def digestPathsUptoCard : Claim7 := { stood := { row := digestPathsUptoRow, standIns := [], harness := (true, "0c7db1e99e01b238f159755f0328a9de0abbc6454fe562d09476a2eb567108cd"), looks := false }, kinds := [], alts := [], laidByText := true, laidKinds := [.data, .data], laidTests := true, laidLooks := .later }
def DigestPathsUptoCardSaid : Prop := Claim7.holds Tryd.pinned (.plain (OpenSpec.upto digestPathsSpec)) digestPathsUptoCard
end Rows
end Go.Proofs.YtnibmkenbidnfaaDoor
