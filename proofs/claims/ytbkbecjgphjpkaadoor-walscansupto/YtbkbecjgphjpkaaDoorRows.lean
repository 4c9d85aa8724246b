/-
  NARROWER THAN 'FOR EVERY INPUT', by the rows' own cells (each row's printed sentence says how): WalFrames: laid · WalScans: laid · WalStands: laid · WalTorn: laid · WalSpoilt: laid · WalNil: laid.
  DERIVED. THE GIVEN ROWS OF THIS SEAT. 6 by the template 'for every input the law returns true; each argument reads behind the call as it read before'; 0 by the template 'total and deterministic' (their statements: YtbkbecjgphjpkaaDoorTotals.lean).
  GIVEN WITH THE SEED: the statements are not yours to turn. If you find one false, say at which input.
  Laid BY PROGRAM, IN A SANDBOX (cutbox-rows.mjs): the forced cells as the released guide's own fill.sh prints them over the translation 5e3dc1c3d75379d0… (all of the seat's roots in one cut). By AI agents, Wed Nov 11 2026. No macro, syntax, notation, axiom, sorry.
-/
import Derived.Test.YtbkbecjgphjpkaaDoorChecked
import GoSem.Claim
import GoSem.ClaimJoined
import GoSem.ClaimMapViews
import Derived.JoinedTies
import Derived.KernelRfl
namespace Go.Proofs.YtbkbecjgphjpkaaDoor
/- THE CELL 'sum', in the pinned program and in every row, IS THE sha256 OF THE DUMP (.gsa) THAT YtbkbecjgphjpkaaDoorProg.lean LOADS. Nothing in Lean hashes anything: it is a label: what it is worth is what the hold of that sum in a sandbox is worth. -/
noncomputable def Tryd.pinned : Pinned := { name := "ytbkbecjgphjpkaadoor", sum := "5e3dc1c3d75379d0893b47dc171a68df64639b54098cca76d33939955d1d95ad", checked := Tryd.checked }
namespace Rows
def none {H : Type} : Left H := { results := [], args := [] }

/- WHAT THE LISTED PACKAGE-LEVEL VARIABLES READ AS WHEN THE CALL BEGINS. Each datum BY PROGRAM (the guide's laid-datum.mjs) off the statement by which the dump's own 'gosem.cut.vars' lays the variable. In a bare row this is a premise. The card (YtbkbecjgphjpkaaDoorCards.lean) ties it to the program's text. -/
def laid_assent_wal_fourBits {H : Type} : DataW H := .agg [.lit (.int .u32 0), .lit (.int .u32 498536548), .lit (.int .u32 997073096), .lit (.int .u32 651767980), .lit (.int .u32 1994146192), .lit (.int .u32 1802195444), .lit (.int .u32 1303535960), .lit (.int .u32 1342533948), .lit (.int .u32 3988292384), .lit (.int .u32 4027552580), .lit (.int .u32 3604390888), .lit (.int .u32 3412177804), .lit (.int .u32 2607071920), .lit (.int .u32 2262029012), .lit (.int .u32 2685067896), .lit (.int .u32 3183342108)]

/-- 'assentlaw07.WalFrames': WHATEVER THE INPUT: true; the input reads as it did. -/
def walFramesSpec : ChangeSpec := { name := "walFrames", fn := fun _ => fun
  | [d1, d2] => { results := [.lit (.bool true)], args := [d1, d2] }
  | _ => none }
def walFramesRow : OpenClaim := { program := "ytbkbecjgphjpkaadoor", sum := "5e3dc1c3d75379d0893b47dc171a68df64639b54098cca76d33939955d1d95ad", func := "assent/assentlaw07.WalFrames", spec := "walFrames", named := ["assent/wal.fourBits"], apart := false, laid := [("assent/wal.fourBits", laid_assent_wal_fourBits)] }
def WalFramesSaid : Prop := walFramesRow.holds Tryd.pinned (OpenSpec.ofChange walFramesSpec)

/-- ITS FALSE NEIGHBOUR: 'it returns false'. Refute it at one input. -/
def walFramesWrong : ChangeSpec := { name := "walFrames", fn := fun _ => fun
  | [d1, d2] => { results := [.lit (.bool false)], args := [d1, d2] }
  | _ => none }
def WalFramesWrongFalsely : Prop := walFramesRow.holds Tryd.pinned (OpenSpec.ofChange walFramesWrong)

/-- 'assentlaw07.WalScans': WHATEVER THE INPUT: true; the input reads as it did. -/
def walScansSpec : ChangeSpec := { name := "walScans", fn := fun _ => fun
  | [d] => { results := [.lit (.bool true)], args := [d] }
  | _ => none }
def walScansRow : OpenClaim := { program := "ytbkbecjgphjpkaadoor", sum := "5e3dc1c3d75379d0893b47dc171a68df64639b54098cca76d33939955d1d95ad", func := "assent/assentlaw07.WalScans", spec := "walScans", unfollowed := true, recurses := true, named := ["assent/wal.fourBits"], apart := false, laid := [("assent/wal.fourBits", laid_assent_wal_fourBits)] }
def WalScansSaid : Prop := walScansRow.holds Tryd.pinned (OpenSpec.ofChange walScansSpec)

/-- ITS FALSE NEIGHBOUR: 'it returns false'. Refute it at one input. -/
def walScansWrong : ChangeSpec := { name := "walScans", fn := fun _ => fun
  | [d] => { results := [.lit (.bool false)], args := [d] }
  | _ => none }
def WalScansWrongFalsely : Prop := walScansRow.holds Tryd.pinned (OpenSpec.ofChange walScansWrong)

/-- 'assentlaw07.WalStands': WHATEVER THE INPUT: true; the input reads as it did. -/
def walStandsSpec : ChangeSpec := { name := "walStands", fn := fun _ => fun
  | [d] => { results := [.lit (.bool true)], args := [d] }
  | _ => none }
def walStandsRow : OpenClaim := { program := "ytbkbecjgphjpkaadoor", sum := "5e3dc1c3d75379d0893b47dc171a68df64639b54098cca76d33939955d1d95ad", func := "assent/assentlaw07.WalStands", spec := "walStands", unfollowed := true, recurses := true, named := ["assent/wal.fourBits"], apart := false, laid := [("assent/wal.fourBits", laid_assent_wal_fourBits)] }
def WalStandsSaid : Prop := walStandsRow.holds Tryd.pinned (OpenSpec.ofChange walStandsSpec)

/-- ITS FALSE NEIGHBOUR: 'it returns false'. Refute it at one input. -/
def walStandsWrong : ChangeSpec := { name := "walStands", fn := fun _ => fun
  | [d] => { results := [.lit (.bool false)], args := [d] }
  | _ => none }
def WalStandsWrongFalsely : Prop := walStandsRow.holds Tryd.pinned (OpenSpec.ofChange walStandsWrong)

/-- 'assentlaw07.WalTorn': WHATEVER THE INPUT: true; the input reads as it did. -/
def walTornSpec : ChangeSpec := { name := "walTorn", fn := fun _ => fun
  | [d1, d2, d3] => { results := [.lit (.bool true)], args := [d1, d2, d3] }
  | _ => none }
def walTornRow : OpenClaim := { program := "ytbkbecjgphjpkaadoor", sum := "5e3dc1c3d75379d0893b47dc171a68df64639b54098cca76d33939955d1d95ad", func := "assent/assentlaw07.WalTorn", spec := "walTorn", unfollowed := true, recurses := true, named := ["assent/wal.fourBits"], apart := false, laid := [("assent/wal.fourBits", laid_assent_wal_fourBits)] }
def WalTornSaid : Prop := walTornRow.holds Tryd.pinned (OpenSpec.ofChange walTornSpec)

/-- ITS FALSE NEIGHBOUR: 'it returns false'. Refute it at one input. -/
def walTornWrong : ChangeSpec := { name := "walTorn", fn := fun _ => fun
  | [d1, d2, d3] => { results := [.lit (.bool false)], args := [d1, d2, d3] }
  | _ => none }
def WalTornWrongFalsely : Prop := walTornRow.holds Tryd.pinned (OpenSpec.ofChange walTornWrong)

/-- 'assentlaw07.WalSpoilt': WHATEVER THE INPUT: true; the input reads as it did. -/
def walSpoiltSpec : ChangeSpec := { name := "walSpoilt", fn := fun _ => fun
  | [d1, d2, d3] => { results := [.lit (.bool true)], args := [d1, d2, d3] }
  | _ => none }
def walSpoiltRow : OpenClaim := { program := "ytbkbecjgphjpkaadoor", sum := "5e3dc1c3d75379d0893b47dc171a68df64639b54098cca76d33939955d1d95ad", func := "assent/assentlaw07.WalSpoilt", spec := "walSpoilt", unfollowed := true, recurses := true, named := ["assent/wal.fourBits"], apart := false, laid := [("assent/wal.fourBits", laid_assent_wal_fourBits)] }
def WalSpoiltSaid : Prop := walSpoiltRow.holds Tryd.pinned (OpenSpec.ofChange walSpoiltSpec)

/-- ITS FALSE NEIGHBOUR: 'it returns false'. Refute it at one input. -/
def walSpoiltWrong : ChangeSpec := { name := "walSpoilt", fn := fun _ => fun
  | [d1, d2, d3] => { results := [.lit (.bool false)], args := [d1, d2, d3] }
  | _ => none }
def WalSpoiltWrongFalsely : Prop := walSpoiltRow.holds Tryd.pinned (OpenSpec.ofChange walSpoiltWrong)

/-- 'assentlaw07.WalNil': WHATEVER THE INPUT: true; the input reads as it did. -/
def walNilSpec : ChangeSpec := { name := "walNil", fn := fun _ => fun
  | [d1, d2] => { results := [.lit (.bool true)], args := [d1, d2] }
  | _ => none }
def walNilRow : OpenClaim := { program := "ytbkbecjgphjpkaadoor", sum := "5e3dc1c3d75379d0893b47dc171a68df64639b54098cca76d33939955d1d95ad", func := "assent/assentlaw07.WalNil", spec := "walNil", unfollowed := true, recurses := true, named := ["assent/wal.fourBits"], apart := false, laid := [("assent/wal.fourBits", laid_assent_wal_fourBits)] }
def WalNilSaid : Prop := walNilRow.holds Tryd.pinned (OpenSpec.ofChange walNilSpec)

/-- ITS FALSE NEIGHBOUR: 'it returns false'. Refute it at one input. -/
def walNilWrong : ChangeSpec := { name := "walNil", fn := fun _ => fun
  | [d1, d2] => { results := [.lit (.bool false)], args := [d1, d2] }
  | _ => none }
def WalNilWrongFalsely : Prop := walNilRow.holds Tryd.pinned (OpenSpec.ofChange walNilWrong)

/- THE SECOND FORM. 'bulk': how many values and letters a reading holds, each counted each time it is reached (what is shared counts as often as it is met; a slice's spare places count too). A statement '..UptoSaid' is the law's where the arguments, and the package variables that the reading takes, are together of bulk at most 1048576: NARROWER than '..Said'. Prove '..Said' where nothing that the law and all that it calls make is longer than what came in: it says more and counts as full. Else prove '..UptoSaid'. A law counts once. -/
mutual
def uptoBulk {H : Type} : DataW H → Nat
  | .lit (.string bytes) => bytes.length + 1
  | .lit _ => 1
  | .nil => 1
  | .ptr d => uptoBulk d + 1
  | .slice elems spare => uptoBulkAll elems + uptoBulkAll spare + 1
  | .agg parts => uptoBulkAll parts + 1
  | .iface _ d => uptoBulk d + 1
  | .map entries => uptoBulkEntries entries + 1
  | .held _ => 1
def uptoBulkAll {H : Type} : List (DataW H) → Nat
  | [] => 0
  | d :: r => uptoBulk d + uptoBulkAll r
def uptoBulkEntries {H : Type} : List (Lit × DataW H) → Nat
  | [] => 0
  | x :: r => uptoBulkEntry x + uptoBulkEntries r
def uptoBulkEntry {H : Type} : Lit × DataW H → Nat
  | (.string bytes, d) => bytes.length + uptoBulk d + 1
  | (_, d) => uptoBulk d + 1
 end
def uptoSmall : (H : Type) → List (DataW H) → Bool := fun _ ds => decide (uptoBulkAll ds ≤ 1048576)
def OpenSpec.upto (s : _root_.Go.ChangeSpec) : _root_.Go.OpenSpec := { _root_.Go.OpenSpec.ofChange s with cond := some uptoSmall }

/-- 'assentlaw07.WalFrames', WHERE WHAT IT READS IS OF BULK AT MOST 1048576: true; the input reads as it did. -/
def walFramesUptoRow : OpenClaim := { program := "ytbkbecjgphjpkaadoor", sum := "5e3dc1c3d75379d0893b47dc171a68df64639b54098cca76d33939955d1d95ad", func := "assent/assentlaw07.WalFrames", spec := "walFrames", named := ["assent/wal.fourBits"], apart := false, laid := [("assent/wal.fourBits", laid_assent_wal_fourBits)], narrowed := true }
def WalFramesUptoSaid : Prop := walFramesUptoRow.holds Tryd.pinned (OpenSpec.upto walFramesSpec)

/-- 'assentlaw07.WalScans', WHERE WHAT IT READS IS OF BULK AT MOST 1048576: true; the input reads as it did. -/
def walScansUptoRow : OpenClaim := { program := "ytbkbecjgphjpkaadoor", sum := "5e3dc1c3d75379d0893b47dc171a68df64639b54098cca76d33939955d1d95ad", func := "assent/assentlaw07.WalScans", spec := "walScans", unfollowed := true, recurses := true, named := ["assent/wal.fourBits"], apart := false, laid := [("assent/wal.fourBits", laid_assent_wal_fourBits)], narrowed := true }
def WalScansUptoSaid : Prop := walScansUptoRow.holds Tryd.pinned (OpenSpec.upto walScansSpec)

/-- 'assentlaw07.WalStands', WHERE WHAT IT READS IS OF BULK AT MOST 1048576: true; the input reads as it did. -/
def walStandsUptoRow : OpenClaim := { program := "ytbkbecjgphjpkaadoor", sum := "5e3dc1c3d75379d0893b47dc171a68df64639b54098cca76d33939955d1d95ad", func := "assent/assentlaw07.WalStands", spec := "walStands", unfollowed := true, recurses := true, named := ["assent/wal.fourBits"], apart := false, laid := [("assent/wal.fourBits", laid_assent_wal_fourBits)], narrowed := true }
def WalStandsUptoSaid : Prop := walStandsUptoRow.holds Tryd.pinned (OpenSpec.upto walStandsSpec)

/-- 'assentlaw07.WalTorn', WHERE WHAT IT READS IS OF BULK AT MOST 1048576: true; the input reads as it did. -/
def walTornUptoRow : OpenClaim := { program := "ytbkbecjgphjpkaadoor", sum := "5e3dc1c3d75379d0893b47dc171a68df64639b54098cca76d33939955d1d95ad", func := "assent/assentlaw07.WalTorn", spec := "walTorn", unfollowed := true, recurses := true, named := ["assent/wal.fourBits"], apart := false, laid := [("assent/wal.fourBits", laid_assent_wal_fourBits)], narrowed := true }
def WalTornUptoSaid : Prop := walTornUptoRow.holds Tryd.pinned (OpenSpec.upto walTornSpec)

/-- 'assentlaw07.WalSpoilt', WHERE WHAT IT READS IS OF BULK AT MOST 1048576: true; the input reads as it did. -/
def walSpoiltUptoRow : OpenClaim := { program := "ytbkbecjgphjpkaadoor", sum := "5e3dc1c3d75379d0893b47dc171a68df64639b54098cca76d33939955d1d95ad", func := "assent/assentlaw07.WalSpoilt", spec := "walSpoilt", unfollowed := true, recurses := true, named := ["assent/wal.fourBits"], apart := false, laid := [("assent/wal.fourBits", laid_assent_wal_fourBits)], narrowed := true }
def WalSpoiltUptoSaid : Prop := walSpoiltUptoRow.holds Tryd.pinned (OpenSpec.upto walSpoiltSpec)

/-- 'assentlaw07.WalNil', WHERE WHAT IT READS IS OF BULK AT MOST 1048576: true; the input reads as it did. -/
def walNilUptoRow : OpenClaim := { program := "ytbkbecjgphjpkaadoor", sum := "5e3dc1c3d75379d0893b47dc171a68df64639b54098cca76d33939955d1d95ad", func := "assent/assentlaw07.WalNil", spec := "walNil", unfollowed := true, recurses := true, named := ["assent/wal.fourBits"], apart := false, laid := [("assent/wal.fourBits", laid_assent_wal_fourBits)], narrowed := true }
def WalNilUptoSaid : Prop := walNilUptoRow.holds Tryd.pinned (OpenSpec.upto walNilSpec)

end Rows
end Go.Proofs.YtbkbecjgphjpkaaDoor
