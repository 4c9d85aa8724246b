/-
  No cell of these rows narrows 'for every input' (looked for: loops, veiled, ifaces, maps, wideKeys, modest, calm, conditions, laid).
  DERIVED. THE GIVEN ROWS OF THIS SEAT. 6 by the template 'for every input the law returns true; each argument reads behind the call as it read before'; 0 by the template 'total and deterministic' (their statements: YtfjdojodbhmmaaaTotals.lean).
  GIVEN WITH THE SEED: the statements are not yours to turn. If you find one false, say at which input.
  Laid BY PROGRAM, IN A SANDBOX (cutbox-rows.mjs): the forced cells as the released guide's own fill.sh prints them over the translation cbc1ba9578df6812… (all of the seat's roots in one cut). By AI agents, Wed Nov 11 2026. No macro, syntax, notation, axiom, sorry.
-/
import Derived.Test.YtfjdojodbhmmaaaChecked
import GoSem.Claim
import GoSem.ClaimJoined
import GoSem.ClaimMapViews
import Derived.JoinedTies
import Derived.KernelRfl
namespace Go.Proofs.Ytfjdojodbhmmaaa
/- THE CELL 'sum', in the pinned program and in every row, IS THE sha256 OF THE DUMP (.gsa) THAT YtfjdojodbhmmaaaProg.lean LOADS. Nothing in Lean hashes anything: it is a label: what it is worth is what the hold of that sum in a sandbox is worth. -/
noncomputable def Try.pinned : Pinned := { name := "ytfjdojodbhmmaaa", sum := "cbc1ba9578df6812e545da6ff3121ea69b9bb41e31a9ff8eeeb0fa1b0fa8fc64", checked := Try.checked }
namespace Rows
def none {H : Type} : Left H := { results := [], args := [] }

/-- 'assentlaw01.CodecApart': WHATEVER THE INPUT: true; the input reads as it did. -/
def codecApartSpec : ChangeSpec := { name := "codecApart", fn := fun _ => fun
  | [d] => { results := [.lit (.bool true)], args := [d] }
  | _ => none }
def codecApartRow : OpenClaim := { program := "ytfjdojodbhmmaaa", sum := "cbc1ba9578df6812e545da6ff3121ea69b9bb41e31a9ff8eeeb0fa1b0fa8fc64", func := "assent/assentlaw01.CodecApart", spec := "codecApart", apart := false }
def CodecApartSaid : Prop := codecApartRow.holds Try.pinned (OpenSpec.ofChange codecApartSpec)

/-- ITS FALSE NEIGHBOUR: 'it returns false'. Refute it at one input. -/
def codecApartWrong : ChangeSpec := { name := "codecApart", fn := fun _ => fun
  | [d] => { results := [.lit (.bool false)], args := [d] }
  | _ => none }
def CodecApartWrongFalsely : Prop := codecApartRow.holds Try.pinned (OpenSpec.ofChange codecApartWrong)

/-- 'assentlaw01.CodecRoom': WHATEVER THE INPUT: true; the input reads as it did. -/
def codecRoomSpec : ChangeSpec := { name := "codecRoom", fn := fun _ => fun
  | [d1, d2] => { results := [.lit (.bool true)], args := [d1, d2] }
  | _ => none }
def codecRoomRow : OpenClaim := { program := "ytfjdojodbhmmaaa", sum := "cbc1ba9578df6812e545da6ff3121ea69b9bb41e31a9ff8eeeb0fa1b0fa8fc64", func := "assent/assentlaw01.CodecRoom", spec := "codecRoom", unfollowed := true, recurses := true, apart := false }
def CodecRoomSaid : Prop := codecRoomRow.holds Try.pinned (OpenSpec.ofChange codecRoomSpec)

/-- ITS FALSE NEIGHBOUR: 'it returns false'. Refute it at one input. -/
def codecRoomWrong : ChangeSpec := { name := "codecRoom", fn := fun _ => fun
  | [d1, d2] => { results := [.lit (.bool false)], args := [d1, d2] }
  | _ => none }
def CodecRoomWrongFalsely : Prop := codecRoomRow.holds Try.pinned (OpenSpec.ofChange codecRoomWrong)

/-- 'assentlaw01.CodecWrites': WHATEVER THE INPUT: true; the input reads as it did. -/
def codecWritesSpec : ChangeSpec := { name := "codecWrites", fn := fun _ => fun
  | [d] => { results := [.lit (.bool true)], args := [d] }
  | _ => none }
def codecWritesRow : OpenClaim := { program := "ytfjdojodbhmmaaa", sum := "cbc1ba9578df6812e545da6ff3121ea69b9bb41e31a9ff8eeeb0fa1b0fa8fc64", func := "assent/assentlaw01.CodecWrites", spec := "codecWrites", apart := false }
def CodecWritesSaid : Prop := codecWritesRow.holds Try.pinned (OpenSpec.ofChange codecWritesSpec)

/-- ITS FALSE NEIGHBOUR: 'it returns false'. Refute it at one input. -/
def codecWritesWrong : ChangeSpec := { name := "codecWrites", fn := fun _ => fun
  | [d] => { results := [.lit (.bool false)], args := [d] }
  | _ => none }
def CodecWritesWrongFalsely : Prop := codecWritesRow.holds Try.pinned (OpenSpec.ofChange codecWritesWrong)

/-- 'assentlaw01.CodecNils': WHATEVER THE INPUT: true; the input reads as it did. -/
def codecNilsSpec : ChangeSpec := { name := "codecNils", fn := fun _ => fun
  | [d1, d2] => { results := [.lit (.bool true)], args := [d1, d2] }
  | _ => none }
def codecNilsRow : OpenClaim := { program := "ytfjdojodbhmmaaa", sum := "cbc1ba9578df6812e545da6ff3121ea69b9bb41e31a9ff8eeeb0fa1b0fa8fc64", func := "assent/assentlaw01.CodecNils", spec := "codecNils", unfollowed := true, recurses := true, apart := false }
def CodecNilsSaid : Prop := codecNilsRow.holds Try.pinned (OpenSpec.ofChange codecNilsSpec)

/-- ITS FALSE NEIGHBOUR: 'it returns false'. Refute it at one input. -/
def codecNilsWrong : ChangeSpec := { name := "codecNils", fn := fun _ => fun
  | [d1, d2] => { results := [.lit (.bool false)], args := [d1, d2] }
  | _ => none }
def CodecNilsWrongFalsely : Prop := codecNilsRow.holds Try.pinned (OpenSpec.ofChange codecNilsWrong)

/-- 'assentlaw01.CodecOneForm': WHATEVER THE INPUT: true; the input reads as it did. -/
def codecOneFormSpec : ChangeSpec := { name := "codecOneForm", fn := fun _ => fun
  | [d1, d2] => { results := [.lit (.bool true)], args := [d1, d2] }
  | _ => none }
def codecOneFormRow : OpenClaim := { program := "ytfjdojodbhmmaaa", sum := "cbc1ba9578df6812e545da6ff3121ea69b9bb41e31a9ff8eeeb0fa1b0fa8fc64", func := "assent/assentlaw01.CodecOneForm", spec := "codecOneForm", unfollowed := true, recurses := true, apart := false }
def CodecOneFormSaid : Prop := codecOneFormRow.holds Try.pinned (OpenSpec.ofChange codecOneFormSpec)

/-- ITS FALSE NEIGHBOUR: 'it returns false'. Refute it at one input. -/
def codecOneFormWrong : ChangeSpec := { name := "codecOneForm", fn := fun _ => fun
  | [d1, d2] => { results := [.lit (.bool false)], args := [d1, d2] }
  | _ => none }
def CodecOneFormWrongFalsely : Prop := codecOneFormRow.holds Try.pinned (OpenSpec.ofChange codecOneFormWrong)

/-- 'assentlaw01.CodecReads': WHATEVER THE INPUT: true; the input reads as it did. -/
def codecReadsSpec : ChangeSpec := { name := "codecReads", fn := fun _ => fun
  | [d1, d2] => { results := [.lit (.bool true)], args := [d1, d2] }
  | _ => none }
def codecReadsRow : OpenClaim := { program := "ytfjdojodbhmmaaa", sum := "cbc1ba9578df6812e545da6ff3121ea69b9bb41e31a9ff8eeeb0fa1b0fa8fc64", func := "assent/assentlaw01.CodecReads", spec := "codecReads", unfollowed := true, recurses := true, apart := false }
def CodecReadsSaid : Prop := codecReadsRow.holds Try.pinned (OpenSpec.ofChange codecReadsSpec)

/-- ITS FALSE NEIGHBOUR: 'it returns false'. Refute it at one input. -/
def codecReadsWrong : ChangeSpec := { name := "codecReads", fn := fun _ => fun
  | [d1, d2] => { results := [.lit (.bool false)], args := [d1, d2] }
  | _ => none }
def CodecReadsWrongFalsely : Prop := codecReadsRow.holds Try.pinned (OpenSpec.ofChange codecReadsWrong)

/- THE SECOND FORM. 'bulk': how many values and letters a reading holds, each counted each time it is reached (what is shared counts as often as it is met; a slice's spare places count too). A statement '..UptoSaid' is the law's where the arguments, and the package variables that the reading takes, are together of bulk at most 1048576: NARROWER than '..Said'. Prove '..Said' where nothing that the law and all that it calls make is longer than what came in: it says more and counts as full. Else prove '..UptoSaid'. A law counts once. -/
mutual
def uptoBulk {H : Type} : DataW H → Nat
  | .lit (.string bytes) => bytes.length + 1
  | .lit _ => 1
  | .nil => 1
  | .ptr d => uptoBulk d + 1
  | .slice elems spare => uptoBulkAll elems + uptoBulkAll spare + 1
  | .agg parts => uptoBulkAll parts + 1
  | .iface _ d => uptoBulk d + 1
  | .map entries => uptoBulkEntries entries + 1
  | .held _ => 1
def uptoBulkAll {H : Type} : List (DataW H) → Nat
  | [] => 0
  | d :: r => uptoBulk d + uptoBulkAll r
def uptoBulkEntries {H : Type} : List (Lit × DataW H) → Nat
  | [] => 0
  | x :: r => uptoBulkEntry x + uptoBulkEntries r
def uptoBulkEntry {H : Type} : Lit × DataW H → Nat
  | (.string bytes, d) => bytes.length + uptoBulk d + 1
  | (_, d) => uptoBulk d + 1
 end
def uptoSmall : (H : Type) → List (DataW H) → Bool := fun _ ds => decide (uptoBulkAll ds ≤ 1048576)
def OpenSpec.upto (s : _root_.Go.ChangeSpec) : _root_.Go.OpenSpec := { _root_.Go.OpenSpec.ofChange s with cond := some uptoSmall }

/-- 'assentlaw01.CodecApart', WHERE WHAT IT READS IS OF BULK AT MOST 1048576: true; the input reads as it did. -/
def codecApartUptoRow : OpenClaim := { program := "ytfjdojodbhmmaaa", sum := "cbc1ba9578df6812e545da6ff3121ea69b9bb41e31a9ff8eeeb0fa1b0fa8fc64", func := "assent/assentlaw01.CodecApart", spec := "codecApart", apart := false, narrowed := true }
def CodecApartUptoSaid : Prop := codecApartUptoRow.holds Try.pinned (OpenSpec.upto codecApartSpec)

/-- 'assentlaw01.CodecRoom', WHERE WHAT IT READS IS OF BULK AT MOST 1048576: true; the input reads as it did. -/
def codecRoomUptoRow : OpenClaim := { program := "ytfjdojodbhmmaaa", sum := "cbc1ba9578df6812e545da6ff3121ea69b9bb41e31a9ff8eeeb0fa1b0fa8fc64", func := "assent/assentlaw01.CodecRoom", spec := "codecRoom", unfollowed := true, recurses := true, apart := false, narrowed := true }
def CodecRoomUptoSaid : Prop := codecRoomUptoRow.holds Try.pinned (OpenSpec.upto codecRoomSpec)

/-- 'assentlaw01.CodecWrites', WHERE WHAT IT READS IS OF BULK AT MOST 1048576: true; the input reads as it did. -/
def codecWritesUptoRow : OpenClaim := { program := "ytfjdojodbhmmaaa", sum := "cbc1ba9578df6812e545da6ff3121ea69b9bb41e31a9ff8eeeb0fa1b0fa8fc64", func := "assent/assentlaw01.CodecWrites", spec := "codecWrites", apart := false, narrowed := true }
def CodecWritesUptoSaid : Prop := codecWritesUptoRow.holds Try.pinned (OpenSpec.upto codecWritesSpec)

/-- 'assentlaw01.CodecNils', WHERE WHAT IT READS IS OF BULK AT MOST 1048576: true; the input reads as it did. -/
def codecNilsUptoRow : OpenClaim := { program := "ytfjdojodbhmmaaa", sum := "cbc1ba9578df6812e545da6ff3121ea69b9bb41e31a9ff8eeeb0fa1b0fa8fc64", func := "assent/assentlaw01.CodecNils", spec := "codecNils", unfollowed := true, recurses := true, apart := false, narrowed := true }
def CodecNilsUptoSaid : Prop := codecNilsUptoRow.holds Try.pinned (OpenSpec.upto codecNilsSpec)

/-- 'assentlaw01.CodecOneForm', WHERE WHAT IT READS IS OF BULK AT MOST 1048576: true; the input reads as it did. -/
def codecOneFormUptoRow : OpenClaim := { program := "ytfjdojodbhmmaaa", sum := "cbc1ba9578df6812e545da6ff3121ea69b9bb41e31a9ff8eeeb0fa1b0fa8fc64", func := "assent/assentlaw01.CodecOneForm", spec := "codecOneForm", unfollowed := true, recurses := true, apart := false, narrowed := true }
def CodecOneFormUptoSaid : Prop := codecOneFormUptoRow.holds Try.pinned (OpenSpec.upto codecOneFormSpec)

/-- 'assentlaw01.CodecReads', WHERE WHAT IT READS IS OF BULK AT MOST 1048576: true; the input reads as it did. -/
def codecReadsUptoRow : OpenClaim := { program := "ytfjdojodbhmmaaa", sum := "cbc1ba9578df6812e545da6ff3121ea69b9bb41e31a9ff8eeeb0fa1b0fa8fc64", func := "assent/assentlaw01.CodecReads", spec := "codecReads", unfollowed := true, recurses := true, apart := false, narrowed := true }
def CodecReadsUptoSaid : Prop := codecReadsUptoRow.holds Try.pinned (OpenSpec.upto codecReadsSpec)

end Rows
end Go.Proofs.Ytfjdojodbhmmaaa
