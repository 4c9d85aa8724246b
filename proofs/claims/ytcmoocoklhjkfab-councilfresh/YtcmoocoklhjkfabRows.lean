/-
  No cell of these rows narrows 'for every input' (looked for: loops, veiled, ifaces, maps, wideKeys, modest, calm, conditions, laid).
  DERIVED. THE GIVEN ROWS OF THIS SEAT. 5 by the template 'for every input the law returns true; each argument reads behind the call as it read before'; 0 by the template 'total and deterministic' (their statements: YtcmoocoklhjkfabTotals.lean).
  GIVEN WITH THE SEED: the statements are not yours to turn. If you find one false, say at which input.
  Laid BY PROGRAM, IN A SANDBOX (cutbox-rows.mjs): the forced cells as the released guide's own fill.sh prints them over the translation 7102098c1128a70d… (all of the seat's roots in one cut). By AI agents, Wed Nov 11 2026. No macro, syntax, notation, axiom, sorry.
-/
import Derived.Test.YtcmoocoklhjkfabChecked
import GoSem.Claim
import GoSem.ClaimJoined
import GoSem.ClaimMapViews
import Derived.JoinedTies
import Derived.KernelRfl
namespace Go.Proofs.Ytcmoocoklhjkfab
/- THE CELL 'sum', in the pinned program and in every row, IS THE sha256 OF THE DUMP (.gsa) THAT YtcmoocoklhjkfabProg.lean LOADS. Nothing in Lean hashes anything: it is a label: what it is worth is what the hold of that sum in a sandbox is worth. -/
noncomputable def Try.pinned : Pinned := { name := "ytcmoocoklhjkfab", sum := "7102098c1128a70d979681c3829ba090d7ccf2ce024cfba0faccfac23973c757", checked := Try.checked }
namespace Rows
def none {H : Type} : Left H := { results := [], args := [] }

/-- 'assentlaw05.CouncilTwice': WHATEVER THE INPUT: true; the input reads as it did. -/
def councilTwiceSpec : ChangeSpec := { name := "councilTwice", fn := fun _ => fun
  | [d1, d2, d3] => { results := [.lit (.bool true)], args := [d1, d2, d3] }
  | _ => none }
def councilTwiceRow : OpenClaim := { program := "ytcmoocoklhjkfab", sum := "7102098c1128a70d979681c3829ba090d7ccf2ce024cfba0faccfac23973c757", func := "assent/assentlaw05.CouncilTwice", spec := "councilTwice", unfollowed := true, recurses := true, apart := false }
def CouncilTwiceSaid : Prop := councilTwiceRow.holds Try.pinned (OpenSpec.ofChange councilTwiceSpec)

/-- ITS FALSE NEIGHBOUR: 'it returns false'. Refute it at one input. -/
def councilTwiceWrong : ChangeSpec := { name := "councilTwice", fn := fun _ => fun
  | [d1, d2, d3] => { results := [.lit (.bool false)], args := [d1, d2, d3] }
  | _ => none }
def CouncilTwiceWrongFalsely : Prop := councilTwiceRow.holds Try.pinned (OpenSpec.ofChange councilTwiceWrong)

/-- 'assentlaw05.CouncilBounds': WHATEVER THE INPUT: true; the input reads as it did. -/
def councilBoundsSpec : ChangeSpec := { name := "councilBounds", fn := fun _ => fun
  | [d1, d2] => { results := [.lit (.bool true)], args := [d1, d2] }
  | _ => none }
def councilBoundsRow : OpenClaim := { program := "ytcmoocoklhjkfab", sum := "7102098c1128a70d979681c3829ba090d7ccf2ce024cfba0faccfac23973c757", func := "assent/assentlaw05.CouncilBounds", spec := "councilBounds", unfollowed := true, recurses := true, apart := false }
def CouncilBoundsSaid : Prop := councilBoundsRow.holds Try.pinned (OpenSpec.ofChange councilBoundsSpec)

/-- ITS FALSE NEIGHBOUR: 'it returns false'. Refute it at one input. -/
def councilBoundsWrong : ChangeSpec := { name := "councilBounds", fn := fun _ => fun
  | [d1, d2] => { results := [.lit (.bool false)], args := [d1, d2] }
  | _ => none }
def CouncilBoundsWrongFalsely : Prop := councilBoundsRow.holds Try.pinned (OpenSpec.ofChange councilBoundsWrong)

/-- 'assentlaw05.CouncilWaits': WHATEVER THE INPUT: true; the input reads as it did. -/
def councilWaitsSpec : ChangeSpec := { name := "councilWaits", fn := fun _ => fun
  | [d1, d2, d3] => { results := [.lit (.bool true)], args := [d1, d2, d3] }
  | _ => none }
def councilWaitsRow : OpenClaim := { program := "ytcmoocoklhjkfab", sum := "7102098c1128a70d979681c3829ba090d7ccf2ce024cfba0faccfac23973c757", func := "assent/assentlaw05.CouncilWaits", spec := "councilWaits", unfollowed := true, recurses := true, apart := false }
def CouncilWaitsSaid : Prop := councilWaitsRow.holds Try.pinned (OpenSpec.ofChange councilWaitsSpec)

/-- ITS FALSE NEIGHBOUR: 'it returns false'. Refute it at one input. -/
def councilWaitsWrong : ChangeSpec := { name := "councilWaits", fn := fun _ => fun
  | [d1, d2, d3] => { results := [.lit (.bool false)], args := [d1, d2, d3] }
  | _ => none }
def CouncilWaitsWrongFalsely : Prop := councilWaitsRow.holds Try.pinned (OpenSpec.ofChange councilWaitsWrong)

/-- 'assentlaw05.CouncilRenews': WHATEVER THE INPUT: true; the input reads as it did. -/
def councilRenewsSpec : ChangeSpec := { name := "councilRenews", fn := fun _ => fun
  | [d1, d2] => { results := [.lit (.bool true)], args := [d1, d2] }
  | _ => none }
def councilRenewsRow : OpenClaim := { program := "ytcmoocoklhjkfab", sum := "7102098c1128a70d979681c3829ba090d7ccf2ce024cfba0faccfac23973c757", func := "assent/assentlaw05.CouncilRenews", spec := "councilRenews", unfollowed := true, recurses := true, apart := false }
def CouncilRenewsSaid : Prop := councilRenewsRow.holds Try.pinned (OpenSpec.ofChange councilRenewsSpec)

/-- ITS FALSE NEIGHBOUR: 'it returns false'. Refute it at one input. -/
def councilRenewsWrong : ChangeSpec := { name := "councilRenews", fn := fun _ => fun
  | [d1, d2] => { results := [.lit (.bool false)], args := [d1, d2] }
  | _ => none }
def CouncilRenewsWrongFalsely : Prop := councilRenewsRow.holds Try.pinned (OpenSpec.ofChange councilRenewsWrong)

/-- 'assentlaw05.CouncilFresh': WHATEVER THE INPUT: true; the input reads as it did. -/
def councilFreshSpec : ChangeSpec := { name := "councilFresh", fn := fun _ => fun
  | [d1, d2, d3] => { results := [.lit (.bool true)], args := [d1, d2, d3] }
  | _ => none }
def councilFreshRow : OpenClaim := { program := "ytcmoocoklhjkfab", sum := "7102098c1128a70d979681c3829ba090d7ccf2ce024cfba0faccfac23973c757", func := "assent/assentlaw05.CouncilFresh", spec := "councilFresh", unfollowed := true, recurses := true, apart := false }
def CouncilFreshSaid : Prop := councilFreshRow.holds Try.pinned (OpenSpec.ofChange councilFreshSpec)

/-- ITS FALSE NEIGHBOUR: 'it returns false'. Refute it at one input. -/
def councilFreshWrong : ChangeSpec := { name := "councilFresh", fn := fun _ => fun
  | [d1, d2, d3] => { results := [.lit (.bool false)], args := [d1, d2, d3] }
  | _ => none }
def CouncilFreshWrongFalsely : Prop := councilFreshRow.holds Try.pinned (OpenSpec.ofChange councilFreshWrong)

/- THE SECOND FORM. 'bulk': how many values and letters a reading holds, each counted each time it is reached (what is shared counts as often as it is met; a slice's spare places count too). A statement '..UptoSaid' is the law's where the arguments, and the package variables that the reading takes, are together of bulk at most 1048576: NARROWER than '..Said'. Prove '..Said' where nothing that the law and all that it calls make is longer than what came in: it says more and counts as full. Else prove '..UptoSaid'. A law counts once. -/
mutual
def uptoBulk {H : Type} : DataW H → Nat
  | .lit (.string bytes) => bytes.length + 1
  | .lit _ => 1
  | .nil => 1
  | .ptr d => uptoBulk d + 1
  | .slice elems spare => uptoBulkAll elems + uptoBulkAll spare + 1
  | .agg parts => uptoBulkAll parts + 1
  | .iface _ d => uptoBulk d + 1
  | .map entries => uptoBulkEntries entries + 1
  | .held _ => 1
def uptoBulkAll {H : Type} : List (DataW H) → Nat
  | [] => 0
  | d :: r => uptoBulk d + uptoBulkAll r
def uptoBulkEntries {H : Type} : List (Lit × DataW H) → Nat
  | [] => 0
  | x :: r => uptoBulkEntry x + uptoBulkEntries r
def uptoBulkEntry {H : Type} : Lit × DataW H → Nat
  | (.string bytes, d) => bytes.length + uptoBulk d + 1
  | (_, d) => uptoBulk d + 1
 end
def uptoSmall : (H : Type) → List (DataW H) → Bool := fun _ ds => decide (uptoBulkAll ds ≤ 1048576)
def OpenSpec.upto (s : _root_.Go.ChangeSpec) : _root_.Go.OpenSpec := { _root_.Go.OpenSpec.ofChange s with cond := some uptoSmall }

/-- 'assentlaw05.CouncilTwice', WHERE WHAT IT READS IS OF BULK AT MOST 1048576: true; the input reads as it did. -/
def councilTwiceUptoRow : OpenClaim := { program := "ytcmoocoklhjkfab", sum := "7102098c1128a70d979681c3829ba090d7ccf2ce024cfba0faccfac23973c757", func := "assent/assentlaw05.CouncilTwice", spec := "councilTwice", unfollowed := true, recurses := true, apart := false, narrowed := true }
def CouncilTwiceUptoSaid : Prop := councilTwiceUptoRow.holds Try.pinned (OpenSpec.upto councilTwiceSpec)

/-- 'assentlaw05.CouncilBounds', WHERE WHAT IT READS IS OF BULK AT MOST 1048576: true; the input reads as it did. -/
def councilBoundsUptoRow : OpenClaim := { program := "ytcmoocoklhjkfab", sum := "7102098c1128a70d979681c3829ba090d7ccf2ce024cfba0faccfac23973c757", func := "assent/assentlaw05.CouncilBounds", spec := "councilBounds", unfollowed := true, recurses := true, apart := false, narrowed := true }
def CouncilBoundsUptoSaid : Prop := councilBoundsUptoRow.holds Try.pinned (OpenSpec.upto councilBoundsSpec)

/-- 'assentlaw05.CouncilWaits', WHERE WHAT IT READS IS OF BULK AT MOST 1048576: true; the input reads as it did. -/
def councilWaitsUptoRow : OpenClaim := { program := "ytcmoocoklhjkfab", sum := "7102098c1128a70d979681c3829ba090d7ccf2ce024cfba0faccfac23973c757", func := "assent/assentlaw05.CouncilWaits", spec := "councilWaits", unfollowed := true, recurses := true, apart := false, narrowed := true }
def CouncilWaitsUptoSaid : Prop := councilWaitsUptoRow.holds Try.pinned (OpenSpec.upto councilWaitsSpec)

/-- 'assentlaw05.CouncilRenews', WHERE WHAT IT READS IS OF BULK AT MOST 1048576: true; the input reads as it did. -/
def councilRenewsUptoRow : OpenClaim := { program := "ytcmoocoklhjkfab", sum := "7102098c1128a70d979681c3829ba090d7ccf2ce024cfba0faccfac23973c757", func := "assent/assentlaw05.CouncilRenews", spec := "councilRenews", unfollowed := true, recurses := true, apart := false, narrowed := true }
def CouncilRenewsUptoSaid : Prop := councilRenewsUptoRow.holds Try.pinned (OpenSpec.upto councilRenewsSpec)

/-- 'assentlaw05.CouncilFresh', WHERE WHAT IT READS IS OF BULK AT MOST 1048576: true; the input reads as it did. -/
def councilFreshUptoRow : OpenClaim := { program := "ytcmoocoklhjkfab", sum := "7102098c1128a70d979681c3829ba090d7ccf2ce024cfba0faccfac23973c757", func := "assent/assentlaw05.CouncilFresh", spec := "councilFresh", unfollowed := true, recurses := true, apart := false, narrowed := true }
def CouncilFreshUptoSaid : Prop := councilFreshUptoRow.holds Try.pinned (OpenSpec.upto councilFreshSpec)

end Rows
end Go.Proofs.Ytcmoocoklhjkfab
