/- The ledger's Root: the document's. -/
import Derived.Test.YtaoigopjfelgpaaGreatDoorPa
import Derived.Test.YtaoigopjfelgpaaGreatDoorGd
import Derived.Test.YtaoigopjfelgpaaGreatDoorY2
namespace Go.Proofs.YtaoigopjfelgpaaGreatDoor
open Go.RowKit
set_option linter.unusedVariables false

/-- A ledger's root. -/
def acR (l : List Ac) : List UInt8 := hashOf (rtT (forms l))
def lrH (b s : Nat) (l : List Ac) (r : List Rl) : List UInt8 := if ledE b l r s = 0 then inH (acR l) (hashOf (restB b s r)) else z32
theorem led_small {b s : Nat} {l : List Ac} {r : List Rl} (h : ledE b l r s = 0) : l.length ≤ 65536 ∧ r.length ≤ 65536 := by
  unfold ledE at h
  split at h
  · cases h
  · omega
theorem form_small (l : List Ac) : ∀ x ∈ forms l, x.length ≤ 1048576 := fun x hx => by
  obtain ⟨m, _, rfl⟩ := List.mem_map.1 hx
  rw [formB_len]
  omega
def ldA (va vr : Value) (b s : Nat) : Array Value := #[va, vr, .int .u64 b, .int .u64 s]
theorem ld_one {va vr : Value} (b s : Nat) (h1 : va.oneCell' = true) (h2 : vr.oneCell' = true) : ∀ u ∈ (ldA va vr b s).toList, u.oneCell' = true := by
  intro u hu
  simp [ldA] at hu
  rcases hu with rfl | rfl | rfl | rfl
  · exact h1
  · exact h2
  · rfl
  · rfl
theorem ld_info (va vr : Value) (b s : Nat) : (Tryz.prog.info? 30).map (·.size) = some (ldA va vr b s).size := by kernel_rfl
end Go.Proofs.YtaoigopjfelgpaaGreatDoor

