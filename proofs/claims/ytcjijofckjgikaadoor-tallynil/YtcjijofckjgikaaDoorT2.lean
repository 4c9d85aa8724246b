/- made, isKind, below, above of a tally that New made; powerOf. -/
import Derived.Test.YtcjijofckjgikaaDoorT1
namespace Go.Proofs.YtcjijofckjgikaaDoor
open Go.RowKit
set_option linter.unusedVariables false

/-- The table of kinds. -/
def LaidK (w : World) : Prop := w.rangeAt 0 0 [.int .i64 1, .int .i64 2]
theorem LaidK.turn {w w' : World} (h : LaidK w) (t : Turn no w w') : LaidK w' := fun j x hx => t.keep (h j x hx) (fun q => q)
section
variable {w : World} {p m g cap : Nat}
theorem Tl.c0 (h : Tl w p m g cap) : w.cell? ⟨p, 0, none⟩ = some (.pointer (some ⟨p, 0, none⟩)) := h.row.cell 0 _ rfl
theorem Tl.c1 (h : Tl w p m g cap) : w.cell? ⟨p, 1, none⟩ = some (.int .u64 1) := h.row.cell 1 _ rfl
theorem Tl.c2 (h : Tl w p m g cap) : w.cell? ⟨p, 2, none⟩ = some (.slice (some ⟨g, 0, none⟩) 1 cap) := h.row.cell 2 _ rfl
theorem Tl.c3 (h : Tl w p m g cap) : w.cell? ⟨p, 3, none⟩ = some (.int .i64 0) := h.row.cell 3 _ rfl
theorem Tl.c4 (h : Tl w p m g cap) : w.cell? ⟨p, 4, none⟩ = some (.map (some m)) := h.row.cell 4 _ rfl
theorem Tl.p0 (h : Tl w p m g cap) : w.cell? ⟨g, 1, none⟩ = some (.int .u64 5) := (h.mem.cells 0 mb1 rfl).2.1
theorem Tl.ms (h : Tl w p m g cap) : Ms w (.slice (some ⟨g, 0, none⟩) 1 cap) [mb1] := ⟨_, _, rfl, h.mem.at⟩
end
theorem eql31_same (a : Addr) (w : World) : (binOp .eql 31 (.pointer (some a)) (.pointer (some a))).run Tryd.prog w = .ok (.bool true) w := by
  obtain ⟨j, hj⟩ := Option.isSome_iff_exists.1 (show (Tryd.prog.info? 37).isSome = true by kernel_rfl)
  exact run_eql_ptr_same w a Tryd.underlying31 hj
theorem made18 (w : World) (p : Nat) (h : w.cell? ⟨p, 0, none⟩ = some (.pointer (some ⟨p, 0, none⟩))) : Calls Tryd.prog 18 #[.pointer (some ⟨p, 0, none⟩)] w fun e w' => e = .returned (.bool true) ∧ w' = w := by
  have e1 := fun a w => eql31_same a w
  go_enter Tryd.func18, Tryd.ntmps18
  go_wp2_with fail
  go_ret
  exact ⟨rfl, rfl⟩
theorem below21 (w : World) (p : Nat) (h : w.cell? ⟨p, 3, none⟩ = some (.int .i64 0)) : Calls Tryd.prog 21 #[.pointer (some ⟨p, 0, none⟩), .int .i64 0] w fun e w' => e = .returned (.bool false) ∧ w' = w := by
  go_enter Tryd.func21, Tryd.ntmps21
  go_wp2_with fail
  go_ret
  exact ⟨rfl, rfl⟩
theorem above22 (w : World) (p : Nat) (h : w.cell? ⟨p, 3, none⟩ = some (.int .i64 0)) : Calls Tryd.prog 22 #[.pointer (some ⟨p, 0, none⟩), .int .i64 0] w fun e w' => e = .returned (.bool false) ∧ w' = w := by
  go_enter Tryd.func22, Tryd.ntmps22
  go_wp2_with fail
  go_ret
  exact ⟨rfl, rfl⟩
theorem size94 : (Tryd.prog.info? 94).map (·.size) = some 2 := by kernel_rfl
theorem index94 (w : World) : (Instr.index 94 (.agg #[.int .i64 1, .int .i64 2]) (.int .i64 0)).run Tryd.prog w = .ok (.int .i64 1) w := by kernel_rfl
set_option maxRecDepth 100000 in
theorem isKind19 (w : World) (hl : LaidK w) : Calls Tryd.prog 19 #[.int .i64 1] w fun e w' => e = .returned (.bool true) ∧ w' = w := by
  have i1 := fun W => index94 W
  go_enter Tryd.func19, Tryd.ntmps19
  go_wp2_with (refine wpList_load_mid rfl 94 (.global 0) rfl 0 0 rfl [.int .i64 1, .int .i64 2] _ hl Tryd.underlying94 rfl size94 ?_)
  go_loopw [6] (fun x wr => x = .int .i64 0 ∧ wr = w) (fun _ _ => 0)
  case atStart => exact ⟨rfl, rfl⟩
  case round =>
    obtain ⟨rfl, rfl⟩ := hrel
    go_wp2_with fail
    go_ret
    exact ⟨rfl, rfl⟩
set_option maxRecDepth 100000 in
theorem powerOf31 (w : World) (p g m cap : Nat) (h : Tl w p m g cap) : Calls Tryd.prog 31 #[.pointer (some ⟨p, 0, none⟩), .int .i64 0] w fun e w' => e = .returned (.int .u64 5) ∧ w' = w := by
  have c1 := h.c2
  have c2 := h.p0
  clear h
  go_enter Tryd.func31, Tryd.ntmps31
  go_wp2_with fail
  go_ret
  exact ⟨rfl, rfl⟩
end Go.Proofs.YtcjijofckjgikaaDoor
