/- made, Known, Count, New of a registry. -/
import Derived.Test.YtnlcngcilojnkabDoorS1
import Derived.Test.YtnlcngcilojnkabDoorH3
namespace Go.Proofs.YtnlcngcilojnkabDoor
open Go.RowKit Go.Maps Go.MuLone
set_option linter.unusedVariables false

theorem eql22_same (a : Addr) (w : World) : (binOp .eql 34 (.pointer (some a)) (.pointer (some a))).run Tryd.prog w = .ok (.bool true) w := by
  obtain ⟨j, hj⟩ := Option.isSome_iff_exists.1 (show (Tryd.prog.info? 75).isSome = true by kernel_rfl)
  exact run_eql_ptr_same w a Tryd.underlying34 hj
theorem eql24_same (a : Addr) (w : World) : (binOp .eql 62 (.pointer (some a)) (.pointer (some a))).run Tryd.prog w = .ok (.bool true) w := by
  obtain ⟨j, hj⟩ := Option.isSome_iff_exists.1 (show (Tryd.prog.info? 102).isSome = true by kernel_rfl)
  exact run_eql_ptr_same w a Tryd.underlying62 hj

theorem made25 (w : World) (p : Nat) (h0 : w.cell? ⟨p, 0, none⟩ = some (.pointer (some ⟨p, 0, none⟩))) : Calls Tryd.prog 31 #[.pointer (some ⟨p, 0, none⟩)] w fun e w' => e = .returned (.bool true) ∧ w' = w := by
  have e1 := fun a w => eql22_same a w
  go_enter Tryd.func31, Tryd.ntmps31
  go_wp2_with fail
  go_ret
  exact ⟨rfl, rfl⟩
theorem made29 (w : World) (p : Nat) (h0 : w.cell? ⟨p, 0, none⟩ = some (.pointer (some ⟨p, 0, none⟩))) : Calls Tryd.prog 48 #[.pointer (some ⟨p, 0, none⟩)] w fun e w' => e = .returned (.bool true) ∧ w' = w := by
  have e1 := fun a w => eql24_same a w
  go_enter Tryd.func48, Tryd.ntmps48
  go_wp2_with fail
  go_ret
  exact ⟨rfl, rfl⟩

section
variable {w : World} {p br bt n : Nat} {D1 D2 : DataW Value}
theorem Reg.c0 (h : Reg w p br bt n D1 D2) : w.cell? ⟨p, 0, none⟩ = some (.pointer (some ⟨p, 0, none⟩)) := Row.cell h.row 0 _ rfl
theorem Reg.c1 (h : Reg w p br bt n D1 D2) : w.cell? ⟨p, 1, none⟩ = some (.int .i32 0) := Row.cell h.row 1 _ rfl
theorem Reg.c3 (h : Reg w p br bt n D1 D2) : w.cell? ⟨p, 3, none⟩ = some (.map (some br)) := Row.cell h.row 3 _ rfl
theorem Reg.c4 (h : Reg w p br bt n D1 D2) : w.cell? ⟨p, 4, none⟩ = some (.map (some bt)) := Row.cell h.row 4 _ rfl
theorem Reg.f1 (h : Reg w p br bt n D1 D2) : w.frozen? ⟨p, 1, none⟩ = false := Row.frozen h.row 1
/-- The world with the lock taken. -/
theorem Reg.held (h : Reg w p br bt n D1 D2) : Row (w.setCell ⟨p, 1, none⟩ (.int .i32 1)) p (regC p br bt 1) 75 := Row.set h.row 1 _
theorem held_turn (w : World) (p : Nat) : Turn (fun k => k = p) w (w.setCell ⟨p, 1, none⟩ (.int .i32 1)) := (Turn.refl (fun k => k = p) w).setCell (p := ⟨p, 1, none⟩) (fun _ => rfl) _
/-- .. and given back. -/
theorem Reg.free {w' : World} (hr : Row w' p (regC p br bt 1) 75) (h1 : w'.ownsMap Tryd.prog 109 unitElem br n D1) (h2 : w'.ownsMap Tryd.prog 28 heldElem bt n D2) (hne : br ≠ bt) : Reg (w'.setCell ⟨p, 1, none⟩ (.int .i32 0)) p br bt n D1 D2 := by
  have n1 : br ≠ p := by
    rintro rfl
    obtain ⟨es, clock, hb, _⟩ := h1
    rw [hr] at hb
    cases hb
  have n2 : bt ≠ p := by
    rintro rfl
    obtain ⟨es, clock, hb, _⟩ := h2
    rw [hr] at hb
    cases hb
  exact ⟨hr.set 1 _, h1.setCell n1 _, h2.setCell n2 _, hne⟩

set_option maxRecDepth 100000 in
set_option maxHeartbeats 1000000 in
theorem count13 (h : Reg w p br bt n D1 D2) : Calls Tryd.prog 11 #[.pointer (some ⟨p, 0, none⟩)] w fun e w' => e = .returned (.int .i64 (size D1)) ∧ Reg w' p br bt n D1 D2 ∧ Turn (fun k => k = p) w w' := by
  have hm := made25 w p h.c0
  have R1 := h.held
  have T1 := held_turn w p
  have hl := lock_free muLib ⟨p, 1, none⟩ w h.c1 h.f1
  have o1 := ownsMap_turn h.recs T1 (fun q => h.ne1 q)
  have o2 := ownsMap_turn h.texts T1 (fun q => h.ne2 q)
  have hlen := fun ty => o1.len Tryd.underlying72 ty
  have c3 : (w.setCell ⟨p, 1, none⟩ (.int .i32 1)).cell? ⟨p, 3, none⟩ = some (.map (some br)) := R1.cell 3 _ rfl
  have hap := h.apart
  clear h
  go_enter_defers Tryd.func11, Tryd.ntmps11
  go_wp2_with fail
  refine hm.mono ?_
  rintro e w' ⟨rfl, rfl⟩
  go_wp2_with fail
  refine hl.mono ?_
  rintro e w' ⟨rfl, rfl⟩
  go_wp2_with fail
  refine leaves_cons (f := 33) (args := #[.pointer (some ⟨p, 1, none⟩)]) (by simp) (by simp [go_sem]) ?_
  refine (unlock_deferred muLib ⟨p, 1, none⟩ .returning _ (R1.cell 1 _ rfl) (R1.frozen 1)).mono ?_
  rintro e u' w'' ⟨rfl, rfl, rfl⟩
  exact ⟨_, results_tmp rfl _ _ _, rfl, Reg.free R1 o1 o2 hap, T1.setCell (fun _ => rfl) _⟩
end
end Go.Proofs.YtnlcngcilojnkabDoor
