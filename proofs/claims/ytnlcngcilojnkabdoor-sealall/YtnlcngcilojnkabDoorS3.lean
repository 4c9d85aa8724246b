/- Known, Enter, New, newSigner, Addr. -/
import Derived.Test.YtnlcngcilojnkabDoorS2
namespace Go.Proofs.YtnlcngcilojnkabDoor
open Go.RowKit Go.Maps Go.MuLone
set_option linter.unusedVariables false
section
variable {w : World} {p br bt n : Nat} {D1 D2 : DataW Value}

set_option maxRecDepth 100000 in
set_option maxHeartbeats 1000000 in
theorem known15 (h : Reg w p br bt n D1 D2) (a : UInt64) : Calls Tryd.prog 23 #[.pointer (some ⟨p, 0, none⟩), .int .u64 a.toNat] w fun e w' => e = .returned (.bool (has D2 (adKey a))) ∧ Reg w' p br bt n D1 D2 ∧ Turn (fun k => k = p) w w' := by
  have hm := made25 w p h.c0
  have R1 := h.held
  have T1 := held_turn w p
  have hl := lock_free muLib ⟨p, 1, none⟩ w h.c1 h.f1
  have o1 := ownsMap_turn h.recs T1 (fun q => h.ne1 q)
  have o2 := ownsMap_turn h.texts T1 (fun q => h.ne2 q)
  obtain ⟨v, ps, hlook, hv⟩ := o2.look_ok law29 Tryd.underlying73 (zero81 _) (zd := .held (.slice none 0 0)) (zp := []) rfl (adKey_of a)
  have c4 : (w.setCell ⟨p, 1, none⟩ (.int .i32 1)).cell? ⟨p, 4, none⟩ = some (.map (some bt)) := R1.cell 4 _ rfl
  have hap := h.apart
  generalize has D2 (adKey a) = B at *
  clear h
  go_enter_defers Tryd.func23, Tryd.ntmps23
  go_wp2_with fail
  refine hm.mono ?_
  rintro e w' ⟨rfl, rfl⟩
  go_wp2_with fail
  refine hl.mono ?_
  rintro e w' ⟨rfl, rfl⟩
  go_wp2_with fail
  refine leaves_cons (f := 33) (args := #[.pointer (some ⟨p, 1, none⟩)]) (by simp) (by simp [go_sem]) ?_
  refine (unlock_deferred muLib ⟨p, 1, none⟩ .returning _ (R1.cell 1 _ rfl) (R1.frozen 1)).mono ?_
  rintro e u' w'' ⟨rfl, rfl, rfl⟩
  exact ⟨_, results_tmp rfl _ _ _, rfl, Reg.free R1 o1 o2 hap, T1.setCell (fun _ => rfl) _⟩

/-- A signer that Enter handed out. -/
def Sg (w : World) (q p : Nat) (a : UInt64) : Prop := Row w q #[.pointer (some ⟨q, 0, none⟩), .pointer (some ⟨p, 0, none⟩), .int .u64 a.toNat] 102

set_option maxRecDepth 100000 in
set_option maxHeartbeats 1000000 in
theorem newSigner28 (w : World) (p : Nat) (a : UInt64) : Calls Tryd.prog 51 #[.pointer (some ⟨p, 0, none⟩), .int .u64 a.toNat] w fun e w' => e = .returned (.pointer (some ⟨w.heap.size, 0, none⟩)) ∧ Sg w' w.heap.size p a ∧ Turn no w w' := by
  go_enter Tryd.func51, Tryd.ntmps51
  go_wp2_with fail
  go_ret
  exact ⟨rfl, Row.new w _ 102, (Turn.refl no w).alloc _⟩

set_option maxRecDepth 100000 in
set_option maxHeartbeats 1000000 in
theorem addr16 (w : World) (q p : Nat) (a : UInt64) (h : Sg w q p a) : Calls Tryd.prog 29 #[.pointer (some ⟨q, 0, none⟩)] w fun e w' => e = .returned (.int .u64 a.toNat) ∧ w' = w := by
  have hm := made29 w q (Row.cell h 0 _ rfl)
  have c2 : w.cell? ⟨q, 2, none⟩ = some (.int .u64 a.toNat) := Row.cell h 2 _ rfl
  go_enter Tryd.func29, Tryd.ntmps29
  go_wp2_with fail
  refine hm.mono ?_
  rintro e w' ⟨rfl, rfl⟩
  go_wp2_with fail
  go_ret
  exact ⟨rfl, rfl⟩

set_option maxRecDepth 100000 in
set_option maxHeartbeats 1000000 in
theorem new9 (w : World) : Calls Tryd.prog 18 #[] w fun e w' => ∃ p br bt, e = .returned (.pointer (some ⟨p, 0, none⟩)) ∧ w.heap.size ≤ p ∧ w.heap.size ≤ br ∧ w.heap.size ≤ bt ∧ Reg w' p br bt 0 (.map []) (.map []) ∧ Turn no w w' := by
  have m1 := fun W => run_makeMap (P := Tryd.prog) 72 W
  have m2 := fun W => run_makeMap (P := Tryd.prog) 73 W
  go_enter Tryd.func18, Tryd.ntmps18
  go_wp2_with fail
  go_ret
  refine ⟨w.heap.size + 1 + 1, w.heap.size, w.heap.size + 1, rfl, by omega, by omega, by omega, ⟨Row.newAt _ _ _ _ (by simp), ?_, ?_, by omega⟩, (((Turn.refl no w).alloc _).alloc _).alloc _⟩
  · exact ((World.ownsMap_made w Tryd.prog 109 unitElem).alloc _).alloc _
  · have := (World.ownsMap_made (w.alloc (.map #[] 0)) Tryd.prog 28 heldElem).alloc (.cells #[.pointer (some ⟨w.heap.size + 1 + 1, 0, none⟩), .int .i32 0, .int .u32 0, .map (some w.heap.size), .map (some (w.heap.size + 1))] 75)
    simpa using this

set_option maxRecDepth 100000 in
set_option maxHeartbeats 1000000 in
theorem enter_zero (h : Reg w p br bt n D1 D2) : Calls Tryd.prog 36 #[.pointer (some ⟨p, 0, none⟩), .int .u64 0] w fun e w' => e = .returned (.tuple #[.pointer none, .int .i64 2]) ∧ w' = w := by
  have hm := made25 w p h.c0
  clear h
  go_enter_defers Tryd.func36, Tryd.ntmps36
  go_wp2_with fail
  refine hm.mono ?_
  rintro e w' ⟨rfl, rfl⟩
  go_wp2_with fail
  exact ⟨_, results_tmp2 rfl _ _ _, rfl, rfl⟩

set_option maxRecDepth 100000 in
set_option maxHeartbeats 2000000 in
theorem enter_new (h : Reg w p br bt n D1 D2) (a : UInt64) (ha : ¬ (a.toNat : Int) = 0) (hno : has D2 (adKey a) = false) (hn : n < maxLen) : Calls Tryd.prog 36 #[.pointer (some ⟨p, 0, none⟩), .int .u64 a.toNat] w fun e w' =>
    ∃ q, e = .returned (.tuple #[.pointer (some ⟨q, 0, none⟩), .int .i64 0]) ∧ w.heap.size ≤ q ∧ Sg w' q p a ∧ Reg w' p br bt (n + 1) D1 (D2.put (adKey a) (.held (.slice none 0 0))) ∧ Turn (fun k => k = p ∨ k = bt) w w' := by
  have hm := made25 w p h.c0
  have R1 := h.held
  have T1 := held_turn w p
  have hl := lock_free muLib ⟨p, 1, none⟩ w h.c1 h.f1
  have n1 := h.ne1
  have n2 := h.ne2
  have o1 := ownsMap_turn h.recs T1 (fun q => n1 q)
  have o2 := ownsMap_turn h.texts T1 (fun q => n2 q)
  obtain ⟨v, ps, hlook, hv⟩ := o2.look_ok law29 Tryd.underlying73 (zero81 _) (zd := .held (.slice none 0 0)) (zp := []) rfl (adKey_of a)
  obtain ⟨w2, hst, o3, mt⟩ := o2.store law29 Tryd.underlying73 hn (adKey_of a) (val := .slice none 0 0) (d := .held (.slice none 0 0)) (ps := []) rfl
  rw [hno] at hlook
  have t2 := mapTurn mt
  have R2 := R1.turn t2 (fun q => n2 q.symm)
  have o4 := (ownsMap_turn o1 t2 (fun q => h.apart q)).mono (Nat.le_succ n)
  have hs := newSigner28 w2 p a
  have c4 : (w.setCell ⟨p, 1, none⟩ (.int .i32 1)).cell? ⟨p, 4, none⟩ = some (.map (some bt)) := R1.cell 4 _ rfl
  have hap := h.apart
  have hsz := T1.size
  have hsz2 := t2.size
  clear h hv
  generalize D2.put (adKey a) (.held (.slice none 0 0)) = D3 at *
  go_enter_defers Tryd.func36, Tryd.ntmps36
  go_wp2_with fail
  refine hm.mono ?_
  rintro e w' ⟨rfl, rfl⟩
  go_wp2_with fail
  refine hl.mono ?_
  rintro e w'' ⟨rfl, rfl⟩
  go_wp2_with fail
  refine hs.mono ?_
  rintro e w3 ⟨rfl, sg, t3⟩
  go_wp2_with fail
  have R3 := R2.turn t3 (fun q => q)
  have T3 : Turn (fun k => k = p ∨ k = bt) w' w3 := ((T1.mono (fun _ _ q => Or.inl q)).trans t2 (fun _ _ q => Or.inr q)).then_no t3
  refine leaves_cons (f := 33) (args := #[.pointer (some ⟨p, 1, none⟩)]) (by simp) (by simp [go_sem]) ?_
  refine (unlock_deferred muLib ⟨p, 1, none⟩ .returning _ (R3.cell 1 _ rfl) (R3.frozen 1)).mono ?_
  rintro e u' w'' ⟨rfl, rfl, rfl⟩
  have hq : w2.heap.size ≠ p := fun q => by have := R2.lt; omega
  refine ⟨_, results_tmp2 rfl _ _ _, w2.heap.size, rfl, by omega, Row.other sg (fun q => hq q.symm) _, Reg.free R3 (ownsMap_turn o4 t3 (fun q => q)) (ownsMap_turn o3 t3 (fun q => q)) hap, T3.setCell (fun _ => Or.inl rfl) _⟩

set_option maxRecDepth 100000 in
set_option maxHeartbeats 2000000 in
theorem enter_twice (h : Reg w p br bt n D1 D2) (a : UInt64) (ha : ¬ (a.toNat : Int) = 0) (hno : has D2 (adKey a) = true) : Calls Tryd.prog 36 #[.pointer (some ⟨p, 0, none⟩), .int .u64 a.toNat] w fun e w' =>
    e = .returned (.tuple #[.pointer none, .int .i64 30]) ∧ Reg w' p br bt n D1 D2 ∧ Turn (fun k => k = p) w w' := by
  have hm := made25 w p h.c0
  have R1 := h.held
  have T1 := held_turn w p
  have hl := lock_free muLib ⟨p, 1, none⟩ w h.c1 h.f1
  have n1 := h.ne1
  have n2 := h.ne2
  have o1 := ownsMap_turn h.recs T1 (fun q => n1 q)
  have o2 := ownsMap_turn h.texts T1 (fun q => n2 q)
  obtain ⟨v, ps, hlook, hv⟩ := o2.look_ok law29 Tryd.underlying73 (zero81 _) (zd := .held (.slice none 0 0)) (zp := []) rfl (adKey_of a)
  rw [hno] at hlook
  have c4 : (w.setCell ⟨p, 1, none⟩ (.int .i32 1)).cell? ⟨p, 4, none⟩ = some (.map (some bt)) := R1.cell 4 _ rfl
  have hap := h.apart
  clear h hv
  go_enter_defers Tryd.func36, Tryd.ntmps36
  go_wp2_with fail
  refine hm.mono ?_
  rintro e w' ⟨rfl, rfl⟩
  go_wp2_with fail
  refine hl.mono ?_
  rintro e w'' ⟨rfl, rfl⟩
  go_wp2_with fail
  refine leaves_cons (f := 33) (args := #[.pointer (some ⟨p, 1, none⟩)]) (by simp) (by simp [go_sem]) ?_
  refine (unlock_deferred muLib ⟨p, 1, none⟩ .returning _ (R1.cell 1 _ rfl) (R1.frozen 1)).mono ?_
  rintro e u' w'' ⟨rfl, rfl, rfl⟩
  exact ⟨_, results_tmp2 rfl _ _ _, rfl, Reg.free R1 o1 o2 hap, T1.setCell (fun _ => rfl) _⟩
end
end Go.Proofs.YtnlcngcilojnkabDoor
