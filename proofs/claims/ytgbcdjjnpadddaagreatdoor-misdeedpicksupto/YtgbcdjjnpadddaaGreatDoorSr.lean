/- Texts in one. -/
import Derived.Test.YtgbcdjjnpadddaaGreatDoorBase
import Derived.Test.YtgbcdjjnpadddaaGreatDoorLocks
import Derived.Maps.OwnSet
import Derived.DeepKeys4
import Derived.Test.YtgbcdjjnpadddaaGreatDoorHa
import Derived.Deep.RegionHeld3
/- Keys of the book's two maps; the shape of a registry and of a signer. -/
namespace Go.Proofs.YtgbcdjjnpadddaaGreatDoor
open Go.RowKit Go.Maps
set_option linter.unusedVariables false

theorem laidOut : laidOutB Tryz.prog = true := by kernel_rfl
theorem row86 : (182 : TypeId) < Tryz.prog.types.size := of_decide_eq_true (by kernel_rfl)
theorem cells86 : Tryz.prog.cellsOf 182 = 2 := by kernel_rfl
theorem cells29 : Tryz.prog.cellsOf 46 = 1 := by kernel_rfl
theorem cells9 : Tryz.prog.cellsOf 9 = 1 := by kernel_rfl
theorem wide86 : (match Tryz.prog.underlying 182 with | some (.array _ _) | some (.struct _) => true | _ => false) = true := by rw [Tryz.underlying182]
set_option maxRecDepth 100000 in
theorem law86 : Keyed Tryz.prog 182 := Keyed.of_law (deep_law_laid laidOut (m := 2) (by omega) row86 (by kernel_rfl) wide86)
theorem law29 : Keyed Tryz.prog 46 := int_keyed Tryz.underlying46

/-- A record as the program has it. -/
def recV (a : UInt64) (s : ByteArray) : Value := .agg #[.int .u64 a.toNat, .string s]
theorem u64_wf (a : UInt64) : (Lit.int .u64 (a.toNat : Int)).wf = true := by
  have := a.toNat_lt
  simp only [Lit.wf, Bool.and_eq_true, decide_eq_true_eq]
  constructor
  · rw [show IntKind.u64.min = 0 by decide]; omega
  · rw [show IntKind.u64.max = 18446744073709551615 by decide]; omega
theorem key86 : Tryz.prog.keyType 182 = true := by kernel_rfl
theorem keyOf_two {P : Program} {t k1 k2 : TypeId} {fs : Array Field} {f1 f2 : Field} (ht : P.underlying t = some (.struct fs)) (hfs : fs = #[f1, f2]) (h1 : f1.type = k1) (h2 : f2.type = k2) (o1 : f1.offset = 0) (o2 : f2.offset = 1) (n1 : f1.name ≠ "_") (n2 : f2.name ≠ "_")
    (hk1 : P.underlying k1 = some (.int .u64)) (hk2 : P.underlying k2 = some .string) (hc : P.cellsOf t = 2) (hc1 : P.cellsOf k1 = 1) (hc2 : P.cellsOf k2 = 1) (hk : P.keyType t = true) (hn : 1 ≤ P.types.size) (a : Int) (s : ByteArray) (ha : (Lit.int .u64 a).wf = true) (hs : s.size ≤ maxLen) :
    ∃ kl, keyOf P t (.agg #[.int .u64 a, .string s]) = some kl := by
  obtain ⟨m, hm⟩ : ∃ m, P.types.size = m + 1 := ⟨P.types.size - 1, by omega⟩
  subst hfs
  unfold keyOf
  rw [ht]
  simp only [hk, Bool.true_and]
  rw [if_pos (by simp [Value.formed, ht, hc]), hm]
  simp [Value.cells, Program.keyLits, ht, hk1, hk2, hc, hc1, hc2, h1, h2, o1, o2, n1, n2, ha, hs]
set_option maxRecDepth 100000 in
theorem recKey_is (a : UInt64) (s : ByteArray) (hs : s.size ≤ maxLen) : ∃ kl, keyOf Tryz.prog 182 (recV a s) = some kl :=
  keyOf_two Tryz.underlying182 rfl rfl rfl rfl rfl (by decide) (by decide) Tryz.underlying46 Tryz.underlying9 cells86 cells29 cells9 key86 (by have : 182 < Tryz.prog.types.size := row86; omega) _ s (u64_wf a) hs
def recKey (P : Program) (a : UInt64) (s : ByteArray) : Lit := (keyOf P 182 (recV a s)).getD (.bool true)
theorem recKey_of (a : UInt64) (s : ByteArray) (hs : s.size ≤ maxLen) : keyOf Tryz.prog 182 (recV a s) = some (recKey Tryz.prog a s) := by
  obtain ⟨kl, h⟩ := recKey_is a s hs
  rw [recKey, h]; rfl
theorem recKey_inj {a b : UInt64} {s t : ByteArray} (hs : s.size ≤ maxLen) (ht : t.size ≤ maxLen) (h : recKey Tryz.prog a s = recKey Tryz.prog b t) : a = b ∧ s = t := by
  have k1 := recKey_of a s hs
  have k2 := recKey_of b t ht
  rw [← h] at k2
  have := law86.inj k1 k2
  simp [recV] at this
  exact ⟨UInt64.toNat_inj.1 (by omega), this.2⟩
def adKey (a : UInt64) : Lit := .int .u64 a.toNat
theorem adKey_of (a : UInt64) : keyOf Tryz.prog 46 (.int .u64 a.toNat) = some (adKey a) := keyOf_int_mk Tryz.underlying46 (u64_wf a)
theorem adKey_inj {a b : UInt64} (h : adKey a = adKey b) : a = b := by
  simp [adKey] at h
  exact UInt64.toNat_inj.1 (by omega)

/-- An element that is held as it is. -/
def heldElem (v : Value) : Option (DataW Value × List MemPlace) := some (.held v, [])
theorem zero81 (w : World) : (zeroValue 140).run Tryz.prog w = .ok (.slice none 0 0) w := by kernel_rfl
theorem zero47 (w : World) : (zeroValue 127).run Tryz.prog w = .ok (.agg #[]) w := by kernel_rfl

/-- The registry's cells. -/
def regC (p br bt : Nat) (l : Int) : Array Value := #[.pointer (some ⟨p, 0, none⟩), .int .i32 l, .int .u32 0, .map (some br), .map (some bt)]
/-- A registry that New made: at p, its maps at br and bt; they read as D1, D2. -/
structure Reg (w : World) (p br bt n : Nat) (D1 D2 : DataW Value) : Prop where
  row : w.heap[p]? = some (.cells (regC p br bt 0) 135 (0, 0))
  recs : w.ownsMap Tryz.prog 182 unitElem br n D1
  texts : w.ownsMap Tryz.prog 46 heldElem bt n D2
  apart : br ≠ bt

theorem ownsMap_turn {S : Nat → Prop} {w w' : World} {k : TypeId} {R : Value → Option (DataW Value × List MemPlace)} {b n : Nat} {D : DataW Value} (h : w.ownsMap Tryz.prog k R b n D) (t : Turn S w w') (hn : ¬ S b) : w'.ownsMap Tryz.prog k R b n D := by
  obtain ⟨es, clock, hb, r⟩ := h
  exact ⟨es, clock, t.obj hb hn, r⟩
theorem Reg.turn {S : Nat → Prop} {w w' : World} {p br bt n : Nat} {D1 D2 : DataW Value} (h : Reg w p br bt n D1 D2) (t : Turn S w w') (hp : ¬ S p) (hr : ¬ S br) (ht : ¬ S bt) : Reg w' p br bt n D1 D2 :=
  ⟨t.obj h.row hp, ownsMap_turn h.recs t hr, ownsMap_turn h.texts t ht, h.apart⟩
theorem Reg.ne1 {w : World} {p br bt n : Nat} {D1 D2 : DataW Value} (h : Reg w p br bt n D1 D2) : br ≠ p := by
  rintro rfl
  obtain ⟨es, clock, hb, _⟩ := h.recs
  rw [h.row] at hb
  cases hb
theorem Reg.ne2 {w : World} {p br bt n : Nat} {D1 D2 : DataW Value} (h : Reg w p br bt n D1 D2) : bt ≠ p := by
  rintro rfl
  obtain ⟨es, clock, hb, _⟩ := h.texts
  rw [h.row] at hb
  cases hb
theorem mapTurn {w w' : World} {b : Nat} (h : w.mapTurned w' b) : Turn (fun k => k = b) w w' :=
  (Turn.refl _ w).grown h.grown (fun k q _ => (Option.some.inj q).symm)
end Go.Proofs.YtgbcdjjnpadddaaGreatDoor



/- made, Known, Count, New of a registry. -/
namespace Go.Proofs.YtgbcdjjnpadddaaGreatDoor
open Go.RowKit Go.Maps Go.MuLone
set_option linter.unusedVariables false

theorem eql22_same (a : Addr) (w : World) : (binOp .eql 60 (.pointer (some a)) (.pointer (some a))).run Tryz.prog w = .ok (.bool true) w := by
  obtain ⟨j, hj⟩ := Option.isSome_iff_exists.1 (show (Tryz.prog.info? 135).isSome = true by kernel_rfl)
  exact run_eql_ptr_same w a Tryz.underlying60 hj
theorem eql24_same (a : Addr) (w : World) : (binOp .eql 88 (.pointer (some a)) (.pointer (some a))).run Tryz.prog w = .ok (.bool true) w := by
  obtain ⟨j, hj⟩ := Option.isSome_iff_exists.1 (show (Tryz.prog.info? 175).isSome = true by kernel_rfl)
  exact run_eql_ptr_same w a Tryz.underlying88 hj

theorem made25 (w : World) (p : Nat) (h0 : w.cell? ⟨p, 0, none⟩ = some (.pointer (some ⟨p, 0, none⟩))) : Calls Tryz.prog 48 #[.pointer (some ⟨p, 0, none⟩)] w fun e w' => e = .returned (.bool true) ∧ w' = w := by
  have e1 := fun a w => eql22_same a w
  go_enter Tryz.func48, Tryz.ntmps48
  go_wp2_with fail
  go_ret
  exact ⟨rfl, rfl⟩
theorem made29 (w : World) (p : Nat) (h0 : w.cell? ⟨p, 0, none⟩ = some (.pointer (some ⟨p, 0, none⟩))) : Calls Tryz.prog 84 #[.pointer (some ⟨p, 0, none⟩)] w fun e w' => e = .returned (.bool true) ∧ w' = w := by
  have e1 := fun a w => eql24_same a w
  go_enter Tryz.func84, Tryz.ntmps84
  go_wp2_with fail
  go_ret
  exact ⟨rfl, rfl⟩

section
variable {w : World} {p br bt n : Nat} {D1 D2 : DataW Value}
theorem Reg.c0 (h : Reg w p br bt n D1 D2) : w.cell? ⟨p, 0, none⟩ = some (.pointer (some ⟨p, 0, none⟩)) := Row.cell h.row 0 _ rfl
theorem Reg.c1 (h : Reg w p br bt n D1 D2) : w.cell? ⟨p, 1, none⟩ = some (.int .i32 0) := Row.cell h.row 1 _ rfl
theorem Reg.c3 (h : Reg w p br bt n D1 D2) : w.cell? ⟨p, 3, none⟩ = some (.map (some br)) := Row.cell h.row 3 _ rfl
theorem Reg.c4 (h : Reg w p br bt n D1 D2) : w.cell? ⟨p, 4, none⟩ = some (.map (some bt)) := Row.cell h.row 4 _ rfl
theorem Reg.f1 (h : Reg w p br bt n D1 D2) : w.frozen? ⟨p, 1, none⟩ = false := Row.frozen h.row 1
/-- The world with the lock taken. -/
theorem Reg.held (h : Reg w p br bt n D1 D2) : Row (w.setCell ⟨p, 1, none⟩ (.int .i32 1)) p (regC p br bt 1) 135 := Row.set h.row 1 _
theorem held_turn (w : World) (p : Nat) : Turn (fun k => k = p) w (w.setCell ⟨p, 1, none⟩ (.int .i32 1)) := (Turn.refl (fun k => k = p) w).setCell (p := ⟨p, 1, none⟩) (fun _ => rfl) _
/-- .. and given back. -/
theorem Reg.free {w' : World} (hr : Row w' p (regC p br bt 1) 135) (h1 : w'.ownsMap Tryz.prog 182 unitElem br n D1) (h2 : w'.ownsMap Tryz.prog 46 heldElem bt n D2) (hne : br ≠ bt) : Reg (w'.setCell ⟨p, 1, none⟩ (.int .i32 0)) p br bt n D1 D2 := by
  have n1 : br ≠ p := by
    rintro rfl
    obtain ⟨es, clock, hb, _⟩ := h1
    rw [hr] at hb
    cases hb
  have n2 : bt ≠ p := by
    rintro rfl
    obtain ⟨es, clock, hb, _⟩ := h2
    rw [hr] at hb
    cases hb
  exact ⟨hr.set 1 _, h1.setCell n1 _, h2.setCell n2 _, hne⟩

end
end Go.Proofs.YtgbcdjjnpadddaaGreatDoor



/- Known, Enter, New, newSigner, Addr. -/
namespace Go.Proofs.YtgbcdjjnpadddaaGreatDoor
open Go.RowKit Go.Maps Go.MuLone
set_option linter.unusedVariables false
section
variable {w : World} {p br bt n : Nat} {D1 D2 : DataW Value}

/-- A signer that Enter handed out. -/
def Sg (w : World) (q p : Nat) (a : UInt64) : Prop := Row w q #[.pointer (some ⟨q, 0, none⟩), .pointer (some ⟨p, 0, none⟩), .int .u64 a.toNat] 175

set_option maxRecDepth 100000 in
set_option maxHeartbeats 1000000 in
theorem newSigner28 (w : World) (p : Nat) (a : UInt64) : Calls Tryz.prog 51 #[.pointer (some ⟨p, 0, none⟩), .int .u64 a.toNat] w fun e w' => e = .returned (.pointer (some ⟨w.heap.size, 0, none⟩)) ∧ Sg w' w.heap.size p a ∧ Turn no w w' := by
  go_enter Tryz.func51, Tryz.ntmps51
  go_wp2_with fail
  go_ret
  exact ⟨rfl, Row.new w _ 175, (Turn.refl no w).alloc _⟩

set_option maxRecDepth 100000 in
set_option maxHeartbeats 1000000 in
theorem new9 (w : World) : Calls Tryz.prog 22 #[] w fun e w' => ∃ p br bt, e = .returned (.pointer (some ⟨p, 0, none⟩)) ∧ w.heap.size ≤ p ∧ w.heap.size ≤ br ∧ w.heap.size ≤ bt ∧ Reg w' p br bt 0 (.map []) (.map []) ∧ Turn no w w' := by
  have m1 := fun W => run_makeMap (P := Tryz.prog) 125 W
  have m2 := fun W => run_makeMap (P := Tryz.prog) 126 W
  go_enter Tryz.func22, Tryz.ntmps22
  go_wp2_with fail
  go_ret
  refine ⟨w.heap.size + 1 + 1, w.heap.size, w.heap.size + 1, rfl, by omega, by omega, by omega, ⟨Row.newAt _ _ _ _ (by simp), ?_, ?_, by omega⟩, (((Turn.refl no w).alloc _).alloc _).alloc _⟩
  · exact ((World.ownsMap_made w Tryz.prog 182 unitElem).alloc _).alloc _
  · have := (World.ownsMap_made (w.alloc (.map #[] 0)) Tryz.prog 46 heldElem).alloc (.cells #[.pointer (some ⟨w.heap.size + 1 + 1, 0, none⟩), .int .i32 0, .int .u32 0, .map (some w.heap.size), .map (some (w.heap.size + 1))] 135)
    simpa using this

set_option maxRecDepth 100000 in
set_option maxHeartbeats 1000000 in
theorem enter_zero (h : Reg w p br bt n D1 D2) : Calls Tryz.prog 25 #[.pointer (some ⟨p, 0, none⟩), .int .u64 0] w fun e w' => e = .returned (.tuple #[.pointer none, .int .i64 2]) ∧ w' = w := by
  have hm := made25 w p h.c0
  clear h
  go_enter_defers Tryz.func25, Tryz.ntmps25
  go_wp2_with fail
  refine hm.mono ?_
  rintro e w' ⟨rfl, rfl⟩
  go_wp2_with fail
  exact ⟨_, results_tmp2 rfl _ _ _, rfl, rfl⟩

set_option maxRecDepth 100000 in
set_option maxHeartbeats 2000000 in
theorem enter_new (h : Reg w p br bt n D1 D2) (a : UInt64) (ha : ¬ (a.toNat : Int) = 0) (hno : has D2 (adKey a) = false) (hn : n < maxLen) : Calls Tryz.prog 25 #[.pointer (some ⟨p, 0, none⟩), .int .u64 a.toNat] w fun e w' =>
    ∃ q, e = .returned (.tuple #[.pointer (some ⟨q, 0, none⟩), .int .i64 0]) ∧ w.heap.size ≤ q ∧ Sg w' q p a ∧ Reg w' p br bt (n + 1) D1 (D2.put (adKey a) (.held (.slice none 0 0))) ∧ Turn (fun k => k = p ∨ k = bt) w w' := by
  have hm := made25 w p h.c0
  have R1 := h.held
  have T1 := held_turn w p
  have hl := lock_free muLib ⟨p, 1, none⟩ w h.c1 h.f1
  have n1 := h.ne1
  have n2 := h.ne2
  have o1 := ownsMap_turn h.recs T1 (fun q => n1 q)
  have o2 := ownsMap_turn h.texts T1 (fun q => n2 q)
  obtain ⟨v, ps, hlook, hv⟩ := o2.look_ok law29 Tryz.underlying126 (zero81 _) (zd := .held (.slice none 0 0)) (zp := []) rfl (adKey_of a)
  obtain ⟨w2, hst, o3, mt⟩ := o2.store law29 Tryz.underlying126 hn (adKey_of a) (val := .slice none 0 0) (d := .held (.slice none 0 0)) (ps := []) rfl
  rw [hno] at hlook
  have t2 := mapTurn mt
  have R2 := R1.turn t2 (fun q => n2 q.symm)
  have o4 := (ownsMap_turn o1 t2 (fun q => h.apart q)).mono (Nat.le_succ n)
  have hs := newSigner28 w2 p a
  have c4 : (w.setCell ⟨p, 1, none⟩ (.int .i32 1)).cell? ⟨p, 4, none⟩ = some (.map (some bt)) := R1.cell 4 _ rfl
  have hap := h.apart
  have hsz := T1.size
  have hsz2 := t2.size
  clear h hv
  generalize D2.put (adKey a) (.held (.slice none 0 0)) = D3 at *
  go_enter_defers Tryz.func25, Tryz.ntmps25
  go_wp2_with fail
  refine hm.mono ?_
  rintro e w' ⟨rfl, rfl⟩
  go_wp2_with fail
  refine hl.mono ?_
  rintro e w'' ⟨rfl, rfl⟩
  go_wp2_with fail
  refine hs.mono ?_
  rintro e w3 ⟨rfl, sg, t3⟩
  go_wp2_with fail
  have R3 := R2.turn t3 (fun q => q)
  have T3 : Turn (fun k => k = p ∨ k = bt) w' w3 := ((T1.mono (fun _ _ q => Or.inl q)).trans t2 (fun _ _ q => Or.inr q)).then_no t3
  refine leaves_cons (f := 50) (args := #[.pointer (some ⟨p, 1, none⟩)]) (by simp) (by simp [go_sem]) ?_
  refine (unlock_deferred muLib ⟨p, 1, none⟩ .returning _ (R3.cell 1 _ rfl) (R3.frozen 1)).mono ?_
  rintro e u' w'' ⟨rfl, rfl, rfl⟩
  have hq : w2.heap.size ≠ p := fun q => by have := R2.lt; omega
  refine ⟨_, results_tmp2 rfl _ _ _, w2.heap.size, rfl, by omega, Row.other sg (fun q => hq q.symm) _, Reg.free R3 (ownsMap_turn o4 t3 (fun q => q)) (ownsMap_turn o3 t3 (fun q => q)) hap, T3.setCell (fun _ => Or.inl rfl) _⟩

set_option maxRecDepth 100000 in
set_option maxHeartbeats 2000000 in
theorem enter_twice (h : Reg w p br bt n D1 D2) (a : UInt64) (ha : ¬ (a.toNat : Int) = 0) (hno : has D2 (adKey a) = true) : Calls Tryz.prog 25 #[.pointer (some ⟨p, 0, none⟩), .int .u64 a.toNat] w fun e w' =>
    e = .returned (.tuple #[.pointer none, .int .i64 30]) ∧ Reg w' p br bt n D1 D2 ∧ Turn (fun k => k = p) w w' := by
  have hm := made25 w p h.c0
  have R1 := h.held
  have T1 := held_turn w p
  have hl := lock_free muLib ⟨p, 1, none⟩ w h.c1 h.f1
  have n1 := h.ne1
  have n2 := h.ne2
  have o1 := ownsMap_turn h.recs T1 (fun q => n1 q)
  have o2 := ownsMap_turn h.texts T1 (fun q => n2 q)
  obtain ⟨v, ps, hlook, hv⟩ := o2.look_ok law29 Tryz.underlying126 (zero81 _) (zd := .held (.slice none 0 0)) (zp := []) rfl (adKey_of a)
  rw [hno] at hlook
  have c4 : (w.setCell ⟨p, 1, none⟩ (.int .i32 1)).cell? ⟨p, 4, none⟩ = some (.map (some bt)) := R1.cell 4 _ rfl
  have hap := h.apart
  clear h hv
  go_enter_defers Tryz.func25, Tryz.ntmps25
  go_wp2_with fail
  refine hm.mono ?_
  rintro e w' ⟨rfl, rfl⟩
  go_wp2_with fail
  refine hl.mono ?_
  rintro e w'' ⟨rfl, rfl⟩
  go_wp2_with fail
  refine leaves_cons (f := 50) (args := #[.pointer (some ⟨p, 1, none⟩)]) (by simp) (by simp [go_sem]) ?_
  refine (unlock_deferred muLib ⟨p, 1, none⟩ .returning _ (R1.cell 1 _ rfl) (R1.frozen 1)).mono ?_
  rintro e u' w'' ⟨rfl, rfl, rfl⟩
  exact ⟨_, results_tmp2 rfl _ _ _, rfl, Reg.free R1 o1 o2 hap, T1.setCell (fun _ => rfl) _⟩
end
end Go.Proofs.YtgbcdjjnpadddaaGreatDoor



/- has: is a record in the book? -/
namespace Go.Proofs.YtgbcdjjnpadddaaGreatDoor
open Go.RowKit Go.Maps Go.MuLone
set_option linter.unusedVariables false
section
variable {w : World} {p br bt n : Nat} {D1 D2 : DataW Value}

/-- What a look-up of a record gives, in whatever world has the map. -/
theorem look86 (W : World) (h : W.ownsMap Tryz.prog 182 unitElem br n D1) (a : UInt64) (s : ByteArray) (hs : s.size ≤ maxLen) :
    (Instr.lookup 125 (.map (some br)) (recV a s) true).run Tryz.prog W = .ok (.tuple #[.agg #[], .bool (has D1 (recKey Tryz.prog a s))]) W := by
  obtain ⟨v, ps, hlook, hv⟩ := h.look_ok law86 Tryz.underlying125 (zero47 _) (zd := .agg []) (zp := []) unitElem_mk (recKey_of a s hs)
  obtain ⟨rfl, _⟩ := unitElem_inv hv
  exact hlook

set_option maxRecDepth 100000 in
set_option maxHeartbeats 2000000 in
theorem has32 (h : Reg w p br bt n D1 D2) (a : UInt64) (s : ByteArray) (hs : s.size ≤ maxLen) : Calls Tryz.prog 96 #[.pointer (some ⟨p, 0, none⟩), recV a s] w fun e w' =>
    e = .returned (.bool (has D1 (recKey Tryz.prog a s))) ∧ Reg w' p br bt n D1 D2 ∧ Turn (fun k => k = p) w w' := by
  have T0 : Turn no w (w.alloc (.cells #[.int .u64 a.toNat, .string s] 182)) := (Turn.refl no w).alloc _
  have h0 := h.turn T0 (fun q => q) (fun q => q) (fun q => q)
  have B0 := Row.new w #[.int .u64 a.toNat, .string s] 182
  have hbp : w.heap.size ≠ p := fun q => by have := Row.lt h.row; omega
  have hl := lock_free muLib ⟨p, 1, none⟩ _ h0.c1 h0.f1
  have R1 := h0.held
  have T1 := held_turn (w.alloc (.cells #[.int .u64 a.toNat, .string s] 182)) p
  have B1 := B0.turn T1 (fun q => hbp q)
  have n1 := h.ne1
  have n2 := h.ne2
  have o1 := ownsMap_turn h0.recs T1 (fun q => n1 q)
  have o2 := ownsMap_turn h0.texts T1 (fun q => n2 q)
  have T2 : Turn (fun k => k = p) w ((w.alloc (.cells #[.int .u64 a.toNat, .string s] 182)).setCell ⟨p, 1, none⟩ (.int .i32 1)) := (T0.of_no).trans T1 (fun _ _ q => q)
  have hap := h.apart
  have hk := fun W (hW : W.ownsMap Tryz.prog 182 unitElem br n D1) => look86 W hW a s hs
  generalize has D1 (recKey Tryz.prog a s) = B at *
  clear h h0 T0 T1 B0
  unfold recV at *
  go_enter_defers Tryz.func96, Tryz.ntmps96
  go_wp2_with fail
  refine hl.mono ?_
  rintro e w' ⟨rfl, rfl⟩
  go_wp2_with fail
  generalize (w.alloc (.cells #[.int .u64 a.toNat, .string s] 182)).setCell ⟨p, 1, none⟩ (.int .i32 1) = wr at *
  generalize w.heap.size = g at *
  refine wp_region_noPanic ?_
  refine wp_region_held_drew (S := fun W => Turn no wr W) (by kernel_rfl) (Turn.refl no wr).drew (fun hHeld => ?_)
  refine' wpAnyH_take (i := 0) (v := .pointer (some ⟨p, 0, none⟩)) rfl (by kernel_rfl) (by kernel_rfl) (by kernel_rfl) (fun _ _ _ h => h) (Or.inl ⟨by rfl, fun W hW => ?y1⟩) hHeld ?r1
  · go_simp
  refine' wpAnyH_take (i := 1) (v := .pointer (some ⟨p, 0, none⟩)) rfl (by kernel_rfl) (by kernel_rfl) (by kernel_rfl) (fun _ _ _ h => h) (Or.inl ⟨by rfl, fun W hW => ?y2⟩) hHeld ?r2
  · go_simp
  refine' wpAnyH_take (i := 2) (v := .pointer (some ⟨p, 3, none⟩)) rfl (by kernel_rfl) (by kernel_rfl) (by kernel_rfl) (fun _ _ _ h => h) (Or.inl ⟨by rfl, fun W hW => ?y3⟩) hHeld ?r3
  · go_simp
  refine' wpAnyH_take (i := 3) (v := .map (some br)) rfl (by kernel_rfl) (by kernel_rfl) (by kernel_rfl) (fun _ _ _ h => h) (Or.inl ⟨by rfl, fun W hW => ?y4⟩) hHeld ?r4
  · have c : W.cell? ⟨p, 3, none⟩ = some (.map (some br)) := (R1.turn hW (fun q => q)).cell 3 _ rfl
    go_simp
  refine' wpAnyH_take (i := 4) (v := .agg #[.int .u64 a.toNat, .string s]) rfl (by kernel_rfl) (by kernel_rfl) (by kernel_rfl) (fun _ _ _ h => h) (Or.inl ⟨by rfl, fun W hW => ?y5⟩) hHeld ?r5
  · have c : W.cell? ⟨g, 0, none⟩ = some (.int .u64 a.toNat) := (B1.turn hW (fun q => q)).cell 0 _ rfl
    have c' : W.cell? ⟨g, 1, none⟩ = some (.string s) := (B1.turn hW (fun q => q)).cell 1 _ rfl
    go_simp
  refine' wpAnyH_take (i := 5) (v := .tuple #[.agg #[], .bool B]) rfl (by kernel_rfl) (by kernel_rfl) (by kernel_rfl) (fun _ _ _ h => h) (Or.inl ⟨by rfl, fun W hW => ?y6⟩) hHeld ?r6
  · have c := hk W (ownsMap_turn o1 hW (fun q => q))
    go_simp
  refine' wpAnyH_take (i := 6) (v := .tuple #[.agg #[], .bool B]) rfl (by kernel_rfl) (by kernel_rfl) (by kernel_rfl) (fun _ _ _ h => h) (Or.inl ⟨by rfl, fun W hW => ?y7⟩) hHeld ?r7
  · go_simp
  refine' wpAnyH_take (i := 7) (v := .agg #[]) rfl (by kernel_rfl) (by kernel_rfl) (by kernel_rfl) (fun _ _ _ h => h) (Or.inl ⟨by rfl, fun W hW => ?y8⟩) hHeld ?r8
  · go_simp
  refine' wpAnyH_take (i := 8) (v := .bool B) rfl (by kernel_rfl) (by kernel_rfl) (by kernel_rfl) (fun _ _ _ h => h) (Or.inl ⟨by rfl, fun W hW => ?y9⟩) hHeld ?r9
  · go_simp
  refine wpAnyH_ready (rs := [9]) (by kernel_rfl) (by simp) ?_
  refine AllReadyH.cons rfl (fun K hK => ?_) AllReadyH.nil
  go_simp
  refine hK.out _ _ ((Turn.refl no wr).alloc _).drew (fun hHeld => ?_)
  clear hK
  refine wpAnyH_ready (rs := [10]) (by kernel_rfl) (by simp) ?_
  refine AllReadyH.cons rfl (fun K hK => ?_) AllReadyH.nil
  go_simp
  refine hK.out _ _ hHeld (fun hHeld => ?_)
  clear hK
  refine wpAnyH_ready (rs := [11]) (by kernel_rfl) (by simp) ?_
  refine AllReadyH.cons rfl (fun K hK => ?_) AllReadyH.nil
  go_simp
  refine hK.out _ _ hHeld (fun hHeld => ?_)
  clear hK
  refine wpAnyH_done (by kernel_rfl) ?_ _
  refine NoPanic.normal ?_
  have R2 := R1.turn hHeld (fun q => q)
  have o3 := ownsMap_turn o1 hHeld (fun q => q)
  have o4 := ownsMap_turn o2 hHeld (fun q => q)
  have T3 := T2.then_no hHeld
  generalize (wr.alloc (.cells #[] 127)).drew = w2 at *
  go_wp2_with fail
  refine leaves_cons (f := 50) (args := #[.pointer (some ⟨p, 1, none⟩)]) (by simp) (by simp [go_sem]) ?_
  refine (unlock_deferred muLib ⟨p, 1, none⟩ .returning _ (R2.cell 1 _ rfl) (R2.frozen 1)).mono ?_
  rintro e u' w'' ⟨rfl, rfl, rfl⟩
  exact ⟨_, results_tmp rfl _ _ _, rfl, Reg.free R2 o3 o4 hap, T3.setCell (fun _ => rfl) _⟩
end
end Go.Proofs.YtgbcdjjnpadddaaGreatDoor


